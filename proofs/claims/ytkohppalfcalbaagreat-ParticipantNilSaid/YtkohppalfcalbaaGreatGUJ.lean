/- Package participant: layer 14's live question. -/
import Derived.Test.YtkohppalfcalbaaGreatGUI
import Derived.Test.YtkohppalfcalbaaGreatGTA1
namespace Go.Proofs.YtkohppalfcalbaaGreat
open Go.RowKit Go.Maps

/-- the live question's shard -/
def al14A : Vw := ⟨upd (fun _ => none) 18 (some ([], false)), fun _ => [], 1, 0, 0⟩
def al14B : Vw := ⟨upd (upd (fun _ => none) 18 (some ([], false))) 18 (some ([([116], [107], [], false)], false)), fun _ => [], 1, 0, 0⟩
theorem rd_none {W : World} {B : Nat} : RdB W B none [] := fun e => absurd rfl e
theorem rd_k {w : World} : RdB (w.alloc (.cells #[.int .u8 107] 5 (1, 2))) (w.alloc (.cells #[.int .u8 107] 5 (1, 2))).heap.size (some ⟨w.heap.size, 0, none⟩) [107] := by
  have h1 : (w.alloc (.cells #[.int .u8 107] 5 (1, 2))).heap[w.heap.size]? = some (.cells #[.int .u8 107] 5 (1, 2)) := heap_alloc_new w _
  refine fun _ => ⟨_, rfl, by simp, fun j c hj => ?_⟩
  rw [add_plain, cell_of_row _ _ j _ _ (1, 2) h1]
  cases j with
  | zero => simp at hj; subst hj; rfl
  | succ j => simp at hj
/-- Put of the live question -/
theorem al14_put {w W : World} {p : PtS} (h : Pt w W p) (hv : p.v = al14A) : Calls Tryz.prog 13 #[.pointer (some ⟨p.c, 0, none⟩), .int .i64 18, .string ⟨#[116]⟩, .slice (some ⟨W.heap.size, 0, none⟩) 1 1, .slice none 0 0] (W.alloc (.cells #[.int .u8 107] 5 (1, 2))) (fun e W' => e = .returned (.int .i64 0) ∧ Pt w W' { p with v := al14B }) := by
  have h1 := h.below (alloc_below W (.cells #[.int .u8 107] 5 (1, 2)))
  have h2 := at_put h1.at_ (n := 18) (by unfold i64ok; omega) [116] [107] [] (some ⟨W.heap.size, 0, none⟩) none 1 1 0 0 rfl rfl (cs := []) (by rw [hv]; rfl) (by decide) (by decide) (by decide) rd_k rd_none (by decide)
  refine h2.mono fun e W' ht => ⟨ht.1, ?_⟩
  have h3 := h1.shard ht
  rw [hv] at h3
  exact h3
/-- Hear of the live question -/
theorem al14_hear {w W : World} {p : PtS} (h : Pt w W p) (hv : p.v = al14B) (hn : p.node = 1) (hD : p.D = []) (ho : p.ou = []) : Calls Tryz.prog 28 #[.pointer (some ⟨p.pb, 0, none⟩), .agg #[.int .i64 1, .int .i64 2, .int .i64 1, .int .i64 18, .slice (some ⟨W.heap.size, 0, none⟩) 2 2]] (W.alloc (.cells #[.int .i64 1, .int .i64 2] 3)) (fun e W' => e = .returned (.int .i64 0) ∧ ∃ p', p'.pb = p.pb ∧ Pt w W' p' ∧ p'.ou = [⟨2, 1, 2, 18⟩] ∧ p'.v.tx 18 = some ([([116], [107], [], false)], true)) := by
  have h1 := h.guard (L := W.heap.size) (alloc_below W (.cells #[.int .i64 1, .int .i64 2] 3)) (Nat.le_refl _) (by simp)
  have hx : (W.alloc (.cells #[.int .i64 1, .int .i64 2] 3)).heap[W.heap.size]? = some (.cells #[.int .i64 1, .int .i64 2] 3 (0, 0)) := heap_alloc_new W _
  obtain ⟨c0, c1⟩ := box2P hx
  have h2 := hear_yes h1 (f := 2) (n := 18) (ns := [1, 2]) (by omega) (by omega) (by show 0 ≤ p.node; omega) (by show p.node < 16; omega) (by decide) (by omega) (by omega) (cs := [([116], [107], [], false)]) (by show p.v.tx 18 = _; rw [hv]; rfl) (by simp) (by show p.v.nb + _ ≤ _; rw [hv]; decide) (by show p.D.length < _; rw [hD]; decide) (by show p.ou.length < _; rw [ho]; decide) (b := W.heap.size) (o := 0) (N := 2) (cap := 2) rfl (by omega) (by omega) (.inl (.inr rfl)) (by simp) (fun j x hj => by
    match j with
    | 0 => simp at hj; subst hj; exact c0
    | 1 => simp at hj; subst hj; exact c1
    | j + 2 => simp at hj)
  have e1 : ({ p with Q := fun k => p.Q k ∨ k = W.heap.size } : PtS).node = 1 := hn
  rw [e1] at h2
  refine h2.mono fun e W' ht => ?_
  obtain ⟨rfl, _, ⟨d, Q', g', v', h3⟩, _⟩ := ht
  refine ⟨rfl, _, ?_, h3, ?_, ?_⟩
  · rfl
  · show p.ou ++ _ = _
    rw [ho]
    rfl
  · show upd p.v.tx 18 (some ([([116], [107], [], false)], true)) 18 = _
    exact if_pos rfl
/-- Out of the live question, and what is known behind it -/
theorem al14_out {w W : World} {p : PtS} (h : Pt w W p) (ho : p.ou = [⟨2, 1, 2, 18⟩]) (hv : p.v.tx 18 = some ([([116], [107], [], false)], true)) : Calls Tryz.prog 34 #[.pointer (some ⟨p.pb, 0, none⟩)] W (fun e W' => ∃ g o cap, e = .returned (.slice (some ⟨g, o, none⟩) 1 cap) ∧ W'.cell? ⟨g, o, none⟩ = some (.int .i64 2) ∧ W'.cell? ⟨g, o + 2, none⟩ = some (.int .i64 2) ∧ Below w.heap.size w W' ∧ Calls Tryz.prog 29 #[.pointer (some ⟨p.pb, 0, none⟩), .int .i64 18] W' (Looks (.int .i64 2) W')) := by
  refine (outs_any h).mono fun e W' ht => ?_
  obtain ⟨rfl, h7, hh⟩ := ht
  rw [ho] at hh
  rcases hh with ⟨_, e8, _⟩ | ⟨_, o7, c7, hvu, ho7⟩
  · cases e8
  have y0 := ho7.cell 0 (.int .i64 2) rfl
  have y2 := ho7.cell 2 (.int .i64 2) rfl
  have hkn := known_any h7 (n := 18) (by unfold i64ok; omega)
  have e2 : stV { p with ug := p.pb, ou := [], vu := .slice none 0 0 } 18 = 2 := by
    unfold stV bkV
    simp only [hv]
    rfl
  rw [e2] at hkn
  exact ⟨_, _, _, by rw [hvu]; rfl, y0, y2, h7.at_.bel, hkn⟩
set_option maxRecDepth 100000 in
set_option maxHeartbeats 8000000 in
theorem alive14_any (w : World) : Calls Tryz.prog 26 #[] w (Ans (.bool true) w) := by
  have HNW := Lib.hid (new_any w)
  have hnil : ∀ (w : World) (a : Option Addr), (binOp .eql 50 (.pointer a) (.pointer none)).run Tryz.prog w = .ok (.bool a.isNone) w := fun w a => by cases a <;> rfl
  have kc := fun (w : World) (C : Array Value) (n c : Nat) => Lib.run_convert_bytes_const (P := Tryz.prog) w 22 5 C n c Tryz.underlying22 Tryz.underlying5
  go_enter Tryz.func26, Tryz.ntmps26
  go_wp2_with (first
    | (go_at_call 25; refine HNW.out.mono ?_; rintro e w1 ⟨p, rfl, hd, hb⟩
       have HOP := Lib.hid (at_open hd hb)
       clear hd hb)
    | (go_at_call 9; refine HOP.out.mono ?_; rintro e w2 ⟨c, rfl, ha⟩
       have HNP := Lib.hid (newP_any ha (node := 1) (by omega) (by omega))
       clear ha)
    | (go_at_call 27; refine HNP.out.mono ?_; rintro e w3 ⟨rfl, hp⟩
       have hpt := hp
       generalize hP : newPt w2 c 1 ⟨fun _ => none, fun _ => [], 0, 0, 0⟩ = P at hpt ⊢
       have hPc : P.c = c := by rw [← hP]; rfl
       have hP9 : P.node = 1 ∧ P.D = [] ∧ P.ou = [] ∧ P.v = ⟨fun _ => none, fun _ => [], 0, 0, 0⟩ := by rw [← hP]; exact ⟨rfl, rfl, rfl, rfl⟩
       have HP9 := Lib.hid hP9
       have HPT := Lib.hid hpt
       have hbg := at_begin hpt.at_ (n := 18) (by omega) (by omega) (by rw [hP9.2.2.2]) (by rw [hP9.2.2.2]; decide)
       rw [hPc] at hbg
       have HBG := Lib.hid hbg
       have HPC := Lib.hid hPc
       generalize hpb : P.pb = pb
       have HPB := Lib.hid hpb
       clear hp hP hPc hpt hP9 hbg hpb)
    | (go_at_call 12; refine HBG.out.mono ?_; rintro e w4 ht
       obtain rfl := id ht.1
       have h4 := HPT.out.shard (by rw [HPC.out]; exact ht)
       have hv4 : ({ P with v := ⟨upd P.v.tx 18 (some ([], false)), P.v.V, P.v.nT + 1, P.v.nS, P.v.nb⟩ } : PtS).v = al14A := by rw [HP9.out.2.2.2]; rfl
       have hput := al14_put h4 hv4
       have e9 : ({ P with v := ⟨upd P.v.tx 18 (some ([], false)), P.v.V, P.v.nT + 1, P.v.nS, P.v.nb⟩ } : PtS).c = c := HPC.out
       rw [e9] at hput
       have HPU := Lib.hid hput
       clear ht h4 hv4 hput e9)
    | (go_at_call 13; refine HPU.out.mono ?_; rintro e w5 ⟨rfl, hp⟩
       have hhe := al14_hear hp rfl HP9.out.1 HP9.out.2.1 HP9.out.2.2.1
       have e9 : P.pb = pb := HPB.out
       simp only [e9] at hhe
       have HHE := Lib.hid hhe
       clear hp hhe e9)
    | (go_at_call 28; refine HHE.out.mono ?_; rintro e w6 ⟨rfl, p6, hpb6, h6, ho6, hv6⟩
       have hou := al14_out h6 ho6 hv6
       rw [hpb6] at hou
       have HOU := Lib.hid hou
       clear hpb6 h6 ho6 hv6 hou)
    | (go_at_call 34; refine HOU.out.mono ?_; rintro e w7 ⟨g7, o7, c7, rfl, y0, y2, hbw, hkn⟩
       have HKN := Lib.hid hkn
       have HEND := Lib.hid hbw
       clear hbw hkn)
    | (go_at_call 29; refine HKN.out.mono ?_; rintro e w8 ⟨rfl, rfl⟩))
  go_ret
  exact ⟨rfl, HEND.out⟩
end Go.Proofs.YtkohppalfcalbaaGreat

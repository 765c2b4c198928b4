/- Package participant: state, closed, Known, Out. -/
import Derived.Test.YtkohppalfcalbaaGreatGUA
namespace Go.Proofs.YtkohppalfcalbaaGreat
open Go.RowKit Go.Maps

theorem box7P {w : World} {b : Nat} {x0 x1 x2 x3 x4 x5 x6 : Value} {t : TypeId} {fr : Nat × Nat} (h : w.heap[b]? = some (.cells #[x0, x1, x2, x3, x4, x5, x6] t fr)) : w.cell? ⟨b, 0, none⟩ = some x0 ∧ w.cell? ⟨b, 1, none⟩ = some x1 ∧ w.cell? ⟨b, 2, none⟩ = some x2 ∧ w.cell? ⟨b, 3, none⟩ = some x3 ∧ w.cell? ⟨b, 4, none⟩ = some x4 ∧ w.cell? ⟨b, 5, none⟩ = some x5 ∧ w.cell? ⟨b, 6, none⟩ = some x6 := by
  simp [World.cell?, h]
/-- what is known of a transaction -/
noncomputable def stV (p : PtS) (n : Int) : Int := if bkV p.v n = 101 then atM endW p.E n else if bkV p.v n = 102 then 2 else 1
theorem bkV_cases (v : Vw) (n : Int) : bkV v n = 101 ∨ bkV v n = 102 ∨ bkV v n = 1 := by
  unfold bkV
  split <;> simp
set_option maxRecDepth 100000 in
theorem closed_p {w W : World} {p : PtS} (h : Pt w W p) : Calls Tryz.prog 63 #[.pointer (some ⟨p.pb, 0, none⟩)] W (Looks (.bool false) W) := by
  obtain ⟨c0, _⟩ := box7P h.box
  have hp : ∀ (w : World) (a : Option Addr), (binOp .eql 50 (.pointer a) (.pointer none)).run Tryz.prog w = .ok (.bool a.isNone) w := fun w a => by cases a <;> rfl
  have hs : ∀ (w : World) (a : Option Addr), (binOp .eql 25 (.pointer a) (.pointer none)).run Tryz.prog w = .ok (.bool a.isNone) w := fun w a => by cases a <;> rfl
  go_enter Tryz.func63, Tryz.ntmps63
  go_wp2_with fail
  go_ret
  exact ⟨rfl, rfl⟩
set_option maxRecDepth 100000 in
set_option maxHeartbeats 4000000 in
theorem state_any {w W : World} {p : PtS} (h : Pt w W p) {n : Int} (hn : i64ok n) : Calls Tryz.prog 67 #[.pointer (some ⟨p.pb, 0, none⟩), .int .i64 n] W (Looks (.int .i64 (stV p n)) W) := by
  obtain ⟨c0, c1, c2, c3, c4, c5, c6⟩ := box7P h.box
  have HBK := Lib.hid (at_back h.at_ hn)
  have hlk := h.me.look end_good (x := n) hn
  obtain ⟨z, hz⟩ : ∃ z, atM endW p.E n = z := ⟨_, rfl⟩
  obtain ⟨b, hb⟩ : ∃ b, bkV p.v n = b := ⟨_, rfl⟩
  have hcs := bkV_cases p.v n
  rw [hb] at HBK hcs
  have hst : stV p n = if b = 101 then z else if b = 102 then 2 else 1 := by unfold stV; rw [hb, hz]
  rw [hst]
  rw [hz] at hlk
  have HLK : Hid ((Instr.lookup 116 (.map (some p.em)) (.int .i64 n) false).run Tryz.prog W = .ok (.int .i64 z) W) := Lib.hid hlk
  clear hlk hz hb hst h hn c1 c2 c3 c5 c6
  generalize p.pb = pb at *
  generalize p.c = c at *
  generalize p.em = em at *
  rcases hcs with rfl | rfl | rfl
  · have hlk := HLK.out
    go_enter Tryz.func67, Tryz.ntmps67
    go_wp2_with (go_at_call 15; refine HBK.out.mono ?_; rintro e w9 ⟨rfl, rfl⟩)
    go_ret
    exact ⟨rfl, rfl⟩
  · go_enter Tryz.func67, Tryz.ntmps67
    go_wp2_with (go_at_call 15; refine HBK.out.mono ?_; rintro e w9 ⟨rfl, rfl⟩)
    go_ret
    exact ⟨rfl, rfl⟩
  · go_enter Tryz.func67, Tryz.ntmps67
    go_wp2_with (go_at_call 15; refine HBK.out.mono ?_; rintro e w9 ⟨rfl, rfl⟩)
    go_ret
    exact ⟨rfl, rfl⟩
set_option maxRecDepth 100000 in
theorem known_any {w W : World} {p : PtS} (h : Pt w W p) {n : Int} (hn : i64ok n) : Calls Tryz.prog 29 #[.pointer (some ⟨p.pb, 0, none⟩), .int .i64 n] W (Looks (.int .i64 (stV p n)) W) := by
  have HCL := Lib.hid (closed_p h)
  have HST := Lib.hid (state_any h hn)
  clear h hn
  generalize stV p n = z at *
  generalize p.pb = pb at *
  go_enter Tryz.func29, Tryz.ntmps29
  go_wp2_with (first
    | (go_at_call 63; refine HCL.out.mono ?_; rintro e w9 ⟨rfl, rfl⟩)
    | (go_at_call 67; refine HST.out.mono ?_; rintro e w9 ⟨rfl, rfl⟩))
  go_ret
  exact ⟨rfl, rfl⟩
theorem Pt.outs {w W : World} {p : PtS} (h : Pt w W p) : Pt w (W.setCell ⟨p.pb, 6, none⟩ (.slice none 0 0)) { p with ug := p.pb, ou := [], vu := .slice none 0 0 } := by
  have hO := Only.set W p.pb 6 (.slice none 0 0)
  have hq := h.pbq
  refine ⟨(h.at_.turn hO fun k hk => .inl hk).fewer fun k hk => .inl ?_, ?_, h.md.kept (hO.block _ h.md.lt fun e => hq.1 e.symm), h.me.kept (hO.block _ h.me.lt fun e => hq.2 e.symm), ?_, .inl ⟨rfl, rfl, rfl, rfl⟩, h.ne, h.go, hq, fun e => e, fun k hk => ?_, fun e he => (h.dk e he).keep (fun k hk => hO.block k (h.lt k (.inr (.inr (.inr (.inr (.inr hk)))))) (h.nq k hk).1) fun _ => id⟩
  · rcases hk with e | e | e | e | e | e
    · exact .inl e
    · exact .inr (.inl e)
    · exact .inr (.inr (.inl e))
    · exact .inr (.inr (.inr (.inl e)))
    · exact .inl e
    · exact .inr (.inr (.inr (.inr (.inr e))))
  · have hb := h.box
    simp [World.setCell, Array.getElem?_modify, hb]
  · exact h.ro.only hO fun hn e => hn e
  · have := h.nq k hk
    exact ⟨this.1, this.2.1, this.2.2.1, this.2.2.2.1, this.1⟩
set_option maxRecDepth 100000 in
theorem outs_any {w W : World} {p : PtS} (h : Pt w W p) : Calls Tryz.prog 34 #[.pointer (some ⟨p.pb, 0, none⟩)] W (fun e W' => e = .returned p.vu ∧ Pt w W' { p with ug := p.pb, ou := [], vu := .slice none 0 0 } ∧ HeldC W' p.pb p.ug 5 p.vu p.ou.length (loV p.ou)) := by
  obtain ⟨c0, c1, c2, c3, c4, c5, c6⟩ := box7P h.box
  have q6 := frz h.box 6
  have HCL := Lib.hid (closed_p h)
  have HEND := Lib.hid (And.intro h.outs (h.ru.only (Only.set W p.pb 6 (.slice none 0 0)) fun hn e => hn e))
  clear h c0 c1 c2 c3 c4 c5
  go_enter Tryz.func34, Tryz.ntmps34
  go_wp2_with (go_at_call 63; refine HCL.out.mono ?_; rintro e w9 ⟨rfl, rfl⟩)
  go_ret
  exact ⟨rfl, HEND.out⟩
end Go.Proofs.YtkohppalfcalbaaGreat

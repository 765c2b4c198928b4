/- CoordinatorStops: the law's own body answers true. -/
import Derived.Test.YtajcmkhkknofgaaOY
namespace Go.Proofs.Ytajcmkhkknofgaa
open Go.RowKit

theorem putT_one (x s a o y t s' a' o' y' t' : Nat) : putT [⟨x, s, a, o, y, t⟩] ⟨x, s', a', o', y', t'⟩ = [⟨x, s', a', o', y', t'⟩] := by simp [putT, dropT]
theorem dropT_one (x s a o y t : Nat) : dropT [⟨x, s, a, o, y, t⟩] x = [] := by simp [dropT]
/-- at the head of the votes' loop -/
def StL (w0 : World) (B c nd vn : Nat) (v13 : Value) (wr : World) : Prop := ∃ (i : Nat) (S : CoS), v13 = .int .i64 (i : Int) ∧ i ≤ vn ∧ i ≤ 60 ∧ Co wr B S ∧ S.c = c ∧ S.node = nd ∧ S.T = [] ∧ S.os = [] ∧ Below B w0 wr
theorem findT_one (x s a o y t : Nat) : findT [⟨x, s, a, o, y, t⟩] x = some ⟨x, s, a, o, y, t⟩ := by simp [findT]
set_option maxRecDepth 100000 in
set_option maxHeartbeats 16000000 in
theorem stops_bad (node : Int) (hbad : node < 0 ∨ 16 ≤ node) (NA : Option Addr) (nn nc : Nat) (VA : Option Addr) (vn vc : Nat) (keep : Int) (stop : Bool) (w : World) :
    Calls Try.prog 5 #[.int .i64 node, .agg #[.slice NA nn nc, .slice VA vn vc, .int .i64 keep], .bool stop] w (Ans (.bool true) w) := by
  have hnil : ∀ (w : World) (a : Option Addr), (binOp .eql 28 (.pointer a) (.pointer none)).run Try.prog w = .ok (.bool a.isNone) w := fun w a => by cases a <;> rfl
  have hbw := alloc_below w (.cells #[.slice NA nn nc, .slice VA vn vc, .int .i64 keep] 25)
  have hxb := heap_alloc_new w (.cells #[.slice NA nn nc, .slice VA vn vc, .int .i64 keep] 25)
  have HBW := Lib.hid hbw
  have HXB : Hid (∀ W, Below (w.alloc (.cells #[.slice NA nn nc, .slice VA vn vc, .int .i64 keep] 25)).heap.size (w.alloc (.cells #[.slice NA nn nc, .slice VA vn vc, .int .i64 keep] 25)) W → W.cell? ⟨w.heap.size, 0, none⟩ = some (.slice NA nn nc) ∧ W.cell? ⟨w.heap.size, 1, none⟩ = some (.slice VA vn vc)) := Lib.hid fun W hb => by
    have h := (hb.block w.heap.size (by simp)).trans hxb
    simp [World.cell?, h]
  have HBAD := Lib.hid hbad
  clear hbw hxb hbad
  go_enter Try.func5, Try.ntmps5
  go_wp2_with (first
    | (go_at_call 6; refine (new_any _).mono ?_; rintro e w1 ⟨p, rfl, hd, hb⟩
       have HD := Lib.hid hd
       have HB1 := Lib.hid hb
       obtain ⟨c0, c1⟩ := HXB.out _ hb
       clear hd hb)
    | (go_at_call 7; refine (Open_bad p node HBAD.out _).mono ?_; unfold OpN; rintro e w2 ⟨rfl, rfl⟩)
    | (go_at_call 8; refine (alive13_any _).mono ?_; rintro e wz ⟨rfl, hb⟩
       have HE := Lib.hid (HBW.out.trans (((HB1.out).trans (hb.mono (Below.size (HB1.out)))).mono HBW.out.size))
       clear hb))
  go_ret
  exact ⟨rfl, HE.out⟩
set_option maxRecDepth 100000 in
set_option maxHeartbeats 16000000 in
theorem stops_long {nd : Nat} (hnd : nd < 16) (NA : Option Addr) (nn nc : Nat) (VA : Option Addr) (vn vc : Nat) (keep : Int) (stop : Bool) (w : World) (hlong : 60 < nn) (hnm : nn ≤ maxLen) :
    Calls Try.prog 5 #[.int .i64 (nd : Int), .agg #[.slice NA nn nc, .slice VA vn vc, .int .i64 keep], .bool stop] w (Ans (.bool true) w) := by
  have hnil : ∀ (w : World) (a : Option Addr), (binOp .eql 28 (.pointer a) (.pointer none)).run Try.prog w = .ok (.bool a.isNone) w := fun w a => by cases a <;> rfl
  have hbw := alloc_below w (.cells #[.slice NA nn nc, .slice VA vn vc, .int .i64 keep] 25)
  have hxb := heap_alloc_new w (.cells #[.slice NA nn nc, .slice VA vn vc, .int .i64 keep] 25)
  have HBW := Lib.hid hbw
  have HXB : Hid (∀ W, Below (w.alloc (.cells #[.slice NA nn nc, .slice VA vn vc, .int .i64 keep] 25)).heap.size (w.alloc (.cells #[.slice NA nn nc, .slice VA vn vc, .int .i64 keep] 25)) W → W.cell? ⟨w.heap.size, 0, none⟩ = some (.slice NA nn nc) ∧ W.cell? ⟨w.heap.size, 1, none⟩ = some (.slice VA vn vc)) := Lib.hid fun W hb => by
    have h := (hb.block w.heap.size (by simp)).trans hxb
    simp [World.cell?, h]
  have HND := Lib.hid hnd
  have hl : (60 : Int) < (nn : Int) := by omega
  have hni : (nn : Int) ≤ 9223372036854775807 := by unfold maxLen at hnm; omega
  clear hbw hxb hnd hlong hnm
  go_enter Try.func5, Try.ntmps5
  go_wp2_with (first
    | (go_at_call 6; refine (new_any _).mono ?_; rintro e w1 ⟨p, rfl, hd, hb⟩
       have HD := Lib.hid hd
       have HB1 := Lib.hid hb
       obtain ⟨c0, c1⟩ := HXB.out _ hb
       clear hd hb)
    | (go_at_call 7; refine (Open_fresh HD.out (Below.size HB1.out) HND.out).mono ?_; rintro e w2 ⟨S, rfl, hc, hn, hi, hcn, ht, hT, hv, hos, _, _, _, hO⟩
       obtain ⟨c, node, inc, cnt, tks, q, p', g, d, b, s, pre, rs, m, T, ov, os⟩ := S
       simp only at hn hi hcn ht hT hv hos
       have hn2 := hn.symm
       clear hn
       subst hn2 hi hcn ht hT hv hos
       have HC := Lib.hid hc
       have HB2 := Lib.hid (HD.out.belPG hO HB1.out)
       clear c0 c1
       obtain ⟨c0, c1⟩ := HXB.out _ HB2.out
       clear hc hO)
    | (go_at_call 8; refine (alive13_any _).mono ?_; rintro e wz ⟨rfl, hb⟩
       have HE := Lib.hid (HBW.out.trans (((HB2.out).trans (hb.mono (Below.size (HB2.out)))).mono HBW.out.size))
       clear hb))
  go_ret
  exact ⟨rfl, HE.out⟩
set_option maxRecDepth 100000 in
set_option maxHeartbeats 16000000 in
theorem stops_arg {nd : Nat} (hnd : nd < 16) (ns : List Int) (NA : Option Addr) (nn nc : Nat) (VA : Option Addr) (vn vc : Nat) (keep : Int) (stop : Bool) (w : World) (hnn : nn ≤ 60) (hn : ns.length = nn) (hu : upN (-1) ns = false ∨ ns = []) (hr : RdI w w.heap.size NA ns) :
    Calls Try.prog 5 #[.int .i64 (nd : Int), .agg #[.slice NA nn nc, .slice VA vn vc, .int .i64 keep], .bool stop] w (Ans (.bool true) w) := by
  have hnil : ∀ (w : World) (a : Option Addr), (binOp .eql 28 (.pointer a) (.pointer none)).run Try.prog w = .ok (.bool a.isNone) w := fun w a => by cases a <;> rfl
  have hbw := alloc_below w (.cells #[.slice NA nn nc, .slice VA vn vc, .int .i64 keep] 25)
  have hxb := heap_alloc_new w (.cells #[.slice NA nn nc, .slice VA vn vc, .int .i64 keep] 25)
  have HBW := Lib.hid hbw
  have HXB : Hid (∀ W, Below (w.alloc (.cells #[.slice NA nn nc, .slice VA vn vc, .int .i64 keep] 25)).heap.size (w.alloc (.cells #[.slice NA nn nc, .slice VA vn vc, .int .i64 keep] 25)) W → W.cell? ⟨w.heap.size, 0, none⟩ = some (.slice NA nn nc) ∧ W.cell? ⟨w.heap.size, 1, none⟩ = some (.slice VA vn vc)) := Lib.hid fun W hb => by
    have h := (hb.block w.heap.size (by simp)).trans hxb
    simp [World.cell?, h]
  have HND := Lib.hid hnd
  have HU := Lib.hid hu
  have HN := Lib.hid hn
  have HNN := Lib.hid hnn
  have hl : ¬ (60 : Int) < (nn : Int) := by omega
  have hni : (nn : Int) ≤ 60 := by omega
  have HR : Hid (∀ W, Below (w.alloc (.cells #[.slice NA nn nc, .slice VA vn vc, .int .i64 keep] 25)).heap.size (w.alloc (.cells #[.slice NA nn nc, .slice VA vn vc, .int .i64 keep] 25)) W → RdI W W.heap.size NA ns) := Lib.hid fun W hb => by
    have h2 := hbw.trans (hb.mono hbw.size)
    exact (hr.below h2 (Nat.le_refl _)).more h2.size
  clear hbw hxb hnd hu hn hnn hr
  go_enter Try.func5, Try.ntmps5
  go_wp2_with (first
    | (go_at_call 6; refine (new_any _).mono ?_; rintro e w1 ⟨p, rfl, hd, hb⟩
       have HD := Lib.hid hd
       have HB1 := Lib.hid hb
       obtain ⟨c0, c1⟩ := HXB.out _ hb
       clear hd hb)
    | (go_at_call 7; refine (Open_fresh HD.out (Below.size HB1.out) HND.out).mono ?_; rintro e w2 ⟨S, rfl, hc, hn, hi, hcn, ht, hT, hv, hos, _, _, _, hO⟩
       obtain ⟨c, node, inc, cnt, tks, q, p', g, d, b, s, pre, rs, m, T, ov, os⟩ := S
       simp only at hn hi hcn ht hT hv hos
       have hn2 := hn.symm
       clear hn
       subst hn2 hi hcn ht hT hv hos
       have HC := Lib.hid hc
       have HB2 := Lib.hid (HD.out.belPG hO HB1.out)
       clear c0 c1
       obtain ⟨c0, c1⟩ := HXB.out _ HB2.out
       clear hc hO)
    | (go_at_call 9; refine (begin_fresh HC.out rfl rfl rfl).mono ?_; rintro e w3 ⟨rfl, hc3, hO3⟩
       have HC3 := Lib.hid hc3
       have HB3 := Lib.hid (HC.out.belCM hO3 HB2.out)
       clear c0 c1
       obtain ⟨c0, c1⟩ := HXB.out _ HB3.out
       clear hc3 hO3)
    | (go_at_call 10; refine (ask_arg HC3.out (x := nd) (by have := HND.out; unfold i64ok; omega) (findT_one nd 1 0 0 0 0) rfl ns HU.out NA nn nc HN.out (by have := HNN.out; omega) (HR.out _ HB3.out)).mono ?_; rintro e w4 ⟨rfl, hb⟩
       have HB4 := Lib.hid (HB3.out.trans (hb.mono HB3.out.size))
       clear hb)
    | (go_at_call 8; refine (alive13_any _).mono ?_; rintro e wz ⟨rfl, hb⟩
       have HE := Lib.hid (HBW.out.trans (((HB4.out).trans (hb.mono (Below.size (HB4.out)))).mono HBW.out.size))
       clear hb))
  go_ret
  exact ⟨rfl, HE.out⟩
set_option maxRecDepth 100000 in
set_option maxHeartbeats 64000000 in
theorem stops_true {nd : Nat} (hnd : nd < 16) (ns : List Int) (vs : List Vt) (NA : Option Addr) (nn nc : Nat) (VA : Option Addr) (vn vc : Nat) (keep : Int) (w : World) (hnn : nn ≤ 60) (hn : ns.length = nn) (hu : upN (-1) ns = true) (hne : ns ≠ []) (hvn : vs.length = vn) (hvm : vn ≤ maxLen) (hr : RdI w w.heap.size NA ns) (hrv : RdVt w w.heap.size VA vs) (hvo : ∀ x ∈ vs, i64ok x.n ∧ i64ok x.k) :
    Calls Try.prog 5 #[.int .i64 (nd : Int), .agg #[.slice NA nn nc, .slice VA vn vc, .int .i64 keep], .bool true] w (Ans (.bool true) w) := by
  have hnil : ∀ (w : World) (a : Option Addr), (binOp .eql 28 (.pointer a) (.pointer none)).run Try.prog w = .ok (.bool a.isNone) w := fun w a => by cases a <;> rfl
  have hbw := alloc_below w (.cells #[.slice NA nn nc, .slice VA vn vc, .int .i64 keep] 25)
  have hxb := heap_alloc_new w (.cells #[.slice NA nn nc, .slice VA vn vc, .int .i64 keep] 25)
  have HBW := Lib.hid hbw
  have HXB : Hid (∀ W, Below (w.alloc (.cells #[.slice NA nn nc, .slice VA vn vc, .int .i64 keep] 25)).heap.size (w.alloc (.cells #[.slice NA nn nc, .slice VA vn vc, .int .i64 keep] 25)) W → W.cell? ⟨w.heap.size, 0, none⟩ = some (.slice NA nn nc) ∧ W.cell? ⟨w.heap.size, 1, none⟩ = some (.slice VA vn vc)) := Lib.hid fun W hb => by
    have h := (hb.block w.heap.size (by simp)).trans hxb
    simp [World.cell?, h]
  have HND := Lib.hid hnd
  have HU := Lib.hid hu
  have HN := Lib.hid hn
  have HNE := Lib.hid hne
  have HNN := Lib.hid hnn
  have HVN := Lib.hid hvn
  have HVO := Lib.hid hvo
  have hl : ¬ (60 : Int) < (nn : Int) := by omega
  have hni : (nn : Int) ≤ 60 := by omega
  have hvi : (vn : Int) ≤ 9223372036854775807 := by unfold maxLen at hvm; omega
  have hneq : ∀ z : Int, (z != z) = false := fun z => by simp
  have HR : Hid (∀ W, Below (w.alloc (.cells #[.slice NA nn nc, .slice VA vn vc, .int .i64 keep] 25)).heap.size (w.alloc (.cells #[.slice NA nn nc, .slice VA vn vc, .int .i64 keep] 25)) W → RdI W W.heap.size NA ns) := Lib.hid fun W hb => by
    have h2 := hbw.trans (hb.mono hbw.size)
    exact (hr.below h2 (Nat.le_refl _)).more h2.size
  have HRV : Hid (∀ W, Below (w.alloc (.cells #[.slice NA nn nc, .slice VA vn vc, .int .i64 keep] 25)).heap.size (w.alloc (.cells #[.slice NA nn nc, .slice VA vn vc, .int .i64 keep] 25)) W → ∀ j x, vs[j]? = some x → ∃ b o, VA = some ⟨b, o, none⟩ ∧ W.cell? ⟨b, o + j * 3, none⟩ = some (.int .i64 x.n) ∧ W.cell? ⟨b, o + j * 3 + 1, none⟩ = some (.int .i64 x.k) ∧ W.cell? ⟨b, o + j * 3 + 2, none⟩ = some (.bool x.p)) := Lib.hid fun W hb j x hx => hrv.at_ hx (hbw.trans (hb.mono hbw.size)) (Nat.le_refl _)
  have HM : Hid (orB 0 ns < 65536) := Lib.hid (or_lt (by omega) hu (by decide))
  have HNO : Hid (nodesI (orB 0 ns) = ns) := Lib.hid (nodes_or hu)
  clear hbw hxb hnd hu hn hne hnn hr hrv hvn hvm hvo
  go_enter Try.func5, Try.ntmps5
  go_upto_region 16 with (first
    | (go_at_call 6; refine (new_any _).mono ?_; rintro e w1 ⟨p, rfl, hd, hb⟩
       have HD := Lib.hid hd
       have HB1 := Lib.hid hb
       obtain ⟨c0, c1⟩ := HXB.out _ hb
       clear hd hb)
    | (go_at_call 7; refine (Open_fresh HD.out (Below.size HB1.out) HND.out).mono ?_; rintro e w2 ⟨S, rfl, hc, hn, hi, hcn, ht, hT, hv, hos, _, _, _, hO⟩
       obtain ⟨c, node, inc, cnt, tks, q, p', g, d, b, s, pre, rs, m, T, ov, os⟩ := S
       simp only at hn hi hcn ht hT hv hos
       have hn2 := hn.symm
       clear hn
       subst hn2 hi hcn ht hT hv hos
       have HC := Lib.hid hc
       have HB2 := Lib.hid (HD.out.belPG hO HB1.out)
       clear c0 c1
       obtain ⟨c0, c1⟩ := HXB.out _ HB2.out
       clear hc hO)
    | (go_at_call 9; refine (begin_fresh HC.out rfl rfl rfl).mono ?_; rintro e w3 ⟨rfl, hc3, hO3⟩
       have HC3 := Lib.hid hc3
       have HB3 := Lib.hid (HC.out.belCM hO3 HB2.out)
       clear c0 c1
       obtain ⟨c0, c1⟩ := HXB.out _ HB3.out
       clear hc3 hO3)
    | (go_at_call 10; refine (ask_yes HC3.out (x := nd) (by have := HND.out; unfold i64ok; omega) (findT_one nd 1 0 0 0 0) rfl ns HU.out HNE.out NA nn nc HN.out (HR.out _ HB3.out) (by show 1 < 1000; omega) (by simp)).mono ?_; rintro e w4 ⟨rfl, v4, os4, hc4, hcr4, hfr4⟩
       simp only [putT_one] at hc4
       have HB4 := Lib.hid (hfr4.below HC3.out HB3.out)
       have HC4 := Lib.hid hc4
       clear c0 c1
       obtain ⟨c0, c1⟩ := HXB.out _ HB4.out
       clear hc4 hcr4 hfr4)
    | (go_at_call 12; have _t := HC6; refine (out_any HC6.out).mono ?_; rintro e w7 ⟨rfl, hc7, ho7, hO7⟩
       have HC7 := Lib.hid hc7
       have HB7 := Lib.hid (HC6.out.belC hO7 HB6.out)
       obtain ⟨AV7, cV7, hv7, hl7⟩ := id ho7.2
       clear c0 c1
       obtain ⟨c0, c1⟩ := HXB.out _ HB7.out
       simp only at hv7
       subst hv7
       have hlo : (([] : List Le) ++ os6).length = nn := by rw [List.nil_append]; exact HL6.out
       simp only [hlo]
       have HST : Hid (Calls Try.prog 11 #[.pointer (some ⟨c, 0, none⟩), .int .i64 (nd : Int)] w7 (LooksL (.int .i64 0) w7)) := Lib.hid (state_any hc7 (x := nd) (by have := HND.out; unfold i64ok; omega))
       clear hc7 hO7 _t)
    | (go_at_call 20; refine (stop_yes HC5.out (x := nd) (by have := HND.out; unfold i64ok; omega) (findT_one nd 2 _ _ 0 0) (.inr rfl) HM.out (by simp)).mono ?_; rintro e w6 ⟨rfl, hl6⟩
       have HB6 := Lib.hid (hl6.bel HC5.out HB5.out)
       obtain ⟨v6, os6, hc6, hcr6, _⟩ := hl6
       simp only [dropT_one] at hc6
       have HC6 := Lib.hid hc6
       have HL6 : Hid (os6.length = nn) := Lib.hid (by
         have h9 := congrArg List.length hcr6
         rw [HNO.out] at h9
         simpa [coreL, HN.out] using h9)
       clear c0 c1
       obtain ⟨c0, c1⟩ := HXB.out _ HB6.out
       clear hc6 hcr6)
    | (go_at_call 12; have _t := HC4; refine (out_any HC4.out).mono ?_; rintro e w5 ⟨rfl, hc5, ho5, hO5⟩
       have HC5 := Lib.hid hc5
       have HB5 := Lib.hid (HC4.out.belC hO5 HB4.out)
       obtain ⟨AV5, cV5, hv5, hl5⟩ := id ho5.2
       clear c0 c1
       obtain ⟨c0, c1⟩ := HXB.out _ HB5.out
       clear hc5 hO5 _t))
  go_wp2_with (go_at_call 11; refine HST.out.mono ?_; rintro e w8 ⟨rfl, rfl⟩)
  go_loopw [13] (fun v13 wr => StL (w.alloc (.cells #[.slice NA nn nc, .slice VA vn vc, .int .i64 keep] 25)) (w.alloc (.cells #[.slice NA nn nc, .slice VA vn vc, .int .i64 keep] 25)).heap.size c nd vn v13 wr) (fun v13 _ => vn - (intOf v13).toNat)
  case atStart => exact ⟨0, _, rfl, Nat.zero_le _, Nat.zero_le _, HC7.out, rfl, rfl, rfl, rfl, HB7.out⟩
  case round =>
    obtain ⟨i, S, rfl, hi, hi60, hco, hSc, hSn, hST, hSo, hbb⟩ := hrel
    obtain ⟨c9, node9, inc9, cnt9, tks9, q9, p9, g9, d9, b9, s9, pre9, rs9, m9, T9, ov9, os9⟩ := S
    simp only at hSc hSn hST hSo
    subst hSc hSn hST hSo
    clear c0 c1
    obtain ⟨c0, c1⟩ := HXB.out _ hbb
    have HCR := Lib.hid hco
    have HBB := Lib.hid hbb
    by_cases hx : i < vn ∧ i < 60
    · obtain ⟨h1, h2⟩ := hx
      have h1i : (i : Int) < (vn : Int) := by omega
      have h2i : (i : Int) < 60 := by omega
      have hi0 : 0 ≤ (i : Int) := by omega
      obtain ⟨x, hx⟩ : ∃ x, vs[i]? = some x := ⟨_, List.getElem?_eq_getElem (by rw [HVN.out]; exact h1)⟩
      obtain ⟨hxn, hxk⟩ := HVO.out x (List.mem_of_getElem? hx)
      obtain ⟨b, o, hA, y0, y1, y2⟩ := HRV.out _ hbb i x hx
      have HNX : Hid (∀ v13 W S', v13 = .int .i64 ((i + 1 : Nat) : Int) → Co W (w.alloc (.cells #[.slice NA nn nc, .slice VA vn vc, .int .i64 keep] 25)).heap.size S' → S'.c = c9 → S'.node = node9 → S'.T = [] → S'.os = [] → Below (w.alloc (.cells #[.slice NA nn nc, .slice VA vn vc, .int .i64 keep] 25)).heap.size (w.alloc (.cells #[.slice NA nn nc, .slice VA vn vc, .int .i64 keep] 25)) W → StL (w.alloc (.cells #[.slice NA nn nc, .slice VA vn vc, .int .i64 keep] 25)) (w.alloc (.cells #[.slice NA nn nc, .slice VA vn vc, .int .i64 keep] 25)).heap.size c9 node9 vn v13 W) := Lib.hid fun v13 W S' h13 ha hb hc hd he hf => ⟨i + 1, S', h13, h1, h2, ha, hb, hc, hd, he, hf⟩
      subst hA
      obtain ⟨xn, xk, xp⟩ := x
      simp only at y0 y1 y2 hxn hxk
      have HPK := Lib.hid (fun W => pick13_any xn hxn 16 (by omega) (by omega) W)
      have HKD := Lib.hid (fun W => kind13_any xk hxk W)
      obtain ⟨fr, hfr⟩ : ∃ fr, pickZ xn 16 = fr := ⟨_, rfl⟩
      have HFR : Hid (fr < 16) := Lib.hid (by rw [← hfr]; exact pickZ_lt xn (by omega))
      rw [hfr] at HPK
      obtain ⟨K, hK⟩ : ∃ K, kindZ xk = K := ⟨_, rfl⟩
      have hK3 : K = 2 ∨ K = 4 ∨ K = 3 := by rw [← hK]; unfold kindZ; (repeat' split) <;> simp
      rw [hK] at HKD
      clear hx hxn hxk hfr hK hi hi60 hco hbb h1 h2
      cases xp
      · rcases hK3 with rfl | rfl | rfl
        · go_wp2_with (first
            | (go_at_call 13; refine (HPK.out _).mono ?_; rintro e wa ⟨rfl, rfl⟩)
            | (go_at_call 15; refine (HKD.out _).mono ?_; rintro e wb ⟨rfl, hb⟩
               have hb2 := (alloc_below wr (.cells #[.int .i64 xn, .int .i64 xk, .bool false] 40)).trans (hb.mono (alloc_below wr _).size)
               have HCB := Lib.hid (HCR.out.below hb2)
               have HBB2 := Lib.hid (HBB.out.trans (hb2.mono (Below.size HBB.out)))
               have v2 := (box3_ ((hb.block wr.heap.size (by simp)).trans (heap_alloc_new wr (.cells #[.int .i64 xn, .int .i64 xk, .bool false] 40)))).2.2
               clear hb hb2)
            | (go_at_call 14; refine (hear_yes HCB.out (f := fr) (x := node9) HFR.out (by have := HND.out; omega) (by show node9 % 16 = node9; have := HND.out; omega) rfl (by simp)).mono ?_; rintro e wd ⟨rfl, hl⟩
               have HBD := Lib.hid (hl.bel HCB.out HBB2.out)
               obtain ⟨vd, osd, hcd, hcrd, _⟩ := hl
               have HCD := Lib.hid hcd
               have HCRD := Lib.hid hcrd
               clear hcd hcrd)
            | (go_at_call 12; refine (out_any HCD.out).mono ?_; rintro e we ⟨rfl, hce, hoe, hOe⟩
               have HBE := Lib.hid (HCD.out.belC hOe HBD.out)
               have HCE := Lib.hid hce
               obtain ⟨AVe, cVe, hve, hle⟩ := id hoe.2
               have hlo : (([] : List Le) ++ osd).length = 1 := by have := congrArg List.length HCRD.out; simpa using this
               simp only [hlo] at hve hle
               simp only at hve hoe
               subst hve
               obtain ⟨e1, he1, hk1, _, ht1, _, _⟩ := core_at HCRD.out (j := 0) (k := 6) (f := (node9 : Int)) (t := (fr : Int)) (x := (node9 : Int)) (n := 0) rfl
               obtain ⟨ge, hAe, _, _, hne1, hcell⟩ := hoe.at_ (j := 0) (e := e1) (by simpa using he1)
               obtain ⟨u0, _, u2, _, _⟩ := hcell we rfl
               rw [hk1] at u0
               rw [ht1] at u2
               simp only [Nat.zero_mul, Nat.zero_add] at u0 u2
               subst hAe
               have hcap : (1 : Int) ≤ (cVe : Int) := by omega
               clear he1 hk1 ht1 hcell hne1
               have HST2 : Hid (Calls Try.prog 11 #[.pointer (some ⟨c9, 0, none⟩), .int .i64 (node9 : Int)] we (LooksL (.int .i64 0) we)) := Lib.hid (state_any hce (x := node9) (by have := HND.out; unfold i64ok; omega))
               clear hce hoe hOe hlo hle)
            | (go_at_call 11; refine HST2.out.mono ?_; rintro e wf ⟨rfl, rfl⟩))
          go_roundw
          case rel => first | exact HNX.out _ _ _ (by go_num) HCE.out rfl rfl rfl rfl HBE.out | ((repeat apply Exists.intro); exact ⟨HNX.out _ _ _ (by go_num) HCE.out rfl rfl rfl rfl HBE.out, rfl⟩)
          case measure => simp [intOf]; omega
        · go_wp2_with (first
            | (go_at_call 13; refine (HPK.out _).mono ?_; rintro e wa ⟨rfl, rfl⟩)
            | (go_at_call 15; refine (HKD.out _).mono ?_; rintro e wb ⟨rfl, hb⟩
               have hb2 := (alloc_below wr (.cells #[.int .i64 xn, .int .i64 xk, .bool false] 40)).trans (hb.mono (alloc_below wr _).size)
               have HCB := Lib.hid (HCR.out.below hb2)
               have HBB2 := Lib.hid (HBB.out.trans (hb2.mono (Below.size HBB.out)))
               have v2 := (box3_ ((hb.block wr.heap.size (by simp)).trans (heap_alloc_new wr (.cells #[.int .i64 xn, .int .i64 xk, .bool false] 40)))).2.2
               clear hb hb2)
            | (go_at_call 14; refine (hear_read HCB.out (f := fr) (x := node9) HFR.out (by have := HND.out; omega) (by show node9 % 16 = node9; have := HND.out; omega) rfl).mono ?_; rintro e wd ⟨rfl, hl⟩
               have HBD := Lib.hid (hl.bel HCB.out HBB2.out)
               obtain ⟨vd, osd, hcd, hcrd, _⟩ := hl
               have HCD := Lib.hid hcd
               have HCRD := Lib.hid hcrd
               clear hcd hcrd)
            | (go_at_call 12; refine (out_any HCD.out).mono ?_; rintro e we ⟨rfl, hce, hoe, hOe⟩
               have HBE := Lib.hid (HCD.out.belC hOe HBD.out)
               have HCE := Lib.hid hce
               obtain ⟨AVe, cVe, hve, hle⟩ := id hoe.2
               have hlo : (([] : List Le) ++ osd).length = 0 := by have := congrArg List.length HCRD.out; simpa using this
               simp only [hlo] at hve hle
               simp only at hve hoe
               subst hve
               have HST2 : Hid (Calls Try.prog 11 #[.pointer (some ⟨c9, 0, none⟩), .int .i64 (node9 : Int)] we (LooksL (.int .i64 0) we)) := Lib.hid (state_any hce (x := node9) (by have := HND.out; unfold i64ok; omega))
               clear hce hoe hOe hlo hle)
            | (go_at_call 11; refine HST2.out.mono ?_; rintro e wf ⟨rfl, rfl⟩))
          go_roundw
          case rel => first | exact HNX.out _ _ _ (by go_num) HCE.out rfl rfl rfl rfl HBE.out | ((repeat apply Exists.intro); exact ⟨HNX.out _ _ _ (by go_num) HCE.out rfl rfl rfl rfl HBE.out, rfl⟩)
          case measure => simp [intOf]; omega
        · go_wp2_with (first
            | (go_at_call 13; refine (HPK.out _).mono ?_; rintro e wa ⟨rfl, rfl⟩)
            | (go_at_call 15; refine (HKD.out _).mono ?_; rintro e wb ⟨rfl, hb⟩
               have hb2 := (alloc_below wr (.cells #[.int .i64 xn, .int .i64 xk, .bool false] 40)).trans (hb.mono (alloc_below wr _).size)
               have HCB := Lib.hid (HCR.out.below hb2)
               have HBB2 := Lib.hid (HBB.out.trans (hb2.mono (Below.size HBB.out)))
               have v2 := (box3_ ((hb.block wr.heap.size (by simp)).trans (heap_alloc_new wr (.cells #[.int .i64 xn, .int .i64 xk, .bool false] 40)))).2.2
               clear hb hb2)
            | (go_at_call 14; refine (hear_noq HCB.out (f := fr) (x := node9) HFR.out (by have := HND.out; omega) (by show node9 % 16 = node9; have := HND.out; omega) rfl).mono ?_; rintro e wd ⟨rfl, hl⟩
               have HBD := Lib.hid (hl.bel HCB.out HBB2.out)
               obtain ⟨vd, osd, hcd, hcrd, _⟩ := hl
               have HCD := Lib.hid hcd
               have HCRD := Lib.hid hcrd
               clear hcd hcrd)
            | (go_at_call 12; refine (out_any HCD.out).mono ?_; rintro e we ⟨rfl, hce, hoe, hOe⟩
               have HBE := Lib.hid (HCD.out.belC hOe HBD.out)
               have HCE := Lib.hid hce
               obtain ⟨AVe, cVe, hve, hle⟩ := id hoe.2
               have hlo : (([] : List Le) ++ osd).length = 0 := by have := congrArg List.length HCRD.out; simpa using this
               simp only [hlo] at hve hle
               simp only at hve hoe
               subst hve
               have HST2 : Hid (Calls Try.prog 11 #[.pointer (some ⟨c9, 0, none⟩), .int .i64 (node9 : Int)] we (LooksL (.int .i64 0) we)) := Lib.hid (state_any hce (x := node9) (by have := HND.out; unfold i64ok; omega))
               clear hce hoe hOe hlo hle)
            | (go_at_call 11; refine HST2.out.mono ?_; rintro e wf ⟨rfl, rfl⟩))
          go_roundw
          case rel => first | exact HNX.out _ _ _ (by go_num) HCE.out rfl rfl rfl rfl HBE.out | ((repeat apply Exists.intro); exact ⟨HNX.out _ _ _ (by go_num) HCE.out rfl rfl rfl rfl HBE.out, rfl⟩)
          case measure => simp [intOf]; omega
      · clear hK3
        go_wp2_with (first
          | (go_at_call 13; refine (HPK.out _).mono ?_; rintro e wa ⟨rfl, rfl⟩)
          | (go_at_call 15; refine (HKD.out _).mono ?_; rintro e wb ⟨rfl, hb⟩
             have hb2 := (alloc_below wr (.cells #[.int .i64 xn, .int .i64 xk, .bool true] 40)).trans (hb.mono (alloc_below wr _).size)
             have HCB := Lib.hid (HCR.out.below hb2)
             have HBB2 := Lib.hid (HBB.out.trans (hb2.mono (Below.size HBB.out)))
             have v2 := (box3_ ((hb.block wr.heap.size (by simp)).trans (heap_alloc_new wr (.cells #[.int .i64 xn, .int .i64 xk, .bool true] 40)))).2.2
             clear hb hb2)
          | (go_at_call 14; refine (hear_ask HCB.out (f := fr) (x := node9) HFR.out (by have := HND.out; omega) (by show node9 % 16 = node9; have := HND.out; omega) rfl (by simp)).mono ?_; rintro e wd ⟨rfl, hl⟩
             have HBD := Lib.hid (hl.bel HCB.out HBB2.out)
             obtain ⟨vd, osd, hcd, hcrd, _⟩ := hl
             have HCD := Lib.hid hcd
             have HCRD := Lib.hid hcrd
             clear hcd hcrd)
          | (go_at_call 12; refine (out_any HCD.out).mono ?_; rintro e we ⟨rfl, hce, hoe, hOe⟩
             have HBE := Lib.hid (HCD.out.belC hOe HBD.out)
             have HCE := Lib.hid hce
             obtain ⟨AVe, cVe, hve, hle⟩ := id hoe.2
             have hlo : (([] : List Le) ++ osd).length = 1 := by have := congrArg List.length HCRD.out; simpa using this
             simp only [hlo] at hve hle
             simp only at hve hoe
             subst hve
             obtain ⟨e1, he1, hk1, _, ht1, _, _⟩ := core_at HCRD.out (j := 0) (k := 6) (f := (node9 : Int)) (t := (fr : Int)) (x := (node9 : Int)) (n := 0) rfl
             obtain ⟨ge, hAe, _, _, hne1, hcell⟩ := hoe.at_ (j := 0) (e := e1) (by simpa using he1)
             obtain ⟨u0, _, u2, _, _⟩ := hcell we rfl
             rw [hk1] at u0
             rw [ht1] at u2
             simp only [Nat.zero_mul, Nat.zero_add] at u0 u2
             subst hAe
             have hcap : (1 : Int) ≤ (cVe : Int) := by omega
             clear he1 hk1 ht1 hcell hne1
             have HST2 : Hid (Calls Try.prog 11 #[.pointer (some ⟨c9, 0, none⟩), .int .i64 (node9 : Int)] we (LooksL (.int .i64 0) we)) := Lib.hid (state_any hce (x := node9) (by have := HND.out; unfold i64ok; omega))
             clear hce hoe hOe hlo hle)
          | (go_at_call 11; refine HST2.out.mono ?_; rintro e wf ⟨rfl, rfl⟩))
        go_roundw
        case rel => first | exact HNX.out _ _ _ (by go_num) HCE.out rfl rfl rfl rfl HBE.out | ((repeat apply Exists.intro); exact ⟨HNX.out _ _ _ (by go_num) HCE.out rfl rfl rfl rfl HBE.out, rfl⟩)
        case measure => simp [intOf]; omega
    · have hx2 : (¬ (i : Int) < (vn : Int)) ∨ ((i : Int) < (vn : Int) ∧ ¬ (i : Int) < 60) := by omega
      clear hx hi hi60 hco hbb
      rcases hx2 with hx3 | ⟨hx3, hx4⟩
      all_goals
        go_wp2_with (go_at_call 8; refine (alive13_any _).mono ?_; rintro e wz ⟨rfl, hb⟩
                     have HE := Lib.hid (HBW.out.trans ((HBB.out.trans (hb.mono (Below.size HBB.out))).mono HBW.out.size))
                     clear hb)
        go_ret
        exact ⟨rfl, HE.out⟩
set_option maxRecDepth 100000 in
set_option maxHeartbeats 64000000 in
theorem stops_false {nd : Nat} (hnd : nd < 16) (ns : List Int) (vs : List Vt) (NA : Option Addr) (nn nc : Nat) (VA : Option Addr) (vn vc : Nat) (keep : Int) (w : World) (hnn : nn ≤ 60) (hn : ns.length = nn) (hu : upN (-1) ns = true) {f0 : Nat} {rest : List Int} (hns : ns = (f0 : Int) :: rest) (hne : ns ≠ []) (hvn : vs.length = vn) (hvm : vn ≤ maxLen) (hr : RdI w w.heap.size NA ns) (hrv : RdVt w w.heap.size VA vs) (hvo : ∀ x ∈ vs, i64ok x.n ∧ i64ok x.k) :
    Calls Try.prog 5 #[.int .i64 (nd : Int), .agg #[.slice NA nn nc, .slice VA vn vc, .int .i64 keep], .bool false] w (Ans (.bool true) w) := by
  have hnil : ∀ (w : World) (a : Option Addr), (binOp .eql 28 (.pointer a) (.pointer none)).run Try.prog w = .ok (.bool a.isNone) w := fun w a => by cases a <;> rfl
  have hbw := alloc_below w (.cells #[.slice NA nn nc, .slice VA vn vc, .int .i64 keep] 25)
  have hxb := heap_alloc_new w (.cells #[.slice NA nn nc, .slice VA vn vc, .int .i64 keep] 25)
  have HBW := Lib.hid hbw
  have HXB : Hid (∀ W, Below (w.alloc (.cells #[.slice NA nn nc, .slice VA vn vc, .int .i64 keep] 25)).heap.size (w.alloc (.cells #[.slice NA nn nc, .slice VA vn vc, .int .i64 keep] 25)) W → W.cell? ⟨w.heap.size, 0, none⟩ = some (.slice NA nn nc) ∧ W.cell? ⟨w.heap.size, 1, none⟩ = some (.slice VA vn vc)) := Lib.hid fun W hb => by
    have h := (hb.block w.heap.size (by simp)).trans hxb
    simp [World.cell?, h]
  have HND := Lib.hid hnd
  have HU := Lib.hid hu
  have HN := Lib.hid hn
  have HNE := Lib.hid hne
  have HNN := Lib.hid hnn
  have HVN := Lib.hid hvn
  have HVO := Lib.hid hvo
  have hl : ¬ (60 : Int) < (nn : Int) := by omega
  have hni : (nn : Int) ≤ 60 := by omega
  have hvi : (vn : Int) ≤ 9223372036854775807 := by unfold maxLen at hvm; omega
  have hneq : ∀ z : Int, (z != z) = false := fun z => by simp
  have HR : Hid (∀ W, Below (w.alloc (.cells #[.slice NA nn nc, .slice VA vn vc, .int .i64 keep] 25)).heap.size (w.alloc (.cells #[.slice NA nn nc, .slice VA vn vc, .int .i64 keep] 25)) W → RdI W W.heap.size NA ns) := Lib.hid fun W hb => by
    have h2 := hbw.trans (hb.mono hbw.size)
    exact (hr.below h2 (Nat.le_refl _)).more h2.size
  have HRV : Hid (∀ W, Below (w.alloc (.cells #[.slice NA nn nc, .slice VA vn vc, .int .i64 keep] 25)).heap.size (w.alloc (.cells #[.slice NA nn nc, .slice VA vn vc, .int .i64 keep] 25)) W → ∀ j x, vs[j]? = some x → ∃ b o, VA = some ⟨b, o, none⟩ ∧ W.cell? ⟨b, o + j * 3, none⟩ = some (.int .i64 x.n) ∧ W.cell? ⟨b, o + j * 3 + 1, none⟩ = some (.int .i64 x.k) ∧ W.cell? ⟨b, o + j * 3 + 2, none⟩ = some (.bool x.p)) := Lib.hid fun W hb j x hx => hrv.at_ hx (hbw.trans (hb.mono hbw.size)) (Nat.le_refl _)
  have HM : Hid (orB 0 ns < 65536) := Lib.hid (or_lt (by omega) hu (by decide))
  have HNO : Hid (nodesI (orB 0 ns) = ns) := Lib.hid (nodes_or hu)
  have HNS := Lib.hid hns
  have HF0 : Hid (f0 < 16) := Lib.hid (by have := up_mem hu f0 (by rw [hns]; simp); omega)
  have HLESS : Hid (nodesI (woB (orB 0 ns) f0) = rest ∧ (orB 0 ns).testBit f0 = true) := Lib.hid (by rw [hns] at hu ⊢; exact ⟨nodes_less hu, head_bit⟩)
  have hnn1 : wrap64 ((nn : Int) - 1) = (nn : Int) - 1 := by unfold wrap64; omega
  have HRL : Hid (rest.length + 1 = nn) := Lib.hid (by rw [← hn, hns]; rfl)
  clear hbw hxb hnd hu hn hns hne hnn hr hrv hvn hvm hvo
  go_enter Try.func5, Try.ntmps5
  have hrl : ((rest.length : Int) != (nn : Int) - 1) = false := by have := HRL.out; simp; omega
  obtain ⟨NAb, NAo, hNA, hNAc⟩ : ∃ b o, NA = some ⟨b, o, none⟩ ∧ ∀ W, Below (w.alloc (.cells #[.slice NA nn nc, .slice VA vn vc, .int .i64 keep] 25)).heap.size (w.alloc (.cells #[.slice NA nn nc, .slice VA vn vc, .int .i64 keep] 25)) W → W.cell? ⟨b, o, none⟩ = some (.int .i64 (f0 : Int)) := by
    obtain ⟨b, o, e, _, _⟩ := HR.out _ (Below.refl _ _) HNE.out
    refine ⟨b, o, e, fun W hb => ?_⟩
    obtain ⟨b', o', e', _, hc⟩ := HR.out W hb HNE.out
    rw [e] at e'
    injection e' with e'
    injection e' with e1 e2
    subst e1 e2
    have := hc 0 (f0 : Int) (by rw [HNS.out]; rfl)
    rwa [Nat.add_zero] at this
  have HNAC := Lib.hid hNAc
  subst hNA
  clear hNAc
  have hn0 : (0 : Int) < (nn : Int) := by have := HRL.out; omega
  go_upto_region 16 with (first
    | (go_at_call 6; refine (new_any _).mono ?_; rintro e w1 ⟨p, rfl, hd, hb⟩
       have HD := Lib.hid hd
       have HB1 := Lib.hid hb
       obtain ⟨c0, c1⟩ := HXB.out _ hb
       clear hd hb)
    | (go_at_call 7; refine (Open_fresh HD.out (Below.size HB1.out) HND.out).mono ?_; rintro e w2 ⟨S, rfl, hc, hn, hi, hcn, ht, hT, hv, hos, _, _, _, hO⟩
       obtain ⟨c, node, inc, cnt, tks, q, p', g, d, b, s, pre, rs, m, T, ov, os⟩ := S
       simp only at hn hi hcn ht hT hv hos
       have hn2 := hn.symm
       clear hn
       subst hn2 hi hcn ht hT hv hos
       have HC := Lib.hid hc
       have HB2 := Lib.hid (HD.out.belPG hO HB1.out)
       clear c0 c1
       obtain ⟨c0, c1⟩ := HXB.out _ HB2.out
       clear hc hO)
    | (go_at_call 9; refine (begin_fresh HC.out rfl rfl rfl).mono ?_; rintro e w3 ⟨rfl, hc3, hO3⟩
       have HC3 := Lib.hid hc3
       have HB3 := Lib.hid (HC.out.belCM hO3 HB2.out)
       clear c0 c1
       obtain ⟨c0, c1⟩ := HXB.out _ HB3.out
       clear hc3 hO3)
    | (go_at_call 10; refine (ask_yes HC3.out (x := nd) (by have := HND.out; unfold i64ok; omega) (findT_one nd 1 0 0 0 0) rfl ns HU.out HNE.out (some ⟨NAb, NAo, none⟩) nn nc HN.out (HR.out _ HB3.out) (by show 1 < 1000; omega) (by simp)).mono ?_; rintro e w4 ⟨rfl, v4, os4, hc4, hcr4, hfr4⟩
       simp only [putT_one] at hc4
       have HB4 := Lib.hid (hfr4.below HC3.out HB3.out)
       have HC4 := Lib.hid hc4
       clear c0 c1
       obtain ⟨c0, c1⟩ := HXB.out _ HB4.out
       clear hc4 hcr4 hfr4)
    | (go_at_call 12; have _t := HC6; refine (out_any HC6.out).mono ?_; rintro e w7 ⟨rfl, hc7, ho7, hO7⟩
       have HC7 := Lib.hid hc7
       have HB7 := Lib.hid (HC6.out.belC hO7 HB6.out)
       obtain ⟨AV7, cV7, hv7, hl7⟩ := id ho7.2
       clear c0 c1
       obtain ⟨c0, c1⟩ := HXB.out _ HB7.out
       simp only at hv7
       subst hv7
       have hlo : (([] : List Le) ++ os6).length = rest.length := by rw [List.nil_append]; exact HL6.out
       simp only [hlo]
       have HST : Hid (Calls Try.prog 11 #[.pointer (some ⟨c, 0, none⟩), .int .i64 (nd : Int)] w7 (LooksL (.int .i64 0) w7)) := Lib.hid (state_any hc7 (x := nd) (by have := HND.out; unfold i64ok; omega))
       clear hc7 hO7 _t)
    | (go_at_call 14; refine (hear_no HC5.out (f := f0) (x := nd) HF0.out (by have := HND.out; omega) (by show nd % 16 = nd; have := HND.out; omega) (findT_one nd 2 _ _ 0 0) rfl HM.out HM.out HLESS.out.2 (by simp)).mono ?_; rintro e w6 ⟨rfl, hl6⟩
       have HB6 := Lib.hid (hl6.bel HC5.out HB5.out)
       obtain ⟨v6, os6, hc6, hcr6, _⟩ := hl6
       simp only [dropT_one] at hc6
       have HC6 := Lib.hid hc6
       have HL6 : Hid (os6.length = rest.length) := Lib.hid (by
         have h9 := congrArg List.length hcr6
         rw [HLESS.out.1] at h9
         simpa [coreL] using h9)
       clear c0 c1
       obtain ⟨c0, c1⟩ := HXB.out _ HB6.out
       clear hc6 hcr6)
    | (go_at_call 12; have _t := HC4; refine (out_any HC4.out).mono ?_; rintro e w5 ⟨rfl, hc5, ho5, hO5⟩
       have HC5 := Lib.hid hc5
       have HB5 := Lib.hid (HC4.out.belC hO5 HB4.out)
       obtain ⟨AV5, cV5, hv5, hl5⟩ := id ho5.2
       clear c0 c1
       obtain ⟨c0, c1⟩ := HXB.out _ HB5.out
       have n0 := HNAC.out _ HB5.out
       clear hc5 hO5 _t))
  go_wp2_with (go_at_call 11; refine HST.out.mono ?_; rintro e w8 ⟨rfl, rfl⟩)
  go_loopw [13] (fun v13 wr => StL (w.alloc (.cells #[.slice (some ⟨NAb, NAo, none⟩) nn nc, .slice VA vn vc, .int .i64 keep] 25)) (w.alloc (.cells #[.slice (some ⟨NAb, NAo, none⟩) nn nc, .slice VA vn vc, .int .i64 keep] 25)).heap.size c nd vn v13 wr) (fun v13 _ => vn - (intOf v13).toNat)
  case atStart => exact ⟨0, _, rfl, Nat.zero_le _, Nat.zero_le _, HC7.out, rfl, rfl, rfl, rfl, HB7.out⟩
  case round =>
    obtain ⟨i, S, rfl, hi, hi60, hco, hSc, hSn, hST, hSo, hbb⟩ := hrel
    obtain ⟨c9, node9, inc9, cnt9, tks9, q9, p9, g9, d9, b9, s9, pre9, rs9, m9, T9, ov9, os9⟩ := S
    simp only at hSc hSn hST hSo
    subst hSc hSn hST hSo
    clear c0 c1
    obtain ⟨c0, c1⟩ := HXB.out _ hbb
    have HCR := Lib.hid hco
    have HBB := Lib.hid hbb
    by_cases hx : i < vn ∧ i < 60
    · obtain ⟨h1, h2⟩ := hx
      have h1i : (i : Int) < (vn : Int) := by omega
      have h2i : (i : Int) < 60 := by omega
      have hi0 : 0 ≤ (i : Int) := by omega
      obtain ⟨x, hx⟩ : ∃ x, vs[i]? = some x := ⟨_, List.getElem?_eq_getElem (by rw [HVN.out]; exact h1)⟩
      obtain ⟨hxn, hxk⟩ := HVO.out x (List.mem_of_getElem? hx)
      obtain ⟨b, o, hA, y0, y1, y2⟩ := HRV.out _ hbb i x hx
      have HNX : Hid (∀ v13 W S', v13 = .int .i64 ((i + 1 : Nat) : Int) → Co W (w.alloc (.cells #[.slice (some ⟨NAb, NAo, none⟩) nn nc, .slice VA vn vc, .int .i64 keep] 25)).heap.size S' → S'.c = c9 → S'.node = node9 → S'.T = [] → S'.os = [] → Below (w.alloc (.cells #[.slice (some ⟨NAb, NAo, none⟩) nn nc, .slice VA vn vc, .int .i64 keep] 25)).heap.size (w.alloc (.cells #[.slice (some ⟨NAb, NAo, none⟩) nn nc, .slice VA vn vc, .int .i64 keep] 25)) W → StL (w.alloc (.cells #[.slice (some ⟨NAb, NAo, none⟩) nn nc, .slice VA vn vc, .int .i64 keep] 25)) (w.alloc (.cells #[.slice (some ⟨NAb, NAo, none⟩) nn nc, .slice VA vn vc, .int .i64 keep] 25)).heap.size c9 node9 vn v13 W) := Lib.hid fun v13 W S' h13 ha hb hc hd he hf => ⟨i + 1, S', h13, h1, h2, ha, hb, hc, hd, he, hf⟩
      subst hA
      obtain ⟨xn, xk, xp⟩ := x
      simp only at y0 y1 y2 hxn hxk
      have HPK := Lib.hid (fun W => pick13_any xn hxn 16 (by omega) (by omega) W)
      have HKD := Lib.hid (fun W => kind13_any xk hxk W)
      obtain ⟨fr, hfr⟩ : ∃ fr, pickZ xn 16 = fr := ⟨_, rfl⟩
      have HFR : Hid (fr < 16) := Lib.hid (by rw [← hfr]; exact pickZ_lt xn (by omega))
      rw [hfr] at HPK
      obtain ⟨K, hK⟩ : ∃ K, kindZ xk = K := ⟨_, rfl⟩
      have hK3 : K = 2 ∨ K = 4 ∨ K = 3 := by rw [← hK]; unfold kindZ; (repeat' split) <;> simp
      rw [hK] at HKD
      clear hx hxn hxk hfr hK hi hi60 hco hbb h1 h2
      cases xp
      · rcases hK3 with rfl | rfl | rfl
        · go_wp2_with (first
            | (go_at_call 13; refine (HPK.out _).mono ?_; rintro e wa ⟨rfl, rfl⟩)
            | (go_at_call 15; refine (HKD.out _).mono ?_; rintro e wb ⟨rfl, hb⟩
               have hb2 := (alloc_below wr (.cells #[.int .i64 xn, .int .i64 xk, .bool false] 40)).trans (hb.mono (alloc_below wr _).size)
               have HCB := Lib.hid (HCR.out.below hb2)
               have HBB2 := Lib.hid (HBB.out.trans (hb2.mono (Below.size HBB.out)))
               have v2 := (box3_ ((hb.block wr.heap.size (by simp)).trans (heap_alloc_new wr (.cells #[.int .i64 xn, .int .i64 xk, .bool false] 40)))).2.2
               clear hb hb2)
            | (go_at_call 14; refine (hear_yes HCB.out (f := fr) (x := node9) HFR.out (by have := HND.out; omega) (by show node9 % 16 = node9; have := HND.out; omega) rfl (by simp)).mono ?_; rintro e wd ⟨rfl, hl⟩
               have HBD := Lib.hid (hl.bel HCB.out HBB2.out)
               obtain ⟨vd, osd, hcd, hcrd, _⟩ := hl
               have HCD := Lib.hid hcd
               have HCRD := Lib.hid hcrd
               clear hcd hcrd)
            | (go_at_call 12; refine (out_any HCD.out).mono ?_; rintro e we ⟨rfl, hce, hoe, hOe⟩
               have HBE := Lib.hid (HCD.out.belC hOe HBD.out)
               have HCE := Lib.hid hce
               obtain ⟨AVe, cVe, hve, hle⟩ := id hoe.2
               have hlo : (([] : List Le) ++ osd).length = 1 := by have := congrArg List.length HCRD.out; simpa using this
               simp only [hlo] at hve hle
               simp only at hve hoe
               subst hve
               obtain ⟨e1, he1, hk1, _, ht1, _, _⟩ := core_at HCRD.out (j := 0) (k := 6) (f := (node9 : Int)) (t := (fr : Int)) (x := (node9 : Int)) (n := 0) rfl
               obtain ⟨ge, hAe, _, _, hne1, hcell⟩ := hoe.at_ (j := 0) (e := e1) (by simpa using he1)
               obtain ⟨u0, _, u2, _, _⟩ := hcell we rfl
               rw [hk1] at u0
               rw [ht1] at u2
               simp only [Nat.zero_mul, Nat.zero_add] at u0 u2
               subst hAe
               have hcap : (1 : Int) ≤ (cVe : Int) := by omega
               clear he1 hk1 ht1 hcell hne1
               have HST2 : Hid (Calls Try.prog 11 #[.pointer (some ⟨c9, 0, none⟩), .int .i64 (node9 : Int)] we (LooksL (.int .i64 0) we)) := Lib.hid (state_any hce (x := node9) (by have := HND.out; unfold i64ok; omega))
               clear hce hoe hOe hlo hle)
            | (go_at_call 11; refine HST2.out.mono ?_; rintro e wf ⟨rfl, rfl⟩))
          go_roundw
          case rel => first | exact HNX.out _ _ _ (by go_num) HCE.out rfl rfl rfl rfl HBE.out | ((repeat apply Exists.intro); exact ⟨HNX.out _ _ _ (by go_num) HCE.out rfl rfl rfl rfl HBE.out, rfl⟩)
          case measure => simp [intOf]; omega
        · go_wp2_with (first
            | (go_at_call 13; refine (HPK.out _).mono ?_; rintro e wa ⟨rfl, rfl⟩)
            | (go_at_call 15; refine (HKD.out _).mono ?_; rintro e wb ⟨rfl, hb⟩
               have hb2 := (alloc_below wr (.cells #[.int .i64 xn, .int .i64 xk, .bool false] 40)).trans (hb.mono (alloc_below wr _).size)
               have HCB := Lib.hid (HCR.out.below hb2)
               have HBB2 := Lib.hid (HBB.out.trans (hb2.mono (Below.size HBB.out)))
               have v2 := (box3_ ((hb.block wr.heap.size (by simp)).trans (heap_alloc_new wr (.cells #[.int .i64 xn, .int .i64 xk, .bool false] 40)))).2.2
               clear hb hb2)
            | (go_at_call 14; refine (hear_read HCB.out (f := fr) (x := node9) HFR.out (by have := HND.out; omega) (by show node9 % 16 = node9; have := HND.out; omega) rfl).mono ?_; rintro e wd ⟨rfl, hl⟩
               have HBD := Lib.hid (hl.bel HCB.out HBB2.out)
               obtain ⟨vd, osd, hcd, hcrd, _⟩ := hl
               have HCD := Lib.hid hcd
               have HCRD := Lib.hid hcrd
               clear hcd hcrd)
            | (go_at_call 12; refine (out_any HCD.out).mono ?_; rintro e we ⟨rfl, hce, hoe, hOe⟩
               have HBE := Lib.hid (HCD.out.belC hOe HBD.out)
               have HCE := Lib.hid hce
               obtain ⟨AVe, cVe, hve, hle⟩ := id hoe.2
               have hlo : (([] : List Le) ++ osd).length = 0 := by have := congrArg List.length HCRD.out; simpa using this
               simp only [hlo] at hve hle
               simp only at hve hoe
               subst hve
               have HST2 : Hid (Calls Try.prog 11 #[.pointer (some ⟨c9, 0, none⟩), .int .i64 (node9 : Int)] we (LooksL (.int .i64 0) we)) := Lib.hid (state_any hce (x := node9) (by have := HND.out; unfold i64ok; omega))
               clear hce hoe hOe hlo hle)
            | (go_at_call 11; refine HST2.out.mono ?_; rintro e wf ⟨rfl, rfl⟩))
          go_roundw
          case rel => first | exact HNX.out _ _ _ (by go_num) HCE.out rfl rfl rfl rfl HBE.out | ((repeat apply Exists.intro); exact ⟨HNX.out _ _ _ (by go_num) HCE.out rfl rfl rfl rfl HBE.out, rfl⟩)
          case measure => simp [intOf]; omega
        · go_wp2_with (first
            | (go_at_call 13; refine (HPK.out _).mono ?_; rintro e wa ⟨rfl, rfl⟩)
            | (go_at_call 15; refine (HKD.out _).mono ?_; rintro e wb ⟨rfl, hb⟩
               have hb2 := (alloc_below wr (.cells #[.int .i64 xn, .int .i64 xk, .bool false] 40)).trans (hb.mono (alloc_below wr _).size)
               have HCB := Lib.hid (HCR.out.below hb2)
               have HBB2 := Lib.hid (HBB.out.trans (hb2.mono (Below.size HBB.out)))
               have v2 := (box3_ ((hb.block wr.heap.size (by simp)).trans (heap_alloc_new wr (.cells #[.int .i64 xn, .int .i64 xk, .bool false] 40)))).2.2
               clear hb hb2)
            | (go_at_call 14; refine (hear_noq HCB.out (f := fr) (x := node9) HFR.out (by have := HND.out; omega) (by show node9 % 16 = node9; have := HND.out; omega) rfl).mono ?_; rintro e wd ⟨rfl, hl⟩
               have HBD := Lib.hid (hl.bel HCB.out HBB2.out)
               obtain ⟨vd, osd, hcd, hcrd, _⟩ := hl
               have HCD := Lib.hid hcd
               have HCRD := Lib.hid hcrd
               clear hcd hcrd)
            | (go_at_call 12; refine (out_any HCD.out).mono ?_; rintro e we ⟨rfl, hce, hoe, hOe⟩
               have HBE := Lib.hid (HCD.out.belC hOe HBD.out)
               have HCE := Lib.hid hce
               obtain ⟨AVe, cVe, hve, hle⟩ := id hoe.2
               have hlo : (([] : List Le) ++ osd).length = 0 := by have := congrArg List.length HCRD.out; simpa using this
               simp only [hlo] at hve hle
               simp only at hve hoe
               subst hve
               have HST2 : Hid (Calls Try.prog 11 #[.pointer (some ⟨c9, 0, none⟩), .int .i64 (node9 : Int)] we (LooksL (.int .i64 0) we)) := Lib.hid (state_any hce (x := node9) (by have := HND.out; unfold i64ok; omega))
               clear hce hoe hOe hlo hle)
            | (go_at_call 11; refine HST2.out.mono ?_; rintro e wf ⟨rfl, rfl⟩))
          go_roundw
          case rel => first | exact HNX.out _ _ _ (by go_num) HCE.out rfl rfl rfl rfl HBE.out | ((repeat apply Exists.intro); exact ⟨HNX.out _ _ _ (by go_num) HCE.out rfl rfl rfl rfl HBE.out, rfl⟩)
          case measure => simp [intOf]; omega
      · clear hK3
        go_wp2_with (first
          | (go_at_call 13; refine (HPK.out _).mono ?_; rintro e wa ⟨rfl, rfl⟩)
          | (go_at_call 15; refine (HKD.out _).mono ?_; rintro e wb ⟨rfl, hb⟩
             have hb2 := (alloc_below wr (.cells #[.int .i64 xn, .int .i64 xk, .bool true] 40)).trans (hb.mono (alloc_below wr _).size)
             have HCB := Lib.hid (HCR.out.below hb2)
             have HBB2 := Lib.hid (HBB.out.trans (hb2.mono (Below.size HBB.out)))
             have v2 := (box3_ ((hb.block wr.heap.size (by simp)).trans (heap_alloc_new wr (.cells #[.int .i64 xn, .int .i64 xk, .bool true] 40)))).2.2
             clear hb hb2)
          | (go_at_call 14; refine (hear_ask HCB.out (f := fr) (x := node9) HFR.out (by have := HND.out; omega) (by show node9 % 16 = node9; have := HND.out; omega) rfl (by simp)).mono ?_; rintro e wd ⟨rfl, hl⟩
             have HBD := Lib.hid (hl.bel HCB.out HBB2.out)
             obtain ⟨vd, osd, hcd, hcrd, _⟩ := hl
             have HCD := Lib.hid hcd
             have HCRD := Lib.hid hcrd
             clear hcd hcrd)
          | (go_at_call 12; refine (out_any HCD.out).mono ?_; rintro e we ⟨rfl, hce, hoe, hOe⟩
             have HBE := Lib.hid (HCD.out.belC hOe HBD.out)
             have HCE := Lib.hid hce
             obtain ⟨AVe, cVe, hve, hle⟩ := id hoe.2
             have hlo : (([] : List Le) ++ osd).length = 1 := by have := congrArg List.length HCRD.out; simpa using this
             simp only [hlo] at hve hle
             simp only at hve hoe
             subst hve
             obtain ⟨e1, he1, hk1, _, ht1, _, _⟩ := core_at HCRD.out (j := 0) (k := 6) (f := (node9 : Int)) (t := (fr : Int)) (x := (node9 : Int)) (n := 0) rfl
             obtain ⟨ge, hAe, _, _, hne1, hcell⟩ := hoe.at_ (j := 0) (e := e1) (by simpa using he1)
             obtain ⟨u0, _, u2, _, _⟩ := hcell we rfl
             rw [hk1] at u0
             rw [ht1] at u2
             simp only [Nat.zero_mul, Nat.zero_add] at u0 u2
             subst hAe
             have hcap : (1 : Int) ≤ (cVe : Int) := by omega
             clear he1 hk1 ht1 hcell hne1
             have HST2 : Hid (Calls Try.prog 11 #[.pointer (some ⟨c9, 0, none⟩), .int .i64 (node9 : Int)] we (LooksL (.int .i64 0) we)) := Lib.hid (state_any hce (x := node9) (by have := HND.out; unfold i64ok; omega))
             clear hce hoe hOe hlo hle)
          | (go_at_call 11; refine HST2.out.mono ?_; rintro e wf ⟨rfl, rfl⟩))
        go_roundw
        case rel => first | exact HNX.out _ _ _ (by go_num) HCE.out rfl rfl rfl rfl HBE.out | ((repeat apply Exists.intro); exact ⟨HNX.out _ _ _ (by go_num) HCE.out rfl rfl rfl rfl HBE.out, rfl⟩)
        case measure => simp [intOf]; omega
    · have hx2 : (¬ (i : Int) < (vn : Int)) ∨ ((i : Int) < (vn : Int) ∧ ¬ (i : Int) < 60) := by omega
      clear hx hi hi60 hco hbb
      rcases hx2 with hx3 | ⟨hx3, hx4⟩
      all_goals
        go_wp2_with (go_at_call 8; refine (alive13_any _).mono ?_; rintro e wz ⟨rfl, hb⟩
                     have HE := Lib.hid (HBW.out.trans ((HBB.out.trans (hb.mono (Below.size HBB.out))).mono HBW.out.size))
                     clear hb)
        go_ret
        exact ⟨rfl, HE.out⟩
theorem stops_one {nd : Nat} (hnd : nd < 16) (ns : List Int) (vs : List Vt) (NA : Option Addr) (nn nc : Nat) (VA : Option Addr) (vn vc : Nat) (keep : Int) (w : World) (stop : Bool) (hnn : nn ≤ 60) (hn : ns.length = nn) (hu : upN (-1) ns = true) (hne : ns ≠ []) (hvn : vs.length = vn) (hvm : vn ≤ maxLen) (hr : RdI w w.heap.size NA ns) (hrv : RdVt w w.heap.size VA vs) (hvo : ∀ x ∈ vs, i64ok x.n ∧ i64ok x.k) :
    Calls Try.prog 5 #[.int .i64 (nd : Int), .agg #[.slice NA nn nc, .slice VA vn vc, .int .i64 keep], .bool stop] w (Ans (.bool true) w) := by
  cases stop
  · match ns, hne, hu, hn, hr with
    | a :: rest, hne, hu, hn, hr =>
      have ha := up_mem hu a (by simp)
      obtain ⟨f0, rfl⟩ : ∃ f0 : Nat, a = (f0 : Int) := ⟨a.toNat, by omega⟩
      exact stops_false hnd _ vs NA nn nc VA vn vc keep w hnn hn hu rfl hne hvn hvm hr hrv hvo
  · exact stops_true hnd ns vs NA nn nc VA vn vc keep w hnn hn hu hne hvn hvm hr hrv hvo
/-- the law, whatever the arguments -/
theorem coordinatorStops_law (node : Int) (ns : List Int) (vs : List Vt) (NA : Option Addr) (nn nc : Nat) (VA : Option Addr) (vn vc : Nat) (keep : Int) (w : World) (stop : Bool) (hn : ns.length = nn) (hnm : nn ≤ maxLen) (hvn : vs.length = vn) (hvm : vn ≤ maxLen) (hr : RdI w w.heap.size NA ns) (hrv : RdVt w w.heap.size VA vs) (hvo : ∀ x ∈ vs, i64ok x.n ∧ i64ok x.k) :
    Calls Try.prog 5 #[.int .i64 node, .agg #[.slice NA nn nc, .slice VA vn vc, .int .i64 keep], .bool stop] w (Ans (.bool true) w) := by
  by_cases hb : node < 0 ∨ 16 ≤ node
  · exact stops_bad node hb NA nn nc VA vn vc keep stop w
  obtain ⟨nd, rfl⟩ : ∃ nd : Nat, node = (nd : Int) := ⟨node.toNat, by omega⟩
  have hnd : nd < 16 := by omega
  by_cases hl : 60 < nn
  · exact stops_long hnd NA nn nc VA vn vc keep stop w hl hnm
  by_cases hne : ns = []
  · exact stops_arg hnd ns NA nn nc VA vn vc keep stop w (by omega) hn (.inr hne) hr
  cases hu : upN (-1) ns
  · exact stops_arg hnd ns NA nn nc VA vn vc keep stop w (by omega) hn (.inl hu) hr
  · exact stops_one hnd ns vs NA nn nc VA vn vc keep w stop (by omega) hn hu hne hvn hvm hr hrv hvo
end Go.Proofs.Ytajcmkhkknofgaa

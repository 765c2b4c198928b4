/- told: is a fault the document's? -/
import Derived.Test.YtjfbhajaddgmpaaDoorNH
import Derived.Test.YtjfbhajaddgmpaaDoorFB
import Derived.Test.YtjfbhajaddgmpaaDoorNP
namespace Go.Proofs.YtjfbhajaddgmpaaDoor
open Go.RowKit

theorem codes_slice (t : Tree) (w : World) (hR : Rep w t) (hn : t.codes.length ≤ 1000000) : Calls Tryd.prog 31 #[t.val] w fun e w' => (∃ p c, e = .returned (.slice p t.codes.length c)) ∧ Below w.heap.size w w' :=
  (codes_any t w hR hn).mono fun e w' ⟨v, he, hb, ho⟩ => ⟨by
    have hl : (vals t.codes).length = t.codes.length := by simp [vals]
    rcases ho.2 with ⟨hv, h0⟩ | ⟨g, cap, cur, hv, _⟩
    · exact ⟨none, 0, by rw [he, hv]; rw [hl] at h0; rw [h0]⟩
    · exact ⟨some ⟨g, 0, none⟩, cap, by rw [he, hv, hl]⟩, hb⟩
set_option maxRecDepth 100000 in
set_option maxHeartbeats 4000000 in
theorem told_core (v : Value) (c p : Int) (m : Nat) (hm : (m : Int) ≤ 1) (w : World)
    (CD : ∀ w', Below w.heap.size w w' → Calls Tryd.prog 13 #[v] w' (Ans (.int .i64 c) w'))
    (CA : ∀ w', Below w.heap.size w w' → Calls Tryd.prog 14 #[v] w' (Ans (.int .i64 p) w'))
    (CC : ∀ w', Below w.heap.size w w' → Calls Tryd.prog 31 #[v] w' fun e w2 => (∃ q d, e = .returned (.slice q m d)) ∧ Below w'.heap.size w' w2) :
    Calls Tryd.prog 9 #[v, .agg #[.int .i64 c, .int .i64 p]] w (Ans (.bool true) w) := by
  replace CD := Lib.hid CD
  replace CA := Lib.hid CA
  replace CC := Lib.hid CC
  have HX := Lib.hid (show (w.alloc (.cells #[.int .i64 c, .int .i64 p] 33)).drew.heap[w.heap.size]? = some (.cells #[.int .i64 c, .int .i64 p] 33 (0, 0)) from heap_alloc_new _ _)
  have HB := Lib.hid (alloc_below w (.cells #[.int .i64 c, .int .i64 p] 33)).drew
  go_enter Tryd.func9, Tryd.ntmps9
  go_wp2_with fail
  go_region_held3 (fun W => W.cell? ⟨w.heap.size, 0, none⟩ = some (.int .i64 c) ∧ W.cell? ⟨w.heap.size, 1, none⟩ = some (.int .i64 p))
    (first | exact box2 HX.out | go_keep)
    (first
      | (go_at_call 13; refine (CD.out _ HB.out).mono ?_; rintro e w5 ⟨rfl, hb⟩
         have HX := Lib.hid ((hb.block _ (Array.getElem?_eq_some_iff.1 HX.out).1).trans HX.out)
         have HB := Lib.hid (HB.out.trans (hb.mono HB.out.size)); clear hb)
      | (go_at_call 14; refine (CA.out _ HB.out).mono ?_; rintro e w6 ⟨rfl, hb⟩
         have HX := Lib.hid ((hb.block _ (Array.getElem?_eq_some_iff.1 HX.out).1).trans HX.out)
         have HB := Lib.hid (HB.out.trans (hb.mono HB.out.size)); clear hb)
      | (go_at_call 31; refine (CC.out _ HB.out).mono ?_; rintro e w7 ⟨⟨q, d, rfl⟩, hb⟩
         have HX := Lib.hid ((hb.block _ (Array.getElem?_eq_some_iff.1 HX.out).1).trans HX.out)
         have HB := Lib.hid (HB.out.trans (hb.mono HB.out.size)); clear hb))
  go_wp2_with fail
  go_ret
  exact ⟨rfl, HB.out⟩
theorem told_tree (t : Tree) (c p : Int) (w : World) (hR : Rep w t) (hg : Handle w) (hc : t.codes.headD 0 = c) (hp : t.places.headD (-1) = p) (hl : t.codes.length ≤ 1) :
    Calls Tryd.prog 9 #[t.val, .agg #[.int .i64 c, .int .i64 p]] w (Ans (.bool true) w) := by
  refine told_core t.val c p t.codes.length (by omega) w (fun w' hb => ?_) (fun w' hb => ?_) (fun w' hb => ?_)
  · rw [← hc]; exact code_any t w' (hR.below hb) (hg.below hb)
  · rw [← hp]; exact at_any t w' (hR.below hb) (hg.below hb)
  · exact codes_slice t w' (hR.below hb) (by omega)
theorem told_nil (w : World) (hg : Handle w) : Calls Tryd.prog 9 #[.nilIface, .agg #[.int .i64 0, .int .i64 (-1)]] w (Ans (.bool true) w) :=
  told_tree .nil 0 (-1) w trivial hg rfl rfl (Nat.zero_le _)
theorem told_at (N : Nat) (c p : Int) (w : World) (h : FaultAt w c p (.iface 69 (.pointer (some ⟨N, 0, none⟩)))) (hc : c ≠ 0) (oc : i64ok c) (op : i64ok p) (hg : Handle w) :
    Calls Tryd.prog 9 #[.iface 69 (.pointer (some ⟨N, 0, none⟩)), .agg #[.int .i64 c, .int .i64 p]] w (Ans (.bool true) w) := by
  obtain ⟨M, hv, he, hR⟩ := h.tree hc oc op
  rw [he]
  exact told_tree (.fault M c p .nil) c p w hR hg rfl rfl (Nat.le_refl 1)
end Go.Proofs.YtjfbhajaddgmpaaDoor

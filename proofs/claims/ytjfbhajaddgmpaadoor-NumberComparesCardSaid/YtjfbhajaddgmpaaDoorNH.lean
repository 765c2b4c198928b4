/- The law's own helpers: whole, dec, alive; Neg; a fault as a tree. -/
import Derived.Test.YtjfbhajaddgmpaaDoorNG
import Derived.Test.YtjfbhajaddgmpaaDoorFD
namespace Go.Proofs.YtjfbhajaddgmpaaDoor
open Go.RowKit
attribute [local go_sem ↓] eqV

theorem whole_any (n : Int) (w : World) : Calls Tryd.prog 12 #[.int .i64 n] w (Ans (.agg #[.int .i64 2, .int .i64 n, .string ⟨#[]⟩]) w) := by
  go_enter Tryd.func12, Tryd.ntmps12
  go_wp2
  exact bodyPost_ret (v := .agg #[.int .i64 2, .int .i64 n, .string ⟨#[]⟩]) (by simp [results, Tryd.results12, go_sem]) rfl ⟨rfl, alloc_below _ _⟩
theorem dec_any (n : Int) (w : World) : Calls Tryd.prog 11 #[.int .i64 n] w (Ans (.agg #[.int .i64 3, .int .i64 n, .string ⟨#[]⟩]) w) := by
  go_enter Tryd.func11, Tryd.ntmps11
  go_wp2
  exact bodyPost_ret (v := .agg #[.int .i64 3, .int .i64 n, .string ⟨#[]⟩]) (by simp [results, Tryd.results11, go_sem]) rfl ⟨rfl, alloc_below _ _⟩
/-- a fault in memory, as a tree -/
theorem FaultAt.tree {w : World} {c p : Int} {v : Value} (h : FaultAt w c p v) (hc : c ≠ 0) (oc : i64ok c) (op : i64ok p) : ∃ N, v = .iface 69 (.pointer (some ⟨N, 0, none⟩)) ∧ v = (Tree.fault N c p .nil).val ∧ Rep w (.fault N c p .nil) := by
  obtain ⟨N, rfl, hN⟩ := h
  exact ⟨N, rfl, rfl, hN, hc, oc, op, Nat.zero_le _, trivial⟩
/-- Code and At of such a fault -/
theorem code_fault {w : World} {N : Nat} {c p : Int} (h : Rep w (.fault N c p .nil)) (hg : Handle w) : Calls Tryd.prog 13 #[.iface 69 (.pointer (some ⟨N, 0, none⟩))] w (Ans (.int .i64 c) w) := code_any (.fault N c p .nil) w h hg
theorem at_fault {w : World} {N : Nat} {c p : Int} (h : Rep w (.fault N c p .nil)) (hg : Handle w) : Calls Tryd.prog 14 #[.iface 69 (.pointer (some ⟨N, 0, none⟩))] w (Ans (.int .i64 p) w) := at_any (.fault N c p .nil) w h hg
theorem live1 : reckonN 6 3 (-10000) 2 3 = .ok 3 (-3333) := by decide
theorem live2 : reckonN 3 2 9223372036854775807 2 1 = .bad 31 2 := by decide
theorem alive_r1 (w : World) : Calls Tryd.prog 10 #[.int .i64 6, .agg #[.int .i64 3, .int .i64 (-10000), .string ⟨#[]⟩], .agg #[.int .i64 2, .int .i64 3, .string ⟨#[]⟩]] w fun e w' => e = .returned (.tuple #[.agg #[.int .i64 3, .int .i64 (-3333), .string ⟨#[]⟩], .nilIface]) ∧ Below w.heap.size w w' := by
  have h := reckon_any 6 3 (-10000) 2 3 (.inr (.inl rfl)) (.inl rfl) (by unfold i64ok; omega) (by unfold i64ok; omega) w
  rw [live1] at h
  exact h.mono fun _ _ ⟨a, b⟩ => ⟨b, a⟩
theorem alive_r2 (w : World) : Calls Tryd.prog 10 #[.int .i64 3, .agg #[.int .i64 2, .int .i64 9223372036854775807, .string ⟨#[]⟩], .agg #[.int .i64 2, .int .i64 1, .string ⟨#[]⟩]] w
    fun e w' => ∃ N, e = .returned (.tuple #[.agg #[.int .i64 0, .int .i64 0, .string ⟨#[]⟩], .iface 69 (.pointer (some ⟨N, 0, none⟩))]) ∧ Rep w' (.fault N 31 2 .nil) ∧ Below w.heap.size w w' := by
  have h := reckon_any 3 2 9223372036854775807 2 1 (.inl rfl) (.inl rfl) (by unfold i64ok; omega) (by unfold i64ok; omega) w
  rw [live2] at h
  refine h.mono fun e w' h => ?_
  obtain ⟨hb, v, rfl, hf⟩ := h
  obtain ⟨N, rfl, _, hr⟩ := hf.tree (by omega) (by unfold i64ok; omega) (by unfold i64ok; omega)
  exact ⟨N, rfl, hr, hb⟩
set_option maxRecDepth 100000 in
set_option maxHeartbeats 8000000 in
theorem aliveN_any (w : World) (hg : Handle w) : Calls Tryd.prog 4 #[] w (Ans (.bool true) w) := by
  have HG := Lib.hid hg
  have WH := Lib.hid whole_any
  have DC := Lib.hid dec_any
  have HB := Lib.hid (Below.refl w.heap.size w)
  have heq : eqB 3 (-3333) ⟨#[]⟩ 3 (-3333) ⟨#[]⟩ = true := by unfold eqB; simp
  clear hg
  go_enter Tryd.func4, Tryd.ntmps4
  go_wp2_with (first
    | (go_at_call 11; refine (DC.out _ _).mono ?_; rintro e w1 ⟨rfl, hb⟩; have HB := Lib.hid (HB.out.trans (hb.mono HB.out.size)); clear hb)
    | (go_at_call 12; refine (WH.out _ _).mono ?_; rintro e w2 ⟨rfl, hb⟩; (first | have HX := Lib.hid ((hb.block _ (Array.getElem?_eq_some_iff.1 HX.out).1).trans HX.out) | skip); have HB := Lib.hid (HB.out.trans (hb.mono HB.out.size)); clear hb)
    | (go_at_call 10; (with_reducible refine (alive_r1 _).mono ?_); rintro e w3 ⟨rfl, hb⟩
       have HX := Lib.hid (heap_alloc_new w3 (.cells #[.int .i64 3, .int .i64 (-3333), .string ⟨#[]⟩] 25))
       have HB := Lib.hid (HB.out.trans ((hb.trans ((alloc_below _ (.cells #[.int .i64 3, .int .i64 (-3333), .string ⟨#[]⟩] 25)).mono hb.size)).mono HB.out.size)); clear hb)
    | (go_at_call 10; (with_reducible refine (alive_r2 _).mono ?_); rintro e w4 ⟨N, rfl, hr, hb⟩
       have hba := alloc_below w4 (.cells #[.int .i64 0, .int .i64 0, .string ⟨#[]⟩] 25)
       have HF := Lib.hid ((hr.below hba).below (drew_below _))
       have hbb := (hb.trans (hba.mono hb.size)).drew
       have HX := Lib.hid ((hbb.block _ (Array.getElem?_eq_some_iff.1 HX.out).1).trans HX.out)
       have HB := Lib.hid (HB.out.trans (hbb.mono HB.out.size)); clear hb hba hbb hr))
  go_region_held3 (fun W => W.cell? ⟨w3.heap.size, 0, none⟩ = some (.int .i64 3) ∧ W.cell? ⟨w3.heap.size, 1, none⟩ = some (.int .i64 (-3333)) ∧ W.cell? ⟨w3.heap.size, 2, none⟩ = some (.string ⟨#[]⟩))
    (first | exact box3 HX.out | go_keep)
    (first
      | (go_at_call 11; refine (DC.out _ _).mono ?_; rintro e w5 ⟨rfl, hb⟩
         have HF := Lib.hid (HF.out.below hb)
         have HX := Lib.hid ((hb.block _ (Array.getElem?_eq_some_iff.1 HX.out).1).trans HX.out)
         have HB := Lib.hid (HB.out.trans (hb.mono HB.out.size)); clear hb)
      | (go_at_call 13; refine (code_fault HF.out (HG.out.below HB.out)).mono ?_; rintro e w6 ⟨rfl, hb⟩
         have HF := Lib.hid (HF.out.below hb)
         have HX := Lib.hid ((hb.block _ (Array.getElem?_eq_some_iff.1 HX.out).1).trans HX.out)
         have HB := Lib.hid (HB.out.trans (hb.mono HB.out.size)); clear hb)
      | (go_at_call 14; refine (at_fault HF.out (HG.out.below HB.out)).mono ?_; rintro e w7 ⟨rfl, hb⟩
         have HF := Lib.hid (HF.out.below hb)
         have HX := Lib.hid ((hb.block _ (Array.getElem?_eq_some_iff.1 HX.out).1).trans HX.out)
         have HB := Lib.hid (HB.out.trans (hb.mono HB.out.size)); clear hb))
  go_wp2_with fail
  go_ret
  exact ⟨rfl, HB.out⟩
end Go.Proofs.YtjfbhajaddgmpaaDoor

/- Package key: Next; the document's Next. -/
import Derived.Test.YtaokblhflhlhiaaKI
namespace Go.Proofs.Ytaokblhflhlhiaa
open Go.RowKit

theorem own_empty {w : World} {B : Nat} (h : B ≤ w.heap.size) (t : TypeId) : OwnB (w.alloc (.cells #[] 5)) B (.slice (some ⟨w.heap.size, 0, none⟩) 0 0) [] :=
  OwnB.of_row (n := 0) (l := []) (by have := t; exact own_lit (cs := #[]) (heap_alloc_new w _) h rfl (by omega))
/-- what Clone answers -/
def CloneTo (w : World) (l : List UInt8) (e : Ending) (w' : World) : Prop := ∃ v, e = .returned v ∧ OwnB w' w.heap.size v l ∧ Below w.heap.size w w'
theorem grew_below {w w1 w2 : World} {v v2 : Value} (hb : Below w.heap.size w w1) (hv : ∀ k, v.ownBlock = some k → w.heap.size ≤ k) (h : Grew w1 v w2 v2) : Below w.heap.size w w2 := hb.trans (h.toBelow hb.size hv)
set_option maxRecDepth 100000 in
theorem clone_any (l : List UInt8) (a : Addr) (cap : Nat) (w : World) (hl : l.length ≤ 100000) (hr : RdB w w.heap.size (some a) l) : Calls Try.prog 28 #[.slice (some a) l.length cap] w (CloneTo w l) := by
  obtain ⟨i0, hi, hz0, hz1, hz2⟩ := info_parts info8
  have hnil : ∀ (w : World) (a : Option Addr) (n c n' c' : Nat), (binOp .eql 23 (.slice a n c) (.slice none n' c')).run Try.prog w = .ok (.bool a.isNone) w := fun w a n c n' c' => Lib.run_eql_slice_nil w _ _ a n c n' c' Try.underlying23
  have HR := Lib.hid hr
  have HL : Hid (([] : List UInt8).length + l.length ≤ 1000000) := Lib.hid (by simp; omega)
  clear hr hl
  go_enter Try.func28, Try.ntmps28
  go_wp2_with (at_builtin
               have h1 := own_empty (Nat.le_refl w.heap.size) 0
               have h2 := HR.out.below (alloc_below w (.cells #[] 5)) (Nat.le_refl _)
               refine wpList_appB (xs := []) (ys := l) (B := w.heap.size) rfl _ _ 23 rfl Try.underlying23 hi hz0 hz1 hz2 rfl h1 rfl rfl h2 HL.out (by simp) ?_
               intro v5 w5 ho5 hg5
               have HY : Hid (CloneTo w l (.returned v5) w5) := Lib.hid ⟨v5, rfl, ho5, grew_below (alloc_below w (.cells #[] 5)) h1.ge hg5⟩
               clear ho5 hg5 h1 h2)
  go_ret
  exact HY.out
/-- what Next answers -/
def NextTo (w : World) (l : List UInt8) (e : Ending) (w' : World) : Prop := Below w.heap.size w w' ∧ ((nextL l = none ∧ e = .returned (.slice none 0 0)) ∨ ∃ r v, nextL l = some r ∧ e = .returned v ∧ OwnB w' w.heap.size v r)
/-- at the head of its loop: what is behind is 255 -/
def NXL (l : List UInt8) (v3 : Value) : Prop := ∃ k : Nat, v3 = .int .i64 k ∧ k ≤ l.length ∧ ∀ x ∈ l.drop k, x = 255
/-- a row of one byte or more stands at a block's head -/
theorem OwnB.head {w : World} {B : Nat} {v : Value} {l : List UInt8} (h : OwnB w B v l) (hn : 0 < l.length) : ∃ g cap, v = .slice (some ⟨g, 0, none⟩) l.length cap ∧ B ≤ g := by
  rcases h.1.2 with ⟨_, h0⟩ | ⟨g, cap, cur, e, hg, _⟩
  · omega
  · exact ⟨g, cap, e, hg⟩
/-- the last byte of a row of the call's own, written -/
theorem own_set {w : World} {B m cap g : Nat} {l : List UInt8} {d : UInt8} {x : Int} (h : OwnB w B (.slice (some ⟨g, 0, none⟩) l.length cap) l) (hm : l.length = m + 1) (hx : x = (d.toNat : Int)) :
    OwnB (w.setCell ⟨g, m, none⟩ (.int .u8 x)) B (.slice (some ⟨g, 0, none⟩) l.length cap) (l.take m ++ [d]) := by
  subst hx
  have h1 := (h.1.stored (g := g) m (.int .u8 (d.toNat : Int))).1
  have e : (bytesV l).set m (.int .u8 (d.toNat : Int)) = bytesV (l.take m ++ [d]) := by
    apply List.ext_getElem?
    intro j
    rw [List.getElem?_set]
    simp only [bytesV, List.getElem?_map, List.length_map, List.getElem?_append, List.length_take, hm]
    have hmin : min m (m + 1) = m := by omega
    rw [hmin]
    by_cases hj : m = j
    · subst hj
      simp
    · rw [if_neg hj]
      by_cases hlt : j < m
      · rw [if_pos hlt, List.getElem?_take, if_pos hlt]
      · rw [if_neg hlt, List.getElem?_eq_none (by omega), List.getElem?_eq_none (by simp; omega)]
  rw [e] at h1
  exact OwnB.of_row h1
theorem own_get {w : World} {B m cap g : Nat} {l : List UInt8} {c : UInt8} (h : OwnB w B (.slice (some ⟨g, 0, none⟩) l.length cap) l) (hm : l.length = m + 1) (hc : l[m]? = some c) : w.cell? ⟨g, m, none⟩ = some (.int .u8 (c.toNat : Int)) ∧ w.frozen? ⟨g, m, none⟩ = false := by
  refine ⟨?_, h.1.frozenAt m⟩
  rw [h.1.cellAt m (by omega)]
  simp [bytesV, hc]
theorem next_nil {l : List UInt8} (h : ∀ x ∈ l.drop 0, x = 255) : nextL l = none := (next_none l).2 (by simpa using h)
theorem next_some {l : List UInt8} {m : Nat} {c : UInt8} (hc : l[m]? = some c) (h255 : ¬ c = 255) (h : ∀ x ∈ l.drop (m + 1), x = 255) : nextL l = some (l.take m ++ [c + 1]) := by
  have hm := (List.getElem?_eq_some_iff.1 hc).1
  have hcm := (List.getElem?_eq_some_iff.1 hc).2
  have e : l = l.take m ++ c :: l.drop (m + 1) := by
    rw [← hcm, ← List.drop_eq_getElem_cons hm, List.take_append_drop]
  have h2 := next_at (l.take m) (l.drop (m + 1)) c h255 h
  rw [← e] at h2
  exact h2
set_option maxRecDepth 100000 in
set_option maxHeartbeats 2000000 in
theorem next_any (l : List UInt8) (A : Option Addr) (cap : Nat) (w : World) (hl : l.length ≤ 100000) (hr : RdB w w.heap.size A l) (hcap : l.length ≤ cap) : Calls Try.prog 18 #[.slice A l.length cap] w (NextTo w l) := by
  have HS : Hid (NXL l (.int .i64 l.length)) := Lib.hid ⟨l.length, rfl, Nat.le_refl _, fun x hx => by simp at hx⟩
  have HR := Lib.hid hr
  have hli : (l.length : Int) ≤ 100000 := by omega
  clear hr
  go_enter Try.func18, Try.ntmps18
  go_wp2_with fail
  go_loop [3] (fun v3 => NXL l v3) (fun v3 => (intOf v3).toNat)
  case atStart => exact HS.out
  case round =>
    obtain ⟨k, rfl, hk, h255⟩ := hrel
    have H := Lib.hid h255
    clear h255
    rcases Nat.eq_zero_or_pos k with hk0 | hk0
    · subst hk0
      have HY : Hid (NextTo w l (.returned (.slice none 0 0)) w) := Lib.hid ⟨Below.refl _ _, .inl ⟨next_nil H.out, rfl⟩⟩
      go_wp2_with fail
      go_ret
      exact HY.out
    · obtain ⟨m, rfl⟩ : ∃ m, k = m + 1 := ⟨k - 1, by omega⟩
      obtain ⟨c, hc⟩ : ∃ c, l[m]? = some c := ⟨_, List.getElem?_eq_getElem (by omega)⟩
      obtain ⟨ad, hA, hblk, hcells⟩ := HR.out (fun e => by subst e; simp at hk)
      have hcell := hcells m c hc
      subst hA
      have HC := Lib.hid hc
      have hmi : (m : Int) < (l.length : Int) := by omega
      have hmc : m + 1 ≤ cap := by omega
      clear hcells hc
      by_cases h : c = 255
      · subst h
        have HD : Hid (NXL l (.int .i64 (m : Int))) := Lib.hid ⟨m, rfl, by omega, fun x hx => by
          have hm := (List.getElem?_eq_some_iff.1 HC.out).1
          rw [List.drop_eq_getElem_cons hm, (List.getElem?_eq_some_iff.1 HC.out).2, List.mem_cons] at hx
          rcases hx with rfl | hx
          · rfl
          · exact H.out x hx⟩
        go_wp2_with fail
        go_round
        case rel => exact HD.out
        case measure => simp [intOf]
      · have hz : ((c.toNat : Int) == 255) = false := by
          have h1 : c.toNat ≠ 255 := fun e => h (u8_ext e)
          simp; omega
        have H255 : Hid (c.toNat + 1 < 256) := Lib.hid (by have h1 : c.toNat ≠ 255 := fun e => h (u8_ext e); have := c.toNat_lt; omega)
        have HN : Hid (nextL l = some (l.take m ++ [c + 1])) := Lib.hid (next_some HC.out h H.out)
        have HSU := Lib.hid (succ_u8 h)
        have HTL : Hid ((l.take (m + 1)).length = m + 1) := Lib.hid (by rw [List.length_take]; omega)
        have HCT : Hid ((l.take (m + 1))[m]? = some c) := Lib.hid (by rw [List.getElem?_take, if_pos (by omega)]; exact HC.out)
        have HTT : Hid ((l.take (m + 1)).take m = l.take m) := Lib.hid (by rw [List.take_take]; congr 1; omega)
        have CL := Lib.hid (clone_any (l.take (m + 1)) ad cap w (by rw [HTL.out]; omega) (HR.out.take _))
        rw [HTL.out] at CL
        have h256 := c.toNat_lt
        clear h hk hl hcap
        go_wp2_with (go_at_call 28; refine CL.out.mono ?_; rintro e w5 ⟨v5, rfl, ho5, hb5⟩
                     obtain ⟨g, cap5, hv5, hg5⟩ := ho5.head (by rw [HTL.out]; omega)
                     subst hv5
                     obtain ⟨x0, z0⟩ := own_get ho5 HTL.out HCT.out
                     have HY : Hid (∀ x : Int, x = ((c + 1).toNat : Int) → NextTo w l (.returned (.slice (some ⟨g, 0, none⟩) (m + 1) cap5)) (w5.setCell ⟨g, m, none⟩ (.int .u8 x))) := Lib.hid fun x hx => ⟨hb5.setCell hg5 _, .inr ⟨_, _, HN.out, rfl, by have h1 := own_set ho5 HTL.out hx; rw [HTL.out, HTT.out] at h1; exact h1⟩⟩
                     rw [HTL.out]
                     clear ho5 hb5 hg5)
        go_ret
        exact HY.out _ (by rw [HSU.out]; have := H255.out; omega)
set_option maxRecDepth 100000 in
set_option maxHeartbeats 2000000 in
theorem refNext_any (l : List UInt8) (A : Option Addr) (cap : Nat) (w : World) (hl : l.length ≤ 100000) (hr : RdB w w.heap.size A l) (hcap : l.length ≤ cap) : Calls Try.prog 19 #[.slice A l.length cap] w (NextTo w l) := by
  obtain ⟨i0, hi, hz0, hz1, hz2⟩ := info_parts info8
  have HS : Hid (NXL l (.int .i64 l.length)) := Lib.hid ⟨l.length, rfl, Nat.le_refl _, fun x hx => by simp at hx⟩
  have HR := Lib.hid hr
  have hli : (l.length : Int) ≤ 100000 := by omega
  clear hr
  go_enter Try.func19, Try.ntmps19
  go_wp2_with fail
  go_loop [3] (fun v3 => NXL l v3) (fun v3 => (intOf v3).toNat)
  case atStart => exact HS.out
  case round =>
    obtain ⟨k, rfl, hk, h255⟩ := hrel
    have H := Lib.hid h255
    clear h255
    rcases Nat.eq_zero_or_pos k with hk0 | hk0
    · subst hk0
      have HY : Hid (NextTo w l (.returned (.slice none 0 0)) w) := Lib.hid ⟨Below.refl _ _, .inl ⟨next_nil H.out, rfl⟩⟩
      go_wp2_with fail
      go_ret
      exact HY.out
    · obtain ⟨m, rfl⟩ : ∃ m, k = m + 1 := ⟨k - 1, by omega⟩
      obtain ⟨c, hc⟩ : ∃ c, l[m]? = some c := ⟨_, List.getElem?_eq_getElem (by omega)⟩
      obtain ⟨ad, hA, hblk, hcells⟩ := HR.out (fun e => by subst e; simp at hk)
      have hcell := hcells m c hc
      subst hA
      have HC := Lib.hid hc
      have hmi : (m : Int) < (l.length : Int) := by omega
      have hmc : m + 1 ≤ cap := by omega
      clear hcells hc
      by_cases h : c = 255
      · subst h
        have HD : Hid (NXL l (.int .i64 (m : Int))) := Lib.hid ⟨m, rfl, by omega, fun x hx => by
          have hm := (List.getElem?_eq_some_iff.1 HC.out).1
          rw [List.drop_eq_getElem_cons hm, (List.getElem?_eq_some_iff.1 HC.out).2, List.mem_cons] at hx
          rcases hx with rfl | hx
          · rfl
          · exact H.out x hx⟩
        go_wp2_with fail
        go_round
        case rel => exact HD.out
        case measure => simp [intOf]
      · have hz : ((c.toNat : Int) == 255) = false := by
          have h1 : c.toNat ≠ 255 := fun e => h (u8_ext e)
          simp; omega
        have H255 : Hid (c.toNat + 1 < 256) := Lib.hid (by have h1 : c.toNat ≠ 255 := fun e => h (u8_ext e); have := c.toNat_lt; omega)
        have HN : Hid (nextL l = some (l.take m ++ [c + 1])) := Lib.hid (next_some HC.out h H.out)
        have HSU := Lib.hid (succ_u8 h)
        have HTL : Hid ((l.take (m + 1)).length = m + 1) := Lib.hid (by rw [List.length_take]; omega)
        have HCT : Hid ((l.take (m + 1))[m]? = some c) := Lib.hid (by rw [List.getElem?_take, if_pos (by omega)]; exact HC.out)
        have HTT : Hid ((l.take (m + 1)).take m = l.take m) := Lib.hid (by rw [List.take_take]; congr 1; omega)
        have h2r := Lib.hid ((HR.out.take (m + 1)).below (alloc_below w (.cells #[] 5)) (Nat.le_refl _))
        have HL : Hid (([] : List UInt8).length + (l.take (m + 1)).length ≤ 1000000) := Lib.hid (by rw [HTL.out]; simp; omega)
        have h256 := c.toNat_lt
        clear h hk hl hcap
        go_wp2_with (at_builtin
                     have h1 := own_empty (Nat.le_refl w.heap.size) 0
                     have h2 := h2r.out
                     refine wpList_appB (xs := []) (ys := l.take (m + 1)) (B := w.heap.size) rfl _ _ 23 rfl Try.underlying23 hi hz0 hz1 hz2 rfl h1 rfl HTL.out h2 HL.out (by simp) ?_
                     intro v5 w5 ho5 hg5
                     have hb5 := grew_below (alloc_below w (.cells #[] 5)) h1.ge hg5
                     obtain ⟨g, cap5, hv5, hg⟩ := ho5.head (by rw [List.nil_append, HTL.out]; omega)
                     rw [List.nil_append] at ho5 hv5
                     subst hv5
                     obtain ⟨x0, z0⟩ := own_get ho5 HTL.out HCT.out
                     have HY : Hid (∀ x : Int, x = ((c + 1).toNat : Int) → NextTo w l (.returned (.slice (some ⟨g, 0, none⟩) (m + 1) cap5)) (w5.setCell ⟨g, m, none⟩ (.int .u8 x))) := Lib.hid fun x hx => ⟨hb5.setCell hg _, .inr ⟨_, _, HN.out, rfl, by have h1 := own_set ho5 HTL.out hx; rw [HTL.out, HTT.out] at h1; exact h1⟩⟩
                     rw [HTL.out]
                     clear ho5 hb5 hg hg5 h1 h2)
        go_ret
        exact HY.out _ (by rw [HSU.out]; have := H255.out; omega)
end Go.Proofs.Ytaokblhflhlhiaa

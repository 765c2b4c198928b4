/- Package letter: Decode where the row is five numbers; Decode whole. -/
import Derived.Test.YthdhifnafgidaaaZN
namespace Go.Proofs.Ythdhifnafgidaaa
open Go.RowKit

set_option maxRecDepth 100000 in
set_option maxHeartbeats 8000000 in
/-- .. of five numbers that are no right letter -/
theorem decL_bad {k f t x b : Int} (hb : 0 ≤ b ∧ b < 65536) (hm : ∀ y ∈ [intV k, intV f, intV t, intV x, intV b], y.R) (hR : (ofNums k f t x b).right = false) {A : Option Addr} {n cap : Nat} {w : World} (hn : (rowB [intV k, intV f, intV t, intV x, intV b]).length = n) (hcap : n ≤ cap) (hr : RdB w w.heap.size A (rowB [intV k, intV f, intV t, intV x, intV b])) : Calls Try.prog 31 #[.slice A n cap] w (DcN w) := by
  obtain ⟨w0, hw0⟩ : ∃ w0, w0 = w.alloc (.cells #[.int .i64 0, .int .i64 0, .int .i64 0, .int .i64 0, .slice none 0 0] 32) := ⟨_, rfl⟩
  have hb0 : Below w.heap.size w w0 := by rw [hw0]; exact alloc_below w _
  have hs0 : w0.heap.size = w.heap.size + 1 := by rw [hw0]; simp
  obtain ⟨hX, hZ⟩ := dec_box hw0
  have HX := Lib.hid hX
  have HZ := Lib.hid hZ
  have HD := Lib.hid (rdec_yes hm (by simp) hn hcap ((hr.below hb0 (Nat.le_refl _)).more hb0.size) (w := w0))
  have HW := Lib.hid (fun W A cap hv => whole_yes hb hm A cap W hv)
  obtain ⟨ns, hns⟩ : ∃ ns, ns = nodesI b.toNat := ⟨_, rfl⟩
  have hl : ns.length ≤ 16 := by
    have := up_len (a := -1) (by omega) (by omega) (nodesI_up b.toNat)
    rw [← hns] at this; omega
  have HRI := Lib.hid (fun W A cap hv => rightL_any k f t x ns A ns.length cap rfl (by omega) W hv)
  have hR2 : Ltr.right ⟨k, f, t, x, ns⟩ = false := by rw [hns]; exact hR
  rw [hR2] at HRI
  have HOW : Hid (ofNums k f t x b = ⟨k, f, t, x, ns⟩) := Lib.hid (by rw [hns]; rfl)
  rw [HOW.out] at HW
  unfold WhY at HW
  unfold RdY at HD
  simp only [List.length_cons, List.length_nil, Nat.zero_add, Nat.reduceAdd] at HD
  have hli : (ns.length : Int) ≤ 16 := by omega
  have HS0 := Lib.hid hs0
  clear hX hZ hr hn hm hcap hb0 hR hR2 hns hl hb hs0
  subst hw0
  go_enter Try.func31, Try.ntmps31
  go_wp2_with (first
    | (go_at_call 40; refine HD.out.mono ?_; rintro e w1 ⟨A1, cap1, rfl, hv, hb⟩
       have HV := Lib.hid hv
       have HB1 := Lib.hid hb
       clear hv hb)
    | (go_at_call 41; refine (HW.out _ _ _ HV.out).mono ?_; rintro e w2 ⟨A2, cap2, rfl, ho, hb⟩
       have HO := Lib.hid ho
       have HB2 := Lib.hid (HB1.out.trans (hb.mono HB1.out.size))
       have HG := Lib.hid HB1.out.size
       have hbx := heap_alloc_new w2 (.cells #[.int .i64 k, .int .i64 f, .int .i64 t, .int .i64 x, .slice A2 ns.length cap2] 32)
       have HBX := Lib.hid hbx
       obtain ⟨x0, x1, x2, x3, x4⟩ := box5 hbx
       clear ho hb hbx)
    | (go_at_call 37; refine (HRI.out _ _ _ ((HO.out.rd.below (alloc_below _ _) (Nat.le_refl _)).more (alloc_below _ _).size)).mono ?_; rintro e w4 ⟨rfl, hb⟩
       have hbo := (alloc_below w2 (.cells #[.int .i64 k, .int .i64 f, .int .i64 t, .int .i64 x, .slice A2 ns.length cap2] 32)).trans (hb.mono (alloc_below w2 (.cells #[.int .i64 k, .int .i64 f, .int .i64 t, .int .i64 x, .slice A2 ns.length cap2] 32)).size)
       have h04 := HB2.out.trans (hbo.mono HB2.out.size)
       obtain ⟨x0, x1, x2, x3, x4⟩ := box5 ((hb.block _ (Array.getElem?_eq_some_iff.1 HBX.out).1).trans HBX.out)
       have h1 := HX.out w4 h04
       obtain ⟨y0, y1, y2, y3, y4⟩ := box5 h1
       have z0 := frozen_of h1 0
       have z1 := frozen_of h1 1
       have z2 := frozen_of h1 2
       have z3 := frozen_of h1 3
       have z4 := frozen_of h1 4
       have HQ := Lib.hid (HZ.out w4 (.int .i64 0) (.int .i64 0) (.int .i64 0) (.int .i64 0) (.slice none 0 0) h04).1
       clear h1 h04 hbo hb))
  refine bodyPost_ret (v := .tuple #[.agg #[.int .i64 0, .int .i64 0, .int .i64 0, .int .i64 0, .slice none 0 0], .int .i64 111]) (by simp [results, Try.results31, go_sem, y0, y1, y2, y3, y4]) rfl ?_
  exact ⟨rfl, HQ.out⟩
set_option maxRecDepth 100000 in
set_option maxHeartbeats 8000000 in
/-- .. of a right letter -/
theorem decL_yes {k f t x b : Int} (hb : 0 ≤ b ∧ b < 65536) (hm : ∀ y ∈ [intV k, intV f, intV t, intV x, intV b], y.R) (hR : (ofNums k f t x b).right = true) {A : Option Addr} {n cap : Nat} {w : World} (hn : (rowB [intV k, intV f, intV t, intV x, intV b]).length = n) (hcap : n ≤ cap) (hr : RdB w w.heap.size A (rowB [intV k, intV f, intV t, intV x, intV b])) : Calls Try.prog 31 #[.slice A n cap] w (DcY w (ofNums k f t x b)) := by
  obtain ⟨w0, hw0⟩ : ∃ w0, w0 = w.alloc (.cells #[.int .i64 0, .int .i64 0, .int .i64 0, .int .i64 0, .slice none 0 0] 32) := ⟨_, rfl⟩
  have hb0 : Below w.heap.size w w0 := by rw [hw0]; exact alloc_below w _
  have hs0 : w0.heap.size = w.heap.size + 1 := by rw [hw0]; simp
  obtain ⟨hX, hZ⟩ := dec_box hw0
  have HX := Lib.hid hX
  have HZ := Lib.hid hZ
  have HD := Lib.hid (rdec_yes hm (by simp) hn hcap ((hr.below hb0 (Nat.le_refl _)).more hb0.size) (w := w0))
  have HW := Lib.hid (fun W A cap hv => whole_yes hb hm A cap W hv)
  obtain ⟨ns, hns⟩ : ∃ ns, ns = nodesI b.toNat := ⟨_, rfl⟩
  have hl : ns.length ≤ 16 := by
    have := up_len (a := -1) (by omega) (by omega) (nodesI_up b.toNat)
    rw [← hns] at this; omega
  have HRI := Lib.hid (fun W A cap hv => rightL_any k f t x ns A ns.length cap rfl (by omega) W hv)
  have hR2 : Ltr.right ⟨k, f, t, x, ns⟩ = true := by rw [hns]; exact hR
  rw [hR2] at HRI
  have HOW : Hid (ofNums k f t x b = ⟨k, f, t, x, ns⟩) := Lib.hid (by rw [hns]; rfl)
  rw [HOW.out] at HW ⊢
  unfold WhY at HW
  unfold RdY at HD
  simp only [List.length_cons, List.length_nil, Nat.zero_add, Nat.reduceAdd] at HD
  have hli : (ns.length : Int) ≤ 16 := by omega
  have HS0 := Lib.hid hs0
  clear hX hZ hr hn hm hcap hb0 hR hR2 hns hl hb hs0
  subst hw0
  go_enter Try.func31, Try.ntmps31
  go_wp2_with (first
    | (go_at_call 40; refine HD.out.mono ?_; rintro e w1 ⟨A1, cap1, rfl, hv, hb⟩
       have HV := Lib.hid hv
       have HB1 := Lib.hid hb
       clear hv hb)
    | (go_at_call 41; refine (HW.out _ _ _ HV.out).mono ?_; rintro e w2 ⟨A2, cap2, rfl, ho, hb⟩
       have HO := Lib.hid ho
       have HB2 := Lib.hid (HB1.out.trans (hb.mono HB1.out.size))
       have HG := Lib.hid HB1.out.size
       have hbx := heap_alloc_new w2 (.cells #[.int .i64 k, .int .i64 f, .int .i64 t, .int .i64 x, .slice A2 ns.length cap2] 32)
       have HBX := Lib.hid hbx
       obtain ⟨x0, x1, x2, x3, x4⟩ := box5 hbx
       clear ho hb hbx)
    | (go_at_call 37; refine (HRI.out _ _ _ ((HO.out.rd.below (alloc_below _ _) (Nat.le_refl _)).more (alloc_below _ _).size)).mono ?_; rintro e w4 ⟨rfl, hb⟩
       have hbo := (alloc_below w2 (.cells #[.int .i64 k, .int .i64 f, .int .i64 t, .int .i64 x, .slice A2 ns.length cap2] 32)).trans (hb.mono (alloc_below w2 (.cells #[.int .i64 k, .int .i64 f, .int .i64 t, .int .i64 x, .slice A2 ns.length cap2] 32)).size)
       have h04 := HB2.out.trans (hbo.mono HB2.out.size)
       obtain ⟨x0, x1, x2, x3, x4⟩ := box5 ((hb.block _ (Array.getElem?_eq_some_iff.1 HBX.out).1).trans HBX.out)
       have h1 := HX.out w4 h04
       obtain ⟨y0, y1, y2, y3, y4⟩ := box5 h1
       have z0 := frozen_of h1 0
       have z1 := frozen_of h1 1
       have z2 := frozen_of h1 2
       have z3 := frozen_of h1 3
       have z4 := frozen_of h1 4
       have hz := HZ.out w4 (.int .i64 k) (.int .i64 f) (.int .i64 t) (.int .i64 x) (.slice A2 ns.length cap2) h04
       have hge := HO.out.ge
       have hg1 := HG.out
       have hs0 := HS0.out
       have HQ : Hid (DcY w ⟨k, f, t, x, ns⟩ (.returned (.tuple #[.agg #[.int .i64 k, .int .i64 f, .int .i64 t, .int .i64 x, .slice A2 ns.length cap2], .int .i64 0])) _) := Lib.hid ⟨A2, cap2, rfl, ((HO.out.below hbo).kept hz.2 (fun e => by have := hge _ e; omega)).low (by omega), hz.1⟩
       clear hz hge hg1 hs0
       clear h1 h04 hbo hb))
  refine bodyPost_ret (v := .tuple #[.agg #[.int .i64 k, .int .i64 f, .int .i64 t, .int .i64 x, .slice A2 ns.length cap2], .int .i64 0]) (by simp [results, Try.results31, go_sem, y0, y1, y2, y3, y4]) rfl ?_
  exact HQ.out
/-- whatever the bytes -/
def DcT (w : World) (bs : List UInt8) (e : Ending) (w' : World) : Prop := (∃ l : Ltr, l.right = true ∧ bs = l.bytes ∧ DcY w l e w') ∨ ((∀ l : Ltr, l.right = true → bs ≠ l.bytes) ∧ DcN w e w')
theorem decL_of {l : Ltr} (h : l.right = true) {A : Option Addr} {n cap : Nat} {w : World} (hn : l.bytes.length = n) (hcap : n ≤ cap) (hr : RdB w w.heap.size A l.bytes) : Calls Try.prog 31 #[.slice A n cap] w (DcY w l) := by
  have hb := l.bits_lt h
  have := decL_yes (k := l.k) (f := l.f) (t := l.t) (x := l.x) (b := (orB 0 l.ns : Nat)) ⟨by omega, by omega⟩ (l.row_R h) (by rw [ofNums_of h]; exact h) hn hcap hr
  rw [ofNums_of h] at this
  exact this
theorem decL_not {bs : List UInt8} (h : ∀ l : Ltr, l.right = true → bs ≠ l.bytes) {A : Option Addr} {n cap : Nat} {w : World} (hn : bs.length = n) (hcap : n ≤ cap) (hr : RdB w w.heap.size A bs) : Calls Try.prog 31 #[.slice A n cap] w (DcN w) := by
  by_cases h1 : ∃ m : List Val, (∀ x ∈ m, x.R) ∧ m.length ≤ 16 ∧ bs = rowB m
  · obtain ⟨m, hm, h16, rfl⟩ := h1
    by_cases h2 : ∃ k f t x b, (0 ≤ b ∧ b < 65536) ∧ m = [intV k, intV f, intV t, intV x, intV b]
    · obtain ⟨k, f, t, x, b, hb, rfl⟩ := h2
      refine decL_bad hb hm ?_ hn hcap hr
      cases hR : (ofNums k f t x b).right with
      | false => rfl
      | true => exact absurd (by unfold Ltr.bytes; rw [ofNums_row hb]) (h _ hR)
    · exact decL_other hm h16 (fun k f t x b hb e => h2 ⟨k, f, t, x, b, hb, e⟩) hn hcap hr
  · exact decL_none (fun m hm h16 e => h1 ⟨m, hm, h16, e⟩) hn hcap hr
theorem decL_any (bs : List UInt8) {A : Option Addr} {n cap : Nat} {w : World} (hn : bs.length = n) (hcap : n ≤ cap) (hr : RdB w w.heap.size A bs) : Calls Try.prog 31 #[.slice A n cap] w (DcT w bs) := by
  by_cases h : ∃ l : Ltr, l.right = true ∧ bs = l.bytes
  · obtain ⟨l, hl, rfl⟩ := h
    exact (decL_of hl hn hcap hr).mono fun e w' k => .inl ⟨l, hl, rfl, k⟩
  · have h2 : ∀ l : Ltr, l.right = true → bs ≠ l.bytes := fun l hl e => h ⟨l, hl, e⟩
    exact (decL_not h2 hn hcap hr).mono fun e w' k => .inr ⟨h2, k⟩
end Go.Proofs.Ythdhifnafgidaaa

/- LetterBack: the law's own body answers true, way by way. -/
import Derived.Test.YtbbhddpfclgohaaZO
import Derived.Test.YtbbhddpfclgohaaZH
import Derived.Test.YtbbhddpfclgohaaKJA
namespace Go.Proofs.Ytbbhddpfclgohaa
open Go.RowKit

/-- a letter in a box, its nodes readable -/
structure LBx (W : World) (g : Nat) (l : Ltr) (A : Option Addr) (n cap : Nat) : Prop where
  x : W.heap[g]? = some (lv l A n cap)
  rd : RdI W W.heap.size A l.ns
theorem LBx.next {W W' : World} {g : Nat} {l : Ltr} {A : Option Addr} {n cap : Nat} (h : LBx W g l A n cap) (hb : Below W.heap.size W W') : LBx W' g l A n cap :=
  ⟨(hb.block _ (Array.getElem?_eq_some_iff.1 h.x).1).trans h.x, (h.rd.below hb (Nat.le_refl _)).more hb.size⟩
theorem LBx.cells {W : World} {g : Nat} {l : Ltr} {A : Option Addr} {n cap : Nat} (h : LBx W g l A n cap) : W.cell? ⟨g, 0, none⟩ = some (.int .i64 l.k) ∧ W.cell? ⟨g, 1, none⟩ = some (.int .i64 l.f) ∧ W.cell? ⟨g, 2, none⟩ = some (.int .i64 l.t) ∧ W.cell? ⟨g, 3, none⟩ = some (.int .i64 l.x) ∧ W.cell? ⟨g, 4, none⟩ = some (.slice A n cap) := box5 h.x
theorem own_empty2 (W : World) (o : Obj) : OwnB ((W.alloc o).alloc (.cells #[] 5)) (W.heap.size + 1) (.slice (some ⟨W.heap.size + 1, 0, none⟩) 0 0) [] := by
  have h := own_empty (w := W.alloc o) (Nat.le_refl _) 5
  rw [show (W.alloc o).heap.size = W.heap.size + 1 by simp] at h
  exact h
theorem size2 (W : World) (o : Obj) : W.heap.size + 1 ≤ ((W.alloc o).alloc (.cells #[] 5)).heap.size := by simp
theorem empty2_below (W : World) (o : Obj) {w8 : World} {v8 : Value} (h : Grew ((W.alloc o).alloc (.cells #[] 5)) (.slice (some ⟨W.heap.size + 1, 0, none⟩) 0 0) w8 v8) : Below (W.alloc o).heap.size (W.alloc o) w8 := by
  have e : (W.alloc o).heap.size = W.heap.size + 1 := by simp
  exact (alloc_below (W.alloc o) _).trans (h.toBelow (alloc_below (W.alloc o) _).size (fun k hk => by rw [e]; exact (own_empty2 W o).ge k hk))
theorem then2_below {W : World} {o : Obj} {w8 w9 : World} {v8 v9 : Value} {l : List UInt8} (h : Below (W.alloc o).heap.size (W.alloc o) w8) (ho : OwnB w8 (W.heap.size + 1) v8 l) (hg : Grew w8 v8 w9 v9) : Below (W.alloc o).heap.size (W.alloc o) w9 := by
  have e : (W.alloc o).heap.size = W.heap.size + 1 := by simp
  exact h.trans (hg.toBelow h.size (fun k hk => by rw [e]; exact ho.ge k hk))
/-- a byte less -/
theorem cut_no {l : Ltr} {M : Nat} (hl : l.right = true) (hM : l.bytes.length = M + 1) : ∀ z : Ltr, z.right = true → l.bytes.take M ≠ z.bytes := fun z hz e => by
  have h := List.take_append_drop M l.bytes
  rw [e] at h
  obtain ⟨rfl, h2⟩ := Ltr.inj (u := l.bytes.drop M) (v := []) hz hl (by rw [List.append_nil]; exact h)
  have h3 := congrArg List.length h2
  rw [List.length_drop] at h3
  simp at h3
  omega
/-- more behind -/
theorem more_no {l : Ltr} {c : List UInt8} (hl : l.right = true) (hc : c ≠ []) : ∀ z : Ltr, z.right = true → l.bytes ++ c ≠ z.bytes := fun z hz e => by
  obtain ⟨_, h2⟩ := Ltr.inj (u := c) (v := []) hl hz (by rw [List.append_nil]; exact e)
  exact hc h2
set_option maxRecDepth 100000 in
set_option maxHeartbeats 8000000 in
theorem lb_n_no (l : Ltr) (b c : List UInt8) (A C D : Option Addr) (cap1 cap2 cap3 n nb nc : Nat) (w : World) (hn : l.ns.length = n) (hnb : b.length = nb) (hnc : c.length = nc) (h1 : n ≤ 300) (h2 : nb ≤ 300) (h3 : nc ≤ 300) (hcb : nb ≤ cap2) (hr : RdI w w.heap.size A l.ns) (hrb : RdB w w.heap.size C b) (hrc : RdB w w.heap.size D c) (hno : ∀ z : Ltr, z.right = true → b ≠ z.bytes) (hR : l.right = false) :
    Calls Try.prog 4 #[.agg #[.int .i64 l.k, .int .i64 l.f, .int .i64 l.t, .int .i64 l.x, .slice A n cap1], .slice C nb cap2, .slice D nc cap3] w (Ans (.bool true) w) := by
  have HX : Hid (LBx (w.alloc (lv l A n cap1)) w.heap.size l A n cap1) := Lib.hid ⟨heap_alloc_new w _, (hr.below (alloc_below w _) (Nat.le_refl _)).more (alloc_below w _).size⟩
  have HB : Hid (Below w.heap.size w (w.alloc (lv l A n cap1))) := Lib.hid (alloc_below w _)
  have HRB : Hid (∀ W, Below w.heap.size w W → RdB W W.heap.size C b) := Lib.hid fun W hb => (hrb.below hb (Nat.le_refl _)).more hb.size
  have HRC : Hid (∀ W, Below w.heap.size w W → RdB W W.heap.size D c) := Lib.hid fun W hb => (hrc.below hb (Nat.le_refl _)).more hb.size
  have HL := Lib.hid aliveZ_any
  obtain ⟨i0, hi, hz0, hz1, hz2⟩ := info_parts info8
  have h1i : ¬ (300 : Int) < (n : Int) := by omega
  have h2i : ¬ (300 : Int) < (nb : Int) := by omega
  have h3i : ¬ (300 : Int) < (nc : Int) := by omega
  have HDB := Lib.hid (fun W hW => decL_not hno hnb hcb (HRB.out W hW) (A := C))
  have HEL := Lib.hid (fun W A cap hrd => encL_no hR (encodeL_any l A n cap hn (by omega) W hrd))
  have HRL := Lib.hid (fun W A cap hrd => rightL_any l.k l.f l.t l.x l.ns A n cap hn (by omega) W hrd)
  rw [show Ltr.right ⟨l.k, l.f, l.t, l.x, l.ns⟩ = false from hR] at HRL
  have HNC := Lib.hid hnc
  clear hr hrb hrc hcb h1 h2 h3 hn hnb hno hR hnc
  obtain ⟨x0, x1, x2, x3, x4⟩ := HX.out.cells
  obtain ⟨k, f, t, x, ns⟩ := l
  unfold lv at HX HB x0 x1 x2 x3 x4
  simp only at *
  go_enter Try.func4, Try.ntmps4
  go_wp2_with (first
    | (go_at_call 10; (with_reducible refine (HDB.out _ HB.out).mono ?_); rintro e w1 ⟨rfl, hb0⟩
       unfold zeroL
       have hb := hb0.trans ((alloc_below w1 (.cells #[.int .i64 0, .int .i64 0, .int .i64 0, .int .i64 0, .slice none 0 0] 25)).mono hb0.size)
       have HB := Lib.hid (HB.out.trans (hb.mono HB.out.size))
       have HX := Lib.hid (HX.out.next hb)
       clear x0 x1 x2 x3 x4
       obtain ⟨x0, x1, x2, x3, x4⟩ := HX.out.cells
       clear hb hb0)
    | (go_at_call 8; (with_reducible refine (HEL.out _ _ _ HX.out.rd).mono ?_); rintro e w4 ⟨rfl, hb⟩
       have HB := Lib.hid (HB.out.trans (hb.mono HB.out.size))
       have HX := Lib.hid (HX.out.next hb)
       clear x0 x1 x2 x3 x4
       obtain ⟨x0, x1, x2, x3, x4⟩ := HX.out.cells
       clear hb)
    | (go_at_call 13; (with_reducible refine (HRL.out _ _ _ HX.out.rd).mono ?_); rintro e w5 ⟨rfl, hb⟩
       have HB := Lib.hid (HB.out.trans (hb.mono HB.out.size))
       have HX := Lib.hid (HX.out.next hb)
       clear x0 x1 x2 x3 x4
       obtain ⟨x0, x1, x2, x3, x4⟩ := HX.out.cells
       clear hb)
    | (go_at_call 7; refine (HL.out _).mono ?_; rintro e w12 ⟨rfl, hb⟩
       have HB := Lib.hid (HB.out.trans (hb.mono HB.out.size))
       have HX := Lib.hid (HX.out.next hb)
       clear x0 x1 x2 x3 x4
       obtain ⟨x0, x1, x2, x3, x4⟩ := HX.out.cells
       clear hb)
    | fail)
  go_ret
  exact ⟨rfl, HB.out⟩
set_option maxRecDepth 100000 in
set_option maxHeartbeats 8000000 in
theorem lb_z_no (l : Ltr) (b c : List UInt8) (A C D : Option Addr) (cap1 cap2 cap3 n nb nc : Nat) (w : World) (hn : l.ns.length = n) (hnb : b.length = nb) (hnc : c.length = nc) (h1 : n ≤ 300) (h2 : nb ≤ 300) (h3 : nc ≤ 300) (hcb : nb ≤ cap2) (hr : RdI w w.heap.size A l.ns) (hrb : RdB w w.heap.size C b) (hrc : RdB w w.heap.size D c) (z : Ltr) (hz : z.right = true) (hbz : b = z.bytes) (hR : l.right = false) :
    Calls Try.prog 4 #[.agg #[.int .i64 l.k, .int .i64 l.f, .int .i64 l.t, .int .i64 l.x, .slice A n cap1], .slice C nb cap2, .slice D nc cap3] w (Ans (.bool true) w) := by
  have HX : Hid (LBx (w.alloc (lv l A n cap1)) w.heap.size l A n cap1) := Lib.hid ⟨heap_alloc_new w _, (hr.below (alloc_below w _) (Nat.le_refl _)).more (alloc_below w _).size⟩
  have HB : Hid (Below w.heap.size w (w.alloc (lv l A n cap1))) := Lib.hid (alloc_below w _)
  have HRB : Hid (∀ W, Below w.heap.size w W → RdB W W.heap.size C b) := Lib.hid fun W hb => (hrb.below hb (Nat.le_refl _)).more hb.size
  have HRC : Hid (∀ W, Below w.heap.size w W → RdB W W.heap.size D c) := Lib.hid fun W hb => (hrc.below hb (Nat.le_refl _)).more hb.size
  have HL := Lib.hid aliveZ_any
  obtain ⟨i0, hi, hz0, hz1, hz2⟩ := info_parts info8
  have h1i : ¬ (300 : Int) < (n : Int) := by omega
  have h2i : ¬ (300 : Int) < (nb : Int) := by omega
  have h3i : ¬ (300 : Int) < (nc : Int) := by omega
  have HDB := Lib.hid (fun W hW => decL_of hz (by rw [← hbz]; exact hnb) hcb (by rw [← hbz]; exact HRB.out W hW) (A := C))
  obtain ⟨m, hm⟩ : ∃ m, z.ns.length = m := ⟨_, rfl⟩
  have hm16 : m ≤ 16 := by
    have := up_len (a := -1) (by omega) (by omega) (Ltr.up hz)
    omega
  have hmi : (m : Int) ≤ 16 := by omega
  have HEZ := Lib.hid (fun W A cap hrd => encL_yes hz (encodeL_any z A m cap hm (by omega) W hrd))
  have HRZ := Lib.hid (fun W A cap hrd => rightL_any z.k z.f z.t z.x z.ns A m cap hm (by omega) W hrd)
  rw [show Ltr.right ⟨z.k, z.f, z.t, z.x, z.ns⟩ = true from hz] at HRZ
  have HMZ := Lib.hid hm
  have HNB := Lib.hid hnb
  have HZB : Hid (b = z.bytes) := Lib.hid hbz
  obtain ⟨S, hS⟩ := ba_of b
  have HSS := Lib.hid hS
  have hsne : (S.toList != S.toList) = false := by simp
  have HEL := Lib.hid (fun W A cap hrd => encL_no hR (encodeL_any l A n cap hn (by omega) W hrd))
  have HRL := Lib.hid (fun W A cap hrd => rightL_any l.k l.f l.t l.x l.ns A n cap hn (by omega) W hrd)
  rw [show Ltr.right ⟨l.k, l.f, l.t, l.x, l.ns⟩ = false from hR] at HRL
  have HNC := Lib.hid hnc
  clear hr hrb hrc hcb h1 h2 h3 hn hnb hz hbz hm hm16 hS hR hnc
  obtain ⟨x0, x1, x2, x3, x4⟩ := HX.out.cells
  obtain ⟨k, f, t, x, ns⟩ := l
  obtain ⟨k', f', t', x', ms⟩ := z
  unfold lv at HX HB x0 x1 x2 x3 x4
  simp only at *
  go_enter Try.func4, Try.ntmps4
  go_wp2_with (first
    | (go_at_call 10; (with_reducible refine (HDB.out _ HB.out).mono ?_); rintro e w1 ⟨Az, capz, rfl, ho, hb0⟩
       simp only [HMZ.out] at ho ⊢
       have hb := hb0.trans ((alloc_below w1 (.cells #[.int .i64 k', .int .i64 f', .int .i64 t', .int .i64 x', .slice Az m capz] 25)).mono hb0.size)
       have HZX : Hid (LBx (w1.alloc (.cells #[.int .i64 k', .int .i64 f', .int .i64 t', .int .i64 x', .slice Az m capz] 25)) w1.heap.size ⟨k', f', t', x', ms⟩ Az m capz) := Lib.hid ⟨heap_alloc_new w1 _, (ho.rd.below (alloc_below w1 _) (Nat.le_refl _)).more (alloc_below w1 _).size⟩
       have HB := Lib.hid (HB.out.trans (hb.mono HB.out.size))
       have HX := Lib.hid (HX.out.next hb)
       clear x0 x1 x2 x3 x4
       obtain ⟨x0, x1, x2, x3, x4⟩ := HX.out.cells
       obtain ⟨z0, z1, z2, z3, z4⟩ := HZX.out.cells
       clear ho hb hb0)
    | (go_at_call 8; (with_reducible refine (HEZ.out _ _ _ HZX.out.rd).mono ?_); rintro e w2 ⟨v2, rfl, ho, hb⟩
       have hcv0 := conv_ownS ho S (HSS.out.trans HZB.out)
       have hcv1 := conv_rd (n := nb) (cap := cap2) (HRB.out _ (HB.out.trans (hb.mono HB.out.size))) HNB.out S HSS.out
       have HB := Lib.hid (HB.out.trans (hb.mono HB.out.size))
       have HX := Lib.hid (HX.out.next hb)
       clear x0 x1 x2 x3 x4
       obtain ⟨x0, x1, x2, x3, x4⟩ := HX.out.cells
       have HZX := Lib.hid (HZX.out.next hb)
       clear z0 z1 z2 z3 z4
       obtain ⟨z0, z1, z2, z3, z4⟩ := HZX.out.cells
       clear ho hb)
    | (go_at_call 13; (with_reducible refine (HRZ.out _ _ _ HZX.out.rd).mono ?_); rintro e w3 ⟨rfl, hb⟩
       have HB := Lib.hid (HB.out.trans (hb.mono HB.out.size))
       have HX := Lib.hid (HX.out.next hb)
       clear x0 x1 x2 x3 x4
       obtain ⟨x0, x1, x2, x3, x4⟩ := HX.out.cells
       have HZX := Lib.hid (HZX.out.next hb)
       clear z0 z1 z2 z3 z4
       obtain ⟨z0, z1, z2, z3, z4⟩ := HZX.out.cells
       clear hb)
    | (go_at_call 8; (with_reducible refine (HEL.out _ _ _ HX.out.rd).mono ?_); rintro e w4 ⟨rfl, hb⟩
       have HB := Lib.hid (HB.out.trans (hb.mono HB.out.size))
       have HX := Lib.hid (HX.out.next hb)
       clear x0 x1 x2 x3 x4
       obtain ⟨x0, x1, x2, x3, x4⟩ := HX.out.cells
       clear hb)
    | (go_at_call 13; (with_reducible refine (HRL.out _ _ _ HX.out.rd).mono ?_); rintro e w5 ⟨rfl, hb⟩
       have HB := Lib.hid (HB.out.trans (hb.mono HB.out.size))
       have HX := Lib.hid (HX.out.next hb)
       clear x0 x1 x2 x3 x4
       obtain ⟨x0, x1, x2, x3, x4⟩ := HX.out.cells
       clear hb)
    | (go_at_call 7; refine (HL.out _).mono ?_; rintro e w12 ⟨rfl, hb⟩
       have HB := Lib.hid (HB.out.trans (hb.mono HB.out.size))
       have HX := Lib.hid (HX.out.next hb)
       clear x0 x1 x2 x3 x4
       obtain ⟨x0, x1, x2, x3, x4⟩ := HX.out.cells
       clear hb)
    | fail)
  go_ret
  exact ⟨rfl, HB.out⟩
set_option maxRecDepth 100000 in
set_option maxHeartbeats 8000000 in
theorem lb_n_nil (l : Ltr) (b c : List UInt8) (A C D : Option Addr) (cap1 cap2 cap3 n nb nc : Nat) (w : World) (hn : l.ns.length = n) (hnb : b.length = nb) (hnc : c.length = nc) (h1 : n ≤ 300) (h2 : nb ≤ 300) (h3 : nc ≤ 300) (hcb : nb ≤ cap2) (hr : RdI w w.heap.size A l.ns) (hrb : RdB w w.heap.size C b) (hrc : RdB w w.heap.size D c) (hno : ∀ z : Ltr, z.right = true → b ≠ z.bytes) (hR : l.right = true) (hc : c = []) :
    Calls Try.prog 4 #[.agg #[.int .i64 l.k, .int .i64 l.f, .int .i64 l.t, .int .i64 l.x, .slice A n cap1], .slice C nb cap2, .slice D nc cap3] w (Ans (.bool true) w) := by
  have HX : Hid (LBx (w.alloc (lv l A n cap1)) w.heap.size l A n cap1) := Lib.hid ⟨heap_alloc_new w _, (hr.below (alloc_below w _) (Nat.le_refl _)).more (alloc_below w _).size⟩
  have HB : Hid (Below w.heap.size w (w.alloc (lv l A n cap1))) := Lib.hid (alloc_below w _)
  have HRB : Hid (∀ W, Below w.heap.size w W → RdB W W.heap.size C b) := Lib.hid fun W hb => (hrb.below hb (Nat.le_refl _)).more hb.size
  have HRC : Hid (∀ W, Below w.heap.size w W → RdB W W.heap.size D c) := Lib.hid fun W hb => (hrc.below hb (Nat.le_refl _)).more hb.size
  have HL := Lib.hid aliveZ_any
  obtain ⟨i0, hi, hz0, hz1, hz2⟩ := info_parts info8
  have h1i : ¬ (300 : Int) < (n : Int) := by omega
  have h2i : ¬ (300 : Int) < (nb : Int) := by omega
  have h3i : ¬ (300 : Int) < (nc : Int) := by omega
  have HDB := Lib.hid (fun W hW => decL_not hno hnb hcb (HRB.out W hW) (A := C))
  have HEL := Lib.hid (fun W A cap hrd => encL_yes hR (encodeL_any l A n cap hn (by omega) W hrd))
  have HSL := Lib.hid (fun W A B c d hra hrb => sameL_any l l A B n n c d hn hn (by omega) (by omega) W hra hrb)
  rw [sameL_self l] at HSL
  obtain ⟨M, hM⟩ : ∃ M, l.bytes.length = M + 1 := ⟨l.bytes.length - 1, by have := (l.bytes_len hR).2; omega⟩
  have hMi : (M : Int) ≤ 1100 := by have := (l.bytes_len hR).1; omega
  have HM := Lib.hid hM
  obtain ⟨N9, hN9⟩ : ∃ N9, (l.bytes ++ c).length = N9 := ⟨_, rfl⟩
  have HN9 := Lib.hid hN9
  have HDL := Lib.hid (fun W X cap hcap hrd => decL_of hR hM hcap (A := X) (cap := cap) (w := W) hrd)
  have HDM := Lib.hid (fun W X cap hcap hrd => decL_not (cut_no hR hM) (by rw [List.length_take]; omega : (l.bytes.take M).length = M) hcap (A := X) (cap := cap) (w := W) hrd)
  have HM0 : Hid (([] : List UInt8).length + l.bytes.length ≤ 1000000) := Lib.hid (by have := (l.bytes_len hR).1; simp; omega)
  have HM1 : Hid (l.bytes.length + c.length ≤ 1000000) := Lib.hid (by have := (l.bytes_len hR).1; omega)
  have HNN := Lib.hid hn
  have HDC := Lib.hid (fun W X cap (hcap : N9 ≤ cap) (hrd : RdB W W.heap.size X (l.bytes ++ c)) => decL_of (n := N9) hR (by rw [← hN9, hc, List.append_nil]) hcap (A := X) (cap := cap) (w := W) (by rw [hc, List.append_nil] at hrd; exact hrd))
  have hcl : ((nc : Int) == 0) = true := by rw [← hnc, hc]; rfl
  have HNC := Lib.hid hnc
  clear hr hrb hrc hcb h1 h2 h3 hn hnb hno hR hM hN9 hc hnc
  obtain ⟨x0, x1, x2, x3, x4⟩ := HX.out.cells
  obtain ⟨k, f, t, x, ns⟩ := l
  unfold lv at HX HB x0 x1 x2 x3 x4
  simp only at *
  go_enter Try.func4, Try.ntmps4
  go_wp2_with (first
    | (go_at_call 10; (with_reducible refine (HDB.out _ HB.out).mono ?_); rintro e w1 ⟨rfl, hb0⟩
       unfold zeroL
       have hb := hb0.trans ((alloc_below w1 (.cells #[.int .i64 0, .int .i64 0, .int .i64 0, .int .i64 0, .slice none 0 0] 25)).mono hb0.size)
       have HB := Lib.hid (HB.out.trans (hb.mono HB.out.size))
       have HX := Lib.hid (HX.out.next hb)
       clear x0 x1 x2 x3 x4
       obtain ⟨x0, x1, x2, x3, x4⟩ := HX.out.cells
       clear hb hb0)
    | (go_at_call 8; (with_reducible refine (HEL.out _ _ _ HX.out.rd).mono ?_); rintro e w4 ⟨v4, rfl, ho, hb⟩
       obtain ⟨X, kx, hv, hk⟩ := ho.2
       rw [HM.out] at hv hk
       subst hv
       have HO := Lib.hid ho
       have hkx : (M : Int) + 1 ≤ (kx : Int) := by omega
       have HKX := Lib.hid hk
       have HB := Lib.hid (HB.out.trans (hb.mono HB.out.size))
       have HX := Lib.hid (HX.out.next hb)
       clear x0 x1 x2 x3 x4
       obtain ⟨x0, x1, x2, x3, x4⟩ := HX.out.cells
       clear ho hb hk)
    | (go_at_call 10; (with_reducible refine (HDL.out _ X kx HKX.out HO.out.rd).mono ?_); rintro e w5 ⟨Ay, capy, rfl, hoy, hb0⟩
       simp only [HNN.out] at hoy ⊢
       have hb := hb0.trans ((alloc_below w5 (.cells #[.int .i64 k, .int .i64 f, .int .i64 t, .int .i64 x, .slice Ay n capy] 25)).mono hb0.size)
       have HY : Hid (LBx (w5.alloc (.cells #[.int .i64 k, .int .i64 f, .int .i64 t, .int .i64 x, .slice Ay n capy] 25)) w5.heap.size ⟨k, f, t, x, ns⟩ Ay n capy) := Lib.hid ⟨heap_alloc_new w5 _, (hoy.rd.below (alloc_below w5 _) (Nat.le_refl _)).more (alloc_below w5 _).size⟩
       have HO := Lib.hid (HO.out.below hb)
       have HB := Lib.hid (HB.out.trans (hb.mono HB.out.size))
       have HX := Lib.hid (HX.out.next hb)
       clear x0 x1 x2 x3 x4
       obtain ⟨x0, x1, x2, x3, x4⟩ := HX.out.cells
       clear hoy hb hb0)
    | (go_at_call 10; (with_reducible refine (HDM.out _ X kx (by have := HKX.out; omega) (HO.out.rd.take M)).mono ?_); rintro e w6 ⟨rfl, hb0⟩
       unfold zeroL
       have hb := hb0.trans ((alloc_below w6 (.cells #[.int .i64 0, .int .i64 0, .int .i64 0, .int .i64 0, .slice none 0 0] 25)).mono hb0.size)
       have HO := Lib.hid (HO.out.below hb)
       have HY := Lib.hid (HY.out.next hb)
       have HB := Lib.hid (HB.out.trans (hb.mono HB.out.size))
       have HX := Lib.hid (HX.out.next hb)
       clear x0 x1 x2 x3 x4
       obtain ⟨x0, x1, x2, x3, x4⟩ := HX.out.cells
       clear hb hb0)
    | (go_at_call 10; (with_reducible refine (HDC.out _ X9 k9 HK9.out HO9.out.rd).mono ?_); rintro e w10 ⟨Ac, capc, rfl, hoc, hb0⟩
       simp only [HNN.out] at hoc ⊢
       have hb := hb0.trans ((alloc_below w10 (.cells #[.int .i64 k, .int .i64 f, .int .i64 t, .int .i64 x, .slice Ac n capc] 25)).mono hb0.size)
       have HY := Lib.hid (HY.out.next hb)
       have HB := Lib.hid (HB.out.trans (hb.mono HB.out.size))
       have HX := Lib.hid (HX.out.next hb)
       clear x0 x1 x2 x3 x4
       obtain ⟨x0, x1, x2, x3, x4⟩ := HX.out.cells
       clear hoc hb hb0)
    | (at_builtin
       refine wpList_appB (xs := Ltr.bytes ⟨k, f, t, x, ns⟩) (ys := c) rfl _ _ 26 rfl Try.underlying26 hi hz0 hz1 hz2 rfl HO8.out rfl HNC.out (HRC.out _ (HB.out.trans (H8B.out.mono HB.out.size))) HM1.out (by have := H8B.out.size; simp at this; omega) ?_
       intro v9 w9 ho9 hg9
       obtain ⟨X9, k9, hv9, hk9⟩ := ho9.2
       rw [HN9.out] at hv9 hk9
       subst hv9
       have HO9 := Lib.hid ho9
       have HK9 := Lib.hid hk9
       have hb := then2_below H8B.out HO8.out hg9
       have HY := Lib.hid (HY.out.next hb)
       have HB := Lib.hid (HB.out.trans (hb.mono HB.out.size))
       have HX := Lib.hid (HX.out.next hb)
       clear x0 x1 x2 x3 x4
       obtain ⟨x0, x1, x2, x3, x4⟩ := HX.out.cells
       clear ho9 hg9 hk9 hb)
    | (at_builtin
       refine wpList_appB (xs := []) (ys := Ltr.bytes ⟨k, f, t, x, ns⟩) rfl _ _ 26 rfl Try.underlying26 hi hz0 hz1 hz2 rfl (own_empty2 w6 _) rfl HM.out ((HO.out.below (alloc_below _ _)).rd) HM0.out (size2 w6 _) ?_
       intro v8 w8 ho8 hg8
       have HO8 := Lib.hid ho8
       have H8B := Lib.hid (empty2_below w6 _ hg8)
       clear ho8 hg8)
    | (go_at_call 15; (with_reducible refine (HSL.out _ _ _ _ _ HY.out.rd HX.out.rd).mono ?_); rintro e w11 ⟨rfl, hb⟩
       have HB := Lib.hid (HB.out.trans (hb.mono HB.out.size))
       clear hb)
    | (go_at_call 7; refine (HL.out _).mono ?_; rintro e w12 ⟨rfl, hb⟩
       have HB := Lib.hid (HB.out.trans (hb.mono HB.out.size))
       have HX := Lib.hid (HX.out.next hb)
       clear x0 x1 x2 x3 x4
       obtain ⟨x0, x1, x2, x3, x4⟩ := HX.out.cells
       have HY := Lib.hid (HY.out.next hb)
       obtain ⟨y0, y1, y2, y3, y4⟩ := HY.out.cells
       clear hb)
    | fail)
  go_ret
  exact ⟨rfl, HB.out⟩
set_option maxRecDepth 100000 in
set_option maxHeartbeats 8000000 in
theorem lb_n_more (l : Ltr) (b c : List UInt8) (A C D : Option Addr) (cap1 cap2 cap3 n nb nc : Nat) (w : World) (hn : l.ns.length = n) (hnb : b.length = nb) (hnc : c.length = nc) (h1 : n ≤ 300) (h2 : nb ≤ 300) (h3 : nc ≤ 300) (hcb : nb ≤ cap2) (hr : RdI w w.heap.size A l.ns) (hrb : RdB w w.heap.size C b) (hrc : RdB w w.heap.size D c) (hno : ∀ z : Ltr, z.right = true → b ≠ z.bytes) (hR : l.right = true) (hc : c ≠ []) :
    Calls Try.prog 4 #[.agg #[.int .i64 l.k, .int .i64 l.f, .int .i64 l.t, .int .i64 l.x, .slice A n cap1], .slice C nb cap2, .slice D nc cap3] w (Ans (.bool true) w) := by
  have HX : Hid (LBx (w.alloc (lv l A n cap1)) w.heap.size l A n cap1) := Lib.hid ⟨heap_alloc_new w _, (hr.below (alloc_below w _) (Nat.le_refl _)).more (alloc_below w _).size⟩
  have HB : Hid (Below w.heap.size w (w.alloc (lv l A n cap1))) := Lib.hid (alloc_below w _)
  have HRB : Hid (∀ W, Below w.heap.size w W → RdB W W.heap.size C b) := Lib.hid fun W hb => (hrb.below hb (Nat.le_refl _)).more hb.size
  have HRC : Hid (∀ W, Below w.heap.size w W → RdB W W.heap.size D c) := Lib.hid fun W hb => (hrc.below hb (Nat.le_refl _)).more hb.size
  have HL := Lib.hid aliveZ_any
  obtain ⟨i0, hi, hz0, hz1, hz2⟩ := info_parts info8
  have h1i : ¬ (300 : Int) < (n : Int) := by omega
  have h2i : ¬ (300 : Int) < (nb : Int) := by omega
  have h3i : ¬ (300 : Int) < (nc : Int) := by omega
  have HDB := Lib.hid (fun W hW => decL_not hno hnb hcb (HRB.out W hW) (A := C))
  have HEL := Lib.hid (fun W A cap hrd => encL_yes hR (encodeL_any l A n cap hn (by omega) W hrd))
  have HSL := Lib.hid (fun W A B c d hra hrb => sameL_any l l A B n n c d hn hn (by omega) (by omega) W hra hrb)
  rw [sameL_self l] at HSL
  obtain ⟨M, hM⟩ : ∃ M, l.bytes.length = M + 1 := ⟨l.bytes.length - 1, by have := (l.bytes_len hR).2; omega⟩
  have hMi : (M : Int) ≤ 1100 := by have := (l.bytes_len hR).1; omega
  have HM := Lib.hid hM
  obtain ⟨N9, hN9⟩ : ∃ N9, (l.bytes ++ c).length = N9 := ⟨_, rfl⟩
  have HN9 := Lib.hid hN9
  have HDL := Lib.hid (fun W X cap hcap hrd => decL_of hR hM hcap (A := X) (cap := cap) (w := W) hrd)
  have HDM := Lib.hid (fun W X cap hcap hrd => decL_not (cut_no hR hM) (by rw [List.length_take]; omega : (l.bytes.take M).length = M) hcap (A := X) (cap := cap) (w := W) hrd)
  have HM0 : Hid (([] : List UInt8).length + l.bytes.length ≤ 1000000) := Lib.hid (by have := (l.bytes_len hR).1; simp; omega)
  have HM1 : Hid (l.bytes.length + c.length ≤ 1000000) := Lib.hid (by have := (l.bytes_len hR).1; omega)
  have HNN := Lib.hid hn
  have HDC := Lib.hid (fun W X cap hcap hrd => decL_not (more_no hR hc) hN9 hcap (A := X) (cap := cap) (w := W) hrd)
  have hcl : ((nc : Int) == 0) = false := beq_false_of_ne (by have := List.length_pos_iff.2 hc; omega)
  have HNC := Lib.hid hnc
  clear hr hrb hrc hcb h1 h2 h3 hn hnb hno hR hM hN9 hc hnc
  obtain ⟨x0, x1, x2, x3, x4⟩ := HX.out.cells
  obtain ⟨k, f, t, x, ns⟩ := l
  unfold lv at HX HB x0 x1 x2 x3 x4
  simp only at *
  go_enter Try.func4, Try.ntmps4
  go_wp2_with (first
    | (go_at_call 10; (with_reducible refine (HDB.out _ HB.out).mono ?_); rintro e w1 ⟨rfl, hb0⟩
       unfold zeroL
       have hb := hb0.trans ((alloc_below w1 (.cells #[.int .i64 0, .int .i64 0, .int .i64 0, .int .i64 0, .slice none 0 0] 25)).mono hb0.size)
       have HB := Lib.hid (HB.out.trans (hb.mono HB.out.size))
       have HX := Lib.hid (HX.out.next hb)
       clear x0 x1 x2 x3 x4
       obtain ⟨x0, x1, x2, x3, x4⟩ := HX.out.cells
       clear hb hb0)
    | (go_at_call 8; (with_reducible refine (HEL.out _ _ _ HX.out.rd).mono ?_); rintro e w4 ⟨v4, rfl, ho, hb⟩
       obtain ⟨X, kx, hv, hk⟩ := ho.2
       rw [HM.out] at hv hk
       subst hv
       have HO := Lib.hid ho
       have hkx : (M : Int) + 1 ≤ (kx : Int) := by omega
       have HKX := Lib.hid hk
       have HB := Lib.hid (HB.out.trans (hb.mono HB.out.size))
       have HX := Lib.hid (HX.out.next hb)
       clear x0 x1 x2 x3 x4
       obtain ⟨x0, x1, x2, x3, x4⟩ := HX.out.cells
       clear ho hb hk)
    | (go_at_call 10; (with_reducible refine (HDL.out _ X kx HKX.out HO.out.rd).mono ?_); rintro e w5 ⟨Ay, capy, rfl, hoy, hb0⟩
       simp only [HNN.out] at hoy ⊢
       have hb := hb0.trans ((alloc_below w5 (.cells #[.int .i64 k, .int .i64 f, .int .i64 t, .int .i64 x, .slice Ay n capy] 25)).mono hb0.size)
       have HY : Hid (LBx (w5.alloc (.cells #[.int .i64 k, .int .i64 f, .int .i64 t, .int .i64 x, .slice Ay n capy] 25)) w5.heap.size ⟨k, f, t, x, ns⟩ Ay n capy) := Lib.hid ⟨heap_alloc_new w5 _, (hoy.rd.below (alloc_below w5 _) (Nat.le_refl _)).more (alloc_below w5 _).size⟩
       have HO := Lib.hid (HO.out.below hb)
       have HB := Lib.hid (HB.out.trans (hb.mono HB.out.size))
       have HX := Lib.hid (HX.out.next hb)
       clear x0 x1 x2 x3 x4
       obtain ⟨x0, x1, x2, x3, x4⟩ := HX.out.cells
       clear hoy hb hb0)
    | (go_at_call 10; (with_reducible refine (HDM.out _ X kx (by have := HKX.out; omega) (HO.out.rd.take M)).mono ?_); rintro e w6 ⟨rfl, hb0⟩
       unfold zeroL
       have hb := hb0.trans ((alloc_below w6 (.cells #[.int .i64 0, .int .i64 0, .int .i64 0, .int .i64 0, .slice none 0 0] 25)).mono hb0.size)
       have HO := Lib.hid (HO.out.below hb)
       have HY := Lib.hid (HY.out.next hb)
       have HB := Lib.hid (HB.out.trans (hb.mono HB.out.size))
       have HX := Lib.hid (HX.out.next hb)
       clear x0 x1 x2 x3 x4
       obtain ⟨x0, x1, x2, x3, x4⟩ := HX.out.cells
       clear hb hb0)
    | (go_at_call 10; (with_reducible refine (HDC.out _ X9 k9 HK9.out HO9.out.rd).mono ?_); rintro e w10 ⟨rfl, hb0⟩
       unfold zeroL
       have hb := hb0.trans ((alloc_below w10 (.cells #[.int .i64 0, .int .i64 0, .int .i64 0, .int .i64 0, .slice none 0 0] 25)).mono hb0.size)
       have HY := Lib.hid (HY.out.next hb)
       have HB := Lib.hid (HB.out.trans (hb.mono HB.out.size))
       have HX := Lib.hid (HX.out.next hb)
       clear x0 x1 x2 x3 x4
       obtain ⟨x0, x1, x2, x3, x4⟩ := HX.out.cells
       clear hb hb0)
    | (at_builtin
       refine wpList_appB (xs := Ltr.bytes ⟨k, f, t, x, ns⟩) (ys := c) rfl _ _ 26 rfl Try.underlying26 hi hz0 hz1 hz2 rfl HO8.out rfl HNC.out (HRC.out _ (HB.out.trans (H8B.out.mono HB.out.size))) HM1.out (by have := H8B.out.size; simp at this; omega) ?_
       intro v9 w9 ho9 hg9
       obtain ⟨X9, k9, hv9, hk9⟩ := ho9.2
       rw [HN9.out] at hv9 hk9
       subst hv9
       have HO9 := Lib.hid ho9
       have HK9 := Lib.hid hk9
       have hb := then2_below H8B.out HO8.out hg9
       have HY := Lib.hid (HY.out.next hb)
       have HB := Lib.hid (HB.out.trans (hb.mono HB.out.size))
       have HX := Lib.hid (HX.out.next hb)
       clear x0 x1 x2 x3 x4
       obtain ⟨x0, x1, x2, x3, x4⟩ := HX.out.cells
       clear ho9 hg9 hk9 hb)
    | (at_builtin
       refine wpList_appB (xs := []) (ys := Ltr.bytes ⟨k, f, t, x, ns⟩) rfl _ _ 26 rfl Try.underlying26 hi hz0 hz1 hz2 rfl (own_empty2 w6 _) rfl HM.out ((HO.out.below (alloc_below _ _)).rd) HM0.out (size2 w6 _) ?_
       intro v8 w8 ho8 hg8
       have HO8 := Lib.hid ho8
       have H8B := Lib.hid (empty2_below w6 _ hg8)
       clear ho8 hg8)
    | (go_at_call 15; (with_reducible refine (HSL.out _ _ _ _ _ HY.out.rd HX.out.rd).mono ?_); rintro e w11 ⟨rfl, hb⟩
       have HB := Lib.hid (HB.out.trans (hb.mono HB.out.size))
       clear hb)
    | (go_at_call 7; refine (HL.out _).mono ?_; rintro e w12 ⟨rfl, hb⟩
       have HB := Lib.hid (HB.out.trans (hb.mono HB.out.size))
       have HX := Lib.hid (HX.out.next hb)
       clear x0 x1 x2 x3 x4
       obtain ⟨x0, x1, x2, x3, x4⟩ := HX.out.cells
       have HY := Lib.hid (HY.out.next hb)
       obtain ⟨y0, y1, y2, y3, y4⟩ := HY.out.cells
       clear hb)
    | fail)
  go_ret
  exact ⟨rfl, HB.out⟩
set_option maxRecDepth 100000 in
set_option maxHeartbeats 8000000 in
theorem lb_z_nil (l : Ltr) (b c : List UInt8) (A C D : Option Addr) (cap1 cap2 cap3 n nb nc : Nat) (w : World) (hn : l.ns.length = n) (hnb : b.length = nb) (hnc : c.length = nc) (h1 : n ≤ 300) (h2 : nb ≤ 300) (h3 : nc ≤ 300) (hcb : nb ≤ cap2) (hr : RdI w w.heap.size A l.ns) (hrb : RdB w w.heap.size C b) (hrc : RdB w w.heap.size D c) (z : Ltr) (hz : z.right = true) (hbz : b = z.bytes) (hR : l.right = true) (hc : c = []) :
    Calls Try.prog 4 #[.agg #[.int .i64 l.k, .int .i64 l.f, .int .i64 l.t, .int .i64 l.x, .slice A n cap1], .slice C nb cap2, .slice D nc cap3] w (Ans (.bool true) w) := by
  have HX : Hid (LBx (w.alloc (lv l A n cap1)) w.heap.size l A n cap1) := Lib.hid ⟨heap_alloc_new w _, (hr.below (alloc_below w _) (Nat.le_refl _)).more (alloc_below w _).size⟩
  have HB : Hid (Below w.heap.size w (w.alloc (lv l A n cap1))) := Lib.hid (alloc_below w _)
  have HRB : Hid (∀ W, Below w.heap.size w W → RdB W W.heap.size C b) := Lib.hid fun W hb => (hrb.below hb (Nat.le_refl _)).more hb.size
  have HRC : Hid (∀ W, Below w.heap.size w W → RdB W W.heap.size D c) := Lib.hid fun W hb => (hrc.below hb (Nat.le_refl _)).more hb.size
  have HL := Lib.hid aliveZ_any
  obtain ⟨i0, hi, hz0, hz1, hz2⟩ := info_parts info8
  have h1i : ¬ (300 : Int) < (n : Int) := by omega
  have h2i : ¬ (300 : Int) < (nb : Int) := by omega
  have h3i : ¬ (300 : Int) < (nc : Int) := by omega
  have HDB := Lib.hid (fun W hW => decL_of hz (by rw [← hbz]; exact hnb) hcb (by rw [← hbz]; exact HRB.out W hW) (A := C))
  obtain ⟨m, hm⟩ : ∃ m, z.ns.length = m := ⟨_, rfl⟩
  have hm16 : m ≤ 16 := by
    have := up_len (a := -1) (by omega) (by omega) (Ltr.up hz)
    omega
  have hmi : (m : Int) ≤ 16 := by omega
  have HEZ := Lib.hid (fun W A cap hrd => encL_yes hz (encodeL_any z A m cap hm (by omega) W hrd))
  have HRZ := Lib.hid (fun W A cap hrd => rightL_any z.k z.f z.t z.x z.ns A m cap hm (by omega) W hrd)
  rw [show Ltr.right ⟨z.k, z.f, z.t, z.x, z.ns⟩ = true from hz] at HRZ
  have HMZ := Lib.hid hm
  have HNB := Lib.hid hnb
  have HZB : Hid (b = z.bytes) := Lib.hid hbz
  obtain ⟨S, hS⟩ := ba_of b
  have HSS := Lib.hid hS
  have hsne : (S.toList != S.toList) = false := by simp
  have HEL := Lib.hid (fun W A cap hrd => encL_yes hR (encodeL_any l A n cap hn (by omega) W hrd))
  have HSL := Lib.hid (fun W A B c d hra hrb => sameL_any l l A B n n c d hn hn (by omega) (by omega) W hra hrb)
  rw [sameL_self l] at HSL
  obtain ⟨M, hM⟩ : ∃ M, l.bytes.length = M + 1 := ⟨l.bytes.length - 1, by have := (l.bytes_len hR).2; omega⟩
  have hMi : (M : Int) ≤ 1100 := by have := (l.bytes_len hR).1; omega
  have HM := Lib.hid hM
  obtain ⟨N9, hN9⟩ : ∃ N9, (l.bytes ++ c).length = N9 := ⟨_, rfl⟩
  have HN9 := Lib.hid hN9
  have HDL := Lib.hid (fun W X cap hcap hrd => decL_of hR hM hcap (A := X) (cap := cap) (w := W) hrd)
  have HDM := Lib.hid (fun W X cap hcap hrd => decL_not (cut_no hR hM) (by rw [List.length_take]; omega : (l.bytes.take M).length = M) hcap (A := X) (cap := cap) (w := W) hrd)
  have HM0 : Hid (([] : List UInt8).length + l.bytes.length ≤ 1000000) := Lib.hid (by have := (l.bytes_len hR).1; simp; omega)
  have HM1 : Hid (l.bytes.length + c.length ≤ 1000000) := Lib.hid (by have := (l.bytes_len hR).1; omega)
  have HNN := Lib.hid hn
  have HDC := Lib.hid (fun W X cap (hcap : N9 ≤ cap) (hrd : RdB W W.heap.size X (l.bytes ++ c)) => decL_of (n := N9) hR (by rw [← hN9, hc, List.append_nil]) hcap (A := X) (cap := cap) (w := W) (by rw [hc, List.append_nil] at hrd; exact hrd))
  have hcl : ((nc : Int) == 0) = true := by rw [← hnc, hc]; rfl
  have HNC := Lib.hid hnc
  clear hr hrb hrc hcb h1 h2 h3 hn hnb hz hbz hm hm16 hS hR hM hN9 hc hnc
  obtain ⟨x0, x1, x2, x3, x4⟩ := HX.out.cells
  obtain ⟨k, f, t, x, ns⟩ := l
  obtain ⟨k', f', t', x', ms⟩ := z
  unfold lv at HX HB x0 x1 x2 x3 x4
  simp only at *
  go_enter Try.func4, Try.ntmps4
  go_wp2_with (first
    | (go_at_call 10; (with_reducible refine (HDB.out _ HB.out).mono ?_); rintro e w1 ⟨Az, capz, rfl, ho, hb0⟩
       simp only [HMZ.out] at ho ⊢
       have hb := hb0.trans ((alloc_below w1 (.cells #[.int .i64 k', .int .i64 f', .int .i64 t', .int .i64 x', .slice Az m capz] 25)).mono hb0.size)
       have HZX : Hid (LBx (w1.alloc (.cells #[.int .i64 k', .int .i64 f', .int .i64 t', .int .i64 x', .slice Az m capz] 25)) w1.heap.size ⟨k', f', t', x', ms⟩ Az m capz) := Lib.hid ⟨heap_alloc_new w1 _, (ho.rd.below (alloc_below w1 _) (Nat.le_refl _)).more (alloc_below w1 _).size⟩
       have HB := Lib.hid (HB.out.trans (hb.mono HB.out.size))
       have HX := Lib.hid (HX.out.next hb)
       clear x0 x1 x2 x3 x4
       obtain ⟨x0, x1, x2, x3, x4⟩ := HX.out.cells
       obtain ⟨z0, z1, z2, z3, z4⟩ := HZX.out.cells
       clear ho hb hb0)
    | (go_at_call 8; (with_reducible refine (HEZ.out _ _ _ HZX.out.rd).mono ?_); rintro e w2 ⟨v2, rfl, ho, hb⟩
       have hcv0 := conv_ownS ho S (HSS.out.trans HZB.out)
       have hcv1 := conv_rd (n := nb) (cap := cap2) (HRB.out _ (HB.out.trans (hb.mono HB.out.size))) HNB.out S HSS.out
       have HB := Lib.hid (HB.out.trans (hb.mono HB.out.size))
       have HX := Lib.hid (HX.out.next hb)
       clear x0 x1 x2 x3 x4
       obtain ⟨x0, x1, x2, x3, x4⟩ := HX.out.cells
       have HZX := Lib.hid (HZX.out.next hb)
       clear z0 z1 z2 z3 z4
       obtain ⟨z0, z1, z2, z3, z4⟩ := HZX.out.cells
       clear ho hb)
    | (go_at_call 13; (with_reducible refine (HRZ.out _ _ _ HZX.out.rd).mono ?_); rintro e w3 ⟨rfl, hb⟩
       have HB := Lib.hid (HB.out.trans (hb.mono HB.out.size))
       have HX := Lib.hid (HX.out.next hb)
       clear x0 x1 x2 x3 x4
       obtain ⟨x0, x1, x2, x3, x4⟩ := HX.out.cells
       have HZX := Lib.hid (HZX.out.next hb)
       clear z0 z1 z2 z3 z4
       obtain ⟨z0, z1, z2, z3, z4⟩ := HZX.out.cells
       clear hb)
    | (go_at_call 8; (with_reducible refine (HEL.out _ _ _ HX.out.rd).mono ?_); rintro e w4 ⟨v4, rfl, ho, hb⟩
       obtain ⟨X, kx, hv, hk⟩ := ho.2
       rw [HM.out] at hv hk
       subst hv
       have HO := Lib.hid ho
       have hkx : (M : Int) + 1 ≤ (kx : Int) := by omega
       have HKX := Lib.hid hk
       have HB := Lib.hid (HB.out.trans (hb.mono HB.out.size))
       have HX := Lib.hid (HX.out.next hb)
       clear x0 x1 x2 x3 x4
       obtain ⟨x0, x1, x2, x3, x4⟩ := HX.out.cells
       clear ho hb hk)
    | (go_at_call 10; (with_reducible refine (HDL.out _ X kx HKX.out HO.out.rd).mono ?_); rintro e w5 ⟨Ay, capy, rfl, hoy, hb0⟩
       simp only [HNN.out] at hoy ⊢
       have hb := hb0.trans ((alloc_below w5 (.cells #[.int .i64 k, .int .i64 f, .int .i64 t, .int .i64 x, .slice Ay n capy] 25)).mono hb0.size)
       have HY : Hid (LBx (w5.alloc (.cells #[.int .i64 k, .int .i64 f, .int .i64 t, .int .i64 x, .slice Ay n capy] 25)) w5.heap.size ⟨k, f, t, x, ns⟩ Ay n capy) := Lib.hid ⟨heap_alloc_new w5 _, (hoy.rd.below (alloc_below w5 _) (Nat.le_refl _)).more (alloc_below w5 _).size⟩
       have HO := Lib.hid (HO.out.below hb)
       have HB := Lib.hid (HB.out.trans (hb.mono HB.out.size))
       have HX := Lib.hid (HX.out.next hb)
       clear x0 x1 x2 x3 x4
       obtain ⟨x0, x1, x2, x3, x4⟩ := HX.out.cells
       clear hoy hb hb0)
    | (go_at_call 10; (with_reducible refine (HDM.out _ X kx (by have := HKX.out; omega) (HO.out.rd.take M)).mono ?_); rintro e w6 ⟨rfl, hb0⟩
       unfold zeroL
       have hb := hb0.trans ((alloc_below w6 (.cells #[.int .i64 0, .int .i64 0, .int .i64 0, .int .i64 0, .slice none 0 0] 25)).mono hb0.size)
       have HO := Lib.hid (HO.out.below hb)
       have HY := Lib.hid (HY.out.next hb)
       have HB := Lib.hid (HB.out.trans (hb.mono HB.out.size))
       have HX := Lib.hid (HX.out.next hb)
       clear x0 x1 x2 x3 x4
       obtain ⟨x0, x1, x2, x3, x4⟩ := HX.out.cells
       clear hb hb0)
    | (go_at_call 10; (with_reducible refine (HDC.out _ X9 k9 HK9.out HO9.out.rd).mono ?_); rintro e w10 ⟨Ac, capc, rfl, hoc, hb0⟩
       simp only [HNN.out] at hoc ⊢
       have hb := hb0.trans ((alloc_below w10 (.cells #[.int .i64 k, .int .i64 f, .int .i64 t, .int .i64 x, .slice Ac n capc] 25)).mono hb0.size)
       have HY := Lib.hid (HY.out.next hb)
       have HB := Lib.hid (HB.out.trans (hb.mono HB.out.size))
       have HX := Lib.hid (HX.out.next hb)
       clear x0 x1 x2 x3 x4
       obtain ⟨x0, x1, x2, x3, x4⟩ := HX.out.cells
       clear hoc hb hb0)
    | (at_builtin
       refine wpList_appB (xs := Ltr.bytes ⟨k, f, t, x, ns⟩) (ys := c) rfl _ _ 26 rfl Try.underlying26 hi hz0 hz1 hz2 rfl HO8.out rfl HNC.out (HRC.out _ (HB.out.trans (H8B.out.mono HB.out.size))) HM1.out (by have := H8B.out.size; simp at this; omega) ?_
       intro v9 w9 ho9 hg9
       obtain ⟨X9, k9, hv9, hk9⟩ := ho9.2
       rw [HN9.out] at hv9 hk9
       subst hv9
       have HO9 := Lib.hid ho9
       have HK9 := Lib.hid hk9
       have hb := then2_below H8B.out HO8.out hg9
       have HY := Lib.hid (HY.out.next hb)
       have HB := Lib.hid (HB.out.trans (hb.mono HB.out.size))
       have HX := Lib.hid (HX.out.next hb)
       clear x0 x1 x2 x3 x4
       obtain ⟨x0, x1, x2, x3, x4⟩ := HX.out.cells
       clear ho9 hg9 hk9 hb)
    | (at_builtin
       refine wpList_appB (xs := []) (ys := Ltr.bytes ⟨k, f, t, x, ns⟩) rfl _ _ 26 rfl Try.underlying26 hi hz0 hz1 hz2 rfl (own_empty2 w6 _) rfl HM.out ((HO.out.below (alloc_below _ _)).rd) HM0.out (size2 w6 _) ?_
       intro v8 w8 ho8 hg8
       have HO8 := Lib.hid ho8
       have H8B := Lib.hid (empty2_below w6 _ hg8)
       clear ho8 hg8)
    | (go_at_call 15; (with_reducible refine (HSL.out _ _ _ _ _ HY.out.rd HX.out.rd).mono ?_); rintro e w11 ⟨rfl, hb⟩
       have HB := Lib.hid (HB.out.trans (hb.mono HB.out.size))
       clear hb)
    | (go_at_call 7; refine (HL.out _).mono ?_; rintro e w12 ⟨rfl, hb⟩
       have HB := Lib.hid (HB.out.trans (hb.mono HB.out.size))
       have HX := Lib.hid (HX.out.next hb)
       clear x0 x1 x2 x3 x4
       obtain ⟨x0, x1, x2, x3, x4⟩ := HX.out.cells
       have HY := Lib.hid (HY.out.next hb)
       obtain ⟨y0, y1, y2, y3, y4⟩ := HY.out.cells
       clear hb)
    | fail)
  go_ret
  exact ⟨rfl, HB.out⟩
set_option maxRecDepth 100000 in
set_option maxHeartbeats 8000000 in
theorem lb_z_more (l : Ltr) (b c : List UInt8) (A C D : Option Addr) (cap1 cap2 cap3 n nb nc : Nat) (w : World) (hn : l.ns.length = n) (hnb : b.length = nb) (hnc : c.length = nc) (h1 : n ≤ 300) (h2 : nb ≤ 300) (h3 : nc ≤ 300) (hcb : nb ≤ cap2) (hr : RdI w w.heap.size A l.ns) (hrb : RdB w w.heap.size C b) (hrc : RdB w w.heap.size D c) (z : Ltr) (hz : z.right = true) (hbz : b = z.bytes) (hR : l.right = true) (hc : c ≠ []) :
    Calls Try.prog 4 #[.agg #[.int .i64 l.k, .int .i64 l.f, .int .i64 l.t, .int .i64 l.x, .slice A n cap1], .slice C nb cap2, .slice D nc cap3] w (Ans (.bool true) w) := by
  have HX : Hid (LBx (w.alloc (lv l A n cap1)) w.heap.size l A n cap1) := Lib.hid ⟨heap_alloc_new w _, (hr.below (alloc_below w _) (Nat.le_refl _)).more (alloc_below w _).size⟩
  have HB : Hid (Below w.heap.size w (w.alloc (lv l A n cap1))) := Lib.hid (alloc_below w _)
  have HRB : Hid (∀ W, Below w.heap.size w W → RdB W W.heap.size C b) := Lib.hid fun W hb => (hrb.below hb (Nat.le_refl _)).more hb.size
  have HRC : Hid (∀ W, Below w.heap.size w W → RdB W W.heap.size D c) := Lib.hid fun W hb => (hrc.below hb (Nat.le_refl _)).more hb.size
  have HL := Lib.hid aliveZ_any
  obtain ⟨i0, hi, hz0, hz1, hz2⟩ := info_parts info8
  have h1i : ¬ (300 : Int) < (n : Int) := by omega
  have h2i : ¬ (300 : Int) < (nb : Int) := by omega
  have h3i : ¬ (300 : Int) < (nc : Int) := by omega
  have HDB := Lib.hid (fun W hW => decL_of hz (by rw [← hbz]; exact hnb) hcb (by rw [← hbz]; exact HRB.out W hW) (A := C))
  obtain ⟨m, hm⟩ : ∃ m, z.ns.length = m := ⟨_, rfl⟩
  have hm16 : m ≤ 16 := by
    have := up_len (a := -1) (by omega) (by omega) (Ltr.up hz)
    omega
  have hmi : (m : Int) ≤ 16 := by omega
  have HEZ := Lib.hid (fun W A cap hrd => encL_yes hz (encodeL_any z A m cap hm (by omega) W hrd))
  have HRZ := Lib.hid (fun W A cap hrd => rightL_any z.k z.f z.t z.x z.ns A m cap hm (by omega) W hrd)
  rw [show Ltr.right ⟨z.k, z.f, z.t, z.x, z.ns⟩ = true from hz] at HRZ
  have HMZ := Lib.hid hm
  have HNB := Lib.hid hnb
  have HZB : Hid (b = z.bytes) := Lib.hid hbz
  obtain ⟨S, hS⟩ := ba_of b
  have HSS := Lib.hid hS
  have hsne : (S.toList != S.toList) = false := by simp
  have HEL := Lib.hid (fun W A cap hrd => encL_yes hR (encodeL_any l A n cap hn (by omega) W hrd))
  have HSL := Lib.hid (fun W A B c d hra hrb => sameL_any l l A B n n c d hn hn (by omega) (by omega) W hra hrb)
  rw [sameL_self l] at HSL
  obtain ⟨M, hM⟩ : ∃ M, l.bytes.length = M + 1 := ⟨l.bytes.length - 1, by have := (l.bytes_len hR).2; omega⟩
  have hMi : (M : Int) ≤ 1100 := by have := (l.bytes_len hR).1; omega
  have HM := Lib.hid hM
  obtain ⟨N9, hN9⟩ : ∃ N9, (l.bytes ++ c).length = N9 := ⟨_, rfl⟩
  have HN9 := Lib.hid hN9
  have HDL := Lib.hid (fun W X cap hcap hrd => decL_of hR hM hcap (A := X) (cap := cap) (w := W) hrd)
  have HDM := Lib.hid (fun W X cap hcap hrd => decL_not (cut_no hR hM) (by rw [List.length_take]; omega : (l.bytes.take M).length = M) hcap (A := X) (cap := cap) (w := W) hrd)
  have HM0 : Hid (([] : List UInt8).length + l.bytes.length ≤ 1000000) := Lib.hid (by have := (l.bytes_len hR).1; simp; omega)
  have HM1 : Hid (l.bytes.length + c.length ≤ 1000000) := Lib.hid (by have := (l.bytes_len hR).1; omega)
  have HNN := Lib.hid hn
  have HDC := Lib.hid (fun W X cap hcap hrd => decL_not (more_no hR hc) hN9 hcap (A := X) (cap := cap) (w := W) hrd)
  have hcl : ((nc : Int) == 0) = false := beq_false_of_ne (by have := List.length_pos_iff.2 hc; omega)
  have HNC := Lib.hid hnc
  clear hr hrb hrc hcb h1 h2 h3 hn hnb hz hbz hm hm16 hS hR hM hN9 hc hnc
  obtain ⟨x0, x1, x2, x3, x4⟩ := HX.out.cells
  obtain ⟨k, f, t, x, ns⟩ := l
  obtain ⟨k', f', t', x', ms⟩ := z
  unfold lv at HX HB x0 x1 x2 x3 x4
  simp only at *
  go_enter Try.func4, Try.ntmps4
  go_wp2_with (first
    | (go_at_call 10; (with_reducible refine (HDB.out _ HB.out).mono ?_); rintro e w1 ⟨Az, capz, rfl, ho, hb0⟩
       simp only [HMZ.out] at ho ⊢
       have hb := hb0.trans ((alloc_below w1 (.cells #[.int .i64 k', .int .i64 f', .int .i64 t', .int .i64 x', .slice Az m capz] 25)).mono hb0.size)
       have HZX : Hid (LBx (w1.alloc (.cells #[.int .i64 k', .int .i64 f', .int .i64 t', .int .i64 x', .slice Az m capz] 25)) w1.heap.size ⟨k', f', t', x', ms⟩ Az m capz) := Lib.hid ⟨heap_alloc_new w1 _, (ho.rd.below (alloc_below w1 _) (Nat.le_refl _)).more (alloc_below w1 _).size⟩
       have HB := Lib.hid (HB.out.trans (hb.mono HB.out.size))
       have HX := Lib.hid (HX.out.next hb)
       clear x0 x1 x2 x3 x4
       obtain ⟨x0, x1, x2, x3, x4⟩ := HX.out.cells
       obtain ⟨z0, z1, z2, z3, z4⟩ := HZX.out.cells
       clear ho hb hb0)
    | (go_at_call 8; (with_reducible refine (HEZ.out _ _ _ HZX.out.rd).mono ?_); rintro e w2 ⟨v2, rfl, ho, hb⟩
       have hcv0 := conv_ownS ho S (HSS.out.trans HZB.out)
       have hcv1 := conv_rd (n := nb) (cap := cap2) (HRB.out _ (HB.out.trans (hb.mono HB.out.size))) HNB.out S HSS.out
       have HB := Lib.hid (HB.out.trans (hb.mono HB.out.size))
       have HX := Lib.hid (HX.out.next hb)
       clear x0 x1 x2 x3 x4
       obtain ⟨x0, x1, x2, x3, x4⟩ := HX.out.cells
       have HZX := Lib.hid (HZX.out.next hb)
       clear z0 z1 z2 z3 z4
       obtain ⟨z0, z1, z2, z3, z4⟩ := HZX.out.cells
       clear ho hb)
    | (go_at_call 13; (with_reducible refine (HRZ.out _ _ _ HZX.out.rd).mono ?_); rintro e w3 ⟨rfl, hb⟩
       have HB := Lib.hid (HB.out.trans (hb.mono HB.out.size))
       have HX := Lib.hid (HX.out.next hb)
       clear x0 x1 x2 x3 x4
       obtain ⟨x0, x1, x2, x3, x4⟩ := HX.out.cells
       have HZX := Lib.hid (HZX.out.next hb)
       clear z0 z1 z2 z3 z4
       obtain ⟨z0, z1, z2, z3, z4⟩ := HZX.out.cells
       clear hb)
    | (go_at_call 8; (with_reducible refine (HEL.out _ _ _ HX.out.rd).mono ?_); rintro e w4 ⟨v4, rfl, ho, hb⟩
       obtain ⟨X, kx, hv, hk⟩ := ho.2
       rw [HM.out] at hv hk
       subst hv
       have HO := Lib.hid ho
       have hkx : (M : Int) + 1 ≤ (kx : Int) := by omega
       have HKX := Lib.hid hk
       have HB := Lib.hid (HB.out.trans (hb.mono HB.out.size))
       have HX := Lib.hid (HX.out.next hb)
       clear x0 x1 x2 x3 x4
       obtain ⟨x0, x1, x2, x3, x4⟩ := HX.out.cells
       clear ho hb hk)
    | (go_at_call 10; (with_reducible refine (HDL.out _ X kx HKX.out HO.out.rd).mono ?_); rintro e w5 ⟨Ay, capy, rfl, hoy, hb0⟩
       simp only [HNN.out] at hoy ⊢
       have hb := hb0.trans ((alloc_below w5 (.cells #[.int .i64 k, .int .i64 f, .int .i64 t, .int .i64 x, .slice Ay n capy] 25)).mono hb0.size)
       have HY : Hid (LBx (w5.alloc (.cells #[.int .i64 k, .int .i64 f, .int .i64 t, .int .i64 x, .slice Ay n capy] 25)) w5.heap.size ⟨k, f, t, x, ns⟩ Ay n capy) := Lib.hid ⟨heap_alloc_new w5 _, (hoy.rd.below (alloc_below w5 _) (Nat.le_refl _)).more (alloc_below w5 _).size⟩
       have HO := Lib.hid (HO.out.below hb)
       have HB := Lib.hid (HB.out.trans (hb.mono HB.out.size))
       have HX := Lib.hid (HX.out.next hb)
       clear x0 x1 x2 x3 x4
       obtain ⟨x0, x1, x2, x3, x4⟩ := HX.out.cells
       clear hoy hb hb0)
    | (go_at_call 10; (with_reducible refine (HDM.out _ X kx (by have := HKX.out; omega) (HO.out.rd.take M)).mono ?_); rintro e w6 ⟨rfl, hb0⟩
       unfold zeroL
       have hb := hb0.trans ((alloc_below w6 (.cells #[.int .i64 0, .int .i64 0, .int .i64 0, .int .i64 0, .slice none 0 0] 25)).mono hb0.size)
       have HO := Lib.hid (HO.out.below hb)
       have HY := Lib.hid (HY.out.next hb)
       have HB := Lib.hid (HB.out.trans (hb.mono HB.out.size))
       have HX := Lib.hid (HX.out.next hb)
       clear x0 x1 x2 x3 x4
       obtain ⟨x0, x1, x2, x3, x4⟩ := HX.out.cells
       clear hb hb0)
    | (go_at_call 10; (with_reducible refine (HDC.out _ X9 k9 HK9.out HO9.out.rd).mono ?_); rintro e w10 ⟨rfl, hb0⟩
       unfold zeroL
       have hb := hb0.trans ((alloc_below w10 (.cells #[.int .i64 0, .int .i64 0, .int .i64 0, .int .i64 0, .slice none 0 0] 25)).mono hb0.size)
       have HY := Lib.hid (HY.out.next hb)
       have HB := Lib.hid (HB.out.trans (hb.mono HB.out.size))
       have HX := Lib.hid (HX.out.next hb)
       clear x0 x1 x2 x3 x4
       obtain ⟨x0, x1, x2, x3, x4⟩ := HX.out.cells
       clear hb hb0)
    | (at_builtin
       refine wpList_appB (xs := Ltr.bytes ⟨k, f, t, x, ns⟩) (ys := c) rfl _ _ 26 rfl Try.underlying26 hi hz0 hz1 hz2 rfl HO8.out rfl HNC.out (HRC.out _ (HB.out.trans (H8B.out.mono HB.out.size))) HM1.out (by have := H8B.out.size; simp at this; omega) ?_
       intro v9 w9 ho9 hg9
       obtain ⟨X9, k9, hv9, hk9⟩ := ho9.2
       rw [HN9.out] at hv9 hk9
       subst hv9
       have HO9 := Lib.hid ho9
       have HK9 := Lib.hid hk9
       have hb := then2_below H8B.out HO8.out hg9
       have HY := Lib.hid (HY.out.next hb)
       have HB := Lib.hid (HB.out.trans (hb.mono HB.out.size))
       have HX := Lib.hid (HX.out.next hb)
       clear x0 x1 x2 x3 x4
       obtain ⟨x0, x1, x2, x3, x4⟩ := HX.out.cells
       clear ho9 hg9 hk9 hb)
    | (at_builtin
       refine wpList_appB (xs := []) (ys := Ltr.bytes ⟨k, f, t, x, ns⟩) rfl _ _ 26 rfl Try.underlying26 hi hz0 hz1 hz2 rfl (own_empty2 w6 _) rfl HM.out ((HO.out.below (alloc_below _ _)).rd) HM0.out (size2 w6 _) ?_
       intro v8 w8 ho8 hg8
       have HO8 := Lib.hid ho8
       have H8B := Lib.hid (empty2_below w6 _ hg8)
       clear ho8 hg8)
    | (go_at_call 15; (with_reducible refine (HSL.out _ _ _ _ _ HY.out.rd HX.out.rd).mono ?_); rintro e w11 ⟨rfl, hb⟩
       have HB := Lib.hid (HB.out.trans (hb.mono HB.out.size))
       clear hb)
    | (go_at_call 7; refine (HL.out _).mono ?_; rintro e w12 ⟨rfl, hb⟩
       have HB := Lib.hid (HB.out.trans (hb.mono HB.out.size))
       have HX := Lib.hid (HX.out.next hb)
       clear x0 x1 x2 x3 x4
       obtain ⟨x0, x1, x2, x3, x4⟩ := HX.out.cells
       have HY := Lib.hid (HY.out.next hb)
       obtain ⟨y0, y1, y2, y3, y4⟩ := HY.out.cells
       clear hb)
    | fail)
  go_ret
  exact ⟨rfl, HB.out⟩
set_option maxRecDepth 100000 in
set_option maxHeartbeats 8000000 in
theorem lb_big1 (k f t x : Int) (A C D : Option Addr) (cap1 cap2 cap3 n nb nc : Nat) (w : World) (h1 : (300 : Int) < (n : Int)) :
    Calls Try.prog 4 #[.agg #[.int .i64 k, .int .i64 f, .int .i64 t, .int .i64 x, .slice A n cap1], .slice C nb cap2, .slice D nc cap3] w (Ans (.bool true) w) := by
  have HB : Hid (Below w.heap.size w (w.alloc (.cells #[.int .i64 k, .int .i64 f, .int .i64 t, .int .i64 x, .slice A n cap1] 25))) := Lib.hid (alloc_below w _)
  obtain ⟨x0, x1, x2, x3, x4⟩ := box5 (heap_alloc_new w (.cells #[.int .i64 k, .int .i64 f, .int .i64 t, .int .i64 x, .slice A n cap1] 25))
  have HL := Lib.hid aliveZ_any
  go_enter Try.func4, Try.ntmps4
  go_wp2_with (go_at_call 7; refine (HL.out _).mono ?_; rintro e w12 ⟨rfl, hb⟩; have HB := Lib.hid (HB.out.trans (hb.mono HB.out.size)); clear hb)
  go_ret
  exact ⟨rfl, HB.out⟩
set_option maxRecDepth 100000 in
set_option maxHeartbeats 8000000 in
theorem lb_big2 (k f t x : Int) (A C D : Option Addr) (cap1 cap2 cap3 n nb nc : Nat) (w : World) (h1 : ¬ (300 : Int) < (n : Int)) (h2 : (300 : Int) < (nb : Int)) :
    Calls Try.prog 4 #[.agg #[.int .i64 k, .int .i64 f, .int .i64 t, .int .i64 x, .slice A n cap1], .slice C nb cap2, .slice D nc cap3] w (Ans (.bool true) w) := by
  have HB : Hid (Below w.heap.size w (w.alloc (.cells #[.int .i64 k, .int .i64 f, .int .i64 t, .int .i64 x, .slice A n cap1] 25))) := Lib.hid (alloc_below w _)
  obtain ⟨x0, x1, x2, x3, x4⟩ := box5 (heap_alloc_new w (.cells #[.int .i64 k, .int .i64 f, .int .i64 t, .int .i64 x, .slice A n cap1] 25))
  have HL := Lib.hid aliveZ_any
  go_enter Try.func4, Try.ntmps4
  go_wp2_with (go_at_call 7; refine (HL.out _).mono ?_; rintro e w12 ⟨rfl, hb⟩; have HB := Lib.hid (HB.out.trans (hb.mono HB.out.size)); clear hb)
  go_ret
  exact ⟨rfl, HB.out⟩
set_option maxRecDepth 100000 in
set_option maxHeartbeats 8000000 in
theorem lb_big3 (k f t x : Int) (A C D : Option Addr) (cap1 cap2 cap3 n nb nc : Nat) (w : World) (h1 : ¬ (300 : Int) < (n : Int)) (h2 : ¬ (300 : Int) < (nb : Int)) (h3 : (300 : Int) < (nc : Int)) :
    Calls Try.prog 4 #[.agg #[.int .i64 k, .int .i64 f, .int .i64 t, .int .i64 x, .slice A n cap1], .slice C nb cap2, .slice D nc cap3] w (Ans (.bool true) w) := by
  have HB : Hid (Below w.heap.size w (w.alloc (.cells #[.int .i64 k, .int .i64 f, .int .i64 t, .int .i64 x, .slice A n cap1] 25))) := Lib.hid (alloc_below w _)
  obtain ⟨x0, x1, x2, x3, x4⟩ := box5 (heap_alloc_new w (.cells #[.int .i64 k, .int .i64 f, .int .i64 t, .int .i64 x, .slice A n cap1] 25))
  have HL := Lib.hid aliveZ_any
  go_enter Try.func4, Try.ntmps4
  go_wp2_with (go_at_call 7; refine (HL.out _).mono ?_; rintro e w12 ⟨rfl, hb⟩; have HB := Lib.hid (HB.out.trans (hb.mono HB.out.size)); clear hb)
  go_ret
  exact ⟨rfl, HB.out⟩
theorem letterBack_law (l : Ltr) (b c : List UInt8) (A C D : Option Addr) (cap1 cap2 cap3 : Nat) (w : World) (hcb : b.length ≤ cap2) (hr : RdI w w.heap.size A l.ns) (hrb : RdB w w.heap.size C b) (hrc : RdB w w.heap.size D c) :
    Calls Try.prog 4 #[.agg #[.int .i64 l.k, .int .i64 l.f, .int .i64 l.t, .int .i64 l.x, .slice A l.ns.length cap1], .slice C b.length cap2, .slice D c.length cap3] w (Ans (.bool true) w) := by
  by_cases h1 : (300 : Int) < (l.ns.length : Int)
  · exact lb_big1 _ _ _ _ A C D cap1 cap2 cap3 _ _ _ w h1
  by_cases h2 : (300 : Int) < (b.length : Int)
  · exact lb_big2 _ _ _ _ A C D cap1 cap2 cap3 _ _ _ w h1 h2
  by_cases h3 : (300 : Int) < (c.length : Int)
  · exact lb_big3 _ _ _ _ A C D cap1 cap2 cap3 _ _ _ w h1 h2 h3
  have g1 : l.ns.length ≤ 300 := by omega
  have g2 : b.length ≤ 300 := by omega
  have g3 : c.length ≤ 300 := by omega
  by_cases hz : ∃ z : Ltr, z.right = true ∧ b = z.bytes
  · obtain ⟨z, hz, hbz⟩ := hz
    cases hR : l.right with
    | false => exact lb_z_no l b c A C D cap1 cap2 cap3 _ _ _ w rfl rfl rfl g1 g2 g3 hcb hr hrb hrc z hz hbz hR
    | true =>
      by_cases hc : c = []
      · exact lb_z_nil l b c A C D cap1 cap2 cap3 _ _ _ w rfl rfl rfl g1 g2 g3 hcb hr hrb hrc z hz hbz hR hc
      · exact lb_z_more l b c A C D cap1 cap2 cap3 _ _ _ w rfl rfl rfl g1 g2 g3 hcb hr hrb hrc z hz hbz hR hc
  · have hno : ∀ z : Ltr, z.right = true → b ≠ z.bytes := fun z h e => hz ⟨z, h, e⟩
    cases hR : l.right with
    | false => exact lb_n_no l b c A C D cap1 cap2 cap3 _ _ _ w rfl rfl rfl g1 g2 g3 hcb hr hrb hrc hno hR
    | true =>
      by_cases hc : c = []
      · exact lb_n_nil l b c A C D cap1 cap2 cap3 _ _ _ w rfl rfl rfl g1 g2 g3 hcb hr hrb hrc hno hR hc
      · exact lb_n_more l b c A C D cap1 cap2 cap3 _ _ _ w rfl rfl rfl g1 g2 g3 hcb hr hrb hrc hno hR hc
#print axioms letterBack_law
end Go.Proofs.Ytbbhddpfclgohaa

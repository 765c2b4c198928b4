/- Package value: Rows (slices.CompareFunc by Order) answers the order of two lists. -/
import Derived.Test.YtaokblhflhlhiaaKL
import Derived.Test.YtaokblhflhlhiaaKC
namespace Go.Proofs.Ytaokblhflhlhiaa
open Go.RowKit

theorem order_at (x y : Val) (w : World) : Calls Try.prog 20 #[.agg #[.int .i64 x.k, .int .i64 x.n, .string x.s], .agg #[.int .i64 y.k, .int .i64 y.n, .string y.s]] w (Ans (.int .i64 (ordI x y)) w) := order_any x y w
/-- at the head of CompareFunc's loop -/
def CFL (w : World) (a b : List Val) (v13 : Value) (wr : World) : Prop := ∃ k : Nat, v13 = .int .i64 k ∧ k ≤ a.length ∧ k ≤ b.length ∧ rowsI a b = rowsI (a.drop k) (b.drop k) ∧ Below w.heap.size w wr
theorem rows_step {a b : List Val} {k : Nat} {x y : Val} (hx : a[k]? = some x) (hy : b[k]? = some y) : rowsI (a.drop k) (b.drop k) = if ordI x y = 0 then rowsI (a.drop (k + 1)) (b.drop (k + 1)) else ordI x y := by
  have h1 := (List.getElem?_eq_some_iff.1 hx)
  have h2 := (List.getElem?_eq_some_iff.1 hy)
  rw [List.drop_eq_getElem_cons h1.1, List.drop_eq_getElem_cons h2.1, h1.2, h2.2]
  rfl
set_option maxRecDepth 100000 in
set_option maxHeartbeats 4000000 in
theorem compareFunc_any (a b : List Val) (A C : Option Addr) (cap1 cap2 : Nat) (w : World) (hla : a.length ≤ maxLen) (hr : RdV w w.heap.size A a) (hs : RdV w w.heap.size C b) :
    Calls Try.prog 27 #[.slice A a.length cap1, .slice C b.length cap2, .func (.func 20) #[] #[]] w (Ans (.int .i64 (rowsI a b)) w) := by
  have HR := Lib.hid hr
  have HT := Lib.hid hs
  have HS : Hid (CFL w a b (.int .i64 0) w) := Lib.hid ⟨0, rfl, Nat.zero_le _, Nat.zero_le _, rfl, Below.refl _ _⟩
  have hli : (a.length : Int) ≤ 9223372036854775807 := by unfold maxLen at hla; omega
  have HLI := Lib.hid hli
  obtain ⟨res, hres⟩ : ∃ res, Hid (res = rowsI a b) := ⟨_, Lib.hid rfl⟩
  rw [← hres.out]
  clear hr hs hli hla
  go_enter Try.func27, Try.ntmps27
  go_wp2_with fail
  go_loopw [13] (fun v13 wr => CFL w a b v13 wr) (fun v13 _ => a.length - (intOf v13).toNat)
  case atStart => exact HS.out
  case round =>
    obtain ⟨k, rfl, hk, hkb, he, hb⟩ := hrel
    have HE := Lib.hid he
    have HB := Lib.hid hb
    clear he hb
    by_cases hlt : k < a.length
    · have hki : (k : Int) < (a.length : Int) := by omega
      obtain ⟨x, hx⟩ : ∃ x, a[k]? = some x := ⟨_, List.getElem?_eq_getElem hlt⟩
      obtain ⟨b0, o0, hA, c0, c1, c2⟩ := HR.out.at_ hx HB.out (Nat.le_refl _)
      subst hA
      by_cases hltb : k < b.length
      · have hkbi : ¬ (b.length : Int) ≤ (k : Int) := by omega
        have hkbj : (k : Int) < (b.length : Int) := by omega
        obtain ⟨y, hy⟩ : ∃ y, b[k]? = some y := ⟨_, List.getElem?_eq_getElem hltb⟩
        obtain ⟨b1, o1, hC, d0, d1, d2⟩ := HT.out.at_ hy (HB.out.trans ((alloc_below wr (.cells #[.int .i64 x.k, .int .i64 x.n, .string x.s] 37)).mono HB.out.size)) (Nat.le_refl _)
        subst hC
        have HST := Lib.hid (rows_step hx hy)
        have OA := Lib.hid (order_at x y)
        have HBX : Hid ((wr.alloc (.cells #[.int .i64 x.k, .int .i64 x.n, .string x.s] 37)).heap[wr.heap.size]? = some (.cells #[.int .i64 x.k, .int .i64 x.n, .string x.s] 37 (0, 0))) := Lib.hid (heap_alloc_new _ _)
        have HB2 := Lib.hid (alloc2_below wr (.cells #[.int .i64 x.k, .int .i64 x.n, .string x.s] 37) (.cells #[.int .i64 y.k, .int .i64 y.n, .string y.s] 37))
        by_cases h0 : ordI x y = 0
        · rw [h0] at OA
          have HN : Hid (∀ v13 w2, v13 = .int .i64 ((k + 1 : Nat) : Int) → Below wr.heap.size wr w2 → CFL w a b v13 w2) := Lib.hid fun v13 w2 h13 hb2 => ⟨k + 1, h13, hlt, hltb, by rw [HE.out, HST.out, if_pos h0], HB.out.trans (hb2.mono HB.out.size)⟩
          have hkm : (k : Int) + 1 ≤ 9223372036854775807 := by have := HLI.out; omega
          clear h0 hx hy hk hkb
          go_wp2_with (go_at_call 20; refine (OA.out _).mono ?_; rintro e w2 ⟨rfl, hb2⟩; have HY := Lib.hid (fun v13 h13 => HN.out v13 _ h13 (HB2.out.trans (hb2.mono HB2.out.size))); clear hb2)
          go_roundw
          case rel => first | exact HY.out _ (by go_num) | ((repeat apply Exists.intro); exact ⟨HY.out _ (by go_num), rfl⟩)
          case measure => clear hkm; simp [intOf]; omega
        · have hz : ((ordI x y) == 0) = false := beq_false_of_ne h0
          have HRE : Hid (ordI x y = res) := Lib.hid (by rw [hres.out, HE.out, HST.out, if_neg h0])
          rw [HRE.out] at OA hz
          have hz2 : (res != 0) = true := by rw [bne, hz]; rfl
          clear h0 hx hy hk hkb
          go_wp2_with (go_at_call 20; refine (OA.out _).mono ?_; rintro e w2 ⟨rfl, hb2⟩; have HY : Hid (Ans (.int .i64 res) w (.returned (.int .i64 res)) w2) := Lib.hid ⟨rfl, HB.out.trans ((HB2.out.trans (hb2.mono HB2.out.size)).mono HB.out.size)⟩; clear hb2)
          go_ret
          exact HY.out
      · have hkbe : k = b.length := by omega
        have hkbi : (b.length : Int) ≤ (k : Int) := by omega
        have HRE : Hid (res = 1) := Lib.hid (by
          rw [hres.out, HE.out, hkbe, List.drop_length]
          rw [List.drop_eq_getElem_cons (show b.length < a.length by omega)]
          rfl)
        have HB2 := Lib.hid (HB.out.trans ((alloc_below wr (.cells #[.int .i64 x.k, .int .i64 x.n, .string x.s] 37)).mono HB.out.size))
        clear hkbe hx hk hkb hltb
        go_wp2_with fail
        go_ret
        exact ⟨(by rw [HRE.out]; rfl), HB2.out⟩
    · have hkl : k = a.length := by omega
      subst hkl
      have hnlt : ¬ ((a.length : Int) < (a.length : Int)) := by omega
      by_cases hlb : a.length < b.length
      · have hlbi : (a.length : Int) < (b.length : Int) := by omega
        have HRE : Hid (res = -1) := Lib.hid (by
          rw [hres.out, HE.out, List.drop_length]
          rw [List.drop_eq_getElem_cons hlb]
          rfl)
        clear hlt hk hkb hlb
        go_wp2_with fail
        go_ret
        exact ⟨(by rw [HRE.out]; rfl), HB.out⟩
      · have hlbi : ¬ (a.length : Int) < (b.length : Int) := by omega
        have HRE : Hid (res = 0) := Lib.hid (by
          rw [hres.out, HE.out, List.drop_length, List.drop_eq_nil_of_le (by omega)]
          rfl)
        clear hlt hk hkb hlb
        go_wp2_with fail
        go_ret
        exact ⟨(by rw [HRE.out]; rfl), HB.out⟩
theorem rows_any (a b : List Val) (A C : Option Addr) (cap1 cap2 : Nat) (w : World) (hla : a.length ≤ maxLen) (hr : RdV w w.heap.size A a) (hs : RdV w w.heap.size C b) :
    Calls Try.prog 17 #[.slice A a.length cap1, .slice C b.length cap2] w (Ans (.int .i64 (rowsI a b)) w) := by
  have CF := Lib.hid (compareFunc_any a b A C cap1 cap2 w hla hr hs)
  clear hla hr hs
  go_enter Try.func17, Try.ntmps17
  go_wp2_with (go_at_call 27; refine CF.out.mono ?_; rintro e w2 ⟨rfl, hb2⟩; have HY := Lib.hid hb2; clear hb2)
  go_ret
  exact ⟨rfl, HY.out⟩
end Go.Proofs.Ytaokblhflhlhiaa

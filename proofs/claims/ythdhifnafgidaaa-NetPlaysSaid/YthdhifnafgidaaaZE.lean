/- Package letter: Encode. -/
import Derived.Test.YthdhifnafgidaaaZC
import Derived.Test.YthdhifnafgidaaaZD
import Derived.Test.YthdhifnafgidaaaWE
namespace Go.Proofs.Ythdhifnafgidaaa
open Go.RowKit

/-- what Encode answers -/
def EncL (w : World) (l : Ltr) (e : Ending) (w' : World) : Prop := Below w.heap.size w w' ∧ ((l.right = true ∧ ∃ v, e = .returned (.tuple #[v, .int .i64 0]) ∧ OwnB w' w.heap.size v l.bytes) ∨ (l.right = false ∧ e = .returned (.tuple #[.slice none 0 0, .int .i64 111])))
theorem Ltr.row_ok {l : Ltr} (h : l.right = true) : AllOk l.row := fun x hx => ⟨(l.row_R h x hx).2, by
  simp only [Ltr.row, List.mem_cons, List.not_mem_nil, or_false] at hx
  rcases hx with rfl | rfl | rfl | rfl | rfl <;> (show (0 : Nat) ≤ _; omega)⟩
theorem OwnB.low_ {w : World} {B C : Nat} {v : Value} {l : List UInt8} (h : OwnB w B v l) (hC : C ≤ B) : OwnB w C v l := by
  refine ⟨⟨h.1.1, ?_⟩, h.2⟩
  rcases h.1.2 with h1 | ⟨g, cap, cur, e, hb, hr⟩
  · exact .inl h1
  · exact .inr ⟨g, cap, cur, e, Nat.le_trans hC hb, hr⟩
set_option maxRecDepth 100000 in
set_option maxHeartbeats 4000000 in
theorem encodeL_any (l : Ltr) (A : Option Addr) (n cap : Nat) (hn : l.ns.length = n) (hn2 : n ≤ 1000000) (w : World) (hr : RdI w w.heap.size A l.ns) :
    Calls Try.prog 27 #[.agg #[.int .i64 l.k, .int .i64 l.f, .int .i64 l.t, .int .i64 l.x, .slice A n cap]] w (EncL w l) := by
  obtain ⟨k, f, t, x, ns⟩ := l
  simp only at hn hr ⊢
  obtain ⟨w0, hw0⟩ : ∃ w0, w0 = w.alloc (.cells #[.int .i64 k, .int .i64 f, .int .i64 t, .int .i64 x, .slice A n cap] 32) := ⟨_, rfl⟩
  have HB : Hid (Below w.heap.size w w0) := Lib.hid (by rw [hw0]; exact alloc_below w _)
  have HX : Hid (w0.heap[w.heap.size]? = some (.cells #[.int .i64 k, .int .i64 f, .int .i64 t, .int .i64 x, .slice A n cap] 32 (0, 0))) := Lib.hid (by rw [hw0]; exact heap_alloc_new w _)
  obtain ⟨x0, x1, x2, x3, x4⟩ := box5 HX.out
  have HRI : Hid (∀ W, Below w.heap.size w W → RdI W W.heap.size A ns) := Lib.hid fun W hb => (hr.below hb (Nat.le_refl _)).more hb.size
  cases hR : Ltr.right ⟨k, f, t, x, ns⟩ with
  | true =>
    have HR := Lib.hid (rightL_any k f t x ns A n cap hn hn2 w0 (HRI.out _ HB.out))
    rw [hR] at HR
    have HP := Lib.hid (fun W hb => parts_any k f t x ns hR A n cap hn W (HRI.out W hb))
    have HE := Lib.hid (fun W A cap hv => encodeR_right (Ltr.row ⟨k, f, t, x, ns⟩) A 5 cap rfl W (by simp [Ltr.row]) (Ltr.row_ok hR) (Ltr.row_R hR) hv)
    have HY : Hid (∀ v w', OwnB w' w.heap.size v (Ltr.bytes ⟨k, f, t, x, ns⟩) → Below w.heap.size w w' → EncL w ⟨k, f, t, x, ns⟩ (.returned (.tuple #[v, .int .i64 0])) w') := Lib.hid fun v w' ho hb => ⟨hb, .inl ⟨hR, v, rfl, ho⟩⟩
    clear hr hn hn2 hR
    subst hw0
    go_enter Try.func27, Try.ntmps27
    go_wp2_with (first
      | (go_at_call 37; refine HR.out.mono ?_; rintro e w2 ⟨rfl, hb⟩
         have HX := Lib.hid ((hb.block _ (Array.getElem?_eq_some_iff.1 HX.out).1).trans HX.out)
         have HB := Lib.hid (HB.out.trans (hb.mono HB.out.size))
         obtain ⟨x0, x1, x2, x3, x4⟩ := box5 HX.out
         clear hb)
      | (go_at_call 39; refine (HP.out _ HB.out).mono ?_; rintro e w3 ⟨A3, cap3, rfl, hv, hb⟩
         have HV := Lib.hid hv
         have HB := Lib.hid (HB.out.trans (hb.mono HB.out.size))
         clear hv hb)
      | (go_at_call 38; refine (HE.out _ _ _ HV.out).mono ?_; rintro e w4 ⟨v, rfl, ho, hb⟩
         have HZ := Lib.hid (HY.out v _ (ho.low_ HB.out.size) (HB.out.trans (hb.mono HB.out.size)))
         clear ho hb))
    go_ret2
    exact HZ.out
  | false =>
    have HR := Lib.hid (rightL_any k f t x ns A n cap hn hn2 w0 (HRI.out _ HB.out))
    rw [hR] at HR
    have HY : Hid (∀ w', Below w.heap.size w w' → EncL w ⟨k, f, t, x, ns⟩ (.returned (.tuple #[.slice none 0 0, .int .i64 111])) w') := Lib.hid fun w' hb => ⟨hb, .inr ⟨hR, rfl⟩⟩
    clear hr hn hn2 hR
    subst hw0
    go_enter Try.func27, Try.ntmps27
    go_wp2_with (go_at_call 37; refine HR.out.mono ?_; rintro e w2 ⟨rfl, hb⟩
                 have HB := Lib.hid (HB.out.trans (hb.mono HB.out.size)); clear hb)
    go_ret2
    exact HY.out _ HB.out
/-- .. of a right letter, and of one that is not -/
def EncY (w : World) (l : Ltr) (e : Ending) (w' : World) : Prop := ∃ v, e = .returned (.tuple #[v, .int .i64 0]) ∧ OwnB w' w.heap.size v l.bytes ∧ Below w.heap.size w w'
def EncN (w : World) (e : Ending) (w' : World) : Prop := e = .returned (.tuple #[.slice none 0 0, .int .i64 111]) ∧ Below w.heap.size w w'
theorem encL_yes {l : Ltr} (h : l.right = true) {w : World} {P : Program} {f : Nat} {a : Array Value} (H : Calls P f a w (EncL w l)) : Calls P f a w (EncY w l) := H.mono fun e w' ⟨hb, k⟩ => by
  rcases k with ⟨_, v, he, ho⟩ | ⟨hn, _⟩
  · exact ⟨v, he, ho, hb⟩
  · rw [h] at hn; cases hn
theorem encL_no {l : Ltr} (h : l.right = false) {w : World} {P : Program} {f : Nat} {a : Array Value} (H : Calls P f a w (EncL w l)) : Calls P f a w (EncN w) := H.mono fun e w' ⟨hb, k⟩ => by
  rcases k with ⟨hn, _⟩ | ⟨_, he⟩
  · rw [h] at hn; cases hn
  · exact ⟨he, hb⟩
end Go.Proofs.Ythdhifnafgidaaa

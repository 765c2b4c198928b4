/- NetNil: the law's own body answers true. -/
import Derived.Test.YthapjoghnhfkdaaSS
namespace Go.Proofs.Ythapjoghnhfkdaa
open Go.RowKit Go.Maps

set_option maxRecDepth 100000 in
set_option maxHeartbeats 8000000 in
theorem netNil_law (l : Ltr) (A : Option Addr) (n cap : Nat) (x : Int) (w : World) :
    Calls Try.prog 6 #[.agg #[.int .i64 l.k, .int .i64 l.f, .int .i64 l.t, .int .i64 l.x, .slice A n cap], .int .i64 x] w (Ans (.bool true) w) := by
  obtain ⟨k, f, t, tx, ns⟩ := l
  have HB := Lib.hid (alloc_below w (.cells #[.int .i64 k, .int .i64 f, .int .i64 t, .int .i64 tx, .slice A n cap] 32))
  go_enter Try.func6, Try.ntmps6
  go_wp2_with (first
    | (go_at_call 10; refine (send_nil _ _ _ _ _ _ _ _).mono ?_; rintro e w1 ⟨rfl, hb⟩
       have HB1 := Lib.hid (HB.out.trans (hb.mono HB.out.size))
       clear hb)
    | (go_at_call 15; refine (take_nil _ _).mono ?_; unfold zeroL; rintro e w2 ⟨rfl, hb⟩
       have hb2 := HB1.out.trans (hb.mono HB1.out.size)
       have HB2 := Lib.hid (hb2.trans ((alloc_below w2 (.cells #[.int .i64 0, .int .i64 0, .int .i64 0, .int .i64 0, .slice none 0 0] 32)).mono hb2.size))
       have hbx := heap_alloc_new w2 (.cells #[.int .i64 0, .int .i64 0, .int .i64 0, .int .i64 0, .slice none 0 0] 32)
       have HBX := Lib.hid hbx
       have HLT := Lib.hid (Array.getElem?_eq_some_iff.1 hbx).1
       clear hb hb2 hbx)
    | (go_at_call 17; refine (twice_nil _ _).mono ?_; rintro e w3 ⟨rfl, rfl⟩)
    | (go_at_call 13; refine (lookN_nil _ _).mono ?_; unfold zeroL; rintro e w4 ⟨rfl, hb⟩
       have hb2 := hb.trans ((alloc_below w4 (.cells #[.int .i64 0, .int .i64 0, .int .i64 0, .int .i64 0, .slice none 0 0] 32)).mono hb.size)
       have HB4 := Lib.hid (HB2.out.trans (hb2.mono HB2.out.size))
       have HBX4 := Lib.hid ((hb2.block _ HLT.out).trans HBX.out)
       have HLT4 := Lib.hid (Nat.lt_of_lt_of_le HLT.out hb2.size)
       clear hb hb2)
    | (go_at_call 21; refine (told_nil _).mono ?_; rintro e w5 ⟨rfl, nd, hd⟩
       have hb5 : Below w.heap.size w w5 := HB4.out.trans (by rw [hd]; exact (drewN_below _ _).mono HB4.out.size)
       have HB5 := Lib.hid hb5
       have HBX5 : Hid (w5.heap[w2.heap.size]? = _) := Lib.hid (Eq.trans (by rw [hd]; rfl) HBX4.out)
       have HLT5 := Lib.hid (Array.getElem?_eq_some_iff.1 HBX5.out).1
       clear hb5 hd)
    | (go_at_call 26; refine (aliveN_any _).mono ?_; rintro e w6 ⟨rfl, hb⟩
       have HB6 := Lib.hid (HB5.out.trans (hb.mono HB5.out.size))
       obtain ⟨x0, x1, x2, x3, x4⟩ := box5 ((hb.block _ HLT5.out).trans HBX5.out)
       clear hb)
    | (go_at_call 19; refine (lose_nil _ _).mono ?_; rintro e w7 ⟨rfl, rfl⟩)
    | (go_at_call 23; refine (numbers_nil _).mono ?_; rintro e w8 ⟨rfl, rfl⟩)
    | (go_at_call 25; refine (to_nil _ _).mono ?_; rintro e w9 ⟨v, rfl, ho, hb⟩
       obtain ⟨A9, c9, rfl, _⟩ := ho.2
       have HB9 := Lib.hid (HB6.out.trans (hb.mono HB6.out.size))
       clear ho hb))
  go_ret
  exact ⟨rfl, HB9.out⟩
end Go.Proofs.Ythapjoghnhfkdaa

/- The document's numbers of any size: scaled. -/
import Derived.Test.YtjfbhajaddgmpaaDoorNCC
namespace Go.Proofs.YtjfbhajaddgmpaaDoor
open Go.RowKit

/-- a size of at most three digits, and a sign -/
def magC (m : Bool) (M : Int) : Array Value := bigC m (M % 4294967296) (M / 4294967296 % 4294967296) (M / 4294967296 / 4294967296) 0 0 0
def sclN (k n : Int) : Int := if k = 2 then (n.natAbs : Int) * 10000 else (n.natAbs : Int)
theorem big_of_mag (n : Int) (hn : i64ok n) (m : Bool) : bigC m ((n.natAbs % 4294967296 : Nat) : Int) ((n.natAbs / 4294967296 : Nat) : Int) 0 0 0 0 = magC m (n.natAbs : Int) := by
  obtain ⟨h1, h2⟩ := hn
  unfold magC
  have e1 : ((n.natAbs % 4294967296 : Nat) : Int) = (n.natAbs : Int) % 4294967296 := by omega
  have e2 : ((n.natAbs / 4294967296 : Nat) : Int) = (n.natAbs : Int) / 4294967296 % 4294967296 := by omega
  have e3 : (n.natAbs : Int) / 4294967296 / 4294967296 = 0 := by omega
  rw [e1, e2, e3]
theorem big_of_mul (n : Int) (hn : i64ok n) (m : Bool) (p q : Int) (hp : p = ((n.natAbs % 4294967296 : Nat) : Int)) (hq : q = ((n.natAbs / 4294967296 : Nat) : Int)) :
    bigC m (p * 10000 % 4294967296) ((p * 10000 / 4294967296 + q * 10000) % 4294967296) ((p * 10000 / 4294967296 + q * 10000) / 4294967296) 0 0 0 = magC m ((n.natAbs : Int) * 10000) := by
  obtain ⟨h1, h2⟩ := hn
  unfold magC
  have e1 : p * 10000 % 4294967296 = (n.natAbs : Int) * 10000 % 4294967296 := by omega
  have e2 : p * 10000 / 4294967296 + q * 10000 = (n.natAbs : Int) * 10000 / 4294967296 := by omega
  rw [e1, e2]
theorem put_big7 {w W : World} (h : Below w.heap.size w W) {g : Nat} (hg : w.heap.size ≤ g) (a b c d e f u : Value) :
    Below w.heap.size w (((((((W.setCell ⟨g, 0, none⟩ a).setCell ⟨g, 1, none⟩ b).setCell ⟨g, 2, none⟩ c).setCell ⟨g, 3, none⟩ d).setCell ⟨g, 4, none⟩ e).setCell ⟨g, 5, none⟩ f).setCell ⟨g, 6, none⟩ u) :=
  ((((((h.setCell (p := ⟨g, 0, none⟩) hg a).setCell (p := ⟨g, 1, none⟩) hg b).setCell (p := ⟨g, 2, none⟩) hg c).setCell (p := ⟨g, 3, none⟩) hg d).setCell (p := ⟨g, 4, none⟩) hg e).setCell (p := ⟨g, 5, none⟩) hg f).setCell (p := ⟨g, 6, none⟩) hg u
structure SX (w W : World) (k n : Int) (s : ByteArray) : Prop where
  x : W.heap[w.heap.size]? = some (.cells #[.int .i64 k, .int .i64 n, .string s] 25 (0, 0))
  r : W.heap[w.heap.size + 1]? = some (.cells (bigC false 0 0 0 0 0 0) 58 (0, 0))
  bel : Below w.heap.size w W
  lt : w.heap.size + 1 < W.heap.size
theorem SX.new (w : World) (k n : Int) (s : ByteArray) : SX w ((w.alloc (.cells #[.int .i64 k, .int .i64 n, .string s] 25)).alloc (.cells #[.bool false, .int .u64 0, .int .u64 0, .int .u64 0, .int .u64 0, .int .u64 0, .int .u64 0] 58)) k n s := by
  refine ⟨?_, ?_, alloc2_below _ _ _, by simp⟩
  · rw [heap_at, if_neg (by simp), heap_at, if_pos rfl]
  · rw [heap_at, if_pos (by simp)]; rfl
theorem SX.next {w W W2 : World} {k n : Int} {s : ByteArray} (h : SX w W k n s) (hb : Below W.heap.size W W2) : SX w W2 k n s :=
  ⟨(hb.block _ (by have := h.lt; omega)).trans h.x, (hb.block _ h.lt).trans h.r, h.bel.trans (hb.mono h.bel.size), Nat.lt_of_lt_of_le h.lt hb.size⟩
set_option maxRecDepth 100000 in
set_option maxHeartbeats 4000000 in
theorem refBig_scaled (k n : Int) (s : ByteArray) (hn : i64ok n) (w : World) : Calls Tryd.prog 27 #[.agg #[.int .i64 k, .int .i64 n, .string s]] w (Ans (.agg (magC (decide (n < 0)) (sclN k n))) w) := by
  have HX := Lib.hid (SX.new w k n s)
  have HT : Hid (∀ W, Calls Tryd.prog 43 #[.int .i64 10000] W (Ans (.agg (bigC false 10000 0 0 0 0 0)) W)) := Lib.hid fun W => by have h := refBig_of 10000 ⟨by omega, by omega⟩ W; simpa using h
  obtain ⟨m, hm⟩ : ∃ m, Hid (m = decide (n < 0)) := ⟨_, Lib.hid rfl⟩
  obtain ⟨p, hp⟩ : ∃ p : Int, Hid (p = ((n.natAbs % 4294967296 : Nat) : Int)) := ⟨_, Lib.hid rfl⟩
  obtain ⟨q, hq⟩ : ∃ q : Int, Hid (q = ((n.natAbs / 4294967296 : Nat) : Int)) := ⟨_, Lib.hid rfl⟩
  have HO : Hid (∀ W, Calls Tryd.prog 43 #[.int .i64 n] W (Ans (.agg (bigC m p q 0 0 0 0)) W)) := Lib.hid fun W => by rw [hm.out, hp.out, hq.out]; exact refBig_of n hn W
  have hr := HX.out.r
  have hx := HX.out.x
  by_cases h2 : k = 2
  · subst h2
    obtain ⟨d0, hd0⟩ : ∃ d0 : Int, Hid (d0 = p * 10000 % 4294967296) := ⟨_, Lib.hid rfl⟩
    obtain ⟨d1, hd1⟩ : ∃ d1 : Int, Hid (d1 = (p * 10000 / 4294967296 + q * 10000) % 4294967296) := ⟨_, Lib.hid rfl⟩
    obtain ⟨d2, hd2⟩ : ∃ d2 : Int, Hid (d2 = (p * 10000 / 4294967296 + q * 10000) / 4294967296) := ⟨_, Lib.hid rfl⟩
    have HM : Hid (∀ W, Calls Tryd.prog 42 #[.agg (bigC m p q 0 0 0 0), .agg (bigC false 10000 0 0 0 0 0)] W (Ans (.agg #[.bool m, .int .u64 d0, .int .u64 d1, .int .u64 d2, .int .u64 0, .int .u64 0, .int .u64 0]) W)) :=
      Lib.hid fun W => by rw [hd0.out, hd1.out, hd2.out]; exact refBig_mul m p q (by have := hp.out; omega) (by have := hq.out; obtain ⟨h3, h4⟩ := hn; omega) W
    have hE : magC (decide (n < 0)) (sclN 2 n) = bigC m d0 d1 d2 0 0 0 := by
      rw [hd0.out, hd1.out, hd2.out, hm.out, sclN, if_pos rfl]
      exact (big_of_mul n hn _ p q hp.out hq.out).symm
    rw [hE]
    clear hE hd0 hd1 hd2 hp hq hm hn hx hr
    go_enter Tryd.func27, Tryd.ntmps27
    go_wp2_with (first
      | (go_at_call 43; (with_reducible refine (HO.out _).mono ?_); rintro e w2 ⟨rfl, hb⟩
         have HX := Lib.hid (HX.out.next hb)
         clear hb)
      | (go_at_call 43; (with_reducible refine (HT.out _).mono ?_); rintro e w3 ⟨rfl, hb⟩
         have HX := Lib.hid (HX.out.next hb)
         clear hb)
      | (go_at_call 42; (with_reducible refine (HM.out _).mono ?_); rintro e w4 ⟨rfl, hb⟩
         have HX := Lib.hid (HX.out.next hb)
         obtain ⟨r0, r1, r2, r3, r4, r5, r6⟩ := box7 HX.out.r
         obtain ⟨fr0, fr1, fr2, fr3, fr4, fr5, fr6⟩ := fro7 HX.out.r
         clear hb))
    exact bodyPost_ret (v := .agg (bigC m d0 d1 d2 0 0 0)) (by simp [results, Tryd.results27, go_sem, bigC, r0, r1, r2, r3, r4, r5, r6]) rfl ⟨rfl, put_big7 HX.out.bel (by omega) _ _ _ _ _ _ _⟩
  · have HO2 : Hid (∀ W, Calls Tryd.prog 43 #[.int .i64 n] W (Ans (.agg #[.bool m, .int .u64 p, .int .u64 q, .int .u64 0, .int .u64 0, .int .u64 0, .int .u64 0]) W)) := HO
    have hE : magC (decide (n < 0)) (sclN k n) = bigC m p q 0 0 0 0 := by
      rw [hm.out, hp.out, hq.out, sclN, if_neg h2]
      exact (big_of_mag n hn _).symm
    rw [hE]
    clear hE hp hq hm hn hx hr HO
    go_enter Tryd.func27, Tryd.ntmps27
    go_wp2_with (go_at_call 43; (with_reducible refine (HO2.out _).mono ?_); rintro e w2 ⟨rfl, hb⟩; have HX := Lib.hid (HX.out.next hb); obtain ⟨r0, r1, r2, r3, r4, r5, r6⟩ := box7 HX.out.r; obtain ⟨fr0, fr1, fr2, fr3, fr4, fr5, fr6⟩ := fro7 HX.out.r; clear hb)
    exact bodyPost_ret (v := .agg (bigC m p q 0 0 0 0)) (by simp [results, Tryd.results27, go_sem, bigC, r0, r1, r2, r3, r4, r5, r6]) rfl ⟨rfl, put_big7 HX.out.bel (by omega) _ _ _ _ _ _ _⟩
end Go.Proofs.YtjfbhajaddgmpaaDoor

/- Package row: bytes handed out one by one. -/
import Derived.Test.YtogogekmodbdiaaWC
import Derived.Test.YtogogekmodbdiaaKW
namespace Go.Proofs.Ytogogekmodbdiaa
open Go.RowKit

/-- bytes that are handed out one by one: what is left lies below block B, and its slice in block g -/
def Src (W : World) (g B : Nat) (l : List UInt8) : Prop := ∃ A cap, W.heap[g]? = some (.cells #[.slice A l.length cap] 56 (0, 0)) ∧ l.length ≤ cap ∧ RdB W B A l ∧ B ≤ g
theorem Src.lt {W : World} {g B : Nat} {l : List UInt8} (h : Src W g B l) : g < W.heap.size := by
  obtain ⟨A, cap, h1, _⟩ := h
  exact (Array.getElem?_eq_some_iff.1 h1).1
theorem Src.keep {W V : World} {g B : Nat} {l : List UInt8} (h : Src W g B l) (hb : Below W.heap.size W V) : Src V g B l := by
  obtain ⟨A, cap, h1, h2, h3, h4⟩ := h
  have hlt := (Array.getElem?_eq_some_iff.1 h1).1
  exact ⟨A, cap, (hb.block _ hlt).trans h1, h2, h3.below hb (by omega), h4⟩
theorem grown_refl (w : World) (o : Option Nat) : w.grownBy w o := ⟨rfl, rfl, rfl, Nat.le_refl _, fun _ _ _ => rfl⟩
theorem grown_trans {w w1 w2 : World} {o : Option Nat} (h : w.grownBy w1 o) (k : w1.grownBy w2 o) : w.grownBy w2 o :=
  ⟨k.os.trans h.os, k.tape.trans h.tape, k.output.trans h.output, Nat.le_trans h.size k.size, fun b hb hne => (k.block b (Nat.lt_of_lt_of_le hb h.size) hne).trans (h.block b hb hne)⟩
theorem grown_of_below {w w1 : World} (o : Option Nat) (h : Below w.heap.size w w1) : w.grownBy w1 o := ⟨h.os, h.tape, h.output, h.size, fun b hb _ => h.block b hb⟩
theorem grown_set (w : World) (g i : Nat) (v : Value) : w.grownBy (w.setCell ⟨g, i, none⟩ v) (some g) := by
  refine ⟨by simp [World.setCell], by simp [World.setCell], by simp [World.setCell], by simp [World.setCell], fun b hb hne => ?_⟩
  have : ¬ g = b := fun e => hne (by rw [e])
  simp [World.setCell, Array.getElem?_modify, this]
theorem grown_below' {w w1 : World} {g B : Nat} (h : w.grownBy w1 (some g)) (hB : B ≤ g) (hw : B ≤ w.heap.size) : Below B w w1 :=
  ⟨h.os, h.tape, h.output, h.size, fun b hb => h.block b (by omega) (fun e => by injection e with e; omega)⟩
/-- the next byte -/
theorem Src.set {W : World} {g B : Nat} {c : UInt8} {t : List UInt8} {A : Option Addr} {cap : Nat} (h1 : W.heap[g]? = some (.cells #[.slice A (c :: t).length cap] 56 (0, 0))) (h2 : (c :: t).length ≤ cap) (h3 : RdB W B A (c :: t)) (h4 : B ≤ g) {A' : Option Addr} {cap' : Nat} (hA : A' = if cap = 1 then A else A.map (·.add 1)) (hc : cap' = cap - 1) :
    Src (W.setCell ⟨g, 0, none⟩ (.slice A' t.length cap')) g B t ∧ W.grownBy (W.setCell ⟨g, 0, none⟩ (.slice A' t.length cap')) (some g) := by
  refine ⟨⟨A', cap', ?_, ?_, ?_, h4⟩, grown_set _ _ _ _⟩
  · simp [World.setCell, Array.getElem?_modify, h1]
  · rw [List.length_cons] at h2; omega
  · have h := h3.drop (k := 1) h2
    rw [← hA] at h
    refine RdB.keep h fun k hk => ?_
    have : ¬ g = k := by omega
    simp [World.setCell, Array.getElem?_modify, this]
/-- what the next byte is -/
def NxT (W : World) (g B : Nat) (c : UInt8) (t : List UInt8) (e : Ending) (W' : World) : Prop := e = .returned (.tuple #[.int .u8 (c.toNat : Int), .bool true]) ∧ Src W' g B t ∧ W.grownBy W' (some g)
set_option maxRecDepth 100000 in
theorem next_none' (W : World) (g B : Nat) (h : Src W g B []) : Calls Try.prog 101 #[.pointer (some ⟨g, 0, none⟩)] W (fun e W' => e = .returned (.tuple #[.int .u8 0, .bool false]) ∧ W = W') := by
  obtain ⟨A, cap, h1, _⟩ := h
  have hv := cell_of_one h1
  have HH := Lib.hid h1
  clear h1
  go_enter Try.func101, Try.ntmps101
  go_wp2_with fail
  go_ret2
  exact ⟨rfl, rfl⟩
set_option maxRecDepth 100000 in
theorem next_some' (W : World) (g B : Nat) (c : UInt8) (t : List UInt8) (h : Src W g B (c :: t)) : Calls Try.prog 101 #[.pointer (some ⟨g, 0, none⟩)] W (NxT W g B c t) := by
  obtain ⟨A, cap, h1, h2, h3, h4⟩ := h
  obtain ⟨ad, rfl, hab, hcells⟩ := h3 (by simp)
  have x0 := hcells 0 c rfl
  rw [Addr.add_zero'] at x0
  have hv := cell_of_one h1
  have hf := free_of_one h1
  have HN := Lib.hid (fun A' cap' => Src.set (A' := A') (cap' := cap') h1 h2 h3 h4)
  rw [List.length_cons] at hv h2
  have hti : (1 : Int) ≤ (t.length : Int) + 1 := by omega
  have ht0 : (0 : Int) < (t.length : Int) + 1 := by omega
  have hb0 : ((t.length : Int) + 1 == 0) = false := beq_false_of_ne (by omega)
  clear h1 h3 hcells
  by_cases hc1 : cap = 1
  · have HY : Hid (NxT W g B c t (.returned (.tuple #[.int .u8 (c.toNat : Int), .bool true])) (W.setCell ⟨g, 0, none⟩ (.slice (some ad) t.length 0))) := Lib.hid ⟨rfl, HN.out _ _ (by rw [if_pos hc1]) (by omega)⟩
    subst hc1
    clear h2 h4
    go_enter Try.func101, Try.ntmps101
    go_wp2_with fail
    go_ret2
    exact HY.out
  · have HY : Hid (NxT W g B c t (.returned (.tuple #[.int .u8 (c.toNat : Int), .bool true])) (W.setCell ⟨g, 0, none⟩ (.slice (some (ad.add 1)) t.length (cap - 1)))) := Lib.hid ⟨rfl, HN.out _ _ (by rw [if_neg hc1]; rfl) rfl⟩
    clear h4
    go_enter Try.func101, Try.ntmps101
    go_wp2_with fail
    go_ret2
    exact HY.out
theorem or_pack (k a : Nat) (c : UInt8) (hk : k ≤ 63) (ha : a < 2 ^ k) : bits BinOp.or IntKind.u64 (a : Int) (IntKind.u64.wrap ((c.toNat : Int) % 128 * 2 ^ k)) = ((a + (c.toNat % 128 % 2 ^ (64 - k)) * 2 ^ k : Nat) : Int) := by
  have h64 : (2 : Nat) ^ 64 = 2 ^ (64 - k) * 2 ^ k := by rw [← Nat.pow_add]; congr 1; omega
  have hn : (2 : Nat) ^ 64 = 18446744073709551616 := by decide
  have e1 : ((c.toNat : Int) % 128 * 2 ^ k) = ((c.toNat % 128 * 2 ^ k : Nat) : Int) := by push_cast; rfl
  have e2 : IntKind.u64.wrap ((c.toNat % 128 * 2 ^ k : Nat) : Int) = ((c.toNat % 128 * 2 ^ k % 2 ^ 64 : Nat) : Int) := by rw [IntKind.wrap_u64, hn]; omega
  have e3 : c.toNat % 128 * 2 ^ k % 2 ^ 64 = (c.toNat % 128 % 2 ^ (64 - k)) * 2 ^ k := by rw [h64, Nat.mul_mod_mul_right]
  have hx : c.toNat % 128 % 2 ^ (64 - k) < 2 ^ (64 - k) := Nat.mod_lt _ (Nat.pow_pos (by omega))
  have hb : (c.toNat % 128 % 2 ^ (64 - k)) * 2 ^ k < 2 ^ 64 := by rw [h64]; exact Nat.mul_lt_mul_of_pos_right hx (Nat.pow_pos (by omega))
  have ha2 : a < 2 ^ 64 := Nat.lt_of_lt_of_le ha (Nat.pow_le_pow_right (by omega) (by omega))
  rw [e1, e2, e3, u64_or_nat _ _ (by rw [← hn]; exact ha2) (by rw [← hn]; exact hb)]
  have h2 := Nat.two_pow_add_eq_or_of_lt (i := k) (b := a) ha (c.toNat % 128 % 2 ^ (64 - k))
  rw [Nat.mul_comm] at h2
  rw [Nat.or_comm, ← h2, Nat.add_comm]
theorem pow7 (i : Nat) : (2 : Nat) ^ (7 * i) = 128 ^ i := by rw [Nat.pow_mul]
theorem pack_val {p : List UInt8} {c : UInt8} (hi : p.length ≤ 9) (hc : c.toNat < 128) (h9 : p.length = 9 → c.toNat ≤ 1) : valV p + (c.toNat % 128 % 2 ^ (64 - 7 * p.length)) * 2 ^ (7 * p.length) = valV (p ++ [c]) := by
  rw [valV_snoc, pow7, Nat.mod_eq_of_lt hc, Nat.mul_comm (128 ^ p.length)]
  congr 2
  refine Nat.mod_eq_of_lt ?_
  by_cases h : p.length = 9
  · have := h9 h
    rw [h]
    have : (2 : Nat) ^ (64 - 7 * 9) = 2 := by decide
    omega
  · have h1 : (2 : Nat) ^ 8 ≤ 2 ^ (64 - 7 * p.length) := Nat.pow_le_pow_right (by omega) (by omega)
    have h2 : (2 : Nat) ^ 8 = 256 := by decide
    omega
theorem xor_comm' (a b : Int) : bits BinOp.xor IntKind.i64 a b = bits BinOp.xor IntKind.i64 b a := by
  show IntKind.i64.wrap ((BitVec.ofInt 64 a ^^^ BitVec.ofInt 64 b).toNat : Int) = IntKind.i64.wrap ((BitVec.ofInt 64 b ^^^ BitVec.ofInt 64 a).toNat : Int)
  rw [BitVec.xor_comm]
theorem xor_zero' {a : Int} (h0 : 0 ≤ a) (h1 : a < 9223372036854775808) : bits BinOp.xor IntKind.i64 a 0 = a := by
  show IntKind.i64.wrap ((BitVec.ofInt 64 a ^^^ BitVec.ofInt 64 0).toNat : Int) = _
  obtain ⟨n, rfl⟩ : ∃ n : Nat, a = n := ⟨a.toNat, by omega⟩
  have h2 : (BitVec.ofInt 64 (n : Int)).toNat = n := by
    rw [BitVec.ofInt_natCast, BitVec.toNat_ofNat]; exact Nat.mod_eq_of_lt (by omega)
  have h3 : (BitVec.ofInt 64 0).toNat = 0 := by decide
  rw [BitVec.toNat_xor, h2, h3, Nat.xor_zero, IntKind.wrap_i64]
  omega
theorem zag_bits {m : Nat} (h : m < 18446744073709551616) : bits BinOp.xor IntKind.i64 (wrap64 ((m : Int) / 2)) (wrap64 (-wrap64 (bits BinOp.and IntKind.u64 (m : Int) 1))) = zag m := by
  rw [Lib.u64_and1 _ (by omega) (by omega)]
  have e1 : wrap64 ((m : Int) / 2) = ((m / 2 : Nat) : Int) := by unfold wrap64; omega
  rw [e1]
  unfold zag
  by_cases h0 : m % 2 = 0
  · have e2 : wrap64 (-wrap64 ((m : Int) % 2)) = 0 := by unfold wrap64; omega
    rw [e2, if_pos h0, xor_zero' (by omega) (by omega)]
  · have e2 : wrap64 (-wrap64 ((m : Int) % 2)) = -1 := by unfold wrap64; omega
    rw [e2, if_neg h0, xor_comm', Lib.i64_not _ (by omega)]
theorem nextX_at (W : World) (g B : Nat) (c : UInt8) (t : List UInt8) (x : Int) (hx : x = (c.toNat : Int)) (h : Src W g B (c :: t)) : Calls Try.prog 101 #[.pointer (some ⟨g, 0, none⟩)] W (fun e W' => e = .returned (.tuple #[.int .u8 x, .bool true]) ∧ Src W' g B t ∧ W.grownBy W' (some g)) := by
  subst hx
  exact next_some' W g B c t h
/-- what takeNumber answers -/
def TNT (W : World) (g B : Nat) (l : List UInt8) (e : Ending) (W' : World) : Prop := W.grownBy W' (some g) ∧ ((∃ u r, u < 18446744073709551616 ∧ l = vL u ++ r ∧ e = .returned (.tuple #[.int .i64 (zag u), .int .i64 ((vL u).length : Int), .bool true]) ∧ Src W' g B r) ∨
  ((∀ u r, u < 18446744073709551616 → l ≠ vL u ++ r) ∧ e = .returned (.tuple #[.int .i64 0, .int .i64 0, .bool false]) ∧ ∃ r, Src W' g B r))
/-- at the head of its loop -/
def TNL (W : World) (g B : Nat) (l : List UInt8) (v5 v9 : Value) (wr : World) : Prop := ∃ (p r : List UInt8) (a : Nat), v5 = .int .u64 a ∧ v9 = .int .i64 p.length ∧ l = p ++ r ∧ Mor p ∧ p.length ≤ 10 ∧ (p.length ≤ 9 → a = valV p) ∧ Src wr g B r ∧ W.grownBy wr (some g)
set_option maxRecDepth 100000 in
set_option maxHeartbeats 40000000 in
theorem takeNumber_any (l : List UInt8) (g B : Nat) (w : World) (h : Src w g B l) : Calls Try.prog 102 #[.func (.func 101) #[] #[.pointer (some ⟨g, 0, none⟩)]] w (TNT w g B l) := by
  have HS : Hid (TNL w g B l (.int .u64 0) (.int .i64 0) w) := Lib.hid ⟨[], l, 0, rfl, rfl, rfl, Mor.nil, by simp, fun _ => rfl, h, grown_refl _ _⟩
  clear h
  go_enter Try.func102, Try.ntmps102
  go_wp2_with fail
  go_loopw [5, 9] (fun v5 v9 wr => TNL w g B l v5 v9 wr) (fun _ v9 _ => 10 - (intOf v9).toNat)
  case atStart => exact HS.out
  case round =>
    obtain ⟨p, r, a, rfl, rfl, hl, hp, hp10, ha, hsrc, hg⟩ := hrel
    have HL := Lib.hid hl
    have HP := Lib.hid hp
    have HA := Lib.hid ha
    have HSR := Lib.hid hsrc
    have HG := Lib.hid hg
    clear hl hp ha hsrc hg
    obtain ⟨i, hi⟩ : ∃ i, Hid (i = p.length) := ⟨_, Lib.hid rfl⟩
    rw [← hi.out] at hp10 ⊢
    have hi10 : i = 10 ∨ i ≤ 9 := by omega
    rcases hi10 with rfl | hi9
    · have HY : Hid (TNT w g B l (.returned (.tuple #[.int .i64 0, .int .i64 0, .bool false])) wr) := Lib.hid ⟨HG.out, .inr ⟨fun u r' hu => by rw [HL.out]; exact vL_long HP.out (by have := hi.out; omega) hu, rfl, r, HSR.out⟩⟩
      go_wp2_with fail
      go_ret3
      exact HY.out
    · have hi9i : (i : Int) < 10 := by omega
      have hi0 : (0 : Int) ≤ (i : Int) := by omega
      rcases r with _ | ⟨c, t⟩
      · have HY : Hid (TNT w g B l (.returned (.tuple #[.int .i64 0, .int .i64 0, .bool false])) wr) := Lib.hid ⟨HG.out, .inr ⟨fun u r' _ => by rw [HL.out, List.append_nil]; exact vL_none HP.out, rfl, [], HSR.out⟩⟩
        go_wp2_with (go_at_call 101; refine (next_none' wr g B HSR.out).mono ?_; rintro e w2 ⟨rfl, rfl⟩)
        go_ret3
        exact HY.out
      · obtain ⟨x, HX⟩ : ∃ x : Int, Hid (x = (c.toNat : Int)) := ⟨_, Lib.hid rfl⟩
        have hx0 : 0 ≤ x := by rw [HX.out]; omega
        have hx1 : x < 256 := by have := c.toNat_lt; rw [HX.out]; omega
        have hpl := valV_lt p
        rw [← pow7, ← hi.out] at hpl
        have hov := or_pack (7 * i) (valV p) c (by omega) hpl
        have hav : a = valV p := HA.out (by have := hi.out; omega)
        rw [← hav, ← HX.out] at hov
        obtain ⟨m, HM⟩ : ∃ m : Nat, Hid (m = a + (c.toNat % 128 % 2 ^ (64 - 7 * i)) * 2 ^ (7 * i)) := ⟨_, Lib.hid rfl⟩
        rw [← HM.out] at hov
        have HMV : Hid (c.toNat < 128 → (i = 9 → c.toNat ≤ 1) → m = valV (p ++ [c]) ∧ m < 18446744073709551616) := Lib.hid fun h1 h2 => by
          have e : m = valV (p ++ [c]) := by
            rw [HM.out, hav, hi.out]
            exact pack_val (by have := hi.out; omega) h1 (fun h => h2 (by rw [hi.out]; exact h))
          refine ⟨e, ?_⟩
          rw [e]
          exact vL_fits h1 (by have := hi.out; omega) (fun h => h2 (by rw [hi.out]; exact h))
        clear hpl hav
        have hcase : (128 : Int) ≤ x ∨ (x < 128 ∧ x = 0 ∧ i ≠ 0) ∨ (x < 128 ∧ 1 < x ∧ i = 9) ∨ (x < 128 ∧ x = 0 ∧ i = 0) ∨ (x < 128 ∧ x = 1) ∨ (x < 128 ∧ 1 < x ∧ i ≠ 9) := by omega
        have hgood : x < 128 → (x = 0 → i = 0) → (1 < x → i ≠ 9) → Hid (∀ w2, Src w2 g B t → w.grownBy w2 (some g) → bits BinOp.xor IntKind.i64 (wrap64 ((m : Int) / 2)) (wrap64 (-wrap64 (bits BinOp.and IntKind.u64 (m : Int) 1))) = zag m ∧ TNT w g B l (.returned (.tuple #[.int .i64 (zag m), .int .i64 ((i : Int) + 1), .bool true])) w2) := fun h1 h2 h3 => Lib.hid fun w2 hs hg => by
          have hcx := HX.out
          obtain ⟨e, hf⟩ := HMV.out (by omega) (by omega)
          have hv : vL m = p ++ [c] := by
            rw [e]
            exact vL_val HP.out (by omega) (by
              by_cases h0 : c.toNat = 0
              · have := h2 (by omega)
                exact .inr (List.eq_nil_of_length_eq_zero (by have := hi.out; omega))
              · exact .inl h0)
          refine ⟨zag_bits hf, hg, .inl ⟨m, t, hf, by rw [hv, HL.out, List.append_assoc]; rfl, ?_, hs⟩⟩
          have : (vL m).length = i + 1 := by rw [hv, List.length_append, hi.out]; rfl
          rw [this]
          rfl
        have HNO : Hid (∀ w2, Src w2 g B t → w.grownBy w2 (some g) → (∀ u r, u < 18446744073709551616 → l ≠ vL u ++ r) → TNT w g B l (.returned (.tuple #[.int .i64 0, .int .i64 0, .bool false])) w2) := Lib.hid fun w2 hs hg hno => ⟨hg, .inr ⟨hno, rfl, t, hs⟩⟩
        rcases hcase with h | ⟨h, h0, hin⟩ | ⟨h, h1, hin⟩ | ⟨h, h0, hin⟩ | ⟨h, h1⟩ | ⟨h, h1, hin⟩
        · have HY : Hid (∀ w2 v9, Src w2 g B t → w.grownBy w2 (some g) → v9 = .int .i64 ((i : Int) + 1) → TNL w g B l (.int .u64 (m : Int)) v9 w2) := Lib.hid fun w2 v9 hs hg h9 => by
            have hcx := HX.out
            refine ⟨p ++ [c], t, m, rfl, ?_, by rw [HL.out, List.append_assoc]; rfl, HP.out.snoc (by omega), by have := hi.out; rw [List.length_append]; simp; omega, fun h9 => ?_, hs, hg⟩
            · rw [h9, List.length_append, hi.out]; rfl
            · rw [List.length_append, List.length_singleton] at h9
              rw [HM.out, HA.out (by omega), hi.out, valV_snoc, pow7, Nat.mul_comm (128 ^ p.length)]
              congr 2
              have h1 : (2 : Nat) ^ 8 ≤ 2 ^ (64 - 7 * p.length) := Nat.pow_le_pow_right (by omega) (by omega)
              have h2 : (2 : Nat) ^ 8 = 256 := by decide
              exact Nat.mod_eq_of_lt (by omega)
          clear hgood HNO
          go_wp2_with (go_at_call 101; refine (nextX_at wr g B c t x HX.out HSR.out).mono ?_; rintro e w2 ⟨rfl, hsr2, hg2⟩
                       have HZ := Lib.hid (fun v9 => HY.out w2 v9 hsr2 (grown_trans HG.out hg2))
                       clear hsr2 hg2)
          go_roundw
          case rel => first | exact HZ.out _ rfl | ((repeat apply Exists.intro); exact ⟨HZ.out _ rfl, rfl⟩)
          case measure => simp [intOf]; omega
        · have hno : ∀ u r, u < 18446744073709551616 → l ≠ vL u ++ r := fun u r _ => by
            have hcx := HX.out
            rw [HL.out]
            exact vL_zero HP.out (by omega) (fun e => by rw [e] at hi; have := hi.out; simp at this; omega)
          have HN2 := Lib.hid (fun w2 hs hg => HNO.out w2 hs hg hno)
          have hb0 : (x == 0) = true := by rw [h0]; rfl
          have hii : (0 : Int) < (i : Int) := by omega
          clear hgood HNO hno h0 hin
          go_wp2_with (go_at_call 101; refine (nextX_at wr g B c t x HX.out HSR.out).mono ?_; rintro e w2 ⟨rfl, hsr2, hg2⟩
                       have HZ := Lib.hid (HN2.out w2 hsr2 (grown_trans HG.out hg2))
                       clear hsr2 hg2)
          go_ret3
          exact HZ.out
        · have hno : ∀ u r, u < 18446744073709551616 → l ≠ vL u ++ r := fun u r hu => by
            have hcx := HX.out
            rw [HL.out]
            exact vL_wide HP.out (by have := hi.out; omega) (by omega) (by omega) hu
          have HN2 := Lib.hid (fun w2 hs hg => HNO.out w2 hs hg hno)
          have hb0 : (x == 0) = false := beq_false_of_ne (by omega)
          have hb9 : ((i : Int) == 9) = true := by rw [hin]; rfl
          clear hgood HNO hno hin
          go_wp2_with (go_at_call 101; refine (nextX_at wr g B c t x HX.out HSR.out).mono ?_; rintro e w2 ⟨rfl, hsr2, hg2⟩
                       have HZ := Lib.hid (HN2.out w2 hsr2 (grown_trans HG.out hg2))
                       clear hsr2 hg2)
          go_ret3
          exact HZ.out
        · have HGD := hgood h (fun _ => hin) (fun h2 => by omega)
          have hb0 : (x == 0) = true := by rw [h0]; rfl
          have hb1 : x ≤ 1 := by omega
          have hii : ¬ (0 : Int) < (i : Int) := by omega
          have HI0 : Hid ((i : Int) = 0) := Lib.hid (by omega)
          clear hgood h0 hin
          clear HNO
          go_wp2_with (go_at_call 101; refine (nextX_at wr g B c t x HX.out HSR.out).mono ?_; rintro e w2 ⟨rfl, hsr2, hg2⟩
                       obtain ⟨hzz, hz⟩ := HGD.out w2 hsr2 (grown_trans HG.out hg2)
                       have HZ := Lib.hid hz
                       clear hsr2 hg2 hz)
          go_ret3
          have hz := HZ.out
          rw [HI0.out] at hz
          exact hz
        · have HGD := hgood h (fun h2 => by omega) (fun h2 => by omega)
          have hb0 : (x == 0) = false := beq_false_of_ne (by omega)
          have hb1 : x ≤ 1 := by omega
          clear hgood h1
          clear HNO
          go_wp2_with (go_at_call 101; refine (nextX_at wr g B c t x HX.out HSR.out).mono ?_; rintro e w2 ⟨rfl, hsr2, hg2⟩
                       obtain ⟨hzz, hz⟩ := HGD.out w2 hsr2 (grown_trans HG.out hg2)
                       have HZ := Lib.hid hz
                       clear hsr2 hg2 hz)
          go_ret3
          exact HZ.out
        · have HGD := hgood h (fun h2 => by omega) (fun _ => hin)
          have hb0 : (x == 0) = false := beq_false_of_ne (by omega)
          have hb9 : ((i : Int) == 9) = false := beq_false_of_ne (by omega)
          clear hgood hin
          clear HNO
          go_wp2_with (go_at_call 101; refine (nextX_at wr g B c t x HX.out HSR.out).mono ?_; rintro e w2 ⟨rfl, hsr2, hg2⟩
                       obtain ⟨hzz, hz⟩ := HGD.out w2 hsr2 (grown_trans HG.out hg2)
                       have HZ := Lib.hid hz
                       clear hsr2 hg2 hz)
          go_ret3
          exact HZ.out
end Go.Proofs.Ytogogekmodbdiaa

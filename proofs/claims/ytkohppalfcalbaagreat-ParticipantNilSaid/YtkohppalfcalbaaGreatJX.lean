/- The checksum of bytes, in plain mathematics: bit by bit, two ways; one byte that is another one makes it another one. -/
import Derived.Test.YtkohppalfcalbaaGreatDY
namespace Go.Proofs.YtkohppalfcalbaaGreat
section
/-- a bit further -/
def crc1 (s : Nat) : Nat := (s * 2 % 65536) ^^^ (s / 32768 * 4129)
def crcN : Nat → Nat → Nat
  | 0, s => s
  | n + 1, s => crcN n (crc1 s)
def crcB (s : Nat) (b : UInt8) : Nat := crcN 8 (s ^^^ b.toNat * 256)
/-- the checksum of bytes behind others, whose checksum is s -/
def crcL (s : Nat) (l : List UInt8) : Nat := l.foldl crcB s
theorem xor16_lt {a b : Nat} (ha : a < 65536) (hb : b < 65536) : a ^^^ b < 65536 := Nat.xor_lt_two_pow (n := 16) ha hb
theorem crc1_lt {s : Nat} (h : s < 65536) : crc1 s < 65536 := xor16_lt (Nat.mod_lt _ (by omega)) (by omega)
theorem crcN_lt : ∀ (n : Nat) {s : Nat}, s < 65536 → crcN n s < 65536
  | 0, _, h => h
  | n + 1, _, h => crcN_lt n (crc1_lt h)
theorem byte_lt (b : UInt8) : b.toNat < 256 := b.toNat_lt
theorem crcB_lt {s : Nat} (h : s < 65536) (b : UInt8) : crcB s b < 65536 := crcN_lt 8 (xor16_lt h (by have := byte_lt b; omega))
theorem crcL_lt : ∀ (l : List UInt8) {s : Nat}, s < 65536 → crcL s l < 65536
  | [], _, h => h
  | b :: l, _, h => crcL_lt l (crcB_lt h b)
theorem crcL_app (s : Nat) (a b : List UInt8) : crcL s (a ++ b) = crcL (crcL s a) b := List.foldl_append
theorem crcL_snoc (s : Nat) (l : List UInt8) (a : UInt8) : crcL s (l ++ [a]) = crcB (crcL s l) a := by rw [crcL_app]; rfl
theorem crcN_snoc : ∀ (n s : Nat), crcN (n + 1) s = crc1 (crcN n s)
  | 0, _ => rfl
  | n + 1, s => crcN_snoc n (crc1 s)
end

section
open Go.RowKit

theorem xor16 {a b : Nat} (ha : a < 65536) (hb : b < 65536) (x y : Int) (hx : x = (a : Int)) (hy : y = (b : Int)) : bits .xor .u16 x y = ((a ^^^ b : Nat) : Int) := by
  subst hx hy
  have h1 : (BitVec.ofInt 16 (a : Int)).toNat = a := by rw [BitVec.toNat_ofInt]; simp; omega
  have h2 : (BitVec.ofInt 16 (b : Int)).toNat = b := by rw [BitVec.toNat_ofInt]; simp; omega
  show IntKind.u16.wrap (((BitVec.ofInt 16 (a : Int)) ^^^ (BitVec.ofInt 16 (b : Int))).toNat : Int) = _
  rw [BitVec.toNat_xor, h1, h2, IntKind.wrap_u16]
  have := xor16_lt ha hb
  omega
theorem RdB.get {w : World} {B k : Nat} {A : Option Addr} {l : List UInt8} {c : UInt8} (h : RdB w B A l) (hk : l[k]? = some c) : ∃ ad, A = some ad ∧ w.cell? (ad.add k) = some (.int .u8 (c.toNat : Int)) := by
  obtain ⟨ad, e, _, hc⟩ := h (fun e => by subst e; simp at hk)
  exact ⟨ad, e, hc k c hk⟩
theorem step16 {x : Nat} (hx : x < 65536) : bits .xor .u16 (IntKind.u16.wrap ((x : Int) * 2)) (IntKind.u16.wrap ((x : Int) / 32768 * 4129)) = ((crc1 x : Nat) : Int) :=
  xor16 (Nat.mod_lt _ (by omega)) (by omega) _ _ (by rw [IntKind.wrap_u16]; omega) (by rw [IntKind.wrap_u16]; omega)
theorem mix16 {x : Nat} (hx : x < 65536) (c : UInt8) : bits .xor .u16 (x : Int) (IntKind.u16.wrap (IntKind.u16.wrap (c.toNat : Int) * 256)) = ((x ^^^ c.toNat * 256 : Nat) : Int) :=
  xor16 hx (b := c.toNat * 256) (by have := byte_lt c; omega) _ _ rfl (by have := byte_lt c; rw [IntKind.wrap_u16, IntKind.wrap_u16]; omega)
theorem crcL_step {s k : Nat} {l : List UInt8} {c : UInt8} (hc : l[k]? = some c) : crcL s (l.take (k + 1)) = crcN 8 (crcL s (l.take k) ^^^ c.toNat * 256) := by
  have h := List.getElem?_eq_some_iff.1 hc
  rw [List.take_succ_eq_append_getElem h.1, h.2, crcL_snoc]
  rfl
set_option maxRecDepth 100000 in
set_option maxHeartbeats 2000000 in
theorem follow_any (s : Nat) (hs : s < 65536) (l : List UInt8) (A : Option Addr) (n cap B : Nat) (hn : l.length = n) (hl : l.length ≤ 1000000) (w : World) (hr : RdB w B A l) :
    Calls Tryz.prog 156 #[.int .u16 (s : Int), .slice A n cap] w (Looks (.int .u16 (crcL s l : Nat)) w) := by
  subst hn
  have HR := Lib.hid hr
  have HS := Lib.hid hs
  have hli : (l.length : Int) ≤ 1000000 := by omega
  clear hr hs hl
  go_enter Tryz.func156, Tryz.ntmps156
  go_wp2_with fail
  go_loop [0, 9] (fun v0 v9 => ∃ k : Nat, k ≤ l.length ∧ v9 = .int .i64 k ∧ v0 = .int .u16 (crcL s (l.take k) : Nat)) (fun _ v9 => l.length - (intOf v9).toNat)
  case atStart => exact ⟨0, Nat.zero_le _, rfl, rfl⟩
  case round =>
    obtain ⟨k, hk, rfl, rfl⟩ := hrel
    by_cases hlt : k < l.length
    · have hki : (k : Int) < (l.length : Int) := by omega
      obtain ⟨c, hc⟩ : ∃ c, l[k]? = some c := ⟨_, List.getElem?_eq_getElem hlt⟩
      obtain ⟨ad, hA, hcell⟩ := HR.out.get hc
      subst hA
      have HX := Lib.hid (mix16 (crcL_lt (l.take k) HS.out) c)
      have HXL := Lib.hid (xor16_lt (crcL_lt (l.take k) HS.out) (b := c.toNat * 256) (by have := byte_lt c; omega))
      have HST := Lib.hid (crcL_step (s := s) hc)
      clear hc
      go_wp2_with fail
      rw [HX.out]
      go_loop [0, 18] (fun v0 v18 => ∃ j : Nat, j ≤ 8 ∧ v18 = .int .i64 j ∧ v0 = .int .u16 (crcN j (crcL s (l.take k) ^^^ c.toNat * 256) : Nat)) (fun _ v18 => 8 - (intOf v18).toNat)
      case atStart => exact ⟨0, by omega, rfl, rfl⟩
      case round =>
        obtain ⟨j, hj, rfl, rfl⟩ := hrel
        by_cases hlt8 : j < 8
        · have hji : (j : Int) < 8 := by omega
          have HS1 := Lib.hid (step16 (crcN_lt j HXL.out))
          have HS2 := Lib.hid (crcN_snoc j (crcL s (l.take k) ^^^ c.toNat * 256))
          go_wp2_with fail
          rw [HS1.out, ← HS2.out]
          go_round
          case rel => exact ⟨j + 1, hlt8, by go_num, rfl⟩
          case measure => simp [intOf]; omega
        · have hj8 : j = 8 := by omega
          subst hj8
          rw [← HST.out]
          go_wp2_with fail
          go_round
          case rel => exact ⟨k + 1, hlt, by go_num, rfl⟩
          case measure => simp [intOf]; omega
    · have hkl : k = l.length := by omega
      subst hkl
      go_wp2_with fail
      go_ret
      exact ⟨rfl, rfl⟩
/-- a call that only looks, as a region meets it -/
theorem Looks.n {v : Value} {w w' : World} {e : Ending} (h : Looks v w e w') : LooksN v w e w' := ⟨h.1, 0, by rw [World.drewN_zero]; exact h.2.symm⟩
set_option maxRecDepth 100000 in
theorem check_any (l : List UInt8) (A : Option Addr) (n cap B : Nat) (hn : l.length = n) (hl : l.length ≤ 1000000) (w : World) (hr : RdB w B A l) :
    Calls Tryz.prog 157 #[.slice A n cap] w (Looks (.int .u16 (crcL 65535 l : Nat)) w) := by
  have HF := Lib.hid (follow_any 65535 (by omega) l A n cap B hn hl w hr)
  clear hr hn hl
  go_enter Tryz.func157, Tryz.ntmps157
  go_wp2_with (go_at_call 156; refine HF.out.mono ?_; rintro e w2 ⟨rfl, rfl⟩)
  go_ret
  exact ⟨rfl, rfl⟩
theorem or_pair {a b : Nat} (ha : a < 256) (hb : b < 256) : bits .or .i64 ((a : Int) * 256) (b : Int) = ((a * 256 + b : Nat) : Int) := by
  have h0 : (a : Int) * 256 = ((a * 256 : Nat) : Int) := by omega
  rw [h0]
  have h1 : (BitVec.ofInt 64 ((a * 256 : Nat) : Int)).toNat = a * 256 := by rw [BitVec.toNat_ofInt]; simp; omega
  have h2 : (BitVec.ofInt 64 (b : Int)).toNat = b := by rw [BitVec.toNat_ofInt]; simp; omega
  show IntKind.i64.wrap (((BitVec.ofInt 64 ((a * 256 : Nat) : Int)) ||| (BitVec.ofInt 64 (b : Int))).toNat : Int) = _
  rw [BitVec.toNat_or, h1, h2, show a * 256 = 2 ^ 8 * a by omega, ← Nat.two_pow_add_eq_or_of_lt (show b < 2 ^ 8 by omega), IntKind.wrap_i64]
  omega
set_option maxRecDepth 100000 in
theorem pair_any (a b : UInt8) (ad : Addr) (cap : Nat) (w : World) (h0 : w.cell? ad = some (.int .u8 (a.toNat : Int))) (h1 : w.cell? ⟨ad.block, ad.off + 1, none⟩ = some (.int .u8 (b.toNat : Int))) :
    Calls Tryz.prog 111 #[.slice (some ad) 2 cap] w (LooksN (.int .i64 ((a.toNat * 256 + b.toNat : Nat) : Int)) w) := by
  have HO := Lib.hid (or_pair (byte_lt a) (byte_lt b))
  have hai : (a.toNat : Int) ≤ 255 := by have := byte_lt a; omega
  have hbi : (b.toNat : Int) ≤ 255 := by have := byte_lt b; omega
  go_enter Tryz.func111, Tryz.ntmps111
  go_wp2_with fail
  go_quiet (fail)
  go_wp2_with fail
  rw [HO.out]
  go_ret
  exact ⟨rfl, _, rfl⟩
theorem RdB.shift {w : World} {B : Nat} {ad : Addr} {l : List UInt8} (h : RdB w B (some ad) l) {k : Nat} (hk : 0 < k) : RdB w B (some ⟨ad.block, ad.off + k, none⟩) (l.drop k) := by
  have h1 := h.drop (k := k) (cap := l.length + k + 1) (by omega)
  rw [if_neg (by omega)] at h1
  have e : ad.add k = ⟨ad.block, ad.off + k, none⟩ := by unfold Addr.add; rw [if_neg (by omega)]
  rw [← e]
  exact h1
/-- the checksum of a frame's bytes -/
def sumL (l : List UInt8) : Nat := crcL (crcL 65535 ((l.drop 1).take 2)) (l.drop 5)
set_option maxRecDepth 100000 in
set_option maxHeartbeats 2000000 in
theorem checksum_any (l : List UInt8) (ad : Addr) (n cap B : Nat) (hn : l.length = n) (h5 : 5 < l.length) (hc : l.length ≤ cap) (hl : l.length ≤ 1000000) (w : World) (hr : RdB w B (some ad) l) :
    Calls Tryz.prog 112 #[.slice (some ad) n cap] w (LooksN (.int .u16 (sumL l : Nat)) w) := by
  subst hn
  obtain ⟨S, hS⟩ : ∃ S, S = crcL 65535 ((l.drop 1).take 2) := ⟨_, rfl⟩
  obtain ⟨T, hT⟩ : ∃ T, T = sumL l := ⟨_, rfl⟩
  have hT2 : T = crcL S (l.drop 5) := by rw [hT, hS]; rfl
  have hS2 : S < 65536 := by rw [hS]; exact crcL_lt _ (by omega)
  rw [← hT]
  have HC : Hid (∀ k cap', Calls Tryz.prog 157 #[.slice (some ⟨ad.block, ad.off + 1, none⟩) 2 cap'] (w.drewN k) (LooksN (.int .u16 (S : Int)) (w.drewN k))) :=
    Lib.hid (fun k cap' => by rw [hS]; exact (check_any ((l.drop 1).take 2) (some ⟨ad.block, ad.off + 1, none⟩) 2 cap' B (by rw [List.length_take, List.length_drop]; omega) (by rw [List.length_take]; omega) (w.drewN k) (((hr.shift (k := 1) (by omega)).take 2).heap rfl)).mono fun _ _ h => h.n)
  have HF : Hid (∀ k n cap', (l.drop 5).length = n → Calls Tryz.prog 156 #[.int .u16 (S : Int), .slice (some ⟨ad.block, ad.off + 5, none⟩) n cap'] (w.drewN k) (LooksN (.int .u16 (T : Int)) (w.drewN k))) :=
    Lib.hid (fun k n cap' hn => by rw [hT2]; exact (follow_any S hS2 (l.drop 5) (some ⟨ad.block, ad.off + 5, none⟩) n cap' B hn (by rw [List.length_drop]; omega) (w.drewN k) ((hr.shift (k := 5) (by omega)).heap rfl)).mono fun _ _ h => h.n)
  have HL := Lib.hid (show (l.drop 5).length = l.length - 5 from List.length_drop)
  have h5i : 5 < (l.length : Int) := by omega
  have hci : (l.length : Int) ≤ cap := by omega
  have hne : ¬ cap = 5 := by omega
  have hne2 : ¬ cap - 5 = 0 := by omega
  clear hr hl h5 hc hS hT hT2 hS2
  go_enter Tryz.func112, Tryz.ntmps112
  go_wp2_with fail
  go_quiet (first | (go_at_call 157; refine Calls.quiet_of (HC.out _ _)) | (go_at_call 156; refine Calls.quiet_of (HF.out _ _ _ HL.out)))
  go_wp2_with fail
  go_ret
  exact ⟨rfl, _, rfl⟩
end

section
open Go.RowKit

/-- the size of the frame with which bytes begin, or 0 -/
def firstL : List UInt8 → Nat
  | m :: a :: b :: c :: d :: t => if m = 76 then (if 4096 < a.toNat * 256 + b.toNat + 1 ∨ t.length < a.toNat * 256 + b.toNat + 1 then 0 else if c.toNat * 256 + d.toNat = crcL (crcL 65535 [a, b]) (t.take (a.toNat * 256 + b.toNat + 1)) then 5 + (a.toNat * 256 + b.toNat + 1) else 0) else 0
  | _ => 0
theorem firstL_short {l : List UInt8} (h : l.length < 5) : firstL l = 0 := by
  match l, h with
  | [], _ => rfl
  | [_], _ => rfl
  | [_, _], _ => rfl
  | [_, _, _], _ => rfl
  | [_, _, _, _], _ => rfl
theorem five {l : List UInt8} (h : ¬ l.length < 5) : ∃ m a b c d t, l = m :: a :: b :: c :: d :: t := by
  match l, h with
  | m :: a :: b :: c :: d :: t, _ => exact ⟨m, a, b, c, d, t, rfl⟩
  | [], h => exact absurd (by simp) h
  | [_], h => exact absurd (by simp) h
  | [_, _], h => exact absurd (by simp) h
  | [_, _, _], h => exact absurd (by simp) h
  | [_, _, _, _], h => exact absurd (by simp) h
theorem firstL_le (l : List UInt8) : firstL l ≤ l.length := by
  by_cases h : l.length < 5
  · rw [firstL_short h]; omega
  · obtain ⟨m, a, b, c, d, t, rfl⟩ := five h
    simp only [firstL, List.length_cons]
    repeat' split
    all_goals omega
theorem sumL_frame (m a b c d : UInt8) (t : List UInt8) (n : Nat) : sumL ((m :: a :: b :: c :: d :: t).take (5 + n)) = crcL (crcL 65535 [a, b]) (t.take n) := by
  rw [Nat.add_comm]
  rfl
theorem add_pos {ad : Addr} {k : Nat} (hk : 0 < k) : ad.add k = ⟨ad.block, ad.off + k, none⟩ := by
  unfold Addr.add
  rw [if_neg (by omega)]
set_option maxRecDepth 100000 in
set_option maxHeartbeats 4000000 in
theorem first_any (l : List UInt8) (A : Option Addr) (n cap B : Nat) (hn : l.length = n) (hc : l.length ≤ cap) (hl : l.length ≤ 1000000) (w : World) (hr : RdB w B A l) :
    Calls Tryz.prog 75 #[.slice A n cap] w (LooksN (.int .i64 (firstL l : Nat)) w) := by
  by_cases h5 : l.length < 5
  · rw [firstL_short h5]
    subst hn
    have h5i : (l.length : Int) < 5 := by omega
    clear hr hc hl h5
    go_enter Tryz.func75, Tryz.ntmps75
    go_wp2_with fail
    go_ret
    exact ⟨rfl, 0, rfl⟩
  · obtain ⟨m, a, b, c, d, t, rfl⟩ := five h5
    obtain ⟨ad, rfl, _, hcell⟩ := hr (by simp)
    have h0 : w.cell? ad = some (.int .u8 (m.toNat : Int)) := hcell 0 m rfl
    have hnl : n = t.length + 5 := by rw [← hn]; rfl
    obtain ⟨L, hL⟩ : ∃ L, L = m :: a :: b :: c :: d :: t := ⟨_, rfl⟩
    subst hnl
    have h5i : ¬ (t.length : Int) + 5 < 5 := by omega
    by_cases hm : m = 76
    · obtain ⟨N, hN⟩ : ∃ N, N = a.toNat * 256 + b.toNat := ⟨_, rfl⟩
      have hN2 : N ≤ 65535 := by have := byte_lt a; have := byte_lt b; omega
      have hP1 := Lib.hid (fun cap' => pair_any a b ⟨ad.block, ad.off + 1, none⟩ cap' w (by have := hcell 1 a rfl; rwa [add_pos (by omega)] at this) (by have := hcell 2 b rfl; rwa [add_pos (by omega)] at this))
      rw [← hN] at hP1
      have h76 : (76 : UInt8).toNat = 76 := rfl
      rw [hm, h76] at h0
      have hci : (t.length : Int) + 5 ≤ cap := by rw [List.length_cons, List.length_cons, List.length_cons, List.length_cons, List.length_cons] at hc; omega
      by_cases hbig : 4096 < N + 1 ∨ t.length < N + 1
      · have hF : firstL (m :: a :: b :: c :: d :: t) = 0 := by simp only [firstL]; rw [if_pos hm, ← hN, if_pos hbig]
        rw [hF]
        clear hcell hm hr hc hl hn hL hF hN h5
        by_cases hbig1 : (4096 : Int) < N + 1
        · clear hbig
          go_enter Tryz.func75, Tryz.ntmps75
          go_wp2_with (go_at_call 111; refine (hP1.out _).mono ?_; rintro e w2 ⟨rfl, k, rfl⟩)
          go_ret
          exact ⟨rfl, _, rfl⟩
        · have hb2 : (t.length : Int) < N + 1 := by omega
          clear hbig
          go_enter Tryz.func75, Tryz.ntmps75
          go_wp2_with (go_at_call 111; refine (hP1.out _).mono ?_; rintro e w2 ⟨rfl, k, rfl⟩)
          go_ret
          exact ⟨rfl, _, rfl⟩
      · have hlen : (L.take (5 + (N + 1))).length = 5 + (N + 1) := by rw [List.length_take, hL]; simp only [List.length_cons]; omega
        have hrL : RdB w B (some ad) L := by rw [hL]; exact hr
        obtain ⟨M, hM⟩ : ∃ M, M = c.toNat * 256 + d.toNat := ⟨_, rfl⟩
        have hP2 : Hid (∀ W : World, W.heap = w.heap → ∀ cap', Calls Tryz.prog 111 #[.slice (some ⟨ad.block, ad.off + 3, none⟩) 2 cap'] W (LooksN (.int .i64 (M : Int)) W)) :=
          Lib.hid (fun W e cap' => by rw [hM]; exact pair_any c d ⟨ad.block, ad.off + 3, none⟩ cap' W (by have := hcell 3 c rfl; rw [add_pos (by omega)] at this; rw [← this]; exact World.cell?_of_block (by rw [e])) (by have := hcell 4 d rfl; rw [add_pos (by omega)] at this; rw [← this]; exact World.cell?_of_block (by rw [e])))
        obtain ⟨S, hS⟩ : ∃ S, S = sumL (L.take (5 + (N + 1))) := ⟨_, rfl⟩
        have hS2 : S = crcL (crcL 65535 [a, b]) (t.take (N + 1)) := by rw [hS, hL, sumL_frame]
        have hS3 : S < 65536 := by rw [hS2]; exact crcL_lt _ (crcL_lt _ (by omega))
        have hCS : Hid (∀ W : World, W.heap = w.heap → ∀ n cap', (L.take (5 + (N + 1))).length = n → (L.take (5 + (N + 1))).length ≤ cap' → Calls Tryz.prog 112 #[.slice (some ad) n cap'] W (LooksN (.int .u16 (S : Int)) W)) :=
          Lib.hid (fun W e n cap' hn hc => by rw [hS]; exact checksum_any (L.take (5 + (N + 1))) ad n cap' B hn (by omega) hc (by omega) W ((hrL.take (5 + (N + 1))).heap e))
        have hLEN := Lib.hid hlen
        have hCAP : Hid ((L.take (5 + (N + 1))).length ≤ cap) := Lib.hid (by rw [hlen]; omega)
        have hF : firstL (m :: a :: b :: c :: d :: t) = if M = S then 5 + (N + 1) else 0 := by simp only [firstL]; rw [if_pos hm, ← hN, if_neg hbig, ← hS2, ← hM]
        rw [hF]
        have hsz1 : ¬ (4096 : Int) < N + 1 := by omega
        have hc3 : ¬ cap = 3 := by omega
        have hc33 : ¬ cap - 3 = 0 := by omega
        have hc5 : (5 : Int) ≤ cap := by omega
        have hsz2 : ¬ (t.length : Int) < N + 1 := by omega
        have hM2 : M ≤ 65535 := by have := byte_lt c; have := byte_lt d; omega
        have hS4 : S ≤ 65535 := by omega
        clear hcell hm hr hc hl hn hF hN h5 hS hS2 hM hrL hL hlen hbig hS3
        by_cases hMS : M = S
        · rw [if_pos hMS]
          subst hMS
          go_enter Tryz.func75, Tryz.ntmps75
          go_wp2_with (go_at_call 111; refine (hP1.out _).mono ?_; rintro e w2 ⟨rfl, k, hk⟩; have HW2 : Hid (w2.heap = w.heap) := Lib.hid (by rw [hk]; rfl); have HD2 : Hid (∀ m, ∃ j, w2.drewN m = w.drewN j) := Lib.hid (fun m => ⟨k + m, by rw [hk, World.drewN_drewN]⟩); clear hk)
          go_quiet (first | (go_at_call 111; refine Calls.quiet_of (hP2.out _ (by exact HW2.out) _)) | (go_at_call 112; refine Calls.quiet_of (hCS.out _ (by exact HW2.out) _ _ hLEN.out hCAP.out)))
          go_wp2_with fail
          go_ret
          exact ⟨by simp, HD2.out _⟩
        · rw [if_neg hMS]
          have hMSi : ¬ (M : Int) = S := by omega
          clear hMS
          go_enter Tryz.func75, Tryz.ntmps75
          go_wp2_with (go_at_call 111; refine (hP1.out _).mono ?_; rintro e w2 ⟨rfl, k, hk⟩; have HW2 : Hid (w2.heap = w.heap) := Lib.hid (by rw [hk]; rfl); have HD2 : Hid (∀ m, ∃ j, w2.drewN m = w.drewN j) := Lib.hid (fun m => ⟨k + m, by rw [hk, World.drewN_drewN]⟩); clear hk)
          go_quiet (first | (go_at_call 111; refine Calls.quiet_of (hP2.out _ (by exact HW2.out) _)) | (go_at_call 112; refine Calls.quiet_of (hCS.out _ (by exact HW2.out) _ _ hLEN.out hCAP.out)))
          go_wp2_with fail
          go_ret
          exact ⟨rfl, HD2.out _⟩
    · have hF : firstL (m :: a :: b :: c :: d :: t) = 0 := by simp only [firstL]; rw [if_neg hm]
      rw [hF]
      have hmi : ¬ (m.toNat : Int) = 76 := fun e => hm (UInt8.toNat_inj.1 (by show m.toNat = 76; omega))
      clear hcell hm hr hc hl hn hL hF h5
      go_enter Tryz.func75, Tryz.ntmps75
      go_wp2_with fail
      go_ret
      exact ⟨rfl, 0, rfl⟩
end

section
open Go.RowKit

def hiB (r : List UInt8) : UInt8 := UInt8.ofNat ((r.length - 1) / 256)
def loB (r : List UInt8) : UInt8 := UInt8.ofNat (r.length - 1)
/-- the checksum of a record's frame -/
def sumR (r : List UInt8) : Nat := crcL (crcL 65535 [hiB r, loB r]) r
theorem sumR_lt (r : List UInt8) : sumR r < 65536 := crcL_lt _ (crcL_lt _ (by omega))
/-- a record as it stands on a disk -/
def frameL (r : List UInt8) : List UInt8 := 76 :: hiB r :: loB r :: UInt8.ofNat (sumR r / 256) :: UInt8.ofNat (sumR r) :: r
theorem frameL_len (r : List UInt8) : (frameL r).length = r.length + 5 := rfl
theorem ofNat_mod (n : Nat) : (UInt8.ofNat n).toNat = n % 256 := rfl
theorem hiB_nat {r : List UInt8} (h : r.length ≤ 65536) : (hiB r).toNat = (r.length - 1) / 256 := by
  unfold hiB
  rw [ofNat_mod]
  omega
theorem loB_nat (r : List UInt8) : (loB r).toNat = (r.length - 1) % 256 := rfl
theorem be16 {S : Nat} (h : S < 65536) : S / 256 % 256 * 256 + S % 256 = S := by
  have h1 : S / 256 % 256 = S / 256 := Nat.mod_eq_of_lt (by omega)
  rw [h1]
  omega
theorem firstL_five (m a b c d : UInt8) (t : List UInt8) : firstL (m :: a :: b :: c :: d :: t) = if m = 76 then (if 4096 < a.toNat * 256 + b.toNat + 1 ∨ t.length < a.toNat * 256 + b.toNat + 1 then 0 else if c.toNat * 256 + d.toNat = crcL (crcL 65535 [a, b]) (t.take (a.toNat * 256 + b.toNat + 1)) then 5 + (a.toNat * 256 + b.toNat + 1) else 0) else 0 := rfl
/-- bytes that begin with a record's frame -/
theorem firstL_frame {r : List UInt8} (h1 : 1 ≤ r.length) (h2 : r.length ≤ 4096) (t : List UInt8) : firstL (frameL r ++ t) = r.length + 5 := by
  have hs := sumR_lt r
  have hn : (hiB r).toNat * 256 + (loB r).toNat + 1 = r.length := by rw [hiB_nat (by omega), loB_nat]; omega
  show firstL (76 :: hiB r :: loB r :: UInt8.ofNat (sumR r / 256) :: UInt8.ofNat (sumR r) :: (r ++ t)) = _
  rw [firstL_five, if_pos rfl, hn, if_neg (by rw [List.length_append]; omega), List.take_left]
  rw [if_pos]
  · omega
  · have e : crcL (crcL 65535 [hiB r, loB r]) r = sumR r := rfl
    rw [e, ofNat_mod, ofNat_mod]
    exact be16 hs
theorem OwnB.len {w : World} {B n cap : Nat} {A : Option Addr} {l : List UInt8} (h : OwnB w B (.slice A n cap) l) : l.length = n := by
  obtain ⟨_, _, _, e, _⟩ := h
  injection e with e1 e2 e3
  exact e2.symm
theorem OwnB.set {w : World} {B g n cap : Nat} {l : List UInt8} (h : OwnB w B (.slice (some ⟨g, 0, none⟩) n cap) l) (m : Nat) (c : UInt8) : OwnB (w.setCell ⟨g, m, none⟩ (.int .u8 (c.toNat : Int))) B (.slice (some ⟨g, 0, none⟩) n cap) (l.set m c) := by
  have e0 := h.len
  subst e0
  have h1 := (h.1.stored (g := g) m (.int .u8 (c.toNat : Int))).1
  have e : (bytesV l).set m (.int .u8 (c.toNat : Int)) = bytesV (l.set m c) := by simp [bytesV, List.map_set]
  rw [e] at h1
  exact OwnB.of_row h1
theorem OwnB.cell_free {w : World} {B g n cap : Nat} {l : List UInt8} (h : OwnB w B (.slice (some ⟨g, 0, none⟩) n cap) l) {m : Nat} (hm : m < l.length) : (∃ v, w.cell? ⟨g, m, none⟩ = some v) ∧ w.frozen? ⟨g, m, none⟩ = false :=
  by
  have e0 := h.len
  subst e0
  have h2 := h.1.cells (g := g) rfl m (.int .u8 ((l[m]).toNat : Int)) (by simp [bytesV, hm])
  rw [add_plain] at h2
  exact ⟨⟨_, h2⟩, h.1.frozenAt m⟩
/-- what frame answers -/
def FrT (w : World) (r : List UInt8) (e : Ending) (w' : World) : Prop := ∃ g cap, e = .returned (.slice (some ⟨g, 0, none⟩) (r.length + 5) cap) ∧ OwnB w' w.heap.size (.slice (some ⟨g, 0, none⟩) (r.length + 5) cap) (frameL r) ∧ Below w.heap.size w w'
set_option maxRecDepth 100000 in
set_option maxHeartbeats 4000000 in
theorem frame_any (r : List UInt8) (A : Option Addr) (n cap : Nat) (hn : r.length = n) (h1 : 1 ≤ r.length) (h2 : r.length ≤ 4096) (w : World) (hr : RdB w w.heap.size A r) :
    Calls Tryz.prog 134 #[.slice A n cap] w (FrT w r) := by
  subst hn
  obtain ⟨i0, hi, hz0, hz1, hz2⟩ := info_parts info8
  have HL : Hid (1 ≤ r.length ∧ r.length ≤ 4096) := Lib.hid ⟨h1, h2⟩
  have HR := Lib.hid hr
  have h1i : 1 ≤ (r.length : Int) := by omega
  have h2i : (r.length : Int) ≤ 4096 := by omega
  have HX1 : Hid (OwnB (w.alloc (.cells #[.int .u8 76, .int .u8 (((r.length : Int) - 1) / 256), .int .u8 (((r.length : Int) - 1) % 256), .int .u8 0, .int .u8 0] 5)) w.heap.size (.slice (some ⟨w.heap.size, 0, none⟩) 5 5) [76, hiB r, loB r, 0, 0]) := Lib.hid (by
    have e1 : (((hiB r).toNat : Nat) : Int) = ((r.length : Int) - 1) / 256 := by rw [hiB_nat (by omega)]; omega
    have e2 : (((loB r).toNat : Nat) : Int) = ((r.length : Int) - 1) % 256 := by rw [loB_nat]; omega
    rw [← e1, ← e2]
    exact OwnB.of_row (n := 5) (own_lit (heap_alloc_new w _) (Nat.le_refl _) rfl (by omega)))
  have HX2 : Hid (∀ o, RdB (w.alloc o) w.heap.size A r) := Lib.hid fun o => hr.below (alloc_below w o) (Nat.le_refl _)
  have HX3 : Hid (∀ o, Below w.heap.size w (w.alloc o)) := Lib.hid fun o => alloc_below w o
  have HX4 : Hid (∀ o, w.heap.size ≤ (w.alloc o).heap.size) := Lib.hid fun o => by simp
  obtain ⟨F, hF⟩ : ∃ F, F = [76, hiB r, loB r, 0, 0] ++ r := ⟨_, rfl⟩
  obtain ⟨S, hS⟩ : ∃ S, S = sumR r := ⟨_, rfl⟩
  have hFS : sumL F = S := by rw [hF, hS]; rfl
  have hFL : (F.set 3 (UInt8.ofNat (S / 256))).set 4 (UInt8.ofNat S) = frameL r := by rw [hF, hS]; rfl
  have hFn : F.length = r.length + 5 := by rw [hF]; simp
  have hSl : S < 65536 := by rw [hS]; exact sumR_lt r
  have HF := Lib.hid hF
  have HFS := Lib.hid hFS
  have HFL := Lib.hid hFL
  have HFn := Lib.hid hFn
  have HE1 : Hid ((((UInt8.ofNat (S / 256)).toNat : Nat) : Int) = (S : Int) / 256) := Lib.hid (by rw [ofNat_mod]; omega)
  have HE2 : Hid ((((UInt8.ofNat S).toNat : Nat) : Int) = (S : Int) % 256) := Lib.hid (by rw [ofNat_mod]; omega)
  have hSi : (S : Int) < 65536 := by omega
  clear hr h1 h2 hF hS hFS hFL hFn hSl
  go_enter Tryz.func134, Tryz.ntmps134
  go_wp2_with (first
    | (at_builtin
       refine wpList_appB (xs := [76, hiB r, loB r, 0, 0]) (ys := r) (B := w.heap.size) rfl _ _ 22 rfl Tryz.underlying22 hi hz0 hz1 hz2 rfl HX1.out rfl rfl (HX2.out _) (by have := HL.out; simp; omega) (HX4.out _) ?_
       intro v5 w5 ho5 hg5
       rw [← HF.out] at ho5
       have hb5 := grew_below (HX3.out _) HX1.out.ge hg5
       obtain ⟨g, cap5, hv5, hg⟩ := ho5.head (by have := HFn.out; omega)
       subst hv5
       rw [HFn.out] at ho5
       have HC := Lib.hid (checksum_any F ⟨g, 0, none⟩ (r.length + 5) cap5 w5.heap.size HFn.out (by have := HFn.out; have := HL.out; omega) (by obtain ⟨_, _, _, e, hh⟩ := ho5; injection e with e1 e2 e3; omega) (by have := HFn.out; have := HL.out; omega) w5 ho5.rd)
       have HO5 := Lib.hid ho5
       have HB5 := Lib.hid hb5
       rw [HFn.out]
       clear ho5 hg5 hb5 hg)
    | (go_at_call 112; refine HC.out.mono ?_; rintro e w6 ⟨rfl, k, hk⟩
       rw [HFS.out]
       have ho6 := HO5.out.heap (w' := w6) (by rw [hk]; rfl)
       have hb6 : Below w.heap.size w w6 := by rw [hk]; exact HB5.out.trans ((drewN_below w5 k).mono HB5.out.size)
       obtain ⟨⟨c3, x3⟩, z3⟩ := ho6.cell_free (m := 3) (by have := HFn.out; omega)
       obtain ⟨⟨c4, x4⟩, z4⟩ := ho6.cell_free (m := 4) (by have := HFn.out; omega)
       have HO6 := Lib.hid ((ho6.set 3 (UInt8.ofNat (S / 256))).set 4 (UInt8.ofNat S))
       have HB6 := Lib.hid hb6
       have HG6 := Lib.hid (ho6.ge g rfl)
       clear ho6 hb6 hk))
  go_ret
  have h := HO6.out
  rw [HE1.out, HE2.out, HFL.out] at h
  exact ⟨g, cap5, rfl, h, HB6.out.trans (((Only.set w6 g 3 _).trans (Only.set _ g 4 _) (fun _ _ e => e)).below HB6.out.size (fun j e => by have := HG6.out; omega))⟩
end
end Go.Proofs.YtkohppalfcalbaaGreat

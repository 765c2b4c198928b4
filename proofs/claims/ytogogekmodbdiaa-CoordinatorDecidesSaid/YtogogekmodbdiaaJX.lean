/- Package wal: follow, Check, checksum, pair, over readable bytes. -/
import Derived.Test.YtogogekmodbdiaaDX
import Derived.Test.YtogogekmodbdiaaJA
namespace Go.Proofs.Ytogogekmodbdiaa
section
open Go.RowKit

theorem xor16 {a b : Nat} (ha : a < 65536) (hb : b < 65536) (x y : Int) (hx : x = (a : Int)) (hy : y = (b : Int)) : bits .xor .u16 x y = ((a ^^^ b : Nat) : Int) := by
  subst hx hy
  have h1 : (BitVec.ofInt 16 (a : Int)).toNat = a := by rw [BitVec.toNat_ofInt]; simp; omega
  have h2 : (BitVec.ofInt 16 (b : Int)).toNat = b := by rw [BitVec.toNat_ofInt]; simp; omega
  show IntKind.u16.wrap (((BitVec.ofInt 16 (a : Int)) ^^^ (BitVec.ofInt 16 (b : Int))).toNat : Int) = _
  rw [BitVec.toNat_xor, h1, h2, IntKind.wrap_u16]
  have := xor16_lt ha hb
  omega
theorem RdB.get {w : World} {B k : Nat} {A : Option Addr} {l : List UInt8} {c : UInt8} (h : RdB w B A l) (hk : l[k]? = some c) : ∃ ad, A = some ad ∧ w.cell? (ad.add k) = some (.int .u8 (c.toNat : Int)) := by
  obtain ⟨ad, e, _, hc⟩ := h (fun e => by subst e; simp at hk)
  exact ⟨ad, e, hc k c hk⟩
theorem step16 {x : Nat} (hx : x < 65536) : bits .xor .u16 (IntKind.u16.wrap ((x : Int) * 2)) (IntKind.u16.wrap ((x : Int) / 32768 * 4129)) = ((crc1 x : Nat) : Int) :=
  xor16 (Nat.mod_lt _ (by omega)) (by omega) _ _ (by rw [IntKind.wrap_u16]; omega) (by rw [IntKind.wrap_u16]; omega)
theorem mix16 {x : Nat} (hx : x < 65536) (c : UInt8) : bits .xor .u16 (x : Int) (IntKind.u16.wrap (IntKind.u16.wrap (c.toNat : Int) * 256)) = ((x ^^^ c.toNat * 256 : Nat) : Int) :=
  xor16 hx (b := c.toNat * 256) (by have := byte_lt c; omega) _ _ rfl (by have := byte_lt c; rw [IntKind.wrap_u16, IntKind.wrap_u16]; omega)
theorem crcL_step {s k : Nat} {l : List UInt8} {c : UInt8} (hc : l[k]? = some c) : crcL s (l.take (k + 1)) = crcN 8 (crcL s (l.take k) ^^^ c.toNat * 256) := by
  have h := List.getElem?_eq_some_iff.1 hc
  rw [List.take_succ_eq_append_getElem h.1, h.2, crcL_snoc]
  rfl
set_option maxRecDepth 100000 in
set_option maxHeartbeats 2000000 in
theorem follow_any (s : Nat) (hs : s < 65536) (l : List UInt8) (A : Option Addr) (n cap B : Nat) (hn : l.length = n) (hl : l.length ≤ 1000000) (w : World) (hr : RdB w B A l) :
    Calls Try.prog 96 #[.int .u16 (s : Int), .slice A n cap] w (Looks (.int .u16 (crcL s l : Nat)) w) := by
  subst hn
  have HR := Lib.hid hr
  have HS := Lib.hid hs
  have hli : (l.length : Int) ≤ 1000000 := by omega
  clear hr hs hl
  go_enter Try.func96, Try.ntmps96
  go_wp2_with fail
  go_loop [0, 9] (fun v0 v9 => ∃ k : Nat, k ≤ l.length ∧ v9 = .int .i64 k ∧ v0 = .int .u16 (crcL s (l.take k) : Nat)) (fun _ v9 => l.length - (intOf v9).toNat)
  case atStart => exact ⟨0, Nat.zero_le _, rfl, rfl⟩
  case round =>
    obtain ⟨k, hk, rfl, rfl⟩ := hrel
    by_cases hlt : k < l.length
    · have hki : (k : Int) < (l.length : Int) := by omega
      obtain ⟨c, hc⟩ : ∃ c, l[k]? = some c := ⟨_, List.getElem?_eq_getElem hlt⟩
      obtain ⟨ad, hA, hcell⟩ := HR.out.get hc
      subst hA
      have HX := Lib.hid (mix16 (crcL_lt (l.take k) HS.out) c)
      have HXL := Lib.hid (xor16_lt (crcL_lt (l.take k) HS.out) (b := c.toNat * 256) (by have := byte_lt c; omega))
      have HST := Lib.hid (crcL_step (s := s) hc)
      clear hc
      go_wp2_with fail
      rw [HX.out]
      go_loop [0, 18] (fun v0 v18 => ∃ j : Nat, j ≤ 8 ∧ v18 = .int .i64 j ∧ v0 = .int .u16 (crcN j (crcL s (l.take k) ^^^ c.toNat * 256) : Nat)) (fun _ v18 => 8 - (intOf v18).toNat)
      case atStart => exact ⟨0, by omega, rfl, rfl⟩
      case round =>
        obtain ⟨j, hj, rfl, rfl⟩ := hrel
        by_cases hlt8 : j < 8
        · have hji : (j : Int) < 8 := by omega
          have HS1 := Lib.hid (step16 (crcN_lt j HXL.out))
          have HS2 := Lib.hid (crcN_snoc j (crcL s (l.take k) ^^^ c.toNat * 256))
          go_wp2_with fail
          rw [HS1.out, ← HS2.out]
          go_round
          case rel => exact ⟨j + 1, hlt8, by go_num, rfl⟩
          case measure => simp [intOf]; omega
        · have hj8 : j = 8 := by omega
          subst hj8
          rw [← HST.out]
          go_wp2_with fail
          go_round
          case rel => exact ⟨k + 1, hlt, by go_num, rfl⟩
          case measure => simp [intOf]; omega
    · have hkl : k = l.length := by omega
      subst hkl
      go_wp2_with fail
      go_ret
      exact ⟨rfl, rfl⟩
/-- a call that only looks, as a region meets it -/
theorem Looks.n {v : Value} {w w' : World} {e : Ending} (h : Looks v w e w') : LooksN v w e w' := ⟨h.1, 0, by rw [World.drewN_zero]; exact h.2.symm⟩
set_option maxRecDepth 100000 in
theorem check_any (l : List UInt8) (A : Option Addr) (n cap B : Nat) (hn : l.length = n) (hl : l.length ≤ 1000000) (w : World) (hr : RdB w B A l) :
    Calls Try.prog 97 #[.slice A n cap] w (Looks (.int .u16 (crcL 65535 l : Nat)) w) := by
  have HF := Lib.hid (follow_any 65535 (by omega) l A n cap B hn hl w hr)
  clear hr hn hl
  go_enter Try.func97, Try.ntmps97
  go_wp2_with (go_at_call 96; refine HF.out.mono ?_; rintro e w2 ⟨rfl, rfl⟩)
  go_ret
  exact ⟨rfl, rfl⟩
theorem or_pair {a b : Nat} (ha : a < 256) (hb : b < 256) : bits .or .i64 ((a : Int) * 256) (b : Int) = ((a * 256 + b : Nat) : Int) := by
  have h0 : (a : Int) * 256 = ((a * 256 : Nat) : Int) := by omega
  rw [h0]
  have h1 : (BitVec.ofInt 64 ((a * 256 : Nat) : Int)).toNat = a * 256 := by rw [BitVec.toNat_ofInt]; simp; omega
  have h2 : (BitVec.ofInt 64 (b : Int)).toNat = b := by rw [BitVec.toNat_ofInt]; simp; omega
  show IntKind.i64.wrap (((BitVec.ofInt 64 ((a * 256 : Nat) : Int)) ||| (BitVec.ofInt 64 (b : Int))).toNat : Int) = _
  rw [BitVec.toNat_or, h1, h2, show a * 256 = 2 ^ 8 * a by omega, ← Nat.two_pow_add_eq_or_of_lt (show b < 2 ^ 8 by omega), IntKind.wrap_i64]
  omega
set_option maxRecDepth 100000 in
theorem pair_any (a b : UInt8) (ad : Addr) (cap : Nat) (w : World) (h0 : w.cell? ad = some (.int .u8 (a.toNat : Int))) (h1 : w.cell? ⟨ad.block, ad.off + 1, none⟩ = some (.int .u8 (b.toNat : Int))) :
    Calls Try.prog 72 #[.slice (some ad) 2 cap] w (LooksN (.int .i64 ((a.toNat * 256 + b.toNat : Nat) : Int)) w) := by
  have HO := Lib.hid (or_pair (byte_lt a) (byte_lt b))
  have hai : (a.toNat : Int) ≤ 255 := by have := byte_lt a; omega
  have hbi : (b.toNat : Int) ≤ 255 := by have := byte_lt b; omega
  go_enter Try.func72, Try.ntmps72
  go_wp2_with fail
  go_quiet (fail)
  go_wp2_with fail
  rw [HO.out]
  go_ret
  exact ⟨rfl, _, rfl⟩
theorem RdB.shift {w : World} {B : Nat} {ad : Addr} {l : List UInt8} (h : RdB w B (some ad) l) {k : Nat} (hk : 0 < k) : RdB w B (some ⟨ad.block, ad.off + k, none⟩) (l.drop k) := by
  have h1 := h.drop (k := k) (cap := l.length + k + 1) (by omega)
  rw [if_neg (by omega)] at h1
  have e : ad.add k = ⟨ad.block, ad.off + k, none⟩ := by unfold Addr.add; rw [if_neg (by omega)]
  rw [← e]
  exact h1
/-- the checksum of a frame's bytes -/
def sumL (l : List UInt8) : Nat := crcL (crcL 65535 ((l.drop 1).take 2)) (l.drop 5)
set_option maxRecDepth 100000 in
set_option maxHeartbeats 2000000 in
theorem checksum_any (l : List UInt8) (ad : Addr) (n cap B : Nat) (hn : l.length = n) (h5 : 5 < l.length) (hc : l.length ≤ cap) (hl : l.length ≤ 1000000) (w : World) (hr : RdB w B (some ad) l) :
    Calls Try.prog 73 #[.slice (some ad) n cap] w (LooksN (.int .u16 (sumL l : Nat)) w) := by
  subst hn
  obtain ⟨S, hS⟩ : ∃ S, S = crcL 65535 ((l.drop 1).take 2) := ⟨_, rfl⟩
  obtain ⟨T, hT⟩ : ∃ T, T = sumL l := ⟨_, rfl⟩
  have hT2 : T = crcL S (l.drop 5) := by rw [hT, hS]; rfl
  have hS2 : S < 65536 := by rw [hS]; exact crcL_lt _ (by omega)
  rw [← hT]
  have HC : Hid (∀ k cap', Calls Try.prog 97 #[.slice (some ⟨ad.block, ad.off + 1, none⟩) 2 cap'] (w.drewN k) (LooksN (.int .u16 (S : Int)) (w.drewN k))) :=
    Lib.hid (fun k cap' => by rw [hS]; exact (check_any ((l.drop 1).take 2) (some ⟨ad.block, ad.off + 1, none⟩) 2 cap' B (by rw [List.length_take, List.length_drop]; omega) (by rw [List.length_take]; omega) (w.drewN k) (((hr.shift (k := 1) (by omega)).take 2).heap rfl)).mono fun _ _ h => h.n)
  have HF : Hid (∀ k n cap', (l.drop 5).length = n → Calls Try.prog 96 #[.int .u16 (S : Int), .slice (some ⟨ad.block, ad.off + 5, none⟩) n cap'] (w.drewN k) (LooksN (.int .u16 (T : Int)) (w.drewN k))) :=
    Lib.hid (fun k n cap' hn => by rw [hT2]; exact (follow_any S hS2 (l.drop 5) (some ⟨ad.block, ad.off + 5, none⟩) n cap' B hn (by rw [List.length_drop]; omega) (w.drewN k) ((hr.shift (k := 5) (by omega)).heap rfl)).mono fun _ _ h => h.n)
  have HL := Lib.hid (show (l.drop 5).length = l.length - 5 from List.length_drop)
  have h5i : 5 < (l.length : Int) := by omega
  have hci : (l.length : Int) ≤ cap := by omega
  have hne : ¬ cap = 5 := by omega
  have hne2 : ¬ cap - 5 = 0 := by omega
  clear hr hl h5 hc hS hT hT2 hS2
  go_enter Try.func73, Try.ntmps73
  go_wp2_with fail
  go_quiet (first | (go_at_call 97; refine Calls.quiet_of (HC.out _ _)) | (go_at_call 96; refine Calls.quiet_of (HF.out _ _ _ HL.out)))
  go_wp2_with fail
  go_ret
  exact ⟨rfl, _, rfl⟩
end

section
open Go.RowKit

/-- the size of the frame with which bytes begin, or 0 -/
def firstL : List UInt8 → Nat
  | m :: a :: b :: c :: d :: t => if m = 76 then (if 4096 < a.toNat * 256 + b.toNat + 1 ∨ t.length < a.toNat * 256 + b.toNat + 1 then 0 else if c.toNat * 256 + d.toNat = crcL (crcL 65535 [a, b]) (t.take (a.toNat * 256 + b.toNat + 1)) then 5 + (a.toNat * 256 + b.toNat + 1) else 0) else 0
  | _ => 0
theorem firstL_short {l : List UInt8} (h : l.length < 5) : firstL l = 0 := by
  match l, h with
  | [], _ => rfl
  | [_], _ => rfl
  | [_, _], _ => rfl
  | [_, _, _], _ => rfl
  | [_, _, _, _], _ => rfl
theorem five {l : List UInt8} (h : ¬ l.length < 5) : ∃ m a b c d t, l = m :: a :: b :: c :: d :: t := by
  match l, h with
  | m :: a :: b :: c :: d :: t, _ => exact ⟨m, a, b, c, d, t, rfl⟩
  | [], h => exact absurd (by simp) h
  | [_], h => exact absurd (by simp) h
  | [_, _], h => exact absurd (by simp) h
  | [_, _, _], h => exact absurd (by simp) h
  | [_, _, _, _], h => exact absurd (by simp) h
theorem firstL_le (l : List UInt8) : firstL l ≤ l.length := by
  by_cases h : l.length < 5
  · rw [firstL_short h]; omega
  · obtain ⟨m, a, b, c, d, t, rfl⟩ := five h
    simp only [firstL, List.length_cons]
    repeat' split
    all_goals omega
theorem sumL_frame (m a b c d : UInt8) (t : List UInt8) (n : Nat) : sumL ((m :: a :: b :: c :: d :: t).take (5 + n)) = crcL (crcL 65535 [a, b]) (t.take n) := by
  rw [Nat.add_comm]
  rfl
theorem add_pos {ad : Addr} {k : Nat} (hk : 0 < k) : ad.add k = ⟨ad.block, ad.off + k, none⟩ := by
  unfold Addr.add
  rw [if_neg (by omega)]
set_option maxRecDepth 100000 in
set_option maxHeartbeats 4000000 in
theorem first_any (l : List UInt8) (A : Option Addr) (n cap B : Nat) (hn : l.length = n) (hc : l.length ≤ cap) (hl : l.length ≤ 1000000) (w : World) (hr : RdB w B A l) :
    Calls Try.prog 56 #[.slice A n cap] w (LooksN (.int .i64 (firstL l : Nat)) w) := by
  by_cases h5 : l.length < 5
  · rw [firstL_short h5]
    subst hn
    have h5i : (l.length : Int) < 5 := by omega
    clear hr hc hl h5
    go_enter Try.func56, Try.ntmps56
    go_wp2_with fail
    go_ret
    exact ⟨rfl, 0, rfl⟩
  · obtain ⟨m, a, b, c, d, t, rfl⟩ := five h5
    obtain ⟨ad, rfl, _, hcell⟩ := hr (by simp)
    have h0 : w.cell? ad = some (.int .u8 (m.toNat : Int)) := hcell 0 m rfl
    have hnl : n = t.length + 5 := by rw [← hn]; rfl
    obtain ⟨L, hL⟩ : ∃ L, L = m :: a :: b :: c :: d :: t := ⟨_, rfl⟩
    subst hnl
    have h5i : ¬ (t.length : Int) + 5 < 5 := by omega
    by_cases hm : m = 76
    · obtain ⟨N, hN⟩ : ∃ N, N = a.toNat * 256 + b.toNat := ⟨_, rfl⟩
      have hN2 : N ≤ 65535 := by have := byte_lt a; have := byte_lt b; omega
      have hP1 := Lib.hid (fun cap' => pair_any a b ⟨ad.block, ad.off + 1, none⟩ cap' w (by have := hcell 1 a rfl; rwa [add_pos (by omega)] at this) (by have := hcell 2 b rfl; rwa [add_pos (by omega)] at this))
      rw [← hN] at hP1
      have h76 : (76 : UInt8).toNat = 76 := rfl
      rw [hm, h76] at h0
      have hci : (t.length : Int) + 5 ≤ cap := by rw [List.length_cons, List.length_cons, List.length_cons, List.length_cons, List.length_cons] at hc; omega
      by_cases hbig : 4096 < N + 1 ∨ t.length < N + 1
      · have hF : firstL (m :: a :: b :: c :: d :: t) = 0 := by simp only [firstL]; rw [if_pos hm, ← hN, if_pos hbig]
        rw [hF]
        clear hcell hm hr hc hl hn hL hF hN h5
        by_cases hbig1 : (4096 : Int) < N + 1
        · clear hbig
          go_enter Try.func56, Try.ntmps56
          go_wp2_with (go_at_call 72; refine (hP1.out _).mono ?_; rintro e w2 ⟨rfl, k, rfl⟩)
          go_ret
          exact ⟨rfl, _, rfl⟩
        · have hb2 : (t.length : Int) < N + 1 := by omega
          clear hbig
          go_enter Try.func56, Try.ntmps56
          go_wp2_with (go_at_call 72; refine (hP1.out _).mono ?_; rintro e w2 ⟨rfl, k, rfl⟩)
          go_ret
          exact ⟨rfl, _, rfl⟩
      · have hlen : (L.take (5 + (N + 1))).length = 5 + (N + 1) := by rw [List.length_take, hL]; simp only [List.length_cons]; omega
        have hrL : RdB w B (some ad) L := by rw [hL]; exact hr
        obtain ⟨M, hM⟩ : ∃ M, M = c.toNat * 256 + d.toNat := ⟨_, rfl⟩
        have hP2 : Hid (∀ W : World, W.heap = w.heap → ∀ cap', Calls Try.prog 72 #[.slice (some ⟨ad.block, ad.off + 3, none⟩) 2 cap'] W (LooksN (.int .i64 (M : Int)) W)) :=
          Lib.hid (fun W e cap' => by rw [hM]; exact pair_any c d ⟨ad.block, ad.off + 3, none⟩ cap' W (by have := hcell 3 c rfl; rw [add_pos (by omega)] at this; rw [← this]; exact World.cell?_of_block (by rw [e])) (by have := hcell 4 d rfl; rw [add_pos (by omega)] at this; rw [← this]; exact World.cell?_of_block (by rw [e])))
        obtain ⟨S, hS⟩ : ∃ S, S = sumL (L.take (5 + (N + 1))) := ⟨_, rfl⟩
        have hS2 : S = crcL (crcL 65535 [a, b]) (t.take (N + 1)) := by rw [hS, hL, sumL_frame]
        have hS3 : S < 65536 := by rw [hS2]; exact crcL_lt _ (crcL_lt _ (by omega))
        have hCS : Hid (∀ W : World, W.heap = w.heap → ∀ n cap', (L.take (5 + (N + 1))).length = n → (L.take (5 + (N + 1))).length ≤ cap' → Calls Try.prog 73 #[.slice (some ad) n cap'] W (LooksN (.int .u16 (S : Int)) W)) :=
          Lib.hid (fun W e n cap' hn hc => by rw [hS]; exact checksum_any (L.take (5 + (N + 1))) ad n cap' B hn (by omega) hc (by omega) W ((hrL.take (5 + (N + 1))).heap e))
        have hLEN := Lib.hid hlen
        have hCAP : Hid ((L.take (5 + (N + 1))).length ≤ cap) := Lib.hid (by rw [hlen]; omega)
        have hF : firstL (m :: a :: b :: c :: d :: t) = if M = S then 5 + (N + 1) else 0 := by simp only [firstL]; rw [if_pos hm, ← hN, if_neg hbig, ← hS2, ← hM]
        rw [hF]
        have hsz1 : ¬ (4096 : Int) < N + 1 := by omega
        have hc3 : ¬ cap = 3 := by omega
        have hc33 : ¬ cap - 3 = 0 := by omega
        have hc5 : (5 : Int) ≤ cap := by omega
        have hsz2 : ¬ (t.length : Int) < N + 1 := by omega
        have hM2 : M ≤ 65535 := by have := byte_lt c; have := byte_lt d; omega
        have hS4 : S ≤ 65535 := by omega
        clear hcell hm hr hc hl hn hF hN h5 hS hS2 hM hrL hL hlen hbig hS3
        by_cases hMS : M = S
        · rw [if_pos hMS]
          subst hMS
          go_enter Try.func56, Try.ntmps56
          go_wp2_with (go_at_call 72; refine (hP1.out _).mono ?_; rintro e w2 ⟨rfl, k, hk⟩; have HW2 : Hid (w2.heap = w.heap) := Lib.hid (by rw [hk]; rfl); have HD2 : Hid (∀ m, ∃ j, w2.drewN m = w.drewN j) := Lib.hid (fun m => ⟨k + m, by rw [hk, World.drewN_drewN]⟩); clear hk)
          go_quiet (first | (go_at_call 72; refine Calls.quiet_of (hP2.out _ (by exact HW2.out) _)) | (go_at_call 73; refine Calls.quiet_of (hCS.out _ (by exact HW2.out) _ _ hLEN.out hCAP.out)))
          go_wp2_with fail
          go_ret
          exact ⟨by simp, HD2.out _⟩
        · rw [if_neg hMS]
          have hMSi : ¬ (M : Int) = S := by omega
          clear hMS
          go_enter Try.func56, Try.ntmps56
          go_wp2_with (go_at_call 72; refine (hP1.out _).mono ?_; rintro e w2 ⟨rfl, k, hk⟩; have HW2 : Hid (w2.heap = w.heap) := Lib.hid (by rw [hk]; rfl); have HD2 : Hid (∀ m, ∃ j, w2.drewN m = w.drewN j) := Lib.hid (fun m => ⟨k + m, by rw [hk, World.drewN_drewN]⟩); clear hk)
          go_quiet (first | (go_at_call 72; refine Calls.quiet_of (hP2.out _ (by exact HW2.out) _)) | (go_at_call 73; refine Calls.quiet_of (hCS.out _ (by exact HW2.out) _ _ hLEN.out hCAP.out)))
          go_wp2_with fail
          go_ret
          exact ⟨rfl, HD2.out _⟩
    · have hF : firstL (m :: a :: b :: c :: d :: t) = 0 := by simp only [firstL]; rw [if_neg hm]
      rw [hF]
      have hmi : ¬ (m.toNat : Int) = 76 := fun e => hm (UInt8.toNat_inj.1 (by show m.toNat = 76; omega))
      clear hcell hm hr hc hl hn hL hF h5
      go_enter Try.func56, Try.ntmps56
      go_wp2_with fail
      go_ret
      exact ⟨rfl, 0, rfl⟩
end

section
open Go.RowKit

def hiB (r : List UInt8) : UInt8 := UInt8.ofNat ((r.length - 1) / 256)
def loB (r : List UInt8) : UInt8 := UInt8.ofNat (r.length - 1)
/-- the checksum of a record's frame -/
def sumR (r : List UInt8) : Nat := crcL (crcL 65535 [hiB r, loB r]) r
theorem sumR_lt (r : List UInt8) : sumR r < 65536 := crcL_lt _ (crcL_lt _ (by omega))
/-- a record as it stands on a disk -/
def frameL (r : List UInt8) : List UInt8 := 76 :: hiB r :: loB r :: UInt8.ofNat (sumR r / 256) :: UInt8.ofNat (sumR r) :: r
theorem frameL_len (r : List UInt8) : (frameL r).length = r.length + 5 := rfl
theorem ofNat_mod (n : Nat) : (UInt8.ofNat n).toNat = n % 256 := rfl
theorem hiB_nat {r : List UInt8} (h : r.length ≤ 65536) : (hiB r).toNat = (r.length - 1) / 256 := by
  unfold hiB
  rw [ofNat_mod]
  omega
theorem loB_nat (r : List UInt8) : (loB r).toNat = (r.length - 1) % 256 := rfl
theorem be16 {S : Nat} (h : S < 65536) : S / 256 % 256 * 256 + S % 256 = S := by
  have h1 : S / 256 % 256 = S / 256 := Nat.mod_eq_of_lt (by omega)
  rw [h1]
  omega
theorem firstL_five (m a b c d : UInt8) (t : List UInt8) : firstL (m :: a :: b :: c :: d :: t) = if m = 76 then (if 4096 < a.toNat * 256 + b.toNat + 1 ∨ t.length < a.toNat * 256 + b.toNat + 1 then 0 else if c.toNat * 256 + d.toNat = crcL (crcL 65535 [a, b]) (t.take (a.toNat * 256 + b.toNat + 1)) then 5 + (a.toNat * 256 + b.toNat + 1) else 0) else 0 := rfl
/-- bytes that begin with a record's frame -/
theorem firstL_frame {r : List UInt8} (h1 : 1 ≤ r.length) (h2 : r.length ≤ 4096) (t : List UInt8) : firstL (frameL r ++ t) = r.length + 5 := by
  have hs := sumR_lt r
  have hn : (hiB r).toNat * 256 + (loB r).toNat + 1 = r.length := by rw [hiB_nat (by omega), loB_nat]; omega
  show firstL (76 :: hiB r :: loB r :: UInt8.ofNat (sumR r / 256) :: UInt8.ofNat (sumR r) :: (r ++ t)) = _
  rw [firstL_five, if_pos rfl, hn, if_neg (by rw [List.length_append]; omega), List.take_left]
  rw [if_pos]
  · omega
  · have e : crcL (crcL 65535 [hiB r, loB r]) r = sumR r := rfl
    rw [e, ofNat_mod, ofNat_mod]
    exact be16 hs
theorem OwnB.len {w : World} {B n cap : Nat} {A : Option Addr} {l : List UInt8} (h : OwnB w B (.slice A n cap) l) : l.length = n := by
  obtain ⟨_, _, _, e, _⟩ := h
  injection e with e1 e2 e3
  exact e2.symm
theorem OwnB.set {w : World} {B g n cap : Nat} {l : List UInt8} (h : OwnB w B (.slice (some ⟨g, 0, none⟩) n cap) l) (m : Nat) (c : UInt8) : OwnB (w.setCell ⟨g, m, none⟩ (.int .u8 (c.toNat : Int))) B (.slice (some ⟨g, 0, none⟩) n cap) (l.set m c) := by
  have e0 := h.len
  subst e0
  have h1 := (h.1.stored (g := g) m (.int .u8 (c.toNat : Int))).1
  have e : (bytesV l).set m (.int .u8 (c.toNat : Int)) = bytesV (l.set m c) := by simp [bytesV, List.map_set]
  rw [e] at h1
  exact OwnB.of_row h1
theorem OwnB.cell_free {w : World} {B g n cap : Nat} {l : List UInt8} (h : OwnB w B (.slice (some ⟨g, 0, none⟩) n cap) l) {m : Nat} (hm : m < l.length) : (∃ v, w.cell? ⟨g, m, none⟩ = some v) ∧ w.frozen? ⟨g, m, none⟩ = false :=
  by
  have e0 := h.len
  subst e0
  have h2 := h.1.cells (g := g) rfl m (.int .u8 ((l[m]).toNat : Int)) (by simp [bytesV, hm])
  rw [add_plain] at h2
  exact ⟨⟨_, h2⟩, h.1.frozenAt m⟩
/-- what frame answers -/
def FrT (w : World) (r : List UInt8) (e : Ending) (w' : World) : Prop := ∃ g cap, e = .returned (.slice (some ⟨g, 0, none⟩) (r.length + 5) cap) ∧ OwnB w' w.heap.size (.slice (some ⟨g, 0, none⟩) (r.length + 5) cap) (frameL r) ∧ Below w.heap.size w w'
set_option maxRecDepth 100000 in
set_option maxHeartbeats 4000000 in
theorem frame_any (r : List UInt8) (A : Option Addr) (n cap : Nat) (hn : r.length = n) (h1 : 1 ≤ r.length) (h2 : r.length ≤ 4096) (w : World) (hr : RdB w w.heap.size A r) :
    Calls Try.prog 84 #[.slice A n cap] w (FrT w r) := by
  subst hn
  obtain ⟨i0, hi, hz0, hz1, hz2⟩ := info_parts info8
  have HL : Hid (1 ≤ r.length ∧ r.length ≤ 4096) := Lib.hid ⟨h1, h2⟩
  have HR := Lib.hid hr
  have h1i : 1 ≤ (r.length : Int) := by omega
  have h2i : (r.length : Int) ≤ 4096 := by omega
  have HX1 : Hid (OwnB (w.alloc (.cells #[.int .u8 76, .int .u8 (((r.length : Int) - 1) / 256), .int .u8 (((r.length : Int) - 1) % 256), .int .u8 0, .int .u8 0] 5)) w.heap.size (.slice (some ⟨w.heap.size, 0, none⟩) 5 5) [76, hiB r, loB r, 0, 0]) := Lib.hid (by
    have e1 : (((hiB r).toNat : Nat) : Int) = ((r.length : Int) - 1) / 256 := by rw [hiB_nat (by omega)]; omega
    have e2 : (((loB r).toNat : Nat) : Int) = ((r.length : Int) - 1) % 256 := by rw [loB_nat]; omega
    rw [← e1, ← e2]
    exact OwnB.of_row (n := 5) (own_lit (heap_alloc_new w _) (Nat.le_refl _) rfl (by omega)))
  have HX2 : Hid (∀ o, RdB (w.alloc o) w.heap.size A r) := Lib.hid fun o => hr.below (alloc_below w o) (Nat.le_refl _)
  have HX3 : Hid (∀ o, Below w.heap.size w (w.alloc o)) := Lib.hid fun o => alloc_below w o
  have HX4 : Hid (∀ o, w.heap.size ≤ (w.alloc o).heap.size) := Lib.hid fun o => by simp
  obtain ⟨F, hF⟩ : ∃ F, F = [76, hiB r, loB r, 0, 0] ++ r := ⟨_, rfl⟩
  obtain ⟨S, hS⟩ : ∃ S, S = sumR r := ⟨_, rfl⟩
  have hFS : sumL F = S := by rw [hF, hS]; rfl
  have hFL : (F.set 3 (UInt8.ofNat (S / 256))).set 4 (UInt8.ofNat S) = frameL r := by rw [hF, hS]; rfl
  have hFn : F.length = r.length + 5 := by rw [hF]; simp
  have hSl : S < 65536 := by rw [hS]; exact sumR_lt r
  have HF := Lib.hid hF
  have HFS := Lib.hid hFS
  have HFL := Lib.hid hFL
  have HFn := Lib.hid hFn
  have HE1 : Hid ((((UInt8.ofNat (S / 256)).toNat : Nat) : Int) = (S : Int) / 256) := Lib.hid (by rw [ofNat_mod]; omega)
  have HE2 : Hid ((((UInt8.ofNat S).toNat : Nat) : Int) = (S : Int) % 256) := Lib.hid (by rw [ofNat_mod]; omega)
  have hSi : (S : Int) < 65536 := by omega
  clear hr h1 h2 hF hS hFS hFL hFn hSl
  go_enter Try.func84, Try.ntmps84
  go_wp2_with (first
    | (at_builtin
       refine wpList_appB (xs := [76, hiB r, loB r, 0, 0]) (ys := r) (B := w.heap.size) rfl _ _ 56 rfl Try.underlying56 hi hz0 hz1 hz2 rfl HX1.out rfl rfl (HX2.out _) (by have := HL.out; simp; omega) (HX4.out _) ?_
       intro v5 w5 ho5 hg5
       rw [← HF.out] at ho5
       have hb5 := grew_below (HX3.out _) HX1.out.ge hg5
       obtain ⟨g, cap5, hv5, hg⟩ := ho5.head (by have := HFn.out; omega)
       subst hv5
       rw [HFn.out] at ho5
       have HC := Lib.hid (checksum_any F ⟨g, 0, none⟩ (r.length + 5) cap5 w5.heap.size HFn.out (by have := HFn.out; have := HL.out; omega) (by obtain ⟨_, _, _, e, hh⟩ := ho5; injection e with e1 e2 e3; omega) (by have := HFn.out; have := HL.out; omega) w5 ho5.rd)
       have HO5 := Lib.hid ho5
       have HB5 := Lib.hid hb5
       rw [HFn.out]
       clear ho5 hg5 hb5 hg)
    | (go_at_call 73; refine HC.out.mono ?_; rintro e w6 ⟨rfl, k, hk⟩
       rw [HFS.out]
       have ho6 := HO5.out.heap (w' := w6) (by rw [hk]; rfl)
       have hb6 : Below w.heap.size w w6 := by rw [hk]; exact HB5.out.trans ((drewN_below w5 k).mono HB5.out.size)
       obtain ⟨⟨c3, x3⟩, z3⟩ := ho6.cell_free (m := 3) (by have := HFn.out; omega)
       obtain ⟨⟨c4, x4⟩, z4⟩ := ho6.cell_free (m := 4) (by have := HFn.out; omega)
       have HO6 := Lib.hid ((ho6.set 3 (UInt8.ofNat (S / 256))).set 4 (UInt8.ofNat S))
       have HB6 := Lib.hid hb6
       have HG6 := Lib.hid (ho6.ge g rfl)
       clear ho6 hb6 hk))
  go_ret
  have h := HO6.out
  rw [HE1.out, HE2.out, HFL.out] at h
  exact ⟨g, cap5, rfl, h, HB6.out.trans (((Only.set w6 g 3 _).trans (Only.set _ g 4 _) (fun _ _ e => e)).below HB6.out.size (fun j e => by have := HG6.out; omega))⟩
end

section
open Go.RowKit

/-- where frames begin and end: they lie at A, below block B -/
def RdP (w : World) (B : Nat) (A : Option Addr) (l : List (Nat × Nat)) : Prop := l ≠ [] → ∃ b o, A = some ⟨b, o, none⟩ ∧ b < B ∧ ∀ j x, l[j]? = some x → w.cell? ⟨b, o + j * 2, none⟩ = some (.int .i64 (x.1 : Int)) ∧ w.cell? ⟨b, o + j * 2 + 1, none⟩ = some (.int .i64 (x.2 : Int))
theorem RdP.keep {w w' : World} {B : Nat} {A : Option Addr} {l : List (Nat × Nat)} (h : RdP w B A l) (hk : ∀ k, k < B → w'.heap[k]? = w.heap[k]?) : RdP w' B A l := fun hn => by
  obtain ⟨b, o, e, hb, hc⟩ := h hn
  have hcell : ∀ j, w'.cell? ⟨b, j, none⟩ = w.cell? ⟨b, j, none⟩ := fun j => World.cell?_of_block (hk b hb)
  exact ⟨b, o, e, hb, fun j c hj => by rw [hcell, hcell]; exact hc j c hj⟩
theorem RdP.below {w w' : World} {B C : Nat} {A : Option Addr} {l : List (Nat × Nat)} (h : RdP w B A l) (hb : Below C w w') (hC : B ≤ C) : RdP w' B A l := h.keep fun k hk => hb.block k (by omega)
theorem RdP.heap {w w' : World} {B : Nat} {A : Option Addr} {l : List (Nat × Nat)} (h : RdP w B A l) (e : w'.heap = w.heap) : RdP w' B A l := h.keep fun k _ => by rw [e]
theorem RdP.nil (w : World) (B : Nat) (A : Option Addr) : RdP w B A [] := fun h => absurd rfl h
theorem RdP.more {w : World} {B C : Nat} {A : Option Addr} {l : List (Nat × Nat)} (h : RdP w B A l) (hC : B ≤ C) : RdP w C A l := fun hn => by
  obtain ⟨b, o, e, hb, hc⟩ := h hn
  exact ⟨b, o, e, by omega, hc⟩
theorem RdP.at_ {w w' : World} {B C k : Nat} {A : Option Addr} {l : List (Nat × Nat)} {x : Nat × Nat} (h : RdP w B A l) (hx : l[k]? = some x) (hb : Below C w w') (hC : B ≤ C) : ∃ b o, A = some ⟨b, o, none⟩ ∧ w'.cell? ⟨b, o + k * 2, none⟩ = some (.int .i64 (x.1 : Int)) ∧ w'.cell? ⟨b, o + k * 2 + 1, none⟩ = some (.int .i64 (x.2 : Int)) := by
  obtain ⟨b, o, e, _, hc⟩ := (h.below hb hC) (fun e => by subst e; simp at hx)
  obtain ⟨c0, c1⟩ := hc k x hx
  exact ⟨b, o, e, c0, c1⟩
/-- which number comes first -/
def cmpZ (a b : Int) : Int := if a < b then -1 else if b < a then 1 else 0
set_option maxRecDepth 100000 in
theorem isNaN_any (a : Int) (w : World) : Calls Try.prog 100 #[.int .i64 a] w (Looks (.bool false) w) := by
  go_enter Try.func100, Try.ntmps100
  go_wp2_with fail
  go_ret
  exact ⟨by simp, rfl⟩
set_option maxRecDepth 100000 in
theorem compareZ_any (a b : Int) (w : World) : Calls Try.prog 77 #[.int .i64 a, .int .i64 b] w (Looks (.int .i64 (cmpZ a b)) w) := by
  unfold cmpZ
  go_enter Try.func77, Try.ntmps77
  go_wp2_with (go_at_call 100; refine (isNaN_any _ _).mono ?_; rintro e w2 ⟨rfl, rfl⟩)
  all_goals
    go_ret
    exact ⟨by simp [*] <;> omega, rfl⟩
set_option maxRecDepth 100000 in
theorem find1_any (x y n : Int) (w : World) : Calls Try.prog 76 #[.agg #[.int .i64 x, .int .i64 y], .int .i64 n] w (Ans (.int .i64 (cmpZ x n)) w) := by
  have HB := Lib.hid (alloc_below w (.cells #[.int .i64 x, .int .i64 y] 100))
  go_enter Try.func76, Try.ntmps76
  go_wp2_with (go_at_call 77; refine (compareZ_any _ _ _).mono ?_; rintro e w2 ⟨rfl, rfl⟩)
  go_ret
  exact ⟨rfl, HB.out⟩
/-- is the one at m the one that is sought? -/
def foundAt (ps : List (Nat × Nat)) (m : Nat) (n : Int) : Bool := match ps[m]? with
  | some x => decide ((x.1 : Int) = n)
  | none => false
/-- the first so many are below the number -/
structure SplitN (ps : List (Nat × Nat)) (n : Int) (m : Nat) : Prop where
  le : m ≤ ps.length
  lo : ∀ j x, ps[j]? = some x → j < m → (x.1 : Int) < n
  hi : ∀ j x, ps[j]? = some x → m ≤ j → n ≤ (x.1 : Int)
def BSL (w : World) (L m : Nat) (v9 v10 : Value) (wr : World) : Prop := ∃ i j : Nat, v9 = .int .i64 i ∧ v10 = .int .i64 j ∧ i ≤ m ∧ m ≤ j ∧ j ≤ L ∧ Below w.heap.size w wr
set_option maxRecDepth 100000 in
set_option maxHeartbeats 4000000 in
theorem search_any (ps : List (Nat × Nat)) (n : Int) (m : Nat) (hs : SplitN ps n m) (A : Option Addr) (cap : Nat) (w : World) (hl : ps.length ≤ 1000000) (hr : RdP w w.heap.size A ps) :
    Calls Try.prog 75 #[.slice A ps.length cap, .int .i64 n, .func (.func 76) #[] #[]] w (Ans (.tuple #[.int .i64 (m : Int), .bool (foundAt ps m n)]) w) := by
  have HR := Lib.hid hr
  have HS := Lib.hid hs
  have hli : (ps.length : Int) ≤ 1000000 := by omega
  have HL := Lib.hid hl
  have HST : Hid (BSL w ps.length m (.int .i64 0) (.int .i64 (ps.length : Int)) w) := Lib.hid ⟨0, _, rfl, rfl, Nat.zero_le _, hs.le, Nat.le_refl _, Below.refl _ _⟩
  obtain ⟨f, hf⟩ : ∃ f, Hid (f = foundAt ps m n) := ⟨_, Lib.hid rfl⟩
  rw [← hf.out]
  clear hr hs hl
  go_enter Try.func75, Try.ntmps75
  go_wp2_with fail
  go_loopw [9, 10] (fun v9 v10 wr => BSL w ps.length m v9 v10 wr) (fun v9 v10 _ => (intOf v10).toNat - (intOf v9).toNat)
  case atStart => exact HST.out
  case round =>
    obtain ⟨i, j, rfl, rfl, hi, hj, hjl, hb⟩ := hrel
    have HB := Lib.hid hb
    have hii : (i : Int) ≤ 1000000 := by omega
    have hji : (j : Int) ≤ 1000000 := by omega
    clear hb
    by_cases hlt : i < j
    · have hlti : (i : Int) < j := by omega
      obtain ⟨h, hh⟩ : ∃ h, h = (i + j) / 2 := ⟨_, rfl⟩
      have hhi : ((i : Int) + (j : Int)) / 2 = (h : Int) := by omega
      have h1 : i ≤ h := by omega
      have h2 : h < j := by omega
      have h3 : (h : Int) < (ps.length : Int) := by omega
      obtain ⟨x, hx⟩ : ∃ x, ps[h]? = some x := ⟨_, List.getElem?_eq_getElem (by omega)⟩
      obtain ⟨b0, o0, hA, c0, c1⟩ := HR.out.at_ hx HB.out (Nat.le_refl _)
      subst hA
      by_cases hxn : (x.1 : Int) < n
      · have hhm : h < m := by
          rcases Nat.lt_or_ge h m with h4 | h4
          · exact h4
          · have := HS.out.hi h x hx h4; omega
        have HN : Hid (∀ v9 w2, v9 = .int .i64 ((h + 1 : Nat) : Int) → Below wr.heap.size wr w2 → BSL w ps.length m v9 (.int .i64 (j : Int)) w2) := Lib.hid fun v9 w2 h9 hb2 => ⟨h + 1, j, h9, rfl, hhm, hj, hjl, HB.out.trans (hb2.mono HB.out.size)⟩
        have HF := Lib.hid (find1_any (x.1 : Int) (x.2 : Int) n)
        have hcz : cmpZ (x.1 : Int) n = -1 := by unfold cmpZ; rw [if_pos hxn]
        rw [hcz] at HF
        clear hcz hh hx hi hj hjl hxn hhm
        go_wp2_with (go_at_call 76; refine (HF.out _).mono ?_; rintro e w2 ⟨rfl, hb2⟩; have HY := Lib.hid (fun v9 h9 => HN.out v9 _ h9 hb2); clear hb2)
        go_roundw
        case rel => first | exact HY.out _ (by go_num) | ((repeat apply Exists.intro); exact ⟨HY.out _ (by go_num), rfl⟩)
        case measure => simp [intOf]; omega
      · have hhm : m ≤ h := by
          rcases Nat.lt_or_ge h m with h4 | h4
          · have := HS.out.lo h x hx h4; omega
          · exact h4
        have HN : Hid (∀ w2, Below wr.heap.size wr w2 → BSL w ps.length m (.int .i64 (i : Int)) (.int .i64 (h : Int)) w2) := Lib.hid fun w2 hb2 => ⟨i, h, rfl, rfl, hi, hhm, by omega, HB.out.trans (hb2.mono HB.out.size)⟩
        have HF := Lib.hid (find1_any (x.1 : Int) (x.2 : Int) n)
        obtain ⟨c, hc⟩ : ∃ c, c = cmpZ (x.1 : Int) n := ⟨_, rfl⟩
        have hcz : ¬ c < 0 := by rw [hc]; unfold cmpZ; rw [if_neg hxn]; split <;> omega
        rw [← hc] at HF
        clear hc hh hx hi hj hjl hxn hhm
        go_wp2_with (go_at_call 76; refine (HF.out _).mono ?_; rintro e w2 ⟨rfl, hb2⟩; have HY := Lib.hid (HN.out _ hb2); clear hb2)
        go_roundw
        case rel => first | exact HY.out | ((repeat apply Exists.intro); exact ⟨HY.out, rfl⟩)
        case measure => simp [intOf]; omega
    · have him : i = m := by omega
      subst him
      have hlti : ¬ (i : Int) < j := by omega
      by_cases hil : i < ps.length
      · have hili : (i : Int) < (ps.length : Int) := by omega
        obtain ⟨x, hx⟩ : ∃ x, ps[i]? = some x := ⟨_, List.getElem?_eq_getElem hil⟩
        obtain ⟨b0, o0, hA, c0, c1⟩ := HR.out.at_ hx HB.out (Nat.le_refl _)
        subst hA
        have HF := Lib.hid (find1_any (x.1 : Int) (x.2 : Int) n)
        obtain ⟨c, hc⟩ : ∃ c, c = cmpZ (x.1 : Int) n := ⟨_, rfl⟩
        have hcz : Hid (f = (c == 0)) := Lib.hid (by
          have := HS.out.hi i x hx (Nat.le_refl _)
          rw [hf.out, hc]; unfold cmpZ foundAt; rw [hx, if_neg (by omega)]
          by_cases h5 : n < (x.1 : Int)
          · rw [if_pos h5]; simp; omega
          · rw [if_neg h5]; simp; omega)
        rw [← hc] at HF
        clear hc hx hi hj hjl
        go_wp2_with (go_at_call 76; refine (HF.out _).mono ?_; rintro e w2 ⟨rfl, hb2⟩; have HY := Lib.hid (HB.out.trans (hb2.mono HB.out.size)); clear hb2)
        go_ret2
        exact ⟨by rw [hcz.out]; rfl, HY.out⟩
      · have hili : ¬ (i : Int) < (ps.length : Int) := by omega
        have hcz : Hid (f = false) := Lib.hid (by rw [hf.out]; unfold foundAt; rw [List.getElem?_eq_none (by omega)])
        clear hi hj hjl
        go_wp2_with fail
        go_ret2
        exact ⟨by rw [hcz.out]; rfl, HB.out⟩
set_option maxRecDepth 100000 in
theorem find_any (ps : List (Nat × Nat)) (n : Int) (m : Nat) (hs : SplitN ps n m) (A : Option Addr) (k cap : Nat) (hk : ps.length = k) (w : World) (hl : ps.length ≤ 1000000) (hr : RdP w w.heap.size A ps) :
    Calls Try.prog 60 #[.slice A k cap, .int .i64 n] w (Ans (.tuple #[.int .i64 (m : Int), .bool (foundAt ps m n)]) w) := by
  subst hk
  have HS := Lib.hid (search_any ps n m hs A cap w hl hr)
  clear hs hl hr
  go_enter Try.func60, Try.ntmps60
  go_wp2_with (go_at_call 75; refine HS.out.mono ?_; rintro e w2 ⟨rfl, hb⟩; have HY := Lib.hid hb; clear hb)
  go_ret2
  exact ⟨rfl, HY.out⟩
end

section
open Go.RowKit

theorem heap_two (w : World) (o p : Obj) : ((w.alloc o).alloc p).heap[w.heap.size + 1]? = some p := by
  have h := heap_alloc_new (w.alloc o) p
  have e : (w.alloc o).heap.size = w.heap.size + 1 := by simp
  rw [e] at h
  exact h
theorem heap_one (w : World) (o p : Obj) : ((w.alloc o).alloc p).heap[w.heap.size]? = some o := by
  have h := (alloc_below (w.alloc o) p).block w.heap.size (by simp)
  exact h.trans (heap_alloc_new w o)
theorem box1 {w : World} {b : Nat} {x : Value} {t : TypeId} {fr : Nat × Nat} (h : w.heap[b]? = some (.cells #[x] t fr)) : w.cell? ⟨b, 0, none⟩ = some x := by simp [World.cell?, h]
set_option maxRecDepth 100000 in
theorem ending1_any {w : World} {g1 g2 b o : Nat} {L cap : Nat} {off : Int} (i x : Nat) (hi : i < L) (hL : L ≤ 1000000) (h1 : w.cell? ⟨g1, 0, none⟩ = some (.slice (some ⟨b, o, none⟩) L cap)) (h2 : w.cell? ⟨g2, 0, none⟩ = some (.int .i64 off)) (h3 : w.cell? ⟨b, o + i * 2 + 1, none⟩ = some (.int .i64 (x : Int))) :
    Calls Try.prog 99 #[.int .i64 (i : Int), .pointer (some ⟨g1, 0, none⟩), .pointer (some ⟨g2, 0, none⟩)] w (LooksN (.bool (decide (off < (x : Int)))) w) := by
  have hii : (i : Int) < (L : Int) := by omega
  have hli : (L : Int) ≤ 1000000 := by omega
  clear hi hL
  go_enter Try.func99, Try.ntmps99
  go_wp2_with fail
  go_quiet (fail)
  go_wp2_with fail
  go_ret
  exact ⟨rfl, _, rfl⟩
/-- the first so many end at the offset or ahead of it -/
structure SplitE (ps : List (Nat × Nat)) (off : Int) (m : Nat) : Prop where
  le : m ≤ ps.length
  lo : ∀ j x, ps[j]? = some x → j < m → (x.2 : Int) ≤ off
  hi : ∀ j x, ps[j]? = some x → m ≤ j → off < (x.2 : Int)
def SSL (w : World) (L m : Nat) (v5 v6 : Value) (wr : World) : Prop := ∃ i j n : Nat, v5 = .int .i64 i ∧ v6 = .int .i64 j ∧ i ≤ m ∧ m ≤ j ∧ j ≤ L ∧ wr = w.drewN n
set_option maxRecDepth 100000 in
set_option maxHeartbeats 4000000 in
theorem sortSearch_any (ps : List (Nat × Nat)) (off : Int) (m : Nat) (hs : SplitE ps off m) (A : Option Addr) (cap g1 g2 : Nat) (w : World) (hl : ps.length ≤ 1000000) (hr : RdP w w.heap.size A ps) (h1 : w.cell? ⟨g1, 0, none⟩ = some (.slice A ps.length cap)) (h2 : w.cell? ⟨g2, 0, none⟩ = some (.int .i64 off)) :
    Calls Try.prog 98 #[.int .i64 (ps.length : Int), .func (.func 99) #[] #[.pointer (some ⟨g1, 0, none⟩), .pointer (some ⟨g2, 0, none⟩)]] w (LooksN (.int .i64 (m : Int)) w) := by
  have HR := Lib.hid hr
  have HS := Lib.hid hs
  have H1 := Lib.hid h1
  have H2 := Lib.hid h2
  have hli : (ps.length : Int) ≤ 1000000 := by omega
  have HL := Lib.hid hl
  have HST : Hid (SSL w ps.length m (.int .i64 0) (.int .i64 (ps.length : Int)) w) := Lib.hid ⟨0, _, 0, rfl, rfl, Nat.zero_le _, hs.le, Nat.le_refl _, rfl⟩
  clear hr hs hl h1 h2
  go_enter Try.func98, Try.ntmps98
  go_wp2_with fail
  go_loopw [5, 6] (fun v5 v6 wr => SSL w ps.length m v5 v6 wr) (fun v5 v6 _ => (intOf v6).toNat - (intOf v5).toNat)
  case atStart => exact HST.out
  case round =>
    obtain ⟨i, j, n, rfl, rfl, hi, hj, hjl, hw⟩ := hrel
    have HW := Lib.hid hw
    have hii : (i : Int) ≤ 1000000 := by omega
    have hji : (j : Int) ≤ 1000000 := by omega
    clear hw
    by_cases hlt : i < j
    · have hlti : (i : Int) < j := by omega
      obtain ⟨h, hh⟩ : ∃ h, h = (i + j) / 2 := ⟨_, rfl⟩
      have hhi : ((i : Int) + (j : Int)) / 2 = (h : Int) := by omega
      have h1 : i ≤ h := by omega
      have h2 : h < j := by omega
      have h3 : (h : Int) < (ps.length : Int) := by omega
      obtain ⟨x, hx⟩ : ∃ x, ps[h]? = some x := ⟨_, List.getElem?_eq_getElem (by omega)⟩
      obtain ⟨b0, o0, hA, c0, c1⟩ := HR.out.at_ hx (Below.refl w.heap.size w) (Nat.le_refl _)
      have HF : Hid (Calls Try.prog 99 #[.int .i64 (h : Int), .pointer (some ⟨g1, 0, none⟩), .pointer (some ⟨g2, 0, none⟩)] wr (LooksN (.bool (decide (off < (x.2 : Int)))) wr)) := Lib.hid (by
        have e1 := H1.out
        have e2 := H2.out
        rw [hA] at e1
        rw [HW.out]
        exact ending1_any h x.2 (by omega) HL.out (w := w.drewN n) e1 e2 c1)
      by_cases hxn : off < (x.2 : Int)
      · have hhm : m ≤ h := by
          rcases Nat.lt_or_ge h m with h4 | h4
          · have := HS.out.lo h x hx h4; omega
          · exact h4
        have HN : Hid (∀ k, SSL w ps.length m (.int .i64 (i : Int)) (.int .i64 (h : Int)) (wr.drewN k)) := Lib.hid fun k => ⟨i, h, _, rfl, rfl, hi, hhm, by omega, by rw [HW.out, World.drewN_drewN]⟩
        rw [decide_eq_true hxn] at HF
        clear hh hx hi hj hjl hxn hhm c0 c1 hA
        go_wp2_with (go_at_call 99; refine HF.out.mono ?_; rintro e w2 ⟨rfl, k, hk⟩; have HY := HN.out k; rw [← hk] at HY; have HZ := Lib.hid HY; clear HY hk)
        go_roundw
        case rel => first | exact HZ.out | ((repeat apply Exists.intro); exact ⟨HZ.out, rfl⟩)
        case measure => simp [intOf]; omega
      · have hhm : h < m := by
          rcases Nat.lt_or_ge h m with h4 | h4
          · exact h4
          · have := HS.out.hi h x hx h4; omega
        have HN : Hid (∀ v5 k, v5 = .int .i64 ((h + 1 : Nat) : Int) → SSL w ps.length m v5 (.int .i64 (j : Int)) (wr.drewN k)) := Lib.hid fun v5 k h5 => ⟨h + 1, j, _, h5, rfl, hhm, hj, hjl, by rw [HW.out, World.drewN_drewN]⟩
        rw [decide_eq_false hxn] at HF
        clear hh hx hi hj hjl hxn hhm c0 c1 hA
        go_wp2_with (go_at_call 99; refine HF.out.mono ?_; rintro e w2 ⟨rfl, k, hk⟩; have HY := fun v5 => HN.out v5 k; rw [← hk] at HY; have HZ := Lib.hid HY; clear HY hk)
        go_roundw
        case rel => first | exact HZ.out _ (by go_num) | ((repeat apply Exists.intro); exact ⟨HZ.out _ (by go_num), rfl⟩)
        case measure => simp [intOf]; omega
    · have him : i = m := by omega
      subst him
      have hlti : ¬ (i : Int) < j := by omega
      clear hi hj hjl
      go_wp2_with fail
      go_ret
      exact ⟨rfl, _, HW.out⟩
set_option maxRecDepth 100000 in
set_option maxHeartbeats 1000000 in
theorem ending_any (ps : List (Nat × Nat)) (off : Int) (m : Nat) (hs : SplitE ps off m) (A : Option Addr) (k cap : Nat) (hk : ps.length = k) (w : World) (hl : ps.length ≤ 1000000) (hr : RdP w w.heap.size A ps) :
    Calls Try.prog 74 #[.slice A k cap, .int .i64 off] w (Ans (.int .i64 (m : Int)) w) := by
  subst hk
  have hmf : ∀ (fn : Fn) (first cap : Array Value) (w : World), (Instr.makeFunc fn first cap).run Try.prog w = .ok (.func fn first cap) w := fun _ _ _ _ => rfl
  have HB := Lib.hid (alloc2_below w (.cells #[.slice A ps.length cap] 94) (.cells #[.int .i64 off] 3))
  have HX1 : Hid (((w.alloc (.cells #[.slice A ps.length cap] 94)).alloc (.cells #[.int .i64 off] 3)).cell? ⟨w.heap.size, 0, none⟩ = some (.slice A ps.length cap)) := Lib.hid (box1 (heap_one w _ _))
  have HX2 : Hid (((w.alloc (.cells #[.slice A ps.length cap] 94)).alloc (.cells #[.int .i64 off] 3)).cell? ⟨w.heap.size + 1, 0, none⟩ = some (.int .i64 off)) := Lib.hid (box1 (heap_two w _ _))
  have HF := Lib.hid (sortSearch_any ps off m hs A cap w.heap.size (w.heap.size + 1) _ hl ((hr.below HB.out (Nat.le_refl _)).more HB.out.size) HX1.out HX2.out)
  clear hs hl hr
  go_enter Try.func74, Try.ntmps74
  go_wp2_with (go_at_call 98; refine HF.out.mono ?_; rintro e w2 ⟨rfl, k, hk⟩; have HY : Hid (Below w.heap.size w w2) := Lib.hid (by rw [hk]; exact HB.out.trans ((drewN_below _ k).mono HB.out.size)); clear hk)
  go_ret
  exact ⟨rfl, HY.out⟩
end
end Go.Proofs.Ytogogekmodbdiaa

/- Package wal: first: with which frame bytes begin. -/
import Derived.Test.YtknolgcbaoppcaaJB
namespace Go.Proofs.Ytknolgcbaoppcaa
open Go.RowKit

/-- the size of the frame with which bytes begin, or 0 -/
def firstL : List UInt8 → Nat
  | m :: a :: b :: c :: d :: t => if m = 76 then (if 4096 < a.toNat * 256 + b.toNat + 1 ∨ t.length < a.toNat * 256 + b.toNat + 1 then 0 else if c.toNat * 256 + d.toNat = crcL (crcL 65535 [a, b]) (t.take (a.toNat * 256 + b.toNat + 1)) then 5 + (a.toNat * 256 + b.toNat + 1) else 0) else 0
  | _ => 0
theorem firstL_short {l : List UInt8} (h : l.length < 5) : firstL l = 0 := by
  match l, h with
  | [], _ => rfl
  | [_], _ => rfl
  | [_, _], _ => rfl
  | [_, _, _], _ => rfl
  | [_, _, _, _], _ => rfl
theorem five {l : List UInt8} (h : ¬ l.length < 5) : ∃ m a b c d t, l = m :: a :: b :: c :: d :: t := by
  match l, h with
  | m :: a :: b :: c :: d :: t, _ => exact ⟨m, a, b, c, d, t, rfl⟩
  | [], h => exact absurd (by simp) h
  | [_], h => exact absurd (by simp) h
  | [_, _], h => exact absurd (by simp) h
  | [_, _, _], h => exact absurd (by simp) h
  | [_, _, _, _], h => exact absurd (by simp) h
theorem firstL_le (l : List UInt8) : firstL l ≤ l.length := by
  by_cases h : l.length < 5
  · rw [firstL_short h]; omega
  · obtain ⟨m, a, b, c, d, t, rfl⟩ := five h
    simp only [firstL, List.length_cons]
    repeat' split
    all_goals omega
theorem firstL_six (l : List UInt8) : firstL l = 0 ∨ 6 ≤ firstL l := by
  by_cases h : l.length < 5
  · exact .inl (firstL_short h)
  · obtain ⟨m, a, b, c, d, t, rfl⟩ := five h
    simp only [firstL]
    repeat' split
    all_goals omega
theorem sumL_frame (m a b c d : UInt8) (t : List UInt8) (n : Nat) : sumL ((m :: a :: b :: c :: d :: t).take (5 + n)) = crcL (crcL 65535 [a, b]) (t.take n) := by
  rw [Nat.add_comm]
  rfl
theorem shift_add {ad : Addr} {k j : Nat} (hk : 0 < k) (hj : 0 < j) : (⟨ad.block, ad.off + k, none⟩ : Addr).add j = ad.add (k + j) := by
  unfold Addr.add
  rw [if_neg (by omega), if_neg (by omega)]
  simp [Nat.add_assoc]
theorem add_pos {ad : Addr} {k : Nat} (hk : 0 < k) : ad.add k = ⟨ad.block, ad.off + k, none⟩ := by
  unfold Addr.add
  rw [if_neg (by omega)]
set_option maxRecDepth 100000 in
set_option maxHeartbeats 4000000 in
theorem first_any (l : List UInt8) (A : Option Addr) (n cap B : Nat) (hn : l.length = n) (hc : l.length ≤ cap) (hl : l.length ≤ 1000000) (w : World) (hr : RdB w B A l) :
    Calls Try.prog 56 #[.slice A n cap] w (LooksN (.int .i64 (firstL l : Nat)) w) := by
  by_cases h5 : l.length < 5
  · rw [firstL_short h5]
    subst hn
    have h5i : (l.length : Int) < 5 := by omega
    clear hr hc hl h5
    go_enter Try.func56, Try.ntmps56
    go_wp2_with fail
    go_ret
    exact ⟨rfl, 0, rfl⟩
  · obtain ⟨m, a, b, c, d, t, rfl⟩ := five h5
    obtain ⟨ad, rfl, _, hcell⟩ := hr (by simp)
    have h0 : w.cell? ad = some (.int .u8 (m.toNat : Int)) := hcell 0 m rfl
    have hnl : n = t.length + 5 := by rw [← hn]; rfl
    obtain ⟨L, hL⟩ : ∃ L, L = m :: a :: b :: c :: d :: t := ⟨_, rfl⟩
    subst hnl
    have h5i : ¬ (t.length : Int) + 5 < 5 := by omega
    by_cases hm : m = 76
    · obtain ⟨N, hN⟩ : ∃ N, N = a.toNat * 256 + b.toNat := ⟨_, rfl⟩
      have hN2 : N ≤ 65535 := by have := byte_lt a; have := byte_lt b; omega
      have hP1 := Lib.hid (fun cap' => pair_any a b ⟨ad.block, ad.off + 1, none⟩ cap' w (by have := hcell 1 a rfl; rwa [add_pos (by omega)] at this) (by have := hcell 2 b rfl; rwa [add_pos (by omega)] at this))
      rw [← hN] at hP1
      have h76 : (76 : UInt8).toNat = 76 := rfl
      rw [hm, h76] at h0
      have hci : (t.length : Int) + 5 ≤ cap := by rw [List.length_cons, List.length_cons, List.length_cons, List.length_cons, List.length_cons] at hc; omega
      by_cases hbig : 4096 < N + 1 ∨ t.length < N + 1
      · have hF : firstL (m :: a :: b :: c :: d :: t) = 0 := by simp only [firstL]; rw [if_pos hm, ← hN, if_pos hbig]
        rw [hF]
        clear hcell hm hr hc hl hn hL hF hN h5
        by_cases hbig1 : (4096 : Int) < N + 1
        · clear hbig
          go_enter Try.func56, Try.ntmps56
          go_wp2_with (go_at_call 72; refine (hP1.out _).mono ?_; rintro e w2 ⟨rfl, k, rfl⟩)
          go_ret
          exact ⟨rfl, _, rfl⟩
        · have hb2 : (t.length : Int) < N + 1 := by omega
          clear hbig
          go_enter Try.func56, Try.ntmps56
          go_wp2_with (go_at_call 72; refine (hP1.out _).mono ?_; rintro e w2 ⟨rfl, k, rfl⟩)
          go_ret
          exact ⟨rfl, _, rfl⟩
      · have hlen : (L.take (5 + (N + 1))).length = 5 + (N + 1) := by rw [List.length_take, hL]; simp only [List.length_cons]; omega
        have hrL : RdB w B (some ad) L := by rw [hL]; exact hr
        obtain ⟨M, hM⟩ : ∃ M, M = c.toNat * 256 + d.toNat := ⟨_, rfl⟩
        have hP2 : Hid (∀ W : World, W.heap = w.heap → ∀ cap', Calls Try.prog 72 #[.slice (some ⟨ad.block, ad.off + 3, none⟩) 2 cap'] W (LooksN (.int .i64 (M : Int)) W)) :=
          Lib.hid (fun W e cap' => by rw [hM]; exact pair_any c d ⟨ad.block, ad.off + 3, none⟩ cap' W (by have := hcell 3 c rfl; rw [add_pos (by omega)] at this; rw [← this]; exact World.cell?_of_block (by rw [e])) (by have := hcell 4 d rfl; rw [add_pos (by omega)] at this; rw [← this]; exact World.cell?_of_block (by rw [e])))
        obtain ⟨S, hS⟩ : ∃ S, S = sumL (L.take (5 + (N + 1))) := ⟨_, rfl⟩
        have hS2 : S = crcL (crcL 65535 [a, b]) (t.take (N + 1)) := by rw [hS, hL, sumL_frame]
        have hS3 : S < 65536 := by rw [hS2]; exact crcL_lt _ (crcL_lt _ (by omega))
        have hCS : Hid (∀ W : World, W.heap = w.heap → ∀ n cap', (L.take (5 + (N + 1))).length = n → (L.take (5 + (N + 1))).length ≤ cap' → Calls Try.prog 73 #[.slice (some ad) n cap'] W (LooksN (.int .u16 (S : Int)) W)) :=
          Lib.hid (fun W e n cap' hn hc => by rw [hS]; exact checksum_any (L.take (5 + (N + 1))) ad n cap' B hn (by omega) hc (by omega) W ((hrL.take (5 + (N + 1))).heap e))
        have hLEN := Lib.hid hlen
        have hCAP : Hid ((L.take (5 + (N + 1))).length ≤ cap) := Lib.hid (by rw [hlen]; omega)
        have hF : firstL (m :: a :: b :: c :: d :: t) = if M = S then 5 + (N + 1) else 0 := by simp only [firstL]; rw [if_pos hm, ← hN, if_neg hbig, ← hS2, ← hM]
        rw [hF]
        have hsz1 : ¬ (4096 : Int) < N + 1 := by omega
        have hc3 : ¬ cap = 3 := by omega
        have hc33 : ¬ cap - 3 = 0 := by omega
        have hc5 : (5 : Int) ≤ cap := by omega
        have hsz2 : ¬ (t.length : Int) < N + 1 := by omega
        have hM2 : M ≤ 65535 := by have := byte_lt c; have := byte_lt d; omega
        have hS4 : S ≤ 65535 := by omega
        clear hcell hm hr hc hl hn hF hN h5 hS hS2 hM hrL hL hlen hbig hS3
        by_cases hMS : M = S
        · rw [if_pos hMS]
          subst hMS
          go_enter Try.func56, Try.ntmps56
          go_wp2_with (go_at_call 72; refine (hP1.out _).mono ?_; rintro e w2 ⟨rfl, k, hk⟩; have HW2 : Hid (w2.heap = w.heap) := Lib.hid (by rw [hk]; rfl); have HD2 : Hid (∀ m, ∃ j, w2.drewN m = w.drewN j) := Lib.hid (fun m => ⟨k + m, by rw [hk, World.drewN_drewN]⟩); clear hk)
          go_quiet (first | (go_at_call 72; refine Calls.quiet_of (hP2.out _ (by exact HW2.out) _)) | (go_at_call 73; refine Calls.quiet_of (hCS.out _ (by exact HW2.out) _ _ hLEN.out hCAP.out)))
          go_wp2_with fail
          go_ret
          exact ⟨by simp, HD2.out _⟩
        · rw [if_neg hMS]
          have hMSi : ¬ (M : Int) = S := by omega
          clear hMS
          go_enter Try.func56, Try.ntmps56
          go_wp2_with (go_at_call 72; refine (hP1.out _).mono ?_; rintro e w2 ⟨rfl, k, hk⟩; have HW2 : Hid (w2.heap = w.heap) := Lib.hid (by rw [hk]; rfl); have HD2 : Hid (∀ m, ∃ j, w2.drewN m = w.drewN j) := Lib.hid (fun m => ⟨k + m, by rw [hk, World.drewN_drewN]⟩); clear hk)
          go_quiet (first | (go_at_call 72; refine Calls.quiet_of (hP2.out _ (by exact HW2.out) _)) | (go_at_call 73; refine Calls.quiet_of (hCS.out _ (by exact HW2.out) _ _ hLEN.out hCAP.out)))
          go_wp2_with fail
          go_ret
          exact ⟨rfl, HD2.out _⟩
    · have hF : firstL (m :: a :: b :: c :: d :: t) = 0 := by simp only [firstL]; rw [if_neg hm]
      rw [hF]
      have hmi : ¬ (m.toNat : Int) = 76 := fun e => hm (UInt8.toNat_inj.1 (by show m.toNat = 76; omega))
      clear hcell hm hr hc hl hn hL hF h5
      go_enter Try.func56, Try.ntmps56
      go_wp2_with fail
      go_ret
      exact ⟨rfl, 0, rfl⟩
end Go.Proofs.Ytknolgcbaoppcaa

/- Package wal: follow, Check, checksum, pair, over readable bytes. -/
import Derived.Test.YtknolgcbaoppcaaDI
import Derived.Test.YtknolgcbaoppcaaJA
namespace Go.Proofs.Ytknolgcbaoppcaa
open Go.RowKit

theorem xor16 {a b : Nat} (ha : a < 65536) (hb : b < 65536) (x y : Int) (hx : x = (a : Int)) (hy : y = (b : Int)) : bits .xor .u16 x y = ((a ^^^ b : Nat) : Int) := by
  subst hx hy
  have h1 : (BitVec.ofInt 16 (a : Int)).toNat = a := by rw [BitVec.toNat_ofInt]; simp; omega
  have h2 : (BitVec.ofInt 16 (b : Int)).toNat = b := by rw [BitVec.toNat_ofInt]; simp; omega
  show IntKind.u16.wrap (((BitVec.ofInt 16 (a : Int)) ^^^ (BitVec.ofInt 16 (b : Int))).toNat : Int) = _
  rw [BitVec.toNat_xor, h1, h2, IntKind.wrap_u16]
  have := xor16_lt ha hb
  omega
theorem RdB.get {w : World} {B k : Nat} {A : Option Addr} {l : List UInt8} {c : UInt8} (h : RdB w B A l) (hk : l[k]? = some c) : ∃ ad, A = some ad ∧ w.cell? (ad.add k) = some (.int .u8 (c.toNat : Int)) := by
  obtain ⟨ad, e, _, hc⟩ := h (fun e => by subst e; simp at hk)
  exact ⟨ad, e, hc k c hk⟩
theorem step16 {x : Nat} (hx : x < 65536) : bits .xor .u16 (IntKind.u16.wrap ((x : Int) * 2)) (IntKind.u16.wrap ((x : Int) / 32768 * 4129)) = ((crc1 x : Nat) : Int) :=
  xor16 (Nat.mod_lt _ (by omega)) (by omega) _ _ (by rw [IntKind.wrap_u16]; omega) (by rw [IntKind.wrap_u16]; omega)
theorem mix16 {x : Nat} (hx : x < 65536) (c : UInt8) : bits .xor .u16 (x : Int) (IntKind.u16.wrap (IntKind.u16.wrap (c.toNat : Int) * 256)) = ((x ^^^ c.toNat * 256 : Nat) : Int) :=
  xor16 hx (b := c.toNat * 256) (by have := byte_lt c; omega) _ _ rfl (by have := byte_lt c; rw [IntKind.wrap_u16, IntKind.wrap_u16]; omega)
theorem crcL_step {s k : Nat} {l : List UInt8} {c : UInt8} (hc : l[k]? = some c) : crcL s (l.take (k + 1)) = crcN 8 (crcL s (l.take k) ^^^ c.toNat * 256) := by
  have h := List.getElem?_eq_some_iff.1 hc
  rw [List.take_succ_eq_append_getElem h.1, h.2, crcL_snoc]
  rfl
set_option maxRecDepth 100000 in
set_option maxHeartbeats 2000000 in
theorem follow_any (s : Nat) (hs : s < 65536) (l : List UInt8) (A : Option Addr) (n cap B : Nat) (hn : l.length = n) (hl : l.length ≤ 1000000) (w : World) (hr : RdB w B A l) :
    Calls Try.prog 96 #[.int .u16 (s : Int), .slice A n cap] w (Looks (.int .u16 (crcL s l : Nat)) w) := by
  subst hn
  have HR := Lib.hid hr
  have HS := Lib.hid hs
  have hli : (l.length : Int) ≤ 1000000 := by omega
  clear hr hs hl
  go_enter Try.func96, Try.ntmps96
  go_wp2_with fail
  go_loop [0, 9] (fun v0 v9 => ∃ k : Nat, k ≤ l.length ∧ v9 = .int .i64 k ∧ v0 = .int .u16 (crcL s (l.take k) : Nat)) (fun _ v9 => l.length - (intOf v9).toNat)
  case atStart => exact ⟨0, Nat.zero_le _, rfl, rfl⟩
  case round =>
    obtain ⟨k, hk, rfl, rfl⟩ := hrel
    by_cases hlt : k < l.length
    · have hki : (k : Int) < (l.length : Int) := by omega
      obtain ⟨c, hc⟩ : ∃ c, l[k]? = some c := ⟨_, List.getElem?_eq_getElem hlt⟩
      obtain ⟨ad, hA, hcell⟩ := HR.out.get hc
      subst hA
      have HX := Lib.hid (mix16 (crcL_lt (l.take k) HS.out) c)
      have HXL := Lib.hid (xor16_lt (crcL_lt (l.take k) HS.out) (b := c.toNat * 256) (by have := byte_lt c; omega))
      have HST := Lib.hid (crcL_step (s := s) hc)
      clear hc
      go_wp2_with fail
      rw [HX.out]
      go_loop [0, 18] (fun v0 v18 => ∃ j : Nat, j ≤ 8 ∧ v18 = .int .i64 j ∧ v0 = .int .u16 (crcN j (crcL s (l.take k) ^^^ c.toNat * 256) : Nat)) (fun _ v18 => 8 - (intOf v18).toNat)
      case atStart => exact ⟨0, by omega, rfl, rfl⟩
      case round =>
        obtain ⟨j, hj, rfl, rfl⟩ := hrel
        by_cases hlt8 : j < 8
        · have hji : (j : Int) < 8 := by omega
          have HS1 := Lib.hid (step16 (crcN_lt j HXL.out))
          have HS2 := Lib.hid (crcN_snoc j (crcL s (l.take k) ^^^ c.toNat * 256))
          go_wp2_with fail
          rw [HS1.out, ← HS2.out]
          go_round
          case rel => exact ⟨j + 1, hlt8, by go_num, rfl⟩
          case measure => simp [intOf]; omega
        · have hj8 : j = 8 := by omega
          subst hj8
          rw [← HST.out]
          go_wp2_with fail
          go_round
          case rel => exact ⟨k + 1, hlt, by go_num, rfl⟩
          case measure => simp [intOf]; omega
    · have hkl : k = l.length := by omega
      subst hkl
      go_wp2_with fail
      go_ret
      exact ⟨rfl, rfl⟩
/-- a call that only looks, as a region meets it -/
theorem Looks.n {v : Value} {w w' : World} {e : Ending} (h : Looks v w e w') : LooksN v w e w' := ⟨h.1, 0, by rw [World.drewN_zero]; exact h.2.symm⟩
set_option maxRecDepth 100000 in
theorem check_any (l : List UInt8) (A : Option Addr) (n cap B : Nat) (hn : l.length = n) (hl : l.length ≤ 1000000) (w : World) (hr : RdB w B A l) :
    Calls Try.prog 97 #[.slice A n cap] w (Looks (.int .u16 (crcL 65535 l : Nat)) w) := by
  have HF := Lib.hid (follow_any 65535 (by omega) l A n cap B hn hl w hr)
  clear hr hn hl
  go_enter Try.func97, Try.ntmps97
  go_wp2_with (go_at_call 96; refine HF.out.mono ?_; rintro e w2 ⟨rfl, rfl⟩)
  go_ret
  exact ⟨rfl, rfl⟩
theorem or_pair {a b : Nat} (ha : a < 256) (hb : b < 256) : bits .or .i64 ((a : Int) * 256) (b : Int) = ((a * 256 + b : Nat) : Int) := by
  have h0 : (a : Int) * 256 = ((a * 256 : Nat) : Int) := by omega
  rw [h0]
  have h1 : (BitVec.ofInt 64 ((a * 256 : Nat) : Int)).toNat = a * 256 := by rw [BitVec.toNat_ofInt]; simp; omega
  have h2 : (BitVec.ofInt 64 (b : Int)).toNat = b := by rw [BitVec.toNat_ofInt]; simp; omega
  show IntKind.i64.wrap (((BitVec.ofInt 64 ((a * 256 : Nat) : Int)) ||| (BitVec.ofInt 64 (b : Int))).toNat : Int) = _
  rw [BitVec.toNat_or, h1, h2, show a * 256 = 2 ^ 8 * a by omega, ← Nat.two_pow_add_eq_or_of_lt (show b < 2 ^ 8 by omega), IntKind.wrap_i64]
  omega
set_option maxRecDepth 100000 in
theorem pair_any (a b : UInt8) (ad : Addr) (cap : Nat) (w : World) (h0 : w.cell? ad = some (.int .u8 (a.toNat : Int))) (h1 : w.cell? ⟨ad.block, ad.off + 1, none⟩ = some (.int .u8 (b.toNat : Int))) :
    Calls Try.prog 72 #[.slice (some ad) 2 cap] w (LooksN (.int .i64 ((a.toNat * 256 + b.toNat : Nat) : Int)) w) := by
  have HO := Lib.hid (or_pair (byte_lt a) (byte_lt b))
  have hai : (a.toNat : Int) ≤ 255 := by have := byte_lt a; omega
  have hbi : (b.toNat : Int) ≤ 255 := by have := byte_lt b; omega
  go_enter Try.func72, Try.ntmps72
  go_wp2_with fail
  go_quiet (fail)
  go_wp2_with fail
  rw [HO.out]
  go_ret
  exact ⟨rfl, _, rfl⟩
theorem RdB.shift {w : World} {B : Nat} {ad : Addr} {l : List UInt8} (h : RdB w B (some ad) l) {k : Nat} (hk : 0 < k) : RdB w B (some ⟨ad.block, ad.off + k, none⟩) (l.drop k) := by
  have h1 := h.drop (k := k) (cap := l.length + k + 1) (by omega)
  rw [if_neg (by omega)] at h1
  have e : ad.add k = ⟨ad.block, ad.off + k, none⟩ := by unfold Addr.add; rw [if_neg (by omega)]
  rw [← e]
  exact h1
/-- the checksum of a frame's bytes -/
def sumL (l : List UInt8) : Nat := crcL (crcL 65535 ((l.drop 1).take 2)) (l.drop 5)
set_option maxRecDepth 100000 in
set_option maxHeartbeats 2000000 in
theorem checksum_any (l : List UInt8) (ad : Addr) (n cap B : Nat) (hn : l.length = n) (h5 : 5 < l.length) (hc : l.length ≤ cap) (hl : l.length ≤ 1000000) (w : World) (hr : RdB w B (some ad) l) :
    Calls Try.prog 73 #[.slice (some ad) n cap] w (LooksN (.int .u16 (sumL l : Nat)) w) := by
  subst hn
  obtain ⟨S, hS⟩ : ∃ S, S = crcL 65535 ((l.drop 1).take 2) := ⟨_, rfl⟩
  obtain ⟨T, hT⟩ : ∃ T, T = sumL l := ⟨_, rfl⟩
  have hT2 : T = crcL S (l.drop 5) := by rw [hT, hS]; rfl
  have hS2 : S < 65536 := by rw [hS]; exact crcL_lt _ (by omega)
  rw [← hT]
  have HC : Hid (∀ k cap', Calls Try.prog 97 #[.slice (some ⟨ad.block, ad.off + 1, none⟩) 2 cap'] (w.drewN k) (LooksN (.int .u16 (S : Int)) (w.drewN k))) :=
    Lib.hid (fun k cap' => by rw [hS]; exact (check_any ((l.drop 1).take 2) (some ⟨ad.block, ad.off + 1, none⟩) 2 cap' B (by rw [List.length_take, List.length_drop]; omega) (by rw [List.length_take]; omega) (w.drewN k) (((hr.shift (k := 1) (by omega)).take 2).heap rfl)).mono fun _ _ h => h.n)
  have HF : Hid (∀ k n cap', (l.drop 5).length = n → Calls Try.prog 96 #[.int .u16 (S : Int), .slice (some ⟨ad.block, ad.off + 5, none⟩) n cap'] (w.drewN k) (LooksN (.int .u16 (T : Int)) (w.drewN k))) :=
    Lib.hid (fun k n cap' hn => by rw [hT2]; exact (follow_any S hS2 (l.drop 5) (some ⟨ad.block, ad.off + 5, none⟩) n cap' B hn (by rw [List.length_drop]; omega) (w.drewN k) ((hr.shift (k := 5) (by omega)).heap rfl)).mono fun _ _ h => h.n)
  have HL := Lib.hid (show (l.drop 5).length = l.length - 5 from List.length_drop)
  have h5i : 5 < (l.length : Int) := by omega
  have hci : (l.length : Int) ≤ cap := by omega
  have hne : ¬ cap = 5 := by omega
  have hne2 : ¬ cap - 5 = 0 := by omega
  clear hr hl h5 hc hS hT hT2 hS2
  go_enter Try.func73, Try.ntmps73
  go_wp2_with fail
  go_quiet (first | (go_at_call 97; refine Calls.quiet_of (HC.out _ _)) | (go_at_call 96; refine Calls.quiet_of (HF.out _ _ _ HL.out)))
  go_wp2_with fail
  go_ret
  exact ⟨rfl, _, rfl⟩
end Go.Proofs.Ytknolgcbaoppcaa

/- internal/strconv.ParseUint at base 16 of two bytes. -/
import Derived.Test.YtokkbipdkakenaaGreatDoorB
import Derived.Test.YtokkbipdkakenaaGreatDoorFW
namespace Go.Proofs.YtokkbipdkakenaaGreatDoor
open Go.RowKit

def synE : Value := .iface 144 (.int .i64 2)
/-- what ParseUint answers inside -/
def PU (o : Option Nat) (w : World) : Ending → World → Prop := fun e w' => Below w.heap.size w w' ∧ match o with
  | some n => e = .returned (.tuple #[.int .u64 (n : Int), .nilIface])
  | none => e = .returned (.tuple #[.int .u64 0, synE])
theorem PU.some {n : Nat} {w w' : World} (hb : Below w.heap.size w w') : PU (some n) w (.returned (.tuple #[.int .u64 (n : Int), .nilIface])) w' := ⟨hb, rfl⟩
theorem PU.none {w w' : World} (hb : Below w.heap.size w w') : PU none w (.returned (.tuple #[.int .u64 0, synE])) w' := ⟨hb, rfl⟩
/-- what a byte may be that is no figure to the base 10 -/
theorem classes (c : Nat) (h : c < 256) (hD : ¬ (48 ≤ c ∧ c ≤ 57)) : (c < 48 ∧ c ≠ 95 ∧ low c < 97) ∨ (57 < c ∧ c ≠ 95 ∧ low c < 97) ∨ (57 < c ∧ c ≠ 95 ∧ 97 ≤ low c ∧ low c ≤ 102) ∨ (57 < c ∧ c ≠ 95 ∧ 103 ≤ low c ∧ low c ≤ 122) ∨ (57 < c ∧ c ≠ 95 ∧ 122 < low c) ∨ (57 < c ∧ c = 95 ∧ 122 < low c) := by
  have : ∀ c : Fin 256, ¬ (48 ≤ c.val ∧ c.val ≤ 57) → (c.val < 48 ∧ c.val ≠ 95 ∧ low c.val < 97) ∨ (57 < c.val ∧ c.val ≠ 95 ∧ low c.val < 97) ∨ (57 < c.val ∧ c.val ≠ 95 ∧ 97 ≤ low c.val ∧ low c.val ≤ 102) ∨ (57 < c.val ∧ c.val ≠ 95 ∧ 103 ≤ low c.val ∧ low c.val ≤ 122) ∨ (57 < c.val ∧ c.val ≠ 95 ∧ 122 < low c.val) ∨ (57 < c.val ∧ c.val = 95 ∧ 122 < low c.val) := by decide +kernel
  exact this ⟨c, h⟩ hD
def HX (a b : UInt8) (v12 v13 v101 : Value) : Prop := ∃ k n : Nat, v12 = .bool false ∧ v13 = .int .u64 n ∧ v101 = .int .i64 k ∧ ((k = 0 ∧ n = 0) ∨ (k = 1 ∧ hexv a = some n) ∨ (k = 2 ∧ hexN [a, b] = some n))
set_option maxRecDepth 100000 in
set_option maxHeartbeats 8000000 in
theorem parse16 (a b : UInt8) (w : World) : Calls Tryz.prog 76 #[.string ⟨#[a, b]⟩, .int .i64 16, .int .i64 8] w (PU (hexN [a, b]) w) := by
  obtain ⟨W2, cap2, hcv, hcells, hb2, hcap2, C, fr, hC, hfr⟩ := conv_bytes ⟨#[a, b]⟩ w
  have hca : W2.cell? ⟨w.heap.size, 0, none⟩ = some (.int .u8 (a.toNat : Int)) := hcells 0 a rfl
  have hcb : W2.cell? ⟨w.heap.size, 1, none⟩ = some (.int .u8 (b.toNat : Int)) := hcells 1 b rfl
  have HB := Lib.hid hb2
  clear hcells hb2 hC hfr
  go_enter Tryz.func76, Tryz.ntmps76
  go_wp2_with fail
  go_loop [12, 13, 101] (fun v12 v13 v101 => HX a b v12 v13 v101) (fun _ _ v101 => 2 - (intOf v101).toNat)
  case atStart => exact ⟨0, 0, rfl, rfl, rfl, .inl ⟨rfl, rfl⟩⟩
  case round =>
    obtain ⟨k, n, rfl, rfl, rfl, hk⟩ := hrel
    rcases hk with ⟨rfl, rfl⟩ | ⟨rfl, hn⟩ | ⟨rfl, hn⟩
    · skip
      have hc256 := a.toNat_lt
      by_cases hD : 48 ≤ a.toNat ∧ a.toNat ≤ 57
      · obtain ⟨d, hd⟩ : ∃ d, a.toNat = 48 + d := ⟨a.toNat - 48, by omega⟩
        have hv : hexv a = some d := by unfold hexv; rw [if_pos hD]; simp; omega
        have HV := Lib.hid hv
        have e1 : W2.cell? ⟨w.heap.size, 0, none⟩ = some (.int .u8 (48 + (d : Int))) := by rw [hca, hd]; simp
        have d0 : (0 : Int) ≤ (d : Int) := by omega
        have d9 : (d : Int) ≤ 9 := by omega
        have t1 : (48 + (d : Int) == 95) = false := by simp; omega
        have t2 : 48 + (d : Int) ≤ 57 := by omega
        clear hD hd hv hca hcb hc256
        go_wp2_with fail
        go_round
        case rel =>
          refine ⟨1, _, rfl, ?_, rfl, .inr (.inl ⟨rfl, HV.out⟩)⟩
          congr 1; omega
        case measure => simp [intOf]
      · have hcls := classes _ (by omega) hD
        obtain ⟨l, hl⟩ : ∃ l, l = low a.toNat := ⟨_, rfl⟩
        rw [← hl] at hcls
        have HLow : Hid (∀ w, Calls Tryz.prog 93 #[.int .u8 (a.toNat : Int)] w fun e w' => e = .returned (.int .u8 (l : Int)) ∧ w = w') := Lib.hid fun w => by
          have := Tryz.internal_strconv_lower (a.toNat : Int) w
          rw [or32 _ (by omega), ← hl] at this
          exact this.mono fun _ _ ⟨h1, h2⟩ => ⟨h1, h2.symm⟩
        have HNO : Hid (¬ (97 ≤ l ∧ l ≤ 102) → hexv a = none) := Lib.hid fun h => by unfold hexv; rw [if_neg hD, ← hl, if_neg h]
        have HYES : Hid (97 ≤ l ∧ l ≤ 102 → hexv a = some (l - 87)) := Lib.hid fun h => by unfold hexv; rw [if_neg hD, ← hl, if_pos h]
        have l0 : (0 : Int) ≤ (l : Int) := by omega
        have c0 : (0 : Int) ≤ (a.toNat : Int) := by omega
        clear hl hD
        by_cases hL : 97 ≤ l ∧ l ≤ 102
        · obtain ⟨d, rfl⟩ : ∃ d, l = 87 + d := ⟨l - 87, by omega⟩
          have hv := HYES.out hL
          have hv2 : hexv a = some d := by rw [hv]; simp
          have HV := Lib.hid hv2
          have d1 : (10 : Int) ≤ (d : Int) := by omega
          have d2 : (d : Int) ≤ 15 := by omega
          have t1 : (97 : Int) ≤ 87 + (d : Int) := by omega
          have t2 : 87 + (d : Int) ≤ 122 := by omega
          have t3 : (57 : Int) < (a.toNat : Int) := by omega
          have t4 : ((a.toNat : Int) == 95) = false := by simp; omega
          clear hL hv hv2 HYES HNO l0 hcls hc256
          go_wp2_with (go_at_call 93; refine (HLow.out _).mono ?_; rintro e w' ⟨rfl, rfl⟩)
          go_round
          case rel =>
            refine ⟨1, _, rfl, ?_, rfl, .inr (.inl ⟨rfl, HV.out⟩)⟩
            congr 1; omega
          case measure => simp [intOf]
        · have hno := HNO.out hL
          have HE : Hid (∀ w', Below w.heap.size w w' → PU (hexN [a, b]) w (.returned (.tuple #[.int .u64 0, synE])) w') := Lib.hid fun w' hb => by
            have e : hexN [a, b] = none := by simp [hexN, hno]
            rw [e]; exact PU.none hb
          clear hno HNO HYES
          have hcases : (((a.toNat : Int) < 48 ∧ (l : Int) < 97) ∧ ((a.toNat : Int) == 95) = false) ∨ ((57 < (a.toNat : Int) ∧ (l : Int) < 97) ∧ ((a.toNat : Int) == 95) = false) ∨ ((57 < (a.toNat : Int) ∧ 103 ≤ (l : Int) ∧ (l : Int) ≤ 122) ∧ ((a.toNat : Int) == 95) = false) ∨
              ((57 < (a.toNat : Int) ∧ 122 < (l : Int)) ∧ ((a.toNat : Int) == 95) = false) ∨ ((57 < (a.toNat : Int) ∧ 122 < (l : Int)) ∧ ((a.toNat : Int) == 95) = true) := by
            simp only [beq_eq_false_iff_ne, beq_iff_eq]
            omega
          clear hL hcls hc256
          rcases hcases with ⟨⟨k1, k2⟩, k4⟩ | ⟨⟨k1, k2⟩, k4⟩ | ⟨⟨k1, k2, k3⟩, k4⟩ | ⟨⟨k1, k2⟩, k4⟩ | ⟨⟨k1, k2⟩, k4⟩
          all_goals
            go_wp2_with (go_at_call 93; refine (HLow.out _).mono ?_; rintro e w' ⟨rfl, rfl⟩)
            all_goals
              first
                | (go_ret2
                   exact HE.out _ HB.out)
                | (exfalso; omega)
    · have hlt := hexv_lt hn
      have HA := Lib.hid hn
      have hn16 : n = 0 ∨ n = 1 ∨ n = 2 ∨ n = 3 ∨ n = 4 ∨ n = 5 ∨ n = 6 ∨ n = 7 ∨ n = 8 ∨ n = 9 ∨ n = 10 ∨ n = 11 ∨ n = 12 ∨ n = 13 ∨ n = 14 ∨ n = 15 := by omega
      clear hn hlt
      have hc256 := b.toNat_lt
      by_cases hD : 48 ≤ b.toNat ∧ b.toNat ≤ 57
      · obtain ⟨d, hd⟩ : ∃ d, b.toNat = 48 + d := ⟨b.toNat - 48, by omega⟩
        have hv : hexv b = some d := by unfold hexv; rw [if_pos hD]; simp; omega
        have HV := Lib.hid hv
        have e1 : W2.cell? ⟨w.heap.size, 1, none⟩ = some (.int .u8 (48 + (d : Int))) := by rw [hcb, hd]; simp
        have d0 : (0 : Int) ≤ (d : Int) := by omega
        have d9 : (d : Int) ≤ 9 := by omega
        have t1 : (48 + (d : Int) == 95) = false := by simp; omega
        have t2 : 48 + (d : Int) ≤ 57 := by omega
        clear hD hd hv hca hcb hc256
        rcases hn16 with rfl | rfl | rfl | rfl | rfl | rfl | rfl | rfl | rfl | rfl | rfl | rfl | rfl | rfl | rfl | rfl
        all_goals
          go_wp2_with fail
          go_round
          case rel =>
            refine ⟨2, _, rfl, ?_, rfl, .inr (.inr ⟨rfl, by simp only [hexN, HA.out, HV.out]; rfl⟩)⟩
            congr 1; omega
          case measure => simp [intOf]
      · have hcls := classes _ (by omega) hD
        obtain ⟨l, hl⟩ : ∃ l, l = low b.toNat := ⟨_, rfl⟩
        rw [← hl] at hcls
        have HLow : Hid (∀ w, Calls Tryz.prog 93 #[.int .u8 (b.toNat : Int)] w fun e w' => e = .returned (.int .u8 (l : Int)) ∧ w = w') := Lib.hid fun w => by
          have := Tryz.internal_strconv_lower (b.toNat : Int) w
          rw [or32 _ (by omega), ← hl] at this
          exact this.mono fun _ _ ⟨h1, h2⟩ => ⟨h1, h2.symm⟩
        have HNO : Hid (¬ (97 ≤ l ∧ l ≤ 102) → hexv b = none) := Lib.hid fun h => by unfold hexv; rw [if_neg hD, ← hl, if_neg h]
        have HYES : Hid (97 ≤ l ∧ l ≤ 102 → hexv b = some (l - 87)) := Lib.hid fun h => by unfold hexv; rw [if_neg hD, ← hl, if_pos h]
        have l0 : (0 : Int) ≤ (l : Int) := by omega
        have c0 : (0 : Int) ≤ (b.toNat : Int) := by omega
        clear hl hD
        by_cases hL : 97 ≤ l ∧ l ≤ 102
        · obtain ⟨d, rfl⟩ : ∃ d, l = 87 + d := ⟨l - 87, by omega⟩
          have hv := HYES.out hL
          have hv2 : hexv b = some d := by rw [hv]; simp
          have HV := Lib.hid hv2
          have d1 : (10 : Int) ≤ (d : Int) := by omega
          have d2 : (d : Int) ≤ 15 := by omega
          have t1 : (97 : Int) ≤ 87 + (d : Int) := by omega
          have t2 : 87 + (d : Int) ≤ 122 := by omega
          have t3 : (57 : Int) < (b.toNat : Int) := by omega
          have t4 : ((b.toNat : Int) == 95) = false := by simp; omega
          clear hL hv hv2 HYES HNO l0 hcls hc256
          rcases hn16 with rfl | rfl | rfl | rfl | rfl | rfl | rfl | rfl | rfl | rfl | rfl | rfl | rfl | rfl | rfl | rfl
          all_goals
            go_wp2_with (go_at_call 93; refine (HLow.out _).mono ?_; rintro e w' ⟨rfl, rfl⟩)
            go_round
            case rel =>
              refine ⟨2, _, rfl, ?_, rfl, .inr (.inr ⟨rfl, by simp only [hexN, HA.out, HV.out]; rfl⟩)⟩
              congr 1; omega
            case measure => simp [intOf]
        · have hno := HNO.out hL
          have HE : Hid (∀ w', Below w.heap.size w w' → PU (hexN [a, b]) w (.returned (.tuple #[.int .u64 0, synE])) w') := Lib.hid fun w' hb => by
            have e : hexN [a, b] = none := by simp [hexN, hno]
            rw [e]; exact PU.none hb
          clear hno HNO HYES
          have hcases : (((b.toNat : Int) < 48 ∧ (l : Int) < 97) ∧ ((b.toNat : Int) == 95) = false) ∨ ((57 < (b.toNat : Int) ∧ (l : Int) < 97) ∧ ((b.toNat : Int) == 95) = false) ∨ ((57 < (b.toNat : Int) ∧ 103 ≤ (l : Int) ∧ (l : Int) ≤ 122) ∧ ((b.toNat : Int) == 95) = false) ∨
              ((57 < (b.toNat : Int) ∧ 122 < (l : Int)) ∧ ((b.toNat : Int) == 95) = false) ∨ ((57 < (b.toNat : Int) ∧ 122 < (l : Int)) ∧ ((b.toNat : Int) == 95) = true) := by
            simp only [beq_eq_false_iff_ne, beq_iff_eq]
            omega
          clear hL hcls hc256
          rcases hcases with ⟨⟨k1, k2⟩, k4⟩ | ⟨⟨k1, k2⟩, k4⟩ | ⟨⟨k1, k2, k3⟩, k4⟩ | ⟨⟨k1, k2⟩, k4⟩ | ⟨⟨k1, k2⟩, k4⟩
          all_goals
            go_wp2_with (go_at_call 93; refine (HLow.out _).mono ?_; rintro e w' ⟨rfl, rfl⟩)
            all_goals
              first
                | (go_ret2
                   exact HE.out _ HB.out)
                | (exfalso; omega)
    · have HE : Hid (PU (hexN [a, b]) w (.returned (.tuple #[.int .u64 (n : Int), .nilIface])) W2) := Lib.hid (by rw [hn]; exact PU.some HB.out)
      clear hn
      go_wp2_with fail
      go_ret2
      exact HE.out
end Go.Proofs.YtokkbipdkakenaaGreatDoor

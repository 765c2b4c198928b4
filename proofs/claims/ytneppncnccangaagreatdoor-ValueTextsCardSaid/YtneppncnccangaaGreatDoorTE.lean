/- The document's hex and figures. -/
import Derived.Test.YtneppncnccangaaGreatDoorTD
namespace Go.Proofs.YtneppncnccangaaGreatDoor
open Go.RowKit

theorem hexd_inj {a b : Nat} (ha : a < 16) (hb : b < 16) (h : hexd a = hexd b) : a = b := by
  have : ∀ a b : Fin 16, hexd a.val = hexd b.val → a = b := by decide +kernel
  exact congrArg Fin.val (this ⟨a, ha⟩ ⟨b, hb⟩ h)
def HexT (c : UInt8) (e : Ending) : Prop := ∃ r : Int, e = .returned (.int .i64 r) ∧ -1 ≤ r ∧ r ≤ 15 ∧ ∀ d, d < 16 → c = hexd d → r = (d : Int)
def HXL (c : UInt8) (v3 : Value) : Prop := ∃ k : Nat, v3 = .int .i64 (k : Int) ∧ k ≤ 16 ∧ ∀ j, j < k → c ≠ hexd j
set_option maxRecDepth 100000 in
set_option maxHeartbeats 8000000 in
theorem refHex_any (c : UInt8) (w : World) : Calls Tryz.prog 44 #[.int .u8 (c.toNat : Int)] w fun e w' => HexT c e ∧ w = w' := by
  have HS : Hid (HXL c (.int .i64 0)) := Lib.hid ⟨0, rfl, Nat.zero_le _, fun j hj => by omega⟩
  obtain ⟨x, HXC⟩ : ∃ x : Int, Hid (x = (c.toNat : Int)) := ⟨_, Lib.hid rfl⟩
  rw [← HXC.out]
  go_enter Tryz.func44, Tryz.ntmps44
  go_wp2_with fail
  go_loop [3] (fun v3 => HXL c v3) (fun v3 => 16 - (intOf v3).toNat)
  case atStart => exact HS.out
  case round =>
    obtain ⟨k, rfl, hk, hall⟩ := hrel
    have HA := Lib.hid hall
    clear hall
    by_cases hlt : k < 16
    · have hki : (k : Int) < 16 := by omega
      have hks : k < (⟨#[48, 49, 50, 51, 52, 53, 54, 55, 56, 57, 97, 98, 99, 100, 101, 102]⟩ : ByteArray).size := hlt
      have hat := hexAt k hks
      by_cases he : c = hexd k
      · have hz : ((((⟨#[48, 49, 50, 51, 52, 53, 54, 55, 56, 57, 97, 98, 99, 100, 101, 102]⟩ : ByteArray)[k]'hks).toNat : Int) == x) = true := by rw [hat, HXC.out, he]; simp
        have HY : Hid (HexT c (.returned (.int .i64 (k : Int)))) := Lib.hid ⟨k, rfl, by omega, by omega, fun d hd e => by rw [hexd_inj hlt hd (he.symm.trans e)]⟩
        clear he hat hk hlt
        go_wp2_with fail
        go_ret
        exact ⟨HY.out, rfl⟩
      · have hz : ((((⟨#[48, 49, 50, 51, 52, 53, 54, 55, 56, 57, 97, 98, 99, 100, 101, 102]⟩ : ByteArray)[k]'hks).toNat : Int) == x) = false := by
          rw [hat, HXC.out]
          exact beq_false_of_ne fun e => he (UInt8.toNat_inj.1 (by omega))
        have HN : Hid (∀ v3, v3 = .int .i64 ((k + 1 : Nat) : Int) → HXL c v3) := Lib.hid fun v3 e3 => ⟨k + 1, e3, hlt, fun j hj => by
          by_cases h : j = k
          · rw [h]; exact he
          · exact HA.out j (by omega)⟩
        clear he hat hk
        go_wp2_with fail
        go_round
        case rel => exact HN.out _ (by go_num)
        case measure => simp [intOf]; omega
    · obtain rfl : k = 16 := by omega
      have HY : Hid (HexT c (.returned (.int .i64 (-1)))) := Lib.hid ⟨-1, rfl, by omega, by omega, fun d hd e => absurd e (HA.out d hd)⟩
      clear hk hlt
      go_wp2_with fail
      go_ret
      exact ⟨HY.out, rfl⟩
/-- what figures answers: some number; the right one where a number's figures stand there -/
def FigT (s : ByteArray) (neg : Bool) (e : Ending) : Prop := ∃ (v : Int) (ok : Bool), e = .returned (.tuple #[.int .i64 v, .bool ok]) ∧ i64ok v ∧ ∀ n : Int, i64ok n → (neg = true ↔ n < 0) → s.data.toList ≠ [] → figs s.data.toList → spell 0 s.data.toList = n.natAbs → v = n ∧ ok = true
def mostN (neg : Bool) : Nat := if neg then 9223372036854775808 else 9223372036854775807
def FGL (s : ByteArray) (neg : Bool) (v6 v8 : Value) : Prop := ∃ (i u : Nat), v6 = .int .u64 (u : Int) ∧ v8 = .int .i64 (i : Int) ∧ i ≤ s.size ∧ u ≤ mostN neg ∧ (figs s.data.toList → u = spell 0 (s.data.toList.take i))
theorem spell_snoc (l : List UInt8) (c : UInt8) (a : Nat) : spell a (l ++ [c]) = spell a l * 10 + (c.toNat - 48) := by
  rw [spell_app]; rfl
theorem spell_take (l : List UInt8) (i : Nat) : spell 0 (l.take i) ≤ spell 0 l := by
  have h : spell 0 l = spell (spell 0 (l.take i)) (l.drop i) := by rw [← spell_app, List.take_append_drop]
  rw [h]
  exact spell_le _ _
theorem most_of {neg : Bool} {n : Int} (hn : i64ok n) (hneg : neg = true ↔ n < 0) : n.natAbs ≤ mostN neg := by
  unfold i64ok at hn
  unfold mostN
  cases neg with
  | true => have := hneg.1 rfl; simp; omega
  | false => have : ¬ n < 0 := fun h => by simpa using hneg.2 h
             simp; omega
set_option maxRecDepth 100000 in
set_option maxHeartbeats 8000000 in
theorem refFigures_any (s : ByteArray) (hs : s.size ≤ 1000) (neg : Bool) (w : World) : Calls Tryz.prog 45 #[.string s, .bool neg] w fun e w' => FigT s neg e ∧ w = w' := by
  have HS : Hid (FGL s neg (.int .u64 0) (.int .i64 0)) := Lib.hid ⟨0, 0, rfl, rfl, Nat.zero_le _, Nat.zero_le _, fun _ => rfl⟩
  have hsi : (s.size : Int) ≤ 1000 := by omega
  obtain ⟨mo, HMO⟩ : ∃ mo : Nat, Hid (mo = mostN neg) := ⟨_, Lib.hid rfl⟩
  have hmo : (mo = 9223372036854775808 ∧ neg = true) ∨ (mo = 9223372036854775807 ∧ neg = false) := by rw [HMO.out]; cases neg <;> simp [mostN]
  clear hs
  rcases hmo with ⟨rfl, rfl⟩ | ⟨rfl, rfl⟩
  all_goals
    go_enter Tryz.func45, Tryz.ntmps45
    go_wp2_with fail
  · go_loop [6, 8] (fun v6 v8 => FGL s true v6 v8) (fun _ v8 => s.size - (intOf v8).toNat)
    case atStart => exact HS.out
    case round =>
      obtain ⟨i, u, rfl, rfl, hi, hu, hsp⟩ := hrel
      rw [← HMO.out] at hu
      have HU := Lib.hid hu
      have HSP := Lib.hid hsp
      have hu64 : (u : Int) ≤ 9223372036854775808 := by omega
      clear hsp hu
      by_cases hlt : i < s.size
      · have hki : (i : Int) < (s.size : Int) := by omega
        have hcl : s.data.toList[i]? = some (s[i]'hlt) := by
          rw [List.getElem?_eq_getElem (by rw [list_size]; exact hlt)]
          rfl
        obtain ⟨c, HC⟩ : ∃ c, Hid (s[i]'hlt = c) := ⟨_, Lib.hid rfl⟩
        rw [HC.out] at hcl
        have HCL := Lib.hid hcl
        have HNO : Hid (∀ P : Prop, ¬ (48 ≤ c.toNat ∧ c.toNat ≤ 57) → figs s.data.toList → P) := Lib.hid fun P hc hf => absurd (hf c (List.mem_of_getElem? HCL.out)) hc
        by_cases h48 : c.toNat < 48
        · have hz : ((s[i]'hlt).toNat : Int) < 48 := by rw [HC.out]; omega
          have HY : Hid (FigT s true (.returned (.tuple #[.int .i64 0, .bool false]))) := Lib.hid ⟨0, false, rfl, by unfold i64ok; omega, fun n _ _ _ hf _ => HNO.out _ (by omega) hf⟩
          clear hcl hi
          go_wp2_with fail
          go_ret2
          exact ⟨HY.out, rfl⟩
        · have hz : ¬ ((s[i]'hlt).toNat : Int) < 48 := by rw [HC.out]; omega
          by_cases h57 : 57 < c.toNat
          · have hz2 : 57 < ((s[i]'hlt).toNat : Int) := by rw [HC.out]; omega
            have HY : Hid (FigT s true (.returned (.tuple #[.int .i64 0, .bool false]))) := Lib.hid ⟨0, false, rfl, by unfold i64ok; omega, fun n _ _ _ hf _ => HNO.out _ (by omega) hf⟩
            clear hcl hi
            go_wp2_with fail
            go_ret2
            exact ⟨HY.out, rfl⟩
          · have hz2 : ¬ 57 < ((s[i]'hlt).toNat : Int) := by rw [HC.out]; omega
            obtain ⟨d, HD⟩ : ∃ d : Nat, Hid (d = c.toNat - 48) := ⟨_, Lib.hid rfl⟩
            have hd9 : (d : Int) ≤ 9 := by rw [HD.out]; omega
            have hsub : IntKind.u8.wrap (((s[i]'hlt).toNat : Int) - 48) = (d : Int) := by rw [HC.out, HD.out, IntKind.wrap_u8]; omega
            have HSN : Hid (figs s.data.toList → spell 0 (s.data.toList.take (i + 1)) = u * 10 + d) := Lib.hid fun hf => by
              rw [List.take_add_one, HCL.out, Option.toList_some, spell_snoc, ← HSP.out hf, HD.out]
            by_cases hbig : (9223372036854775808 - d) / 10 < u
            · have hb1 : (9223372036854775808 - (d : Int)) / 10 < (u : Int) := by omega
              have HY : Hid (FigT s true (.returned (.tuple #[.int .i64 0, .bool false]))) := Lib.hid ⟨0, false, rfl, by unfold i64ok; omega, fun n hn hneg _ hf hspl => by
                have h1 := most_of hn hneg
                rw [← HMO.out, ← hspl] at h1
                have h2 := spell_take s.data.toList (i + 1)
                rw [HSN.out hf] at h2
                omega⟩
              clear hcl hi hbig
              go_wp2_with fail
              go_ret2
              exact ⟨HY.out, rfl⟩
            · have hb1 : ¬ (9223372036854775808 - (d : Int)) / 10 < (u : Int) := by omega
              have HN : Hid (∀ v6 v8, v6 = .int .u64 ((u * 10 + d : Nat) : Int) → v8 = .int .i64 ((i + 1 : Nat) : Int) → FGL s true v6 v8) := Lib.hid fun v6 v8 e6 e8 => ⟨i + 1, u * 10 + d, e6, e8, hlt, by rw [← HMO.out]; omega, fun hf => (HSN.out hf).symm⟩
              have hm1 : (u : Int) * 10 + (d : Int) ≤ 9223372036854775808 := by omega
              clear hcl hi hbig
              go_wp2_with fail
              go_round
              case rel => exact HN.out _ _ (by first | go_num | (congr 1; simp only [IntKind.wrap_u64]; omega)) (by go_num)
              case measure => simp [intOf]; omega
      · obtain rfl : i = s.size := by omega
        have hnlt : ¬ (s.size : Int) < (s.size : Int) := by omega
        have HE : Hid (figs s.data.toList → u = spell 0 s.data.toList) := Lib.hid fun hf => by have := HSP.out hf; rwa [take_all] at this
        have HPOS : Hid (s.data.toList ≠ [] → decide ((0 : Int) < (s.size : Int)) = true) := Lib.hid fun h => by
          have := List.length_pos_iff.2 h
          rw [list_size] at this
          exact decide_eq_true (by omega)
        clear hi hlt
        by_cases hu0 : 0 < u
        · have hu0i : (0 : Int) < (u : Int) := by omega
          go_wp2_with fail
          go_ret2
          refine ⟨⟨_, _, rfl, ?_, fun n hn hneg hne hf hspl => ⟨?_, ?_⟩⟩, rfl⟩
          · (try simp only [IntKind.wrap_u64, wrap64]); unfold i64ok; omega
          · have h1 := HE.out hf
            have h2 := hneg.1 rfl
            (try simp only [IntKind.wrap_u64, wrap64])
            unfold i64ok at hn
            omega
          · first | exact HPOS.out hne | (have := HPOS.out hne; simpa using this)
        · have hu0i : ¬ (0 : Int) < (u : Int) := by omega
          go_wp2_with fail
          go_ret2
          refine ⟨⟨_, _, rfl, ?_, fun n hn hneg hne hf hspl => ⟨?_, ?_⟩⟩, rfl⟩
          · (try simp only [IntKind.wrap_u64, wrap64]); unfold i64ok; omega
          · have h1 := HE.out hf
            have h2 := hneg.1 rfl
            omega
          · first | exact HPOS.out hne | (have := HPOS.out hne; simpa using this)
  · go_loop [6, 8] (fun v6 v8 => FGL s false v6 v8) (fun _ v8 => s.size - (intOf v8).toNat)
    case atStart => exact HS.out
    case round =>
      obtain ⟨i, u, rfl, rfl, hi, hu, hsp⟩ := hrel
      rw [← HMO.out] at hu
      have HU := Lib.hid hu
      have HSP := Lib.hid hsp
      have hu64 : (u : Int) ≤ 9223372036854775807 := by omega
      clear hsp hu
      by_cases hlt : i < s.size
      · have hki : (i : Int) < (s.size : Int) := by omega
        have hcl : s.data.toList[i]? = some (s[i]'hlt) := by
          rw [List.getElem?_eq_getElem (by rw [list_size]; exact hlt)]
          rfl
        obtain ⟨c, HC⟩ : ∃ c, Hid (s[i]'hlt = c) := ⟨_, Lib.hid rfl⟩
        rw [HC.out] at hcl
        have HCL := Lib.hid hcl
        have HNO : Hid (∀ P : Prop, ¬ (48 ≤ c.toNat ∧ c.toNat ≤ 57) → figs s.data.toList → P) := Lib.hid fun P hc hf => absurd (hf c (List.mem_of_getElem? HCL.out)) hc
        by_cases h48 : c.toNat < 48
        · have hz : ((s[i]'hlt).toNat : Int) < 48 := by rw [HC.out]; omega
          have HY : Hid (FigT s false (.returned (.tuple #[.int .i64 0, .bool false]))) := Lib.hid ⟨0, false, rfl, by unfold i64ok; omega, fun n _ _ _ hf _ => HNO.out _ (by omega) hf⟩
          clear hcl hi
          go_wp2_with fail
          go_ret2
          exact ⟨HY.out, rfl⟩
        · have hz : ¬ ((s[i]'hlt).toNat : Int) < 48 := by rw [HC.out]; omega
          by_cases h57 : 57 < c.toNat
          · have hz2 : 57 < ((s[i]'hlt).toNat : Int) := by rw [HC.out]; omega
            have HY : Hid (FigT s false (.returned (.tuple #[.int .i64 0, .bool false]))) := Lib.hid ⟨0, false, rfl, by unfold i64ok; omega, fun n _ _ _ hf _ => HNO.out _ (by omega) hf⟩
            clear hcl hi
            go_wp2_with fail
            go_ret2
            exact ⟨HY.out, rfl⟩
          · have hz2 : ¬ 57 < ((s[i]'hlt).toNat : Int) := by rw [HC.out]; omega
            obtain ⟨d, HD⟩ : ∃ d : Nat, Hid (d = c.toNat - 48) := ⟨_, Lib.hid rfl⟩
            have hd9 : (d : Int) ≤ 9 := by rw [HD.out]; omega
            have hsub : IntKind.u8.wrap (((s[i]'hlt).toNat : Int) - 48) = (d : Int) := by rw [HC.out, HD.out, IntKind.wrap_u8]; omega
            have HSN : Hid (figs s.data.toList → spell 0 (s.data.toList.take (i + 1)) = u * 10 + d) := Lib.hid fun hf => by
              rw [List.take_add_one, HCL.out, Option.toList_some, spell_snoc, ← HSP.out hf, HD.out]
            by_cases hbig : (9223372036854775807 - d) / 10 < u
            · have hb1 : (9223372036854775807 - (d : Int)) / 10 < (u : Int) := by omega
              have HY : Hid (FigT s false (.returned (.tuple #[.int .i64 0, .bool false]))) := Lib.hid ⟨0, false, rfl, by unfold i64ok; omega, fun n hn hneg _ hf hspl => by
                have h1 := most_of hn hneg
                rw [← HMO.out, ← hspl] at h1
                have h2 := spell_take s.data.toList (i + 1)
                rw [HSN.out hf] at h2
                omega⟩
              clear hcl hi hbig
              go_wp2_with fail
              go_ret2
              exact ⟨HY.out, rfl⟩
            · have hb1 : ¬ (9223372036854775807 - (d : Int)) / 10 < (u : Int) := by omega
              have HN : Hid (∀ v6 v8, v6 = .int .u64 ((u * 10 + d : Nat) : Int) → v8 = .int .i64 ((i + 1 : Nat) : Int) → FGL s false v6 v8) := Lib.hid fun v6 v8 e6 e8 => ⟨i + 1, u * 10 + d, e6, e8, hlt, by rw [← HMO.out]; omega, fun hf => (HSN.out hf).symm⟩
              have hm1 : (u : Int) * 10 + (d : Int) ≤ 9223372036854775807 := by omega
              clear hcl hi hbig
              go_wp2_with fail
              go_round
              case rel => exact HN.out _ _ (by first | go_num | (congr 1; simp only [IntKind.wrap_u64]; omega)) (by go_num)
              case measure => simp [intOf]; omega
      · obtain rfl : i = s.size := by omega
        have hnlt : ¬ (s.size : Int) < (s.size : Int) := by omega
        have HE : Hid (figs s.data.toList → u = spell 0 s.data.toList) := Lib.hid fun hf => by have := HSP.out hf; rwa [take_all] at this
        have HPOS : Hid (s.data.toList ≠ [] → decide ((0 : Int) < (s.size : Int)) = true) := Lib.hid fun h => by
          have := List.length_pos_iff.2 h
          rw [list_size] at this
          exact decide_eq_true (by omega)
        clear hi hlt
        go_wp2_with fail
        go_ret2
        refine ⟨⟨_, _, rfl, ?_, fun n hn hneg hne hf hspl => ⟨?_, ?_⟩⟩, rfl⟩
        · (try simp only [IntKind.wrap_u64, wrap64]); unfold i64ok; omega
        · have h1 := HE.out hf
          have h2 : ¬ n < 0 := fun h => by simpa using hneg.2 h
          (try simp only [IntKind.wrap_u64, wrap64])
          unfold i64ok at hn
          omega
        · first | exact HPOS.out hne | (have := HPOS.out hne; simpa using this)
end Go.Proofs.YtneppncnccangaaGreatDoor

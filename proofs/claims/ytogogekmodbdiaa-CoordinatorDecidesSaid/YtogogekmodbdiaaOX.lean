/- The coordinator: its sets, its records, its transactions, its letters; Open, Begin, Ask, Out, State; the live question. -/
import Derived.Test.YtogogekmodbdiaaZX
import Derived.Test.YtogogekmodbdiaaJM
import Derived.Test.YtogogekmodbdiaaJJ
import Derived.Test.YtogogekmodbdiaaWE
import Derived.Test.YtogogekmodbdiaaKT
import Derived.Maps.OwnSet
import Derived.WalkSpells
import Derived.Deep.QuietTactic
import Derived.BigQuiet
import Derived.Test.YtogogekmodbdiaaJN
import Derived.Test.YtogogekmodbdiaaJK
import Derived.Test.YtogogekmodbdiaaDX
namespace Go.Proofs.Ytogogekmodbdiaa
section
open Go.RowKit
/-- a set without a node -/
def woB (m n : Nat) : Nat := m ^^^ (m &&& 2 ^ n)
theorem woB_test (m n i : Nat) : (woB m n).testBit i = (m.testBit i && decide (n ≠ i)) := by
  unfold woB
  rw [Nat.testBit_xor, Nat.testBit_and, Nat.testBit_two_pow]
  by_cases h : n = i
  · subst h; cases m.testBit n <;> simp
  · simp [h]
theorem and_lt16 {a b : Nat} (ha : a < 65536) : a &&& b < 65536 := Nat.lt_of_le_of_lt Nat.and_le_left ha
theorem woB_lt {m n : Nat} (hm : m < 65536) : woB m n < 65536 := Nat.xor_lt_two_pow (n := 16) hm (and_lt16 hm)
theorem pow16n {n : Nat} (h : n < 16) : 2 ^ n < 65536 := Nat.pow_lt_pow_right (m := n) (n := 16) (by decide) h
theorem of64 {a : Nat} (ha : a < 65536) : (BitVec.ofInt 64 (a : Int)).toNat = a := by rw [BitVec.toNat_ofInt]; simp; omega
theorem andNot64 {a b : Nat} (ha : a < 65536) (hb : b < 65536) : bits .andNot .i64 (a : Int) (b : Int) = ((a ^^^ (a &&& b) : Nat) : Int) := by
  have h3 : a ^^^ (a &&& b) < 65536 := Nat.xor_lt_two_pow (n := 16) ha (and_lt16 ha)
  have e : (BitVec.ofInt 64 (a : Int)) &&& ~~~(BitVec.ofInt 64 (b : Int)) = (BitVec.ofInt 64 (a : Int)) ^^^ ((BitVec.ofInt 64 (a : Int)) &&& (BitVec.ofInt 64 (b : Int))) := by
    generalize BitVec.ofInt 64 (a : Int) = x
    generalize BitVec.ofInt 64 (b : Int) = y
    ext i hi
    simp only [BitVec.getElem_and, BitVec.getElem_xor, BitVec.getElem_not]
    cases x[i] <;> cases y[i] <;> rfl
  show IntKind.i64.wrap (((BitVec.ofInt 64 (a : Int)) &&& ~~~(BitVec.ofInt 64 (b : Int))).toNat : Int) = _
  rw [e, BitVec.toNat_xor, BitVec.toNat_and, of64 ha, of64 hb, IntKind.wrap_i64]
  omega
theorem pow_cast (n : Nat) : ((2 ^ n : Nat) : Int) = (2 : Int) ^ n := by simp
theorem shl64 {n : Nat} (h : n < 16) : wrap64 (2 ^ n) = ((2 ^ n : Nat) : Int) := by
  have := pow16n h
  rw [show ((2 : Int) ^ n) = ((2 ^ n : Nat) : Int) by simp]
  unfold wrap64
  generalize 2 ^ n = p at *
  omega
set_option maxRecDepth 100000 in
theorem has_any {m n : Nat} (hm : m < 65536) (hn16 : n < 16) (w : World) : Calls Try.prog 47 #[.int .i64 (m : Int), .int .i64 (n : Int)] w (LooksL (.bool (m.testBit n)) w) := by
  have h1 := and1 (i := n) hm
  have hn : ¬ (n : Int) < 0 := by omega
  have hm0 : 0 ≤ (m : Int) := by omega
  have hmin : min n 64 = n := by omega
  cases hb : m.testBit n with
  | true =>
    rw [hb] at h1
    have h2 : (bits .and .i64 ((m : Int) / 2 ^ n) 1 == 1) = true := by rw [h1]; rfl
    clear h1 hb
    go_enter Try.func47, Try.ntmps47
    go_wp2_with fail
    go_ret
    exact ⟨rfl, rfl⟩
  | false =>
    rw [hb] at h1
    have h2 : (bits .and .i64 ((m : Int) / 2 ^ n) 1 == 1) = false := by rw [h1]; rfl
    clear h1 hb
    go_enter Try.func47, Try.ntmps47
    go_wp2_with fail
    go_ret
    exact ⟨rfl, rfl⟩
set_option maxRecDepth 100000 in
theorem with_any {m n : Nat} (hm : m < 65536) (hn : n < 16) (w : World) : Calls Try.prog 45 #[.int .i64 (m : Int), .int .i64 (n : Int)] w (LooksL (.int .i64 ((m ||| 2 ^ n : Nat) : Int)) w) := by
  have h1 : bits .or .i64 (m : Int) ((2 : Int) ^ n) = ((m ||| 2 ^ n : Nat) : Int) := by rw [← pow_cast]; exact or64 hm (pow16n hn)
  have h2 : wrap64 (2 ^ n) = (2 : Int) ^ n := by rw [shl64 hn, pow_cast]
  have hn0 : ¬ (n : Int) < 0 := by omega
  have hn2 : (n : Int) < 16 := by omega
  go_enter Try.func45, Try.ntmps45
  go_wp2_with fail
  go_ret
  exact ⟨rfl, rfl⟩
set_option maxRecDepth 100000 in
theorem without_any {m n : Nat} (hm : m < 65536) (hn : n < 16) (w : World) : Calls Try.prog 48 #[.int .i64 (m : Int), .int .i64 (n : Int)] w (LooksL (.int .i64 ((woB m n : Nat) : Int)) w) := by
  have h1 : bits .andNot .i64 (m : Int) ((2 : Int) ^ n) = ((woB m n : Nat) : Int) := by rw [← pow_cast]; exact andNot64 hm (pow16n hn)
  have h2 : wrap64 (2 ^ n) = (2 : Int) ^ n := by rw [shl64 hn, pow_cast]
  have hn0 : ¬ (n : Int) < 0 := by omega
  have hn2 : (n : Int) < 16 := by omega
  go_enter Try.func48, Try.ntmps48
  go_wp2_with fail
  go_ret
  exact ⟨rfl, rfl⟩
set_option maxRecDepth 100000 in
set_option maxHeartbeats 4000000 in
theorem list_any (b : Nat) (hb : b < 65536) (w : World) : Calls Try.prog 46 #[.int .i64 (b : Int)] w (NdT w (nodesI b)) := by
  have HBI := Lib.hid hb
  have HST : Hid (NdL w b (.slice none 0 0) (.int .i64 0) w) := Lib.hid ⟨0, _, rfl, rfl, by omega, OwnI.nil _ _, Below.refl _ _⟩
  clear hb
  go_enter Try.func46, Try.ntmps46
  go_wp2_with fail
  go_loopw [3, 5] (fun v3 v5 wr => NdL w b v3 v5 wr) (fun _ v5 _ => 16 - (intOf v5).toNat)
  case atStart => exact HST.out
  case round =>
    obtain ⟨i, y, rfl, rfl, hi, ho, hb⟩ := hrel
    have HO := Lib.hid ho
    have HB := Lib.hid hb
    clear ho hb
    by_cases hlt : i < 16
    · have hlti : (i : Int) < 16 := by omega
      have H16 := Lib.hid hlt
      cases hbit : b.testBit i with
      | true =>
        have HM : Hid ((nodesTo b i).length + [(i : Int)].length ≤ 1000000) := Lib.hid (by have := nodesTo_len b i; simp; omega)
        have HBZ := Lib.hid (Nat.le_trans HB.out.size (alloc_below wr (.cells #[.int .i64 (i : Int)] 3)).size)
        have HN : Hid (∀ v6 w6 v5, v5 = .int .i64 ((i + 1 : Nat) : Int) → OwnI w6 w.heap.size v6 (nodesTo b i ++ [(i : Int)]) → Grew (wr.alloc (.cells #[.int .i64 (i : Int)] 3)) y w6 v6 → NdL w b v6 v5 w6) := Lib.hid fun v6 w6 v5 h5 ho hg => ⟨i + 1, _, rfl, h5, by omega, by rw [nodesTo_yes hbit]; exact ho, (HB.out.trans ((alloc_below wr _).mono HB.out.size)).trans (hg.toBelow HBZ.out HO.out.ge)⟩
        have HBT := Lib.hid hbit
        clear hbit hi
        go_wp2_with (first
          | (go_at_call 47; refine (has_any HBI.out H16.out wr).mono ?_; rintro e w2 ⟨rfl, rfl⟩
             rw [HBT.out])
          | (refine wpList_appI (xs := nodesTo b i) (ys := [(i : Int)]) (B := w.heap.size) rfl _ _ 22 rfl Try.underlying22 rfl (HO.out.below (alloc_below wr _)) rfl rfl (rd_oneI wr _) HM.out HBZ.out ?_
             intro v6 w6 ho6 hg6
             have HY := Lib.hid (fun v5 h5 => HN.out v6 w6 v5 h5 ho6 hg6)
             clear ho6 hg6))
        go_roundw
        case rel => first | exact HY.out _ (by go_num) | ((repeat apply Exists.intro); exact ⟨HY.out _ (by go_num), rfl⟩)
        case measure => simp [intOf]; omega
      | false =>
        have HN : Hid (∀ v5, v5 = .int .i64 ((i + 1 : Nat) : Int) → NdL w b y v5 wr) := Lib.hid fun v5 h5 => ⟨i + 1, _, rfl, h5, by omega, by rw [nodesTo_no hbit]; exact HO.out, HB.out⟩
        have HBT := Lib.hid hbit
        clear hbit hi
        go_wp2_with (go_at_call 47; refine (has_any HBI.out H16.out wr).mono ?_; rintro e w2 ⟨rfl, rfl⟩
                     rw [HBT.out])
        go_roundw
        case rel => first | exact HN.out _ (by go_num) | ((repeat apply Exists.intro); exact ⟨HN.out _ (by go_num), rfl⟩)
        case measure => simp [intOf]; omega
    · have hie : i = 16 := by omega
      have HO2 : Hid (OwnI wr w.heap.size y (nodesI b)) := Lib.hid (by have h := HO.out; rw [hie] at h; exact h)
      have hlti : ¬ (i : Int) < 16 := by omega
      clear hlt hi hie HO
      go_wp2_with fail
      go_ret
      exact ⟨_, rfl, HO2.out, HB.out⟩
/-- at the head of setOf's loop -/
def SoL (w : World) (ns : List Int) (v3 v8 : Value) (wr : World) : Prop := ∃ i : Nat, v3 = .int .i64 ((orB 0 (ns.take i) : Nat) : Int) ∧ v8 = .int .i64 i ∧ i ≤ ns.length ∧ wr = w
set_option maxRecDepth 100000 in
set_option maxHeartbeats 4000000 in
theorem setOf_any (ns : List Int) (hu : upN (-1) ns = true) (A : Option Addr) (n cap : Nat) (hn : ns.length = n) (w : World) (hr : RdI w w.heap.size A ns) : Calls Try.prog 26 #[.slice A n cap] w (LooksL (.int .i64 ((orB 0 ns : Nat) : Int)) w) := by
  have HR := Lib.hid hr
  have HN := Lib.hid hn
  have HU := Lib.hid hu
  have hni : (n : Int) ≤ 16 := by have := up_len (by omega) (by omega) hu; omega
  have HST : Hid (SoL w ns (.int .i64 0) (.int .i64 0) w) := Lib.hid ⟨0, rfl, rfl, Nat.zero_le _, rfl⟩
  clear hr hn hu
  go_enter Try.func26, Try.ntmps26
  go_wp2_with fail
  go_loopw [3, 8] (fun v3 v8 wr => SoL w ns v3 v8 wr) (fun _ v8 _ => n - (intOf v8).toNat)
  case atStart => exact HST.out
  case round =>
    obtain ⟨i, rfl, rfl, hi, rfl⟩ := hrel
    rw [HN.out] at hi
    by_cases hlt : i < n
    · have hlti : (i : Int) < (n : Int) := by omega
      obtain ⟨x, hx⟩ : ∃ x, ns[i]? = some x := ⟨_, List.getElem?_eq_getElem (by rw [HN.out]; exact hlt)⟩
      obtain ⟨b, o, hA, hb, hc⟩ := HR.out (fun e => by rw [e] at hx; simp at hx)
      subst hA
      have hc := hc i x hx
      obtain ⟨hx0, hx1⟩ := up_mem HU.out x (List.mem_of_getElem? hx)
      obtain ⟨y, rfl⟩ : ∃ y : Nat, x = (y : Int) := ⟨x.toNat, by omega⟩
      have HW := Lib.hid (with_any (m := orB 0 (ns.take i)) (n := y) (or_lt (by omega) (take_up HU.out) (by decide)) (by omega) wr)
      have hsn : orB 0 (ns.take (i + 1)) = orB 0 (ns.take i) ||| 2 ^ y := by
        rw [List.take_add_one, hx, Option.toList_some, orB_snoc]; rfl
      rw [← hsn] at HW
      have HN2 : Hid (∀ v8, v8 = .int .i64 ((i + 1 : Nat) : Int) → SoL wr ns (.int .i64 ((orB 0 (ns.take (i + 1)) : Nat) : Int)) v8 wr) := Lib.hid fun v8 h8 => ⟨i + 1, rfl, h8, by rw [HN.out]; exact hlt, rfl⟩
      clear hx hx0 hx1 hsn hi hb
      go_wp2_with (go_at_call 45; refine HW.out.mono ?_; rintro e w2 ⟨rfl, rfl⟩)
      go_roundw
      case rel => first | exact HN2.out _ (by go_num) | ((repeat apply Exists.intro); exact ⟨HN2.out _ (by go_num), rfl⟩)
      case measure => simp [intOf]; omega
    · have hie : i = n := by omega
      have hlti : ¬ (i : Int) < (n : Int) := by omega
      have htk : ns.take i = ns := List.take_of_length_le (by rw [HN.out]; omega)
      rw [htk]
      clear hlt hi hie htk
      go_wp2_with fail
      go_ret
      exact ⟨rfl, rfl⟩
end

section
open Go.RowKit
set_option maxRecDepth 100000 in
theorem cinteger_any (n : Int) (w : World) : Calls Try.prog 66 #[.int .i64 n] w (Ans (.agg #[.int .i64 2, .int .i64 n, .string ⟨#[]⟩]) w) := by
  go_enter Try.func66, Try.ntmps66
  go_wp2_with fail
  refine bodyPost_ret (v := .agg #[.int .i64 2, .int .i64 n, .string ⟨#[]⟩]) (by simp [results, Try.results66, go_sem]) rfl ?_
  exact ⟨rfl, alloc_below _ _⟩
/-- a record's values -/
def recV (k : Int) (ns : List Int) : List Val := intV k :: ns.map intV
theorem recV_R {k : Int} {ns : List Int} (hk : i64ok k) (hok : ∀ x ∈ ns, i64ok x) : ∀ x ∈ recV k ns, x.R := by
  intro x hx
  unfold recV at hx
  rw [List.mem_cons, List.mem_map] at hx
  rcases hx with rfl | ⟨n, hn, rfl⟩
  · exact intV_R hk
  · exact intV_R (hok n hn)
theorem recV_len {k : Int} {ns : List Int} (hk : i64ok k) (hok : ∀ x ∈ ns, i64ok x) (hn : ns.length ≤ 3) : 1 ≤ (rowB (recV k ns)).length ∧ (rowB (recV k ns)).length ≤ 900 := by
  have h := rowL_len (recV_R hk hok)
  have h2 : (recV k ns).length = ns.length + 1 := by simp [recV]
  unfold rowB
  rw [List.length_cons]
  omega
/-- what write leaves -/
def WrT (w : World) (B q p g d b s : Nat) (rs : List (List UInt8)) (r : List UInt8) (e : Ending) (w' : World) : Prop :=
  e = .returned (.int .i64 0) ∧ ∃ g' d', Wl w' B q p g' d' b s [] (rs ++ [r]) ∧ Only (fun k => k = q ∨ k = p ∨ k = g ∨ k = d) w w' ∧ (g' = g ∨ w.heap.size ≤ g') ∧ (d' = d ∨ w.heap.size ≤ d')
def WrL (w : World) (k : Int) (ns : List Int) (v7 v17 : Value) (wr : World) : Prop := ∃ (i : Nat) (y : Value), y = v7 ∧ v17 = .int .i64 (i : Int) ∧ i ≤ ns.length ∧ OwnV wr w.heap.size y (recV k (ns.take i)) ∧ Below w.heap.size w wr
theorem OwnV.lit {w : World} {B : Nat} (x : Val) (hB : B ≤ w.heap.size) : OwnV (w.alloc (.cells #[.int .i64 x.k, .int .i64 x.n, .string x.s] 110)) B (.slice (some ⟨w.heap.size, 0, none⟩) 1 1) [x] :=
  ⟨⟨rfl, .inr ⟨_, 1, _, rfl, hB, heap_alloc_new w _, Nat.le_refl _, by unfold maxLen; omega, rfl, rfl⟩⟩, _, _, rfl, Nat.le_refl _⟩
set_option maxRecDepth 100000 in
set_option maxHeartbeats 8000000 in
theorem cwrite_any {w : World} {B q p g d b s : Nat} {pre : List (Nat × Nat)} {rs : List (List UInt8)} (h : Wl w B q p g d b s pre rs) (hB : B ≤ w.heap.size) {c : Nat} (hcl : c < w.heap.size) (hc : w.cell? ⟨c, 1, none⟩ = some (.pointer (some ⟨q, 0, none⟩)))
    (k : Int) (ns : List Int) (A : Option Addr) (n cap : Nat) (hn : ns.length = n) (hn3 : n ≤ 3) (hk : i64ok k) (hok : ∀ x ∈ ns, i64ok x) (hr : RdI w w.heap.size A ns) (hroom : b + (bytesOf rs).length + 905 ≤ 100000) :
    Calls Try.prog 50 #[.pointer (some ⟨c, 0, none⟩), .int .i64 k, .slice A n cap] w (WrT w B q p g d b s rs (rowB (recV k ns))) := by
  obtain ⟨i0, hi, hz0, hz1, hz2⟩ := info_parts infoV
  have HLEN := Lib.hid (recV_len hk hok (by omega))
  have HRV := Lib.hid (recV_R hk hok)
  have HN := Lib.hid hn
  have HN3 := Lib.hid hn3
  have hni : (n : Int) ≤ 3 := by omega
  have HW : Hid (∀ W, Below w.heap.size w W → Wl W B q p g d b s pre rs ∧ B ≤ W.heap.size ∧ W.cell? ⟨c, 1, none⟩ = some (.pointer (some ⟨q, 0, none⟩))) := Lib.hid fun W hb => ⟨h.below hb, Nat.le_trans hB hb.size, (World.cell?_of_block (hb.block c hcl)).trans hc⟩
  have HR : Hid (∀ W, Below w.heap.size w W → RdI W W.heap.size A ns) := Lib.hid fun W hb => (hr.below hb (Nat.le_refl _)).more hb.size
  have HRM := Lib.hid hroom
  have HAO : Hid (AllOk (recV k ns)) := Lib.hid fun x hx => by
    have h1 := (HRV.out x hx).2
    unfold recV at hx
    rw [List.mem_cons, List.mem_map] at hx
    refine ⟨h1, ?_⟩
    rcases hx with rfl | ⟨n, hn, rfl⟩ <;> exact (by decide : (⟨#[]⟩ : ByteArray).size ≤ 9223372036854775807)
  clear h hB hcl hc hn hn3 hk hok hr hroom
  go_enter Try.func50, Try.ntmps50
  go_wp2_with (go_at_call 66; refine (cinteger_any k w).mono ?_; rintro e w1 ⟨rfl, hb1⟩
               have HST : Hid (WrL w k ns (.slice (some ⟨w1.heap.size, 0, none⟩) 1 1) (.int .i64 0) (w1.alloc (.cells #[.int .i64 2, .int .i64 k, .string ⟨#[]⟩] 110))) := Lib.hid ⟨0, _, rfl, rfl, Nat.zero_le _, OwnV.lit (intV k) hb1.size, hb1.trans ((alloc_below w1 _).mono hb1.size)⟩
               clear hb1)
  go_loopw [7, 17] (fun v7 v17 wr => WrL w k ns v7 v17 wr) (fun _ v17 _ => n - (intOf v17).toNat)
  case atStart => exact HST.out
  case round =>
    obtain ⟨i, y, rfl, rfl, hil, ho, hb⟩ := hrel
    rw [HN.out] at hil
    have HO := Lib.hid ho
    have HB := Lib.hid hb
    by_cases hlt : i < n
    · have hlti : (i : Int) < (n : Int) := by omega
      obtain ⟨x, hx⟩ : ∃ x, ns[i]? = some x := ⟨_, List.getElem?_eq_getElem (by rw [HN.out]; exact hlt)⟩
      obtain ⟨bb, oo, hA, hblt, hcx⟩ := HR.out _ hb (fun e => by rw [e] at hx; simp at hx)
      subst hA
      have c0 := hcx i x hx
      have HNX : Hid (∀ v' w' v17, v17 = .int .i64 ((i + 1 : Nat) : Int) → OwnV w' w.heap.size v' (recV k (ns.take i) ++ [intV x]) → Below w.heap.size w w' → WrL w k ns v' v17 w') := Lib.hid fun v' w' v17 h17 ho hb => ⟨i + 1, _, rfl, h17, by rw [HN.out]; exact hlt, by
        have e : recV k (ns.take (i + 1)) = recV k (ns.take i) ++ [intV x] := by unfold recV; rw [List.take_add_one, hx, Option.toList_some, List.map_append]; rfl
        rw [e]; exact ho, hb⟩
      have HTK : Hid ((recV k (ns.take i)).length ≤ 4) := Lib.hid (by have := HN3.out; simp only [recV, List.length_cons, List.length_map, List.length_take]; omega)
      clear hx hcx hblt hil ho hb
      go_wp2_with (first
        | (go_at_call 66; refine (cinteger_any x _).mono ?_; rintro e w2 ⟨rfl, hb2⟩
           have HB2 := Lib.hid (HB.out.trans (hb2.mono HB.out.size))
           have HO2 := Lib.hid (HO.out.below hb2)
           clear hb2)
        | (refine wpList_appV (xs := recV k (ns.take i)) (ys := [intV x]) (B := w.heap.size) rfl _ _ 105 rfl Try.underlying105 hi hz0 hz1 hz2 rfl (HO2.out.below (alloc_below w2 _)) rfl rfl (rd_val (x := intV x) (heap_alloc_new w2 _)) (by have := HTK.out; simp; omega) (Nat.le_trans HB2.out.size (by simp)) ?_
           intro v6 w6 ho6 hg6
           have hb6 := (HB2.out.trans ((alloc_below w2 (.cells #[.int .i64 2, .int .i64 x, .string ⟨#[]⟩] 110)).mono HB2.out.size)).trans (hg6.toBelow (Nat.le_trans HB2.out.size (by simp)) HO2.out.ge)
           have HY := Lib.hid (fun v17 h17 => HNX.out v6 w6 v17 h17 ho6 hb6)
           clear ho6 hg6 hb6))
      go_roundw
      case rel => first | exact HY.out _ (by go_num) | ((repeat apply Exists.intro); exact ⟨HY.out _ (by go_num), rfl⟩)
      case measure => simp [intOf]; omega
    · have hie : i = n := by omega
      have hlti : ¬ (i : Int) < (n : Int) := by omega
      have htk : ns.take i = ns := List.take_of_length_le (by rw [HN.out]; omega)
      rw [htk] at ho
      obtain ⟨Ay, cy, rfl, _⟩ := id ho.2
      have HEN := Lib.hid (encodeR_right (recV k ns) Ay (recV k ns).length cy rfl wr (by have := HN.out; have := HN3.out; simp [recV]; omega) HAO.out HRV.out ho.rd)
      obtain ⟨rl, hrl⟩ : ∃ rl, (recV k ns).length = rl := ⟨_, rfl⟩
      rw [hrl] at HEN ⊢
      clear hlt hil hie htk ho hb HO hrl
      go_wp2_with (first
        | (go_at_call 67; refine HEN.out.mono ?_; rintro e w3 ⟨v3, rfl, ho3, hb3⟩
           have hb := HB.out.trans (hb3.mono HB.out.size)
           obtain ⟨A3, c3, rfl, _⟩ := id ho3.2
           obtain ⟨hwl, hB3, cc⟩ := HW.out _ hb
           have HWL := Lib.hid hwl
           have HB3 := Lib.hid hB3
           have HO3 := Lib.hid ho3
           have HBB := Lib.hid hb
           clear hwl hB3 ho3 hb hb3)
        | (go_at_call 68; refine (wappend_yes HWL.out HB3.out (rowB (recV k ns)) A3 _ c3 rfl ⟨HLEN.out.1, by have := HLEN.out; omega⟩ HO3.out.rd (by have := HLEN.out; have := HRM.out; omega)).mono ?_; rintro e w4 ⟨rfl, g', d', hw4, hO4, hg4, hd4⟩
           have HE : Hid (WrT w B q p g d b s rs (rowB (recV k ns)) (.returned (.int .i64 0)) w4) := Lib.hid ⟨rfl, g', d', hw4, (Only.of_below HBB.out).trans hO4 fun _ _ h => h, hg4.imp id fun h => Nat.le_trans HBB.out.size h, hd4.imp id fun h => Nat.le_trans HBB.out.size h⟩
           clear hw4 hO4 hg4 hd4))
      go_ret
      exact HE.out
set_option maxRecDepth 100000 in
set_option maxHeartbeats 8000000 in
theorem cforce_any {w : World} {B q p g d b s : Nat} {pre : List (Nat × Nat)} {rs : List (List UInt8)} (h : Wl w B q p g d b s pre rs) (hB : B ≤ w.heap.size) {c : Nat} (hcl : c < w.heap.size) (hc : w.cell? ⟨c, 1, none⟩ = some (.pointer (some ⟨q, 0, none⟩))) (hcn : c ≠ q ∧ c ≠ p ∧ c ≠ g ∧ c ≠ d)
    (k : Int) (ns : List Int) (A : Option Addr) (n cap : Nat) (hn : ns.length = n) (hn3 : n ≤ 3) (hk : i64ok k) (hok : ∀ x ∈ ns, i64ok x) (hr : RdI w w.heap.size A ns) (hroom : b + (bytesOf rs).length + 905 ≤ 100000) :
    Calls Try.prog 42 #[.pointer (some ⟨c, 0, none⟩), .int .i64 k, .slice A n cap] w (WrT w B q p g d b (b + (bytesOf (rs ++ [rowB (recV k ns)])).length) rs (rowB (recV k ns))) := by
  have HWR := Lib.hid (cwrite_any h hB hcl hc k ns A n cap hn hn3 hk hok hr hroom)
  have HC := Lib.hid hc
  have HCL := Lib.hid hcl
  have HCN := Lib.hid hcn
  clear h hB hcl hc hcn hn hn3 hk hok hr hroom
  go_enter Try.func42, Try.ntmps42
  go_wp2_with (first
    | (go_at_call 50; refine HWR.out.mono ?_; rintro e w1 ⟨rfl, g', d', hw1, hO1, hg1, hd1⟩
       have c1 : w1.cell? ⟨c, 1, none⟩ = some (.pointer (some ⟨q, 0, none⟩)) := (World.cell?_of_block (a := ⟨c, 1, none⟩) (hO1.block c HCL.out (fun e => by have := HCN.out; omega))).trans HC.out
       have HW1 := Lib.hid hw1
       have HO1 := Lib.hid hO1
       have HGD := Lib.hid (And.intro hg1 hd1)
       clear hw1 hO1 hg1 hd1)
    | (go_at_call 63; refine (wsync_any HW1.out).mono ?_; rintro e w2 ⟨rfl, hw2, hO2⟩
       have HE : Hid (WrT w B q p g d b (b + (bytesOf (rs ++ [rowB (recV k ns)])).length) rs (rowB (recV k ns)) (.returned (.int .i64 0)) w2) := Lib.hid ⟨rfl, g', d', hw2, HO1.out.trans hO2 fun _ _ h => .inr (.inl h), HGD.out⟩
       clear hw2 hO2))
  go_ret
  exact HE.out
end

section
open Go.RowKit Go.Maps
/-- a transaction: its number, what it has come to, all, open, yes, since -/
structure Te where
  n : Nat
  s : Nat
  a : Nat
  o : Nat
  y : Nat
  t : Nat
def teD (s a o y t : Int) : DataW Unit := .agg [.lit (.int .i64 s), .lit (.int .i64 a), .lit (.int .i64 o), .lit (.int .i64 y), .lit (.int .i64 t)]
def teV (s a o y t : Int) : Value := .agg #[.int .i64 s, .int .i64 a, .int .i64 o, .int .i64 y, .int .i64 t]
def Te.d (e : Te) : DataW Unit := teD e.s e.a e.o e.y e.t
def Te.v (e : Te) : Value := teV e.s e.a e.o e.y e.t
def trE : Value → Option (DataW Unit × List MemPlace)
  | .agg ⟨[.int .i64 s, .int .i64 a, .int .i64 o, .int .i64 y, .int .i64 t]⟩ => some (teD s a o y t, [])
  | _ => none
theorem trE_v (s a o y t : Int) : trE (teV s a o y t) = some (teD s a o y t, []) := rfl
theorem trE_inv {v : Value} {s a o y t : Int} {ps : List MemPlace} (h : trE v = some (teD s a o y t, ps)) : v = teV s a o y t := by
  unfold trE at h
  split at h
  · simp [teD] at h
    obtain ⟨⟨h1, h2, h3, h4, h5⟩, _⟩ := h
    subst h1 h2 h3 h4 h5
    rfl
  · cases h
/-- what D says of the transactions T -/
structure RepT (D : DataW Unit) (T : List Te) : Prop where
  has : ∀ x : Int, has D (.int .i64 x) = true ↔ ∃ e ∈ T, (e.n : Int) = x
  at_ : ∀ e ∈ T, ∀ zd, D.atKey (.int .i64 e.n) zd = e.d
  size : size D = T.length
  tidy : Tidy D
  one : T.Pairwise fun a b => a.n ≠ b.n
def findT (T : List Te) (x : Nat) : Option Te := T.find? fun e => decide (e.n = x)
theorem findT_some {T : List Te} {x : Nat} {e : Te} (h : findT T x = some e) : e ∈ T ∧ e.n = x :=
  ⟨List.mem_of_find?_eq_some h, by simpa using List.find?_some h⟩
theorem findT_none {T : List Te} {x : Nat} (h : findT T x = none) : ∀ e ∈ T, e.n ≠ x := fun e he => by simpa using List.find?_eq_none.1 h e he
theorem keyI_ (x : Int) : WideAt.IsKeyLit (.int .i64 x) := by trivial
theorem RepT.nil : RepT (.map []) [] := ⟨fun x => by simp [Maps.has], fun e he => by simp at he, rfl, tidy_empty, List.Pairwise.nil⟩
def dropT (T : List Te) (x : Nat) : List Te := T.filter fun e => decide (e.n ≠ x)
def putT (T : List Te) (e : Te) : List Te := dropT T e.n ++ [e]
theorem dropT_len : ∀ {T : List Te}, (T.Pairwise fun a b => a.n ≠ b.n) → ∀ x, (dropT T x).length + (if T.any (fun e => decide (e.n = x)) then 1 else 0) = T.length
  | [], _, _ => rfl
  | a :: T, h, x => by
    obtain ⟨h2, h3⟩ := List.pairwise_cons.1 h
    have ih := dropT_len h3 x
    unfold dropT at ih ⊢
    by_cases ha : a.n = x
    · have hno : T.any (fun e => decide (e.n = x)) = false := by
        rw [List.any_eq_false]
        intro u hu
        have := h2 u hu
        simp only [decide_eq_true_eq]
        omega
      rw [hno] at ih
      simp only [List.filter_cons, ha, ne_eq, not_true_eq_false, decide_false, Bool.false_eq_true, if_false, List.any_cons, decide_true, Bool.true_or, if_true, List.length_cons] at ih ⊢
      omega
    · simp only [List.filter_cons, ha, ne_eq, not_false_eq_true, decide_true, if_true, List.any_cons, decide_false, Bool.false_or, List.length_cons] at ih ⊢
      omega
theorem RepT.any {D : DataW Unit} {T : List Te} (h : RepT D T) (x : Nat) : Maps.has D (.int .i64 (x : Int)) = T.any (fun e => decide (e.n = x)) := by
  rw [Bool.eq_iff_iff, h.has x, List.any_eq_true]
  simp only [decide_eq_true_eq]
  constructor
  · rintro ⟨e, he, hx⟩; exact ⟨e, he, by omega⟩
  · rintro ⟨e, he, hx⟩; exact ⟨e, he, by omega⟩
theorem RepT.del {D : DataW Unit} {T : List Te} (h : RepT D T) (x : Nat) : RepT (D.del (.int .i64 (x : Int))) (dropT T x) := by
  refine ⟨fun y => ?_, fun u hu zd => ?_, ?_, h.tidy.del _, List.Pairwise.filter _ h.one⟩
  · by_cases hx : y = x
    · subst hx
      rw [has_del_same]
      unfold dropT
      simp
      omega
    · rw [has_del_other (by simpa using hx), h.has y]
      unfold dropT
      constructor
      · rintro ⟨u, hu, rfl⟩; exact ⟨u, by simp [hu]; omega, rfl⟩
      · rintro ⟨u, hu, rfl⟩; exact ⟨u, (List.mem_filter.1 hu).1, rfl⟩
  · obtain ⟨h1, h2⟩ := List.mem_filter.1 hu
    simp only [decide_eq_true_eq] at h2
    rw [atKey_del_other (by simp; omega)]
    exact h.at_ u h1 zd
  · have h1 := size_del (k := .int .i64 (x : Int)) h.tidy
    rw [h.size, h.any x] at h1
    have h4 := dropT_len h.one x
    omega
theorem RepT.put {D : DataW Unit} {T : List Te} (h : RepT D T) (e : Te) : RepT (D.put (.int .i64 e.n) e.d) (putT T e) := by
  have hm := h.tidy.isMap
  unfold putT
  refine ⟨fun x => ?_, fun u hu zd => ?_, ?_, h.tidy.put (keyI_ _) _, ?_⟩
  · by_cases hx : x = e.n
    · subst hx
      rw [has_put_same hm (keyI_ _)]
      simp
    · rw [has_put_other (by simpa using hx), h.has x]
      unfold dropT
      simp only [List.mem_append, List.mem_singleton, List.mem_filter, decide_eq_true_eq]
      constructor
      · rintro ⟨u, hu, hx2⟩; exact ⟨u, .inl ⟨hu, by omega⟩, hx2⟩
      · rintro ⟨u, ⟨hu, _⟩ | rfl, hx2⟩
        · exact ⟨u, hu, hx2⟩
        · exact absurd hx2.symm hx
  · rw [List.mem_append, List.mem_singleton] at hu
    rcases hu with hu | rfl
    · obtain ⟨h1, h2⟩ := List.mem_filter.1 hu
      simp only [decide_eq_true_eq] at h2
      rw [atKey_put_other (by simp; omega)]
      exact h.at_ u h1 zd
    · exact atKey_put_same hm (keyI_ _) _ _
  · have h4 := dropT_len h.one e.n
    rw [size_put h.tidy, h.any, List.length_append, h.size]
    cases hany : T.any (fun u => decide (u.n = e.n))
    · rw [hany] at h4; simp at h4 ⊢; omega
    · rw [hany] at h4; simp at h4 ⊢; omega
  · rw [List.pairwise_append]
    refine ⟨List.Pairwise.filter _ h.one, by simp, fun a ha b hb => ?_⟩
    rw [List.mem_singleton] at hb
    subst hb
    have := (List.mem_filter.1 ha).2
    simpa using this
theorem lawKT : Keyed Try.prog 3 := int_keyed Try.underlying3
theorem zeroT (w : World) : (zeroValue 67).run Try.prog w = .ok (teV 0 0 0 0 0) w := by kernel_rfl
theorem keyZT {x : Int} (h : i64ok x) : keyOf Try.prog 3 (.int .i64 x) = some (.int .i64 x) := keyOf_int_mk Try.underlying3 (WalkArith.wf_i64 (by unfold i64ok at h; omega))
theorem ownsMap_tightT {P : Program} {k : TypeId} {w : World} {b n : Nat} {R : Value → Option (DataW Unit × List MemPlace)} {D : DataW Unit} (h : w.ownsMap P k R b n D) : w.ownsMap P k R b (size D) D := by
  obtain ⟨es, clock, hb, F, hs, rfl⟩ := h
  exact ⟨es, clock, hb, F, by simp [Maps.size, length_sorted], rfl⟩
/-- the transactions T lie in map block m -/
def MapT (w : World) (m : Nat) (T : List Te) : Prop := ∃ D, w.ownsMap Try.prog 3 trE m T.length D ∧ RepT D T
theorem MapT.lt {w : World} {m : Nat} {T : List Te} (h : MapT w m T) : m < w.heap.size := by obtain ⟨D, h1, _⟩ := h; exact h1.lt
theorem MapT.kept {w w' : World} {m : Nat} {T : List Te} (h : MapT w m T) (hb : w'.heap[m]? = w.heap[m]?) : MapT w' m T := by
  obtain ⟨D, ⟨es, cl, hh, hr⟩, h2⟩ := h
  exact ⟨D, ⟨es, cl, hb.trans hh, hr⟩, h2⟩
theorem MapT.noCells {w : World} {m : Nat} {T : List Te} (h : MapT w m T) {k : Nat} {cs : Array Value} {t : TypeId} {fr : Nat × Nat} (hk : w.heap[k]? = some (.cells cs t fr)) : k ≠ m := fun e => by
  obtain ⟨D, ⟨es, cl, hh, _⟩, _⟩ := h
  rw [e, hh] at hk
  cases hk
/-- what State reads -/
def stT (T : List Te) (x : Nat) : Value := match findT T x with | some e => e.v | none => teV 0 0 0 0 0
theorem MapT.look {w : World} {m : Nat} {T : List Te} (h : MapT w m T) {x : Nat} (hx : i64ok (x : Int)) : (Instr.lookup 61 (.map (some m)) (.int .i64 (x : Int)) false).run Try.prog w = .ok (stT T x) w := by
  obtain ⟨D, h2, h3⟩ := h
  obtain ⟨v, ps, hrun, hv⟩ := h2.lookup lawKT Try.underlying61 (zeroT w) (trE_v 0 0 0 0 0) (keyZT hx)
  rw [hrun]
  unfold stT
  cases hf : findT T x with
  | some e =>
    obtain ⟨h4, h5⟩ := findT_some hf
    subst h5
    rw [h3.at_ e h4] at hv
    rw [trE_inv hv]; rfl
  | none =>
    have h1 : Maps.has D (.int .i64 (x : Int)) = false := by
      rw [h3.any x, List.any_eq_false]
      intro u hu
      simpa using findT_none hf u hu
    rw [atKey_of_not_has h1] at hv
    rw [trE_inv hv]
theorem MapT.store {w : World} {m : Nat} {T : List Te} (h : MapT w m T) (hl : T.length < 1000) {x : Nat} (hx : i64ok (x : Int)) (s a o y t : Nat) (V : Value) (hV : V = teV s a o y t) : ∃ w', (Instr.mapUpdate 61 (.map (some m)) (.int .i64 (x : Int)) V).run Try.prog w = .ok () w' ∧ MapT w' m (putT T ⟨x, s, a, o, y, t⟩) ∧ Only (· = m) w w' := by
  subst hV
  obtain ⟨D, h2, h3⟩ := h
  obtain ⟨w1, hrun, hown1, hturn⟩ := h2.store lawKT Try.underlying61 (by unfold maxLen; omega) (keyZT hx) (trE_v s a o y t)
  have hp := h3.put ⟨x, s, a, o, y, t⟩
  refine ⟨w1, hrun, ⟨_, ?_, hp⟩, (Only.of_grown hturn.grown).more fun j _ hj => by injection hj⟩
  have h1 := ownsMap_tightT hown1
  have h5 : size (D.put (.int .i64 (x : Int)) (teD s a o y t)) = _ := hp.size
  rw [h5] at h1
  exact h1
theorem MapT.new {w : World} : MapT (w.alloc (.map #[] 0)) w.heap.size [] := ⟨.map [], World.ownsMap_made w Try.prog 3 trE, RepT.nil⟩
theorem lt_of_heap {w : World} {k : Nat} {ob : Obj} (h : w.heap[k]? = some ob) : k < w.heap.size := (Array.getElem?_eq_some_iff.1 h).1
end

section
open Go.RowKit
/-- a letter to be sent, where its nodes lie, how many -/
structure Le where
  k : Int
  f : Int
  t : Int
  x : Int
  A : Option Addr
  n : Nat
  c : Nat
def Le.cells (e : Le) : List Value := [.int .i64 e.k, .int .i64 e.f, .int .i64 e.t, .int .i64 e.x, .slice e.A e.n e.c]
def cellsO (l : List Le) : List Value := l.flatMap Le.cells
theorem cellsO_len (l : List Le) : (cellsO l).length = l.length * 5 := by
  induction l with
  | nil => rfl
  | cons x l ih => simp only [cellsO, List.flatMap_cons, List.length_append, List.length_cons] at ih ⊢; rw [ih]; simp [Le.cells]; omega
theorem cellsO_app (a b : List Le) : cellsO (a ++ b) = cellsO a ++ cellsO b := by simp [cellsO]
theorem cellsO_one (l : List Le) : ∀ u ∈ cellsO l, u.oneCell' = true := by
  intro u hu
  simp only [cellsO, List.mem_flatMap, Le.cells, List.mem_cons, List.not_mem_nil, or_false] at hu
  obtain ⟨x, _, rfl | rfl | rfl | rfl | rfl⟩ := hu <;> rfl
def OwnO (w : World) (B : Nat) (v : Value) (l : List Le) : Prop := w.ownsRow B 46 5 v l.length (cellsO l) ∧ ∃ A cap, v = .slice A l.length cap ∧ l.length ≤ cap
theorem OwnO.of_row {w : World} {B n : Nat} {v : Value} {l : List Le} (h : w.ownsRow B 46 5 v n (cellsO l)) : OwnO w B v l := by
  obtain ⟨hl, hc⟩ := h
  have hn : n = l.length := by rw [cellsO_len] at hl; omega
  subst hn
  refine ⟨⟨hl, hc⟩, ?_⟩
  rcases hc with ⟨rfl, h0⟩ | ⟨g, cap, cur, rfl, _, _, hnc, _⟩
  · exact ⟨none, 0, by rw [h0], by omega⟩
  · exact ⟨_, _, rfl, hnc⟩
theorem OwnO.nil (w : World) (B : Nat) : OwnO w B (.slice none 0 0) [] := OwnO.of_row (n := 0) ⟨by simp [cellsO], .inl ⟨rfl, rfl⟩⟩
theorem OwnO.below {w w' : World} {B : Nat} {v : Value} {l : List Le} (h : OwnO w B v l) (hb : Below w.heap.size w w') : OwnO w' B v l := ⟨own_below h.1 hb, h.2⟩
theorem OwnO.ge {w : World} {B : Nat} {v : Value} {l : List Le} (h : OwnO w B v l) : ∀ k, v.ownBlock = some k → B ≤ k := by
  intro k hk
  rcases h.1.2 with ⟨rfl, _⟩ | ⟨g, cap, cur, rfl, hB, _⟩
  · simp [Value.ownBlock] at hk
  · simp [Value.ownBlock] at hk; omega
/-- the block of an own row: cells of letters -/
theorem OwnO.blk {w : World} {B : Nat} {v : Value} {l : List Le} (h : OwnO w B v l) : ∀ k, v.ownBlock = some k → ∃ cs, w.heap[k]? = some (.cells cs 46 (0, 0)) := by
  intro k hk
  rcases h.1.2 with ⟨rfl, _⟩ | ⟨g, cap, cur, rfl, hB, hh, _⟩
  · simp [Value.ownBlock] at hk
  · simp [Value.ownBlock] at hk; subst hk; exact ⟨_, hh⟩
theorem OwnO.kept {w w' : World} {B : Nat} {v : Value} {l : List Le} (h : OwnO w B v l) (hb : ∀ k, v.ownBlock = some k → w'.heap[k]? = w.heap[k]?) : OwnO w' B v l := by
  refine ⟨⟨h.1.1, ?_⟩, h.2⟩
  rcases h.1.2 with h1 | ⟨g, cap, cur, rfl, h2, h3, h4⟩
  · exact .inl h1
  · exact .inr ⟨g, cap, cur, rfl, h2, (hb g rfl).trans h3, h4⟩
/-- what a row of letters reads as -/
theorem OwnO.at_ {w : World} {B n cap : Nat} {A : Option Addr} {l : List Le} {j : Nat} {e : Le} (h : OwnO w B (.slice A n cap) l) (hj : l[j]? = some e) : ∃ g, A = some ⟨g, 0, none⟩ ∧ g < w.heap.size ∧ B ≤ g ∧ n ≤ cap ∧ ∀ W : World, W.heap[g]? = w.heap[g]? → W.cell? ⟨g, j * 5, none⟩ = some (.int .i64 e.k) ∧ W.cell? ⟨g, j * 5 + 1, none⟩ = some (.int .i64 e.f) ∧ W.cell? ⟨g, j * 5 + 2, none⟩ = some (.int .i64 e.t) ∧ W.cell? ⟨g, j * 5 + 3, none⟩ = some (.int .i64 e.x) ∧ W.cell? ⟨g, j * 5 + 4, none⟩ = some (.slice e.A e.n e.c) := by
  have hjl := (List.getElem?_eq_some_iff.1 hj).1
  rcases h.1.2 with ⟨e', h0⟩ | ⟨g, cap', cur, e', hB, hh, hnc, hm, hsz, htk⟩
  · omega
  · injection e' with e1 e2 e3
    subst e1 e2 e3
    refine ⟨g, rfl, lt_of_heap hh, hB, hnc, fun W hW => ?_⟩
    have key : ∀ (m : Nat) (u : Value), (cellsO l)[m]? = some u → W.cell? ⟨g, m, none⟩ = some u := fun m u hu => by
      have hW2 : W.heap[g]? = some (.cells cur 46 (0, 0)) := hW.trans hh
      rw [cell_of_row W g m cur _ (0, 0) hW2]
      rw [← htk, List.getElem?_take] at hu
      split at hu
      · rw [← Array.getElem?_toList]; exact hu
      · cases hu
    have hc : ∀ m, m < 5 → (cellsO l)[j * 5 + m]? = e.cells[m]? := by
      clear key hW htk hsz hm hnc hh hB h
      induction l generalizing j with
      | nil => simp at hj
      | cons y l ih =>
        intro m hm
        cases j with
        | zero => simp at hj; subst hj; simp only [cellsO, List.flatMap_cons]; rw [List.getElem?_append_left (by simp [Le.cells]; omega)]; simp
        | succ j =>
          have := ih (j := j) (by simpa using hj) (by simpa using hjl) m hm
          simp only [cellsO, List.flatMap_cons] at this ⊢
          rw [List.getElem?_append_right (by simp [Le.cells]; omega)]
          rw [← this]
          congr 1
          simp [Le.cells]
          omega
    have h0 := hc 0 (by omega)
    rw [Nat.add_zero] at h0
    exact ⟨key _ _ h0, key _ _ (hc 1 (by omega)), key _ _ (hc 2 (by omega)), key _ _ (hc 3 (by omega)), key _ _ (hc 4 (by omega))⟩
theorem infoO : (Try.prog.info? 46).map (fun i => (i.zero, i.size, i.bytes)) = some (some (.agg #[.int .i64 0, .int .i64 0, .int .i64 0, .int .i64 0, .slice none 0 0]), 5, 56) := by kernel_rfl
end

section
open Go.RowKit
/-- a coordinator's state, and where it lies -/
structure CoS where
  c : Nat
  node : Nat
  inc : Nat
  cnt : Nat
  tks : Nat
  q : Nat
  p : Nat
  g : Nat
  d : Nat
  b : Nat
  s : Nat
  pre : List (Nat × Nat)
  rs : List (List UInt8)
  m : Nat
  T : List Te
  ov : Value
  os : List Le
structure Co (w : World) (B : Nat) (S : CoS) : Prop where
  box : w.heap[S.c]? = some (.cells #[.int .i64 (S.node : Int), .pointer (some ⟨S.q, 0, none⟩), .int .i64 (S.inc : Int), .int .i64 (S.cnt : Int), .int .i64 (S.tks : Int), .map (some S.m), S.ov] 63 (0, 0))
  log : Wl w B S.q S.p S.g S.d S.b S.s S.pre S.rs
  map : MapT w S.m S.T
  out : OwnO w B S.ov S.os
  ge : B ≤ S.c ∧ B ≤ S.m
  ne : S.c ≠ S.q ∧ S.c ≠ S.p ∧ S.c ≠ S.g ∧ S.c ≠ S.d
  nm : S.m ≠ S.q ∧ S.m ≠ S.p ∧ S.m ≠ S.g ∧ S.m ≠ S.d
  no : ∀ k, S.ov.ownBlock = some k → k ≠ S.q ∧ k ≠ S.p ∧ k ≠ S.g ∧ k ≠ S.d
  nod : S.node < 16
theorem box7_ {w : World} {b : Nat} {x0 x1 x2 x3 x4 x5 x6 : Value} {t : TypeId} {fr : Nat × Nat} (h : w.heap[b]? = some (.cells #[x0, x1, x2, x3, x4, x5, x6] t fr)) : w.cell? ⟨b, 0, none⟩ = some x0 ∧ w.cell? ⟨b, 1, none⟩ = some x1 ∧ w.cell? ⟨b, 2, none⟩ = some x2 ∧ w.cell? ⟨b, 3, none⟩ = some x3 ∧ w.cell? ⟨b, 4, none⟩ = some x4 ∧ w.cell? ⟨b, 5, none⟩ = some x5 ∧ w.cell? ⟨b, 6, none⟩ = some x6 := by
  simp [World.cell?, h]
theorem box7_set {w : World} {p : Nat} {x0 x1 x2 x3 x4 x5 x6 : Value} {t : TypeId} {fr : Nat × Nat} (h : w.heap[p]? = some (.cells #[x0, x1, x2, x3, x4, x5, x6] t fr)) (v : Value) :
    (w.setCell ⟨p, 3, none⟩ v).heap[p]? = some (.cells #[x0, x1, x2, v, x4, x5, x6] t fr) ∧ (w.setCell ⟨p, 4, none⟩ v).heap[p]? = some (.cells #[x0, x1, x2, x3, v, x5, x6] t fr) ∧ (w.setCell ⟨p, 6, none⟩ v).heap[p]? = some (.cells #[x0, x1, x2, x3, x4, x5, v] t fr) := by
  refine ⟨?_, ?_, ?_⟩ <;> simp [World.setCell, Array.getElem?_modify, h]
theorem Co.lt {w : World} {B : Nat} {S : CoS} (h : Co w B S) : S.c < w.heap.size := lt_of_heap h.box
theorem Co.cm {w : World} {B : Nat} {S : CoS} (h : Co w B S) : S.c ≠ S.m := h.map.noCells h.box
theorem Co.oc {w : World} {B : Nat} {S : CoS} (h : Co w B S) : ∀ k, S.ov.ownBlock = some k → k ≠ S.c ∧ k ≠ S.m := fun k hk => by
  obtain ⟨cs, hh⟩ := h.out.blk k hk
  refine ⟨fun e => ?_, h.map.noCells hh⟩
  rw [e, h.box] at hh
  injection hh with hh
  injection hh with h1 h2
  exact absurd h2 (by decide)
/-- what lies in the coordinator's hands -/
def CoK (S : CoS) (k : Nat) : Prop := k = S.c ∨ k = S.m ∨ k = S.q ∨ k = S.p ∨ k = S.g ∨ k = S.d ∨ S.ov.ownBlock = some k
theorem Co.only {K : Nat → Prop} {w w' : World} {B : Nat} {S : CoS} (h : Co w B S) (hO : Only K w w') (hK : ∀ k, CoK S k → ¬ K k) : Co w' B S := by
  have hlt := h.log
  refine ⟨(hO.block S.c h.lt (hK _ (.inl rfl))).trans h.box, h.log.only hO (hK _ (.inr (.inr (.inl rfl)))) (hK _ (.inr (.inr (.inr (.inl rfl))))) (hK _ (.inr (.inr (.inr (.inr (.inl rfl)))))) (hK _ (.inr (.inr (.inr (.inr (.inr (.inl rfl))))))), h.map.kept (hO.block S.m h.map.lt (hK _ (.inr (.inl rfl)))), h.out.kept fun k hk => ?_, h.ge, h.ne, h.nm, h.no, h.nod⟩
  obtain ⟨cs, hh⟩ := h.out.blk k hk
  exact hO.block k (lt_of_heap hh) (hK _ (.inr (.inr (.inr (.inr (.inr (.inr hk)))))))
theorem Co.below {w w' : World} {B : Nat} {S : CoS} (h : Co w B S) (hb : Below w.heap.size w w') : Co w' B S := h.only (K := fun _ => False) (Only.of_below hb) fun _ _ h => h
/-- behind a store into its own box -/
theorem Co.boxed {w w' : World} {B : Nat} {S : CoS} (h : Co w B S) (hO : Only (· = S.c) w w') (S' : CoS) (hbx : w'.heap[S.c]? = some (.cells #[.int .i64 (S'.node : Int), .pointer (some ⟨S'.q, 0, none⟩), .int .i64 (S'.inc : Int), .int .i64 (S'.cnt : Int), .int .i64 (S'.tks : Int), .map (some S'.m), S'.ov] 63 (0, 0)))
    (he : S'.c = S.c ∧ S'.q = S.q ∧ S'.p = S.p ∧ S'.g = S.g ∧ S'.d = S.d ∧ S'.b = S.b ∧ S'.s = S.s ∧ S'.pre = S.pre ∧ S'.rs = S.rs ∧ S'.m = S.m ∧ S'.T = S.T ∧ S'.node = S.node) (ho : OwnO w' B S'.ov S'.os) (hno : ∀ k, S'.ov.ownBlock = some k → k ≠ S.q ∧ k ≠ S.p ∧ k ≠ S.g ∧ k ≠ S.d) : Co w' B S' := by
  obtain ⟨c, node, inc, cnt, tks, q, p, g, d, b, s, pre, rs, m, T, ov, os⟩ := S
  obtain ⟨c', node', inc', cnt', tks', q', p', g', d', b', s', pre', rs', m', T', ov', os'⟩ := S'
  simp only at he hbx ho hno hO
  obtain ⟨rfl, rfl, rfl, rfl, rfl, rfl, rfl, rfl, rfl, rfl, rfl, rfl⟩ := he
  have hn := h.ne
  have hcm := h.cm
  simp only at hn hcm
  refine ⟨hbx, h.log.only hO (fun e => hn.1 e.symm) (fun e => hn.2.1 e.symm) (fun e => hn.2.2.1 e.symm) (fun e => hn.2.2.2 e.symm), h.map.kept (hO.block _ h.map.lt (fun e => hcm e.symm)), ho, h.ge, h.ne, h.nm, hno, h.nod⟩
theorem Co.out_kept {w w' : World} {B : Nat} {S : CoS} (h : Co w B S) (hO : Only (· = S.c) w w') : OwnO w' B S.ov S.os := h.out.kept fun k hk => by
  obtain ⟨cs, hh⟩ := h.out.blk k hk
  exact hO.block k (lt_of_heap hh) (fun e => (h.oc k hk).1 e)
theorem fieldT0 (s a o y t : Int) (w : World) : (Instr.field 67 (.agg #[.int .i64 s, .int .i64 a, .int .i64 o, .int .i64 y, .int .i64 t]) 0).run Try.prog w = .ok (.int .i64 s) w := by kernel_rfl
theorem fieldT1 (s a o y t : Int) (w : World) : (Instr.field 67 (.agg #[.int .i64 s, .int .i64 a, .int .i64 o, .int .i64 y, .int .i64 t]) 1).run Try.prog w = .ok (.int .i64 a) w := by kernel_rfl
set_option maxRecDepth 100000 in
theorem closed_any {w : World} {B : Nat} {S : CoS} (h : Co w B S) : Calls Try.prog 24 #[.pointer (some ⟨S.c, 0, none⟩)] w (LooksL (.bool false) w) := by
  obtain ⟨_, c1, _⟩ := box7_ h.box
  have hnil : ∀ (w : World) (a : Option Addr), (binOp .eql 60 (.pointer a) (.pointer none)).run Try.prog w = .ok (.bool a.isNone) w := fun w a => by cases a <;> rfl
  clear h
  go_enter Try.func24, Try.ntmps24
  go_wp2_with fail
  go_ret
  exact ⟨rfl, rfl⟩
/-- what State says of a transaction -/
def stN (T : List Te) (x : Nat) : Nat := match findT T x with | some e => if e.s = 1 ∨ e.s = 2 then 1 else if e.s = 3 then 2 else 0 | none => 0
set_option maxRecDepth 100000 in
theorem state_any {w : World} {B : Nat} {S : CoS} (h : Co w B S) {x : Nat} (hx : i64ok (x : Int)) : Calls Try.prog 11 #[.pointer (some ⟨S.c, 0, none⟩), .int .i64 (x : Int)] w (LooksL (.int .i64 ((stN S.T x : Nat) : Int)) w) := by
  have HC := Lib.hid (closed_any h)
  obtain ⟨_, _, _, _, _, c5, _⟩ := box7_ h.box
  have hlk := h.map.look hx
  have q0 := fieldT0
  clear h
  unfold stT at hlk
  unfold stN
  cases hf : findT S.T x with
  | none =>
    rw [hf] at hlk
    simp only [teV] at hlk
    clear hf
    go_enter Try.func11, Try.ntmps11
    go_wp2_with (go_at_call 24; refine HC.out.mono ?_; rintro e w1 ⟨rfl, rfl⟩)
    go_ret
    exact ⟨rfl, rfl⟩
  | some e =>
    rw [hf] at hlk
    obtain ⟨n, s, a, o, y, t⟩ := e
    simp only [Te.v, teV] at hlk ⊢
    clear hf
    by_cases h1 : s = 1
    · subst h1
      go_enter Try.func11, Try.ntmps11
      go_wp2_with (go_at_call 24; refine HC.out.mono ?_; rintro e w1 ⟨rfl, rfl⟩)
      go_ret
      exact ⟨rfl, rfl⟩
    · by_cases h2 : s = 2
      · subst h2
        go_enter Try.func11, Try.ntmps11
        go_wp2_with (go_at_call 24; refine HC.out.mono ?_; rintro e w1 ⟨rfl, rfl⟩)
        go_ret
        exact ⟨rfl, rfl⟩
      · by_cases h3 : s = 3
        · subst h3
          go_enter Try.func11, Try.ntmps11
          go_wp2_with (go_at_call 24; refine HC.out.mono ?_; rintro e w1 ⟨rfl, rfl⟩)
          go_ret
          exact ⟨rfl, rfl⟩
        · rw [if_neg (by omega), if_neg h3]
          have e1 : ((s : Int) == 1) = false := by simp; omega
          have e2 : ((s : Int) == 2) = false := by simp; omega
          have e3 : ((s : Int) == 3) = false := by simp; omega
          clear h1 h2 h3
          go_enter Try.func11, Try.ntmps11
          go_wp2_with (go_at_call 24; refine HC.out.mono ?_; rintro e w1 ⟨rfl, rfl⟩)
          go_ret
          exact ⟨rfl, rfl⟩
/-- what Out answers -/
def OutT (w : World) (B : Nat) (S : CoS) (e : Ending) (w' : World) : Prop := e = .returned S.ov ∧ Co w' B { S with ov := .slice none 0 0, os := [] } ∧ OwnO w' B S.ov S.os ∧ Only (· = S.c) w w'
set_option maxRecDepth 100000 in
theorem out_any {w : World} {B : Nat} {S : CoS} (h : Co w B S) : Calls Try.prog 12 #[.pointer (some ⟨S.c, 0, none⟩)] w (OutT w B S) := by
  have HC := Lib.hid (closed_any h)
  obtain ⟨_, _, _, _, _, _, c6⟩ := box7_ h.box
  have f6 := frozen_of h.box 6
  have hO := Only.set w S.c 6 (.slice none 0 0)
  have HE : Hid (OutT w B S (.returned S.ov) (w.setCell ⟨S.c, 6, none⟩ (.slice none 0 0))) := Lib.hid ⟨rfl, h.boxed hO { S with ov := .slice none 0 0, os := [] } (box7_set h.box _).2.2 ⟨rfl, rfl, rfl, rfl, rfl, rfl, rfl, rfl, rfl, rfl, rfl, rfl⟩ (OwnO.nil _ _) (fun k hk => by simp [Value.ownBlock] at hk), h.out_kept hO, hO⟩
  obtain ⟨v, hv⟩ : ∃ v, v = S.ov := ⟨_, rfl⟩
  rw [← hv] at c6 HE
  clear h hO
  obtain ⟨A, cap, n, rfl⟩ : ∃ A cap n, v = .slice A n cap := by
    obtain ⟨A, cap, e, _⟩ := HE.out.2.2.1.2
    exact ⟨A, cap, _, hv.trans e⟩
  clear hv
  go_enter Try.func12, Try.ntmps12
  go_wp2_with (go_at_call 24; refine HC.out.mono ?_; rintro e w1 ⟨rfl, rfl⟩)
  go_ret
  exact HE.out
end

section
open Go.RowKit
def txN (S : CoS) : Nat := 16 * (65536 * S.inc + S.cnt) + S.node
/-- what Begin answers -/
def BgT (w : World) (B : Nat) (S : CoS) (e : Ending) (w' : World) : Prop := e = .returned (.tuple #[.int .i64 ((txN S : Nat) : Int), .int .i64 0]) ∧ Co w' B { S with cnt := S.cnt + 1, T := putT S.T ⟨txN S, 1, 0, 0, 0, 0⟩ } ∧ Only (fun k => k = S.c ∨ k = S.m) w w'
theorem Co.mapped {w w' : World} {B : Nat} {S : CoS} (h : Co w B S) {T' : List Te} (hO : Only (· = S.m) w w') (hm : MapT w' S.m T') : Co w' B { S with T := T' } := by
  have hn := h.nm
  have hcm := h.cm
  refine ⟨(hO.block S.c h.lt hcm).trans h.box, h.log.only hO (fun e => hn.1 e.symm) (fun e => hn.2.1 e.symm) (fun e => hn.2.2.1 e.symm) (fun e => hn.2.2.2 e.symm), hm, h.out.kept fun k hk => ?_, h.ge, h.ne, h.nm, h.no, h.nod⟩
  obtain ⟨cs, hh⟩ := h.out.blk k hk
  exact hO.block k (lt_of_heap hh) (h.oc k hk).2
set_option maxRecDepth 100000 in
set_option maxHeartbeats 8000000 in
theorem cbegin_any {w : World} {B : Nat} {S : CoS} (h : Co w B S) (hc : S.cnt < 65536) (hi : S.inc ≤ 65536) (hT : S.T.length < 1000) (hf : findT S.T (txN S) = none) : Calls Try.prog 9 #[.pointer (some ⟨S.c, 0, none⟩)] w (BgT w B S) := by
  have HC := Lib.hid (closed_any h)
  have q0 := fieldT0
  obtain ⟨c0, c1, c2, c3, c4, c5, c6⟩ := box7_ h.box
  have hnod := h.nod
  have htx : txN S = 16 * (65536 * S.inc + S.cnt) + S.node := rfl
  obtain ⟨tx, hx⟩ : ∃ tx, tx = txN S := ⟨_, rfl⟩
  have hxs : tx < 100000000000 := by rw [hx, htx]; omega
  have HI : Hid (i64ok (tx : Int)) := Lib.hid (by unfold i64ok; omega)
  rw [← hx] at hf
  have HF := Lib.hid hf
  have HT := Lib.hid hT
  have HX := Lib.hid hx
  have hcI : decide (65536 ≤ (S.cnt : Int)) = false := decide_eq_false (by omega)
  have a1 : wrap64 (65536 * (S.inc : Int)) = 65536 * (S.inc : Int) := by unfold wrap64; omega
  have a2 : wrap64 (65536 * (S.inc : Int) + (S.cnt : Int)) = 65536 * (S.inc : Int) + (S.cnt : Int) := by unfold wrap64; omega
  have a3 : wrap64 (16 * (65536 * (S.inc : Int) + (S.cnt : Int))) = 16 * (65536 * (S.inc : Int) + (S.cnt : Int)) := by unfold wrap64; omega
  have a4 : wrap64 (16 * (65536 * (S.inc : Int) + (S.cnt : Int)) + (S.node : Int)) = (tx : Int) := by rw [hx, htx]; unfold wrap64; omega
  have a5 : wrap64 ((S.cnt : Int) + 1) = ((S.cnt + 1 : Nat) : Int) := by unfold wrap64; omega
  have HA := Lib.hid (And.intro a1 (And.intro a2 (And.intro a3 a4)))
  have HA5 := Lib.hid a5
  have HCO := Lib.hid h
  clear h hT hf htx hxs hx hi hc hnod a1 a2 a3 a4 a5
  go_enter Try.func9, Try.ntmps9
  go_wp2_with (go_at_call 24; refine HC.out.mono ?_; rintro e w1 ⟨rfl, rfl⟩)
  obtain ⟨a1, a2, a3, a4⟩ := HA.out
  go_quiet (fail)
  simp only [a1, a2, a3, a4]
  clear a1 a2 a3 a4 c0 c1 c2 c3 c4 c5 c6
  have hd := HCO.out.below (drewN_below w nq)
  obtain ⟨d0, d1, d2, d3, d4, d5, d6⟩ := box7_ hd.box
  have f3 := frozen_of hd.box 3
  have hO1 := Only.set (w.drewN nq) S.c 3 (.int .i64 ((S.cnt + 1 : Nat) : Int))
  have hS1 := hd.boxed hO1 { S with cnt := S.cnt + 1 } (box7_set hd.box _).1 ⟨rfl, rfl, rfl, rfl, rfl, rfl, rfl, rfl, rfl, rfl, rfl, rfl⟩ (hd.out_kept hO1) HCO.out.no
  obtain ⟨C1, hC1⟩ : ∃ C1 : Int, C1 = ((S.cnt + 1 : Nat) : Int) := ⟨_, rfl⟩
  have a5 := HA5.out
  rw [← hC1] at a5 hO1
  have hS1' : Co ((w.drewN nq).setCell ⟨S.c, 3, none⟩ (.int .i64 C1)) B { S with cnt := S.cnt + 1 } := by rw [hC1]; exact hS1
  obtain ⟨e0, e1, e2, e3, e4, e5, e6⟩ := box7_ hS1'.box
  have hlk := hS1'.map.look (x := tx) HI.out
  unfold stT at hlk
  simp only [HF.out, teV] at hlk
  obtain ⟨w2, hrun, hm2, hO2⟩ := hS1'.map.store HT.out (x := tx) HI.out 1 0 0 0 0 (.agg #[.int .i64 1, .int .i64 0, .int .i64 0, .int .i64 0, .int .i64 0]) rfl
  have HE : Hid (BgT w B S (.returned (.tuple #[.int .i64 (tx : Int), .int .i64 0])) w2) := Lib.hid ⟨by rw [HX.out], by rw [HX.out] at hm2; exact hS1'.mapped hO2 hm2, ((Only.of_below (drewN_below w nq)).trans hO1 fun _ _ h => .inl h).trans hO2 fun _ _ h => .inr h⟩
  clear hd hO1 hO2 hS1 hS1' hm2 hC1
  go_wp2_with fail
  refine bodyPost_ret (v := .tuple #[.int .i64 (tx : Int), .int .i64 0]) (by simp [results, Try.results9, go_sem]) rfl ?_
  exact HE.out
end

section
open Go.RowKit
/-- letters that can be read from a block's head on -/
def RdO (w : World) (g : Nat) (ys : List Le) : Prop := ∀ j u, (cellsO ys)[j]? = some u → w.cell? ⟨g, j, none⟩ = some u
theorem rd_oneO (w : World) (e : Le) : RdO (w.alloc (.cells #[.int .i64 e.k, .int .i64 e.f, .int .i64 e.t, .int .i64 e.x, .slice e.A e.n e.c] 46)) w.heap.size [e] := fun j u hu => by
  have hh := heap_alloc_new w (.cells #[.int .i64 e.k, .int .i64 e.f, .int .i64 e.t, .int .i64 e.x, .slice e.A e.n e.c] 46)
  rw [cell_of_row _ _ _ _ _ (0, 0) hh]
  match j with
  | 0 => simp [cellsO, Le.cells] at hu; subst hu; rfl
  | 1 => simp [cellsO, Le.cells] at hu; subst hu; rfl
  | 2 => simp [cellsO, Le.cells] at hu; subst hu; rfl
  | 3 => simp [cellsO, Le.cells] at hu; subst hu; rfl
  | 4 => simp [cellsO, Le.cells] at hu; subst hu; rfl
  | j + 5 => simp [cellsO, Le.cells] at hu
theorem run_appendO {w : World} (t ty : TypeId) {B : Nat} (ht : Try.prog.underlying t = some (.slice 46))
    {v : Value} {xs : List Le} (hown : OwnO w B v xs) {g c : Nat} {ys : List Le} (hr : RdO w g ys) (h63 : xs.length + ys.length ≤ 100000) (hbase : B ≤ w.heap.size) :
    ∃ v' w', (Builtin.append_ #[t, t] ty #[v, .slice (some ⟨g, 0, none⟩) ys.length c]).run Try.prog w = .ok v' w' ∧ OwnO w' B v' (xs ++ ys) ∧ Grew w v w' v' := by
  obtain ⟨i0, hi, hz, hs, hb⟩ := info_parts infoO
  have hcells : ∀ j u, (cellsO ys)[j]? = some u → w.cell? ((⟨g, 0, none⟩ : Addr).add j) = some u := by
    intro j u hu
    rw [Addr.add_lit, Nat.zero_add]
    exact hr j u hu
  obtain ⟨v', w', hrun, h2, h3, _, h5⟩ := run_append_own_at (P := Try.prog) w B t ty 46 i0 _ 5 56 ht hi hz hs hb rfl (by omega) v xs.length (cellsO xs) hown.1 ⟨g, 0, none⟩ ys.length c (cellsO ys) (cellsO_len ys) hcells (cellsO_one ys) (by unfold maxLen; omega) (by omega) hbase
  rw [← cellsO_app] at h2
  exact ⟨v', w', hrun, OwnO.of_row h2, grew_of h3 h5⟩
theorem step_appO {w : World} {ops : Array Oper} {o : Oper} {a : Act} {K : Act → World → Prop} {Q : Exit → Act → World → Prop} {E : Prop} (hgd : o.guard = none) (s x : Operand) (t : TypeId) (ho : o.op = .call { callee := .builtin .append, args := #[s, x], argTypes := #[t, t] })
    {B : Nat} (ht : Try.prog.underlying t = some (.slice 46))
    {v : Value} {xs : List Le} (hv : a.eval s = v) (hown : OwnO w B v xs) {g c n : Nat} {ys : List Le} (hx : a.eval x = .slice (some ⟨g, 0, none⟩) n c) (hn : ys.length = n) (hr : RdO w g ys) (h63 : xs.length + ys.length ≤ 100000) (hbase : B ≤ w.heap.size)
    (h : ∀ v' w', OwnO w' B v' (xs ++ ys) → Grew w v w' v' → K (a.put o.dst v') w') : if Region.wanted o (yielded ops a.tmps) = true then Oper.wp Try.prog o a w K Q else E := by
  have hw : Region.wanted o (yielded ops a.tmps) = true := by simp [Region.wanted, hgd]
  rw [if_pos hw]
  subst hn
  obtain ⟨v', w', hrun, h2, h3⟩ := run_appendO t o.type ht hown (c := c) hr h63 hbase
  unfold Oper.wp execOp
  simp only [ho, resolve, invoke, builtin, Sem.run_bind, Sem.run_pure, Result.andThen_ok, List.map_toArray, List.map_cons, List.map_nil, hv, hx, hrun]
  exact h v' w' h2 h3
theorem Co.size {w : World} {B : Nat} {S : CoS} (h : Co w B S) : B ≤ w.heap.size := Nat.le_of_lt (Nat.lt_of_le_of_lt h.ge.1 h.lt)
/-- what a letter says, without where its nodes lie -/
def Le.core (e : Le) : Int × Int × Int × Int × Nat := (e.k, e.f, e.t, e.x, e.n)
def SdF (S : CoS) (w wr : World) (v : Value) : Prop := Only (fun j => j = S.c ∨ S.ov.ownBlock = some j) w wr ∧ ∀ j, v.ownBlock = some j → S.ov.ownBlock = some j ∨ w.heap.size ≤ j
/-- behind an append to the letters, and the store of the row -/
theorem send_end {w3 w4 w5 : World} {B : Nat} {S : CoS} {v' : Value} {e : Le} (h : Co w3 B S) (hb : Below w3.heap.size w3 w4) (hg : Grew w4 S.ov w5 v') (ho : OwnO w5 B v' (S.os ++ [e])) :
    Co (w5.setCell ⟨S.c, 6, none⟩ v') B { S with ov := v', os := S.os ++ [e] } ∧ SdF S w3 (w5.setCell ⟨S.c, 6, none⟩ v') v' := by
  have h4 := h.below hb
  have hlt4 := h4.lt
  have hO5 : Only (fun j => S.ov.ownBlock = some j) w4 w5 := (Only.of_grown hg.by_).more fun j _ hj => hj.symm
  have hO6 := Only.set w5 S.c 6 v'
  have hO : Only (fun j => j = S.c ∨ S.ov.ownBlock = some j) w4 (w5.setCell ⟨S.c, 6, none⟩ v') := (hO5.more (L := fun j => j = S.c ∨ S.ov.ownBlock = some j) fun j _ hj => .inr hj).trans hO6 fun j _ hj => .inl hj
  have hbx5 : w5.heap[S.c]? = _ := (hO5.block S.c hlt4 (fun hk => (h4.oc _ hk).1 rfl)).trans h4.box
  have hv' : ∀ j, v'.ownBlock = some j → S.ov.ownBlock = some j ∨ w4.heap.size ≤ j := fun j hj => by
    rcases hg.at_ with h1 | h1
    · rw [h1] at hj; exact .inl hj
    · exact .inr (h1 j hj)
  have hlog := h4.log
  have hK : ∀ j, (j = S.q ∨ j = S.p ∨ j = S.g ∨ j = S.d) → ¬ (j = S.c ∨ S.ov.ownBlock = some j) := fun j hj hk => by
    have hn := h.ne
    rcases hk with hk | hk
    · rw [hk] at hj; omega
    · have := h.no j hk; omega
  refine ⟨⟨(box7_set hbx5 v').2.2, hlog.only hO (hK _ (.inl rfl)) (hK _ (.inr (.inl rfl))) (hK _ (.inr (.inr (.inl rfl)))) (hK _ (.inr (.inr (.inr rfl)))), h4.map.kept (hO.block _ h4.map.lt fun hk => ?_), ho.kept fun k hk => ?_, h.ge, h.ne, h.nm, fun k hk => ?_, h.nod⟩, (Only.of_below hb).trans hO fun j _ hj => hj, fun j hj => (hv' j hj).imp id fun hz => Nat.le_trans hb.size hz⟩
  · rcases hk with hk | hk
    · exact h.cm hk.symm
    · exact (h4.oc _ hk).2 rfl
  · obtain ⟨cs, hh⟩ := ho.blk k hk
    refine hO6.block k (lt_of_heap hh) fun e => ?_
    rcases hv' k hk with h1 | h1
    · exact (h.oc k h1).1 e
    · omega
  · show k ≠ S.q ∧ k ≠ S.p ∧ k ≠ S.g ∧ k ≠ S.d
    rcases hv' k hk with h1 | h1
    · exact h.no k h1
    · have l1 := hlog.lt
      have l2 := hlog.disk.lt
      have l3 := hlog.disk.glt
      have l4 := hlog.dlt
      omega
theorem SdF.step {S : CoS} {w wr w3 w6 : World} {v v' : Value} (h : SdF S w wr v) (hb : Below wr.heap.size wr w3) (h2 : SdF { S with ov := v } w3 w6 v') : SdF S w w6 v' := by
  have hO : Only (fun j => j = S.c ∨ v.ownBlock = some j) wr w6 := (Only.of_below hb).trans h2.1 fun j _ hj => hj
  refine ⟨h.1.trans hO fun j hj hk => ?_, fun j hj => ?_⟩
  · rcases hk with hk | hk
    · exact .inl hk
    · rcases h.2 j hk with h3 | h3
      · exact .inr h3
      · omega
  · rcases h2.2 j hj with h3 | h3
    · exact h.2 j h3
    · exact .inr (Nat.le_trans h.1.size (Nat.le_trans hb.size h3))
theorem OwnI.sent {S : CoS} {w3 w6 : World} {B0 B : Nat} {v v' : Value} {ns : List Int} (h : OwnI w3 B0 v ns) (hc : Co w3 B S) (h2 : SdF S w3 w6 v') : OwnI w6 B0 v ns := by
  refine ⟨⟨h.1.1, ?_⟩, h.2⟩
  rcases h.1.2 with h1 | ⟨g, cap, cur, rfl, h3, h4, h5⟩
  · exact .inl h1
  · refine .inr ⟨g, cap, cur, rfl, h3, (h2.1.block g (lt_of_heap h4) fun hk => ?_).trans h4, h5⟩
    rcases hk with hk | hk
    · rw [hk, hc.box] at h4
      injection h4 with h4
      injection h4 with _ h6
      exact absurd h6 (by decide)
    · obtain ⟨cs, hh⟩ := hc.out.blk g hk
      rw [hh] at h4
      injection h4 with h4
      injection h4 with _ h6
      exact absurd h6 (by decide)
/-- what send leaves -/
def SnT (w : World) (B : Nat) (S : CoS) (k : Int) (x nn : Nat) (ns : List Int) (e : Ending) (w' : World) : Prop := e = .returned (.tuple #[]) ∧ ∃ v os1, Co w' B { S with ov := v, os := S.os ++ os1 } ∧ os1.map Le.core = ns.map (fun n => (k, (S.node : Int), n, (x : Int), nn)) ∧ SdF S w w' v
def SdL (w : World) (B : Nat) (S : CoS) (k : Int) (x nn : Nat) (ns : List Int) (A : Option Addr) (N c : Nat) (v14 : Value) (wr : World) : Prop := ∃ (i : Nat) (v : Value) (os1 : List Le), v14 = .int .i64 (i : Int) ∧ i ≤ N ∧ Co wr B { S with ov := v, os := S.os ++ os1 } ∧ os1.map Le.core = (ns.take i).map (fun n => (k, (S.node : Int), n, (x : Int), nn)) ∧ SdF S w wr v ∧ OwnI wr w.heap.size (.slice A N c) ns
theorem Only.set_other (w : World) (p i : Nat) (v : Value) (g : Nat) (h : p ≠ g) : (w.setCell ⟨p, i, none⟩ v).heap[g]? = w.heap[g]? := Below.heap_setCell _ _ _ _ (fun e => h e.symm)
theorem nodesI_len (b : Nat) : (nodesI b).length ≤ 16 := by
  unfold nodesI nodesN
  rw [List.length_map]
  exact Nat.le_trans (List.length_filter_le _ _) (by simp)
set_option maxRecDepth 100000 in
set_option maxHeartbeats 32000000 in
theorem send_no {w : World} {B : Nat} {S : CoS} (h : Co w B S) (k : Int) {x : Nat} (hk1 : k ≠ 1) {mk : Nat} (hmk : mk < 65536) (hos : S.os.length ≤ 50000) (nn : Nat) (hnn : 0 = nn) :
    Calls Try.prog 27 #[.pointer (some ⟨S.c, 0, none⟩), .int .i64 k, .int .i64 (x : Int), .int .i64 (mk : Int)] w (SnT w B S k x nn (nodesI mk)) := by
  have HNN := Lib.hid hnn
  have hkb : (k == 1) = false := by simpa using hk1
  have HLM := Lib.hid (fun W => list_any mk hmk W)
  have HNL : Hid ((nodesI mk).length ≤ 16) := Lib.hid (nodesI_len mk)
  obtain ⟨ns, hns⟩ : ∃ ns, ns = nodesI mk := ⟨_, rfl⟩
  rw [← hns] at HLM HNL ⊢
  obtain ⟨N, hN⟩ : ∃ N, ns.length = N := ⟨_, rfl⟩
  rw [hN] at HNL
  have HN := Lib.hid hN
  have hNi : (N : Int) ≤ 16 := by have := HNL.out; omega
  have HCO := Lib.hid h
  have HOS := Lib.hid hos
  clear h hk1 hnn hmk hos hns hN
  obtain ⟨X, hX⟩ : ∃ X : Int, X = (x : Int) := ⟨_, rfl⟩
  rw [← hX]
  have HX := Lib.hid hX
  obtain ⟨node, hnode⟩ : ∃ z : Int, z = (S.node : Int) := ⟨_, rfl⟩
  have HND := Lib.hid hnode
  clear hX hnode
  go_enter Try.func27, Try.ntmps27
  go_wp2_with (go_at_call 46; refine (HLM.out w).mono ?_; rintro e1 w1 ⟨v12, rfl, ho1, hb1⟩
               obtain ⟨A12, c12, rfl, _⟩ := id ho1.2
               rw [HN.out] at ho1 ⊢
               have HST : Hid (SdL w B S k x nn ns A12 N c12 (.int .i64 0) w1) := Lib.hid ⟨0, S.ov, [], rfl, Nat.zero_le _, by rw [List.append_nil]; exact HCO.out.below hb1, rfl, ⟨Only.of_below hb1, fun j hj => .inl hj⟩, ho1⟩
               clear ho1 hb1)
  go_loopw [14] (fun v14 wr => SdL w B S k x nn ns A12 N c12 v14 wr) (fun v14 _ => N - (intOf v14).toNat)
  case atStart => exact HST.out
  case round =>
    obtain ⟨i, v, os1, rfl, hi, hco, hcr, hsf, hoi⟩ := hrel
    by_cases hlt : i < N
    · have hlti : (i : Int) < (N : Int) := by omega
      obtain ⟨y, hy⟩ : ∃ y, ns[i]? = some y := ⟨_, List.getElem?_eq_getElem (by rw [HN.out]; exact hlt)⟩
      obtain ⟨b12, o12, hA, hb12, hc12⟩ := hoi.rd (fun e => by rw [e] at hy; simp at hy)
      subst hA
      have y0 := hc12 i y hy
      have hNc : (N : Int) ≤ (c12 : Int) := by
        obtain ⟨_, _, e, hle⟩ := hoi.2
        injection e with _ e2 e3
        rw [HN.out] at hle
        omega
      obtain ⟨c0, c1, c2, c3, c4, c5, c6⟩ := box7_ hco.box
      simp only at c0 c1 c2 c3 c4 c5 c6
      rw [← HND.out] at c0
      have HC := Lib.hid hco
      have HSF := Lib.hid hsf
      have HOI := Lib.hid hoi
      have HCR := Lib.hid hcr
      have HY := Lib.hid hy
      obtain ⟨AV, cV, hvv, _⟩ := id hco.out.2
      have HVV := Lib.hid hvv
      clear hvv
      have hlen : os1.length ≤ i := by have := congrArg List.length hcr; simp only [List.length_map, List.length_take] at this; omega
      have HLT := Lib.hid hlt
      obtain ⟨LB, hLB⟩ : ∃ LB, LB = wr.alloc (.cells #[.int .i64 k, .int .i64 node, .int .i64 y, .int .i64 X, .slice none 0 0] 46) := ⟨_, rfl⟩
      have hbx0 := heap_alloc_new wr (.cells #[.int .i64 k, .int .i64 node, .int .i64 y, .int .i64 X, .slice none 0 0] 46)
      have hbl := alloc_below wr (.cells #[.int .i64 k, .int .i64 node, .int .i64 y, .int .i64 X, .slice none 0 0] 46)
      have HBX0 := Lib.hid hbx0
      have HBL := Lib.hid hbl
      clear hi hco hcr hsf hoi hc12 hb12 hbx0 hbl hLB LB hy hlt
      go_upto_region 6 with fail
      obtain ⟨W3, hW3⟩ : ∃ W3, Hid (W3 = wr.alloc (.cells #[.int .i64 k, .int .i64 node, .int .i64 y, .int .i64 X, .slice none 0 0] 46)) := ⟨_, Lib.hid rfl⟩
      rw [← hW3.out]
      obtain ⟨AN, hAN⟩ : ∃ AN : Option Addr, AN = none := ⟨_, rfl⟩
      obtain ⟨cN, hcN⟩ : ∃ cN : Nat, cN = 0 := ⟨_, rfl⟩
      have hb3 : Below wr.heap.size wr W3 := by rw [hW3.out]; exact HBL.out
      have hbx3 : W3.heap[wr.heap.size]? = some (.cells #[.int .i64 k, .int .i64 node, .int .i64 y, .int .i64 X, .slice AN nn cN] 46 (0, 0)) := by rw [hW3.out, hAN, hcN, ← HNN.out]; exact HBX0.out
      clear c0 c1 c2 c3 c4 c5 c6
      obtain ⟨gb, hgb⟩ : ∃ gb, gb = wr.heap.size := ⟨_, rfl⟩
      rw [← hgb] at hbx3
      have hc3 := HC.out.below hb3
      have HCC := Lib.hid hc3
      have HB3 := Lib.hid hb3
      have hgn : ∀ j, v.ownBlock = some j → j ≠ gb := fun j hj e => by
        obtain ⟨cs, hh⟩ := HC.out.out.blk j hj
        have := lt_of_heap hh
        omega
      have hcb : S.c ≠ gb := fun e => by have := HC.out.lt; simp only at this; omega
      have HC6 : Hid (∀ W, Below W3.heap.size W3 W → W.cell? ⟨S.c, 6, none⟩ = some v) := Lib.hid fun W hb => (box7_ (hc3.below hb).box).2.2.2.2.2.2
      have HSS : Hid (∀ W, Below W3.heap.size W3 W → (fun W : World => W.cell? ⟨gb, 0, none⟩ = some (.int .i64 k) ∧ W.cell? ⟨gb, 1, none⟩ = some (.int .i64 node) ∧ W.cell? ⟨gb, 2, none⟩ = some (.int .i64 y) ∧ W.cell? ⟨gb, 3, none⟩ = some (.int .i64 X) ∧ W.cell? ⟨gb, 4, none⟩ = some (.slice AN nn cN)) W) := Lib.hid fun W hb => box5 ((hb.block gb (lt_of_heap hbx3)).trans hbx3)
      have HO3 : Hid (∀ W, Below W3.heap.size W3 W → OwnO W B v (S.os ++ os1)) := Lib.hid fun W hb => (hc3.below hb).out
      have HOL : Hid ((S.os ++ os1).length ≤ 60000) := Lib.hid (by rw [List.length_append]; have := HOS.out; have := HNL.out; have := HLT.out; omega)
      have HBS : Hid (B ≤ W3.heap.size) := Lib.hid hc3.size
      have HSK : Hid (∀ (W4 w5 : World) (v5 : Value), Below W3.heap.size W3 W4 → Grew W4 v w5 v5 → (fun W : World => W.cell? ⟨gb, 0, none⟩ = some (.int .i64 k) ∧ W.cell? ⟨gb, 1, none⟩ = some (.int .i64 node) ∧ W.cell? ⟨gb, 2, none⟩ = some (.int .i64 y) ∧ W.cell? ⟨gb, 3, none⟩ = some (.int .i64 X) ∧ W.cell? ⟨gb, 4, none⟩ = some (.slice AN nn cN)) w5) := Lib.hid fun W4 w5 v5 hb hg => by
        have h1 := (hb.block gb (lt_of_heap hbx3)).trans hbx3
        exact box5 ((hg.by_.block gb (lt_of_heap h1) (fun e => hgn gb e.symm rfl)).trans h1)
      have HBX : Hid (∀ (W4 w5 : World) (v5 : Value), Below W3.heap.size W3 W4 → Grew W4 v w5 v5 → w5.cell? ⟨S.c, 6, none⟩ = some v ∧ w5.frozen? ⟨S.c, 6, none⟩ = false) := Lib.hid fun W4 w5 v5 hb hg => by
        have h1 := hc3.below hb
        have h2 := (hg.by_.block S.c h1.lt (fun e => (h1.oc S.c e.symm).1 rfl)).trans h1.box
        exact ⟨(box7_ h2).2.2.2.2.2.2, frozen_of h2 6⟩
      have HSE : Hid (∀ (w5 : World) (v5 : Value), (fun W : World => W.cell? ⟨gb, 0, none⟩ = some (.int .i64 k) ∧ W.cell? ⟨gb, 1, none⟩ = some (.int .i64 node) ∧ W.cell? ⟨gb, 2, none⟩ = some (.int .i64 y) ∧ W.cell? ⟨gb, 3, none⟩ = some (.int .i64 X) ∧ W.cell? ⟨gb, 4, none⟩ = some (.slice AN nn cN)) w5 → (fun W : World => W.cell? ⟨gb, 0, none⟩ = some (.int .i64 k) ∧ W.cell? ⟨gb, 1, none⟩ = some (.int .i64 node) ∧ W.cell? ⟨gb, 2, none⟩ = some (.int .i64 y) ∧ W.cell? ⟨gb, 3, none⟩ = some (.int .i64 X) ∧ W.cell? ⟨gb, 4, none⟩ = some (.slice AN nn cN)) (w5.setCell ⟨S.c, 6, none⟩ v5)) := Lib.hid fun w5 v5 hs => by
        have e : ∀ j, (w5.setCell ⟨S.c, 6, none⟩ v5).cell? ⟨gb, j, none⟩ = w5.cell? ⟨gb, j, none⟩ := fun j => World.cell?_of_block (a := ⟨gb, j, none⟩) ((Only.set_other w5 S.c 6 v5 gb hcb))
        simp only [e]
        exact hs
      have HEND : Hid (∀ (W4 : World) (v5 : Value) (w5 : World), Below W3.heap.size W3 W4 → Grew W4 v w5 v5 → OwnO w5 B v5 ((S.os ++ os1) ++ [⟨k, node, y, X, AN, nn, cN⟩]) → ∀ v14, v14 = .int .i64 ((i + 1 : Nat) : Int) → SdL w B S k x nn ns (some ⟨b12, o12, none⟩) N c12 v14 (w5.setCell ⟨S.c, 6, none⟩ v5)) := Lib.hid fun W4 v5 w5 hb hg ho v14 h14 => by
        obtain ⟨h1, h2⟩ := send_end hc3 hb hg ho
        refine ⟨i + 1, v5, os1 ++ [⟨k, node, y, X, AN, nn, cN⟩], h14, HLT.out, by rw [← List.append_assoc]; exact h1, ?_, HSF.out.step HB3.out h2, (HOI.out.below HB3.out).sent hc3 h2⟩
        rw [List.take_add_one, HY.out, Option.toList_some, List.map_append, List.map_append, HCR.out]
        simp only [List.map_cons, List.map_nil, Le.core, HND.out, HX.out]
      obtain ⟨os, hos⟩ : ∃ os, os = S.os ++ os1 := ⟨_, rfl⟩
      rw [← hos] at HO3 HOL HEND
      have HVV2 : v = .slice AV os.length cV := by rw [hos]; exact HVV.out
      clear HVV
      subst HVV2
      have hSS := HSS.out _ (drew_below W3)
      rw [← hgb]
      clear hc3 hb3 hbx3 hgn hcb hgb hos hAN hcN
      refine wp_region_held_drew (S := (fun W : World => W.cell? ⟨gb, 0, none⟩ = some (.int .i64 k) ∧ W.cell? ⟨gb, 1, none⟩ = some (.int .i64 node) ∧ W.cell? ⟨gb, 2, none⟩ = some (.int .i64 y) ∧ W.cell? ⟨gb, 3, none⟩ = some (.int .i64 X) ∧ W.cell? ⟨gb, 4, none⟩ = some (.slice AN nn cN))) (by kernel_rfl) hSS (fun _ => ?_)
      refine wpAnyH_take (i := 0) (oi := ({ dst := Option.some 37, op := Go.Op.move (Go.Operand.tmp 0), type := 28, pos := "decision.go:81", after := #[], guard := Option.none } : Oper)) (v := ?v0x1) rfl (by kernel_rfl) (by kernel_rfl) (by kernel_rfl) (fun _ _ _ h => h) (Or.inl ⟨by rfl, ?hy0x1⟩) hSS ?rest0x1
      case hy0x1 =>
        intro W0 hSw
        obtain ⟨s0, s1, s2, s3, s4⟩ := hSw
        go_simp
        first | done | with_reducible rfl
      try simp only [Act.put, List.setIfInBounds_toArray, List.set_cons_zero, List.set_cons_succ]
      refine wpAnyH_take (i := 1) (oi := ({ dst := Option.some 38, op := Go.Op.move (Go.Operand.tmp 0), type := 28, pos := "decision.go:81", after := #[], guard := Option.none } : Oper)) (v := ?v1x2) rfl (by kernel_rfl) (by kernel_rfl) (by kernel_rfl) (fun _ _ _ h => h) (Or.inl ⟨by rfl, ?hy1x2⟩) hSS ?rest1x2
      case hy1x2 =>
        intro W0 hSw
        obtain ⟨s0, s1, s2, s3, s4⟩ := hSw
        go_simp
        first | done | with_reducible rfl
      try simp only [Act.put, List.setIfInBounds_toArray, List.set_cons_zero, List.set_cons_succ]
      refine wpAnyH_take (i := 2) (oi := ({ dst := Option.some 39, op := Go.Op.nilCheck (Go.Operand.tmp 38), type := 0, pos := "decision.go:81", after := #[{ on := 1, ground := Go.Ground.data }], guard := Option.none } : Oper)) (v := ?v2x3) rfl (by kernel_rfl) (by kernel_rfl) (by kernel_rfl) (fun _ _ _ h => h) (Or.inl ⟨by rfl, ?hy2x3⟩) hSS ?rest2x3
      case hy2x3 =>
        intro W0 hSw
        obtain ⟨s0, s1, s2, s3, s4⟩ := hSw
        go_simp
        first | done | with_reducible rfl
      try simp only [Act.put, List.setIfInBounds_toArray, List.set_cons_zero, List.set_cons_succ]
      refine wpAnyH_take (i := 3) (oi := ({ dst := Option.some 40, op := Go.Op.fieldAddr 63 (Go.Operand.tmp 39) 6, type := 0, pos := "decision.go:81", after := #[{ on := 2, ground := Go.Ground.data }], guard := Option.none } : Oper)) (v := ?v3x4) rfl (by kernel_rfl) (by kernel_rfl) (by kernel_rfl) (fun _ _ _ h => h) (Or.inl ⟨by rfl, ?hy3x4⟩) hSS ?rest3x4
      case hy3x4 =>
        intro W0 hSw
        obtain ⟨s0, s1, s2, s3, s4⟩ := hSw
        go_simp
        first | done | with_reducible rfl
      try simp only [Act.put, List.setIfInBounds_toArray, List.set_cons_zero, List.set_cons_succ]
      refine wpAnyH_take (i := 5) (oi := ({ dst := Option.some 42, op := Go.Op.load 46 (Go.Operand.tmp 10), type := 46, pos := "decision.go:81", after := #[], guard := Option.none } : Oper)) (v := ?v5x5) rfl (by kernel_rfl) (by kernel_rfl) (by kernel_rfl) (fun _ _ _ h => h) (Or.inl ⟨by rfl, ?hy5x5⟩) hSS ?rest5x5
      case hy5x5 =>
        intro W0 hSw
        obtain ⟨s0, s1, s2, s3, s4⟩ := hSw
        go_simp
        first | done | with_reducible rfl
      try simp only [Act.put, List.setIfInBounds_toArray, List.set_cons_zero, List.set_cons_succ]
      refine wpAnyH_ready (rs := [4, 6]) (by kernel_rfl) (by simp) ?_
      refine AllReadyH.cons (o := ({ dst := Option.some 41, op := Go.Op.load 37 (Go.Operand.tmp 40), type := 37, pos := "decision.go:81", after := #[{ on := 3, ground := Go.Ground.data }], guard := Option.none } : Oper)) rfl (fun K0 hK0 => ?_) (AllReadyH.cons (o := ({ dst := Option.some 43, op := Go.Op.buildSlice 37 1 #[(0, Go.Operand.tmp 42)], type := 37, pos := "decision.go:81", after := #[{ on := 5, ground := Go.Ground.data }], guard := Option.none } : Oper)) rfl (fun K0 hK0 => ?_) AllReadyH.nil)
      · have c6 := HC6.out _ (drew_below W3)
        go_simp
        refine hK0.out _ _ hSS (fun _ => ?_)
        clear c6
        clear hK0 K0
        try simp only [Act.put, List.setIfInBounds_toArray, List.set_cons_zero, List.set_cons_succ]
        refine wpAnyH_ready (rs := [6]) (by kernel_rfl) (by simp) ?_
        refine AllReadyH.cons (o := ({ dst := Option.some 43, op := Go.Op.buildSlice 37 1 #[(0, Go.Operand.tmp 42)], type := 37, pos := "decision.go:81", after := #[{ on := 5, ground := Go.Ground.data }], guard := Option.none } : Oper)) rfl (fun K0 hK0 => ?_) AllReadyH.nil
        go_simp
        have HB4 : Hid (Below W3.heap.size W3 (W3.drew.alloc (.cells #[.int .i64 k, .int .i64 node, .int .i64 y, .int .i64 X, .slice AN nn cN] 46))) := Lib.hid ((drew_below W3).trans (alloc_below W3.drew _))
        have hSS := HSS.out _ HB4.out
        refine hK0.out _ _ hSS (fun _ => ?_)
        clear hK0 K0
        try simp only [Act.put, List.setIfInBounds_toArray, List.set_cons_zero, List.set_cons_succ]
        refine wpAnyH_ready (rs := [7]) (by kernel_rfl) (by simp) ?_
        refine AllReadyH.cons (o := ({ dst := Option.some 44, op := Go.Op.call { callee := Go.Callee.builtin Go.Builtin.append, args := #[Go.Operand.tmp 41, Go.Operand.tmp 43], argTypes := #[37, 37] }, type := 37, pos := "decision.go:81", after := #[{ on := 4, ground := Go.Ground.data }, { on := 6, ground := Go.Ground.data }], guard := Option.none } : Oper)) rfl (fun K0 hK0 => ?_) AllReadyH.nil
        have HB7 : Hid (Below W3.heap.size W3 (W3.drew.alloc (.cells #[.int .i64 k, .int .i64 node, .int .i64 y, .int .i64 X, .slice AN nn cN] 46))) := HB4
        refine step_appO (v := .slice AV os.length cV) (xs := os) (ys := [⟨k, node, y, X, AN, nn, cN⟩]) (B := B) rfl _ _ 37 rfl Try.underlying37 rfl (HO3.out _ HB7.out) rfl rfl (show RdO (W3.drew.alloc (.cells #[.int .i64 k, .int .i64 node, .int .i64 y, .int .i64 X, .slice AN nn cN] 46)) W3.heap.size [⟨k, node, y, X, AN, nn, cN⟩] from rd_oneO W3.drew ⟨k, node, y, X, AN, nn, cN⟩) (by have := HOL.out; simp; omega) (Nat.le_trans HBS.out HB7.out.size) ?_
        intro v5 w5 ho5 hg5
        obtain ⟨A5, c5, hv5, _⟩ := id ho5.2
        have HE5 := Lib.hid (HEND.out _ _ _ HB7.out hg5 ho5)
        have hSS := HSK.out _ _ _ HB7.out hg5
        obtain ⟨s6, s7⟩ := HBX.out _ _ _ HB7.out hg5
        have HSE5 := Lib.hid (HSE.out w5 v5 hSS)
        have hv6 : v5 = .slice A5 (os.length + 1) c5 := by rw [hv5, List.length_append]; rfl
        clear hv5
        rw [hv6] at HE5 HSE5
        subst hv6
        refine hK0.out _ _ hSS (fun _ => ?_)
        clear ho5 hg5
        clear hK0 K0
        try simp only [Act.put, List.setIfInBounds_toArray, List.set_cons_zero, List.set_cons_succ]
        refine wpAnyH_take (i := 8) (oi := ({ dst := Option.some 45, op := Go.Op.nilCheck (Go.Operand.tmp 37), type := 0, pos := "decision.go:81", after := #[{ on := 0, ground := Go.Ground.data }, { on := 0, ground := Go.Ground.phase }, { on := 1, ground := Go.Ground.phase }, { on := 2, ground := Go.Ground.phase }, { on := 3, ground := Go.Ground.phase }, { on := 4, ground := Go.Ground.phase }, { on := 5, ground := Go.Ground.phase }, { on := 6, ground := Go.Ground.phase }, { on := 7, ground := Go.Ground.phase }], guard := Option.none } : Oper)) (v := ?v8x6) rfl (by kernel_rfl) (by kernel_rfl) (by kernel_rfl) (fun _ _ _ h => h) (Or.inl ⟨by rfl, ?hy8x6⟩) hSS ?rest8x6
        case hy8x6 =>
          intro W0 hSw
          obtain ⟨s0, s1, s2, s3, s4⟩ := hSw
          go_simp
          first | done | with_reducible rfl
        try simp only [Act.put, List.setIfInBounds_toArray, List.set_cons_zero, List.set_cons_succ]
        refine wpAnyH_take (i := 9) (oi := ({ dst := Option.some 46, op := Go.Op.fieldAddr 63 (Go.Operand.tmp 45) 6, type := 0, pos := "decision.go:81", after := #[{ on := 8, ground := Go.Ground.data }, { on := 0, ground := Go.Ground.phase }, { on := 1, ground := Go.Ground.phase }, { on := 2, ground := Go.Ground.phase }, { on := 3, ground := Go.Ground.phase }, { on := 4, ground := Go.Ground.phase }, { on := 5, ground := Go.Ground.phase }, { on := 6, ground := Go.Ground.phase }, { on := 7, ground := Go.Ground.phase }], guard := Option.none } : Oper)) (v := ?v9x7) rfl (by kernel_rfl) (by kernel_rfl) (by kernel_rfl) (fun _ _ _ h => h) (Or.inl ⟨by rfl, ?hy9x7⟩) hSS ?rest9x7
        case hy9x7 =>
          intro W0 hSw
          obtain ⟨s0, s1, s2, s3, s4⟩ := hSw
          go_simp
          first | done | with_reducible rfl
        try simp only [Act.put, List.setIfInBounds_toArray, List.set_cons_zero, List.set_cons_succ]
        refine wpAnyH_ready (rs := [10]) (by kernel_rfl) (by simp) ?_
        refine AllReadyH.cons (o := ({ dst := Option.none, op := Go.Op.store 37 (Go.Operand.tmp 46) (Go.Operand.tmp 44), type := 0, pos := "decision.go:81", after := #[{ on := 9, ground := Go.Ground.data }, { on := 7, ground := Go.Ground.data }, { on := 7, ground := Go.Ground.chain }, { on := 0, ground := Go.Ground.phase }, { on := 1, ground := Go.Ground.phase }, { on := 2, ground := Go.Ground.phase }, { on := 3, ground := Go.Ground.phase }, { on := 4, ground := Go.Ground.phase }, { on := 5, ground := Go.Ground.phase }, { on := 6, ground := Go.Ground.phase }, { on := 7, ground := Go.Ground.phase }], guard := Option.none } : Oper)) rfl (fun K0 hK0 => ?_) AllReadyH.nil
        go_simp
        refine hK0.out _ _ HSE5.out (fun _ => ?_)
        clear hK0 K0
        try simp only [Act.put, List.setIfInBounds_toArray, List.set_cons_zero, List.set_cons_succ]
        refine wpAnyH_done (by kernel_rfl) ?_ _
        go_wp2_with fail
        go_roundw
        case rel => first | exact HE5.out _ (by go_num) | ((repeat apply Exists.intro); exact ⟨HE5.out _ (by go_num), rfl⟩)
        case measure => simp [intOf]; omega
      · go_simp
        have HB4 : Hid (Below W3.heap.size W3 (W3.drew.alloc (.cells #[.int .i64 k, .int .i64 node, .int .i64 y, .int .i64 X, .slice AN nn cN] 46))) := Lib.hid ((drew_below W3).trans (alloc_below W3.drew _))
        have hSS := HSS.out _ HB4.out
        refine hK0.out _ _ hSS (fun _ => ?_)
        clear hK0 K0
        try simp only [Act.put, List.setIfInBounds_toArray, List.set_cons_zero, List.set_cons_succ]
        refine wpAnyH_ready (rs := [4]) (by kernel_rfl) (by simp) ?_
        refine AllReadyH.cons (o := ({ dst := Option.some 41, op := Go.Op.load 37 (Go.Operand.tmp 40), type := 37, pos := "decision.go:81", after := #[{ on := 3, ground := Go.Ground.data }], guard := Option.none } : Oper)) rfl (fun K0 hK0 => ?_) AllReadyH.nil
        have c6 : (W3.alloc (.cells #[.int .i64 k, .int .i64 node, .int .i64 y, .int .i64 X, .slice AN nn cN] 46)).drew.cell? ⟨S.c, 6, none⟩ = some (.slice AV os.length cV) := HC6.out _ HB4.out
        go_simp
        refine hK0.out _ _ hSS (fun _ => ?_)
        clear c6
        clear hK0 K0
        try simp only [Act.put, List.setIfInBounds_toArray, List.set_cons_zero, List.set_cons_succ]
        refine wpAnyH_ready (rs := [7]) (by kernel_rfl) (by simp) ?_
        refine AllReadyH.cons (o := ({ dst := Option.some 44, op := Go.Op.call { callee := Go.Callee.builtin Go.Builtin.append, args := #[Go.Operand.tmp 41, Go.Operand.tmp 43], argTypes := #[37, 37] }, type := 37, pos := "decision.go:81", after := #[{ on := 4, ground := Go.Ground.data }, { on := 6, ground := Go.Ground.data }], guard := Option.none } : Oper)) rfl (fun K0 hK0 => ?_) AllReadyH.nil
        have HB7 : Hid (Below W3.heap.size W3 ((W3.alloc (.cells #[.int .i64 k, .int .i64 node, .int .i64 y, .int .i64 X, .slice AN nn cN] 46)).drew)) := HB4
        refine step_appO (v := .slice AV os.length cV) (xs := os) (ys := [⟨k, node, y, X, AN, nn, cN⟩]) (B := B) rfl _ _ 37 rfl Try.underlying37 rfl (HO3.out _ HB7.out) rfl rfl (show RdO ((W3.alloc (.cells #[.int .i64 k, .int .i64 node, .int .i64 y, .int .i64 X, .slice AN nn cN] 46)).drew) W3.heap.size [⟨k, node, y, X, AN, nn, cN⟩] from rd_oneO W3.drew ⟨k, node, y, X, AN, nn, cN⟩) (by have := HOL.out; simp; omega) (Nat.le_trans HBS.out HB7.out.size) ?_
        intro v5 w5 ho5 hg5
        obtain ⟨A5, c5, hv5, _⟩ := id ho5.2
        have HE5 := Lib.hid (HEND.out _ _ _ HB7.out hg5 ho5)
        have hSS := HSK.out _ _ _ HB7.out hg5
        obtain ⟨s6, s7⟩ := HBX.out _ _ _ HB7.out hg5
        have HSE5 := Lib.hid (HSE.out w5 v5 hSS)
        have hv6 : v5 = .slice A5 (os.length + 1) c5 := by rw [hv5, List.length_append]; rfl
        clear hv5
        rw [hv6] at HE5 HSE5
        subst hv6
        refine hK0.out _ _ hSS (fun _ => ?_)
        clear ho5 hg5
        clear hK0 K0
        try simp only [Act.put, List.setIfInBounds_toArray, List.set_cons_zero, List.set_cons_succ]
        refine wpAnyH_take (i := 8) (oi := ({ dst := Option.some 45, op := Go.Op.nilCheck (Go.Operand.tmp 37), type := 0, pos := "decision.go:81", after := #[{ on := 0, ground := Go.Ground.data }, { on := 0, ground := Go.Ground.phase }, { on := 1, ground := Go.Ground.phase }, { on := 2, ground := Go.Ground.phase }, { on := 3, ground := Go.Ground.phase }, { on := 4, ground := Go.Ground.phase }, { on := 5, ground := Go.Ground.phase }, { on := 6, ground := Go.Ground.phase }, { on := 7, ground := Go.Ground.phase }], guard := Option.none } : Oper)) (v := ?v8x8) rfl (by kernel_rfl) (by kernel_rfl) (by kernel_rfl) (fun _ _ _ h => h) (Or.inl ⟨by rfl, ?hy8x8⟩) hSS ?rest8x8
        case hy8x8 =>
          intro W0 hSw
          obtain ⟨s0, s1, s2, s3, s4⟩ := hSw
          go_simp
          first | done | with_reducible rfl
        try simp only [Act.put, List.setIfInBounds_toArray, List.set_cons_zero, List.set_cons_succ]
        refine wpAnyH_take (i := 9) (oi := ({ dst := Option.some 46, op := Go.Op.fieldAddr 63 (Go.Operand.tmp 45) 6, type := 0, pos := "decision.go:81", after := #[{ on := 8, ground := Go.Ground.data }, { on := 0, ground := Go.Ground.phase }, { on := 1, ground := Go.Ground.phase }, { on := 2, ground := Go.Ground.phase }, { on := 3, ground := Go.Ground.phase }, { on := 4, ground := Go.Ground.phase }, { on := 5, ground := Go.Ground.phase }, { on := 6, ground := Go.Ground.phase }, { on := 7, ground := Go.Ground.phase }], guard := Option.none } : Oper)) (v := ?v9x9) rfl (by kernel_rfl) (by kernel_rfl) (by kernel_rfl) (fun _ _ _ h => h) (Or.inl ⟨by rfl, ?hy9x9⟩) hSS ?rest9x9
        case hy9x9 =>
          intro W0 hSw
          obtain ⟨s0, s1, s2, s3, s4⟩ := hSw
          go_simp
          first | done | with_reducible rfl
        try simp only [Act.put, List.setIfInBounds_toArray, List.set_cons_zero, List.set_cons_succ]
        refine wpAnyH_ready (rs := [10]) (by kernel_rfl) (by simp) ?_
        refine AllReadyH.cons (o := ({ dst := Option.none, op := Go.Op.store 37 (Go.Operand.tmp 46) (Go.Operand.tmp 44), type := 0, pos := "decision.go:81", after := #[{ on := 9, ground := Go.Ground.data }, { on := 7, ground := Go.Ground.data }, { on := 7, ground := Go.Ground.chain }, { on := 0, ground := Go.Ground.phase }, { on := 1, ground := Go.Ground.phase }, { on := 2, ground := Go.Ground.phase }, { on := 3, ground := Go.Ground.phase }, { on := 4, ground := Go.Ground.phase }, { on := 5, ground := Go.Ground.phase }, { on := 6, ground := Go.Ground.phase }, { on := 7, ground := Go.Ground.phase }], guard := Option.none } : Oper)) rfl (fun K0 hK0 => ?_) AllReadyH.nil
        go_simp
        refine hK0.out _ _ HSE5.out (fun _ => ?_)
        clear hK0 K0
        try simp only [Act.put, List.setIfInBounds_toArray, List.set_cons_zero, List.set_cons_succ]
        refine wpAnyH_done (by kernel_rfl) ?_ _
        go_wp2_with fail
        go_roundw
        case rel => first | exact HE5.out _ (by go_num) | ((repeat apply Exists.intro); exact ⟨HE5.out _ (by go_num), rfl⟩)
        case measure => simp [intOf]; omega
    · have hie : i = N := by omega
      have htk : ns.take i = ns := List.take_of_length_le (by rw [HN.out]; omega)
      rw [htk] at hcr
      have HE : Hid (SnT w B S k x nn ns (.returned (.tuple #[])) wr) := Lib.hid ⟨rfl, v, os1, hco, hcr, hsf⟩
      have hlti : ¬ (i : Int) < (N : Int) := by omega
      clear hlt hi hie htk hco hcr hsf hoi
      go_wp2_with fail
      refine bodyPost_end (v := .tuple #[]) (by simp [results, Try.results27, go_sem]) rfl ?_
      exact HE.out
set_option maxRecDepth 100000 in
set_option maxHeartbeats 32000000 in
theorem send_yes {w : World} {B : Nat} {S : CoS} (h : Co w B S) (k : Int) {x : Nat} (hx : i64ok (x : Int)) (hkk : k = 1) (e : Te) (he : findT S.T x = some e) (hea : e.a < 65536) {mk : Nat} (hmk : mk < 65536) (hos : S.os.length ≤ 50000) (nn : Nat) (hnn : (nodesI e.a).length = nn) :
    Calls Try.prog 27 #[.pointer (some ⟨S.c, 0, none⟩), .int .i64 k, .int .i64 (x : Int), .int .i64 (mk : Int)] w (SnT w B S k x nn (nodesI mk)) := by
  have HKK := Lib.hid hkk
  have HLI := Lib.hid (fun W => list_any e.a hea W)
  have HNN := Lib.hid hnn
  have q1 := fieldT1
  have hkb : (k == 1) = true := by rw [hkk]; rfl
  have HLM := Lib.hid (fun W => list_any mk hmk W)
  have HNL : Hid ((nodesI mk).length ≤ 16) := Lib.hid (nodesI_len mk)
  obtain ⟨ns, hns⟩ : ∃ ns, ns = nodesI mk := ⟨_, rfl⟩
  rw [← hns] at HLM HNL ⊢
  obtain ⟨N, hN⟩ : ∃ N, ns.length = N := ⟨_, rfl⟩
  rw [hN] at HNL
  have HN := Lib.hid hN
  have hNi : (N : Int) ≤ 16 := by have := HNL.out; omega
  have HCO := Lib.hid h
  have HOS := Lib.hid hos
  have HLK : Hid (∀ W v os, Co W B { S with ov := v, os := os } → (Instr.lookup 61 (.map (some S.m)) (.int .i64 (x : Int)) false).run Try.prog W = .ok (.agg #[.int .i64 (e.s : Int), .int .i64 (e.a : Int), .int .i64 (e.o : Int), .int .i64 (e.y : Int), .int .i64 (e.t : Int)]) W) := Lib.hid fun W v os hc => by
    have h1 := hc.map.look hx
    unfold stT at h1
    simp only [he, Te.v, teV] at h1
    exact h1
  clear h hx he hea hnn hkk hmk hos hns hN
  obtain ⟨X, hX⟩ : ∃ X : Int, X = (x : Int) := ⟨_, rfl⟩
  rw [← hX] at HLK ⊢
  have HX := Lib.hid hX
  obtain ⟨node, hnode⟩ : ∃ z : Int, z = (S.node : Int) := ⟨_, rfl⟩
  have HND := Lib.hid hnode
  clear hX hnode
  go_enter Try.func27, Try.ntmps27
  go_wp2_with (go_at_call 46; refine (HLM.out w).mono ?_; rintro e1 w1 ⟨v12, rfl, ho1, hb1⟩
               obtain ⟨A12, c12, rfl, _⟩ := id ho1.2
               rw [HN.out] at ho1 ⊢
               have HST : Hid (SdL w B S k x nn ns A12 N c12 (.int .i64 0) w1) := Lib.hid ⟨0, S.ov, [], rfl, Nat.zero_le _, by rw [List.append_nil]; exact HCO.out.below hb1, rfl, ⟨Only.of_below hb1, fun j hj => .inl hj⟩, ho1⟩
               clear ho1 hb1)
  go_loopw [14] (fun v14 wr => SdL w B S k x nn ns A12 N c12 v14 wr) (fun v14 _ => N - (intOf v14).toNat)
  case atStart => exact HST.out
  case round =>
    obtain ⟨i, v, os1, rfl, hi, hco, hcr, hsf, hoi⟩ := hrel
    by_cases hlt : i < N
    · have hlti : (i : Int) < (N : Int) := by omega
      obtain ⟨y, hy⟩ : ∃ y, ns[i]? = some y := ⟨_, List.getElem?_eq_getElem (by rw [HN.out]; exact hlt)⟩
      obtain ⟨b12, o12, hA, hb12, hc12⟩ := hoi.rd (fun e => by rw [e] at hy; simp at hy)
      subst hA
      have y0 := hc12 i y hy
      have hNc : (N : Int) ≤ (c12 : Int) := by
        obtain ⟨_, _, e, hle⟩ := hoi.2
        injection e with _ e2 e3
        rw [HN.out] at hle
        omega
      obtain ⟨c0, c1, c2, c3, c4, c5, c6⟩ := box7_ hco.box
      simp only at c0 c1 c2 c3 c4 c5 c6
      rw [← HND.out] at c0
      have HC := Lib.hid hco
      have HSF := Lib.hid hsf
      have HOI := Lib.hid hoi
      have HCR := Lib.hid hcr
      have HY := Lib.hid hy
      obtain ⟨AV, cV, hvv, _⟩ := id hco.out.2
      have HVV := Lib.hid hvv
      clear hvv
      have hlen : os1.length ≤ i := by have := congrArg List.length hcr; simp only [List.length_map, List.length_take] at this; omega
      have HLT := Lib.hid hlt
      obtain ⟨LB, hLB⟩ : ∃ LB, LB = wr.alloc (.cells #[.int .i64 k, .int .i64 node, .int .i64 y, .int .i64 X, .slice none 0 0] 46) := ⟨_, rfl⟩
      have hbx0 := heap_alloc_new wr (.cells #[.int .i64 k, .int .i64 node, .int .i64 y, .int .i64 X, .slice none 0 0] 46)
      have hbl := alloc_below wr (.cells #[.int .i64 k, .int .i64 node, .int .i64 y, .int .i64 X, .slice none 0 0] 46)
      obtain ⟨d0, d1, d2, d3, d4, d5, d6⟩ := box7_ (hco.below hbl).box
      simp only at d0 d1 d2 d3 d4 d5 d6
      have hlk := HLK.out _ v (S.os ++ os1) (hco.below hbl)
      have HBX0 := Lib.hid hbx0
      have HBL := Lib.hid hbl
      clear hi hco hcr hsf hoi hc12 hb12 hbx0 hbl hLB LB hy hlt d0 d1 d2 d3 d4 d6
      go_upto_region 6 with (go_at_call 46; refine (HLI.out _).mono ?_; rintro e1 w5 ⟨v35, rfl, ho5, hb5⟩
                             obtain ⟨AN, cN, rfl, _⟩ := id ho5.2
                             rw [HNN.out]
                             have hbx5 := (hb5.block wr.heap.size (by simp)).trans HBX0.out
                             have f5 := frozen_of hbx5 4
                             obtain ⟨z0, z1, z2, z3, z4⟩ := box5 hbx5
                             have HBX5 := Lib.hid hbx5
                             have HB5 := Lib.hid (HBL.out.trans (hb5.mono HBL.out.size))
                             clear ho5 hb5 hbx5)
      obtain ⟨W3, hW3⟩ : ∃ W3, Hid (W3 = w5.setCell ⟨wr.heap.size, 4, none⟩ (.slice AN nn cN)) := ⟨_, Lib.hid rfl⟩
      rw [← hW3.out]
      have hb3 : Below wr.heap.size wr W3 := by rw [hW3.out]; exact HB5.out.setCell (by simp) _
      have hbx3 : W3.heap[wr.heap.size]? = some (.cells #[.int .i64 k, .int .i64 node, .int .i64 y, .int .i64 X, .slice AN nn cN] 46 (0, 0)) := by rw [hW3.out]; simp [World.setCell, Array.getElem?_modify, HBX5.out]
      clear c0 c1 c2 c3 c4 c5 c6 d5 hlk f5 z0 z1 z2 z3 z4
      obtain ⟨gb, hgb⟩ : ∃ gb, gb = wr.heap.size := ⟨_, rfl⟩
      rw [← hgb] at hbx3
      have hc3 := HC.out.below hb3
      have HCC := Lib.hid hc3
      have HB3 := Lib.hid hb3
      have hgn : ∀ j, v.ownBlock = some j → j ≠ gb := fun j hj e => by
        obtain ⟨cs, hh⟩ := HC.out.out.blk j hj
        have := lt_of_heap hh
        omega
      have hcb : S.c ≠ gb := fun e => by have := HC.out.lt; simp only at this; omega
      have HC6 : Hid (∀ W, Below W3.heap.size W3 W → W.cell? ⟨S.c, 6, none⟩ = some v) := Lib.hid fun W hb => (box7_ (hc3.below hb).box).2.2.2.2.2.2
      have HSS : Hid (∀ W, Below W3.heap.size W3 W → (fun W : World => W.cell? ⟨gb, 0, none⟩ = some (.int .i64 k) ∧ W.cell? ⟨gb, 1, none⟩ = some (.int .i64 node) ∧ W.cell? ⟨gb, 2, none⟩ = some (.int .i64 y) ∧ W.cell? ⟨gb, 3, none⟩ = some (.int .i64 X) ∧ W.cell? ⟨gb, 4, none⟩ = some (.slice AN nn cN)) W) := Lib.hid fun W hb => box5 ((hb.block gb (lt_of_heap hbx3)).trans hbx3)
      have HO3 : Hid (∀ W, Below W3.heap.size W3 W → OwnO W B v (S.os ++ os1)) := Lib.hid fun W hb => (hc3.below hb).out
      have HOL : Hid ((S.os ++ os1).length ≤ 60000) := Lib.hid (by rw [List.length_append]; have := HOS.out; have := HNL.out; have := HLT.out; omega)
      have HBS : Hid (B ≤ W3.heap.size) := Lib.hid hc3.size
      have HSK : Hid (∀ (W4 w5 : World) (v5 : Value), Below W3.heap.size W3 W4 → Grew W4 v w5 v5 → (fun W : World => W.cell? ⟨gb, 0, none⟩ = some (.int .i64 k) ∧ W.cell? ⟨gb, 1, none⟩ = some (.int .i64 node) ∧ W.cell? ⟨gb, 2, none⟩ = some (.int .i64 y) ∧ W.cell? ⟨gb, 3, none⟩ = some (.int .i64 X) ∧ W.cell? ⟨gb, 4, none⟩ = some (.slice AN nn cN)) w5) := Lib.hid fun W4 w5 v5 hb hg => by
        have h1 := (hb.block gb (lt_of_heap hbx3)).trans hbx3
        exact box5 ((hg.by_.block gb (lt_of_heap h1) (fun e => hgn gb e.symm rfl)).trans h1)
      have HBX : Hid (∀ (W4 w5 : World) (v5 : Value), Below W3.heap.size W3 W4 → Grew W4 v w5 v5 → w5.cell? ⟨S.c, 6, none⟩ = some v ∧ w5.frozen? ⟨S.c, 6, none⟩ = false) := Lib.hid fun W4 w5 v5 hb hg => by
        have h1 := hc3.below hb
        have h2 := (hg.by_.block S.c h1.lt (fun e => (h1.oc S.c e.symm).1 rfl)).trans h1.box
        exact ⟨(box7_ h2).2.2.2.2.2.2, frozen_of h2 6⟩
      have HSE : Hid (∀ (w5 : World) (v5 : Value), (fun W : World => W.cell? ⟨gb, 0, none⟩ = some (.int .i64 k) ∧ W.cell? ⟨gb, 1, none⟩ = some (.int .i64 node) ∧ W.cell? ⟨gb, 2, none⟩ = some (.int .i64 y) ∧ W.cell? ⟨gb, 3, none⟩ = some (.int .i64 X) ∧ W.cell? ⟨gb, 4, none⟩ = some (.slice AN nn cN)) w5 → (fun W : World => W.cell? ⟨gb, 0, none⟩ = some (.int .i64 k) ∧ W.cell? ⟨gb, 1, none⟩ = some (.int .i64 node) ∧ W.cell? ⟨gb, 2, none⟩ = some (.int .i64 y) ∧ W.cell? ⟨gb, 3, none⟩ = some (.int .i64 X) ∧ W.cell? ⟨gb, 4, none⟩ = some (.slice AN nn cN)) (w5.setCell ⟨S.c, 6, none⟩ v5)) := Lib.hid fun w5 v5 hs => by
        have e : ∀ j, (w5.setCell ⟨S.c, 6, none⟩ v5).cell? ⟨gb, j, none⟩ = w5.cell? ⟨gb, j, none⟩ := fun j => World.cell?_of_block (a := ⟨gb, j, none⟩) ((Only.set_other w5 S.c 6 v5 gb hcb))
        simp only [e]
        exact hs
      have HEND : Hid (∀ (W4 : World) (v5 : Value) (w5 : World), Below W3.heap.size W3 W4 → Grew W4 v w5 v5 → OwnO w5 B v5 ((S.os ++ os1) ++ [⟨k, node, y, X, AN, nn, cN⟩]) → ∀ v14, v14 = .int .i64 ((i + 1 : Nat) : Int) → SdL w B S k x nn ns (some ⟨b12, o12, none⟩) N c12 v14 (w5.setCell ⟨S.c, 6, none⟩ v5)) := Lib.hid fun W4 v5 w5 hb hg ho v14 h14 => by
        obtain ⟨h1, h2⟩ := send_end hc3 hb hg ho
        refine ⟨i + 1, v5, os1 ++ [⟨k, node, y, X, AN, nn, cN⟩], h14, HLT.out, by rw [← List.append_assoc]; exact h1, ?_, HSF.out.step HB3.out h2, (HOI.out.below HB3.out).sent hc3 h2⟩
        rw [List.take_add_one, HY.out, Option.toList_some, List.map_append, List.map_append, HCR.out]
        simp only [List.map_cons, List.map_nil, Le.core, HND.out, HX.out]
      obtain ⟨os, hos⟩ : ∃ os, os = S.os ++ os1 := ⟨_, rfl⟩
      rw [← hos] at HO3 HOL HEND
      have HVV2 : v = .slice AV os.length cV := by rw [hos]; exact HVV.out
      clear HVV
      subst HVV2
      have hSS := HSS.out _ (drew_below W3)
      rw [← hgb]
      clear hc3 hb3 hbx3 hgn hcb hgb hos 
      refine wp_region_held_drew (S := (fun W : World => W.cell? ⟨gb, 0, none⟩ = some (.int .i64 k) ∧ W.cell? ⟨gb, 1, none⟩ = some (.int .i64 node) ∧ W.cell? ⟨gb, 2, none⟩ = some (.int .i64 y) ∧ W.cell? ⟨gb, 3, none⟩ = some (.int .i64 X) ∧ W.cell? ⟨gb, 4, none⟩ = some (.slice AN nn cN))) (by kernel_rfl) hSS (fun _ => ?_)
      refine wpAnyH_take (i := 0) (oi := ({ dst := Option.some 37, op := Go.Op.move (Go.Operand.tmp 0), type := 28, pos := "decision.go:81", after := #[], guard := Option.none } : Oper)) (v := ?v0x1) rfl (by kernel_rfl) (by kernel_rfl) (by kernel_rfl) (fun _ _ _ h => h) (Or.inl ⟨by rfl, ?hy0x1⟩) hSS ?rest0x1
      case hy0x1 =>
        intro W0 hSw
        obtain ⟨s0, s1, s2, s3, s4⟩ := hSw
        go_simp
        first | done | with_reducible rfl
      try simp only [Act.put, List.setIfInBounds_toArray, List.set_cons_zero, List.set_cons_succ]
      refine wpAnyH_take (i := 1) (oi := ({ dst := Option.some 38, op := Go.Op.move (Go.Operand.tmp 0), type := 28, pos := "decision.go:81", after := #[], guard := Option.none } : Oper)) (v := ?v1x2) rfl (by kernel_rfl) (by kernel_rfl) (by kernel_rfl) (fun _ _ _ h => h) (Or.inl ⟨by rfl, ?hy1x2⟩) hSS ?rest1x2
      case hy1x2 =>
        intro W0 hSw
        obtain ⟨s0, s1, s2, s3, s4⟩ := hSw
        go_simp
        first | done | with_reducible rfl
      try simp only [Act.put, List.setIfInBounds_toArray, List.set_cons_zero, List.set_cons_succ]
      refine wpAnyH_take (i := 2) (oi := ({ dst := Option.some 39, op := Go.Op.nilCheck (Go.Operand.tmp 38), type := 0, pos := "decision.go:81", after := #[{ on := 1, ground := Go.Ground.data }], guard := Option.none } : Oper)) (v := ?v2x3) rfl (by kernel_rfl) (by kernel_rfl) (by kernel_rfl) (fun _ _ _ h => h) (Or.inl ⟨by rfl, ?hy2x3⟩) hSS ?rest2x3
      case hy2x3 =>
        intro W0 hSw
        obtain ⟨s0, s1, s2, s3, s4⟩ := hSw
        go_simp
        first | done | with_reducible rfl
      try simp only [Act.put, List.setIfInBounds_toArray, List.set_cons_zero, List.set_cons_succ]
      refine wpAnyH_take (i := 3) (oi := ({ dst := Option.some 40, op := Go.Op.fieldAddr 63 (Go.Operand.tmp 39) 6, type := 0, pos := "decision.go:81", after := #[{ on := 2, ground := Go.Ground.data }], guard := Option.none } : Oper)) (v := ?v3x4) rfl (by kernel_rfl) (by kernel_rfl) (by kernel_rfl) (fun _ _ _ h => h) (Or.inl ⟨by rfl, ?hy3x4⟩) hSS ?rest3x4
      case hy3x4 =>
        intro W0 hSw
        obtain ⟨s0, s1, s2, s3, s4⟩ := hSw
        go_simp
        first | done | with_reducible rfl
      try simp only [Act.put, List.setIfInBounds_toArray, List.set_cons_zero, List.set_cons_succ]
      refine wpAnyH_take (i := 5) (oi := ({ dst := Option.some 42, op := Go.Op.load 46 (Go.Operand.tmp 10), type := 46, pos := "decision.go:81", after := #[], guard := Option.none } : Oper)) (v := ?v5x5) rfl (by kernel_rfl) (by kernel_rfl) (by kernel_rfl) (fun _ _ _ h => h) (Or.inl ⟨by rfl, ?hy5x5⟩) hSS ?rest5x5
      case hy5x5 =>
        intro W0 hSw
        obtain ⟨s0, s1, s2, s3, s4⟩ := hSw
        go_simp
        first | done | with_reducible rfl
      try simp only [Act.put, List.setIfInBounds_toArray, List.set_cons_zero, List.set_cons_succ]
      refine wpAnyH_ready (rs := [4, 6]) (by kernel_rfl) (by simp) ?_
      refine AllReadyH.cons (o := ({ dst := Option.some 41, op := Go.Op.load 37 (Go.Operand.tmp 40), type := 37, pos := "decision.go:81", after := #[{ on := 3, ground := Go.Ground.data }], guard := Option.none } : Oper)) rfl (fun K0 hK0 => ?_) (AllReadyH.cons (o := ({ dst := Option.some 43, op := Go.Op.buildSlice 37 1 #[(0, Go.Operand.tmp 42)], type := 37, pos := "decision.go:81", after := #[{ on := 5, ground := Go.Ground.data }], guard := Option.none } : Oper)) rfl (fun K0 hK0 => ?_) AllReadyH.nil)
      · have c6 := HC6.out _ (drew_below W3)
        go_simp
        refine hK0.out _ _ hSS (fun _ => ?_)
        clear c6
        clear hK0 K0
        try simp only [Act.put, List.setIfInBounds_toArray, List.set_cons_zero, List.set_cons_succ]
        refine wpAnyH_ready (rs := [6]) (by kernel_rfl) (by simp) ?_
        refine AllReadyH.cons (o := ({ dst := Option.some 43, op := Go.Op.buildSlice 37 1 #[(0, Go.Operand.tmp 42)], type := 37, pos := "decision.go:81", after := #[{ on := 5, ground := Go.Ground.data }], guard := Option.none } : Oper)) rfl (fun K0 hK0 => ?_) AllReadyH.nil
        go_simp
        have HB4 : Hid (Below W3.heap.size W3 (W3.drew.alloc (.cells #[.int .i64 k, .int .i64 node, .int .i64 y, .int .i64 X, .slice AN nn cN] 46))) := Lib.hid ((drew_below W3).trans (alloc_below W3.drew _))
        have hSS := HSS.out _ HB4.out
        refine hK0.out _ _ hSS (fun _ => ?_)
        clear hK0 K0
        try simp only [Act.put, List.setIfInBounds_toArray, List.set_cons_zero, List.set_cons_succ]
        refine wpAnyH_ready (rs := [7]) (by kernel_rfl) (by simp) ?_
        refine AllReadyH.cons (o := ({ dst := Option.some 44, op := Go.Op.call { callee := Go.Callee.builtin Go.Builtin.append, args := #[Go.Operand.tmp 41, Go.Operand.tmp 43], argTypes := #[37, 37] }, type := 37, pos := "decision.go:81", after := #[{ on := 4, ground := Go.Ground.data }, { on := 6, ground := Go.Ground.data }], guard := Option.none } : Oper)) rfl (fun K0 hK0 => ?_) AllReadyH.nil
        have HB7 : Hid (Below W3.heap.size W3 (W3.drew.alloc (.cells #[.int .i64 k, .int .i64 node, .int .i64 y, .int .i64 X, .slice AN nn cN] 46))) := HB4
        refine step_appO (v := .slice AV os.length cV) (xs := os) (ys := [⟨k, node, y, X, AN, nn, cN⟩]) (B := B) rfl _ _ 37 rfl Try.underlying37 rfl (HO3.out _ HB7.out) rfl rfl (show RdO (W3.drew.alloc (.cells #[.int .i64 k, .int .i64 node, .int .i64 y, .int .i64 X, .slice AN nn cN] 46)) W3.heap.size [⟨k, node, y, X, AN, nn, cN⟩] from rd_oneO W3.drew ⟨k, node, y, X, AN, nn, cN⟩) (by have := HOL.out; simp; omega) (Nat.le_trans HBS.out HB7.out.size) ?_
        intro v5 w5 ho5 hg5
        obtain ⟨A5, c5, hv5, _⟩ := id ho5.2
        have HE5 := Lib.hid (HEND.out _ _ _ HB7.out hg5 ho5)
        have hSS := HSK.out _ _ _ HB7.out hg5
        obtain ⟨s6, s7⟩ := HBX.out _ _ _ HB7.out hg5
        have HSE5 := Lib.hid (HSE.out w5 v5 hSS)
        have hv6 : v5 = .slice A5 (os.length + 1) c5 := by rw [hv5, List.length_append]; rfl
        clear hv5
        rw [hv6] at HE5 HSE5
        subst hv6
        refine hK0.out _ _ hSS (fun _ => ?_)
        clear ho5 hg5
        clear hK0 K0
        try simp only [Act.put, List.setIfInBounds_toArray, List.set_cons_zero, List.set_cons_succ]
        refine wpAnyH_take (i := 8) (oi := ({ dst := Option.some 45, op := Go.Op.nilCheck (Go.Operand.tmp 37), type := 0, pos := "decision.go:81", after := #[{ on := 0, ground := Go.Ground.data }, { on := 0, ground := Go.Ground.phase }, { on := 1, ground := Go.Ground.phase }, { on := 2, ground := Go.Ground.phase }, { on := 3, ground := Go.Ground.phase }, { on := 4, ground := Go.Ground.phase }, { on := 5, ground := Go.Ground.phase }, { on := 6, ground := Go.Ground.phase }, { on := 7, ground := Go.Ground.phase }], guard := Option.none } : Oper)) (v := ?v8x6) rfl (by kernel_rfl) (by kernel_rfl) (by kernel_rfl) (fun _ _ _ h => h) (Or.inl ⟨by rfl, ?hy8x6⟩) hSS ?rest8x6
        case hy8x6 =>
          intro W0 hSw
          obtain ⟨s0, s1, s2, s3, s4⟩ := hSw
          go_simp
          first | done | with_reducible rfl
        try simp only [Act.put, List.setIfInBounds_toArray, List.set_cons_zero, List.set_cons_succ]
        refine wpAnyH_take (i := 9) (oi := ({ dst := Option.some 46, op := Go.Op.fieldAddr 63 (Go.Operand.tmp 45) 6, type := 0, pos := "decision.go:81", after := #[{ on := 8, ground := Go.Ground.data }, { on := 0, ground := Go.Ground.phase }, { on := 1, ground := Go.Ground.phase }, { on := 2, ground := Go.Ground.phase }, { on := 3, ground := Go.Ground.phase }, { on := 4, ground := Go.Ground.phase }, { on := 5, ground := Go.Ground.phase }, { on := 6, ground := Go.Ground.phase }, { on := 7, ground := Go.Ground.phase }], guard := Option.none } : Oper)) (v := ?v9x7) rfl (by kernel_rfl) (by kernel_rfl) (by kernel_rfl) (fun _ _ _ h => h) (Or.inl ⟨by rfl, ?hy9x7⟩) hSS ?rest9x7
        case hy9x7 =>
          intro W0 hSw
          obtain ⟨s0, s1, s2, s3, s4⟩ := hSw
          go_simp
          first | done | with_reducible rfl
        try simp only [Act.put, List.setIfInBounds_toArray, List.set_cons_zero, List.set_cons_succ]
        refine wpAnyH_ready (rs := [10]) (by kernel_rfl) (by simp) ?_
        refine AllReadyH.cons (o := ({ dst := Option.none, op := Go.Op.store 37 (Go.Operand.tmp 46) (Go.Operand.tmp 44), type := 0, pos := "decision.go:81", after := #[{ on := 9, ground := Go.Ground.data }, { on := 7, ground := Go.Ground.data }, { on := 7, ground := Go.Ground.chain }, { on := 0, ground := Go.Ground.phase }, { on := 1, ground := Go.Ground.phase }, { on := 2, ground := Go.Ground.phase }, { on := 3, ground := Go.Ground.phase }, { on := 4, ground := Go.Ground.phase }, { on := 5, ground := Go.Ground.phase }, { on := 6, ground := Go.Ground.phase }, { on := 7, ground := Go.Ground.phase }], guard := Option.none } : Oper)) rfl (fun K0 hK0 => ?_) AllReadyH.nil
        go_simp
        refine hK0.out _ _ HSE5.out (fun _ => ?_)
        clear hK0 K0
        try simp only [Act.put, List.setIfInBounds_toArray, List.set_cons_zero, List.set_cons_succ]
        refine wpAnyH_done (by kernel_rfl) ?_ _
        go_wp2_with fail
        go_roundw
        case rel => first | exact HE5.out _ (by go_num) | ((repeat apply Exists.intro); exact ⟨HE5.out _ (by go_num), rfl⟩)
        case measure => simp [intOf]; omega
      · go_simp
        have HB4 : Hid (Below W3.heap.size W3 (W3.drew.alloc (.cells #[.int .i64 k, .int .i64 node, .int .i64 y, .int .i64 X, .slice AN nn cN] 46))) := Lib.hid ((drew_below W3).trans (alloc_below W3.drew _))
        have hSS := HSS.out _ HB4.out
        refine hK0.out _ _ hSS (fun _ => ?_)
        clear hK0 K0
        try simp only [Act.put, List.setIfInBounds_toArray, List.set_cons_zero, List.set_cons_succ]
        refine wpAnyH_ready (rs := [4]) (by kernel_rfl) (by simp) ?_
        refine AllReadyH.cons (o := ({ dst := Option.some 41, op := Go.Op.load 37 (Go.Operand.tmp 40), type := 37, pos := "decision.go:81", after := #[{ on := 3, ground := Go.Ground.data }], guard := Option.none } : Oper)) rfl (fun K0 hK0 => ?_) AllReadyH.nil
        have c6 : (W3.alloc (.cells #[.int .i64 k, .int .i64 node, .int .i64 y, .int .i64 X, .slice AN nn cN] 46)).drew.cell? ⟨S.c, 6, none⟩ = some (.slice AV os.length cV) := HC6.out _ HB4.out
        go_simp
        refine hK0.out _ _ hSS (fun _ => ?_)
        clear c6
        clear hK0 K0
        try simp only [Act.put, List.setIfInBounds_toArray, List.set_cons_zero, List.set_cons_succ]
        refine wpAnyH_ready (rs := [7]) (by kernel_rfl) (by simp) ?_
        refine AllReadyH.cons (o := ({ dst := Option.some 44, op := Go.Op.call { callee := Go.Callee.builtin Go.Builtin.append, args := #[Go.Operand.tmp 41, Go.Operand.tmp 43], argTypes := #[37, 37] }, type := 37, pos := "decision.go:81", after := #[{ on := 4, ground := Go.Ground.data }, { on := 6, ground := Go.Ground.data }], guard := Option.none } : Oper)) rfl (fun K0 hK0 => ?_) AllReadyH.nil
        have HB7 : Hid (Below W3.heap.size W3 ((W3.alloc (.cells #[.int .i64 k, .int .i64 node, .int .i64 y, .int .i64 X, .slice AN nn cN] 46)).drew)) := HB4
        refine step_appO (v := .slice AV os.length cV) (xs := os) (ys := [⟨k, node, y, X, AN, nn, cN⟩]) (B := B) rfl _ _ 37 rfl Try.underlying37 rfl (HO3.out _ HB7.out) rfl rfl (show RdO ((W3.alloc (.cells #[.int .i64 k, .int .i64 node, .int .i64 y, .int .i64 X, .slice AN nn cN] 46)).drew) W3.heap.size [⟨k, node, y, X, AN, nn, cN⟩] from rd_oneO W3.drew ⟨k, node, y, X, AN, nn, cN⟩) (by have := HOL.out; simp; omega) (Nat.le_trans HBS.out HB7.out.size) ?_
        intro v5 w5 ho5 hg5
        obtain ⟨A5, c5, hv5, _⟩ := id ho5.2
        have HE5 := Lib.hid (HEND.out _ _ _ HB7.out hg5 ho5)
        have hSS := HSK.out _ _ _ HB7.out hg5
        obtain ⟨s6, s7⟩ := HBX.out _ _ _ HB7.out hg5
        have HSE5 := Lib.hid (HSE.out w5 v5 hSS)
        have hv6 : v5 = .slice A5 (os.length + 1) c5 := by rw [hv5, List.length_append]; rfl
        clear hv5
        rw [hv6] at HE5 HSE5
        subst hv6
        refine hK0.out _ _ hSS (fun _ => ?_)
        clear ho5 hg5
        clear hK0 K0
        try simp only [Act.put, List.setIfInBounds_toArray, List.set_cons_zero, List.set_cons_succ]
        refine wpAnyH_take (i := 8) (oi := ({ dst := Option.some 45, op := Go.Op.nilCheck (Go.Operand.tmp 37), type := 0, pos := "decision.go:81", after := #[{ on := 0, ground := Go.Ground.data }, { on := 0, ground := Go.Ground.phase }, { on := 1, ground := Go.Ground.phase }, { on := 2, ground := Go.Ground.phase }, { on := 3, ground := Go.Ground.phase }, { on := 4, ground := Go.Ground.phase }, { on := 5, ground := Go.Ground.phase }, { on := 6, ground := Go.Ground.phase }, { on := 7, ground := Go.Ground.phase }], guard := Option.none } : Oper)) (v := ?v8x8) rfl (by kernel_rfl) (by kernel_rfl) (by kernel_rfl) (fun _ _ _ h => h) (Or.inl ⟨by rfl, ?hy8x8⟩) hSS ?rest8x8
        case hy8x8 =>
          intro W0 hSw
          obtain ⟨s0, s1, s2, s3, s4⟩ := hSw
          go_simp
          first | done | with_reducible rfl
        try simp only [Act.put, List.setIfInBounds_toArray, List.set_cons_zero, List.set_cons_succ]
        refine wpAnyH_take (i := 9) (oi := ({ dst := Option.some 46, op := Go.Op.fieldAddr 63 (Go.Operand.tmp 45) 6, type := 0, pos := "decision.go:81", after := #[{ on := 8, ground := Go.Ground.data }, { on := 0, ground := Go.Ground.phase }, { on := 1, ground := Go.Ground.phase }, { on := 2, ground := Go.Ground.phase }, { on := 3, ground := Go.Ground.phase }, { on := 4, ground := Go.Ground.phase }, { on := 5, ground := Go.Ground.phase }, { on := 6, ground := Go.Ground.phase }, { on := 7, ground := Go.Ground.phase }], guard := Option.none } : Oper)) (v := ?v9x9) rfl (by kernel_rfl) (by kernel_rfl) (by kernel_rfl) (fun _ _ _ h => h) (Or.inl ⟨by rfl, ?hy9x9⟩) hSS ?rest9x9
        case hy9x9 =>
          intro W0 hSw
          obtain ⟨s0, s1, s2, s3, s4⟩ := hSw
          go_simp
          first | done | with_reducible rfl
        try simp only [Act.put, List.setIfInBounds_toArray, List.set_cons_zero, List.set_cons_succ]
        refine wpAnyH_ready (rs := [10]) (by kernel_rfl) (by simp) ?_
        refine AllReadyH.cons (o := ({ dst := Option.none, op := Go.Op.store 37 (Go.Operand.tmp 46) (Go.Operand.tmp 44), type := 0, pos := "decision.go:81", after := #[{ on := 9, ground := Go.Ground.data }, { on := 7, ground := Go.Ground.data }, { on := 7, ground := Go.Ground.chain }, { on := 0, ground := Go.Ground.phase }, { on := 1, ground := Go.Ground.phase }, { on := 2, ground := Go.Ground.phase }, { on := 3, ground := Go.Ground.phase }, { on := 4, ground := Go.Ground.phase }, { on := 5, ground := Go.Ground.phase }, { on := 6, ground := Go.Ground.phase }, { on := 7, ground := Go.Ground.phase }], guard := Option.none } : Oper)) rfl (fun K0 hK0 => ?_) AllReadyH.nil
        go_simp
        refine hK0.out _ _ HSE5.out (fun _ => ?_)
        clear hK0 K0
        try simp only [Act.put, List.setIfInBounds_toArray, List.set_cons_zero, List.set_cons_succ]
        refine wpAnyH_done (by kernel_rfl) ?_ _
        go_wp2_with fail
        go_roundw
        case rel => first | exact HE5.out _ (by go_num) | ((repeat apply Exists.intro); exact ⟨HE5.out _ (by go_num), rfl⟩)
        case measure => simp [intOf]; omega
    · have hie : i = N := by omega
      have htk : ns.take i = ns := List.take_of_length_le (by rw [HN.out]; omega)
      rw [htk] at hcr
      have HE : Hid (SnT w B S k x nn ns (.returned (.tuple #[])) wr) := Lib.hid ⟨rfl, v, os1, hco, hcr, hsf⟩
      have hlti : ¬ (i : Int) < (N : Int) := by omega
      clear hlt hi hie htk hco hcr hsf hoi
      go_wp2_with fail
      refine bodyPost_end (v := .tuple #[]) (by simp [results, Try.results27, go_sem]) rfl ?_
      exact HE.out
end

section
open Go.RowKit
theorem findT_put (T : List Te) (e : Te) : findT (putT T e) e.n = some e := by
  unfold findT putT dropT
  rw [List.find?_append]
  have h : (T.filter fun u => decide (u.n ≠ e.n)).find? (fun u => decide (u.n = e.n)) = none := by
    rw [List.find?_eq_none]
    intro u hu
    have := (List.mem_filter.1 hu).2
    simpa using this
  rw [h]
  simp
/-- what an operation that leaves the log alone may turn -/
def FrM (S : CoS) (w w' : World) (v : Value) : Prop := Only (fun j => j = S.c ∨ j = S.m ∨ S.ov.ownBlock = some j) w w' ∧ ∀ j, v.ownBlock = some j → S.ov.ownBlock = some j ∨ w.heap.size ≤ j
def AskT (w : World) (B : Nat) (S : CoS) (x : Nat) (ns : List Int) (e : Ending) (w' : World) : Prop := e = .returned (.int .i64 0) ∧ ∃ v os1, Co w' B { S with T := putT S.T ⟨x, 2, orB 0 ns, orB 0 ns, 0, S.tks⟩, ov := v, os := S.os ++ os1 } ∧ os1.map Le.core = ns.map (fun n => (1, (S.node : Int), n, (x : Int), ns.length)) ∧ FrM S w w' v
theorem ask_end {w w1 w2 w3 : World} {B : Nat} {S : CoS} {x : Nat} {ns : List Int} (hu : upN (-1) ns = true) (hb : Below w.heap.size w w1) (hO : Only (· = S.m) w1 w2) {T' : List Te} (hT : T' = putT S.T ⟨x, 2, orB 0 ns, orB 0 ns, 0, S.tks⟩) {nn : Nat} (hnn : (nodesI (orB 0 ns)).length = nn) {e : Ending} (h : SnT w2 B { S with T := T' } 1 x nn (nodesI (orB 0 ns)) e w3) : ∃ v os1, Co w3 B { S with T := putT S.T ⟨x, 2, orB 0 ns, orB 0 ns, 0, S.tks⟩, ov := v, os := S.os ++ os1 } ∧ os1.map Le.core = ns.map (fun n => (1, (S.node : Int), n, (x : Int), ns.length)) ∧ FrM S w w3 v := by
  subst hT hnn
  obtain ⟨_, v, os1, h1, h2, h3, h4⟩ := h
  rw [nodes_or hu] at h2
  refine ⟨v, os1, h1, h2, (((Only.of_below hb).trans hO fun j _ hj => .inr (.inl hj)).trans h3 fun j _ hj => ?_), fun j hj => ?_⟩
  · rcases hj with hj | hj
    · exact .inl hj
    · exact .inr (.inr hj)
  · rcases h4 j hj with h5 | h5
    · exact .inl h5
    · exact .inr (Nat.le_trans hb.size (Nat.le_trans hO.size h5))
set_option maxRecDepth 100000 in
set_option maxHeartbeats 16000000 in
theorem ask_yes {w : World} {B : Nat} {S : CoS} (h : Co w B S) {x : Nat} (hx : i64ok (x : Int)) {e : Te} (he : findT S.T x = some e) (hes : e.s = 1) (ns : List Int) (hu : upN (-1) ns = true) (hne : ns ≠ []) (A : Option Addr) (n cap : Nat) (hn : ns.length = n) (hr : RdI w w.heap.size A ns) (hT : S.T.length < 1000) (hos : S.os.length ≤ 50000) :
    Calls Try.prog 10 #[.pointer (some ⟨S.c, 0, none⟩), .int .i64 (x : Int), .slice A n cap] w (AskT w B S x ns) := by
  have HC := Lib.hid (closed_any h)
  obtain ⟨_, _, _, _, _, c5, _⟩ := box7_ h.box
  have hlk := h.map.look hx
  unfold stT at hlk
  simp only [he, Te.v, teV, hes] at hlk
  have hn16 : n ≤ 16 := by have := up_len (by omega) (by omega) hu; omega
  have hni : (n : Int) ≤ 16 := by omega
  have hn0 : ((n : Int) == 0) = false := by
    have := List.length_pos_iff.2 hne
    simp; omega
  have HRT := Lib.hid (rightL_any 1 0 0 0 ns A n cap hn (by omega) w hr)
  rw [show Ltr.right ⟨1, 0, 0, 0, ns⟩ = true by unfold Ltr.right; rw [show headOk 1 0 0 0 = true by decide]; simpa using hu] at HRT
  have hm : orB 0 ns < 65536 := or_lt (by omega) hu (by decide)
  have HSO : Hid (∀ W, Below w.heap.size w W → Calls Try.prog 26 #[.slice A n cap] W (LooksL (.int .i64 ((orB 0 ns : Nat) : Int)) W)) := Lib.hid fun W hb => setOf_any ns hu A n cap hn W ((hr.below hb (Nat.le_refl _)).more hb.size)
  have HST : Hid (∀ W, Below w.heap.size w W → Co W B S) := Lib.hid fun W hb => h.below hb
  have HMP : Hid (∀ W, Below w.heap.size w W → ∃ w2, (Instr.mapUpdate 61 (.map (some S.m)) (.int .i64 (x : Int)) (.agg #[.int .i64 2, .int .i64 ((orB 0 ns : Nat) : Int), .int .i64 ((orB 0 ns : Nat) : Int), .int .i64 0, .int .i64 (S.tks : Int)])).run Try.prog W = .ok () w2 ∧ Co w2 B { S with T := putT S.T ⟨x, 2, orB 0 ns, orB 0 ns, 0, S.tks⟩ } ∧ Only (· = S.m) W w2) := Lib.hid fun W hb => by
    have hc := h.below hb
    obtain ⟨w2, h1, h2, h3⟩ := hc.map.store hT hx 2 (orB 0 ns) (orB 0 ns) 0 S.tks (.agg #[.int .i64 2, .int .i64 ((orB 0 ns : Nat) : Int), .int .i64 ((orB 0 ns : Nat) : Int), .int .i64 0, .int .i64 (S.tks : Int)]) rfl
    exact ⟨w2, h1, hc.mapped h3 h2, h3⟩
  obtain ⟨T', hT'⟩ : ∃ T', T' = putT S.T ⟨x, 2, orB 0 ns, orB 0 ns, 0, S.tks⟩ := ⟨_, rfl⟩
  have HFD : Hid (findT T' x = some ⟨x, 2, orB 0 ns, orB 0 ns, 0, S.tks⟩) := Lib.hid (by rw [hT']; exact findT_put S.T ⟨x, 2, orB 0 ns, orB 0 ns, 0, S.tks⟩)
  obtain ⟨nn, hnn⟩ : ∃ nn, (nodesI (orB 0 ns)).length = nn := ⟨_, rfl⟩
  have HNN := Lib.hid hnn
  have HEND : Hid (∀ w1 w2 w3 e, Below w.heap.size w w1 → Only (· = S.m) w1 w2 → SnT w2 B { S with T := T' } 1 x nn (nodesI (orB 0 ns)) e w3 → ∃ v os1, Co w3 B { S with T := putT S.T ⟨x, 2, orB 0 ns, orB 0 ns, 0, S.tks⟩, ov := v, os := S.os ++ os1 } ∧ os1.map Le.core = ns.map (fun n => (1, (S.node : Int), n, (x : Int), ns.length)) ∧ FrM S w w3 v) := Lib.hid fun w1 w2 w3 e hb hO hs => ask_end hu hb hO hT' hnn hs
  rw [← hT'] at HMP
  have HXX := Lib.hid hx
  have HM := Lib.hid hm
  have HOS := Lib.hid hos
  have q0 := fieldT0
  obtain ⟨M, hM⟩ : ∃ M : Nat, M = orB 0 ns := ⟨_, rfl⟩
  rw [← hM] at HSO HMP HM HFD
  have HMM := Lib.hid hM
  clear h hx he hes hu hne hn hr hT hos hn16 hm hT' hnn hM
  go_enter Try.func10, Try.ntmps10
  go_upto_region 8 with (first
    | (go_at_call 24; refine HC.out.mono ?_; rintro e1 w1 ⟨rfl, rfl⟩)
    | (go_at_call 25; refine HRT.out.mono ?_; rintro e1 w1 ⟨rfl, hb⟩
       have HB1 := Lib.hid hb
       clear hb)
    | (go_at_call 26; refine (HSO.out _ HB1.out).mono ?_; rintro e1 w2 ⟨rfl, rfl⟩))
  have hbd := HB1.out.trans ((drew_below w1).mono HB1.out.size)
  have hcd := HST.out _ hbd
  obtain ⟨w2, hrun, hco2, hO2⟩ := HMP.out _ hbd
  obtain ⟨_, _, _, _, d4, d5, _⟩ := box7_ hcd.box
  have hSS : (fun W : World => W.cell? ⟨S.c, 5, none⟩ = some (.map (some S.m)) ∧ W.cell? ⟨S.c, 4, none⟩ = some (.int .i64 (S.tks : Int))) w1.drew := ⟨d5, d4⟩
  have HS2 : Hid ((fun W : World => W.cell? ⟨S.c, 5, none⟩ = some (.map (some S.m)) ∧ W.cell? ⟨S.c, 4, none⟩ = some (.int .i64 (S.tks : Int))) w2) := Lib.hid (by
    obtain ⟨_, _, _, _, e4, e5, _⟩ := box7_ hco2.box
    exact ⟨e5, e4⟩)
  have HSN := Lib.hid (send_yes hco2 1 HXX.out rfl _ HFD.out HM.out HM.out HOS.out nn (by show (nodesI M).length = nn; rw [HMM.out]; exact HNN.out))
  have HBD := Lib.hid hbd
  have HO2 := Lib.hid hO2
  clear hbd hcd hco2 hO2 c5 hlk d4 d5
  refine wp_region_held_drew (S := (fun W : World => W.cell? ⟨S.c, 5, none⟩ = some (.map (some S.m)) ∧ W.cell? ⟨S.c, 4, none⟩ = some (.int .i64 (S.tks : Int)))) (by kernel_rfl) hSS (fun _ => ?_)
  refine wpAnyH_take (i := 0) (oi := ({ dst := Option.some 32, op := Go.Op.move (Go.Operand.tmp 0), type := 28, pos := "coordinator.go:72", after := #[], guard := Option.none } : Oper)) (v := ?v0x1) rfl (by kernel_rfl) (by kernel_rfl) (by kernel_rfl) (fun _ _ _ h => h) (Or.inl ⟨by rfl, ?hy0x1⟩) hSS ?rest0x1
  case hy0x1 =>
    intro W0 hSw
    obtain ⟨s0, s1⟩ := hSw
    go_simp
    first | done | with_reducible rfl
  try simp only [Act.put, List.setIfInBounds_toArray, List.set_cons_zero, List.set_cons_succ]
  refine wpAnyH_take (i := 1) (oi := ({ dst := Option.some 33, op := Go.Op.nilCheck (Go.Operand.tmp 32), type := 0, pos := "coordinator.go:72", after := #[{ on := 0, ground := Go.Ground.data }], guard := Option.none } : Oper)) (v := ?v1x2) rfl (by kernel_rfl) (by kernel_rfl) (by kernel_rfl) (fun _ _ _ h => h) (Or.inl ⟨by rfl, ?hy1x2⟩) hSS ?rest1x2
  case hy1x2 =>
    intro W0 hSw
    obtain ⟨s0, s1⟩ := hSw
    go_simp
    first | done | with_reducible rfl
  try simp only [Act.put, List.setIfInBounds_toArray, List.set_cons_zero, List.set_cons_succ]
  refine wpAnyH_take (i := 2) (oi := ({ dst := Option.some 34, op := Go.Op.fieldAddr 63 (Go.Operand.tmp 33) 5, type := 0, pos := "coordinator.go:72", after := #[{ on := 1, ground := Go.Ground.data }], guard := Option.none } : Oper)) (v := ?v2x3) rfl (by kernel_rfl) (by kernel_rfl) (by kernel_rfl) (fun _ _ _ h => h) (Or.inl ⟨by rfl, ?hy2x3⟩) hSS ?rest2x3
  case hy2x3 =>
    intro W0 hSw
    obtain ⟨s0, s1⟩ := hSw
    go_simp
    first | done | with_reducible rfl
  try simp only [Act.put, List.setIfInBounds_toArray, List.set_cons_zero, List.set_cons_succ]
  refine wpAnyH_take (i := 3) (oi := ({ dst := Option.some 35, op := Go.Op.load 61 (Go.Operand.tmp 34), type := 61, pos := "coordinator.go:72", after := #[{ on := 2, ground := Go.Ground.data }], guard := Option.none } : Oper)) (v := ?v3x4) rfl (by kernel_rfl) (by kernel_rfl) (by kernel_rfl) (fun _ _ _ h => h) (Or.inl ⟨by rfl, ?hy3x4⟩) hSS ?rest3x4
  case hy3x4 =>
    intro W0 hSw
    obtain ⟨s0, s1⟩ := hSw
    go_simp
    first | done | with_reducible rfl
  try simp only [Act.put, List.setIfInBounds_toArray, List.set_cons_zero, List.set_cons_succ]
  refine wpAnyH_take (i := 4) (oi := ({ dst := Option.some 36, op := Go.Op.move (Go.Operand.tmp 1), type := 3, pos := "coordinator.go:72", after := #[], guard := Option.none } : Oper)) (v := ?v4x5) rfl (by kernel_rfl) (by kernel_rfl) (by kernel_rfl) (fun _ _ _ h => h) (Or.inl ⟨by rfl, ?hy4x5⟩) hSS ?rest4x5
  case hy4x5 =>
    intro W0 hSw
    obtain ⟨s0, s1⟩ := hSw
    go_simp
    first | done | with_reducible rfl
  try simp only [Act.put, List.setIfInBounds_toArray, List.set_cons_zero, List.set_cons_succ]
  refine wpAnyH_take (i := 5) (oi := ({ dst := Option.some 37, op := Go.Op.move (Go.Operand.tmp 7), type := 65, pos := "coordinator.go:72", after := #[], guard := Option.none } : Oper)) (v := ?v5x6) rfl (by kernel_rfl) (by kernel_rfl) (by kernel_rfl) (fun _ _ _ h => h) (Or.inl ⟨by rfl, ?hy5x6⟩) hSS ?rest5x6
  case hy5x6 =>
    intro W0 hSw
    obtain ⟨s0, s1⟩ := hSw
    go_simp
    first | done | with_reducible rfl
  try simp only [Act.put, List.setIfInBounds_toArray, List.set_cons_zero, List.set_cons_succ]
  refine wpAnyH_take (i := 6) (oi := ({ dst := Option.some 38, op := Go.Op.move (Go.Operand.tmp 7), type := 65, pos := "coordinator.go:72", after := #[], guard := Option.none } : Oper)) (v := ?v6x7) rfl (by kernel_rfl) (by kernel_rfl) (by kernel_rfl) (fun _ _ _ h => h) (Or.inl ⟨by rfl, ?hy6x7⟩) hSS ?rest6x7
  case hy6x7 =>
    intro W0 hSw
    obtain ⟨s0, s1⟩ := hSw
    go_simp
    first | done | with_reducible rfl
  try simp only [Act.put, List.setIfInBounds_toArray, List.set_cons_zero, List.set_cons_succ]
  refine wpAnyH_take (i := 7) (oi := ({ dst := Option.some 39, op := Go.Op.move (Go.Operand.tmp 0), type := 28, pos := "coordinator.go:72", after := #[], guard := Option.none } : Oper)) (v := ?v7x8) rfl (by kernel_rfl) (by kernel_rfl) (by kernel_rfl) (fun _ _ _ h => h) (Or.inl ⟨by rfl, ?hy7x8⟩) hSS ?rest7x8
  case hy7x8 =>
    intro W0 hSw
    obtain ⟨s0, s1⟩ := hSw
    go_simp
    first | done | with_reducible rfl
  try simp only [Act.put, List.setIfInBounds_toArray, List.set_cons_zero, List.set_cons_succ]
  refine wpAnyH_take (i := 8) (oi := ({ dst := Option.some 40, op := Go.Op.nilCheck (Go.Operand.tmp 39), type := 0, pos := "coordinator.go:72", after := #[{ on := 7, ground := Go.Ground.data }], guard := Option.none } : Oper)) (v := ?v8x9) rfl (by kernel_rfl) (by kernel_rfl) (by kernel_rfl) (fun _ _ _ h => h) (Or.inl ⟨by rfl, ?hy8x9⟩) hSS ?rest8x9
  case hy8x9 =>
    intro W0 hSw
    obtain ⟨s0, s1⟩ := hSw
    go_simp
    first | done | with_reducible rfl
  try simp only [Act.put, List.setIfInBounds_toArray, List.set_cons_zero, List.set_cons_succ]
  refine wpAnyH_take (i := 9) (oi := ({ dst := Option.some 41, op := Go.Op.fieldAddr 63 (Go.Operand.tmp 40) 4, type := 0, pos := "coordinator.go:72", after := #[{ on := 8, ground := Go.Ground.data }], guard := Option.none } : Oper)) (v := ?v9x10) rfl (by kernel_rfl) (by kernel_rfl) (by kernel_rfl) (fun _ _ _ h => h) (Or.inl ⟨by rfl, ?hy9x10⟩) hSS ?rest9x10
  case hy9x10 =>
    intro W0 hSw
    obtain ⟨s0, s1⟩ := hSw
    go_simp
    first | done | with_reducible rfl
  try simp only [Act.put, List.setIfInBounds_toArray, List.set_cons_zero, List.set_cons_succ]
  refine wpAnyH_take (i := 10) (oi := ({ dst := Option.some 42, op := Go.Op.load 3 (Go.Operand.tmp 41), type := 3, pos := "coordinator.go:72", after := #[{ on := 9, ground := Go.Ground.data }], guard := Option.none } : Oper)) (v := ?v10x11) rfl (by kernel_rfl) (by kernel_rfl) (by kernel_rfl) (fun _ _ _ h => h) (Or.inl ⟨by rfl, ?hy10x11⟩) hSS ?rest10x11
  case hy10x11 =>
    intro W0 hSw
    obtain ⟨s0, s1⟩ := hSw
    go_simp
    first | done | with_reducible rfl
  try simp only [Act.put, List.setIfInBounds_toArray, List.set_cons_zero, List.set_cons_succ]
  refine wpAnyH_take (i := 11) (oi := ({ dst := Option.some 43, op := Go.Op.build 67 #[(0, Go.Operand.const (Go.Value.int Go.IntKind.i64 2)), (1, Go.Operand.tmp 37), (2, Go.Operand.tmp 38), (4, Go.Operand.tmp 42)], type := 67, pos := "coordinator.go:72", after := #[{ on := 5, ground := Go.Ground.data }, { on := 6, ground := Go.Ground.data }, { on := 10, ground := Go.Ground.data }], guard := Option.none } : Oper)) (v := ?v11x12) rfl (by kernel_rfl) (by kernel_rfl) (by kernel_rfl) (fun _ _ _ h => h) (Or.inl ⟨by rfl, ?hy11x12⟩) hSS ?rest11x12
  case hy11x12 =>
    intro W0 hSw
    obtain ⟨s0, s1⟩ := hSw
    go_simp
    first | done | with_reducible rfl
  try simp only [Act.put, List.setIfInBounds_toArray, List.set_cons_zero, List.set_cons_succ]
  refine wpAnyH_ready (rs := [12]) (by kernel_rfl) (by simp) ?_
  refine AllReadyH.cons (o := ({ dst := Option.none, op := Go.Op.mapUpdate 61 (Go.Operand.tmp 35) (Go.Operand.tmp 36) (Go.Operand.tmp 43), type := 0, pos := "coordinator.go:72", after := #[{ on := 3, ground := Go.Ground.data }, { on := 4, ground := Go.Ground.data }, { on := 11, ground := Go.Ground.data }, { on := 0, ground := Go.Ground.phase }, { on := 1, ground := Go.Ground.phase }, { on := 2, ground := Go.Ground.phase }, { on := 3, ground := Go.Ground.phase }, { on := 4, ground := Go.Ground.phase }, { on := 5, ground := Go.Ground.phase }, { on := 6, ground := Go.Ground.phase }, { on := 7, ground := Go.Ground.phase }, { on := 8, ground := Go.Ground.phase }, { on := 9, ground := Go.Ground.phase }, { on := 10, ground := Go.Ground.phase }, { on := 11, ground := Go.Ground.phase }], guard := Option.none } : Oper)) rfl (fun K0 hK0 => ?_) AllReadyH.nil
  go_simp
  refine hK0.out _ _ HS2.out (fun _ => ?_)
  clear hK0 K0
  try simp only [Act.put, List.setIfInBounds_toArray, List.set_cons_zero, List.set_cons_succ]
  refine wpAnyH_done (by kernel_rfl) ?_ _
  go_wp2_with (go_at_call 27; refine HSN.out.mono ?_; rintro e1 w3 hsn
               have he1 := hsn.1
               subst he1
               have HE := Lib.hid (HEND.out _ _ _ _ HBD.out HO2.out (by rw [HMM.out] at hsn; exact hsn))
               clear hsn)
  go_ret
  exact ⟨rfl, HE.out⟩
set_option maxRecDepth 100000 in
set_option maxHeartbeats 8000000 in
theorem ask_arg {w : World} {B : Nat} {S : CoS} (h : Co w B S) {x : Nat} (hx : i64ok (x : Int)) {e : Te} (he : findT S.T x = some e) (hes : e.s = 1) (ns : List Int) (hu : upN (-1) ns = false ∨ ns = []) (A : Option Addr) (n cap : Nat) (hn : ns.length = n) (hn2 : n ≤ 1000000) (hr : RdI w w.heap.size A ns) :
    Calls Try.prog 10 #[.pointer (some ⟨S.c, 0, none⟩), .int .i64 (x : Int), .slice A n cap] w (Ans (.int .i64 1) w) := by
  have HC := Lib.hid (closed_any h)
  obtain ⟨_, _, _, _, _, c5, _⟩ := box7_ h.box
  have hlk := h.map.look hx
  unfold stT at hlk
  simp only [he, Te.v, teV, hes] at hlk
  have hni : (n : Int) ≤ 1000000 := by omega
  have q0 := fieldT0
  by_cases h0 : n = 0
  · subst h0
    clear h hx he hes hu hn hr hn2
    go_enter Try.func10, Try.ntmps10
    go_wp2_with (go_at_call 24; refine HC.out.mono ?_; rintro e1 w1 ⟨rfl, rfl⟩)
    go_ret
    exact ⟨rfl, Below.refl _ _⟩
  · have hu2 : upN (-1) ns = false := by
      rcases hu with hu | hu
      · exact hu
      · rw [hu] at hn; simp at hn; omega
    have hn0 : ((n : Int) == 0) = false := by simp; omega
    have HRT := Lib.hid (rightL_any 1 0 0 0 ns A n cap hn hn2 w hr)
    rw [show Ltr.right ⟨1, 0, 0, 0, ns⟩ = false by unfold Ltr.right; rw [show headOk 1 0 0 0 = true by decide]; simpa using hu2] at HRT
    clear h hx he hes hu hu2 hn hr hn2 h0
    go_enter Try.func10, Try.ntmps10
    go_wp2_with (first
      | (go_at_call 24; refine HC.out.mono ?_; rintro e1 w1 ⟨rfl, rfl⟩)
      | (go_at_call 25; refine HRT.out.mono ?_; rintro e1 w1 ⟨rfl, hb⟩
         have HB1 := Lib.hid hb
         clear hb))
    go_ret
    exact ⟨rfl, HB1.out⟩
end

section
open Go.RowKit
def rec0 : List UInt8 := rowB (recV 0 [0])
/-- what Open answers on a disk on which nothing lies -/
def OpnT (w : World) (B p g node : Nat) (e : Ending) (w' : World) : Prop := ∃ S : CoS, e = .returned (.tuple #[.pointer (some ⟨S.c, 0, none⟩), .int .i64 0]) ∧ Co w' B S ∧ S.node = node ∧ S.inc = 0 ∧ S.cnt = 0 ∧ S.tks = 0 ∧ S.T = [] ∧ S.ov = .slice none 0 0 ∧ S.os = [] ∧ S.p = p ∧ S.b = 0 ∧ S.rs = [rec0] ∧ Only (fun k => k = p ∨ k = g) w w'
theorem opn_end {w w1 w8 w9 : World} {B p g node q d m c : Nat} (hnod : node < 16) (hB : B ≤ w.heap.size) (hw : Wl w1 B q p g d 0 0 [] []) (hq : w.heap.size ≤ q) (hd : w.heap.size ≤ d) (hO1 : Only (fun k => k = p) w w1) (hb8 : Below w1.heap.size w1 w8)
    (hm : m = w1.heap.size) (hc : c = w1.heap.size + 1) (hm8 : MapT w8 m []) (hc8 : w8.heap[c]? = some (.cells #[.int .i64 (node : Int), .pointer (some ⟨q, 0, none⟩), .int .i64 0, .int .i64 0, .int .i64 0, .map (some m), .slice none 0 0] 63 (0, 0)))
    {e : Ending} {s' : Nat} (h9 : WrT w8 B q p g d 0 s' [] rec0 e w9) : OpnT w B p g node (.returned (.tuple #[.pointer (some ⟨c, 0, none⟩), .int .i64 0])) w9 := by
  obtain ⟨_, g', d', hw9, hO9, hg', hd'⟩ := h9
  have l1 := hw.lt
  have l2 := hw.disk.lt
  have l3 := hw.disk.glt
  have l4 := hw.dlt
  have l8 := lt_of_heap hc8
  have hK : ∀ k, w1.heap.size ≤ k → ¬ (k = q ∨ k = p ∨ k = g ∨ k = d) := fun k hk h => by omega
  have hcm : c < w8.heap.size ∧ m < w8.heap.size := ⟨l8, hm8.lt⟩
  refine ⟨⟨c, node, 0, 0, 0, q, p, g', d', 0, s', [], [rec0], m, [], .slice none 0 0, []⟩, rfl, ⟨?_, by simpa using hw9, hm8.kept (hO9.block m hm8.lt (hK m (by omega))), OwnO.nil _ _, ⟨?_, ?_⟩, ?_, ?_, fun k hk => by simp [Value.ownBlock] at hk, hnod⟩, rfl, rfl, rfl, rfl, rfl, rfl, rfl, rfl, rfl, rfl, ?_⟩
  · exact (hO9.block c l8 (hK c (by omega))).trans hc8
  · show B ≤ c; have := hO1.size; omega
  · show B ≤ m; have := hO1.size; omega
  · show c ≠ q ∧ c ≠ p ∧ c ≠ g' ∧ c ≠ d'; omega
  · show m ≠ q ∧ m ≠ p ∧ m ≠ g' ∧ m ≠ d'; omega
  · refine (hO1.more (L := fun k => k = p ∨ k = g) fun j _ hj => .inl hj).trans ((Only.of_below hb8).trans (hO9.more (L := fun k => k = q ∨ k = p ∨ k = g ∨ k = d) fun _ _ h => h) fun j _ hj => hj) fun j hj h => ?_
    omega
set_option maxRecDepth 100000 in
set_option maxHeartbeats 16000000 in
theorem open_fresh {w : World} {B p g : Nat} (h : Dk w B p g 0 0 []) (hB : B ≤ w.heap.size) {node : Nat} (hnod : node < 16) :
    Calls Try.prog 23 #[.pointer (some ⟨p, 0, none⟩), .int .i64 (node : Int)] w (OpnT w B p g node) := by
  have HOP := Lib.hid (open_any h hB [] [] rfl rfl (fun r hr => by simp at hr))
  have HBB := Lib.hid hB
  have HND := Lib.hid hnod
  have hmm := @run_makeMap Try.prog
  clear h hB hnod
  go_enter Try.func23, Try.ntmps23
  go_wp2_with (first
    | (go_at_call 37; refine HOP.out.mono ?_; rintro e w1 ⟨q, d, rfl, hw, hq, hd, hO1⟩
       have hw1 : Wl w1 B q p g d 0 0 [] [] := hw
       have HW1 := Lib.hid hw1
       have HQD := Lib.hid (And.intro hq (And.intro hd hO1))
       have HM : Hid (MapT (w1.alloc (.map #[] 0)) w1.heap.size []) := Lib.hid MapT.new
       obtain ⟨CO, hCO⟩ : ∃ CO, CO = Obj.cells #[.int .i64 (node : Int), .pointer (some ⟨q, 0, none⟩), .int .i64 0, .int .i64 0, .int .i64 0, .map (some w1.heap.size), .slice none 0 0] 63 := ⟨_, rfl⟩
       have HB2 : Hid (Below w1.heap.size w1 ((w1.alloc (.map #[] 0)).alloc CO)) := Lib.hid (alloc2_below w1 _ _)
       have hbx := heap_alloc_new (w1.alloc (.map #[] 0)) CO
       rw [show (w1.alloc (.map #[] 0)).heap.size = w1.heap.size + 1 by simp] at hbx
       have HM2 := Lib.hid (HM.out.kept ((alloc_below (w1.alloc (.map #[] 0)) CO).block w1.heap.size (by simp)))
       rw [hCO] at hbx HM2 HB2
       have HBX := Lib.hid hbx
       clear hw hw1 hq hd hO1 hbx hCO)
    | (go_at_call 38; refine (numbers_any (HW1.out.below HB2.out)).mono ?_; rintro e w3 ⟨A3, c3, rfl, _, _, hb3⟩
       have HB3 := Lib.hid (HB2.out.trans (hb3.mono HB2.out.size))
       have HBX3 := Lib.hid ((hb3.block (w1.heap.size + 1) (lt_of_heap HBX.out)).trans HBX.out)
       have HM3 := Lib.hid (HM2.out.kept (hb3.block w1.heap.size HM2.out.lt))
       clear hb3))
  go_loopw [32] (fun v32 wr => v32 = .int .i64 0 ∧ wr = w3) (fun _ _ => 0)
  case atStart => exact ⟨rfl, rfl⟩
  case round =>
    obtain ⟨rfl, rfl⟩ := hrel
    have hz : ¬ (0 : Int) < ((numbersOf 0 []).length : Int) := by show ¬ (0 : Int) < ((0 : Nat) : Int); omega
    obtain ⟨c0, c1, c2, _, _, _, _⟩ := box7_ HBX3.out
    obtain ⟨IR, hIR⟩ : ∃ IR, IR = Obj.cells #[.int .i64 0] 3 := ⟨_, rfl⟩
    have hb4 := HB3.out.trans ((alloc_below wr IR).mono HB3.out.size)
    have hbx4 := ((alloc_below wr IR).block (w1.heap.size + 1) (lt_of_heap HBX3.out)).trans HBX3.out
    have hm4 := HM3.out.kept ((alloc_below wr IR).block w1.heap.size HM3.out.lt)
    have hri := rd_oneI wr 0
    rw [← hIR] at hri
    have hw4 := HW1.out.below hb4
    have HCF := Lib.hid (cforce_any (c := w1.heap.size + 1) hw4 (Nat.le_trans HBB.out (Nat.le_trans HQD.out.2.2.size hb4.size)) (lt_of_heap hbx4) (box7_ hbx4).2.1
      (by have l1 := HW1.out.lt; have l2 := HW1.out.disk.lt; have l3 := HW1.out.disk.glt; have l4 := HW1.out.dlt; omega) 0 [0] (some ⟨wr.heap.size, 0, none⟩) 1 1 rfl (by omega) (by unfold i64ok; omega) (fun x hx => by rw [List.mem_singleton] at hx; subst hx; unfold i64ok; omega) (hri.more (by simp)) (by decide))
    have HEND : Hid (∀ w9 e s', WrT (wr.alloc IR) B q p g d 0 s' [] rec0 e w9 → OpnT w B p g node (.returned (.tuple #[.pointer (some ⟨w1.heap.size + 1, 0, none⟩), .int .i64 0])) w9) := Lib.hid fun w9 e s' h9 => opn_end HND.out HBB.out HW1.out HQD.out.1 HQD.out.2.1 HQD.out.2.2 hb4 rfl rfl hm4 hbx4 h9
    rw [hIR] at HCF HEND
    clear hb4 hbx4 hm4 hri hw4 hIR
    go_wp2_with (go_at_call 42; refine HCF.out.mono ?_; rintro e w9 h9
                 have he := h9.1
                 subst he
                 have HE := Lib.hid (HEND.out _ _ _ h9)
                 clear h9)
    refine bodyPost_ret (v := .tuple #[.pointer (some ⟨w1.heap.size + 1, 0, none⟩), .int .i64 0]) (by simp [results, Try.results23, go_sem]) rfl ?_
    exact HE.out
end

section
open Go.RowKit
set_option maxRecDepth 100000 in
set_option maxHeartbeats 16000000 in
theorem Open_fresh {w : World} {B p g : Nat} (h : Dk w B p g 0 0 []) (hB : B ≤ w.heap.size) {node : Nat} (hnod : node < 16) :
    Calls Try.prog 7 #[.pointer (some ⟨p, 0, none⟩), .int .i64 (node : Int)] w (OpnT w B p g node) := by
  have HD : Hid (∀ W, Below w.heap.size w W → Dk W B p g 0 0 []) := Lib.hid fun W hb => h.below hb
  have HB := Lib.hid hB
  have HN := Lib.hid hnod
  have hn0 : ¬ (node : Int) < 0 := by omega
  have hn1 : (node : Int) < 16 := by omega
  have HPW : Hid (∀ W, Below w.heap.size w W → Calls Try.prog 18 #[.pointer (some ⟨p, 0, none⟩), .int .i64 0] W (PwS W 0 0 [])) := Lib.hid fun W hb => power_at (h.below hb) 0 (by unfold i64ok; omega) 0 0 (by decide) rfl [] rfl
  clear h hB hnod
  go_enter Try.func7, Try.ntmps7
  go_wp2_with (first
    | (go_at_call 21; refine (end_at (HD.out w (Below.refl _ _)) 0 rfl).mono ?_; rintro e w1 ⟨rfl, k, rfl⟩
       have HB1 := Lib.hid (drewN_below w k))
    | (go_at_call 22; refine (safe_any (HD.out _ HB1.out)).mono ?_; rintro e w2 ⟨rfl, rfl⟩)
    | (go_at_call 18; refine (HPW.out _ HB1.out).mono ?_; rintro e w3 ⟨p', g', rfl, hd3, hb3⟩
       have HB3 := Lib.hid (HB1.out.trans (hb3.mono HB1.out.size))
       have HD3 := Lib.hid hd3
       have HS3 := Lib.hid hb3.size
       clear hd3 hb3)
    | (go_at_call 23; refine (open_fresh (HD.out _ HB4.out) (Nat.le_trans HB.out (Below.size HB4.out)) HN.out).mono ?_; rintro e w5 ⟨S5, rfl, h1, h2, h3, h4, h5, h6, h7, h8, h9, h10, h11, hO5⟩
       have HE : Hid (OpnT w B p g node (.returned (.tuple #[.pointer (some ⟨S5.c, 0, none⟩), .int .i64 0])) w5) := Lib.hid ⟨S5, rfl, h1, h2, h3, h4, h5, h6, h7, h8, h9, h10, h11, (Only.of_below HB4.out).trans hO5 fun _ _ h => h⟩
       clear h1 h2 h3 h4 h5 h6 h7 h8 h9 h10 h11 hO5)
    | (go_at_call 23; refine (open_fresh HD3.out HS3.out HN.out).mono ?_; rintro e w4 ⟨S, rfl, _, _, _, _, _, _, _, _, _, _, _, hO4⟩
       have hb4 : Below w.heap.size w3 w4 := hO4.below (Below.size HB3.out) (fun j hj => by
         have h1 := HD3.out.ge
         have h2 : (w.drewN k).heap.size = w.heap.size := rfl
         omega)
       have HB4 := Lib.hid (HB3.out.trans hb4)
       clear hO4 hb4))
  refine bodyPost_ret (v := .tuple #[.pointer (some ⟨S5.c, 0, none⟩), .int .i64 0]) (by simp [results, Try.results7, go_sem]) rfl ?_
  exact HE.out
def OpN (w : World) : Ending → World → Prop := LooksL (.tuple #[.pointer none, .int .i64 1]) w
set_option maxRecDepth 100000 in
theorem Open_bad (p : Nat) (node : Int) (hn : node < 0 ∨ 16 ≤ node) (w : World) : Calls Try.prog 7 #[.pointer (some ⟨p, 0, none⟩), .int .i64 node] w (OpN w) := by
  by_cases h0 : node < 0
  · clear hn
    go_enter Try.func7, Try.ntmps7
    go_wp2_with fail
    refine bodyPost_ret (v := .tuple #[.pointer none, .int .i64 1]) (by simp [results, Try.results7, go_sem]) rfl ?_
    exact ⟨rfl, rfl⟩
  · have h1 : 16 ≤ node := by omega
    clear hn
    go_enter Try.func7, Try.ntmps7
    go_wp2_with fail
    refine bodyPost_ret (v := .tuple #[.pointer none, .int .i64 1]) (by simp [results, Try.results7, go_sem]) rfl ?_
    exact ⟨rfl, rfl⟩
theorem rd_twoZ (w : World) : RdI (w.alloc (.cells #[.int .i64 0, .int .i64 1] 3)) (w.alloc (.cells #[.int .i64 0, .int .i64 1] 3)).heap.size (some ⟨w.heap.size, 0, none⟩) [0, 1] := fun _ => ⟨_, _, rfl, by simp, fun j d hj => by
  have hh : (w.alloc (.cells #[.int .i64 0, .int .i64 1] 3)).heap[w.heap.size]? = _ := heap_alloc_new w _
  rw [cell_of_row _ _ _ _ _ (0, 0) hh]
  match j with
  | 0 => simp at hj; subst hj; rfl
  | 1 => simp at hj; subst hj; rfl
  | j + 2 => simp at hj⟩
/-- what lies in the coordinator's hands lies above -/
theorem FrM.below {S : CoS} {w0 w w' : World} {B : Nat} {v : Value} (h : FrM S w w' v) (hc : Co w B S) (hb : Below B w0 w) : Below B w0 w' := hb.trans (h.1.below hc.size fun j hj => by
  rcases hj with hj | hj | hj
  · rw [hj]; exact hc.ge.1
  · rw [hj]; exact hc.ge.2
  · exact hc.out.ge j hj)
theorem Co.belCM {S : CoS} {w0 w w' : World} {B : Nat} (hc : Co w B S) (hO : Only (fun k => k = S.c ∨ k = S.m) w w') (hb : Below B w0 w) : Below B w0 w' := hb.trans (hO.below hc.size fun j hj => by
  rcases hj with hj | hj
  · rw [hj]; exact hc.ge.1
  · rw [hj]; exact hc.ge.2)
theorem Co.belC {S : CoS} {w0 w w' : World} {B : Nat} (hc : Co w B S) (hO : Only (· = S.c) w w') (hb : Below B w0 w) : Below B w0 w' := hb.trans (hO.below hc.size fun j hj => by rw [hj]; exact hc.ge.1)
theorem Dk.belPG {w0 w w' : World} {B p g b s : Nat} {l : List UInt8} (hd : Dk w B p g b s l) (hO : Only (fun k => k = p ∨ k = g) w w') (hb : Below B w0 w) : Below B w0 w' := hb.trans (hO.below (Nat.le_of_lt (Nat.lt_of_le_of_lt hd.ge.1 hd.lt)) fun j hj => by
  rcases hj with hj | hj
  · rw [hj]; exact hd.ge.1
  · rw [hj]; exact hd.ge.2)
theorem core_at {os : List Le} {L : List (Int × Int × Int × Int × Nat)} (h : os.map Le.core = L) {j : Nat} {k f t x : Int} {n : Nat} (hj : L[j]? = some (k, f, t, x, n)) : ∃ e, os[j]? = some e ∧ e.k = k ∧ e.f = f ∧ e.t = t ∧ e.x = x ∧ e.n = n := by
  rw [← h, List.getElem?_map, Option.map_eq_some_iff] at hj
  obtain ⟨e, he, hc⟩ := hj
  simp only [Le.core, Prod.mk.injEq] at hc
  exact ⟨e, he, hc.1, hc.2.1, hc.2.2.1, hc.2.2.2.1, hc.2.2.2.2⟩
end

section
open Go.RowKit
/-- Begin of a coordinator that was just opened on a disk on which nothing lay -/
def BgF (w : World) (B : Nat) (S : CoS) (e : Ending) (w' : World) : Prop := e = .returned (.tuple #[.int .i64 (S.node : Int), .int .i64 0]) ∧ Co w' B { S with cnt := 1, T := [⟨S.node, 1, 0, 0, 0, 0⟩] } ∧ Only (fun k => k = S.c ∨ k = S.m) w w'
theorem begin_fresh {w : World} {B : Nat} {S : CoS} (h : Co w B S) (hi : S.inc = 0) (hc : S.cnt = 0) (hT : S.T = []) : Calls Try.prog 9 #[.pointer (some ⟨S.c, 0, none⟩)] w (BgF w B S) := by
  obtain ⟨c, node, inc, cnt, tks, q, p', g, d, b, s, pre, rs, m, T, ov, os⟩ := S
  simp only at hi hc hT
  subst hi hc hT
  refine (cbegin_any h (by show 0 < 65536; omega) (by show 0 ≤ 65536; omega) (by show 0 < 1000; omega) rfl).mono ?_
  rintro e w' ⟨he, h2, h3⟩
  have e1 : txN ⟨c, node, 0, 0, tks, q, p', g, d, b, s, pre, rs, m, [], ov, os⟩ = node := by unfold txN; simp
  rw [e1] at he h2
  exact ⟨he, h2, h3⟩
set_option maxRecDepth 100000 in
set_option maxHeartbeats 16000000 in
theorem alive13_any (w : World) : Calls Try.prog 8 #[] w (Ans (.bool true) w) := by
  have hnil : ∀ (w : World) (a : Option Addr), (binOp .eql 28 (.pointer a) (.pointer none)).run Try.prog w = .ok (.bool a.isNone) w := fun w a => by cases a <;> rfl
  go_enter Try.func8, Try.ntmps8
  go_wp2_with (first
    | (go_at_call 6; refine (new_any w).mono ?_; rintro e w1 ⟨p, rfl, hd, hb⟩
       have HD := Lib.hid hd
       have HB1 := Lib.hid hb
       clear hd hb)
    | (go_at_call 7; refine (Open_fresh (node := 2) HD.out (Below.size HB1.out) (by omega)).mono ?_; rintro e w2 ⟨S, rfl, hc, hn, hi, hcn, ht, hT, hv, hos, _, _, _, hO⟩
       obtain ⟨c, node, inc, cnt, tks, q, p', g, d, b, s, pre, rs, m, T, ov, os⟩ := S
       simp only at hn hi hcn ht hT hv hos
       subst hn hi hcn ht hT hv hos
       have HC := Lib.hid hc
       have HB2 : Hid (Below w.heap.size w w2) := Lib.hid (HD.out.belPG hO HB1.out)
       clear hc hO)
    | (go_at_call 9; refine (begin_fresh HC.out rfl rfl rfl).mono ?_; rintro e w3 ⟨rfl, hc3, hO3⟩
       have HC3 := Lib.hid hc3
       have HB3 : Hid (Below w.heap.size w w3) := Lib.hid (HC.out.belCM hO3 HB2.out)
       clear hc3 hO3)
    | (go_at_call 10; refine (ask_yes (HC3.out.below (alloc_below w3 (.cells #[.int .i64 0, .int .i64 1] 3))) (x := 2) (by unfold i64ok; omega) (e := ⟨2, 1, 0, 0, 0, 0⟩) rfl rfl [0, 1] (by decide) (by simp) (some ⟨w3.heap.size, 0, none⟩) 2 2 rfl (rd_twoZ w3) (by show 1 < 1000; omega) (by simp)).mono ?_; rintro e w4 ⟨rfl, v, os1, hc4, hcr, hfr⟩
       have HB4 := Lib.hid (hfr.below (HC3.out.below (alloc_below w3 _)) (HB3.out.trans ((alloc_below w3 _).mono HB3.out.size)))
       have HC4 := Lib.hid hc4
       have HCR := Lib.hid hcr
       clear hc4 hcr hfr)
    | (go_at_call 12; refine (out_any HC4.out).mono ?_; rintro e w5 ⟨rfl, hc5, ho5, hO5⟩
       obtain ⟨A5, c5, hv5, hle5⟩ := id ho5.2
       have HC5 := Lib.hid hc5
       have HB5 : Hid (Below w.heap.size w w5) := Lib.hid (HC4.out.belC hO5 HB4.out)
       obtain ⟨e1, he1, hk1, _, ht1, _, _⟩ := core_at HCR.out (j := 1) (k := 1) (f := 2) (t := 1) (x := 2) (n := 2) rfl
       have hl2 : os1.length = 2 := by have := congrArg List.length HCR.out; simpa using this
       simp only at hv5 ho5
       subst hv5
       obtain ⟨g5, hA5, _, _, _, hcell⟩ := ho5.at_ (j := 1) (e := e1) (by simpa using he1)
       obtain ⟨z0, _, z2, _, _⟩ := hcell w5 rfl
       rw [hk1] at z0
       rw [ht1] at z2
       subst hA5
       have hlo : (([] : List Le) ++ os1).length = 2 := by simpa using hl2
       rw [hlo]
       rw [hlo] at hle5
       have hc25 : (2 : Int) ≤ (c5 : Int) := by omega
       have HST := Lib.hid (state_any hc5 (x := 2) (by unfold i64ok; omega))
       clear hc5 ho5 hO5 he1 hk1 ht1 hl2 hcell hlo hle5)
    | (go_at_call 11; refine HST.out.mono ?_; rintro e w6 ⟨rfl, rfl⟩))
  go_ret
  exact ⟨rfl, HB5.out⟩
end
end Go.Proofs.Ytogogekmodbdiaa

/- Package wal: Numbers, Read. -/
import Derived.Test.YtogogekmodbdiaaJJ
namespace Go.Proofs.Ytogogekmodbdiaa
open Go.RowKit

theorem infoI : (Try.prog.info? 3).map (fun i => (i.zero, i.size, i.bytes)) = some (some (.int .i64 0), 1, 8) := by kernel_rfl
/-- numbers as cells -/
def intsV (l : List Nat) : List Value := l.map fun (n : Nat) => .int .i64 (n : Int)
/-- the numbers of records -/
def numbersOf (b : Nat) (rs : List (List UInt8)) : List Nat := (placesOf b rs).map (·.1)
theorem numbersOf_len (b : Nat) (rs : List (List UInt8)) : (numbersOf b rs).length = rs.length := by unfold numbersOf; rw [List.length_map, placesOf_len]
theorem numbersOf_get (b : Nat) (rs : List (List UInt8)) {j : Nat} (h : j < rs.length) : (numbersOf b rs)[j]? = some (startOf b rs j) := by
  unfold numbersOf
  rw [List.getElem?_map, placesOf_some b rs h]
  rfl
/-- what Numbers answers -/
def NmT (w : World) (ns : List Nat) (e : Ending) (w' : World) : Prop := ∃ A cap, e = .returned (.slice A ns.length cap) ∧ RdC w' w'.heap.size A (intsV ns) ∧ ns.length ≤ cap ∧ Below w.heap.size w w'
/-- at the head of the loop -/
def NmL (w : World) (q : Nat) (ns : List Nat) (v3 v11 : Value) (wr : World) : Prop := ∃ k g : Nat, v11 = .int .i64 (k : Int) ∧ k ≤ ns.length ∧ HeldC wr q g 1 v3 k (intsV (ns.take k)) ∧ (g = q ∨ w.heap.size ≤ g) ∧ Below w.heap.size w wr
theorem one_int (k : IntKind) (n : Int) : ∀ u ∈ [Value.int k n], u.oneCell' = true := by
  intro u hu
  rw [List.mem_singleton] at hu
  subst hu
  rfl
theorem one_cell2 (w : World) (o : Obj) (v : Value) (t : TypeId) (j : Nat) (u : Value) (h : [v][j]? = some u) : ((w.alloc o).alloc (.cells #[v] t)).cell? ((⟨w.heap.size + 1, 0, none⟩ : Addr).add j) = some u := by
  cases j with
  | zero => simp at h; subst h; exact box1 (heap_two w _ _)
  | succ j => simp at h
theorem nm_next {w w1 wr w3 : World} {q k g g3 : Nat} {ns : List Nat} {v5 : Value} {x : Nat} (hk : ns[k]? = some x) (hb : Below w.heap.size w wr) (h1 : Below wr.heap.size wr w1) (ho : HeldC w3 q g3 1 v5 (k + 1) (intsV (ns.take k) ++ [.int .i64 (x : Int)])) (hO : Only (fun j => j = g ∧ j ≠ q) w1 w3) (hg : g = q ∨ w.heap.size ≤ g) (hg3 : g3 = g ∨ w1.heap.size ≤ g3) (v11 : Value) (h11 : v11 = .int .i64 ((k + 1 : Nat) : Int)) : NmL w q ns v5 v11 w3 := by
  have h2 := List.getElem?_eq_some_iff.1 hk
  have hsz := hb.size
  have hsz1 := h1.size
  refine ⟨k + 1, g3, h11, h2.1, ?_, ?_, ?_⟩
  · have e : intsV (ns.take (k + 1)) = intsV (ns.take k) ++ [.int .i64 (x : Int)] := by
      rw [List.take_succ_eq_append_getElem h2.1, h2.2]
      unfold intsV
      rw [List.map_append]
      rfl
    rw [e]
    exact ho
  · rcases hg3 with rfl | hg3
    · exact hg
    · exact .inr (by omega)
  · refine (hb.trans (h1.mono hsz)).trans (hO.below (by omega) (fun j hj => ?_))
    rcases hg with rfl | hg
    · exact absurd hj.1 hj.2
    · omega
set_option maxRecDepth 100000 in
set_option maxHeartbeats 4000000 in
theorem numbers_any {w : World} {B q p g d b s : Nat} {pre : List (Nat × Nat)} {rs : List (List UInt8)} (h : Wl w B q p g d b s pre rs) : Calls Try.prog 38 #[.pointer (some ⟨q, 0, none⟩)] w (NmT w (numbersOf b rs)) := by
  obtain ⟨i0, hi, hz0, hz1, hz2⟩ := info_parts infoI
  have HH := Lib.hid (held_any h)
  have hll : rs.length ≤ 100000 := by have := h.few; omega
  have HQ := Lib.hid h.lt
  have HN := Lib.hid (numbersOf_len b rs)
  have hri : (rs.length : Int) ≤ 100000 := by omega
  have HLL := Lib.hid hll
  clear h hll
  go_enter Try.func38, Try.ntmps38
  go_wp2_with (first
    | (go_at_call 59; refine HH.out.mono ?_; rintro e w2 ⟨A2, cap2, rfl, hh2, hb⟩
       have HB2 := Lib.hid hb
       have HP2 := Lib.hid hh2.rd.1.places
       clear hb hh2))
  go_loopw [3, 11] (fun v3 v11 wr => NmL w2 q (numbersOf b rs) v3 v11 wr) (fun _ v11 _ => rs.length - (intOf v11).toNat)
  case atStart => exact ⟨0, q, rfl, Nat.zero_le _, .inl ⟨rfl, rfl, rfl, rfl⟩, .inl rfl, Below.refl _ _⟩
  case round =>
    obtain ⟨k, g3, rfl, hk, hh, hg, hb⟩ := hrel
    rw [HN.out] at hk
    have HHH := Lib.hid hh
    have HG := Lib.hid hg
    have HB := Lib.hid hb
    by_cases hlt : k < rs.length
    · have hlti : (k : Int) < (rs.length : Int) := by omega
      obtain ⟨b0, o0, hA, c0, c1⟩ := HP2.out.at_ (placesOf_some b rs hlt) hb (Nat.le_refl _)
      subst hA
      have HX := Lib.hid (numbersOf_get b rs hlt)
      have hk5 : k ≤ 100000 := by have := HLL.out; omega
      have HK5 := Lib.hid hk5
      obtain ⟨X, hX⟩ : ∃ X, X = startOf b rs k := ⟨_, rfl⟩
      obtain ⟨Y, hY⟩ : ∃ Y, Y = startOf b rs (k + 1) := ⟨_, rfl⟩
      rw [← hX] at HX c0
      rw [← hY] at c1
      have HBA := Lib.hid (fun o1 o2 => alloc2_below wr o1 o2)
      have HHA := Lib.hid (fun o1 o2 => hh.only (Only.of_below (K := fun _ => False) (alloc2_below wr o1 o2)) (fun _ => id))
      have HQL : Hid (∀ o1 o2, q < ((wr.alloc o1).alloc o2).heap.size) := Lib.hid (fun o1 o2 => by have := (alloc2_below wr o1 o2).size; have := HB2.out.size; have := hb.size; have := HQ.out; omega)
      clear hh hg hb hX hY
      go_wp2_with (first
        | (at_builtin
           refine wpList_appHC (n := k) (m := 1) (ys := [.int .i64 (X : Int)]) (by rfl) _ _ 22 3 (by rfl) Try.underlying22 hi hz0 hz1 hz2 (by rfl) (by omega) (by rfl) (HHA.out _ _) (HQL.out _ _) (by rfl) (by rfl) (one_cell2 _ _ _ _) (one_int _ _) (by have := HK5.out; omega) (by have := HK5.out; omega) ?_
           intro g5 v5 w5 ho5 hO5 hg5
           have HY : Hid (∀ v11, v11 = .int .i64 ((k + 1 : Nat) : Int) → NmL w2 q (numbersOf b rs) v5 v11 w5) := Lib.hid (fun v11 h11 => nm_next HX.out HB.out (by exact HBA.out _ _) ho5 hO5 HG.out hg5 v11 h11)
           clear ho5 hO5 hg5))
      go_roundw
      case rel => first | exact HY.out _ (by go_num) | ((repeat apply Exists.intro); exact ⟨HY.out _ (by go_num), rfl⟩)
      case measure => simp [intOf]; omega
    · have hkl : k = rs.length := by omega
      subst hkl
      have hlti : ¬ (rs.length : Int) < (rs.length : Int) := by omega
      rw [List.take_of_length_le (by rw [HN.out]; exact Nat.le_refl _)] at hh
      obtain ⟨A3, cap3, hv3, hc3, _⟩ := hh.slice
      subst hv3
      have HY : Hid (NmT w (numbersOf b rs) (.returned (.slice A3 rs.length cap3)) wr) := Lib.hid ⟨A3, cap3, by rw [HN.out], hh.rd.1, by rw [HN.out]; exact hc3, HB2.out.trans (hb.mono HB2.out.size)⟩
      clear hh hg hb
      go_wp2_with fail
      go_ret
      exact HY.out
end Go.Proofs.Ytogogekmodbdiaa

/- Words for rows of elements of any size: copy, clear, appends in place, what lies over what. -/
import Derived.Test.YtfmhijaljlmgaaaJG
import Derived.Lib.AppendZerosOnto
import Derived.Lib.SliceRun
import Derived.Lib.Overlaps
namespace Go.Proofs.Ytfmhijaljlmgaaa
open Go.RowKit

theorem OwnC.over {w : World} {g o cap sz n : Nat} {vs : List Value} (h : OwnC w g o cap sz n vs) {k n' : Nat} {ys vs' : List Value} (hk : k + ys.length ≤ cap * sz) (hl : vs'.length = n' * sz) (hn : n' ≤ cap)
    (hin : ∀ j, j < ys.length → ∀ u, vs'[k + j]? = some u → ys[j]? = some u) (hout : ∀ j, (j < k ∨ k + ys.length ≤ j) → ∀ u, vs'[j]? = some u → vs[j]? = some u) : OwnC (w.setCells g (o + k) ys) g o cap sz n' vs' := by
  refine ⟨Nat.lt_of_lt_of_le h.lt (Only.sets g _ _ w).size, hl, hn, fun j hj => ⟨isSome_sets g _ _ w _ (h.free j hj).1, by rw [World.frozen?_setCells]; exact (h.free j hj).2⟩, fun j d hj => ?_⟩
  by_cases hlt : k ≤ j ∧ j < k + ys.length
  · obtain ⟨i, rfl⟩ : ∃ i, j = k + i := ⟨j - k, by omega⟩
    have hi : i < ys.length := by omega
    have h2 := World.cell?_setCells_in g ys (o + k) w (fun t ht => by rw [Nat.add_assoc]; exact (h.free (k + t) (by omega)).1) i hi
    have h3 := hin i hi d hj
    rw [List.getElem?_eq_getElem hi] at h3
    injection h3 with h3
    rw [← Nat.add_assoc, h2, h3]
  · rw [World.cell?_setCells_out g _ _ w _ (fun _ _ => by show o + j < o + k ∨ o + k + ys.length ≤ o + j; omega)]
    exact h.cell j d (hout j (by omega) d hj)
/-- what lies at the end is laid over what stood from there on -/
theorem OwnC.tail {w : World} {g o cap sz n k n' : Nat} {vs ys : List Value} (h : OwnC w g o cap sz n vs) (hk : k ≤ vs.length) (hl : k + ys.length = n' * sz) (hn : n' ≤ cap) : OwnC (w.setCells g (o + k) ys) g o cap sz n' (vs.take k ++ ys) := by
  have hm : n' * sz ≤ cap * sz := Nat.mul_le_mul_right _ hn
  refine h.over (by omega) (by rw [List.length_append, List.length_take]; omega) hn (fun j hj u hu => ?_) (fun j hj u hu => ?_)
  · rw [List.getElem?_append_right (by rw [List.length_take]; omega), List.length_take, show k + j - min k vs.length = j by omega] at hu
    exact hu
  · rcases hj with hj | hj
    · rw [List.getElem?_append_left (by rw [List.length_take]; omega), List.getElem?_take, if_pos hj] at hu
      exact hu
    · rw [List.getElem?_eq_none (by rw [List.length_append, List.length_take]; omega)] at hu
      cases hu
/-- so many cells are turned in their midst -/
theorem OwnC.mid {w : World} {g o cap sz n : Nat} {a b c ys : List Value} (h : OwnC w g o cap sz n (a ++ (b ++ c))) (hb : ys.length = b.length) : OwnC (w.setCells g (o + a.length) ys) g o cap sz n (a ++ (ys ++ c)) := by
  have hlen := h.len
  have hm : n * sz ≤ cap * sz := Nat.mul_le_mul_right _ h.room
  simp only [List.length_append] at hlen
  refine h.over (by omega) (by simp only [List.length_append]; omega) h.room (fun j hj u hu => ?_) (fun j hj u hu => ?_)
  · rw [List.getElem?_append_right (by omega), show a.length + j - a.length = j by omega, List.getElem?_append_left hj] at hu
    exact hu
  · rcases hj with hj | hj
    · rw [List.getElem?_append_left hj] at hu ⊢
      exact hu
    · rw [List.getElem?_append_right (by omega), List.getElem?_append_right (by omega)] at hu ⊢
      rw [hb] at hu
      exact hu
/-- cells behind the last element are turned -/
theorem OwnC.past {w : World} {g o cap sz n k : Nat} {vs ys : List Value} (h : OwnC w g o cap sz n vs) (hk : vs.length ≤ k) (hm : k + ys.length ≤ cap * sz) : OwnC (w.setCells g (o + k) ys) g o cap sz n vs := by
  refine h.over hm h.len h.room (fun j hj u hu => ?_) (fun j hj u hu => hu)
  rw [List.getElem?_eq_none (by omega)] at hu
  cases hu
theorem OwnC.cut {w : World} {g o cap sz n : Nat} {vs : List Value} (h : OwnC w g o cap sz n vs) {k : Nat} (hk : k ≤ n) : OwnC w g o cap sz k (vs.take (k * sz)) := by
  have hm : k * sz ≤ n * sz := Nat.mul_le_mul_right _ hk
  refine ⟨h.lt, by rw [List.length_take, h.len]; omega, Nat.le_trans hk h.room, h.free, fun j u hu => ?_⟩
  rw [List.getElem?_take] at hu
  split at hu
  · exact h.cell j u hu
  · cases hu
theorem OwnC.rdAt {w : World} {g o cap sz n : Nat} {vs : List Value} (h : OwnC w g o cap sz n vs) (k : Nat) : ∀ j u, (vs.drop k)[j]? = some u → w.cell? ((⟨g, o + k, none⟩ : Addr).add j) = some u := by
  intro j u hu
  rw [Addr.add_lit, Nat.add_assoc]
  rw [List.getElem?_drop] at hu
  exact h.cell _ u hu
/-- copy, whatever the elements' size -/
theorem run_copy_sz {P : Program} (w : World) (dT sT ty elem : TypeId) (sz b o dLen dCap : Nat) (a : Addr) (sLen sCap m : Nat) (cs : List Value)
    (hu : P.underlying dT = some (.slice elem)) (hs : (P.info? elem).map (·.size) = some sz) (hm : m = Nat.min sLen dLen) (hn : cs.length = m * sz)
    (hsrc : ∀ j v, cs[j]? = some v → w.cell? (a.add j) = some v) (hc : ∀ j, j < cs.length → (w.cell? ⟨b, o + j, none⟩).isSome = true) (hf : ∀ j, j < cs.length → w.frozen? ⟨b, o + j, none⟩ = false) (h1 : ∀ v ∈ cs, v.oneCell' = true) :
    (Builtin.copy_ #[dT, sT] ty #[.slice (some ⟨b, o, none⟩) dLen dCap, .slice (some a) sLen sCap]).run P w = .ok (goInt m) (w.setCells b o cs) := by
  have hl := run_loadCells_list (P := P) w a cs hsrc
  have hst := run_storeCells_cells (P := P) b o cs 0 w (by simpa using hc) (by simpa using hf) h1
  cases hq : P.info? elem with
  | none => simp [hq] at hs
  | some i =>
    have hi : i.size = sz := by simpa [hq] using hs
    simp [Builtin.copy_, run_underlying hu, Builtin.lenOf, Builtin.firstCells, sizeOf, typeInfo, hq, hi, ← hm, ← hn, hl, hst]
theorem wp_copyC {P : Program} {w : World} {o : Oper} {a : Act} {K : Act → World → Prop} {Q : Exit → Act → World → Prop} (d s : Operand) (dT sT elem : TypeId) (ho : o.op = .call { callee := .builtin .copy, args := #[d, s], argTypes := #[dT, sT] })
    {sz : Nat} (hu : P.underlying dT = some (.slice elem)) (hs : (P.info? elem).map (·.size) = some sz)
    {g p cap n k n' : Nat} {vs vs' ys : List Value} (hown : OwnC w g p cap sz n vs) {dLen dCap p' : Nat} (hd : a.eval d = .slice (some ⟨g, p', none⟩) dLen dCap) (hp : p' = p + k) {A : Addr} {sLen sCap m : Nat} (hx : a.eval s = .slice (some A) sLen sCap)
    (hm : m = Nat.min sLen dLen) (hl : ys.length = m * sz) (hr : ∀ j u, ys[j]? = some u → w.cell? (A.add j) = some u) (h1 : ∀ u ∈ ys, u.oneCell' = true) (hk : k + ys.length ≤ cap * sz)
    (hov : OwnC (w.setCells g (p + k) ys) g p cap sz n' vs')
    (h : ∀ w', OwnC w' g p cap sz n' vs' → Only (· = g) w w' → w'.heap.size = w.heap.size → K (a.put o.dst (goInt m)) w') : o.wp P a w K Q := by
  subst hp
  have hrun := run_copy_sz (P := P) w dT sT o.type elem sz g (p + k) dLen dCap A sLen sCap m ys hu hs hm hl hr (fun j hj => by rw [Nat.add_assoc]; exact (hown.free (k + j) (by omega)).1) (fun j hj => by rw [Nat.add_assoc]; exact (hown.free (k + j) (by omega)).2) h1
  unfold Oper.wp execOp
  simp only [ho, resolve, invoke, builtin, Sem.run_bind, Sem.run_pure, Result.andThen_ok, List.map_toArray, List.map_cons, List.map_nil, hd, hx, hrun]
  exact h _ hov (Only.sets g _ _ w) (by
    have : ∀ (vs : List Value) (o : Nat) (w : World), (w.setCells g o vs).heap.size = w.heap.size := by
      intro vs
      induction vs with
      | nil => intro o w; rfl
      | cons v r ih => intro o w; show ((w.setCell ⟨g, o, none⟩ v).setCells g (o + 1) r).heap.size = _; rw [ih]; simp [World.setCell]
    exact this _ _ _)
theorem step_of_wp {P : Program} {w : World} {ops : Array Oper} {o : Oper} {a : Act} {K : Act → World → Prop} {Q : Exit → Act → World → Prop} {E : Prop} (hgd : o.guard = none) (h : o.wp P a w K Q) : if Region.wanted o (yielded ops a.tmps) = true then Oper.wp P o a w K Q else E := by
  have hw : Region.wanted o (yielded ops a.tmps) = true := by simp [Region.wanted, hgd]
  rw [if_pos hw]
  exact h
/-- append in place -/
theorem wp_appR {P : Program} {w : World} {o : Oper} {a : Act} {K : Act → World → Prop} {Q : Exit → Act → World → Prop} (s x : Operand) (t e : TypeId) (ho : o.op = .call { callee := .builtin .append, args := #[s, x], argTypes := #[t, t] })
    {i0 : TypeInfo} {sz : Nat} (ht : P.underlying t = some (.slice e)) (hi : P.info? e = some i0) (hs : i0.size = sz)
    {g p cap n k : Nat} {vs ys : List Value} (hown : OwnC w g p cap sz n vs) (hv : a.eval s = .slice (some ⟨g, p, none⟩) k cap) (hkn : k ≤ n) {A : Addr} {m c : Nat} (hx : a.eval x = .slice (some A) m c) (hl : ys.length = m * sz) (hr : ∀ j u, ys[j]? = some u → w.cell? (A.add j) = some u) (h1 : ∀ u ∈ ys, u.oneCell' = true) (hroom : k + m ≤ cap)
    (h : ∀ w', OwnC w' g p cap sz (k + m) (vs.take (k * sz) ++ ys) → Only (· = g) w w' → K (a.put o.dst (.slice (some ⟨g, p, none⟩) (k + m) cap)) w') : o.wp P a w K Q := by
  subst hs
  have hm2 : (k + m) * i0.size ≤ cap * i0.size := Nat.mul_le_mul_right _ hroom
  rw [Nat.add_mul] at hm2
  have hrun := run_append_room_cells (P := P) w t o.type e i0 ht hi g p k cap A m c ys hl hr h1 hroom
    (fun j hj => by rw [hl] at hj; rw [Nat.add_assoc]; exact (hown.free (k * i0.size + j) (by omega)).1)
    (fun j hj => by rw [hl] at hj; rw [Nat.add_assoc]; exact (hown.free (k * i0.size + j) (by omega)).2)
  have ho2 := hown.tail (k := k * i0.size) (ys := ys) (n' := k + m) (by rw [hown.len]; exact Nat.mul_le_mul_right _ hkn) (by rw [hl, Nat.add_mul]) hroom
  unfold Oper.wp execOp
  simp only [ho, resolve, invoke, builtin, Sem.run_bind, Sem.run_pure, Result.andThen_ok, List.map_toArray, List.map_cons, List.map_nil, hv, hx, hrun]
  exact h _ ho2 (Only.sets g _ _ w)
end Go.Proofs.Ytfmhijaljlmgaaa

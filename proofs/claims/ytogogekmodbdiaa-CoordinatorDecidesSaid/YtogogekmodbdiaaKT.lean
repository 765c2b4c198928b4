/- Rows of values of the call's own: appended to, read. -/
import Derived.Test.YtogogekmodbdiaaKD
namespace Go.Proofs.Ytogogekmodbdiaa
open Go.RowKit

/-- values as cells -/
def valsV : List Val → List Value
  | [] => []
  | x :: l => .int .i64 x.k :: .int .i64 x.n :: .string x.s :: valsV l
theorem valsV_len (l : List Val) : (valsV l).length = l.length * 3 := by
  induction l with
  | nil => rfl
  | cons x l ih => simp only [valsV, List.length_cons, ih]; omega
theorem valsV_app (a b : List Val) : valsV (a ++ b) = valsV a ++ valsV b := by
  induction a with
  | nil => rfl
  | cons x a ih => simp only [List.cons_append, valsV, ih]
theorem valsV_get {l : List Val} {i : Nat} {x : Val} (h : l[i]? = some x) : (valsV l)[i * 3]? = some (.int .i64 x.k) ∧ (valsV l)[i * 3 + 1]? = some (.int .i64 x.n) ∧ (valsV l)[i * 3 + 2]? = some (.string x.s) := by
  induction l generalizing i with
  | nil => simp at h
  | cons y l ih => cases i with
    | zero => simp at h; subst h; exact ⟨rfl, rfl, rfl⟩
    | succ i =>
      simp only [List.getElem?_cons_succ] at h
      obtain ⟨a, b, c⟩ := ih h
      have e : (i + 1) * 3 = i * 3 + 1 + 1 + 1 := by omega
      rw [e]
      simp only [valsV, List.getElem?_cons_succ]
      exact ⟨a, b, c⟩
theorem valsV_at {l : List Val} {j : Nat} {u : Value} (h : (valsV l)[j]? = some u) : ∃ i x, l[i]? = some x ∧ ((j = i * 3 ∧ u = .int .i64 x.k) ∨ (j = i * 3 + 1 ∧ u = .int .i64 x.n) ∨ (j = i * 3 + 2 ∧ u = .string x.s)) := by
  induction l generalizing j with
  | nil => simp [valsV] at h
  | cons y l ih =>
    match j with
    | 0 => simp [valsV] at h; exact ⟨0, y, rfl, .inl ⟨rfl, h.symm⟩⟩
    | 1 => simp [valsV] at h; exact ⟨0, y, rfl, .inr (.inl ⟨rfl, h.symm⟩)⟩
    | 2 => simp [valsV] at h; exact ⟨0, y, rfl, .inr (.inr ⟨rfl, h.symm⟩)⟩
    | j + 3 =>
      simp only [valsV, List.getElem?_cons_succ] at h
      obtain ⟨i, x, hx, hc⟩ := ih h
      refine ⟨i + 1, x, by simpa using hx, ?_⟩
      rcases hc with ⟨e, e2⟩ | ⟨e, e2⟩ | ⟨e, e2⟩
      · exact .inl ⟨by omega, e2⟩
      · exact .inr (.inl ⟨by omega, e2⟩)
      · exact .inr (.inr ⟨by omega, e2⟩)
theorem valsV_one {l : List Val} : ∀ u ∈ valsV l, u.oneCell' = true := by
  intro u hu
  obtain ⟨j, hj⟩ := List.getElem?_of_mem hu
  obtain ⟨i, x, _, ⟨_, rfl⟩ | ⟨_, rfl⟩ | ⟨_, rfl⟩⟩ := valsV_at hj <;> rfl
/-- a row of values of the call's own -/
def OwnV (w : World) (B : Nat) (v : Value) (l : List Val) : Prop := w.ownsRow B 110 3 v l.length (valsV l) ∧ ∃ A cap, v = .slice A l.length cap ∧ l.length ≤ cap
theorem OwnV.of_row {w : World} {B n : Nat} {v : Value} {l : List Val} (h : w.ownsRow B 110 3 v n (valsV l)) : OwnV w B v l := by
  have hn : n = l.length := by have := h.1; rw [valsV_len] at this; omega
  subst hn
  refine ⟨h, ?_⟩
  rcases h.2 with ⟨rfl, h0⟩ | ⟨g, cap, cur, rfl, _, _, hc, _⟩
  · exact ⟨none, 0, by rw [h0], by omega⟩
  · exact ⟨_, _, rfl, hc⟩
theorem OwnV.nil (w : World) (B : Nat) : OwnV w B (.slice none 0 0) [] := OwnV.of_row (n := 0) ⟨by simp [valsV], .inl ⟨rfl, rfl⟩⟩
theorem OwnV.below {w w' : World} {B : Nat} {v : Value} {l : List Val} (h : OwnV w B v l) (hb : Below w.heap.size w w') : OwnV w' B v l := ⟨own_below h.1 hb, h.2⟩
theorem OwnV.ge {w : World} {B : Nat} {v : Value} {l : List Val} (h : OwnV w B v l) : ∀ k, v.ownBlock = some k → B ≤ k := by
  rcases h.1.2 with ⟨rfl, _⟩ | ⟨g, c, cur, rfl, hg, _⟩
  · intro k e; cases e
  · intro k e
    have : g = k := by simpa [Value.ownBlock] using e
    omega
theorem OwnV.lt {w : World} {B : Nat} {v : Value} {l : List Val} (h : OwnV w B v l) : ∀ k, v.ownBlock = some k → k < w.heap.size := by
  rcases h.1.2 with ⟨rfl, _⟩ | ⟨g, c, cur, rfl, _, hh, _⟩
  · intro k e; cases e
  · intro k e
    have : g = k := by simpa [Value.ownBlock] using e
    subst this
    exact (Array.getElem?_eq_some_iff.1 hh).1
theorem OwnV.rd {w : World} {B : Nat} {A : Option Addr} {n cap : Nat} {l : List Val} (h : OwnV w B (.slice A n cap) l) : RdV w w.heap.size A l := fun hn => by
  rcases h.1.2 with ⟨_, h0⟩ | ⟨g, c, cur, e, _, hh, _, _, _, ht⟩
  · exact absurd (List.length_eq_zero_iff.1 h0) hn
  · injection e with e1
    subst e1
    refine ⟨g, 0, rfl, (Array.getElem?_eq_some_iff.1 hh).1, fun j x hj => ?_⟩
    obtain ⟨a, b, c⟩ := valsV_get hj
    have h2 := fun i u hu => h.1.cells (g := g) rfl i u hu
    have h3 := h2 _ _ a
    have h4 := h2 _ _ b
    have h5 := h2 _ _ c
    rw [add_plain] at h3 h4 h5
    rw [Nat.zero_add]
    exact ⟨h3, h4, h5⟩
theorem infoV : (Try.prog.info? 110).map (fun i => (i.zero, i.size, i.bytes)) = some (some (.agg #[.int .i64 0, .int .i64 0, .string ⟨#[]⟩]), 3, 32) := by kernel_rfl
/-- append of values, whatever the source -/
theorem run_appendV {P : Program} {w : World} (t ty : TypeId) {i0 : TypeInfo} {B : Nat} (ht : P.underlying t = some (.slice 110)) (hi : P.info? 110 = some i0) (hz : i0.zero = some (.agg #[.int .i64 0, .int .i64 0, .string ⟨#[]⟩])) (hs : i0.size = 3) (hb : i0.bytes = 32)
    {v : Value} {xs : List Val} (hown : OwnV w B v xs) {A : Option Addr} {C c : Nat} {ys : List Val} (hr : RdV w C A ys) (h63 : (xs.length + ys.length) * 32 ≤ 140737488355328) (hbase : B ≤ w.heap.size) :
    ∃ v' w', (Builtin.append_ #[t, t] ty #[v, .slice A ys.length c]).run P w = .ok v' w' ∧ OwnV w' B v' (xs ++ ys) ∧ Grew w v w' v' := by
  rcases A with _ | ad
  · have hy : ys = [] := by
      rcases ys with _ | ⟨y, ys⟩
      · rfl
      · obtain ⟨_, _, h, _⟩ := hr (by simp); cases h
    subst hy
    have hrun : (Builtin.append_ #[t, t] ty #[v, .slice none 0 c]).run P w = .ok v w := by
      rcases hown.1.2 with ⟨rfl, _⟩ | ⟨g, cap, cur, rfl, _, _, hnc, _⟩
      · simp [Builtin.append_, run_underlying ht, sizeOf, typeInfo, hi, Builtin.lenOf, Builtin.firstCells]
      · simp [Builtin.append_, run_underlying ht, sizeOf, typeInfo, hi, Builtin.lenOf, Builtin.firstCells, hnc, storeCells]
    exact ⟨v, w, hrun, by simpa using hown, Grew.refl w v⟩
  · have hcells : ∀ j u, (valsV ys)[j]? = some u → w.cell? (ad.add j) = some u := by
      intro j u hu
      obtain ⟨i, x, hx, hc⟩ := valsV_at hu
      obtain ⟨b, o, h, _, hcell⟩ := hr (fun e => by subst e; simp at hx)
      injection h with h
      subst h
      obtain ⟨c0, c1, c2⟩ := hcell i x hx
      rw [Addr.add_lit]
      rcases hc with ⟨rfl, rfl⟩ | ⟨rfl, rfl⟩ | ⟨rfl, rfl⟩
      · exact c0
      · exact c1
      · exact c2
    obtain ⟨v', w', hrun, h2, h3, _, h5⟩ := run_append_own_at (P := P) w B t ty 110 i0 _ 3 32 ht hi hz hs hb rfl (by omega) v xs.length (valsV xs) hown.1 ad ys.length c (valsV ys) (valsV_len ys) hcells valsV_one (by unfold maxLen; omega) (by omega) hbase
    rw [← valsV_app] at h2
    exact ⟨v', w', hrun, OwnV.of_row h2, grew_of h3 h5⟩
theorem wp_appV {P : Program} {w : World} {o : Oper} {a : Act} {K : Act → World → Prop} {Q : Exit → Act → World → Prop} (s x : Operand) (t : TypeId) (ho : o.op = .call { callee := .builtin .append, args := #[s, x], argTypes := #[t, t] })
    {i0 : TypeInfo} {B : Nat} (ht : P.underlying t = some (.slice 110)) (hi : P.info? 110 = some i0) (hz : i0.zero = some (.agg #[.int .i64 0, .int .i64 0, .string ⟨#[]⟩])) (hs : i0.size = 3) (hb : i0.bytes = 32)
    {v : Value} {xs : List Val} (hv : a.eval s = v) (hown : OwnV w B v xs) {A : Option Addr} {C c n : Nat} {ys : List Val} (hx : a.eval x = .slice A n c) (hn : ys.length = n) (hr : RdV w C A ys) (h63 : (xs.length + ys.length) * 32 ≤ 140737488355328) (hbase : B ≤ w.heap.size)
    (h : ∀ v' w', OwnV w' B v' (xs ++ ys) → Grew w v w' v' → K (a.put o.dst v') w') : o.wp P a w K Q := by
  subst hn
  obtain ⟨v', w', hrun, h2, h3⟩ := run_appendV (P := P) t o.type ht hi hz hs hb hown (c := c) hr h63 hbase
  unfold Oper.wp execOp
  simp only [ho, resolve, invoke, builtin, Sem.run_bind, Sem.run_pure, Result.andThen_ok, List.map_toArray, List.map_cons, List.map_nil, hv, hx, hrun]
  exact h v' w' h2 h3
theorem wpList_appV {P : Program} {w : World} {ops : Array Oper} {rest : List Oper} {o : Oper} {a : Act} {Q : Exit → Act → World → Prop} (hgd : o.guard = none) (s x : Operand) (t : TypeId) (ho : o.op = .call { callee := .builtin .append, args := #[s, x], argTypes := #[t, t] })
    {i0 : TypeInfo} {B : Nat} (ht : P.underlying t = some (.slice 110)) (hi : P.info? 110 = some i0) (hz : i0.zero = some (.agg #[.int .i64 0, .int .i64 0, .string ⟨#[]⟩])) (hs : i0.size = 3) (hb : i0.bytes = 32)
    {v : Value} {xs : List Val} (hv : a.eval s = v) (hown : OwnV w B v xs) {A : Option Addr} {C c n : Nat} {ys : List Val} (hx : a.eval x = .slice A n c) (hn : ys.length = n) (hr : RdV w C A ys) (h63 : (xs.length + ys.length) * 32 ≤ 140737488355328) (hbase : B ≤ w.heap.size)
    (h : ∀ v' w', OwnV w' B v' (xs ++ ys) → Grew w v w' v' → wpList P ops Q rest (a.put o.dst v') w') : wpList P ops Q (o :: rest) a w :=
  wpList_plain hgd fun _ hK => wp_appV s x t ho ht hi hz hs hb hv hown hx hn hr h63 hbase fun v' w' h2 h3 => hK _ _ (h v' w' h2 h3)
/-- one value in a block of its own -/
theorem rd_val {w : World} {g : Nat} {x : Val} (h : w.heap[g]? = some (.cells #[.int .i64 x.k, .int .i64 x.n, .string x.s] 110 (0, 0))) : RdV w (g + 1) (some ⟨g, 0, none⟩) [x] := fun _ => by
  refine ⟨g, 0, rfl, by omega, fun j y hj => ?_⟩
  cases j with
  | zero =>
    simp at hj
    subst hj
    exact box3 h
  | succ j => simp at hj
end Go.Proofs.Ytogogekmodbdiaa

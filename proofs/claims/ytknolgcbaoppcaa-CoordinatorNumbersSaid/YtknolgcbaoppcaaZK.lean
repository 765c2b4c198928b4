/- Rows of numbers of the call's own; appends to them. -/
import Derived.Test.YtknolgcbaoppcaaZB
namespace Go.Proofs.Ytknolgcbaoppcaa
open Go.RowKit

def intsZ (l : List Int) : List Value := l.map fun n => .int .i64 n
def OwnI (w : World) (B : Nat) (v : Value) (l : List Int) : Prop := w.ownsRow B 3 1 v l.length (intsZ l) ∧ ∃ A cap, v = .slice A l.length cap ∧ l.length ≤ cap
theorem intsZ_len (l : List Int) : (intsZ l).length = l.length := by simp [intsZ]
theorem intsZ_app (a b : List Int) : intsZ (a ++ b) = intsZ a ++ intsZ b := by simp [intsZ]
theorem intsZ_one (l : List Int) : ∀ u ∈ intsZ l, u.oneCell' = true := by
  intro u hu
  simp only [intsZ, List.mem_map] at hu
  obtain ⟨b, _, rfl⟩ := hu
  rfl
theorem OwnI.of_row {w : World} {B n : Nat} {v : Value} {l : List Int} (h : w.ownsRow B 3 1 v n (intsZ l)) : OwnI w B v l := by
  obtain ⟨hl, hc⟩ := h
  have hn : n = l.length := by rw [intsZ_len] at hl; omega
  subst hn
  refine ⟨⟨hl, hc⟩, ?_⟩
  rcases hc with ⟨rfl, h0⟩ | ⟨g, cap, cur, rfl, _, _, hnc, _⟩
  · exact ⟨none, 0, by rw [h0], by omega⟩
  · exact ⟨_, _, rfl, hnc⟩
theorem OwnI.nil (w : World) (B : Nat) : OwnI w B (.slice none 0 0) [] := OwnI.of_row (n := 0) ⟨by simp [intsZ], .inl ⟨rfl, rfl⟩⟩
theorem OwnI.below {w w' : World} {B : Nat} {v : Value} {l : List Int} (h : OwnI w B v l) (hb : Below w.heap.size w w') : OwnI w' B v l := ⟨own_below h.1 hb, h.2⟩
theorem OwnI.low {w : World} {B C : Nat} {v : Value} {l : List Int} (h : OwnI w B v l) (hC : C ≤ B) : OwnI w C v l := by
  refine ⟨⟨h.1.1, ?_⟩, h.2⟩
  rcases h.1.2 with h1 | ⟨g, cap, cur, e, hb, hr⟩
  · exact .inl h1
  · exact .inr ⟨g, cap, cur, e, Nat.le_trans hC hb, hr⟩
theorem OwnI.ge {w : World} {B : Nat} {v : Value} {l : List Int} (h : OwnI w B v l) : ∀ k, v.ownBlock = some k → B ≤ k := by
  intro k hk
  rcases h.1.2 with ⟨rfl, _⟩ | ⟨g, cap, cur, rfl, hB, _⟩
  · simp [Value.ownBlock] at hk
  · simp [Value.ownBlock] at hk; omega
theorem OwnI.rd {w : World} {B : Nat} {A : Option Addr} {n cap : Nat} {l : List Int} (h : OwnI w B (.slice A n cap) l) : RdI w w.heap.size A l := fun hn => by
  rcases h.1.2 with ⟨e, h0⟩ | ⟨g, cap', cur, e, hB, hh, hnc, hc, hsz, htk⟩
  · exact absurd (List.length_eq_zero_iff.1 (by rw [← h0])) hn
  · injection e with e1 e2 e3
    subst e1
    refine ⟨g, 0, rfl, (Array.getElem?_eq_some_iff.1 hh).1, fun j x hj => ?_⟩
    rw [cell_of_row w g _ cur _ (0, 0) hh]
    have hu : (intsZ l)[j]? = some (.int .i64 x) := by simp [intsZ, List.getElem?_map, hj]
    rw [← htk, List.getElem?_take] at hu
    split at hu
    · simpa using hu
    · cases hu
theorem infoZ : (Try.prog.info? 3).map (fun i => (i.zero, i.size, i.bytes)) = some (some (.int .i64 0), 1, 8) := by kernel_rfl
set_option maxRecDepth 100000 in
/-- append, whatever the source -/
theorem run_appendI {w : World} (t ty : TypeId) {B : Nat} (ht : Try.prog.underlying t = some (.slice 3))
    {v : Value} {xs : List Int} (hown : OwnI w B v xs) {A : Option Addr} {C c : Nat} {ys : List Int} (hr : RdI w C A ys) (h63 : xs.length + ys.length ≤ 1000000) (hbase : B ≤ w.heap.size) :
    ∃ v' w', (Builtin.append_ #[t, t] ty #[v, .slice A ys.length c]).run Try.prog w = .ok v' w' ∧ OwnI w' B v' (xs ++ ys) ∧ Grew w v w' v' := by
  obtain ⟨i0, hi, hz, hs, hb⟩ := info_parts infoZ
  rcases A with _ | ad
  · have hy : ys = [] := by
      rcases ys with _ | ⟨y, ys⟩
      · rfl
      · obtain ⟨_, _, h, _⟩ := hr (by simp); cases h
    subst hy
    have hrun : (Builtin.append_ #[t, t] ty #[v, .slice none 0 c]).run Try.prog w = .ok v w := by
      rcases hown.1.2 with ⟨rfl, _⟩ | ⟨g, cap, cur, rfl, _, _, hnc, _⟩
      · simp [Builtin.append_, run_underlying ht, sizeOf, typeInfo, hi, Builtin.lenOf, Builtin.firstCells]
      · simp [Builtin.append_, run_underlying ht, sizeOf, typeInfo, hi, Builtin.lenOf, Builtin.firstCells, hnc, storeCells]
    exact ⟨v, w, hrun, by simpa using hown, Grew.refl w v⟩
  · have hcells : ∀ j u, (intsZ ys)[j]? = some u → w.cell? (ad.add j) = some u := by
      intro j u hu
      have hn : ys ≠ [] := fun e => by subst e; simp [intsZ] at hu
      obtain ⟨b, o, h, _, hc⟩ := hr hn
      injection h with h
      subst h
      simp only [intsZ, List.getElem?_map, Option.map_eq_some_iff] at hu
      obtain ⟨b, hb1, rfl⟩ := hu
      rw [Addr.add_lit]
      exact hc j b hb1
    obtain ⟨v', w', hrun, h2, h3, _, h5⟩ := run_append_own_at (P := Try.prog) w B t ty 3 i0 (.int .i64 0) 1 8 ht hi hz hs hb rfl (by omega) v xs.length (intsZ xs) hown.1 ad ys.length c (intsZ ys) (by simp [intsZ]) hcells (intsZ_one ys) (by unfold maxLen; omega) (by omega) hbase
    rw [← intsZ_app] at h2
    exact ⟨v', w', hrun, OwnI.of_row h2, grew_of h3 h5⟩
theorem wpList_appI {w : World} {ops : Array Oper} {rest : List Oper} {o : Oper} {a : Act} {Q : Exit → Act → World → Prop} (hgd : o.guard = none) (s x : Operand) (t : TypeId) (ho : o.op = .call { callee := .builtin .append, args := #[s, x], argTypes := #[t, t] })
    {B : Nat} (ht : Try.prog.underlying t = some (.slice 3))
    {v : Value} {xs : List Int} (hv : a.eval s = v) (hown : OwnI w B v xs) {A : Option Addr} {C c n : Nat} {ys : List Int} (hx : a.eval x = .slice A n c) (hn : ys.length = n) (hr : RdI w C A ys) (h63 : xs.length + ys.length ≤ 1000000) (hbase : B ≤ w.heap.size)
    (h : ∀ v' w', OwnI w' B v' (xs ++ ys) → Grew w v w' v' → wpList Try.prog ops Q rest (a.put o.dst v') w') : wpList Try.prog ops Q (o :: rest) a w := by
  refine wpList_plain hgd fun _ hK => ?_
  subst hn
  obtain ⟨v', w', hrun, h2, h3⟩ := run_appendI t o.type ht hown (c := c) hr h63 hbase
  unfold Oper.wp execOp
  simp only [ho, resolve, invoke, builtin, Sem.run_bind, Sem.run_pure, Result.andThen_ok, List.map_toArray, List.map_cons, List.map_nil, hv, hx, hrun]
  exact hK _ _ (h v' w' h2 h3)
theorem rd_oneI (w : World) (n : Int) : RdI (w.alloc (.cells #[.int .i64 n] 3)) (w.heap.size + 1) (some ⟨w.heap.size, 0, none⟩) [n] := fun _ => ⟨_, _, rfl, Nat.lt_succ_self _, fun j d hj => by
  have hh : (w.alloc (.cells #[.int .i64 n] 3)).heap[w.heap.size]? = _ := heap_alloc_new w _
  rw [cell_of_row _ _ _ _ _ (0, 0) hh]
  cases j with
  | zero => simp at hj; subst hj; rfl
  | succ j => simp at hj⟩
end Go.Proofs.Ytknolgcbaoppcaa

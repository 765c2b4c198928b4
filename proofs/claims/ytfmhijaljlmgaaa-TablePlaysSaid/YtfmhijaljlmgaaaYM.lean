/- TableOrder: the law's own body answers true. -/
import Derived.Test.YtfmhijaljlmgaaaYI
import Derived.Deep.QuietTactic
namespace Go.Proofs.Ytfmhijaljlmgaaa
open Go.RowKit


/-- does an entry lie in a range -/
def inK (f t : List UInt8) (x : List UInt8 × List UInt8) : Bool := decide (0 ≤ cmpB x.1 f) && (t.isEmpty || decide (cmpB x.1 t < 0))
def rangeK (f t : List UInt8) (L : List (List UInt8 × List UInt8)) : List (List UInt8 × List UInt8) := L.filter (inK f t)
theorem rangeK_len (f t : List UInt8) (L : List (List UInt8 × List UInt8)) : (rangeK f t L).length ≤ L.length := List.length_filter_le _ _
theorem kv_range (f t : List UInt8) (L : List Ent) : kv (rangeL f t L) = rangeK f t (kv L) := by
  unfold kv rangeL rangeK; rw [List.filter_map]; rfl
theorem TaW.pair {w0 W : World} {G D : Nat → Prop} {q P : Nat} {ps : List Pg} {l : List (List UInt8 × List UInt8)} (h : TaW w0 W G D q P ps l) : l.Pairwise fun a b => cmpB a.1 b.1 < 0 := by
  have := rise_pair h.tb.rise
  rwa [h.kv] at this
/-- a row's tail -/
theorem RdS.drop {w : World} {B : Nat} {A A' : Option Addr} {l : List (List UInt8 × List UInt8)} {k : Nat} (h : RdS w B A l) (hA : k < l.length → A' = A.map fun x => x.add (k * 2)) : RdS w B A' (l.drop k) := fun hn => by
  have hk : k < l.length := by
    rcases Nat.lt_or_ge k l.length with h1 | h1
    · exact h1
    · exact absurd (List.drop_eq_nil_of_le h1) hn
  obtain ⟨b, o, e, hb, hc⟩ := h (fun e => by rw [e] at hk; simp at hk)
  subst e
  refine ⟨b, o + k * 2, by rw [hA hk]; simp only [Option.map_some, Addr.add_lit], hb, fun j x hj => ?_⟩
  rw [List.getElem?_drop] at hj
  have := hc (k + j) x hj
  rwa [show o + k * 2 + j * 2 = o + (k + j) * 2 by omega]
/-- append of entries, whatever the source -/
theorem run_appendSs {w : World} (t ty : TypeId) {B : Nat} (ht : Try.prog.underlying t = some (.slice 34))
    {v : Value} {xs : List (List UInt8 × List UInt8)} (hown : OwnS w B v xs) {A : Option Addr} {C c : Nat} {ys : List (List UInt8 × List UInt8)} (hr : RdS w C A ys) (h63 : xs.length + ys.length ≤ 100000) (hbase : B ≤ w.heap.size) :
    ∃ v' w', (Builtin.append_ #[t, t] ty #[v, .slice A ys.length c]).run Try.prog w = .ok v' w' ∧ OwnS w' B v' (xs ++ ys) ∧ Grew w v w' v' := by
  obtain ⟨i0, hi, hz, hs, hb⟩ := info_parts infoS
  rcases A with _ | ad
  · have hy : ys = [] := by
      rcases ys with _ | ⟨y, ys⟩
      · rfl
      · obtain ⟨_, _, h, _⟩ := hr (by simp); cases h
    subst hy
    have hrun : (Builtin.append_ #[t, t] ty #[v, .slice none 0 c]).run Try.prog w = .ok v w := by
      rcases hown.1.2 with ⟨rfl, _⟩ | ⟨g, cap, cur, rfl, _, _, hnc, _⟩
      · simp [Builtin.append_, run_underlying ht, sizeOf, typeInfo, hi, Builtin.lenOf, Builtin.firstCells]
      · simp [Builtin.append_, run_underlying ht, sizeOf, typeInfo, hi, Builtin.lenOf, Builtin.firstCells, hnc, storeCells]
    exact ⟨v, w, hrun, by simpa using hown, Grew.refl w v⟩
  · have hcells : ∀ j u, (strS ys)[j]? = some u → w.cell? (ad.add j) = some u := by
      intro j u hu
      have hn : ys ≠ [] := fun e => by subst e; simp [strS] at hu
      obtain ⟨b, o, h, _, hc⟩ := hr hn
      injection h with h
      subst h
      have hjl : j < ys.length * 2 := by rw [← strS_len]; exact (List.getElem?_eq_some_iff.1 hu).1
      obtain ⟨x, hx⟩ : ∃ x, ys[j / 2]? = some x := ⟨_, List.getElem?_eq_getElem (by omega)⟩
      obtain ⟨s1, s2⟩ := strS_at hx
      obtain ⟨c1, c2⟩ := hc _ _ hx
      rw [Addr.add_lit]
      rcases Nat.mod_two_eq_zero_or_one j with h0 | h0
      · have e : j / 2 * 2 = j := by omega
        rw [e] at s1 c1
        rw [s1] at hu
        injection hu with hu
        rw [← hu]; exact c1
      · have e : j / 2 * 2 + 1 = j := by omega
        rw [e] at s2
        rw [s2] at hu
        injection hu with hu
        rw [← hu, show o + j = o + j / 2 * 2 + 1 by omega]; exact c2
    obtain ⟨v', w', hrun, h2, h3, _, h5⟩ := run_append_own_at (P := Try.prog) w B t ty 34 i0 (.agg #[.string ⟨#[]⟩, .string ⟨#[]⟩]) 2 32 ht hi hz hs hb rfl (by omega) v xs.length (strS xs) hown.1 ad ys.length c (strS ys) (strS_len ys) hcells (strS_one ys) (by unfold maxLen; omega) (by omega) hbase
    rw [← strS_app] at h2
    exact ⟨v', w', hrun, OwnS.of_row h2, grew_of h3 h5⟩
theorem wpList_appS {w : World} {ops : Array Oper} {rest : List Oper} {o : Oper} {a : Act} {Q : Exit → Act → World → Prop} (hgd : o.guard = none) (s x : Operand) (t : TypeId) (ho : o.op = .call { callee := .builtin .append, args := #[s, x], argTypes := #[t, t] })
    {B : Nat} (ht : Try.prog.underlying t = some (.slice 34))
    {v : Value} {xs : List (List UInt8 × List UInt8)} (hv : a.eval s = v) (hown : OwnS w B v xs) {A : Option Addr} {C c n : Nat} {ys : List (List UInt8 × List UInt8)} (hx : a.eval x = .slice A n c) (hn : ys.length = n) (hr : RdS w C A ys) (h63 : xs.length + ys.length ≤ 100000) (hbase : B ≤ w.heap.size)
    (h : ∀ v' w', OwnS w' B v' (xs ++ ys) → Grew w v w' v' → wpList Try.prog ops Q rest (a.put o.dst v') w') : wpList Try.prog ops Q (o :: rest) a w := by
  refine wpList_plain hgd fun _ hK => ?_
  subst hn
  obtain ⟨v', w', hrun, h2, h3⟩ := run_appendSs t o.type ht hown (c := c) hr h63 hbase
  unfold Oper.wp execOp
  simp only [ho, resolve, invoke, builtin, Sem.run_bind, Sem.run_pure, Result.andThen_ok, List.map_toArray, List.map_cons, List.map_nil, hv, hx, hrun]
  exact hK _ _ (h v' w' h2 h3)
theorem grownB {w w1 : World} {g B : Nat} (h : w.grownBy w1 (some g)) (hB : B ≤ g) (hw : B ≤ w.heap.size) : Below B w w1 :=
  ⟨h.os, h.tape, h.output, h.size, fun b hb => h.block b (by omega) (fun e => by injection e with e; omega)⟩
theorem OwnS.empty_at (w : World) {g : Nat} (hg : g = w.heap.size) : OwnS (w.alloc (.cells #[] 34)) g (.slice (some ⟨g, 0, none⟩) 0 0) [] := by
  subst hg
  exact ⟨⟨rfl, .inr ⟨_, 0, #[], rfl, Nat.le_refl _, heap_alloc_new w _, Nat.le_refl _, by unfold maxLen; omega, rfl, rfl⟩⟩, _, _, rfl, Nat.le_refl _⟩

theorem less_sB {a b : List UInt8} {x : Bool} (h : decide (cmpB a b < 0) = x) : Op.bytesLess (sB a).toList (sB b).toList = x := by
  rw [less_eq, ByteArray.toList_eq, ByteArray.toList_eq, sB_list, sB_list]; exact h
end Go.Proofs.Ytfmhijaljlmgaaa

/- built goes through at most 14 acts and leaves errors and the document's answers side by side, for every script in memory. -/
import Derived.Test.YtdfmmphoccfacaaDoorJ
import Derived.Test.YtdfmmphoccfacaaDoorI
import Derived.StillTailTactics
import Derived.Maps.AppendAt
import Derived.Deep.CutRange
import Derived.Deep.DeepCutAuto
namespace Go.Proofs.YtdfmmphoccfacaaDoor
open Go.RowKit Go.Extern.Stop Go.Stop Go.Extern

theorem info29 : (Tryd.prog.info? 29).map (fun i => (i.zero, i.size, i.bytes)) = some (some .nilIface, 1, 16) := by kernel_rfl
theorem info33 : (Tryd.prog.info? 33).map (fun i => (i.zero, i.size, i.bytes)) = some (some (.agg #[.slice none 0 0, .slice none 0 0, .int .i64 0]), 3, 56) := by kernel_rfl

/-- an act of a script -/
structure ActV where
  kind : Int
  i : Int
  j : Int
  code : Int
  place : Int
/-- THE SCRIPT in memory -/
structure Script (w : World) (b o : Nat) (acts : List ActV) : Prop where
  low : b < w.heap.size
  cells : ∀ k (x : ActV), acts[k]? = some x → w.cell? ⟨b, o + k * 5, none⟩ = some (.int .i64 x.kind) ∧ w.cell? ⟨b, o + k * 5 + 1, none⟩ = some (.int .i64 x.i) ∧ w.cell? ⟨b, o + k * 5 + 2, none⟩ = some (.int .i64 x.j) ∧
    w.cell? ⟨b, o + k * 5 + 3, none⟩ = some (.int .i64 x.code) ∧ w.cell? ⟨b, o + k * 5 + 4, none⟩ = some (.int .i64 x.place)
  ok : ∀ x ∈ acts, i64ok x.i ∧ i64ok x.j ∧ i64ok x.code ∧ i64ok x.place

/-- an item: a tree, and the document's codes and places in memory -/
abbrev Item := Tree × Value × Value
def Items (w : World) (l : List Item) : Prop := ∀ x ∈ l, Rep w x.1 ∧ Lst w 23 x.2.1 (vals x.1.codes) ∧ Lst w 3 x.2.2 (vals x.1.places)
def trees (l : List Item) : List Value := l.map (fun x => x.1.val)
def tolds (l : List Item) : List Value := l.flatMap (fun x => [x.2.1, x.2.2, .int .i64 (x.1.deep : Int)])
def Small (l : List Item) : Prop := ∀ x ∈ l, x.1.codes.length ≤ 2 ^ (l.length - 1) ∧ x.1.deep < l.length

theorem own_apart' {w : World} {B C n m s t : Nat} {e e' : TypeId} {v u : Value} {xs ys : List Value} (h : w.ownsRow B e s v n xs) (k : w.ownsRow C e' t u m ys) (he : e ≠ e') : v.ownBlock = none ∨ v.ownBlock ≠ u.ownBlock := by
  rcases k.2 with ⟨rfl, _⟩ | ⟨g, cap, cur, rfl, _, hh, _⟩
  · cases hv : v.ownBlock
    · exact .inl rfl
    · exact .inr (by simp [Value.ownBlock])
  · exact .inr (own_ne h hh he)
theorem Rep.keptT {w w' : World} (hk : ∀ (b : Nat) (c : Array Value) (t : TypeId), t = 59 ∨ t = 71 → w.heap[b]? = some (.cells c t (0, 0)) → w'.heap[b]? = w.heap[b]?) : ∀ {x : Tree}, Rep w x → Rep w' x
  | .nil, _ => trivial
  | .fault b _ _ _, ⟨h1, h2, h3, h4, h5, h6⟩ => ⟨(hk b _ _ (.inl rfl) h1).trans h1, h2, h3, h4, h5, Rep.keptT hk h6⟩
  | .join b _ _, ⟨h1, h2, h3, h4, h5, h6, h7⟩ => ⟨(hk b _ _ (.inr rfl) h1).trans h1, h2, h3, h4, h5, Rep.keptT hk h6, Rep.keptT hk h7⟩
theorem Items.below {w w' : World} {l : List Item} (h : Items w l) (hb : Below w.heap.size w w') : Items w' l := fun x hx => ⟨(h x hx).1.below hb, (h x hx).2.1.below hb, (h x hx).2.2.below hb⟩
theorem Items.grown {w w' : World} {l : List Item} {B n s : Nat} {e : TypeId} {v : Value} {xs : List Value} (h : Items w l) (hv : w.ownsRow B e s v n xs) (he : e = 29 ∨ e = 33) (hg : w.grownBy w' v.ownBlock) : Items w' l := by
  intro x hx
  obtain ⟨h1, h2, h3⟩ := h x hx
  have hne : ∀ t : TypeId, t ≠ 29 → t ≠ 33 → t ≠ e := fun t a b => by rcases he with rfl | rfl <;> assumption
  refine ⟨h1.keptT fun b c t ht hb => hg.block b (Array.getElem?_eq_some_iff.1 hb).1 (own_ne hv hb ?_).symm, h2.kept hg (own_apart' h2.1 hv (hne _ (by decide) (by decide))), h3.kept hg (own_apart' h3.1 hv (hne _ (by decide) (by decide)))⟩
  rcases ht with rfl | rfl <;> rcases he with rfl | rfl <;> decide

/-! ### the document's functions, on trees -/
def RefTree (w : World) (t : Tree) : Ending → World → Prop := fun e w' => ∃ v1 v2, e = .returned (.agg #[v1, v2, .int .i64 (t.deep : Int)]) ∧ Lst w' 23 v1 (vals t.codes) ∧ Lst w' 3 v2 (vals t.places) ∧ Below w.heap.size w w'
theorem Rep.codes_nil {w : World} : ∀ {t : Tree}, Rep w t → t.codes = [] → t = .nil
  | .nil, _, _ => rfl
  | .fault _ _ _ _, _, h => by simp [Tree.codes] at h
  | .join _ l r, hR, h => by
    simp [Tree.codes] at h
    exact absurd (Rep.codes_nil hR.2.2.2.2.2.1 h.1) hR.2.1
theorem lst_slice {w : World} {e : TypeId} {v : Value} {l : List Int} (h : Lst w e v (vals l)) : ∃ pa cap, v = .slice pa l.length cap ∧ (l.length ≠ 0 → ∃ a, pa = some a) := by
  rcases h.1.2 with ⟨rfl, h0⟩ | ⟨g, cap, cur, rfl, _⟩
  · rw [vals_len] at h0
    exact ⟨_, _, by rw [h0], fun h => absurd h0 h⟩
  · exact ⟨_, _, by rw [vals_len], fun _ => ⟨_, rfl⟩⟩
theorem refNew_tree (c p : Int) (k : Nat) (w : World) : Calls Tryd.prog 22 #[.int .i64 c, .int .i64 p] w (RefTree w (newT k c p)) := by
  refine (refNew_any c p w).mono ?_
  rintro e w' ⟨v, rfl, ⟨vc, vp, rfl, h1, h2⟩, hb⟩
  have e1 : (newT 0 c p).codes = (newT k c p).codes := by unfold newT; split <;> rfl
  have e2 : (newT 0 c p).places = (newT k c p).places := by unfold newT; split <;> rfl
  have e3 : (newT 0 c p).deep = (newT k c p).deep := by unfold newT; split <;> rfl
  rw [e1] at h1; rw [e2] at h2; rw [e3]
  exact ⟨vc, vp, rfl, h1, h2, hb⟩
theorem refWrap_tree (t : Tree) (vc vp : Value) (c p : Int) (k : Nat) (w w0 : World) (hR : Rep w0 t) (h1 : Lst w 23 vc (vals t.codes)) (h2 : Lst w 3 vp (vals t.places)) (hn : t.codes.length < 900000) (hd : t.deep < 1000000) :
    Calls Tryd.prog 23 #[.agg #[vc, vp, .int .i64 (t.deep : Int)], .int .i64 c, .int .i64 p] w (RefTree w (wrapT k t c p)) := by
  obtain ⟨pa, ca, rfl, ha⟩ := lst_slice h1
  obtain ⟨pb, cb, rfl, _⟩ := lst_slice h2
  by_cases ht : t = .nil
  · have hz : t.codes.length = 0 := by rw [ht]; rfl
    have := refWrap_zero (.agg #[.slice pa 0 ca, .slice pb t.places.length cb, .int .i64 (t.deep : Int)]) c p w pb _ cb t.deep pa ca rfl
    rw [hz] at h1 ⊢
    refine this.mono ?_
    rintro e w' ⟨rfl, hb⟩
    have e1 : wrapT k t c p = t := by simp [wrapT, ht]
    rw [e1]
    exact ⟨_, _, rfl, h1.below hb, h2.below hb, hb⟩
  · have hz : ¬ t.codes.length = 0 := fun h => ht (hR.codes_nil (List.length_eq_zero_iff.1 h))
    obtain ⟨a, rfl⟩ := ha hz
    by_cases hc : c = 0
    · subst hc
      refine (refWrap_ok _ p w pb _ cb t.deep (some a) _ ca hz rfl).mono ?_
      rintro e w' ⟨rfl, hb⟩
      have e1 : wrapT k t 0 p = t := by simp [wrapT]
      rw [e1]
      exact ⟨_, _, rfl, h1.below hb, h2.below hb, hb⟩
    · refine (refWrap_go t.codes t.places t.codes.length t.deep c p w a ca pb _ cb h1 h2 hc hz rfl (Tree.places_len t) (by omega) (by omega) (by omega)).mono ?_
      rintro e w' ⟨v1, v2, rfl, a1, a2, hb⟩
      have e1 : wrapT k t c p = .fault k c p t := by simp [wrapT, ht, hc]
      rw [e1]
      exact ⟨v1, v2, rfl, a1, a2, hb⟩
theorem refJoin_tree (t u : Tree) (vc vp uc up : Value) (k : Nat) (w w0 : World) (hR : Rep w0 t) (hR' : Rep w0 u) (h1 : Lst w 23 vc (vals t.codes)) (h2 : Lst w 3 vp (vals t.places)) (h3 : Lst w 23 uc (vals u.codes)) (h4 : Lst w 3 up (vals u.places)) (hn : t.codes.length < 400000) (hm : u.codes.length < 400000) :
    Calls Tryd.prog 24 #[.agg #[vc, vp, .int .i64 (t.deep : Int)], .agg #[uc, up, .int .i64 (u.deep : Int)]] w (RefTree w (joinT k t u)) := by
  obtain ⟨pa, ca, rfl, _⟩ := lst_slice h1
  obtain ⟨pb, cb, rfl, _⟩ := lst_slice h2
  obtain ⟨pc, cc, rfl, _⟩ := lst_slice h3
  obtain ⟨pd, cd, rfl, _⟩ := lst_slice h4
  have l1 := Tree.places_len t
  have l2 := Tree.places_len u
  refine (refJoin_go t.codes t.places u.codes u.places t.deep u.deep w pa pb pc pd _ ca _ cb _ cc _ cd h1 h2 h3 h4 ⟨hn, by omega, hm, by omega⟩).mono ?_
  rintro e w' ⟨v1, v2, rfl, a1, a2, hb⟩
  have hd : (if (t.deep : Int) < u.deep then (u.deep : Int) else t.deep) = ((joinT k t u).deep : Int) := by
    have key : (joinT k t u).deep = max t.deep u.deep := by
      by_cases e1 : t = .nil
      · subst e1; simp [joinT, Tree.deep]
      · by_cases e2 : u = .nil
        · subst e2; simp [joinT, e1, Tree.deep]
        · simp [joinT, e1, e2, Tree.deep]
    rw [key]
    split <;> omega
  have hc : (joinT k t u).codes = t.codes ++ u.codes := by
    unfold joinT
    split
    · rename_i h; subst h; rfl
    · split
      · rename_i h; subst h; simp [Tree.codes]
      · rfl
  have hp : (joinT k t u).places = t.places ++ u.places := by
    unfold joinT
    split
    · rename_i h; subst h; rfl
    · split
      · rename_i h; subst h; simp [Tree.places]
      · rfl
  exact ⟨v1, v2, by rw [hd], by rw [hc]; exact a1, by rw [hp]; exact a2, hb⟩

/-! ### built -/
/-- at the head of the loop -/
def BI (w0 : World) (acts : List ActV) (v4 v5 v6 : Value) (wr : World) : Prop := ∃ (k : Nat) (l : List Item), v6 = .int .i64 k ∧ k ≤ acts.length ∧ k ≤ 14 ∧ l.length ≤ k + 1 ∧ 0 < l.length ∧
  wr.ownsRow w0.heap.size 29 1 v4 l.length (trees l) ∧ wr.ownsRow w0.heap.size 33 3 v5 l.length (tolds l) ∧ Items wr l ∧ Small l ∧ Below w0.heap.size w0 wr

theorem own_head {w : World} {B n s : Nat} {e : TypeId} {v : Value} {xs : List Value} (h : w.ownsRow B e s v n xs) (hn : 0 < n) : ∃ g cap, v = .slice (some ⟨g, 0, none⟩) n cap ∧ B ≤ g := by
  rcases h.2 with ⟨_, h0⟩ | ⟨g, cap, cur, rfl, hg, _⟩
  · omega
  · exact ⟨g, cap, rfl, hg⟩

theorem own_litN {w : World} {B g k s : Nat} {cs : Array Value} {e : TypeId} (h : w.heap[g]? = some (.cells cs e (0, 0))) (hB : B ≤ g) (hk : cs.size = k * s) (hm : k ≤ 1000000) : w.ownsRow B e s (.slice (some ⟨g, 0, none⟩) k k) k cs.toList :=
  ⟨by simp [hk], .inr ⟨g, k, cs, rfl, hB, h, Nat.le_refl _, by unfold maxLen; omega, hk, List.take_of_length_le (by simp [hk])⟩⟩
theorem bi_start (w : World) (acts : List ActV) : BI w acts (.slice (some ⟨w.heap.size, 0, none⟩) 1 1) (.slice (some ⟨w.heap.size + 1, 0, none⟩) 1 1) (.int .i64 0)
    ((w.alloc (.cells #[.nilIface] 29)).alloc (.cells #[.slice none 0 0, .slice none 0 0, .int .i64 0] 33)) := by
  refine ⟨0, [(.nil, .slice none 0 0, .slice none 0 0)], rfl, Nat.zero_le _, by omega, by simp, by simp, ?_, ?_, ?_, ?_, ?_⟩
  · exact own_litN (s := 1) (cs := #[.nilIface]) (by rw [heap_at, if_neg (by simp), heap_at, if_pos rfl]) (Nat.le_refl _) rfl (by simp)
  · exact own_litN (s := 3) (cs := #[.slice none 0 0, .slice none 0 0, .int .i64 0]) (by rw [heap_at, if_pos (by simp)]) (by omega) rfl (by simp)
  · intro x hx
    simp at hx; subst hx
    exact ⟨trivial, Lst.nil _ _, Lst.nil _ _⟩
  · intro x hx
    simp at hx; subst hx
    simp [Tree.codes, Tree.deep]
  · exact alloc2_below _ _ _

def BuiltPost (w : World) (e : Ending) (w' : World) : Prop := ∃ (va vt : Value) (l : List Item), e = .returned (.tuple #[va, vt]) ∧ 0 < l.length ∧ l.length ≤ 15 ∧
      w'.ownsRow w.heap.size 29 1 va l.length (trees l) ∧ w'.ownsRow w.heap.size 33 3 vt l.length (tolds l) ∧ Items w' l ∧ Small l ∧ Below w.heap.size w w'
theorem Script.below {w w' : World} {b o : Nat} {acts : List ActV} {B : Nat} (h : Script w b o acts) (hb : Below B w w') (ha : b < B) : Script w' b o acts := by
  refine ⟨Nat.lt_of_lt_of_le h.low hb.size, fun k x hk => ?_, h.ok⟩
  rw [hb.cell ha, hb.cell ha, hb.cell ha, hb.cell ha, hb.cell ha]
  exact h.cells k x hk

/-- in the midst of a round -/
structure Mid (w0 : World) (n m : Nat) (va vt : Value) (xs ys : List Value) (l : List Item) (x : Tree) (wc : World) : Prop where
  A : wc.ownsRow w0.heap.size 29 1 va n xs
  T : wc.ownsRow w0.heap.size 33 3 vt m ys
  I : Items wc l
  X : Rep wc x
  bel : Below w0.heap.size w0 wc
theorem own_below {w w' : World} {B n s : Nat} {e : TypeId} {v : Value} {xs : List Value} (h : w.ownsRow B e s v n xs) (hb : Below w.heap.size w w') : w'.ownsRow B e s v n xs := h.kept (grownBy_below (row := none) hb) (by cases hv : v.ownBlock <;> simp)
theorem Mid.below {w0 wc w' : World} {n m : Nat} {va vt : Value} {xs ys : List Value} {l : List Item} {x : Tree} (h : Mid w0 n m va vt xs ys l x wc) (hb : Below wc.heap.size wc w') : Mid w0 n m va vt xs ys l x w' :=
  ⟨own_below h.A hb, own_below h.T hb, h.I.below hb, h.X.below hb, h.bel.trans (hb.mono h.bel.size)⟩
theorem Mid.alloc {w0 wc : World} {n m : Nat} {va vt : Value} {xs ys : List Value} {l : List Item} {x : Tree} (h : Mid w0 n m va vt xs ys l x wc) (o : Obj) : Mid w0 n m va vt xs ys l x (wc.alloc o) := h.below (alloc_below _ _)
theorem Mid.tree {w0 wc : World} {n m : Nat} {va vt : Value} {xs ys : List Value} {l : List Item} {x y : Tree} (h : Mid w0 n m va vt xs ys l x wc) (hy : Rep wc y) : Mid w0 n m va vt xs ys l y wc := ⟨h.A, h.T, h.I, hy, h.bel⟩
theorem rep_grown {w w' : World} {B n s : Nat} {e : TypeId} {v : Value} {xs : List Value} {x : Tree} (h : Rep w x) (hv : w.ownsRow B e s v n xs) (he : e = 29 ∨ e = 33) (hg : w.grownBy w' v.ownBlock) : Rep w' x :=
  h.keptT fun b c t ht hb => hg.block b (Array.getElem?_eq_some_iff.1 hb).1 (own_ne hv hb (by rcases ht with rfl | rfl <;> rcases he with rfl | rfl <;> decide)).symm
theorem Mid.appA {w0 wc w' : World} {n m k : Nat} {va vt va' : Value} {xs ys zs : List Value} {l : List Item} {x : Tree} (h : Mid w0 n m va vt xs ys l x wc) (hg : wc.grownBy w' va.ownBlock) (ho : w'.ownsRow w0.heap.size 29 1 va' k zs) :
    Mid w0 k m va' vt zs ys l x w' :=
  ⟨ho, h.T.kept hg (own_apart' h.T h.A (by decide)), h.I.grown h.A (.inl rfl) hg, rep_grown h.X h.A (.inl rfl) hg, Below.grown h.bel hg h.bel.size (fun k hk => (h.A.lt k hk).1)⟩
theorem bi_next {w0 wc w' : World} {acts : List ActV} {k : Nat} {va vt vt' v1 v2 : Value} {l : List Item} {t : Tree} (h : Mid w0 (l.length + 1) l.length va vt (trees l ++ [t.val]) (tolds l) l t wc)
    (h1 : Lst wc 23 v1 (vals t.codes)) (h2 : Lst wc 3 v2 (vals t.places)) (hg : wc.grownBy w' vt.ownBlock) (ho : w'.ownsRow w0.heap.size 33 3 vt' (l.length + 1) (tolds l ++ [v1, v2, .int .i64 (t.deep : Int)]))
    (hS : Small l) (hc : t.codes.length ≤ 2 ^ l.length) (hd : t.deep ≤ l.length) (hk : k < acts.length) (hk2 : k < 14) (hl : l.length ≤ k + 1) (hl0 : 0 < l.length) :
    BI w0 acts va vt' (.int .i64 ((k : Int) + 1)) w' := by
  refine ⟨k + 1, l ++ [(t, v1, v2)], rfl, hk, by omega, by simp; omega, by simp, ?_, ?_, ?_, ?_, ?_⟩
  · have := h.A.kept hg (own_apart' h.A h.T (by decide))
    simpa [trees] using this
  · simpa [tolds] using ho
  · intro x hx
    rcases List.mem_append.1 hx with hx | hx
    · exact (h.I.grown h.T (.inr rfl) hg) x hx
    · simp at hx; subst hx
      exact ⟨rep_grown h.X h.T (.inr rfl) hg, h1.kept hg (own_apart' h1.1 h.T (by decide)), h2.kept hg (own_apart' h2.1 h.T (by decide))⟩
  · intro x hx
    have hp : 2 ^ (l.length - 1) ≤ 2 ^ l.length := Nat.pow_le_pow_right (by omega) (by omega)
    rcases List.mem_append.1 hx with hx | hx
    · have := hS x hx
      simp only [List.length_append, List.length_singleton, Nat.add_sub_cancel]
      omega
    · simp at hx; subst hx
      simp only [List.length_append, List.length_singleton, Nat.add_sub_cancel]
      omega
  · exact Below.grown h.bel hg h.bel.size (fun k hk => (h.T.lt k hk).1)
theorem bi_same {w0 wc w' : World} {acts : List ActV} {k : Nat} {va vt : Value} {l : List Item} {t : Tree} (h : Mid w0 l.length l.length va vt (trees l) (tolds l) l t wc) (hb : Below wc.heap.size wc w') (hS : Small l) (hk : k < acts.length) (hk2 : k < 14) (hl : l.length ≤ k + 1) (hl0 : 0 < l.length) :
    BI w0 acts va vt (.int .i64 ((k : Int) + 1)) w' := by
  have h' := h.below hb
  exact ⟨k + 1, l, rfl, hk, by omega, by omega, hl0, h'.A, h'.T, h'.I, hS, h'.bel⟩

def Fits (t : Tree) (n : Nat) : Prop := t.codes.length ≤ 2 ^ n ∧ t.deep ≤ n
theorem fits_new (k : Nat) (c p : Int) {n : Nat} (h : 0 < n) : Fits (newT k c p) n := by
  have h2 : 1 ≤ 2 ^ n := Nat.one_le_two_pow
  unfold newT Fits
  split <;> simp [Tree.codes, Tree.deep] <;> omega
theorem pow_pred {n : Nat} (h : 0 < n) : 2 ^ n = 2 * 2 ^ (n - 1) := by
  obtain ⟨m, rfl⟩ : ∃ m, n = m + 1 := ⟨n - 1, by omega⟩
  rw [Nat.pow_succ, Nat.add_sub_cancel]; omega
theorem fits_wrap (k : Nat) (t : Tree) (c p : Int) {n : Nat} (h : 0 < n) (h1 : t.codes.length ≤ 2 ^ (n - 1)) (h2 : t.deep < n) : Fits (wrapT k t c p) n := by
  have h3 : 1 ≤ 2 ^ (n - 1) := Nat.one_le_two_pow
  have h4 := pow_pred h
  unfold wrapT Fits
  split
  · exact ⟨by omega, by omega⟩
  · simp only [Tree.codes, Tree.deep, List.length_cons]
    exact ⟨by omega, by omega⟩
theorem fits_join (k : Nat) (t u : Tree) {n : Nat} (h : 0 < n) (h1 : t.codes.length ≤ 2 ^ (n - 1)) (h2 : t.deep < n) (h3 : u.codes.length ≤ 2 ^ (n - 1)) (h4 : u.deep < n) : Fits (joinT k t u) n := by
  have h5 := pow_pred h
  unfold joinT Fits
  split
  · exact ⟨by omega, by omega⟩
  · split
    · exact ⟨by omega, by omega⟩
    · simp only [Tree.codes, Tree.deep, List.length_append]
      exact ⟨by omega, by omega⟩
theorem Tree.val_shape (t : Tree) : t.val = .nilIface ∨ ∃ T d, t.val = .iface T (.pointer (some ⟨d, 0, none⟩)) := by
  cases t
  · exact .inl rfl
  · exact .inr ⟨_, _, rfl⟩
  · exact .inr ⟨_, _, rfl⟩
theorem Tree.cells_val (t : Tree) : t.val.cells = #[t.val] := by cases t <;> rfl
attribute [local go_sem ↓] Tree.cells_val
theorem one_nil : ∀ u ∈ [Value.nilIface], u.oneCell' = true := by simp [Value.oneCell']
theorem one_iface (T : TypeId) (v : Value) : ∀ u ∈ [Value.iface T v], u.oneCell' = true := by simp [Value.oneCell']
theorem val_one (t : Tree) : ∀ u ∈ [t.val], u.oneCell' = true := by
  intro u hu
  simp at hu; subst hu
  cases t <;> rfl
theorem told_one (pa pb : Option Addr) (a b c d : Nat) (i : Int) : ∀ u ∈ [Value.slice pa a b, .slice pb c d, .int .i64 i], u.oneCell' = true := by
  intro u hu
  simp at hu
  rcases hu with rfl | rfl | rfl <;> rfl
/-- the act's own cells stay -/
theorem act_kept {w0 wc w' : World} {n m j : Nat} {va vt : Value} {xs ys : List Value} {l : List Item} {x : Tree} {c : Array Value} (h : Mid w0 n m va vt xs ys l x wc) (hg : wc.grownBy w' va.ownBlock) (hf : wc.heap[j]? = some (.cells c 50 (0, 0))) : w'.heap[j]? = some (.cells c 50 (0, 0)) :=
  (hg.block j (Array.getElem?_eq_some_iff.1 hf).1 (own_ne h.A hf (by decide)).symm).trans hf
theorem act_later {w w' : World} {j : Nat} {c : Array Value} (hb : Below w.heap.size w w') (hf : w.heap[j]? = some (.cells c 50 (0, 0))) : w'.heap[j]? = some (.cells c 50 (0, 0)) :=
  (hb.block j (Array.getElem?_eq_some_iff.1 hf).1).trans hf

theorem step_app29 {ops : Array Oper} {o : Oper} {a : Act} {w : World} {K : Act → World → Prop} {Q : Exit → Act → World → Prop} {E : Prop} (hgd : o.guard = none) (s x : Operand)
    (ho : o.op = .call { callee := .builtin .append, args := #[s, x], argTypes := #[24, 24] }) (base : Nat) (v : Value) (n : Nat) (xs : List Value) (hs : a.eval s = v) (hown : w.ownsRow base 29 1 v n xs)
    (ad : Addr) (t : Tree) (hx : a.eval x = .slice (some ad) 1 1) (hh : w.heap[ad.block]? = some (.cells #[t.val] 29 (0, 0))) (had : ad = ⟨ad.block, 0, none⟩)
    (h63 : n + 1 ≤ maxLen) (hbytes : (n + 1) * 16 ≤ 140737488355328) (hbase : base ≤ w.heap.size)
    (h : ∀ g cap w', w'.ownsRow base 29 1 (.slice (some ⟨g, 0, none⟩) (n + 1) cap) (n + 1) (xs ++ [t.val]) → w.grownBy w' v.ownBlock → K (a.put o.dst (.slice (some ⟨g, 0, none⟩) (n + 1) cap)) w') :
    if Region.wanted o (yielded ops a.tmps) = true then Oper.wp Tryd.prog o a w K Q else E := by
  obtain ⟨i29, hi29, hz29, hs29, hb29⟩ := info_parts info29
  refine step_append_lies w hgd s x 24 ho base 29 i29 _ 1 16 Tryd.underlying24 hi29 hz29 hs29 hb29 rfl (by omega) v n xs hs hown ad 1 1 [t.val] hx rfl (by rw [had]; exact World.news_of_block (cs := #[t.val]) hh) (val_one t) (by omega) h63 hbytes hbase _ rfl ?_
  intro g cap w' h1 h2 _ _
  exact h g cap w' h1 h2

theorem step_app33 {ops : Array Oper} {o : Oper} {a : Act} {w : World} {K : Act → World → Prop} {Q : Exit → Act → World → Prop} {E : Prop} (hgd : o.guard = none) (s x : Operand)
    (ho : o.op = .call { callee := .builtin .append, args := #[s, x], argTypes := #[25, 25] }) (base : Nat) (v : Value) (n : Nat) (xs : List Value) (hs : a.eval s = v) (hown : w.ownsRow base 33 3 v n xs)
    (ad : Addr) (pa pb : Option Addr) (i1 i2 i3 i4 : Nat) (d : Int) (hx : a.eval x = .slice (some ad) 1 1) (hh : w.heap[ad.block]? = some (.cells #[.slice pa i1 i2, .slice pb i3 i4, .int .i64 d] 33 (0, 0))) (had : ad = ⟨ad.block, 0, none⟩)
    (h63 : n + 1 ≤ maxLen) (hbytes : (n + 1) * 56 ≤ 140737488355328) (hbase : base ≤ w.heap.size)
    (h : ∀ g cap w', w'.ownsRow base 33 3 (.slice (some ⟨g, 0, none⟩) (n + 1) cap) (n + 1) (xs ++ [.slice pa i1 i2, .slice pb i3 i4, .int .i64 d]) → w.grownBy w' v.ownBlock → K (a.put o.dst (.slice (some ⟨g, 0, none⟩) (n + 1) cap)) w') :
    if Region.wanted o (yielded ops a.tmps) = true then Oper.wp Tryd.prog o a w K Q else E := by
  obtain ⟨i33, hi33, hz33, hs33, hb33⟩ := info_parts info33
  refine step_append_lies w hgd s x 25 ho base 33 i33 _ 3 56 Tryd.underlying25 hi33 hz33 hs33 hb33 rfl (by omega) v n xs hs hown ad 1 1 [.slice pa i1 i2, .slice pb i3 i4, .int .i64 d] hx rfl (by rw [had]; exact World.news_of_block (cs := #[.slice pa i1 i2, .slice pb i3 i4, .int .i64 d]) hh) (told_one _ _ _ _ _ _ _) (by omega) h63 hbytes hbase _ rfl ?_
  intro g cap w' h1 h2 _ _
  exact h g cap w' h1 h2
theorem below_drew (w : World) : Below w.heap.size w w.drew := (Below.refl _ _).drew
theorem tolds_get : ∀ (l : List Item) (i : Nat) (y : Item), l[i]? = some y → (tolds l)[i * 3]? = some y.2.1 ∧ (tolds l)[i * 3 + 1]? = some y.2.2 ∧ (tolds l)[i * 3 + 2]? = some (.int .i64 (y.1.deep : Int))
  | [], _, _, h => by simp at h
  | x :: l, 0, y, h => by
    simp at h; subst h
    exact ⟨rfl, rfl, rfl⟩
  | x :: l, i + 1, y, h => by
    have ih := tolds_get l i y (by simpa using h)
    have e : tolds (x :: l) = [x.2.1, x.2.2, .int .i64 (x.1.deep : Int)] ++ tolds l := rfl
    rw [e, List.getElem?_append_right (by simp; omega), List.getElem?_append_right (by simp; omega), List.getElem?_append_right (by simp; omega)]
    have e1 : (i + 1) * 3 - [x.2.1, x.2.2, Value.int .i64 (x.1.deep : Int)].length = i * 3 := by simp; omega
    have e2 : (i + 1) * 3 + 1 - [x.2.1, x.2.2, Value.int .i64 (x.1.deep : Int)].length = i * 3 + 1 := by simp; omega
    have e3 : (i + 1) * 3 + 2 - [x.2.1, x.2.2, Value.int .i64 (x.1.deep : Int)].length = i * 3 + 2 := by simp; omega
    rw [e1, e2, e3]
    exact ih

/-- between the two appends of a round -/
def Half (w wr : World) (l : List Item) (vt : Value) (x : ActV) (P : Tree → Prop) (v4 : Value) (wx : World) : Prop := ∃ t g cap, v4 = .slice (some ⟨g, 0, none⟩) (l.length + 1) cap ∧
  Mid w (l.length + 1) l.length v4 vt (trees l ++ [t.val]) (tolds l) l t wx ∧ Fits t l.length ∧ P t ∧ wx.heap[wr.heap.size]? = some (.cells #[.int .i64 x.kind, .int .i64 x.i, .int .i64 x.j, .int .i64 x.code, .int .i64 x.place] 50 (0, 0))

set_option maxHeartbeats 4000000 in
set_option maxRecDepth 100000 in
theorem built_any (acts : List ActV) (sa : Option Addr) (b o cap : Nat) (w : World) (HS : Hid (0 < acts.length → sa = some ⟨b, o, none⟩ ∧ Script w b o acts)) (_hlen : acts.length ≤ cap) (_hcap : cap ≤ maxLen) (_hb : 0 < w.heap.size) :
    Calls Tryd.prog 8 #[.slice sa acts.length cap] w (BuiltPost w) := by
  unfold maxLen at _hcap
  go_enter Tryd.func8, Tryd.ntmps8
  go_wp2_with fail
  go_loopw [4, 5, 6] (fun v4 v5 v6 wr => BI w acts v4 v5 v6 wr) (fun _ _ v6 _ => 14 - (intOf v6).toNat)
  case atStart =>
    exact bi_start w acts
  case round =>
    obtain ⟨k, l, rfl, hk, hk14, hl, hl0, hA, hT, hI, hS, hB⟩ := hrel
    obtain ⟨ga, ca, rfl, hga⟩ := own_head hA hl0
    obtain ⟨gt, ct, rfl, hgt⟩ := own_head hT hl0
    by_cases hlt : k < acts.length ∧ k < 14
    · obtain ⟨hlt1, hlt2⟩ := hlt
      obtain ⟨rfl, hsc⟩ := HS.out (Nat.lt_of_le_of_lt (Nat.zero_le _) hlt1)
      have hS' := (hsc.below hB hsc.low).cells k _ (List.getElem?_eq_getElem hlt1)
      obtain ⟨x, hx⟩ : ∃ x, x = acts[k] := ⟨_, rfl⟩
      rw [← hx] at hS'
      obtain ⟨c0, c1, c2, c3, c4⟩ := hS'
      have hk2 : (k : Int) < 14 := by omega
      have hk3 : (0 : Int) ≤ k := by omega
      have hk4 : (k : Int) < acts.length := by omega
      have hM := Lib.hid (Mid.mk (x := .nil) hA hT hI trivial hB)
      have HSm := Lib.hid hS
      have hxm : x ∈ acts := by rw [hx]; exact List.getElem_mem _
      obtain ⟨xi, xj, xc, xp⟩ := hsc.ok x hxm
      have XI := Lib.hid xi
      have XJ := Lib.hid xj
      have XC := Lib.hid xc
      have XP := Lib.hid xp
      have PI := Lib.hid (pickN_lt x.i l.length hl0)
      have PJ := Lib.hid (pickN_lt x.j l.length hl0)
      have HL := Lib.hid (show l.length < 1000000 by omega)
      clear HS hsc hA hT hI hS hB hx xi xj xc xp hxm
      obtain ⟨i29, hi29, hz29, hs29, hb29⟩ := info_parts info29
      obtain ⟨i33, hi33, hz33, hs33, hb33⟩ := info_parts info33
      have HM1 : Hid (l.length + 1 ≤ maxLen ∧ (l.length + 1) * 16 ≤ 140737488355328 ∧ (l.length + 1) * 56 ≤ 140737488355328) := by
        unfold maxLen; exact ⟨by omega, by omega, by omega⟩
      by_cases h1 : x.kind = 1
      · go_wp2_with (first
          | (go_at_call 21; first | (with_reducible refine (pick_any x.i l.length XI.out hl0 HL.out _).mono ?_; rintro e w' ⟨rfl, rfl⟩) | (with_reducible refine (pick_any x.j l.length XJ.out hl0 HL.out _).mono ?_; rintro e w' ⟨rfl, rfl⟩))
          | (go_at_call 20; refine (new_any x.code x.place XC.out XP.out _).mono ?_; rintro e w1 ⟨t, rfl, rT, bT, kT, hkT⟩
             have M1 := Lib.hid (((hM.out.alloc _).below bT).tree rT)
             have F1 := Lib.hid (act_later bT (heap_new wr _))
             have RN : Hid (∀ w, Calls Tryd.prog 22 #[.int .i64 x.code, .int .i64 x.place] w (RefTree w t)) := by rw [hkT]; exact refNew_tree x.code x.place kT
             have HF : Hid (Fits t l.length) := by rw [hkT]; exact fits_new _ _ _ hl0
             clear rT bT hkT)
          | (at_builtin; refine wpList_append_own _ rfl _ _ 24 rfl w.heap.size 29 i29 _ 1 16 Tryd.underlying24 hi29 hz29 hs29 hb29 rfl (by omega) _ _ _ rfl (M1.out.alloc _).A ⟨_, 0, none⟩ 1 1 [t.val] rfl rfl (World.news_of_block (cs := #[t.val]) (heap_new _ _)) (val_one t) HM1.out.1 HM1.out.2.1 (M1.out.alloc _).bel.size ?_; intro va2 w2 ho hg _
             obtain ⟨g2, cap2, rfl, _⟩ := own_head ho (by omega)
             have M2 := Lib.hid ((M1.out.alloc _).appA hg ho)
             have F2 := Lib.hid (act_kept (M1.out.alloc _) hg (act_later (alloc_below _ _) F1.out))
             have f3 : w2.cell? ⟨wr.heap.size, 3, none⟩ = some (.int .i64 x.code) := by simp [World.cell?, F2.out]
             have f4 : w2.cell? ⟨wr.heap.size, 4, none⟩ = some (.int .i64 x.place) := by simp [World.cell?, F2.out]
             clear ho hg)
          | (go_at_call 22; refine (RN.out _).mono ?_; rintro e w3 ⟨v1, v2, rfl, l1, l2, b3⟩
             have M3 := Lib.hid (M2.out.below b3)
             obtain ⟨pa, ca1, rfl, _⟩ := lst_slice l1
             obtain ⟨pb, cb1, rfl, _⟩ := lst_slice l2
             have L1 := Lib.hid (And.intro l1 l2)
             clear l1 l2 b3)
          | (at_builtin; refine wpList_append_own _ rfl _ _ 25 rfl w.heap.size 33 i33 _ 3 56 Tryd.underlying25 hi33 hz33 hs33 hb33 rfl (by omega) _ _ _ rfl (M3.out.alloc _).T ⟨_, 0, none⟩ 1 1 [.slice pa t.codes.length ca1, .slice pb t.places.length cb1, .int .i64 (t.deep : Int)] rfl rfl (World.news_of_block (cs := #[.slice pa t.codes.length ca1, .slice pb t.places.length cb1, .int .i64 (t.deep : Int)]) (heap_new _ _)) (told_one _ _ _ _ _ _ _) HM1.out.1 HM1.out.2.2 (M3.out.alloc _).bel.size ?_; intro vt2 w4 ho hg _
             have HN := Lib.hid (bi_next (acts := acts) (k := k) (M3.out.alloc _) (L1.out.1.below (alloc_below _ _)) (L1.out.2.below (alloc_below _ _)) hg ho HSm.out HF.out.1 HF.out.2 hlt1 hlt2 hl hl0)
             clear ho hg))
        all_goals
          go_roundw
          case rel => exact HN.out
          case measure => simp only [intOf]; omega
      · by_cases h2 : x.kind = 2
        · have hp := PI.out
          obtain ⟨y, hy⟩ : ∃ y, l[pickN x.i l.length]? = some y := ⟨_, List.getElem?_eq_getElem hp⟩
          have hyl : y ∈ l := List.mem_of_getElem? hy
          have HY := Lib.hid (And.intro (hM.out.I y hyl) (HSm.out y hyl))
          have e1 : wr.cell? ⟨ga, pickN x.i l.length, none⟩ = some y.1.val := by
            rw [← add_plain]
            exact hM.out.A.cells rfl _ _ (by simp [trees, hy])
          have e2 : (wr.alloc (.cells #[.int .i64 x.kind, .int .i64 x.i, .int .i64 x.j, .int .i64 x.code, .int .i64 x.place] 50)).cell? ⟨ga, pickN x.i l.length, none⟩ = some y.1.val := by
            rw [World.cell?_alloc_past _ _ _ (World.block_lt_of_cell? _ _ e1)]; exact e1
          have p0 : (0 : Int) ≤ (pickN x.i l.length : Int) := Int.natCast_nonneg _
          have p1 : (pickN x.i l.length : Int) < (l.length : Int) := by omega
          rw [h2] at e2
          have HL2 := Lib.hid (And.intro hy hyl)
          have HP : Hid (2 ^ (l.length - 1) ≤ 16384) := Nat.le_trans (Nat.pow_le_pow_right (by omega) (show l.length - 1 ≤ 14 by omega)) (by decide)
          clear hy hyl e1 hp
          go_wp2_with (first
            | (go_at_call 21; first | (with_reducible refine (pick_any x.i l.length XI.out hl0 HL.out _).mono ?_; rintro e w' ⟨rfl, rfl⟩) | (with_reducible refine (pick_any x.j l.length XJ.out hl0 HL.out _).mono ?_; rintro e w' ⟨rfl, rfl⟩)))
          go_cut [4] from 13 to 108 (fun v4 wx => Half w wr l (.slice (some ⟨gt, 0, none⟩) l.length ct) x (fun t => ∃ kT, t = wrapT kT y.1 x.code x.place) v4 wx)
          case first =>
            go_region_law (first
              | (go_simp; go_at_call 18; refine (wrap_any y.1 x.code x.place XC.out XP.out _ (HY.out.1.1.below (alloc_below _ _).drew) (by have := HY.out.2.2; omega)).mono ?_; rintro e w1 ⟨t, rfl, rT, bT, kT, hkT⟩
                 have M1 := Lib.hid (((hM.out.below (alloc_below _ _).drew).below bT).tree rT)
                 have F1 := Lib.hid (act_later bT (heap_new wr _))
                 have HK := Lib.hid hkT
                 have HF : Hid (Fits t l.length) := by rw [hkT]; exact fits_wrap _ _ _ _ hl0 HY.out.2.1 HY.out.2.2
                 clear rT bT hkT)
              | (refine step_app29 (by rfl) _ _ (by rfl) w.heap.size _ _ _ (by rfl) (M1.out.alloc _).A ⟨_, 0, none⟩ t (by rfl) (heap_new _ _) rfl HM1.out.1 HM1.out.2.1 (M1.out.alloc _).bel.size ?_; intro g2 cap2 w2 ho hg
                 have HN : Hid (Half w wr l (.slice (some ⟨gt, 0, none⟩) l.length ct) x (fun t => ∃ kT, t = wrapT kT y.1 x.code x.place) (.slice (some ⟨g2, 0, none⟩) (l.length + 1) cap2) w2) :=
                   ⟨t, g2, cap2, rfl, (M1.out.alloc _).appA hg ho, HF.out, ⟨kT, HK.out⟩, by rw [h2]; exact act_kept (M1.out.alloc _) hg (act_later (alloc_below _ _) F1.out)⟩
                 clear ho hg))
            all_goals
              go_wp2_with fail
              go_meet
              exact HN.out
          case rest =>
            obtain ⟨t, g2, cap2, rfl, hM2, hF, ⟨kT, hkT⟩, hf⟩ := hcut
            have M2 := Lib.hid hM2
            have HF := Lib.hid hF
            have F2 := Lib.hid hf
            have HK := Lib.hid hkT
            have ht := tolds_get l _ y HL2.out.1
            have q0 : wc.cell? ⟨gt, pickN x.i l.length * 3, none⟩ = some y.2.1 := by rw [← add_plain]; exact hM2.T.cells rfl _ _ ht.1
            have q1 : wc.cell? ⟨gt, pickN x.i l.length * 3 + 1, none⟩ = some y.2.2 := by rw [← add_plain]; exact hM2.T.cells rfl _ _ ht.2.1
            have q2 : wc.cell? ⟨gt, pickN x.i l.length * 3 + 2, none⟩ = some (.int .i64 (y.1.deep : Int)) := by rw [← add_plain]; exact hM2.T.cells rfl _ _ ht.2.2
            have f3 : wc.cell? ⟨wr.heap.size, 3, none⟩ = some (.int .i64 x.code) := by simp [World.cell?, hf]
            have f4 : wc.cell? ⟨wr.heap.size, 4, none⟩ = some (.int .i64 x.place) := by simp [World.cell?, hf]
            clear hM2 hF hkT hf ht e2
            go_wp2_with fail
            go_region_law (first
              | (go_simp; go_at_call 23; refine (refWrap_tree y.1 y.2.1 y.2.2 x.code x.place kT _ wc (M2.out.I y HL2.out.2).1 ((M2.out.I y HL2.out.2).2.1.below (below_drew _)) ((M2.out.I y HL2.out.2).2.2.below (below_drew _)) (by have := HY.out.2.1; have := HP.out; omega) (by have := HY.out.2.2; omega)).mono ?_; rintro e w3 ⟨v1, v2, rfl, l1, l2, b3⟩
                 rw [← HK.out] at l1 l2 ⊢
                 have M3 := Lib.hid ((M2.out.below (below_drew _)).below b3)
                 obtain ⟨pa, ca1, rfl, _⟩ := lst_slice l1
                 obtain ⟨pb, cb1, rfl, _⟩ := lst_slice l2
                 have L1 := Lib.hid (And.intro l1 l2)
                 clear l1 l2 b3)
              | (refine step_app33 (by rfl) _ _ (by rfl) w.heap.size _ _ _ (by rfl) (M3.out.alloc _).T ⟨_, 0, none⟩ pa pb t.codes.length ca1 t.places.length cb1 (t.deep : Int) (by rfl) (heap_new _ _) rfl HM1.out.1 HM1.out.2.2 (M3.out.alloc _).bel.size ?_; intro g4 cap4 w4 ho hg
                 have HN := Lib.hid (bi_next (acts := acts) (k := k) (M3.out.alloc _) (L1.out.1.below (alloc_below _ _)) (L1.out.2.below (alloc_below _ _)) hg ho HSm.out HF.out.1 HF.out.2 hlt1 hlt2 hl hl0)
                 clear ho hg))
            all_goals
              go_wp2_with fail
              go_roundw
              case rel => exact HN.out
              case measure => simp only [intOf]; omega
        · by_cases h3 : x.kind = 3
          · have hp := PI.out
            have hpj := PJ.out
            obtain ⟨y, hy⟩ : ∃ y, l[pickN x.i l.length]? = some y := ⟨_, List.getElem?_eq_getElem hp⟩
            obtain ⟨z, hz⟩ : ∃ z, l[pickN x.j l.length]? = some z := ⟨_, List.getElem?_eq_getElem hpj⟩
            have hyl : y ∈ l := List.mem_of_getElem? hy
            have hzl : z ∈ l := List.mem_of_getElem? hz
            have HY := Lib.hid (And.intro (hM.out.I y hyl) (HSm.out y hyl))
            have HZ := Lib.hid (And.intro (hM.out.I z hzl) (HSm.out z hzl))
            have e1 : wr.cell? ⟨ga, pickN x.i l.length, none⟩ = some y.1.val := by
              rw [← add_plain]
              exact hM.out.A.cells rfl _ _ (by simp [trees, hy])
            have e2 : (wr.alloc (.cells #[.int .i64 x.kind, .int .i64 x.i, .int .i64 x.j, .int .i64 x.code, .int .i64 x.place] 50)).cell? ⟨ga, pickN x.i l.length, none⟩ = some y.1.val := by
              rw [World.cell?_alloc_past _ _ _ (World.block_lt_of_cell? _ _ e1)]; exact e1
            have d1 : wr.cell? ⟨ga, pickN x.j l.length, none⟩ = some z.1.val := by
              rw [← add_plain]
              exact hM.out.A.cells rfl _ _ (by simp [trees, hz])
            have d2 : (wr.alloc (.cells #[.int .i64 x.kind, .int .i64 x.i, .int .i64 x.j, .int .i64 x.code, .int .i64 x.place] 50)).cell? ⟨ga, pickN x.j l.length, none⟩ = some z.1.val := by
              rw [World.cell?_alloc_past _ _ _ (World.block_lt_of_cell? _ _ d1)]; exact d1
            have p0 : (0 : Int) ≤ (pickN x.i l.length : Int) := Int.natCast_nonneg _
            have p1 : (pickN x.i l.length : Int) < (l.length : Int) := by omega
            have p2 : (0 : Int) ≤ (pickN x.j l.length : Int) := Int.natCast_nonneg _
            have p3 : (pickN x.j l.length : Int) < (l.length : Int) := by omega
            rw [h3] at e2 d2
            have HL2 := Lib.hid (And.intro hy hyl)
            have HL3 := Lib.hid (And.intro hz hzl)
            have HP : Hid (2 ^ (l.length - 1) ≤ 16384) := Nat.le_trans (Nat.pow_le_pow_right (by omega) (show l.length - 1 ≤ 14 by omega)) (by decide)
            clear hy hyl e1 hp hz hzl d1 hpj
            go_wp2_with (first
              | (go_at_call 21; first | (with_reducible refine (pick_any x.i l.length XI.out hl0 HL.out _).mono ?_; rintro e w' ⟨rfl, rfl⟩) | (with_reducible refine (pick_any x.j l.length XJ.out hl0 HL.out _).mono ?_; rintro e w' ⟨rfl, rfl⟩)))
            go_cut [4] from 13 to 108 (fun v4 wx => Half w wr l (.slice (some ⟨gt, 0, none⟩) l.length ct) x (fun t => ∃ kT, t = joinT kT y.1 z.1) v4 wx)
            case first =>
              go_region_law (first
                | (go_simp; go_at_call 19; refine (join_any y.1 z.1 _ (HY.out.1.1.below (alloc_below _ _).drew) (HZ.out.1.1.below (alloc_below _ _).drew) (by have := HY.out.2.2; omega) (by have := HZ.out.2.2; omega)).mono ?_; rintro e w1 ⟨t, rfl, rT, bT, kT, hkT⟩
                   have M1 := Lib.hid (((hM.out.below (alloc_below _ _).drew).below bT).tree rT)
                   have F1 := Lib.hid (act_later bT (heap_new wr _))
                   have HK := Lib.hid hkT
                   have HF : Hid (Fits t l.length) := by rw [hkT]; exact fits_join _ _ _ hl0 HY.out.2.1 HY.out.2.2 HZ.out.2.1 HZ.out.2.2
                   clear rT bT hkT)
                | (refine step_app29 (by rfl) _ _ (by rfl) w.heap.size _ _ _ (by rfl) (M1.out.alloc _).A ⟨_, 0, none⟩ t (by rfl) (heap_new _ _) rfl HM1.out.1 HM1.out.2.1 (M1.out.alloc _).bel.size ?_; intro g2 cap2 w2 ho hg
                   have HN : Hid (Half w wr l (.slice (some ⟨gt, 0, none⟩) l.length ct) x (fun t => ∃ kT, t = joinT kT y.1 z.1) (.slice (some ⟨g2, 0, none⟩) (l.length + 1) cap2) w2) :=
                     ⟨t, g2, cap2, rfl, (M1.out.alloc _).appA hg ho, HF.out, ⟨kT, HK.out⟩, by rw [h3]; exact act_kept (M1.out.alloc _) hg (act_later (alloc_below _ _) F1.out)⟩
                   clear ho hg))
              all_goals
                go_wp2_with fail
                go_meet
                exact HN.out
            case rest =>
              obtain ⟨t, g2, cap2, rfl, hM2, hF, ⟨kT, hkT⟩, hf⟩ := hcut
              have M2 := Lib.hid hM2
              have HF := Lib.hid hF
              have HK := Lib.hid hkT
              have ht := tolds_get l _ y HL2.out.1
              have hu := tolds_get l _ z HL3.out.1
              have q0 : wc.cell? ⟨gt, pickN x.i l.length * 3, none⟩ = some y.2.1 := by rw [← add_plain]; exact hM2.T.cells rfl _ _ ht.1
              have q1 : wc.cell? ⟨gt, pickN x.i l.length * 3 + 1, none⟩ = some y.2.2 := by rw [← add_plain]; exact hM2.T.cells rfl _ _ ht.2.1
              have q2 : wc.cell? ⟨gt, pickN x.i l.length * 3 + 2, none⟩ = some (.int .i64 (y.1.deep : Int)) := by rw [← add_plain]; exact hM2.T.cells rfl _ _ ht.2.2
              have q3 : wc.cell? ⟨gt, pickN x.j l.length * 3, none⟩ = some z.2.1 := by rw [← add_plain]; exact hM2.T.cells rfl _ _ hu.1
              have q4 : wc.cell? ⟨gt, pickN x.j l.length * 3 + 1, none⟩ = some z.2.2 := by rw [← add_plain]; exact hM2.T.cells rfl _ _ hu.2.1
              have q5 : wc.cell? ⟨gt, pickN x.j l.length * 3 + 2, none⟩ = some (.int .i64 (z.1.deep : Int)) := by rw [← add_plain]; exact hM2.T.cells rfl _ _ hu.2.2
              clear hM2 hF hkT hf ht hu e2 d2
              go_wp2_with fail
              go_region_law (first
                | (go_simp; go_at_call 24; refine (refJoin_tree y.1 z.1 y.2.1 y.2.2 z.2.1 z.2.2 kT _ wc (M2.out.I y HL2.out.2).1 (M2.out.I z HL3.out.2).1 ((M2.out.I y HL2.out.2).2.1.below (below_drew _)) ((M2.out.I y HL2.out.2).2.2.below (below_drew _)) ((M2.out.I z HL3.out.2).2.1.below (below_drew _)) ((M2.out.I z HL3.out.2).2.2.below (below_drew _)) (by have := HY.out.2.1; have := HP.out; omega) (by have := HZ.out.2.1; have := HP.out; omega)).mono ?_; rintro e w3 ⟨v1, v2, rfl, l1, l2, b3⟩
                   rw [← HK.out] at l1 l2 ⊢
                   have M3 := Lib.hid ((M2.out.below (below_drew _)).below b3)
                   obtain ⟨pa, ca1, rfl, _⟩ := lst_slice l1
                   obtain ⟨pb, cb1, rfl, _⟩ := lst_slice l2
                   have L1 := Lib.hid (And.intro l1 l2)
                   clear l1 l2 b3)
                | (refine step_app33 (by rfl) _ _ (by rfl) w.heap.size _ _ _ (by rfl) (M3.out.alloc _).T ⟨_, 0, none⟩ pa pb t.codes.length ca1 t.places.length cb1 (t.deep : Int) (by rfl) (heap_new _ _) rfl HM1.out.1 HM1.out.2.2 (M3.out.alloc _).bel.size ?_; intro g4 cap4 w4 ho hg
                   have HN := Lib.hid (bi_next (acts := acts) (k := k) (M3.out.alloc _) (L1.out.1.below (alloc_below _ _)) (L1.out.2.below (alloc_below _ _)) hg ho HSm.out HF.out.1 HF.out.2 hlt1 hlt2 hl hl0)
                   clear ho hg))
              all_goals
                go_wp2_with fail
                go_roundw
                case rel => exact HN.out
                case measure => simp only [intOf]; omega
          · go_wp2_with (go_at_call 21; first | (with_reducible refine (pick_any x.i l.length XI.out hl0 HL.out _).mono ?_; rintro e w' ⟨rfl, rfl⟩) | (with_reducible refine (pick_any x.j l.length XJ.out hl0 HL.out _).mono ?_; rintro e w' ⟨rfl, rfl⟩))
            go_roundw
            case rel => exact bi_same hM.out (alloc_below _ _) HSm.out hlt1 hlt2 hl hl0
            case measure => simp only [intOf]; omega
    · have HR : Hid (BuiltPost w (.returned (.tuple #[.slice (some ⟨ga, 0, none⟩) l.length ca, .slice (some ⟨gt, 0, none⟩) l.length ct])) wr) := ⟨_, _, l, rfl, hl0, by omega, hA, hT, hI, hS, hB⟩
      clear hA hT hI hS hB hl hl0 hk
      by_cases h1 : k < acts.length
      · have h2 : ¬ (k : Int) < 14 := by omega
        clear hlt
        go_wp2_with fail
        go_ret2
        exact HR.out
      · clear hlt
        go_wp2_with fail
        go_ret2
        exact HR.out
end Go.Proofs.YtdfmmphoccfacaaDoor

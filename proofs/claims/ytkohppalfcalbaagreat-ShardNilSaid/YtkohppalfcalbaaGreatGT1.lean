/- Package shard: apply; the tables of a shard under labels. -/
import Derived.Test.YtkohppalfcalbaaGreatPR1
namespace Go.Proofs.YtkohppalfcalbaaGreat
section
open Go.RowKit

/-- what a change makes of a table's rows -/
def applyL (l : List (List UInt8 × List UInt8)) (d : Bool) (k r : List UInt8) : List (List UInt8 × List UInt8) := if d then dropK l k else putK l k r
/-- what apply leaves -/
def AyT (w : World) (ℓ : Nat → Nat) (L b : Nat) (l : List (List UInt8 × List UInt8)) (e : Ending) (w' : World) : Prop := e = .returned (.tuple #[]) ∧ Only (fun k => ℓ k = L) w w' ∧ ∀ ℓ', (∀ k, k < w.heap.size → ℓ' k = ℓ k) → (∀ k, w.heap.size ≤ k → ℓ' k = L) → TbL w' ℓ' L b l
set_option maxRecDepth 100000 in
theorem apply_any {w : World} {ℓ : Nat → Nat} {L b : Nat} {l : List (List UInt8 × List UInt8)} (h : TbL w ℓ L b l) (hf : l.length ≤ 899) (sb : ByteArray) (key row : List UInt8) (kA rA : Option Addr) (kn kc rn rc : Nat) (d : Bool) (hkn : key.length = kn) (hrn : row.length = rn) (hkl : key.length ≤ 100000) (hrl : row.length ≤ 100000) (hk : RdB w w.heap.size kA key) (hr : RdB w w.heap.size rA row) :
    Calls Tryz.prog 45 #[.agg #[.string sb, .slice kA kn kc, .slice rA rn rc, .bool d], .pointer (some ⟨b, 0, none⟩)] w (AyT w ℓ L b (applyL l d key row)) := by
  obtain ⟨w1, hw1⟩ : ∃ w1, w1 = w.alloc (.cells #[.string sb, .slice kA kn kc, .slice rA rn rc, .bool d] 62) := ⟨_, rfl⟩
  have hb1 : Below w.heap.size w w1 := by rw [hw1]; exact alloc_below _ _
  have hx1 : w1.heap[w.heap.size]? = some (.cells #[.string sb, .slice kA kn kc, .slice rA rn rc, .bool d] 62 (0, 0)) := by rw [hw1]; exact heap_alloc_new _ _
  obtain ⟨x0, x1, x2, x3⟩ := box4S hx1
  have ht1 : TbL w1 (labs ℓ w.heap.size L) L b l := (h.relabel fun k hk => labs_lt hk).below hb1
  have HEND : Hid (∀ l' e w2, TpL w1 (labs ℓ w.heap.size L) L b l' e w2 → AyT w ℓ L b l' (.returned (.tuple #[])) w2) := Lib.hid fun l' e w2 ⟨_, hO, ht⟩ =>
    ⟨rfl, (Only.of_below (K := fun k => ℓ k = L) hb1).trans hO (fun k hk e => by rw [labs_lt hk] at e; exact e), fun ℓ' he hn => ht ℓ' (fun k hk => by
      rcases Nat.lt_or_ge k w.heap.size with h1 | h1
      · rw [labs_lt h1]; exact he k h1
      · rw [labs_ge h1]; exact hn k h1) (fun k hk => hn k (Nat.le_trans hb1.size hk))⟩
  have hk1 := (hk.below hb1 (Nat.le_refl _)).more hb1.size
  have hr1 := (hr.below hb1 (Nat.le_refl _)).more hb1.size
  have HW := Lib.hid hw1
  cases d
  · have HP := Lib.hid (tb_put ht1 hf key row kA rA kn kc rn rc hkn hrn hkl hrl hk1 hr1)
    clear h ht1 hk hr hk1 hr1 hkn hrn hw1 hb1 hx1
    go_enter Tryz.func45, Tryz.ntmps45
    go_upto_region 1 with fail
    rw [← HW.out]
    go_wp2_with (go_at_call 44; refine HP.out.mono ?_; rintro e w2 hh
                 obtain ⟨⟨A1, n1, c1, o1, rfl⟩, _⟩ := id hh
                 have HH := Lib.hid hh
                 clear hh)
    refine bodyPost_end (v := .tuple #[]) (by simp [results, Tryz.results45, go_sem]) rfl ?_
    exact HEND.out _ _ _ HH.out
  · have HP := Lib.hid (tb_drop ht1 key kA kn kc hkn hk1)
    clear h ht1 hk hr hk1 hr1 hkn hrn hw1 hb1 hx1
    go_enter Tryz.func45, Tryz.ntmps45
    go_upto_region 1 with fail
    rw [← HW.out]
    go_wp2_with (go_at_call 91; refine HP.out.mono ?_; rintro e w2 hh
                 obtain ⟨⟨A1, n1, c1, o1, rfl⟩, _⟩ := id hh
                 have HH := Lib.hid hh
                 clear hh)
    refine bodyPost_ret (v := .tuple #[]) (by simp [results, Tryz.results45, go_sem]) rfl ?_
    exact HEND.out _ _ _ HH.out
/-- a space: its name, its table's block, its label, its rows -/
structure SpT where
  s : List UInt8
  b : Nat
  L : Nat
  l : List (List UInt8 × List UInt8)
def fndS (S : List SpT) (s : List UInt8) : Option SpT := S.find? fun x => decide (x.s = s)
theorem fndS_some {S : List SpT} {s : List UInt8} {x : SpT} (h : fndS S s = some x) : x ∈ S ∧ x.s = s := ⟨List.mem_of_find?_eq_some h, by simpa using List.find?_some h⟩
/-- the rows of a space -/
def viewS (S : List SpT) (s : List UInt8) : List (List UInt8 × List UInt8) := match fndS S s with | some x => x.l | none => []
def spK (S : List SpT) : List (List UInt8 × Option Nat) := S.map fun x => (x.s, some x.b)
theorem findM_sp (S : List SpT) (s : List UInt8) : findM (spK S) s = (fndS S s).map fun x => (x.s, some x.b) := by
  unfold findM spK fndS
  rw [List.find?_map]
  rfl
theorem at_sp (S : List SpT) (s : List UInt8) : atM spaceW (spK S) s = (fndS S s).map (·.b) := by
  unfold atM
  rw [findM_sp]
  cases fndS S s <;> rfl
/-- the tables of a shard: map sm, spaces S; all labels are below N -/
structure Sps (w : World) (ℓ : Nat → Nat) (sm N : Nat) (S : List SpT) : Prop where
  map : MapM spaceW w sm (spK S)
  tb : ∀ x ∈ S, TbL w ℓ x.L x.b x.l
  own : ∀ x ∈ S, 2 ≤ x.L ∧ x.L < N
  apart : S.Pairwise fun a b => a.L ≠ b.L
  ne : ∀ x ∈ S, x.l ≠ []
  ls : ℓ sm = 1
theorem Sps.keep {K : Nat → Prop} {w w' : World} {ℓ : Nat → Nat} {sm N : Nat} {S : List SpT} (h : Sps w ℓ sm N S) (hO : Only K w w') (hs : ¬ K sm) (hK : ∀ k, K k → ∀ x ∈ S, ℓ k ≠ x.L) : Sps w' ℓ sm N S :=
  ⟨h.map.kept (hO.block sm h.map.lt hs), fun x hx => (h.tb x hx).only hO fun k e hk => hK k hk x hx e, h.own, h.apart, h.ne, h.ls⟩
theorem Sps.relabel {w : World} {ℓ ℓ' : Nat → Nat} {sm N : Nat} {S : List SpT} (h : Sps w ℓ sm N S) (he : ∀ k, k < w.heap.size → ℓ' k = ℓ k) : Sps w ℓ' sm N S :=
  ⟨h.map, fun x hx => (h.tb x hx).relabel he, h.own, h.apart, h.ne, (he sm h.map.lt).trans h.ls⟩
theorem Sps.below {w w' : World} {ℓ : Nat → Nat} {sm N : Nat} {S : List SpT} (h : Sps w ℓ sm N S) (hb : Below w.heap.size w w') : Sps w' ℓ sm N S := h.keep (Only.of_below (K := fun _ => False) hb) id (fun _ h => h.elim)
theorem Sps.more {w : World} {ℓ : Nat → Nat} {sm N M : Nat} {S : List SpT} (h : Sps w ℓ sm N S) (hM : N ≤ M) : Sps w ℓ sm M S := ⟨h.map, h.tb, fun x hx => ⟨(h.own x hx).1, Nat.lt_of_lt_of_le (h.own x hx).2 hM⟩, h.apart, h.ne, h.ls⟩
theorem Sps.names {w : World} {ℓ : Nat → Nat} {sm N : Nat} {S : List SpT} (h : Sps w ℓ sm N S) : S.Pairwise fun a b => a.s ≠ b.s := by
  have h1 := h.map.one
  unfold spK at h1
  rw [List.pairwise_map] at h1
  exact h1
/-- with other rows in a space -/
def setS (S : List SpT) (s : List UInt8) (l : List (List UInt8 × List UInt8)) : List SpT := S.map fun x => if x.s = s then ⟨x.s, x.b, x.L, l⟩ else x
def dropS (S : List SpT) (s : List UInt8) : List SpT := S.filter fun x => decide (x.s ≠ s)
theorem spK_set (S : List SpT) (s : List UInt8) (l : List (List UInt8 × List UInt8)) : spK (setS S s l) = spK S := by
  unfold spK setS
  rw [List.map_map]
  apply List.map_congr_left
  intro x _
  show ((if x.s = s then (⟨x.s, x.b, x.L, l⟩ : SpT) else x).s, some (if x.s = s then (⟨x.s, x.b, x.L, l⟩ : SpT) else x).b) = (x.s, some x.b)
  split <;> rfl
theorem spK_drop (S : List SpT) (s : List UInt8) : spK (dropS S s) = dropM (spK S) s := by
  unfold spK dropS dropM
  rw [List.filter_map]
  rfl
theorem fndS_set (S : List SpT) (s t : List UInt8) (l : List (List UInt8 × List UInt8)) : fndS (setS S s l) t = (fndS S t).map fun x => if x.s = s then ⟨x.s, x.b, x.L, l⟩ else x := by
  unfold fndS setS
  rw [List.find?_map]
  have : ((fun x : SpT => decide (x.s = t)) ∘ fun x : SpT => if x.s = s then ⟨x.s, x.b, x.L, l⟩ else x) = fun x => decide (x.s = t) := by
    funext x
    show decide ((if x.s = s then (⟨x.s, x.b, x.L, l⟩ : SpT) else x).s = t) = _
    split <;> rfl
  rw [this]
theorem fndS_drop (S : List SpT) (s t : List UInt8) : fndS (dropS S s) t = if t = s then none else fndS S t := by
  unfold fndS dropS
  rw [List.find?_filter]
  by_cases h : t = s
  · rw [if_pos h, List.find?_eq_none]
    intro x _
    simp only [decide_eq_true_eq, not_and]
    intro h1 h2
    exact h1 (h2.trans h)
  · rw [if_neg h]
    congr 1
    funext x
    by_cases h2 : x.s = t
    · have : x.s ≠ s := fun h3 => h (h2.symm.trans h3)
      simp [h2, h]
    · simp [h2]
theorem view_set {S : List SpT} {s : List UInt8} {x : SpT} (hx : fndS S s = some x) (l : List (List UInt8 × List UInt8)) (t : List UInt8) : viewS (setS S s l) t = if t = s then l else viewS S t := by
  unfold viewS
  rw [fndS_set]
  by_cases h : t = s
  · subst h
    rw [hx]
    have := (fndS_some hx).2
    simp [this]
  · rw [if_neg h]
    cases hf : fndS S t with
    | none => rfl
    | some y =>
      have h2 := (fndS_some hf).2
      have : ¬ y.s = s := fun e => h (h2.symm.trans e)
      simp [this]
theorem view_drop (S : List SpT) (s t : List UInt8) : viewS (dropS S s) t = if t = s then [] else viewS S t := by
  unfold viewS
  rw [fndS_drop]
  by_cases h : t = s
  · rw [if_pos h, if_pos h]
  · rw [if_neg h, if_neg h]
theorem view_new {S : List SpT} {s : List UInt8} (hf : fndS S s = none) (b L : Nat) (l : List (List UInt8 × List UInt8)) (t : List UInt8) : viewS (S ++ [⟨s, b, L, l⟩]) t = if t = s then l else viewS S t := by
  unfold viewS fndS at *
  rw [List.find?_append]
  by_cases h : t = s
  · subst h
    rw [hf]
    simp
  · rw [if_neg h]
    have : ¬ s = t := fun e => h e.symm
    cases S.find? (fun x => decide (x.s = t)) <;> simp [this]
end

section
open Go.RowKit

/-- what lay leaves: the space s has the rows l -/
def LyT (w : World) (ℓ : Nat → Nat) (sm N : Nat) (S : List SpT) (s : List UInt8) (l : List (List UInt8 × List UInt8)) (e : Ending) (w' : World) : Prop := e = .returned (.tuple #[]) ∧ Only (fun k => k = sm ∨ ∃ x ∈ S, ℓ k = x.L) w w' ∧ ∃ ℓ' S', (∀ k, k < w.heap.size → ℓ' k = ℓ k) ∧ (∀ k, ℓ' k < N + 1) ∧ Sps w' ℓ' sm (N + 1) S' ∧ (∀ t, viewS S' t = if t = s then l else viewS S t) ∧ S'.length ≤ S.length + 1 ∧ ∀ x ∈ S', (∃ y ∈ S, y.L = x.L) ∨ x.L = N
/-- the elder blocks as before, one N's, those of a turn a's, other new ones nobody's -/
def lab3 (ℓ : Nat → Nat) (m b N m2 a : Nat) (k : Nat) : Nat := if k < m then ℓ k else if k = b then N else if k < m2 then 0 else a
theorem lab3_lt {ℓ : Nat → Nat} {m b N m2 a k : Nat} (h : k < m) : lab3 ℓ m b N m2 a k = ℓ k := if_pos h
theorem ly_set {w w2 w3 w4 : World} {ℓ : Nat → Nat} {sm N : Nat} {S : List SpT} {s : List UInt8} {x : SpT} {l : List (List UInt8 × List UInt8)} {e : Ending} (h : Sps w ℓ sm N S) (hN : ∀ k, ℓ k < N) (hx : fndS S s = some x) (hb : Below w.heap.size w w2) (ha : AyT w2 (labs ℓ w.heap.size 0) x.L x.b l e w3) (hne : l ≠ []) (hb4 : Below w3.heap.size w3 w4) : LyT w ℓ sm N S s l (.returned (.tuple #[])) w4 := by
  obtain ⟨_, hO, ht⟩ := ha
  obtain ⟨hxm, hxs⟩ := fndS_some hx
  have s2 := hb.size
  have s3 := hO.size
  have s4 := hb4.size
  have hxo := h.own x hxm
  have hO3 : Only (fun k => ℓ k = x.L) w w3 := (Only.of_below hb).trans hO (fun k hk e => by rw [labs_lt hk] at e; exact e)
  have hO4 : Only (fun k => ℓ k = x.L) w w4 := hO3.trans (Only.of_below (K := fun _ => False) hb4) (fun _ _ e => e.elim)
  refine ⟨rfl, hO4.more (fun k _ e => .inr ⟨x, hxm, e⟩), labs (labs ℓ w.heap.size 0) w2.heap.size x.L, setS S s l, fun k hk => by rw [labs_lt (by omega), labs_lt hk], fun k => ?_, ?_, view_set hx l, by unfold setS; rw [List.length_map]; omega, fun y hy => ?_⟩
  · unfold labs
    split
    · split
      · have := hN k; omega
      · omega
    · omega
  · have he : ∀ k, k < w.heap.size → labs (labs ℓ w.heap.size 0) w2.heap.size x.L k = ℓ k := fun k hk => by rw [labs_lt (by omega), labs_lt hk]
    have hTB := (ht (labs (labs ℓ w.heap.size 0) w2.heap.size x.L) (fun k hk => labs_lt hk) (fun k hk => labs_ge hk)).below hb4
    generalize labs (labs ℓ w.heap.size 0) w2.heap.size x.L = ℓ' at he hTB ⊢
    have hr := h.relabel he
    have hOL : Only (fun k => ℓ' k = x.L) w w4 := hO4.more (fun j hj e => by rw [he j hj]; exact e)
    have hsm : ¬ ℓ' sm = x.L := by have := hr.ls; omega
    have hL : ∀ y : SpT, (if y.s = s then (⟨y.s, y.b, y.L, l⟩ : SpT) else y).L = y.L := fun y => by split <;> rfl
    refine ⟨by rw [spK_set]; exact h.map.kept (hOL.block sm h.map.lt hsm), fun y hy => ?_, fun y hy => ?_, ?_, fun y hy => ?_, hr.ls⟩
    · unfold setS at hy
      obtain ⟨z, hz, rfl⟩ := List.mem_map.1 hy
      by_cases hzs : z.s = s
      · have : z = x := pw_inj (·.s) h.names hz hxm (hzs.trans hxs.symm)
        subst this
        rw [if_pos hzs]
        exact hTB
      · rw [if_neg hzs]
        have hzL : z.L ≠ x.L := fun e => hzs (by rw [pw_inj (·.L) h.apart hz hxm e]; exact hxs)
        exact (hr.tb z hz).only hOL (fun k e1 e2 => hzL (e1.symm.trans e2))
    · unfold setS at hy
      obtain ⟨z, hz, rfl⟩ := List.mem_map.1 hy
      have := h.own z hz
      rw [hL]
      omega
    · unfold setS
      rw [List.pairwise_map]
      refine h.apart.imp fun {a b} hab => ?_
      rw [hL, hL]
      exact hab
    · unfold setS at hy
      obtain ⟨z, hz, rfl⟩ := List.mem_map.1 hy
      split
      · exact hne
      · exact h.ne z hz
  · unfold setS at hy
    obtain ⟨z, hz, rfl⟩ := List.mem_map.1 hy
    exact .inl ⟨z, hz, by split <;> rfl⟩
theorem ly_drop {w w2 w3 w4 w5 : World} {ℓ : Nat → Nat} {sm N : Nat} {S : List SpT} {s : List UInt8} {x : SpT} {l : List (List UInt8 × List UInt8)} {e : Ending} (h : Sps w ℓ sm N S) (hN : ∀ k, ℓ k < N) (hx : fndS S s = some x) (hb : Below w.heap.size w w2) (ha : AyT w2 (labs ℓ w.heap.size 0) x.L x.b l e w3) (hne : l = []) (hb4 : Below w3.heap.size w3 w4) (hm : MapM spaceW w5 sm (dropM (spK S) s)) (hO5 : Only (· = sm) w4 w5) : LyT w ℓ sm N S s l (.returned (.tuple #[])) w5 := by
  obtain ⟨_, hO, ht⟩ := ha
  obtain ⟨hxm, hxs⟩ := fndS_some hx
  have s2 := hb.size
  have s3 := hO.size
  have s4 := hb4.size
  have hxo := h.own x hxm
  have hO3 : Only (fun k => ℓ k = x.L) w w3 := (Only.of_below hb).trans hO (fun k hk e => by rw [labs_lt hk] at e; exact e)
  have hO4 : Only (fun k => ℓ k = x.L) w w4 := hO3.trans (Only.of_below (K := fun _ => False) hb4) (fun _ _ e => e.elim)
  have hO6 : Only (fun k => k = sm ∨ ℓ k = x.L) w w5 := (hO4.more fun k _ e => .inr e).trans hO5 (fun k _ e => .inl e)
  have he : ∀ k, k < w.heap.size → labs ℓ w.heap.size 0 k = ℓ k := fun k hk => labs_lt hk
  refine ⟨rfl, hO6.more (fun k _ e => e.imp id fun e => ⟨x, hxm, e⟩), labs ℓ w.heap.size 0, dropS S s, he, fun k => ?_, ?_, fun t => by rw [view_drop, hne], Nat.le_succ_of_le (List.length_filter_le _ _), fun y hy => .inl ⟨y, (List.mem_filter.1 hy).1, rfl⟩⟩
  · unfold labs
    split
    · have := hN k; omega
    · omega
  · generalize labs ℓ w.heap.size 0 = ℓ' at he ⊢
    have hr := h.relabel he
    have hOL : Only (fun k => k = sm ∨ ℓ' k = x.L) w w5 := hO6.more (fun j hj e => by rw [he j hj]; exact e)
    refine ⟨by rw [spK_drop]; exact hm, fun y hy => ?_, fun y hy => ?_, h.apart.filter _, fun y hy => h.ne y (List.mem_filter.1 hy).1, hr.ls⟩
    · obtain ⟨hy1, hy2⟩ := List.mem_filter.1 hy
      have hys : y.s ≠ s := by simpa using hy2
      have hyL : y.L ≠ x.L := fun e => hys (by rw [pw_inj (·.L) h.apart hy1 hxm e]; exact hxs)
      have hyo := h.own y hy1
      exact (hr.tb y hy1).only hOL (fun k e1 e2 => by
        rcases e2 with rfl | e2
        · have := hr.ls; omega
        · exact hyL (e1.symm.trans e2))
    · have := h.own y (List.mem_filter.1 hy).1
      omega
/-- where there is no such space yet: behind the new table, and its place in the map -/
structure LyN (w w4 : World) (ℓ : Nat → Nat) (sm N b : Nat) (S : List SpT) (s : List UInt8) : Prop where
  at_ : w.heap.size ≤ b ∧ b < w4.heap.size
  size : w.heap.size ≤ w4.heap.size
  only : Only (· = sm) w w4
  map : MapM spaceW w4 sm (spK S ++ [(s, some b)])
  tb : ∀ ℓ', (∀ k, k < w.heap.size → ℓ' k = ℓ k) → ℓ' b = N → TbL w4 ℓ' N b []
theorem ly_n {w w1 w2 w3 w4 : World} {ℓ : Nat → Nat} {sm N : Nat} {S : List SpT} {s : List UInt8} (h : Sps w ℓ sm N S) (hf : fndS S s = none) (hN2 : 2 ≤ N) (hb1 : Below w.heap.size w w1) (hb2 : Below w1.heap.size w1 w2) (hlt : w1.heap.size < w2.heap.size) (ht : ∀ ℓ L, ℓ w1.heap.size = L → TbL w2 ℓ L w1.heap.size []) (hm : MapM spaceW w3 sm (putM (spK S) s (some w1.heap.size))) (hO : Only (· = sm) w2 w3) (hb4 : Below w3.heap.size w3 w4) : LyN w w4 ℓ sm N w1.heap.size S s := by
  have s1 := hb1.size
  have s2 := hb2.size
  have s3 := hO.size
  have s4 := hb4.size
  have hput : putM (spK S) s (some w1.heap.size) = spK S ++ [(s, some w1.heap.size)] := by
    unfold putM
    rw [dropM_none (by rw [findM_sp, hf]; rfl)]
  have hb12 : Below w.heap.size w w2 := hb1.trans (hb2.mono s1)
  refine ⟨⟨s1, by omega⟩, by omega, ((Only.of_below (K := (· = sm)) hb12).trans hO (fun _ _ e => e)).trans (Only.of_below (K := fun _ => False) hb4) (fun _ _ e => e.elim), by rw [← hput]; exact hm.below hb4, fun ℓ' he hb => ?_⟩
  exact ((ht ℓ' N hb).only hO (fun k e1 e2 => by
    subst e2
    rw [he _ h.map.lt, h.ls] at e1
    omega)).below hb4
theorem ly_new {w w4 w5 w6 : World} {ℓ : Nat → Nat} {sm N b : Nat} {S : List SpT} {s : List UInt8} {l : List (List UInt8 × List UInt8)} {e : Ending} (h : Sps w ℓ sm N S) (hf : fndS S s = none) (hN : ∀ k, ℓ k < N) (hN2 : 2 ≤ N) (hn : LyN w w4 ℓ sm N b S s) (ha : AyT w4 (lab3 ℓ w.heap.size b N w4.heap.size N) N b l e w5) (hne : l ≠ []) (hb6 : Below w5.heap.size w5 w6) : LyT w ℓ sm N S s l (.returned (.tuple #[])) w6 := by
  obtain ⟨_, hO, ht⟩ := ha
  have sb := hn.at_
  have s4 := hn.size
  have s5 := hO.size
  have hO5 : Only (· = sm) w w5 := hn.only.trans hO (fun k hk e => by
    rw [lab3_lt hk] at e
    have := hN k
    omega)
  have hO6 : Only (· = sm) w w6 := hO5.trans (Only.of_below (K := fun _ => False) hb6) (fun _ _ e => e.elim)
  have he : ∀ k, k < w.heap.size → lab3 ℓ w.heap.size b N w4.heap.size N k = ℓ k := fun k hk => lab3_lt hk
  have hTB := (ht (lab3 ℓ w.heap.size b N w4.heap.size N) (fun _ _ => rfl) (fun k hk => by unfold lab3; rw [if_neg (by omega)]; split; rfl; rw [if_neg (by omega)])).below hb6
  have hsm4 : Only (fun k => lab3 ℓ w.heap.size b N w4.heap.size N k = N) w4 w6 := hO.trans (Only.of_below (K := fun _ => False) hb6) (fun _ _ e => e.elim)
  refine ⟨rfl, hO6.more (fun k _ e => .inl e), lab3 ℓ w.heap.size b N w4.heap.size N, S ++ [⟨s, b, N, l⟩], he, fun k => ?_, ?_, view_new hf b N l, by simp, fun y hy => ?_⟩
  · unfold lab3
    split
    · have := hN k; omega
    · split
      · omega
      · split <;> omega
  · generalize lab3 ℓ w.heap.size b N w4.heap.size N = ℓ' at he hTB hsm4 ⊢
    have hr := h.relabel he
    have hmap : MapM spaceW w6 sm (spK S ++ [(s, some b)]) := hn.map.kept (hsm4.block sm (by have := h.map.lt; omega) (by have := hr.ls; omega))
    refine ⟨by unfold spK; rw [List.map_append]; exact hmap, fun y hy => ?_, fun y hy => ?_, ?_, fun y hy => ?_, hr.ls⟩
    · rcases List.mem_append.1 hy with hy | hy
      · have := h.own y hy
        exact (hr.tb y hy).only hO6 (fun k e1 e2 => by
          subst e2
          have := hr.ls
          omega)
      · rcases List.mem_singleton.1 hy with rfl
        exact hTB
    · rcases List.mem_append.1 hy with hy | hy
      · have := h.own y hy; omega
      · rcases List.mem_singleton.1 hy with rfl
        exact ⟨hN2, by show N < N + 1; omega⟩
    · rw [List.pairwise_append]
      refine ⟨h.apart, by simp, fun a ha c hc => ?_⟩
      rcases List.mem_singleton.1 hc with rfl
      have := h.own a ha
      show a.L ≠ N
      omega
    · rcases List.mem_append.1 hy with hy | hy
      · exact h.ne y hy
      · rcases List.mem_singleton.1 hy with rfl
        exact hne
  · rcases List.mem_append.1 hy with hy | hy
    · exact .inl ⟨y, hy, rfl⟩
    · rcases List.mem_singleton.1 hy with rfl
      exact .inr rfl
theorem dropM_app_new {S : List SpT} {s : List UInt8} (hf : fndS S s = none) (b : Nat) : dropM (spK S ++ [(s, some b)]) s = spK S := by
  unfold dropM
  rw [List.filter_append]
  have h1 : (spK S).filter (fun e => decide (e.1 ≠ s)) = spK S := dropM_none (by rw [findM_sp, hf]; rfl)
  rw [h1]
  simp
theorem ly_none {w w4 w5 w6 w7 : World} {ℓ : Nat → Nat} {sm N b : Nat} {S : List SpT} {s : List UInt8} {l : List (List UInt8 × List UInt8)} {e : Ending} (h : Sps w ℓ sm N S) (hf : fndS S s = none) (hN : ∀ k, ℓ k < N) (hn : LyN w w4 ℓ sm N b S s) (ha : AyT w4 (lab3 ℓ w.heap.size b N w4.heap.size N) N b l e w5) (hne : l = []) (hb6 : Below w5.heap.size w5 w6) (hm : MapM spaceW w7 sm (dropM (spK S ++ [(s, some b)]) s)) (hO7 : Only (· = sm) w6 w7) : LyT w ℓ sm N S s l (.returned (.tuple #[])) w7 := by
  obtain ⟨_, hO, ht⟩ := ha
  rw [dropM_app_new hf] at hm
  have hO5 : Only (· = sm) w w5 := hn.only.trans hO (fun k hk e => by
    rw [lab3_lt hk] at e
    have := hN k
    omega)
  have hO8 : Only (· = sm) w w7 := (hO5.trans (Only.of_below (K := fun _ => False) hb6) (fun _ _ e => e.elim)).trans hO7 (fun _ _ e => e)
  have he : ∀ k, k < w.heap.size → labs ℓ w.heap.size 0 k = ℓ k := fun k hk => labs_lt hk
  refine ⟨rfl, hO8.more (fun k _ e => .inl e), labs ℓ w.heap.size 0, S, he, fun k => ?_, ?_, fun t => ?_, Nat.le_succ _, fun y hy => .inl ⟨y, hy, rfl⟩⟩
  · unfold labs
    split
    · have := hN k; omega
    · have := hN 0; omega
  · generalize labs ℓ w.heap.size 0 = ℓ' at he ⊢
    have hr := h.relabel he
    exact ⟨hm, fun y hy => (hr.tb y hy).only hO8 (fun k e1 e2 => by
      subst e2
      have := hr.ls
      have := h.own y hy
      omega), fun y hy => by have := h.own y hy; omega, h.apart, h.ne, hr.ls⟩
  · split
    · rename_i e2
      subst e2
      rw [hne]
      unfold viewS
      rw [hf]
    · rfl
end

section
open Go.RowKit

theorem rd_not_map {K V : Type} {M : Go.Proofs.YtkohppalfcalbaaGreat.MW K V} {w : World} {m : Nat} {T : List (K × V)} (hm : MapM M w m T) {B : Nat} {A : Option Addr} {l : List UInt8} (h : RdB w B A l) (hn : l ≠ []) : ∀ ad, A = some ad → ¬ ad.block = m := fun ad ha e => by
  obtain ⟨ad2, e1, hlt, hc⟩ := h hn
  rw [ha] at e1
  injection e1 with e1
  subst e1
  obtain ⟨x, l', rfl⟩ := List.exists_cons_of_ne_nil hn
  have h0 := hc 0 x rfl
  unfold World.cell? at h0
  rw [addr_add_block] at h0
  split at h0
  · rename_i c2 e2 f2 hg
    exact hm.noCells hg e
  · cases h0
theorem Sps.look {w : World} {ℓ : Nat → Nat} {sm N : Nat} {S : List SpT} (h : Sps w ℓ sm N S) {s : List UInt8} (hs : s.length ≤ maxLen) {W : World} (hb : Below w.heap.size w W) : (Instr.lookup 74 (.map (some sm)) (.string (strB s)) false).run Tryz.prog W = .ok (ptrV ((fndS S s).map (·.b))) W := by
  have h1 := (h.map.below hb).look space_good (x := s) hs
  rw [at_sp] at h1
  exact h1
set_option maxRecDepth 100000 in
set_option maxHeartbeats 8000000 in
theorem lay_set {w : World} {ℓ : Nat → Nat} {c p q sm km N : Nat} {S : List SpT} (hbox : w.heap[c]? = some (.cells #[.pointer (some ⟨p, 0, none⟩), .pointer (some ⟨q, 0, none⟩), .map (some sm), .map (some km)] 77 (0, 0))) (hc : ℓ c = 1) (h : Sps w ℓ sm N S) (hN : ∀ k, ℓ k < N) (ch : Ch) (hk : RdB w w.heap.size ch.kA ch.k) (hr : RdB w w.heap.size ch.rA ch.r) (hlen : ch.s.length ≤ 32 ∧ ch.k.length ≤ 200 ∧ ch.r.length ≤ 2000) {x : SpT} (hx : fndS S ch.s = some x) (hfew : x.l.length ≤ 899) :
    Calls Tryz.prog 79 #[.pointer (some ⟨c, 0, none⟩), ch.v] w (LyT w ℓ sm N S ch.s (applyL x.l ch.d ch.k ch.r)) := by
  obtain ⟨s, kA, key, kc, rA, r, rc, d⟩ := ch
  simp only [Ch.v] at hk hr hlen hx ⊢
  obtain ⟨w1, hw1⟩ : ∃ w1, w1 = w.alloc (.cells #[.string (strB s), .slice kA key.length kc, .slice rA r.length rc, .bool d] 62) := ⟨_, rfl⟩
  have hb1 : Below w.heap.size w w1 := by rw [hw1]; exact alloc_below _ _
  have hx1 : w1.heap[w.heap.size]? = some (.cells #[.string (strB s), .slice kA key.length kc, .slice rA r.length rc, .bool d] 62 (0, 0)) := by rw [hw1]; exact heap_alloc_new _ _
  have hcl := (Array.getElem?_eq_some_iff.1 hbox).1
  obtain ⟨_, _, x2, _⟩ := box4S ((hb1.block c hcl).trans hbox)
  obtain ⟨y0, y1, y2, y3⟩ := box4S hx1
  have hlk : ∀ n, (Instr.lookup 74 (.map (some sm)) (.string (strB s)) false).run Tryz.prog (w1.drewN n) = .ok (.pointer (some ⟨x.b, 0, none⟩)) (w1.drewN n) := fun n => by
    have h1 := h.look (s := s) (by unfold maxLen; omega) (hb1.trans ((drewN_below w1 n).mono hb1.size))
    rw [hx] at h1
    exact h1
  have hnil : ∀ (w : World) (a : Option Addr), (binOp .eql 88 (.pointer a) (.pointer none)).run Tryz.prog w = .ok (.bool a.isNone) w := fun w a => by cases a <;> rfl
  obtain ⟨hxm, hxs⟩ := fndS_some hx
  have HAY : Hid (∀ n, Calls Tryz.prog 45 #[.agg #[.string (strB s), .slice kA key.length kc, .slice rA r.length rc, .bool d], .pointer (some ⟨x.b, 0, none⟩)] (w1.drewN n) (AyT (w1.drewN n) (labs ℓ w.heap.size 0) x.L x.b (applyL x.l d key r))) := Lib.hid fun n => by
    have hb2 := hb1.trans ((drewN_below w1 n).mono hb1.size)
    exact apply_any (((h.tb x hxm).relabel fun k hk => labs_lt hk).below hb2) hfew (strB s) key r kA rA _ kc _ rc d rfl rfl (by omega) (by omega) ((hk.below hb2 (Nat.le_refl _)).more hb2.size) ((hr.below hb2 (Nat.le_refl _)).more hb2.size)
  have hxo := h.own x hxm
  have HCS : Hid (∀ n e w3, AyT (w1.drewN n) (labs ℓ w.heap.size 0) x.L x.b (applyL x.l d key r) e w3 → (w3.cell? ⟨c, 2, none⟩ = some (.map (some sm)) ∧ w3.cell? ⟨w.heap.size, 0, none⟩ = some (.string (strB s))) ∧ Calls Tryz.prog 113 #[.pointer (some ⟨x.b, 0, none⟩)] w3 (Looks (.int .i64 ((applyL x.l d key r).length : Int)) w3) ∧ (applyL x.l d key r = [] → ∀ W, Below w3.heap.size w3 W → ∃ w5, (Builtin.delete_ #[74, 9] 0 #[.map (some sm), .string (strB s)]).run Tryz.prog W = .ok (.tuple #[]) w5 ∧ LyT w ℓ sm N S s (applyL x.l d key r) (.returned (.tuple #[])) w5) ∧ (applyL x.l d key r ≠ [] → LyT w ℓ sm N S s (applyL x.l d key r) (.returned (.tuple #[])) w3)) := Lib.hid fun n e w3 ha => by
    have hb2 := hb1.trans ((drewN_below w1 n).mono hb1.size)
    have hA := ha
    obtain ⟨_, hO, ht⟩ := hA
    have hO2 : Only (fun k => ℓ k = x.L) w w3 := (Only.of_below hb2).trans hO (fun k hk e => by rw [labs_lt hk] at e; exact e)
    obtain ⟨_, _, z2, _⟩ := box4S ((hO2.block c hcl (by omega)).trans hbox)
    obtain ⟨z0, _, _, _⟩ := box4S ((hO.block w.heap.size (by have := hb2.size; have := (Array.getElem?_eq_some_iff.1 hx1).1; have := (drewN_below w1 n).size; omega) (by rw [labs_ge (Nat.le_refl _)]; omega)).trans (((drewN_below w1 n).block _ (Array.getElem?_eq_some_iff.1 hx1).1).trans hx1))
    refine ⟨⟨z2, z0⟩, tb_len (ht (labs (labs ℓ w.heap.size 0) (w1.drewN n).heap.size x.L) (fun k hk => labs_lt hk) (fun k hk => labs_ge hk)), fun he W hb => ?_, fun hne => ly_set h hN hx hb2 ha hne (Below.refl _ _)⟩
    have hm : MapM spaceW W sm (spK S) := (h.map.kept (hO2.block sm h.map.lt (by have := h.ls; omega))).below hb
    obtain ⟨w5, hrun, hm5, hO5⟩ := hm.drop space_good (x := s) (by show s.length ≤ maxLen; unfold maxLen; omega) 0
    exact ⟨w5, hrun, ly_drop h hN hx hb2 ha he hb hm5 hO5⟩
  have HW := Lib.hid hw1
  clear hk hr hfew hxm hxs hx h hbox hcl hb1 hx1 hw1 hN hc hxo hlen
  generalize applyL x.l d key r = l at HAY HCS ⊢
  generalize x.b = b at hlk HAY HCS
  by_cases hl : l = []
  · subst hl
    simp only [List.length_nil, Int.ofNat_zero] at HCS
    go_enter Tryz.func79, Tryz.ntmps79
    go_upto_region 1 with fail
    rw [← HW.out]
    go_quiet (fail)
    go_wp2_with (first
      | (go_at_call 45; refine (HAY.out _).mono ?_; rintro e w3 hh
         obtain rfl := id hh.1
         obtain ⟨⟨z2, z0⟩, hln, hdr, hst⟩ := HCS.out _ _ _ hh
         have HLN := Lib.hid hln
         have HDR := Lib.hid hdr
         have HST := Lib.hid hst
         clear hh hln hdr hst)
      | (go_at_call 113; refine HLN.out.mono ?_; rintro e w4 ⟨rfl, rfl⟩))
    obtain ⟨w5, hrun, hE⟩ := HDR.out (by trivial) _ (drew_below w3)
    have HE := Lib.hid hE
    clear hE
    go_region
    go_wp2_with fail
    refine bodyPost_end (v := .tuple #[]) (by simp [results, Tryz.results79, go_sem]) rfl ?_
    exact HE.out
  · have hl0 : ((l.length : Int) == 0) = false := by have := List.length_pos_iff.2 hl; simp; omega
    have HL := Lib.hid hl
    clear hl
    go_enter Tryz.func79, Tryz.ntmps79
    go_upto_region 1 with fail
    rw [← HW.out]
    go_quiet (fail)
    go_wp2_with (first
      | (go_at_call 45; refine (HAY.out _).mono ?_; rintro e w3 hh
         obtain rfl := id hh.1
         obtain ⟨⟨z2, z0⟩, hln, hdr, hst⟩ := HCS.out _ _ _ hh
         have HLN := Lib.hid hln
         have HDR := Lib.hid hdr
         have HST := Lib.hid hst
         clear hh hln hdr hst)
      | (go_at_call 113; refine HLN.out.mono ?_; rintro e w4 ⟨rfl, rfl⟩))
    refine bodyPost_end (v := .tuple #[]) (by simp [results, Tryz.results79, go_sem]) rfl ?_
    exact HST.out HL.out
set_option maxRecDepth 100000 in
set_option maxHeartbeats 8000000 in
theorem lay_new {w : World} {ℓ : Nat → Nat} {c p q sm km N : Nat} {S : List SpT} (hbox : w.heap[c]? = some (.cells #[.pointer (some ⟨p, 0, none⟩), .pointer (some ⟨q, 0, none⟩), .map (some sm), .map (some km)] 77 (0, 0))) (hc : ℓ c = 1) (h : Sps w ℓ sm N S) (hN : ∀ k, ℓ k < N) (hN2 : 2 ≤ N) (hS : S.length < 10000) (ch : Ch) (hk : RdB w w.heap.size ch.kA ch.k) (hr : RdB w w.heap.size ch.rA ch.r) (hlen : ch.s.length ≤ 32 ∧ ch.k.length ≤ 200 ∧ ch.r.length ≤ 2000) (hf : fndS S ch.s = none) :
    Calls Tryz.prog 79 #[.pointer (some ⟨c, 0, none⟩), ch.v] w (LyT w ℓ sm N S ch.s (applyL [] ch.d ch.k ch.r)) := by
  obtain ⟨s, kA, key, kc, rA, r, rc, d⟩ := ch
  simp only [Ch.v] at hk hr hlen hf ⊢
  obtain ⟨w1, hw1⟩ : ∃ w1, w1 = w.alloc (.cells #[.string (strB s), .slice kA key.length kc, .slice rA r.length rc, .bool d] 62) := ⟨_, rfl⟩
  have hb1 : Below w.heap.size w w1 := by rw [hw1]; exact alloc_below _ _
  have hx1 : w1.heap[w.heap.size]? = some (.cells #[.string (strB s), .slice kA key.length kc, .slice rA r.length rc, .bool d] 62 (0, 0)) := by rw [hw1]; exact heap_alloc_new _ _
  have hcl := (Array.getElem?_eq_some_iff.1 hbox).1
  have hwl := (Array.getElem?_eq_some_iff.1 hx1).1
  obtain ⟨_, _, x2, _⟩ := box4S ((hb1.block c hcl).trans hbox)
  obtain ⟨y0, y1, y2, y3⟩ := box4S hx1
  have hlk : ∀ n, (Instr.lookup 74 (.map (some sm)) (.string (strB s)) false).run Tryz.prog (w1.drewN n) = .ok (.pointer none) (w1.drewN n) := fun n => by
    have h1 := h.look (s := s) (by unfold maxLen; omega) (hb1.trans ((drewN_below w1 n).mono hb1.size))
    rw [hf] at h1
    exact h1
  have hnil : ∀ (w : World) (a : Option Addr), (binOp .eql 88 (.pointer a) (.pointer none)).run Tryz.prog w = .ok (.bool a.isNone) w := fun w a => by cases a <;> rfl
  have hcm : c ≠ sm := h.map.noCells hbox
  have hwm : w.heap.size ≠ sm := by have := h.map.lt; omega
  have HNT : Hid (∀ n, Calls Tryz.prog 42 #[] (w1.drewN n) (fun e w2 => e = .returned (.pointer (some ⟨w1.heap.size, 0, none⟩)) ∧ (w2.cell? ⟨c, 2, none⟩ = some (.map (some sm)) ∧ w2.cell? ⟨w.heap.size, 0, none⟩ = some (.string (strB s)) ∧ ∃ w3, (Instr.mapUpdate 74 (.map (some sm)) (.string (strB s)) (.pointer (some ⟨w1.heap.size, 0, none⟩))).run Tryz.prog w2.drew = .ok () w3 ∧ Hid (LyN w w3 ℓ sm N w1.heap.size S s) ∧ w3.cell? ⟨w.heap.size, 0, none⟩ = some (.string (strB s)) ∧ w3.cell? ⟨w.heap.size, 1, none⟩ = some (.slice kA key.length kc) ∧ w3.cell? ⟨w.heap.size, 2, none⟩ = some (.slice rA r.length rc) ∧ w3.cell? ⟨w.heap.size, 3, none⟩ = some (.bool d)))) := Lib.hid fun n => (tb_new (w1.drewN n)).mono fun e w2 hh => by
    obtain ⟨rfl, hb2, hlt, ht⟩ := hh
    refine ⟨rfl, ?_⟩
    have hb2' : Below w1.heap.size w1 w2 := (drewN_below w1 n).trans (hb2.mono (Nat.le_refl _))
    have hb12 : Below w.heap.size w w2 := hb1.trans (hb2'.mono hb1.size)
    have hbj : Below w2.heap.size w2 w2.drew := drew_below _
    obtain ⟨_, _, z2, _⟩ := box4S ((hb12.block c hcl).trans hbox)
    have hxw2 := (hb2'.block _ hwl).trans hx1
    obtain ⟨z0, _, _, _⟩ := box4S hxw2
    obtain ⟨w3, hrun, hm3, hO3⟩ := ((h.map.below hb12).below hbj).store space_good (by unfold spK; rw [List.length_map]; omega) (x := s) (by show s.length ≤ maxLen; unfold maxLen; omega) (some w1.heap.size)
    have hn := ly_n h hf hN2 hb1 (hb2'.trans (hbj.mono hb2'.size)) (by have := hbj.size; have h9 : (w1.drewN n).heap.size = w1.heap.size := rfl; omega) (fun ℓ L hL => (ht ℓ L hL).below hbj) hm3 hO3 (Below.refl _ _)
    have hs2 := hb2'.size
    obtain ⟨u0, u1, u2, u3⟩ := box4S ((hO3.block w.heap.size (by have := hbj.size; omega) hwm).trans ((hbj.block _ (by omega)).trans hxw2))
    exact ⟨z2, z0, w3, hrun, Lib.hid hn, u0, u1, u2, u3⟩
  have HAY : Hid (∀ w3, LyN w w3 ℓ sm N w1.heap.size S s → Calls Tryz.prog 45 #[.agg #[.string (strB s), .slice kA key.length kc, .slice rA r.length rc, .bool d], .pointer (some ⟨w1.heap.size, 0, none⟩)] w3 (AyT w3 (lab3 ℓ w.heap.size w1.heap.size N w3.heap.size N) N w1.heap.size (applyL [] d key r))) := Lib.hid fun w3 hn => by
    have ht := hn.tb (lab3 ℓ w.heap.size w1.heap.size N w3.heap.size N) (fun k hk => lab3_lt hk) (by unfold lab3; rw [if_neg (by have := hb1.size; omega), if_pos rfl])
    have hs3 := hn.size
    exact apply_any ht (by simp) (strB s) key r kA rA _ kc _ rc d rfl rfl (by omega) (by omega) (hk.onlyL hn.only fun hne => rd_not_map h.map hk hne) (hr.onlyL hn.only fun hne => rd_not_map h.map hr hne)
  have HCS : Hid (∀ w3 e w5, LyN w w3 ℓ sm N w1.heap.size S s → w3.cell? ⟨w.heap.size, 0, none⟩ = some (.string (strB s)) → AyT w3 (lab3 ℓ w.heap.size w1.heap.size N w3.heap.size N) N w1.heap.size (applyL [] d key r) e w5 → (w5.cell? ⟨c, 2, none⟩ = some (.map (some sm)) ∧ w5.cell? ⟨w.heap.size, 0, none⟩ = some (.string (strB s))) ∧ Calls Tryz.prog 113 #[.pointer (some ⟨w1.heap.size, 0, none⟩)] w5 (Looks (.int .i64 ((applyL [] d key r).length : Int)) w5) ∧ (applyL [] d key r = [] → ∀ W, Below w5.heap.size w5 W → ∃ w7, (Builtin.delete_ #[74, 9] 0 #[.map (some sm), .string (strB s)]).run Tryz.prog W = .ok (.tuple #[]) w7 ∧ LyT w ℓ sm N S s (applyL [] d key r) (.returned (.tuple #[])) w7) ∧ (applyL [] d key r ≠ [] → LyT w ℓ sm N S s (applyL [] d key r) (.returned (.tuple #[])) w5)) := Lib.hid fun w3 e w5 hn hst ha => by
    have hA := ha
    obtain ⟨_, hO, ht⟩ := hA
    have s1 := hb1.size
    have s3 := hn.size
    have hc3 : w3.heap[c]? = some (.cells #[.pointer (some ⟨p, 0, none⟩), .pointer (some ⟨q, 0, none⟩), .map (some sm), .map (some km)] 77 (0, 0)) := (hn.only.block c hcl hcm).trans hbox
    obtain ⟨_, _, z2, _⟩ := box4S ((hO.block c (by omega) (by rw [lab3_lt hcl, hc]; omega)).trans hc3)
    have hw5 : w5.cell? ⟨w.heap.size, 0, none⟩ = some (.string (strB s)) := (World.cell?_of_block (hO.block w.heap.size (by have := hn.at_; omega) (by
      unfold lab3
      rw [if_neg (by omega), if_neg (by omega), if_pos (by have := hn.at_; omega)]
      omega))).trans hst
    refine ⟨⟨z2, hw5⟩, tb_len (ht (lab3 ℓ w.heap.size w1.heap.size N w3.heap.size N) (fun _ _ => rfl) (fun k hk => by unfold lab3; rw [if_neg (by omega)]; split; rfl; rw [if_neg (by omega)])), fun he W hb => ?_, fun hne => ly_new h hf hN hN2 hn ha hne (Below.refl _ _)⟩
    have hm5 : MapM spaceW W sm (spK S ++ [(s, some w1.heap.size)]) := (hn.map.kept (hO.block sm (by have := h.map.lt; omega) (by rw [lab3_lt h.map.lt, h.ls]; omega))).below hb
    obtain ⟨w7, hrun, hm7, hO7⟩ := hm5.drop space_good (x := s) (by show s.length ≤ maxLen; unfold maxLen; omega) 0
    exact ⟨w7, hrun, ly_none h hf hN hn ha he hb hm7 hO7⟩
  have HW := Lib.hid hw1
  clear hk hr hf h hbox hcl hb1 hx1 hw1 hN hc hlen hwl hcm hwm hS
  generalize applyL [] d key r = l at HAY HCS ⊢
  generalize w1.heap.size = b at HNT HAY HCS
  by_cases hl : l = []
  · subst hl
    simp only [List.length_nil, Int.ofNat_zero] at HCS
    go_enter Tryz.func79, Tryz.ntmps79
    go_upto_region 1 with fail
    rw [← HW.out]
    go_quiet (fail)
    go_wp2_with (go_at_call 42; refine (HNT.out _).mono ?_; rintro e w2 ⟨rfl, hh⟩
                 obtain ⟨z2, z0, w3, hrun, HLN, u0, u1, u2, u3⟩ := hh)
    go_region
    go_wp2_with (first
      | (go_at_call 45; refine (HAY.out _ HLN.out).mono ?_; rintro e w5 hh
         obtain rfl := id hh.1
         obtain ⟨⟨v2, v0⟩, hln, hdr, _⟩ := HCS.out _ _ _ HLN.out u0 hh
         have HLEN := Lib.hid hln
         have HDR := Lib.hid hdr
         clear hh hln hdr)
      | (go_at_call 113; refine HLEN.out.mono ?_; rintro e w4 ⟨rfl, rfl⟩))
    obtain ⟨w7, hrun7, hE⟩ := HDR.out (by trivial) _ (drew_below w5)
    have HE := Lib.hid hE
    clear hE
    go_region
    go_wp2_with fail
    refine bodyPost_end (v := .tuple #[]) (by simp [results, Tryz.results79, go_sem]) rfl ?_
    exact HE.out
  · have hl0 : ((l.length : Int) == 0) = false := by have := List.length_pos_iff.2 hl; simp; omega
    have HL := Lib.hid hl
    clear hl
    go_enter Tryz.func79, Tryz.ntmps79
    go_upto_region 1 with fail
    rw [← HW.out]
    go_quiet (fail)
    go_wp2_with (go_at_call 42; refine (HNT.out _).mono ?_; rintro e w2 ⟨rfl, hh⟩
                 obtain ⟨z2, z0, w3, hrun, HLN, u0, u1, u2, u3⟩ := hh)
    go_region
    go_wp2_with (first
      | (go_at_call 45; refine (HAY.out _ HLN.out).mono ?_; rintro e w5 hh
         obtain rfl := id hh.1
         obtain ⟨_, hln, _, hst⟩ := HCS.out _ _ _ HLN.out u0 hh
         have HLEN := Lib.hid hln
         have HST := Lib.hid hst
         clear hh hln hst)
      | (go_at_call 113; refine HLEN.out.mono ?_; rintro e w4 ⟨rfl, rfl⟩))
    refine bodyPost_end (v := .tuple #[]) (by simp [results, Tryz.results79, go_sem]) rfl ?_
    exact HST.out HL.out
end

section
open Go.RowKit

theorem putK_len : ∀ (l : List (List UInt8 × List UInt8)) (k r : List UInt8), (putK l k r).length ≤ l.length + 1
  | [], k, r => by simp [putK]
  | (a, b) :: l, k, r => by
    have := putK_len l k r
    unfold putK
    repeat' split
    all_goals simp only [List.length_cons]; omega
theorem dropK_len : ∀ (l : List (List UInt8 × List UInt8)) (k : List UInt8), (dropK l k).length ≤ l.length
  | [], k => by simp [dropK]
  | (a, b) :: l, k => by
    have := dropK_len l k
    unfold dropK
    repeat' split
    all_goals simp only [List.length_cons]; omega
theorem applyL_len (l : List (List UInt8 × List UInt8)) (d : Bool) (k r : List UInt8) : (applyL l d k r).length ≤ l.length + 1 := by
  unfold applyL
  split
  · have := dropK_len l k; omega
  · exact putK_len l k r
theorem lay_any {w : World} {ℓ : Nat → Nat} {c p q sm km N : Nat} {S : List SpT} (hbox : w.heap[c]? = some (.cells #[.pointer (some ⟨p, 0, none⟩), .pointer (some ⟨q, 0, none⟩), .map (some sm), .map (some km)] 77 (0, 0))) (hc : ℓ c = 1) (h : Sps w ℓ sm N S) (hN : ∀ k, ℓ k < N) (hN2 : 2 ≤ N) (hS : S.length < 10000) (ch : Ch) (hk : RdB w w.heap.size ch.kA ch.k) (hr : RdB w w.heap.size ch.rA ch.r) (hlen : ch.s.length ≤ 32 ∧ ch.k.length ≤ 200 ∧ ch.r.length ≤ 2000) (hfew : (viewS S ch.s).length ≤ 899) :
    Calls Tryz.prog 79 #[.pointer (some ⟨c, 0, none⟩), ch.v] w (LyT w ℓ sm N S ch.s (applyL (viewS S ch.s) ch.d ch.k ch.r)) := by
  unfold viewS at hfew ⊢
  cases hf : fndS S ch.s with
  | none => exact lay_new hbox hc h hN hN2 hS ch hk hr hlen hf
  | some x =>
    rw [hf] at hfew
    exact lay_set hbox hc h hN ch hk hr hlen hf hfew
/-- the rows of all spaces behind a change -/
def layV (V : List UInt8 → List (List UInt8 × List UInt8)) (c : Ch) (t : List UInt8) : List (List UInt8 × List UInt8) := if t = c.s then applyL (V c.s) c.d c.k c.r else V t
def layVs (V : List UInt8 → List (List UInt8 × List UInt8)) (cs : List Ch) : List UInt8 → List (List UInt8 × List UInt8) := cs.foldl layV V
theorem layVs_app (V : List UInt8 → List (List UInt8 × List UInt8)) (cs : List Ch) (c : Ch) : layVs V (cs ++ [c]) = layV (layVs V cs) c := by unfold layVs; rw [List.foldl_append]; rfl
theorem layVs_len (t : List UInt8) : ∀ cs : List Ch, ∀ V : List UInt8 → List (List UInt8 × List UInt8), ∀ n, (∀ t, (V t).length ≤ n) → (layVs V cs t).length ≤ n + cs.length := by
  intro cs
  induction cs with
  | nil => intro V n h; exact h t
  | cons c cs ih =>
    intro V n h
    have h1 := ih (layV V c) (n + 1) (fun t => by
      unfold layV
      split
      · have := applyL_len (V c.s) c.d c.k c.r; have := h c.s; omega
      · have := h t; omega)
    show (layVs (layV V c) cs t).length ≤ _
    rw [List.length_cons]
    omega
/-- what settle leaves -/
def SeT (w : World) (ℓ : Nat → Nat) (sm N : Nat) (S : List SpT) (cs : List Ch) (w' : World) : Prop := Only (fun k => k = sm ∨ ∃ x ∈ S, ℓ k = x.L) w w' ∧ ∃ ℓ' N' S', (∀ k, k < w.heap.size → ℓ' k = ℓ k) ∧ (∀ k, ℓ' k < N') ∧ N ≤ N' ∧ Sps w' ℓ' sm N' S' ∧ viewS S' = layVs (viewS S) cs ∧ S'.length ≤ S.length + cs.length ∧ ∀ x ∈ S', (∃ y ∈ S, y.L = x.L) ∨ N ≤ x.L
theorem se_start {w : World} {ℓ : Nat → Nat} {sm N : Nat} {S : List SpT} (h : Sps w ℓ sm N S) (hN : ∀ k, ℓ k < N) : SeT w ℓ sm N S [] w := ⟨Only.refl _ _, ℓ, N, S, fun _ _ => rfl, hN, Nat.le_refl _, h, rfl, Nat.le_refl _, fun x hx => .inl ⟨x, hx, rfl⟩⟩
theorem se_step {w wr : World} {ℓ : Nat → Nat} {c p q sm km N : Nat} {S : List SpT} {cs : List Ch} {ch : Ch} {n : Nat} (hbox : w.heap[c]? = some (.cells #[.pointer (some ⟨p, 0, none⟩), .pointer (some ⟨q, 0, none⟩), .map (some sm), .map (some km)] 77 (0, 0))) (hc : ℓ c = 1) (hcm : c ≠ sm) (h : Sps w ℓ sm N S) (hN : ∀ k, ℓ k < N) (hN2 : 2 ≤ N) (hs : SeT w ℓ sm N S cs wr) (hv : ∀ t, (viewS S t).length ≤ n) (hn : n + cs.length ≤ 899) (hS : S.length + cs.length < 10000) (hch : ChOk w ℓ ch) {w2 : World} (hb : Below wr.heap.size wr w2) :
    Calls Tryz.prog 79 #[.pointer (some ⟨c, 0, none⟩), ch.v] w2 (fun e w3 => e = .returned (.tuple #[]) ∧ SeT w ℓ sm N S (cs ++ [ch]) w3) := by
  obtain ⟨hO, ℓ', N', S', he, hN', hNN, hsp, hview, hlen, hlab⟩ := hs
  have hcl := (Array.getElem?_eq_some_iff.1 hbox).1
  have s0 := hO.size
  have s2 := hb.size
  have hO2 : Only (fun k => k = sm ∨ ∃ x ∈ S, ℓ k = x.L) w w2 := hO.trans (Only.of_below (K := fun _ => False) hb) (fun _ _ e => e.elim)
  have hbox2 := (hO2.block c hcl (fun e => by
    rcases e with e | ⟨x, hx, e⟩
    · exact hcm e
    · have := h.own x hx; omega)).trans hbox
  have hch2 := hch.only hO2 (fun k e e2 => by
    rcases e2 with e2 | ⟨x, hx, e2⟩
    · rw [e2, h.ls] at e; cases e
    · have := h.own x hx; omega)
  have hl2 : (viewS S' ch.s).length ≤ 899 := by
    rw [hview]
    have := layVs_len ch.s cs (viewS S) n hv
    omega
  refine (lay_any hbox2 ((he c hcl).trans hc) (hsp.below hb) hN' (by omega) (by omega) ch hch2.key hch2.row hch2.len hl2).mono ?_
  rintro e w3 ⟨rfl, hO3, ℓ2, S2, he2, hN2', hsp2, hview2, hlen2, hlab2⟩
  refine ⟨rfl, hO2.trans hO3 (fun k hk e => ?_), ℓ2, N' + 1, S2, fun k hk => (he2 k (by omega)).trans (he k hk), hN2', by omega, hsp2, ?_, by rw [List.length_append, List.length_singleton]; omega, fun x hx => ?_⟩
  · rcases e with e | ⟨x, hx, e⟩
    · exact .inl e
    · rcases hlab x hx with ⟨y, hy, e2⟩ | e2
      · exact .inr ⟨y, hy, by rw [e2, ← e, he k hk]⟩
      · rw [he k hk] at e
        have := hN k
        omega
  · rw [layVs_app]
    funext t
    rw [hview2]
    unfold layV
    rw [hview]
  · rcases hlab2 x hx with ⟨y, hy, e2⟩ | e2
    · rcases hlab y hy with ⟨z, hz, e3⟩ | e3
      · exact .inl ⟨z, hz, e3.trans e2⟩
      · exact .inr (by omega)
    · exact .inr (by omega)
set_option maxRecDepth 100000 in
set_option maxHeartbeats 4000000 in
theorem settle_any {w : World} {ℓ : Nat → Nat} {c p q sm km N L n : Nat} {S : List SpT} {t : Tr} (hbox : w.heap[c]? = some (.cells #[.pointer (some ⟨p, 0, none⟩), .pointer (some ⟨q, 0, none⟩), .map (some sm), .map (some km)] 77 (0, 0))) (hc : ℓ c = 1) (h : Sps w ℓ sm N S) (hN : ∀ k, ℓ k < N) (hN2 : 2 ≤ N) (ht : TrOk w ℓ L t) (hL : 2 ≤ L) (hLS : ∀ x ∈ S, x.L ≠ L) (hv : ∀ s, (viewS S s).length ≤ n) (hn : n + t.cs.length ≤ 899) (hS : S.length + t.cs.length < 10000) :
    Calls Tryz.prog 58 #[.pointer (some ⟨c, 0, none⟩), .pointer (some ⟨t.b, 0, none⟩)] w (fun e w' => e = .returned (.tuple #[]) ∧ SeT w ℓ sm N S t.cs w') := by
  have hcm : c ≠ sm := h.map.noCells hbox
  obtain ⟨A, cap, hvv⟩ := ht.row.lens
  have htb := ht.box
  rw [hvv] at htb
  obtain ⟨x0, _, _⟩ := box3S htb
  have HRD : Hid (∀ W, Only (fun k => k = sm ∨ ∃ x ∈ S, ℓ k = x.L) w W → RdC W W.heap.size A (chV t.cs)) := Lib.hid fun W hO => by
    have h1 := (ht.only hO (fun k e e2 => by
      rcases e2 with e2 | ⟨x, hx, e2⟩
      · rw [e2, h.ls] at e; cases e
      · have := h.own x hx; omega) (fun k e e2 => by
      rcases e2 with e2 | ⟨x, hx, e2⟩
      · rw [e2, h.ls] at e; omega
      · exact hLS x hx (e2.symm.trans e))).row
    rw [hvv] at h1
    exact h1.rd.1
  have HST : Hid (∀ k wr, k < t.cs.length → SeT w ℓ sm N S (t.cs.take k) wr → ∀ ch, t.cs[k]? = some ch → ∀ w2, Below wr.heap.size wr w2 → Calls Tryz.prog 79 #[.pointer (some ⟨c, 0, none⟩), ch.v] w2 (fun e w3 => e = .returned (.tuple #[]) ∧ SeT w ℓ sm N S (t.cs.take (k + 1)) w3)) := Lib.hid fun k wr hk hs ch hch w2 hb => by
    have h1 := se_step hbox hc hcm h hN hN2 hs hv (by rw [List.length_take]; omega) (by rw [List.length_take]; omega) (ht.ok ch (List.mem_of_getElem? hch)) hb
    obtain ⟨h2, h3⟩ := List.getElem?_eq_some_iff.1 hch
    have e : t.cs.take (k + 1) = t.cs.take k ++ [ch] := by rw [List.take_succ_eq_append_getElem h2, h3]
    rw [e]
    exact h1
  have H00 := Lib.hid (se_start h hN)
  have hfew := ht.few
  clear h ht hbox hc hvv htb hLS hn hS hcm hv hN hN2 hL
  obtain ⟨b, hb⟩ : ∃ b, t.b = b := ⟨_, rfl⟩
  rw [hb] at x0 ⊢
  obtain ⟨cs, hcs⟩ : ∃ cs, t.cs = cs := ⟨_, rfl⟩
  rw [hcs] at x0 HRD HST hfew ⊢
  obtain ⟨M, hM⟩ : ∃ M, cs.length = M := ⟨_, rfl⟩
  have HM := Lib.hid hM
  rw [hM] at x0 hfew
  have hMi : (M : Int) ≤ 1000 := by omega
  clear hb hcs hM hfew
  go_enter Tryz.func58, Tryz.ntmps58
  go_wp2_with fail
  go_loopw [11] (fun v11 wr => ∃ k : Nat, v11 = .int .i64 (k : Int) ∧ k ≤ M ∧ SeT w ℓ sm N S (cs.take k) wr) (fun v11 _ => M - (intOf v11).toNat)
  case atStart => exact ⟨0, rfl, Nat.zero_le _, H00.out⟩
  case round =>
    obtain ⟨k, rfl, hk, hs⟩ := hrel
    by_cases hlt : k < M
    · have hlti : (k : Int) < (M : Int) := by omega
      have hkc : k < cs.length := by have := HM.out; omega
      have hX : cs[k]? = some cs[k] := List.getElem?_eq_getElem hkc
      obtain ⟨b0, o0, hA, hlt0, hcc⟩ := HRD.out wr hs.1 (by intro e; have := chV_len cs; rw [e] at this; simp at this; omega)
      subst hA
      have hat := chV_at cs k cs[k] hX
      have c0 := hcc _ _ (hat 0 _ rfl)
      have c1 := hcc _ _ (hat 1 _ rfl)
      have c2 := hcc _ _ (hat 2 _ rfl)
      have c3 := hcc _ _ (hat 3 _ rfl)
      rw [← Nat.add_assoc] at c0 c1 c2 c3
      have HLY := Lib.hid (HST.out k wr hkc hs cs[k] hX)
      generalize hc9 : cs[k] = ch at c0 c1 c2 c3 HLY
      clear hc9 hs hX hcc hat hlt0 hkc
      obtain ⟨s, kA, kl, kc, rA, r, rc, d⟩ := ch
      simp only [Nat.add_zero] at c0
      simp only [Ch.v] at HLY
      obtain ⟨y0, y1, y2, y3⟩ := box4S (heap_alloc_new wr (.cells #[.string (strB s), .slice kA kl.length kc, .slice rA r.length rc, .bool d] 62))
      have HBL := Lib.hid (alloc_below wr)
      go_wp2_with (go_at_call 79; refine (HLY.out _ (HBL.out _)).mono ?_; rintro e w3 ⟨rfl, hs3⟩
                   have HS3 := Lib.hid hs3
                   clear hs3)
      go_roundw
      case rel => first | exact ⟨k + 1, by go_num, hlt, HS3.out⟩ | ((repeat apply Exists.intro); exact ⟨⟨k + 1, by go_num, hlt, HS3.out⟩, rfl⟩)
      case measure => simp [intOf]; omega
    · have hkM : k = M := by omega
      subst hkM
      have hlti : ¬ (k : Int) < (k : Int) := by omega
      rw [List.take_of_length_le (by have := HM.out; omega)] at hs
      have HS := Lib.hid hs
      clear hs
      go_wp2_with fail
      refine bodyPost_end (v := .tuple #[]) (by simp [results, Tryz.results58, go_sem]) rfl ?_
      exact ⟨rfl, HS.out⟩
end
end Go.Proofs.YtkohppalfcalbaaGreat

/- Package table, in plain mathematics: entries that rise, where a key stands among the pages. -/
import Derived.Test.YtfmhijaljlmgaaaPC
namespace Go.Proofs.Ytfmhijaljlmgaaa

def flat (ps : List Pg) : List Ent := ps.flatMap Pg.es
theorem flat_cons (p : Pg) (ps : List Pg) : flat (p :: ps) = p.es ++ flat ps := rfl
theorem flat_app (a b : List Pg) : flat (a ++ b) = flat a ++ flat b := by simp [flat]
def Rise (L : List Ent) : Prop := L.Pairwise fun a b => cmpB a.k b.k < 0
theorem cmpB_neg (a b : List UInt8) : cmpB a b = - cmpB b a := line_cmpB.neg a b
theorem cmpB_tr {a b d : List UInt8} (h1 : cmpB a b < 0) (h2 : cmpB b d < 0) : cmpB a d < 0 := line_cmpB.lt_le h1 (Int.le_of_lt h2)
theorem cmpB_up {a b t : List UInt8} (h1 : cmpB a b < 0) (h2 : 0 ≤ cmpB a t) : 0 < cmpB b t := by
  have e1 := cmpB_neg b t
  have e2 := cmpB_neg a t
  have := line_cmpB.le_lt (a := t) (b := a) (d := b) (by omega) h1
  omega
theorem split_ex : ∀ (L : List Ent), Rise L → ∀ t, ∃ m, SplitB L t m
  | [], _, t => ⟨0, Nat.le_refl _, fun j e h => by simp at h, fun j e h => by simp at h⟩
  | x :: L, h, t => by
    have h' := List.pairwise_cons.1 h
    by_cases hx : cmpB x.k t < 0
    · obtain ⟨m, hm⟩ := split_ex L h'.2 t
      refine ⟨m + 1, by have := hm.le; simp; omega, fun j e hj hlt => ?_, fun j e hj hle => ?_⟩
      · cases j with
        | zero => simp at hj; subst hj; exact hx
        | succ j => simp at hj; exact hm.lo j e hj (by omega)
      · cases j with
        | zero => omega
        | succ j => simp at hj; exact hm.hi j e hj (by omega)
    · refine ⟨0, Nat.zero_le _, fun j e _ hlt => by omega, fun j e hj _ => ?_⟩
      cases j with
      | zero => simp at hj; subst hj; omega
      | succ j =>
        simp at hj
        have := cmpB_up (h'.1 e (List.mem_of_getElem? hj)) (by omega : 0 ≤ cmpB x.k t)
        omega
theorem split_app {A B : List Ent} {t : List UInt8} {m : Nat} (hA : ∀ e ∈ A, cmpB e.k t < 0) (h : SplitB B t m) : SplitB (A ++ B) t (A.length + m) := by
  refine ⟨by have := h.le; rw [List.length_append]; omega, fun j e hj hlt => ?_, fun j e hj hle => ?_⟩
  · rcases Nat.lt_or_ge j A.length with h1 | h1
    · rw [List.getElem?_append_left h1] at hj
      exact hA e (List.mem_of_getElem? hj)
    · rw [List.getElem?_append_right h1] at hj
      exact h.lo _ e hj (by omega)
  · rw [List.getElem?_append_right (by omega)] at hj
    exact h.hi _ e hj (by omega)
theorem split_pre {A B : List Ent} {t : List UInt8} {m : Nat} (hr : Rise (A ++ B)) (h : SplitB A t m) (hm : m < A.length) : SplitB (A ++ B) t m := by
  refine ⟨by rw [List.length_append]; omega, fun j e hj hlt => ?_, fun j e hj hle => ?_⟩
  · rw [List.getElem?_append_left (by omega)] at hj
    exact h.lo j e hj hlt
  · rcases Nat.lt_or_ge j A.length with h1 | h1
    · rw [List.getElem?_append_left h1] at hj
      exact h.hi j e hj hle
    · rw [List.getElem?_append_right h1] at hj
      have h2 := h.hi m _ (List.getElem?_eq_getElem hm) (Nat.le_refl _)
      have h3 := (List.pairwise_append.1 hr).2.2 _ (List.getElem_mem hm) e (List.mem_of_getElem? hj)
      have := cmpB_up h3 h2
      omega
theorem has_app (A B : List Ent) (m : Nat) (t : List UInt8) : hasAt (A ++ B) (A.length + m) t = hasAt B m t := by
  unfold hasAt
  rw [List.getElem?_append_right (by omega), Nat.add_sub_cancel_left]
theorem has_pre (A B : List Ent) {m : Nat} (t : List UInt8) (hm : m < A.length) : hasAt (A ++ B) m t = hasAt A m t := by
  unfold hasAt
  rw [List.getElem?_append_left hm]
theorem lastK_mem {es : List Ent} (h : es ≠ []) : ∃ e ∈ es, lastK es = e.k ∧ es[es.length - 1]? = some e := by
  have hp := List.length_pos_iff.2 h
  refine ⟨es[es.length - 1]'(by omega), List.getElem_mem _, ?_, List.getElem?_eq_getElem (by omega)⟩
  unfold lastK
  rw [List.getLast?_eq_getElem?, List.getElem?_eq_getElem (by omega)]
theorem lastK_top {es : List Ent} (hr : Rise es) {e x : Ent} (he : es[es.length - 1]? = some e) (hx : x ∈ es) : x = e ∨ cmpB x.k e.k < 0 := by
  obtain ⟨j, hj⟩ := List.mem_iff_getElem?.1 hx
  obtain ⟨h1, h2⟩ := List.getElem?_eq_some_iff.1 hj
  obtain ⟨h3, h4⟩ := List.getElem?_eq_some_iff.1 he
  rcases Nat.lt_or_ge j (es.length - 1) with hlt | hge
  · right
    have := (List.pairwise_iff_getElem.1 hr) j (es.length - 1) h1 h3 hlt
    rw [h2, h4] at this
    exact this
  · left
    have : j = es.length - 1 := by omega
    subst this
    rw [← h2, ← h4]
theorem find_ex : ∀ (ps : List Pg), (∀ p ∈ ps, p.es ≠ []) → Rise (flat ps) → ∀ t, ∃ i j f, FindAt ps t i j f ∧ SplitB (flat ps) t ((flat (ps.take i)).length + j) ∧ f = hasAt (flat ps) ((flat (ps.take i)).length + j) t
  | [], _, _, t => ⟨0, 0, false, ⟨⟨Nat.le_refl _, fun j p h => by simp at h, fun j p h => by simp at h⟩, fun p h => by simp at h, fun _ => ⟨rfl, rfl⟩⟩, ⟨Nat.le_refl _, fun j e h => by simp [flat] at h, fun j e h => by simp [flat] at h⟩, rfl⟩
  | p :: ps, hne, hr, t => by
    have hpne := hne p (List.mem_cons_self ..)
    rw [flat_cons] at hr
    obtain ⟨hr1, hr2, hr3⟩ := List.pairwise_append.1 hr
    obtain ⟨e, he, hl, hle⟩ := lastK_mem hpne
    by_cases hlt : cmpB (lastK p.es) t < 0
    · obtain ⟨i, j, f, hF, hS, hf⟩ := find_ex ps (fun x hx => hne x (List.mem_cons_of_mem _ hx)) hr2 t
      have hall : ∀ x ∈ p.es, cmpB x.k t < 0 := fun x hx => by
        rw [hl] at hlt
        rcases lastK_top hr1 hle hx with rfl | h1
        · exact hlt
        · exact cmpB_tr h1 hlt
      have hlen : (flat ((p :: ps).take (i + 1))).length + j = p.es.length + ((flat (ps.take i)).length + j) := by
        rw [List.take_succ_cons, flat_cons, List.length_append]; omega
      refine ⟨i + 1, j, f, ⟨⟨by have := hF.page.le; simp; omega, fun k x hk hki => ?_, fun k x hk hki => ?_⟩, fun x hx => hF.here x (by simpa using hx), fun e => hF.past (by simpa using e)⟩, ?_, ?_⟩
      · cases k with
        | zero => simp at hk; subst hk; exact hlt
        | succ k => simp at hk; exact hF.page.lo k x hk (by omega)
      · cases k with
        | zero => omega
        | succ k => simp at hk; exact hF.page.hi k x hk (by omega)
      · rw [hlen, flat_cons]
        exact split_app hall hS
      · rw [hlen, flat_cons, has_app]
        exact hf
    · obtain ⟨m, hm⟩ := split_ex p.es hr1 t
      have hml : m < p.es.length := by
        rcases Nat.lt_or_ge m p.es.length with h1 | h1
        · exact h1
        · obtain ⟨h3, h4⟩ := List.getElem?_eq_some_iff.1 hle
          have := hm.lo _ e hle (by omega)
          rw [hl] at hlt
          omega
      refine ⟨0, m, hasAt p.es m t, ⟨⟨Nat.zero_le _, fun k x _ hki => by omega, fun k x hk _ => ?_⟩, fun x hx => ?_, fun e => by simp at e⟩, ?_, ?_⟩
      · cases k with
        | zero => simp at hk; subst hk; omega
        | succ k =>
          simp at hk
          have hxm := List.mem_of_getElem? hk
          obtain ⟨y, hy, hyl, _⟩ := lastK_mem (hne x (List.mem_cons_of_mem _ hxm))
          have h5 := hr3 e he y (by unfold flat; exact List.mem_flatMap.2 ⟨x, hxm, hy⟩)
          rw [hl] at hlt
          rw [hyl]
          have := cmpB_up h5 (by omega : 0 ≤ cmpB e.k t)
          omega
      · simp at hx
        subst hx
        exact ⟨hm, rfl⟩
      · rw [flat_cons]
        simpa [flat] using split_pre hr hm hml
      · rw [flat_cons]
        simpa [flat] using (has_pre p.es (flat ps) t hml).symm
theorem flat_at {ps : List Pg} {i : Nat} {p : Pg} (h : ps[i]? = some p) : flat ps = flat (ps.take i) ++ (p.es ++ flat (ps.drop (i + 1))) := by
  have hl := (List.getElem?_eq_some_iff.1 h)
  have e : ps = ps.take i ++ (p :: ps.drop (i + 1)) := by
    rw [← hl.2, ← List.drop_eq_getElem_cons hl.1, List.take_append_drop]
  have h2 : flat (ps.take i ++ (p :: ps.drop (i + 1))) = flat (ps.take i) ++ (p.es ++ flat (ps.drop (i + 1))) := by rw [flat_app, flat_cons]
  rw [← e] at h2
  exact h2
theorem flat_set {ps : List Pg} {i : Nat} {p : Pg} (h : i < ps.length) : flat (ps.set i p) = flat (ps.take i) ++ (p.es ++ flat (ps.drop (i + 1))) := by
  rw [List.set_eq_take_append_cons_drop, if_pos h, flat_app, flat_cons]
/-- an entry laid in at a place -/
def laidIn (L : List Ent) (m : Nat) (x : Ent) : List Ent := L.take m ++ (x :: L.drop m)
theorem flat_ins {ps : List Pg} {i j : Nat} {p p' : Pg} {x : Ent} (h : ps[i]? = some p) (hj : j ≤ p.es.length) (hp : p'.es = p.es.take j ++ (x :: p.es.drop j)) : flat (ps.set i p') = laidIn (flat ps) ((flat (ps.take i)).length + j) x := by
  rw [flat_set (List.getElem?_eq_some_iff.1 h).1, flat_at h, hp]
  unfold laidIn
  rw [List.take_length_add_append, List.drop_length_add_append, List.take_append_of_le_length hj, List.drop_append_of_le_length hj]
  simp
theorem flat_ins_end {ps : List Pg} {i : Nat} {p p' : Pg} {x : Ent} (h : ps[i]? = some p) (hi : i + 1 = ps.length) (hp : p'.es = p.es ++ [x]) : flat (ps.set i p') = laidIn (flat ps) ((flat ps).length) x := by
  have e := flat_ins (j := p.es.length) (p' := p') (x := x) h (Nat.le_refl _) (by rw [hp]; simp)
  rw [e]
  have e2 := flat_at h
  rw [List.drop_eq_nil_of_le (by omega)] at e2
  congr 1
  rw [e2]
  simp [flat]
/-- a page parted in two -/
theorem flat_part {ps : List Pg} {i k : Nat} {p a b : Pg} (h : ps[i]? = some p) (ha : a.es = p.es.take k) (hb : b.es = p.es.drop k) : flat ((ps.take (i + 1) ++ (b :: ps.drop (i + 1))).set i a) = flat ps := by
  have hl := (List.getElem?_eq_some_iff.1 h).1
  have e : (ps.take (i + 1) ++ (b :: ps.drop (i + 1))).set i a = ps.take i ++ (a :: b :: ps.drop (i + 1)) := by
    rw [List.take_add_one, h, Option.toList_some, List.append_assoc, List.set_append_right _ _ (by rw [List.length_take]; omega), List.length_take, show i - min i ps.length = 0 by omega]
    rfl
  rw [e, flat_app, flat_cons, flat_cons, flat_at h, ha, hb, ← List.append_assoc (p.es.take k), List.take_append_drop]
end Go.Proofs.Ytfmhijaljlmgaaa

/- slices.Clone of entries; a table in memory; what of it stays. -/
import Derived.Test.YtkohppalfcalbaaGreatPD
import Derived.Test.YtkohppalfcalbaaGreatPC
namespace Go.Proofs.YtkohppalfcalbaaGreat
section
open Go.RowKit

theorem held_new_ {w : World} {q sz : Nat} {t : TypeId} (hq : q < w.heap.size) : HeldC (w.alloc (.cells #[] t)) q w.heap.size sz (.slice (some ⟨w.heap.size, 0, none⟩) 0 0) 0 [] :=
  .inr ⟨by omega, 0, 0, rfl, ⟨by simp, by simp, Nat.le_refl _, fun j hj => by omega, fun j c hj => by simp at hj⟩⟩
/-- a table in memory, whatever its pages: its box q, its pages' row in P, its count c -/
structure Tb0 (w : World) (G D : Nat → Prop) (q P c : Nat) (ps : List Pg) : Prop where
  box : ∃ v, w.heap[q]? = some (.cells #[v, .int .i64 (c : Int)] 147 (0, 0)) ∧ HeldC w q P 1 v ps.length (pagesV ps)
  page : ∀ p ∈ ps, HeldC w q p.g 2 p.v p.es.length (entV p.es) ∧ p.g ≠ P ∧ G p.g
  apart : (ps.map Pg.g).Nodup
  ents : ∀ p ∈ ps, ∀ e ∈ p.es, EntOk w D e
  gq : G q
  gP : G P
  dis : ∀ j, G j → ¬ D j
  glt : ∀ j, G j → j < w.heap.size
  dlt : ∀ j, D j → j < w.heap.size
theorem Tb0.lt {w : World} {G D : Nat → Prop} {q P c : Nat} {ps : List Pg} (h : Tb0 w G D q P c ps) : q < w.heap.size := by
  obtain ⟨_, h1, _⟩ := h.box
  exact (Array.getElem?_eq_some_iff.1 h1).1
theorem Tb0.only {K : Nat → Prop} {w w' : World} {G D : Nat → Prop} {q P c : Nat} {ps : List Pg} (h : Tb0 w G D q P c ps) (hO : Only K w w') (hG : ∀ j, G j → ¬ K j) (hD : ∀ j, D j → ¬ K j) : Tb0 w' G D q P c ps := by
  obtain ⟨v, h1, h2⟩ := h.box
  exact ⟨⟨v, (hO.block q h.lt (hG _ h.gq)).trans h1, h2.only hO (fun _ => hG _ h.gP)⟩, fun p hp => by
    obtain ⟨h3, h4, h5⟩ := h.page p hp
    exact ⟨h3.only hO (fun _ => hG _ h5), h4, h5⟩, h.apart, fun p hp e he => (h.ents p hp e he).only hO hD, h.gq, h.gP, h.dis, fun j hj => Nat.lt_of_lt_of_le (h.glt j hj) hO.size, fun j hj => Nat.lt_of_lt_of_le (h.dlt j hj) hO.size⟩
theorem Tb0.below {w w' : World} {G D : Nat → Prop} {q P c : Nat} {ps : List Pg} (h : Tb0 w G D q P c ps) (hb : Below w.heap.size w w') : Tb0 w' G D q P c ps := h.only (Only.of_below (K := fun _ => False) hb) (fun _ _ => id) (fun _ _ => id)
theorem Tb0.heap {w w' : World} {G D : Nat → Prop} {q P c : Nat} {ps : List Pg} (h : Tb0 w G D q P c ps) (e : w'.heap = w.heap) : Tb0 w' G D q P c ps := by
  obtain ⟨v, h1, h2⟩ := h.box
  exact ⟨⟨v, by rw [e]; exact h1, h2.heap e⟩, fun p hp => by
    obtain ⟨h3, h4, h5⟩ := h.page p hp
    exact ⟨h3.heap e, h4, h5⟩, h.apart, fun p hp x hx => by
    have h3 := h.ents p hp x hx
    exact ⟨by have := h3.key.heap e; rw [← e] at this; exact this, by have := h3.row.heap e; rw [← e] at this; exact this, h3.kd, h3.rd, h3.kl, h3.rl⟩, h.gq, h.gP, h.dis, fun j hj => by rw [e]; exact h.glt j hj, fun j hj => by rw [e]; exact h.dlt j hj⟩
theorem pagesV_one (ps : List Pg) (h : ∀ p ∈ ps, ∃ A n c, p.v = .slice A n c) : ∀ u ∈ pagesV ps, u.oneCell' = true := by
  intro u hu
  simp only [pagesV, List.mem_map] at hu
  obtain ⟨p, hp, rfl⟩ := hu
  obtain ⟨A, n, c, e⟩ := h p hp
  rw [e]; rfl
theorem Tb0.one {w : World} {G D : Nat → Prop} {q P c : Nat} {ps : List Pg} (h : Tb0 w G D q P c ps) : ∀ u ∈ pagesV ps, u.oneCell' = true := pagesV_one ps fun p hp => by
  obtain ⟨A, cap, h1, _⟩ := (h.page p hp).1.slice
  exact ⟨A, _, cap, h1⟩
/-- how the pages' row lies, and what stands in it -/
theorem Tb0.rds {w : World} {G D : Nat → Prop} {q P c : Nat} {ps : List Pg} (h : Tb0 w G D q P c ps) (hne : ∀ p ∈ ps, p.es ≠ [] ∧ p.es.length ≤ 1000) : ∃ A cap, w.heap[q]? = some (.cells #[.slice A ps.length cap, .int .i64 (c : Int)] 147 (0, 0)) ∧ RdPs w A ps := by
  obtain ⟨v, h1, h2⟩ := h.box
  obtain ⟨A, cap, rfl, _, _⟩ := h2.slice
  refine ⟨A, cap, h1, h2.rd.1, fun p hp => ?_⟩
  obtain ⟨A', cap', h3, _, _⟩ := (h.page p hp).1.slice
  have h4 := (h.page p hp).1
  rw [h3] at h4
  exact ⟨(hne p hp).1, (hne p hp).2, A', cap', h3, h4.rd.1, fun e he => (h.ents p hp e he).key⟩
theorem HeldC.lt_ {w : World} {q g sz n : Nat} {v : Value} {vs : List Value} (h : HeldC w q g sz v n vs) (hq : q < w.heap.size) : g < w.heap.size := by
  rcases h with ⟨_, _, _, rfl⟩ | ⟨_, _, _, _, ho⟩
  · exact hq
  · exact ho.lt
theorem nodup_set {l : List Nat} (h : l.Nodup) {i x : Nat} (hx : l[i]? = some x ∨ x ∉ l) : (l.set i x).Nodup := by
  rcases hx with hx | hx
  · have : l.set i x = l := by
      apply List.ext_getElem?
      intro j
      rw [List.getElem?_set]
      split
      · rename_i e; subst e; split
        · exact hx.symm
        · rw [List.getElem?_eq_none (by omega)]
      · rfl
    rw [this]; exact h
  · rw [List.nodup_iff_pairwise_ne, List.pairwise_iff_getElem] at h ⊢
    intro a b ha hb hab
    rw [List.length_set] at ha hb
    rw [List.getElem_set, List.getElem_set]
    split
    · rename_i e; subst e
      rw [if_neg (by omega)]
      exact fun e => hx (e ▸ List.getElem_mem hb)
    · split
      · rename_i e; subst e
        exact fun e => hx (e ▸ List.getElem_mem ha)
      · exact h a b ha hb hab
theorem Tb0.cap {w : World} {G D : Nat → Prop} {q P c i : Nat} {p : Pg} {ps : List Pg} (h : Tb0 w G D q P c ps) (hp : ps[i]? = some p) : ∃ o cap, w.heap[q]? = some (.cells #[.slice (some ⟨P, o, none⟩) ps.length cap, .int .i64 (c : Int)] 147 (0, 0)) ∧ OwnC w P o cap 1 ps.length (pagesV ps) ∧ P ≠ q := by
  obtain ⟨v, h1, h2⟩ := h.box
  have hlt := (List.getElem?_eq_some_iff.1 hp).1
  rcases h2 with ⟨_, h0, _⟩ | ⟨hne, o, cap, rfl, ho⟩
  · omega
  · exact ⟨o, cap, h1, ho, hne⟩
theorem Tb0.other {w : World} {G D : Nat → Prop} {q P c i : Nat} {p p' : Pg} {ps : List Pg} (h : Tb0 w G D q P c ps) (hp : ps[i]? = some p) {j : Nat} (hj : ps[j]? = some p') (hij : j ≠ i) : p'.g ≠ p.g := by
  have h1 := h.apart
  rw [List.nodup_iff_pairwise_ne, List.pairwise_iff_getElem] at h1
  have hi1 := (List.getElem?_eq_some_iff.1 hp)
  have hj1 := (List.getElem?_eq_some_iff.1 hj)
  rcases Nat.lt_or_ge j i with hlt | hge
  · have := h1 j i (by simpa using hj1.1) (by simpa using hi1.1) hlt
    simp only [List.getElem_map, hi1.2, hj1.2] at this
    exact this
  · have := h1 i j (by simpa using hi1.1) (by simpa using hj1.1) (by omega)
    simp only [List.getElem_map, hi1.2, hj1.2] at this
    exact fun e => this e.symm
theorem pagesV_set (ps : List Pg) (i : Nat) (p : Pg) : pagesV (ps.set i p) = (pagesV ps).set i p.v := by
  unfold pagesV
  rw [List.map_set]
/-- one cell of a row is turned -/
theorem OwnC.set1 {w : World} {g o cap n i : Nat} {vs : List Value} (h : OwnC w g o cap 1 n vs) (hi : i < n) (v : Value) : OwnC (w.setCell ⟨g, o + i, none⟩ v) g o cap 1 n (vs.set i v) := by
  have hlen := h.len
  have e : vs = vs.take i ++ ([vs[i]'(by omega)] ++ vs.drop (i + 1)) := by
    rw [List.singleton_append, ← List.drop_eq_getElem_cons (by omega), List.take_append_drop]
  have h2 := h
  rw [e] at h2
  have h3 := OwnC.mid_ (ys := [v]) h2 rfl (by rw [List.length_take]; omega : (vs.take i).length = i)
  have e2 : vs.set i v = vs.take i ++ ([v] ++ vs.drop (i + 1)) := by
    rw [List.set_eq_take_append_cons_drop, if_pos (by omega)]
    rfl
  rw [e2]
  exact h3
/-- a page behind a call that turned it, laid back into the row -/
theorem Tb0.setPage {w w1 : World} {G D : Nat → Prop} {q P c i o cap : Nat} {p : Pg} {ps : List Pg} (h : Tb0 w G D q P c ps) (hp : ps[i]? = some p) (hbox : w.heap[q]? = some (.cells #[.slice (some ⟨P, o, none⟩) ps.length cap, .int .i64 (c : Int)] 147 (0, 0)))
    (hO : Only (fun k => k = p.g ∧ k ≠ q) w w1) {g' : Nat} {v' : Value} {es' : List Ent} (hv : HeldC w1 q g' 2 v' es'.length (entV es')) (hg : g' = p.g ∨ w.heap.size ≤ g') (hD : ∀ e ∈ es', EntOk w D e) :
    Tb0 (w1.setCell ⟨P, o + i, none⟩ v') (fun j => G j ∨ j = g') D q P c (ps.set i ⟨g', v', es'⟩) ∧ Only (fun k => (k = p.g ∧ k ≠ q) ∨ k = P) w (w1.setCell ⟨P, o + i, none⟩ v') := by
  have hlt := (List.getElem?_eq_some_iff.1 hp).1
  obtain ⟨o', cap', h1, h2, hPq⟩ := h.cap hp
  rw [hbox] at h1
  have e1 : o = o' ∧ cap = cap' := by simp at h1; exact h1
  obtain ⟨rfl, rfl⟩ := e1
  obtain ⟨hpv, hpP, hpG⟩ := h.page p (List.mem_of_getElem? hp)
  have hPl := h.glt P h.gP
  have hgP : g' ≠ P := by
    rcases hg with rfl | hg
    · exact hpP
    · omega
  have hS := Only.set w1 P (o + i) v'
  have hO2 : Only (fun k => (k = p.g ∧ k ≠ q) ∨ k = P) w (w1.setCell ⟨P, o + i, none⟩ v') := (hO.more (fun j _ e => .inl e)).trans (hS.more (fun j _ e => .inr e)) (fun _ _ e => e)
  have hq : ¬ ((q = p.g ∧ q ≠ q) ∨ q = P) := by
    rintro (⟨_, e⟩ | e)
    · exact e rfl
    · exact hPq e.symm
  have hDk : ∀ j, D j → ¬ ((j = p.g ∧ j ≠ q) ∨ j = P) := by
    rintro j hj (⟨e, _⟩ | e)
    · subst e; exact h.dis _ hpG hj
    · subst e; exact h.dis _ h.gP hj
  have hgl : g' < w1.heap.size := hv.lt_ (Nat.lt_of_lt_of_le h.lt hO.size)
  refine ⟨⟨⟨.slice (some ⟨P, o, none⟩) ps.length cap, ?_, ?_⟩, fun x hx => ?_, ?_, fun x hx e he => ?_, .inl h.gq, .inl h.gP, fun j hj hd => ?_, fun j hj => ?_, fun j hj => Nat.lt_of_lt_of_le (h.dlt j hj) hO2.size⟩, hO2⟩
  · exact (hO2.block q h.lt hq).trans hbox
  · rw [List.length_set, pagesV_set]
    exact .inr ⟨hPq, o, cap, rfl, (h2.only hO (fun e => hpP e.1.symm)).set1 hlt v'⟩
  · obtain ⟨j, hj⟩ := List.mem_iff_getElem?.1 hx
    rw [List.getElem?_set] at hj
    split at hj
    · injection hj with hj
      subst hj
      exact ⟨hv.only hS (fun _ => hgP), hgP, .inr rfl⟩
    · rename_i hne
      obtain ⟨h3, h4, h5⟩ := h.page x (List.mem_of_getElem? hj)
      have h6 := h.other hp hj (fun e => hne e.symm)
      exact ⟨h3.only hO2 (fun _ => by rintro (⟨e, _⟩ | e); exact h6 e; exact h4 e), h4, .inl h5⟩
  · rw [List.map_set]
    refine nodup_set h.apart ?_
    rcases hg with hg | hg
    · left
      rw [List.getElem?_map, hp, hg]; rfl
    · right
      intro hm
      obtain ⟨x, hx, e⟩ := List.mem_map.1 hm
      have h7 : x.g < w.heap.size := h.glt _ (h.page x hx).2.2
      have h8 : x.g = g' := e
      omega
  · rcases List.mem_or_eq_of_mem_set hx with hx | rfl
    · exact (h.ents x hx e he).only hO2 hDk
    · exact (hD e he).only hO2 hDk
  · rcases hj with hj | rfl
    · exact h.dis j hj hd
    · rcases hg with rfl | hg
      · exact h.dis _ hpG hd
      · have := h.dlt _ hd; omega
  · rcases hj with hj | rfl
    · exact Nat.lt_of_lt_of_le (h.glt j hj) hO2.size
    · exact Nat.lt_of_lt_of_le hgl hS.size
/-- the pages' row behind a call that turned it, laid back into the box -/
theorem Tb0.setRow {w w1 : World} {G D : Nat → Prop} {q P P' c n : Nat} {ps ps' : List Pg} {v v' : Value} (h : Tb0 w G D q P c ps) (hbox : w.heap[q]? = some (.cells #[v, .int .i64 (c : Int)] 147 (0, 0))) (hO : Only (fun k => k = P ∧ k ≠ q) w w1) (hv : HeldC w1 q P' 1 v' n (pagesV ps')) (hn : n = ps'.length) (hP : P' = P ∨ w.heap.size ≤ P')
    (hps : ∀ p ∈ ps', p ∈ ps ∨ (HeldC w q p.g 2 p.v p.es.length (entV p.es) ∧ (p.g = P → p.g = q) ∧ p.g ≠ P' ∧ ¬ D p.g ∧ ∀ e ∈ p.es, EntOk w D e)) (hnd : (ps'.map Pg.g).Nodup) :
    ∃ G', Tb0 (w1.setCell ⟨q, 0, none⟩ v') G' D q P' c ps' ∧ (∀ j, G' j → G j ∨ j = P' ∨ ∃ p ∈ ps', j = p.g) ∧ Only (fun k => k = P ∨ k = q) w (w1.setCell ⟨q, 0, none⟩ v') := by
  subst hn
  have hS := Only.set w1 q 0 v'
  have hO2 : Only (fun k => k = P ∨ k = q) w (w1.setCell ⟨q, 0, none⟩ v') := (hO.more (fun j _ e => .inl e.1)).trans (hS.more (fun j _ e => .inr e)) (fun _ _ e => e)
  have hDk : ∀ j, D j → ¬ (j = P ∨ j = q) := by
    rintro j hj (e | e)
    · subst e; exact h.dis _ h.gP hj
    · subst e; exact h.dis _ h.gq hj
  have hq1 : w1.heap[q]? = some (.cells #[v, .int .i64 (c : Int)] 147 (0, 0)) := (hO.block q h.lt (fun e => e.2 rfl)).trans hbox
  have hpg : ∀ p ∈ ps', HeldC w q p.g 2 p.v p.es.length (entV p.es) ∧ ((p.g = P → p.g = q) ∧ p.g ≠ P') ∧ ¬ D p.g ∧ (∀ e ∈ p.es, EntOk w D e) ∧ p.g < w.heap.size := fun p hp => by
    rcases hps p hp with hx | ⟨h1, h2, h2', h3, h4⟩
    · obtain ⟨h1, h2, h3⟩ := h.page p hx
      have h5 := h.glt _ h3
      refine ⟨h1, ⟨fun e => absurd e h2, fun e => ?_⟩, h.dis _ h3, h.ents p hx, h5⟩
      rcases hP with rfl | hP
      · exact h2 e
      · omega
    · exact ⟨h1, ⟨h2, h2'⟩, h3, h4, h1.lt_ h.lt⟩
  refine ⟨fun j => G j ∨ j = P' ∨ ∃ p ∈ ps', j = p.g, ⟨⟨v', ?_, ?_⟩, fun p hp => ?_, hnd, fun p hp e he => ((hpg p hp).2.2.2.1 e he).only hO2 hDk, .inl h.gq, .inr (.inl rfl), fun j hj hd => ?_, fun j hj => ?_, fun j hj => Nat.lt_of_lt_of_le (h.dlt j hj) hO2.size⟩, fun j hj => hj, hO2⟩
  · simp [World.setCell, Array.getElem?_modify, hq1]
  · exact hv.only hS (fun hne => hne)
  · obtain ⟨h1, h2, h3, h4, h5⟩ := hpg p hp
    exact ⟨(h1.only hO (fun hne e => hne (h2.1 e.1))).only hS (fun hne => hne), h2.2, .inr (.inr ⟨p, hp, rfl⟩)⟩
  · rcases hj with hj | rfl | ⟨p, hp, rfl⟩
    · exact h.dis j hj hd
    · rcases hP with rfl | hP
      · exact h.dis _ h.gP hd
      · have := h.dlt _ hd; omega
    · exact (hpg p hp).2.2.1 hd
  · rcases hj with hj | rfl | ⟨p, hp, rfl⟩
    · exact Nat.lt_of_lt_of_le (h.glt j hj) hO2.size
    · exact Nat.lt_of_lt_of_le (hv.lt_ (Nat.lt_of_lt_of_le h.lt hO.size)) hS.size
    · exact Nat.lt_of_lt_of_le (hpg p hp).2.2.2.2 hO2.size
/-- another count -/
theorem Tb0.setCount {w : World} {G D : Nat → Prop} {q P c : Nat} {ps : List Pg} (h : Tb0 w G D q P c ps) (c' : Nat) : Tb0 (w.setCell ⟨q, 1, none⟩ (.int .i64 (c' : Int))) G D q P c' ps ∧ Only (· = q) w (w.setCell ⟨q, 1, none⟩ (.int .i64 (c' : Int))) := by
  obtain ⟨v, h1, h2⟩ := h.box
  have hS := Only.set w q 1 (.int .i64 (c' : Int))
  refine ⟨⟨⟨v, by simp [World.setCell, Array.getElem?_modify, h1], h2.only hS (fun hne => hne)⟩, fun p hp => ?_, h.apart, fun p hp e he => (h.ents p hp e he).only hS (fun j hj e => h.dis q h.gq (e ▸ hj)), h.gq, h.gP, h.dis, fun j hj => Nat.lt_of_lt_of_le (h.glt j hj) hS.size, fun j hj => Nat.lt_of_lt_of_le (h.dlt j hj) hS.size⟩, hS⟩
  obtain ⟨h3, h4, h5⟩ := h.page p hp
  exact ⟨h3.only hS (fun hne => hne), h4, h5⟩
/-- bytes that are new -/
theorem Tb0.moreD {w : World} {G D D' : Nat → Prop} {q P c : Nat} {ps : List Pg} (h : Tb0 w G D q P c ps) (hD : ∀ j, D j → D' j) (hG : ∀ j, G j → ¬ D' j) (hl : ∀ j, D' j → j < w.heap.size) : Tb0 w G D' q P c ps :=
  ⟨h.box, h.page, h.apart, fun p hp e he => (h.ents p hp e he).more hD, h.gq, h.gP, hG, h.glt, hl⟩
end

section
def flat (ps : List Pg) : List Ent := ps.flatMap Pg.es
theorem flat_cons (p : Pg) (ps : List Pg) : flat (p :: ps) = p.es ++ flat ps := rfl
theorem flat_app (a b : List Pg) : flat (a ++ b) = flat a ++ flat b := by simp [flat]
def Rise (L : List Ent) : Prop := L.Pairwise fun a b => cmpB a.k b.k < 0
theorem cmpB_neg (a b : List UInt8) : cmpB a b = - cmpB b a := line_cmpB.neg a b
theorem cmpB_tr {a b d : List UInt8} (h1 : cmpB a b < 0) (h2 : cmpB b d < 0) : cmpB a d < 0 := line_cmpB.lt_le h1 (Int.le_of_lt h2)
theorem cmpB_up {a b t : List UInt8} (h1 : cmpB a b < 0) (h2 : 0 ≤ cmpB a t) : 0 < cmpB b t := by
  have e1 := cmpB_neg b t
  have e2 := cmpB_neg a t
  have := line_cmpB.le_lt (a := t) (b := a) (d := b) (by omega) h1
  omega
theorem split_ex : ∀ (L : List Ent), Rise L → ∀ t, ∃ m, SplitB L t m
  | [], _, t => ⟨0, Nat.le_refl _, fun j e h => by simp at h, fun j e h => by simp at h⟩
  | x :: L, h, t => by
    have h' := List.pairwise_cons.1 h
    by_cases hx : cmpB x.k t < 0
    · obtain ⟨m, hm⟩ := split_ex L h'.2 t
      refine ⟨m + 1, by have := hm.le; simp; omega, fun j e hj hlt => ?_, fun j e hj hle => ?_⟩
      · cases j with
        | zero => simp at hj; subst hj; exact hx
        | succ j => simp at hj; exact hm.lo j e hj (by omega)
      · cases j with
        | zero => omega
        | succ j => simp at hj; exact hm.hi j e hj (by omega)
    · refine ⟨0, Nat.zero_le _, fun j e _ hlt => by omega, fun j e hj _ => ?_⟩
      cases j with
      | zero => simp at hj; subst hj; omega
      | succ j =>
        simp at hj
        have := cmpB_up (h'.1 e (List.mem_of_getElem? hj)) (by omega : 0 ≤ cmpB x.k t)
        omega
theorem split_app {A B : List Ent} {t : List UInt8} {m : Nat} (hA : ∀ e ∈ A, cmpB e.k t < 0) (h : SplitB B t m) : SplitB (A ++ B) t (A.length + m) := by
  refine ⟨by have := h.le; rw [List.length_append]; omega, fun j e hj hlt => ?_, fun j e hj hle => ?_⟩
  · rcases Nat.lt_or_ge j A.length with h1 | h1
    · rw [List.getElem?_append_left h1] at hj
      exact hA e (List.mem_of_getElem? hj)
    · rw [List.getElem?_append_right h1] at hj
      exact h.lo _ e hj (by omega)
  · rw [List.getElem?_append_right (by omega)] at hj
    exact h.hi _ e hj (by omega)
theorem split_pre {A B : List Ent} {t : List UInt8} {m : Nat} (hr : Rise (A ++ B)) (h : SplitB A t m) (hm : m < A.length) : SplitB (A ++ B) t m := by
  refine ⟨by rw [List.length_append]; omega, fun j e hj hlt => ?_, fun j e hj hle => ?_⟩
  · rw [List.getElem?_append_left (by omega)] at hj
    exact h.lo j e hj hlt
  · rcases Nat.lt_or_ge j A.length with h1 | h1
    · rw [List.getElem?_append_left h1] at hj
      exact h.hi j e hj hle
    · rw [List.getElem?_append_right h1] at hj
      have h2 := h.hi m _ (List.getElem?_eq_getElem hm) (Nat.le_refl _)
      have h3 := (List.pairwise_append.1 hr).2.2 _ (List.getElem_mem hm) e (List.mem_of_getElem? hj)
      have := cmpB_up h3 h2
      omega
theorem has_app (A B : List Ent) (m : Nat) (t : List UInt8) : hasAt (A ++ B) (A.length + m) t = hasAt B m t := by
  unfold hasAt
  rw [List.getElem?_append_right (by omega), Nat.add_sub_cancel_left]
theorem has_pre (A B : List Ent) {m : Nat} (t : List UInt8) (hm : m < A.length) : hasAt (A ++ B) m t = hasAt A m t := by
  unfold hasAt
  rw [List.getElem?_append_left hm]
theorem lastK_mem {es : List Ent} (h : es ≠ []) : ∃ e ∈ es, lastK es = e.k ∧ es[es.length - 1]? = some e := by
  have hp := List.length_pos_iff.2 h
  refine ⟨es[es.length - 1]'(by omega), List.getElem_mem _, ?_, List.getElem?_eq_getElem (by omega)⟩
  unfold lastK
  rw [List.getLast?_eq_getElem?, List.getElem?_eq_getElem (by omega)]
theorem lastK_top {es : List Ent} (hr : Rise es) {e x : Ent} (he : es[es.length - 1]? = some e) (hx : x ∈ es) : x = e ∨ cmpB x.k e.k < 0 := by
  obtain ⟨j, hj⟩ := List.mem_iff_getElem?.1 hx
  obtain ⟨h1, h2⟩ := List.getElem?_eq_some_iff.1 hj
  obtain ⟨h3, h4⟩ := List.getElem?_eq_some_iff.1 he
  rcases Nat.lt_or_ge j (es.length - 1) with hlt | hge
  · right
    have := (List.pairwise_iff_getElem.1 hr) j (es.length - 1) h1 h3 hlt
    rw [h2, h4] at this
    exact this
  · left
    have : j = es.length - 1 := by omega
    subst this
    rw [← h2, ← h4]
theorem find_ex : ∀ (ps : List Pg), (∀ p ∈ ps, p.es ≠ []) → Rise (flat ps) → ∀ t, ∃ i j f, FindAt ps t i j f ∧ SplitB (flat ps) t ((flat (ps.take i)).length + j) ∧ f = hasAt (flat ps) ((flat (ps.take i)).length + j) t
  | [], _, _, t => ⟨0, 0, false, ⟨⟨Nat.le_refl _, fun j p h => by simp at h, fun j p h => by simp at h⟩, fun p h => by simp at h, fun _ => ⟨rfl, rfl⟩⟩, ⟨Nat.le_refl _, fun j e h => by simp [flat] at h, fun j e h => by simp [flat] at h⟩, rfl⟩
  | p :: ps, hne, hr, t => by
    have hpne := hne p (List.mem_cons_self ..)
    rw [flat_cons] at hr
    obtain ⟨hr1, hr2, hr3⟩ := List.pairwise_append.1 hr
    obtain ⟨e, he, hl, hle⟩ := lastK_mem hpne
    by_cases hlt : cmpB (lastK p.es) t < 0
    · obtain ⟨i, j, f, hF, hS, hf⟩ := find_ex ps (fun x hx => hne x (List.mem_cons_of_mem _ hx)) hr2 t
      have hall : ∀ x ∈ p.es, cmpB x.k t < 0 := fun x hx => by
        rw [hl] at hlt
        rcases lastK_top hr1 hle hx with rfl | h1
        · exact hlt
        · exact cmpB_tr h1 hlt
      have hlen : (flat ((p :: ps).take (i + 1))).length + j = p.es.length + ((flat (ps.take i)).length + j) := by
        rw [List.take_succ_cons, flat_cons, List.length_append]; omega
      refine ⟨i + 1, j, f, ⟨⟨by have := hF.page.le; simp; omega, fun k x hk hki => ?_, fun k x hk hki => ?_⟩, fun x hx => hF.here x (by simpa using hx), fun e => hF.past (by simpa using e)⟩, ?_, ?_⟩
      · cases k with
        | zero => simp at hk; subst hk; exact hlt
        | succ k => simp at hk; exact hF.page.lo k x hk (by omega)
      · cases k with
        | zero => omega
        | succ k => simp at hk; exact hF.page.hi k x hk (by omega)
      · rw [hlen, flat_cons]
        exact split_app hall hS
      · rw [hlen, flat_cons, has_app]
        exact hf
    · obtain ⟨m, hm⟩ := split_ex p.es hr1 t
      have hml : m < p.es.length := by
        rcases Nat.lt_or_ge m p.es.length with h1 | h1
        · exact h1
        · obtain ⟨h3, h4⟩ := List.getElem?_eq_some_iff.1 hle
          have := hm.lo _ e hle (by omega)
          rw [hl] at hlt
          omega
      refine ⟨0, m, hasAt p.es m t, ⟨⟨Nat.zero_le _, fun k x _ hki => by omega, fun k x hk _ => ?_⟩, fun x hx => ?_, fun e => by simp at e⟩, ?_, ?_⟩
      · cases k with
        | zero => simp at hk; subst hk; omega
        | succ k =>
          simp at hk
          have hxm := List.mem_of_getElem? hk
          obtain ⟨y, hy, hyl, _⟩ := lastK_mem (hne x (List.mem_cons_of_mem _ hxm))
          have h5 := hr3 e he y (by unfold flat; exact List.mem_flatMap.2 ⟨x, hxm, hy⟩)
          rw [hl] at hlt
          rw [hyl]
          have := cmpB_up h5 (by omega : 0 ≤ cmpB e.k t)
          omega
      · simp at hx
        subst hx
        exact ⟨hm, rfl⟩
      · rw [flat_cons]
        simpa [flat] using split_pre hr hm hml
      · rw [flat_cons]
        simpa [flat] using (has_pre p.es (flat ps) t hml).symm
theorem flat_at {ps : List Pg} {i : Nat} {p : Pg} (h : ps[i]? = some p) : flat ps = flat (ps.take i) ++ (p.es ++ flat (ps.drop (i + 1))) := by
  have hl := (List.getElem?_eq_some_iff.1 h)
  have e : ps = ps.take i ++ (p :: ps.drop (i + 1)) := by
    rw [← hl.2, ← List.drop_eq_getElem_cons hl.1, List.take_append_drop]
  have h2 : flat (ps.take i ++ (p :: ps.drop (i + 1))) = flat (ps.take i) ++ (p.es ++ flat (ps.drop (i + 1))) := by rw [flat_app, flat_cons]
  rw [← e] at h2
  exact h2
theorem flat_set {ps : List Pg} {i : Nat} {p : Pg} (h : i < ps.length) : flat (ps.set i p) = flat (ps.take i) ++ (p.es ++ flat (ps.drop (i + 1))) := by
  rw [List.set_eq_take_append_cons_drop, if_pos h, flat_app, flat_cons]
/-- an entry laid in at a place -/
def laidIn (L : List Ent) (m : Nat) (x : Ent) : List Ent := L.take m ++ (x :: L.drop m)
theorem flat_ins {ps : List Pg} {i j : Nat} {p p' : Pg} {x : Ent} (h : ps[i]? = some p) (hj : j ≤ p.es.length) (hp : p'.es = p.es.take j ++ (x :: p.es.drop j)) : flat (ps.set i p') = laidIn (flat ps) ((flat (ps.take i)).length + j) x := by
  rw [flat_set (List.getElem?_eq_some_iff.1 h).1, flat_at h, hp]
  unfold laidIn
  rw [List.take_length_add_append, List.drop_length_add_append, List.take_append_of_le_length hj, List.drop_append_of_le_length hj]
  simp
theorem flat_ins_end {ps : List Pg} {i : Nat} {p p' : Pg} {x : Ent} (h : ps[i]? = some p) (hi : i + 1 = ps.length) (hp : p'.es = p.es ++ [x]) : flat (ps.set i p') = laidIn (flat ps) ((flat ps).length) x := by
  have e := flat_ins (j := p.es.length) (p' := p') (x := x) h (Nat.le_refl _) (by rw [hp]; simp)
  rw [e]
  have e2 := flat_at h
  rw [List.drop_eq_nil_of_le (by omega)] at e2
  congr 1
  rw [e2]
  simp [flat]
/-- a page parted in two -/
theorem flat_part {ps : List Pg} {i k : Nat} {p a b : Pg} (h : ps[i]? = some p) (ha : a.es = p.es.take k) (hb : b.es = p.es.drop k) : flat ((ps.take (i + 1) ++ (b :: ps.drop (i + 1))).set i a) = flat ps := by
  have hl := (List.getElem?_eq_some_iff.1 h).1
  have e : (ps.take (i + 1) ++ (b :: ps.drop (i + 1))).set i a = ps.take i ++ (a :: b :: ps.drop (i + 1)) := by
    rw [List.take_add_one, h, Option.toList_some, List.append_assoc, List.set_append_right _ _ (by rw [List.length_take]; omega), List.length_take, show i - min i ps.length = 0 by omega]
    rfl
  rw [e, flat_app, flat_cons, flat_cons, flat_at h, ha, hb, ← List.append_assoc (p.es.take k), List.take_append_drop]
end
end Go.Proofs.YtkohppalfcalbaaGreat

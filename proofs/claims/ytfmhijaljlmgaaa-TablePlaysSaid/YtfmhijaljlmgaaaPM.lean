/- Package table: a table as a list that rises; Len, Get; words for Put. -/
import Derived.Test.YtfmhijaljlmgaaaPK
namespace Go.Proofs.Ytfmhijaljlmgaaa
open Go.RowKit

def kv (L : List Ent) : List (List UInt8 × List UInt8) := L.map fun e => (e.k, e.r)
def putK : List (List UInt8 × List UInt8) → List UInt8 → List UInt8 → List (List UInt8 × List UInt8)
  | [], k, r => [(k, r)]
  | x :: l, k, r => if cmpB x.1 k < 0 then x :: putK l k r else if cmpB x.1 k = 0 then (x.1, r) :: l else (k, r) :: x :: l
theorem kv_ins {L : List Ent} {X : Ent} : ∀ {m : Nat}, SplitB L X.k m → hasAt L m X.k = false → kv (laidIn L m X) = putK (kv L) X.k X.r := by
  induction L with
  | nil =>
    intro m h _
    have : m = 0 := by have := h.le; simpa using this
    subst this
    rfl
  | cons x L ih =>
    intro m h hh
    cases m with
    | zero =>
      have h0 := h.hi 0 x rfl (Nat.le_refl _)
      have h1 : ¬ cmpB x.k X.k = 0 := by simpa [hasAt] using hh
      simp only [laidIn, kv, List.take_zero, List.drop_zero, List.nil_append, List.map_cons, putK]
      rw [if_neg (by omega), if_neg h1]
    | succ m =>
      have h0 := h.lo 0 x rfl (by omega)
      have h2 : SplitB L X.k m := ⟨by have := h.le; simp at this; omega, fun j e hj hlt => h.lo (j + 1) e (by simpa using hj) (by omega), fun j e hj hle => h.hi (j + 1) e (by simpa using hj) (by omega)⟩
      have h3 := ih h2 (by unfold hasAt at hh ⊢; simpa using hh)
      simp only [laidIn, kv, List.take_succ_cons, List.drop_succ_cons, List.cons_append, List.map_cons, putK]
      rw [if_pos h0]
      simp only [laidIn, kv] at h3
      rw [h3]
theorem kv_set {L : List Ent} {X : Ent} {k : List UInt8} : ∀ {m : Nat} {e : Ent}, SplitB L k m → L[m]? = some e → cmpB e.k k = 0 → X.k = e.k → kv (L.set m X) = putK (kv L) k X.r := by
  induction L with
  | nil => intro m e _ h; simp at h
  | cons x L ih =>
    intro m e h he h0 hX
    cases m with
    | zero =>
      simp at he
      subst he
      simp only [kv, List.set_cons_zero, List.map_cons, putK]
      rw [if_neg (by omega), if_pos h0, hX]
    | succ m =>
      have h1 := h.lo 0 x rfl (by omega)
      have h2 : SplitB L k m := ⟨by have := h.le; simp at this; omega, fun j e hj hlt => h.lo (j + 1) e (by simpa using hj) (by omega), fun j e hj hle => h.hi (j + 1) e (by simpa using hj) (by omega)⟩
      have h3 := ih h2 (by simpa using he) h0 hX
      simp only [kv, List.set_cons_succ, List.map_cons, putK]
      rw [if_pos h1]
      simp only [kv] at h3
      rw [h3]
theorem rise_kv {L M : List Ent} (h : kv L = kv M) (hr : Rise L) : Rise M := by
  unfold Rise at hr ⊢
  have e : ∀ N : List Ent, (N.Pairwise fun a b => cmpB a.k b.k < 0) ↔ (kv N).Pairwise fun a b => cmpB a.1 b.1 < 0 := fun N => by unfold kv; rw [List.pairwise_map]
  rw [e] at hr ⊢
  rw [← h]; exact hr
theorem rise_put : ∀ {l : List (List UInt8 × List UInt8)} {k r : List UInt8}, (l.Pairwise fun a b => cmpB a.1 b.1 < 0) → ((putK l k r).Pairwise fun a b => cmpB a.1 b.1 < 0) ∧ ∀ y ∈ putK l k r, y.1 = k ∨ ∃ x ∈ l, x.1 = y.1
  | [], k, r, _ => ⟨by simp [putK], fun y hy => by simp [putK] at hy; subst hy; exact .inl rfl⟩
  | x :: l, k, r, h => by
    obtain ⟨h1, h2⟩ := List.pairwise_cons.1 h
    simp only [putK]
    split
    · rename_i hlt
      obtain ⟨h3, h4⟩ := rise_put (k := k) (r := r) h2
      refine ⟨List.pairwise_cons.2 ⟨fun y hy => ?_, h3⟩, fun y hy => ?_⟩
      · rcases h4 y hy with e | ⟨z, hz, e⟩
        · rw [e]; exact hlt
        · rw [← e]; exact h1 z hz
      · rw [List.mem_cons] at hy
        rcases hy with rfl | hy
        · exact .inr ⟨_, List.mem_cons_self .., rfl⟩
        · rcases h4 y hy with e | ⟨z, hz, e⟩
          · exact .inl e
          · exact .inr ⟨z, List.mem_cons_of_mem _ hz, e⟩
    · split
      · rename_i hn h0
        refine ⟨List.pairwise_cons.2 ⟨fun y hy => h1 y hy, h2⟩, fun y hy => ?_⟩
        rw [List.mem_cons] at hy
        rcases hy with rfl | hy
        · exact .inr ⟨x, List.mem_cons_self .., rfl⟩
        · exact .inr ⟨y, List.mem_cons_of_mem _ hy, rfl⟩
      · rename_i hn h0
        have hgt : cmpB k x.1 < 0 := by have := cmpB_neg k x.1; omega
        refine ⟨List.pairwise_cons.2 ⟨fun y hy => ?_, h⟩, fun y hy => ?_⟩
        · rw [List.mem_cons] at hy
          rcases hy with rfl | hy
          · exact hgt
          · exact cmpB_tr hgt (h1 y hy)
        · rw [List.mem_cons] at hy
          rcases hy with rfl | hy
          · exact .inl rfl
          · exact .inr ⟨y, hy, rfl⟩
/-- a table: its footprint (what it writes: G; where its bytes lie: D), its box q, its entries -/
structure Tbl (w : World) (G D : Nat → Prop) (q : Nat) (P : Nat) (ps : List Pg) : Prop where
  t : Tb0 w G D q P (flat ps).length ps
  pg : ∀ p ∈ ps, p.es ≠ [] ∧ p.es.length ≤ 128
  rise : Rise (flat ps)
  few : (flat ps).length ≤ 900
theorem flat_le : ∀ (ps : List Pg), (∀ p ∈ ps, p.es ≠ []) → ps.length ≤ (flat ps).length
  | [], _ => Nat.zero_le _
  | p :: ps, h => by
    have h1 := flat_le ps (fun x hx => h x (List.mem_cons_of_mem _ hx))
    have h2 := List.length_pos_iff.2 (h p (List.mem_cons_self ..))
    rw [flat_cons, List.length_append, List.length_cons]
    omega
theorem Tbl.len {w : World} {G D : Nat → Prop} {q P : Nat} {ps : List Pg} (h : Tbl w G D q P ps) : ps.length ≤ 1000 := by
  have := flat_le ps (fun p hp => (h.pg p hp).1)
  have := h.few
  omega
theorem Tbl.only {K : Nat → Prop} {w w' : World} {G D : Nat → Prop} {q P : Nat} {ps : List Pg} (h : Tbl w G D q P ps) (hO : Only K w w') (hG : ∀ j, G j → ¬ K j) (hD : ∀ j, D j → ¬ K j) : Tbl w' G D q P ps := ⟨h.t.only hO hG hD, h.pg, h.rise, h.few⟩
theorem Tbl.below {w w' : World} {G D : Nat → Prop} {q P : Nat} {ps : List Pg} (h : Tbl w G D q P ps) (hb : Below w.heap.size w w') : Tbl w' G D q P ps := ⟨h.t.below hb, h.pg, h.rise, h.few⟩
theorem Tbl.heap {w w' : World} {G D : Nat → Prop} {q P : Nat} {ps : List Pg} (h : Tbl w G D q P ps) (e : w'.heap = w.heap) : Tbl w' G D q P ps := ⟨h.t.heap e, h.pg, h.rise, h.few⟩
/-- where find stands, and what it answers -/
theorem Tbl.find {w : World} {G D : Nat → Prop} {q P : Nat} {ps : List Pg} (h : Tbl w G D q P ps) (t : List UInt8) : ∃ i j f, FindAt ps t i j f ∧ SplitB (flat ps) t ((flat (ps.take i)).length + j) ∧ f = hasAt (flat ps) ((flat (ps.take i)).length + j) t ∧
    ∀ (T : Option Addr) (n d : Nat), t.length = n → ∀ w2, Below w.heap.size w w2 → RdB w2 w2.heap.size T t → Calls Try.prog 19 #[.pointer (some ⟨q, 0, none⟩), .slice T n d] w2 (Ans (.tuple #[.int .i64 (i : Int), .int .i64 (j : Int), .bool f]) w2) := by
  obtain ⟨i, j, f, h1, h2, h3⟩ := find_ex ps (fun p hp => (h.pg p hp).1) h.rise t
  refine ⟨i, j, f, h1, h2, h3, fun T n d hn w2 hb ht => ?_⟩
  obtain ⟨A, cap, h4, h5⟩ := (h.below hb).t.rds (fun p hp => ⟨(h.pg p hp).1, by have := (h.pg p hp).2; omega⟩)
  exact find_any h4 h5 (by have := h.len; omega) t T n d hn ht h1
/-- one cell of an entry is turned: another row -/
theorem Tb0.setEnt {w : World} {G D : Nat → Prop} {q P c i j o pc : Nat} {p : Pg} {ps : List Pg} {e X : Ent} (h : Tb0 w G D q P c ps) (hp : ps[i]? = some p) (he : p.es[j]? = some e) (hv : p.v = .slice (some ⟨p.g, o, none⟩) p.es.length pc) (hX : EntOk w D X) (hk : X.kA = e.kA ∧ X.k = e.k ∧ X.kc = e.kc) :
    Tb0 (w.setCell ⟨p.g, o + j * 2 + 1, none⟩ (.slice X.rA X.r.length X.rc)) G D q P c (ps.set i ⟨p.g, p.v, p.es.set j X⟩) ∧ Only (fun k => k = p.g) w (w.setCell ⟨p.g, o + j * 2 + 1, none⟩ (.slice X.rA X.r.length X.rc)) ∧ p.g ≠ q := by
  obtain ⟨h1, h2, h3⟩ := h.page p (List.mem_of_getElem? hp)
  have hjl := (List.getElem?_eq_some_iff.1 he).1
  have hlt := (List.getElem?_eq_some_iff.1 hp).1
  obtain ⟨hgq, ho⟩ : p.g ≠ q ∧ OwnC w p.g o pc 2 p.es.length (entV p.es) := by
    rcases h1 with ⟨_, h0, _⟩ | ⟨hne, o', cap', e1, ho⟩
    · omega
    · rw [hv] at e1
      injection e1 with e1 e2 e3
      injection e1 with e1
      injection e1 with e1 e4
      subst e4 e3
      exact ⟨hne, ho⟩
  have hsp : entV p.es = (entV (p.es.take j) ++ [.slice e.kA e.k.length e.kc]) ++ ([.slice e.rA e.r.length e.rc] ++ entV (p.es.drop (j + 1))) := by
    have e1 : p.es = p.es.take j ++ (e :: p.es.drop (j + 1)) := by
      rw [← (List.getElem?_eq_some_iff.1 he).2, ← List.drop_eq_getElem_cons hjl, List.take_append_drop]
    have e2 : entV (p.es.take j ++ (e :: p.es.drop (j + 1))) = (entV (p.es.take j) ++ [.slice e.kA e.k.length e.kc]) ++ ([.slice e.rA e.r.length e.rc] ++ entV (p.es.drop (j + 1))) := by
      rw [entV_app]
      simp [entV, Ent.cells]
    rw [← e1] at e2
    exact e2
  have hst : entV (p.es.set j X) = (entV (p.es.take j) ++ [.slice e.kA e.k.length e.kc]) ++ ([.slice X.rA X.r.length X.rc] ++ entV (p.es.drop (j + 1))) := by
    rw [List.set_eq_take_append_cons_drop, if_pos hjl, entV_app]
    obtain ⟨k1, k2, k3⟩ := hk
    simp [entV, Ent.cells, k1, k2, k3]
  have ho2 := ho
  rw [hsp] at ho2
  have ho3 := OwnC.mid_ (ys := [.slice X.rA X.r.length X.rc]) (k := j * 2 + 1) ho2 rfl (by rw [List.length_append, entV_len, List.length_take]; simp; omega)
  rw [← hst] at ho3
  have hS : Only (fun k => k = p.g) w (w.setCell ⟨p.g, o + j * 2 + 1, none⟩ (.slice X.rA X.r.length X.rc)) := Only.set w p.g _ _
  have hw : w.setCells p.g (o + (j * 2 + 1)) [.slice X.rA X.r.length X.rc] = w.setCell ⟨p.g, o + j * 2 + 1, none⟩ (.slice X.rA X.r.length X.rc) := by rw [← Nat.add_assoc]; rfl
  rw [hw] at ho3
  have hDk : ∀ k, D k → ¬ k = p.g := fun k hk e => h.dis _ h3 (e ▸ hk)
  obtain ⟨v, hb1, hb2⟩ := h.box
  have hvs : (pagesV (ps.set i ⟨p.g, p.v, p.es.set j X⟩)) = pagesV ps := by
    rw [pagesV_set]
    apply List.ext_getElem?
    intro k
    rw [List.getElem?_set]
    split
    · rename_i e; subst e
      have hk2 : (pagesV ps)[i]? = some p.v := by unfold pagesV; rw [List.getElem?_map, hp]; rfl
      rw [if_pos (List.getElem?_eq_some_iff.1 hk2).1, hk2]
    · rfl
  refine ⟨⟨⟨v, (hS.block q h.lt (fun e => hgq e.symm)).trans hb1, ?_⟩, fun x hx => ?_, ?_, fun x hx y hy => ?_, h.gq, h.gP, h.dis, fun j hj => Nat.lt_of_lt_of_le (h.glt j hj) hS.size, fun j hj => Nat.lt_of_lt_of_le (h.dlt j hj) hS.size⟩, hS, hgq⟩
  · rw [List.length_set, hvs]
    exact hb2.only hS (fun _ e => h2 e.symm)
  · obtain ⟨k, hk⟩ := List.mem_iff_getElem?.1 hx
    rw [List.getElem?_set] at hk
    split at hk
    · injection hk with hk
      subst hk
      refine ⟨.inr ⟨hgq, o, pc, ?_, ?_⟩, h2, h3⟩
      · show p.v = _
        rw [List.length_set]; exact hv
      · rw [List.length_set]; exact ho3
    · rename_i hne
      obtain ⟨h5, h6, h7⟩ := h.page x (List.mem_of_getElem? hk)
      exact ⟨h5.only hS (fun _ => h.other hp hk (fun e => hne e.symm)), h6, h7⟩
  · rw [List.map_set]
    exact nodup_set h.apart (.inl (by rw [List.getElem?_map, hp]; rfl))
  · rcases List.mem_or_eq_of_mem_set hx with hx | rfl
    · exact (h.ents x hx y hy).only hS hDk
    · rcases List.mem_or_eq_of_mem_set hy with hy | rfl
      · exact (h.ents p (List.mem_of_getElem? hp) y hy).only hS hDk
      · exact hX.only hS hDk
theorem flat_setEnt {ps : List Pg} {i j : Nat} {p : Pg} {X : Ent} (hp : ps[i]? = some p) (hj : j < p.es.length) : flat (ps.set i ⟨p.g, p.v, p.es.set j X⟩) = (flat ps).set ((flat (ps.take i)).length + j) X := by
  rw [flat_set (List.getElem?_eq_some_iff.1 hp).1, flat_at hp, List.set_append_right _ _ (by omega), Nat.add_sub_cancel_left, List.set_append_left _ _ hj]
end Go.Proofs.Ytfmhijaljlmgaaa

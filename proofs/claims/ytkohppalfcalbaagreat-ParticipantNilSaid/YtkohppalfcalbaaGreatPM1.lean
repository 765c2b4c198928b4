/- Package table: a table as a list that rises; Len, Get; words for Put. -/
import Derived.Test.YtkohppalfcalbaaGreatPK
namespace Go.Proofs.YtkohppalfcalbaaGreat
section
open Go.RowKit

def kv (L : List Ent) : List (List UInt8 × List UInt8) := L.map fun e => (e.k, e.r)
def putK : List (List UInt8 × List UInt8) → List UInt8 → List UInt8 → List (List UInt8 × List UInt8)
  | [], k, r => [(k, r)]
  | x :: l, k, r => if cmpB x.1 k < 0 then x :: putK l k r else if cmpB x.1 k = 0 then (x.1, r) :: l else (k, r) :: x :: l
theorem kv_ins {L : List Ent} {X : Ent} : ∀ {m : Nat}, SplitB L X.k m → hasAt L m X.k = false → kv (laidIn L m X) = putK (kv L) X.k X.r := by
  induction L with
  | nil =>
    intro m h _
    have : m = 0 := by have := h.le; simpa using this
    subst this
    rfl
  | cons x L ih =>
    intro m h hh
    cases m with
    | zero =>
      have h0 := h.hi 0 x rfl (Nat.le_refl _)
      have h1 : ¬ cmpB x.k X.k = 0 := by simpa [hasAt] using hh
      simp only [laidIn, kv, List.take_zero, List.drop_zero, List.nil_append, List.map_cons, putK]
      rw [if_neg (by omega), if_neg h1]
    | succ m =>
      have h0 := h.lo 0 x rfl (by omega)
      have h2 : SplitB L X.k m := ⟨by have := h.le; simp at this; omega, fun j e hj hlt => h.lo (j + 1) e (by simpa using hj) (by omega), fun j e hj hle => h.hi (j + 1) e (by simpa using hj) (by omega)⟩
      have h3 := ih h2 (by unfold hasAt at hh ⊢; simpa using hh)
      simp only [laidIn, kv, List.take_succ_cons, List.drop_succ_cons, List.cons_append, List.map_cons, putK]
      rw [if_pos h0]
      simp only [laidIn, kv] at h3
      rw [h3]
theorem kv_set {L : List Ent} {X : Ent} {k : List UInt8} : ∀ {m : Nat} {e : Ent}, SplitB L k m → L[m]? = some e → cmpB e.k k = 0 → X.k = e.k → kv (L.set m X) = putK (kv L) k X.r := by
  induction L with
  | nil => intro m e _ h; simp at h
  | cons x L ih =>
    intro m e h he h0 hX
    cases m with
    | zero =>
      simp at he
      subst he
      simp only [kv, List.set_cons_zero, List.map_cons, putK]
      rw [if_neg (by omega), if_pos h0, hX]
    | succ m =>
      have h1 := h.lo 0 x rfl (by omega)
      have h2 : SplitB L k m := ⟨by have := h.le; simp at this; omega, fun j e hj hlt => h.lo (j + 1) e (by simpa using hj) (by omega), fun j e hj hle => h.hi (j + 1) e (by simpa using hj) (by omega)⟩
      have h3 := ih h2 (by simpa using he) h0 hX
      simp only [kv, List.set_cons_succ, List.map_cons, putK]
      rw [if_pos h1]
      simp only [kv] at h3
      rw [h3]
theorem rise_put : ∀ {l : List (List UInt8 × List UInt8)} {k r : List UInt8}, (l.Pairwise fun a b => cmpB a.1 b.1 < 0) → ((putK l k r).Pairwise fun a b => cmpB a.1 b.1 < 0) ∧ ∀ y ∈ putK l k r, y.1 = k ∨ ∃ x ∈ l, x.1 = y.1
  | [], k, r, _ => ⟨by simp [putK], fun y hy => by simp [putK] at hy; subst hy; exact .inl rfl⟩
  | x :: l, k, r, h => by
    obtain ⟨h1, h2⟩ := List.pairwise_cons.1 h
    simp only [putK]
    split
    · rename_i hlt
      obtain ⟨h3, h4⟩ := rise_put (k := k) (r := r) h2
      refine ⟨List.pairwise_cons.2 ⟨fun y hy => ?_, h3⟩, fun y hy => ?_⟩
      · rcases h4 y hy with e | ⟨z, hz, e⟩
        · rw [e]; exact hlt
        · rw [← e]; exact h1 z hz
      · rw [List.mem_cons] at hy
        rcases hy with rfl | hy
        · exact .inr ⟨_, List.mem_cons_self .., rfl⟩
        · rcases h4 y hy with e | ⟨z, hz, e⟩
          · exact .inl e
          · exact .inr ⟨z, List.mem_cons_of_mem _ hz, e⟩
    · split
      · rename_i hn h0
        refine ⟨List.pairwise_cons.2 ⟨fun y hy => h1 y hy, h2⟩, fun y hy => ?_⟩
        rw [List.mem_cons] at hy
        rcases hy with rfl | hy
        · exact .inr ⟨x, List.mem_cons_self .., rfl⟩
        · exact .inr ⟨y, List.mem_cons_of_mem _ hy, rfl⟩
      · rename_i hn h0
        have hgt : cmpB k x.1 < 0 := by have := cmpB_neg k x.1; omega
        refine ⟨List.pairwise_cons.2 ⟨fun y hy => ?_, h⟩, fun y hy => ?_⟩
        · rw [List.mem_cons] at hy
          rcases hy with rfl | hy
          · exact hgt
          · exact cmpB_tr hgt (h1 y hy)
        · rw [List.mem_cons] at hy
          rcases hy with rfl | hy
          · exact .inl rfl
          · exact .inr ⟨y, hy, rfl⟩
/-- a table: its footprint (what it writes: G; where its bytes lie: D), its box q, its entries -/
structure Tbl (w : World) (G D : Nat → Prop) (q : Nat) (P : Nat) (ps : List Pg) : Prop where
  t : Tb0 w G D q P (flat ps).length ps
  pg : ∀ p ∈ ps, p.es ≠ [] ∧ p.es.length ≤ 128
  rise : Rise (flat ps)
  few : (flat ps).length ≤ 900
theorem flat_le : ∀ (ps : List Pg), (∀ p ∈ ps, p.es ≠ []) → ps.length ≤ (flat ps).length
  | [], _ => Nat.zero_le _
  | p :: ps, h => by
    have h1 := flat_le ps (fun x hx => h x (List.mem_cons_of_mem _ hx))
    have h2 := List.length_pos_iff.2 (h p (List.mem_cons_self ..))
    rw [flat_cons, List.length_append, List.length_cons]
    omega
theorem Tbl.len {w : World} {G D : Nat → Prop} {q P : Nat} {ps : List Pg} (h : Tbl w G D q P ps) : ps.length ≤ 1000 := by
  have := flat_le ps (fun p hp => (h.pg p hp).1)
  have := h.few
  omega
theorem Tbl.only {K : Nat → Prop} {w w' : World} {G D : Nat → Prop} {q P : Nat} {ps : List Pg} (h : Tbl w G D q P ps) (hO : Only K w w') (hG : ∀ j, G j → ¬ K j) (hD : ∀ j, D j → ¬ K j) : Tbl w' G D q P ps := ⟨h.t.only hO hG hD, h.pg, h.rise, h.few⟩
theorem Tbl.below {w w' : World} {G D : Nat → Prop} {q P : Nat} {ps : List Pg} (h : Tbl w G D q P ps) (hb : Below w.heap.size w w') : Tbl w' G D q P ps := ⟨h.t.below hb, h.pg, h.rise, h.few⟩
theorem Tbl.heap {w w' : World} {G D : Nat → Prop} {q P : Nat} {ps : List Pg} (h : Tbl w G D q P ps) (e : w'.heap = w.heap) : Tbl w' G D q P ps := ⟨h.t.heap e, h.pg, h.rise, h.few⟩
/-- where find stands, and what it answers -/
theorem Tbl.find {w : World} {G D : Nat → Prop} {q P : Nat} {ps : List Pg} (h : Tbl w G D q P ps) (t : List UInt8) : ∃ i j f, FindAt ps t i j f ∧ SplitB (flat ps) t ((flat (ps.take i)).length + j) ∧ f = hasAt (flat ps) ((flat (ps.take i)).length + j) t ∧
    ∀ (T : Option Addr) (n d : Nat), t.length = n → ∀ w2, Below w.heap.size w w2 → RdB w2 w2.heap.size T t → Calls Tryz.prog 89 #[.pointer (some ⟨q, 0, none⟩), .slice T n d] w2 (Ans (.tuple #[.int .i64 (i : Int), .int .i64 (j : Int), .bool f]) w2) := by
  obtain ⟨i, j, f, h1, h2, h3⟩ := find_ex ps (fun p hp => (h.pg p hp).1) h.rise t
  refine ⟨i, j, f, h1, h2, h3, fun T n d hn w2 hb ht => ?_⟩
  obtain ⟨A, cap, h4, h5⟩ := (h.below hb).t.rds (fun p hp => ⟨(h.pg p hp).1, by have := (h.pg p hp).2; omega⟩)
  exact findT_any h4 h5 (by have := h.len; omega) t T n d hn ht h1
/-- one cell of an entry is turned: another row -/
theorem Tb0.setEnt {w : World} {G D : Nat → Prop} {q P c i j o pc : Nat} {p : Pg} {ps : List Pg} {e X : Ent} (h : Tb0 w G D q P c ps) (hp : ps[i]? = some p) (he : p.es[j]? = some e) (hv : p.v = .slice (some ⟨p.g, o, none⟩) p.es.length pc) (hX : EntOk w D X) (hk : X.kA = e.kA ∧ X.k = e.k ∧ X.kc = e.kc) :
    Tb0 (w.setCell ⟨p.g, o + j * 2 + 1, none⟩ (.slice X.rA X.r.length X.rc)) G D q P c (ps.set i ⟨p.g, p.v, p.es.set j X⟩) ∧ Only (fun k => k = p.g) w (w.setCell ⟨p.g, o + j * 2 + 1, none⟩ (.slice X.rA X.r.length X.rc)) ∧ p.g ≠ q := by
  obtain ⟨h1, h2, h3⟩ := h.page p (List.mem_of_getElem? hp)
  have hjl := (List.getElem?_eq_some_iff.1 he).1
  have hlt := (List.getElem?_eq_some_iff.1 hp).1
  obtain ⟨hgq, ho⟩ : p.g ≠ q ∧ OwnC w p.g o pc 2 p.es.length (entV p.es) := by
    rcases h1 with ⟨_, h0, _⟩ | ⟨hne, o', cap', e1, ho⟩
    · omega
    · rw [hv] at e1
      injection e1 with e1 e2 e3
      injection e1 with e1
      injection e1 with e1 e4
      subst e4 e3
      exact ⟨hne, ho⟩
  have hsp : entV p.es = (entV (p.es.take j) ++ [.slice e.kA e.k.length e.kc]) ++ ([.slice e.rA e.r.length e.rc] ++ entV (p.es.drop (j + 1))) := by
    have e1 : p.es = p.es.take j ++ (e :: p.es.drop (j + 1)) := by
      rw [← (List.getElem?_eq_some_iff.1 he).2, ← List.drop_eq_getElem_cons hjl, List.take_append_drop]
    have e2 : entV (p.es.take j ++ (e :: p.es.drop (j + 1))) = (entV (p.es.take j) ++ [.slice e.kA e.k.length e.kc]) ++ ([.slice e.rA e.r.length e.rc] ++ entV (p.es.drop (j + 1))) := by
      rw [entV_app]
      simp [entV, Ent.cells]
    rw [← e1] at e2
    exact e2
  have hst : entV (p.es.set j X) = (entV (p.es.take j) ++ [.slice e.kA e.k.length e.kc]) ++ ([.slice X.rA X.r.length X.rc] ++ entV (p.es.drop (j + 1))) := by
    rw [List.set_eq_take_append_cons_drop, if_pos hjl, entV_app]
    obtain ⟨k1, k2, k3⟩ := hk
    simp [entV, Ent.cells, k1, k2, k3]
  have ho2 := ho
  rw [hsp] at ho2
  have ho3 := OwnC.mid_ (ys := [.slice X.rA X.r.length X.rc]) (k := j * 2 + 1) ho2 rfl (by rw [List.length_append, entV_len, List.length_take]; simp; omega)
  rw [← hst] at ho3
  have hS : Only (fun k => k = p.g) w (w.setCell ⟨p.g, o + j * 2 + 1, none⟩ (.slice X.rA X.r.length X.rc)) := Only.set w p.g _ _
  have hw : w.setCells p.g (o + (j * 2 + 1)) [.slice X.rA X.r.length X.rc] = w.setCell ⟨p.g, o + j * 2 + 1, none⟩ (.slice X.rA X.r.length X.rc) := by rw [← Nat.add_assoc]; rfl
  rw [hw] at ho3
  have hDk : ∀ k, D k → ¬ k = p.g := fun k hk e => h.dis _ h3 (e ▸ hk)
  obtain ⟨v, hb1, hb2⟩ := h.box
  have hvs : (pagesV (ps.set i ⟨p.g, p.v, p.es.set j X⟩)) = pagesV ps := by
    rw [pagesV_set]
    apply List.ext_getElem?
    intro k
    rw [List.getElem?_set]
    split
    · rename_i e; subst e
      have hk2 : (pagesV ps)[i]? = some p.v := by unfold pagesV; rw [List.getElem?_map, hp]; rfl
      rw [if_pos (List.getElem?_eq_some_iff.1 hk2).1, hk2]
    · rfl
  refine ⟨⟨⟨v, (hS.block q h.lt (fun e => hgq e.symm)).trans hb1, ?_⟩, fun x hx => ?_, ?_, fun x hx y hy => ?_, h.gq, h.gP, h.dis, fun j hj => Nat.lt_of_lt_of_le (h.glt j hj) hS.size, fun j hj => Nat.lt_of_lt_of_le (h.dlt j hj) hS.size⟩, hS, hgq⟩
  · rw [List.length_set, hvs]
    exact hb2.only hS (fun _ e => h2 e.symm)
  · obtain ⟨k, hk⟩ := List.mem_iff_getElem?.1 hx
    rw [List.getElem?_set] at hk
    split at hk
    · injection hk with hk
      subst hk
      refine ⟨.inr ⟨hgq, o, pc, ?_, ?_⟩, h2, h3⟩
      · show p.v = _
        rw [List.length_set]; exact hv
      · rw [List.length_set]; exact ho3
    · rename_i hne
      obtain ⟨h5, h6, h7⟩ := h.page x (List.mem_of_getElem? hk)
      exact ⟨h5.only hS (fun _ => h.other hp hk (fun e => hne e.symm)), h6, h7⟩
  · rw [List.map_set]
    exact nodup_set h.apart (.inl (by rw [List.getElem?_map, hp]; rfl))
  · rcases List.mem_or_eq_of_mem_set hx with hx | rfl
    · exact (h.ents x hx y hy).only hS hDk
    · rcases List.mem_or_eq_of_mem_set hy with hy | rfl
      · exact (h.ents p (List.mem_of_getElem? hp) y hy).only hS hDk
      · exact hX.only hS hDk
theorem flat_setEnt {ps : List Pg} {i j : Nat} {p : Pg} {X : Ent} (hp : ps[i]? = some p) (hj : j < p.es.length) : flat (ps.set i ⟨p.g, p.v, p.es.set j X⟩) = (flat ps).set ((flat (ps.take i)).length + j) X := by
  rw [flat_set (List.getElem?_eq_some_iff.1 hp).1, flat_at hp, List.set_append_right _ _ (by omega), Nat.add_sub_cancel_left, List.set_append_left _ _ hj]
end

section
open Go.RowKit

def getK : List (List UInt8 × List UInt8) → List UInt8 → Option (List UInt8)
  | [], _ => none
  | x :: l, k => if cmpB x.1 k = 0 then some x.2 else getK l k
theorem getK_lt : ∀ {l : List (List UInt8 × List UInt8)} {k : List UInt8}, (∀ x ∈ l, 0 < cmpB x.1 k) → getK l k = none
  | [], _, _ => rfl
  | x :: l, k, h => by
    unfold getK
    rw [if_neg (by have := h x (List.mem_cons_self ..); omega)]
    exact getK_lt fun y hy => h y (List.mem_cons_of_mem _ hy)
theorem getK_at {L : List Ent} {k : List UInt8} (hr : Rise L) : ∀ {m : Nat}, SplitB L k m → getK (kv L) k = if hasAt L m k then (L[m]?).map Ent.r else none := by
  induction L with
  | nil => intro m h; simp [kv, getK, hasAt]
  | cons x L ih =>
    intro m h
    obtain ⟨h1, h2⟩ := List.pairwise_cons.1 hr
    cases m with
    | zero =>
      have h0 := h.hi 0 x rfl (Nat.le_refl _)
      show (if cmpB x.k k = 0 then some x.r else getK (kv L) k) = _
      by_cases hx : cmpB x.k k = 0
      · rw [if_pos hx]; simp [hasAt, hx]
      · rw [if_neg hx]
        have : getK (kv L) k = none := getK_lt fun y hy => by
          obtain ⟨e, he, rfl⟩ := List.mem_map.1 hy
          exact cmpB_up (h1 e he) h0
        rw [this]; simp [hasAt, hx]
    | succ m =>
      have h0 := h.lo 0 x rfl (by omega)
      have h3 : SplitB L k m := ⟨by have := h.le; simp at this; omega, fun j e hj hlt => h.lo (j + 1) e (by simpa using hj) (by omega), fun j e hj hle => h.hi (j + 1) e (by simpa using hj) (by omega)⟩
      show (if cmpB x.k k = 0 then some x.r else getK (kv L) k) = _
      rw [if_neg (by omega), ih h2 h3]
      have e1 : hasAt (x :: L) (m + 1) k = hasAt L m k := by unfold hasAt; rw [List.getElem?_cons_succ]
      rw [e1, List.getElem?_cons_succ]
/-- what Put answers -/
def PutT (w : World) (G D : Nat → Prop) (q : Nat) (l : List (List UInt8 × List UInt8)) (key row : List UInt8) (en : Ending) (w' : World) : Prop := ∃ (G' D' : Nat → Prop) (P' : Nat) (ps' : List Pg) (A : Option Addr) (n c : Nat), en = .returned (.tuple #[.slice A n c, .bool (getK l key).isSome]) ∧ Tbl w' G' D' q P' ps' ∧ kv (flat ps') = putK l key row ∧ (∀ j, G' j ∨ D' j → G j ∨ D j ∨ w.heap.size ≤ j) ∧ Only G w w' ∧ RdB w' w'.heap.size A ((getK l key).getD []) ∧ ((getK l key).getD []).length = n
/-- .. where the key is new -/
theorem PutT.new {w w3 w' : World} {G D : Nat → Prop} {q P m : Nat} {ps : List Pg} {key row : List UInt8} {X : Ent} (h : Tbl w G D q P ps) (hs : SplitB (flat ps) key m) (hh : hasAt (flat ps) m key = false) (hX : X.k = key ∧ X.r = row) (hf : (flat ps).length ≤ 899) (hb : Below w.heap.size w w3)
    (hi : InT w3 G (fun j => D j ∨ (w.heap.size ≤ j ∧ j < w3.heap.size)) q (flat ps).length (laidIn (flat ps) m X) (.returned (.tuple #[])) w') : PutT w G D q (kv (flat ps)) key row (.returned (.tuple #[.slice none 0 0, .bool false])) w' := by
  obtain ⟨_, G', P', ps', h1, h2, h3, h4, h5⟩ := hi
  obtain ⟨rfl, rfl⟩ := hX
  have hg : getK (kv (flat ps)) X.k = none := by rw [getK_at h.rise hs, hh]; rfl
  have hkv := kv_ins hs hh
  have hll : (laidIn (flat ps) m X).length = (flat ps).length + 1 := by
    unfold laidIn
    rw [List.length_append, List.length_cons, List.length_take, List.length_drop]
    have := hs.le
    omega
  rw [← h2] at hkv hll
  refine ⟨G', _, P', ps', none, 0, 0, by rw [hg]; rfl, ⟨by rw [hll]; exact h1, h3, ?_, by omega⟩, hkv, fun j hj => ?_, (Only.of_below (K := G) hb).trans h5 (fun _ _ e => e), by rw [hg]; exact RdB.nil _ _ _, by rw [hg]; rfl⟩
  · have h6 := (rise_put (k := X.k) (r := X.r) (l := kv (flat ps)) (by have := h.rise; unfold Rise at this; unfold kv; rw [List.pairwise_map]; exact this)).1
    rw [← hkv] at h6
    unfold kv at h6
    rw [List.pairwise_map] at h6
    exact h6
  · rcases hj with hj | hj | hj
    · rcases h4 j hj with h7 | h7
      · exact .inl h7
      · have := hb.size; exact .inr (.inr (by omega))
    · exact .inr (.inl hj)
    · exact .inr (.inr hj.1)
/-- .. where it is there -/
theorem PutT.old {w w1 w2 : World} {G D : Nat → Prop} {q P i j o pc : Nat} {ps : List Pg} {key row : List UInt8} {p : Pg} {e X : Ent} (h : Tbl w G D q P ps) (hp : ps[i]? = some p) (he : p.es[j]? = some e) (hv : p.v = .slice (some ⟨p.g, o, none⟩) p.es.length pc)
    (hs : SplitB (flat ps) key ((flat (ps.take i)).length + j)) (hh : hasAt (flat ps) ((flat (ps.take i)).length + j) key = true) (hb : Below w.heap.size w w1) (hb2 : Below w1.heap.size w1 w2) (hX : X.kA = e.kA ∧ X.k = e.k ∧ X.kc = e.kc ∧ X.r = row) (ho : OwnB w2 w1.heap.size (.slice X.rA X.r.length X.rc) X.r) (hrl : row.length ≤ 100000) :
    PutT w G D q (kv (flat ps)) key row (.returned (.tuple #[.slice e.rA e.r.length e.rc, .bool true])) (w2.setCell ⟨p.g, o + j * 2 + 1, none⟩ (.slice X.rA X.r.length X.rc)) := by
  have hbw := hb.trans (hb2.mono hb.size)
  have h2 := h.below hbw
  have hjl := (List.getElem?_eq_some_iff.1 he).1
  have hlt := (List.getElem?_eq_some_iff.1 hp).1
  have hrd := ho.rd
  have hfe : (flat ps)[(flat (ps.take i)).length + j]? = some e := by
    rw [flat_at hp, List.getElem?_append_right (by omega), Nat.add_sub_cancel_left, List.getElem?_append_left hjl, he]
  have hek : cmpB e.k key = 0 := by unfold hasAt at hh; rw [hfe] at hh; simpa using hh
  have hg : getK (kv (flat ps)) key = some e.r := by rw [getK_at h.rise hs, hh, hfe]; rfl
  have hGw : ∀ k, G k → k < w.heap.size := h.t.glt
  have hD := h2.t.moreD (D' := fun k => D k ∨ (w.heap.size ≤ k ∧ k < w2.heap.size)) (fun k hk => .inl hk) (fun k hk hd => by
    rcases hd with hd | hd
    · exact h2.t.dis k hk hd
    · have := hGw k hk; omega) (fun k hk => by
    rcases hk with hk | hk
    · exact h2.t.dlt k hk
    · exact hk.2)
  have heo := h2.t.ents p (List.mem_of_getElem? hp) e (List.mem_of_getElem? he)
  have hXO : EntOk w2 (fun k => D k ∨ (w.heap.size ≤ k ∧ k < w2.heap.size)) X := by
    obtain ⟨k1, k2, k3, k4⟩ := hX
    refine ⟨by rw [k1, k2]; exact heo.key, hrd, fun hn ad ha => .inl (heo.kd (by rw [← k2]; exact hn) ad (by rw [← k1]; exact ha)), fun hn ad ha => ?_, by rw [k2]; exact heo.kl, by rw [k4]; exact hrl⟩
    obtain ⟨ad2, e1, e2, _⟩ := hrd hn
    rw [ha] at e1
    injection e1 with e1
    subst e1
    obtain ⟨g', cap', e3, e4⟩ := ho.head (List.length_pos_iff.2 hn)
    injection e3 with e3
    rw [ha] at e3
    injection e3 with e3
    subst e3
    have := hb.size
    exact .inr ⟨by show w.heap.size ≤ g'; omega, e2⟩
  obtain ⟨h5, h6, h7⟩ := hD.setEnt hp he hv hXO ⟨hX.1, hX.2.1, hX.2.2.1⟩
  have hfs := flat_setEnt (X := X) hp hjl
  have hkv := kv_set (X := X) hs hfe hek hX.2.1
  rw [← hfs, hX.2.2.2] at hkv
  have hpg := (h2.t.page p (List.mem_of_getElem? hp)).2.2
  have hO : Only G w2 (w2.setCell ⟨p.g, o + j * 2 + 1, none⟩ (.slice X.rA X.r.length X.rc)) := h6.more (fun k _ e => by rw [e]; exact hpg)
  refine ⟨G, _, P, _, e.rA, _, e.rc, by rw [hg]; rfl, ⟨by rw [hfs, List.length_set]; exact h5, fun x hx => ?_, ?_, by rw [hfs, List.length_set]; exact h.few⟩, hkv, fun k hk => ?_, (Only.of_below (K := G) hbw).trans hO (fun _ _ e => e), ?_, by rw [hg]; rfl⟩
  · rcases List.mem_or_eq_of_mem_set hx with hx | rfl
    · exact h.pg x hx
    · have h8 := h.pg p (List.mem_of_getElem? hp)
      exact ⟨fun e2 => by have e3 := congrArg List.length e2; simp at e3; exact h8.1 e3, by show (p.es.set j X).length ≤ 128; rw [List.length_set]; exact h8.2⟩
  · have h9 := (rise_put (k := key) (r := row) (l := kv (flat ps)) (by have := h.rise; unfold Rise at this; unfold kv; rw [List.pairwise_map]; exact this)).1
    rw [← hkv] at h9
    unfold kv at h9
    rw [List.pairwise_map] at h9
    exact h9
  · rcases hk with hk | hk | hk
    · exact .inl hk
    · exact .inr (.inl hk)
    · exact .inr (.inr hk.1)
  · rw [hg]
    exact heo.row.only' hO (fun hn ad ha hgk => h2.t.dis _ hgk (heo.rd hn ad ha))
end

section
open Go.RowKit

/-- where an entry that is there lies -/
theorem Tbl.there {w : World} {G D : Nat → Prop} {q P : Nat} {ps : List Pg} (h : Tbl w G D q P ps) {key : List UInt8} {i j : Nat} (hF : FindAt ps key i j true) (hS : SplitB (flat ps) key ((flat (ps.take i)).length + j)) (hf : true = hasAt (flat ps) ((flat (ps.take i)).length + j) key) :
    ∃ p e o pc ro rcap, ps[i]? = some p ∧ p.es[j]? = some e ∧ p.v = .slice (some ⟨p.g, o, none⟩) p.es.length pc ∧ i < ps.length ∧ j < p.es.length ∧ p.es.length ≤ 128 ∧ getK (kv (flat ps)) key = some e.r ∧ EntOk w D e ∧ (flat ps)[(flat (ps.take i)).length + j]? = some e ∧ cmpB e.k key = 0 ∧
      ∀ W, Below w.heap.size w W → W.cell? ⟨q, 0, none⟩ = some (.slice (some ⟨P, ro, none⟩) ps.length rcap) ∧ W.cell? ⟨P, ro + i, none⟩ = some (.slice (some ⟨p.g, o, none⟩) p.es.length pc) ∧ W.cell? ⟨p.g, o + j * 2, none⟩ = some (.slice e.kA e.k.length e.kc) ∧ W.cell? ⟨p.g, o + j * 2 + 1, none⟩ = some (.slice e.rA e.r.length e.rc) := by
  have hi1 : i < ps.length := by
    rcases Nat.lt_or_ge i ps.length with h1 | h1
    · exact h1
    · have := (hF.past (by have := hF.page.le; omega)).2
      cases this
  obtain ⟨p, hp⟩ : ∃ p, ps[i]? = some p := ⟨_, List.getElem?_eq_getElem hi1⟩
  obtain ⟨hsp, hfp⟩ := hF.here p hp
  obtain ⟨e, he⟩ : ∃ e, p.es[j]? = some e := by
    unfold hasAt at hfp
    cases he : p.es[j]? with
    | some e => exact ⟨e, rfl⟩
    | none => rw [he] at hfp; cases hfp
  have hjl := (List.getElem?_eq_some_iff.1 he).1
  obtain ⟨o, pc, hpv⟩ : ∃ o pc, p.v = .slice (some ⟨p.g, o, none⟩) p.es.length pc := by
    rcases (h.t.page p (List.mem_of_getElem? hp)).1 with ⟨_, h0, _⟩ | ⟨_, o, pc, h1, _⟩
    · omega
    · exact ⟨o, pc, h1⟩
  obtain ⟨ro, rcap, hbx, hro, hPq⟩ := h.t.cap hp
  have hfe : (flat ps)[(flat (ps.take i)).length + j]? = some e := by
    rw [flat_at hp, List.getElem?_append_right (by omega), Nat.add_sub_cancel_left, List.getElem?_append_left hjl, he]
  refine ⟨p, e, o, pc, ro, rcap, hp, he, hpv, hi1, hjl, (h.pg p (List.mem_of_getElem? hp)).2, by rw [getK_at h.rise hS, ← hf, hfe]; rfl, h.t.ents p (List.mem_of_getElem? hp) e (List.mem_of_getElem? he), hfe, by unfold hasAt at hf; rw [hfe] at hf; simpa using hf.symm, fun W hb => ?_⟩
  have h2 := h.below hb
  obtain ⟨ro2, rcap2, hbx2, hro2, _⟩ := h2.t.cap hp
  have hbx3 := (hb.block q h.t.lt).trans hbx
  rw [hbx2] at hbx3
  have e1 : ro2 = ro ∧ rcap2 = rcap := by simp at hbx3; exact hbx3
  obtain ⟨rfl, rfl⟩ := e1
  have hc1 := hro2.cell i p.v (by unfold pagesV; rw [List.getElem?_map, hp]; rfl)
  rw [hpv] at hc1
  obtain ⟨hgq, ho⟩ : p.g ≠ q ∧ OwnC W p.g o pc 2 p.es.length (entV p.es) := by
    rcases (h2.t.page p (List.mem_of_getElem? hp)).1 with ⟨_, h0, _⟩ | ⟨hne, o', cap', e1, ho⟩
    · omega
    · rw [hpv] at e1
      injection e1 with e1 e2 e3
      injection e1 with e1
      injection e1 with e1 e4
      subst e4 e3
      exact ⟨hne, ho⟩
  exact ⟨(box2 hbx2).1, hc1, ho.cell _ _ (entV_at he).1, by rw [Nat.add_assoc]; exact ho.cell _ _ (entV_at he).2⟩
end

section
open Go.RowKit

theorem RdE.part {w : World} {A : Option Addr} {es : List Ent} (h : RdE w A es) {a m : Nat} {A' : Option Addr} (hA : (es.drop a).take m ≠ [] → A' = A.map fun x => x.add (a * 2)) : RdE w A' ((es.drop a).take m) := by
  refine ⟨fun hn => ?_, fun e he => h.ok e (List.mem_of_mem_drop (List.mem_of_mem_take he))⟩
  have hne : (es.drop a).take m ≠ [] := fun e => hn (by rw [e]; rfl)
  have hes : entV es ≠ [] := fun e => by
    have e2 := congrArg List.length e
    rw [entV_len] at e2
    have e3 : es = [] := List.length_eq_zero_iff.1 (by simp only [List.length_nil] at e2; omega)
    rw [e3] at hne
    simp at hne
  obtain ⟨b, o, e1, hlt, hc⟩ := h.cells hes
  refine ⟨b, o + a * 2, by rw [hA hne, e1, Option.map_some, Addr.add_lit], hlt, fun j u hj => ?_⟩
  rw [← entV_take, ← entV_drop, List.getElem?_take] at hj
  split at hj
  · rw [List.getElem?_drop] at hj
    rw [Nat.add_assoc]
    exact hc _ u hj
  · cases hj
end
end Go.Proofs.YtkohppalfcalbaaGreat

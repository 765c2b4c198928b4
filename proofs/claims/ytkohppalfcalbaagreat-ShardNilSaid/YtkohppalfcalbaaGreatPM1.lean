/- Package table: a table as a list that rises; Len, Get; words for Put. -/
import Derived.Test.YtkohppalfcalbaaGreatPK
import Derived.Test.YtkohppalfcalbaaGreatPL
namespace Go.Proofs.YtkohppalfcalbaaGreat
section
open Go.RowKit

def kv (L : List Ent) : List (List UInt8 × List UInt8) := L.map fun e => (e.k, e.r)
def putK : List (List UInt8 × List UInt8) → List UInt8 → List UInt8 → List (List UInt8 × List UInt8)
  | [], k, r => [(k, r)]
  | x :: l, k, r => if cmpB x.1 k < 0 then x :: putK l k r else if cmpB x.1 k = 0 then (x.1, r) :: l else (k, r) :: x :: l
theorem kv_ins {L : List Ent} {X : Ent} : ∀ {m : Nat}, SplitB L X.k m → hasAt L m X.k = false → kv (laidIn L m X) = putK (kv L) X.k X.r := by
  induction L with
  | nil =>
    intro m h _
    have : m = 0 := by have := h.le; simpa using this
    subst this
    rfl
  | cons x L ih =>
    intro m h hh
    cases m with
    | zero =>
      have h0 := h.hi 0 x rfl (Nat.le_refl _)
      have h1 : ¬ cmpB x.k X.k = 0 := by simpa [hasAt] using hh
      simp only [laidIn, kv, List.take_zero, List.drop_zero, List.nil_append, List.map_cons, putK]
      rw [if_neg (by omega), if_neg h1]
    | succ m =>
      have h0 := h.lo 0 x rfl (by omega)
      have h2 : SplitB L X.k m := ⟨by have := h.le; simp at this; omega, fun j e hj hlt => h.lo (j + 1) e (by simpa using hj) (by omega), fun j e hj hle => h.hi (j + 1) e (by simpa using hj) (by omega)⟩
      have h3 := ih h2 (by unfold hasAt at hh ⊢; simpa using hh)
      simp only [laidIn, kv, List.take_succ_cons, List.drop_succ_cons, List.cons_append, List.map_cons, putK]
      rw [if_pos h0]
      simp only [laidIn, kv] at h3
      rw [h3]
theorem kv_set {L : List Ent} {X : Ent} {k : List UInt8} : ∀ {m : Nat} {e : Ent}, SplitB L k m → L[m]? = some e → cmpB e.k k = 0 → X.k = e.k → kv (L.set m X) = putK (kv L) k X.r := by
  induction L with
  | nil => intro m e _ h; simp at h
  | cons x L ih =>
    intro m e h he h0 hX
    cases m with
    | zero =>
      simp at he
      subst he
      simp only [kv, List.set_cons_zero, List.map_cons, putK]
      rw [if_neg (by omega), if_pos h0, hX]
    | succ m =>
      have h1 := h.lo 0 x rfl (by omega)
      have h2 : SplitB L k m := ⟨by have := h.le; simp at this; omega, fun j e hj hlt => h.lo (j + 1) e (by simpa using hj) (by omega), fun j e hj hle => h.hi (j + 1) e (by simpa using hj) (by omega)⟩
      have h3 := ih h2 (by simpa using he) h0 hX
      simp only [kv, List.set_cons_succ, List.map_cons, putK]
      rw [if_pos h1]
      simp only [kv] at h3
      rw [h3]
theorem rise_put : ∀ {l : List (List UInt8 × List UInt8)} {k r : List UInt8}, (l.Pairwise fun a b => cmpB a.1 b.1 < 0) → ((putK l k r).Pairwise fun a b => cmpB a.1 b.1 < 0) ∧ ∀ y ∈ putK l k r, y.1 = k ∨ ∃ x ∈ l, x.1 = y.1
  | [], k, r, _ => ⟨by simp [putK], fun y hy => by simp [putK] at hy; subst hy; exact .inl rfl⟩
  | x :: l, k, r, h => by
    obtain ⟨h1, h2⟩ := List.pairwise_cons.1 h
    simp only [putK]
    split
    · rename_i hlt
      obtain ⟨h3, h4⟩ := rise_put (k := k) (r := r) h2
      refine ⟨List.pairwise_cons.2 ⟨fun y hy => ?_, h3⟩, fun y hy => ?_⟩
      · rcases h4 y hy with e | ⟨z, hz, e⟩
        · rw [e]; exact hlt
        · rw [← e]; exact h1 z hz
      · rw [List.mem_cons] at hy
        rcases hy with rfl | hy
        · exact .inr ⟨_, List.mem_cons_self .., rfl⟩
        · rcases h4 y hy with e | ⟨z, hz, e⟩
          · exact .inl e
          · exact .inr ⟨z, List.mem_cons_of_mem _ hz, e⟩
    · split
      · rename_i hn h0
        refine ⟨List.pairwise_cons.2 ⟨fun y hy => h1 y hy, h2⟩, fun y hy => ?_⟩
        rw [List.mem_cons] at hy
        rcases hy with rfl | hy
        · exact .inr ⟨x, List.mem_cons_self .., rfl⟩
        · exact .inr ⟨y, List.mem_cons_of_mem _ hy, rfl⟩
      · rename_i hn h0
        have hgt : cmpB k x.1 < 0 := by have := cmpB_neg k x.1; omega
        refine ⟨List.pairwise_cons.2 ⟨fun y hy => ?_, h⟩, fun y hy => ?_⟩
        · rw [List.mem_cons] at hy
          rcases hy with rfl | hy
          · exact hgt
          · exact cmpB_tr hgt (h1 y hy)
        · rw [List.mem_cons] at hy
          rcases hy with rfl | hy
          · exact .inl rfl
          · exact .inr ⟨y, hy, rfl⟩
/-- a table: its footprint (what it writes: G; where its bytes lie: D), its box q, its entries -/
structure Tbl (w : World) (G D : Nat → Prop) (q : Nat) (P : Nat) (ps : List Pg) : Prop where
  t : Tb0 w G D q P (flat ps).length ps
  pg : ∀ p ∈ ps, p.es ≠ [] ∧ p.es.length ≤ 128
  rise : Rise (flat ps)
  few : (flat ps).length ≤ 900
theorem flat_le : ∀ (ps : List Pg), (∀ p ∈ ps, p.es ≠ []) → ps.length ≤ (flat ps).length
  | [], _ => Nat.zero_le _
  | p :: ps, h => by
    have h1 := flat_le ps (fun x hx => h x (List.mem_cons_of_mem _ hx))
    have h2 := List.length_pos_iff.2 (h p (List.mem_cons_self ..))
    rw [flat_cons, List.length_append, List.length_cons]
    omega
theorem Tbl.len {w : World} {G D : Nat → Prop} {q P : Nat} {ps : List Pg} (h : Tbl w G D q P ps) : ps.length ≤ 1000 := by
  have := flat_le ps (fun p hp => (h.pg p hp).1)
  have := h.few
  omega
theorem Tbl.only {K : Nat → Prop} {w w' : World} {G D : Nat → Prop} {q P : Nat} {ps : List Pg} (h : Tbl w G D q P ps) (hO : Only K w w') (hG : ∀ j, G j → ¬ K j) (hD : ∀ j, D j → ¬ K j) : Tbl w' G D q P ps := ⟨h.t.only hO hG hD, h.pg, h.rise, h.few⟩
theorem Tbl.below {w w' : World} {G D : Nat → Prop} {q P : Nat} {ps : List Pg} (h : Tbl w G D q P ps) (hb : Below w.heap.size w w') : Tbl w' G D q P ps := ⟨h.t.below hb, h.pg, h.rise, h.few⟩
theorem Tbl.heap {w w' : World} {G D : Nat → Prop} {q P : Nat} {ps : List Pg} (h : Tbl w G D q P ps) (e : w'.heap = w.heap) : Tbl w' G D q P ps := ⟨h.t.heap e, h.pg, h.rise, h.few⟩
/-- where find stands, and what it answers -/
theorem Tbl.find {w : World} {G D : Nat → Prop} {q P : Nat} {ps : List Pg} (h : Tbl w G D q P ps) (t : List UInt8) : ∃ i j f, FindAt ps t i j f ∧ SplitB (flat ps) t ((flat (ps.take i)).length + j) ∧ f = hasAt (flat ps) ((flat (ps.take i)).length + j) t ∧
    ∀ (T : Option Addr) (n d : Nat), t.length = n → ∀ w2, Below w.heap.size w w2 → RdB w2 w2.heap.size T t → Calls Tryz.prog 89 #[.pointer (some ⟨q, 0, none⟩), .slice T n d] w2 (Ans (.tuple #[.int .i64 (i : Int), .int .i64 (j : Int), .bool f]) w2) := by
  obtain ⟨i, j, f, h1, h2, h3⟩ := find_ex ps (fun p hp => (h.pg p hp).1) h.rise t
  refine ⟨i, j, f, h1, h2, h3, fun T n d hn w2 hb ht => ?_⟩
  obtain ⟨A, cap, h4, h5⟩ := (h.below hb).t.rds (fun p hp => ⟨(h.pg p hp).1, by have := (h.pg p hp).2; omega⟩)
  exact findT_any h4 h5 (by have := h.len; omega) t T n d hn ht h1
/-- one cell of an entry is turned: another row -/
theorem Tb0.setEnt {w : World} {G D : Nat → Prop} {q P c i j o pc : Nat} {p : Pg} {ps : List Pg} {e X : Ent} (h : Tb0 w G D q P c ps) (hp : ps[i]? = some p) (he : p.es[j]? = some e) (hv : p.v = .slice (some ⟨p.g, o, none⟩) p.es.length pc) (hX : EntOk w D X) (hk : X.kA = e.kA ∧ X.k = e.k ∧ X.kc = e.kc) :
    Tb0 (w.setCell ⟨p.g, o + j * 2 + 1, none⟩ (.slice X.rA X.r.length X.rc)) G D q P c (ps.set i ⟨p.g, p.v, p.es.set j X⟩) ∧ Only (fun k => k = p.g) w (w.setCell ⟨p.g, o + j * 2 + 1, none⟩ (.slice X.rA X.r.length X.rc)) ∧ p.g ≠ q := by
  obtain ⟨h1, h2, h3⟩ := h.page p (List.mem_of_getElem? hp)
  have hjl := (List.getElem?_eq_some_iff.1 he).1
  have hlt := (List.getElem?_eq_some_iff.1 hp).1
  obtain ⟨hgq, ho⟩ : p.g ≠ q ∧ OwnC w p.g o pc 2 p.es.length (entV p.es) := by
    rcases h1 with ⟨_, h0, _⟩ | ⟨hne, o', cap', e1, ho⟩
    · omega
    · rw [hv] at e1
      injection e1 with e1 e2 e3
      injection e1 with e1
      injection e1 with e1 e4
      subst e4 e3
      exact ⟨hne, ho⟩
  have hsp : entV p.es = (entV (p.es.take j) ++ [.slice e.kA e.k.length e.kc]) ++ ([.slice e.rA e.r.length e.rc] ++ entV (p.es.drop (j + 1))) := by
    have e1 : p.es = p.es.take j ++ (e :: p.es.drop (j + 1)) := by
      rw [← (List.getElem?_eq_some_iff.1 he).2, ← List.drop_eq_getElem_cons hjl, List.take_append_drop]
    have e2 : entV (p.es.take j ++ (e :: p.es.drop (j + 1))) = (entV (p.es.take j) ++ [.slice e.kA e.k.length e.kc]) ++ ([.slice e.rA e.r.length e.rc] ++ entV (p.es.drop (j + 1))) := by
      rw [entV_app]
      simp [entV, Ent.cells]
    rw [← e1] at e2
    exact e2
  have hst : entV (p.es.set j X) = (entV (p.es.take j) ++ [.slice e.kA e.k.length e.kc]) ++ ([.slice X.rA X.r.length X.rc] ++ entV (p.es.drop (j + 1))) := by
    rw [List.set_eq_take_append_cons_drop, if_pos hjl, entV_app]
    obtain ⟨k1, k2, k3⟩ := hk
    simp [entV, Ent.cells, k1, k2, k3]
  have ho2 := ho
  rw [hsp] at ho2
  have ho3 := OwnC.mid_ (ys := [.slice X.rA X.r.length X.rc]) (k := j * 2 + 1) ho2 rfl (by rw [List.length_append, entV_len, List.length_take]; simp; omega)
  rw [← hst] at ho3
  have hS : Only (fun k => k = p.g) w (w.setCell ⟨p.g, o + j * 2 + 1, none⟩ (.slice X.rA X.r.length X.rc)) := Only.set w p.g _ _
  have hw : w.setCells p.g (o + (j * 2 + 1)) [.slice X.rA X.r.length X.rc] = w.setCell ⟨p.g, o + j * 2 + 1, none⟩ (.slice X.rA X.r.length X.rc) := by rw [← Nat.add_assoc]; rfl
  rw [hw] at ho3
  have hDk : ∀ k, D k → ¬ k = p.g := fun k hk e => h.dis _ h3 (e ▸ hk)
  obtain ⟨v, hb1, hb2⟩ := h.box
  have hvs : (pagesV (ps.set i ⟨p.g, p.v, p.es.set j X⟩)) = pagesV ps := by
    rw [pagesV_set]
    apply List.ext_getElem?
    intro k
    rw [List.getElem?_set]
    split
    · rename_i e; subst e
      have hk2 : (pagesV ps)[i]? = some p.v := by unfold pagesV; rw [List.getElem?_map, hp]; rfl
      rw [if_pos (List.getElem?_eq_some_iff.1 hk2).1, hk2]
    · rfl
  refine ⟨⟨⟨v, (hS.block q h.lt (fun e => hgq e.symm)).trans hb1, ?_⟩, fun x hx => ?_, ?_, fun x hx y hy => ?_, h.gq, h.gP, h.dis, fun j hj => Nat.lt_of_lt_of_le (h.glt j hj) hS.size, fun j hj => Nat.lt_of_lt_of_le (h.dlt j hj) hS.size⟩, hS, hgq⟩
  · rw [List.length_set, hvs]
    exact hb2.only hS (fun _ e => h2 e.symm)
  · obtain ⟨k, hk⟩ := List.mem_iff_getElem?.1 hx
    rw [List.getElem?_set] at hk
    split at hk
    · injection hk with hk
      subst hk
      refine ⟨.inr ⟨hgq, o, pc, ?_, ?_⟩, h2, h3⟩
      · show p.v = _
        rw [List.length_set]; exact hv
      · rw [List.length_set]; exact ho3
    · rename_i hne
      obtain ⟨h5, h6, h7⟩ := h.page x (List.mem_of_getElem? hk)
      exact ⟨h5.only hS (fun _ => h.other hp hk (fun e => hne e.symm)), h6, h7⟩
  · rw [List.map_set]
    exact nodup_set h.apart (.inl (by rw [List.getElem?_map, hp]; rfl))
  · rcases List.mem_or_eq_of_mem_set hx with hx | rfl
    · exact (h.ents x hx y hy).only hS hDk
    · rcases List.mem_or_eq_of_mem_set hy with hy | rfl
      · exact (h.ents p (List.mem_of_getElem? hp) y hy).only hS hDk
      · exact hX.only hS hDk
theorem flat_setEnt {ps : List Pg} {i j : Nat} {p : Pg} {X : Ent} (hp : ps[i]? = some p) (hj : j < p.es.length) : flat (ps.set i ⟨p.g, p.v, p.es.set j X⟩) = (flat ps).set ((flat (ps.take i)).length + j) X := by
  rw [flat_set (List.getElem?_eq_some_iff.1 hp).1, flat_at hp, List.set_append_right _ _ (by omega), Nat.add_sub_cancel_left, List.set_append_left _ _ hj]
end

section
open Go.RowKit

def getK : List (List UInt8 × List UInt8) → List UInt8 → Option (List UInt8)
  | [], _ => none
  | x :: l, k => if cmpB x.1 k = 0 then some x.2 else getK l k
theorem getK_lt : ∀ {l : List (List UInt8 × List UInt8)} {k : List UInt8}, (∀ x ∈ l, 0 < cmpB x.1 k) → getK l k = none
  | [], _, _ => rfl
  | x :: l, k, h => by
    unfold getK
    rw [if_neg (by have := h x (List.mem_cons_self ..); omega)]
    exact getK_lt fun y hy => h y (List.mem_cons_of_mem _ hy)
theorem getK_at {L : List Ent} {k : List UInt8} (hr : Rise L) : ∀ {m : Nat}, SplitB L k m → getK (kv L) k = if hasAt L m k then (L[m]?).map Ent.r else none := by
  induction L with
  | nil => intro m h; simp [kv, getK, hasAt]
  | cons x L ih =>
    intro m h
    obtain ⟨h1, h2⟩ := List.pairwise_cons.1 hr
    cases m with
    | zero =>
      have h0 := h.hi 0 x rfl (Nat.le_refl _)
      show (if cmpB x.k k = 0 then some x.r else getK (kv L) k) = _
      by_cases hx : cmpB x.k k = 0
      · rw [if_pos hx]; simp [hasAt, hx]
      · rw [if_neg hx]
        have : getK (kv L) k = none := getK_lt fun y hy => by
          obtain ⟨e, he, rfl⟩ := List.mem_map.1 hy
          exact cmpB_up (h1 e he) h0
        rw [this]; simp [hasAt, hx]
    | succ m =>
      have h0 := h.lo 0 x rfl (by omega)
      have h3 : SplitB L k m := ⟨by have := h.le; simp at this; omega, fun j e hj hlt => h.lo (j + 1) e (by simpa using hj) (by omega), fun j e hj hle => h.hi (j + 1) e (by simpa using hj) (by omega)⟩
      show (if cmpB x.k k = 0 then some x.r else getK (kv L) k) = _
      rw [if_neg (by omega), ih h2 h3]
      have e1 : hasAt (x :: L) (m + 1) k = hasAt L m k := by unfold hasAt; rw [List.getElem?_cons_succ]
      rw [e1, List.getElem?_cons_succ]
/-- what Put answers -/
def PutT (w : World) (G D : Nat → Prop) (q : Nat) (l : List (List UInt8 × List UInt8)) (key row : List UInt8) (en : Ending) (w' : World) : Prop := ∃ (G' D' : Nat → Prop) (P' : Nat) (ps' : List Pg) (A : Option Addr) (n c : Nat), en = .returned (.tuple #[.slice A n c, .bool (getK l key).isSome]) ∧ Tbl w' G' D' q P' ps' ∧ kv (flat ps') = putK l key row ∧ (∀ j, G' j ∨ D' j → G j ∨ D j ∨ w.heap.size ≤ j) ∧ Only G w w' ∧ RdB w' w'.heap.size A ((getK l key).getD []) ∧ ((getK l key).getD []).length = n
/-- .. where the key is new -/
theorem PutT.new {w w3 w' : World} {G D : Nat → Prop} {q P m : Nat} {ps : List Pg} {key row : List UInt8} {X : Ent} (h : Tbl w G D q P ps) (hs : SplitB (flat ps) key m) (hh : hasAt (flat ps) m key = false) (hX : X.k = key ∧ X.r = row) (hf : (flat ps).length ≤ 899) (hb : Below w.heap.size w w3)
    (hi : InT w3 G (fun j => D j ∨ (w.heap.size ≤ j ∧ j < w3.heap.size)) q (flat ps).length (laidIn (flat ps) m X) (.returned (.tuple #[])) w') : PutT w G D q (kv (flat ps)) key row (.returned (.tuple #[.slice none 0 0, .bool false])) w' := by
  obtain ⟨_, G', P', ps', h1, h2, h3, h4, h5⟩ := hi
  obtain ⟨rfl, rfl⟩ := hX
  have hg : getK (kv (flat ps)) X.k = none := by rw [getK_at h.rise hs, hh]; rfl
  have hkv := kv_ins hs hh
  have hll : (laidIn (flat ps) m X).length = (flat ps).length + 1 := by
    unfold laidIn
    rw [List.length_append, List.length_cons, List.length_take, List.length_drop]
    have := hs.le
    omega
  rw [← h2] at hkv hll
  refine ⟨G', _, P', ps', none, 0, 0, by rw [hg]; rfl, ⟨by rw [hll]; exact h1, h3, ?_, by omega⟩, hkv, fun j hj => ?_, (Only.of_below (K := G) hb).trans h5 (fun _ _ e => e), by rw [hg]; exact RdB.nil _ _ _, by rw [hg]; rfl⟩
  · have h6 := (rise_put (k := X.k) (r := X.r) (l := kv (flat ps)) (by have := h.rise; unfold Rise at this; unfold kv; rw [List.pairwise_map]; exact this)).1
    rw [← hkv] at h6
    unfold kv at h6
    rw [List.pairwise_map] at h6
    exact h6
  · rcases hj with hj | hj | hj
    · rcases h4 j hj with h7 | h7
      · exact .inl h7
      · have := hb.size; exact .inr (.inr (by omega))
    · exact .inr (.inl hj)
    · exact .inr (.inr hj.1)
/-- .. where it is there -/
theorem PutT.old {w w1 w2 : World} {G D : Nat → Prop} {q P i j o pc : Nat} {ps : List Pg} {key row : List UInt8} {p : Pg} {e X : Ent} (h : Tbl w G D q P ps) (hp : ps[i]? = some p) (he : p.es[j]? = some e) (hv : p.v = .slice (some ⟨p.g, o, none⟩) p.es.length pc)
    (hs : SplitB (flat ps) key ((flat (ps.take i)).length + j)) (hh : hasAt (flat ps) ((flat (ps.take i)).length + j) key = true) (hb : Below w.heap.size w w1) (hb2 : Below w1.heap.size w1 w2) (hX : X.kA = e.kA ∧ X.k = e.k ∧ X.kc = e.kc ∧ X.r = row) (ho : OwnB w2 w1.heap.size (.slice X.rA X.r.length X.rc) X.r) (hrl : row.length ≤ 100000) :
    PutT w G D q (kv (flat ps)) key row (.returned (.tuple #[.slice e.rA e.r.length e.rc, .bool true])) (w2.setCell ⟨p.g, o + j * 2 + 1, none⟩ (.slice X.rA X.r.length X.rc)) := by
  have hbw := hb.trans (hb2.mono hb.size)
  have h2 := h.below hbw
  have hjl := (List.getElem?_eq_some_iff.1 he).1
  have hlt := (List.getElem?_eq_some_iff.1 hp).1
  have hrd := ho.rd
  have hfe : (flat ps)[(flat (ps.take i)).length + j]? = some e := by
    rw [flat_at hp, List.getElem?_append_right (by omega), Nat.add_sub_cancel_left, List.getElem?_append_left hjl, he]
  have hek : cmpB e.k key = 0 := by unfold hasAt at hh; rw [hfe] at hh; simpa using hh
  have hg : getK (kv (flat ps)) key = some e.r := by rw [getK_at h.rise hs, hh, hfe]; rfl
  have hGw : ∀ k, G k → k < w.heap.size := h.t.glt
  have hD := h2.t.moreD (D' := fun k => D k ∨ (w.heap.size ≤ k ∧ k < w2.heap.size)) (fun k hk => .inl hk) (fun k hk hd => by
    rcases hd with hd | hd
    · exact h2.t.dis k hk hd
    · have := hGw k hk; omega) (fun k hk => by
    rcases hk with hk | hk
    · exact h2.t.dlt k hk
    · exact hk.2)
  have heo := h2.t.ents p (List.mem_of_getElem? hp) e (List.mem_of_getElem? he)
  have hXO : EntOk w2 (fun k => D k ∨ (w.heap.size ≤ k ∧ k < w2.heap.size)) X := by
    obtain ⟨k1, k2, k3, k4⟩ := hX
    refine ⟨by rw [k1, k2]; exact heo.key, hrd, fun hn ad ha => .inl (heo.kd (by rw [← k2]; exact hn) ad (by rw [← k1]; exact ha)), fun hn ad ha => ?_, by rw [k2]; exact heo.kl, by rw [k4]; exact hrl⟩
    obtain ⟨ad2, e1, e2, _⟩ := hrd hn
    rw [ha] at e1
    injection e1 with e1
    subst e1
    obtain ⟨g', cap', e3, e4⟩ := ho.head (List.length_pos_iff.2 hn)
    injection e3 with e3
    rw [ha] at e3
    injection e3 with e3
    subst e3
    have := hb.size
    exact .inr ⟨by show w.heap.size ≤ g'; omega, e2⟩
  obtain ⟨h5, h6, h7⟩ := hD.setEnt hp he hv hXO ⟨hX.1, hX.2.1, hX.2.2.1⟩
  have hfs := flat_setEnt (X := X) hp hjl
  have hkv := kv_set (X := X) hs hfe hek hX.2.1
  rw [← hfs, hX.2.2.2] at hkv
  have hpg := (h2.t.page p (List.mem_of_getElem? hp)).2.2
  have hO : Only G w2 (w2.setCell ⟨p.g, o + j * 2 + 1, none⟩ (.slice X.rA X.r.length X.rc)) := h6.more (fun k _ e => by rw [e]; exact hpg)
  refine ⟨G, _, P, _, e.rA, _, e.rc, by rw [hg]; rfl, ⟨by rw [hfs, List.length_set]; exact h5, fun x hx => ?_, ?_, by rw [hfs, List.length_set]; exact h.few⟩, hkv, fun k hk => ?_, (Only.of_below (K := G) hbw).trans hO (fun _ _ e => e), ?_, by rw [hg]; rfl⟩
  · rcases List.mem_or_eq_of_mem_set hx with hx | rfl
    · exact h.pg x hx
    · have h8 := h.pg p (List.mem_of_getElem? hp)
      exact ⟨fun e2 => by have e3 := congrArg List.length e2; simp at e3; exact h8.1 e3, by show (p.es.set j X).length ≤ 128; rw [List.length_set]; exact h8.2⟩
  · have h9 := (rise_put (k := key) (r := row) (l := kv (flat ps)) (by have := h.rise; unfold Rise at this; unfold kv; rw [List.pairwise_map]; exact this)).1
    rw [← hkv] at h9
    unfold kv at h9
    rw [List.pairwise_map] at h9
    exact h9
  · rcases hk with hk | hk | hk
    · exact .inl hk
    · exact .inr (.inl hk)
    · exact .inr (.inr hk.1)
  · rw [hg]
    exact heo.row.only' hO (fun hn ad ha hgk => h2.t.dis _ hgk (heo.rd hn ad ha))
set_option maxRecDepth 100000 in
set_option maxHeartbeats 8000000 in
theorem put_any {w : World} {G D : Nat → Prop} {q P : Nat} {ps : List Pg} (h : Tbl w G D q P ps) (hfew : (flat ps).length ≤ 899) (key row : List UInt8) (K A : Option Addr) (kn kc rn rc : Nat) (hkn : key.length = kn) (hrn : row.length = rn) (hkl : key.length ≤ 100000) (hrl : row.length ≤ 100000) (hk : RdB w w.heap.size K key) (hr : RdB w w.heap.size A row) :
    Calls Tryz.prog 44 #[.pointer (some ⟨q, 0, none⟩), .slice K kn kc, .slice A rn rc] w (PutT w G D q (kv (flat ps)) key row) := by
  obtain ⟨i, j, f, hF, hS, hf, hfind⟩ := h.find key
  have HFI := Lib.hid (hfind K kn kc hkn w (Below.refl _ _) hk)
  have HK : Hid (∀ W, Below w.heap.size w W → Calls Tryz.prog 71 #[.slice K kn kc] W (CloneTo W key)) := Lib.hid fun W hb => cloneA_any key K kn kc hkn W hkl ((hk.below hb (Nat.le_refl _)).more hb.size)
  have HRW : Hid (∀ W, Below w.heap.size w W → Calls Tryz.prog 71 #[.slice A rn rc] W (CloneTo W row)) := Lib.hid fun W hb => cloneA_any row A rn rc hrn W hrl ((hr.below hb (Nat.le_refl _)).more hb.size)
  have hnil : ∀ (w : World) (a : Option Addr), (binOp .eql 88 (.pointer a) (.pointer none)).run Tryz.prog w = .ok (.bool a.isNone) w := fun w a => by cases a <;> rfl
  cases f with
  | false =>
    have HI : Hid (∀ W1 W2 W3 A2 c2 A3 c3, Below w.heap.size w W1 → OwnB W2 W1.heap.size (.slice A2 key.length c2) key → Below W1.heap.size W1 W2 → OwnB W3 W2.heap.size (.slice A3 row.length c3) row → Below W2.heap.size W2 W3 →
        Calls Tryz.prog 90 #[.pointer (some ⟨q, 0, none⟩), .int .i64 (i : Int), .int .i64 (j : Int), .agg #[.slice A2 key.length c2, .slice A3 row.length c3]] W3 (fun e w' => e = .returned (.tuple #[]) ∧ PutT w G D q (kv (flat ps)) key row (.returned (.tuple #[.slice none 0 0, .bool false])) w')) := Lib.hid fun W1 W2 W3 A2 c2 A3 c3 hb1 ho2 hb2 ho3 hb3 => by
      have hb12 := hb1.trans (hb2.mono hb1.size)
      have hbw := hb12.trans (hb3.mono hb12.size)
      have h3 := h.below hbw
      have s1 := hb1.size
      have s2 := hb2.size
      have hD := h3.t.moreD (D' := fun k => D k ∨ (w.heap.size ≤ k ∧ k < W3.heap.size)) (fun k hk => .inl hk) (fun k hk hd => by
        rcases hd with hd | hd
        · exact h3.t.dis k hk hd
        · have := h.t.glt k hk; omega) (fun k hk => by
        rcases hk with hk | hk
        · exact h3.t.dlt k hk
        · exact hk.2)
      have hown : ∀ {B C : Option Addr} {n c : Nat} {l : List UInt8} {b : Nat}, OwnB W3 b (.slice B n c) l → w.heap.size ≤ b → l ≠ [] → ∀ ad, B = some ad → D ad.block ∨ (w.heap.size ≤ ad.block ∧ ad.block < W3.heap.size) := fun {B C n c l b} ho hb hn ad ha => by
        obtain ⟨ad2, e1, e2, _⟩ := ho.rd hn
        rw [ha] at e1
        injection e1 with e1
        subst e1
        obtain ⟨g', cap', e3, e4⟩ := ho.head (List.length_pos_iff.2 hn)
        injection e3 with e3
        rw [ha] at e3
        injection e3 with e3
        subst e3
        exact .inr ⟨by show w.heap.size ≤ g'; omega, e2⟩
      have ho2' := ho2.below hb3
      have hX : EntOk W3 (fun k => D k ∨ (w.heap.size ≤ k ∧ k < W3.heap.size)) ⟨A2, key, c2, A3, row, c3⟩ := ⟨ho2'.rd, ho3.rd, hown (C := none) ho2' s1, hown (C := none) ho3 (by omega), hkl, hrl⟩
      have hins := insert_any hD h.pg h.len hF.page.le (fun p hp => ((hF.here p hp).1).le) (fun e => (hF.past e).1) (by omega) ⟨A2, key, c2, A3, row, c3⟩ hX
      refine hins.mono ?_
      intro e w' hi
      have he := hi.1
      subst he
      exact ⟨rfl, PutT.new h hS hf.symm ⟨rfl, rfl⟩ hfew hbw hi⟩
    clear h hfew hk hr hkl hrl hF hS hf hfind hkn hrn
    go_enter Tryz.func44, Tryz.ntmps44
    go_wp2_with (first
      | (go_at_call 89; refine HFI.out.mono ?_; rintro e w1 ⟨rfl, hb⟩; have HB1 := Lib.hid hb; clear hb)
      | (go_at_call 71; (with_reducible refine (HK.out _ (by exact HB1.out)).mono ?_); rintro e w2 ⟨v2, rfl, ho, hb⟩
         obtain ⟨A2, c2, rfl⟩ := ho.new
         have HO2 := Lib.hid ho
         have HB2 := Lib.hid hb
         clear ho hb)
      | (go_at_call 71; (with_reducible refine (HRW.out _ (by exact HB1.out.trans (HB2.out.mono HB1.out.size))).mono ?_); rintro e w3 ⟨v3, rfl, ho, hb⟩
         obtain ⟨A3, c3, rfl⟩ := ho.new
         have HO3 := Lib.hid ho
         have HB3 := Lib.hid hb
         clear ho hb)
      | (go_at_call 90; refine (HI.out _ _ _ _ _ _ _ HB1.out HO2.out HB2.out HO3.out HB3.out).mono ?_; rintro e w4 ⟨rfl, hp⟩; have HP := Lib.hid hp; clear hp))
    go_ret2
    exact HP.out
  | true =>
    obtain ⟨hi1, hj1⟩ : i < ps.length ∧ j = j := by
      refine ⟨?_, rfl⟩
      rcases Nat.lt_or_ge i ps.length with h1 | h1
      · exact h1
      · have := (hF.past (by have := hF.page.le; omega)).2
        cases this
    clear hj1
    obtain ⟨p, hp⟩ : ∃ p, ps[i]? = some p := ⟨_, List.getElem?_eq_getElem hi1⟩
    obtain ⟨hsp, hfp⟩ := hF.here p hp
    obtain ⟨e, he⟩ : ∃ e, p.es[j]? = some e := by
      unfold hasAt at hfp
      cases he : p.es[j]? with
      | some e => exact ⟨e, rfl⟩
      | none => rw [he] at hfp; cases hfp
    have hjl := (List.getElem?_eq_some_iff.1 he).1
    obtain ⟨o, pc, hpv⟩ : ∃ o pc, p.v = .slice (some ⟨p.g, o, none⟩) p.es.length pc := by
      rcases (h.t.page p (List.mem_of_getElem? hp)).1 with ⟨_, h0, _⟩ | ⟨_, o, pc, h1, _⟩
      · omega
      · exact ⟨o, pc, h1⟩
    obtain ⟨ro, rcap, hbx, hro, hPq⟩ := h.t.cap hp
    have hpe := (h.pg p (List.mem_of_getElem? hp)).2
    have hlen := h.len
    have HC : Hid (∀ W, Below w.heap.size w W → W.cell? ⟨q, 0, none⟩ = some (.slice (some ⟨P, ro, none⟩) ps.length rcap) ∧ W.cell? ⟨P, ro + i, none⟩ = some (.slice (some ⟨p.g, o, none⟩) p.es.length pc) ∧ W.cell? ⟨p.g, o + j * 2 + 1, none⟩ = some (.slice e.rA e.r.length e.rc) ∧ W.frozen? ⟨p.g, o + j * 2 + 1, none⟩ = false) := Lib.hid fun W hb => by
      have h2 := h.below hb
      obtain ⟨ro2, rcap2, hbx2, hro2, _⟩ := h2.t.cap hp
      have hbx3 := (hb.block q h.t.lt).trans hbx
      rw [hbx2] at hbx3
      have e1 : ro2 = ro ∧ rcap2 = rcap := by simp at hbx3; exact hbx3
      obtain ⟨rfl, rfl⟩ := e1
      have hc1 := hro2.cell i p.v (by unfold pagesV; rw [List.getElem?_map, hp]; rfl)
      rw [hpv] at hc1
      obtain ⟨hgq, ho⟩ : p.g ≠ q ∧ OwnC W p.g o pc 2 p.es.length (entV p.es) := by
        rcases (h2.t.page p (List.mem_of_getElem? hp)).1 with ⟨_, h0, _⟩ | ⟨hne, o', cap', e1, ho⟩
        · omega
        · rw [hpv] at e1
          injection e1 with e1 e2 e3
          injection e1 with e1
          injection e1 with e1 e4
          subst e4 e3
          exact ⟨hne, ho⟩
      have hr2 := ho.room
      refine ⟨(box2 hbx2).1, hc1, ?_, ?_⟩
      · rw [Nat.add_assoc]; exact ho.cell _ _ (entV_at he).2
      · rw [Nat.add_assoc]; exact (ho.free (j * 2 + 1) (by omega)).2
    have HP : Hid (∀ W1 W2 A2 c2, Below w.heap.size w W1 → Below W1.heap.size W1 W2 → OwnB W2 W1.heap.size (.slice A2 row.length c2) row → PutT w G D q (kv (flat ps)) key row (.returned (.tuple #[.slice e.rA e.r.length e.rc, .bool true])) (W2.setCell ⟨p.g, o + j * 2 + 1, none⟩ (.slice A2 row.length c2))) := Lib.hid fun W1 W2 A2 c2 hb1 hb2 ho =>
      PutT.old (X := ⟨e.kA, e.k, e.kc, A2, row, c2⟩) h hp he hpv hS hf.symm hb1 hb2 ⟨rfl, rfl, rfl, rfl⟩ ho hrl
    have hii : (i : Int) < (ps.length : Int) := by omega
    have hji : (j : Int) < (p.es.length : Int) := by omega
    have hni : (ps.length : Int) ≤ 1000 := by omega
    have hpi : (p.es.length : Int) ≤ 128 := by omega
    clear h hfew hk hr hkl hrl hF hS hf hfind hkn hrn hp hsp hfp he hjl hpv hbx hro hPq hpe hlen hi1 HK
    go_enter Tryz.func44, Tryz.ntmps44
    go_wp2_with (first
      | (go_at_call 89; refine HFI.out.mono ?_; rintro e1 w1 ⟨rfl, hb⟩; have HB1 := Lib.hid hb
         obtain ⟨x0, x1, x2, x3⟩ := HC.out _ hb
         clear hb)
      | (go_at_call 71; refine (HRW.out _ (by exact HB1.out)).mono ?_; rintro e2 w2 ⟨v2, rfl, ho, hb⟩
         obtain ⟨A2, c2, rfl⟩ := ho.new
         have HY := Lib.hid (HP.out _ _ _ _ HB1.out hb ho)
         obtain ⟨y0, y1, y2, y3⟩ := HC.out _ (HB1.out.trans (hb.mono HB1.out.size))
         clear ho hb))
    go_ret2
    exact HY.out
end

section
open Go.RowKit

/-- what New answers -/
def NewTb (w : World) (en : Ending) (w' : World) : Prop := en = .returned (.pointer (some ⟨w.heap.size, 0, none⟩)) ∧ Tbl w' (· = w.heap.size) (fun _ => False) w.heap.size w.heap.size [] ∧ Below w.heap.size w w'
theorem tbl_new (w : World) : Tbl (w.alloc (.cells #[.slice none 0 0, .int .i64 0] 147)) (· = w.heap.size) (fun _ => False) w.heap.size w.heap.size [] :=
  ⟨⟨⟨.slice none 0 0, heap_alloc_new w _, .inl ⟨rfl, rfl, rfl, rfl⟩⟩, fun p hp => by simp at hp, by simp, fun p hp => by simp at hp, rfl, rfl, fun _ _ h => h, fun j e => by subst e; simp, fun _ h => h.elim⟩, fun p hp => by simp at hp, List.Pairwise.nil, by simp [flat]⟩
set_option maxRecDepth 100000 in
theorem newT_any (w : World) : Calls Tryz.prog 42 #[] w (NewTb w) := by
  have HY : Hid (NewTb w (.returned (.pointer (some ⟨w.heap.size, 0, none⟩))) (w.alloc (.cells #[.slice none 0 0, .int .i64 0] 147))) := Lib.hid ⟨rfl, tbl_new w, alloc_below w _⟩
  go_enter Tryz.func42, Tryz.ntmps42
  go_wp2_with fail
  go_ret
  exact HY.out
set_option maxRecDepth 100000 in
theorem len_any {w : World} {G D : Nat → Prop} {q P : Nat} {ps : List Pg} (h : Tbl w G D q P ps) (m : Nat) (hm : m = (kv (flat ps)).length) : Calls Tryz.prog 113 #[.pointer (some ⟨q, 0, none⟩)] w (Looks (.int .i64 (m : Int)) w) := by
  obtain ⟨v, h1, _⟩ := h.t.box
  have hm2 : m = (flat ps).length := by rw [hm]; simp [kv]
  rw [← hm2] at h1
  obtain ⟨x0, x1⟩ := box2 h1
  have hnil : ∀ (w : World) (a : Option Addr), (binOp .eql 88 (.pointer a) (.pointer none)).run Tryz.prog w = .ok (.bool a.isNone) w := fun w a => by cases a <;> rfl
  clear h h1 hm hm2
  go_enter Tryz.func113, Tryz.ntmps113
  go_wp2_with fail
  go_ret
  exact ⟨rfl, rfl⟩
/-- where an entry that is there lies -/
theorem Tbl.there {w : World} {G D : Nat → Prop} {q P : Nat} {ps : List Pg} (h : Tbl w G D q P ps) {key : List UInt8} {i j : Nat} (hF : FindAt ps key i j true) (hS : SplitB (flat ps) key ((flat (ps.take i)).length + j)) (hf : true = hasAt (flat ps) ((flat (ps.take i)).length + j) key) :
    ∃ p e o pc ro rcap, ps[i]? = some p ∧ p.es[j]? = some e ∧ p.v = .slice (some ⟨p.g, o, none⟩) p.es.length pc ∧ i < ps.length ∧ j < p.es.length ∧ p.es.length ≤ 128 ∧ getK (kv (flat ps)) key = some e.r ∧ EntOk w D e ∧ (flat ps)[(flat (ps.take i)).length + j]? = some e ∧ cmpB e.k key = 0 ∧
      ∀ W, Below w.heap.size w W → W.cell? ⟨q, 0, none⟩ = some (.slice (some ⟨P, ro, none⟩) ps.length rcap) ∧ W.cell? ⟨P, ro + i, none⟩ = some (.slice (some ⟨p.g, o, none⟩) p.es.length pc) ∧ W.cell? ⟨p.g, o + j * 2, none⟩ = some (.slice e.kA e.k.length e.kc) ∧ W.cell? ⟨p.g, o + j * 2 + 1, none⟩ = some (.slice e.rA e.r.length e.rc) := by
  have hi1 : i < ps.length := by
    rcases Nat.lt_or_ge i ps.length with h1 | h1
    · exact h1
    · have := (hF.past (by have := hF.page.le; omega)).2
      cases this
  obtain ⟨p, hp⟩ : ∃ p, ps[i]? = some p := ⟨_, List.getElem?_eq_getElem hi1⟩
  obtain ⟨hsp, hfp⟩ := hF.here p hp
  obtain ⟨e, he⟩ : ∃ e, p.es[j]? = some e := by
    unfold hasAt at hfp
    cases he : p.es[j]? with
    | some e => exact ⟨e, rfl⟩
    | none => rw [he] at hfp; cases hfp
  have hjl := (List.getElem?_eq_some_iff.1 he).1
  obtain ⟨o, pc, hpv⟩ : ∃ o pc, p.v = .slice (some ⟨p.g, o, none⟩) p.es.length pc := by
    rcases (h.t.page p (List.mem_of_getElem? hp)).1 with ⟨_, h0, _⟩ | ⟨_, o, pc, h1, _⟩
    · omega
    · exact ⟨o, pc, h1⟩
  obtain ⟨ro, rcap, hbx, hro, hPq⟩ := h.t.cap hp
  have hfe : (flat ps)[(flat (ps.take i)).length + j]? = some e := by
    rw [flat_at hp, List.getElem?_append_right (by omega), Nat.add_sub_cancel_left, List.getElem?_append_left hjl, he]
  refine ⟨p, e, o, pc, ro, rcap, hp, he, hpv, hi1, hjl, (h.pg p (List.mem_of_getElem? hp)).2, by rw [getK_at h.rise hS, ← hf, hfe]; rfl, h.t.ents p (List.mem_of_getElem? hp) e (List.mem_of_getElem? he), hfe, by unfold hasAt at hf; rw [hfe] at hf; simpa using hf.symm, fun W hb => ?_⟩
  have h2 := h.below hb
  obtain ⟨ro2, rcap2, hbx2, hro2, _⟩ := h2.t.cap hp
  have hbx3 := (hb.block q h.t.lt).trans hbx
  rw [hbx2] at hbx3
  have e1 : ro2 = ro ∧ rcap2 = rcap := by simp at hbx3; exact hbx3
  obtain ⟨rfl, rfl⟩ := e1
  have hc1 := hro2.cell i p.v (by unfold pagesV; rw [List.getElem?_map, hp]; rfl)
  rw [hpv] at hc1
  obtain ⟨hgq, ho⟩ : p.g ≠ q ∧ OwnC W p.g o pc 2 p.es.length (entV p.es) := by
    rcases (h2.t.page p (List.mem_of_getElem? hp)).1 with ⟨_, h0, _⟩ | ⟨hne, o', cap', e1, ho⟩
    · omega
    · rw [hpv] at e1
      injection e1 with e1 e2 e3
      injection e1 with e1
      injection e1 with e1 e4
      subst e4 e3
      exact ⟨hne, ho⟩
  exact ⟨(box2 hbx2).1, hc1, ho.cell _ _ (entV_at he).1, by rw [Nat.add_assoc]; exact ho.cell _ _ (entV_at he).2⟩
end

section
open Go.RowKit

/-- does an entry lie in a range? -/
def inR (from_ to_ : List UInt8) (e : Ent) : Bool := decide (0 ≤ cmpB e.k from_) && (to_.isEmpty || decide (cmpB e.k to_ < 0))
def rangeL (from_ to_ : List UInt8) (L : List Ent) : List Ent := L.filter (inR from_ to_)
theorem range_app (f t : List UInt8) (A B : List Ent) : rangeL f t (A ++ B) = rangeL f t A ++ rangeL f t B := by simp [rangeL]
/-- where the range of a page ends -/
def endOf (to_ : List UInt8) (es : List Ent) (b : Nat) : Nat := if to_.isEmpty then es.length else b
theorem range_none {f t : List UInt8} {L : List Ent} (h : ∀ e ∈ L, inR f t e = false) : rangeL f t L = [] := by
  unfold rangeL
  rw [List.filter_eq_nil_iff]
  intro e he
  rw [h e he]
  simp
theorem range_all {f t : List UInt8} {L : List Ent} (h : ∀ e ∈ L, inR f t e = true) : rangeL f t L = L := by
  unfold rangeL
  rw [List.filter_eq_self]
  exact h
/-- the range of a page by its two places -/
theorem range_cut {f t : List UInt8} {es : List Ent} {a b : Nat} (ha : SplitB es f a) (hb : SplitB es t b) : rangeL f t es = (es.drop a).take (max a (endOf t es b) - a) := by
  have e1 : es = es.take a ++ ((es.drop a).take (max a (endOf t es b) - a) ++ (es.drop a).drop (max a (endOf t es b) - a)) := by rw [List.take_append_drop, List.take_append_drop]
  have h1 : rangeL f t (es.take a) = [] := range_none fun e he => by
    obtain ⟨j, hj⟩ := List.mem_iff_getElem?.1 he
    rw [List.getElem?_take] at hj
    split at hj
    · have := ha.lo j e hj (by omega)
      unfold inR
      rw [decide_eq_false (by omega)]; rfl
    · cases hj
  have h2 : rangeL f t ((es.drop a).take (max a (endOf t es b) - a)) = (es.drop a).take (max a (endOf t es b) - a) := range_all fun e he => by
    obtain ⟨j, hj⟩ := List.mem_iff_getElem?.1 he
    rw [List.getElem?_take] at hj
    split at hj
    · rename_i hjl
      rw [List.getElem?_drop] at hj
      have h3 := ha.hi _ e hj (by omega)
      unfold inR
      rw [decide_eq_true h3, Bool.true_and]
      cases hte : t.isEmpty with
      | true => rfl
      | false =>
        have h4 : endOf t es b = b := by unfold endOf; rw [hte]; rfl
        rw [h4] at hjl
        have := hb.lo _ e hj (by omega)
        simp [this]
    · cases hj
  have h5 : rangeL f t ((es.drop a).drop (max a (endOf t es b) - a)) = [] := range_none fun e he => by
    obtain ⟨j, hj⟩ := List.mem_iff_getElem?.1 he
    rw [List.getElem?_drop, List.getElem?_drop] at hj
    have hlt := (List.getElem?_eq_some_iff.1 hj).1
    cases hte : t.isEmpty with
    | true =>
      have h4 : endOf t es b = es.length := by unfold endOf; rw [hte]; rfl
      rw [h4] at hlt
      omega
    | false =>
      have h4 : endOf t es b = b := by unfold endOf; rw [hte]; rfl
      rw [h4] at hj
      have := hb.hi _ e hj (by omega)
      unfold inR
      rw [hte, decide_eq_false (by omega : ¬ cmpB e.k t < 0)]
      simp
  have h6 : rangeL f t (es.take a ++ ((es.drop a).take (max a (endOf t es b) - a) ++ (es.drop a).drop (max a (endOf t es b) - a))) = (es.drop a).take (max a (endOf t es b) - a) := by rw [range_app, range_app, h1, h2, h5, List.nil_append, List.append_nil]
  rw [← e1] at h6
  exact h6
/-- what cut answers -/
def CuT (w : World) (A0 : Option Addr) (es l : List Ent) (en : Ending) (w' : World) : Prop := ∃ A a, en = .returned (.slice A l.length l.length) ∧ RdE w' A l ∧ l = (es.drop a).take l.length ∧ (l ≠ [] → A = A0.map fun x => x.add (a * 2)) ∧ Below w.heap.size w w'
theorem RdE.part {w : World} {A : Option Addr} {es : List Ent} (h : RdE w A es) {a m : Nat} {A' : Option Addr} (hA : (es.drop a).take m ≠ [] → A' = A.map fun x => x.add (a * 2)) : RdE w A' ((es.drop a).take m) := by
  refine ⟨fun hn => ?_, fun e he => h.ok e (List.mem_of_mem_drop (List.mem_of_mem_take he))⟩
  have hne : (es.drop a).take m ≠ [] := fun e => hn (by rw [e]; rfl)
  have hes : entV es ≠ [] := fun e => by
    have e2 := congrArg List.length e
    rw [entV_len] at e2
    have e3 : es = [] := List.length_eq_zero_iff.1 (by simp only [List.length_nil] at e2; omega)
    rw [e3] at hne
    simp at hne
  obtain ⟨b, o, e1, hlt, hc⟩ := h.cells hes
  refine ⟨b, o + a * 2, by rw [hA hne, e1, Option.map_some, Addr.add_lit], hlt, fun j u hj => ?_⟩
  rw [← entV_take, ← entV_drop, List.getElem?_take] at hj
  split at hj
  · rw [List.getElem?_drop] at hj
    rw [Nat.add_assoc]
    exact hc _ u hj
  · cases hj
set_option maxRecDepth 100000 in
set_option maxHeartbeats 4000000 in
theorem cut_any (es : List Ent) (hr : Rise es) (f t : List UInt8) (A F T : Option Addr) (cap fn fc tn tc : Nat) (hfn : f.length = fn) (htn : t.length = tn) (hcap : es.length ≤ cap) (w : World) (hl : es.length ≤ 1000) (hrd : RdE w A es) (hf : RdB w w.heap.size F f) (ht : RdB w w.heap.size T t) :
    Calls Tryz.prog 119 #[.slice A es.length cap, .slice F fn fc, .slice T tn tc] w (CuT w A es (rangeL f t es)) := by
  obtain ⟨a, ha⟩ := split_ex es hr f
  obtain ⟨b, hb⟩ := split_ex es hr t
  have HF := Lib.hid (pageFind_any es f a ha A F es.length cap fn fc rfl hfn w (by omega) hrd hf)
  have HT : Hid (∀ W, Below w.heap.size w W → Calls Tryz.prog 122 #[.slice A es.length cap, .slice T tn tc] W (Ans (.tuple #[.int .i64 (b : Int), .bool (hasAt es b t)]) W)) := Lib.hid fun W hbw => pageFind_any es t b hb A T es.length cap tn tc rfl htn W (by omega) (hrd.below hbw) ((ht.below hbw (Nat.le_refl _)).more hbw.size)
  have hrc := range_cut ha hb
  have hal := ha.le
  have hbl := hb.le
  obtain ⟨hA1, hhA⟩ : ∃ x, x = hasAt es a f := ⟨_, rfl⟩
  obtain ⟨hB1, hhB⟩ : ∃ x, x = hasAt es b t := ⟨_, rfl⟩
  rw [← hhA] at HF
  rw [← hhB] at HT
  clear hhA hhB
  have hni : (es.length : Int) ≤ 1000 := by omega
  have hai : (a : Int) ≤ (es.length : Int) := by omega
  have hbi : (b : Int) ≤ (es.length : Int) := by omega
  have hci : (es.length : Int) ≤ (cap : Int) := by omega
  have HY : Hid (∀ w' (x m : Nat) A', x = endOf t es b → m = max a x - a → (m ≠ 0 → A' = A.map fun x => x.add (a * 2)) → Below w.heap.size w w' → CuT w A es (rangeL f t es) (.returned (.slice A' m m)) w') := Lib.hid fun w' x m A' hx hm hA' hbw => by
    subst hx
    rw [hrc, ← hm]
    have hml : ((es.drop a).take m).length = m := by
      rw [List.length_take, List.length_drop]
      have : endOf t es b ≤ es.length := by unfold endOf; split <;> omega
      omega
    exact ⟨A', a, by rw [hml], (hrd.below hbw).part (fun hne => hA' (fun e => hne (List.length_eq_zero_iff.1 (by rw [hml]; exact e)))), by rw [hml], fun hne => hA' (fun e => hne (List.length_eq_zero_iff.1 (by rw [hml]; exact e))), hbw⟩
  cases hte : t.isEmpty with
  | true =>
    have htn0 : tn = 0 := by rw [← htn]; simpa using hte
    have he : endOf t es b = es.length := by unfold endOf; rw [hte]; rfl
    subst htn0
    have HE := Lib.hid he
    clear hr hf ht hrd ha hb hrc hte he HT hfn htn
    go_enter Tryz.func119, Tryz.ntmps119
    go_wp2_with (go_at_call 122; refine HF.out.mono ?_; rintro e w1 ⟨rfl, hb⟩; have HB1 := Lib.hid hb; clear hb)
    all_goals
      go_ret
      first
        | exact HY.out _ _ _ _ HE.out.symm (by omega) (fun hm => by first | rfl | (exfalso; omega)) HB1.out
        | (exfalso; simp_all; omega)
  | false =>
    have htn0 : 0 < tn := by
      rw [← htn]
      rcases t with _ | ⟨y, t⟩
      · simp at hte
      · simp
    have hti : (0 : Int) < (tn : Int) := by omega
    have he : endOf t es b = b := by unfold endOf; rw [hte]; rfl
    have HE := Lib.hid he
    clear hr hf ht hrd ha hb hrc hte he hfn htn
    go_enter Tryz.func119, Tryz.ntmps119
    go_wp2_with (first
      | (go_at_call 122; (with_reducible refine HF.out.mono ?_); rintro e w1 ⟨rfl, hb⟩; have HB1 := Lib.hid hb; clear hb)
      | (go_at_call 122; (with_reducible refine (HT.out _ HB1.out).mono ?_); rintro e w2 ⟨rfl, hb⟩; have HB2 := Lib.hid (HB1.out.trans (hb.mono HB1.out.size)); clear hb))
    all_goals
      go_ret
      first
        | exact HY.out _ _ _ _ HE.out.symm (by omega) (fun hm => by first | rfl | (exfalso; omega)) HB2.out
        | (exfalso; simp_all; omega)
end
end Go.Proofs.YtkohppalfcalbaaGreat

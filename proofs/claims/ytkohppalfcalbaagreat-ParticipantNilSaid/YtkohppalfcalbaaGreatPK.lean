/- Package table: insert. -/
import Derived.Test.YtkohppalfcalbaaGreatPZ1
import Derived.Deep.RegionHeld3
namespace Go.Proofs.YtkohppalfcalbaaGreat
open Go.RowKit

/-- what insert answers: the table has an entry more -/
def InT (w : World) (G D : Nat → Prop) (q c : Nat) (L : List Ent) (e : Ending) (w' : World) : Prop := e = .returned (.tuple #[]) ∧ ∃ G' P' ps', Tb0 w' G' D q P' (c + 1) ps' ∧ flat ps' = L ∧ (∀ p ∈ ps', p.es ≠ [] ∧ p.es.length ≤ 128) ∧ (∀ j, G' j → G j ∨ w.heap.size ≤ j) ∧ Only G w w'
/-- a table at region 6: the world, and where the page lies -/
structure AtPg (W0 W : World) (G G0 D : Nat → Prop) (q P c i j o cap : Nat) (A : Option Addr) (pc : Nat) (p : Pg) (ps : List Pg) : Prop where
  t : Tb0 W G D q P c ps
  hp : ps[i]? = some p
  box : W.heap[q]? = some (.cells #[.slice (some ⟨P, o, none⟩) ps.length cap, .int .i64 (c : Int)] 147 (0, 0))
  own : OwnC W P o cap 1 ps.length (pagesV ps)
  pq : P ≠ q
  v : p.v = .slice A p.es.length pc
  jl : j ≤ p.es.length
  g : ∀ j, G j → G0 j ∨ W0.heap.size ≤ j
  o_ : Only G0 W0 W
theorem AtPg.of {W0 W : World} {G G0 D : Nat → Prop} {q P c i j : Nat} {p : Pg} {ps : List Pg} (h : Tb0 W G D q P c ps) (hp : ps[i]? = some p) (hj : j ≤ p.es.length) (hg : ∀ j, G j → G0 j ∨ W0.heap.size ≤ j) (hO : Only G0 W0 W) : ∃ o cap A pc, AtPg W0 W G G0 D q P c i j o cap A pc p ps := by
  obtain ⟨o, cap, h1, h2, h3⟩ := h.cap hp
  obtain ⟨A, pc, h4, _⟩ := (h.page p (List.mem_of_getElem? hp)).1.slice
  exact ⟨o, cap, A, pc, h, hp, h1, h2, h3, h4, hj, hg, hO⟩
theorem AtPg.cells {W0 W : World} {G G0 D : Nat → Prop} {q P c i j o cap pc : Nat} {A : Option Addr} {p : Pg} {ps : List Pg} (h : AtPg W0 W G G0 D q P c i j o cap A pc p ps) : W.cell? ⟨q, 0, none⟩ = some (.slice (some ⟨P, o, none⟩) ps.length cap) ∧ W.cell? ⟨P, o + i, none⟩ = some (.slice A p.es.length pc) := by
  refine ⟨(box2 h.box).1, ?_⟩
  have := h.own.cell i p.v (by unfold pagesV; rw [List.getElem?_map, h.hp]; rfl)
  rw [this, h.v]
theorem AtPg.below {W0 W W2 : World} {G G0 D : Nat → Prop} {q P c i j o cap pc : Nat} {A : Option Addr} {p : Pg} {ps : List Pg} (h : AtPg W0 W G G0 D q P c i j o cap A pc p ps) (hb : Below W.heap.size W W2) : AtPg W0 W2 G G0 D q P c i j o cap A pc p ps :=
  ⟨h.t.below hb, h.hp, (hb.block q h.t.lt).trans h.box, h.own.only (Only.of_below (K := fun _ => False) hb) id, h.pq, h.v, h.jl, h.g, h.o_.trans (Only.of_below (K := fun _ => False) hb) (fun _ _ e => e.elim)⟩
/-- what a page's Insert makes of it -/
structure BhPg (W0 W : World) (G G0 D : Nat → Prop) (q P c i o cap g' : Nat) (v' : Value) (es' : List Ent) (p : Pg) (ps : List Pg) (W1 : World) : Prop where
  a : ∃ j A pc, AtPg W0 W G G0 D q P c i j o cap A pc p ps
  v : HeldC W1 q g' 2 v' es'.length (entV es')
  o_ : Only (fun k => k = p.g ∧ k ≠ q) W W1
  g : g' = p.g ∨ W.heap.size ≤ g'
  e : ∀ e ∈ es', EntOk W D e
theorem BhPg.cells {W0 W W1 : World} {G G0 D : Nat → Prop} {q P c i o cap g' : Nat} {v' : Value} {es' : List Ent} {p : Pg} {ps : List Pg} (h : BhPg W0 W G G0 D q P c i o cap g' v' es' p ps W1) : ∀ V : World, V.heap = W1.heap → V.cell? ⟨q, 0, none⟩ = some (.slice (some ⟨P, o, none⟩) ps.length cap) ∧ V.cell? ⟨P, o + i, none⟩ = some p.v := fun V e => by
  obtain ⟨j, A, pc, ha⟩ := h.a
  have hP : ¬ (P = p.g ∧ P ≠ q) := fun e => (ha.t.page p (List.mem_of_getElem? ha.hp)).2.1 e.1.symm
  refine ⟨(box2 ((by rw [e] : V.heap[q]? = W1.heap[q]?).trans ((h.o_.block q ha.t.lt (fun e => e.2 rfl)).trans ha.box))).1, ?_⟩
  have h2 := ha.cells.2
  rw [← ha.v] at h2
  exact (World.cell?_of_block ((by rw [e] : V.heap[P]? = W1.heap[P]?).trans (h.o_.block P (ha.t.glt P ha.t.gP) hP))).trans h2
theorem BhPg.frz {W0 W W1 : World} {G G0 D : Nat → Prop} {q P c i o cap g' : Nat} {v' : Value} {es' : List Ent} {p : Pg} {ps : List Pg} (h : BhPg W0 W G G0 D q P c i o cap g' v' es' p ps W1) : W1.frozen? ⟨P, o + i, none⟩ = false := by
  obtain ⟨j, A, pc, ha⟩ := h.a
  have hlt := (List.getElem?_eq_some_iff.1 ha.hp).1
  have hr := ha.own.room
  exact ((ha.own.only h.o_ (fun e => (ha.t.page p (List.mem_of_getElem? ha.hp)).2.1 e.1.symm)).free i (by omega)).2
/-- .. and laid back -/
theorem BhPg.done {W0 W W1 : World} {G G0 D : Nat → Prop} {q P c i o cap g' : Nat} {v' : Value} {es' : List Ent} {p : Pg} {ps : List Pg} (h : BhPg W0 W G G0 D q P c i o cap g' v' es' p ps W1) (c' : Nat) :
    ∃ o2 cap2 A2 pc2, AtPg W0 ((W1.setCell ⟨P, o + i, none⟩ v').setCell ⟨q, 1, none⟩ (.int .i64 (c' : Int))) (fun j => G j ∨ j = g') G0 D q P c' i 0 o2 cap2 A2 pc2 ⟨g', v', es'⟩ (ps.set i ⟨g', v', es'⟩) := by
  obtain ⟨j, A, pc, ha⟩ := h.a
  obtain ⟨h1, h2⟩ := ha.t.setPage ha.hp ha.box h.o_ h.v h.g h.e
  obtain ⟨h3, h4⟩ := h1.setCount c'
  have hlt := (List.getElem?_eq_some_iff.1 ha.hp).1
  refine AtPg.of h3 (by rw [List.getElem?_set, if_pos rfl, if_pos hlt]) (Nat.zero_le _) (fun j hj => ?_) ?_
  · rcases hj with hj | rfl
    · exact ha.g j hj
    · rcases h.g with e | e
      · rw [e]; exact ha.g _ (ha.t.page p (List.mem_of_getElem? ha.hp)).2.2
      · right; have := ha.o_.size; omega
  · have hG : ∀ k, (k = p.g ∧ k ≠ q) ∨ k = P → G k := by
      rintro k (⟨e, _⟩ | e)
      · rw [e]; exact (ha.t.page p (List.mem_of_getElem? ha.hp)).2.2
      · rw [e]; exact ha.t.gP
    have h5 : Only G W _ := (h2.more (fun k _ e => hG k e)).trans h4 (fun k _ e => by rw [e]; exact ha.t.gq)
    exact ha.o_.trans h5 (fun k hk e => (ha.g k e).resolve_right (by omega))
/-- the page in which an entry is laid: the world at region 6 -/
structure AtR (w wx : World) (G D : Nat → Prop) (q c : Nat) (X : Ent) (LL : List Ent) (G1 : Nat → Prop) (P i j o cap : Nat) (A : Option Addr) (pc : Nat) (p : Pg) (ps : List Pg) : Prop where
  a : AtPg w wx G1 G D q P c i j o cap A pc p ps
  ll : ∀ p' : Pg, p'.es = p.es.take j ++ (X :: p.es.drop j) → flat (ps.set i p') = LL
  others : ∀ k x, ps[k]? = some x → k ≠ i → x.es ≠ [] ∧ x.es.length ≤ 128
  few : p.es.length ≤ 128
  fewp : ps.length ≤ 1000
  pg : p.g < w.heap.size
  bx : wx.heap[w.heap.size]? = some (.cells #[.slice X.kA X.k.length X.kc, .slice X.rA X.r.length X.rc] 92 (0, 0))
  bel : w.heap.size < wx.heap.size
  x : EntOk wx D X
theorem AtR.below {w wx W : World} {G D : Nat → Prop} {q c : Nat} {X : Ent} {LL : List Ent} {G1 : Nat → Prop} {P i j o cap : Nat} {A : Option Addr} {pc : Nat} {p : Pg} {ps : List Pg} (h : AtR w wx G D q c X LL G1 P i j o cap A pc p ps) (hb : Below wx.heap.size wx W) : AtR w W G D q c X LL G1 P i j o cap A pc p ps :=
  ⟨h.a.below hb, h.ll, h.others, h.few, h.fewp, h.pg, (hb.block _ h.bel).trans h.bx, Nat.lt_of_lt_of_le h.bel hb.size, h.x.only (Only.of_below (K := fun _ => False) hb) (fun _ _ => id)⟩
/-- the table behind the first if: it has a page -/
structure OnePg (w wx : World) (G D : Nat → Prop) (q c i j : Nat) (X : Ent) (LL : List Ent) (G1 : Nat → Prop) (P : Nat) (ps : List Pg) : Prop where
  t : Tb0 wx G1 D q P c ps
  ne : ps ≠ []
  cases : (∃ p, ps[i]? = some p ∧ j ≤ p.es.length ∧ ∀ p' : Pg, p'.es = p.es.take j ++ (X :: p.es.drop j) → flat (ps.set i p') = LL) ∨ (i = ps.length ∧ ∀ k p, ps[k]? = some p → k + 1 = ps.length → ∀ p' : Pg, p'.es = p.es ++ [X] → flat (ps.set k p') = LL)
  pages : ∀ p ∈ ps, (p.es ≠ [] ∨ ps.length = 1) ∧ p.es.length ≤ 128 ∧ p.g < w.heap.size
  fewp : ps.length ≤ 1000
  bx : wx.heap[w.heap.size]? = some (.cells #[.slice X.kA X.k.length X.kc, .slice X.rA X.r.length X.rc] 92 (0, 0))
  bel : w.heap.size < wx.heap.size
  x : EntOk wx D X
  g : ∀ j, G1 j → G j ∨ w.heap.size ≤ j
  o_ : Only G w wx
def OneV (w : World) (G D : Nat → Prop) (q c i j : Nat) (X : Ent) (LL : List Ent) (wx : World) : Prop := ∃ G1 P ps, OnePg w wx G D q c i j X LL G1 P ps
theorem OnePg.of {w wx : World} {G D : Nat → Prop} {q P c i j : Nat} {ps : List Pg} {X : Ent} (h : Tb0 w G D q P c ps) (hb : Below w.heap.size w wx) (hne : ps ≠ []) (hf : ∀ p ∈ ps, p.es ≠ [] ∧ p.es.length ≤ 128) (hn : ps.length ≤ 1000) (hil : i ≤ ps.length) (hj : ∀ p, ps[i]? = some p → j ≤ p.es.length) (hj0 : i = ps.length → j = 0) (hx : EntOk w D X)
    (hbx : wx.heap[w.heap.size]? = some (.cells #[.slice X.kA X.k.length X.kc, .slice X.rA X.r.length X.rc] 92 (0, 0))) (hbl : w.heap.size < wx.heap.size) : OnePg w wx G D q c i j X (laidIn (flat ps) ((flat (ps.take i)).length + j) X) G P ps := by
  refine ⟨h.below hb, hne, ?_, fun p hp => ⟨.inl (hf p hp).1, (hf p hp).2, h.glt _ (h.page p hp).2.2⟩, hn, hbx, hbl, hx.only (Only.of_below (K := fun _ => False) hb) (fun _ _ => id), fun j hj => .inl hj, Only.of_below hb⟩
  rcases Nat.lt_or_ge i ps.length with hlt | hge
  · obtain ⟨p, hp⟩ : ∃ p, ps[i]? = some p := ⟨_, List.getElem?_eq_getElem hlt⟩
    exact .inl ⟨p, hp, hj p hp, fun p' hp' => flat_ins hp (hj p hp) hp'⟩
  · have hie : i = ps.length := by omega
    refine .inr ⟨hie, fun k p hk hk1 p' hp' => ?_⟩
    rw [flat_ins_end hk hk1 hp', hj0 hie, hie, List.take_length, Nat.add_zero]
/-- .. a page of nothing in a row of its own -/
theorem OnePg.nil {w w0 : World} {G D : Nat → Prop} {q P c : Nat} {X : Ent} {v : Value} (h : Tb0 w G D q P c []) (hb : Below w.heap.size w w0) (hbl : w.heap.size < w0.heap.size) (hx : EntOk w D X) (hv : w0.heap[q]? = some (.cells #[v, .int .i64 (c : Int)] 147 (0, 0)))
    (hbx : w0.heap[w.heap.size]? = some (.cells #[.slice X.kA X.k.length X.kc, .slice X.rA X.r.length X.rc] 92 (0, 0))) :
    OneV w G D q c 0 0 X [X] ((w0.alloc (.cells #[.slice none 0 0] 156)).setCell ⟨q, 0, none⟩ (.slice (some ⟨w0.heap.size, 0, none⟩) 1 1)) := by
  have hb1 := alloc_below w0 (.cells #[.slice none 0 0] 156)
  have h0 := h.below hb
  have hql := h0.lt
  have hh : (w0.alloc (.cells #[.slice none 0 0] 156)).heap[w0.heap.size]? = some (.cells #[.slice none 0 0] 156 (0, 0)) := heap_alloc_new w0 _
  have hsz : (w0.alloc (.cells #[.slice none 0 0] 156)).heap.size = w0.heap.size + 1 := by simp
  have hrow : HeldC (w0.alloc (.cells #[.slice none 0 0] 156)) q w0.heap.size 1 (.slice (some ⟨w0.heap.size, 0, none⟩) 1 1) 1 (pagesV [⟨q, .slice none 0 0, []⟩]) := by
    refine .inr ⟨by omega, 0, 1, rfl, by omega, rfl, Nat.le_refl _, fun j hj => ?_, fun j u hu => ?_⟩
    · have : j = 0 := by omega
      subst this
      refine ⟨by rw [cell_of_row _ _ _ _ _ (0, 0) hh]; rfl, frozen_of hh _⟩
    · rw [Nat.zero_add, cell_of_row _ _ _ _ _ (0, 0) hh]
      simpa [pagesV] using hu
  obtain ⟨G', h2, hG', hO⟩ := h0.setRow (v := v) (ps' := [⟨q, .slice none 0 0, []⟩]) hv (Only.of_below hb1) hrow rfl (.inr (Nat.le_refl _)) (fun p hp => by
    rw [List.mem_singleton] at hp
    subst hp
    exact .inr ⟨.inl ⟨rfl, rfl, rfl, rfl⟩, fun _ => rfl, fun e => by have : q = w0.heap.size := e; omega, h.dis _ h.gq, fun e he => by simp at he⟩) (by simp)
  have hPl := h0.glt P h0.gP
  have hOw : Only G w ((w0.alloc (.cells #[.slice none 0 0] 156)).setCell ⟨q, 0, none⟩ (.slice (some ⟨w0.heap.size, 0, none⟩) 1 1)) := (Only.of_below (K := G) hb).trans hO (fun k _ e => by rcases e with rfl | rfl; exact h.gP; exact h.gq)
  have hbw : w.heap.size ≠ P ∧ w.heap.size ≠ q := ⟨by have := h.glt P h.gP; omega, by have := h.lt; omega⟩
  refine ⟨G', w0.heap.size, _, ⟨h2, by simp, .inl ⟨_, rfl, Nat.zero_le _, fun p' hp' => by simp at hp'; simp [flat, hp']⟩, fun p hp => ?_, by simp, (hO.block _ hbl (fun e => by rcases e with e | e; exact hbw.1 e; exact hbw.2 e)).trans hbx, Nat.lt_of_lt_of_le hbl hO.size, hx.only hOw (fun j hj hg => h.dis j hg hj), fun j hj => ?_, hOw⟩⟩
  · rw [List.mem_singleton] at hp
    subst hp
    exact ⟨.inr rfl, by simp, h.lt⟩
  · rcases hG' j hj with e | rfl | ⟨p, hp, rfl⟩
    · exact .inl e
    · exact .inr (Nat.le_of_lt hbl)
    · rw [List.mem_singleton] at hp
      subst hp
      exact .inl h.gq
/-- .. which page it is -/
theorem OnePg.at_ {w wx : World} {G D : Nat → Prop} {q P c i j k : Nat} {ps : List Pg} {X : Ent} {LL : List Ent} {G1 : Nat → Prop} {p : Pg} (h : OnePg w wx G D q c i j X LL G1 P ps) (hp : ps[k]? = some p) (j' : Nat) (hj : j' ≤ p.es.length) (hl : ∀ p' : Pg, p'.es = p.es.take j' ++ (X :: p.es.drop j') → flat (ps.set k p') = LL) : ∃ o cap A pc, AtR w wx G D q c X LL G1 P k j' o cap A pc p ps := by
  obtain ⟨o, cap, A, pc, ha⟩ := AtPg.of h.t hp hj h.g h.o_
  obtain ⟨h1, h2, h3⟩ := h.pages p (List.mem_of_getElem? hp)
  refine ⟨o, cap, A, pc, ha, hl, fun k' x hx hne => ?_, h2, h.fewp, h3, h.bx, h.bel, h.x⟩
  obtain ⟨h4, h5, _⟩ := h.pages x (List.mem_of_getElem? hx)
  refine ⟨h4.resolve_right (fun e => ?_), h5⟩
  have := (List.getElem?_eq_some_iff.1 hx).1
  have := (List.getElem?_eq_some_iff.1 hp).1
  omega
/-- the world behind region 10: a page more -/
def SpR (w : World) (G D : Nat → Prop) (q c i : Nat) (p : Pg) (ps : List Pg) (wx : World) : Prop := ∃ G4 P4 pn, pn.es = p.es.drop 64 ∧ Tb0 wx G4 D q P4 c (ps.take (i + 1) ++ (pn :: ps.drop (i + 1))) ∧ (∀ j, G4 j → G j ∨ w.heap.size ≤ j) ∧ Only G w wx
theorem AtPg.split {w W7 W w11 : World} {G3 G D : Nat → Prop} {q P c i j o cap pc P' : Nat} {A : Option Addr} {p pn : Pg} {ps : List Pg} {v' : Value} (h7 : AtPg w W7 G3 G D q P c i j o cap A pc p ps) (hb : Below W7.heap.size W7 W) (hpn : HeldC W q pn.g 2 pn.v pn.es.length (entV pn.es)) (hge : W7.heap.size ≤ pn.g) (hes : pn.es = p.es.drop 64)
    (hv : HeldC w11 q P' 1 v' (ps.length + 1) (pagesV (ps.take (i + 1) ++ (pn :: ps.drop (i + 1))))) (hO : Only (fun k => k = P ∧ k ≠ q) W w11) (hP : P' = P ∨ W.heap.size ≤ P') : SpR w G D q c i p ps (w11.setCell ⟨q, 0, none⟩ v') := by
  have h := h7.below hb
  have hlt := (List.getElem?_eq_some_iff.1 h.hp).1
  have hpl := hpn.lt_ h.t.lt
  have hP7 := h7.t.glt P h7.t.gP
  obtain ⟨G4, h1, h2, h3⟩ := h.t.setRow (v := .slice (some ⟨P, o, none⟩) ps.length cap) (ps' := ps.take (i + 1) ++ (pn :: ps.drop (i + 1))) h.box hO hv (by rw [List.length_append, List.length_cons, List.length_take, List.length_drop]; omega) hP (fun x hx => by
    rw [List.mem_append, List.mem_cons] at hx
    rcases hx with hx | rfl | hx
    · exact .inl (List.mem_of_mem_take hx)
    · refine .inr ⟨hpn, fun e => by omega, fun e => by rcases hP with e2 | e2 <;> omega, fun hd => by have := h7.t.dlt _ hd; omega, fun e he => ?_⟩
      rw [hes] at he
      exact h.t.ents p (List.mem_of_getElem? h.hp) e (List.mem_of_mem_drop he)
    · exact .inl (List.mem_of_mem_drop hx)) (by
    rw [List.map_append, List.map_cons]
    have h4 := h.t.apart
    have h5 : (ps.map Pg.g) = (ps.take (i + 1)).map Pg.g ++ (ps.drop (i + 1)).map Pg.g := by rw [← List.map_append, List.take_append_drop]
    rw [h5] at h4
    have h6 : ∀ x ∈ ps, x.g ≠ pn.g := fun x hx e => by have := h7.t.glt _ (h7.t.page x hx).2.2; omega
    rw [List.nodup_append] at h4 ⊢
    obtain ⟨n1, n2, n3⟩ := h4
    refine ⟨n1, List.nodup_cons.2 ⟨fun hm => ?_, n2⟩, fun a ha b hb2 => ?_⟩
    · obtain ⟨x, hx, e⟩ := List.mem_map.1 hm
      exact h6 x (List.mem_of_mem_drop hx) e
    · rw [List.mem_cons] at hb2
      rcases hb2 with rfl | hb2
      · obtain ⟨x, hx, e⟩ := List.mem_map.1 ha
        exact fun e2 => h6 x (List.mem_of_mem_take hx) (e.trans e2)
      · exact n3 a ha b hb2)
  refine ⟨G4, P', pn, hes, h1, fun k hk => ?_, h.o_.trans h3 (fun k hk e => ?_)⟩
  · rcases h2 k hk with h8 | rfl | ⟨x, hx, rfl⟩
    · exact h.g k h8
    · rcases hP with rfl | hP
      · exact h.g _ h.t.gP
      · right; have := h.o_.size; omega
    · rw [List.mem_append, List.mem_cons] at hx
      rcases hx with hx | rfl | hx
      · exact h.g _ (h.t.page x (List.mem_of_mem_take hx)).2.2
      · right; have := h7.o_.size; omega
      · exact h.g _ (h.t.page x (List.mem_of_mem_drop hx)).2.2
  · rcases e with rfl | rfl
    · exact (h.g _ h.t.gP).resolve_right (by omega)
    · exact (h.g _ h.t.gq).resolve_right (by omega)
/-- behind region 11: the page is cut -/
theorem SpR.done {w wx w12 : World} {G4 G D : Nat → Prop} {q P4 c i o cap o5 cap5 : Nat} {p pn : Pg} {ps : List Pg} {LL : List Ent} (h : Tb0 wx G4 D q P4 c (ps.take (i + 1) ++ (pn :: ps.drop (i + 1)))) (hpn : pn.es = p.es.drop 64) (hg : ∀ j, G4 j → G j ∨ w.heap.size ≤ j) (hO0 : Only G w wx) (hp : ps[i]? = some p) (hN : p.es.length = 129)
    (hbox : wx.heap[q]? = some (.cells #[.slice (some ⟨P4, o, none⟩) (ps.take (i + 1) ++ (pn :: ps.drop (i + 1))).length cap, .int .i64 (c : Int)] 147 (0, 0))) (hgq : p.g ≠ q)
    (ho : OwnC w12 p.g o5 cap5 2 64 (entV (p.es.take 64))) (hO : Only (· = p.g) wx w12) (hf : ∀ k x, ps[k]? = some x → k ≠ i → x.es ≠ [] ∧ x.es.length ≤ 128) (hLL : flat ps = LL) (m : Nat) (hc : c = m + 1) :
    InT w G D q m LL (.returned (.tuple #[])) (w12.setCell ⟨P4, o + i, none⟩ (.slice (some ⟨p.g, o5, none⟩) 64 cap5)) := by
  subst hc
  have hlt := (List.getElem?_eq_some_iff.1 hp).1
  have hp4 : (ps.take (i + 1) ++ (pn :: ps.drop (i + 1)))[i]? = some p := by
    rw [List.getElem?_append_left (by rw [List.length_take]; omega), List.getElem?_take, if_pos (by omega), hp]
  have htl : (p.es.take 64).length = 64 := by rw [List.length_take]; omega
  obtain ⟨h1, h2⟩ := h.setPage (g' := p.g) (v' := .slice (some ⟨p.g, o5, none⟩) 64 cap5) (es' := p.es.take 64) hp4 hbox (hO.more (fun k _ e => ⟨e, by rw [e]; exact hgq⟩)) (.inr ⟨hgq, o5, cap5, by rw [htl], by rw [htl]; exact ho⟩) (.inl rfl) (fun e he => h.ents p (List.mem_of_getElem? hp4) e (List.mem_of_mem_take he))
  refine ⟨rfl, _, P4, _, h1, ?_, fun x hx => ?_, fun k hk => ?_, hO0.trans h2 (fun k hk e => ?_)⟩
  · rw [← hLL]
    exact flat_part hp rfl hpn
  · obtain ⟨k, hk⟩ := List.mem_iff_getElem?.1 hx
    rw [List.getElem?_set] at hk
    split at hk
    · rename_i e; subst e
      rw [if_pos (List.getElem?_eq_some_iff.1 hp4).1] at hk
      injection hk with hk
      subst hk
      exact ⟨fun e => by have e2 : p.es.take 64 = [] := e; rw [e2] at htl; simp at htl, by show (p.es.take 64).length ≤ 128; omega⟩
    · rename_i hne
      rcases Nat.lt_or_ge k (i + 1) with h3 | h3
      · rw [List.getElem?_append_left (by rw [List.length_take]; omega), List.getElem?_take, if_pos h3] at hk
        exact hf k x hk (fun e => hne e.symm)
      · rw [List.getElem?_append_right (by rw [List.length_take]; omega), List.length_take, show k - min (i + 1) ps.length = k - (i + 1) by omega] at hk
        rcases hk2 : k - (i + 1) with _ | k2
        · rw [hk2] at hk
          simp at hk
          subst hk
          exact ⟨fun e => by have e2 := congrArg List.length (hpn.symm.trans e); rw [List.length_drop] at e2; simp at e2; omega, by rw [hpn, List.length_drop]; omega⟩
        · rw [hk2] at hk
          simp at hk
          exact hf _ x hk (by omega)
  · rcases hk with hk | rfl
    · exact hg k hk
    · exact hg _ (h.page p (List.mem_of_getElem? hp4)).2.2
  · rcases e with ⟨rfl, _⟩ | rfl
    · exact (hg _ (h.page p (List.mem_of_getElem? hp4)).2.2).resolve_right (by omega)
    · exact (hg _ h.gP).resolve_right (by omega)
end Go.Proofs.YtkohppalfcalbaaGreat

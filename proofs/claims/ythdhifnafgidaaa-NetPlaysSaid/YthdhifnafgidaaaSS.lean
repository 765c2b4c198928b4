/- The net: its letters under way as its map says them; each of its functions; a net of a law's own; the live question. -/
import Derived.Test.YthdhifnafgidaaaZE
import Derived.Maps.OwnSet
import Derived.Lib.SlKeysI
import Derived.Test.YthdhifnafgidaaaDA
import Derived.WalkSpells
import Derived.Test.YthdhifnafgidaaaZO
import Derived.Test.YthdhifnafgidaaaZF
import Derived.Test.YthdhifnafgidaaaShelf
namespace Go.Proofs.Ythdhifnafgidaaa
section
open Go.RowKit Go.Maps
/-- a letter under way: its number, itself, where its bytes lie, with what room -/
structure En where
  n : Nat
  l : Ltr
  g : Nat
  c : Nat
def hdrD (g n c : Nat) : DataW Unit := .agg [.lit (.int .i64 g), .lit (.int .i64 n), .lit (.int .i64 c)]
/-- how a row's place reads -/
def hdrE : Value → Option (DataW Unit × List MemPlace)
  | .slice (some ⟨g, 0, none⟩) n c => some (hdrD g n c, [])
  | .slice none 0 0 => some (.nil, [])
  | _ => none
def En.v (e : En) : Value := .slice (some ⟨e.g, 0, none⟩) e.l.bytes.length e.c
def En.d (e : En) : DataW Unit := hdrD e.g e.l.bytes.length e.c
theorem hdrE_v (e : En) : hdrE e.v = some (e.d, []) := rfl
theorem hdrE_nil : hdrE (.slice none 0 0) = some (.nil, []) := rfl
theorem hdrE_inv {v : Value} {g n c : Nat} {ps : List MemPlace} (h : hdrE v = some (hdrD g n c, ps)) : v = .slice (some ⟨g, 0, none⟩) n c := by
  unfold hdrE at h
  split at h
  · simp [hdrD] at h
    obtain ⟨⟨h1, h2, h3⟩, _⟩ := h
    have e1 := Int.ofNat.inj h1
    have e2 := Int.ofNat.inj h2
    have e3 := Int.ofNat.inj h3
    subst e1 e2 e3
    rfl
  · simp [hdrD] at h
  · cases h
theorem hdrE_inv_nil {v : Value} {ps : List MemPlace} (h : hdrE v = some (.nil, ps)) : v = .slice none 0 0 := by
  unfold hdrE at h
  split at h
  · simp [hdrD] at h
  · rfl
  · cases h
/-- what D says of the letters L -/
structure Rep (D : DataW Unit) (L : List En) : Prop where
  has : ∀ x : Int, has D (.int .i64 x) = true ↔ ∃ e ∈ L, (e.n : Int) = x
  at_ : ∀ e ∈ L, ∀ zd, D.atKey (.int .i64 e.n) zd = e.d
  size : size D = L.length
  tidy : Tidy D
def findN (L : List En) (x : Int) : Option En := L.find? fun e => decide ((e.n : Int) = x)
theorem findN_some {L : List En} {x : Int} {e : En} (h : findN L x = some e) : e ∈ L ∧ (e.n : Int) = x :=
  ⟨List.mem_of_find?_eq_some h, by simpa using List.find?_some h⟩
theorem findN_none {L : List En} {x : Int} (h : findN L x = none) : ∀ e ∈ L, (e.n : Int) ≠ x := fun e he => by simpa using List.find?_eq_none.1 h e he
theorem Rep.find_some {D : DataW Unit} {L : List En} (h : Rep D L) {x : Int} {e : En} (hf : findN L x = some e) : Maps.has D (.int .i64 x) = true ∧ ∀ zd, D.atKey (.int .i64 x) zd = e.d := by
  obtain ⟨h1, h2⟩ := findN_some hf
  exact ⟨(h.has x).2 ⟨e, h1, h2⟩, fun zd => by rw [← h2]; exact h.at_ e h1 zd⟩
theorem Rep.find_none {D : DataW Unit} {L : List En} (h : Rep D L) {x : Int} (hf : findN L x = none) : Maps.has D (.int .i64 x) = false ∧ ∀ zd, D.atKey (.int .i64 x) zd = zd := by
  have h1 : Maps.has D (.int .i64 x) = false := by
    cases hh : Maps.has D (.int .i64 x)
    · rfl
    · obtain ⟨e, he, hx⟩ := (h.has x).1 hh
      exact absurd hx (findN_none hf e he)
  exact ⟨h1, fun zd => atKey_of_not_has h1 zd⟩
theorem keyI (x : Int) : WideAt.IsKeyLit (.int .i64 x) := by trivial
theorem Rep.nil : Rep (.map []) [] := ⟨fun x => by simp [Maps.has], fun e he => by simp at he, rfl, tidy_empty⟩
theorem Rep.put {D : DataW Unit} {L : List En} (h : Rep D L) {e : En} (hn : findN L e.n = none) : Rep (D.put (.int .i64 e.n) e.d) (L ++ [e]) := by
  have hm := h.tidy.isMap
  obtain ⟨h1, _⟩ := h.find_none hn
  refine ⟨fun x => ?_, fun u hu zd => ?_, ?_, h.tidy.put (keyI _) _⟩
  · by_cases hx : x = e.n
    · subst hx
      rw [has_put_same hm (keyI _)]
      simp
    · rw [has_put_other (by simpa using hx), h.has x]
      simp only [List.mem_append, List.mem_singleton]
      constructor
      · rintro ⟨u, hu, hx2⟩; exact ⟨u, .inl hu, hx2⟩
      · rintro ⟨u, hu | rfl, hx2⟩
        · exact ⟨u, hu, hx2⟩
        · exact absurd hx2.symm hx
  · rw [List.mem_append, List.mem_singleton] at hu
    rcases hu with hu | rfl
    · rw [atKey_put_other (by simpa using findN_none hn u hu)]
      exact h.at_ u hu zd
    · exact atKey_put_same hm (keyI _) _ _
  · rw [size_put h.tidy, h1, List.length_append, h.size]; rfl
def Ups (L : List En) : Prop := L.Pairwise fun a b => a.n < b.n
theorem Rep.del {D : DataW Unit} {L : List En} (h : Rep D L) (hu : Ups L) (x : Int) : Rep (D.del (.int .i64 x)) (L.filter fun e => decide ((e.n : Int) ≠ x)) := by
  refine ⟨fun y => ?_, fun u hu zd => ?_, ?_, h.tidy.del _⟩
  · by_cases hx : y = x
    · subst hx
      rw [has_del_same]
      simp
    · rw [has_del_other (by simpa using hx), h.has y]
      constructor
      · rintro ⟨u, hu, rfl⟩; exact ⟨u, by simp [hu, hx], rfl⟩
      · rintro ⟨u, hu, rfl⟩; exact ⟨u, (List.mem_filter.1 hu).1, rfl⟩
  · obtain ⟨h1, h2⟩ := List.mem_filter.1 hu
    rw [atKey_del_other (by simpa using h2)]
    exact h.at_ u h1 zd
  · have h1 := size_del (k := .int .i64 x) h.tidy
    rw [h.size] at h1
    have key : ∀ (M : List En), Ups M → (M.filter fun e => decide ((e.n : Int) ≠ x)).length + (if M.any (fun e => decide ((e.n : Int) = x)) then 1 else 0) = M.length := by
      intro M
      induction M with
      | nil => intro _; rfl
      | cons a M ih =>
        intro hM
        obtain ⟨h2, h3⟩ := List.pairwise_cons.1 hM
        have := ih h3
        by_cases ha : (a.n : Int) = x
        · have hno : M.any (fun e => decide ((e.n : Int) = x)) = false := by
            rw [List.any_eq_false]
            intro u hu
            have := h2 u hu
            simp only [decide_eq_true_eq]
            omega
          rw [hno] at this
          simp only [List.filter_cons, ha, ne_eq, not_true_eq_false, decide_false, Bool.false_eq_true, if_false, List.any_cons, decide_true, Bool.true_or, if_true, List.length_cons] at this ⊢
          omega
        · simp only [List.filter_cons, ha, ne_eq, not_false_eq_true, decide_true, if_true, List.any_cons, decide_false, Bool.false_or, List.length_cons] at this ⊢
          omega
    have h4 := key L hu
    have h5 : Maps.has D (.int .i64 x) = L.any (fun e => decide ((e.n : Int) = x)) := by
      rw [Bool.eq_iff_iff, h.has x, List.any_eq_true]
      simp only [decide_eq_true_eq]
    rw [h5] at h1
    omega
def numsN (L : List En) : List Int := L.map fun e => (e.n : Int)
theorem Ups.nums {L : List En} (h : Ups L) : (numsN L).Pairwise (· < ·) := by
  unfold numsN
  rw [List.pairwise_map]
  exact h.imp fun h => Int.ofNat_lt.2 h
theorem Rep.sorted {D : DataW Unit} {L : List En} (h : Rep D L) (hu : Ups L) {P : Program} {k : TypeId} {w : World} {b n : Nat} (hown : w.ownsMap P k hdrE b n D) (K : Keyed P k) (hk : P.underlying k = some (.int .i64)) {ss : List Int} (hp : ss.Perm (intKeys D)) : ss.mergeSort (fun x y => decide (x ≤ y)) = numsN L := by
  obtain ⟨es, hD, hpw, _⟩ := hown.entries K
  obtain ⟨es', hD', hko⟩ := hown.keysOf
  obtain rfl : es = es' := by rw [hD] at hD'; simpa using hD'
  subst hD
  have h1 : (numsN L).Perm (intKeys (.map es)) := perm_intKeys hpw (fun p hp => by obtain ⟨v, hv⟩ := hko p hp; obtain ⟨x, _, hx, _⟩ := Maps.keyOf_i64 hk hv; exact ⟨x, hx⟩) (hu.nums.imp fun h e => by omega) fun x => by
    rw [h.has x]
    simp only [numsN, List.mem_map]
  rw [mergeSort_of_perm_i (hp.trans h1.symm)]
  refine List.mergeSort_of_pairwise (hu.nums.imp fun h => ?_)
  simp only [decide_eq_true_eq]
  exact Int.le_of_lt h
theorem ups_snoc {L : List En} (h : Ups L) {e : En} (hl : ∀ u ∈ L, u.n < e.n) : Ups (L ++ [e]) := by
  unfold Ups
  rw [List.pairwise_append]
  exact ⟨h, by simp, fun a ha b hb => by rw [List.mem_singleton] at hb; subst hb; exact hl a ha⟩
theorem ups_filter {L : List En} (h : Ups L) (p : En → Bool) : Ups (L.filter p) := List.Pairwise.filter _ h
theorem ownsMap_tight {P : Program} {k : TypeId} {w : World} {b n : Nat} {R : Value → Option (DataW Unit × List MemPlace)} {D : DataW Unit} (h : w.ownsMap P k R b n D) : w.ownsMap P k R b (size D) D := by
  obtain ⟨es, clock, hb, F, hs, rfl⟩ := h
  exact ⟨es, clock, hb, F, by simp [Maps.size, length_sorted], rfl⟩
end

section
open Go.RowKit Go.Maps
theorem lawK : Keyed Try.prog 3 := int_keyed Try.underlying3
theorem zeroB (w : World) : (zeroValue 61).run Try.prog w = .ok (.slice none 0 0) w := by kernel_rfl
theorem keyZ {x : Int} (h : i64ok x) : keyOf Try.prog 3 (.int .i64 x) = some (.int .i64 x) := keyOf_int_mk Try.underlying3 (WalkArith.wf_i64 (by unfold i64ok at h; omega))
theorem RdB.only_ {K : Nat → Prop} {w w' : World} {g : Nat} {l : List UInt8} (h : RdB w w.heap.size (some ⟨g, 0, none⟩) l) (hO : Only K w w') (hK : ¬ K g) : RdB w' w'.heap.size (some ⟨g, 0, none⟩) l := fun hn => by
  obtain ⟨ad, h1, h2, h3⟩ := h hn
  injection h1 with h1
  subst h1
  refine ⟨_, rfl, Nat.lt_of_lt_of_le h2 hO.size, fun j c hj => ?_⟩
  have h4 := h3 j c hj
  rw [Addr.add_lit] at h4 ⊢
  exact (World.cell?_of_block (a := ⟨g, 0 + j, none⟩) (hO.block g h2 hK)).trans h4
/-- the net in block p, its map in block m (none: it has none yet): the letters L, s sent, t taken -/
structure NetAt (w : World) (p : Nat) (m : Option Nat) (L : List En) (s t : Nat) : Prop where
  box : w.heap[p]? = some (.cells #[.map m, .int .i64 (s : Int), .int .i64 (t : Int)] 60 (0, 0))
  map : (m = none ∧ L = []) ∨ ∃ q D, m = some q ∧ w.ownsMap Try.prog 3 hdrE q L.length D ∧ Rep D L
  right : ∀ e ∈ L, e.l.right = true
  code : ∀ e ∈ L, RdB w w.heap.size (some ⟨e.g, 0, none⟩) e.l.bytes ∧ e.l.bytes.length ≤ e.c
  ups : Ups L
  lt : ∀ e ∈ L, e.n < s
  room : L.length ≤ 1024
  most : s ≤ 100000
  sum : t + L.length ≤ s
theorem NetAt.lt_p {w : World} {p : Nat} {m : Option Nat} {L : List En} {s t : Nat} (h : NetAt w p m L s t) : p < w.heap.size := (Array.getElem?_eq_some_iff.1 h.box).1
theorem NetAt.map_lt {w : World} {p q : Nat} {L : List En} {s t : Nat} (h : NetAt w p (some q) L s t) : q < w.heap.size ∧ q ≠ p := by
  rcases h.map with ⟨h1, _⟩ | ⟨q', D, h1, h2, _⟩
  · cases h1
  · injection h1 with h1
    subst h1
    refine ⟨h2.lt, fun e => ?_⟩
    obtain ⟨es, cl, hb, _⟩ := h2
    rw [e, h.box] at hb
    cases hb
theorem NetAt.code_at {w : World} {p : Nat} {m : Option Nat} {L : List En} {s t : Nat} (h : NetAt w p m L s t) {e : En} (he : e ∈ L) : e.g < w.heap.size ∧ e.g ≠ p ∧ some e.g ≠ m := by
  have hp := (Ltr.bytes_len (h.right e he)).2
  obtain ⟨c, r, hc⟩ : ∃ c r, e.l.bytes = c :: r := by
    cases hb : e.l.bytes with
    | nil => rw [hb] at hp; simp at hp
    | cons c r => exact ⟨c, r, rfl⟩
  obtain ⟨ad, h1, h2, h3⟩ := (h.code e he).1 (by rw [hc]; simp)
  injection h1 with h1
  subst h1
  have h4 := h3 0 c (by rw [hc]; rfl)
  refine ⟨h2, fun hx => ?_, fun hx => ?_⟩
  · rw [Addr.add_lit] at h4
    simp [World.cell?, hx, h.box] at h4
  · rcases h.map with ⟨h5, _⟩ | ⟨q', D, h5, h6, _⟩
    · rw [h5] at hx; cases hx
    · rw [h5] at hx
      injection hx with hx
      obtain ⟨es, cl, hb, _⟩ := h6
      rw [Addr.add_lit] at h4
      simp [World.cell?, hx, hb] at h4
theorem NetAt.only {K : Nat → Prop} {w w' : World} {p : Nat} {m : Option Nat} {L : List En} {s t : Nat} (h : NetAt w p m L s t) (hO : Only K w w') (hp : ¬ K p) (hm : ∀ q, m = some q → ¬ K q) (hL : ∀ e ∈ L, ¬ K e.g) : NetAt w' p m L s t := by
  refine ⟨(hO.block p h.lt_p hp).trans h.box, ?_, h.right, fun e he => ⟨(h.code e he).1.only_ hO (hL e he), (h.code e he).2⟩, h.ups, h.lt, h.room, h.most, h.sum⟩
  rcases h.map with h1 | ⟨q, D, h1, h2, h3⟩
  · exact .inl h1
  · refine .inr ⟨q, D, h1, ?_, h3⟩
    have hlt := h2.lt
    obtain ⟨es, cl, hb, hr⟩ := h2
    exact ⟨es, cl, (hO.block q hlt (hm q h1)).trans hb, hr⟩
theorem NetAt.below {w w' : World} {p : Nat} {m : Option Nat} {L : List En} {s t : Nat} (h : NetAt w p m L s t) (hb : Below w.heap.size w w') : NetAt w' p m L s t :=
  h.only (K := fun _ => False) (Only.of_below hb) (fun h => h) (fun _ _ h => h) fun _ _ h => h
/-- what an operation on it may turn -/
def NK (p : Nat) (m : Option Nat) (k : Nat) : Prop := k = p ∨ some k = m
/-- where its map lies behind an operation -/
def NM (w : World) (m m' : Option Nat) : Prop := m' = m ∨ (m = none ∧ ∃ q, m' = some q ∧ w.heap.size ≤ q)
theorem NetAt.cells {w : World} {p : Nat} {m : Option Nat} {L : List En} {s t : Nat} (h : NetAt w p m L s t) : w.cell? ⟨p, 0, none⟩ = some (.map m) ∧ w.cell? ⟨p, 1, none⟩ = some (.int .i64 (s : Int)) ∧ w.cell? ⟨p, 2, none⟩ = some (.int .i64 (t : Int)) := box3_ h.box
theorem look_yes {w : World} {p : Nat} {m : Option Nat} {L : List En} {s t : Nat} (h : NetAt w p m L s t) {x : Int} (hx : i64ok x) {e : En} (hf : findN L x = some e) : (Instr.lookup 58 (.map m) (.int .i64 x) true).run Try.prog w = .ok (.tuple #[e.v, .bool true]) w := by
  rcases h.map with ⟨_, h1⟩ | ⟨q, D, rfl, h2, h3⟩
  · rw [h1] at hf; cases hf
  · obtain ⟨v, ps, hrun, hv⟩ := h2.look_ok lawK Try.underlying58 (zeroB w) hdrE_nil (keyZ hx)
    obtain ⟨h4, h5⟩ := h3.find_some hf
    rw [h5] at hv
    rw [h4] at hrun
    rw [hrun, hdrE_inv hv]
    rfl
theorem look_no {w : World} {p : Nat} {m : Option Nat} {L : List En} {s t : Nat} (h : NetAt w p m L s t) {x : Int} (hx : i64ok x) (hf : findN L x = none) : (Instr.lookup 58 (.map m) (.int .i64 x) true).run Try.prog w = .ok (.tuple #[.slice none 0 0, .bool false]) w := by
  rcases h.map with ⟨rfl, h1⟩ | ⟨q, D, rfl, h2, h3⟩
  · exact look_nil true lawK Try.underlying58 (zeroB w) (keyZ hx)
  · obtain ⟨v, ps, hrun, hv⟩ := h2.look_ok lawK Try.underlying58 (zeroB w) hdrE_nil (keyZ hx)
    obtain ⟨h4, h5⟩ := h3.find_none hf
    rw [h5] at hv
    rw [h4] at hrun
    rw [hrun, hdrE_inv_nil hv]
theorem len_net {w : World} {p : Nat} {m : Option Nat} {L : List En} {s t : Nat} (h : NetAt w p m L s t) (ty : TypeId) : (Builtin.len_ #[58] ty #[.map m]).run Try.prog w = .ok (.int .i64 L.length) w := by
  rcases h.map with ⟨rfl, h1⟩ | ⟨q, D, rfl, h2, h3⟩
  · rw [len_nil Try.underlying58, h1]; rfl
  · rw [h2.len Try.underlying58, h3.size]
set_option maxRecDepth 100000 in
theorem find_nil (x : Int) (w : World) : Calls Try.prog 30 #[.pointer none, .int .i64 x] w (LooksL (.tuple #[.slice none 0 0, .int .i64 1]) w) := by
  go_enter Try.func30, Try.ntmps30
  go_wp2_with fail
  refine bodyPost_ret (v := .tuple #[.slice none 0 0, .int .i64 1]) (by simp [results, Try.results30, go_sem]) rfl ?_
  exact ⟨rfl, rfl⟩
set_option maxRecDepth 100000 in
theorem find_no {w : World} {p : Nat} {m : Option Nat} {L : List En} {s t : Nat} (h : NetAt w p m L s t) {x : Int} (hx : i64ok x) (hf : findN L x = none) : Calls Try.prog 30 #[.pointer (some ⟨p, 0, none⟩), .int .i64 x] w (LooksL (.tuple #[.slice none 0 0, .int .i64 121]) w) := by
  have hl := look_no h hx hf
  obtain ⟨c0, _⟩ := h.cells
  clear h hx hf
  go_enter Try.func30, Try.ntmps30
  go_wp2_with fail
  refine bodyPost_ret (v := .tuple #[.slice none 0 0, .int .i64 121]) (by simp [results, Try.results30, go_sem]) rfl ?_
  exact ⟨rfl, rfl⟩
set_option maxRecDepth 100000 in
theorem find_yes {w : World} {p : Nat} {m : Option Nat} {L : List En} {s t : Nat} (h : NetAt w p m L s t) {x : Int} (hx : i64ok x) {e : En} (hf : findN L x = some e) : Calls Try.prog 30 #[.pointer (some ⟨p, 0, none⟩), .int .i64 x] w (LooksL (.tuple #[e.v, .int .i64 0]) w) := by
  have hl := look_yes h hx hf
  obtain ⟨c0, _⟩ := h.cells
  clear h hx hf
  go_enter Try.func30, Try.ntmps30
  go_wp2_with fail
  refine bodyPost_ret (v := .tuple #[e.v, .int .i64 0]) (by simp [results, Try.results30, go_sem]) rfl ?_
  exact ⟨rfl, rfl⟩
end

section
open Go.RowKit Go.Maps
theorem box3_set {w : World} {p : Nat} {x y z : Value} {t : TypeId} {fr : Nat × Nat} (h : w.heap[p]? = some (.cells #[x, y, z] t fr)) (v : Value) :
    (w.setCell ⟨p, 0, none⟩ v).heap[p]? = some (.cells #[v, y, z] t fr) ∧ (w.setCell ⟨p, 1, none⟩ v).heap[p]? = some (.cells #[x, v, z] t fr) ∧ (w.setCell ⟨p, 2, none⟩ v).heap[p]? = some (.cells #[x, y, v] t fr) := by
  refine ⟨?_, ?_, ?_⟩ <;> simp [World.setCell, Array.getElem?_modify, h]
theorem NetAt.find_new {w : World} {p : Nat} {m : Option Nat} {L : List En} {s t : Nat} (h : NetAt w p m L s t) : findN L (s : Int) = none := by
  unfold findN
  rw [List.find?_eq_none]
  intro e he
  have := h.lt e he
  simp only [decide_eq_true_eq]
  omega
/-- behind the store into the map, and the count -/
theorem NetAt.put_end {w w1 : World} {p q : Nat} {m : Option Nat} {L : List En} {s t : Nat} (h : NetAt w p m L s t) {K : Nat → Prop} (hO : Only K w w1) (hbx : w1.heap[p]? = some (.cells #[.map (some q), .int .i64 (s : Int), .int .i64 (t : Int)] 60 (0, 0)))
    (hK : ∀ e ∈ L, ¬ K e.g) {D : DataW Unit} (hR : Rep D L) {n : Nat} {l : Ltr} {g c : Nat} (hown : w1.ownsMap Try.prog 3 hdrE q n (D.put (.int .i64 (s : Int)) (hdrD g l.bytes.length c)))
    (hl : l.right = true) (hlen : L.length < 1024) (hs : s < 100000) (hr : RdB w1 w1.heap.size (some ⟨g, 0, none⟩) l.bytes) (hc : l.bytes.length ≤ c) :
    NetAt (w1.setCell ⟨p, 1, none⟩ (.int .i64 ((s + 1 : Nat) : Int))) p (some q) (L ++ [⟨s, l, g, c⟩]) (s + 1) t ∧ (∀ k, k ≠ p → (w1.setCell ⟨p, 1, none⟩ (.int .i64 ((s + 1 : Nat) : Int))).heap[k]? = w1.heap[k]?) := by
  have hO2 := Only.set w1 p 1 (.int .i64 ((s + 1 : Nat) : Int))
  have hqp : q ≠ p := fun e => by
    obtain ⟨es, cl, hb, _⟩ := hown
    rw [e, hbx] at hb
    cases hb
  have hRp := hR.put (e := ⟨s, l, g, c⟩) h.find_new
  have hgp : g ≠ p := fun e => by
    have hp := (Ltr.bytes_len hl).2
    obtain ⟨c0, r0, hc0⟩ : ∃ c r, l.bytes = c :: r := by
      cases hb : l.bytes with
      | nil => rw [hb] at hp; simp at hp
      | cons c r => exact ⟨c, r, rfl⟩
    obtain ⟨ad, h1, h2, h3⟩ := hr (by rw [hc0]; simp)
    injection h1 with h1
    subst h1
    have h4 := h3 0 c0 (by rw [hc0]; rfl)
    rw [Addr.add_lit] at h4
    simp [World.cell?, e, hbx] at h4
  refine ⟨⟨(box3_set hbx _).2.1, .inr ⟨q, _, rfl, ?_, hRp⟩, fun e he => ?_, fun e he => ?_, ups_snoc h.ups h.lt, fun e he => ?_, ?_, ?_, ?_⟩, fun k hk => ?_⟩
  · have h1 := ownsMap_tight hown
    have h2 : size (D.put (.int .i64 (s : Int)) (hdrD g l.bytes.length c)) = (L ++ [(⟨s, l, g, c⟩ : En)]).length := hRp.size
    rw [h2] at h1
    exact h1.setCell hqp _
  · rw [List.mem_append, List.mem_singleton] at he
    rcases he with he | rfl
    · exact h.right e he
    · exact hl
  · rw [List.mem_append, List.mem_singleton] at he
    rcases he with he | rfl
    · exact ⟨((h.code e he).1.only_ hO (hK e he)).only_ hO2 (h.code_at he).2.1, (h.code e he).2⟩
    · exact ⟨hr.only_ hO2 hgp, hc⟩
  · rw [List.mem_append, List.mem_singleton] at he
    rcases he with he | rfl
    · have := h.lt e he; omega
    · show s < s + 1; omega
  · rw [List.length_append]; show L.length + 1 ≤ 1024; omega
  · omega
  · have := h.sum; rw [List.length_append]; show t + (L.length + 1) ≤ s + 1; omega
  · exact Below.heap_setCell _ _ _ _ hk
/-- what put leaves: where a letter was put -/
def PutR (w : World) (p : Nat) (m : Option Nat) (L : List En) (s t : Nat) (l : Ltr) (w' : World) : Prop :=
  ∃ m' g c, NetAt w' p m' (L ++ [⟨s, l, g, c⟩]) (s + 1) t ∧ Only (NK p m) w w' ∧ NM w m m'
def PutT (w : World) (p : Nat) (m : Option Nat) (L : List En) (s t : Nat) (l : Ltr) (e : Ending) (w' : World) : Prop :=
  e = .returned (.tuple #[.int .i64 (s : Int), .int .i64 0]) ∧ PutR w p m L s t l w'
theorem eqM (w : World) (r : Option Nat) : (binOp .eql 58 (.map r) (.map none)).run Try.prog w = .ok (.bool r.isNone) w := run_eql_map_nil w _ _ _ r Try.underlying58
theorem wrapS {s : Nat} (h : s < 100000) : wrap64 ((s : Int) + 1) = ((s + 1 : Nat) : Int) := by unfold wrap64; omega
set_option maxRecDepth 100000 in
theorem put_full {w : World} {p : Nat} {m : Option Nat} {L : List En} {s t : Nat} (h : NetAt w p m L s t) (hf : L.length = 1024) (v : Value) : Calls Try.prog 28 #[.pointer (some ⟨p, 0, none⟩), v] w (LooksL (.tuple #[.int .i64 0, .int .i64 62]) w) := by
  have hl := len_net h
  rw [hf] at hl
  obtain ⟨c0, _⟩ := h.cells
  clear h hf
  go_enter Try.func28, Try.ntmps28
  go_wp2_with fail
  refine bodyPost_ret (v := .tuple #[.int .i64 0, .int .i64 62]) (by simp [results, Try.results28, go_sem]) rfl ?_
  exact ⟨rfl, rfl⟩
set_option maxRecDepth 100000 in
set_option maxHeartbeats 4000000 in
theorem put_more {w : World} {p q : Nat} {L : List En} {s t : Nat} (h : NetAt w p (some q) L s t) (hf : L.length < 1024) (hs : s < 100000) {l : Ltr} (hR : l.right = true) {g c n : Nat} (hn : l.bytes.length = n) (hr : RdB w w.heap.size (some ⟨g, 0, none⟩) l.bytes) (hc : n ≤ c) (hgq : g ≠ q) :
    Calls Try.prog 28 #[.pointer (some ⟨p, 0, none⟩), .slice (some ⟨g, 0, none⟩) n c] w (PutT w p (some q) L s t l) := by
  have hl := len_net h
  obtain ⟨N, hN⟩ : ∃ N, L.length = N := ⟨_, rfl⟩
  rw [hN] at hl
  obtain ⟨c0, c1, c2⟩ := h.cells
  have f1 : w.frozen? ⟨p, 1, none⟩ = false := frozen_of h.box 1
  obtain ⟨hq, hqp⟩ := h.map_lt
  obtain ⟨D, hown, hRep⟩ : ∃ D, w.ownsMap Try.prog 3 hdrE q N D ∧ Rep D L := by
    rcases h.map with ⟨h1, _⟩ | ⟨q', D, h1, h2, h3⟩
    · cases h1
    · injection h1 with h1
      subst h1
      exact ⟨D, hN ▸ h2, h3⟩
  obtain ⟨w1, hrun, hown1, hturn⟩ := hown.store lawK Try.underlying58 (by unfold maxLen; omega) (keyZ (x := (s : Int)) (by unfold i64ok; omega)) (val := .slice (some ⟨g, 0, none⟩) n c) (d := hdrD g n c) (ps := []) rfl
  have hO : Only (· = q) w w1 := (Only.of_grown hturn.grown).more fun j _ hj => by injection hj
  have hbx1 : w1.heap[p]? = some (.cells #[.map (some q), .int .i64 (s : Int), .int .i64 (t : Int)] 60 (0, 0)) := (hO.block p h.lt_p (Ne.symm hqp)).trans h.box
  obtain ⟨d0, d1, d2⟩ := box3_ hbx1
  have e1 : w1.frozen? ⟨p, 1, none⟩ = false := frozen_of hbx1 1
  subst hn
  have HE := Lib.hid (h.put_end hO hbx1 (fun e he => by
    have := (h.code_at he).2.2
    intro hx; exact this (by rw [hx])) hRep hown1 hR hf hs (hr.only_ hO hgq) hc)
  have HO := Lib.hid hO
  have hw := wrapS hs
  have hNi : (N : Int) < 1024 := by omega
  obtain ⟨S, hS⟩ : ∃ S : Int, S = ((s + 1 : Nat) : Int) := ⟨_, rfl⟩
  rw [← hS] at hw HE
  have HS := Lib.hid hS
  have hlp := h.lt_p
  have qT := eqM
  clear h hN hown hRep hown1 hturn hO hbx1 hr hc hR hf hs hgq hS
  go_enter Try.func28, Try.ntmps28
  go_wp2_with fail
  refine bodyPost_ret (v := .tuple #[.int .i64 (s : Int), .int .i64 0]) (by simp [results, Try.results28, go_sem]) rfl ?_
  obtain ⟨h1, h2⟩ := HE.out
  refine ⟨rfl, some q, g, c, h1, ?_, .inl rfl⟩
  exact (HO.out.more (L := NK p (some q)) fun _ _ h => .inr (by rw [h])).trans (Only.set w1 p 1 (.int .i64 S)) fun _ _ h => .inl h
set_option maxRecDepth 100000 in
set_option maxHeartbeats 4000000 in
theorem put_new {w : World} {p : Nat} {s t : Nat} (h : NetAt w p none [] s t) (hs : s < 100000) {l : Ltr} (hR : l.right = true) {g c n : Nat} (hn : l.bytes.length = n) (hr : RdB w w.heap.size (some ⟨g, 0, none⟩) l.bytes) (hc : n ≤ c) :
    Calls Try.prog 28 #[.pointer (some ⟨p, 0, none⟩), .slice (some ⟨g, 0, none⟩) n c] w (PutT w p none [] s t l) := by
  have hl : ∀ ty, (Builtin.len_ #[58] ty #[.map none]).run Try.prog w = .ok (.int .i64 0) w := fun ty => len_net h ty
  obtain ⟨c0, c1, c2⟩ := h.cells
  have f0 : w.frozen? ⟨p, 0, none⟩ = false := frozen_of h.box 0
  have hmm := @run_makeMap Try.prog
  have hlp := h.lt_p
  obtain ⟨w0, hw0⟩ : ∃ w0, w0 = (w.alloc (.map #[] 0)).setCell ⟨p, 0, none⟩ (.map (some w.heap.size)) := ⟨_, rfl⟩
  have hbp : (w.alloc (.map #[] 0)).heap[p]? = some (.cells #[.map none, .int .i64 (s : Int), .int .i64 (t : Int)] 60 (0, 0)) := ((alloc_below w (.map #[] 0)).block p hlp).trans h.box
  have hbx0 : w0.heap[p]? = some (.cells #[.map (some w.heap.size), .int .i64 (s : Int), .int .i64 (t : Int)] 60 (0, 0)) := by rw [hw0]; exact (box3_set hbp _).1
  have hO0 : Only (· = p) w w0 := by
    rw [hw0]
    exact (Only.of_below (alloc_below w (.map #[] 0))).trans (Only.set _ p 0 _) fun _ _ h => h
  have hown0 : w0.ownsMap Try.prog 3 hdrE w.heap.size 0 (.map []) := by
    rw [hw0]
    exact (World.ownsMap_made w Try.prog 3 hdrE).setCell (by show w.heap.size ≠ p; omega) _
  obtain ⟨w1, hrun, hown1, hturn⟩ := hown0.store lawK Try.underlying58 (by unfold maxLen; omega) (keyZ (x := (s : Int)) (by unfold i64ok; omega)) (val := .slice (some ⟨g, 0, none⟩) n c) (d := hdrD g n c) (ps := []) rfl
  have hO1 : Only (· = w.heap.size) w0 w1 := (Only.of_grown hturn.grown).more fun j _ hj => by injection hj
  have hO : Only (· = p) w w1 := hO0.trans hO1 fun j hj e => by omega
  obtain ⟨d0, d1, d2⟩ := box3_ hbx0
  have hp0 : p < w0.heap.size := (Array.getElem?_eq_some_iff.1 hbx0).1
  have hbx1 : w1.heap[p]? = some (.cells #[.map (some w.heap.size), .int .i64 (s : Int), .int .i64 (t : Int)] 60 (0, 0)) := (hO1.block p hp0 (by omega)).trans hbx0
  obtain ⟨g0, g1, g2⟩ := box3_ hbx1
  have e1 : w1.frozen? ⟨p, 1, none⟩ = false := frozen_of hbx1 1
  have hgp : ¬ g = p := fun e => by
    have hp := (Ltr.bytes_len hR).2
    obtain ⟨c0', r0, hc0⟩ : ∃ c r, l.bytes = c :: r := by
      cases hb : l.bytes with
      | nil => rw [hb] at hp; simp at hp
      | cons c r => exact ⟨c, r, rfl⟩
    obtain ⟨ad, h1, h2, h3⟩ := hr (by rw [hc0]; simp)
    injection h1 with h1
    subst h1
    have h4 := h3 0 c0' (by rw [hc0]; rfl)
    rw [Addr.add_lit] at h4
    simp [World.cell?, e, h.box] at h4
  subst hn
  have HE := Lib.hid (h.put_end hO hbx1 (fun e he => by simp at he) Rep.nil hown1 hR (by simp) hs (hr.only_ hO hgp) hc)
  have HO := Lib.hid hO
  have hw := wrapS hs
  obtain ⟨S, hS⟩ : ∃ S : Int, S = ((s + 1 : Nat) : Int) := ⟨_, rfl⟩
  rw [← hS] at hw HE
  have HS := Lib.hid hS
  obtain ⟨z, hz⟩ : ∃ z, z = w.heap.size := ⟨_, rfl⟩
  have qT := eqM
  have fz : (w.alloc (.map #[] 0)).frozen? ⟨p, 0, none⟩ = false := frozen_of hbp 0
  obtain ⟨a0, a1, a2⟩ := box3_ hbp
  rw [hw0, World.setCell_alloc_past _ _ _ _ hlp] at d0 d1 hrun
  have HZ : Hid (w.heap.size ≤ w.heap.size) := Lib.hid (Nat.le_refl _)
  clear h hown1 hturn hO hO0 hO1 hown0 hbx0 hbx1 hbp hr hc hR hs hgp hS hw0 hp0 hz
  go_enter Try.func28, Try.ntmps28
  go_wp2_with fail
  refine bodyPost_ret (v := .tuple #[.int .i64 (s : Int), .int .i64 0]) (by simp [results, Try.results28, go_sem]) rfl ?_
  obtain ⟨h1, h2⟩ := HE.out
  refine ⟨rfl, some w.heap.size, g, c, h1, ?_, .inr ⟨rfl, _, rfl, Nat.le_refl _⟩⟩
  exact (HO.out.trans (Only.set w1 p 1 (.int .i64 S)) fun _ _ h => h).more fun _ _ h => .inl h
end

section
open Go.RowKit Go.Maps
theorem NM.of {w w1 : World} {m m' : Option Nat} (h : NM w1 m m') (hs : w.heap.size ≤ w1.heap.size) : NM w m m' := by
  rcases h with h | ⟨h1, q, h2, h3⟩
  · exact .inl h
  · exact .inr ⟨h1, q, h2, Nat.le_trans hs h3⟩
def netO (m : Option Nat) (s t : Int) : Obj := .cells #[.map m, .int .i64 s, .int .i64 t] 60
theorem NetAt.new (w : World) : NetAt (w.alloc (netO none 0 0)) w.heap.size none [] 0 0 :=
  ⟨heap_alloc_new w _, .inl ⟨rfl, rfl⟩, fun e he => by simp at he, fun e he => by simp at he, List.Pairwise.nil, fun e he => by simp at he, by simp, by simp, by simp⟩
theorem new_any (w : World) : Calls Try.prog 9 #[] w (fun e w' => e = .returned (.pointer (some ⟨w.heap.size, 0, none⟩)) ∧ w' = w.alloc (netO none 0 0)) := by
  unfold netO
  go_enter Try.func9, Try.ntmps9
  go_wp2_with fail
  go_ret
  exact ⟨rfl, rfl⟩
theorem OwnB.net {w : World} {B : Nat} {v : Value} {l : List UInt8} (h : OwnB w B v l) (hl : 0 < l.length) : ∃ g c, v = .slice (some ⟨g, 0, none⟩) l.length c ∧ l.length ≤ c ∧ RdB w w.heap.size (some ⟨g, 0, none⟩) l ∧ B ≤ g := by
  obtain ⟨A, cap, e, hc⟩ := h.2
  subst e
  rcases h.1.2 with ⟨e, h0⟩ | ⟨g, cap', cur, e, hB, _⟩
  · omega
  · injection e with e1 e2 e3
    subst e1
    exact ⟨g, cap, rfl, hc, (OwnAt.of_own h).rd, hB⟩
/-- put, whatever the map -/
theorem put_any {w : World} {p : Nat} {m : Option Nat} {L : List En} {s t : Nat} (h : NetAt w p m L s t) (hf : L.length < 1024) (hs : s < 100000) {l : Ltr} (hR : l.right = true) {g c n : Nat} (hn : l.bytes.length = n) (hr : RdB w w.heap.size (some ⟨g, 0, none⟩) l.bytes) (hc : n ≤ c) (hgm : some g ≠ m) :
    Calls Try.prog 28 #[.pointer (some ⟨p, 0, none⟩), .slice (some ⟨g, 0, none⟩) n c] w (PutT w p m L s t l) := by
  rcases m with _ | q
  · rcases h.map with ⟨_, rfl⟩ | ⟨q, D, h1, _⟩
    · exact put_new h hs hR hn hr hc
    · cases h1
  · exact put_more h hf hs hR hn hr hc fun e => hgm (by rw [e])
/-- an answer that leaves all as it was -/
def NoT (w : World) (v : Value) (e : Ending) (w' : World) : Prop := e = .returned v ∧ Below w.heap.size w w'
def lvZ (l : Ltr) (A : Option Addr) (n cap : Nat) : Value := .agg #[.int .i64 l.k, .int .i64 l.f, .int .i64 l.t, .int .i64 l.x, .slice A n cap]
set_option maxRecDepth 100000 in
theorem send_nil (k f t x : Int) (A : Option Addr) (n cap : Nat) (w : World) : Calls Try.prog 10 #[.pointer none, .agg #[.int .i64 k, .int .i64 f, .int .i64 t, .int .i64 x, .slice A n cap]] w (NoT w (.tuple #[.int .i64 0, .int .i64 1])) := by
  have HB := Lib.hid (alloc_below w (.cells #[.int .i64 k, .int .i64 f, .int .i64 t, .int .i64 x, .slice A n cap] 32))
  go_enter Try.func10, Try.ntmps10
  go_wp2_with fail
  refine bodyPost_ret (v := .tuple #[.int .i64 0, .int .i64 1]) (by simp [results, Try.results10, go_sem]) rfl ?_
  exact ⟨rfl, HB.out⟩
set_option maxRecDepth 100000 in
set_option maxHeartbeats 4000000 in
theorem send_wrong {p : Nat} (l : Ltr) (hR : l.right = false) (A : Option Addr) (n cap : Nat) (hn : l.ns.length = n) (hn2 : n ≤ 1000000) (w : World) (hr : RdI w w.heap.size A l.ns) : Calls Try.prog 10 #[.pointer (some ⟨p, 0, none⟩), .agg #[.int .i64 l.k, .int .i64 l.f, .int .i64 l.t, .int .i64 l.x, .slice A n cap]] w (NoT w (.tuple #[.int .i64 0, .int .i64 111])) := by
  obtain ⟨w0, hw0⟩ : ∃ w0, w0 = w.alloc (.cells #[.int .i64 l.k, .int .i64 l.f, .int .i64 l.t, .int .i64 l.x, .slice A n cap] 32) := ⟨_, rfl⟩
  have hb : Below w.heap.size w w0 := by rw [hw0]; exact alloc_below w _
  have HB := Lib.hid hb
  have hbx : w0.heap[w.heap.size]? = some (.cells #[.int .i64 l.k, .int .i64 l.f, .int .i64 l.t, .int .i64 l.x, .slice A n cap] 32 (0, 0)) := by rw [hw0]; exact heap_alloc_new w _
  obtain ⟨x0, x1, x2, x3, x4⟩ := box5 hbx
  have HE := Lib.hid (encL_no hR (encodeL_any l A n cap hn hn2 w0 ((hr.below hb (Nat.le_refl _)).more hb.size)))
  rw [hw0] at x0 x1 x2 x3 x4 HE HB
  clear hb hw0 hbx hR hn hr
  obtain ⟨k, f, t, x, ns⟩ := l
  simp only at *
  go_enter Try.func10, Try.ntmps10
  go_wp2_with (go_at_call 27; refine HE.out.mono ?_; rintro e w2 ⟨rfl, hb⟩
               have HB2 := Lib.hid (HB.out.trans (hb.mono HB.out.size))
               clear hb)
  refine bodyPost_ret (v := .tuple #[.int .i64 0, .int .i64 111]) (by simp [results, Try.results10, go_sem]) rfl ?_
  exact ⟨rfl, HB2.out⟩
set_option maxRecDepth 100000 in
set_option maxHeartbeats 4000000 in
theorem send_full {w : World} {p : Nat} {m : Option Nat} {L : List En} {s t' : Nat} (h : NetAt w p m L s t') (hf : L.length = 1024) (l : Ltr) (hR : l.right = true) (A : Option Addr) (n cap : Nat) (hn : l.ns.length = n) (hn2 : n ≤ 1000000) (hr : RdI w w.heap.size A l.ns) : Calls Try.prog 10 #[.pointer (some ⟨p, 0, none⟩), .agg #[.int .i64 l.k, .int .i64 l.f, .int .i64 l.t, .int .i64 l.x, .slice A n cap]] w (NoT w (.tuple #[.int .i64 0, .int .i64 62])) := by
  obtain ⟨w0, hw0⟩ : ∃ w0, w0 = w.alloc (.cells #[.int .i64 l.k, .int .i64 l.f, .int .i64 l.t, .int .i64 l.x, .slice A n cap] 32) := ⟨_, rfl⟩
  have hb : Below w.heap.size w w0 := by rw [hw0]; exact alloc_below w _
  have HB := Lib.hid hb
  have hbx : w0.heap[w.heap.size]? = some (.cells #[.int .i64 l.k, .int .i64 l.f, .int .i64 l.t, .int .i64 l.x, .slice A n cap] 32 (0, 0)) := by rw [hw0]; exact heap_alloc_new w _
  obtain ⟨x0, x1, x2, x3, x4⟩ := box5 hbx
  have HE := Lib.hid (encL_yes hR (encodeL_any l A n cap hn hn2 w0 ((hr.below hb (Nat.le_refl _)).more hb.size)))
  have HP := Lib.hid fun W v (hW : Below w.heap.size w W) => put_full (h.below hW) hf v
  rw [hw0] at x0 x1 x2 x3 x4 HE HB
  clear hb hw0 hbx hR hn hr h hf
  obtain ⟨k, f, t, x, ns⟩ := l
  simp only at *
  go_enter Try.func10, Try.ntmps10
  go_wp2_with (first
    | (go_at_call 27; refine HE.out.mono ?_; rintro e w2 ⟨v2, rfl, _, hb⟩
       have HB2 := Lib.hid (HB.out.trans (hb.mono HB.out.size))
       clear hb)
    | (go_at_call 28; refine (HP.out _ _ HB2.out).mono ?_; rintro e w3 ⟨rfl, rfl⟩))
  refine bodyPost_ret (v := .tuple #[.int .i64 0, .int .i64 62]) (by simp [results, Try.results10, go_sem]) rfl ?_
  exact ⟨rfl, HB2.out⟩
set_option maxRecDepth 100000 in
set_option maxHeartbeats 4000000 in
theorem send_yes {w : World} {p : Nat} {m : Option Nat} {L : List En} {s t' : Nat} (h : NetAt w p m L s t') (hf : L.length < 1024) (hs : s < 100000) (l : Ltr) (hR : l.right = true) (A : Option Addr) (n cap : Nat) (hn : l.ns.length = n) (hn2 : n ≤ 1000000) (hr : RdI w w.heap.size A l.ns) : Calls Try.prog 10 #[.pointer (some ⟨p, 0, none⟩), .agg #[.int .i64 l.k, .int .i64 l.f, .int .i64 l.t, .int .i64 l.x, .slice A n cap]] w (PutT w p m L s t' l) := by
  obtain ⟨w0, hw0⟩ : ∃ w0, w0 = w.alloc (.cells #[.int .i64 l.k, .int .i64 l.f, .int .i64 l.t, .int .i64 l.x, .slice A n cap] 32) := ⟨_, rfl⟩
  have hb : Below w.heap.size w w0 := by rw [hw0]; exact alloc_below w _
  have HB := Lib.hid hb
  have hbx : w0.heap[w.heap.size]? = some (.cells #[.int .i64 l.k, .int .i64 l.f, .int .i64 l.t, .int .i64 l.x, .slice A n cap] 32 (0, 0)) := by rw [hw0]; exact heap_alloc_new w _
  obtain ⟨x0, x1, x2, x3, x4⟩ := box5 hbx
  have HE := Lib.hid (encL_yes hR (encodeL_any l A n cap hn hn2 w0 ((hr.below hb (Nat.le_refl _)).more hb.size)))
  have HP : Hid (∀ W v, Below w.heap.size w W → OwnB W w.heap.size v l.bytes → Calls Try.prog 28 #[.pointer (some ⟨p, 0, none⟩), v] W (PutT w p m L s t' l)) := Lib.hid fun W v hW ho => by
    obtain ⟨g, c, rfl, hc, hr2, hg⟩ := OwnB.net ho (Ltr.bytes_len hR).2
    have hm : some g ≠ m := fun e => by
      rw [← e] at h
      have := (h.map_lt).1
      omega
    refine (put_any (h.below hW) hf hs hR rfl hr2 hc hm).mono ?_
    rintro e w' ⟨h1, m', g', c', h2, h3, h4⟩
    exact ⟨h1, m', g', c', h2, (Only.of_below hW).trans h3 fun _ _ h => h, h4.of hW.size⟩
  have HZ : Hid (∀ W v, OwnB W w0.heap.size v l.bytes → OwnB W w.heap.size v l.bytes) := Lib.hid fun W v ho => OwnB.low_ ho hb.size
  rw [hw0] at x0 x1 x2 x3 x4 HE HB HZ
  clear hb hw0 hbx hR hn hr h hf
  obtain ⟨lb, hlb⟩ : ∃ lb, lb = l.bytes := ⟨_, rfl⟩
  unfold PutT at HP ⊢
  obtain ⟨q, hq⟩ : ∃ q : World → Prop, q = PutR w p m L s t' l := ⟨_, rfl⟩
  rw [← hq] at HP ⊢
  clear hq
  obtain ⟨k, f, t, x, ns⟩ := l
  simp only at *
  go_enter Try.func10, Try.ntmps10
  go_wp2_with (first
    | (go_at_call 27; refine HE.out.mono ?_; rintro e w2 ⟨v2, rfl, ho, hb⟩
       have HB2 := Lib.hid (HB.out.trans (hb.mono HB.out.size))
       have HO := Lib.hid (HZ.out _ _ ho)
       clear hb ho)
    | (go_at_call 28; refine (HP.out _ _ HB2.out HO.out).mono ?_; rintro e w3 ⟨rfl, hp⟩
       have HPut := Lib.hid hp
       clear hp))
  refine bodyPost_ret (v := .tuple #[.int .i64 (s : Int), .int .i64 0]) (by simp [results, Try.results10, go_sem]) rfl ?_
  exact ⟨rfl, HPut.out⟩
set_option maxRecDepth 100000 in
theorem twice_nil (x : Int) (w : World) : Calls Try.prog 17 #[.pointer none, .int .i64 x] w (LooksL (.tuple #[.int .i64 0, .int .i64 1]) w) := by
  have HF := Lib.hid (find_nil x w)
  go_enter Try.func17, Try.ntmps17
  go_wp2_with (go_at_call 30; refine HF.out.mono ?_; rintro e w2 ⟨rfl, rfl⟩)
  refine bodyPost_ret (v := .tuple #[.int .i64 0, .int .i64 1]) (by simp [results, Try.results17, go_sem]) rfl ?_
  exact ⟨rfl, rfl⟩
set_option maxRecDepth 100000 in
theorem twice_no {w : World} {p : Nat} {m : Option Nat} {L : List En} {s t : Nat} (h : NetAt w p m L s t) {x : Int} (hx : i64ok x) (hf : findN L x = none) : Calls Try.prog 17 #[.pointer (some ⟨p, 0, none⟩), .int .i64 x] w (LooksL (.tuple #[.int .i64 0, .int .i64 121]) w) := by
  have HF := Lib.hid (find_no h hx hf)
  clear h hx hf
  go_enter Try.func17, Try.ntmps17
  go_wp2_with (go_at_call 30; refine HF.out.mono ?_; rintro e w2 ⟨rfl, rfl⟩)
  refine bodyPost_ret (v := .tuple #[.int .i64 0, .int .i64 121]) (by simp [results, Try.results17, go_sem]) rfl ?_
  exact ⟨rfl, rfl⟩
set_option maxRecDepth 100000 in
theorem twice_full {w : World} {p : Nat} {m : Option Nat} {L : List En} {s t : Nat} (h : NetAt w p m L s t) (hl : L.length = 1024) {x : Int} (hx : i64ok x) {e : En} (hf : findN L x = some e) : Calls Try.prog 17 #[.pointer (some ⟨p, 0, none⟩), .int .i64 x] w (LooksL (.tuple #[.int .i64 0, .int .i64 62]) w) := by
  have HF := Lib.hid (find_yes h hx hf)
  have HP := Lib.hid (put_full h hl e.v)
  unfold En.v at HF HP
  clear h hx hf hl
  go_enter Try.func17, Try.ntmps17
  go_wp2_with (first
    | (go_at_call 30; refine HF.out.mono ?_; rintro e w2 ⟨rfl, rfl⟩)
    | (go_at_call 28; refine HP.out.mono ?_; rintro e w2 ⟨rfl, rfl⟩))
  refine bodyPost_ret (v := .tuple #[.int .i64 0, .int .i64 62]) (by simp [results, Try.results17, go_sem]) rfl ?_
  exact ⟨rfl, rfl⟩
set_option maxRecDepth 100000 in
theorem twice_yes {w : World} {p : Nat} {m : Option Nat} {L : List En} {s t : Nat} (h : NetAt w p m L s t) (hl : L.length < 1024) (hs : s < 100000) {x : Int} (hx : i64ok x) {e : En} (hf : findN L x = some e) : Calls Try.prog 17 #[.pointer (some ⟨p, 0, none⟩), .int .i64 x] w (PutT w p m L s t e.l) := by
  have HF := Lib.hid (find_yes h hx hf)
  have he := (findN_some hf).1
  have HP := Lib.hid (put_any h hl hs (h.right e he) rfl (h.code e he).1 (h.code e he).2 (h.code_at he).2.2)
  unfold En.v at HF
  unfold PutT at HP ⊢
  obtain ⟨q, hq⟩ : ∃ q : World → Prop, q = PutR w p m L s t e.l := ⟨_, rfl⟩
  rw [← hq] at HP ⊢
  clear h hx hf hl hs he hq
  go_enter Try.func17, Try.ntmps17
  go_wp2_with (first
    | (go_at_call 30; refine HF.out.mono ?_; rintro e w2 ⟨rfl, rfl⟩)
    | (go_at_call 28; refine HP.out.mono ?_; rintro e w2 ⟨rfl, hp⟩
       have HPut := Lib.hid hp
       clear hp))
  refine bodyPost_ret (v := .tuple #[.int .i64 (s : Int), .int .i64 0]) (by simp [results, Try.results17, go_sem]) rfl ?_
  exact ⟨rfl, HPut.out⟩
end

section
open Go.RowKit Go.Maps
set_option maxRecDepth 100000 in
set_option maxHeartbeats 4000000 in
/-- Look where find answers without bytes -/
theorem look_c (v : Value) (x c : Int) (w : World) (hc : c ≠ 0) (hF : ∀ W, Below w.heap.size w W → Calls Try.prog 30 #[v, .int .i64 x] W (LooksL (.tuple #[.slice none 0 0, .int .i64 c]) W)) :
    Calls Try.prog 13 #[v, .int .i64 x] w (NoT w (.tuple #[zeroL, .int .i64 c])) := by
  obtain ⟨w0, hw0⟩ : ∃ w0, w0 = w.alloc (.cells #[.int .i64 0, .int .i64 0, .int .i64 0, .int .i64 0, .slice none 0 0] 32) := ⟨_, rfl⟩
  have hb0 : Below w.heap.size w w0 := by rw [hw0]; exact alloc_below w _
  obtain ⟨hX, hZ⟩ := dec_box hw0
  have HD := Lib.hid (hF w0 hb0)
  have h1 := hX w0 (Below.refl _ _)
  obtain ⟨y0, y1, y2, y3, y4⟩ := box5 h1
  have z0 := frozen_of h1 0
  have z1 := frozen_of h1 1
  have z2 := frozen_of h1 2
  have z3 := frozen_of h1 3
  have z4 := frozen_of h1 4
  have HQ := Lib.hid hb0
  clear hX hZ hb0 h1 hF
  subst hw0
  unfold zeroL
  go_enter Try.func13, Try.ntmps13
  go_wp2_with (go_at_call 30; refine HD.out.mono ?_; rintro e w1 ⟨rfl, rfl⟩)
  refine bodyPost_ret (v := .tuple #[.agg #[.int .i64 0, .int .i64 0, .int .i64 0, .int .i64 0, .slice none 0 0], .int .i64 c]) (by simp [results, Try.results13, go_sem, y0, y1, y2, y3, y4]) rfl ?_
  exact ⟨rfl, HQ.out⟩
theorem lookN_nil (x : Int) (w : World) : Calls Try.prog 13 #[.pointer none, .int .i64 x] w (NoT w (.tuple #[zeroL, .int .i64 1])) := look_c _ x 1 w (by decide) fun W _ => find_nil x W
theorem lookN_no {w : World} {p : Nat} {m : Option Nat} {L : List En} {s t : Nat} (h : NetAt w p m L s t) {x : Int} (hx : i64ok x) (hf : findN L x = none) : Calls Try.prog 13 #[.pointer (some ⟨p, 0, none⟩), .int .i64 x] w (NoT w (.tuple #[zeroL, .int .i64 121])) := look_c _ x 121 w (by decide) fun W hW => find_no (h.below hW) hx hf
set_option maxRecDepth 100000 in
set_option maxHeartbeats 4000000 in
theorem lookN_yes {w : World} {p : Nat} {m : Option Nat} {L : List En} {s t : Nat} (h : NetAt w p m L s t) {x : Int} (hx : i64ok x) {en : En} (hf : findN L x = some en) : Calls Try.prog 13 #[.pointer (some ⟨p, 0, none⟩), .int .i64 x] w (DcY w en.l) := by
  obtain ⟨w0, hw0⟩ : ∃ w0, w0 = w.alloc (.cells #[.int .i64 0, .int .i64 0, .int .i64 0, .int .i64 0, .slice none 0 0] 32) := ⟨_, rfl⟩
  have hb0 : Below w.heap.size w w0 := by rw [hw0]; exact alloc_below w _
  have hs0 : w0.heap.size = w.heap.size + 1 := by rw [hw0]; simp
  have he := (findN_some hf).1
  have h0 := h.below hb0
  obtain ⟨hX, hZ⟩ := dec_box hw0
  have HX := Lib.hid hX
  have HZ := Lib.hid hZ
  have HF := Lib.hid (find_yes h0 hx hf)
  have HD := Lib.hid (decL_of (h0.right en he) rfl (h0.code en he).2 (h0.code en he).1)
  have HS0 := Lib.hid hs0
  unfold En.v at HF
  unfold DcY at HD ⊢
  obtain ⟨l, n, g, c⟩ := en
  obtain ⟨k, f, t, x, ns⟩ := n
  simp only at *
  clear hX hZ hx h h0 hf he hb0 hs0
  subst hw0
  go_enter Try.func13, Try.ntmps13
  go_wp2_with (first
    | (go_at_call 30; refine HF.out.mono ?_; rintro e w1 ⟨rfl, rfl⟩)
    | (go_at_call 31; refine HD.out.mono ?_; rintro e w4 ⟨A2, cap2, rfl, ho, hb⟩
       have h1 := HX.out w4 hb
       obtain ⟨y0, y1, y2, y3, y4⟩ := box5 h1
       have z0 := frozen_of h1 0
       have z1 := frozen_of h1 1
       have z2 := frozen_of h1 2
       have z3 := frozen_of h1 3
       have z4 := frozen_of h1 4
       have hz := HZ.out w4 (.int .i64 k) (.int .i64 f) (.int .i64 t) (.int .i64 x) (.slice A2 ns.length cap2) hb
       have hge := ho.ge
       have hs0 := HS0.out
       have HQ : Hid (DcY w ⟨k, f, t, x, ns⟩ (.returned (.tuple #[.agg #[.int .i64 k, .int .i64 f, .int .i64 t, .int .i64 x, .slice A2 ns.length cap2], .int .i64 0])) _) := Lib.hid ⟨A2, cap2, rfl, (ho.kept hz.2 (fun e => by have := hge _ e; omega)).low (by omega), hz.1⟩
       clear hz hge hs0
       clear h1 hb ho))
  refine bodyPost_ret (v := .tuple #[.agg #[.int .i64 k, .int .i64 f, .int .i64 t, .int .i64 x, .slice A2 ns.length cap2], .int .i64 0]) (by simp [results, Try.results13, go_sem, y0, y1, y2, y3, y4]) rfl ?_
  exact HQ.out
/-- the letters without number x -/
def dropN (L : List En) (x : Int) : List En := L.filter fun e => decide ((e.n : Int) ≠ x)
theorem dropN_len {L : List En} (hu : Ups L) {x : Int} {e : En} (hf : findN L x = some e) : (dropN L x).length + 1 = L.length := by
  induction L with
  | nil => cases hf
  | cons a M ih =>
    obtain ⟨h2, h3⟩ := List.pairwise_cons.1 hu
    by_cases ha : (a.n : Int) = x
    · have hM : dropN M x = M := by
        unfold dropN
        rw [List.filter_eq_self]
        intro u hu
        have := h2 u hu
        simp only [ne_eq, decide_eq_true_eq]
        omega
      have : dropN (a :: M) x = dropN M x := by unfold dropN; simp [ha]
      rw [this, hM]; rfl
    · have h4 : findN M x = some e := by
        unfold findN at hf ⊢
        rw [List.find?_cons_of_neg (by simpa using ha)] at hf
        exact hf
      have : dropN (a :: M) x = a :: dropN M x := by unfold dropN; simp [ha]
      rw [this]
      have := ih h3 h4
      rw [List.length_cons, List.length_cons]; omega
theorem NetAt.drop_end {w w1 : World} {p q : Nat} {L : List En} {s t : Nat} (h : NetAt w p (some q) L s t) {x : Int} {e : En} (hf : findN L x = some e) {K : Nat → Prop} (hO : Only K w w1) (hK : ∀ e ∈ L, ¬ K e.g) {D : DataW Unit} (hR : Rep D L) {n t' : Nat} (hbx : w1.heap[p]? = some (.cells #[.map (some q), .int .i64 (s : Int), .int .i64 (t' : Int)] 60 (0, 0)))
    (hown : w1.ownsMap Try.prog 3 hdrE q n (D.del (.int .i64 x))) (ht : t' ≤ t + 1) : NetAt w1 p (some q) (dropN L x) s t' := by
  have hRp := hR.del h.ups x
  have hlen := dropN_len h.ups hf
  have hsub : ∀ u ∈ dropN L x, u ∈ L := fun u hu => (List.mem_filter.1 hu).1
  refine ⟨hbx, .inr ⟨q, _, rfl, ?_, hRp⟩, fun u hu => h.right u (hsub u hu), fun u hu => ⟨(h.code u (hsub u hu)).1.only_ hO (hK u (hsub u hu)), (h.code u (hsub u hu)).2⟩, ups_filter h.ups _, fun u hu => h.lt u (hsub u hu), by have := h.room; omega, h.most, by have := h.sum; omega⟩
  have h1 := ownsMap_tight hown
  have h2 : size (D.del (.int .i64 x)) = (dropN L x).length := hRp.size
  rw [h2] at h1
  exact h1
theorem NetAt.map_of {w : World} {p : Nat} {m : Option Nat} {L : List En} {s t : Nat} (h : NetAt w p m L s t) {x : Int} {e : En} (hf : findN L x = some e) : ∃ q D, m = some q ∧ w.ownsMap Try.prog 3 hdrE q L.length D ∧ Rep D L := by
  rcases h.map with ⟨_, h1⟩ | h1
  · rw [h1] at hf; cases hf
  · exact h1
theorem lose_c (v : Value) (x c : Int) (w : World) (hc : c ≠ 0) (hF : Calls Try.prog 30 #[v, .int .i64 x] w (LooksL (.tuple #[.slice none 0 0, .int .i64 c]) w)) :
    Calls Try.prog 19 #[v, .int .i64 x] w (LooksL (.int .i64 c) w) := by
  have HD := Lib.hid hF
  clear hF
  go_enter Try.func19, Try.ntmps19
  go_wp2_with (go_at_call 30; refine HD.out.mono ?_; rintro e w1 ⟨rfl, rfl⟩)
  go_ret
  exact ⟨rfl, rfl⟩
theorem lose_nil (x : Int) (w : World) : Calls Try.prog 19 #[.pointer none, .int .i64 x] w (LooksL (.int .i64 1) w) := lose_c _ x 1 w (by decide) (find_nil x w)
theorem lose_no {w : World} {p : Nat} {m : Option Nat} {L : List En} {s t : Nat} (h : NetAt w p m L s t) {x : Int} (hx : i64ok x) (hf : findN L x = none) : Calls Try.prog 19 #[.pointer (some ⟨p, 0, none⟩), .int .i64 x] w (LooksL (.int .i64 121) w) := lose_c _ x 121 w (by decide) (find_no h hx hf)
/-- what Lose leaves -/
def LoseR (w : World) (p : Nat) (m : Option Nat) (L : List En) (s t : Nat) (x : Int) (w' : World) : Prop := NetAt w' p m (dropN L x) s t ∧ Only (NK p m) w w'
set_option maxRecDepth 100000 in
set_option maxHeartbeats 4000000 in
theorem lose_yes {w : World} {p : Nat} {m : Option Nat} {L : List En} {s t : Nat} (h : NetAt w p m L s t) {x : Int} (hx : i64ok x) {en : En} (hf : findN L x = some en) : Calls Try.prog 19 #[.pointer (some ⟨p, 0, none⟩), .int .i64 x] w (fun e w' => e = .returned (.int .i64 0) ∧ LoseR w p m L s t x w') := by
  obtain ⟨q, D, rfl, hown, hRep⟩ := h.map_of hf
  have HF := Lib.hid (find_yes h hx hf)
  obtain ⟨c0, _⟩ := h.cells
  have hk := keyZ hx
  have hqp := h.map_lt.2
  have HE : Hid (∀ w1, w1.ownsMap Try.prog 3 hdrE q L.length (D.del (.int .i64 x)) → w.mapTurned w1 q → LoseR w p (some q) L s t x w1) := Lib.hid fun w1 hown1 hturn => by
    have hO : Only (· = q) w w1 := (Only.of_grown hturn.grown).more fun j _ hj => by injection hj
    refine ⟨h.drop_end hf hO (fun u hu hx => (h.code_at hu).2.2 (by rw [hx])) hRep ((hO.block p h.lt_p (Ne.symm hqp)).trans h.box) hown1 (by omega), hO.more fun _ _ h => .inr (by rw [h])⟩
  unfold En.v at HF
  clear h hx hf hRep hqp
  go_enter Try.func19, Try.ntmps19
  go_wp2_with (first
    | (go_at_call 30; refine HF.out.mono ?_; rintro e w2 ⟨rfl, rfl⟩)
    | (at_delete; refine wpList_delete_own _ rfl _ _ 58 3 rfl 61 lawK Try.underlying58 hdrE q L.length D rfl hown _ _ rfl hk ?_; intro w1 hown1 hturn1
       have HQ := Lib.hid (HE.out w1 hown1 hturn1)
       clear hown1 hturn1))
  go_ret
  exact ⟨rfl, HQ.out⟩
theorem told_nil (w : World) : Calls Try.prog 21 #[.pointer none] w (LooksNL (.tuple #[.int .i64 0, .int .i64 0, .int .i64 0]) w) := by
  go_enter Try.func21, Try.ntmps21
  go_wp2_with fail
  refine bodyPost_ret (v := .tuple #[.int .i64 0, .int .i64 0, .int .i64 0]) (by simp [results, Try.results21, go_sem]) rfl ?_
  exact ⟨rfl, 0, rfl⟩
end

section
open Go.RowKit Go.Maps
set_option maxRecDepth 100000 in
set_option maxHeartbeats 4000000 in
theorem told_any {w : World} {p : Nat} {m : Option Nat} {L : List En} {s t : Nat} (h : NetAt w p m L s t) : Calls Try.prog 21 #[.pointer (some ⟨p, 0, none⟩)] w (LooksNL (.tuple #[.int .i64 (s : Int), .int .i64 (t : Int), .int .i64 ((s : Int) - t - L.length)]) w) := by
  have hl := len_net (h.below (Below.refl _ w).drew)
  obtain ⟨c0, c1, c2⟩ := h.cells
  have h1 := h.sum
  have h2 := h.most
  obtain ⟨N, hN⟩ : ∃ N, L.length = N := ⟨_, rfl⟩
  rw [hN] at hl h1 ⊢
  have hw1 : wrap64 ((s : Int) - t) = (s : Int) - t := by unfold wrap64; omega
  have hw2 : wrap64 ((s : Int) - t - N) = (s : Int) - t - N := by unfold wrap64; omega
  clear h h1 h2 hN
  go_enter Try.func21, Try.ntmps21
  go_wp2_with fail
  go_region
  all_goals
    go_wp2_with fail
    refine bodyPost_ret (v := .tuple #[.int .i64 (s : Int), .int .i64 (t : Int), .int .i64 ((s : Int) - t - N)]) (by simp [results, Try.results21, go_sem, hw2]) rfl ?_
    exact ⟨rfl, _, rfl⟩
theorem take_c (v : Value) (x c : Int) (w : World) (hc : c ≠ 0) (hF : ∀ W, Below w.heap.size w W → Calls Try.prog 13 #[v, .int .i64 x] W (NoT W (.tuple #[zeroL, .int .i64 c]))) :
    Calls Try.prog 15 #[v, .int .i64 x] w (NoT w (.tuple #[zeroL, .int .i64 c])) := by
  obtain ⟨w0, hw0⟩ : ∃ w0, w0 = w.alloc (.cells #[.int .i64 0, .int .i64 0, .int .i64 0, .int .i64 0, .slice none 0 0] 32) := ⟨_, rfl⟩
  have hb0 : Below w.heap.size w w0 := by rw [hw0]; exact alloc_below w _
  obtain ⟨hX, hZ⟩ := dec_box hw0
  have HX := Lib.hid hX
  have HZ := Lib.hid hZ
  have HD := Lib.hid (hF w0 hb0)
  clear hX hZ hb0 hF
  subst hw0
  unfold zeroL at HD ⊢
  go_enter Try.func15, Try.ntmps15
  go_wp2_with (go_at_call 13; refine HD.out.mono ?_; rintro e w1 ⟨rfl, hb⟩
               have h3 := hb.trans ((alloc_below w1 (.cells #[.int .i64 0, .int .i64 0, .int .i64 0, .int .i64 0, .slice none 0 0] 32)).mono hb.size)
               have h1 := HX.out _ h3
               obtain ⟨y0, y1, y2, y3, y4⟩ := box5 h1
               have z0 := frozen_of h1 0
               have z1 := frozen_of h1 1
               have z2 := frozen_of h1 2
               have z3 := frozen_of h1 3
               have z4 := frozen_of h1 4
               have HQ := Lib.hid (HZ.out _ (.int .i64 0) (.int .i64 0) (.int .i64 0) (.int .i64 0) (.slice none 0 0) h3).1
               clear h1 h3 hb)
  refine bodyPost_ret (v := .tuple #[.agg #[.int .i64 0, .int .i64 0, .int .i64 0, .int .i64 0, .slice none 0 0], .int .i64 c]) (by simp [results, Try.results15, go_sem, y0, y1, y2, y3, y4]) rfl ?_
  exact ⟨rfl, HQ.out⟩
theorem take_nil (x : Int) (w : World) : Calls Try.prog 15 #[.pointer none, .int .i64 x] w (NoT w (.tuple #[zeroL, .int .i64 1])) := take_c _ x 1 w (by decide) fun W _ => lookN_nil x W
theorem take_no {w : World} {p : Nat} {m : Option Nat} {L : List En} {s t : Nat} (h : NetAt w p m L s t) {x : Int} (hx : i64ok x) (hf : findN L x = none) : Calls Try.prog 15 #[.pointer (some ⟨p, 0, none⟩), .int .i64 x] w (NoT w (.tuple #[zeroL, .int .i64 121])) := take_c _ x 121 w (by decide) fun W hW => lookN_no (h.below hW) hx hf
/-- what Take leaves -/
def TakeR (w : World) (p : Nat) (m : Option Nat) (L : List En) (s t : Nat) (x : Int) (l : Ltr) (A : Option Addr) (c : Nat) (w' : World) : Prop := OwnI w' w.heap.size (.slice A l.ns.length c) l.ns ∧ NetAt w' p m (dropN L x) s (t + 1) ∧ Only (NK p m) w w'
def TakeT (w : World) (p : Nat) (m : Option Nat) (L : List En) (s t : Nat) (x : Int) (l : Ltr) (e : Ending) (w' : World) : Prop := ∃ A c, e = .returned (.tuple #[.agg #[.int .i64 l.k, .int .i64 l.f, .int .i64 l.t, .int .i64 l.x, .slice A l.ns.length c], .int .i64 0]) ∧ TakeR w p m L s t x l A c w'
theorem OwnI.only {K : Nat → Prop} {w w' : World} {B : Nat} {v : Value} {l : List Int} (h : OwnI w B v l) (hO : Only K w w') (hK : ∀ k, B ≤ k → ¬ K k) : OwnI w' B v l := by
  refine ⟨⟨h.1.1, ?_⟩, h.2⟩
  rcases h.1.2 with h1 | ⟨g, cap, cur, e, hB, hh, hr⟩
  · exact .inl h1
  · exact .inr ⟨g, cap, cur, e, hB, (hO.block g (Array.getElem?_eq_some_iff.1 hh).1 (hK g hB)).trans hh, hr⟩
theorem take_end {w W w4 : World} {p q : Nat} {L : List En} {s t : Nat} {x : Int} {l : Ltr} {A : Option Addr} {cap : Nat} (hW : Below w.heap.size w W) (hp : p < w.heap.size) (hq : q < w.heap.size) (h4 : NetAt w4 p (some q) (dropN L x) s (t + 1)) (hO : Only (NK p (some q)) W w4) (hc : ∀ e ∈ dropN L x, e.g < w.heap.size) (ho : OwnI W (w.heap.size + 1) (.slice A l.ns.length cap) l.ns) (a b c d e : Value) :
    TakeR w p (some q) L s t x l A cap (((((w4.setCell ⟨w.heap.size, 0, none⟩ a).setCell ⟨w.heap.size, 1, none⟩ b).setCell ⟨w.heap.size, 2, none⟩ c).setCell ⟨w.heap.size, 3, none⟩ d).setCell ⟨w.heap.size, 4, none⟩ e) := by
  have g := grown_trans (grown_trans (grown_trans (grown_trans (grown_set w4 w.heap.size 0 a) (grown_set _ w.heap.size 1 b)) (grown_set _ w.heap.size 2 c)) (grown_set _ w.heap.size 3 d)) (grown_set _ w.heap.size 4 e)
  have hO5 := (Only.of_grown g).more (L := fun k => k = w.heap.size) fun j _ hj => by injection hj
  have hnk : ∀ k, w.heap.size + 1 ≤ k → ¬ NK p (some q) k := fun k hk h => by
    rcases h with h | h
    · omega
    · injection h with h; omega
  refine ⟨((ho.only hO hnk).only hO5 fun k hk e => by omega).low (by omega), h4.only hO5 (by omega) (fun q' e h => by injection e with e; omega) fun e he h => by have := hc e he; omega, ?_⟩
  exact ((Only.of_below hW).trans hO fun _ _ h => h).trans hO5 fun j hj e => by omega
set_option maxRecDepth 100000 in
set_option maxHeartbeats 8000000 in
theorem take_yes {w : World} {p : Nat} {m : Option Nat} {L : List En} {s t : Nat} (h : NetAt w p m L s t) {x : Int} (hx : i64ok x) {en : En} (hf : findN L x = some en) : Calls Try.prog 15 #[.pointer (some ⟨p, 0, none⟩), .int .i64 x] w (TakeT w p m L s t x en.l) := by
  obtain ⟨q, D, rfl, hown, hRep⟩ := h.map_of hf
  obtain ⟨w0, hw0⟩ : ∃ w0, w0 = w.alloc (.cells #[.int .i64 0, .int .i64 0, .int .i64 0, .int .i64 0, .slice none 0 0] 32) := ⟨_, rfl⟩
  have hb0 : Below w.heap.size w w0 := by rw [hw0]; exact alloc_below w _
  have hs0 : w0.heap.size = w.heap.size + 1 := by rw [hw0]; simp
  have h0 := h.below hb0
  obtain ⟨hX, hZ⟩ := dec_box hw0
  have HX := Lib.hid hX
  have HZ := Lib.hid hZ
  have HD := Lib.hid (lookN_yes h0 hx hf)
  have HS0 := Lib.hid hs0
  have hk := keyZ hx
  have hlp := h.lt_p
  obtain ⟨hq, hqp⟩ := h.map_lt
  have hpw : p ≠ w.heap.size := by omega
  have HN : Hid (∀ W, Below w0.heap.size w0 W → NetAt W p (some q) L s t ∧ W.ownsMap Try.prog 3 hdrE q L.length D ∧ Below w.heap.size w W) := Lib.hid fun W hW => by
    have hb : Below w.heap.size w W := hb0.trans (hW.mono hb0.size)
    refine ⟨h.below hb, ?_, hb⟩
    obtain ⟨es, cl, hbk, hr⟩ := hown
    exact ⟨es, cl, (hb.block q hq).trans hbk, hr⟩
  have HE : Hid (∀ W, NetAt W p (some q) L s t → ∀ w3, w3.ownsMap Try.prog 3 hdrE q L.length (D.del (.int .i64 x)) → W.mapTurned w3 q → ∀ w4, w4 = w3.setCell ⟨p, 2, none⟩ (.int .i64 ((t + 1 : Nat) : Int)) → NetAt w4 p (some q) (dropN L x) s (t + 1) ∧ Only (NK p (some q)) W w4) := Lib.hid fun W hW w3 hown3 hturn w4 e4 => by
    have hO : Only (NK p (some q)) W w3 := (Only.of_grown hturn.grown).more fun j _ hj => .inr hj
    have hbx3 : w3.heap[p]? = some (.cells #[.map (some q), .int .i64 (s : Int), .int .i64 (t : Int)] 60 (0, 0)) := (hturn.grown.block p hW.lt_p (fun e => hqp (by injection e with e; exact e.symm))).trans hW.box
    have hO4 : Only (NK p (some q)) W w4 := by
      rw [e4]
      exact hO.trans (Only.set w3 p 2 _) fun _ _ h => .inl h
    refine ⟨hW.drop_end hf hO4 (fun u hu hx => ?_) hRep (by rw [e4]; exact (box3_set hbx3 _).2.2) (by rw [e4]; exact hown3.setCell hqp _) (Nat.le_refl _), hO4⟩
    rcases hx with hx | hx
    · exact (hW.code_at hu).2.1 hx
    · exact (hW.code_at hu).2.2 hx
  have hw : wrap64 ((t : Int) + 1) = ((t + 1 : Nat) : Int) := wrapS (by have := h.sum; have := h.most; have := dropN_len h.ups hf; omega)
  obtain ⟨T, hT⟩ : ∃ T : Int, T = ((t + 1 : Nat) : Int) := ⟨_, rfl⟩
  rw [← hT] at hw HE
  have hLt : ∀ W, Below w.heap.size w W → ¬ p = W.heap.size := fun W hW => by have := hW.size; omega
  have HL := Lib.hid hLt
  have HQP := Lib.hid hqp
  have HLP := Lib.hid hlp
  have HEND : Hid (∀ W w4, Below w.heap.size w W → NetAt w4 p (some q) (dropN L x) s (t + 1) → Only (NK p (some q)) W w4 → ∀ A cap, OwnI W (w.heap.size + 1) (.slice A en.l.ns.length cap) en.l.ns → ∀ a b c d e, TakeR w p (some q) L s t x en.l A cap (((((w4.setCell ⟨w.heap.size, 0, none⟩ a).setCell ⟨w.heap.size, 1, none⟩ b).setCell ⟨w.heap.size, 2, none⟩ c).setCell ⟨w.heap.size, 3, none⟩ d).setCell ⟨w.heap.size, 4, none⟩ e)) := Lib.hid fun W w4 hW h4 hO A cap ho a b c d e => take_end hW hlp hq h4 hO (fun e he => (h.code_at (List.mem_filter.1 he).1).1) ho a b c d e
  have HQL := Lib.hid hq
  have HSZ := Lib.hid hs0
  unfold DcY at HD
  clear hX hZ h h0 hown hRep hb0 hx hs0 hf hT hLt hqp hlp hq
  subst hw0
  obtain ⟨ln, l, lg, lc⟩ := en
  unfold TakeT
  obtain ⟨k, f, t', x', ns⟩ := l
  simp only at *
  go_enter Try.func15, Try.ntmps15
  go_wp2_with (first
    | (go_at_call 13; refine HD.out.mono ?_; rintro e w1 ⟨A2, cap2, rfl, ho, hb⟩
       have hal := (alloc_below w1 (.cells #[.int .i64 k, .int .i64 f, .int .i64 t', .int .i64 x', .slice A2 ns.length cap2] 32))
       have hbb := hb.trans (hal.mono hb.size)
       have hn2 := HN.out _ hbb
       have HN2 := Lib.hid hn2
       have HO := Lib.hid (ho.below hal)
       have HBB := Lib.hid hbb
       have HBX := Lib.hid (heap_alloc_new w1 (.cells #[.int .i64 k, .int .i64 f, .int .i64 t', .int .i64 x', .slice A2 ns.length cap2] 32))
       obtain ⟨c0, c1, c2⟩ := hn2.1.cells
       have hp1 := HL.out w1 (HN.out w1 hb).2.2
       have HB1 := Lib.hid hb
       clear hal hbb hn2 ho hb)
    | (at_delete; refine wpList_delete_own _ rfl _ _ 58 3 rfl 61 lawK Try.underlying58 hdrE q L.length D rfl HN2.out.2.1 _ _ rfl hk ?_; intro w3 hown3 hturn3
       have H4 := HE.out _ HN2.out.1 w3 hown3 hturn3 _ rfl
       have b3 := (hturn3.grown.block p HN2.out.1.lt_p (fun e => HQP.out (by injection e with e; exact e.symm))).trans HN2.out.1.box
       obtain ⟨d0, d1, d2⟩ := box3_ b3
       have e2 := frozen_of b3 2
       have hsw := HN2.out.2.2.size
       have hbx4 := (H4.2.block _ (Array.getElem?_eq_some_iff.1 HBX.out).1 (fun h => by
         rcases h with h | h
         · exact hp1 h.symm
         · injection h with h
           have h5 := HQL.out
           have h6 := (HN.out w1 HB1.out).2.2.size
           omega)).trans HBX.out
       obtain ⟨x0, x1, x2, x3, x4⟩ := box5 hbx4
       have hr := HX.out _ HBB.out
       have h1 := (H4.2.block _ (Array.getElem?_eq_some_iff.1 hr).1 (fun h => by
         rcases h with h | h
         · exact hpw h.symm
         · injection h with h
           have h5 := HQL.out
           omega)).trans hr
       obtain ⟨y0, y1, y2, y3, y4⟩ := box5 h1
       have z0 := frozen_of h1 0
       have z1 := frozen_of h1 1
       have z2 := frozen_of h1 2
       have z3 := frozen_of h1 3
       have z4 := frozen_of h1 4
       have HT := Lib.hid (HEND.out _ _ HN2.out.2.2 H4.1 H4.2 A2 cap2 (HSZ.out ▸ HO.out) (.int .i64 k) (.int .i64 f) (.int .i64 t') (.int .i64 x') (.slice A2 ns.length cap2))
       clear H4 b3 hsw hbx4 hr h1 hown3 hturn3))
  refine bodyPost_ret (v := .tuple #[.agg #[.int .i64 k, .int .i64 f, .int .i64 t', .int .i64 x', .slice A2 ns.length cap2], .int .i64 0]) (by simp [results, Try.results15, go_sem, y0, y1, y2, y3, y4]) rfl ?_
  exact ⟨A2, cap2, rfl, HT.out⟩
end

section
open Go.RowKit Go.Maps Go.Sort Go.Shelf
/-- slices.Sort's two contracts here -/
theorem sortsA (m : Nat) : AnyZI.SortsIn Try.prog Try.sortedA_ren Fence.wide m :=
  ⟨fun blk off cap ss W hH hblk hsz => callsIn_wide.2 (AnyM.slices_Sort_int Try.sortA blk off cap ss W hH hblk hsz),
   fun p cap W => callsIn_wide.2 (AnyM.slices_Sort_int_none Try.sortA p cap W)⟩
def NumR (w : World) (L : List En) (v : Value) (w' : World) : Prop := OwnI w' w.heap.size v (numsN L) ∧ Below w.heap.size w w'
theorem intsZ_encZ (l : List Int) : l.map encZ = intsZ l := rfl
set_option maxRecDepth 100000 in
set_option maxHeartbeats 4000000 in
theorem numbers_some {w : World} {p q : Nat} {L : List En} {s t : Nat} (h : NetAt w p (some q) L s t) : Calls Try.prog 23 #[.pointer (some ⟨p, 0, none⟩)] w (fun e w' => ∃ v, e = .returned v ∧ NumR w L v w') := by
  obtain ⟨D0, hown, hRep⟩ : ∃ D, w.ownsMap Try.prog 3 hdrE q L.length D ∧ Rep D L := by
    rcases h.map with ⟨h1, _⟩ | ⟨q', D, h1, h2, h3⟩
    · cases h1
    · injection h1 with h1
      subst h1
      exact ⟨D, h2, h3⟩
  have hsz := hRep.size
  have hroom := h.room
  have hmax : Maps.size D0 ≤ maxLen := by unfold maxLen; omega
  have hbytes : Maps.size D0 * 8 ≤ 140737488355328 := by omega
  have hlen : (numsN L).length = L.length := by simp [numsN]
  obtain ⟨c0, _⟩ := h.cells
  refine (callsIn_wide (n := 6)).1 ?_
  have hbl := hown.lt
  have hseq : SeqGives Fence.wide 2 Try.prog 44 #[.pointer (some ⟨w.heap.size, 0, none⟩)] encZ (fun ss => ss.Perm (intKeys D0)) (Maps.size D0) (w.alloc (.cells #[.map (some q)] 58)) :=
    AnyZI.keys_gives (ρ := Try.keysA_ren) { Try.keysA with } Fence.wide _ trivial rfl (by omega) w.heap.size q L.length D0 _ (by simp) (by simp) (by
      obtain ⟨es, clock, hb, Ft, hs, hD⟩ := hown
      exact ⟨es, clock, (Below.heap_alloc _ _ q hbl).trans hb, Ft, hs, hD⟩)
  have cK : ∀ mb W, CallsIn Fence.wide 5 Try.prog 34 #[.map mb] W fun e w' => e = .returned (.func (.func 44) #[] #[.pointer (some ⟨W.heap.size, 0, none⟩)]) ∧ w' = W.alloc (.cells #[.map mb] 58) := fun mb W => AnyZI.keys_in Try.keysA Fence.wide 5 trivial rfl mb W
  have cS := AnyZI.sorted_in Try.sortedA Fence.wide 5 trivial trivial trivial trivial rfl (by omega) (sortsA _) (enters_of Try.func43 (by kernel_rfl) rfl) 44 #[.pointer (some ⟨w.heap.size, 0, none⟩)] trivial (enters_of Try.func44 (by kernel_rfl) rfl) _ _ hmax hbytes _ hseq
  change CallsIn _ _ Try.prog 33 _ _ _ at cS
  have hfK : Fence.wide.fn 34 := trivial
  have hfS : Fence.wide.fn 33 := trivial
  have HF : Hid (∀ ss : List Int, ss.Perm (intKeys D0) → ss.mergeSort (fun x y => decide (x ≤ y)) = numsN L) := Lib.hid fun ss hp => hRep.sorted h.ups hown lawK Try.underlying3 hp
  clear h hRep hsz hroom hmax hbytes hseq hown
  refine callsIn_of_wp Try.func23 rfl trivial ?_ rfl
  simp only [Try.ntmps23, List.size_toArray, List.length_cons, List.length_nil, Nat.reduceAdd, Nat.reduceSub, Array.replicate_succ, Array.replicate_zero, List.push_toArray, List.append_toArray, List.nil_append, List.cons_append]
  gi_wp2_with (first
    | (gi_at_call 34; refine (cK _ _).mono ?_; rintro e w' ⟨rfl, rfl⟩)
    | (gi_at_call 33; refine cS.mono ?_; rintro e w' ⟨v, ss, rfl, hS, hrow, hnil, hb⟩))
  go_ret
  have h1 := HF.out ss hS
  rw [h1, intsZ_encZ] at hrow
  refine ⟨v, rfl, (OwnI.of_row hrow).low (by simp), ((Below.refl _ w).alloc (Nat.le_refl _) _).trans (hb.mono (by simp))⟩
set_option maxRecDepth 100000 in
set_option maxHeartbeats 4000000 in
theorem numbers_none {w : World} {p : Nat} {L : List En} {s t : Nat} (h : NetAt w p none L s t) : Calls Try.prog 23 #[.pointer (some ⟨p, 0, none⟩)] w (fun e w' => ∃ v, e = .returned v ∧ NumR w L v w') := by
  have hL : L = [] := by
    rcases h.map with ⟨_, h1⟩ | ⟨q', D, h1, _⟩
    · exact h1
    · cases h1
  subst hL
  obtain ⟨c0, _⟩ := h.cells
  refine (callsIn_wide (n := 6)).1 ?_
  have hseq : SeqGives Fence.wide 2 Try.prog 44 #[.pointer (some ⟨w.heap.size, 0, none⟩)] encZ (fun ss : List Int => ss = []) 0 (w.alloc (.cells #[.map none] 58)) :=
    AnyZI.keys_gives_nil (ρ := Try.keysA_ren) { Try.keysA with } Fence.wide _ trivial rfl w.heap.size _ (by simp) (by simp)
  have cK : ∀ mb W, CallsIn Fence.wide 5 Try.prog 34 #[.map mb] W fun e w' => e = .returned (.func (.func 44) #[] #[.pointer (some ⟨W.heap.size, 0, none⟩)]) ∧ w' = W.alloc (.cells #[.map mb] 58) := fun mb W => AnyZI.keys_in Try.keysA Fence.wide 5 trivial rfl mb W
  have cS := AnyZI.sorted_in Try.sortedA Fence.wide 5 trivial trivial trivial trivial rfl (by omega) (sortsA _) (enters_of Try.func43 (by kernel_rfl) rfl) 44 #[.pointer (some ⟨w.heap.size, 0, none⟩)] trivial (enters_of Try.func44 (by kernel_rfl) rfl) _ 0 (Nat.zero_le _) (by omega) _ hseq
  change CallsIn _ _ Try.prog 33 _ _ _ at cS
  have hfK : Fence.wide.fn 34 := trivial
  have hfS : Fence.wide.fn 33 := trivial
  clear h hseq
  refine callsIn_of_wp Try.func23 rfl trivial ?_ rfl
  simp only [Try.ntmps23, List.size_toArray, List.length_cons, List.length_nil, Nat.reduceAdd, Nat.reduceSub, Array.replicate_succ, Array.replicate_zero, List.push_toArray, List.append_toArray, List.nil_append, List.cons_append]
  gi_wp2_with (first
    | (gi_at_call 34; refine (cK _ _).mono ?_; rintro e w' ⟨rfl, rfl⟩)
    | (gi_at_call 33; refine cS.mono ?_; rintro e w' ⟨v, ss, rfl, rfl, hrow, hnil, hb⟩; obtain rfl : v = .slice none 0 0 := hnil.2 rfl))
  go_ret
  exact ⟨_, rfl, OwnI.nil _ _, ((Below.refl _ w).alloc (Nat.le_refl _) _).trans (hb.mono (by simp))⟩
theorem numbers_any {w : World} {p : Nat} {m : Option Nat} {L : List En} {s t : Nat} (h : NetAt w p m L s t) : Calls Try.prog 23 #[.pointer (some ⟨p, 0, none⟩)] w (fun e w' => ∃ v, e = .returned v ∧ NumR w L v w') := by
  rcases m with _ | q
  · exact numbers_none h
  · exact numbers_some h
theorem numbers_nil (w : World) : Calls Try.prog 23 #[.pointer none] w (LooksL (.slice none 0 0) w) := by
  go_enter Try.func23, Try.ntmps23
  go_wp2_with fail
  go_ret
  exact ⟨rfl, rfl⟩
end

section
open Go.RowKit Go.Maps
theorem findN_at {L : List En} (hu : Ups L) {i : Nat} {e : En} (h : L[i]? = some e) : findN L e.n = some e := by
  induction L generalizing i with
  | nil => simp at h
  | cons a M ih =>
    obtain ⟨h2, h3⟩ := List.pairwise_cons.1 hu
    unfold findN
    cases i with
    | zero =>
      simp only [List.getElem?_cons_zero, Option.some.injEq] at h
      subst h
      rw [List.find?_cons_of_pos (by simp)]
    | succ i =>
      rw [List.getElem?_cons_succ] at h
      have := h2 e (List.mem_of_getElem? h)
      rw [List.find?_cons_of_neg (by simp only [decide_eq_true_eq]; omega)]
      exact ih h3 h
theorem findN_mem {L : List En} (hu : Ups L) {e : En} (h : e ∈ L) : findN L e.n = some e := by
  obtain ⟨i, hi⟩ := List.mem_iff_getElem?.1 h
  exact findN_at hu hi
def box1V (v : Value) (t : TypeId) : Obj := .cells #[v] t
/-- what To's question reads -/
structure ToW (w : World) (p : Nat) (m : Option Nat) (L : List En) (s t : Nat) (b c : Nat) (node : Int) : Prop where
  net : NetAt w p m L s t
  b : w.heap[b]? = some (.cells #[.pointer (some ⟨p, 0, none⟩)] 23 (0, 0))
  c : w.heap[c]? = some (.cells #[.int .i64 node] 3 (0, 0))
theorem ToW.below {w W : World} {p : Nat} {m : Option Nat} {L : List En} {s t b c : Nat} {node : Int} (h : ToW w p m L s t b c node) (hb : Below w.heap.size w W) : ToW W p m L s t b c node :=
  ⟨h.net.below hb, (hb.block _ (Array.getElem?_eq_some_iff.1 h.b).1).trans h.b, (hb.block _ (Array.getElem?_eq_some_iff.1 h.c).1).trans h.c⟩
/-- is it to another node? -/
def otherB (node : Int) (e : En) : Bool := decide (e.l.t ≠ node)
def QT (W : World) (r : Bool) (e : Ending) (W' : World) : Prop := e = .returned (.bool r) ∧ Below W.heap.size W W'
set_option maxRecDepth 100000 in
set_option maxHeartbeats 4000000 in
theorem to1_any {w : World} {p : Nat} {m : Option Nat} {L : List En} {s t b c : Nat} {node : Int} (h : ToW w p m L s t b c node) {en : En} (he : en ∈ L) :
    Calls Try.prog 35 #[.int .i64 (en.n : Int), .pointer (some ⟨b, 0, none⟩), .pointer (some ⟨c, 0, none⟩)] w (QT w (otherB node en)) := by
  have hx : i64ok (en.n : Int) := by have := h.net.lt en he; have := h.net.most; unfold i64ok; omega
  have HL := Lib.hid (lookN_yes h.net hx (findN_mem h.net.ups he))
  have hvb := cell_of_one h.b
  have HC : Hid (∀ W, Below w.heap.size w W → W.cell? ⟨c, 0, none⟩ = some (.int .i64 node)) := Lib.hid fun W hW => cell_of_one (h.below hW).c
  unfold DcY at HL
  unfold otherB
  obtain ⟨l, n, g, cc⟩ := en
  obtain ⟨k, f, t', x', ns⟩ := n
  simp only at *
  clear h he hx
  go_enter Try.func35, Try.ntmps35
  go_wp2_with (go_at_call 13; refine HL.out.mono ?_; rintro e w1 ⟨A2, cap2, rfl, ho, hb⟩
               have hal := (alloc_below w1 (.cells #[.int .i64 k, .int .i64 f, .int .i64 t', .int .i64 x', .slice A2 ns.length cap2] 32))
               have hbb := hb.trans (hal.mono hb.size)
               have HBB := Lib.hid hbb
               have hc2 := HC.out _ hbb
               clear hal hbb ho hb)
  go_ret
  refine ⟨?_, HBB.out⟩
  by_cases h2 : t' = node
  · subst h2; simp
  · simp [h2]
/-- a row of numbers of letters -/
theorem nums_at {L : List En} {i : Nat} {e : En} (h : L[i]? = some e) : (numsN L)[i]? = some (e.n : Int) := by simp [numsN, h]
theorem nums_len (L : List En) : (numsN L).length = L.length := by simp [numsN]
/-- at the head of IndexFunc's loop -/
def IXT (L : List En) (bad : En → Bool) (W : World) (v8 : Value) (wr : World) : Prop := ∃ i : Nat, v8 = .int .i64 (i : Int) ∧ i ≤ L.length ∧ (∀ j e, j < i → L[j]? = some e → bad e = false) ∧ Below W.heap.size W wr
/-- what it answers -/
def IdT (L : List En) (bad : En → Bool) (W : World) (e : Ending) (W' : World) : Prop := Below W.heap.size W W' ∧ ((e = .returned (.int .i64 (-1)) ∧ ∀ x ∈ L, bad x = false) ∨ ∃ (i : Nat) (x : En), e = .returned (.int .i64 (i : Int)) ∧ L[i]? = some x ∧ bad x = true ∧ ∀ j e, j < i → L[j]? = some e → bad e = false)
/-- To's question, from w on -/
def AskH (w : World) (B : Nat) (L : List En) (bad : En → Bool) (a b : Value) : Prop := ∀ W, Below B w W → ∀ e ∈ L, Calls Try.prog 35 #[.int .i64 (e.n : Int), a, b] W (QT W (bad e))
set_option maxRecDepth 100000 in
set_option maxHeartbeats 4000000 in
theorem indexT_any (L : List En) (bad : En → Bool) (w : World) (B : Nat) (a b : Value) (hC : AskH w B L bad a b) (A : Option Addr) (n cap : Nat) (hn : L.length = n) (hn2 : n ≤ 1024) (W : World) (hW : Below B w W) (hB : B ≤ W.heap.size) (hr : RdI W W.heap.size A (numsN L)) :
    Calls Try.prog 45 #[.slice A n cap, .func (.func 35) #[] #[a, b]] W (IdT L bad W) := by
  have HR := Lib.hid hr
  have HN := Lib.hid hn
  have HCC := Lib.hid hC
  have HW : Hid (∀ wr, Below W.heap.size W wr → Below B w wr) := Lib.hid fun wr h => hW.trans (h.mono hB)
  have hni : (n : Int) ≤ 1024 := by omega
  have HST : Hid (IXT L bad W (.int .i64 0) W) := Lib.hid ⟨0, rfl, Nat.zero_le _, fun j e hj => by omega, Below.refl _ _⟩
  clear hr hn hn2 hC hW hB
  go_enter Try.func45, Try.ntmps45
  go_wp2_with fail
  go_loopw [8] (fun v8 wr => IXT L bad W v8 wr) (fun v8 _ => n - (intOf v8).toNat)
  case atStart => exact HST.out
  case round =>
    obtain ⟨i, rfl, hi, hu, hg⟩ := hrel
    have HU := Lib.hid hu
    have HG := Lib.hid hg
    have hi' : i ≤ n := by rw [← HN.out]; exact hi
    have hii : (i : Int) ≤ 1024 := by omega
    clear hu hg hi
    by_cases hlt : i < n
    · obtain ⟨x, hx⟩ : ∃ x, L[i]? = some x := ⟨_, List.getElem?_eq_getElem (by rw [HN.out]; exact hlt)⟩
      have HX := Lib.hid hx
      obtain ⟨bb, o, hA, hbg, hc⟩ := HR.out.at_ (nums_at hx)
      subst hA
      have hc' : wr.cell? ⟨bb, o + i, none⟩ = some (.int .i64 (x.n : Int)) := (World.cell?_of_block (HG.out.block bb hbg)).trans hc
      have hlti : (i : Int) < (n : Int) := by omega
      have HQ := Lib.hid (HCC.out wr (HW.out wr HG.out) x (List.mem_of_getElem? hx))
      cases hbad : bad x
      · rw [hbad] at HQ
        have HY : Hid (∀ v8 w2, v8 = .int .i64 ((i + 1 : Nat) : Int) → Below wr.heap.size wr w2 → IXT L bad W v8 w2) := Lib.hid fun v8 w2 h8 hb => ⟨i + 1, h8, by rw [HN.out]; exact hlt, fun j e hj he => by
          by_cases hji : j = i
          · subst hji
            rw [HX.out] at he
            injection he with he
            subst he
            exact hbad
          · exact HU.out j e (by omega) he, HG.out.trans (hb.mono HG.out.size)⟩
        clear hc hx hbad hbg
        go_wp2_with (go_at_call 35; refine HQ.out.mono ?_; rintro e w2 ⟨rfl, hb⟩; have HZ := Lib.hid (fun v8 h8 => HY.out v8 _ h8 hb); clear hb)
        go_roundw
        case rel => first | exact HZ.out _ (by go_num) | ((repeat apply Exists.intro); exact ⟨HZ.out _ (by go_num), rfl⟩)
        case measure => simp [intOf]; omega
      · rw [hbad] at HQ
        have HY : Hid (∀ w2, Below wr.heap.size wr w2 → IdT L bad W (.returned (.int .i64 (i : Int))) w2) := Lib.hid fun w2 hb => ⟨HG.out.trans (hb.mono HG.out.size), .inr ⟨i, x, rfl, HX.out, hbad, HU.out⟩⟩
        clear hc hx hbad hbg
        go_wp2_with (go_at_call 35; refine HQ.out.mono ?_; rintro e w2 ⟨rfl, hb⟩; have HZ := Lib.hid (HY.out _ hb); clear hb)
        go_ret
        exact HZ.out
    · have hie : i = n := by omega
      subst hie
      have hlti : ¬ (i : Int) < (i : Int) := by omega
      have HY : Hid (IdT L bad W (.returned (.int .i64 (-1))) wr) := Lib.hid ⟨HG.out, .inl ⟨rfl, fun x hx => by
        obtain ⟨j, hj⟩ := List.mem_iff_getElem?.1 hx
        exact HU.out j x (by have := (List.getElem?_eq_some_iff.1 hj).1; have := HN.out; omega) hj⟩⟩
      clear hlt hi'
      go_wp2_with fail
      go_ret
      exact HY.out
end

section
open Go.RowKit Go.Maps
theorem own_block {w : World} {B g n cap : Nat} {C : List Int} (h : OwnI w B (.slice (some ⟨g, 0, none⟩) n cap) C) : ∃ cur, w.heap[g]? = some (.cells cur 3 (0, 0)) ∧ C.length = n ∧ n ≤ cap ∧ cap ≤ maxLen ∧ cur.size = cap ∧ cur.toList.take n = intsZ C ∧ B ≤ g := by
  obtain ⟨A, c, e, hc⟩ := h.2
  injection e with e1 e2 e3
  rcases h.1.2 with ⟨e, h0⟩ | ⟨g', cap', cur, e, hB, hh, hnc, hm, hsz, htk⟩
  · cases e
  · injection e with e4 e5 e6
    injection e4 with e4
    injection e4 with e4
    subst e4 e5 e6
    exact ⟨cur, hh, e2.symm, by omega, by omega, by rw [hsz]; omega, by rw [e2]; rw [Nat.mul_one] at htk; exact htk, hB⟩
theorem own_of_block {w : World} {B g n cap : Nat} {C : List Int} {cur : Array Value} (hh : w.heap[g]? = some (.cells cur 3 (0, 0))) (hn : C.length = n) (hc : n ≤ cap) (hm : cap ≤ maxLen) (hs : cur.size = cap) (ht : cur.toList.take n = intsZ C) (hB : B ≤ g) : OwnI w B (.slice (some ⟨g, 0, none⟩) n cap) C := by
  subst hn
  exact ⟨⟨by rw [intsZ_len, Nat.mul_one], .inr ⟨g, cap, cur, rfl, hB, hh, hc, hm, by omega, by rw [Nat.mul_one]; exact ht⟩⟩, _, _, rfl, hc⟩
theorem own_setZ {w : World} {B g n cap : Nat} {C : List Int} (h : OwnI w B (.slice (some ⟨g, 0, none⟩) n cap) C) {i : Nat} (hi : i < n) (x : Int) :
    (∃ u, w.cell? ⟨g, i, none⟩ = some u) ∧ w.frozen? ⟨g, i, none⟩ = false ∧ OwnI (w.setCell ⟨g, i, none⟩ (.int .i64 x)) B (.slice (some ⟨g, 0, none⟩) n cap) (C.set i x) := by
  obtain ⟨cur, hh, hn, hc, hm, hs, ht, hB⟩ := own_block h
  refine ⟨⟨cur[i]'(by omega), by simp [World.cell?, hh]⟩, frozen_of hh i, own_of_block (cur := cur.setIfInBounds i (.int .i64 x)) ?_ (by rw [List.length_set]; exact hn) hc hm (by simp [hs]) ?_ hB⟩
  · simp [World.setCell, Array.getElem?_modify, hh]
  · rw [Array.toList_setIfInBounds, List.take_set, ht]
    simp [intsZ, List.map_set]
theorem own_at {w : World} {B g n cap : Nat} {C : List Int} (h : OwnI w B (.slice (some ⟨g, 0, none⟩) n cap) C) {i : Nat} {x : Int} (hx : C[i]? = some x) : w.cell? ⟨g, i, none⟩ = some (.int .i64 x) := by
  have hne : C ≠ [] := by rintro rfl; simp at hx
  obtain ⟨A, c, e, _⟩ := h.2
  injection e with e1 e2 e3
  subst e2
  obtain ⟨b, o, e, _, hc⟩ := h.rd hne
  injection e with e
  injection e with e4 e5
  subst e4 e5
  have := hc i x hx
  rwa [Nat.zero_add] at this
theorem sets_block (g : Nat) : ∀ (vs : List Value) (o : Nat) (w : World) (cur : Array Value), w.heap[g]? = some (.cells cur 3 (0, 0)) → ∃ cur', (w.setCells g o vs).heap[g]? = some (.cells cur' 3 (0, 0)) ∧ cur'.size = cur.size ∧ cur'.toList.take o = cur.toList.take o
  | [], _, _, cur, h => ⟨cur, h, rfl, rfl⟩
  | v :: r, o, w, cur, h => by
    have h1 : (w.setCell ⟨g, o, none⟩ v).heap[g]? = some (.cells (cur.setIfInBounds o v) 3 (0, 0)) := by simp [World.setCell, Array.getElem?_modify, h]
    obtain ⟨cur', h2, h3, h4⟩ := sets_block g r (o + 1) _ _ h1
    refine ⟨cur', h2, by rw [h3]; simp, ?_⟩
    have h5 := congrArg (List.take o) h4
    rw [List.take_take, List.take_take, Nat.min_eq_left (by omega)] at h5
    rw [h5, Array.toList_setIfInBounds, List.take_set, List.set_eq_of_length_le (by rw [List.length_take]; omega)]
/-- clear, of what stands behind the first i ones -/
theorem run_clearZ {w : World} {B g n cap i m c : Nat} {C : List Int} (h : OwnI w B (.slice (some ⟨g, 0, none⟩) n cap) C) (hi : i + m = n) (hm : 0 < m) :
    ∃ w', (∀ ty, (Builtin.clear_ #[30] ty #[.slice (some ⟨g, i, none⟩) m c]).run Try.prog w = .ok (.tuple #[]) w') ∧ OwnI w' B (.slice (some ⟨g, 0, none⟩) i cap) (C.take i) ∧ Only (· = g) w w' := by
  obtain ⟨cur, hh, hn, hc, hml, hs, ht, hB⟩ := own_block h
  have hv : ∀ w, (zeroValue 3).run Try.prog w = .ok (.int .i64 0) w := fun w => by kernel_rfl
  have hzl : (Builtin.zeroCells (Value.int .i64 0).cells m).toList.length = m := by simp [Builtin.zeroCells, Value.cells]
  have hst := run_storeCells_cells (P := Try.prog) g i (Builtin.zeroCells (Value.int .i64 0).cells m).toList 0 w
    (fun j hj => by rw [hzl] at hj; simp [World.cell?, hh]; omega)
    (fun j hj => frozen_of hh _)
    (fun u hu => by
      simp only [Builtin.zeroCells, Array.toList_map, List.mem_map] at hu
      obtain ⟨k, _, rfl⟩ := hu
      simp [Value.cells, Nat.mod_one]
      rfl)
  simp only [Nat.add_zero] at hst
  have hrun : ∀ ty, (Builtin.clear_ #[30] ty #[.slice (some ⟨g, i, none⟩) m c]).run Try.prog w = .ok (.tuple #[]) (w.setCells g i (Builtin.zeroCells (Value.int .i64 0).cells m).toList) := fun ty => by
    obtain ⟨m', rfl⟩ : ∃ m', m = m' + 1 := ⟨m - 1, by omega⟩
    simp [Builtin.clear_, run_underlying Try.underlying30, hv, hst]
  obtain ⟨cur', h1, h2, h3⟩ := sets_block g (Builtin.zeroCells (Value.int .i64 0).cells m).toList i w cur hh
  refine ⟨_, hrun, own_of_block h1 (by rw [List.length_take]; omega) (by omega) hml (by omega) ?_ hB, Only.sets g _ _ w⟩
  have h4 := congrArg (List.take i) ht
  rw [List.take_take, Nat.min_eq_left (by omega)] at h4
  rw [h3, h4]
  simp [intsZ, List.map_take]
/-- at the head of DeleteFunc's loop -/
def DlL (L : List En) (bad : En → Bool) (w : World) (B g n cap : Nat) (v5 v6 : Value) (wr : World) : Prop :=
  ∃ (i j : Nat) (C : List Int), v5 = .int .i64 (i : Int) ∧ v6 = .int .i64 (j : Int) ∧ i < j ∧ j ≤ n ∧ C.take i = numsN ((L.take j).filter fun e => !bad e) ∧ C.drop j = (numsN L).drop j ∧ OwnI wr B (.slice (some ⟨g, 0, none⟩) n cap) C ∧ Below B w wr
/-- what it answers -/
def DfR (L : List En) (bad : En → Bool) (w : World) (B : Nat) (v : Value) (w' : World) : Prop := OwnI w' B v (numsN (L.filter fun e => !bad e)) ∧ Below B w w'
theorem take_snoc {L : List En} {j : Nat} {x : En} (h : L[j]? = some x) : L.take (j + 1) = L.take j ++ [x] := by
  rw [List.take_add_one, h]; rfl
theorem filter_none {L : List En} {bad : En → Bool} {i : Nat} (h : ∀ j e, j < i → L[j]? = some e → bad e = false) : (L.take i).filter (fun e => !bad e) = L.take i := by
  rw [List.filter_eq_self]
  intro e he
  obtain ⟨j, hj⟩ := List.mem_iff_getElem?.1 he
  rw [List.getElem?_take] at hj
  split at hj
  · next hlt => rw [h j e hlt hj]; rfl
  · cases hj
theorem numsN_app (a b : List En) : numsN (a ++ b) = numsN a ++ numsN b := by simp [numsN]
theorem DlL.next {L : List En} {bad : En → Bool} {w : World} {B g n cap i j : Nat} {C : List Int} {wr : World} {x : En} (hij : i < j) (hj : j < n) (hx : L[j]? = some x) (h1 : C.take i = numsN ((L.take j).filter fun e => !bad e)) (h2 : C.drop j = (numsN L).drop j) (h3 : OwnI wr B (.slice (some ⟨g, 0, none⟩) n cap) C) (h4 : Below B w wr) :
    C[j]? = some (x.n : Int) ∧
    (bad x = true → ∀ v5 v6 w2, v5 = .int .i64 (i : Int) → v6 = .int .i64 ((j + 1 : Nat) : Int) → Below wr.heap.size wr w2 → B ≤ wr.heap.size → DlL L bad w B g n cap v5 v6 w2) ∧
    (bad x = false → ∀ v5 v6 w2, v5 = .int .i64 ((i + 1 : Nat) : Int) → v6 = .int .i64 ((j + 1 : Nat) : Int) → Below wr.heap.size wr w2 → B ≤ wr.heap.size → DlL L bad w B g n cap v5 v6 (w2.setCell ⟨g, i, none⟩ (.int .i64 (x.n : Int)))) := by
  have hcj : C[j]? = some (x.n : Int) := by
    have h5 := congrArg (·[0]?) h2
    simp only [List.getElem?_drop, Nat.add_zero] at h5
    rw [h5, nums_at hx]
  have hd : C.drop (j + 1) = (numsN L).drop (j + 1) := by
    have := congrArg (List.drop 1) h2
    rwa [List.drop_drop, List.drop_drop] at this
  refine ⟨hcj, fun hb v5 v6 w2 e5 e6 hw hB => ⟨i, j + 1, C, e5, e6, by omega, by omega, ?_, hd, h3.below hw, h4.trans (hw.mono hB)⟩, fun hb v5 v6 w2 e5 e6 hw hB => ⟨i + 1, j + 1, C.set i (x.n : Int), e5, e6, by omega, by omega, ?_, ?_, (own_setZ (h3.below hw) (by omega) _).2.2, ?_⟩⟩
  · rw [take_snoc hx, List.filter_append, h1]
    simp [hb]
  · rw [take_snoc hx, List.filter_append, numsN_app, ← h1]
    have hlen : i < C.length := by have := (List.getElem?_eq_some_iff.1 hcj).1; omega
    rw [List.take_add_one, List.take_set_of_le (Nat.le_refl _), List.getElem?_set_self hlen]
    simp [hb, numsN]
  · rw [List.drop_set_of_lt (by omega)]; exact hd
  · have hg : B ≤ g := by
      obtain ⟨_, _, _, _, _, _, _, h⟩ := own_block h3
      exact h
    exact (h4.trans (hw.mono hB)).setCell (by exact hg) _
set_option maxRecDepth 100000 in
set_option maxHeartbeats 8000000 in
theorem delete_any (L : List En) (bad : En → Bool) (w : World) (B : Nat) (a b : Value) (hC : AskH w B L bad a b) (v : Value) (hn2 : L.length ≤ 1024) (W : World) (hW : Below B w W) (hB : B ≤ W.heap.size) (hr : OwnI W B v (numsN L)) :
    Calls Try.prog 36 #[v, .func (.func 35) #[] #[a, b]] W (fun e w' => ∃ u, e = .returned u ∧ DfR L bad w B u w') := by
  obtain ⟨n, hn⟩ : ∃ n, L.length = n := ⟨_, rfl⟩
  obtain ⟨A, cap, rfl, hcap⟩ := hr.2
  rw [nums_len, hn] at hr ⊢
  have HI := Lib.hid (indexT_any L bad w B a b hC A n cap hn (by omega) W hW hB hr.rd)
  have HR := Lib.hid hr
  have HN := Lib.hid hn
  have HCC := Lib.hid hC
  have HBW := Lib.hid hW
  have HBS := Lib.hid hB
  have hni : (n : Int) ≤ 1024 := by omega
  clear hr hn hn2 hC hW hB hcap
  unfold IdT at HI
  go_enter Try.func36, Try.ntmps36
  go_wp2_with (go_at_call 45; refine HI.out.mono ?_; rintro e w1 ⟨hb, ⟨rfl, hno⟩ | ⟨i, x, rfl, hx, hbad, hno⟩⟩
               all_goals (have HB1 := Lib.hid hb; clear hb))
  · go_ret
    refine ⟨_, rfl, ?_, HBW.out.trans (HB1.out.mono HBS.out)⟩
    rw [List.filter_eq_self.2 fun e he => by rw [hno e he]; rfl]
    exact HR.out.below HB1.out
  · have hin : i < n := by rw [← HN.out]; exact (List.getElem?_eq_some_iff.1 hx).1
    obtain ⟨g, rfl⟩ : ∃ g, A = some ⟨g, 0, none⟩ := by
      rcases HR.out.1.2 with ⟨e, h0⟩ | ⟨g', cap', cur, e, _⟩
      · rw [nums_len, HN.out] at h0; omega
      · injection e with e1 e2 e3
        exact ⟨g', e1⟩
    have hii : (i : Int) ≤ 1024 := by omega
    have HST : Hid (∀ v5 v6, v5 = .int .i64 (i : Int) → v6 = .int .i64 ((i + 1 : Nat) : Int) → DlL L bad w B g n cap v5 v6 w1) := Lib.hid fun v5 v6 e5 e6 => ⟨i, i + 1, numsN L, e5, e6, by omega, by omega, by
      rw [take_snoc hx, List.filter_append, filter_none hno]
      simp [hbad, numsN, List.map_take], rfl, HR.out.below HB1.out, HBW.out.trans (HB1.out.mono HBS.out)⟩
    have HX := Lib.hid hx
    have HWR : Hid (wrap64 ((i : Int) + 1) = ((i + 1 : Nat) : Int)) := Lib.hid (by unfold wrap64; omega)
    clear hx hbad hno hin
    go_wp2_with fail
    go_loopw [5, 6] (fun v5 v6 wr => DlL L bad w B g n cap v5 v6 wr) (fun _ v6 _ => n - (intOf v6).toNat)
    case atStart => exact HST.out _ _ rfl (congrArg (Value.int .i64) HWR.out)
    case round =>
      obtain ⟨i, j, C, rfl, rfl, hij, hjn, h1, h2, h3, h4⟩ := hrel
      have H1 := Lib.hid h1
      have H2 := Lib.hid h2
      have H3 := Lib.hid h3
      have H4 := Lib.hid h4
      have hjj : (j : Int) ≤ 1024 := by omega
      have hiij : (i : Int) < (j : Int) := by omega
      clear h1 h2 h3 h4
      by_cases hlt : j < n
      · obtain ⟨x, hx⟩ : ∃ x, L[j]? = some x := ⟨_, List.getElem?_eq_getElem (by rw [HN.out]; exact hlt)⟩
        obtain ⟨hcj, hyes, hnot⟩ := DlL.next hij hlt hx H1.out H2.out H3.out H4.out
        have hcell := own_at H3.out hcj
        have hlti : (j : Int) < (n : Int) := by omega
        have hini : (i : Int) < (n : Int) := by omega
        have HQ := Lib.hid (HCC.out wr H4.out x (List.mem_of_getElem? hx))
        have HS : Hid (B ≤ wr.heap.size) := Lib.hid (Nat.le_trans (own_block H3.out).choose_spec.2.2.2.2.2.2 (Nat.le_of_lt (Array.getElem?_eq_some_iff.1 (own_block H3.out).choose_spec.1).1))
        cases hbad : bad x
        · rw [hbad] at HQ
          have HY := Lib.hid (hnot hbad)
          have HC2 : Hid (∀ w2, Below wr.heap.size wr w2 → (∃ u, w2.cell? ⟨g, i, none⟩ = some u) ∧ w2.frozen? ⟨g, i, none⟩ = false) := Lib.hid fun w2 hb => ⟨(own_setZ (H3.out.below hb) (by omega) 0).1, (own_setZ (H3.out.below hb) (by omega) 0).2.1⟩
          clear hx hbad hyes hnot hcj hij hjn
          go_wp2_with (go_at_call 35; refine HQ.out.mono ?_; rintro e w2 ⟨rfl, hb⟩; obtain ⟨⟨u, hu⟩, hf⟩ := HC2.out w2 hb; have HZ := Lib.hid (fun v5 v6 h5 h6 => HY.out v5 v6 w2 h5 h6 hb HS.out); clear hb)
          go_roundw
          case rel => first | exact HZ.out _ _ (by go_num) (by go_num) | ((repeat apply Exists.intro); exact ⟨HZ.out _ _ (by go_num) (by go_num), rfl⟩)
          case measure => simp [intOf]; omega
        · rw [hbad] at HQ
          have HY := Lib.hid (hyes hbad)
          clear hx hbad hyes hnot hcj hij hjn
          go_wp2_with (go_at_call 35; refine HQ.out.mono ?_; rintro e w2 ⟨rfl, hb⟩; have HZ := Lib.hid (fun v5 v6 h5 h6 => HY.out v5 v6 w2 h5 h6 hb HS.out); clear hb)
          go_roundw
          case rel => first | exact HZ.out _ _ (by go_num) (by go_num) | ((repeat apply Exists.intro); exact ⟨HZ.out _ _ (by go_num) (by go_num), rfl⟩)
          case measure => simp [intOf]; omega
      · have hje : j = n := by omega
        subst hje
        obtain ⟨w3, hrun, ho3, hO3⟩ := run_clearZ (i := i) (c := cap - i) (m := j - i) H3.out (by omega) (by omega)
        have HZ : Hid (DfR L bad w B (.slice (some ⟨g, 0, none⟩) i cap) w3) := Lib.hid (by
          obtain ⟨_, _, _, _, _, _, _, hBg⟩ := own_block H3.out
          refine ⟨?_, H4.out.trans (hO3.below (Nat.le_trans hBg (Nat.le_of_lt (Array.getElem?_eq_some_iff.1 (own_block H3.out).choose_spec.1).1)) fun k hk => by omega)⟩
          have h5 := H1.out
          rw [List.take_of_length_le (l := L) (by rw [HN.out]; exact Nat.le_refl _)] at h5
          rw [← h5]
          exact ho3)
        have hlti : ¬ (j : Int) < (j : Int) := by omega
        have hcp : (j : Int) ≤ cap := by
          obtain ⟨_, _, _, h, _⟩ := own_block H3.out
          omega
        have hci : (i : Int) ≤ cap := by omega
        clear hlt hO3 ho3 hij hjn
        go_wp2_with fail
        go_ret
        exact ⟨_, rfl, HZ.out⟩
/-- To: the numbers of the letters to a node -/
def toN (L : List En) (node : Int) : List Int := numsN (L.filter fun e => decide (e.l.t = node))
def ToR (w : World) (L : List En) (node : Int) (v : Value) (w' : World) : Prop := OwnI w' w.heap.size v (toN L node) ∧ Below w.heap.size w w'
theorem otherB_not (L : List En) (node : Int) : L.filter (fun e => !otherB node e) = L.filter fun e => decide (e.l.t = node) := by
  refine List.filter_congr fun e _ => ?_
  unfold otherB
  by_cases h : e.l.t = node <;> simp [h]
set_option maxRecDepth 100000 in
set_option maxHeartbeats 4000000 in
theorem to_any {w : World} {p : Nat} {m : Option Nat} {L : List En} {s t : Nat} (h : NetAt w p m L s t) (node : Int) : Calls Try.prog 25 #[.pointer (some ⟨p, 0, none⟩), .int .i64 node] w (fun e w' => ∃ v, e = .returned v ∧ ToR w L node v w') := by
  obtain ⟨w0, hw0⟩ : ∃ w0, w0 = (w.alloc (.cells #[.pointer (some ⟨p, 0, none⟩)] 23)).alloc (.cells #[.int .i64 node] 3) := ⟨_, rfl⟩
  have hb0 : Below w.heap.size w w0 := by rw [hw0]; exact alloc2_below w _ _
  have hsz : (w.alloc (.cells #[.pointer (some ⟨p, 0, none⟩)] 23)).heap.size = w.heap.size + 1 := by simp
  have h0 : ToW w0 p m L s t w.heap.size (w.heap.size + 1) node := ⟨h.below hb0, by
    rw [hw0]
    exact ((alloc_below _ _).block _ (by rw [hsz]; omega)).trans (heap_alloc_new w _), by
    rw [hw0, ← hsz]
    exact heap_alloc_new _ _⟩
  have hc : w0.cell? ⟨w.heap.size, 0, none⟩ = some (.pointer (some ⟨p, 0, none⟩)) := cell_of_one h0.b
  have HNum := Lib.hid (numbers_any h0.net)
  have hask : AskH w0 w0.heap.size L (otherB node) (.pointer (some ⟨w.heap.size, 0, none⟩)) (.pointer (some ⟨w.heap.size + 1, 0, none⟩)) := fun W hW e he => to1_any (h0.below hW) he
  have HD : Hid (∀ v W, NumR w0 L v W → Calls Try.prog 36 #[v, .func (.func 35) #[] #[.pointer (some ⟨w.heap.size, 0, none⟩), .pointer (some ⟨w.heap.size + 1, 0, none⟩)]] W (fun e w' => ∃ u, e = .returned u ∧ ToR w L node u w')) := Lib.hid fun v W hv => by
    refine (delete_any L (otherB node) w0 w0.heap.size _ _ hask v h.room W hv.2 hv.2.size hv.1).mono ?_
    rintro e w' ⟨u, rfl, h1, h2⟩
    rw [otherB_not] at h1
    exact ⟨u, rfl, h1.low hb0.size, hb0.trans (h2.mono hb0.size)⟩
  have hmf : ∀ (fn : Fn) (first cap : Array Value) (w : World), (Instr.makeFunc fn first cap).run Try.prog w = .ok (.func fn first cap) w := fun _ _ _ _ => rfl
  rw [hw0] at hc HNum HD
  clear h h0 hask hb0 hw0 hsz
  go_enter Try.func25, Try.ntmps25
  go_wp2_with (first
    | (go_at_call 23; refine HNum.out.mono ?_; rintro e w1 ⟨v, rfl, hv⟩; have HV := Lib.hid hv; clear hv)
    | (go_at_call 36; refine (HD.out _ _ HV.out).mono ?_; rintro e w2 ⟨u, rfl, hu⟩; have HU := Lib.hid hu; clear hu))
  go_ret
  exact ⟨_, rfl, HU.out⟩
end

section
open Go.RowKit Go.Maps
/-- a net that a law made -/
structure NetW (w0 w : World) (p : Nat) (m : Option Nat) (L : List En) (s t : Nat) : Prop where
  net : NetAt w p m L s t
  bel : Below w0.heap.size w0 w
  gp : w0.heap.size ≤ p
  gm : ∀ q, m = some q → w0.heap.size ≤ q
theorem NetW.below {w0 w W : World} {p : Nat} {m : Option Nat} {L : List En} {s t : Nat} (h : NetW w0 w p m L s t) (hb : Below w.heap.size w W) : NetW w0 W p m L s t := ⟨h.net.below hb, h.bel.trans (hb.mono h.bel.size), h.gp, h.gm⟩
theorem NetW.nk {w0 w : World} {p : Nat} {m : Option Nat} {L : List En} {s t : Nat} (h : NetW w0 w p m L s t) : ∀ j, NK p m j → w0.heap.size ≤ j := fun j hj => by
  rcases hj with hj | hj
  · rw [hj]; exact h.gp
  · exact h.gm j hj.symm
theorem NetW.put {w0 w w' : World} {p : Nat} {m : Option Nat} {L : List En} {s t : Nat} {l : Ltr} (h : NetW w0 w p m L s t) (k : PutR w p m L s t l w') : ∃ m' g c, NetW w0 w' p m' (L ++ [⟨s, l, g, c⟩]) (s + 1) t := by
  obtain ⟨m', g, c, h1, h2, h3⟩ := k
  refine ⟨m', g, c, h1, h.bel.trans (h2.below h.bel.size h.nk), h.gp, fun q hq => ?_⟩
  rcases h3 with h3 | ⟨_, q', h4, h5⟩
  · exact h.gm q (by rw [← h3]; exact hq)
  · rw [h4] at hq
    injection hq with hq
    have := h.bel.size
    omega
theorem NetW.lose {w0 w w' : World} {p : Nat} {m : Option Nat} {L : List En} {s t : Nat} {x : Int} (h : NetW w0 w p m L s t) (k : LoseR w p m L s t x w') : NetW w0 w' p m (dropN L x) s t := ⟨k.1, h.bel.trans (k.2.below h.bel.size h.nk), h.gp, h.gm⟩
theorem NetW.take {w0 w w' : World} {p : Nat} {m : Option Nat} {L : List En} {s t : Nat} {x : Int} {l : Ltr} {A : Option Addr} {c : Nat} (h : NetW w0 w p m L s t) (k : TakeR w p m L s t x l A c w') : NetW w0 w' p m (dropN L x) s (t + 1) := ⟨k.2.1, h.bel.trans (k.2.2.below h.bel.size h.nk), h.gp, h.gm⟩
theorem NetW.new (w : World) : NetW w (w.alloc (netO none 0 0)) w.heap.size none [] 0 0 := ⟨NetAt.new w, alloc_below w _, Nat.le_refl _, fun q hq => by cases hq⟩
theorem to_nil (node : Int) (w : World) : Calls Try.prog 25 #[.pointer none, .int .i64 node] w (fun e w' => ∃ v, e = .returned v ∧ OwnI w' w.heap.size v [] ∧ Below w.heap.size w w') := by
  obtain ⟨w0, hw0⟩ : ∃ w0, w0 = (w.alloc (.cells #[.pointer none] 23)).alloc (.cells #[.int .i64 node] 3) := ⟨_, rfl⟩
  have hb0 : Below w.heap.size w w0 := by rw [hw0]; exact alloc2_below w _ _
  have HNum := Lib.hid (numbers_nil w0)
  have hask : ∀ a b, AskH w0 w0.heap.size [] (fun _ => false) a b := fun a b W hW e he => by simp at he
  have HD : Hid (∀ a b, Calls Try.prog 36 #[.slice none 0 0, .func (.func 35) #[] #[a, b]] w0 (fun e w' => ∃ v, e = .returned v ∧ OwnI w' w.heap.size v [] ∧ Below w.heap.size w w')) := Lib.hid fun a b => by
    refine (delete_any [] (fun _ => false) w0 w0.heap.size _ _ (hask a b) (.slice none 0 0) (by simp) w0 (Below.refl _ _) (Nat.le_refl _) (OwnI.nil _ _)).mono ?_
    rintro e w' ⟨u, rfl, h1, h2⟩
    exact ⟨u, rfl, h1.low hb0.size, hb0.trans (h2.mono hb0.size)⟩
  have hmf : ∀ (fn : Fn) (first cap : Array Value) (w : World), (Instr.makeFunc fn first cap).run Try.prog w = .ok (.func fn first cap) w := fun _ _ _ _ => rfl
  rw [hw0] at HNum HD
  clear hask hb0 hw0
  go_enter Try.func25, Try.ntmps25
  go_wp2_with (first
    | (go_at_call 23; refine HNum.out.mono ?_; rintro e w1 ⟨rfl, rfl⟩)
    | (go_at_call 36; refine (HD.out _ _).mono ?_; rintro e w2 ⟨u, rfl, hu⟩; have HU := Lib.hid hu; clear hu))
  go_ret
  exact ⟨_, rfl, HU.out⟩
/-- the live question's letter -/
def yesL : Ltr := ⟨2, 1, 0, 7, []⟩
theorem yesL_right : yesL.right = true := by decide
set_option maxRecDepth 100000 in
set_option maxHeartbeats 4000000 in
theorem aliveN_any (w : World) : Calls Try.prog 26 #[] w (Ans (.bool true) w) := by
  have H1 := Lib.hid (NetW.new w)
  have HS : Hid (∀ W m L s, L.length < 10 → s < 10 → NetW w W w.heap.size m L s 0 → Calls Try.prog 10 #[.pointer (some ⟨w.heap.size, 0, none⟩), .agg #[.int .i64 2, .int .i64 1, .int .i64 0, .int .i64 7, .slice none 0 0]] W (PutT W w.heap.size m L s 0 yesL)) := Lib.hid fun W m L s hL hs h => send_yes h.net (by omega) (by omega) yesL yesL_right none 0 0 rfl (by omega) (RdI.nil _ _ _)
  have HT : Hid (∀ W m L s, L.length < 10 → s < 10 → NetW w W w.heap.size m L s 0 → ∀ e, findN L 0 = some e → Calls Try.prog 17 #[.pointer (some ⟨w.heap.size, 0, none⟩), .int .i64 0] W (PutT W w.heap.size m L s 0 e.l)) := Lib.hid fun W m L s hL hs h e he => twice_yes h.net (by omega) (by omega) (by unfold i64ok; omega) he
  unfold PutT at HS HT
  unfold netO at H1
  go_enter Try.func26, Try.ntmps26
  go_wp2_with (first
    | (go_at_call 9; refine (new_any w).mono ?_; unfold netO; rintro e w1 ⟨rfl, rfl⟩)
    | (go_at_call 10; refine (HS.out _ _ _ _ (by decide) (by decide) H1.out).mono ?_; rintro e w2 ⟨rfl, hp⟩
       obtain ⟨m2, g2, c2, h2⟩ := H1.out.put hp
       have H2 := Lib.hid h2
       clear hp h2)
    | (go_at_call 17; refine (HT.out _ _ _ _ (by simp) (by decide) H2.out _ rfl).mono ?_; rintro e w3 ⟨rfl, hp⟩
       obtain ⟨m3, g3, c3, h3⟩ := H2.out.put hp
       have H3 := Lib.hid h3
       clear hp h3)
    | (go_at_call 15; refine (take_yes H3.out.net (x := 1) (by unfold i64ok; omega) (en := ⟨1, yesL, g3, c3⟩) rfl).mono ?_; unfold TakeT yesL; rintro e w4 ⟨A4, cap4, rfl, hp⟩
       have H4 := Lib.hid ((H3.out.take hp).below (alloc_below w4 (.cells #[.int .i64 2, .int .i64 1, .int .i64 0, .int .i64 7, .slice A4 0 cap4] 32)))
       clear hp)
    | (go_at_call 23; refine (numbers_any H4.out.net).mono ?_; rintro e w5 ⟨v, rfl, hn, hb⟩
       obtain ⟨A5, cap5, rfl, _⟩ := hn.2
       have HB := Lib.hid (H4.out.bel.trans (hb.mono H4.out.bel.size))
       clear hn hb))
  go_ret
  exact ⟨rfl, HB.out⟩
end
end Go.Proofs.Ythdhifnafgidaaa

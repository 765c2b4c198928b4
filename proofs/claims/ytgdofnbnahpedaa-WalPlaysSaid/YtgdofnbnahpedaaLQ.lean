/- WalPlays: a log and the document's log, side by side. -/
import Derived.Test.YtgdofnbnahpedaaLN
import Derived.Test.YtgdofnbnahpedaaJV
namespace Go.Proofs.Ytgdofnbnahpedaa
open Go.RowKit

theorem Rw.only {K : Nat → Prop} {w w' : World} {B q p g d b e s : Nat} {X : List UInt8} {es : List BEnt} (h : Rw w B q p g d b e s X es) (hO : Only K w w') (hq : ¬ K q) (hp : ¬ K p) (hg : ¬ K g) (hd : ¬ K d) (hes : ∀ x ∈ es, x.l ≠ [] → ∀ ad, x.A = some ad → ¬ K ad.block) : Rw w' B q p g d b e s X es := by
  obtain ⟨A, cap, h1, h2⟩ := h.box
  exact ⟨⟨A, cap, (hO.block q h.lt hq).trans h1, h2.only hO (fun _ => hd)⟩, h.disk.only hO hp hg, h.ge, h.ne, fun x hx => ⟨(h.ents x hx).1.only hO (hes x hx), (h.ents x hx).2⟩⟩
theorem Rw.with_disk {w w' : World} {B q p g d b e s b' e' s' : Nat} {X : List UInt8} {es : List BEnt} (h : Rw w B q p g d b e s X es) (hO : Only (fun k => k = p) w w') (hd : Mk w' B p g b' e' s' X) : Rw w' B q p g d b' e' s' X es := by
  obtain ⟨A, cap, h1, h2⟩ := h.box
  have hne := h.ne
  exact ⟨⟨A, cap, (hO.block q h.lt hne.1).trans h1, h2.only hO (fun _ => hne.2.2.1)⟩, hd, h.ge, h.ne, fun x hx => ⟨(h.ents x hx).1.only hO (fun hn ad e => ((h.ents x hx).2 hn ad e).2.2.1), (h.ents x hx).2⟩⟩
/-- one of four -/
def In4 (a b c d j : Nat) : Prop := j = a ∨ j = b ∨ j = c ∨ j = d
theorem In4.lt {a b c d j n : Nat} (h : In4 a b c d j) (ha : a < n) (hb : b < n) (hc : c < n) (hd : d < n) : j < n := by rcases h with rfl | rfl | rfl | rfl <;> assumption
theorem In4.ge {a b c d j n : Nat} (h : In4 a b c d j) (ha : n ≤ a) (hb : n ≤ b) (hc : n ≤ c) (hd : n ≤ d) : n ≤ j := by rcases h with rfl | rfl | rfl | rfl <;> assumption
/-- a log in blocks q, p, g, d; the document's in mq, mp, mg, md -/
structure WQ (w wr : World) (q p g d b s : Nat) (pre : List (Nat × Nat)) (rs : List (List UInt8)) (mq mp mg md b' e' s' : Nat) (X : List UInt8) (es : List BEnt) : Prop where
  wl : Wl wr w.heap.size q p g d b s pre rs
  rw : Rw wr w.heap.size mq mp mg md b' e' s' X es
  sep : ∀ j, In4 q p g d j → ¬ In4 mq mp mg md j
  esep : ∀ x ∈ es, x.l ≠ [] → ∀ ad, x.A = some ad → ¬ In4 q p g d ad.block
  bel : Below w.heap.size w wr
theorem WQ.lt {w wr : World} {q p g d b s mq mp mg md b' e' s' : Nat} {pre : List (Nat × Nat)} {rs : List (List UInt8)} {X : List UInt8} {es : List BEnt} (h : WQ w wr q p g d b s pre rs mq mp mg md b' e' s' X es) : q < wr.heap.size ∧ p < wr.heap.size ∧ g < wr.heap.size ∧ d < wr.heap.size ∧ mq < wr.heap.size ∧ mp < wr.heap.size ∧ mg < wr.heap.size ∧ md < wr.heap.size :=
  ⟨h.wl.lt, h.wl.disk.lt, h.wl.disk.dlt, h.wl.dlt, h.rw.lt, h.rw.disk.lt, h.rw.disk.dlt, h.rw.dlt⟩
theorem WQ.elt {w wr : World} {q p g d b s mq mp mg md b' e' s' : Nat} {pre : List (Nat × Nat)} {rs : List (List UInt8)} {X : List UInt8} {es : List BEnt} (h : WQ w wr q p g d b s pre rs mq mp mg md b' e' s' X es) {x : BEnt} (hx : x ∈ es) (hn : x.l ≠ []) {ad : Addr} (e : x.A = some ad) : ad.block < wr.heap.size ∧ w.heap.size ≤ ad.block := by
  obtain ⟨h1, h2⟩ := h.rw.ents x hx
  obtain ⟨ad', e2, hlt, _⟩ := h1 hn
  rw [e] at e2
  injection e2 with e2
  subst e2
  exact ⟨hlt, (h2 hn ad e).1⟩
theorem WQ.below {w wr wz : World} {q p g d b s mq mp mg md b' e' s' : Nat} {pre : List (Nat × Nat)} {rs : List (List UInt8)} {X : List UInt8} {es : List BEnt} (h : WQ w wr q p g d b s pre rs mq mp mg md b' e' s' X es) (hb : Below wr.heap.size wr wz) : WQ w wz q p g d b s pre rs mq mp mg md b' e' s' X es :=
  ⟨h.wl.below hb, h.rw.below hb, h.sep, h.esep, belowM h.bel (Nat.le_refl _) hb⟩
theorem WQ.prog {w wr wz : World} {q p g d g' d' b s b1 s1 mq mp mg md b' e' s' : Nat} {pre pre' : List (Nat × Nat)} {rs rs' : List (List UInt8)} {X : List UInt8} {es : List BEnt} (h : WQ w wr q p g d b s pre rs mq mp mg md b' e' s' X es) (hw : Wl wz w.heap.size q p g' d' b1 s1 pre' rs') (hO : Only (fun k => k = q ∨ k = p ∨ k = g ∨ k = d) wr wz) (hg : g' = g ∨ wr.heap.size ≤ g') (hd : d' = d ∨ wr.heap.size ≤ d') : WQ w wz q p g' d' b1 s1 pre' rs' mq mp mg md b' e' s' X es := by
  have hl := h.lt
  have hs := h.sep
  have hge := h.wl.ge
  have hdg := h.wl.disk.ge
  have hin : ∀ j, In4 q p g' d' j → In4 q p g d j ∨ wr.heap.size ≤ j := fun j hj => by
    rcases hj with e | e | e | e
    · exact .inl (.inl e)
    · exact .inl (.inr (.inl e))
    · rcases hg with e2 | e2
      · exact .inl (.inr (.inr (.inl (e.trans e2))))
      · exact .inr (by omega)
    · rcases hd with e2 | e2
      · exact .inl (.inr (.inr (.inr (e.trans e2))))
      · exact .inr (by omega)
  refine ⟨hw, h.rw.only hO (fun e => hs _ e (.inl rfl)) (fun e => hs _ e (.inr (.inl rfl))) (fun e => hs _ e (.inr (.inr (.inl rfl)))) (fun e => hs _ e (.inr (.inr (.inr rfl)))) (fun x hx hn ad e e2 => h.esep x hx hn ad e e2), fun j hj hm => ?_, fun x hx hn ad e e2 => ?_, h.bel.trans (hO.below h.bel.size (fun j e => In4.ge e hge.1 hdg.1 hdg.2 hge.2))⟩
  · rcases hin j hj with h1 | h1
    · exact hs j h1 hm
    · have := hm.lt hl.2.2.2.2.1 hl.2.2.2.2.2.1 hl.2.2.2.2.2.2.1 hl.2.2.2.2.2.2.2
      omega
  · rcases hin _ e2 with h1 | h1
    · exact h.esep x hx hn ad e h1
    · have := (h.elt hx hn e).1
      omega
theorem WQ.doc {w wr wz : World} {q p g d b s mq mp mg md mg' md' b' e' s' b1 e1 s1 : Nat} {pre : List (Nat × Nat)} {rs : List (List UInt8)} {X X' : List UInt8} {es es' : List BEnt} (h : WQ w wr q p g d b s pre rs mq mp mg md b' e' s' X es) (hr : Rw wz w.heap.size mq mp mg' md' b1 e1 s1 X' es') (hO : Only (fun k => k = mq ∨ k = mp) wr wz) (hg : mg' = mg ∨ mg' = mp ∨ wr.heap.size ≤ mg') (hd : md' = md ∨ wr.heap.size ≤ md') (hes : ∀ x ∈ es', x ∈ es ∨ x.fresh wr.heap.size) : WQ w wz q p g d b s pre rs mq mp mg' md' b1 e1 s1 X' es' := by
  have hl := h.lt
  have hs := h.sep
  have hge := h.rw.ge
  have hdg := h.rw.disk.ge
  have hin : ∀ j, In4 mq mp mg' md' j → In4 mq mp mg md j ∨ wr.heap.size ≤ j := fun j hj => by
    rcases hj with e | e | e | e
    · exact .inl (.inl e)
    · exact .inl (.inr (.inl e))
    · rcases hg with e2 | e2 | e2
      · exact .inl (.inr (.inr (.inl (e.trans e2))))
      · exact .inl (.inr (.inl (e.trans e2)))
      · exact .inr (by omega)
    · rcases hd with e2 | e2
      · exact .inl (.inr (.inr (.inr (e.trans e2))))
      · exact .inr (by omega)
  have hno : ∀ j, In4 q p g d j → ¬ (j = mq ∨ j = mp) := fun j hj e => hs j hj (by rcases e with e | e; exact .inl e; exact .inr (.inl e))
  refine ⟨h.wl.only hO (hno _ (.inl rfl)) (hno _ (.inr (.inl rfl))) (hno _ (.inr (.inr (.inl rfl)))) (hno _ (.inr (.inr (.inr rfl)))), hr, fun j hj hm => ?_, fun x hx hn ad e e2 => ?_, h.bel.trans (hO.below h.bel.size (fun j e => by rcases e with e | e <;> omega))⟩
  · rcases hin j hm with h1 | h1
    · exact hs j hj h1
    · have := hj.lt hl.1 hl.2.1 hl.2.2.1 hl.2.2.2.1
      omega
  · rcases hes x hx with h1 | h1
    · exact h.esep x h1 hn ad e e2
    · have := h1 hn ad e
      have := In4.lt e2 hl.1 hl.2.1 hl.2.2.1 hl.2.2.2.1
      omega
theorem entsOf_get (b : Int) {rs : List (List UInt8)} {j : Nat} {r : List UInt8} (h : rs[j]? = some r) : (entsOf b rs)[j]? = some (b + ((startOf 0 rs j : Nat) : Int), r) := by
  have h1 := List.getElem?_eq_some_iff.1 h
  have e : entsOf b rs = entsOf b (rs.take (j + 1)) ++ entsOf (b + ((bytesOf (rs.take (j + 1))).length : Int)) (rs.drop (j + 1)) := by rw [← entsOf_app, List.take_append_drop]
  have h2 := h1.1
  rw [e, entsOf_take b h, List.append_assoc, List.getElem?_append_right (by rw [entsOf_len, List.length_take]; omega), entsOf_len, List.length_take, show j - min j rs.length = 0 by omega]
  rfl
theorem startOf_shift (b : Nat) (rs : List (List UInt8)) (j : Nat) : (b : Int) + ((startOf 0 rs j : Nat) : Int) = ((startOf b rs j : Nat) : Int) := by unfold startOf; omega
/-- what the two logs have in common -/
structure WR (w wr : World) (q p g d b s : Nat) (pre : List (Nat × Nat)) (rs : List (List UInt8)) (mq mp mg md : Nat) (X : List UInt8) (es : List BEnt) : Prop where
  wq : WQ w wr q p g d b s pre rs mq mp mg md b (b + (bytesOf rs).length) s X es
  says : es.map BEnt.says = entsOf (b : Int) rs
  dat : (X.drop b).take ((bytesOf rs).length) = bytesOf rs
theorem WR.below {w wr wz : World} {q p g d b s mq mp mg md : Nat} {pre : List (Nat × Nat)} {rs : List (List UInt8)} {X : List UInt8} {es : List BEnt} (h : WR w wr q p g d b s pre rs mq mp mg md X es) (hb : Below wr.heap.size wr wz) : WR w wz q p g d b s pre rs mq mp mg md X es := ⟨h.wq.below hb, h.says, h.dat⟩
section
variable {w wr : World} {q p g d b s mq mp mg md : Nat} {pre : List (Nat × Nat)} {rs : List (List UInt8)} {X : List UInt8} {es : List BEnt}
theorem WR.len (h : WR w wr q p g d b s pre rs mq mp mg md X es) : es.length = rs.length := by rw [← entsOf_len (b : Int) rs, ← h.says, List.length_map]
theorem WR.get (h : WR w wr q p g d b s pre rs mq mp mg md X es) {j : Nat} {x : BEnt} (hx : es[j]? = some x) : ∃ r, rs[j]? = some r ∧ x.no = ((startOf b rs j : Nat) : Int) ∧ x.l = r := by
  have hj := (List.getElem?_eq_some_iff.1 hx).1
  rw [h.len] at hj
  obtain ⟨r, hr⟩ : ∃ r, rs[j]? = some r := ⟨_, List.getElem?_eq_getElem hj⟩
  have h1 := entsOf_get (b : Int) hr
  rw [← h.says, List.getElem?_map, hx, startOf_shift] at h1
  injection h1 with h1
  exact ⟨r, hr, congrArg Prod.fst h1, congrArg Prod.snd h1⟩
theorem WR.nos (h : WR w wr q p g d b s pre rs mq mp mg md X es) : (numbersOf b rs).map Int.ofNat = es.map (·.no) := by
  apply List.ext_getElem?
  intro j
  rw [List.getElem?_map, List.getElem?_map]
  rcases Nat.lt_or_ge j rs.length with hj | hj
  · obtain ⟨x, hx⟩ : ∃ x, es[j]? = some x := ⟨_, List.getElem?_eq_getElem (by rw [h.len]; exact hj)⟩
    obtain ⟨r, hr, h1, _⟩ := h.get hx
    rw [numbersOf_get b rs hj, hx]
    show some _ = some x.no
    rw [h1]
    rfl
  · rw [List.getElem?_eq_none (by rw [numbersOf_len]; exact hj), List.getElem?_eq_none (by rw [h.len]; exact hj)]
    rfl
theorem WR.find_at (h : WR w wr q p g d b s pre rs mq mp mg md X es) {j : Nat} (hj : j < rs.length) : findE es ((startOf b rs j : Nat) : Int) = (j : Int) := by
  obtain ⟨x, hx⟩ : ∃ x, es[j]? = some x := ⟨_, List.getElem?_eq_getElem (by rw [h.len]; exact hj)⟩
  obtain ⟨r, hr, h1, _⟩ := h.get hx
  refine findE_at hx h1 (fun i y hi hy e => ?_)
  obtain ⟨_, _, h2, _⟩ := h.get hy
  have := startOf_lt b rs (Nat.le_of_lt hj) hi
  omega
theorem WR.find_no (h : WR w wr q p g d b s pre rs mq mp mg md X es) {n : Int} (hn : ∀ j, j < rs.length → ((startOf b rs j : Nat) : Int) ≠ n) : findE es n = -1 :=
  findE_no (fun j y hj hy e => by
    obtain ⟨_, _, h2, _⟩ := h.get hy
    exact hn j (by rw [← h.len]; exact hj) (h2.symm.trans e))
theorem WR.trim_at (h : WR w wr q p g d b s pre rs mq mp mg md X es) {j : Nat} (hj : j ≤ rs.length) : trimAt es ((b + (bytesOf rs).length : Nat) : Int) ((startOf b rs j : Nat) : Int) = (j : Int) := by
  unfold trimAt
  rcases Nat.lt_or_ge j rs.length with h1 | h1
  · rw [h.find_at h1, if_neg (by omega)]
  · have hjl : j = rs.length := by omega
    rw [h.find_no (fun i hi e => by have := startOf_lt b rs hj (i := i) (by omega); omega), if_pos ⟨by omega, by rw [startOf_end b rs h1]⟩, h.len, hjl]
theorem WR.trim_no (h : WR w wr q p g d b s pre rs mq mp mg md X es) {n : Int} (hn : ∀ j, j ≤ rs.length → ((startOf b rs j : Nat) : Int) ≠ n) : trimAt es ((b + (bytesOf rs).length : Nat) : Int) n < 0 := by
  unfold trimAt
  rw [h.find_no (fun j hj => hn j (Nat.le_of_lt hj)), if_neg (fun e => hn rs.length (Nat.le_refl _) (by rw [startOf_end b rs (Nat.le_refl _)]; exact e.2.symm))]
  omega
theorem WR.safe (h : WR w wr q p g d b s pre rs mq mp mg md X es) {m : Nat} (hm : SplitE (placesOf b rs) (s : Int) m) : safeE es (s : Int) = m := by
  have key : ∀ i, i ≤ es.length → safeE (es.take i) (s : Int) = min i m := by
    intro i
    induction i with
    | zero => intro _; simp [safeE]
    | succ i ih =>
      intro hi
      obtain ⟨x, hx⟩ : ∃ x, es[i]? = some x := ⟨_, List.getElem?_eq_getElem (by omega)⟩
      obtain ⟨r, hr, h1, h2⟩ := h.get hx
      have hil := (List.getElem?_eq_some_iff.1 hr).1
      have h3 := placesOf_some b rs hil
      have h4 := startOf_succ b rs hr
      rw [safeE_step hx, ih (by omega), h1, h2]
      rcases Nat.lt_or_ge i m with h5 | h5
      · have h6 := hm.lo i _ h3 h5
        have h7 : ((startOf b rs (i + 1) : Nat) : Int) ≤ (s : Int) := h6
        rw [if_pos (by omega)]
        omega
      · have h6 := hm.hi i _ h3 h5
        have h7 : (s : Int) < ((startOf b rs (i + 1) : Nat) : Int) := h6
        rw [if_neg (by omega)]
        omega
  have h8 := key es.length (Nat.le_refl _)
  have h9 := hm.le
  rw [placesOf_len, ← h.len] at h9
  rw [List.take_length] at h8
  omega
/-- behind an Append of both -/
theorem WR.app {w1 w2 : World} {g' d' : Nat} {l : List UInt8} {en : Ending} (h : WR w wr q p g d b s pre rs mq mp mg md X es) (hw : Wl w1 w.heap.size q p g' d' b s [] (rs ++ [l])) (hO : Only (fun k => k = q ∨ k = p ∨ k = g ∨ k = d) wr w1) (hg : g' = g ∨ wr.heap.size ≤ g') (hd : d' = d ∨ wr.heap.size ≤ d') (h2 : RaT w1 w.heap.size mq mp b (b + (bytesOf rs).length) s X es l en w2) :
    ∃ mg' md' X' es', WR w w2 q p g' d' b s [] (rs ++ [l]) mq mp mg' md' X' es' ∧ Only (fun k => k = mq ∨ k = mp) w1 w2 ∧ (mg' = mp ∨ w1.heap.size ≤ mg') ∧ w1.heap.size ≤ md' := by
  obtain ⟨_, mg', md', e', x, h3, h4, h5, h6, h7, h8, h9, h10⟩ := h2
  have hq := h.wq.prog hw hO hg hd
  have hex := h.wq.rw.disk.ex
  have hlt : (X.take (b + (bytesOf rs).length)).length = b + (bytesOf rs).length := by rw [List.length_take]; omega
  have hby : bytesOf (rs ++ [l]) = bytesOf rs ++ frameL l := by rw [bytesOf_app, bytesOf_one]
  have he : e' = b + (bytesOf (rs ++ [l])).length := by rw [← h4, List.length_append, hlt, hby, List.length_append]; omega
  rw [he] at h3
  refine ⟨mg', md', _, _, ⟨hq.doc h3 h7 (by omega) (.inr h9) (fun y hy => ?_), ?_, ?_⟩, h7, h8, h9⟩
  · rcases List.mem_append.1 hy with hy | hy
    · exact .inl hy
    · rw [List.mem_singleton] at hy
      subst hy
      exact .inr h10
  · rw [List.map_append, h.says, entsOf_app]
    congr 1
    simp only [List.map_cons, List.map_nil, entsOf, BEnt.says, h5, h6, Int.natCast_add]
  · have e1 : ((X.take (b + (bytesOf rs).length) ++ frameL l).drop b) = bytesOf rs ++ frameL l := by
      rw [List.drop_append_of_le_length (by omega)]
      congr 1
      have := h.dat
      rw [List.drop_take, Nat.add_sub_cancel_left]
      exact this
    rw [e1, hby, List.take_length]
/-- behind a Trim of both -/
theorem WR.trim {w1 w2 : World} {j : Nat} (h : WR w wr q p g d b s pre rs mq mp mg md X es) (hj : j ≤ rs.length) (hw : Wl w1 w.heap.size q p g d (startOf b rs j) s (pre ++ (placesOf b rs).take j) (rs.drop j)) (hO : Only (fun k => k = p) wr w1) (h2 : Rw w2 w.heap.size mq mp mg md (startOf b rs j) (b + (bytesOf rs).length) s X (es.drop j)) (hO2 : Only (fun k => k = mq ∨ k = mp) w1 w2) :
    WR w w2 q p g d (startOf b rs j) s (pre ++ (placesOf b rs).take j) (rs.drop j) mq mp mg md X (es.drop j) := by
  have hq := h.wq.prog hw (hO.more (fun k _ e => .inr (.inl e))) (.inl rfl) (.inl rfl)
  have e0 := startOf_bytes b rs j
  rw [← e0] at h2
  have e1 : bytesOf rs = bytesOf (rs.take j) ++ bytesOf (rs.drop j) := by rw [← bytesOf_app, List.take_append_drop]
  refine ⟨hq.doc h2 hO2 (.inl rfl) (.inl rfl) (fun y hy => .inl (List.mem_of_mem_drop hy)), ?_, ?_⟩
  · rw [List.map_drop, h.says]
    have e2 : entsOf (b : Int) rs = entsOf (b : Int) (rs.take j) ++ entsOf ((b : Int) + ((bytesOf (rs.take j)).length : Int)) (rs.drop j) := by rw [← entsOf_app, List.take_append_drop]
    rw [e2, List.drop_append_of_le_length (by rw [entsOf_len, List.length_take]; omega), List.drop_eq_nil_of_le (by rw [entsOf_len, List.length_take]; omega), List.nil_append]
    unfold startOf
    rw [Int.natCast_add]
  · have h3 := congrArg (List.drop (bytesOf (rs.take j)).length) h.dat
    rw [List.drop_take, List.drop_drop] at h3
    have e3 : (bytesOf rs).length - (bytesOf (rs.take j)).length = (bytesOf (rs.drop j)).length := by rw [e1, List.length_append]; omega
    have e4 : (bytesOf rs).drop (bytesOf (rs.take j)).length = bytesOf (rs.drop j) := by rw [e1, List.drop_left]
    rw [e3, e4] at h3
    exact h3
/-- behind a Sync of both -/
theorem WR.sync {w1 w2 : World} (h : WR w wr q p g d b s pre rs mq mp mg md X es) (hw : Wl w1 w.heap.size q p g d b (b + (bytesOf rs).length) pre rs) (hO : Only (fun k => k = p) wr w1) (h2 : Mk w2 w.heap.size mp mg b (b + (bytesOf rs).length) (b + (bytesOf rs).length) X) (hO2 : Only (fun k => k = mp) w1 w2) :
    WR w w2 q p g d b (b + (bytesOf rs).length) pre rs mq mp mg md X es := by
  have hq := h.wq.prog hw (hO.more (fun k _ e => .inr (.inl e))) (.inl rfl) (.inl rfl)
  exact ⟨hq.doc (hq.rw.with_disk hO2 h2) (hO2.more (fun k _ e => .inr e)) (.inl rfl) (.inl rfl) (fun y hy => .inl hy), h.says, h.dat⟩
end
/-- two disks -/
structure WD (w wr : World) (p g b s : Nat) (l : List UInt8) (mp mg e : Nat) (X : List UInt8) : Prop where
  dk : Dk wr w.heap.size p g b s l
  mm : Mk wr w.heap.size mp mg b e s X
  sep : p ≠ mp ∧ p ≠ mg ∧ g ≠ mp ∧ g ≠ mg
  el : e = b + l.length
  dat : (X.drop b).take l.length = l
  bel : Below w.heap.size w wr
section
variable {w wr : World} {p g b s mp mg e : Nat} {l X : List UInt8}
theorem WD.power {w1 w2 : World} {p' g' mp' mg' n s' e2 : Nat} {l' : List UInt8} (h : WD w wr p g b s l mp mg e X) (hs' : s' = s + n) (hn : n < e - s + 1) (hl' : l' = l.take (s' - b)) (he2 : e2 = s') (h1 : Dk w1 wr.heap.size p' g' b s' l') (hb1 : Below wr.heap.size wr w1) (h2 : Mk w2 w1.heap.size mp' mg' b e2 e2 (X.take e2)) (hb2 : Below w1.heap.size w1 w2) : WD w w2 p' g' b s' l' mp' mg' e2 (X.take e2) := by
  have hbs := h.mm.bs
  have hse := h.mm.se
  have hel := h.el
  have s0 := h.bel.size
  have s1 := hb1.size
  have h1l := h1.lt
  have h1d := h1.dlt
  have h2g := h2.ge
  subst he2
  have hll : l'.length = e2 - b := by rw [hl', List.length_take]; omega
  refine ⟨(h1.below hb2).more s0, h2.more (by omega), by omega, by omega, ?_, (h.bel.trans (hb1.mono s0)).trans (hb2.mono (by omega))⟩
  rw [hll, List.drop_take, List.take_take, Nat.min_self, hl']
  have := congrArg (List.take (e2 - b)) h.dat
  rw [List.take_take] at this
  rw [show min (e2 - b) l.length = e2 - b by omega] at this
  exact this
theorem WD.more {w1 w2 : World} {g' mg' e2 : Nat} {y : List UInt8} (h : WD w wr p g b s l mp mg e X) (h1 : Dk w1 w.heap.size p g' b s (l ++ y)) (hO1 : Only (fun k => k = p ∨ k = g) wr w1) (hg1 : g' = g ∨ wr.heap.size ≤ g') (h2 : Mk w2 w.heap.size mp mg' b e2 s (X.take e ++ y)) (he2 : (X.take e ++ y).length = e2) (hO2 : Only (fun k => k = mp) w1 w2) (hg2 : mg' = mp ∨ w1.heap.size ≤ mg') : WD w w2 p g' b s (l ++ y) mp mg' e2 (X.take e ++ y) := by
  have hbs := h.mm.bs
  have hse := h.mm.se
  have hex := h.mm.ex
  have hel := h.el
  have s0 := h.bel.size
  have s1 := hO1.size
  have hsep := h.sep
  have d1 := h.dk.dlt
  have d2 := h.dk.lt
  have d3 := h.mm.dlt
  have d4 := h.mm.lt
  have hge := h.dk.ge
  have hge2 := h.mm.ge
  have h1d := h1.dlt
  have hlt : (X.take e).length = e := by rw [List.length_take]; omega
  refine ⟨h1.only hO2 (fun k => by omega) (fun k => by omega), h2, by omega, ?_, ?_, (h.bel.trans (hO1.below s0 (fun j e => by omega))).trans (hO2.below (by omega) (fun j e => by omega))⟩
  · rw [← he2, List.length_append, List.length_append, hlt]; omega
  · rw [List.drop_append_of_le_length (by omega), List.drop_take, hel, Nat.add_sub_cancel_left, h.dat, List.take_length]
/-- behind an Open of both -/
theorem WD.open_ {w1 w2 : World} {q d mq md : Nat} {rs : List (List UInt8)} {t : List UInt8} {es : List BEnt} (h : WD w wr p g b s l mp mg e X) (hl : l = bytesOf rs ++ t) (h1 : Wl w1 w.heap.size q p g d b (b + (bytesOf rs).length) [] rs) (hq : wr.heap.size ≤ q) (hd : wr.heap.size ≤ d) (hO1 : Only (fun k => k = p) wr w1) (h2 : Rw w2 w.heap.size mq mp mg md b (b + (bytesOf rs).length) (b + (bytesOf rs).length) X es) (hm : es.map BEnt.says = entsOf (b : Int) rs) (hq2 : w1.heap.size ≤ mq) (hd2 : w1.heap.size ≤ md) (hO2 : Only (fun k => k = mp) w1 w2) (hf : ∀ x ∈ es, x.fresh w1.heap.size) :
    WR w w2 q p g d b (b + (bytesOf rs).length) [] rs mq mp mg md X es := by
  have hsep := h.sep
  have d1 := h.dk.dlt
  have d2 := h.dk.lt
  have d3 := h.mm.dlt
  have d4 := h.mm.lt
  have s0 := h.bel.size
  have s1 := hO1.size
  have hge := h.dk.ge
  have hge2 := h.mm.ge
  have h1l := h1.lt
  have h1d := h1.dlt
  have hpl : ∀ j, In4 q p g d j → j < w1.heap.size := fun j e => e.lt h1l (by omega) (by omega) h1d
  have hm1 : ∀ j, In4 mq mp mg md j → j = mp ∨ j = mg ∨ w1.heap.size ≤ j := fun j e => by rcases e with e | e | e | e <;> omega
  have hp1 : ∀ j, In4 q p g d j → j = p ∨ j = g ∨ wr.heap.size ≤ j := fun j e => by rcases e with e | e | e | e <;> omega
  refine ⟨⟨h1.only hO2 (fun e => by omega) (fun e => by omega) (fun e => by omega) (fun e => by omega), h2, fun j e1 e2 => ?_, fun x hx hn ad e e1 => ?_, (h.bel.trans (hO1.below s0 (fun j e => by omega))).trans (hO2.below (by omega) (fun j e => by omega))⟩, hm, ?_⟩
  · have a1 := hpl j e1
    have a2 := hm1 j e2
    have a3 := hp1 j e1
    omega
  · have := hf x hx hn ad e
    have := hpl _ e1
    omega
  · have := congrArg (List.take (bytesOf rs).length) h.dat
    rw [List.take_take, hl] at this
    rw [show min (bytesOf rs).length (bytesOf rs ++ t).length = (bytesOf rs).length by rw [List.length_append]; omega, List.take_left] at this
    exact this
end
theorem WR.wd {w wr : World} {q p g d b s mq mp mg md : Nat} {pre : List (Nat × Nat)} {rs : List (List UInt8)} {X : List UInt8} {es : List BEnt} (h : WR w wr q p g d b s pre rs mq mp mg md X es) : WD w wr p g b s (bytesOf rs) mp mg (b + (bytesOf rs).length) X :=
  ⟨h.wq.wl.disk, h.wq.rw.disk, ⟨fun e => h.wq.sep p (.inr (.inl rfl)) (.inr (.inl e)), fun e => h.wq.sep p (.inr (.inl rfl)) (.inr (.inr (.inl e))), fun e => h.wq.sep g (.inr (.inr (.inl rfl))) (.inr (.inl e)), fun e => h.wq.sep g (.inr (.inr (.inl rfl))) (.inr (.inr (.inl e)))⟩, rfl, h.dat, h.wq.bel⟩
/-- the law's own block beside the two logs -/
structure WB (wx : World) (nb : Nat) (BX : Obj) (q p g d mq mp mg md : Nat) : Prop where
  at_ : wx.heap[nb]? = some BX
  ne : nb ≠ q ∧ nb ≠ p ∧ nb ≠ g ∧ nb ≠ d ∧ nb ≠ mq ∧ nb ≠ mp ∧ nb ≠ mg ∧ nb ≠ md
section
variable {wr w1 : World} {nb q p g d mq mp mg md : Nat} {BX : Obj}
theorem WB.lt (h : WB wr nb BX q p g d mq mp mg md) : nb < wr.heap.size := (Array.getElem?_eq_some_iff.1 h.at_).1
theorem WB.below (h : WB wr nb BX q p g d mq mp mg md) (hb : Below wr.heap.size wr w1) : WB w1 nb BX q p g d mq mp mg md := ⟨(hb.block nb h.lt).trans h.at_, h.ne⟩
theorem WB.prog {g' d' : Nat} (h : WB wr nb BX q p g d mq mp mg md) (hO : Only (fun k => k = q ∨ k = p ∨ k = g ∨ k = d) wr w1) (hg : g' = g ∨ wr.heap.size ≤ g') (hd : d' = d ∨ wr.heap.size ≤ d') : WB w1 nb BX q p g' d' mq mp mg md := by
  have h1 := h.lt
  have h2 := h.ne
  exact ⟨(hO.block nb h1 (fun e => by omega)).trans h.at_, by omega⟩
theorem WB.doc {mg' md' : Nat} (h : WB wr nb BX q p g d mq mp mg md) (hO : Only (fun k => k = mq ∨ k = mp) wr w1) (hg : mg' = mg ∨ mg' = mp ∨ wr.heap.size ≤ mg') (hd : md' = md ∨ wr.heap.size ≤ md') : WB w1 nb BX q p g d mq mp mg' md' := by
  have h1 := h.lt
  have h2 := h.ne
  exact ⟨(hO.block nb h1 (fun e => by omega)).trans h.at_, by omega⟩
end
end Go.Proofs.Ytgdofnbnahpedaa

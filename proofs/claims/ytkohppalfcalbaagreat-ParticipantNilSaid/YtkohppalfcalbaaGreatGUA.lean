/- Package participant: a participant as it lies, beside its shard. -/
import Derived.Test.YtkohppalfcalbaaGreatGTG
namespace Go.Proofs.YtkohppalfcalbaaGreat
open Go.RowKit Go.Maps

/-- what is known of a prepared transaction -/
structure Db where
  A : Option (Nat × Nat)
  n : Nat
  cap : Nat
  s : Int
def Db.v (d : Db) : Value := .agg #[.slice (d.A.map fun p => ⟨p.1, p.2, none⟩) d.n d.cap, .int .i64 d.s]
def dbL (a b c n m : Nat) (s : Int) : DataW Unit := .agg [.lit (.int .i64 a), .lit (.int .i64 b), .lit (.int .i64 c), .lit (.int .i64 n), .lit (.int .i64 m), .lit (.int .i64 s)]
def Db.dat : Db → DataW Unit
  | ⟨none, n, c, s⟩ => dbL 0 0 0 n c s
  | ⟨some (g, o), n, c, s⟩ => dbL 1 g o n c s
def dbP : List Value → Option (DataW Unit × List MemPlace)
  | [.slice none n c, .int .i64 s] => some (dbL 0 0 0 n c s, [])
  | [.slice (some ⟨g, o, none⟩) n c, .int .i64 s] => some (dbL 1 g o n c s, [])
  | _ => none
def dbR : Value → Option (DataW Unit × List MemPlace)
  | .agg cs => dbP cs.toList
  | _ => none
theorem db_rd (d : Db) : dbR d.v = some (d.dat, []) := by
  obtain ⟨A, n, c, s⟩ := d
  rcases A with _ | ⟨g, o⟩ <;> rfl
theorem dbL_inj {a b c n m a' b' c' n' m' : Nat} {s s' : Int} (h : dbL a b c n m s = dbL a' b' c' n' m' s') : a = a' ∧ b = b' ∧ c = c' ∧ n = n' ∧ m = m' ∧ s = s' := by
  simp [dbL] at h
  omega
theorem db_back (d : Db) (u : Value) (ps : List MemPlace) (h : dbR u = some (d.dat, ps)) : u = d.v := by
  unfold dbR at h
  split at h
  · rename_i cs
    obtain ⟨l⟩ := cs
    simp only at h
    unfold dbP at h
    obtain ⟨A, n, c, s⟩ := d
    split at h
    · rename_i n1 c1 s1
      injection h with h
      have h1 := congrArg Prod.fst h
      simp only at h1
      rcases A with _ | ⟨g, o⟩
      · obtain ⟨_, _, _, rfl, rfl, rfl⟩ := dbL_inj h1
        rfl
      · have := (dbL_inj h1).1
        omega
    · rename_i g1 o1 n1 c1 s1
      injection h with h
      have h1 := congrArg Prod.fst h
      simp only at h1
      rcases A with _ | ⟨g, o⟩
      · have := (dbL_inj h1).1
        omega
      · obtain ⟨_, rfl, rfl, rfl, rfl, rfl⟩ := dbL_inj h1
        rfl
    · cases h
  · cases h
def db0 : Db := ⟨none, 0, 0, 0⟩
noncomputable def doubtW : MW Int Db := ⟨Tryz.prog, 3, 115, 124, fun x => .int .i64 x, fun x => .int .i64 x, i64ok, Db.v, Db.dat, dbR, db0⟩
theorem doubt_good : doubtW.Good := by
  refine ⟨int_keyed Tryz.underlying3, Tryz.underlying115, fun x y h => by injection h, fun x => by trivial, fun x hx => keyOf_int_mk Tryz.underlying3 (WalkArith.wf_i64 (by have := hx; unfold doubtW i64ok at this; simp only at this; omega)), db_rd, db_back, fun w => ?_⟩
  show (zeroValue 124).run Tryz.prog w = .ok (.agg #[.slice none 0 0, .int .i64 0]) w
  kernel_rfl
noncomputable def endW : MW Int Int := ⟨Tryz.prog, 3, 116, 121, fun x => .int .i64 x, fun x => .int .i64 x, i64ok, fun v => .int .i64 v, fun v => .lit (.int .i64 v), intR, 0⟩
theorem end_good : endW.Good := by
  refine ⟨int_keyed Tryz.underlying3, Tryz.underlying116, fun x y h => by injection h, fun x => by trivial, fun x hx => keyOf_int_mk Tryz.underlying3 (WalkArith.wf_i64 (by have := hx; unfold endW i64ok at this; simp only at this; omega)), fun v => rfl, int_back, fun w => ?_⟩
  show (zeroValue 121).run Tryz.prog w = .ok (.int .i64 0) w
  kernel_rfl
/-- a letter that is to be sent -/
structure Lo where
  k : Int
  f : Int
  t : Int
  x : Int
def Lo.cells (l : Lo) : List Value := [.int .i64 l.k, .int .i64 l.f, .int .i64 l.t, .int .i64 l.x, .slice none 0 0]
def loV (l : List Lo) : List Value := l.flatMap Lo.cells
/-- a participant, in words -/
structure PtS where
  pb : Nat
  c : Nat
  dm : Nat
  em : Nat
  og : Nat
  ug : Nat
  node : Int
  ticks : Int
  D : List (Int × Db)
  N : Int → List Int
  E : List (Int × Int)
  ov : List Int
  ou : List Lo
  vo : Value
  vu : Value
  v : Vw
  Q : Nat → Prop
def PtS.F (p : PtS) (k : Nat) : Prop := k = p.pb ∨ k = p.dm ∨ k = p.em ∨ k = p.og ∨ k = p.ug ∨ p.Q k
def DbOk (W : World) (Q : Nat → Prop) (d : Db) (ns : List Int) : Prop := ns.length = d.n ∧ d.n ≤ d.cap ∧ (ns ≠ [] → ∃ g o, d.A = some (g, o) ∧ Q g ∧ ∀ (j : Nat) (x : Int), ns[j]? = some x → W.cell? ⟨g, o + j, none⟩ = some (.int .i64 x))
structure Pt (w W : World) (p : PtS) : Prop where
  at_ : AtS w W p.c p.v p.F
  box : W.heap[p.pb]? = some (.cells #[.pointer (some ⟨p.c, 0, none⟩), .int .i64 p.node, .int .i64 p.ticks, .map (some p.dm), .map (some p.em), p.vo, p.vu] 118 (0, 0))
  md : MapM doubtW W p.dm p.D
  me : MapM endW W p.em p.E
  ro : HeldC W p.pb p.og 1 p.vo p.ov.length (p.ov.map (.int .i64))
  ru : HeldC W p.pb p.ug 5 p.vu p.ou.length (loV p.ou)
  ne : p.dm ≠ p.em
  go : p.og ≠ p.dm ∧ p.og ≠ p.em
  gu : p.ug ≠ p.dm ∧ p.ug ≠ p.em
  gg : p.og = p.ug → p.og = p.pb
  nq : ∀ k, p.Q k → k ≠ p.pb ∧ k ≠ p.dm ∧ k ≠ p.em ∧ k ≠ p.og ∧ k ≠ p.ug
  dk : ∀ e ∈ p.D, DbOk W p.Q e.2 (p.N e.1)
theorem DbOk.keep {W W' : World} {Q Q' : Nat → Prop} {d : Db} {ns : List Int} (h : DbOk W Q d ns) (hb : ∀ k, Q k → W'.heap[k]? = W.heap[k]?) (hQ : ∀ k, Q k → Q' k) : DbOk W' Q' d ns := by
  refine ⟨h.1, h.2.1, fun hn => ?_⟩
  obtain ⟨g, o, h1, h2, h3⟩ := h.2.2 hn
  exact ⟨g, o, h1, hQ g h2, fun j x hj => by rw [World.cell?_of_block (a := ⟨g, o + j, none⟩) (hb g h2)]; exact h3 j x hj⟩
theorem Pt.lt {w W : World} {p : PtS} (h : Pt w W p) : ∀ k, p.F k → k < W.heap.size := fun k hk => by
  obtain ⟨_, _, _, _, _, _, _, h6⟩ := h.at_
  exact (h6 k hk).1
theorem Pt.ge {w W : World} {p : PtS} (h : Pt w W p) : ∀ k, p.F k → w.heap.size ≤ k := fun k hk => by
  obtain ⟨_, _, _, _, h3, _, _, h6⟩ := h.at_
  rcases Nat.lt_or_ge k w.heap.size with h7 | h7
  · exact absurd (h3 k h7) (h6 k hk).2.1
  · exact h7
theorem Pt.pbq {w W : World} {p : PtS} (h : Pt w W p) : p.pb ≠ p.dm ∧ p.pb ≠ p.em := ⟨h.md.noCells h.box, h.me.noCells h.box⟩
/-- the participant's blocks stand still -/
theorem Pt.stay {w W W' : World} {p : PtS} {v' : Vw} (h : Pt w W p) (ha : AtS w W' p.c v' p.F) (hO : Only (fun k => ¬ p.F k) W W') : Pt w W' { p with v := v' } := by
  have hb : ∀ k, p.F k → W'.heap[k]? = W.heap[k]? := fun k hk => hO.block k (h.lt k hk) fun hn => hn hk
  refine ⟨ha, (hb _ (.inl rfl)).trans h.box, h.md.kept (hb _ (.inr (.inl rfl))), h.me.kept (hb _ (.inr (.inr (.inl rfl)))), h.ro.only hO fun _ hn => hn (.inr (.inr (.inr (.inl rfl)))), h.ru.only hO fun _ hn => hn (.inr (.inr (.inr (.inr (.inl rfl))))), h.ne, h.go, h.gu, h.gg, h.nq, fun e he => (h.dk e he).keep (fun k hk => hb k (.inr (.inr (.inr (.inr (.inr hk)))))) fun _ => id⟩
theorem Pt.below {w W W' : World} {p : PtS} (h : Pt w W p) (hb : Below W.heap.size W W') : Pt w W' p := h.stay (v' := p.v) (h.at_.below hb) ((Only.of_below (K := fun _ => False) hb).more fun _ _ => False.elim)
/-- a call of the shard -/
theorem Pt.shard {w W W' : World} {p : PtS} {r : Value} {v' : Vw} {e : Ending} (h : Pt w W p) (ht : AtT w W p.c p.F r v' e W') : Pt w W' { p with v := v' } := h.stay ht.2.1 (ht.2.2.more fun _ _ hk => hk.2)
/-- the blocks that are read stand still -/
def Kp (p : PtS) (W W' : World) : Prop := ∀ k, p.Q k → W'.heap[k]? = W.heap[k]?
theorem Kp.trans {p p' : PtS} {A B C : World} (h : Kp p A B) (h2 : Kp p' B C) (hQ : ∀ k, p.Q k → p'.Q k) : Kp p A C := fun k hk => (h2 k (hQ k hk)).trans (h k hk)
theorem Pt.qlt {w W : World} {p : PtS} (h : Pt w W p) {k : Nat} (hk : p.Q k) : k < W.heap.size := h.lt k (.inr (.inr (.inr (.inr (.inr hk)))))
/-- a turn of the participant's own blocks -/
theorem AtS.turn {K : Nat → Prop} {w W W' : World} {c : Nat} {v : Vw} {F : Nat → Prop} (h : AtS w W c v F) (hO : Only K W W') (hK : ∀ k, K k → F k) : AtS w W' c v (fun k => F k ∨ (W.heap.size ≤ k ∧ k < W'.heap.size)) := by
  obtain ⟨ℓ, s, h1, h2, h3, h4, h5, h6⟩ := h
  have hN := h1.two
  have h7 : Sh W (labs ℓ W.heap.size s.N) { s with N := s.N + 1 } := (h1.more (Nat.le_succ _)).relabel (fun k hk => labs_lt hk) (fun k => by
    unfold labs
    split
    · exact Nat.lt_succ_of_lt (h1.lt k)
    · exact Nat.lt_succ_self _)
  have hb : Below w.heap.size w W' := h4.trans (hO.below h4.size fun j e => by
    rcases Nat.lt_or_ge j w.heap.size with h8 | h8
    · exact absurd (h3 j h8) (h6 j (hK j e)).2.1
    · exact h8)
  refine ⟨_, _, h7.keep hO fun k hk => ?_, h2, fun j hj => by rw [labs_lt (Nat.lt_of_lt_of_le hj h4.size)]; exact h3 j hj, hb, h5, fun k hk => ?_⟩
  · obtain ⟨a1, a2, a3⟩ := h6 k (hK k hk)
    rw [labs_lt a1]
    exact ⟨a2, a3⟩
  · rcases hk with hk | hk
    · obtain ⟨a1, a2, a3⟩ := h6 k hk
      exact ⟨Nat.lt_of_lt_of_le a1 hO.size, by rw [labs_lt a1]; exact a2, by rw [labs_lt a1]; exact a3⟩
    · refine ⟨hk.2, by rw [labs_ge hk.1]; omega, fun e => ?_⟩
      rw [labs_ge hk.1] at e
      have := h1.ownN (a := s.N) e
      omega
/-- new blocks are kept for reading -/
theorem Pt.guard {w W V : World} {p : PtS} {L : Nat} (h : Pt w W p) (hb : Below W.heap.size W V) (h1 : W.heap.size ≤ L) (h2 : L < V.heap.size) : Pt w V { p with Q := fun k => p.Q k ∨ k = L } := by
  have hV := h.below hb
  refine ⟨(h.at_.foreign hb).fewer fun k hk => ?_, hV.box, hV.md, hV.me, hV.ro, hV.ru, h.ne, h.go, h.gu, h.gg, fun k hk => ?_, fun e he => (hV.dk e he).keep (fun _ _ => rfl) fun _ => .inl⟩
  · rcases hk with e | e | e | e | e | e
    · exact .inl (.inl e)
    · exact .inl (.inr (.inl e))
    · exact .inl (.inr (.inr (.inl e)))
    · exact .inl (.inr (.inr (.inr (.inl e))))
    · exact .inl (.inr (.inr (.inr (.inr (.inl e)))))
    · rcases e with e | e
      · exact .inl (.inr (.inr (.inr (.inr (.inr e)))))
      · exact .inr (by omega)
  · rcases hk with e | e
    · exact h.nq k e
    · have b1 := h.lt p.pb (.inl rfl)
      have b2 := h.lt p.em (.inr (.inr (.inl rfl)))
      have b3 := h.lt p.og (.inr (.inr (.inr (.inl rfl))))
      have b4 := h.lt p.ug (.inr (.inr (.inr (.inr (.inl rfl)))))
      have b5 := h.lt p.dm (.inr (.inl rfl))
      show k ≠ p.pb ∧ k ≠ p.dm ∧ k ≠ p.em ∧ k ≠ p.og ∧ k ≠ p.ug
      omega
end Go.Proofs.YtkohppalfcalbaaGreat

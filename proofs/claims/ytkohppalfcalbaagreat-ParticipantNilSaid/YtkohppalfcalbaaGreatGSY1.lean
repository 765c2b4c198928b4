/- Package shard: the shard as a whole: its transactions, its log, its tables, under labels. -/
import Derived.Test.YtkohppalfcalbaaGreatGT1
import Derived.Test.YtkohppalfcalbaaGreatGSS
import Derived.Test.YtkohppalfcalbaaGreatPV
namespace Go.Proofs.YtkohppalfcalbaaGreat
section
open Go.RowKit

structure ShS where
  c : Nat
  p : Nat
  q : Nat
  sm : Nat
  km : Nat
  T : List ShT
  L : Nat
  b : Nat
  s : Nat
  rs : List (List UInt8)
  S : List SpT
  N : Nat
/-- is a label one of a shard's? -/
def ShS.own (s : ShS) (a : Nat) : Prop := a = 1 ∨ a = s.L ∨ (∃ x ∈ s.T, a = x.L) ∨ ∃ x ∈ s.S, a = x.L
structure Sh (w : World) (ℓ : Nat → Nat) (s : ShS) : Prop where
  kn : Kn w ℓ s.c s.p s.q s.sm s.km s.T
  lg : LgL w ℓ s.L s.q s.p s.b s.s s.rs
  sp : Sps w ℓ s.sm s.N s.S
  lt : ∀ k, ℓ k < s.N
  two : 2 ≤ s.L ∧ s.L < s.N
  tN : ∀ x ∈ s.T, x.L < s.N
  ldS : ∀ x ∈ s.S, x.L ≠ s.L
  ldT : ∀ x ∈ s.T, x.L ≠ s.L
  st : ∀ x ∈ s.S, ∀ y ∈ s.T, x.L ≠ y.L
  ne : s.sm ≠ s.km
/-- what a turn of a shard keeps -/
structure ShStep (w : World) (ℓ : Nat → Nat) (s : ShS) (w' : World) (ℓ' : Nat → Nat) (s' : ShS) : Prop where
  only : Only (fun k => s.own (ℓ k)) w w'
  agree : ∀ k, k < w.heap.size → ℓ' k = ℓ k
  lab : ∀ a, s'.own a → s.own a ∨ s.N ≤ a
  mono : s.N ≤ s'.N
  c : s'.c = s.c
theorem ShStep.trans {w w1 w2 : World} {ℓ ℓ1 ℓ2 : Nat → Nat} {s s1 s2 : ShS} (h : ShStep w ℓ s w1 ℓ1 s1) (k : ShStep w1 ℓ1 s1 w2 ℓ2 s2) (hlt : ∀ k, ℓ k < s.N) : ShStep w ℓ s w2 ℓ2 s2 :=
  ⟨h.only.trans k.only (fun j hj e => by
    rcases h.lab _ e with e2 | e2
    · rw [← h.agree j hj]; exact e2
    · rw [h.agree j hj] at e2
      have := hlt j
      omega), fun j hj => (k.agree j (Nat.lt_of_lt_of_le hj h.only.size)).trans (h.agree j hj), fun a ha => by
    rcases k.lab a ha with e | e
    · exact h.lab a e
    · exact .inr (Nat.le_trans h.mono e), Nat.le_trans h.mono k.mono, k.c.trans h.c⟩
theorem ShStep.refl {w w' : World} {ℓ : Nat → Nat} {s : ShS} (hb : Below w.heap.size w w') : ShStep w ℓ s w' ℓ s := ⟨Only.of_below hb, fun _ _ => rfl, fun _ h => .inl h, Nat.le_refl _, rfl⟩
def capL (ℓ : Nat → Nat) (N k : Nat) : Nat := if ℓ k < N then ℓ k else 0
theorem capL_eq {ℓ : Nat → Nat} {N k a : Nat} (ha : a < N) (h : ℓ k = a) : capL ℓ N k = a := by unfold capL; rw [if_pos (by omega), h]
theorem capL_lt {ℓ : Nat → Nat} {N : Nat} (h : 0 < N) (k : Nat) : capL ℓ N k < N := by unfold capL; split <;> omega
theorem ChOk.cap {w : World} {ℓ : Nat → Nat} {N : Nat} {c : Ch} (h : ChOk w ℓ c) (hN : 0 < N) : ChOk w (capL ℓ N) c := ⟨h.key, h.row, fun hn ad e => capL_eq hN (h.kf hn ad e), fun hn ad e => capL_eq hN (h.rf hn ad e), h.len, h.rcap⟩
theorem TrOk.cap {w : World} {ℓ : Nat → Nat} {N L : Nat} {t : Tr} (h : TrOk w ℓ L t) (hN : 0 < N) (hL : L < N) : TrOk w (capL ℓ N) L t := ⟨h.box, h.row, h.map, fun c hc => (h.ok c hc).cap hN, ⟨capL_eq hL h.lb.1, capL_eq hL h.lb.2.1, capL_eq hL h.lb.2.2⟩, h.few, h.ne⟩
theorem Kn.cap {w : World} {ℓ : Nat → Nat} {N c p q sm km : Nat} {T : List ShT} (h : Kn w ℓ c p q sm km T) (hN : 2 ≤ N) (hT : ∀ x ∈ T, x.L < N) : Kn w (capL ℓ N) c p q sm km T := ⟨h.box, h.map, fun x hx => (h.tr x hx).cap (by omega) (hT x hx), h.num, ⟨capL_eq (by omega) h.lb.1, capL_eq (by omega) h.lb.2⟩, h.own, h.apart⟩
theorem LgL.cap {w : World} {ℓ : Nat → Nat} {N L q p b s : Nat} {rs : List (List UInt8)} (h : LgL w ℓ L q p b s rs) (hL : L < N) : LgL w (capL ℓ N) L q p b s rs := by
  obtain ⟨g, d, pre, h1, hq, hp, hg, hd⟩ := h
  exact ⟨g, d, pre, h1, capL_eq hL hq, capL_eq hL hp, capL_eq hL hg, capL_eq hL hd⟩
theorem Kn.keep {K : Nat → Prop} {w w' : World} {ℓ : Nat → Nat} {c p q sm km : Nat} {T : List ShT} (h : Kn w ℓ c p q sm km T) (hO : Only K w w') (hK : ∀ k, K k → k ≠ c ∧ k ≠ km ∧ ℓ k ≠ 0 ∧ ∀ x ∈ T, ℓ k ≠ x.L) : Kn w' ℓ c p q sm km T :=
  ⟨(hO.block c (Array.getElem?_eq_some_iff.1 h.box).1 (fun e => (hK c e).1 rfl)).trans h.box, h.map.kept (hO.block km h.map.lt (fun e => (hK km e).2.1 rfl)), fun x hx => (h.tr x hx).only hO (fun k e hk => (hK k hk).2.2.1 e) (fun k e hk => (hK k hk).2.2.2 x hx e), h.num, h.lb, h.own, h.apart⟩
theorem Sh.below {w w' : World} {ℓ : Nat → Nat} {s : ShS} (h : Sh w ℓ s) (hb : Below w.heap.size w w') : Sh w' ℓ s := ⟨h.kn.below hb, h.lg.below hb, h.sp.below hb, h.lt, h.two, h.tN, h.ldS, h.ldT, h.st, h.ne⟩
/-- what is not of a shard's labels is kept by its turns; what is kept leaves it -/
theorem Sh.keep {K : Nat → Prop} {w w' : World} {ℓ : Nat → Nat} {s : ShS} (h : Sh w ℓ s) (hO : Only K w w') (hK : ∀ k, K k → ℓ k ≠ 0 ∧ ¬ s.own (ℓ k)) : Sh w' ℓ s :=
  ⟨h.kn.keep hO fun k hk => ⟨fun e => (hK k hk).2 (.inl (by rw [e]; exact h.kn.lb.1)), fun e => (hK k hk).2 (.inl (by rw [e]; exact h.kn.lb.2)), (hK k hk).1, fun x hx e => (hK k hk).2 (.inr (.inr (.inl ⟨x, hx, e⟩)))⟩, h.lg.only hO fun k e hk => (hK k hk).2 (.inr (.inl e)), h.sp.keep hO (fun e => (hK _ e).2 (.inl h.sp.ls)) fun k hk x hx e => (hK k hk).2 (.inr (.inr (.inr ⟨x, hx, e⟩))), h.lt, h.two, h.tN, h.ldS, h.ldT, h.st, h.ne⟩
theorem Sh.relabel {w : World} {ℓ ℓ' : Nat → Nat} {s : ShS} (h : Sh w ℓ s) (he : ∀ k, k < w.heap.size → ℓ' k = ℓ k) (hlt : ∀ k, ℓ' k < s.N) : Sh w ℓ' s := ⟨h.kn.relabel he, h.lg.relabel he, h.sp.relabel he, hlt, h.two, h.tN, h.ldS, h.ldT, h.st, h.ne⟩
theorem Sh.more {w : World} {ℓ : Nat → Nat} {s : ShS} {M : Nat} (h : Sh w ℓ s) (hM : s.N ≤ M) : Sh w ℓ { s with N := M } := ⟨h.kn, h.lg, h.sp.more hM, fun k => Nat.lt_of_lt_of_le (h.lt k) hM, ⟨h.two.1, Nat.lt_of_lt_of_le h.two.2 hM⟩, fun x hx => Nat.lt_of_lt_of_le (h.tN x hx) hM, h.ldS, h.ldT, h.st, h.ne⟩
/-- a turn of the log -/
theorem Sh.turnL {w w' : World} {ℓ ℓ' : Nat → Nat} {s : ShS} {b' s' : Nat} {rs' : List (List UInt8)} (h : Sh w ℓ s) (hO : Only (fun k => ℓ k = s.L) w w') (he : ∀ k, k < w.heap.size → ℓ' k = ℓ k) (hl : LgL w' ℓ' s.L s.q s.p b' s' rs') : Sh w' (capL ℓ' s.N) { s with b := b', s := s', rs := rs' } ∧ ShStep w ℓ s w' (capL ℓ' s.N) { s with b := b', s := s', rs := rs' } := by
  have hN := h.two
  have he2 : ∀ k, k < w.heap.size → capL ℓ' s.N k = ℓ k := fun k hk => capL_eq (h.lt k) (he k hk)
  have hO2 : Only (fun k => capL ℓ' s.N k = s.L) w w' := hO.more fun j hj e => by rw [he2 j hj]; exact e
  have hk := h.kn.relabel he2
  have hs := h.sp.relabel he2
  refine ⟨⟨hk.keep hO2 fun k e => ⟨fun e2 => ?_, fun e2 => ?_, by omega, fun x hx e2 => h.ldT x hx (e2.symm.trans e)⟩, hl.cap hN.2, hs.keep hO2 (fun e => ?_) fun k e x hx e2 => h.ldS x hx (e2.symm.trans e), capL_lt (by omega), h.two, h.tN, h.ldS, h.ldT, h.st, h.ne⟩, hO.more fun j _ e => .inr (.inl e), he2, fun a ha => .inl ha, Nat.le_refl _, rfl⟩
  · subst e2; have := hk.lb.1; omega
  · subst e2; have := hk.lb.2; omega
  · have := hs.ls; omega
/-- a turn of one transaction -/
theorem Sh.turnT {K : Nat → Prop} {w w' : World} {ℓ ℓ' : Nat → Nat} {s : ShS} {n : Int} {x : ShT} {t : Tr} (h : Sh w ℓ s) (hx : fndT s.T n = some x) (hO : Only K w w') (hK : ∀ k, K k → ℓ k = x.L) (he : ∀ k, k < w.heap.size → ℓ' k = ℓ k) (hk : Kn w' ℓ' s.c s.p s.q s.sm s.km (setT s.T n t)) : Sh w' (capL ℓ' s.N) { s with T := setT s.T n t } ∧ ShStep w ℓ s w' (capL ℓ' s.N) { s with T := setT s.T n t } := by
  have hN := h.two
  obtain ⟨hxm, hxn⟩ := fndT_some hx
  have hxL := h.kn.own x hxm
  have hL : ∀ y ∈ setT s.T n t, ∃ z ∈ s.T, y.L = z.L := fun y hy => by
    unfold setT at hy
    obtain ⟨z, hz, rfl⟩ := List.mem_map.1 hy
    exact ⟨z, hz, by split <;> rfl⟩
  have he2 : ∀ k, k < w.heap.size → capL ℓ' s.N k = ℓ k := fun k hk => capL_eq (h.lt k) (he k hk)
  have hO2 : Only (fun k => capL ℓ' s.N k = x.L) w w' := hO.more fun j hj e => by rw [he2 j hj]; exact hK j e
  have hs := h.sp.relabel he2
  have hl := h.lg.relabel he2
  refine ⟨⟨hk.cap (by omega) fun y hy => ?_, hl.only hO2 fun k e e2 => h.ldT x hxm (e2.symm.trans e), hs.keep hO2 (fun e => ?_) fun k e y hy e2 => h.st y hy x hxm (e2.symm.trans e), capL_lt (by omega), h.two, fun y hy => ?_, h.ldS, fun y hy => ?_, fun y hy z hz => ?_, h.ne⟩, (hO.more fun j _ e => .inr (.inr (.inl ⟨x, hxm, hK j e⟩))), he2, fun a ha => .inl ?_, Nat.le_refl _, rfl⟩
  · obtain ⟨z, hz, e⟩ := hL y hy; rw [e]; exact h.tN z hz
  · have := hs.ls; omega
  · obtain ⟨z, hz, e⟩ := hL y hy; rw [e]; exact h.tN z hz
  · obtain ⟨z, hz, e⟩ := hL y hy; rw [e]; exact h.ldT z hz
  · obtain ⟨u, hu, e⟩ := hL z hz; rw [e]; exact h.st y hy u hu
  · rcases ha with e | e | ⟨y, hy, e⟩ | e
    · exact .inl e
    · exact .inr (.inl e)
    · obtain ⟨z, hz, e2⟩ := hL y hy
      exact .inr (.inr (.inl ⟨z, hz, e.trans e2⟩))
    · exact .inr (.inr (.inr e))
end

section
open Go.RowKit

/-- a change's content -/
def Ch.con (c : Ch) : List UInt8 × List UInt8 × List UInt8 × Bool := (c.s, c.k, c.r, c.d)
/-- what a shard knows of a transaction: its changes, whether it is prepared -/
def txV (T : List ShT) (n : Int) : Option (List (List UInt8 × List UInt8 × List UInt8 × Bool) × Bool) := (fndT T n).map fun x => (x.t.cs.map Ch.con, x.t.p)
theorem fndT_set (T : List ShT) (n m : Int) (t : Tr) : fndT (setT T n t) m = (fndT T m).map fun x => if x.n = n then ⟨x.n, x.L, t⟩ else x := by
  unfold fndT setT
  rw [List.find?_map]
  have : ((fun x : ShT => decide (x.n = m)) ∘ fun x : ShT => if x.n = n then ⟨x.n, x.L, t⟩ else x) = fun x => decide (x.n = m) := by
    funext x
    show decide ((if x.n = n then (⟨x.n, x.L, t⟩ : ShT) else x).n = m) = _
    split <;> rfl
  rw [this]
theorem txV_set {T : List ShT} {n : Int} {x : ShT} (hx : fndT T n = some x) (t : Tr) (m : Int) : txV (setT T n t) m = if m = n then some (t.cs.map Ch.con, t.p) else txV T m := by
  unfold txV
  rw [fndT_set]
  by_cases h : m = n
  · subst h
    rw [hx]
    have := (fndT_some hx).2
    simp [this]
  · rw [if_neg h]
    cases hf : fndT T m with
    | none => rfl
    | some y =>
      have h2 := (fndT_some hf).2
      have : ¬ y.n = n := fun e => h (h2.symm.trans e)
      simp [this]
theorem txV_new {T : List ShT} {n : Int} (hf : fndT T n = none) (L : Nat) (t : Tr) (m : Int) : txV (T ++ [⟨n, L, t⟩]) m = if m = n then some (t.cs.map Ch.con, t.p) else txV T m := by
  unfold txV fndT at *
  rw [List.find?_append]
  by_cases h : m = n
  · subst h
    rw [hf]
    simp
  · rw [if_neg h]
    have : ¬ n = m := fun e => h e.symm
    cases T.find? (fun x => decide (x.n = m)) <;> simp [this]
/-- a shard's turn: what it answers, what is as it was, what the transactions and the rows are -/
def ShT' (w : World) (ℓ : Nat → Nat) (s : ShS) (v : Value) (P : ShS → Prop) (e : Ending) (w' : World) : Prop := e = .returned v ∧ ∃ ℓ' s', Sh w' ℓ' s' ∧ ShStep w ℓ s w' ℓ' s' ∧ P s'
theorem sh_begin {w : World} {ℓ : Nat → Nat} {s : ShS} (h : Sh w ℓ s) {n : Int} (h0 : 0 ≤ n) (h1 : n ≤ 1099511627776) (hf : fndT s.T n = none) (hl : s.T.length < 10000) : Calls Tryz.prog 12 #[.pointer (some ⟨s.c, 0, none⟩), .int .i64 n] w (ShT' w ℓ s (.int .i64 0) (fun s' => (∀ m, txV s'.T m = if m = n then some ([], false) else txV s.T m) ∧ s'.S = s.S ∧ s'.rs = s.rs ∧ s'.b = s.b ∧ s'.T.length = s.T.length + 1)) := by
  refine (begin_yes h.kn h0 h1 hf hl).mono ?_
  rintro e w' ⟨rfl, hO, hk⟩
  have hN := h.two
  have hS := hO.size
  have he : ∀ k, k < w.heap.size → labs ℓ w.heap.size s.N k = ℓ k := fun k hk => labs_lt hk
  have hkn := hk (labs ℓ w.heap.size s.N) s.N he (labs_ge (Nat.le_refl _)) (labs_ge (by omega)) (by omega) (fun x hx => by have := h.tN x hx; omega)
  have hsp := h.sp.relabel he
  have hlg := h.lg.relabel he
  have hkm := (h.kn.relabel he).lb.2
  refine ⟨rfl, labs ℓ w.heap.size s.N, { s with T := s.T ++ [⟨n, s.N, newT w⟩], N := s.N + 1 }, ⟨hkn, hlg.only hO fun k e e2 => ?_, (hsp.keep hO (fun e => h.ne e) fun k e x hx e2 => ?_).more (Nat.le_succ _), fun k => ?_, ⟨hN.1, Nat.lt_succ_of_lt hN.2⟩, fun x hx => ?_, h.ldS, fun x hx => ?_, fun x hx y hy => ?_, h.ne⟩, ⟨hO.more fun j hj e => ?_, he, fun a ha => ?_, Nat.le_succ _, rfl⟩, txV_new hf s.N (newT w), rfl, rfl, rfl, by simp⟩
  · subst e2; omega
  · subst e
    have := h.sp.own x hx
    omega
  · unfold labs
    split
    · exact Nat.lt_succ_of_lt (h.lt k)
    · exact Nat.lt_succ_self _
  · rcases List.mem_append.1 hx with hx | hx
    · exact Nat.lt_succ_of_lt (h.tN x hx)
    · rcases List.mem_singleton.1 hx with rfl
      exact Nat.lt_succ_self _
  · rcases List.mem_append.1 hx with hx | hx
    · exact h.ldT x hx
    · rcases List.mem_singleton.1 hx with rfl
      show s.N ≠ s.L
      omega
  · rcases List.mem_append.1 hy with hy | hy
    · exact h.st x hx y hy
    · rcases List.mem_singleton.1 hy with rfl
      have := h.sp.own x hx
      show x.L ≠ s.N
      omega
  · exact .inl (by rw [e]; exact h.kn.lb.2)
  · rcases ha with e | e | ⟨y, hy, e⟩ | e
    · exact .inl (.inl e)
    · exact .inl (.inr (.inl e))
    · rcases List.mem_append.1 hy with hy | hy
      · exact .inl (.inr (.inr (.inl ⟨y, hy, e⟩)))
      · rcases List.mem_singleton.1 hy with rfl
        exact .inr (Nat.le_of_eq e.symm)
    · exact .inl (.inr (.inr (.inr e)))
theorem sh_put {w : World} {ℓ : Nat → Nat} {s : ShS} (h : Sh w ℓ s) {n : Int} (hn : i64ok n) (sp k r : List UInt8) (kA rA : Option Addr) (kc rc : Nat) {x : ShT} (hx : fndT s.T n = some x) (hp : x.t.p = false) (hs : sp.length ≤ 32) (hk : k.length ≤ 200) (hr : r.length ≤ 2000) (hkr : RdB w w.heap.size kA k) (hrr : RdB w w.heap.size rA r) (hfew : x.t.cs.length < 1000) : Calls Tryz.prog 13 #[.pointer (some ⟨s.c, 0, none⟩), .int .i64 n, .string (strB sp), .slice kA k.length kc, .slice rA r.length rc] w (ShT' w ℓ s (.int .i64 0) (fun s' => (∀ m, txV s'.T m = if m = n then some (x.t.cs.map Ch.con ++ [(sp, k, r, false)], false) else txV s.T m) ∧ s'.S = s.S ∧ s'.rs = s.rs ∧ s'.b = s.b ∧ s'.T.length = s.T.length)) := by
  refine (put_yes h.kn hn sp k r kA rA kc rc x hx hp hs hk hr hkr hrr hfew).mono ?_
  rintro e w' ⟨rfl, hO, ℓ', g, v, kA', kc', rA', rc', he, hkn⟩
  have hxm := (fndT_some hx).1
  have ht := h.kn.tr x hxm
  obtain ⟨h1, h2⟩ := h.turnT hx hO (fun j hj => by
    rcases hj with rfl | rfl | rfl
    · exact ht.lb.1
    · exact ht.lb.2.1
    · exact ht.lb.2.2) he hkn
  refine ⟨rfl, _, _, h1, h2, fun m => ?_, rfl, rfl, rfl, by unfold setT; rw [List.length_map]⟩
  rw [txV_set hx]
  split
  · rw [hp, List.map_append]
    rfl
  · rfl
end

section
open Go.RowKit

/-- the records of a transaction that lies are to be read -/
theorem recs_ok {w : World} {ℓ : Nat → Nat} {L : Nat} {t : Tr} (h : TrOk w ℓ L t) {n en : Int} (hn : i64ok n) (hen : 0 ≤ en ∧ en ≤ 8) : ∀ x ∈ recsOf t.cs n en, RcOk w x := by
  intro x hx
  have hno : ∀ e : Int, 0 ≤ e ∧ e ≤ 8 → RcOk w ⟨e, n, noCh⟩ := fun e he => ⟨⟨he, hn, by simp [noCh]⟩, fun h => absurd rfl h, fun h => absurd rfl h, Nat.le_refl _⟩
  unfold recsOf at hx
  rcases List.mem_cons.1 hx with rfl | hx
  · exact hno 0 (by omega)
  · rcases List.mem_append.1 hx with hx | hx
    · obtain ⟨c, hc, rfl⟩ := List.mem_map.1 hx
      have hco := h.ok c hc
      refine ⟨⟨?_, hn, hco.len⟩, hco.key, hco.row, hco.rcap⟩
      show 0 ≤ (if c.d then (2 : Int) else 1) ∧ (if c.d then (2 : Int) else 1) ≤ 8
      split <;> omega
    · rcases List.mem_singleton.1 hx with rfl
      exact hno en hen
end
end Go.Proofs.YtkohppalfcalbaaGreat

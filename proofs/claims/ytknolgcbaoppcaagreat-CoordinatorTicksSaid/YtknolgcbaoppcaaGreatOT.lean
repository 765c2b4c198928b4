/- Package coordinator: what a tick does, as plain mathematics; question. -/
import Derived.Test.YtknolgcbaoppcaaGreatOZ
namespace Go.Proofs.YtknolgcbaoppcaaGreat
open Go.RowKit

/-- due at tick k -/
def Te.due (k : Nat) (e : Te) : Bool := !(decide (e.s = 1)) && decide (e.t + 5 ≤ k)
/-- what a tick asks or tells -/
def Te.ask (e : Te) : Int := if e.s = 3 then 5 else 1
def Te.nn (e : Te) : Nat := if e.s = 3 then 0 else (nodesI e.a).length
/-- a tick at one transaction: all of them, and what is sent -/
def tk1 (node k : Nat) (p : List Te × List (Int × Int × Int × Int × Nat)) (x : Int) : List Te × List (Int × Int × Int × Int × Nat) :=
  match findT p.1 x.toNat with
  | some e => if e.due k then (putT p.1 { e with t := k }, p.2 ++ coreL e.ask node e.n e.nn (nodesI e.o)) else p
  | none => p
/-- a tick -/
def tkF (node k : Nat) (T : List Te) (xs : List Int) : List Te × List (Int × Int × Int × Int × Nat) := xs.foldl (tk1 node k) (T, [])
def TkOk (k : Nat) (T : List Te) : Prop := ∀ e ∈ T, (e.s = 1 ∨ e.s = 2 ∨ e.s = 3) ∧ e.a < 65536 ∧ e.o < 65536 ∧ e.n < 4000000000000 ∧ e.t ≤ k
theorem tkF_snoc {node k : Nat} {T : List Te} {xs : List Int} {i : Nat} {x : Int} (h : xs[i]? = some x) : tkF node k T (xs.take (i + 1)) = tk1 node k (tkF node k T (xs.take i)) x := by
  unfold tkF
  rw [List.take_add_one, h, List.foldl_append]
  rfl
theorem dropT_mem {T : List Te} {x : Nat} {e : Te} (h : e ∈ dropT T x) : e ∈ T := (List.mem_filter.1 h).1
theorem TkOk.put {k : Nat} {T : List Te} (h : TkOk k T) {e : Te} (he : (e.s = 1 ∨ e.s = 2 ∨ e.s = 3) ∧ e.a < 65536 ∧ e.o < 65536 ∧ e.n < 4000000000000 ∧ e.t ≤ k) : TkOk k (putT T e) := fun u hu => by
  unfold putT at hu
  rcases List.mem_append.1 hu with h1 | h1
  · exact h u (dropT_mem h1)
  · rw [List.mem_singleton] at h1; subst h1; exact he
theorem TkOk.one {k node : Nat} {p : List Te × List (Int × Int × Int × Int × Nat)} (h : TkOk k p.1) (x : Int) : TkOk k (tk1 node k p x).1 := by
  unfold tk1
  split
  · next e he =>
    split
    · obtain ⟨h1, h2, h3, h4, _⟩ := h e (findT_some he).1
      exact h.put ⟨h1, h2, h3, h4, Nat.le_refl _⟩
    · exact h
  · exact h
theorem findT_putN {T : List Te} {e : Te} {x : Nat} : (findT (putT T e) x).isSome = (decide (e.n = x) || (findT T x).isSome) := by
  by_cases hx : e.n = x
  · subst hx; rw [findT_put]; simp
  · have h1 : findT (putT T e) x = findT T x := by
      unfold findT putT dropT
      rw [List.find?_append, List.find?_filter]
      have h2 : (fun u : Te => decide (decide (u.n ≠ e.n) = true ∧ decide (u.n = x) = true)) = fun u : Te => decide (u.n = x) := by
        funext u
        by_cases hu : u.n = x
        · simp [hu]; omega
        · simp [hu]
      rw [h2]
      simp [hx]
    rw [h1]; simp [hx]
theorem tk1_keys {node k : Nat} {p : List Te × List (Int × Int × Int × Int × Nat)} {x : Int} {y : Nat} (h : (findT p.1 y).isSome = true) : (findT (tk1 node k p x).1 y).isSome = true := by
  unfold tk1
  split
  · split
    · rw [findT_putN, h]; simp
    · exact h
  · exact h
theorem coreL_len (k : Int) (node x nn : Nat) (ns : List Int) : (coreL k node x nn ns).length = ns.length := by simp [coreL]
theorem tk1_sent {node k : Nat} {p : List Te × List (Int × Int × Int × Int × Nat)} {x : Int} : (tk1 node k p x).2.length ≤ p.2.length + 16 := by
  unfold tk1
  split
  · split
    · rw [List.length_append, coreL_len]; have := nodesI_len; have h9 := this; rename_i e he hd; have := h9 e.o; omega
    · omega
  · omega
theorem tkF_ok {node k : Nat} {T : List Te} (h : TkOk k T) : ∀ (xs : List Int), TkOk k (tkF node k T xs).1 ∧ (tkF node k T xs).2.length ≤ 16 * xs.length ∧ ∀ y, (findT T y).isSome = true → (findT (tkF node k T xs).1 y).isSome = true := by
  suffices H : ∀ (xs : List Int) (p : List Te × List (Int × Int × Int × Int × Nat)), TkOk k p.1 → TkOk k (xs.foldl (tk1 node k) p).1 ∧ (xs.foldl (tk1 node k) p).2.length ≤ p.2.length + 16 * xs.length ∧ ∀ y, (findT p.1 y).isSome = true → (findT (xs.foldl (tk1 node k) p).1 y).isSome = true by
    intro xs
    obtain ⟨h1, h2, h3⟩ := H xs (T, []) h
    exact ⟨h1, by simpa [tkF] using h2, h3⟩
  intro xs
  induction xs with
  | nil => intro p hp; exact ⟨hp, by simp, fun y hy => hy⟩
  | cons x xs ih =>
    intro p hp
    obtain ⟨h1, h2, h3⟩ := ih (tk1 node k p x) (hp.one x)
    have h4 := tk1_sent (node := node) (k := k) (p := p) (x := x)
    refine ⟨h1, ?_, fun y hy => h3 y (tk1_keys hy)⟩
    simp only [List.foldl_cons, List.length_cons] at h2 ⊢
    omega
set_option maxRecDepth 100000 in
theorem question_any (s a o y t : Int) (hs : s = 1 ∨ s = 2 ∨ s = 3) (w : World) :
    Calls Tryz.prog 29 #[.agg #[.int .i64 s, .int .i64 a, .int .i64 o, .int .i64 y, .int .i64 t]] w (Ans (.int .i64 (if s = 3 then 5 else 1)) w) := by
  have hb := alloc_below w (.cells #[.int .i64 s, .int .i64 a, .int .i64 o, .int .i64 y, .int .i64 t] 61)
  have hbx := heap_alloc_new w (.cells #[.int .i64 s, .int .i64 a, .int .i64 o, .int .i64 y, .int .i64 t] 61)
  obtain ⟨z0, _, _, _, _⟩ := box5 hbx
  have HB := Lib.hid hb
  clear hb hbx
  rcases hs with rfl | rfl | rfl
  all_goals
    go_enter Tryz.func29, Tryz.ntmps29
    go_wp2_with fail
    go_ret
    exact ⟨rfl, HB.out⟩
end Go.Proofs.YtknolgcbaoppcaaGreat

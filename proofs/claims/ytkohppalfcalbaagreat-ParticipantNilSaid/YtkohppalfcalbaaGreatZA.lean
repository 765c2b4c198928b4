/- Letters, in plain mathematics: the bits of nodes, a letter's row and its bytes. -/
import Derived.Test.YtkohppalfcalbaaGreatWX
namespace Go.Proofs.YtkohppalfcalbaaGreat

/-- the bits of nodes -/
def orB (b : Nat) : List Int → Nat
  | [] => b
  | n :: l => orB (b ||| 2 ^ n.toNat) l
def upN (a : Int) : List Int → Bool
  | [] => true
  | n :: l => decide (a < n ∧ n < 16) && upN n l
/-- nodes whose bits are set -/
def nodesN (b : Nat) : List Nat := (List.range 16).filter b.testBit
def nodesI (b : Nat) : List Int := (nodesN b).map Int.ofNat
theorem upN_cons {a n : Int} {l : List Int} : upN a (n :: l) = true ↔ (a < n ∧ n < 16) ∧ upN n l = true := by
  simp only [upN, Bool.and_eq_true, decide_eq_true_eq]
theorem orB_test (l : List Int) : ∀ (b i : Nat), (orB b l).testBit i = (b.testBit i || l.any fun n => decide (n.toNat = i)) := by
  induction l with
  | nil => intro b i; simp [orB]
  | cons n l ih =>
    intro b i
    show (orB (b ||| 2 ^ n.toNat) l).testBit i = _
    rw [ih, Nat.testBit_or, Nat.testBit_two_pow, List.any_cons, Bool.or_assoc]
theorem up_mem {l : List Int} : ∀ {a : Int}, upN a l = true → ∀ n ∈ l, a < n ∧ n < 16 := by
  induction l with
  | nil => intro a _ n hn; simp at hn
  | cons x l ih =>
    intro a h n hn
    obtain ⟨h1, h2⟩ := upN_cons.1 h
    rw [List.mem_cons] at hn
    rcases hn with rfl | hn
    · exact h1
    · have := ih h2 n hn; omega
theorem or_lt {l : List Int} : ∀ {a : Int} {b : Nat}, -1 ≤ a → upN a l = true → b < 2 ^ 16 → orB b l < 2 ^ 16 := by
  induction l with
  | nil => intro a b _ _ h; exact h
  | cons x l ih =>
    intro a b ha h hb
    obtain ⟨h1, h2⟩ := upN_cons.1 h
    exact ih (by omega) h2 (Nat.or_lt_two_pow hb (Nat.pow_lt_pow_right (by decide) (by omega)))
theorem sorted_ext : ∀ {a b : List Int}, a.Pairwise (· < ·) → b.Pairwise (· < ·) → (∀ x, x ∈ a ↔ x ∈ b) → a = b
  | [], [], _, _, _ => rfl
  | [], y :: b, _, _, h => by have := (h y).2 (by simp); simp at this
  | x :: a, [], _, _, h => by have := (h x).1 (by simp); simp at this
  | x :: a, y :: b, ha, hb, h => by
    obtain ⟨ha1, ha2⟩ := List.pairwise_cons.1 ha
    obtain ⟨hb1, hb2⟩ := List.pairwise_cons.1 hb
    have hxy : x = y := by
      have h1 := (h x).1 (by simp)
      have h2 := (h y).2 (by simp)
      rw [List.mem_cons] at h1 h2
      rcases h1 with h1 | h1
      · exact h1
      · rcases h2 with h2 | h2
        · exact h2.symm
        · have := ha1 y h2; have := hb1 x h1; omega
    subst hxy
    rw [sorted_ext ha2 hb2 fun z => by
      constructor
      · intro hz
        have h1 := (h z).1 (List.mem_cons_of_mem _ hz)
        have h2 := ha1 z hz
        rw [List.mem_cons] at h1
        rcases h1 with h1 | h1
        · omega
        · exact h1
      · intro hz
        have h1 := (h z).2 (List.mem_cons_of_mem _ hz)
        have h2 := hb1 z hz
        rw [List.mem_cons] at h1
        rcases h1 with h1 | h1
        · omega
        · exact h1]
theorem up_sorted {l : List Int} : ∀ {a : Int}, upN a l = true → l.Pairwise (· < ·) := by
  induction l with
  | nil => intro a _; exact List.Pairwise.nil
  | cons x l ih =>
    intro a h
    obtain ⟨h1, h2⟩ := upN_cons.1 h
    exact List.pairwise_cons.2 ⟨fun y hy => (up_mem h2 y hy).1, ih h2⟩
theorem nodesI_mem {b : Nat} {x : Int} : x ∈ nodesI b ↔ 0 ≤ x ∧ x < 16 ∧ b.testBit x.toNat = true := by
  unfold nodesI nodesN
  simp only [List.mem_map, List.mem_filter, List.mem_range]
  constructor
  · rintro ⟨n, ⟨h1, h2⟩, rfl⟩
    exact ⟨by simp, by show (n : Int) < 16; omega, by simpa using h2⟩
  · rintro ⟨h1, h2, h3⟩
    exact ⟨x.toNat, ⟨by omega, h3⟩, by show (x.toNat : Int) = x; omega⟩
theorem nodesI_sorted (b : Nat) : (nodesI b).Pairwise (· < ·) := by
  unfold nodesI nodesN
  rw [List.pairwise_map]
  refine (List.Pairwise.filter _ List.pairwise_lt_range).imp fun h => ?_
  show (_ : Int) < _
  exact Int.ofNat_lt.2 h
theorem nodes_or {l : List Int} (h : upN (-1) l = true) : nodesI (orB 0 l) = l := by
  refine sorted_ext (nodesI_sorted _) (up_sorted h) fun x => ?_
  rw [nodesI_mem, orB_test, Nat.zero_testBit, Bool.false_or, List.any_eq_true]
  constructor
  · rintro ⟨h1, h2, y, hy, h3⟩
    have := up_mem h y hy
    have h4 := of_decide_eq_true h3
    have : y = x := by omega
    subst this
    exact hy
  · intro hx
    have := up_mem h x hx
    exact ⟨by omega, this.2, x, hx, decide_eq_true rfl⟩
/-- a letter -/
structure Ltr where
  k : Int
  f : Int
  t : Int
  x : Int
  ns : List Int
theorem Ltr.ext' {a b : Ltr} (h1 : a.k = b.k) (h2 : a.f = b.f) (h3 : a.t = b.t) (h4 : a.x = b.x) (h5 : a.ns = b.ns) : a = b := by
  cases a; cases b; simp_all
def headOk (k f t x : Int) : Bool := decide (1 ≤ k ∧ k ≤ 8) && decide ((0 ≤ f ∧ f < 16) ∧ 0 ≤ t ∧ t < 16) && decide (0 ≤ x ∧ x ≤ 1099511627776)
def Ltr.right (l : Ltr) : Bool := headOk l.k l.f l.t l.x && (if l.k = 1 then upN (-1) l.ns else decide (l.ns = []))
def intV (n : Int) : Val := ⟨2, n, ⟨#[]⟩⟩
def Ltr.row (l : Ltr) : List Val := [intV l.k, intV l.f, intV l.t, intV l.x, intV (orB 0 l.ns : Nat)]
def Ltr.bytes (l : Ltr) : List UInt8 := rowB l.row
theorem Ltr.head {l : Ltr} (h : l.right = true) : (1 ≤ l.k ∧ l.k ≤ 8) ∧ ((0 ≤ l.f ∧ l.f < 16) ∧ 0 ≤ l.t ∧ l.t < 16) ∧ 0 ≤ l.x ∧ l.x ≤ 1099511627776 := by
  unfold Ltr.right headOk at h
  simp only [Bool.and_eq_true, decide_eq_true_eq] at h
  exact ⟨h.1.1.1, h.1.1.2, h.1.2⟩
theorem Ltr.up {l : Ltr} (h : l.right = true) : upN (-1) l.ns = true := by
  unfold Ltr.right at h
  rw [Bool.and_eq_true] at h
  have h2 := h.2
  split at h2
  · exact h2
  · rw [of_decide_eq_true h2]; rfl
theorem Ltr.bits_lt {l : Ltr} (h : l.right = true) : orB 0 l.ns < 2 ^ 16 := or_lt (by omega) (l.up h) (by decide)
theorem intV_R {n : Int} (h : i64ok n) : (intV n).R := ⟨by simp [rightB, intV], ⟨by unfold i64ok intV; simp only; omega, h⟩⟩
theorem Ltr.row_R {l : Ltr} (h : l.right = true) : ∀ x ∈ l.row, x.R := by
  obtain ⟨h1, h2, h3⟩ := l.head h
  have h4 : orB 0 l.ns < 65536 := l.bits_lt h
  intro x hx
  simp only [Ltr.row, List.mem_cons, List.not_mem_nil, or_false] at hx
  rcases hx with rfl | rfl | rfl | rfl | rfl <;> exact intV_R (by unfold i64ok; omega)
theorem Ltr.row_inj {a b : Ltr} (ha : a.right = true) (hb : b.right = true) (h : a.row = b.row) : a = b := by
  simp only [Ltr.row, intV, List.cons.injEq, Val.mk.injEq, and_true, true_and] at h
  obtain ⟨h1, h2, h3, h4, h5⟩ := h
  have h6 : orB 0 a.ns = orB 0 b.ns := by omega
  exact Ltr.ext' h1 h2 h3 h4 (by rw [← nodes_or (a.up ha), h6, nodes_or (b.up hb)])
theorem Ltr.inj {a b : Ltr} (ha : a.right = true) (hb : b.right = true) {u v : List UInt8} (h : a.bytes ++ u = b.bytes ++ v) : a = b ∧ u = v := by
  obtain ⟨h1, h2⟩ := rowB_inj (a.row_R ha) (b.row_R hb) (by simp [Ltr.row]) (by simp [Ltr.row]) h
  exact ⟨a.row_inj ha hb h1, h2⟩
end Go.Proofs.YtkohppalfcalbaaGreat

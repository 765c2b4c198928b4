/- CoordinatorDecides: who has voted what, as plain mathematics. -/
import Derived.Test.YtogogekmodbdiaaCL
namespace Go.Proofs.Ytogogekmodbdiaa
open Go.RowKit

theorem mem_nodesI {b : Nat} {z : Int} : z ∈ nodesI b ↔ ∃ f : Nat, f < 16 ∧ z = (f : Int) ∧ b.testBit f = true := by
  unfold nodesI nodesN
  rw [List.mem_map]
  constructor
  · rintro ⟨f, hf, rfl⟩
    obtain ⟨h1, h2⟩ := List.mem_filter.1 hf
    exact ⟨f, by simpa using h1, rfl, h2⟩
  · rintro ⟨f, h1, rfl, h2⟩
    exact ⟨f, List.mem_filter.2 ⟨by simpa using h1, h2⟩, rfl⟩
theorem nodesI_nodup (b : Nat) : (nodesI b).Nodup := (nodesI_sorted b).imp fun h => Int.ne_of_lt h
theorem nodesI_woB {o f : Nat} (hf : f < 16) (hof : o.testBit f = true) : (nodesI (woB o f)).length + 1 = (nodesI o).length := by
  have hm : (f : Int) ∈ nodesI o := mem_nodesI.2 ⟨f, hf, rfl, hof⟩
  have h1 : ((nodesI o).erase (f : Int)).length + 1 = (nodesI o).length := by
    rw [List.length_erase_of_mem hm]
    have := List.length_pos_of_mem hm
    omega
  have h2 : (nodesI (woB o f)).Perm ((nodesI o).erase (f : Int)) := by
    rw [List.perm_ext_iff_of_nodup (nodesI_nodup _) ((nodesI_nodup o).erase _)]
    intro z
    rw [(nodesI_nodup o).mem_erase_iff, mem_nodesI, mem_nodesI]
    constructor
    · rintro ⟨g, h1, rfl, h2⟩
      rw [woB_test, Bool.and_eq_true, decide_eq_true_eq] at h2
      exact ⟨fun e => h2.2 (by omega), g, h1, rfl, h2.1⟩
    · rintro ⟨hne, g, h1, rfl, h2⟩
      refine ⟨g, h1, rfl, ?_⟩
      rw [woB_test, h2, Bool.true_and, decide_eq_true_eq]
      intro e
      exact hne (by rw [e])
  rw [h2.length_eq, h1]
theorem nodesI_none {o : Nat} (ho : o < 65536) : nodesI o = [] ↔ o = 0 := by
  constructor
  · intro h
    apply Nat.eq_of_testBit_eq
    intro i
    rw [Nat.zero_testBit]
    by_cases hi : i < 16
    · cases hb : o.testBit i
      · rfl
      · have : (i : Int) ∈ nodesI o := mem_nodesI.2 ⟨i, hi, rfl, hb⟩
        rw [h] at this
        simp at this
    · exact Nat.testBit_lt_two_pow (Nat.lt_of_lt_of_le (show o < 2 ^ 16 from ho) (Nat.pow_le_pow_right (by omega) (by omega)))
  · intro h
    subst h
    decide
/-- who has voted what, of a transaction that is asked: o has not voted, y has voted Yes -/
structure Ak (ns yes read : List Int) (o y : Nat) : Prop where
  lo : o < 65536
  ly : y < 65536
  ob : ∀ f, f < 16 → (o.testBit f = true ↔ (f : Int) ∈ ns ∧ (f : Int) ∉ yes ∧ (f : Int) ∉ read)
  yb : ∀ f, f < 16 → (y.testBit f = true ↔ (f : Int) ∈ yes)
  ym : ∀ z ∈ yes, 0 ≤ z ∧ z < 16
  len : yes.length + read.length + (nodesI o).length = ns.length
theorem Ak.start {ns : List Int} (hu : upN (-1) ns = true) : Ak ns [] [] (orB 0 ns) 0 := by
  refine ⟨or_lt (by omega) hu (by decide), by omega, fun f hf => ?_, fun f _ => by simp, by simp, by simp [nodes_or hu]⟩
  have h1 := mem_nodesI (b := orB 0 ns) (z := (f : Int))
  rw [nodes_or hu] at h1
  constructor
  · intro h2
    exact ⟨h1.2 ⟨f, hf, rfl, h2⟩, by simp, by simp⟩
  · rintro ⟨h2, _, _⟩
    obtain ⟨g, _, hg, hb⟩ := h1.1 h2
    rw [show f = g by omega]
    exact hb
theorem Ak.yes {ns yes read : List Int} {o y f : Nat} (h : Ak ns yes read o y) (hf : f < 16) (hof : o.testBit f = true) : Ak ns (yes ++ [(f : Int)]) read (woB o f) (y ||| 2 ^ f) := by
  refine ⟨woB_lt h.lo, or_lt16 h.ly hf, fun g hg => ?_, fun g hg => ?_, fun z hz => ?_, ?_⟩
  · rw [woB_test, Bool.and_eq_true, decide_eq_true_eq, h.ob g hg, List.mem_append, List.mem_singleton]
    constructor
    · rintro ⟨⟨h1, h2, h3⟩, h4⟩
      exact ⟨h1, fun e => e.elim h2 (fun e => h4 (by omega)), h3⟩
    · rintro ⟨h1, h2, h3⟩
      exact ⟨⟨h1, fun e => h2 (.inl e), h3⟩, fun e => h2 (.inr (by omega))⟩
  · rw [Nat.testBit_or, Nat.testBit_two_pow, Bool.or_eq_true, decide_eq_true_eq, h.yb g hg, List.mem_append, List.mem_singleton]
    constructor
    · rintro (h1 | h1)
      · exact .inl h1
      · exact .inr (by omega)
    · rintro (h1 | h1)
      · exact .inl h1
      · exact .inr (by omega)
  · rcases List.mem_append.1 hz with h1 | h1
    · exact h.ym z h1
    · rw [List.mem_singleton] at h1; omega
  · have h1 := nodesI_woB hf hof
    have h2 := h.len
    rw [List.length_append, List.length_singleton]
    omega
theorem Ak.read {ns yes read : List Int} {o y f : Nat} (h : Ak ns yes read o y) (hf : f < 16) (hof : o.testBit f = true) : Ak ns yes (read ++ [(f : Int)]) (woB o f) y := by
  refine ⟨woB_lt h.lo, h.ly, fun g hg => ?_, h.yb, h.ym, ?_⟩
  · rw [woB_test, Bool.and_eq_true, decide_eq_true_eq, h.ob g hg, List.mem_append, List.mem_singleton]
    constructor
    · rintro ⟨⟨h1, h2, h3⟩, h4⟩
      exact ⟨h1, h2, fun e => e.elim h3 (fun e => h4 (by omega))⟩
    · rintro ⟨h1, h2, h3⟩
      exact ⟨⟨h1, h2, fun e => h3 (.inl e)⟩, fun e => h3 (.inr (by omega))⟩
  · have h1 := nodesI_woB hf hof
    have h2 := h.len
    rw [List.length_append, List.length_singleton]
    omega
theorem Ak.all {ns yes read : List Int} {o y : Nat} (h : Ak ns yes read o y) : yes.length + read.length = ns.length ↔ o = 0 := by
  have h1 := h.len
  rw [← nodesI_none h.lo, ← List.length_eq_zero_iff]
  omega
theorem Ak.none {ns yes read : List Int} {o y : Nat} (h : Ak ns yes read o y) : y = 0 ↔ yes = [] := by
  constructor
  · intro e
    rcases hy : yes with _ | ⟨z, l⟩
    · rfl
    · have hz : z ∈ yes := by rw [hy]; simp
      have h1 := h.ym z hz
      have h2 := (h.yb z.toNat (by omega)).2 (by rw [show ((z.toNat : Nat) : Int) = z by omega]; exact hz)
      rw [e] at h2
      simp at h2
  · intro e
    apply Nat.eq_of_testBit_eq
    intro i
    rw [Nat.zero_testBit]
    by_cases hi : i < 16
    · cases hb : y.testBit i
      · rfl
      · have := (h.yb i hi).1 hb
        rw [e] at this
        simp at this
    · exact Nat.testBit_lt_two_pow (Nat.lt_of_lt_of_le (show y < 2 ^ 16 from h.ly) (Nat.pow_le_pow_right (by omega) (by omega)))
/-- all that voted Yes are among those that are told -/
theorem Ak.told {ns yes read : List Int} {o y : Nat} (h : Ak ns yes read o y) : ∀ z ∈ yes, z ∈ nodesI y := fun z hz => by
  have h1 := h.ym z hz
  exact mem_nodesI.2 ⟨z.toNat, by omega, by omega, (h.yb z.toNat (by omega)).2 (by rw [show ((z.toNat : Nat) : Int) = z by omega]; exact hz)⟩
/-- what the log tells of a coordinator with one transaction -/
structure LogS (S : CoS) (ks : List Rk) (T' : List Te) (m : Nat) : Prop where
  b : S.b = 0
  rs : S.rs = ks.map Rk.b
  ok : ∀ r ∈ ks, r.ok
  few : ks.length ≤ m + T'.length
  red : redoA ks = (S.inc + 1, T')
  s : S.s = S.b + (bytesOf S.rs).length
theorem LogS.decided {S : CoS} {ks : List Rk} {m x y : Nat} (h : LogS S ks [] m) (hx : x ≤ 1099511627776) (hy : 0 < y ∧ y < 65536) {g' d' : Nat} {v : Value} {os : List Le} {T : List Te} : LogS { S with g := g', d := d', s := S.b + (bytesOf (S.rs ++ [decR x y])).length, pre := [], rs := S.rs ++ [decR x y], T := T, ov := v, os := os } (ks ++ [Rk.de x y]) [⟨x, 3, 0, y, 0, 0⟩] m := by
  refine ⟨h.b, ?_, fun r hr => ?_, by rw [List.length_append]; exact Nat.succ_le_succ h.few, ?_, rfl⟩
  · show S.rs ++ [decR x y] = _
    rw [List.map_append, h.rs]
    rfl
  · rcases List.mem_append.1 hr with h1 | h1
    · exact h.ok r h1
    · rw [List.mem_singleton] at h1
      subst h1
      exact ⟨hx, hy.1, hy.2⟩
  · rw [redoA_app, h.red]
    rfl
theorem LogS.opened {S S' : CoS} {ks : List Rk} {T' : List Te} {m : Nat} (h : LogS S ks T' m) (hm : m ≤ 1000) (hT' : T'.length ≤ 1) (h2 : S'.inc = (redoA ks).1) (h5 : S'.b = 0) (h6 : S'.rs = (ks ++ [Rk.op (redoA ks).1]).map Rk.b) (h7 : S'.s = S'.b + (bytesOf S'.rs).length) : LogS S' (ks ++ [Rk.op (redoA ks).1]) T' (m + 1) := by
  have hle := (redoA_le ks).1
  have hfw := h.few
  refine ⟨h5, h6, fun r hr => ?_, by rw [List.length_append]; simp only [List.length_cons, List.length_nil]; omega, ?_, h7⟩
  · rcases List.mem_append.1 hr with h8 | h8
    · exact h.ok r h8
    · rw [List.mem_singleton] at h8
      subst h8
      show (redoA ks).1 ≤ _
      omega
  · rw [redoA_app, h2, h.red]
    rfl
end Go.Proofs.Ytogogekmodbdiaa

/- A row's bytes, in plain mathematics: each value's bytes are taken one way. -/
import Derived.Test.YtogogekmodbdiaaWA
import Derived.Test.YtogogekmodbdiaaKB
namespace Go.Proofs.Ytogogekmodbdiaa

/-- what stands behind a value's kind -/
def bodyR (k n : Int) (l : List UInt8) : List UInt8 := if k = 1 then [UInt8.ofNat n.toNat] else if k = 2 ∨ k = 3 then vL (zig n) else if k = 4 ∨ k = 5 then vL (zig l.length) ++ l else []
def rowV (x : Val) : List UInt8 := UInt8.ofNat x.k.toNat :: bodyR x.k x.n x.s.data.toList
def rowL (l : List Val) : List UInt8 := l.flatMap rowV
/-- a row's bytes -/
def rowB (l : List Val) : List UInt8 := UInt8.ofNat l.length :: rowL l
theorem rowL_cons (x : Val) (l : List Val) : rowL (x :: l) = rowV x ++ rowL l := by simp [rowL]
theorem rowL_app (l m : List Val) : rowL (l ++ m) = rowL l ++ rowL m := by simp [rowL]
theorem rowL_snoc (l : List Val) (x : Val) : rowL (l ++ [x]) = rowL l ++ rowV x := by simp [rowL]
theorem zig_inj {n m : Int} (h : zig n = zig m) : n = m := by rw [← zag_zig n, h, zag_zig]
theorem R_k {x : Val} (h : x.R) : 0 ≤ x.k ∧ x.k ≤ 5 := by rcases h.cases with h | h | h | h <;> omega
theorem bodyR_inj {k n m : Int} {l r x y : List UInt8} (h1 : k = 1 → (n = 0 ∨ n = 1) ∧ (m = 0 ∨ m = 1) ∧ l = [] ∧ r = []) (h2 : k = 2 ∨ k = 3 → l = [] ∧ r = []) (h4 : k = 4 ∨ k = 5 → n = 0 ∧ m = 0) (h0 : ¬ (k = 1 ∨ k = 2 ∨ k = 3 ∨ k = 4 ∨ k = 5) → n = m ∧ l = r)
    (h : bodyR k n l ++ x = bodyR k m r ++ y) : n = m ∧ l = r ∧ x = y := by
  unfold bodyR at h
  by_cases e1 : k = 1
  · obtain ⟨a, b, rfl, rfl⟩ := h1 e1
    rw [if_pos e1, if_pos e1] at h
    simp only [List.cons_append, List.nil_append, List.cons.injEq] at h
    have g := congrArg UInt8.toNat h.1
    rw [ofNat_toNat (by omega), ofNat_toNat (by omega)] at g
    exact ⟨by omega, rfl, h.2⟩
  · rw [if_neg e1, if_neg e1] at h
    by_cases e2 : k = 2 ∨ k = 3
    · obtain ⟨rfl, rfl⟩ := h2 e2
      rw [if_pos e2, if_pos e2] at h
      obtain ⟨a, b⟩ := vL_inj h
      exact ⟨zig_inj a, rfl, b⟩
    · rw [if_neg e2, if_neg e2] at h
      by_cases e4 : k = 4 ∨ k = 5
      · obtain ⟨rfl, rfl⟩ := h4 e4
        rw [if_pos e4, if_pos e4, List.append_assoc, List.append_assoc] at h
        obtain ⟨a, b⟩ := vL_inj h
        have hl : l.length = r.length := by have := zig_inj a; omega
        obtain ⟨c, d⟩ := List.append_inj b hl
        exact ⟨rfl, c, d⟩
      · rw [if_neg e4, if_neg e4] at h
        obtain ⟨rfl, rfl⟩ := h0 (by omega)
        exact ⟨rfl, rfl, h⟩
theorem rowV_inj {x y : Val} (hx : x.R) (hy : y.R) {u v : List UInt8} (h : rowV x ++ u = rowV y ++ v) : x = y ∧ u = v := by
  unfold rowV at h
  rw [List.cons_append, List.cons_append, List.cons.injEq] at h
  have kx := R_k hx
  have ky := R_k hy
  have g := congrArg UInt8.toNat h.1
  rw [ofNat_toNat (by omega), ofNat_toNat (by omega)] at g
  have hk : x.k = y.k := by omega
  have h2 := h.2
  rw [hk] at h2
  have hxc := hx.cases
  have hyc := hy.cases
  obtain ⟨a, b, c⟩ := bodyR_inj
      (fun e => by
        rcases hxc with g | g | g | g
        · omega
        · rcases hyc with f | f | f | f
          · omega
          · exact ⟨g.2.1, f.2.1, by rw [g.2.2], by rw [f.2.2]⟩
          · omega
          · omega
        · omega
        · omega)
      (fun e => by
        rcases hxc with g | g | g | g
        · omega
        · omega
        · rcases hyc with f | f | f | f
          · omega
          · omega
          · exact ⟨by rw [g.2.1], by rw [f.2.1]⟩
          · omega
        · omega)
      (fun e => by
        rcases hxc with g | g | g | g
        · omega
        · omega
        · omega
        · rcases hyc with f | f | f | f
          · omega
          · omega
          · omega
          · exact ⟨g.2.1, f.2.1⟩)
      (fun e => by
        rcases hxc with g | g | g | g
        · rcases hyc with f | f | f | f
          · exact ⟨by rw [g.2.1, f.2.1], by rw [g.2.2, f.2.2]⟩
          · omega
          · omega
          · omega
        · omega
        · omega
        · omega) h2
  exact ⟨Val.ext' hk a (bytes_ext b), c⟩
theorem rowL_inj {a b : List Val} (ha : ∀ x ∈ a, x.R) (hb : ∀ x ∈ b, x.R) (hl : a.length = b.length) {u v : List UInt8} (h : rowL a ++ u = rowL b ++ v) : a = b ∧ u = v := by
  induction a generalizing b with
  | nil => cases b with
    | nil => exact ⟨rfl, h⟩
    | cons y b => simp at hl
  | cons x a ih => cases b with
    | nil => simp at hl
    | cons y b =>
      rw [rowL_cons, rowL_cons, List.append_assoc, List.append_assoc] at h
      obtain ⟨rfl, h2⟩ := rowV_inj (ha x (by simp)) (hb y (by simp)) h
      obtain ⟨rfl, h3⟩ := ih (fun z hz => ha z (by simp [hz])) (fun z hz => hb z (by simp [hz])) (by simpa using hl) h2
      exact ⟨rfl, h3⟩
/-- no row's bytes begin another one's -/
theorem rowB_inj {a b : List Val} (ha : ∀ x ∈ a, x.R) (hb : ∀ x ∈ b, x.R) (la : a.length ≤ 16) (lb : b.length ≤ 16) {u v : List UInt8} (h : rowB a ++ u = rowB b ++ v) : a = b ∧ u = v := by
  unfold rowB at h
  rw [List.cons_append, List.cons_append, List.cons.injEq] at h
  have g := congrArg UInt8.toNat h.1
  rw [ofNat_toNat (by omega), ofNat_toNat (by omega)] at g
  exact rowL_inj ha hb g h.2
theorem rowV_len {x : Val} (h : x.R) : (rowV x).length ≤ 211 := by
  unfold rowV bodyR
  have hsz : x.s.data.toList.length = x.s.size := by simp
  have hc := h.cases
  simp only [List.length_cons]
  split
  · simp
  · split
    · have h3 : i64ok x.n := h.2.2
      have := vL_10 (zig_lt h3.1 h3.2)
      omega
    · split
      · rw [List.length_append, hsz]
        have := vL_10 (zig_lt (n := (x.s.size : Int)) (by omega) (by omega))
        omega
      · simp
theorem rowL_len {l : List Val} (h : ∀ x ∈ l, x.R) : (rowL l).length ≤ 211 * l.length := by
  induction l with
  | nil => simp [rowL]
  | cons x l ih =>
    have := rowV_len (h x (by simp))
    have := ih fun y hy => h y (by simp [hy])
    rw [rowL_cons, List.length_append, List.length_cons]
    omega
end Go.Proofs.Ytogogekmodbdiaa

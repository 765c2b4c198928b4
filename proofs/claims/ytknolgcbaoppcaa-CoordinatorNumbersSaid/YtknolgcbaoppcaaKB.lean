/- A key's bytes: each value's bytes are taken one way, and stand as the value does. -/
import Derived.Test.YtknolgcbaoppcaaKA
import Derived.Test.YtknolgcbaoppcaaQM
namespace Go.Proofs.Ytknolgcbaoppcaa

theorem cmpB_eq (x y : List UInt8) : Lib.compareBytes x y = cmpB x y := by
  induction x generalizing y with
  | nil => cases y <;> rfl
  | cons a x ih => cases y with
    | nil => rfl
    | cons b y => simp only [Lib.compareBytes, cmpB, ih]
theorem less_eq (x y : List UInt8) : Op.bytesLess x y = decide (cmpB x y < 0) := by
  induction x generalizing y with
  | nil => cases y with
    | nil => simp [Op.bytesLess, cmpB]
    | cons b y => simp [Op.bytesLess, cmpB]
  | cons a x ih => cases y with
    | nil => simp [Op.bytesLess, cmpB]
    | cons b y =>
      rcases Nat.lt_trichotomy a.toNat b.toNat with h | h | h
      · have h1 : a < b := (u8_lt a b).2 h
        rw [cmpB_lt h]
        simp [Op.bytesLess, h1]
      · have e := u8_ext h
        subst e
        rw [cmpB_cons, ← ih]
        simp [Op.bytesLess]
      · have h1 : ¬ a < b := fun h3 => by have := (u8_lt a b).1 h3; omega
        have h2 : ¬ a = b := fun e => by subst e; omega
        rw [cmpB_gt h]
        simp [Op.bytesLess, h1, h2]

/-- a right value -/
def Val.R (x : Val) : Prop := rightB x = true ∧ x.ok
theorem Val.ext' {x y : Val} (h1 : x.k = y.k) (h2 : x.n = y.n) (h3 : x.s = y.s) : x = y := by
  cases x; cases y; simp only at h1 h2 h3; subst h1 h2 h3; rfl
theorem bytes_ext {c f : ByteArray} (h : c.data.toList = f.data.toList) : c = f := ByteArray.ext (Array.toList_inj.1 h)
/-- what a right value looks like -/
theorem Val.R.cases {x : Val} (h : x.R) : (x.k = 0 ∧ x.n = 0 ∧ x.s = ⟨#[]⟩) ∨ (x.k = 1 ∧ (x.n = 0 ∨ x.n = 1) ∧ x.s = ⟨#[]⟩) ∨ ((x.k = 2 ∨ x.k = 3) ∧ x.s = ⟨#[]⟩ ∧ i64ok x.n) ∨ ((x.k = 4 ∨ x.k = 5) ∧ x.n = 0 ∧ x.s.size ≤ 200) := by
  obtain ⟨h, _, hn⟩ := h
  unfold rightB isT eqB at h
  by_cases h1 : x.k = 0 ∨ x.k = 1
  · rw [if_pos h1] at h
    simp only [Bool.or_eq_true, decide_eq_true_eq] at h
    rcases h with (⟨a, b, c⟩ | ⟨a, b, c⟩) | ⟨a, b, c⟩
    · exact .inl ⟨a, b, c⟩
    · exact .inr (.inl ⟨a, .inl b, c⟩)
    · exact .inr (.inl ⟨a, .inr b, c⟩)
  · rw [if_neg h1] at h
    by_cases h2 : x.k = 2 ∨ x.k = 3
    · rw [if_pos h2] at h
      exact .inr (.inr (.inl ⟨h2, of_decide_eq_true h, hn⟩))
    · rw [if_neg h2] at h
      by_cases h3 : x.k = 4 ∨ x.k = 5
      · rw [if_pos h3] at h
        exact .inr (.inr (.inr ⟨h3, of_decide_eq_true h⟩))
      · rw [if_neg h3] at h
        cases h
/-- a number as one that is not negative -/
def offN (n : Int) : Nat := (n + 9223372036854775808).toNat
/-- what stands behind a value's kind -/
def bodyL (k n : Int) (l : List UInt8) : List UInt8 := if k = 1 then be 1 n.toNat else if k = 2 ∨ k = 3 then be 8 (offN n) else if k = 4 ∨ k = 5 then stuffL l ++ [0, 1] else []
def enc1 (x : Val) : List UInt8 := UInt8.ofNat x.k.toNat :: bodyL x.k x.n x.s.data.toList
def encL (l : List Val) : List UInt8 := l.flatMap enc1
theorem pow8 : (256 : Nat) ^ 8 = 18446744073709551616 := by decide
theorem off_lt {n : Int} (h : i64ok n) : offN n < 256 ^ 8 := by rw [pow8]; unfold offN; obtain ⟨a, b⟩ := h; omega
theorem body_cmp (k n m : Int) (l r x y : List UInt8) (h1 : k = 1 → (n = 0 ∨ n = 1) ∧ (m = 0 ∨ m = 1) ∧ l = [] ∧ r = []) (h2 : k = 2 ∨ k = 3 → i64ok n ∧ i64ok m ∧ l = [] ∧ r = []) (h4 : k = 4 ∨ k = 5 → n = 0 ∧ m = 0) (h0 : ¬ (k = 1 ∨ k = 2 ∨ k = 3 ∨ k = 4 ∨ k = 5) → n = m ∧ l = r) :
    cmpB (bodyL k n l ++ x) (bodyL k m r ++ y) = if n = m ∧ l = r then cmpB x y else if cmpI n m ≠ 0 then cmpI n m else cmpB l r := by
  unfold bodyL
  by_cases e1 : k = 1
  · obtain ⟨a, b, rfl, rfl⟩ := h1 e1
    rw [if_pos e1, if_pos e1, be_cmp]
    rcases a with rfl | rfl <;> rcases b with rfl | rfl <;> simp [cmpN, cmpI]
  · rw [if_neg e1, if_neg e1]
    by_cases e2 : k = 2 ∨ k = 3
    · obtain ⟨a, b, rfl, rfl⟩ := h2 e2
      rw [if_pos e2, if_pos e2, be_cmp, Nat.mod_eq_of_lt (off_lt a), Nat.mod_eq_of_lt (off_lt b)]
      obtain ⟨a1, a2⟩ := a
      obtain ⟨b1, b2⟩ := b
      rcases Int.lt_trichotomy n m with h | h | h
      · have e : offN n < offN m := by unfold offN; omega
        rw [cmpI_lt h, cmpN_lt e, if_neg (by omega), if_neg (by omega), if_pos (by omega)]
      · subst h
        rw [if_pos rfl, if_pos ⟨rfl, rfl⟩]
      · have e : offN m < offN n := by unfold offN; omega
        rw [cmpI_gt h, cmpN_gt e, if_neg (by omega), if_neg (by omega), if_pos (by omega)]
    · rw [if_neg e2, if_neg e2]
      by_cases e4 : k = 4 ∨ k = 5
      · obtain ⟨rfl, rfl⟩ := h4 e4
        rw [if_pos e4, if_pos e4]
        have ea : ∀ (p q : List UInt8), p ++ [0, 1] ++ q = p ++ 0 :: 1 :: q := fun p q => by simp
        rw [ea, ea, stuff_cmp]
        simp [cmpI]
      · rw [if_neg e4, if_neg e4]
        obtain ⟨rfl, rfl⟩ := h0 (by omega)
        rw [if_pos ⟨rfl, rfl⟩]
        rfl
theorem enc_cmp (x y : Val) (hx : x.R) (hy : y.R) (u v : List UInt8) : cmpB (enc1 x ++ u) (enc1 y ++ v) = if ordI x y = 0 then cmpB u v else ordI x y := by
  unfold enc1 ordI
  rw [List.cons_append, List.cons_append, cmpB_eq]
  have kx : 0 ≤ x.k ∧ x.k ≤ 5 := by rcases hx.cases with h | h | h | h <;> omega
  have ky : 0 ≤ y.k ∧ y.k ≤ 5 := by rcases hy.cases with h | h | h | h <;> omega
  have tx : (UInt8.ofNat x.k.toNat).toNat = x.k.toNat := ofNat_toNat (by omega)
  have ty : (UInt8.ofNat y.k.toNat).toNat = y.k.toNat := ofNat_toNat (by omega)
  rcases Int.lt_trichotomy x.k y.k with h | h | h
  · rw [cmpB_lt (by rw [tx, ty]; omega), cmpI_lt h]
    simp [orI]
  · rw [h, cmpB_cons]
    have hxc := hx.cases
    have hyc := hy.cases
    rw [body_cmp y.k x.n y.n x.s.data.toList y.s.data.toList u v
      (fun e => by
        rcases hxc with g | g | g | g
        · omega
        · rcases hyc with f | f | f | f
          · omega
          · exact ⟨g.2.1, f.2.1, by rw [g.2.2], by rw [f.2.2]⟩
          · omega
          · omega
        · omega
        · omega)
      (fun e => by
        rcases hxc with g | g | g | g
        · omega
        · omega
        · rcases hyc with f | f | f | f
          · omega
          · omega
          · exact ⟨g.2.2, f.2.2, by rw [g.2.1], by rw [f.2.1]⟩
          · omega
        · omega)
      (fun e => by
        rcases hxc with g | g | g | g
        · omega
        · omega
        · omega
        · rcases hyc with f | f | f | f
          · omega
          · omega
          · omega
          · exact ⟨g.2.1, f.2.1⟩)
      (fun e => by
        rcases hxc with g | g | g | g
        · rcases hyc with f | f | f | f
          · exact ⟨by rw [g.2.1, f.2.1], by rw [g.2.2, f.2.2]⟩
          · omega
          · omega
          · omega
        · omega
        · omega
        · omega)]
    rw [cmpI_eq rfl]
    generalize x.s.data.toList = l
    generalize y.s.data.toList = r
    by_cases hn : x.n = y.n
    · rw [cmpI_eq hn]
      by_cases hl : l = r
      · subst hl
        rw [if_pos ⟨hn, rfl⟩, cmpB_self]
        simp [orI]
      · rw [if_neg (fun e => hl e.2)]
        have : cmpB l r ≠ 0 := fun e => hl (cmpB_zero e)
        simp [orI, this]
    · rw [if_neg (fun e => hn e.1)]
      have : cmpI x.n y.n ≠ 0 := by
        rcases Int.lt_or_gt_of_ne hn with g | g
        · rw [cmpI_lt g]; omega
        · rw [cmpI_gt g]; omega
      simp [orI, this]
  · rw [cmpB_gt (by rw [tx, ty]; omega), cmpI_gt h]
    simp [orI]
theorem ord_zero {x y : Val} (h : ordI x y = 0) : x = y := by
  unfold ordI orI at h
  rw [cmpB_eq] at h
  have e1 : ∀ a b, cmpI a b = 0 → a = b := fun a b e => by
    unfold cmpI at e
    split at e
    · omega
    · split at e <;> omega
  split at h
  · next g => exact absurd h g
  · next g1 =>
    split at h
    · next g => exact absurd h g
    · next g2 => exact Val.ext' (e1 _ _ (Decidable.not_not.1 g1)) (e1 _ _ (Decidable.not_not.1 g2)) (bytes_ext (cmpB_zero h))
theorem ord_self (x : Val) : ordI x x = 0 := by
  unfold ordI orI
  rw [cmpB_eq, cmpB_self, cmpI_eq rfl, cmpI_eq rfl]
  simp
theorem ord_zero_iff (x y : Val) : ordI x y = 0 ↔ x = y := ⟨ord_zero, fun e => by rw [e, ord_self]⟩
theorem enc_inj {x y : Val} (hx : x.R) (hy : y.R) {u v : List UInt8} (h : enc1 x ++ u = enc1 y ++ v) : x = y ∧ u = v := by
  have e := enc_cmp x y hx hy u v
  rw [h, cmpB_self] at e
  split at e
  · next g => exact ⟨ord_zero g, cmpB_zero e.symm⟩
  · next g => exact absurd e.symm g
theorem enc_pos (x : Val) : 0 < (enc1 x).length := by simp [enc1]
theorem encL_cons (x : Val) (l : List Val) : encL (x :: l) = enc1 x ++ encL l := by simp [encL]
theorem encL_app (l m : List Val) : encL (l ++ m) = encL l ++ encL m := by simp [encL]
/-- a list of right values whose bytes begin another one's begins it -/
theorem encL_begins {a b : List Val} (ha : ∀ x ∈ a, x.R) (hb : ∀ x ∈ b, x.R) {u : List UInt8} (h : encL a ++ u = encL b) : ∃ c, b = a ++ c ∧ u = encL c := by
  induction a generalizing b with
  | nil => exact ⟨b, rfl, h⟩
  | cons x a ih => cases b with
    | nil =>
      simp [encL, enc1] at h
    | cons y b =>
      rw [encL_cons, encL_cons, List.append_assoc] at h
      obtain ⟨rfl, h2⟩ := enc_inj (ha x (by simp)) (hb y (by simp)) h
      obtain ⟨c, rfl, h3⟩ := ih (fun z hz => ha z (by simp [hz])) (fun z hz => hb z (by simp [hz])) h2
      exact ⟨c, rfl, h3⟩
theorem encL_prefix {a b : List Val} (ha : ∀ x ∈ a, x.R) (hb : ∀ x ∈ b, x.R) : encL a <+: encL b ↔ a <+: b := by
  constructor
  · rintro ⟨u, h⟩
    obtain ⟨c, h1, _⟩ := encL_begins ha hb h
    exact ⟨c, h1.symm⟩
  · rintro ⟨c, h⟩
    exact ⟨encL c, by rw [← h, encL_app]⟩
/-- the order of two lists -/
def rowsI : List Val → List Val → Int
  | [], [] => 0
  | [], _ :: _ => -1
  | _ :: _, [] => 1
  | x :: a, y :: b => if ordI x y = 0 then rowsI a b else ordI x y
theorem encL_cmp {a b : List Val} (ha : ∀ x ∈ a, x.R) (hb : ∀ x ∈ b, x.R) : cmpB (encL a) (encL b) = rowsI a b := by
  induction a generalizing b with
  | nil => cases b with
    | nil => rfl
    | cons y b => rw [encL_cons]; rfl
  | cons x a ih => cases b with
    | nil => rw [encL_cons]; rfl
    | cons y b =>
      rw [encL_cons, encL_cons, enc_cmp x y (ha x (by simp)) (hb y (by simp)), ih (fun z hz => ha z (by simp [hz])) (fun z hz => hb z (by simp [hz]))]
      rfl
theorem enc_len {x : Val} (h : x.R) : (enc1 x).length ≤ 403 := by
  unfold enc1 bodyL
  have hs := stuffL_len x.s.data.toList
  have hc := h.cases
  have hsz : x.s.data.toList.length = x.s.size := by simp
  rw [hsz] at hs
  simp only [List.length_cons]
  split
  · rw [be_len]; omega
  · split
    · rw [be_len]; omega
    · split
      · simp only [List.length_append, List.length_cons, List.length_nil]; omega
      · simp
theorem encL_len {l : List Val} (h : ∀ x ∈ l, x.R) : (encL l).length ≤ 403 * l.length := by
  induction l with
  | nil => simp [encL]
  | cons x l ih =>
    have := enc_len (h x (by simp))
    have := ih fun y hy => h y (by simp [hy])
    rw [encL_cons, List.length_append, List.length_cons]
    omega
end Go.Proofs.Ytknolgcbaoppcaa

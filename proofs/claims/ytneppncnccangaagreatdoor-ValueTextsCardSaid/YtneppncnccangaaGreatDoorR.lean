/- The mathematics of P2.2: a right value's text is read as the value; what a text is read as is right and has that text. -/
import Derived.Test.YtneppncnccangaaGreatDoorN
import Derived.Lib.ParseIntBCases
namespace Go.Proofs.YtneppncnccangaaGreatDoor
open Go.RowKit

/-- the number that figures spell, behind a number -/
def dstep (a : Nat) (c : UInt8) : Nat := a * 10 + (c.toNat - 48)
def spell (a : Nat) (l : List UInt8) : Nat := l.foldl dstep a
def figs (l : List UInt8) : Prop := ∀ c ∈ l, 48 ≤ c.toNat ∧ c.toNat ≤ 57
theorem spell_cons (c : UInt8) (l : List UInt8) (a : Nat) : spell a (c :: l) = spell (dstep a c) l := List.foldl_cons ..
theorem spell_app (l m : List UInt8) (a : Nat) : spell a (l ++ m) = spell (spell a l) m := List.foldl_append
theorem spell_nil (a : Nat) : spell a [] = a := List.foldl_nil
theorem spell_le : ∀ (l : List UInt8) (a : Nat), a ≤ spell a l
  | [], a => Nat.le_of_eq (spell_nil a).symm
  | c :: l, a => by
    rw [spell_cons]
    have h2 : a ≤ dstep a c := by unfold dstep; omega
    exact Nat.le_trans h2 (spell_le l (dstep a c))
theorem spell_split : ∀ (l : List UInt8) (a : Nat), spell a l = a * 10 ^ l.length + spell 0 l
  | [], a => by rw [spell_nil, spell_nil]; simp
  | c :: l, a => by
    rw [spell_cons, spell_cons, spell_split l (dstep a c), spell_split l (dstep 0 c), List.length_cons, Nat.pow_succ]
    unfold dstep
    rw [Nat.zero_mul, Nat.zero_add, Nat.add_mul, Nat.mul_assoc, Nat.mul_comm 10, Nat.add_assoc]
theorem fig_toNat (d : Nat) (h : d < 10) : (UInt8.ofNat (48 + d)).toNat = 48 + d := by simp; omega
theorem dec_spec : ∀ (n u : Nat), u ≤ n → spell 0 (Lib.decDigits u) = u ∧ figs (Lib.decDigits u)
  | n, u, hn => by
    rw [Lib.decDigits]
    by_cases h : u < 10
    · rw [dif_pos h]
      refine ⟨?_, fun c hc => ?_⟩
      · rw [spell_cons, spell_nil]; unfold dstep
        rw [fig_toNat u h]; omega
      · simp only [List.mem_singleton] at hc
        subst hc
        rw [fig_toNat u h]; omega
    · rw [dif_neg h]
      cases n with
      | zero => omega
      | succ n =>
        obtain ⟨h1, h2⟩ := dec_spec n (u / 10) (by omega)
        refine ⟨?_, fun c hc => ?_⟩
        · rw [spell_app, h1, spell_cons, spell_nil]; unfold dstep
          rw [fig_toNat _ (Nat.mod_lt _ (by omega))]; omega
        · rcases List.mem_append.1 hc with hc | hc
          · exact h2 c hc
          · simp only [List.mem_singleton] at hc
            subst hc
            rw [fig_toNat _ (Nat.mod_lt _ (by omega))]; omega
theorem spell_dec (u : Nat) : spell 0 (Lib.decDigits u) = u := (dec_spec u u (Nat.le_refl _)).1
theorem figs_dec (u : Nat) : figs (Lib.decDigits u) := (dec_spec u u (Nat.le_refl _)).2
theorem dec_ne (u : Nat) : Lib.decDigits u ≠ [] := by
  rw [Lib.decDigits]; split <;> simp
theorem parse_figs : ∀ (l : List UInt8) (a : Nat), figs l → spell a l ≤ 18446744073709551615 → Lib.parseUintM 18446744073709551615 a l = .ok (spell a l)
  | [], a, _, _ => by rw [spell_nil]; rfl
  | c :: l, a, hf, hs => by
    have hc := hf c (by simp)
    rw [spell_cons] at hs ⊢
    have hl := Nat.le_trans (spell_le l (dstep a c)) hs
    have hd : dstep a c = a * 10 + (c.toNat - 48) := rfl
    rw [Lib.parseUintM, if_pos hc, if_neg (by omega), if_neg (by omega), ← hd]
    exact parse_figs l _ (fun x hx => hf x (by simp [hx])) hs
theorem parseU (l : List UInt8) (h0 : l ≠ []) (hf : figs l) (hs : spell 0 l ≤ 18446744073709551615) : Lib.parseUintB 64 l = .ok (spell 0 l) := by
  unfold Lib.parseUintB
  rw [if_neg h0]
  exact parse_figs l 0 hf hs
/-- a sign and figures are read as the number -/
theorem parse_num (n : Int) (hn : i64ok n) (l : List UInt8) (h0 : l ≠ []) (hf : figs l) (hs : spell 0 l = n.natAbs) : okV (Lib.parseIntB 64 (signL n ++ l)) = some n := by
  obtain ⟨h1, h2⟩ := hn
  unfold signL
  by_cases hneg : n < 0
  · rw [if_pos hneg]
    show okV (Lib.parseIntB 64 (45 :: l)) = _
    rw [Lib.parseIntB_minus, parseU l h0 hf (by omega), hs]
    unfold Lib.signedC
    dsimp only
    rw [if_neg (by show ¬ 9223372036854775808 < n.natAbs; omega)]
    show some (-(n.natAbs : Int)) = some n
    congr 1; omega
  · rw [if_neg hneg, List.nil_append]
    cases l with
    | nil => exact absurd rfl h0
    | cons c l =>
      have hc := hf c (by simp)
      rw [Lib.parseIntB_plain 64 c l (by omega) (by omega), parseU _ h0 hf (by omega), hs]
      unfold Lib.signlessC
      dsimp only
      rw [if_neg (by show ¬ 9223372036854775808 ≤ n.natAbs; omega)]
      show some ((n.natAbs : Int)) = some n
      congr 1; omega
theorem index_none : ∀ l : List UInt8, (∀ c ∈ l, c ≠ 46) → Lib.index l [46] = -1
  | [], _ => rfl
  | c :: l, h => by
    have hc := h c (by simp)
    have hi := index_none l (fun x hx => h x (by simp [hx]))
    unfold Lib.index
    rw [if_neg (by simp [List.isPrefixOf]; exact fun e => hc e.symm), hi]
    rfl
theorem index_at : ∀ l m : List UInt8, (∀ c ∈ l, c ≠ 46) → Lib.index (l ++ 46 :: m) [46] = l.length
  | [], m, _ => by unfold Lib.index; simp [List.isPrefixOf]
  | c :: l, m, h => by
    have hc := h c (by simp)
    have hi := index_at l m (fun x hx => h x (by simp [hx]))
    show Lib.index (c :: (l ++ 46 :: m)) [46] = _
    unfold Lib.index
    rw [if_neg (by simp [List.isPrefixOf]; exact fun e => hc e.symm), hi, if_neg (by simp <;> omega)]
    simp
theorem cut_none (l : List UInt8) (h : ∀ c ∈ l, c ≠ 46) : Lib.cut l [46] = (l, [], false) := by
  unfold Lib.cut
  rw [index_none l h, if_neg (by omega)]
theorem cut_at (l m : List UInt8) (h : ∀ c ∈ l, c ≠ 46) : Lib.cut (l ++ 46 :: m) [46] = (l, m, true) := by
  unfold Lib.cut
  rw [index_at l m h, if_pos (by omega)]
  simp
theorem fig_ne {l : List UInt8} (h : figs l) : ∀ c ∈ l, c ≠ 46 := fun c hc e => by have := h c hc; subst e; exact absurd this.1 (by decide)
theorem signL_ne (n : Int) : ∀ c ∈ signL n, c ≠ 46 := by unfold signL; split <;> simp
theorem pad_spec (u : Nat) (h : u < 10000) : figs (pad4 u).data.toList ∧ (pad4 u).data.toList.length = 4 ∧ spell 0 (pad4 u).data.toList = u := by
  have hd : (Lib.decDigits u).length ≤ 4 := by rw [Lib.decDigits_length]; exact nd4 u h
  have e : (pad4 u).data.toList = List.replicate (4 - (Lib.decDigits u).length) 48 ++ Lib.decDigits u := rfl
  rw [e]
  refine ⟨fun c hc => ?_, by rw [List.length_append, List.length_replicate]; omega, ?_⟩
  · rcases List.mem_append.1 hc with hc | hc
    · have := List.eq_of_mem_replicate hc; subst this; decide
    · exact figs_dec u c hc
  · rw [spell_app]
    have hz : ∀ k : Nat, spell 0 (List.replicate k 48) = 0 := by
      intro k
      induction k with
      | zero => rfl
      | succ k ih => rw [List.replicate_succ]; exact ih
    rw [hz, spell_dec]
/-- what begins as a number begins is no word, and stands not between quotes -/
theorem guess_num (l : List UInt8) (h : ∃ c r, l = c :: r ∧ (c = 45 ∨ 48 ≤ c.toNat ∧ c.toNat ≤ 57)) : guessV l = (numV l).map fun v => ⟨numK l, v, ⟨#[]⟩⟩ := by
  obtain ⟨c, r, rfl, hc⟩ := h
  have hne : ∀ d : UInt8, d ≠ 45 → (d.toNat < 48 ∨ 57 < d.toNat) → c ≠ d := fun d h1 h2 e => by subst e; rcases hc with hc | hc; exact h1 hc; omega
  have n1 := hne 110 (by decide) (by decide)
  have n2 := hne 102 (by decide) (by decide)
  have n3 := hne 116 (by decide) (by decide)
  have n4 := hne 39 (by decide) (by decide)
  have n5 := hne 120 (by decide) (by decide)
  have b1 : betw (c :: r) [39] = none := by unfold betw; rw [if_neg (by simp [Lib.hasPrefix, List.isPrefixOf]; intro e; exact absurd e.symm n4)]
  have b2 : betw (c :: r) [120, 39] = none := by unfold betw; rw [if_neg (by simp [Lib.hasPrefix, List.isPrefixOf]; intro e; exact absurd e.symm n5)]
  unfold guessV
  rw [if_neg (by simp [n1]), if_neg (by simp [n2]), if_neg (by simp [n3]), b1, b2]
theorem sign_head (n : Int) (l : List UInt8) (h0 : l ≠ []) (hf : figs l) (m : List UInt8) : ∃ c r, signL n ++ l ++ m = c :: r ∧ (c = 45 ∨ 48 ≤ c.toNat ∧ c.toNat ≤ 57) := by
  unfold signL
  split
  · exact ⟨45, l ++ m, rfl, .inl rfl⟩
  · cases l with
    | nil => exact absurd rfl h0
    | cons c l => exact ⟨c, l ++ m, rfl, .inr (hf c (by simp))⟩
theorem guess_int (n : Int) (hn : i64ok n) : guessV (signL n ++ Lib.decDigits n.natAbs) = some ⟨2, n, ⟨#[]⟩⟩ := by
  have hd := dec_ne n.natAbs
  have hf := figs_dec n.natAbs
  rw [guess_num _ (by have := sign_head n _ hd hf []; simpa using this)]
  have hcut := cut_none (signL n ++ Lib.decDigits n.natAbs) (fun c hc => by rcases List.mem_append.1 hc with hc | hc; exact signL_ne n c hc; exact fig_ne hf c hc)
  unfold numV numK
  rw [hcut]
  simp only [List.append_nil]
  rw [parse_num n hn _ hd hf (spell_dec _)]
  rfl
theorem guess_dec (n : Int) (hn : i64ok n) : guessV (signL n ++ Lib.decDigits (n.natAbs / 10000) ++ 46 :: (pad4 (n.natAbs % 10000)).data.toList) = some ⟨3, n, ⟨#[]⟩⟩ := by
  have hd := dec_ne (n.natAbs / 10000)
  have hf := figs_dec (n.natAbs / 10000)
  obtain ⟨p1, p2, p3⟩ := pad_spec (n.natAbs % 10000) (Nat.mod_lt _ (by omega))
  rw [guess_num _ (sign_head n _ hd hf _)]
  have hcut := cut_at (signL n ++ Lib.decDigits (n.natAbs / 10000)) (pad4 (n.natAbs % 10000)).data.toList (fun c hc => by rcases List.mem_append.1 hc with hc | hc; exact signL_ne n c hc; exact fig_ne hf c hc)
  unfold numV numK
  rw [hcut]
  simp only
  rw [List.append_assoc, parse_num n hn _ (by simp [hd]) (fun c hc => by rcases List.mem_append.1 hc with hc | hc; exact hf c hc; exact p1 c hc) (by rw [spell_app, spell_dec, spell_split, p2, p3]; omega)]
  rfl
theorem betw_text (op m : List UInt8) : betw (op ++ m ++ [39]) op = some m := by
  unfold betw
  have e : (op ++ m ++ [39]).drop op.length = m ++ [39] := by rw [List.append_assoc, List.drop_left]
  rw [e, if_pos ⟨by unfold Lib.hasPrefix; rw [List.isPrefixOf_iff_prefix, List.append_assoc]; exact List.prefix_append _ _, by unfold Lib.hasSuffix; rw [List.isSuffixOf_iff_suffix]; exact List.suffix_append _ _⟩]
  simp
theorem hexv_hexd (d : Nat) (h : d < 16) : hexv (hexd d) = some d := by
  have : ∀ d : Fin 16, hexv (hexd d.val) = some d.val := by decide
  exact this ⟨d, h⟩
theorem unhex_hexL : ∀ l : List UInt8, unhex (hexL l) = some l
  | [] => rfl
  | c :: l => by
    have hc := c.toNat_lt
    show unhex (hexd (c.toNat / 16) :: hexd (c.toNat % 16) :: hexL l) = _
    unfold unhex
    have e : hexN [hexd (c.toNat / 16), hexd (c.toNat % 16)] = some c.toNat := by
      unfold hexN
      dsimp only
      rw [hexv_hexd _ (by omega), hexv_hexd _ (Nat.mod_lt _ (by omega))]
      simp only
      congr 1; omega
    rw [e, unhex_hexL l]
    simp
theorem guess_text (l : List UInt8) : guessV (39 :: (dbl l ++ [39])) = some ⟨4, 0, ⟨l.toArray⟩⟩ := by
  unfold guessV
  rw [if_neg (by simp), if_neg (by simp), if_neg (by simp)]
  have := betw_text [39] (dbl l)
  simp only [List.cons_append, List.nil_append] at this
  rw [this]
  simp only [half_dbl]
theorem guess_bytes (l : List UInt8) : guessV (120 :: 39 :: (hexL l ++ [39])) = some ⟨5, 0, ⟨l.toArray⟩⟩ := by
  unfold guessV
  rw [if_neg (by simp), if_neg (by simp), if_neg (by simp)]
  have b1 : betw (120 :: 39 :: (hexL l ++ [39])) [39] = none := by unfold betw; rw [if_neg (by simp [Lib.hasPrefix, List.isPrefixOf])]
  have b2 := betw_text [120, 39] (hexL l)
  simp only [List.cons_append, List.nil_append] at b2
  rw [b1, b2]
  simp only [unhex_hexL, Option.map_some]
theorem str_app (a b : ByteArray) : (a ++ b).data.toList = a.data.toList ++ b.data.toList := by rw [ByteArray.data_append]; simp
theorem guess_right (x : Val) (hx : x.ok) (hr : rightB x = true) : guessV (textS x).data.toList = some x := by
  have hrn : ¬ rightB x = false := by rw [hr]; decide
  unfold textS
  rw [if_neg hrn]
  obtain ⟨k, n, s⟩ := x
  have hn : i64ok n := hx.2
  have es : (⟨s.data.toList.toArray⟩ : ByteArray) = s := rfl
  rcases right_cases hr with ⟨rfl, rfl, rfl⟩ | ⟨rfl, rfl, rfl⟩ | ⟨rfl, rfl, rfl⟩ | ⟨rfl, rfl⟩ | ⟨rfl, rfl⟩ | ⟨rfl, rfl, _⟩ | ⟨rfl, rfl, _⟩
  · rfl
  · rfl
  · rfl
  · simp only
    rw [if_neg (by omega), if_neg (by omega), if_pos trivial, str_app]
    exact guess_int n hn
  · simp only
    rw [if_neg (by omega), if_neg (by omega), if_neg (by omega), if_pos trivial, str_app, str_app, str_app]
    exact guess_dec n hn
  · simp only
    rw [if_neg (by omega), if_neg (by omega), if_neg (by omega), if_neg (by omega), if_pos trivial, str_app, str_app]
    exact guess_text s.data.toList
  · simp only
    rw [if_neg (by omega), if_neg (by omega), if_neg (by omega), if_neg (by omega), if_neg (by omega), str_app, str_app]
    exact guess_bytes s.data.toList
theorem read_text (x : Val) (hx : x.ok) (hr : rightB x = true) : readV (textS x) = some x := by
  unfold readV
  rw [guess_right x hx hr]
  simp
theorem read_back {s : ByteArray} {x : Val} (h : readV s = some x) : textS x = s ∧ rightB x = true := by
  unfold readV at h
  split at h
  · rename_i y hy
    split at h
    · rename_i ht
      injection h with h
      subst h
      refine ⟨ht, ?_⟩
      cases hr : rightB y
      · exfalso
        have e : textS y = ⟨#[63]⟩ := by unfold textS; rw [if_pos hr]
        rw [e] at ht
        subst ht
        have : guessV ([63] : List UInt8) = none := by rfl
        rw [show (⟨#[63]⟩ : ByteArray).data.toList = [63] from rfl, this] at hy
        cases hy
      · rfl
    · cases h
  · cases h
theorem text_inj {x y : Val} (hx : x.ok) (hy : y.ok) (rx : rightB x = true) (ry : rightB y = true) : textS x = textS y ↔ x = y :=
  ⟨fun h => Option.some.inj ((read_text x hx rx).symm.trans ((congrArg readV h).trans (read_text y hy ry))), fun h => by rw [h]⟩
end Go.Proofs.YtneppncnccangaaGreatDoor

/- A value's text is a token, whose value it is. -/
import Derived.Test.YtokkbipdkakenaaGreatDoorE
import Derived.Test.YtokkbipdkakenaaGreatDoorBO
import Derived.Lib.ParseIntBCases
namespace Go.Proofs.YtokkbipdkakenaaGreatDoor
open Go.RowKit

/-- the number that figures spell, behind a number -/
def dstep (a : Nat) (c : UInt8) : Nat := a * 10 + (c.toNat - 48)
def spell (a : Nat) (l : List UInt8) : Nat := l.foldl dstep a
def figs (l : List UInt8) : Prop := ∀ c ∈ l, 48 ≤ c.toNat ∧ c.toNat ≤ 57
theorem spell_cons (c : UInt8) (l : List UInt8) (a : Nat) : spell a (c :: l) = spell (dstep a c) l := List.foldl_cons ..
theorem spell_app (l m : List UInt8) (a : Nat) : spell a (l ++ m) = spell (spell a l) m := List.foldl_append
theorem spell_nil (a : Nat) : spell a [] = a := List.foldl_nil
theorem spell_le : ∀ (l : List UInt8) (a : Nat), a ≤ spell a l
  | [], a => Nat.le_of_eq (spell_nil a).symm
  | c :: l, a => by
    rw [spell_cons]
    have h2 : a ≤ dstep a c := by unfold dstep; omega
    exact Nat.le_trans h2 (spell_le l (dstep a c))
theorem spell_split : ∀ (l : List UInt8) (a : Nat), spell a l = a * 10 ^ l.length + spell 0 l
  | [], a => by rw [spell_nil, spell_nil]; simp
  | c :: l, a => by
    rw [spell_cons, spell_cons, spell_split l (dstep a c), spell_split l (dstep 0 c), List.length_cons, Nat.pow_succ]
    unfold dstep
    rw [Nat.zero_mul, Nat.zero_add, Nat.add_mul, Nat.mul_assoc, Nat.mul_comm 10, Nat.add_assoc]
theorem fig_toNat (d : Nat) (h : d < 10) : (UInt8.ofNat (48 + d)).toNat = 48 + d := by simp; omega
theorem dec_spec : ∀ (n u : Nat), u ≤ n → spell 0 (Lib.decDigits u) = u ∧ figs (Lib.decDigits u)
  | n, u, hn => by
    rw [Lib.decDigits]
    by_cases h : u < 10
    · rw [dif_pos h]
      refine ⟨?_, fun c hc => ?_⟩
      · rw [spell_cons, spell_nil]; unfold dstep
        rw [fig_toNat u h]; omega
      · simp only [List.mem_singleton] at hc
        subst hc
        rw [fig_toNat u h]; omega
    · rw [dif_neg h]
      cases n with
      | zero => omega
      | succ n =>
        obtain ⟨h1, h2⟩ := dec_spec n (u / 10) (by omega)
        refine ⟨?_, fun c hc => ?_⟩
        · rw [spell_app, h1, spell_cons, spell_nil]; unfold dstep
          rw [fig_toNat _ (Nat.mod_lt _ (by omega))]; omega
        · rcases List.mem_append.1 hc with hc | hc
          · exact h2 c hc
          · simp only [List.mem_singleton] at hc
            subst hc
            rw [fig_toNat _ (Nat.mod_lt _ (by omega))]; omega
theorem spell_dec (u : Nat) : spell 0 (Lib.decDigits u) = u := (dec_spec u u (Nat.le_refl _)).1
theorem figs_dec (u : Nat) : figs (Lib.decDigits u) := (dec_spec u u (Nat.le_refl _)).2
theorem dec_ne (u : Nat) : Lib.decDigits u ≠ [] := by
  rw [Lib.decDigits]; split <;> simp
theorem parse_figs : ∀ (l : List UInt8) (a : Nat), figs l → spell a l ≤ 18446744073709551615 → Lib.parseUintM 18446744073709551615 a l = .ok (spell a l)
  | [], a, _, _ => by rw [spell_nil]; rfl
  | c :: l, a, hf, hs => by
    have hc := hf c (by simp)
    rw [spell_cons] at hs ⊢
    have hl := Nat.le_trans (spell_le l (dstep a c)) hs
    have hd : dstep a c = a * 10 + (c.toNat - 48) := rfl
    rw [Lib.parseUintM, if_pos hc, if_neg (by omega), if_neg (by omega), ← hd]
    exact parse_figs l _ (fun x hx => hf x (by simp [hx])) hs
theorem parseU (l : List UInt8) (h0 : l ≠ []) (hf : figs l) (hs : spell 0 l ≤ 18446744073709551615) : Lib.parseUintB 64 l = .ok (spell 0 l) := by
  unfold Lib.parseUintB
  rw [if_neg h0]
  exact parse_figs l 0 hf hs
theorem pad_spec (u : Nat) (h : u < 10000) : figs (pad4 u).data.toList ∧ (pad4 u).data.toList.length = 4 ∧ spell 0 (pad4 u).data.toList = u := by
  have hd : (Lib.decDigits u).length ≤ 4 := by rw [Lib.decDigits_length]; exact nd4 u h
  have e : (pad4 u).data.toList = List.replicate (4 - (Lib.decDigits u).length) 48 ++ Lib.decDigits u := rfl
  rw [e]
  refine ⟨fun c hc => ?_, by rw [List.length_append, List.length_replicate]; omega, ?_⟩
  · rcases List.mem_append.1 hc with hc | hc
    · have := List.eq_of_mem_replicate hc; subst this; decide
    · exact figs_dec u c hc
  · rw [spell_app]
    have hz : ∀ k : Nat, spell 0 (List.replicate k 48) = 0 := by
      intro k
      induction k with
      | zero => rfl
      | succ k ih => rw [List.replicate_succ]; exact ih
    rw [hz, spell_dec]
theorem hexv_hexd (d : Nat) (h : d < 16) : hexv (hexd d) = some d := by
  have : ∀ d : Fin 16, hexv (hexd d.val) = some d.val := by decide
  exact this ⟨d, h⟩
theorem parse_pos (n : Int) (hn : i64ok n) (h0 : 0 ≤ n) (l : List UInt8) (hl : l ≠ []) (hf : figs l) (hs : spell 0 l = n.natAbs) : Lib.parseIntB 64 l = .ok n := by
  obtain ⟨h1, h2⟩ := hn
  cases l with
  | nil => exact absurd rfl hl
  | cons c l =>
    have hc := hf c (by simp)
    rw [Lib.parseIntB_plain 64 c l (by omega) (by omega), parseU _ hl hf (by omega), hs]
    unfold Lib.signlessC
    dsimp only
    rw [if_neg (by show ¬ 9223372036854775808 ≤ n.natAbs; omega)]
    show Lib.NumEnd.ok ((n.natAbs : Int)) = .ok n
    congr 1; omega
theorem digit_figs {l : List UInt8} (h : figs l) : ∀ c ∈ l, digitB c = true := fun c hc => by
  have := h c hc
  unfold digitB; simp; omega
theorem sc_app (a b : ByteArray) : (a ++ b).data.toList = a.data.toList ++ b.data.toList := by rw [ByteArray.data_append]; simp
theorem first_digit {c : UInt8} {r : List UInt8} (h : digitB c = true) : firstL (c :: r) = numT (c :: r) := by
  have h2 : 48 ≤ c.toNat ∧ c.toNat ≤ 57 := by unfold digitB at h; simpa using h
  rw [firstL_cons, if_neg (fun hh => by omega), if_neg (by unfold letterB; simp; omega), if_pos h]
theorem numE_full {l ds : List UInt8} {k v : Int} (h : Lib.parseIntB 64 ds = .ok v) : numE l ds k l.length = some ⟨2, l, (k, v, []), 0⟩ := by
  unfold numE
  rw [List.drop_length, if_neg (by simp [headIs, runL_nil]), h]
  simp
theorem first_int (n : Int) (hn : i64ok n) (h0 : 0 ≤ n) : firstL (Lib.decDigits n.natAbs) = some ⟨2, Lib.decDigits n.natAbs, (2, n, []), 0⟩ := by
  have hne := dec_ne n.natAbs
  have hf := figs_dec n.natAbs
  have hp := parse_pos n hn h0 _ hne hf (spell_dec _)
  have hd := digit_figs hf
  obtain ⟨l, hl⟩ : ∃ l, l = Lib.decDigits n.natAbs := ⟨_, rfl⟩
  rw [← hl] at hne hp hd ⊢
  have hr : runL digitB l = l.length := runL_full _ _ hd
  have e : firstL l = numT l := by
    cases l with
    | nil => exact absurd rfl hne
    | cons c r => exact first_digit (hd c (by simp))
  rw [e]
  unfold numT
  simp only
  rw [hr, List.drop_length, if_neg (by simp [headIs]), List.take_length]
  exact numE_full hp
theorem first_dec (n : Int) (hn : i64ok n) (h0 : 0 ≤ n) : firstL (Lib.decDigits (n.natAbs / 10000) ++ 46 :: (pad4 (n.natAbs % 10000)).data.toList) = some ⟨2, Lib.decDigits (n.natAbs / 10000) ++ 46 :: (pad4 (n.natAbs % 10000)).data.toList, (3, n, []), 0⟩ := by
  have hne := dec_ne (n.natAbs / 10000)
  have hf := figs_dec (n.natAbs / 10000)
  obtain ⟨p1, p2, p3⟩ := pad_spec (n.natAbs % 10000) (Nat.mod_lt _ (by omega))
  have hsp := spell_dec (n.natAbs / 10000)
  obtain ⟨D, hD⟩ : ∃ D, D = Lib.decDigits (n.natAbs / 10000) := ⟨_, rfl⟩
  obtain ⟨P, hP⟩ : ∃ P, P = (pad4 (n.natAbs % 10000)).data.toList := ⟨_, rfl⟩
  rw [← hD] at hne hf hsp ⊢
  rw [← hP] at p1 p2 p3 ⊢
  have hp := parse_pos n hn h0 (D ++ P) (by simp [hne]) (fun c hc => by rcases List.mem_append.1 hc with hc | hc; exact hf c hc; exact p1 c hc) (by rw [spell_app, hsp, spell_split, p2, p3]; omega)
  have hr : runL digitB (D ++ 46 :: P) = D.length := by rw [runL_app digitB _ _ 46 rfl, runL_full _ _ (digit_figs hf)]
  have hr4 : runL digitB P = 4 := by rw [runL_full _ _ (digit_figs p1), p2]
  have e : firstL (D ++ 46 :: P) = numT (D ++ 46 :: P) := by
    cases D with
    | nil => exact absurd rfl hne
    | cons c r => exact first_digit (digit_figs hf c (by simp))
  have d1 : (D ++ 46 :: P).drop D.length = 46 :: P := by simp
  have d2 : (D ++ 46 :: P).drop (D.length + 1) = P := by rw [← List.drop_drop, d1]; rfl
  have t1 : (D ++ 46 :: P).take D.length = D := by simp
  have hlen : (D ++ 46 :: P).length = D.length + (1 + 4) := by simp [p2]
  rw [e]
  unfold numT
  simp only
  rw [hr, d1, d2, hr4, t1, if_pos (by rfl), if_neg (by omega), List.take_of_length_le (by omega), show (4 : Nat) - 4 = 0 from rfl, List.replicate_zero, List.append_nil, ← hlen]
  exact numE_full hp
theorem quot_dbl : ∀ s : List UInt8, quotL (dbl s ++ [39]) = some (s, (dbl s).length + 1)
  | [] => by unfold dbl quotL; rfl
  | c :: s => by
    unfold dbl
    by_cases h : c = 39
    · rw [if_pos h]
      subst h
      show quotL (39 :: 39 :: (dbl s ++ [39])) = _
      rw [quotL_two _ _ _ rfl rfl, quot_dbl s]
      simp
    · rw [if_neg h]
      show quotL (c :: (dbl s ++ [39])) = _
      rw [quotL_other _ _ (fun e => h (UInt8.toNat_inj.1 e)), quot_dbl s]
      simp
theorem first_text4 (s : List UInt8) (hs : s.length ≤ 200) : firstL (39 :: (dbl s ++ [39])) = some ⟨3, 39 :: (dbl s ++ [39]), (4, 0, s), 0⟩ := by
  rw [firstL_cons, if_neg (by simp), if_neg (by decide), if_neg (by decide), if_pos (by rfl)]
  unfold textT
  rw [List.drop_succ_cons, List.drop_zero, quot_dbl]
  simp only
  rw [if_pos hs, List.take_of_length_le (by simp)]
theorem hexd_39 (d : Nat) (h : d < 16) : (hexd d).toNat ≠ 39 := by
  have : ∀ d : Fin 16, (hexd d.val).toNat ≠ 39 := by decide
  exact this ⟨d, h⟩
theorem apo_hex : ∀ s : List UInt8, apoL (hexL s ++ [39]) = some (hexL s).length
  | [] => rfl
  | c :: s => by
    have hc := c.toNat_lt
    show apoL (hexd (c.toNat / 16) :: hexd (c.toNat % 16) :: (hexL s ++ [39])) = some ((hexL s).length + 1 + 1)
    have h1 := hexd_39 (c.toNat / 16) (by omega)
    have h2 := hexd_39 (c.toNat % 16) (Nat.mod_lt _ (by omega))
    have e1 : ∀ (d : UInt8) (r : List UInt8), d.toNat ≠ 39 → apoL (d :: r) = (apoL r).map (· + 1) := fun d r hd => by
      conv => lhs; unfold apoL
      rw [if_neg hd]
    rw [e1 _ _ h1, e1 _ _ h2, apo_hex s]
    rfl
theorem unhexL_hexL : ∀ s : List UInt8, unhexL (hexL s) = some s
  | [] => rfl
  | c :: s => by
    have hc := c.toNat_lt
    show unhexL (hexd (c.toNat / 16) :: hexd (c.toNat % 16) :: hexL s) = _
    have e : hexN [hexd (c.toNat / 16), hexd (c.toNat % 16)] = some c.toNat := by
      unfold hexN
      dsimp only
      rw [hexv_hexd _ (by omega), hexv_hexd _ (Nat.mod_lt _ (by omega))]
      simp only
      congr 1; omega
    rw [unhexL_some e, unhexL_hexL s]
    simp
theorem first_bytes5 (s : List UInt8) (hs : s.length ≤ 200) : firstL (120 :: 39 :: (hexL s ++ [39])) = some ⟨4, 120 :: 39 :: (hexL s ++ [39]), (5, 0, s), 0⟩ := by
  have hl := hexL_len s
  rw [firstL_cons, if_pos ⟨.inl rfl, rfl⟩]
  unfold bytesT
  rw [List.drop_succ_cons, List.drop_succ_cons, List.drop_zero, apo_hex]
  simp only
  rw [if_neg (by rw [hl]; omega), List.take_left, unhexL_hexL]
  simp only
  rw [List.take_of_length_le (by simp; omega)]
/-- the text of a right value that is a number not below 0, a text or bytes -/
theorem first_value (x : Val) (hx : x.ok) (hr : rightB x = true) (hk : 2 ≤ x.k) (hn : 0 ≤ x.n) : ∃ kk, firstL (textS x).data.toList = some ⟨kk, (textS x).data.toList, (x.k, x.n, x.s.data.toList), 0⟩ ∧ (textS x).data.toList.length ≤ 500 := by
  have hrn : ¬ rightB x = false := by rw [hr]; decide
  unfold textS
  rw [if_neg hrn]
  obtain ⟨k, n, s⟩ := x
  have hn2 : i64ok n := hx.2
  have hn0 : 0 ≤ n := hn
  have hsg : signL n = [] := by unfold signL; rw [if_neg (by omega)]
  have hu : n.natAbs ≤ 9223372036854775808 := by have := hn2.1; have := hn2.2; omega
  rcases right_cases hr with ⟨rfl, rfl, rfl⟩ | ⟨rfl, rfl, rfl⟩ | ⟨rfl, rfl, rfl⟩ | ⟨rfl, rfl⟩ | ⟨rfl, rfl⟩ | ⟨rfl, rfl, h200⟩ | ⟨rfl, rfl, h200⟩
  · exact absurd hk (by decide)
  · exact absurd hk (by decide)
  · exact absurd hk (by decide)
  · simp only
    rw [if_neg (by omega), if_neg (by omega), if_pos trivial, sc_app, hsg]
    refine ⟨2, first_int n hn2 hn0, ?_⟩
    have := decS_le n.natAbs (by omega)
    have e : (decS n.natAbs).data.toList.length = (decS n.natAbs).size := size_list' _
    show ([] ++ (decS n.natAbs).data.toList).length ≤ 500
    rw [List.nil_append]
    omega
  · simp only
    rw [if_neg (by omega), if_neg (by omega), if_neg (by omega), if_pos trivial, sc_app, sc_app, sc_app, hsg]
    refine ⟨2, first_dec n hn2 hn0, ?_⟩
    have := decS_le (n.natAbs / 10000) (by omega)
    have e : (decS (n.natAbs / 10000)).data.toList.length = (decS (n.natAbs / 10000)).size := size_list' _
    have p2 := (pad_spec (n.natAbs % 10000) (Nat.mod_lt _ (by omega))).2.1
    simp only [List.length_append, p2, e]
    show [].length + _ + ([46].length + 4) ≤ 500
    simp; omega
  · simp only
    rw [if_neg (by omega), if_neg (by omega), if_neg (by omega), if_neg (by omega), if_pos trivial, sc_app, sc_app]
    have h2 : s.data.toList.length ≤ 200 := by rw [size_list']; exact h200
    refine ⟨3, first_text4 _ h2, ?_⟩
    have hd : ∀ l : List UInt8, (dbl l).length ≤ 2 * l.length := by
      intro l
      induction l with
      | nil => simp [dbl]
      | cons c l ih => unfold dbl; split <;> simp <;> omega
    have := hd s.data.toList
    show ([39] ++ dbl s.data.toList ++ [39]).length ≤ 500
    simp; omega
  · simp only
    rw [if_neg (by omega), if_neg (by omega), if_neg (by omega), if_neg (by omega), if_neg (by omega), sc_app, sc_app]
    have h2 : s.data.toList.length ≤ 200 := by rw [size_list']; exact h200
    refine ⟨4, first_bytes5 _ h2, ?_⟩
    have := hexL_len s.data.toList
    show ([120, 39] ++ hexL s.data.toList ++ [39]).length ≤ 500
    simp; omega
theorem Lz.ge {a : Nat} {l : List UInt8} {p : Nat} (h : Lz a l p) : a ≤ p := by
  induction h with
  | here => exact Nat.le_refl _
  | step _ _ _ ih => omega
theorem first_ne {L : List UInt8} {t : Tok} (h : firstL L = some t) : ∃ c r, L = c :: r ∧ blankB c = false := by
  cases L with
  | nil => simp [firstL] at h
  | cons c r => exact ⟨c, r, rfl, firstL_head h⟩
/-- a text that is one token -/
theorem one_token {L : List UInt8} {t : Tok} (h : firstL L = some t) (ht : t.t = L) (hl : L.length ≤ 1000) : LexL L [t.to 0, endT L.length] := by
  obtain ⟨c, r, hc, hb⟩ := first_ne h
  have h0 : runL blankB L = 0 := by rw [hc, runL_cons, if_neg (by rw [hb]; simp)]
  refine ⟨hl, ?_⟩
  rw [h0, List.drop_zero]
  refine .step (by rw [hc]; simp) h ?_
  rw [ht, List.drop_length]
  exact (Lx.fin L.length).cast (by rw [runL_nil]; omega)
theorem one_more {L M : List UInt8} {t : Tok} (h : firstL L = some t) (ht : t.t = L) : (∀ ts, LexL (L ++ 32 :: M) ts → ∃ us, ts = t.to 0 :: us ∧ us ≠ []) ∧ (∀ p, (L ++ 32 :: M).length ≤ 1000 → LexZ (L ++ 32 :: M) p → L.length < p) := by
  obtain ⟨c, r, hc, hb⟩ := first_ne h
  have h0 : runL blankB (L ++ 32 :: M) = 0 := by rw [hc, List.cons_append, runL_cons, if_neg (by rw [hb]; simp)]
  have hf := firstL_app h M
  refine ⟨fun ts hts => ?_, fun p hlen hz => ?_⟩
  · have h2 := hts.2
    rw [h0, List.drop_zero] at h2
    generalize hX : L ++ 32 :: M = X at h2 hf
    cases h2 with
    | fin => simp at hX
    | step hl h3 hr =>
      rw [hf] at h3
      injection h3 with h3
      subst h3
      exact ⟨_, rfl, hr.ne⟩
  · rcases hz with ⟨h1, _⟩ | ⟨_, h2⟩
    · omega
    · rw [h0, List.drop_zero] at h2
      generalize hX : L ++ 32 :: M = X at h2 hf
      cases h2 with
      | here hl h3 => rw [hf] at h3; cases h3
      | step hl h3 hr =>
        rw [hf] at h3
        injection h3 with h3
        subst h3
        have h4 := hr.ge
        rw [← hX, ht] at h4
        have e : (L ++ 32 :: M).drop L.length = 32 :: M := by simp
        rw [e, runL_cons, if_pos (show blankB 32 = true from rfl)] at h4
        omega
end Go.Proofs.YtokkbipdkakenaaGreatDoor

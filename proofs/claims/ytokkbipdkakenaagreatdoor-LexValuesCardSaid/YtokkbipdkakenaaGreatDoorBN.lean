/- Tokens: a token stays one with a blank behind it; texts joined. -/
import Derived.Test.YtokkbipdkakenaaGreatDoorBL
namespace Go.Proofs.YtokkbipdkakenaaGreatDoor
open Go.RowKit

theorem runL_app (p : UInt8 → Bool) (l b : List UInt8) (z : UInt8) (hz : p z = false) : runL p (l ++ z :: b) = runL p l := by
  induction l with
  | nil => rw [List.nil_append, runL_cons, hz]; rfl
  | cons c l ih => rw [List.cons_append, runL_cons, runL_cons, ih]
theorem runL_take (p : UInt8 → Bool) (l : List UInt8) (e : Nat) : runL p (l.take e) = min (runL p l) e := by
  induction l generalizing e with
  | nil => simp [runL_nil]
  | cons c l ih =>
    cases e with
    | zero => simp [runL_nil]
    | succ e =>
      rw [List.take_succ_cons, runL_cons, runL_cons, ih]
      split <;> omega
theorem headIs_app (c : Nat) (l b : List UInt8) (z : UInt8) (hz : z.toNat ≠ c) : headIs c (l ++ z :: b) = headIs c l := by
  cases l with
  | nil => simp [headIs, hz]
  | cons d l => rfl
theorem headIs_take (c : Nat) (l : List UInt8) (n : Nat) (h : 0 < n) : headIs c (l.take n) = headIs c l := by
  cases l with
  | nil => simp
  | cons d l => cases n with
    | zero => omega
    | succ n => rfl
theorem drop_app (l X : List UInt8) (n : Nat) (h : n ≤ l.length) : (l ++ X).drop n = l.drop n ++ X := List.drop_append_of_le_length h
theorem take_app (l X : List UInt8) (n : Nat) (h : n ≤ l.length) : (l ++ X).take n = l.take n := List.take_append_of_le_length h
theorem quotL_app (b : List UInt8) : ∀ (n : Nat) (l : List UInt8), l.length ≤ n → ∀ x, quotL l = some x → quotL (l ++ 32 :: b) = some x ∧ quotL (l.take x.2) = some x := by
  intro n
  induction n with
  | zero =>
    intro l hl x h
    have : l = [] := List.length_eq_zero_iff.1 (by omega)
    subst this; simp [quotL] at h
  | succ n ih =>
    intro l hl x h
    match l, hl with
    | [], _ => simp [quotL] at h
    | [c], _ =>
      by_cases hc : c.toNat = 39
      · have e : x = ([], 1) := by unfold quotL at h; rw [if_pos hc] at h; exact (Option.some.inj h).symm
        subst e
        refine ⟨?_, by simpa using h⟩
        show quotL (c :: 32 :: b) = _
        unfold quotL
        rw [if_pos hc]
        rfl
      · rw [quotL_other _ _ hc] at h; simp [quotL] at h
    | c :: d :: r, hl =>
      have hl' : r.length + 2 ≤ n + 1 := by simpa using hl
      by_cases hc : c.toNat = 39
      · by_cases hd : d.toNat = 39
        · rw [quotL_two _ _ _ hc hd] at h
          obtain ⟨y, hy, rfl⟩ := Option.map_eq_some_iff.1 h
          obtain ⟨h1, h2⟩ := ih r (by omega) y hy
          refine ⟨?_, ?_⟩
          · show quotL (c :: d :: (r ++ 32 :: b)) = _
            rw [quotL_two _ _ _ hc hd, h1]; rfl
          · show quotL (c :: d :: r.take y.2) = _
            rw [quotL_two _ _ _ hc hd, h2]; rfl
        · have e : x = ([], 1) := by unfold quotL at h; rw [if_pos hc] at h; simp only at h; rw [if_neg hd] at h; exact (Option.some.inj h).symm
          subst e
          refine ⟨?_, ?_⟩
          · show quotL (c :: d :: (r ++ 32 :: b)) = _
            unfold quotL
            rw [if_pos hc]
            simp only
            rw [if_neg hd]
          · show quotL [c] = _
            unfold quotL
            rw [if_pos hc]
      · rw [quotL_other _ _ hc] at h
        obtain ⟨y, hy, rfl⟩ := Option.map_eq_some_iff.1 h
        obtain ⟨h1, h2⟩ := ih (d :: r) (by simp; omega) y hy
        refine ⟨?_, ?_⟩
        · show quotL (c :: ((d :: r) ++ 32 :: b)) = _
          rw [quotL_other _ _ hc, h1]; rfl
        · show quotL (c :: (d :: r).take y.2) = _
          rw [quotL_other _ _ hc, h2]; rfl
theorem apoL_app (X : List UInt8) : ∀ (l : List UInt8) (z : Nat), apoL l = some z → apoL (l ++ X) = some z ∧ apoL (l.take (z + 1)) = some z
  | [], z, h => by simp [apoL] at h
  | c :: r, z, h => by
    by_cases hc : c.toNat = 39
    · have e : z = 0 := by unfold apoL at h; rw [if_pos hc] at h; exact (Option.some.inj h).symm
      subst e
      refine ⟨?_, ?_⟩
      · show apoL (c :: (r ++ X)) = _
        unfold apoL; rw [if_pos hc]
      · show apoL [c] = _
        unfold apoL; rw [if_pos hc]
    · have h' : (apoL r).map (· + 1) = some z := by unfold apoL at h; rwa [if_neg hc] at h
      obtain ⟨y, hy, rfl⟩ := Option.map_eq_some_iff.1 h'
      obtain ⟨h1, h2⟩ := apoL_app X r y hy
      refine ⟨?_, ?_⟩
      · show apoL (c :: (r ++ X)) = _
        unfold apoL; rw [if_neg hc, h1]; rfl
      · show apoL (c :: r.take (y + 1)) = _
        unfold apoL; rw [if_neg hc, h2]; rfl
theorem wordT_app (l b : List UInt8) : wordT (l ++ 32 :: b) = wordT l := by
  unfold wordT
  rw [runL_app wordB l b 32 rfl, take_app _ _ _ (runL_le _ _)]
theorem numE_app (l b ds : List UInt8) (k : Int) (e : Nat) (he : e ≤ l.length) : numE (l ++ 32 :: b) ds k e = numE l ds k e := by
  unfold numE
  rw [drop_app _ _ _ he, take_app _ _ _ he, headIs_app 46 _ _ 32 (by decide), runL_app wordB _ b 32 rfl]
theorem numT_app (l b : List UInt8) : numT (l ++ 32 :: b) = numT l := by
  have hn := runL_le digitB l
  unfold numT
  simp only
  rw [runL_app digitB l b 32 rfl, drop_app _ _ _ hn, headIs_app 46 _ _ 32 (by decide), take_app _ _ _ hn]
  by_cases h : headIs 46 (l.drop (runL digitB l)) = true
  · rw [if_pos h, if_pos h]
    have h1 := headIs_drop _ _ _ h
    have hf := runL_le digitB (l.drop (runL digitB l + 1))
    rw [List.length_drop] at hf
    rw [drop_app _ _ _ (by omega), runL_app digitB _ b 32 rfl, take_app _ _ _ (by rw [List.length_drop]; exact hf), numE_app _ _ _ _ _ (by omega)]
  · rw [if_neg h, if_neg h, numE_app _ _ _ _ _ hn]
theorem textT_app {l : List UInt8} {t : Tok} (h : textT l = some t) (hl : 1 ≤ l.length) (b : List UInt8) : textT (l ++ 32 :: b) = some t := by
  unfold textT at h ⊢
  rw [drop_app _ _ _ hl]
  cases hx : quotL (l.drop 1) with
  | none => rw [hx] at h; cases h
  | some x =>
    rw [hx] at h
    rw [(quotL_app b _ _ (Nat.le_refl _) x hx).1]
    have hle := (quotL_len _ _ (Nat.le_refl _) x hx).2
    rw [List.length_drop] at hle
    simp only at h ⊢
    rw [take_app _ _ _ (by omega)]
    exact h
theorem bytesT_app {l : List UInt8} {t : Tok} (h : bytesT l = some t) (hl : 2 ≤ l.length) (b : List UInt8) : bytesT (l ++ 32 :: b) = some t := by
  unfold bytesT at h ⊢
  rw [drop_app _ _ _ hl]
  cases hx : apoL (l.drop 2) with
  | none => rw [hx] at h; cases h
  | some z =>
    rw [hx] at h
    rw [(apoL_app (32 :: b) _ z hx).1]
    have hle := apoL_len _ z hx
    have hle2 := hle
    rw [List.length_drop] at hle2
    simp only at h ⊢
    rw [take_app _ _ _ (by omega), take_app _ _ _ (by omega)]
    exact h
theorem signN_app (c : Nat) (r b : List UInt8) : signN c (r ++ 32 :: b) = signN c r := by
  unfold signN
  rw [headIs_app 61 _ _ 32 (by decide), headIs_app 62 _ _ 32 (by decide)]
theorem signN_le (c : Nat) (r : List UInt8) : signN c r ≤ 1 + r.length := by
  unfold signN
  cases r with
  | nil => simp [headIs]; repeat' split
           all_goals omega
  | cons d r => repeat' split
                all_goals (simp; try omega)
theorem signT_app (c : UInt8) (r b : List UInt8) : signT ((c :: r) ++ 32 :: b) = signT (c :: r) := by
  show signT (c :: (r ++ 32 :: b)) = _
  unfold signT
  simp only
  rw [signN_app]
  have h := signN_le c.toNat r
  have e : (c :: (r ++ 32 :: b)).take (signN c.toNat r) = (c :: r).take (signN c.toNat r) := take_app (c :: r) (32 :: b) _ (by simp; omega)
  rw [e]
theorem firstL_cons (c : UInt8) (r : List UInt8) : firstL (c :: r) = (if (c.toNat = 120 ∨ c.toNat = 88) ∧ headIs 39 r = true then bytesT (c :: r) else if letterB c = true then some (wordT (c :: r)) else if digitB c = true then numT (c :: r) else if c.toNat = 39 then textT (c :: r) else signT (c :: r)) := rfl
/-- a token stays what it is with a blank behind the text -/
theorem firstL_app {l : List UInt8} {t : Tok} (h : firstL l = some t) (b : List UInt8) : firstL (l ++ 32 :: b) = some t := by
  cases l with
  | nil => simp [firstL] at h
  | cons c r =>
    show firstL (c :: (r ++ 32 :: b)) = _
    rw [firstL_cons] at h ⊢
    rw [headIs_app 39 _ _ 32 (by decide)]
    by_cases hx : (c.toNat = 120 ∨ c.toNat = 88) ∧ headIs 39 r = true
    · rw [if_pos hx] at h ⊢
      have hr : 1 ≤ r.length := by
        cases r with
        | nil => simp [headIs] at hx
        | cons d r => simp
      exact bytesT_app (l := c :: r) h (by simp; omega) b
    · rw [if_neg hx] at h ⊢
      by_cases hl : letterB c = true
      · rw [if_pos hl] at h ⊢
        rw [← h]
        exact congrArg some (wordT_app (c :: r) b)
      · rw [if_neg hl] at h ⊢
        by_cases hd : digitB c = true
        · rw [if_pos hd] at h ⊢
          rw [← h]
          exact numT_app (c :: r) b
        · rw [if_neg hd] at h ⊢
          by_cases h39 : c.toNat = 39
          · rw [if_pos h39] at h ⊢
            exact textT_app (l := c :: r) h (by simp) b
          · rw [if_neg h39] at h ⊢
            rw [← h]
            exact signT_app c r b
theorem numE_take {l ds : List UInt8} {k : Int} {e : Nat} {t : Tok} (h : numE l ds k e = some t) (he : e ≤ l.length) : numE (l.take e) ds k e = some t := by
  unfold numE at h ⊢
  have h1 : (l.take e).drop e = [] := List.drop_eq_nil_of_le (by simp; omega)
  rw [h1]
  split at h
  · cases h
  · rw [if_neg (by simp [headIs, runL_nil]), List.take_take, Nat.min_self]
    exact h
theorem numT_take {l : List UInt8} {t : Tok} (h : numT l = some t) : numT (l.take t.t.length) = some t := by
  have hn := runL_le digitB l
  unfold numT at h ⊢
  simp only at h ⊢
  by_cases hp : headIs 46 (l.drop (runL digitB l)) = true
  · rw [if_pos hp] at h
    have h1 := headIs_drop _ _ _ hp
    have hf := runL_le digitB (l.drop (runL digitB l + 1))
    rw [List.length_drop] at hf
    split at h
    · cases h
    · rename_i hbad
      have hlen := numE_len h (by omega)
      have h2 := numE_take h (by omega)
      rw [hlen]
      have e1 : runL digitB (l.take (runL digitB l + (1 + runL digitB (l.drop (runL digitB l + 1))))) = runL digitB l := by rw [runL_take]; omega
      rw [e1, List.drop_take, headIs_take 46 _ _ (by omega), if_pos hp]
      have e2 : (l.take (runL digitB l + (1 + runL digitB (l.drop (runL digitB l + 1))))).drop (runL digitB l + 1) = (l.drop (runL digitB l + 1)).take (runL digitB (l.drop (runL digitB l + 1))) := by
        rw [List.drop_take]; congr 1; omega
      rw [e2, runL_take, Nat.min_self, if_neg hbad, List.take_take, Nat.min_eq_left (by omega), List.take_take, Nat.min_self]
      exact h2
  · rw [if_neg hp] at h
    have hlen := numE_len h hn
    have h2 := numE_take h hn
    rw [hlen]
    have e1 : runL digitB (l.take (runL digitB l)) = runL digitB l := by rw [runL_take, Nat.min_self]
    have h1 : (l.take (runL digitB l)).drop (runL digitB l) = [] := List.drop_eq_nil_of_le (by simp; omega)
    rw [e1, h1, if_neg (by simp [headIs]), List.take_take, Nat.min_self]
    exact h2
theorem textT_take {l : List UInt8} {t : Tok} (h : textT l = some t) (hl : 1 ≤ l.length) : textT (l.take t.t.length) = some t := by
  unfold textT at h
  cases hx : quotL (l.drop 1) with
  | none => rw [hx] at h; cases h
  | some x =>
    rw [hx] at h
    simp only at h
    have hle := (quotL_len _ _ (Nat.le_refl _) x hx).2
    rw [List.length_drop] at hle
    split at h
    · rename_i h200
      injection h with h
      subst h
      have e : (l.take (x.2 + 1)).length = x.2 + 1 := by simp; omega
      simp only [e]
      unfold textT
      have e2 : (l.take (x.2 + 1)).drop 1 = (l.drop 1).take x.2 := by rw [List.drop_take]; congr 1
      rw [e2, (quotL_app [] _ _ (Nat.le_refl _) x hx).2]
      simp only
      rw [if_pos h200, List.take_take, Nat.min_self]
    · cases h
theorem bytesT_take {l : List UInt8} {t : Tok} (h : bytesT l = some t) (hl : 2 ≤ l.length) : bytesT (l.take t.t.length) = some t ∧ 2 < t.t.length := by
  unfold bytesT at h
  cases hx : apoL (l.drop 2) with
  | none => rw [hx] at h; cases h
  | some z =>
    rw [hx] at h
    simp only at h
    have hle := apoL_len _ z hx
    rw [List.length_drop] at hle
    split at h
    · cases h
    · rename_i hz
      cases hu : unhexL ((l.drop 2).take z) with
      | none => rw [hu] at h; cases h
      | some b =>
        rw [hu] at h
        simp only at h
        injection h with h
        subst h
        have e : (l.take (2 + z + 1)).length = 2 + z + 1 := by simp; omega
        simp only [e]
        refine ⟨?_, by omega⟩
        unfold bytesT
        have e2 : (l.take (2 + z + 1)).drop 2 = (l.drop 2).take (z + 1) := by rw [List.drop_take]; congr 1; omega
        rw [e2, (apoL_app [] _ z hx).2]
        simp only
        rw [if_neg hz, List.take_take, Nat.min_eq_left (by omega), hu, List.take_take, Nat.min_self]
theorem signT_take {c : UInt8} {r : List UInt8} {t : Tok} (h : signT (c :: r) = some t) : signT ((c :: r).take t.t.length) = some t := by
  have hs := signN_le c.toNat r
  unfold signT at h
  simp only at h
  split at h
  · cases h
  · rename_i hn
    injection h with h
    subst h
    obtain ⟨n, hnn⟩ : ∃ n, signN c.toNat r = n + 1 := ⟨signN c.toNat r - 1, by omega⟩
    have e : ((c :: r).take (signN c.toNat r)).length = signN c.toNat r := by simp; omega
    simp only [e]
    have e3 : signN c.toNat (r.take n) = n + 1 := by
      cases n with
      | zero =>
        show signN c.toNat [] = 1
        unfold signN at hn ⊢
        by_cases h60 : c.toNat = 60
        · rw [if_pos h60]; rfl
        · by_cases h62 : c.toNat = 62
          · rw [if_neg h60, if_pos h62]; rfl
          · rw [if_neg h60, if_neg h62] at hn ⊢
            by_cases hm : c.toNat ∈ signC
            · rw [if_pos hm]
            · rw [if_neg hm] at hn; exact absurd rfl hn
      | succ n =>
        rw [← hnn]
        unfold signN
        rw [headIs_take 61 _ _ (by omega), headIs_take 62 _ _ (by omega)]
    rw [hnn]
    show signT (c :: r.take n) = _
    unfold signT
    simp only
    rw [e3, if_neg (by omega)]
    simp [List.take_take]
theorem firstL_take {l : List UInt8} {t : Tok} (h : firstL l = some t) (hk : t.k ≠ 1) : firstL (l.take t.t.length) = some t ∧ t.t = l.take t.t.length := by
  have hlen := firstL_len h
  obtain ⟨_, htx⟩ := first_text h
  have htt : t.t = l.take t.t.length := by
    apply List.ext_getElem?
    intro i
    rw [List.getElem?_take]
    split
    · rename_i hi
      have hd : t.t[i]? = some (t.t[i]'hi) := List.getElem?_eq_getElem hi
      have hc : l[i]? = some (l[i]'(by omega)) := List.getElem?_eq_getElem (by omega)
      have := htx i _ _ hd hc
      rw [if_neg hk] at this
      rw [hd, hc, this]
    · rename_i hi
      exact List.getElem?_eq_none (by omega)
  refine ⟨?_, htt⟩
  clear htt htx
  cases l with
  | nil => simp [firstL] at h
  | cons c r =>
    obtain ⟨n, hn⟩ : ∃ n, t.t.length = n + 1 := ⟨t.t.length - 1, by omega⟩
    have e : (c :: r).take t.t.length = c :: r.take n := by rw [hn]; rfl
    rw [e, firstL_cons, ← e]
    rw [firstL_cons] at h
    by_cases hx : (c.toNat = 120 ∨ c.toNat = 88) ∧ headIs 39 r = true
    · rw [if_pos hx] at h
      have hr : 1 ≤ r.length := by
        cases r with
        | nil => simp [headIs] at hx
        | cons d r => simp
      obtain ⟨h1, h2⟩ := bytesT_take h (by simp; omega)
      rw [headIs_take 39 _ _ (by omega), if_pos hx]
      exact h1
    · rw [if_neg hx] at h
      by_cases hl : letterB c = true
      · rw [if_pos hl] at h
        injection h with h
        subst h
        exact absurd rfl hk
      · rw [if_neg hl] at h
        rw [if_neg (fun hh => hl (letter_x _ hh.1)), if_neg hl]
        by_cases hd : digitB c = true
        · rw [if_pos hd] at h ⊢
          exact numT_take h
        · rw [if_neg hd] at h ⊢
          by_cases h39 : c.toNat = 39
          · rw [if_pos h39] at h ⊢
            exact textT_take h (by simp)
          · rw [if_neg h39] at h ⊢
            exact signT_take h
theorem lower_word (c : UInt8) : wordB (Lib.lowerB c) = wordB c ∧ letterB (Lib.lowerB c) = letterB c ∧ Lib.lowerB (Lib.lowerB c) = Lib.lowerB c := by
  have h : ∀ c : Fin 256, wordB (Lib.lowerB (UInt8.ofNat c.val)) = wordB (UInt8.ofNat c.val) ∧ letterB (Lib.lowerB (UInt8.ofNat c.val)) = letterB (UInt8.ofNat c.val) ∧ Lib.lowerB (Lib.lowerB (UInt8.ofNat c.val)) = Lib.lowerB (UInt8.ofNat c.val) := by decide +kernel
  have := h ⟨c.toNat, c.toNat_lt⟩
  simpa only [UInt8.ofNat_toNat] using this
theorem runL_full (p : UInt8 → Bool) (l : List UInt8) (h : ∀ c ∈ l, p c = true) : runL p l = l.length := by
  induction l with
  | nil => rfl
  | cons c l ih =>
    rw [runL_cons, if_pos (h c (by simp)), ih (fun d hd => h d (by simp [hd]))]
    rfl
/-- a word, in small letters, with a blank behind it -/
theorem word_again {c : UInt8} {r : List UInt8} (hl : letterB c = true) (b : List UInt8) : firstL ((wordT (c :: r)).t ++ 32 :: b) = some (wordT (c :: r)) := by
  obtain ⟨W, hW⟩ : ∃ W, W = (wordT (c :: r)).t := ⟨_, rfl⟩
  have hWm : W = ((c :: r).takeWhile wordB).map Lib.lowerB := by rw [hW]; unfold wordT; simp only [run_take]
  have hall : ∀ d ∈ W, wordB d = true := by
    intro d hd
    rw [hWm, List.mem_map] at hd
    obtain ⟨x, hx, rfl⟩ := hd
    rw [(lower_word x).1]
    exact all_takeWhile _ _ x hx
  have hc : wordB c = true := by unfold wordB; simp [hl]
  obtain ⟨V, hV⟩ : ∃ V, W = Lib.lowerB c :: V := ⟨(r.takeWhile wordB).map Lib.lowerB, by rw [hWm, List.takeWhile_cons, if_pos hc]; rfl⟩
  have hrun : runL wordB (W ++ 32 :: b) = W.length := by rw [runL_app wordB _ _ 32 rfl, runL_full _ _ hall]
  have hlow : W.map Lib.lowerB = W := by
    rw [hWm, List.map_map]
    exact List.map_congr_left fun x _ => (lower_word x).2.2
  have hwT : wordT (W ++ 32 :: b) = wordT (c :: r) := by
    have h1 : (W ++ 32 :: b).take W.length = W := by simp
    unfold wordT
    rw [hrun, h1, hlow]
    unfold wordT at hW
    rw [hW]
  rw [← hW]
  rw [hV] at hwT hall ⊢
  show firstL (Lib.lowerB c :: (V ++ 32 :: b)) = _
  rw [firstL_cons]
  have hq : headIs 39 (V ++ 32 :: b) = false := by
    rw [headIs_app 39 _ _ 32 (by decide)]
    cases V with
    | nil => rfl
    | cons d V =>
      have hd := hall d (by simp)
      unfold headIs
      have : d.toNat ≠ 39 := by
        intro e
        unfold wordB letterB digitB at hd
        rw [e] at hd
        simp at hd
      simpa using this
  rw [if_neg (by rw [hq]; simp), if_pos (by rw [(lower_word c).2.1]; exact hl)]
  exact congrArg some hwT
/-- a token's text, with a blank behind it, is this token -/
theorem firstL_again {l : List UInt8} {t : Tok} (h : firstL l = some t) (b : List UInt8) : firstL (t.t ++ 32 :: b) = some t := by
  by_cases hk : t.k = 1
  · cases l with
    | nil => simp [firstL] at h
    | cons c r =>
      have h0 := h
      rw [firstL_cons] at h
      have hw : letterB c = true ∧ t = wordT (c :: r) := by
        by_cases hx : (c.toNat = 120 ∨ c.toNat = 88) ∧ headIs 39 r = true
        · rw [if_pos hx] at h
          unfold bytesT at h
          split at h
          · split at h
            · cases h
            · split at h
              · injection h with h; subst h; simp at hk
              · cases h
          · cases h
        · rw [if_neg hx] at h
          by_cases hl : letterB c = true
          · rw [if_pos hl] at h
            exact ⟨hl, (Option.some.inj h).symm⟩
          · rw [if_neg hl] at h
            have num : ∀ ds kk e, numE (c :: r) ds kk e = some t → False := by
              intro ds kk e h
              unfold numE at h
              split at h
              · cases h
              · split at h
                · injection h with h; subst h; simp at hk
                · cases h
            by_cases hd : digitB c = true
            · rw [if_pos hd] at h
              unfold numT at h
              simp only at h
              split at h
              · split at h
                · cases h
                · exact (num _ _ _ h).elim
              · exact (num _ _ _ h).elim
            · rw [if_neg hd] at h
              by_cases h39 : c.toNat = 39
              · rw [if_pos h39] at h
                unfold textT at h
                split at h
                · split at h
                  · injection h with h; subst h; simp at hk
                  · cases h
                · cases h
              · rw [if_neg h39] at h
                unfold signT at h
                simp only at h
                split at h
                · cases h
                · injection h with h; subst h; simp at hk
      obtain ⟨hl, rfl⟩ := hw
      exact word_again hl b
  · obtain ⟨h1, h2⟩ := firstL_take h hk
    rw [← h2] at h1
    exact firstL_app h1 b
end Go.Proofs.YtokkbipdkakenaaGreatDoor

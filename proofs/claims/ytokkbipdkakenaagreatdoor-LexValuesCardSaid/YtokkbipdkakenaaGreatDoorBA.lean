/- Tokens, as plain mathematics. -/
import Derived.Test.YtokkbipdkakenaaGreatDoorT
import Derived.Test.YtokkbipdkakenaaGreatDoorFW
import Derived.Lib.ParseIntB
import Derived.Lib.Case
namespace Go.Proofs.YtokkbipdkakenaaGreatDoor
open Go.RowKit

def blankB (c : UInt8) : Bool := c.toNat == 32 || c.toNat == 9 || c.toNat == 10 || c.toNat == 13
def digitB (c : UInt8) : Bool := decide (48 ≤ c.toNat) && decide (c.toNat ≤ 57)
def letterB (c : UInt8) : Bool := (decide (65 ≤ c.toNat) && decide (c.toNat ≤ 90)) || (decide (97 ≤ c.toNat) && decide (c.toNat ≤ 122))
def wordB (c : UInt8) : Bool := letterB c || digitB c || c.toNat == 95
def runL (p : UInt8 → Bool) (l : List UInt8) : Nat := (l.takeWhile p).length
def headIs (c : Nat) (l : List UInt8) : Bool := match l with
  | [] => false
  | b :: _ => b.toNat == c
/-- two figures a byte -/
def unhexL : List UInt8 → Option (List UInt8)
  | a :: b :: t => match hexN [a, b], unhexL t with
    | some n, some l => some (UInt8.ofNat n :: l)
    | _, _ => none
  | _ => some []
/-- A TOKEN: its kind, its text, its value, where it stands. -/
structure Tok where
  k : Int
  t : List UInt8
  x : Int × Int × List UInt8
  a : Nat
def Tok.val (t : Tok) : Val := ⟨t.x.1, t.x.2.1, ⟨t.x.2.2.toArray⟩⟩
def Tok.v (t : Tok) : Value := .agg #[.int .i64 t.k, .string ⟨t.t.toArray⟩, .int .i64 t.x.1, .int .i64 t.x.2.1, .string ⟨t.x.2.2.toArray⟩, .int .i64 (t.a : Int)]
def Tok.to (t : Tok) (a : Nat) : Tok := ⟨t.k, t.t, t.x, a⟩
def noV : Int × Int × List UInt8 := (0, 0, [])
def wordT (l : List UInt8) : Tok := ⟨1, (l.take (runL wordB l)).map Lib.lowerB, noV, 0⟩
/-- a number of e bytes, whose figures are ds -/
def numE (l ds : List UInt8) (k : Int) (e : Nat) : Option Tok :=
  if headIs 46 (l.drop e) || decide (0 < runL wordB (l.drop e)) then none
  else match Lib.parseIntB 64 ds with
    | .ok v => some ⟨2, l.take e, (k, v, []), 0⟩
    | _ => none
def numT (l : List UInt8) : Option Tok :=
  let n := runL digitB l
  if headIs 46 (l.drop n) then
    let f := runL digitB (l.drop (n + 1))
    if f = 0 ∨ 4 < f then none else numE l (l.take n ++ ((l.drop (n + 1)).take f ++ List.replicate (4 - f) 48)) 3 (n + (1 + f))
  else numE l (l.take n) 2 n
/-- behind an apostrophe: the bytes till the one that ends them, how many these are with it -/
def quotL : List UInt8 → Option (List UInt8 × Nat)
  | [] => none
  | c :: r => if c.toNat = 39 then (match r with
      | d :: r' => if d.toNat = 39 then (quotL r').map (fun x => (c :: x.1, x.2 + 2)) else some ([], 1)
      | [] => some ([], 1))
    else (quotL r).map (fun x => (c :: x.1, x.2 + 1))
def textT (l : List UInt8) : Option Tok := match quotL (l.drop 1) with
  | some x => if x.1.length ≤ 200 then some ⟨3, l.take (x.2 + 1), (4, 0, x.1), 0⟩ else none
  | none => none
/-- how many bytes stand ahead of the first apostrophe; none: there is none -/
def apoL : List UInt8 → Option Nat
  | [] => none
  | c :: r => if c.toNat = 39 then some 0 else (apoL r).map (· + 1)
def bytesT (l : List UInt8) : Option Tok := match apoL (l.drop 2) with
  | some z => if z % 2 ≠ 0 ∨ 400 < z then none else match unhexL ((l.drop 2).take z) with
    | some b => some ⟨4, l.take (2 + z + 1), (5, 0, b), 0⟩
    | none => none
  | none => none
def signC : List Nat := [40, 41, 44, 42, 43, 45, 47, 61, 46, 59]
def signN (c : Nat) (r : List UInt8) : Nat :=
  if c = 60 then (if headIs 61 r then 2 else if headIs 62 r then 2 else 1)
  else if c = 62 then (if headIs 61 r then 2 else 1)
  else if c ∈ signC then 1 else 0
def signT (l : List UInt8) : Option Tok := match l with
  | [] => none
  | c :: r => if signN c.toNat r = 0 then none else some ⟨5, l.take (signN c.toNat r), noV, 0⟩
def firstL (l : List UInt8) : Option Tok := match l with
  | [] => none
  | c :: r => if (c.toNat = 120 ∨ c.toNat = 88) ∧ headIs 39 r = true then bytesT l
    else if letterB c = true then some (wordT l)
    else if digitB c = true then numT l
    else if c.toNat = 39 then textT l
    else signT l
def endT (a : Nat) : Tok := ⟨6, [], noV, a⟩
/-- the tokens of a text that begins with no blank, at place a -/
inductive Lx : Nat → List UInt8 → List Tok → Prop
  | fin (a : Nat) : Lx a [] [endT a]
  | step {a : Nat} {l : List UInt8} {t : Tok} {ts : List Tok} (hl : l ≠ []) (h : firstL l = some t) (hr : Lx (a + t.t.length + runL blankB (l.drop t.t.length)) ((l.drop t.t.length).drop (runL blankB (l.drop t.t.length))) ts) : Lx a l (t.to a :: ts)
/-- the tokens of a text -/
def LexL (l : List UInt8) (ts : List Tok) : Prop := l.length ≤ 1000 ∧ Lx (runL blankB l) (l.drop (runL blankB l)) ts

theorem runL_le (p : UInt8 → Bool) (l : List UInt8) : runL p l ≤ l.length := by
  unfold runL; exact (List.takeWhile_prefix p).length_le
theorem runL_cons (p : UInt8 → Bool) (c : UInt8) (l : List UInt8) : runL p (c :: l) = if p c = true then runL p l + 1 else 0 := by
  unfold runL
  rw [List.takeWhile_cons]
  split <;> simp
theorem runL_nil (p : UInt8 → Bool) : runL p [] = 0 := rfl
theorem run_take (p : UInt8 → Bool) (l : List UInt8) : l.take (runL p l) = l.takeWhile p := by
  induction l with
  | nil => rfl
  | cons c l ih =>
    rw [runL_cons, List.takeWhile_cons]
    split
    · simp [ih]
    · simp
/-- a step of the count -/
theorem runL_at (p : UInt8 → Bool) (l : List UInt8) (i : Nat) (c : UInt8) (hc : l[i]? = some c) (hi : i ≤ runL p l) : (p c = true → i + 1 ≤ runL p l) ∧ (p c = false → runL p l = i) := by
  induction l generalizing i with
  | nil => simp at hc
  | cons d l ih =>
    rw [runL_cons] at hi ⊢
    cases i with
    | zero => simp at hc; subst hc; refine ⟨fun h => ?_, fun h => ?_⟩ <;> simp [h]
    | succ i =>
      have hd : p d = true := by
        by_cases h : p d = true
        · exact h
        · rw [if_neg h] at hi; omega
      rw [if_pos hd] at hi ⊢
      have := ih i (by simpa using hc) (by omega)
      exact ⟨fun h => by have := this.1 h; omega, fun h => by have := this.2 h; omega⟩
theorem quotL_len : ∀ (n : Nat) (l : List UInt8), l.length ≤ n → ∀ x, quotL l = some x → x.1.length < x.2 ∧ x.2 ≤ l.length := by
  intro n
  induction n with
  | zero =>
    intro l hl x h
    have : l = [] := List.length_eq_zero_iff.1 (by omega)
    subst this; simp [quotL] at h
  | succ n ih =>
    intro l hl x h
    match l, hl with
    | [], _ => simp [quotL] at h
    | [c], _ =>
      unfold quotL at h
      split at h
      · injection h with h; subst h; simp
      · simp [quotL] at h
    | c :: d :: r, hl =>
      have hl' : r.length + 2 ≤ n + 1 := by simpa using hl
      unfold quotL at h
      split at h
      · simp only at h
        split at h
        · obtain ⟨y, hy, rfl⟩ := Option.map_eq_some_iff.1 h
          have := ih r (by omega) y hy
          simp only [List.length_cons]; omega
        · injection h with h; subst h; simp
      · obtain ⟨y, hy, rfl⟩ := Option.map_eq_some_iff.1 h
        have := ih (d :: r) (by simp; omega) y hy
        simp only [List.length_cons] at this ⊢; omega
theorem apoL_len : ∀ (l : List UInt8) (z : Nat), apoL l = some z → z < l.length
  | [], z, h => by simp [apoL] at h
  | c :: r, z, h => by
    unfold apoL at h
    split at h
    · injection h with h; subst h; simp
    · obtain ⟨y, hy, rfl⟩ := Option.map_eq_some_iff.1 h
      have := apoL_len r y hy
      simp only [List.length_cons]; omega
theorem headIs_drop (c : Nat) (l : List UInt8) (n : Nat) (h : headIs c (l.drop n) = true) : n < l.length := by
  by_cases hn : n < l.length
  · exact hn
  · rw [List.drop_eq_nil_of_le (by omega)] at h; simp [headIs] at h
theorem wordT_len (l : List UInt8) : (wordT l).t.length = runL wordB l := by
  have := runL_le wordB l
  simp [wordT]; omega
theorem numE_len {l ds : List UInt8} {k : Int} {e : Nat} {t : Tok} (h : numE l ds k e = some t) (he : e ≤ l.length) : t.t.length = e := by
  unfold numE at h
  split at h
  · cases h
  · split at h
    · injection h with h; subst h; simp; omega
    · cases h
/-- a token is some bytes long, no more than there are -/
theorem firstL_len {l : List UInt8} {t : Tok} (h : firstL l = some t) : 1 ≤ t.t.length ∧ t.t.length ≤ l.length := by
  unfold firstL at h
  split at h
  · cases h
  · rename_i c r
    split at h
    · rename_i hx
      unfold bytesT at h
      split at h
      · rename_i z hz
        have := apoL_len _ _ hz
        simp only [List.drop_succ_cons, List.length_drop] at this
        split at h
        · cases h
        · split at h
          · injection h with h; subst h; simp; omega
          · cases h
      · cases h
    · split at h
      · rename_i hl
        injection h with h; subst h
        rw [wordT_len]
        have := runL_le wordB (c :: r)
        rw [runL_cons, if_pos (by unfold wordB; simp [hl])] at this ⊢
        omega
      · split at h
        · rename_i hd
          have h1 : 1 ≤ runL digitB (c :: r) := by rw [runL_cons, if_pos hd]; omega
          have h2 := runL_le digitB (c :: r)
          unfold numT at h
          simp only at h
          split at h
          · rename_i hp
            have h3 := headIs_drop _ _ _ hp
            have h4 := runL_le digitB ((c :: r).drop (runL digitB (c :: r) + 1))
            rw [List.length_drop] at h4
            split at h
            · cases h
            · have := numE_len h (by omega); omega
          · have := numE_len h h2; omega
        · split at h
          · unfold textT at h
            split at h
            · rename_i x hx
              have := quotL_len _ _ (Nat.le_refl _) x hx
              simp only [List.drop_succ_cons, List.drop_zero] at this
              split at h
              · injection h with h; subst h; simp; omega
              · cases h
            · cases h
          · unfold signT at h
            simp only at h
            split at h
            · cases h
            · injection h with h; subst h
              rename_i hs
              have : signN c.toNat r ≤ 2 ∧ (signN c.toNat r = 2 → r ≠ []) := by
                unfold signN
                cases r with
                | nil => simp [headIs]; repeat' split
                         all_goals omega
                | cons d r => refine ⟨?_, fun _ => by simp⟩; repeat' split
                              all_goals omega
              have h2 : signN c.toNat r = 2 → 1 ≤ r.length := fun h => List.length_pos_iff.2 (this.2 h)
              simp; omega
theorem firstL_a {l : List UInt8} {t : Tok} (h : firstL l = some t) : t.a = 0 := by
  unfold firstL bytesT numT numE textT signT wordT at h
  simp only at h
  repeat' split at h
  all_goals first | cases h; done | (injection h with h; subst h; rfl)
end Go.Proofs.YtokkbipdkakenaaGreatDoor

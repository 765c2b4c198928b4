/- Tokens: two texts joined; the tokens' texts again. -/
import Derived.Test.YtokkbipdkakenaaGreatDoorBN
namespace Go.Proofs.YtokkbipdkakenaaGreatDoor
open Go.RowKit

def Tok.sh (d : Nat) (t : Tok) : Tok := ⟨t.k, t.t, t.x, t.a + d⟩
theorem Lx.cast {a b : Nat} {l : List UInt8} {ts : List Tok} (h : Lx a l ts) (e : a = b) : Lx b l ts := e ▸ h
theorem Lx.cast2 {a b : Nat} {l m : List UInt8} {ts : List Tok} (h : Lx a l ts) (e : a = b) (e2 : l = m) : Lx b m ts := e ▸ e2 ▸ h
theorem Lx.shift {p : Nat} {m : List UInt8} {ts : List Tok} (h : Lx p m ts) (d : Nat) : Lx (p + d) m (ts.map (Tok.sh d)) := by
  induction h with
  | fin a => exact .fin _
  | @step a l t ts hl h hr ih =>
    show Lx (a + d) l (t.to (a + d) :: ts.map (Tok.sh d))
    exact Lx.step (t := t) hl h (ih.cast (by omega))
/-- how many bytes more are blanks at the seam -/
def seam (B : List UInt8) : List UInt8 → Nat
  | [] => 1 + runL blankB B
  | _ => 0
theorem runL_join (B m : List UInt8) : runL blankB (m ++ 32 :: B) = runL blankB m + seam B (m.drop (runL blankB m)) := by
  induction m with
  | nil => rw [List.nil_append, runL_cons, if_pos (show blankB 32 = true from rfl), runL_nil]; simp [seam]; omega
  | cons c m ih =>
    rw [List.cons_append, runL_cons, runL_cons]
    by_cases h : blankB c = true
    · rw [if_pos h, if_pos h, ih, List.drop_succ_cons]; omega
    · rw [if_neg h, if_neg h]; rfl
theorem dropLast_cons {t : Tok} {ts : List Tok} (h : ts ≠ []) : (t :: ts).dropLast = t :: ts.dropLast := by
  cases ts with
  | nil => exact absurd rfl h
  | cons u us => rfl
theorem Lx_join {a : Nat} {m : List UInt8} {ts : List Tok} (h : Lx a m ts) (B : List UInt8) (ys : List Tok) (hB : Lx (runL blankB B) (B.drop (runL blankB B)) ys) :
    Lx (a + seam B m) ((m ++ 32 :: B).drop (seam B m)) (ts.dropLast ++ ys.map (Tok.sh (a + m.length + 1))) := by
  induction h with
  | fin a =>
    have h1 := hB.shift (a + 1)
    refine h1.cast2 ?_ ?_
    · simp [seam]; omega
    · show B.drop (runL blankB B) = (32 :: B).drop (1 + runL blankB B)
      rw [Nat.add_comm]; rfl
  | @step a m t ts hl hf hr ih =>
    have hs : seam B m = 0 := by cases m with
      | nil => exact absurd rfl hl
      | cons c m => rfl
    have hlen := firstL_len hf
    rw [hs, dropLast_cons hr.ne, List.drop_zero]
    refine .step (by simp) (firstL_app hf B) ?_
    have hq := runL_le blankB (m.drop t.t.length)
    rw [List.length_drop] at hq
    have e1 : (m ++ 32 :: B).drop t.t.length = m.drop t.t.length ++ 32 :: B := drop_app _ _ _ hlen.2
    rw [e1, runL_join]
    have e2 : ((m.drop t.t.length).drop (runL blankB (m.drop t.t.length))).length = m.length - t.t.length - runL blankB (m.drop t.t.length) := by simp; omega
    have e3 : a + t.t.length + runL blankB (m.drop t.t.length) + ((m.drop t.t.length).drop (runL blankB (m.drop t.t.length))).length + 1 = a + m.length + 1 := by rw [e2]; omega
    rw [e3] at ih
    refine ih.cast2 (by omega) ?_
    rw [← List.drop_drop, drop_app (m.drop t.t.length) (32 :: B) (runL blankB (m.drop t.t.length)) (by rw [List.length_drop]; exact hq)]
theorem LexL_join {A B : List UInt8} {xs ys : List Tok} (hA : LexL A xs) (hB : LexL B ys) (hl : A.length + 1 + B.length ≤ 1000) : LexL (A ++ 32 :: B) (xs.dropLast ++ ys.map (Tok.sh (A.length + 1))) := by
  refine ⟨by simp; omega, ?_⟩
  have hq := runL_le blankB A
  have h := Lx_join hA.2 B ys hB.2
  rw [runL_join]
  have e : runL blankB A + (A.drop (runL blankB A)).length + 1 = A.length + 1 := by simp; omega
  rw [e] at h
  refine h.cast2 rfl ?_
  rw [← List.drop_drop, drop_app A (32 :: B) (runL blankB A) hq]
theorem firstL_head {c : UInt8} {r : List UInt8} {t : Tok} (h : firstL (c :: r) = some t) : blankB c = false := by
  cases hb : blankB c with
  | false => rfl
  | true =>
    have h4 : c.toNat = 32 ∨ c.toNat = 9 ∨ c.toNat = 10 ∨ c.toNat = 13 := by unfold blankB at hb; simp at hb; omega
    have hl : ¬ letterB c = true := by unfold letterB; simp; omega
    have hd : ¬ digitB c = true := by unfold digitB; simp; omega
    rw [firstL_cons, if_neg (fun hh => by omega), if_neg hl, if_neg hd, if_neg (by omega)] at h
    unfold signT at h
    simp only at h
    have hs : signN c.toNat r = 0 := by
      unfold signN
      rw [if_neg (by omega), if_neg (by omega), if_neg (by unfold signC; simp; omega)]
    rw [hs, if_pos rfl] at h
    cases h
/-- the texts, with a blank behind each -/
def joinT : List Tok → List UInt8
  | [] => []
  | t :: ts => t.t ++ 32 :: joinT ts
def Tok.key (t : Tok) : Int × List UInt8 × (Int × Int × List UInt8) := (t.k, t.t, t.x)
theorem Lx_again {a : Nat} {m : List UInt8} {ts : List Tok} (h : Lx a m ts) : ∀ p, ∃ us, us.map Tok.key = ts.map Tok.key ∧ Lx (p + runL blankB (joinT ts)) ((joinT ts).drop (runL blankB (joinT ts))) us := by
  induction h with
  | fin a => intro p; exact ⟨[endT (p + 1)], rfl, .fin _⟩
  | @step a m t ts hl hf hr ih =>
    intro p
    have hlen := firstL_len hf
    obtain ⟨us, hk, hu⟩ := ih (p + t.t.length + 1)
    have hag := firstL_again hf (joinT ts)
    have h0 : runL blankB (t.t ++ 32 :: joinT ts) = 0 := by
      cases ht : t.t with
      | nil => rw [ht] at hlen; simp at hlen
      | cons c r =>
        rw [ht, List.cons_append] at hag
        rw [List.cons_append, runL_cons, if_neg (by rw [firstL_head hag]; simp)]
    refine ⟨t.to p :: us, by simp [hk, Tok.key, Tok.to], ?_⟩
    show Lx (p + runL blankB (t.t ++ 32 :: joinT ts)) ((t.t ++ 32 :: joinT ts).drop (runL blankB (t.t ++ 32 :: joinT ts))) _
    rw [h0, List.drop_zero, Nat.add_zero]
    refine .step (by simp) hag ?_
    have e1 : (t.t ++ 32 :: joinT ts).drop t.t.length = 32 :: joinT ts := by simp
    rw [e1, runL_cons, if_pos (show blankB 32 = true from rfl), List.drop_succ_cons]
    exact hu.cast (by omega)
theorem joinT_len {a : Nat} {m : List UInt8} {ts : List Tok} (h : Lx a m ts) : (joinT ts).length ≤ 2 * m.length + 1 := by
  induction h with
  | fin a => simp [joinT, endT]
  | @step a m t ts hl hf hr ih =>
    have hlen := firstL_len hf
    rw [List.length_drop, List.length_drop] at ih
    show (t.t ++ 32 :: joinT ts).length ≤ _
    simp
    omega
theorem LexL_again {l : List UInt8} {ts : List Tok} (h : LexL l ts) (hl : l.length ≤ 400) : ∃ us, us.map Tok.key = ts.map Tok.key ∧ LexL (joinT ts) us := by
  obtain ⟨us, hk, hu⟩ := Lx_again h.2 0
  have := joinT_len h.2
  rw [List.length_drop] at this
  exact ⟨us, hk, by omega, hu.cast (by omega)⟩
theorem joinT_snoc (a : List Tok) (t : Tok) : joinT (a ++ [t]) = joinT a ++ (t.t ++ [32]) := by
  induction a with
  | nil => simp [joinT]
  | cons u a ih => simp [joinT, ih]
end Go.Proofs.YtokkbipdkakenaaGreatDoor

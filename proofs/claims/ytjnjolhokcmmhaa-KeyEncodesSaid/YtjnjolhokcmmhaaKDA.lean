/- Decoding, in plain mathematics: what a number's digits and a text's marks tell. -/
import Derived.Test.YtjnjolhokcmmhaaKB
namespace Go.Proofs.Ytjnjolhokcmmhaa

/-- digits to the base 256, the greatest one ahead -/
def beVal (l : List UInt8) : Nat := l.foldl (fun n c => n * 256 + c.toNat) 0
theorem beVal_snoc (l : List UInt8) (c : UInt8) : beVal (l ++ [c]) = beVal l * 256 + c.toNat := by simp [beVal]
theorem be_snoc (m u : Nat) : be (m + 1) u = be m (u / 256) ++ [UInt8.ofNat (u % 256)] := by
  induction m generalizing u with
  | zero => simp [be]
  | succ m ih =>
    have e : be (m + 1 + 1) u = UInt8.ofNat (u / 256 ^ (m + 1) % 256) :: be (m + 1) u := rfl
    rw [e, ih u]
    have e2 : be (m + 1) (u / 256) = UInt8.ofNat (u / 256 / 256 ^ m % 256) :: be m (u / 256) := rfl
    rw [e2, Nat.div_div_eq_div_mul, Nat.pow_succ, Nat.mul_comm 256 (256 ^ m)]
    rfl
theorem beVal_lt (l : List UInt8) : beVal l < 256 ^ l.length := by
  generalize hn : l.length = n
  induction n generalizing l with
  | zero =>
    have : l = [] := List.length_eq_zero_iff.1 hn
    subst this
    simp [beVal]
  | succ n ih =>
    rcases List.eq_nil_or_concat l with rfl | ⟨k, c, rfl⟩
    · simp at hn
    · have hk : k.length = n := by simpa using hn
      have h := ih k hk
      have hc := c.toNat_lt
      have e : k.concat c = k ++ [c] := by simp
      rw [e, beVal_snoc, Nat.pow_succ]
      omega
theorem be_val (l : List UInt8) : be l.length (beVal l) = l := by
  generalize hn : l.length = n
  induction n generalizing l with
  | zero =>
    have : l = [] := List.length_eq_zero_iff.1 hn
    subst this
    rfl
  | succ n ih =>
    rcases List.eq_nil_or_concat l with rfl | ⟨k, c, rfl⟩
    · simp at hn
    · have hk : k.length = n := by simpa using hn
      have hc := c.toNat_lt
      have e : k.concat c = k ++ [c] := by simp
      rw [e, beVal_snoc, be_snoc]
      have h1 : (beVal k * 256 + c.toNat) / 256 = beVal k := by omega
      have h2 : (beVal k * 256 + c.toNat) % 256 = c.toNat := by omega
      rw [h1, h2, ih k hk]
      simp
theorem val_be (m u : Nat) (h : u < 256 ^ m) : beVal (be m u) = u := by
  induction m generalizing u with
  | zero => simp at h; subst h; rfl
  | succ m ih =>
    rw [be_snoc, beVal_snoc, ih (u / 256) (by rw [Nat.pow_succ] at h; omega), ofNat_toNat (Nat.mod_lt _ (by omega))]
    omega
/-- a text up to its end, and what is behind -/
def cutT : List UInt8 → Option (List UInt8 × List UInt8)
  | [] => none
  | c :: l => if c = 0 then (match l with
      | [] => none
      | d :: t => if d = 255 then (cutT t).map (fun p => (0 :: p.1, p.2)) else if d = 1 then some ([], t) else none)
    else (cutT l).map (fun p => (c :: p.1, p.2))
theorem cutT_nz {c : UInt8} (h : ¬ c = 0) (l : List UInt8) : cutT (c :: l) = (cutT l).map (fun p => (c :: p.1, p.2)) := by cases l <;> simp [cutT, h]
theorem cutT_stuff (t : List UInt8) : cutT (0 :: 255 :: t) = (cutT t).map (fun p => (0 :: p.1, p.2)) := by simp [cutT]
theorem cutT_end (t : List UInt8) : cutT (0 :: 1 :: t) = some ([], t) := by simp [cutT]
theorem cutT_bad {d : UInt8} (h1 : ¬ d = 255) (h2 : ¬ d = 1) (t : List UInt8) : cutT (0 :: d :: t) = none := by simp [cutT, h1, h2]
theorem cutT_one (c : UInt8) : cutT [c] = none := by
  by_cases h : c = 0 <;> simp [cutT, h]
theorem cutT_app (s t : List UInt8) : cutT (stuffL s ++ t) = (cutT t).map (fun p => (s ++ p.1, p.2)) := by
  induction s with
  | nil => simp [stuffL]
  | cons c s ih =>
    by_cases h : c = 0
    · subst h
      have e : stuffL (0 :: s) ++ t = 0 :: 255 :: (stuffL s ++ t) := by simp [stuffL]
      rw [e, cutT_stuff, ih, Option.map_map]
      rfl
    · have e : stuffL (c :: s) ++ t = c :: (stuffL s ++ t) := by simp [stuffL, h]
      rw [e, cutT_nz h, ih, Option.map_map]
      rfl
theorem cutT_some {l s r : List UInt8} (h : cutT l = some (s, r)) : l = stuffL s ++ 0 :: 1 :: r := by
  generalize hn : l.length = n
  induction n using Nat.strongRecOn generalizing l s with
  | _ n ih =>
    match l with
    | [] => simp [cutT] at h
    | [c] => rw [cutT_one] at h; cases h
    | c :: d :: t =>
      by_cases hc : c = 0
      · subst hc
        by_cases h1 : d = 255
        · subst h1
          rw [cutT_stuff, Option.map_eq_some_iff] at h
          obtain ⟨⟨s2, r2⟩, h2, h3⟩ := h
          simp only [Prod.mk.injEq] at h3
          obtain ⟨rfl, rfl⟩ := h3
          have := ih t.length (by simp at hn; omega) h2 rfl
          rw [this]
          simp [stuffL]
        · by_cases h2 : d = 1
          · subst h2
            rw [cutT_end] at h
            injection h with h
            simp only [Prod.mk.injEq] at h
            obtain ⟨rfl, rfl⟩ := h
            rfl
          · rw [cutT_bad h1 h2] at h; cases h
      · rw [cutT_nz hc, Option.map_eq_some_iff] at h
        obtain ⟨⟨s2, r2⟩, h2, h3⟩ := h
        simp only [Prod.mk.injEq] at h3
        obtain ⟨rfl, rfl⟩ := h3
        have := ih (d :: t).length (by simp at hn; simp; omega) h2 rfl
        rw [this]
        simp [stuffL, hc]
theorem cutT_iff (l s r : List UInt8) : cutT l = some (s, r) ↔ l = stuffL s ++ 0 :: 1 :: r := ⟨cutT_some, fun h => by rw [h, cutT_app, cutT_end]; simp⟩
end Go.Proofs.Ytjnjolhokcmmhaa

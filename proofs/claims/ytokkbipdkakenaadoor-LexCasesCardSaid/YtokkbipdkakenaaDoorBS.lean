/- Tokens: words in great or small letters. -/
import Derived.Test.YtokkbipdkakenaaDoorBO
namespace Go.Proofs.YtokkbipdkakenaaDoor
open Go.RowKit

def up1 (c : UInt8) : UInt8 := if 97 ≤ c.toNat ∧ c.toNat ≤ 122 then c - 32 else c
def okCs : Bool → List UInt8 → Prop
  | _, [] => True
  | p, c :: r => (c.toNat = 32 ∨ (c.toNat = 95 ∧ p = false) ∨ (97 ≤ c.toNat ∧ c.toNat ≤ 122)) ∧ okCs (c.toNat == 32) r
def cntC : Bool → List UInt8 → Nat
  | _, [] => 0
  | p, c :: r => (if c.toNat ≠ 32 ∧ p = true then 1 else 0) + cntC (c.toNat == 32) r
theorem up_facts (c : UInt8) : blankB (up1 c) = blankB c ∧ wordB (up1 c) = wordB c ∧ letterB (up1 c) = letterB c ∧ Lib.lowerB (up1 c) = Lib.lowerB c ∧ ((up1 c).toNat = 39 ↔ c.toNat = 39) := by
  have h : ∀ c : Fin 256, blankB (up1 (UInt8.ofNat c.val)) = blankB (UInt8.ofNat c.val) ∧ wordB (up1 (UInt8.ofNat c.val)) = wordB (UInt8.ofNat c.val) ∧ letterB (up1 (UInt8.ofNat c.val)) = letterB (UInt8.ofNat c.val) ∧ Lib.lowerB (up1 (UInt8.ofNat c.val)) = Lib.lowerB (UInt8.ofNat c.val) ∧ ((up1 (UInt8.ofNat c.val)).toNat = 39 ↔ (UInt8.ofNat c.val).toNat = 39) := by decide +kernel
  have := h ⟨c.toNat, c.toNat_lt⟩
  simpa only [UInt8.ofNat_toNat] using this
theorem runL_map (p : UInt8 → Bool) (h : ∀ c, p (up1 c) = p c) (l : List UInt8) : runL p (l.map up1) = runL p l := by
  induction l with
  | nil => rfl
  | cons c l ih => rw [List.map_cons, runL_cons, runL_cons, h, ih]
theorem wordT_map (l : List UInt8) : wordT (l.map up1) = wordT l := by
  unfold wordT
  rw [runL_map wordB (fun c => (up_facts c).2.1), ← List.map_take, List.map_map]
  congr 1
  exact List.map_congr_left fun c _ => (up_facts c).2.2.2.1
theorem headIs_map (l : List UInt8) : headIs 39 (l.map up1) = headIs 39 l := by
  cases l with
  | nil => rfl
  | cons c l =>
    have := (up_facts c).2.2.2.2
    show ((up1 c).toNat == 39) = (c.toNat == 39)
    by_cases h : c.toNat = 39
    · rw [beq_iff_eq.2 h, beq_iff_eq.2 (this.2 h)]
    · rw [beq_eq_false_iff_ne.2 h, beq_eq_false_iff_ne.2 (fun e => h (this.1 e))]
theorem okCs_weak {p : Bool} {l : List UInt8} (h : okCs true l) : okCs p l := by
  cases l with
  | nil => trivial
  | cons c r => exact ⟨h.1.imp id (Or.imp (fun hh => by cases hh.2) id), h.2⟩
/-- behind a word -/
theorem skip_word : ∀ (l : List UInt8), okCs false l → okCs true (l.drop (runL wordB l)) ∧ cntC false l = cntC true (l.drop (runL wordB l))
  | [], _ => ⟨trivial, rfl⟩
  | c :: r, h => by
    rw [runL_cons]
    by_cases hw : wordB c = true
    · rw [if_pos hw, List.drop_succ_cons]
      have h32 : (c.toNat == 32) = false := by
        refine beq_eq_false_iff_ne.2 fun e => ?_
        unfold wordB letterB digitB at hw
        rw [e] at hw
        simp at hw
      have h2 := h.2
      rw [h32] at h2
      obtain ⟨a, b⟩ := skip_word r h2
      refine ⟨a, ?_⟩
      show (if c.toNat ≠ 32 ∧ false = true then 1 else 0) + cntC (c.toNat == 32) r = _
      rw [h32, if_neg (by simp), b, Nat.zero_add]
    · rw [if_neg hw, List.drop_zero]
      have h32 : c.toNat = 32 := by
        rcases h.1 with h | ⟨h, _⟩ | h
        · exact h
        · exact absurd (by unfold wordB; rw [h]; simp) hw
        · exact absurd (by unfold wordB letterB; simp; omega) hw
      refine ⟨⟨.inl h32, h.2⟩, ?_⟩
      show (if c.toNat ≠ 32 ∧ false = true then 1 else 0) + cntC (c.toNat == 32) r = (if c.toNat ≠ 32 ∧ true = true then 1 else 0) + cntC (c.toNat == 32) r
      rw [if_neg (by simp), if_neg (by simp [h32])]
theorem letter_39 {p : Bool} {l : List UInt8} (h : okCs p l) : headIs 39 l = false := by
  cases l with
  | nil => rfl
  | cons c r =>
    show (c.toNat == 39) = false
    refine beq_eq_false_iff_ne.2 fun e => ?_
    have := h.1
    omega
theorem cases_lex : ∀ (n : Nat) (l : List UInt8), l.length ≤ n → okCs true l → ∀ a, ∃ ts, Lx (a + runL blankB l) (l.drop (runL blankB l)) ts ∧ Lx (a + runL blankB l) ((l.map up1).drop (runL blankB l)) ts ∧ ts.length = cntC true l + 1 := by
  intro n
  induction n with
  | zero =>
    intro l hl _ a
    have : l = [] := List.length_eq_zero_iff.1 (by omega)
    subst this
    exact ⟨[endT a], .fin a, .fin a, rfl⟩
  | succ n ih =>
    intro l hl ho a
    match l, hl, ho with
    | [], _, _ => exact ⟨[endT a], .fin a, .fin a, rfl⟩
    | c :: r, hl, ho =>
      have hr : r.length ≤ n := by simpa using hl
      by_cases h32 : c.toNat = 32
      · have hb : blankB c = true := by unfold blankB; simp [h32]
        have h2 := ho.2
        rw [beq_iff_eq.2 h32] at h2
        obtain ⟨ts, h1, h3, h4⟩ := ih r hr h2 (a + 1)
        rw [runL_cons, if_pos hb, List.drop_succ_cons, List.map_cons, List.drop_succ_cons]
        refine ⟨ts, h1.cast (by omega), h3.cast (by omega), ?_⟩
        rw [h4]
        show _ = (if c.toNat ≠ 32 ∧ true = true then 1 else 0) + cntC (c.toNat == 32) r + 1
        rw [if_neg (by simp [h32]), beq_iff_eq.2 h32, Nat.zero_add]
      · have hlt : 97 ≤ c.toNat ∧ c.toNat ≤ 122 := by
          rcases ho.1 with h | ⟨_, h⟩ | h
          · exact absurd h h32
          · cases h
          · exact h
        have hlet : letterB c = true := by unfold letterB; simp; omega
        have hw : wordB c = true := by unfold wordB; simp [hlet]
        have hb : ¬ blankB c = true := by unfold blankB; simp; omega
        have h32b : (c.toNat == 32) = false := beq_eq_false_iff_ne.2 h32
        have h2 := ho.2
        rw [h32b] at h2
        obtain ⟨hs1, hs2⟩ := skip_word r h2
        have hrl := runL_le wordB r
        obtain ⟨ts, h1, h3, h4⟩ := ih (r.drop (runL wordB r)) (by rw [List.length_drop]; omega) hs1 (a + (runL wordB r + 1))
        have hf : firstL (c :: r) = some (wordT (c :: r)) := by
          rw [firstL_cons, if_neg (by rw [letter_39 h2]; simp), if_pos hlet]
        have hf2 : firstL ((c :: r).map up1) = some (wordT (c :: r)) := by
          rw [← wordT_map, List.map_cons, firstL_cons, if_neg (by rw [headIs_map, letter_39 h2]; simp), if_pos (by rw [(up_facts c).2.2.1]; exact hlet)]
        have hwl : (wordT (c :: r)).t.length = runL wordB r + 1 := by rw [wordT_len, runL_cons, if_pos hw]
        rw [runL_cons, if_neg hb, List.drop_zero, List.drop_zero, Nat.add_zero]
        refine ⟨(wordT (c :: r)).to a :: ts, .step (by simp) hf ?_, .step (by simp) hf2 ?_, ?_⟩
        · rw [hwl, List.drop_succ_cons]
          exact h1
        · rw [hwl, List.map_cons, List.drop_succ_cons, ← List.map_drop, runL_map blankB (fun c => (up_facts c).1)]
          exact h3
        · show ts.length + 1 = (if c.toNat ≠ 32 ∧ true = true then 1 else 0) + cntC (c.toNat == 32) r + 1
          rw [h4, if_pos ⟨h32, rfl⟩, h32b, hs2]
          omega
theorem LexL_cases {l : List UInt8} (hl : l.length ≤ 400) (h : okCs true l) : ∃ ts, LexL l ts ∧ LexL (l.map up1) ts ∧ ts.length = cntC true l + 1 := by
  obtain ⟨ts, h1, h2, h3⟩ := cases_lex _ l (Nat.le_refl _) h 0
  rw [Nat.zero_add] at h1 h2
  refine ⟨ts, ⟨by omega, h1⟩, ⟨by rw [List.length_map]; omega, ?_⟩, h3⟩
  rw [runL_map blankB (fun c => (up_facts c).1)]
  exact h2
end Go.Proofs.YtokkbipdkakenaaDoor

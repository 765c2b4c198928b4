/- LexPlaces: where tokens stand. -/
import Derived.Test.YtokkbipdkakenaaGreatDoorBK
namespace Go.Proofs.YtokkbipdkakenaaGreatDoor
open Go.RowKit

theorem lex_bad {s : ByteArray} (h : ¬ ∃ ts, LexL s.data.toList ts) (w : World) (hE : Env w) : Calls Tryz.prog 7 #[.string s] w fun e w' => ∃ N, e = .returned (.tuple #[.slice none 0 0, .iface 53 (.pointer (some ⟨N, 0, none⟩))]) ∧ Below w.heap.size w w' := by
  refine (lex_any s w hE).mono ?_
  rintro e w' ⟨hb, ⟨us, A, cap, _, hl, _⟩ | ⟨N, p, he, _⟩⟩
  · exact absurd ⟨us, hl⟩ h
  · exact ⟨N, he, hb⟩
/-- a token's text and the bytes that it stands for -/
theorem first_text {l : List UInt8} {t : Tok} (h : firstL l = some t) : t.k ≠ 6 ∧ ∀ (k : Nat) (c d : UInt8), t.t[k]? = some d → l[k]? = some c → (if t.k = 1 then Lib.lowerB c else c) = d := by
  have take : ∀ n, ∀ (k : Nat) (c d : UInt8), (l.take n)[k]? = some d → l[k]? = some c → c = d := by
    intro n k c d hd hc
    rw [List.getElem?_take] at hd
    split at hd
    · rw [hc] at hd; exact Option.some.inj hd
    · cases hd
  have num : ∀ ds kk e, numE l ds kk e = some t → t.k ≠ 6 ∧ ∀ (k : Nat) (c d : UInt8), t.t[k]? = some d → l[k]? = some c → (if t.k = 1 then Lib.lowerB c else c) = d := by
    intro ds kk e h
    unfold numE at h
    split at h
    · cases h
    · split at h
      · injection h with h; subst h; exact ⟨by simp, fun k c d hd hc => take _ k c d hd hc⟩
      · cases h
  unfold firstL at h
  split at h
  · cases h
  · rename_i c0 r
    split at h
    · unfold bytesT at h
      split at h
      · split at h
        · cases h
        · split at h
          · injection h with h; subst h; exact ⟨by simp, fun k c d hd hc => take _ k c d hd hc⟩
          · cases h
      · cases h
    · split at h
      · injection h with h
        subst h
        refine ⟨by simp [wordT], fun k c d hd hc => ?_⟩
        rw [if_pos (show (wordT (c0 :: r)).k = 1 from rfl)]
        simp only [wordT, List.getElem?_map, Option.map_eq_some_iff] at hd
        obtain ⟨x, hx, rfl⟩ := hd
        rw [take _ k c x hx hc]
      · split at h
        · unfold numT at h
          simp only at h
          split at h
          · split at h
            · cases h
            · exact num _ _ _ h
          · exact num _ _ _ h
        · split at h
          · unfold textT at h
            split at h
            · split at h
              · injection h with h; subst h; exact ⟨by simp, fun k c d hd hc => take _ k c d hd hc⟩
              · cases h
            · cases h
          · unfold signT at h
            simp only at h
            split at h
            · cases h
            · injection h with h; subst h; exact ⟨by simp, fun k c d hd hc => take _ k c d hd hc⟩
theorem runL_all (p : UInt8 → Bool) (l : List UInt8) (i : Nat) (h : i < runL p l) (c : UInt8) (hc : l[i]? = some c) : p c = true := by
  induction l generalizing i with
  | nil => simp at hc
  | cons d l ih =>
    rw [runL_cons] at h
    split at h
    · rename_i hd
      cases i with
      | zero => simp at hc; subst hc; exact hd
      | succ i => exact ih i (by omega) (by simpa using hc)
    · omega
/-- where tokens stand in l, from place at on -/
def Pl (l : List UInt8) : Nat → List Tok → Prop
  | at_, [] => at_ = l.length
  | at_, t :: ts => at_ ≤ t.a ∧ t.a + t.t.length ≤ l.length ∧ (t.k = 6 ↔ ts = []) ∧ (∀ k, at_ ≤ k → k < t.a → ∀ c, l[k]? = some c → blankB c = true) ∧
    (∀ (k : Nat) (c d : UInt8), t.t[k]? = some d → l[t.a + k]? = some c → (if t.k = 1 then Lib.lowerB c else c) = d) ∧ Pl l (t.a + t.t.length) ts
theorem Lx.ne {a : Nat} {l : List UInt8} {ts : List Tok} (h : Lx a l ts) : ts ≠ [] := by
  cases h <;> simp
theorem Lx.len {a : Nat} {m : List UInt8} {ts : List Tok} (h : Lx a m ts) : ts.length ≤ m.length + 1 := by
  induction h with
  | fin a => simp
  | step hl h _ ih =>
    have := firstL_len h
    rw [List.length_drop, List.length_drop] at ih
    simp only [List.length_cons]
    omega
theorem Pl_of {a : Nat} {m : List UInt8} {ts : List Tok} (h : Lx a m ts) (l : List UInt8) : ∀ at_, at_ ≤ a → a ≤ l.length → m = l.drop a → (∀ k, at_ ≤ k → k < a → ∀ c, l[k]? = some c → blankB c = true) → Pl l at_ ts := by
  induction h with
  | fin a =>
    intro at_ h1 h2 hm hbl
    have h3 : l.length ≤ a := by
      have := congrArg List.length hm
      rw [List.length_drop, List.length_nil] at this
      omega
    exact ⟨h1, by show a + 0 ≤ _; omega, by simp [endT], hbl, fun k c d hd => by simp [endT] at hd, by show a + 0 = _; omega⟩
  | @step a m t ts hl h hr ih =>
    intro at_ h1 h2 hm hbl
    subst hm
    have hlen := firstL_len h
    rw [List.length_drop] at hlen
    have hq := runL_le blankB ((l.drop a).drop t.t.length)
    rw [List.length_drop, List.length_drop] at hq
    obtain ⟨hk, htx⟩ := first_text h
    refine ⟨h1, by show a + t.t.length ≤ _; omega, ⟨fun e => absurd e hk, fun e => absurd e hr.ne⟩, hbl, fun k c d hd hc => ?_, ?_⟩
    · refine htx k c d hd ?_
      rw [List.getElem?_drop]
      exact hc
    · refine ih _ (by show a + t.t.length ≤ _; omega) (by omega) ?_ ?_
      · rw [List.drop_drop, List.drop_drop]
        congr 1
        omega
      · intro k hk1 hk2 c hc
        have hk1' : a + t.t.length ≤ k := hk1
        refine runL_all blankB ((l.drop a).drop t.t.length) (k - (a + t.t.length)) (by omega) c ?_
        rw [List.drop_drop, List.getElem?_drop, show a + t.t.length + (k - (a + t.t.length)) = k by omega]
        exact hc
theorem Pl_lex {l : List UInt8} {ts : List Tok} (h : LexL l ts) : Pl l 0 ts := by
  refine Pl_of h.2 l 0 (Nat.zero_le _) (runL_le _ _) rfl ?_
  intro k _ hk c hc
  exact runL_all blankB l k hk c hc
end Go.Proofs.YtokkbipdkakenaaGreatDoor

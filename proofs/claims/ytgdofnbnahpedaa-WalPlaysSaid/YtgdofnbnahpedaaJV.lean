/- Layer 7's laws: which number is spoken of; what is left of records whose bytes are cut off. -/
import Derived.Test.YtgdofnbnahpedaaJT
namespace Go.Proofs.Ytgdofnbnahpedaa
open Go.RowKit

theorem intsV_get {l : List Nat} {k x : Nat} (h : l[k]? = some x) : (intsV l)[k]? = some (.int .i64 (x : Int)) := by
  unfold intsV
  rw [List.getElem?_map, h]
  rfl
theorem RdC.at_ {w w' : World} {B C k : Nat} {A : Option Addr} {vs : List Value} {u : Value} (h : RdC w B A vs) (hu : vs[k]? = some u) (hb : Below C w w') (hC : B ≤ C) : ∃ b o, A = some ⟨b, o, none⟩ ∧ w'.cell? ⟨b, o + k, none⟩ = some u := by
  obtain ⟨b, o, e, hlt, hc⟩ := h (fun e => by subst e; simp at hu)
  exact ⟨b, o, e, (World.cell?_of_block (hb.block b (by omega))).trans (hc k u hu)⟩
theorem RdC.below {w w' : World} {B C : Nat} {A : Option Addr} {vs : List Value} (h : RdC w B A vs) (hb : Below C w w') (hC : B ≤ C) : RdC w' B A vs := fun hn => by
  obtain ⟨b, o, e, hlt, hc⟩ := h hn
  exact ⟨b, o, e, hlt, fun j u hu => (World.cell?_of_block (hb.block b (by omega))).trans (hc j u hu)⟩
set_option maxRecDepth 100000 in
set_option maxHeartbeats 1000000 in
theorem number_any {w : World} {B : Nat} {A : Option Addr} (ns : List Nat) (n cap : Nat) (hn : ns.length = n) (hl : ns.length ≤ 50000) (hr : RdC w B A (intsV ns)) (E c : Int) (hc : i64ok c) (k : Nat) (hk : k = pickZ c (ns.length + 1)) (X : Int) (h1 : ∀ x, ns[k]? = some x → X = (x : Int)) (h2 : k = ns.length → X = E) :
    Calls Try.prog 24 #[.slice A n cap, .int .i64 E, .int .i64 c] w (Looks (.int .i64 X) w) := by
  subst hn
  have hkl : k ≤ ns.length := by have := pickZ_lt c (n := ns.length + 1) (by omega); omega
  have HP := Lib.hid (pick_any c (ns.length + 1) (by omega) (by omega) hc k hk ((ns.length : Int) + 1) (by omega))
  have hli : (ns.length : Int) ≤ 50000 := by omega
  by_cases hlt : k < ns.length
  · have hki : (k : Int) < (ns.length : Int) := by omega
    have hne : ¬ (k : Int) = (ns.length : Int) := by omega
    have hne2 : ((k : Int) == (ns.length : Int)) = false := beq_false_of_ne hne
    obtain ⟨x, hx⟩ : ∃ x, ns[k]? = some x := ⟨_, List.getElem?_eq_getElem hlt⟩
    obtain ⟨b0, o0, hA, c0⟩ := hr.at_ (intsV_get hx) (Below.refl B w) (Nat.le_refl _)
    rw [← h1 x hx] at c0
    subst hA
    clear hr hx h1 h2 hk hkl hlt hl
    go_enter Try.func24, Try.ntmps24
    go_wp2_with (go_at_call 75; refine (HP.out _).mono ?_; rintro e w2 ⟨rfl, rfl⟩)
    go_ret
    exact ⟨rfl, rfl⟩
  · have hke : k = ns.length := by omega
    have hX := h2 hke
    subst hX
    rw [hke] at HP
    clear hr h1 h2 hk hkl hlt hl hke
    go_enter Try.func24, Try.ntmps24
    go_wp2_with (go_at_call 75; refine (HP.out _).mono ?_; rintro e w2 ⟨rfl, rfl⟩)
    go_ret
    exact ⟨rfl, rfl⟩
/-- the first so many bytes: the first so many records, and no frame behind them -/
theorem take_bytes (rs : List (List UInt8)) (hr : ∀ r ∈ rs, 1 ≤ r.length ∧ r.length ≤ 4096) (j : Nat) : ∃ m t, m ≤ rs.length ∧ (bytesOf rs).take j = bytesOf (rs.take m) ++ t ∧ firstL t = 0 ∧ ∀ i, i ≤ rs.length → (bytesOf (rs.take i)).length ≤ j → i ≤ m := by
  induction rs generalizing j with
  | nil => exact ⟨0, [], Nat.le_refl _, by simp [bytesOf_nil], rfl, fun i hi _ => hi⟩
  | cons r rs ih =>
    have h0 := hr r (by simp)
    by_cases hj : r.length + 5 ≤ j
    · obtain ⟨m, t, h1, h2, h3, h4⟩ := ih (fun x hx => hr x (by simp [hx])) (j - (r.length + 5))
      refine ⟨m + 1, t, by simp; exact h1, ?_, h3, fun i hi hb => ?_⟩
      · rw [bytesOf_cons, List.take_append, frameL_len, h2, List.take_of_length_le (by rw [frameL_len]; exact hj), List.take_succ_cons, bytesOf_cons, List.append_assoc]
      · cases i with
        | zero => omega
        | succ i =>
          rw [List.take_succ_cons, bytesOf_cons, List.length_append, frameL_len] at hb
          have := h4 i (by simp at hi; exact hi) (by omega)
          omega
    · refine ⟨0, (frameL r).take j, Nat.zero_le _, ?_, firstL_part h0.1 (by omega) j (by omega), fun i hi hb => ?_⟩
      · rw [bytesOf_cons, List.take_append, frameL_len, show j - (r.length + 5) = 0 by omega, List.take_zero, List.append_nil]
        rfl
      · cases i with
        | zero => omega
        | succ i =>
          rw [List.take_succ_cons, bytesOf_cons, List.length_append, frameL_len] at hb
          omega
theorem startOf_bytes (b : Nat) (rs : List (List UInt8)) (k : Nat) : startOf b rs k + (bytesOf (rs.drop k)).length = b + (bytesOf rs).length := by
  have : bytesOf rs = bytesOf (rs.take k) ++ bytesOf (rs.drop k) := by rw [← bytesOf_app, List.take_append_drop]
  unfold startOf
  rw [this, List.length_append]
  omega
end Go.Proofs.Ytgdofnbnahpedaa

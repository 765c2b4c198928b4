/- Tokens: one way alone; the live question of layer 16. -/
import Derived.Test.YtokkbipdkakenaaGreatDoorBJ
namespace Go.Proofs.YtokkbipdkakenaaGreatDoor
open Go.RowKit

theorem Lx.det {a : Nat} {l : List UInt8} {ts us : List Tok} (h : Lx a l ts) (k : Lx a l us) : ts = us := by
  induction h generalizing us with
  | fin a =>
    cases k with
    | fin => rfl
    | step hl _ _ => exact absurd rfl hl
  | step hl h _ ih =>
    cases k with
    | fin => exact absurd rfl hl
    | step _ h2 hr =>
      rw [h] at h2
      injection h2 with h2
      subst h2
      rw [ih hr]
theorem LexL.det {l : List UInt8} {ts us : List Tok} (h : LexL l ts) (k : LexL l us) : ts = us := h.2.det k.2
/-- Lex, where the tokens are known -/
theorem lex_known {s : ByteArray} {ts : List Tok} (h : LexL s.data.toList ts) (w : World) (hE : Env w) : Calls Tryz.prog 7 #[.string s] w fun e w' => ∃ A cap, e = .returned (.tuple #[.slice A ts.length cap, .nilIface]) ∧ Below w.heap.size w w' ∧ RdT w' w'.heap.size A ts ∧ ts.length ≤ cap := by
  refine (lex_any s w hE).mono ?_
  rintro e w' ⟨hb, ⟨us, A, cap, he, hl, hr, hc⟩ | ⟨N, p, _, hz, _⟩⟩
  · obtain rfl := h.det hl
    exact ⟨A, cap, he, hb, hr, hc⟩
  · exact absurd h (hz.not ts)
def aliveB : List UInt8 := [65, 60, 61, 49, 46, 53, 32, 39, 105, 116, 39, 39, 115, 39]
def aliveTs : List Tok := [⟨1, [97], noV, 0⟩, ⟨5, [60, 61], noV, 1⟩, ⟨2, [49, 46, 53], (3, 15000, []), 3⟩, ⟨3, [39, 105, 116, 39, 39, 115, 39], (4, 0, [105, 116, 39, 115]), 7⟩, ⟨6, [], noV, 14⟩]
theorem alive_lexL : LexL aliveB aliveTs := by
  refine ⟨by decide, ?_⟩
  refine .step (t := ⟨1, [97], noV, 0⟩) (by decide) (by kernel_rfl) ?_
  refine .step (t := ⟨5, [60, 61], noV, 0⟩) (by decide) (by kernel_rfl) ?_
  refine .step (t := ⟨2, [49, 46, 53], (3, 15000, []), 0⟩) (by decide) (by kernel_rfl) ?_
  refine .step (t := ⟨3, [39, 105, 116, 39, 39, 115, 39], (4, 0, [105, 116, 39, 115]), 0⟩) (by decide) (by kernel_rfl) ?_
  exact .fin 14
theorem alive_lex (w : World) (hE : Env w) : Calls Tryz.prog 7 #[.string ⟨#[65, 60, 61, 49, 46, 53, 32, 39, 105, 116, 39, 39, 115, 39]⟩] w fun e w' => ∃ b o cap, e = .returned (.tuple #[.slice (some ⟨b, o, none⟩) 5 cap, .nilIface]) ∧ Below w.heap.size w w' ∧
    w'.cell? ⟨b, o + 1, none⟩ = some (.string ⟨#[97]⟩) ∧ w'.cell? ⟨b, o + 7, none⟩ = some (.string ⟨#[60, 61]⟩) ∧ w'.cell? ⟨b, o + 15, none⟩ = some (.int .i64 15000) ∧ w'.cell? ⟨b, o + 22, none⟩ = some (.string ⟨#[105, 116, 39, 115]⟩) ∧ w'.cell? ⟨b, o + 24, none⟩ = some (.int .i64 6) := by
  refine (lex_known (s := ⟨#[65, 60, 61, 49, 46, 53, 32, 39, 105, 116, 39, 39, 115, 39]⟩) alive_lexL w hE).mono ?_
  rintro e w' ⟨A, cap, he, hb, hr, _⟩
  obtain ⟨b, o, hA, _, hc⟩ := hr (by simp [aliveTs])
  subst hA
  exact ⟨b, o, cap, he, hb, hc 1 _ rfl, hc 7 _ rfl, hc 15 _ rfl, hc 22 _ rfl, hc 24 _ rfl⟩
set_option maxRecDepth 100000 in
set_option maxHeartbeats 4000000 in
theorem alive16_any (w : World) (hE : Env w) : Calls Tryz.prog 6 #[] w (Ans (.bool true) w) := by
  have HL := Lib.hid (alive_lex w hE)
  clear hE
  go_enter Tryz.func6, Tryz.ntmps6
  go_wp2_with (go_at_call 7; refine HL.out.mono ?_; rintro e w2 ⟨b, o, cap, rfl, hb, c1, c7, c15, c22, c24⟩; have HB := Lib.hid hb; clear hb)
  go_ret
  exact ⟨rfl, HB.out⟩
end Go.Proofs.YtokkbipdkakenaaGreatDoor

/- The document's Trim. -/
import Derived.Test.YtgdofnbnahpedaaLH
namespace Go.Proofs.Ytgdofnbnahpedaa
open Go.RowKit

/-- where Trim cuts, or less than 0 -/
def trimAt (es : List BEnt) (e n : Int) : Int := if findE es n < 0 ∧ n = e then (es.length : Int) else findE es n
set_option maxRecDepth 100000 in
set_option maxHeartbeats 4000000 in
theorem rtrim_no {w : World} {B q p g d b e s : Nat} {X : List UInt8} {es : List BEnt} (h : Rw w B q p g d b e s X es) (hl : es.length ≤ 1000000) (n : Int) (hno : trimAt es (e : Int) n < 0 ∨ ¬ ((b : Int) ≤ n ∧ n ≤ (s : Int))) : Calls Try.prog 27 #[.pointer (some ⟨q, 0, none⟩), .int .i64 n] w (Looks (.int .i64 1) w) := by
  have HF := Lib.hid (rw_find h hl n)
  obtain ⟨A, cap, h1, _⟩ := h.box
  obtain ⟨x0, x1⟩ := box2 h1
  obtain ⟨_, _, h3, _⟩ := h.disk.box
  obtain ⟨y0, y1, y2, y3⟩ := box4 h3
  have HD := Lib.hid h.disk
  obtain ⟨F, hF⟩ : ∃ F, F = findE es n := ⟨_, rfl⟩
  have hno' := hno
  unfold trimAt at hno'
  rw [← hF] at HF hno'
  have hli : (es.length : Int) ≤ 1000000 := by omega
  have hle : ¬ (es.length : Int) < 0 := by omega
  have HDN : Hid (¬ ((b : Int) ≤ n ∧ n ≤ (s : Int)) → Calls Try.prog 78 #[.pointer (some ⟨p, 0, none⟩), .int .i64 n] w (Looks (.int .i64 1) w)) := Lib.hid fun hh => rdrop_no HD.out n hh
  clear hF h1 h3 h y0 y1 y3 hno hl
  by_cases hf : F < 0
  · by_cases hne : n = (e : Int)
    · have HN2 : Hid (Calls Try.prog 78 #[.pointer (some ⟨p, 0, none⟩), .int .i64 n] w (Looks (.int .i64 1) w)) := Lib.hid (HDN.out (by
        rw [if_pos ⟨hf, hne⟩] at hno'
        rcases hno' with h4 | h4
        · omega
        · exact h4))
      clear hno' HDN
      subst hne
      go_enter Try.func27, Try.ntmps27
      go_wp2_with (first
        | (go_at_call 39; refine HF.out.mono ?_; rintro e w1 ⟨rfl, rfl⟩)
        | (go_at_call 78; refine HN2.out.mono ?_; rintro e w2 ⟨rfl, rfl⟩))
      all_goals (go_ret; exact ⟨rfl, rfl⟩)
    · clear hno' HDN
      go_enter Try.func27, Try.ntmps27
      go_wp2_with (first
        | (go_at_call 39; refine HF.out.mono ?_; rintro e w1 ⟨rfl, rfl⟩))
      all_goals (go_ret; exact ⟨rfl, rfl⟩)
  · have HN2 : Hid (Calls Try.prog 78 #[.pointer (some ⟨p, 0, none⟩), .int .i64 n] w (Looks (.int .i64 1) w)) := Lib.hid (HDN.out (by
        rw [if_neg (fun hh => hf hh.1)] at hno'
        rcases hno' with h4 | h4
        · exact absurd h4 hf
        · exact h4))
    clear hno' HDN
    go_enter Try.func27, Try.ntmps27
    go_wp2_with (first
      | (go_at_call 39; refine HF.out.mono ?_; rintro e w1 ⟨rfl, rfl⟩)
      | (go_at_call 78; refine HN2.out.mono ?_; rintro e w2 ⟨rfl, rfl⟩))
    all_goals (go_ret; exact ⟨rfl, rfl⟩)
end Go.Proofs.Ytgdofnbnahpedaa

/- alive answers true. -/
import Derived.Test.YtneppncnccangaaGreatDoorL
namespace Go.Proofs.YtneppncnccangaaGreatDoor
open Go.RowKit

theorem read_live : guessV [45, 49, 46, 50, 53, 48, 48] = some ⟨3, -12500, ⟨#[]⟩⟩ := by rfl
theorem text_live : textS ⟨3, -12500, ⟨#[]⟩⟩ = ⟨#[45, 49, 46, 50, 53, 48, 48]⟩ := by
  unfold textS
  rw [if_neg (by decide), if_neg (by decide), if_neg (by decide), if_neg (by decide), if_pos rfl]
  unfold signL decS pad4
  simp [Lib.decDigits]
  rfl
theorem text_its : textS ⟨4, 0, ⟨#[105, 116, 39, 115]⟩⟩ = ⟨#[39, 105, 116, 39, 39, 115, 39]⟩ := by rfl
theorem readV_live : readV ⟨#[45, 49, 46, 50, 53, 48, 48]⟩ = some ⟨3, -12500, ⟨#[]⟩⟩ := by
  unfold readV
  rw [show (⟨#[45, 49, 46, 50, 53, 48, 48]⟩ : ByteArray).data.toList = [45, 49, 46, 50, 53, 48, 48] from rfl, read_live]
  simp only [text_live]
  rfl
theorem alive_read (w : World) (hE : Env w) : Calls Tryz.prog 16 #[.string ⟨#[45, 49, 46, 50, 53, 48, 48]⟩] w fun e w' => e = .returned (.tuple #[.agg #[.int .i64 3, .int .i64 (-12500), .string ⟨#[]⟩], .nilIface]) ∧ Below w.heap.size w w' := by
  have h := read_any ⟨#[45, 49, 46, 50, 53, 48, 48]⟩ (by show (7 : Nat) ≤ _; omega) w hE
  rw [readV_live] at h
  exact h.mono fun e w' ⟨a, b⟩ => ⟨b, a⟩
theorem alive_text (w : World) (hE : Env w) : Calls Tryz.prog 18 #[.agg #[.int .i64 4, .int .i64 0, .string ⟨#[105, 116, 39, 115]⟩]] w (Ans (.string ⟨#[39, 105, 116, 39, 39, 115, 39]⟩) w) := by
  have h := text_any ⟨4, 0, ⟨#[105, 116, 39, 115]⟩⟩ ⟨by unfold i64ok; simp, by unfold i64ok; simp⟩ (by show (4 : Nat) ≤ _; omega) w hE
  rw [text_its] at h
  exact h
set_option maxRecDepth 100000 in
set_option maxHeartbeats 2000000 in
theorem alive_any (w : World) (hE : Env w) : Calls Tryz.prog 5 #[] w (Ans (.bool true) w) := by
  have HE := Lib.hid hE
  clear hE
  go_enter Tryz.func5, Tryz.ntmps5
  go_wp2_with (first
    | (go_at_call 16; refine (alive_read _ HE.out).mono ?_; rintro e w2 ⟨rfl, hb⟩
       have HB := Lib.hid (hb.trans ((alloc_below w2 (.cells #[.int .i64 3, .int .i64 (-12500), .string ⟨#[]⟩] 24)).mono hb.size))
       clear hb)
    | (go_at_call 18; refine (alive_text _ (HE.out.below HB.out)).mono ?_; rintro e w3 ⟨rfl, hb⟩
       have HB := Lib.hid (HB.out.trans (hb.mono HB.out.size))
       clear hb))
  go_ret
  exact ⟨rfl, HB.out⟩
end Go.Proofs.YtneppncnccangaaGreatDoor

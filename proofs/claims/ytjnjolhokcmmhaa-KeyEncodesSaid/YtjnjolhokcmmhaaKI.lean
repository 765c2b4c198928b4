/- Layer 4's live question; Encode at right values. -/
import Derived.Test.YtjnjolhokcmmhaaKH
namespace Go.Proofs.Ytjnjolhokcmmhaa
open Go.RowKit

/-- Encode at right values -/
def EncTo (w : World) (l : List Val) (e : Ending) (w' : World) : Prop := ∃ v, e = .returned (.tuple #[v, .int .i64 0]) ∧ OwnB w' w.heap.size v (encL l) ∧ Below w.heap.size w w'
theorem encode_right (l : List Val) (A : Option Addr) (n cap : Nat) (hn : n = l.length) (w : World) (hl : l.length ≤ 16) (hok : AllOk l) (hR : ∀ x ∈ l, x.R) (hr : RdV w w.heap.size A l) :
    Calls Try.prog 11 #[.slice A n cap] w (EncTo w l) := by
  subst hn
  refine (encode_any l A cap w (by omega) hok hr).mono fun e w' ⟨hb, h⟩ => ?_
  rcases h with ⟨_, v, he, ho⟩ | ⟨hno, _⟩
  · exact ⟨v, he, ho, hb⟩
  · exact absurd ⟨hl, fun x hx => (hR x hx).1⟩ hno
theorem alive_bytes : encL aliveL = [2, 127, 255, 255, 255, 255, 255, 255, 255, 4, 97, 0, 1] := by decide +kernel
set_option maxRecDepth 100000 in
theorem alive_any (w : World) : Calls Try.prog 10 #[] w (Ans (.bool true) w) := by
  have HA := Lib.hid (alloc_below w (.cells #[.int .i64 2, .int .i64 (-1), .string ⟨#[]⟩, .int .i64 4, .int .i64 0, .string ⟨#[97]⟩] 68))
  go_enter Try.func10, Try.ntmps10
  go_wp2_with (go_at_call 11; refine (encode_right aliveL _ _ _ rfl _ (by decide) (fun x hx => ⟨(alive_R x hx).2, by simp only [aliveL, List.mem_cons, List.not_mem_nil, or_false] at hx; rcases hx with rfl | rfl <;> decide⟩) alive_R (alive_rd w)).mono ?_; rintro e w2 ⟨v, rfl, ho, hb⟩
               have hcv := conv_own ho
               rw [alive_bytes] at hcv
               have HY : Hid (Ans (.bool true) w (.returned (.bool true)) w2) := Lib.hid ⟨rfl, HA.out.trans (hb.mono HA.out.size)⟩
               clear ho hb)
  go_ret
  exact HY.out
end Go.Proofs.Ytjnjolhokcmmhaa

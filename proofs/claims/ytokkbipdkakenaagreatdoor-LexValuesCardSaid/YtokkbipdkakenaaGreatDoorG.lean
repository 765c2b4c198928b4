/- ParseUint at base 16 of two bytes; undigits. -/
import Derived.Test.YtokkbipdkakenaaGreatDoorF
import Derived.Test.YtokkbipdkakenaaGreatDoorShelf2
namespace Go.Proofs.YtokkbipdkakenaaGreatDoor
open Go.RowKit

def PUP (o : Option Nat) (w : World) : Ending → World → Prop := fun e w' => Below w.heap.size w w' ∧ match o with
  | some n => e = .returned (.tuple #[.int .u64 (n : Int), .nilIface])
  | none => ∃ N, e = .returned (.tuple #[.int .u64 0, .iface 147 (.pointer (some ⟨N, 0, none⟩))])
theorem synE_neq (w : World) : (binOp .neq 30 synE .nilIface).run Tryz.prog w = .ok (.bool true) w := by kernel_rfl
set_option maxRecDepth 100000 in
set_option maxHeartbeats 2000000 in
theorem parse16p (a b : UInt8) (w : World) (hE : Env w) : Calls Tryz.prog 51 #[.string ⟨#[a, b]⟩, .int .i64 16, .int .i64 8] w (PUP (hexN [a, b]) w) := by
  have HE := Lib.hid hE
  clear hE
  have HP := Lib.hid (parse16 a b w)
  generalize hexN [a, b] = o at HP ⊢
  have hne := synE_neq
  cases o with
  | none =>
    have HP2 : Hid (Calls Tryz.prog 76 #[.string ⟨#[a, b]⟩, .int .i64 16, .int .i64 8] w fun e w' => e = .returned (.tuple #[.int .u64 0, .iface 144 (.int .i64 2)]) ∧ Below w.heap.size w w') := Lib.hid (HP.out.mono fun e w' h => ⟨h.2, h.1⟩)
    clear HP
    unfold synE at hne
    go_enter Tryz.func51, Tryz.ntmps51
    go_wp2_with (first
      | (go_at_call 76; refine HP2.out.mono ?_; rintro e w' ⟨rfl, hb⟩; have HE2 := Lib.hid (HE.out.below hb); have HB := Lib.hid hb; clear hb)
      | (go_at_call 77
         obtain ⟨tp, p, hs⟩ := HE2.out.syn
         have hs0 := World.var?_cell gSyn hs 0
         refine (Tryz.strconv_toError_syntax _ _ _ _ (.iface tp p) _ (by show (2 : Nat) ≤ _; omega) (by simpa using hs0) (.inr ⟨_, _, rfl⟩)).mono ?_
         rintro e w3 ⟨N, rfl, _, _, hb⟩
         have HB := Lib.hid (HB.out.trans (hb.mono HB.out.size))
         clear hb hs hs0))
    go_ret2
    exact ⟨HB.out, N, rfl⟩
  | some n =>
    have HP2 : Hid (Calls Tryz.prog 76 #[.string ⟨#[a, b]⟩, .int .i64 16, .int .i64 8] w fun e w' => e = .returned (.tuple #[.int .u64 (n : Int), .nilIface]) ∧ Below w.heap.size w w') := Lib.hid (HP.out.mono fun e w' h => ⟨h.2, h.1⟩)
    clear HP hne
    go_enter Tryz.func51, Tryz.ntmps51
    go_wp2_with (go_at_call 76; refine HP2.out.mono ?_; rintro e w' ⟨rfl, hb⟩; have HB := Lib.hid hb; clear hb)
    go_ret2
    exact ⟨HB.out, rfl⟩
end Go.Proofs.YtokkbipdkakenaaGreatDoor

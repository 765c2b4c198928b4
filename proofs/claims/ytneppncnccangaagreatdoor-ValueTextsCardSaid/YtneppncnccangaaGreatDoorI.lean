/- between, number: the parts of a guess. -/
import Derived.Test.YtneppncnccangaaGreatDoorH
namespace Go.Proofs.YtneppncnccangaaGreatDoor
open Go.RowKit

/-- what stands between an opening and a last quote -/
def betw (s op : List UInt8) : Option (List UInt8) :=
  if Lib.hasPrefix s op = true ∧ Lib.hasSuffix (s.drop op.length) [39] = true then some ((s.drop op.length).take ((s.drop op.length).length - 1)) else none
/-- what between answers -/
def BT (o : Option (List UInt8)) (w : World) : Ending → World → Prop := fun e w' => w = w' ∧ match o with
  | some l => e = .returned (.tuple #[.string ⟨l.toArray⟩, .bool true])
  | none => ∃ x, e = .returned (.tuple #[.string x, .bool false])
set_option maxHeartbeats 2000000 in
theorem between_any (s op : ByteArray) (hs : s.size ≤ 1000) (w : World) : Calls Tryz.prog 40 #[.string s, .string op] w (BT (betw s.data.toList op.data.toList) w) := by
  cases hp : Lib.hasPrefix s.data.toList op.data.toList with
  | false =>
    have HU : Hid (betw s.data.toList op.data.toList = none) := Lib.hid (by unfold betw; rw [if_neg (by rw [hp]; simp)])
    have HC := Lib.hid (Tryz.strings_CutPrefix s op)
    rw [hp] at HC
    have HR : Hid (∀ x w', w = w' → BT (betw s.data.toList op.data.toList) w (.returned (.tuple #[.string x, .bool false])) w') := Lib.hid (fun x w' h => by rw [HU.out]; exact ⟨h, x, rfl⟩)
    clear hp
    go_enter Tryz.func40, Tryz.ntmps40
    go_wp2_with (go_at_call 54; refine (HC.out _).mono ?_; rintro e w' ⟨rfl, rfl⟩)
    go_ret2
    exact HR.out _ _ rfl
  | true =>
    obtain ⟨r, hr⟩ : ∃ r, r = s.data.toList.drop op.data.toList.length := ⟨_, rfl⟩
    have ht : Lib.trimPrefix s.data.toList op.data.toList = r := by unfold Lib.trimPrefix; rw [if_pos hp, hr]
    have hrs : r.length ≤ 1000 := by
      rw [hr, List.length_drop]
      have := size_list s
      omega
    have HC := Lib.hid (Tryz.strings_CutPrefix s op)
    rw [hp, ht] at HC
    have HS := Lib.hid (fun w => Tryz.strings_CutSuffix ⟨r.toArray⟩ ⟨#[39]⟩ w (by rw [size_of]; omega))
    cases hq : Lib.hasSuffix r [39] with
    | false =>
      have HU : Hid (betw s.data.toList op.data.toList = none) := Lib.hid (by unfold betw; rw [if_neg (by rw [← hr, hq]; simp)])
      have HS2 : Hid (∀ w, Calls Tryz.prog 55 #[.string ⟨r.toArray⟩, .string ⟨#[39]⟩] w fun e w' => e = .returned (.tuple #[.string ⟨r.toArray⟩, .bool false]) ∧ w = w') := Lib.hid fun w => (HS.out w).mono fun e w' ⟨h1, h2⟩ => ⟨by rw [h1]; simp [Lib.trimSuffix, hq], h2.symm⟩
      have HR : Hid (∀ x w', w = w' → BT (betw s.data.toList op.data.toList) w (.returned (.tuple #[.string x, .bool false])) w') := Lib.hid (fun x w' h => by rw [HU.out]; exact ⟨h, x, rfl⟩)
      clear hp hr ht hrs hq HS
      go_enter Tryz.func40, Tryz.ntmps40
      go_wp2_with (first
        | (go_at_call 54; refine (HC.out _).mono ?_; rintro e w' ⟨rfl, rfl⟩)
        | (go_at_call 55; refine (HS2.out _).mono ?_; rintro e w' ⟨rfl, rfl⟩))
      go_ret2
      exact HR.out _ _ rfl
    | true =>
      obtain ⟨m, hm⟩ : ∃ m, m = r.take (r.length - 1) := ⟨_, rfl⟩
      have HU : Hid (betw s.data.toList op.data.toList = some m) := Lib.hid (by unfold betw; rw [if_pos ⟨hp, by rw [← hr, hq]⟩, ← hr, hm])
      have HS2 : Hid (∀ w, Calls Tryz.prog 55 #[.string ⟨r.toArray⟩, .string ⟨#[39]⟩] w fun e w' => e = .returned (.tuple #[.string ⟨m.toArray⟩, .bool true]) ∧ w = w') := Lib.hid fun w => (HS.out w).mono fun e w' ⟨h1, h2⟩ => ⟨by rw [h1]; simp [Lib.trimSuffix, hq, hm], h2.symm⟩
      have HR : Hid (∀ w', w = w' → BT (betw s.data.toList op.data.toList) w (.returned (.tuple #[.string ⟨m.toArray⟩, .bool true])) w') := Lib.hid (fun w' h => by rw [HU.out]; exact ⟨h, rfl⟩)
      clear hp hr ht hrs hq hm HS
      go_enter Tryz.func40, Tryz.ntmps40
      go_wp2_with (first
        | (go_at_call 54; refine (HC.out _).mono ?_; rintro e w' ⟨rfl, rfl⟩)
        | (go_at_call 55; refine (HS2.out _).mono ?_; rintro e w' ⟨rfl, rfl⟩))
      go_ret2
      exact HR.out _ rfl
end Go.Proofs.YtneppncnccangaaGreatDoor

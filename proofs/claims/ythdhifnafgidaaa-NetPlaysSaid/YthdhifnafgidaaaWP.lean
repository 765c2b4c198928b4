/- Package row: takeValue, by kind. -/
import Derived.Test.YthdhifnafgidaaaWO
namespace Go.Proofs.Ythdhifnafgidaaa
open Go.RowKit

theorem right_no_kindR {k : Int} (h : 5 < k) : rightB ⟨k, 0, ⟨#[]⟩⟩ = false := by
  unfold rightB
  rw [if_neg (by simp only; omega), if_neg (by simp only; omega), if_neg (by simp only; omega)]
theorem right_no_boolR {N : Int} (h : 1 < N) (h2 : N < 256) : rightB ⟨1, N, ⟨#[]⟩⟩ = false := by
  rw [Bool.eq_false_iff]
  intro hR
  rcases Val.R.cases (x := ⟨1, N, ⟨#[]⟩⟩) ⟨hR, ⟨by unfold i64ok; simp only; omega, by unfold i64ok; simp only; omega⟩⟩ with ⟨a, _⟩ | ⟨_, b, _⟩ | ⟨a, _⟩ | ⟨a, _⟩ <;> simp only at * <;> omega
theorem takeNumber_yes (u : Nat) (r : List UInt8) (g B : Nat) (w : World) (hu : u < 18446744073709551616) (h : Src w g B (vL u ++ r)) : Calls Try.prog 64 #[.func (.func 63) #[] #[.pointer (some ⟨g, 0, none⟩)]] w (fun e w' => e = .returned (.tuple #[.int .i64 (zag u), .int .i64 ((vL u).length : Int), .bool true]) ∧ Src w' g B r ∧ w.grownBy w' (some g)) := (takeNumber_any _ g B w h).mono fun e w' ⟨hg, hc⟩ => by
  rcases hc with ⟨v, s, _, h2, rfl, hs⟩ | ⟨hno, _⟩
  · obtain ⟨rfl, rfl⟩ := vL_inj h2
    exact ⟨rfl, hs, hg⟩
  · exact absurd rfl (hno u r hu)
theorem takeNumber_no (t : List UInt8) (g B : Nat) (w : World) (hno : ∀ u r, u < 18446744073709551616 → t ≠ vL u ++ r) (h : Src w g B t) : Calls Try.prog 64 #[.func (.func 63) #[] #[.pointer (some ⟨g, 0, none⟩)]] w (fun e w' => e = .returned (.tuple #[.int .i64 0, .int .i64 0, .bool false]) ∧ ∃ r, Src w' g B r ∧ w.grownBy w' (some g)) := (takeNumber_any _ g B w h).mono fun e w' ⟨hg, hc⟩ => by
  rcases hc with ⟨v, s, hv, h2, _⟩ | ⟨_, rfl, r, hs⟩
  · exact absurd h2 (hno v s hv)
  · exact ⟨rfl, r, hs, hg⟩
theorem takeText_yes (s r : List UInt8) (g B : Nat) (w : World) (hs : s.length ≤ 200) (sb : ByteArray) (hsb : sb = ⟨s.toArray⟩) (h : Src w g B (vL (zig (s.length : Int)) ++ (s ++ r))) : Calls Try.prog 65 #[.func (.func 63) #[] #[.pointer (some ⟨g, 0, none⟩)]] w (fun e w' => e = .returned (.tuple #[.string sb, .bool true]) ∧ Src w' g B r ∧ w.grownBy w' (some g)) := (takeText_any _ g B w h).mono fun e w' ⟨hg, hc⟩ => by
  rcases hc with ⟨s', r', sb', hb', _, h2, rfl, hs'⟩ | ⟨hno, _⟩
  · obtain ⟨h3, h4⟩ := vL_inj h2
    have h5 : s.length = s'.length := by have := zig_inj h3; omega
    obtain ⟨rfl, rfl⟩ := List.append_inj h4 h5
    subst hb' hsb
    exact ⟨rfl, hs', hg⟩
  · exact absurd rfl (hno s r hs)
theorem takeText_no (t : List UInt8) (g B : Nat) (w : World) (hno : ∀ s r : List UInt8, s.length ≤ 200 → t ≠ vL (zig (s.length : Int)) ++ (s ++ r)) (h : Src w g B t) : Calls Try.prog 65 #[.func (.func 63) #[] #[.pointer (some ⟨g, 0, none⟩)]] w (fun e w' => e = .returned (.tuple #[.string ⟨#[]⟩, .bool false]) ∧ ∃ r, Src w' g B r ∧ w.grownBy w' (some g)) := (takeText_any _ g B w h).mono fun e w' ⟨hg, hc⟩ => by
  rcases hc with ⟨s', r', sb', _, hl, h2, _⟩ | ⟨_, rfl, r, hs⟩
  · exact absurd h2 (hno s' r' hl)
  · exact ⟨rfl, r, hs, hg⟩
end Go.Proofs.Ythdhifnafgidaaa

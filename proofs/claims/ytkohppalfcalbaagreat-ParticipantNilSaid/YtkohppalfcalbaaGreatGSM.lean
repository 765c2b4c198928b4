/- Package shard: Back. -/
import Derived.Test.YtkohppalfcalbaaGreatGSX1
namespace Go.Proofs.YtkohppalfcalbaaGreat
open Go.RowKit

set_option maxRecDepth 100000 in
theorem sback_no {w : World} {ℓ : Nat → Nat} {c p q sm km : Nat} {T : List ShT} (h : Kn w ℓ c p q sm km T) {n : Int} (hn : i64ok n) (mk : Int) (hno : acE T n ≠ 0) : Calls Tryz.prog 15 #[.pointer (some ⟨c, 0, none⟩), .int .i64 n, .int .i64 mk] w (Looks (.int .i64 (acE T n)) w) := by
  have HA := Lib.hid (active_tx h hn)
  have hz := acV_no hno
  rw [hz] at HA
  obtain ⟨z, hz2⟩ : ∃ z, acE T n = z := ⟨_, rfl⟩
  rw [hz2] at hno HA ⊢
  clear hz hz2 h
  go_enter Tryz.func15, Tryz.ntmps15
  go_wp2_with (go_at_call 49; refine HA.out.mono ?_; rintro e w1 ⟨rfl, rfl⟩)
  go_ret
  exact ⟨rfl, rfl⟩
set_option maxRecDepth 100000 in
theorem sback_bad {w : World} {ℓ : Nat → Nat} {c p q sm km : Nat} {T : List ShT} (h : Kn w ℓ c p q sm km T) {n : Int} (hn : i64ok n) {x : ShT} (hf : fndT T n = some x) (hp : x.t.p = false) {mk : Int} (hmk : mk < 0 ∨ (x.t.cs.length : Int) < mk) : Calls Tryz.prog 15 #[.pointer (some ⟨c, 0, none⟩), .int .i64 n, .int .i64 mk] w (Looks (.int .i64 1) w) := by
  have HA := Lib.hid (active_tx h hn)
  have hz : acV T n = .tuple #[.pointer (some ⟨x.t.b, 0, none⟩), .int .i64 0] := by unfold acV; rw [hf]; simp [hp]
  rw [hz] at HA
  have hx := (fndT_some hf).1
  obtain ⟨x0, _, _⟩ := box3S (h.tr x hx).box
  obtain ⟨A, cap, hv⟩ := (h.tr x hx).row.lens
  rw [hv] at x0
  have hle : (x.t.cs.length : Int) ≤ 1000 := by have := (h.tr x hx).few; omega
  generalize x.t.cs.length = N at x0 hle hmk
  generalize x.t.b = b at x0 HA
  clear hz hf hx hp h hv
  by_cases h0 : mk < 0
  · clear hmk
    go_enter Tryz.func15, Tryz.ntmps15
    go_wp2_with (go_at_call 49; refine HA.out.mono ?_; rintro e w1 ⟨rfl, rfl⟩)
    go_ret
    exact ⟨rfl, rfl⟩
  · have h1 : (N : Int) < mk := hmk.resolve_left h0
    clear hmk
    go_enter Tryz.func15, Tryz.ntmps15
    go_wp2_with (go_at_call 49; refine HA.out.mono ?_; rintro e w1 ⟨rfl, rfl⟩)
    go_ret
    exact ⟨rfl, rfl⟩
end Go.Proofs.YtkohppalfcalbaaGreat

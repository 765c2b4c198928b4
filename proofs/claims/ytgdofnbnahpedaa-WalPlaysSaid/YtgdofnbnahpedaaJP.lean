/- Layer 7's live question; WalNil. -/
import Derived.Test.YtgdofnbnahpedaaJN
namespace Go.Proofs.Ytgdofnbnahpedaa
open Go.RowKit

theorem check_hi : crcL 65535 [49, 50, 51, 52, 53, 54, 55, 56, 57] = 10673 := by decide +kernel
theorem hi_end {j : Nat} {x : Nat × Nat} (h : (placesOf 0 [[104, 105]])[j]? = some x) : ((0 : Nat) : Int) < (x.2 : Int) := by
  obtain ⟨h1, h2⟩ := placesOf_get _ _ _ _ h
  have : j = 0 := by simp at h1; exact h1
  subst this
  rw [h2]
  decide
/-- what a call that turns a log, or its disk, leaves, seen from below -/
theorem Only.wl {w w' : World} {B q p g d : Nat} (hO : Only (fun k => k = q ∨ k = p ∨ k = g ∨ k = d) w w') (hB : B ≤ w.heap.size) (hq : B ≤ q) (hp : B ≤ p) (hg : B ≤ g) (hd : B ≤ d) : Below B w w' := hO.below hB (fun j h => by rcases h with rfl | rfl | rfl | rfl <;> omega)
set_option maxRecDepth 100000 in
set_option maxHeartbeats 4000000 in
theorem alive_wal (w : World) : Calls Try.prog 40 #[] w (Ans (.bool true) w) := by
  have kc := fun (w : World) (C : Array Value) (n c : Nat) => Lib.run_convert_bytes_const (P := Try.prog) w 23 5 C n c Try.underlying23 Try.underlying5
  go_enter Try.func40, Try.ntmps40
  go_wp2_with (first
    | (go_at_call 17; refine (new_any _).mono ?_; rintro e w1 ⟨p, rfl, hd, hb⟩
       have HD := Lib.hid hd
       have HB1 := Lib.hid hb
       clear hd hb)
    | (go_at_call 18; refine (open_any HD.out HB1.out.size [] [] rfl rfl (by intro r hr; cases hr)).mono ?_; rintro e w2 ⟨q, d, rfl, hw, hq, hdd, hO⟩
       have HB2 := Lib.hid (onlyP HB1.out (Nat.le_refl _) hO HD.out.ge.1)
       have HW2 := Lib.hid hw
       have HA2 := Lib.hid (fun o => hw.below (alloc_below w2 o))
       have HAB := Lib.hid (fun o => (HB2.out.trans ((alloc_below w2 o).mono HB2.out.size)))
       clear hw hq hdd hO HD)
    | (go_at_call 20; refine (wappend_yes (HA2.out _) (HAB.out _).size [104, 105] (some ⟨w2.heap.size, 0, none⟩) 2 _ rfl (by decide) (rd_lit w2 [104, 105] _ _ rfl) (by decide)).mono ?_; rintro e w3 ⟨he, g3, d3, hw, hO, hg, hd3⟩
       have he2 : e = .returned (.tuple #[.int .i64 0, .int .i64 0]) := he
       have HB3 := Lib.hid ((HAB.out _).trans (hO.wl (HAB.out _).size HW2.out.ge.1 HW2.out.disk.ge.1 HW2.out.disk.ge.2 HW2.out.ge.2))
       have HW3 := Lib.hid hw
       clear hw hO hg hd3 he
       subst he2)
    | (go_at_call 38; refine (wread_yes HW3.out (j := 0) (r := [104, 105]) rfl 0 rfl).mono ?_; rintro e w4 ⟨v4, rfl, ho, hb⟩
       have hcv := conv_own ho
       have e4 : ([104, 105] : List UInt8).toArray = #[104, 105] := rfl
       rw [e4] at hcv
       have HB4 := Lib.hid (belowM HB3.out (Nat.le_refl _) hb)
       have HW4 := Lib.hid (HW3.out.below hb)
       clear ho hb)
    | (go_at_call 33; refine (wsafe_any HW4.out 0 ⟨Nat.zero_le _, fun j x _ hj => absurd hj (Nat.not_lt_zero _), fun j x hx _ => hi_end hx⟩).mono ?_; rintro e w5 ⟨rfl, hb⟩
       have HB5 := Lib.hid (belowM HB4.out (Nat.le_refl _) hb)
       have HW5 := Lib.hid (HW4.out.below hb)
       clear hb)
    | (go_at_call 36; refine (end_at HW5.out.disk 7 rfl).mono ?_; rintro e w6 ⟨rfl, n, hn⟩
       have HB6 : Hid (Below w.heap.size w w6) := Lib.hid (by rw [hn]; exact belowM HB5.out (Nat.le_refl _) (drewN_below w5 n))
       have HZ : Hid (∀ o, Ans (.bool true) w (.returned (.bool true)) (w6.alloc o)) := Lib.hid (fun o => ⟨rfl, belowM HB6.out (Nat.le_refl _) (alloc_below w6 o)⟩)
       clear hn)
    | (go_at_call 82; refine (check_any [49, 50, 51, 52, 53, 54, 55, 56, 57] _ 9 _ _ rfl (by decide) _ (rd_lit w6 [49, 50, 51, 52, 53, 54, 55, 56, 57] _ _ rfl)).mono ?_; rintro e w7 ⟨he, rfl⟩
       rw [check_hi] at he
       subst he))
  go_ret
  exact HZ.out _
set_option maxRecDepth 100000 in
theorem nilw_append (v : Value) (w : World) : Calls Try.prog 20 #[.pointer none, v] w (Looks (.tuple #[.int .i64 0, .int .i64 1]) w) := by
  go_enter Try.func20, Try.ntmps20
  go_wp2_with fail
  go_ret2
  exact ⟨rfl, rfl⟩
set_option maxRecDepth 100000 in
theorem nilw_read (v : Value) (w : World) : Calls Try.prog 38 #[.pointer none, v] w (Looks (.tuple #[.slice none 0 0, .int .i64 1]) w) := by
  go_enter Try.func38, Try.ntmps38
  go_wp2_with fail
  go_ret2
  exact ⟨rfl, rfl⟩
set_option maxRecDepth 100000 in
theorem nilw_sync (w : World) : Calls Try.prog 22 #[.pointer none] w (Looks (.int .i64 1) w) := by
  go_enter Try.func22, Try.ntmps22
  go_wp2_with fail
  go_ret
  exact ⟨rfl, rfl⟩
set_option maxRecDepth 100000 in
theorem nilw_trim (v : Value) (w : World) : Calls Try.prog 26 #[.pointer none, v] w (Looks (.int .i64 1) w) := by
  go_enter Try.func26, Try.ntmps26
  go_wp2_with fail
  go_ret
  exact ⟨rfl, rfl⟩
set_option maxRecDepth 100000 in
theorem nilw_numbers (w : World) : Calls Try.prog 25 #[.pointer none] w (Looks (.slice none 0 0) w) := by
  go_enter Try.func25, Try.ntmps25
  go_wp2_with fail
  go_ret
  exact ⟨rfl, rfl⟩
set_option maxRecDepth 100000 in
theorem nilw_safe (w : World) : Calls Try.prog 33 #[.pointer none] w (Looks (.int .i64 0) w) := by
  go_enter Try.func33, Try.ntmps33
  go_wp2_with fail
  go_ret
  exact ⟨rfl, rfl⟩
theorem box4 {w : World} {b : Nat} {x y z u : Value} {t : TypeId} {fr : Nat × Nat} (h : w.heap[b]? = some (.cells #[x, y, z, u] t fr)) : w.cell? ⟨b, 0, none⟩ = some x ∧ w.cell? ⟨b, 1, none⟩ = some y ∧ w.cell? ⟨b, 2, none⟩ = some z ∧ w.cell? ⟨b, 3, none⟩ = some u := by
  simp [World.cell?, h]
end Go.Proofs.Ytgdofnbnahpedaa

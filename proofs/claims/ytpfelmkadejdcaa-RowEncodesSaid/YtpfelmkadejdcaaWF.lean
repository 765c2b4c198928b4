/- Layer 5's live question; few. -/
import Derived.Test.YtpfelmkadejdcaaWE
namespace Go.Proofs.Ytpfelmkadejdcaa
open Go.RowKit

set_option maxRecDepth 100000 in
set_option maxHeartbeats 2000000 in
theorem few5_any (l : List Val) (A : Option Addr) (cap : Nat) (w : World) (hl : l.length ≤ maxLen) (hok : AllOk l) (hr : RdV w w.heap.size A l) :
    Calls Try.prog 17 #[.slice A l.length cap] w fun e w' => e = .returned (.bool (fewB l)) ∧ w = w' := by
  have HR := Lib.hid hr
  have HK := Lib.hid hok
  have HS : Hid (FWL l (.int .i64 0)) := Lib.hid ⟨0, rfl, Nat.zero_le _, by omega, fun x hx => by simp at hx⟩
  have hli : (l.length : Int) ≤ 9223372036854775807 := by unfold maxLen at hl; omega
  have HLI := Lib.hid hli
  have HLB : Hid (fewB l = (decide (l.length ≤ 20) && l.all fun x => decide (x.s.size ≤ 500))) := Lib.hid rfl
  generalize fewB l = res at HLB ⊢
  clear hr hok hli hl
  go_enter Try.func17, Try.ntmps17
  go_wp2_with fail
  go_loop [3] (fun v3 => FWL l v3) (fun v3 => l.length - (intOf v3).toNat)
  case atStart => exact HS.out
  case round =>
    obtain ⟨k, rfl, hk, hk20, hall⟩ := hrel
    have HA := Lib.hid hall
    clear hall
    by_cases hlt : k < l.length
    · have hki : (k : Int) < (l.length : Int) := by omega
      by_cases h20 : k = 20
      · subst h20
        have HE : Hid (res = false) := Lib.hid (by rw [HLB.out, decide_eq_false (by omega)]; rfl)
        clear hk hk20 hlt
        go_wp2_with fail
        go_ret
        exact ⟨(by rw [HE.out]; rfl), rfl⟩
      · obtain ⟨x, hx⟩ : ∃ x, l[k]? = some x := ⟨_, List.getElem?_eq_getElem hlt⟩
        have h20b : ((k : Int) == 20) = false := beq_false_of_ne (by omega)
        obtain ⟨b, o, hA, _, _, c2⟩ := HR.out.at_ hx (Below.refl _ w) (Nat.le_refl _)
        subst hA
        have hsz := (HK.out x (List.mem_of_getElem? hx)).2
        have HX := Lib.hid hx
        clear hx
        by_cases hs : x.s.size ≤ 500
        · have hsi : ¬ (500 : Int) < (x.s.size : Int) := by omega
          have HY : Hid (∀ v3, v3 = .int .i64 ((k + 1 : Nat) : Int) → FWL l v3) := Lib.hid fun v3 h3 => ⟨k + 1, h3, hlt, by omega, take_next HX.out HA.out hs⟩
          have hkm : (k : Int) + 1 ≤ 9223372036854775807 := by omega
          clear hs hsz hk hk20 h20
          go_wp2_with fail
          go_round
          case rel => exact HY.out _ (by go_num)
          case measure => clear hkm; simp [intOf]; omega
        · have hsi : (500 : Int) < (x.s.size : Int) := by omega
          have HE : Hid (res = false) := Lib.hid (by
            rw [HLB.out, Bool.and_eq_false_iff, List.all_eq_false]
            exact .inr ⟨x, List.mem_of_getElem? HX.out, by simpa using by omega⟩)
          clear hs hsz hk hk20 h20
          go_wp2_with fail
          go_ret
          exact ⟨(by rw [HE.out]; rfl), rfl⟩
    · have hkl : k = l.length := by omega
      subst hkl
      have HE : Hid (res = true) := Lib.hid (by
        rw [HLB.out, decide_eq_true hk20, Bool.true_and, List.all_eq_true]
        intro x hx
        have := HA.out x (by rw [List.take_of_length_le (Nat.le_refl _)]; exact hx)
        exact decide_eq_true this)
      have hnlt : ¬ ((l.length : Int) < (l.length : Int)) := by omega
      clear hlt hk hk20
      go_wp2_with fail
      go_ret
      exact ⟨(by rw [HE.out]; rfl), rfl⟩
def alive5L : List Val := [⟨2, -65, ⟨#[]⟩⟩, ⟨4, 0, ⟨#[97]⟩⟩]
theorem alive5_R : ∀ x ∈ alive5L, x.R := by
  intro x hx
  simp only [alive5L, List.mem_cons, List.not_mem_nil, or_false] at hx
  rcases hx with rfl | rfl
  · exact ⟨by decide, by unfold Val.ok i64ok; simp only; omega⟩
  · exact ⟨by decide, by unfold Val.ok i64ok; simp only; omega⟩
theorem alive5_rd (w : World) : RdV (w.alloc (.cells #[.int .i64 2, .int .i64 (-65), .string ⟨#[]⟩, .int .i64 4, .int .i64 0, .string ⟨#[97]⟩] 57)) (w.alloc (.cells #[.int .i64 2, .int .i64 (-65), .string ⟨#[]⟩, .int .i64 4, .int .i64 0, .string ⟨#[97]⟩] 57)).heap.size (some ⟨w.heap.size, 0, none⟩) alive5L := fun _ => by
  have hh : (w.alloc (.cells #[.int .i64 2, .int .i64 (-65), .string ⟨#[]⟩, .int .i64 4, .int .i64 0, .string ⟨#[97]⟩] 57)).heap[w.heap.size]? = _ := heap_alloc_new w _
  refine ⟨_, 0, rfl, by simp, fun j x hx => ?_⟩
  rw [cell_of_row _ _ _ _ _ (0, 0) hh, cell_of_row _ _ _ _ _ (0, 0) hh, cell_of_row _ _ _ _ _ (0, 0) hh]
  match j with
  | 0 => simp [alive5L] at hx; subst hx; exact ⟨rfl, rfl, rfl⟩
  | 1 => simp [alive5L] at hx; subst hx; exact ⟨rfl, rfl, rfl⟩
  | j + 2 => simp [alive5L] at hx
theorem alive5_bytes : rowB alive5L = [2, 2, 129, 1, 4, 2, 97] := by
  have e1 : zig (-65) = 129 := by decide
  have e2 : zig 1 = 2 := by decide
  have e3 : vL 129 = [129, 1] := by rw [vL_hi (by decide), vL_lo (by decide)]; rfl
  have e4 : vL 2 = [2] := by rw [vL_lo (by decide)]; rfl
  simp [rowB, rowL, rowV, bodyR, alive5L, e1, e2, e3, e4]
set_option maxRecDepth 100000 in
theorem alive5_any (w : World) : Calls Try.prog 18 #[] w (Ans (.bool true) w) := by
  have HA := Lib.hid (alloc_below w (.cells #[.int .i64 2, .int .i64 (-65), .string ⟨#[]⟩, .int .i64 4, .int .i64 0, .string ⟨#[97]⟩] 57))
  go_enter Try.func18, Try.ntmps18
  go_wp2_with (go_at_call 19; refine (encodeR_right alive5L _ _ _ rfl _ (by decide) (fun x hx => ⟨(alive5_R x hx).2, by simp only [alive5L, List.mem_cons, List.not_mem_nil, or_false] at hx; rcases hx with rfl | rfl <;> decide⟩) alive5_R (alive5_rd w)).mono ?_; rintro e w2 ⟨v, rfl, ho, hb⟩
               have hcv := conv_own ho
               rw [alive5_bytes] at hcv
               have HY : Hid (Ans (.bool true) w (.returned (.bool true)) w2) := Lib.hid ⟨rfl, HA.out.trans (hb.mono HA.out.size)⟩
               clear ho hb)
  go_ret
  exact HY.out
end Go.Proofs.Ytpfelmkadejdcaa

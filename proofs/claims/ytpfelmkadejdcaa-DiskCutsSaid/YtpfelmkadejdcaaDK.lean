/- DiskCuts: the law's own body answers true. -/
import Derived.Test.YtpfelmkadejdcaaDI
namespace Go.Proofs.Ytpfelmkadejdcaa
open Go.RowKit

theorem pickZ_zero (n : Nat) : pickZ 0 n = 0 := by simp [pickZ]
set_option maxRecDepth 100000 in
set_option maxHeartbeats 4000000 in
theorem diskCuts_big (a b : List UInt8) (A C : Option Addr) (ca cb : Nat) (c : Int) (w : World) (h : ¬ (a.length ≤ 300 ∧ b.length ≤ 300)) :
    Calls Try.prog 9 #[.slice A a.length ca, .slice C b.length cb, .int .i64 c] w (Ans (.bool true) w) := by
  by_cases ha : (300 : Int) < a.length
  · clear h
    go_enter Try.func9, Try.ntmps9
    go_wp2_with (first
      | (go_at_call 23; refine (new_any _).mono ?_; rintro e w1 ⟨p, rfl, hd, hb⟩
         have HB := Lib.hid hb
         clear hd hb)
      | (go_at_call 39; refine (alive_disk _).mono ?_; rintro e w2 ⟨rfl, hb⟩
         have HY : Hid (Ans (.bool true) w (.returned (.bool true)) w2) := Lib.hid ⟨rfl, belowM HB.out (Nat.le_refl _) hb⟩
         clear hb))
    go_ret
    exact HY.out
  · have hb : (300 : Int) < b.length := by omega
    clear h
    go_enter Try.func9, Try.ntmps9
    go_wp2_with (first
      | (go_at_call 23; refine (new_any _).mono ?_; rintro e w1 ⟨p, rfl, hd, hb⟩
         have HB := Lib.hid hb
         clear hd hb)
      | (go_at_call 39; refine (alive_disk _).mono ?_; rintro e w2 ⟨rfl, hb⟩
         have HY : Hid (Ans (.bool true) w (.returned (.bool true)) w2) := Lib.hid ⟨rfl, belowM HB.out (Nat.le_refl _) hb⟩
         clear hb))
    go_ret
    exact HY.out
set_option maxRecDepth 100000 in
set_option maxHeartbeats 8000000 in
theorem diskCuts_small (a b : List UInt8) (A C : Option Addr) (ca cb : Nat) (c : Int) (w : World) (ha : a.length ≤ 300) (hb : b.length ≤ 300) (hca : a.length ≤ ca) (hra : RdB w w.heap.size A a) (hrb : RdB w w.heap.size C b) (h0 : i64ok c) :
    Calls Try.prog 9 #[.slice A a.length ca, .slice C b.length cb, .int .i64 c] w (Ans (.bool true) w) := by
  obtain ⟨k, hk⟩ : ∃ k, k = pickZ c (a.length + 1) := ⟨_, rfl⟩
  have hka : k ≤ a.length := by have := pickZ_lt c (n := a.length + 1) (by omega); omega
  obtain ⟨T, hT⟩ : ∃ T : List UInt8, T = a.take k := ⟨_, rfl⟩
  have hTl : T.length = k := by rw [hT, List.length_take]; omega
  obtain ⟨L, hL⟩ : ∃ L : List UInt8, L = T ++ b := ⟨_, rfl⟩
  have hLl : L.length = k + b.length := by rw [hL, List.length_append, hTl]
  obtain ⟨sa, hsa⟩ := ba_of T
  obtain ⟨sb, hsb⟩ := ba_of b
  have hsL : (sa ++ sb).data.toList = L := by rw [cat_list, hsa, hsb, hL]
  have hsz : ¬ 9223372036854775807 < sa.size + sb.size := by
    have e1 : sa.size = T.length := by rw [← hsa]; simp
    have e2 : sb.size = b.length := by rw [← hsb]; simp
    rw [e1, e2]
    omega
  have HRA : Hid (∀ w', Below w.heap.size w w' → RdB w' w'.heap.size A a) := Lib.hid fun w' h => (hra.below h (Nat.le_refl _)).more h.size
  have HRB : Hid (∀ w', Below w.heap.size w w' → RdB w' w'.heap.size C b) := Lib.hid fun w' h => (hrb.below h (Nat.le_refl _)).more h.size
  have HLEN : Hid (a.length ≤ 300 ∧ b.length ≤ 300 ∧ k ≤ a.length ∧ L.length = k + b.length ∧ T.length = k) := Lib.hid ⟨ha, hb, hka, hLl, hTl⟩
  have HN := Lib.hid hk
  have HTK : Hid (T = a.take (k - 0)) := Lib.hid hT
  have HLT : Hid (T = L.take (k + 0 - 0)) := Lib.hid (by rw [hL, Nat.sub_zero, Nat.add_zero, List.take_append_of_le_length (by omega), List.take_of_length_le (by omega)])
  have HTA : Hid (a.take k = T) := Lib.hid hT.symm
  have HL := Lib.hid hL
  have H0 := Lib.hid h0
  have HSA := Lib.hid hsa
  have HSB := Lib.hid hsb
  have HSL := Lib.hid hsL
  have hna : ¬ (300 : Int) < a.length := by omega
  have hnb' : ¬ (300 : Int) < b.length := by omega
  have hbi : (b.length : Int) ≤ 300 := by omega
  have hai : (a.length : Int) ≤ 300 := by omega
  have hni : (k : Int) ≤ 300 := by omega
  have hnc : (k : Int) ≤ ca := by omega
  clear ha hb hka hk hT hTl hL hLl hsa hsb hsL hra hrb h0 hca
  go_enter Try.func9, Try.ntmps9
  go_wp2_with (first
    | (go_at_call 23; refine (new_any _).mono ?_; rintro e w1 ⟨p, rfl, hd, hb⟩
       have HB1 := Lib.hid hb
       have HD1 := Lib.hid hd
       clear hd hb)
    | (go_at_call 24; refine (append_at HD1.out HB1.out.size a A _ _ rfl (HRA.out _ HB1.out) (by have := HLEN.out; simp; omega) 0 (by simp) a (by simp)).mono ?_; rintro e w2 ⟨rfl, g2, hd, hO, _⟩
       have HB2 := Lib.hid (onlyPG HB1.out (Nat.le_refl _) hO HD1.out.ge.1 HD1.out.ge.2)
       have HD2 := Lib.hid hd
       clear hd hO HD1)
    | (go_at_call 40; refine (pick_any c (a.length + 1) (by omega) (by have := HLEN.out; omega) H0.out k HN.out _ (by simp) _).mono ?_; rintro e w6 ⟨rfl, rfl⟩)
    | (go_at_call 30; refine (cut_yes HD2.out k (by omega) (by have := HLEN.out; omega)).mono ?_; rintro e w3 ⟨rfl, hd, hO⟩
       rw [← HTK.out] at hd
       have HB3 := Lib.hid (onlyP HB2.out (Nat.le_refl _) hO HD2.out.ge.1)
       have HD3 := Lib.hid hd
       clear hd hO HD2)
    | (go_at_call 24; refine (append_at HD3.out HB3.out.size b C _ _ rfl (HRB.out _ HB3.out) (by have := HLEN.out; omega) (k : Int) (by have := HLEN.out; omega) L HL.out).mono ?_; rintro e w4 ⟨rfl, g4, hd, hO, _⟩
       have HB4 := Lib.hid (onlyPG HB3.out (Nat.le_refl _) hO HD3.out.ge.1 HD3.out.ge.2)
       have HD4 := Lib.hid hd
       clear hd hO HD3)
    | (go_at_call 38; refine (end_at HD4.out ((k : Int) + (b.length : Int)) (by have := HLEN.out; omega)).mono ?_; rintro e w5 ⟨rfl, n5, rfl⟩
       have HB5 := Lib.hid (belowM HB4.out (Nat.le_refl _) (drewN_below _ n5))
       have HD5 := Lib.hid (HD4.out.below (drewN_below _ n5))
       clear HD4)
    | (go_at_call 32; refine (read_at HD5.out 0 (k + b.length) (by omega) (by omega) (by have := HLEN.out; omega) 0 _ rfl (by simp) L (by have := HLEN.out; rw [Nat.sub_zero, Nat.sub_zero, List.drop_zero, List.take_of_length_le (by omega)])).mono ?_; rintro e w6 ⟨v6, rfl, ho, hb⟩
       have HB6 := Lib.hid (belowM HB5.out (Nat.le_refl _) hb)
       have HD6 := Lib.hid (HD5.out.below hb)
       have HO6 := Lib.hid ho
       clear ho hb HD5)
    | (go_at_call 38; refine (end_at HD6.out ((k : Int) + (b.length : Int)) (by have := HLEN.out; omega)).mono ?_; rintro e w7 ⟨rfl, n7, rfl⟩
       have HB8 : Hid (∀ n, Below w.heap.size w (w6.drewN n)) := Lib.hid fun n => belowM HB6.out (Nat.le_refl _) (drewN_below _ n)
       have HD8 := Lib.hid (fun n => HD6.out.below (drewN_below w6 n))
       have HO8 := Lib.hid (fun n => HO6.out.below (drewN_below w6 n))
       clear HD6 HO6)
    | (go_at_call 32; refine (read_no (HD8.out _) 0 _ (by have := HLEN.out; omega)).mono ?_; rintro e w8 ⟨rfl, n8, rfl⟩)
    | (go_at_call 34; refine (power_at (HD8.out _) 0 ⟨by omega, by omega⟩ 0 (k + 0) (pickZ_zero _).symm rfl T HLT.out).mono ?_; rintro e w9 ⟨p9, g9, rfl, hd, hb⟩
       have HB9 := Lib.hid (belowM (HB8.out _) (Nat.le_refl _) hb)
       have HD9 := Lib.hid ((HD8.out _).below hb)
       have HO9 := Lib.hid ((HO8.out _).below hb)
       have HZ9 := Lib.hid hd
       clear hd hb HD8 HO8))
  have hs1 : IntKind.i64.wrap ((k : Int) + (b.length : Int) + 1) = (k : Int) + (b.length : Int) + 1 := IntWalk.i64_in _ (by omega)
  have HK9 : Hid (∀ W, W.heap = w9.heap → ((convert 23 9 v6).run Try.prog W = .ok (.string (sa ++ sb)) W ∧ (convert 23 9 (.slice A k ca)).run Try.prog W = .ok (.string sa) W ∧ (convert 23 9 (.slice C b.length cb)).run Try.prog W = .ok (.string sb) W)) :=
    Lib.hid (fun W e => by
      have hbw := HB9.out
      exact ⟨conv_ownS (HO9.out.heap e) _ HSL.out, conv_rd (((HRA.out _ hbw).take k).heap e) (by rw [HTA.out]; exact HLEN.out.2.2.2.2) _ (HSA.out.trans HTA.out.symm), conv_rd ((HRB.out _ hbw).heap e) rfl _ HSB.out⟩)
  try dsimp only [List.append]
  go_region_held3 (fun W => (convert 23 9 v6).run Try.prog W = .ok (.string (sa ++ sb)) W ∧ (convert 23 9 (.slice A k ca)).run Try.prog W = .ok (.string sa) W ∧ (convert 23 9 (.slice C b.length cb)).run Try.prog W = .ok (.string sb) W)
    (first
      | exact HK11.out _ rfl
      | exact HK9.out _ rfl)
    (first
    | (go_at_call 39; refine (alive_disk _).mono ?_; rintro e w11 ⟨rfl, hb⟩
       have hb := below_drew hb
       have hbw := belowM HB9.out (Nat.le_refl _) hb
       have HD11 := Lib.hid (HD9.out.below hb)
       have HZ11 := Lib.hid (HZ9.out.below hb)
       have HK11 : Hid (∀ W, W.heap = w11.heap → ((convert 23 9 v6).run Try.prog W = .ok (.string (sa ++ sb)) W ∧ (convert 23 9 (.slice A k ca)).run Try.prog W = .ok (.string sa) W ∧ (convert 23 9 (.slice C b.length cb)).run Try.prog W = .ok (.string sb) W)) :=
         Lib.hid (fun W e => ⟨conv_ownS ((HO9.out.below hb).heap e) _ HSL.out, conv_rd (((HRA.out _ hbw).take k).heap e) (by rw [HTA.out]; exact HLEN.out.2.2.2.2) _ (HSA.out.trans HTA.out.symm), conv_rd ((HRB.out _ hbw).heap e) rfl _ HSB.out⟩)
       have HY : Hid (∀ k, Ans (.bool true) w (.returned (.bool true)) (w11.drewN k)) := Lib.hid fun k => ⟨rfl, belowM hbw (Nat.le_refl _) (drewN_below _ k)⟩
       clear hb hbw HD9 HZ9 HO9)
    | (go_at_call_of 38 p9; refine (end_at (HZ11.out.heap (by rfl)) (k : Int) (by have := HLEN.out; omega)).mono ?_; rintro e w6 ⟨rfl, n6, rfl⟩)
    | (go_at_call_of 38 p; refine (end_at (HD11.out.heap (by rfl)) ((k : Int) + (b.length : Int)) (by have := HLEN.out; omega)).mono ?_; rintro e w6 ⟨rfl, n6, rfl⟩)
    | (go_at_call_of 30 b; refine (cut_no (HD11.out.heap (by rfl)) ((k : Int) + (b.length : Int) + 1) (by have := HLEN.out; omega)).mono ?_; rintro e w6 ⟨rfl, n6, rfl⟩)
    | (go_at_call 30; refine (cut_no (HD11.out.heap (by rfl)) (-1) (by omega)).mono ?_; rintro e w6 ⟨rfl, n6, rfl⟩)
    | (go_at_call 36; refine (safe_any (HD11.out.heap (by rfl))).mono ?_; rintro e w6 ⟨rfl, rfl⟩)
    | fail)
  go_wp2_with fail
  go_ret
  exact HY.out _
theorem diskCuts_law (a b : List UInt8) (A C : Option Addr) (ca cb : Nat) (c : Int) (w : World) (hca : a.length ≤ ca) (hra : RdB w w.heap.size A a) (hrb : RdB w w.heap.size C b) (h0 : i64ok c) :
    Calls Try.prog 9 #[.slice A a.length ca, .slice C b.length cb, .int .i64 c] w (Ans (.bool true) w) := by
  by_cases h : a.length ≤ 300 ∧ b.length ≤ 300
  · exact diskCuts_small a b A C ca cb c w h.1 h.2 hca hra hrb h0
  · exact diskCuts_big a b A C ca cb c w h
#print axioms diskCuts_law
end Go.Proofs.Ytpfelmkadejdcaa

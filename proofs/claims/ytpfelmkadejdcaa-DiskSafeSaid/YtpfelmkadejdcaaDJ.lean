/- DiskSafe: the law's own body answers true. -/
import Derived.Test.YtpfelmkadejdcaaDI
namespace Go.Proofs.Ytpfelmkadejdcaa
open Go.RowKit

set_option maxRecDepth 100000 in
set_option maxHeartbeats 4000000 in
theorem diskSafe_big (a b : List UInt8) (A C : Option Addr) (ca cb : Nat) (c0 c1 : Int) (w : World) (h : ¬ (a.length ≤ 300 ∧ b.length ≤ 300)) :
    Calls Try.prog 6 #[.slice A a.length ca, .slice C b.length cb, .agg #[.int .i64 c0, .int .i64 c1]] w (Ans (.bool true) w) := by
  have HBA := Lib.hid (alloc_below w (.cells #[.int .i64 c0, .int .i64 c1] 50))
  by_cases ha : (300 : Int) < a.length
  · clear h
    go_enter Try.func6, Try.ntmps6
    go_wp2_with (first
      | (go_at_call 23; refine (new_any _).mono ?_; rintro e w1 ⟨p, rfl, hd, hb⟩
         have HB := Lib.hid (belowM HBA.out (Nat.le_refl _) hb)
         clear hd hb)
      | (go_at_call 39; refine (alive_disk _).mono ?_; rintro e w2 ⟨rfl, hb⟩
         have HY : Hid (Ans (.bool true) w (.returned (.bool true)) w2) := Lib.hid ⟨rfl, belowM HB.out (Nat.le_refl _) hb⟩
         clear hb))
    go_ret
    exact HY.out
  · have hb : (300 : Int) < b.length := by omega
    clear h
    go_enter Try.func6, Try.ntmps6
    go_wp2_with (first
      | (go_at_call 23; refine (new_any _).mono ?_; rintro e w1 ⟨p, rfl, hd, hb⟩
         have HB := Lib.hid (belowM HBA.out (Nat.le_refl _) hb)
         clear hd hb)
      | (go_at_call 39; refine (alive_disk _).mono ?_; rintro e w2 ⟨rfl, hb⟩
         have HY : Hid (Ans (.bool true) w (.returned (.bool true)) w2) := Lib.hid ⟨rfl, belowM HB.out (Nat.le_refl _) hb⟩
         clear hb))
    go_ret
    exact HY.out
set_option maxRecDepth 100000 in
set_option maxHeartbeats 8000000 in
theorem diskSafe_small (a b : List UInt8) (A C : Option Addr) (ca cb : Nat) (c0 c1 : Int) (w : World) (ha : a.length ≤ 300) (hb : b.length ≤ 300) (hcb : b.length ≤ cb) (hra : RdB w w.heap.size A a) (hrb : RdB w w.heap.size C b) (h0 : i64ok c0) (h1 : i64ok c1) :
    Calls Try.prog 6 #[.slice A a.length ca, .slice C b.length cb, .agg #[.int .i64 c0, .int .i64 c1]] w (Ans (.bool true) w) := by
  obtain ⟨n, hn⟩ : ∃ n, n = pickZ c0 (b.length + 1) := ⟨_, rfl⟩
  have hnb : n ≤ b.length := by have := pickZ_lt c0 (n := b.length + 1) (by omega); omega
  obtain ⟨L, hL⟩ : ∃ L : List UInt8, L = a ++ b.take n := ⟨_, rfl⟩
  have hLl : L.length = a.length + n := by rw [hL, List.length_append, List.length_take]; omega
  obtain ⟨sa, hsa⟩ := ba_of a
  obtain ⟨sb, hsb⟩ := ba_of (b.take n)
  have hsL : (sa ++ sb).data.toList = L := by rw [cat_list, hsa, hsb, hL]
  have hsz : ¬ 9223372036854775807 < sa.size + sb.size := by
    have e1 : sa.size = a.length := by rw [← hsa]; simp
    have e2 : sb.size = (b.take n).length := by rw [← hsb]; simp
    rw [e1, e2, List.length_take]
    omega
  have EN : Hid (n = pickZ c0 (0 + (a ++ b).length - a.length + 1)) := Lib.hid (by rw [hn, List.length_append, show 0 + (a.length + b.length) - a.length = b.length by omega])
  have ET : Hid (L = (a ++ b).take (a.length + n - 0)) := Lib.hid (by rw [hL, Nat.sub_zero, List.take_append, show a.length + n - a.length = n by omega, List.take_of_length_le (l := a) (by omega)])
  have HW0 : Hid (Below w.heap.size w (w.alloc (.cells #[.int .i64 c0, .int .i64 c1] 50))) := Lib.hid (alloc_below w _)
  have HBX : Hid (∀ w', Below (w.alloc (.cells #[.int .i64 c0, .int .i64 c1] 50)).heap.size (w.alloc (.cells #[.int .i64 c0, .int .i64 c1] 50)) w' → w'.cell? ⟨w.heap.size, 0, none⟩ = some (.int .i64 c0) ∧ w'.cell? ⟨w.heap.size, 1, none⟩ = some (.int .i64 c1)) :=
    Lib.hid fun w' h => box2 ((h.block w.heap.size (by simp)).trans (heap_alloc_new _ _))
  have HRA : Hid (∀ w', Below w.heap.size w w' → RdB w' w'.heap.size A a) := Lib.hid fun w' h => (hra.below h (Nat.le_refl _)).more h.size
  have HRB : Hid (∀ w', Below w.heap.size w w' → RdB w' w'.heap.size C b) := Lib.hid fun w' h => (hrb.below h (Nat.le_refl _)).more h.size
  have HLEN : Hid (a.length ≤ 300 ∧ b.length ≤ 300 ∧ n ≤ b.length ∧ L.length = a.length + n) := Lib.hid ⟨ha, hb, hnb, hLl⟩
  have HN := Lib.hid hn
  have HL := Lib.hid hL
  have H0 := Lib.hid h0
  have H1 := Lib.hid h1
  have HSA := Lib.hid hsa
  have HSB := Lib.hid hsb
  have HSL := Lib.hid hsL
  have hna : ¬ (300 : Int) < a.length := by omega
  have hnb' : ¬ (300 : Int) < b.length := by omega
  have hbi : (b.length : Int) ≤ 300 := by omega
  have hai : (a.length : Int) ≤ 300 := by omega
  have hni : (n : Int) ≤ 300 := by omega
  have hnc : (n : Int) ≤ cb := by omega
  have HTB : Hid ((b.take n).length = n) := Lib.hid (by rw [List.length_take]; omega)
  have hb60 : (w.alloc (.cells #[.int .i64 c0, .int .i64 c1] 50)).heap.size = (w.alloc (.cells #[.int .i64 c0, .int .i64 c1] 50)).heap.size := rfl
  clear ha hb hnb hn hL hLl hsa hsb hsL hra hrb h0 h1 hcb hb60
  go_enter Try.func6, Try.ntmps6
  go_wp2_with (first
    | (go_at_call 23; refine (new_any _).mono ?_; rintro e w1 ⟨p, rfl, hd, hb⟩
       have HB1 := Lib.hid hb
       have HD1 := Lib.hid hd
       clear hd hb)
    | (go_at_call 24; refine (append_at HD1.out HB1.out.size a A _ _ rfl (HRA.out _ (HW0.out.trans (HB1.out.mono HW0.out.size))) (by have := HLEN.out; simp; omega) 0 (by simp) a (by simp)).mono ?_; rintro e w2 ⟨rfl, g2, hd, hO, _⟩
       have HB2 := Lib.hid (onlyPG HB1.out (Nat.le_refl _) hO HD1.out.ge.1 HD1.out.ge.2)
       have HD2 := Lib.hid hd
       clear hd hO HD1)
    | (go_at_call 26; refine (sync_at HD2.out a.length (by simp)).mono ?_; rintro e w3 ⟨rfl, hd, hO⟩
       have HB3 := Lib.hid (onlyP HB2.out (Nat.le_refl _) hO HD2.out.ge.1)
       have HD3 := Lib.hid hd
       clear hd hO HD2)
    | (go_at_call 24; refine (append_at HD3.out HB3.out.size b C _ _ rfl (HRB.out _ (HW0.out.trans (HB3.out.mono HW0.out.size))) (by have := HLEN.out; omega) (a.length : Int) (by simp) (a ++ b) rfl).mono ?_; rintro e w4 ⟨rfl, g4, hd, hO, _⟩
       have HB4 := Lib.hid (onlyPG HB3.out (Nat.le_refl _) hO HD3.out.ge.1 HD3.out.ge.2)
       have HD4 := Lib.hid hd
       obtain ⟨y0, y1⟩ := HBX.out _ HB4.out
       clear hd hO HD3)
    | (go_at_call 34; refine (power_at HD4.out c0 H0.out n (a.length + n) EN.out rfl L ET.out).mono ?_; rintro e w5 ⟨p5, g5, rfl, hd, hb⟩
       have HB5 := Lib.hid (belowM HB4.out (Nat.le_refl _) hb)
       have HD5 := Lib.hid (HD4.out.below hb)
       have HX5 := Lib.hid hd
       obtain ⟨y0, y1⟩ := HBX.out _ HB5.out
       clear hd hb HD4)
    | (go_at_call 40; refine (pick_any c0 (b.length + 1) (by omega) (by have := HLEN.out; omega) H0.out n HN.out _ (by simp) _).mono ?_; rintro e w6 ⟨rfl, rfl⟩)
    | (go_at_call 38; refine (end_at HX5.out ((a.length + n : Nat) : Int) (by have := HLEN.out; omega)).mono ?_; rintro e w6 ⟨rfl, n6, rfl⟩
       have HB6 := Lib.hid (belowM HB5.out (Nat.le_refl _) (drewN_below _ n6))
       have HD6 := Lib.hid (HD5.out.below (drewN_below _ n6))
       have HX6 := Lib.hid (HX5.out.below (drewN_below _ n6))
       clear HD5 HX5)
    | (go_at_call 32; refine (read_at HX6.out 0 (a.length + n) (by omega) (by omega) (by have := HLEN.out; omega) 0 _ rfl (by simp) L (by have := HLEN.out; rw [Nat.sub_zero, Nat.sub_zero, List.drop_zero, List.take_of_length_le (by omega)])).mono ?_; rintro e w7 ⟨v7, rfl, ho, hb⟩
       have HB7 := Lib.hid (belowM HB6.out (Nat.le_refl _) hb)
       have HD7 := Lib.hid (HD6.out.below hb)
       have HX7 := Lib.hid (HX6.out.below hb)
       have HO7 := Lib.hid ho
       obtain ⟨y0, y1⟩ := HBX.out _ HB7.out
       clear ho hb HD6 HX6)
    | (go_at_call 34; refine (power_at HX7.out c1 H1.out 0 (a.length + n) (by have := HLEN.out; rw [show 0 + L.length - (a.length + n) + 1 = 1 by omega, pickZ_one]) rfl L (by have := HLEN.out; rw [Nat.sub_zero, List.take_of_length_le (by omega)])).mono ?_; rintro e w8 ⟨p8, g8, rfl, hd, hb⟩
       have HB8 := Lib.hid (belowM HB7.out (Nat.le_refl _) hb)
       have HD8 := Lib.hid (HD7.out.below hb)
       have HX8 := Lib.hid (HX7.out.below hb)
       have HO8 := Lib.hid (HO7.out.below hb)
       have HZ8 := Lib.hid hd
       clear hd hb HD7 HX7 HO7)
    | (go_at_call 38; refine (end_at HZ8.out ((a.length + n : Nat) : Int) (by have := HLEN.out; omega)).mono ?_; rintro e w9 ⟨rfl, n9, rfl⟩
       have HB9 := Lib.hid (belowM HB8.out (Nat.le_refl _) (drewN_below _ n9))
       have HD9 := Lib.hid (HD8.out.below (drewN_below _ n9))
       have HX9 := Lib.hid (HX8.out.below (drewN_below _ n9))
       have HO9 := Lib.hid (HO8.out.below (drewN_below _ n9))
       have HZ9 := Lib.hid (HZ8.out.below (drewN_below _ n9))
       clear HD8 HX8 HZ8 HO8)
    | (go_at_call 32; refine (read_at HZ9.out 0 (a.length + n) (by omega) (by omega) (by have := HLEN.out; omega) 0 _ rfl (by simp) L (by have := HLEN.out; rw [Nat.sub_zero, Nat.sub_zero, List.drop_zero, List.take_of_length_le (by omega)])).mono ?_; rintro e w10 ⟨v10, rfl, ho, hb⟩
       have HB10 := Lib.hid (belowM HB9.out (Nat.le_refl _) hb)
       have HD10 := Lib.hid (HD9.out.below hb)
       have HX10 := Lib.hid (HX9.out.below hb)
       have HO10 := Lib.hid (HO9.out.below hb)
       have HT10 := Lib.hid ho
       clear ho hb HD9 HX9 HO9 HZ9))
  have HK10 : Hid (∀ W, W.heap = w10.heap → ((convert 23 9 v7).run Try.prog W = .ok (.string (sa ++ sb)) W ∧ (convert 23 9 v10).run Try.prog W = .ok (.string (sa ++ sb)) W ∧ (convert 23 9 (.slice A a.length ca)).run Try.prog W = .ok (.string sa) W ∧ (convert 23 9 (.slice C n cb)).run Try.prog W = .ok (.string sb) W)) :=
    Lib.hid (fun W e => by
      have hbw := HW0.out.trans (HB10.out.mono HW0.out.size)
      exact ⟨conv_ownS (HO10.out.heap e) _ HSL.out, conv_ownS (HT10.out.heap e) _ HSL.out, conv_rd ((HRA.out _ hbw).heap e) rfl _ HSA.out, conv_rd (((HRB.out _ hbw).take n).heap e) HTB.out _ HSB.out⟩)
  have hs1 : IntKind.i64.wrap ((a.length : Int) + (n : Int)) = (a.length : Int) + (n : Int) := IntWalk.i64_in _ (by omega)
  have hs2 : IntKind.i64.wrap ((a.length : Int) + (b.length : Int)) = (a.length : Int) + (b.length : Int) := IntWalk.i64_in _ (by omega)
  dsimp only [List.append]
  go_region_held3 (fun W => (convert 23 9 v7).run Try.prog W = .ok (.string (sa ++ sb)) W ∧ (convert 23 9 v10).run Try.prog W = .ok (.string (sa ++ sb)) W ∧ (convert 23 9 (.slice A a.length ca)).run Try.prog W = .ok (.string sa) W ∧ (convert 23 9 (.slice C n cb)).run Try.prog W = .ok (.string sb) W)
    (first
      | exact HK11.out _ rfl
      | exact HK10.out _ rfl)
    (first
    | (go_at_call 39; refine (alive_disk _).mono ?_; rintro e w11 ⟨rfl, hb⟩
       have hb := below_drew hb
       have HB11 := Lib.hid (belowM HB10.out (Nat.le_refl _) hb)
       have HD11 := Lib.hid (HD10.out.below hb)
       have HX11 := Lib.hid (HX10.out.below hb)
       have hbw := HW0.out.trans (HB11.out.mono HW0.out.size)
       have HK11 : Hid (∀ W, W.heap = w11.heap → ((convert 23 9 v7).run Try.prog W = .ok (.string (sa ++ sb)) W ∧ (convert 23 9 v10).run Try.prog W = .ok (.string (sa ++ sb)) W ∧ (convert 23 9 (.slice A a.length ca)).run Try.prog W = .ok (.string sa) W ∧ (convert 23 9 (.slice C n cb)).run Try.prog W = .ok (.string sb) W)) :=
         Lib.hid (fun W e => ⟨conv_ownS ((HO10.out.below hb).heap e) _ HSL.out, conv_ownS ((HT10.out.below hb).heap e) _ HSL.out, conv_rd ((HRA.out _ hbw).heap e) rfl _ HSA.out, conv_rd (((HRB.out _ hbw).take n).heap e) HTB.out _ HSB.out⟩)
       have HY : Hid (∀ k, Ans (.bool true) w (.returned (.bool true)) (w11.drewN k)) := Lib.hid fun k => ⟨rfl, belowM hbw (Nat.le_refl _) (drewN_below _ k)⟩
       clear hb hbw HD10 HX10 HO10 HT10)
    | (go_at_call_of 38 p5; refine (end_at (HX11.out.heap (by rfl)) ((a.length : Int) + (n : Int)) (by have := HLEN.out; omega)).mono ?_; rintro e w6 ⟨rfl, n6, rfl⟩)
    | (go_at_call_of 38 p; refine (end_at (HD11.out.heap (by rfl)) ((a.length : Int) + (b.length : Int)) (by simp)).mono ?_; rintro e w6 ⟨rfl, n6, rfl⟩)
    | (go_at_call 36; refine (safe_any (HX11.out.heap (by rfl))).mono ?_; rintro e w6 ⟨rfl, rfl⟩)
    | fail)
  go_wp2_with fail
  go_ret
  exact HY.out _
theorem diskSafe_law (a b : List UInt8) (A C : Option Addr) (ca cb : Nat) (c0 c1 : Int) (w : World) (hcb : b.length ≤ cb) (hra : RdB w w.heap.size A a) (hrb : RdB w w.heap.size C b) (h0 : i64ok c0) (h1 : i64ok c1) :
    Calls Try.prog 6 #[.slice A a.length ca, .slice C b.length cb, .agg #[.int .i64 c0, .int .i64 c1]] w (Ans (.bool true) w) := by
  by_cases h : a.length ≤ 300 ∧ b.length ≤ 300
  · exact diskSafe_small a b A C ca cb c0 c1 w h.1 h.2 hcb hra hrb h0 h1
  · exact diskSafe_big a b A C ca cb c0 c1 w h
#print axioms diskSafe_law
end Go.Proofs.Ytpfelmkadejdcaa

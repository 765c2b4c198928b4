/- Package key: cutValue of a text. -/
import Derived.Test.YtjnjolhokcmmhaaKDF
namespace Go.Proofs.Ytjnjolhokcmmhaa
open Go.RowKit
theorem stuff_ge (s : List UInt8) : s.length ≤ (stuffL s).length := by
  induction s with
  | nil => simp [stuffL]
  | cons c s ih =>
    unfold stuffL
    split <;> simp only [List.length_cons] <;> omega
theorem right_no_text {k : Int} {s : List UInt8} (hk : k = 4 ∨ k = 5) (h : 200 < s.length) : rightB ⟨k, 0, ⟨s.toArray⟩⟩ = false := by
  unfold rightB
  rw [if_neg (by simp only; omega), if_neg (by simp only; omega), if_pos (by simp only; omega)]
  have : (⟨s.toArray⟩ : ByteArray).size = s.length := by show s.toArray.size = s.length; simp
  simp [this]
  omega
set_option maxRecDepth 100000 in
set_option maxHeartbeats 8000000 in
theorem cutValue_4y {C : Nat} (t : List UInt8) (ad : Addr) (cap : Nat) (w : World) (hab : ad.block < w.heap.size) (x0 : w.cell? ad = some (.int .u8 (4 : UInt8).toNat)) (hcap : t.length + 1 ≤ cap) (h1 : ¬ cap = 1) (hl : t.length + 1 ≤ 100000) (hC : C ≤ w.heap.size) (hr : RdB w C (some (ad.add 1)) t) (s r : List UInt8) (hc : cutT t = some (s, r)) (hs : s.length ≤ 200) :
    Calls Try.prog 38 #[.slice (some ad) (t.length + 1) cap] w (CVT C w (4 :: t)) := by
  have h1i : (1 : Int) ≤ (t.length : Int) + 1 := by omega
  obtain ⟨sb, HSB⟩ : ∃ sb : ByteArray, Hid (sb = ⟨s.toArray⟩) := ⟨_, Lib.hid rfl⟩
  have HSZ : Hid (sb.size ≤ 9223372036854775807) := Lib.hid (by
    have h1 := cutT_some hc
    have h2 := stuff_ge s
    have h3 : t.length = (stuffL s ++ 0 :: 1 :: r).length := by rw [← h1]
    rw [List.length_append] at h3
    have h4 : sb.size = s.length := by rw [HSB.out]; show s.toArray.size = s.length; simp
    omega)
  have HRN : Hid (Val.R ⟨4, 0, sb⟩ ∧ 4 :: t = enc1 ⟨4, 0, sb⟩ ++ r) := Lib.hid (by rw [HSB.out]; exact yes_text (c := 4) (by decide) hc hs)
  have HY : Hid (∀ W A' cap', Below w.heap.size w W → RdB w C A' r → r.length ≤ cap' → CVT C w (4 :: t) (.returned (.tuple #[.agg #[.int .i64 4, .int .i64 0, .string sb], .slice A' r.length cap', .bool true])) W) := Lib.hid fun W A' cap' hb hr' hc' => ⟨hb, ⟨4, 0, sb⟩, A', _, cap', true, rfl, .inl ⟨rfl, HRN.out.1, r, HRN.out.2, rfl, hr'.below hb hC, hc'⟩⟩
  have CN : Hid (∀ W, VB w W ⟨4, 0, ⟨#[]⟩⟩ → W.heap.size = w.heap.size + 1 → Calls Try.prog 52 #[.slice (some (ad.add 1)) t.length (cap - 1)] W (fun e w' => VB w w' ⟨4, 0, ⟨#[]⟩⟩ ∧ ∃ A' cap', e = .returned (.tuple #[.string sb, .slice A' r.length cap', .bool true]) ∧ RdB w C A' r ∧ r.length ≤ cap')) := Lib.hid fun W hv hz => by rw [HSB.out]; exact cut_text_yes (by omega) (by omega) hC hr hc W hv hz
  have RA : Hid (∀ w, Calls Try.prog 34 #[.agg #[.int .i64 4, .int .i64 0, .string sb]] w (Ans (.bool true) w)) := Lib.hid fun w => by
    have h := right_at' ⟨4, 0, sb⟩ (by exact HSZ.out) w
    rw [HRN.out.1.1] at h
    exact h
  have HS : Hid (VB w (w.alloc (.cells #[.int .i64 4, .int .i64 0, .string ⟨#[]⟩] 68)) ⟨4, 0, ⟨#[]⟩⟩) := Lib.hid (VB.new _ _ _ _)
  clear hcap hl hr
  go_enter Try.func38, Try.ntmps38
  go_wp2_with fail
  go_region_law (fail)
  go_wp2_with (go_at_call 52; refine (CN.out _ (by first | exact HS.out | exact HS.out.drew | exact HS.out.drew.drew) (by simp)).mono ?_; rintro e w5 ⟨hv5, A', cap', rfl, hr5, hc5⟩
               obtain ⟨f0, f1, f2⟩ := hv5.froz
               obtain ⟨y0, y1, y2⟩ := hv5.cells
               have HS := Lib.hid (hv5.set2 sb)
               have HY := Lib.hid (fun W hb => HY.out W A' cap' hb hr5 hc5)
               clear hv5 hr5 hc5)
  go_region_held3 (fun W => W.cell? ⟨w.heap.size, 0, none⟩ = some (.int .i64 4) ∧ W.cell? ⟨w.heap.size, 1, none⟩ = some (.int .i64 0) ∧ W.cell? ⟨w.heap.size, 2, none⟩ = some (.string sb))
    (first | exact HS.out.cells | exact HS.out.drew.cells | exact HS.out.drew.drew.cells | exact HS.out.set.cells | exact HS.out.drew.set.cells | exact HS.out.drew.drew.set.cells | go_keep)
    ((go_at_call 34
      refine (RA.out _).mono ?_
      rintro e w2 ⟨rfl, hb2⟩
      have HS := Lib.hid (VB.keep (by first | exact HS.out | exact HS.out.drew | exact HS.out.drew.drew | exact HS.out.drew.drew.drew) hb2)
      obtain ⟨f0, f1, f2⟩ := HS.out.froz
      clear hb2))
  go_wp2_with fail
  all_goals first
    | (obtain ⟨z0, z1, z2⟩ := HS.out.set.cells
       refine bodyPost_ret (v := .tuple #[.agg #[.int .i64 4, .int .i64 0, .string sb], .slice A' r.length cap', .bool true]) (by simp [results, Try.results38, go_sem, z0, z1, z2]) rfl ?_
       exact HY.out _ HS.out.set.2)
    | (obtain ⟨z0, z1, z2⟩ := HS.out.set.drew.cells
       refine bodyPost_ret (v := .tuple #[.agg #[.int .i64 4, .int .i64 0, .string sb], .slice A' r.length cap', .bool true]) (by simp [results, Try.results38, go_sem, z0, z1, z2]) rfl ?_
       exact HY.out _ HS.out.set.drew.2)
    | (obtain ⟨z0, z1, z2⟩ := HS.out.drew.set.cells
       refine bodyPost_ret (v := .tuple #[.agg #[.int .i64 4, .int .i64 0, .string sb], .slice A' r.length cap', .bool true]) (by simp [results, Try.results38, go_sem, z0, z1, z2]) rfl ?_
       exact HY.out _ HS.out.drew.set.2)
    | (obtain ⟨z0, z1, z2⟩ := HS.out.set.drew.drew.cells
       refine bodyPost_ret (v := .tuple #[.agg #[.int .i64 4, .int .i64 0, .string sb], .slice A' r.length cap', .bool true]) (by simp [results, Try.results38, go_sem, z0, z1, z2]) rfl ?_
       exact HY.out _ HS.out.set.drew.drew.2)
set_option maxRecDepth 100000 in
set_option maxHeartbeats 8000000 in
theorem cutValue_4b {C : Nat} (t : List UInt8) (ad : Addr) (cap : Nat) (w : World) (hab : ad.block < w.heap.size) (x0 : w.cell? ad = some (.int .u8 (4 : UInt8).toNat)) (hcap : t.length + 1 ≤ cap) (h1 : ¬ cap = 1) (hl : t.length + 1 ≤ 100000) (hC : C ≤ w.heap.size) (hr : RdB w C (some (ad.add 1)) t) (s r : List UInt8) (hc : cutT t = some (s, r)) (hs : 200 < s.length) :
    Calls Try.prog 38 #[.slice (some ad) (t.length + 1) cap] w (CVT C w (4 :: t)) := by
  have h1i : (1 : Int) ≤ (t.length : Int) + 1 := by omega
  obtain ⟨sb, HSB⟩ : ∃ sb : ByteArray, Hid (sb = ⟨s.toArray⟩) := ⟨_, Lib.hid rfl⟩
  have HSZ : Hid (sb.size ≤ 9223372036854775807) := Lib.hid (by
    have h1 := cutT_some hc
    have h2 := stuff_ge s
    have h3 : t.length = (stuffL s ++ 0 :: 1 :: r).length := by rw [← h1]
    rw [List.length_append] at h3
    have h4 : sb.size = s.length := by rw [HSB.out]; show s.toArray.size = s.length; simp
    omega)
  have HY : Hid (∀ W A' cap', Below w.heap.size w W → RdB w C A' r → r.length ≤ cap' → CVT C w (4 :: t) (.returned (.tuple #[.agg #[.int .i64 4, .int .i64 0, .string sb], .slice A' r.length cap', .bool false])) W) := Lib.hid fun W A' cap' hb hr' hc' => ⟨hb, ⟨4, 0, sb⟩, A', _, cap', false, rfl, .inr ⟨rfl, no_text (by decide) (fun s' r' h => by rw [hc, Option.some.injEq, Prod.mk.injEq] at h; rw [← h.1]; exact hs)⟩⟩
  have CN : Hid (∀ W, VB w W ⟨4, 0, ⟨#[]⟩⟩ → W.heap.size = w.heap.size + 1 → Calls Try.prog 52 #[.slice (some (ad.add 1)) t.length (cap - 1)] W (fun e w' => VB w w' ⟨4, 0, ⟨#[]⟩⟩ ∧ ∃ A' cap', e = .returned (.tuple #[.string sb, .slice A' r.length cap', .bool true]) ∧ RdB w C A' r ∧ r.length ≤ cap')) := Lib.hid fun W hv hz => by rw [HSB.out]; exact cut_text_yes (by omega) (by omega) hC hr hc W hv hz
  have RA : Hid (∀ w, Calls Try.prog 34 #[.agg #[.int .i64 4, .int .i64 0, .string sb]] w (Ans (.bool false) w)) := Lib.hid fun w => by
    have h := right_at' ⟨4, 0, sb⟩ (by exact HSZ.out) w
    rw [show rightB ⟨4, 0, sb⟩ = false by rw [HSB.out]; exact right_no_text (by decide) hs] at h
    exact h
  have HS : Hid (VB w (w.alloc (.cells #[.int .i64 4, .int .i64 0, .string ⟨#[]⟩] 68)) ⟨4, 0, ⟨#[]⟩⟩) := Lib.hid (VB.new _ _ _ _)
  clear hcap hl hr
  go_enter Try.func38, Try.ntmps38
  go_wp2_with fail
  go_region_law (fail)
  go_wp2_with (go_at_call 52; refine (CN.out _ (by first | exact HS.out | exact HS.out.drew | exact HS.out.drew.drew) (by simp)).mono ?_; rintro e w5 ⟨hv5, A', cap', rfl, hr5, hc5⟩
               obtain ⟨f0, f1, f2⟩ := hv5.froz
               obtain ⟨y0, y1, y2⟩ := hv5.cells
               have HS := Lib.hid (hv5.set2 sb)
               have HY := Lib.hid (fun W hb => HY.out W A' cap' hb hr5 hc5)
               clear hv5 hr5 hc5)
  go_region_held3 (fun W => W.cell? ⟨w.heap.size, 0, none⟩ = some (.int .i64 4) ∧ W.cell? ⟨w.heap.size, 1, none⟩ = some (.int .i64 0) ∧ W.cell? ⟨w.heap.size, 2, none⟩ = some (.string sb))
    (first | exact HS.out.cells | exact HS.out.drew.cells | exact HS.out.drew.drew.cells | exact HS.out.set.cells | exact HS.out.drew.set.cells | exact HS.out.drew.drew.set.cells | go_keep)
    ((go_at_call 34
      refine (RA.out _).mono ?_
      rintro e w2 ⟨rfl, hb2⟩
      have HS := Lib.hid (VB.keep (by first | exact HS.out | exact HS.out.drew | exact HS.out.drew.drew | exact HS.out.drew.drew.drew) hb2)
      obtain ⟨f0, f1, f2⟩ := HS.out.froz
      clear hb2))
  go_wp2_with fail
  all_goals first
    | (obtain ⟨z0, z1, z2⟩ := HS.out.set.cells
       refine bodyPost_ret (v := .tuple #[.agg #[.int .i64 4, .int .i64 0, .string sb], .slice A' r.length cap', .bool false]) (by simp [results, Try.results38, go_sem, z0, z1, z2]) rfl ?_
       exact HY.out _ HS.out.set.2)
    | (obtain ⟨z0, z1, z2⟩ := HS.out.set.drew.cells
       refine bodyPost_ret (v := .tuple #[.agg #[.int .i64 4, .int .i64 0, .string sb], .slice A' r.length cap', .bool false]) (by simp [results, Try.results38, go_sem, z0, z1, z2]) rfl ?_
       exact HY.out _ HS.out.set.drew.2)
    | (obtain ⟨z0, z1, z2⟩ := HS.out.drew.set.cells
       refine bodyPost_ret (v := .tuple #[.agg #[.int .i64 4, .int .i64 0, .string sb], .slice A' r.length cap', .bool false]) (by simp [results, Try.results38, go_sem, z0, z1, z2]) rfl ?_
       exact HY.out _ HS.out.drew.set.2)
    | (obtain ⟨z0, z1, z2⟩ := HS.out.set.drew.drew.cells
       refine bodyPost_ret (v := .tuple #[.agg #[.int .i64 4, .int .i64 0, .string sb], .slice A' r.length cap', .bool false]) (by simp [results, Try.results38, go_sem, z0, z1, z2]) rfl ?_
       exact HY.out _ HS.out.set.drew.drew.2)
set_option maxRecDepth 100000 in
set_option maxHeartbeats 8000000 in
theorem cutValue_5y {C : Nat} (t : List UInt8) (ad : Addr) (cap : Nat) (w : World) (hab : ad.block < w.heap.size) (x0 : w.cell? ad = some (.int .u8 (5 : UInt8).toNat)) (hcap : t.length + 1 ≤ cap) (h1 : ¬ cap = 1) (hl : t.length + 1 ≤ 100000) (hC : C ≤ w.heap.size) (hr : RdB w C (some (ad.add 1)) t) (s r : List UInt8) (hc : cutT t = some (s, r)) (hs : s.length ≤ 200) :
    Calls Try.prog 38 #[.slice (some ad) (t.length + 1) cap] w (CVT C w (5 :: t)) := by
  have h1i : (1 : Int) ≤ (t.length : Int) + 1 := by omega
  obtain ⟨sb, HSB⟩ : ∃ sb : ByteArray, Hid (sb = ⟨s.toArray⟩) := ⟨_, Lib.hid rfl⟩
  have HSZ : Hid (sb.size ≤ 9223372036854775807) := Lib.hid (by
    have h1 := cutT_some hc
    have h2 := stuff_ge s
    have h3 : t.length = (stuffL s ++ 0 :: 1 :: r).length := by rw [← h1]
    rw [List.length_append] at h3
    have h4 : sb.size = s.length := by rw [HSB.out]; show s.toArray.size = s.length; simp
    omega)
  have HRN : Hid (Val.R ⟨5, 0, sb⟩ ∧ 5 :: t = enc1 ⟨5, 0, sb⟩ ++ r) := Lib.hid (by rw [HSB.out]; exact yes_text (c := 5) (by decide) hc hs)
  have HY : Hid (∀ W A' cap', Below w.heap.size w W → RdB w C A' r → r.length ≤ cap' → CVT C w (5 :: t) (.returned (.tuple #[.agg #[.int .i64 5, .int .i64 0, .string sb], .slice A' r.length cap', .bool true])) W) := Lib.hid fun W A' cap' hb hr' hc' => ⟨hb, ⟨5, 0, sb⟩, A', _, cap', true, rfl, .inl ⟨rfl, HRN.out.1, r, HRN.out.2, rfl, hr'.below hb hC, hc'⟩⟩
  have CN : Hid (∀ W, VB w W ⟨5, 0, ⟨#[]⟩⟩ → W.heap.size = w.heap.size + 1 → Calls Try.prog 52 #[.slice (some (ad.add 1)) t.length (cap - 1)] W (fun e w' => VB w w' ⟨5, 0, ⟨#[]⟩⟩ ∧ ∃ A' cap', e = .returned (.tuple #[.string sb, .slice A' r.length cap', .bool true]) ∧ RdB w C A' r ∧ r.length ≤ cap')) := Lib.hid fun W hv hz => by rw [HSB.out]; exact cut_text_yes (by omega) (by omega) hC hr hc W hv hz
  have RA : Hid (∀ w, Calls Try.prog 34 #[.agg #[.int .i64 5, .int .i64 0, .string sb]] w (Ans (.bool true) w)) := Lib.hid fun w => by
    have h := right_at' ⟨5, 0, sb⟩ (by exact HSZ.out) w
    rw [HRN.out.1.1] at h
    exact h
  have HS : Hid (VB w (w.alloc (.cells #[.int .i64 5, .int .i64 0, .string ⟨#[]⟩] 68)) ⟨5, 0, ⟨#[]⟩⟩) := Lib.hid (VB.new _ _ _ _)
  clear hcap hl hr
  go_enter Try.func38, Try.ntmps38
  go_wp2_with fail
  go_region_law (fail)
  go_wp2_with (go_at_call 52; refine (CN.out _ (by first | exact HS.out | exact HS.out.drew | exact HS.out.drew.drew) (by simp)).mono ?_; rintro e w5 ⟨hv5, A', cap', rfl, hr5, hc5⟩
               obtain ⟨f0, f1, f2⟩ := hv5.froz
               obtain ⟨y0, y1, y2⟩ := hv5.cells
               have HS := Lib.hid (hv5.set2 sb)
               have HY := Lib.hid (fun W hb => HY.out W A' cap' hb hr5 hc5)
               clear hv5 hr5 hc5)
  go_region_held3 (fun W => W.cell? ⟨w.heap.size, 0, none⟩ = some (.int .i64 5) ∧ W.cell? ⟨w.heap.size, 1, none⟩ = some (.int .i64 0) ∧ W.cell? ⟨w.heap.size, 2, none⟩ = some (.string sb))
    (first | exact HS.out.cells | exact HS.out.drew.cells | exact HS.out.drew.drew.cells | exact HS.out.set.cells | exact HS.out.drew.set.cells | exact HS.out.drew.drew.set.cells | go_keep)
    ((go_at_call 34
      refine (RA.out _).mono ?_
      rintro e w2 ⟨rfl, hb2⟩
      have HS := Lib.hid (VB.keep (by first | exact HS.out | exact HS.out.drew | exact HS.out.drew.drew | exact HS.out.drew.drew.drew) hb2)
      obtain ⟨f0, f1, f2⟩ := HS.out.froz
      clear hb2))
  go_wp2_with fail
  all_goals first
    | (obtain ⟨z0, z1, z2⟩ := HS.out.set.cells
       refine bodyPost_ret (v := .tuple #[.agg #[.int .i64 5, .int .i64 0, .string sb], .slice A' r.length cap', .bool true]) (by simp [results, Try.results38, go_sem, z0, z1, z2]) rfl ?_
       exact HY.out _ HS.out.set.2)
    | (obtain ⟨z0, z1, z2⟩ := HS.out.set.drew.cells
       refine bodyPost_ret (v := .tuple #[.agg #[.int .i64 5, .int .i64 0, .string sb], .slice A' r.length cap', .bool true]) (by simp [results, Try.results38, go_sem, z0, z1, z2]) rfl ?_
       exact HY.out _ HS.out.set.drew.2)
    | (obtain ⟨z0, z1, z2⟩ := HS.out.drew.set.cells
       refine bodyPost_ret (v := .tuple #[.agg #[.int .i64 5, .int .i64 0, .string sb], .slice A' r.length cap', .bool true]) (by simp [results, Try.results38, go_sem, z0, z1, z2]) rfl ?_
       exact HY.out _ HS.out.drew.set.2)
    | (obtain ⟨z0, z1, z2⟩ := HS.out.set.drew.drew.cells
       refine bodyPost_ret (v := .tuple #[.agg #[.int .i64 5, .int .i64 0, .string sb], .slice A' r.length cap', .bool true]) (by simp [results, Try.results38, go_sem, z0, z1, z2]) rfl ?_
       exact HY.out _ HS.out.set.drew.drew.2)
set_option maxRecDepth 100000 in
set_option maxHeartbeats 8000000 in
theorem cutValue_5b {C : Nat} (t : List UInt8) (ad : Addr) (cap : Nat) (w : World) (hab : ad.block < w.heap.size) (x0 : w.cell? ad = some (.int .u8 (5 : UInt8).toNat)) (hcap : t.length + 1 ≤ cap) (h1 : ¬ cap = 1) (hl : t.length + 1 ≤ 100000) (hC : C ≤ w.heap.size) (hr : RdB w C (some (ad.add 1)) t) (s r : List UInt8) (hc : cutT t = some (s, r)) (hs : 200 < s.length) :
    Calls Try.prog 38 #[.slice (some ad) (t.length + 1) cap] w (CVT C w (5 :: t)) := by
  have h1i : (1 : Int) ≤ (t.length : Int) + 1 := by omega
  obtain ⟨sb, HSB⟩ : ∃ sb : ByteArray, Hid (sb = ⟨s.toArray⟩) := ⟨_, Lib.hid rfl⟩
  have HSZ : Hid (sb.size ≤ 9223372036854775807) := Lib.hid (by
    have h1 := cutT_some hc
    have h2 := stuff_ge s
    have h3 : t.length = (stuffL s ++ 0 :: 1 :: r).length := by rw [← h1]
    rw [List.length_append] at h3
    have h4 : sb.size = s.length := by rw [HSB.out]; show s.toArray.size = s.length; simp
    omega)
  have HY : Hid (∀ W A' cap', Below w.heap.size w W → RdB w C A' r → r.length ≤ cap' → CVT C w (5 :: t) (.returned (.tuple #[.agg #[.int .i64 5, .int .i64 0, .string sb], .slice A' r.length cap', .bool false])) W) := Lib.hid fun W A' cap' hb hr' hc' => ⟨hb, ⟨5, 0, sb⟩, A', _, cap', false, rfl, .inr ⟨rfl, no_text (by decide) (fun s' r' h => by rw [hc, Option.some.injEq, Prod.mk.injEq] at h; rw [← h.1]; exact hs)⟩⟩
  have CN : Hid (∀ W, VB w W ⟨5, 0, ⟨#[]⟩⟩ → W.heap.size = w.heap.size + 1 → Calls Try.prog 52 #[.slice (some (ad.add 1)) t.length (cap - 1)] W (fun e w' => VB w w' ⟨5, 0, ⟨#[]⟩⟩ ∧ ∃ A' cap', e = .returned (.tuple #[.string sb, .slice A' r.length cap', .bool true]) ∧ RdB w C A' r ∧ r.length ≤ cap')) := Lib.hid fun W hv hz => by rw [HSB.out]; exact cut_text_yes (by omega) (by omega) hC hr hc W hv hz
  have RA : Hid (∀ w, Calls Try.prog 34 #[.agg #[.int .i64 5, .int .i64 0, .string sb]] w (Ans (.bool false) w)) := Lib.hid fun w => by
    have h := right_at' ⟨5, 0, sb⟩ (by exact HSZ.out) w
    rw [show rightB ⟨5, 0, sb⟩ = false by rw [HSB.out]; exact right_no_text (by decide) hs] at h
    exact h
  have HS : Hid (VB w (w.alloc (.cells #[.int .i64 5, .int .i64 0, .string ⟨#[]⟩] 68)) ⟨5, 0, ⟨#[]⟩⟩) := Lib.hid (VB.new _ _ _ _)
  clear hcap hl hr
  go_enter Try.func38, Try.ntmps38
  go_wp2_with fail
  go_region_law (fail)
  go_wp2_with (go_at_call 52; refine (CN.out _ (by first | exact HS.out | exact HS.out.drew | exact HS.out.drew.drew) (by simp)).mono ?_; rintro e w5 ⟨hv5, A', cap', rfl, hr5, hc5⟩
               obtain ⟨f0, f1, f2⟩ := hv5.froz
               obtain ⟨y0, y1, y2⟩ := hv5.cells
               have HS := Lib.hid (hv5.set2 sb)
               have HY := Lib.hid (fun W hb => HY.out W A' cap' hb hr5 hc5)
               clear hv5 hr5 hc5)
  go_region_held3 (fun W => W.cell? ⟨w.heap.size, 0, none⟩ = some (.int .i64 5) ∧ W.cell? ⟨w.heap.size, 1, none⟩ = some (.int .i64 0) ∧ W.cell? ⟨w.heap.size, 2, none⟩ = some (.string sb))
    (first | exact HS.out.cells | exact HS.out.drew.cells | exact HS.out.drew.drew.cells | exact HS.out.set.cells | exact HS.out.drew.set.cells | exact HS.out.drew.drew.set.cells | go_keep)
    ((go_at_call 34
      refine (RA.out _).mono ?_
      rintro e w2 ⟨rfl, hb2⟩
      have HS := Lib.hid (VB.keep (by first | exact HS.out | exact HS.out.drew | exact HS.out.drew.drew | exact HS.out.drew.drew.drew) hb2)
      obtain ⟨f0, f1, f2⟩ := HS.out.froz
      clear hb2))
  go_wp2_with fail
  all_goals first
    | (obtain ⟨z0, z1, z2⟩ := HS.out.set.cells
       refine bodyPost_ret (v := .tuple #[.agg #[.int .i64 5, .int .i64 0, .string sb], .slice A' r.length cap', .bool false]) (by simp [results, Try.results38, go_sem, z0, z1, z2]) rfl ?_
       exact HY.out _ HS.out.set.2)
    | (obtain ⟨z0, z1, z2⟩ := HS.out.set.drew.cells
       refine bodyPost_ret (v := .tuple #[.agg #[.int .i64 5, .int .i64 0, .string sb], .slice A' r.length cap', .bool false]) (by simp [results, Try.results38, go_sem, z0, z1, z2]) rfl ?_
       exact HY.out _ HS.out.set.drew.2)
    | (obtain ⟨z0, z1, z2⟩ := HS.out.drew.set.cells
       refine bodyPost_ret (v := .tuple #[.agg #[.int .i64 5, .int .i64 0, .string sb], .slice A' r.length cap', .bool false]) (by simp [results, Try.results38, go_sem, z0, z1, z2]) rfl ?_
       exact HY.out _ HS.out.drew.set.2)
    | (obtain ⟨z0, z1, z2⟩ := HS.out.set.drew.drew.cells
       refine bodyPost_ret (v := .tuple #[.agg #[.int .i64 5, .int .i64 0, .string sb], .slice A' r.length cap', .bool false]) (by simp [results, Try.results38, go_sem, z0, z1, z2]) rfl ?_
       exact HY.out _ HS.out.set.drew.drew.2)
end Go.Proofs.Ytjnjolhokcmmhaa

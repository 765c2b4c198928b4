/- Package number: Compare at any values. -/
import Derived.Test.YtjfbhajaddgmpaaDoorNCK
import Derived.Test.YtjfbhajaddgmpaaDoorKB
namespace Go.Proofs.YtjfbhajaddgmpaaDoor
open Go.RowKit

theorem ordI_3 (x y : Val) : ordI x y = -1 ∨ ordI x y = 0 ∨ ordI x y = 1 := by
  unfold ordI orI
  have h1 := cmp_3 x.k y.k
  have h2 := cmp_3 x.n y.n
  have h3 : Lib.compareBytes x.s.data.toList y.s.data.toList = -1 ∨ Lib.compareBytes x.s.data.toList y.s.data.toList = 0 ∨ Lib.compareBytes x.s.data.toList y.s.data.toList = 1 := by rw [cmpB_eq]; exact cmpB_3 _ _
  split
  · exact h1
  · split
    · exact h2
    · exact h3
theorem signV_3 (x y : Val) : signV x y = -1 ∨ signV x y = 0 ∨ signV x y = 1 := by
  unfold signV
  split
  · exact sign_3 _ _ _ _
  · exact ordI_3 x y
/-- what a comparison comes to -/
def cmpR (op : Int) (x y : Val) : RV :=
  if op < 8 ∨ 13 < op then .bad 1 0
  else if rightB x = false then .bad 22 0
  else if rightB y = false then .bad 22 1
  else if (x.k == 0 || y.k == 0) = true then .ok 0 0
  else if signP x y = -1 then .ok 1 (if holdsB op (signV x y) then 1 else 0)
  else .bad 22 1
/-- how it answers -/
def RI (r : RV) (w : World) : Ending → World → Prop := fun e w' => Below w.heap.size w w' ∧ match r with
  | .ok k n => e = .returned (.tuple #[.agg #[.int .i64 k, .int .i64 n, .string ⟨#[]⟩], .nilIface])
  | .bad c p => ∃ N, e = .returned (.tuple #[.agg #[.int .i64 0, .int .i64 0, .string ⟨#[]⟩], .iface 69 (.pointer (some ⟨N, 0, none⟩))]) ∧ FaultAt w' c p (.iface 69 (.pointer (some ⟨N, 0, none⟩)))
/-- two values and an answer in their boxes -/
structure RC (w0 W : World) (k n : Int) (s : ByteArray) (j m : Int) (t : ByteArray) : Prop where
  a : W.heap[w0.heap.size]? = some (.cells #[.int .i64 k, .int .i64 n, .string s] 25 (0, 0))
  b : W.heap[w0.heap.size + 1]? = some (.cells #[.int .i64 j, .int .i64 m, .string t] 25 (0, 0))
  r : W.heap[w0.heap.size + 1 + 1]? = some (.cells #[.int .i64 0, .int .i64 0, .string ⟨#[]⟩] 25 (0, 0))
  bel : Below w0.heap.size w0 W
theorem RC.next {w0 W V : World} {k n j m : Int} {s t : ByteArray} (h : RC w0 W k n s j m t) (hb : Below W.heap.size W V) : RC w0 V k n s j m t :=
  ⟨(hb.block _ (Array.getElem?_eq_some_iff.1 h.a).1).trans h.a, (hb.block _ (Array.getElem?_eq_some_iff.1 h.b).1).trans h.b, (hb.block _ (Array.getElem?_eq_some_iff.1 h.r).1).trans h.r, h.bel.trans (hb.mono h.bel.size)⟩
theorem RC.start (w : World) (k n : Int) (s : ByteArray) (j m : Int) (t : ByteArray) : RC w (((w.alloc (.cells #[.int .i64 k, .int .i64 n, .string s] 25)).alloc (.cells #[.int .i64 j, .int .i64 m, .string t] 25)).alloc (.cells #[.int .i64 0, .int .i64 0, .string ⟨#[]⟩] 25)) k n s j m t := by
  refine ⟨?_, ?_, ?_, ?_⟩
  · rw [heap_at, if_neg (by simp; omega), heap_at, if_neg (by simp), heap_at, if_pos rfl]
  · rw [heap_at, if_neg (by simp), heap_at, if_pos (by simp)]
  · rw [heap_at, if_pos (by simp)]
  · exact (alloc2_below w _ _).trans ((alloc_below _ _).mono (alloc2_below w _ _).size)
set_option maxRecDepth 100000 in
set_option maxHeartbeats 4000000 in
theorem cmp_op_lo (op k n j m : Int) (s t : ByteArray) (h8 : op < 8) (w : World) :
    Calls Tryd.prog 5 #[.int .i64 op, .agg #[.int .i64 k, .int .i64 n, .string s], .agg #[.int .i64 j, .int .i64 m, .string t]] w (RI (.bad 1 0) w) := by
  have HB := Lib.hid (RC.start w k n s j m t)
  have NW := Lib.hid (new_any 1 0 rfl)
  go_enter Tryd.func5, Tryd.ntmps5
  go_wp2_with (first
      | (go_at_call 15; refine (NW.out _).mono ?_; rintro e w9 ⟨v, rfl, hf, hb, N, rfl⟩
         have HF := Lib.hid hf
         clear hf
         have HB := Lib.hid (HB.out.next hb)
         obtain ⟨a0, a1, a2⟩ := box3 HB.out.a
         obtain ⟨b0, b1, b2⟩ := box3 HB.out.b
         obtain ⟨r0, r1, r2⟩ := box3 HB.out.r
         have z0 := frozen3 HB.out.r 0
         have z1 := frozen3 HB.out.r 1
         have z2 := frozen3 HB.out.r 2
         have HL := Lib.hid HB.out.bel
         clear hb))
  all_goals exact bodyPost_ret (v := .tuple #[.agg #[.int .i64 0, .int .i64 0, .string ⟨#[]⟩], .iface 69 (.pointer (some ⟨N, 0, none⟩))]) (by simp [results, Tryd.results5, go_sem, r0, r1, r2]) rfl ⟨set3_below0 HL.out (by omega) _ _ _, N, rfl, HF.out.set3 HB.out.r _ _ _⟩
set_option maxRecDepth 100000 in
set_option maxHeartbeats 4000000 in
theorem cmp_op_hi (op k n j m : Int) (s t : ByteArray) (h8 : ¬ op < 8) (h13 : 13 < op) (w : World) :
    Calls Tryd.prog 5 #[.int .i64 op, .agg #[.int .i64 k, .int .i64 n, .string s], .agg #[.int .i64 j, .int .i64 m, .string t]] w (RI (.bad 1 0) w) := by
  have HB := Lib.hid (RC.start w k n s j m t)
  have NW := Lib.hid (new_any 1 0 rfl)
  go_enter Tryd.func5, Tryd.ntmps5
  go_wp2_with (first
      | (go_at_call 15; refine (NW.out _).mono ?_; rintro e w9 ⟨v, rfl, hf, hb, N, rfl⟩
         have HF := Lib.hid hf
         clear hf
         have HB := Lib.hid (HB.out.next hb)
         obtain ⟨a0, a1, a2⟩ := box3 HB.out.a
         obtain ⟨b0, b1, b2⟩ := box3 HB.out.b
         obtain ⟨r0, r1, r2⟩ := box3 HB.out.r
         have z0 := frozen3 HB.out.r 0
         have z1 := frozen3 HB.out.r 1
         have z2 := frozen3 HB.out.r 2
         have HL := Lib.hid HB.out.bel
         clear hb))
  all_goals exact bodyPost_ret (v := .tuple #[.agg #[.int .i64 0, .int .i64 0, .string ⟨#[]⟩], .iface 69 (.pointer (some ⟨N, 0, none⟩))]) (by simp [results, Tryd.results5, go_sem, r0, r1, r2]) rfl ⟨set3_below0 HL.out (by omega) _ _ _, N, rfl, HF.out.set3 HB.out.r _ _ _⟩
set_option maxRecDepth 100000 in
set_option maxHeartbeats 4000000 in
theorem cmp_bad0 (op k n j m : Int) (s t : ByteArray) (h8 : ¬ op < 8) (h13 : ¬ 13 < op) (TA : ∀ w, Calls Tryd.prog 16 #[.agg #[.int .i64 k, .int .i64 n, .string s]] w (Ans (.bool false) w)) (w : World) :
    Calls Tryd.prog 5 #[.int .i64 op, .agg #[.int .i64 k, .int .i64 n, .string s], .agg #[.int .i64 j, .int .i64 m, .string t]] w (RI (.bad 22 0) w) := by
  have HB := Lib.hid (RC.start w k n s j m t)
  replace TA := Lib.hid TA
  have NW := Lib.hid (new_any 22 0 rfl)
  go_enter Tryd.func5, Tryd.ntmps5
  go_wp2_with (first
      | (go_at_call 15; refine (NW.out _).mono ?_; rintro e w9 ⟨v, rfl, hf, hb, N, rfl⟩
         have HF := Lib.hid hf
         clear hf
         have HB := Lib.hid (HB.out.next hb)
         obtain ⟨a0, a1, a2⟩ := box3 HB.out.a
         obtain ⟨b0, b1, b2⟩ := box3 HB.out.b
         obtain ⟨r0, r1, r2⟩ := box3 HB.out.r
         have z0 := frozen3 HB.out.r 0
         have z1 := frozen3 HB.out.r 1
         have z2 := frozen3 HB.out.r 2
         have HL := Lib.hid HB.out.bel
         clear hb)
      | (go_at_call 16; first | ((with_reducible refine (TA.out _).mono ?_); rintro e w2 ⟨rfl, hb⟩)
         have HB := Lib.hid (HB.out.next hb)
         obtain ⟨a0, a1, a2⟩ := box3 HB.out.a
         obtain ⟨b0, b1, b2⟩ := box3 HB.out.b
         obtain ⟨r0, r1, r2⟩ := box3 HB.out.r
         have z0 := frozen3 HB.out.r 0
         have z1 := frozen3 HB.out.r 1
         have z2 := frozen3 HB.out.r 2
         have HL := Lib.hid HB.out.bel
         clear hb))
  all_goals exact bodyPost_ret (v := .tuple #[.agg #[.int .i64 0, .int .i64 0, .string ⟨#[]⟩], .iface 69 (.pointer (some ⟨N, 0, none⟩))]) (by simp [results, Tryd.results5, go_sem, r0, r1, r2]) rfl ⟨set3_below0 HL.out (by omega) _ _ _, N, rfl, HF.out.set3 HB.out.r _ _ _⟩
set_option maxRecDepth 100000 in
set_option maxHeartbeats 4000000 in
theorem cmp_bad1 (op k n j m : Int) (s t : ByteArray) (h8 : ¬ op < 8) (h13 : ¬ 13 < op) (TA : ∀ w, Calls Tryd.prog 16 #[.agg #[.int .i64 k, .int .i64 n, .string s]] w (Ans (.bool true) w)) (TB : ∀ w, Calls Tryd.prog 16 #[.agg #[.int .i64 j, .int .i64 m, .string t]] w (Ans (.bool false) w)) (w : World) :
    Calls Tryd.prog 5 #[.int .i64 op, .agg #[.int .i64 k, .int .i64 n, .string s], .agg #[.int .i64 j, .int .i64 m, .string t]] w (RI (.bad 22 1) w) := by
  have HB := Lib.hid (RC.start w k n s j m t)
  replace TA := Lib.hid TA
  replace TB := Lib.hid TB
  have NW := Lib.hid (new_any 22 1 rfl)
  go_enter Tryd.func5, Tryd.ntmps5
  go_wp2_with (first
      | (go_at_call 15; refine (NW.out _).mono ?_; rintro e w9 ⟨v, rfl, hf, hb, N, rfl⟩
         have HF := Lib.hid hf
         clear hf
         have HB := Lib.hid (HB.out.next hb)
         obtain ⟨a0, a1, a2⟩ := box3 HB.out.a
         obtain ⟨b0, b1, b2⟩ := box3 HB.out.b
         obtain ⟨r0, r1, r2⟩ := box3 HB.out.r
         have z0 := frozen3 HB.out.r 0
         have z1 := frozen3 HB.out.r 1
         have z2 := frozen3 HB.out.r 2
         have HL := Lib.hid HB.out.bel
         clear hb)
      | (go_at_call 16; first | ((with_reducible refine (TA.out _).mono ?_); rintro e w2 ⟨rfl, hb⟩) | ((with_reducible refine (TB.out _).mono ?_); rintro e w2 ⟨rfl, hb⟩)
         have HB := Lib.hid (HB.out.next hb)
         obtain ⟨a0, a1, a2⟩ := box3 HB.out.a
         obtain ⟨b0, b1, b2⟩ := box3 HB.out.b
         obtain ⟨r0, r1, r2⟩ := box3 HB.out.r
         have z0 := frozen3 HB.out.r 0
         have z1 := frozen3 HB.out.r 1
         have z2 := frozen3 HB.out.r 2
         have HL := Lib.hid HB.out.bel
         clear hb))
  all_goals exact bodyPost_ret (v := .tuple #[.agg #[.int .i64 0, .int .i64 0, .string ⟨#[]⟩], .iface 69 (.pointer (some ⟨N, 0, none⟩))]) (by simp [results, Tryd.results5, go_sem, r0, r1, r2]) rfl ⟨set3_below0 HL.out (by omega) _ _ _, N, rfl, HF.out.set3 HB.out.r _ _ _⟩
set_option maxRecDepth 100000 in
set_option maxHeartbeats 4000000 in
theorem cmp_nul0 (op k n j m : Int) (s t : ByteArray) (h8 : ¬ op < 8) (h13 : ¬ 13 < op) (TA : ∀ w, Calls Tryd.prog 16 #[.agg #[.int .i64 k, .int .i64 n, .string s]] w (Ans (.bool true) w)) (TB : ∀ w, Calls Tryd.prog 16 #[.agg #[.int .i64 j, .int .i64 m, .string t]] w (Ans (.bool true) w)) (k0 : (k == 0) = true) (w : World) :
    Calls Tryd.prog 5 #[.int .i64 op, .agg #[.int .i64 k, .int .i64 n, .string s], .agg #[.int .i64 j, .int .i64 m, .string t]] w (RI (.ok 0 0) w) := by
  have HB := Lib.hid (RC.start w k n s j m t)
  replace TA := Lib.hid TA
  replace TB := Lib.hid TB
  go_enter Tryd.func5, Tryd.ntmps5
  go_wp2_with (first
      | (go_at_call 16; first | ((with_reducible refine (TA.out _).mono ?_); rintro e w2 ⟨rfl, hb⟩) | ((with_reducible refine (TB.out _).mono ?_); rintro e w2 ⟨rfl, hb⟩)
         have HB := Lib.hid (HB.out.next hb)
         obtain ⟨a0, a1, a2⟩ := box3 HB.out.a
         obtain ⟨b0, b1, b2⟩ := box3 HB.out.b
         obtain ⟨r0, r1, r2⟩ := box3 HB.out.r
         have z0 := frozen3 HB.out.r 0
         have z1 := frozen3 HB.out.r 1
         have z2 := frozen3 HB.out.r 2
         have HL := Lib.hid HB.out.bel
         clear hb))
  all_goals exact bodyPost_ret (v := .tuple #[.agg #[.int .i64 0, .int .i64 0, .string ⟨#[]⟩], .nilIface]) (by simp [results, Tryd.results5, go_sem, r0, r1, r2]) rfl ⟨set3_below0 HL.out (by omega) _ _ _, rfl⟩
set_option maxRecDepth 100000 in
set_option maxHeartbeats 4000000 in
theorem cmp_nul1 (op k n j m : Int) (s t : ByteArray) (h8 : ¬ op < 8) (h13 : ¬ 13 < op) (TA : ∀ w, Calls Tryd.prog 16 #[.agg #[.int .i64 k, .int .i64 n, .string s]] w (Ans (.bool true) w)) (TB : ∀ w, Calls Tryd.prog 16 #[.agg #[.int .i64 j, .int .i64 m, .string t]] w (Ans (.bool true) w)) (k0 : (k == 0) = false) (j0 : (j == 0) = true) (w : World) :
    Calls Tryd.prog 5 #[.int .i64 op, .agg #[.int .i64 k, .int .i64 n, .string s], .agg #[.int .i64 j, .int .i64 m, .string t]] w (RI (.ok 0 0) w) := by
  have HB := Lib.hid (RC.start w k n s j m t)
  replace TA := Lib.hid TA
  replace TB := Lib.hid TB
  go_enter Tryd.func5, Tryd.ntmps5
  go_wp2_with (first
      | (go_at_call 16; first | ((with_reducible refine (TA.out _).mono ?_); rintro e w2 ⟨rfl, hb⟩) | ((with_reducible refine (TB.out _).mono ?_); rintro e w2 ⟨rfl, hb⟩)
         have HB := Lib.hid (HB.out.next hb)
         obtain ⟨a0, a1, a2⟩ := box3 HB.out.a
         obtain ⟨b0, b1, b2⟩ := box3 HB.out.b
         obtain ⟨r0, r1, r2⟩ := box3 HB.out.r
         have z0 := frozen3 HB.out.r 0
         have z1 := frozen3 HB.out.r 1
         have z2 := frozen3 HB.out.r 2
         have HL := Lib.hid HB.out.bel
         clear hb))
  all_goals exact bodyPost_ret (v := .tuple #[.agg #[.int .i64 0, .int .i64 0, .string ⟨#[]⟩], .nilIface]) (by simp [results, Tryd.results5, go_sem, r0, r1, r2]) rfl ⟨set3_below0 HL.out (by omega) _ _ _, rfl⟩
set_option maxRecDepth 100000 in
set_option maxHeartbeats 4000000 in
theorem cmp_kinds (op k n j m : Int) (s t : ByteArray) (h8 : ¬ op < 8) (h13 : ¬ 13 < op) (TA : ∀ w, Calls Tryd.prog 16 #[.agg #[.int .i64 k, .int .i64 n, .string s]] w (Ans (.bool true) w)) (TB : ∀ w, Calls Tryd.prog 16 #[.agg #[.int .i64 j, .int .i64 m, .string t]] w (Ans (.bool true) w)) (k0 : (k == 0) = false) (j0 : (j == 0) = false) (SG : ∀ w, Calls Tryd.prog 7 #[.agg #[.int .i64 k, .int .i64 n, .string s], .agg #[.int .i64 j, .int .i64 m, .string t]] w fun e w' => Below w.heap.size w w' ∧ ∃ N, e = .returned (.tuple #[.int .i64 0, .iface 69 (.pointer (some ⟨N, 0, none⟩))]) ∧ FaultAt w' 22 1 (.iface 69 (.pointer (some ⟨N, 0, none⟩)))) (w : World) :
    Calls Tryd.prog 5 #[.int .i64 op, .agg #[.int .i64 k, .int .i64 n, .string s], .agg #[.int .i64 j, .int .i64 m, .string t]] w (RI (.bad 22 1) w) := by
  have HB := Lib.hid (RC.start w k n s j m t)
  replace TA := Lib.hid TA
  replace TB := Lib.hid TB
  replace SG := Lib.hid SG
  go_enter Tryd.func5, Tryd.ntmps5
  go_wp2_with (first
      | (go_at_call 16; first | ((with_reducible refine (TA.out _).mono ?_); rintro e w2 ⟨rfl, hb⟩) | ((with_reducible refine (TB.out _).mono ?_); rintro e w2 ⟨rfl, hb⟩)
         have HB := Lib.hid (HB.out.next hb)
         obtain ⟨a0, a1, a2⟩ := box3 HB.out.a
         obtain ⟨b0, b1, b2⟩ := box3 HB.out.b
         obtain ⟨r0, r1, r2⟩ := box3 HB.out.r
         have z0 := frozen3 HB.out.r 0
         have z1 := frozen3 HB.out.r 1
         have z2 := frozen3 HB.out.r 2
         have HL := Lib.hid HB.out.bel
         clear hb)
      | (go_at_call 7; refine (SG.out _).mono ?_; rintro e w2 ⟨hb, N, rfl, hf⟩
         have HF := Lib.hid hf
         clear hf
         have HB := Lib.hid (HB.out.next hb)
         obtain ⟨a0, a1, a2⟩ := box3 HB.out.a
         obtain ⟨b0, b1, b2⟩ := box3 HB.out.b
         obtain ⟨r0, r1, r2⟩ := box3 HB.out.r
         have z0 := frozen3 HB.out.r 0
         have z1 := frozen3 HB.out.r 1
         have z2 := frozen3 HB.out.r 2
         have HL := Lib.hid HB.out.bel
         clear hb))
  all_goals exact bodyPost_ret (v := .tuple #[.agg #[.int .i64 0, .int .i64 0, .string ⟨#[]⟩], .iface 69 (.pointer (some ⟨N, 0, none⟩))]) (by simp [results, Tryd.results5, go_sem, r0, r1, r2]) rfl ⟨set3_below0 HL.out (by omega) _ _ _, N, rfl, HF.out.set3 HB.out.r _ _ _⟩
set_option maxRecDepth 100000 in
set_option maxHeartbeats 4000000 in
theorem cmp_no (op k n j m : Int) (s t : ByteArray) (h8 : ¬ op < 8) (h13 : ¬ 13 < op) (TA : ∀ w, Calls Tryd.prog 16 #[.agg #[.int .i64 k, .int .i64 n, .string s]] w (Ans (.bool true) w)) (TB : ∀ w, Calls Tryd.prog 16 #[.agg #[.int .i64 j, .int .i64 m, .string t]] w (Ans (.bool true) w)) (k0 : (k == 0) = false) (j0 : (j == 0) = false) (g : Int) (SG : ∀ w, Calls Tryd.prog 7 #[.agg #[.int .i64 k, .int .i64 n, .string s], .agg #[.int .i64 j, .int .i64 m, .string t]] w (Ans (.tuple #[.int .i64 g, .nilIface]) w)) (HH : ∀ w, Calls Tryd.prog 17 #[.int .i64 op, .int .i64 g] w fun e w' => e = .returned (.bool false) ∧ w = w') (w : World) :
    Calls Tryd.prog 5 #[.int .i64 op, .agg #[.int .i64 k, .int .i64 n, .string s], .agg #[.int .i64 j, .int .i64 m, .string t]] w (RI (.ok 1 0) w) := by
  have HB := Lib.hid (RC.start w k n s j m t)
  replace TA := Lib.hid TA
  replace TB := Lib.hid TB
  replace SG := Lib.hid SG
  replace HH := Lib.hid HH
  go_enter Tryd.func5, Tryd.ntmps5
  go_wp2_with (first
      | (go_at_call 16; first | ((with_reducible refine (TA.out _).mono ?_); rintro e w2 ⟨rfl, hb⟩) | ((with_reducible refine (TB.out _).mono ?_); rintro e w2 ⟨rfl, hb⟩)
         have HB := Lib.hid (HB.out.next hb)
         obtain ⟨a0, a1, a2⟩ := box3 HB.out.a
         obtain ⟨b0, b1, b2⟩ := box3 HB.out.b
         obtain ⟨r0, r1, r2⟩ := box3 HB.out.r
         have z0 := frozen3 HB.out.r 0
         have z1 := frozen3 HB.out.r 1
         have z2 := frozen3 HB.out.r 2
         have HL := Lib.hid HB.out.bel
         clear hb)
      | (go_at_call 7; refine (SG.out _).mono ?_; rintro e w2 ⟨rfl, hb⟩
         have HB := Lib.hid (HB.out.next hb)
         obtain ⟨a0, a1, a2⟩ := box3 HB.out.a
         obtain ⟨b0, b1, b2⟩ := box3 HB.out.b
         obtain ⟨r0, r1, r2⟩ := box3 HB.out.r
         have z0 := frozen3 HB.out.r 0
         have z1 := frozen3 HB.out.r 1
         have z2 := frozen3 HB.out.r 2
         have HL := Lib.hid HB.out.bel
         clear hb)
      | (go_at_call 17; refine (HH.out _).mono ?_; rintro e w2 ⟨rfl, rfl⟩))
  all_goals exact bodyPost_ret (v := .tuple #[.agg #[.int .i64 1, .int .i64 0, .string ⟨#[]⟩], .nilIface]) (by simp [results, Tryd.results5, go_sem, r0, r1, r2]) rfl ⟨set3_below0 HL.out (by omega) _ _ _, rfl⟩
set_option maxRecDepth 100000 in
set_option maxHeartbeats 4000000 in
theorem cmp_yes (op k n j m : Int) (s t : ByteArray) (h8 : ¬ op < 8) (h13 : ¬ 13 < op) (TA : ∀ w, Calls Tryd.prog 16 #[.agg #[.int .i64 k, .int .i64 n, .string s]] w (Ans (.bool true) w)) (TB : ∀ w, Calls Tryd.prog 16 #[.agg #[.int .i64 j, .int .i64 m, .string t]] w (Ans (.bool true) w)) (k0 : (k == 0) = false) (j0 : (j == 0) = false) (g : Int) (SG : ∀ w, Calls Tryd.prog 7 #[.agg #[.int .i64 k, .int .i64 n, .string s], .agg #[.int .i64 j, .int .i64 m, .string t]] w (Ans (.tuple #[.int .i64 g, .nilIface]) w)) (HH : ∀ w, Calls Tryd.prog 17 #[.int .i64 op, .int .i64 g] w fun e w' => e = .returned (.bool true) ∧ w = w') (w : World) :
    Calls Tryd.prog 5 #[.int .i64 op, .agg #[.int .i64 k, .int .i64 n, .string s], .agg #[.int .i64 j, .int .i64 m, .string t]] w (RI (.ok 1 1) w) := by
  have HB := Lib.hid (RC.start w k n s j m t)
  replace TA := Lib.hid TA
  replace TB := Lib.hid TB
  replace SG := Lib.hid SG
  replace HH := Lib.hid HH
  go_enter Tryd.func5, Tryd.ntmps5
  go_wp2_with (first
      | (go_at_call 16; first | ((with_reducible refine (TA.out _).mono ?_); rintro e w2 ⟨rfl, hb⟩) | ((with_reducible refine (TB.out _).mono ?_); rintro e w2 ⟨rfl, hb⟩)
         have HB := Lib.hid (HB.out.next hb)
         obtain ⟨a0, a1, a2⟩ := box3 HB.out.a
         obtain ⟨b0, b1, b2⟩ := box3 HB.out.b
         obtain ⟨r0, r1, r2⟩ := box3 HB.out.r
         have z0 := frozen3 HB.out.r 0
         have z1 := frozen3 HB.out.r 1
         have z2 := frozen3 HB.out.r 2
         have HL := Lib.hid HB.out.bel
         clear hb)
      | (go_at_call 7; refine (SG.out _).mono ?_; rintro e w2 ⟨rfl, hb⟩
         have HB := Lib.hid (HB.out.next hb)
         obtain ⟨a0, a1, a2⟩ := box3 HB.out.a
         obtain ⟨b0, b1, b2⟩ := box3 HB.out.b
         obtain ⟨r0, r1, r2⟩ := box3 HB.out.r
         have z0 := frozen3 HB.out.r 0
         have z1 := frozen3 HB.out.r 1
         have z2 := frozen3 HB.out.r 2
         have HL := Lib.hid HB.out.bel
         clear hb)
      | (go_at_call 17; refine (HH.out _).mono ?_; rintro e w2 ⟨rfl, rfl⟩))
  all_goals exact bodyPost_ret (v := .tuple #[.agg #[.int .i64 1, .int .i64 1, .string ⟨#[]⟩], .nilIface]) (by simp [results, Tryd.results5, go_sem, r0, r1, r2]) rfl ⟨set3_below0 HL.out (by omega) _ _ _, rfl⟩
theorem compare_any (op : Int) (x y : Val) (ox : x.ok) (oy : y.ok) (lx : x.s.size ≤ 9223372036854775807) (ly : y.s.size ≤ 9223372036854775807) (w : World) :
    Calls Tryd.prog 5 #[.int .i64 op, .agg #[.int .i64 x.k, .int .i64 x.n, .string x.s], .agg #[.int .i64 y.k, .int .i64 y.n, .string y.s]] w (RI (cmpR op x y) w) := by
  have TA : ∀ w, Calls Tryd.prog 16 #[.agg #[.int .i64 x.k, .int .i64 x.n, .string x.s]] w (Ans (.bool (rightB x)) w) := fun w => right_any x lx w
  have TB : ∀ w, Calls Tryd.prog 16 #[.agg #[.int .i64 y.k, .int .i64 y.n, .string y.s]] w (Ans (.bool (rightB y)) w) := fun w => right_any y ly w
  unfold cmpR
  by_cases h8 : op < 8
  · rw [if_pos (.inl h8)]; exact cmp_op_lo _ _ _ _ _ _ _ h8 w
  by_cases h13 : 13 < op
  · rw [if_pos (.inr h13)]; exact cmp_op_hi _ _ _ _ _ _ _ h8 h13 w
  rw [if_neg (by omega)]
  cases hx : rightB x with
  | false => rw [if_pos rfl]; rw [hx] at TA; exact cmp_bad0 _ _ _ _ _ _ _ h8 h13 TA w
  | true =>
    rw [if_neg (by simp)]
    rw [hx] at TA
    cases hy : rightB y with
    | false => rw [if_pos rfl]; rw [hy] at TB; exact cmp_bad1 _ _ _ _ _ _ _ h8 h13 TA TB w
    | true =>
      rw [if_neg (by simp)]
      rw [hy] at TB
      cases k0 : (x.k == 0) with
      | true => rw [if_pos (by simp)]; exact cmp_nul0 _ _ _ _ _ _ _ h8 h13 TA TB k0 w
      | false =>
        cases j0 : (y.k == 0) with
        | true => rw [if_pos (by simp)]; exact cmp_nul1 _ _ _ _ _ _ _ h8 h13 TA TB k0 j0 w
        | false =>
          rw [if_neg (by simp)]
          have kx : knownB x = true := by unfold knownB; rw [hx, k0]; rfl
          have ky : knownB y = true := by unfold knownB; rw [hy, j0]; rfl
          have SG := sign_any x y ox oy lx ly
          by_cases hp : signP x y = -1
          · rw [if_pos hp]
            have SG2 : ∀ w, Calls Tryd.prog 7 #[.agg #[.int .i64 x.k, .int .i64 x.n, .string x.s], .agg #[.int .i64 y.k, .int .i64 y.n, .string y.s]] w (Ans (.tuple #[.int .i64 (signV x y), .nilIface]) w) := fun w => (SG w).mono fun e w' ⟨hb, h⟩ => by
              rcases h with ⟨_, he⟩ | ⟨h, _⟩
              · exact ⟨he, hb⟩
              · omega
            have HH := holds_any op (signV x y) (by omega) (signV_3 x y)
            cases hh : holdsB op (signV x y) with
            | false => rw [hh] at HH; rw [if_neg (by simp)]; exact cmp_no _ _ _ _ _ _ _ h8 h13 TA TB k0 j0 _ SG2 HH w
            | true => rw [hh] at HH; rw [if_pos rfl]; exact cmp_yes _ _ _ _ _ _ _ h8 h13 TA TB k0 j0 _ SG2 HH w
          · rw [if_neg hp]
            have hp1 : signP x y = 1 := by
              unfold signP at hp ⊢
              rw [if_neg (by simp [kx]), if_neg (by simp [ky])] at hp ⊢
              split
              · rename_i h; rw [if_pos h] at hp; exact absurd rfl hp
              · split
                · rename_i h h2; rw [if_neg h, if_pos h2] at hp; exact absurd rfl hp
                · rfl
            refine cmp_kinds _ _ _ _ _ _ _ h8 h13 TA TB k0 j0 (fun w => (SG w).mono fun e w' ⟨hb, h⟩ => ?_) w
            rcases h with ⟨h, _⟩ | ⟨_, N, he, hf⟩
            · omega
            · rw [hp1] at hf; exact ⟨hb, N, he, hf⟩
end Go.Proofs.YtjfbhajaddgmpaaDoor

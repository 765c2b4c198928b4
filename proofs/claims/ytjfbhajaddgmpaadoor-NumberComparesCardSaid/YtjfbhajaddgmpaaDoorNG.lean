/- Package number: Reckon at numbers and at Null. -/
import Derived.Test.YtjfbhajaddgmpaaDoorNE
import Derived.Test.YtjfbhajaddgmpaaDoorNX
namespace Go.Proofs.YtjfbhajaddgmpaaDoor
open Go.RowKit

/-- what Reckon answers: a value, or a code and a place -/
inductive RV where
  | ok (k n : Int)
  | bad (c p : Int)
  deriving DecidableEq
def reckonN (op k n j m : Int) : RV :=
  if op < 3 ∨ 6 < op then .bad 1 0
  else if k = 0 ∨ j = 0 then .ok 0 0
  else match promI k n (commonI k j) with
    | none => .bad 31 0
    | some x => match promI j m (commonI k j) with
      | none => .bad 31 1
      | some y => if op = 6 ∧ y = 0 then .bad 32 1 else match resultI op x y (unitI (commonI k j)) with
        | none => .bad 31 2
        | some z => .ok (commonI k j) z
/-- how it answers -/
def RK (r : RV) (w : World) : Ending → World → Prop := fun e w' => Below w.heap.size w w' ∧ match r with
  | .ok k n => e = .returned (.tuple #[.agg #[.int .i64 k, .int .i64 n, .string ⟨#[]⟩], .nilIface])
  | .bad c p => ∃ v, e = .returned (.tuple #[.agg #[.int .i64 0, .int .i64 0, .string ⟨#[]⟩], v]) ∧ FaultAt w' c p v
/-- two values and an answer in their boxes -/
structure RB (w0 W : World) (k n j m : Int) : Prop where
  a : W.heap[w0.heap.size]? = some (.cells #[.int .i64 k, .int .i64 n, .string ⟨#[]⟩] 25 (0, 0))
  b : W.heap[w0.heap.size + 1]? = some (.cells #[.int .i64 j, .int .i64 m, .string ⟨#[]⟩] 25 (0, 0))
  r : W.heap[w0.heap.size + 1 + 1]? = some (.cells #[.int .i64 0, .int .i64 0, .string ⟨#[]⟩] 25 (0, 0))
  bel : Below w0.heap.size w0 W
theorem RB.next {w0 W V : World} {k n j m : Int} (h : RB w0 W k n j m) (hb : Below W.heap.size W V) : RB w0 V k n j m :=
  ⟨(hb.block _ (Array.getElem?_eq_some_iff.1 h.a).1).trans h.a, (hb.block _ (Array.getElem?_eq_some_iff.1 h.b).1).trans h.b, (hb.block _ (Array.getElem?_eq_some_iff.1 h.r).1).trans h.r, h.bel.trans (hb.mono h.bel.size)⟩
theorem RB.start (w : World) (k n j m : Int) : RB w (((w.alloc (.cells #[.int .i64 k, .int .i64 n, .string ⟨#[]⟩] 25)).alloc (.cells #[.int .i64 j, .int .i64 m, .string ⟨#[]⟩] 25)).alloc (.cells #[.int .i64 0, .int .i64 0, .string ⟨#[]⟩] 25)) k n j m := by
  refine ⟨?_, ?_, ?_, ?_⟩
  · rw [heap_at, if_neg (by simp; omega), heap_at, if_neg (by simp), heap_at, if_pos rfl]
  · rw [heap_at, if_neg (by simp), heap_at, if_pos (by simp)]
  · rw [heap_at, if_pos (by simp)]
  · exact (alloc2_below w _ _).trans ((alloc_below _ _).mono (alloc2_below w _ _).size)
theorem arith_ok {o : Option Int} {n : Int} {a : Int} (h : o = fitI a) (hs : o = some n) : i64ok n := by
  rw [h] at hs
  unfold fitI at hs
  split at hs
  · injection hs with hs; subst hs; assumption
  · cases hs
theorem ratio_ok {a b c n : Int} (h : ratioI a b c = some n) : i64ok n := by
  unfold ratioI at h
  split at h
  · cases h
  · exact arith_ok rfl h
theorem promote_ok {k n q x : Int} (h : promI k n q = some x) : i64ok x := ratio_ok h
section
variable (op k n j m q o x y z : Int) (w : World) (h3 : ¬ op < 3) (h6 : ¬ 6 < op) (k0' : (k == 0) = false) (j0' : (j == 0) = false) (hyn : ¬ op = 6 ∨ op = 6 ∧ ¬ y = 0)
  (TA : Hid (∀ w, Calls Tryd.prog 32 #[.agg #[.int .i64 k, .int .i64 n, .string ⟨#[]⟩]] w (Ans (.bool true) w)))
  (TB : Hid (∀ w, Calls Tryd.prog 32 #[.agg #[.int .i64 j, .int .i64 m, .string ⟨#[]⟩]] w (Ans (.bool true) w)))
  (CM : Hid (∀ w, Calls Tryd.prog 33 #[.int .i64 k, .int .i64 j] w fun e w' => e = .returned (.int .i64 q) ∧ w = w'))
  (UN : Hid (∀ w, Calls Tryd.prog 36 #[.int .i64 q] w fun e w' => e = .returned (.int .i64 o) ∧ w = w'))
  (PA : Hid (∀ w, Calls Tryd.prog 34 #[.agg #[.int .i64 k, .int .i64 n, .string ⟨#[]⟩], .int .i64 q] w fun e w' => e = .returned (.tuple #[.int .i64 x, .bool true]) ∧ Below w.heap.size w w'))
  (PB : Hid (∀ w, Calls Tryd.prog 34 #[.agg #[.int .i64 j, .int .i64 m, .string ⟨#[]⟩], .int .i64 q] w fun e w' => e = .returned (.tuple #[.int .i64 y, .bool true]) ∧ Below w.heap.size w w'))
include h3 h6 k0' j0' hyn TA TB CM UN PA PB
set_option maxRecDepth 100000 in
set_option maxHeartbeats 8000000 in
theorem reckon_bad (RS : Hid (∀ w, Calls Tryd.prog 35 #[.int .i64 op, .int .i64 x, .int .i64 y, .int .i64 o] w fun e w' => ∃ n : Int, e = .returned (.tuple #[.int .i64 n, .bool false]) ∧ Below w.heap.size w w'))
    (NW : Hid (∀ w, Calls Tryd.prog 15 #[.int .i64 31, .int .i64 2] w fun e w' => ∃ v, e = .returned v ∧ FaultAt w' 31 2 v ∧ Below w.heap.size w w' ∧ ∃ N, v = .iface 69 (.pointer (some ⟨N, 0, none⟩)))) :
    Calls Tryd.prog 10 #[.int .i64 op, .agg #[.int .i64 k, .int .i64 n, .string ⟨#[]⟩], .agg #[.int .i64 j, .int .i64 m, .string ⟨#[]⟩]] w (RK (.bad 31 2) w) := by
  have HB := Lib.hid (RB.start w k n j m)
  rcases hyn with h | ⟨rfl, h⟩
  · have h6n : (op == 6) = false := by simpa using h
    clear h
    go_enter Tryd.func10, Tryd.ntmps10
    go_wp2_with (first
      | (go_at_call 15; refine (NW.out _).mono ?_; rintro e w9 ⟨v, rfl, hf, hb, N, rfl⟩
         have HF := Lib.hid hf
         have HB := Lib.hid (HB.out.next hb)
         obtain ⟨r0, r1, r2⟩ := box3 HB.out.r
         have z0 := frozen3 HB.out.r 0
         have z1 := frozen3 HB.out.r 1
         have z2 := frozen3 HB.out.r 2
         have HL := Lib.hid HB.out.bel
         clear hb hf)
      | (go_at_call 32; first | ((with_reducible refine (TA.out _).mono ?_); rintro e w2 ⟨rfl, hb⟩) | ((with_reducible refine (TB.out _).mono ?_); rintro e w2 ⟨rfl, hb⟩)
         have HB := Lib.hid (HB.out.next hb)
         obtain ⟨a0, a1, a2⟩ := box3 HB.out.a
         obtain ⟨b0, b1, b2⟩ := box3 HB.out.b
         clear hb)
      | (go_at_call 33; refine (CM.out _).mono ?_; rintro e w2 ⟨rfl, rfl⟩)
      | (go_at_call 36; refine (UN.out _).mono ?_; rintro e w2 ⟨rfl, rfl⟩)
      | (go_at_call 34; (with_reducible refine (PA.out _).mono ?_); rintro e w2 ⟨rfl, hb⟩
         have HB := Lib.hid (HB.out.next hb)
         obtain ⟨a0, a1, a2⟩ := box3 HB.out.a
         obtain ⟨b0, b1, b2⟩ := box3 HB.out.b
         obtain ⟨r0, r1, r2⟩ := box3 HB.out.r
         clear hb)
      | (go_at_call 34; (with_reducible refine (PB.out _).mono ?_); rintro e w2 ⟨rfl, hb⟩
         have HB := Lib.hid (HB.out.next hb)
         obtain ⟨a0, a1, a2⟩ := box3 HB.out.a
         obtain ⟨b0, b1, b2⟩ := box3 HB.out.b
         clear hb)
      | (go_at_call 35; refine (RS.out _).mono ?_; rintro e w2 ⟨x, rfl, hb⟩
         have HB := Lib.hid (HB.out.next hb)
         obtain ⟨a0, a1, a2⟩ := box3 HB.out.a
         obtain ⟨b0, b1, b2⟩ := box3 HB.out.b
         obtain ⟨r0, r1, r2⟩ := box3 HB.out.r
         have z0 := frozen3 HB.out.r 0
         have z1 := frozen3 HB.out.r 1
         have z2 := frozen3 HB.out.r 2
         have HL := Lib.hid HB.out.bel
         clear hb))
    all_goals exact bodyPost_ret (v := .tuple #[.agg #[.int .i64 0, .int .i64 0, .string ⟨#[]⟩], .iface 69 (.pointer (some ⟨N, 0, none⟩))]) (by simp [results, Tryd.results10, go_sem, r0, r1, r2]) rfl ⟨set3_below0 HL.out (by omega) _ _ _, _, rfl, HF.out.set3 HB.out.r _ _ _⟩
  · have y0 : (y == 0) = false := by simpa using h
    clear h
    go_enter Tryd.func10, Tryd.ntmps10
    go_wp2_with (first
      | (go_at_call 15; refine (NW.out _).mono ?_; rintro e w9 ⟨v, rfl, hf, hb, N, rfl⟩
         have HF := Lib.hid hf
         have HB := Lib.hid (HB.out.next hb)
         obtain ⟨r0, r1, r2⟩ := box3 HB.out.r
         have z0 := frozen3 HB.out.r 0
         have z1 := frozen3 HB.out.r 1
         have z2 := frozen3 HB.out.r 2
         have HL := Lib.hid HB.out.bel
         clear hb hf)
      | (go_at_call 32; first | ((with_reducible refine (TA.out _).mono ?_); rintro e w2 ⟨rfl, hb⟩) | ((with_reducible refine (TB.out _).mono ?_); rintro e w2 ⟨rfl, hb⟩)
         have HB := Lib.hid (HB.out.next hb)
         obtain ⟨a0, a1, a2⟩ := box3 HB.out.a
         obtain ⟨b0, b1, b2⟩ := box3 HB.out.b
         clear hb)
      | (go_at_call 33; refine (CM.out _).mono ?_; rintro e w2 ⟨rfl, rfl⟩)
      | (go_at_call 36; refine (UN.out _).mono ?_; rintro e w2 ⟨rfl, rfl⟩)
      | (go_at_call 34; (with_reducible refine (PA.out _).mono ?_); rintro e w2 ⟨rfl, hb⟩
         have HB := Lib.hid (HB.out.next hb)
         obtain ⟨a0, a1, a2⟩ := box3 HB.out.a
         obtain ⟨b0, b1, b2⟩ := box3 HB.out.b
         obtain ⟨r0, r1, r2⟩ := box3 HB.out.r
         clear hb)
      | (go_at_call 34; (with_reducible refine (PB.out _).mono ?_); rintro e w2 ⟨rfl, hb⟩
         have HB := Lib.hid (HB.out.next hb)
         obtain ⟨a0, a1, a2⟩ := box3 HB.out.a
         obtain ⟨b0, b1, b2⟩ := box3 HB.out.b
         clear hb)
      | (go_at_call 35; refine (RS.out _).mono ?_; rintro e w2 ⟨x, rfl, hb⟩
         have HB := Lib.hid (HB.out.next hb)
         obtain ⟨a0, a1, a2⟩ := box3 HB.out.a
         obtain ⟨b0, b1, b2⟩ := box3 HB.out.b
         obtain ⟨r0, r1, r2⟩ := box3 HB.out.r
         have z0 := frozen3 HB.out.r 0
         have z1 := frozen3 HB.out.r 1
         have z2 := frozen3 HB.out.r 2
         have HL := Lib.hid HB.out.bel
         clear hb))
    all_goals exact bodyPost_ret (v := .tuple #[.agg #[.int .i64 0, .int .i64 0, .string ⟨#[]⟩], .iface 69 (.pointer (some ⟨N, 0, none⟩))]) (by simp [results, Tryd.results10, go_sem, r0, r1, r2]) rfl ⟨set3_below0 HL.out (by omega) _ _ _, _, rfl, HF.out.set3 HB.out.r _ _ _⟩

set_option maxRecDepth 100000 in
set_option maxHeartbeats 8000000 in
theorem reckon_good (RS : Hid (∀ w, Calls Tryd.prog 35 #[.int .i64 op, .int .i64 x, .int .i64 y, .int .i64 o] w fun e w' => e = .returned (.tuple #[.int .i64 z, .bool true]) ∧ Below w.heap.size w w')) :
    Calls Tryd.prog 10 #[.int .i64 op, .agg #[.int .i64 k, .int .i64 n, .string ⟨#[]⟩], .agg #[.int .i64 j, .int .i64 m, .string ⟨#[]⟩]] w (RK (.ok q z) w) := by
  have HB := Lib.hid (RB.start w k n j m)
  rcases hyn with h | ⟨rfl, h⟩
  · have h6n : (op == 6) = false := by simpa using h
    clear h
    go_enter Tryd.func10, Tryd.ntmps10
    go_wp2_with (first
      | (go_at_call 32; first | ((with_reducible refine (TA.out _).mono ?_); rintro e w2 ⟨rfl, hb⟩) | ((with_reducible refine (TB.out _).mono ?_); rintro e w2 ⟨rfl, hb⟩)
         have HB := Lib.hid (HB.out.next hb)
         obtain ⟨a0, a1, a2⟩ := box3 HB.out.a
         obtain ⟨b0, b1, b2⟩ := box3 HB.out.b
         clear hb)
      | (go_at_call 33; refine (CM.out _).mono ?_; rintro e w2 ⟨rfl, rfl⟩)
      | (go_at_call 36; refine (UN.out _).mono ?_; rintro e w2 ⟨rfl, rfl⟩)
      | (go_at_call 34; (with_reducible refine (PA.out _).mono ?_); rintro e w2 ⟨rfl, hb⟩
         have HB := Lib.hid (HB.out.next hb)
         obtain ⟨a0, a1, a2⟩ := box3 HB.out.a
         obtain ⟨b0, b1, b2⟩ := box3 HB.out.b
         obtain ⟨r0, r1, r2⟩ := box3 HB.out.r
         clear hb)
      | (go_at_call 34; (with_reducible refine (PB.out _).mono ?_); rintro e w2 ⟨rfl, hb⟩
         have HB := Lib.hid (HB.out.next hb)
         obtain ⟨a0, a1, a2⟩ := box3 HB.out.a
         obtain ⟨b0, b1, b2⟩ := box3 HB.out.b
         clear hb)
      | (go_at_call 35; refine (RS.out _).mono ?_; rintro e w2 ⟨rfl, hb⟩
         have HB := Lib.hid (HB.out.next hb)
         obtain ⟨a0, a1, a2⟩ := box3 HB.out.a
         obtain ⟨b0, b1, b2⟩ := box3 HB.out.b
         obtain ⟨r0, r1, r2⟩ := box3 HB.out.r
         have z0 := frozen3 HB.out.r 0
         have z1 := frozen3 HB.out.r 1
         have z2 := frozen3 HB.out.r 2
         have HL := Lib.hid HB.out.bel
         clear hb))
    all_goals exact bodyPost_ret (v := .tuple #[.agg #[.int .i64 q, .int .i64 z, .string ⟨#[]⟩], .nilIface]) (by simp [results, Tryd.results10, go_sem, r0, r1, r2]) rfl ⟨set3_below0 HL.out (by omega) _ _ _, rfl⟩
  · have y0 : (y == 0) = false := by simpa using h
    clear h
    go_enter Tryd.func10, Tryd.ntmps10
    go_wp2_with (first
      | (go_at_call 32; first | ((with_reducible refine (TA.out _).mono ?_); rintro e w2 ⟨rfl, hb⟩) | ((with_reducible refine (TB.out _).mono ?_); rintro e w2 ⟨rfl, hb⟩)
         have HB := Lib.hid (HB.out.next hb)
         obtain ⟨a0, a1, a2⟩ := box3 HB.out.a
         obtain ⟨b0, b1, b2⟩ := box3 HB.out.b
         clear hb)
      | (go_at_call 33; refine (CM.out _).mono ?_; rintro e w2 ⟨rfl, rfl⟩)
      | (go_at_call 36; refine (UN.out _).mono ?_; rintro e w2 ⟨rfl, rfl⟩)
      | (go_at_call 34; (with_reducible refine (PA.out _).mono ?_); rintro e w2 ⟨rfl, hb⟩
         have HB := Lib.hid (HB.out.next hb)
         obtain ⟨a0, a1, a2⟩ := box3 HB.out.a
         obtain ⟨b0, b1, b2⟩ := box3 HB.out.b
         obtain ⟨r0, r1, r2⟩ := box3 HB.out.r
         clear hb)
      | (go_at_call 34; (with_reducible refine (PB.out _).mono ?_); rintro e w2 ⟨rfl, hb⟩
         have HB := Lib.hid (HB.out.next hb)
         obtain ⟨a0, a1, a2⟩ := box3 HB.out.a
         obtain ⟨b0, b1, b2⟩ := box3 HB.out.b
         clear hb)
      | (go_at_call 35; refine (RS.out _).mono ?_; rintro e w2 ⟨rfl, hb⟩
         have HB := Lib.hid (HB.out.next hb)
         obtain ⟨a0, a1, a2⟩ := box3 HB.out.a
         obtain ⟨b0, b1, b2⟩ := box3 HB.out.b
         obtain ⟨r0, r1, r2⟩ := box3 HB.out.r
         have z0 := frozen3 HB.out.r 0
         have z1 := frozen3 HB.out.r 1
         have z2 := frozen3 HB.out.r 2
         have HL := Lib.hid HB.out.bel
         clear hb))
    all_goals exact bodyPost_ret (v := .tuple #[.agg #[.int .i64 q, .int .i64 z, .string ⟨#[]⟩], .nilIface]) (by simp [results, Tryd.results10, go_sem, r0, r1, r2]) rfl ⟨set3_below0 HL.out (by omega) _ _ _, rfl⟩

end
set_option maxRecDepth 100000 in
set_option maxHeartbeats 40000000 in
theorem reckon_any (op k n j m : Int) (hk : termP k n) (hj : termP j m) (hn : i64ok n) (hm : i64ok m) (w : World) :
    Calls Tryd.prog 10 #[.int .i64 op, .agg #[.int .i64 k, .int .i64 n, .string ⟨#[]⟩], .agg #[.int .i64 j, .int .i64 m, .string ⟨#[]⟩]] w (RK (reckonN op k n j m) w) := by
  have HB := Lib.hid (RB.start w k n j m)
  have TA := Lib.hid (isTerm_term k n hk)
  have TB := Lib.hid (isTerm_term j m hj)
  obtain ⟨q, hq⟩ : ∃ q, Hid (q = commonI k j) := ⟨_, Lib.hid rfl⟩
  have CM : Hid (∀ w, Calls Tryd.prog 33 #[.int .i64 k, .int .i64 j] w fun e w' => e = .returned (.int .i64 q) ∧ w = w') := Lib.hid (by rw [hq.out]; exact common_any k j)
  obtain ⟨o, ho⟩ : ∃ o, Hid (o = unitI q) := ⟨_, Lib.hid rfl⟩
  have UN : Hid (∀ w, Calls Tryd.prog 36 #[.int .i64 q] w fun e w' => e = .returned (.int .i64 o) ∧ w = w') := Lib.hid (by rw [ho.out]; exact unit_any q)
  have PA0 := Lib.hid (promote_any k n q hn)
  have PB0 := Lib.hid (promote_any j m q hm)
  have NW : ∀ c p : Int, (c == 0) = false → Hid (∀ w, Calls Tryd.prog 15 #[.int .i64 c, .int .i64 p] w fun e w' => ∃ v, e = .returned v ∧ FaultAt w' c p v ∧ Below w.heap.size w w' ∧ ∃ N, v = .iface 69 (.pointer (some ⟨N, 0, none⟩))) := fun c p h => Lib.hid (new_any c p h)
  have NW0 := Lib.hid NW
  clear NW
  have HR : Hid (reckonN op k n j m = if op < 3 ∨ 6 < op then .bad 1 0 else if k = 0 ∨ j = 0 then .ok 0 0 else match promI k n q with
    | none => .bad 31 0
    | some x => match promI j m q with
      | none => .bad 31 1
      | some y => if op = 6 ∧ y = 0 then .bad 32 1 else match resultI op x y o with
        | none => .bad 31 2
        | some z => .ok q z) := Lib.hid (by rw [ho.out, hq.out]; rfl)
  generalize reckonN op k n j m = rv at HR ⊢
  clear hn hm
  by_cases hop : op < 3 ∨ 6 < op
  · have HV : Hid (rv = .bad 1 0) := Lib.hid (by rw [HR.out, if_pos hop])
    obtain rfl := HV.out
    have NW := NW0.out 1 0 rfl
    clear HR HV NW0 hk hj PA0 PB0
    rcases hop with h | h
    · go_enter Tryd.func10, Tryd.ntmps10
      go_wp2_with (first
        | (go_at_call 15; refine (NW.out _).mono ?_; rintro e w9 ⟨v, rfl, hf, hb, N, rfl⟩
           have HF := Lib.hid hf
           have HB := Lib.hid (HB.out.next hb)
           obtain ⟨r0, r1, r2⟩ := box3 HB.out.r
           have z0 := frozen3 HB.out.r 0
           have z1 := frozen3 HB.out.r 1
           have z2 := frozen3 HB.out.r 2
           have HL := Lib.hid HB.out.bel
           clear hb hf)
        | (go_at_call 32; first | ((with_reducible refine (TA.out _).mono ?_); rintro e w2 ⟨rfl, hb⟩) | ((with_reducible refine (TB.out _).mono ?_); rintro e w2 ⟨rfl, hb⟩)
           have HB := Lib.hid (HB.out.next hb)
           obtain ⟨a0, a1, a2⟩ := box3 HB.out.a
           obtain ⟨b0, b1, b2⟩ := box3 HB.out.b
           clear hb)
        | (go_at_call 33; refine (CM.out _).mono ?_; rintro e w2 ⟨rfl, rfl⟩)
        | (go_at_call 36; refine (UN.out _).mono ?_; rintro e w2 ⟨rfl, rfl⟩))
      all_goals exact bodyPost_ret (v := .tuple #[.agg #[.int .i64 0, .int .i64 0, .string ⟨#[]⟩], .iface 69 (.pointer (some ⟨N, 0, none⟩))]) (by simp [results, Tryd.results10, go_sem, r0, r1, r2]) rfl ⟨set3_below0 HL.out (by omega) _ _ _, _, rfl, HF.out.set3 HB.out.r _ _ _⟩
    · have h' : ¬ op < 3 := by omega
      go_enter Tryd.func10, Tryd.ntmps10
      go_wp2_with (first
        | (go_at_call 15; refine (NW.out _).mono ?_; rintro e w9 ⟨v, rfl, hf, hb, N, rfl⟩
           have HF := Lib.hid hf
           have HB := Lib.hid (HB.out.next hb)
           obtain ⟨r0, r1, r2⟩ := box3 HB.out.r
           have z0 := frozen3 HB.out.r 0
           have z1 := frozen3 HB.out.r 1
           have z2 := frozen3 HB.out.r 2
           have HL := Lib.hid HB.out.bel
           clear hb hf)
        | (go_at_call 32; first | ((with_reducible refine (TA.out _).mono ?_); rintro e w2 ⟨rfl, hb⟩) | ((with_reducible refine (TB.out _).mono ?_); rintro e w2 ⟨rfl, hb⟩)
           have HB := Lib.hid (HB.out.next hb)
           obtain ⟨a0, a1, a2⟩ := box3 HB.out.a
           obtain ⟨b0, b1, b2⟩ := box3 HB.out.b
           clear hb)
        | (go_at_call 33; refine (CM.out _).mono ?_; rintro e w2 ⟨rfl, rfl⟩)
        | (go_at_call 36; refine (UN.out _).mono ?_; rintro e w2 ⟨rfl, rfl⟩))
      all_goals exact bodyPost_ret (v := .tuple #[.agg #[.int .i64 0, .int .i64 0, .string ⟨#[]⟩], .iface 69 (.pointer (some ⟨N, 0, none⟩))]) (by simp [results, Tryd.results10, go_sem, r0, r1, r2]) rfl ⟨set3_below0 HL.out (by omega) _ _ _, _, rfl, HF.out.set3 HB.out.r _ _ _⟩
  · have h3 : ¬ op < 3 := by omega
    have h6 : op ≤ 6 := by omega
    have h6' : ¬ 6 < op := by omega
    by_cases hz : k = 0 ∨ j = 0
    · have HV : Hid (rv = .ok 0 0) := Lib.hid (by rw [HR.out, if_neg hop, if_pos hz])
      obtain rfl := HV.out
      have NW := NW0.out 1 0 rfl
      clear HR HV NW0 hk hj PA0 PB0 hop
      have hz1 : (k == 0) = true ∨ (k == 0) = false ∧ (j == 0) = true := by
        by_cases h : k = 0
        · exact .inl (by simp [h])
        · exact .inr ⟨by simpa using h, by simpa using hz.resolve_left h⟩
      clear hz
      rcases hz1 with hz1 | ⟨hz1, hz2⟩
      · go_enter Tryd.func10, Tryd.ntmps10
        go_wp2_with (first
          | (go_at_call 15; refine (NW.out _).mono ?_; rintro e w9 ⟨v, rfl, hf, hb, N, rfl⟩
             have HF := Lib.hid hf
             have HB := Lib.hid (HB.out.next hb)
             obtain ⟨r0, r1, r2⟩ := box3 HB.out.r
             have z0 := frozen3 HB.out.r 0
             have z1 := frozen3 HB.out.r 1
             have z2 := frozen3 HB.out.r 2
             have HL := Lib.hid HB.out.bel
             clear hb hf)
          | (go_at_call 32; first | ((with_reducible refine (TA.out _).mono ?_); rintro e w2 ⟨rfl, hb⟩) | ((with_reducible refine (TB.out _).mono ?_); rintro e w2 ⟨rfl, hb⟩)
             have HB := Lib.hid (HB.out.next hb)
             obtain ⟨a0, a1, a2⟩ := box3 HB.out.a
             obtain ⟨b0, b1, b2⟩ := box3 HB.out.b
             obtain ⟨r0, r1, r2⟩ := box3 HB.out.r
             have z0 := frozen3 HB.out.r 0
             have z1 := frozen3 HB.out.r 1
             have z2 := frozen3 HB.out.r 2
             have HL := Lib.hid HB.out.bel
             clear hb)
          | (go_at_call 33; refine (CM.out _).mono ?_; rintro e w2 ⟨rfl, rfl⟩)
          | (go_at_call 36; refine (UN.out _).mono ?_; rintro e w2 ⟨rfl, rfl⟩))
        exact bodyPost_ret (v := .tuple #[.agg #[.int .i64 0, .int .i64 0, .string ⟨#[]⟩], .nilIface]) (by simp [results, Tryd.results10, go_sem, r0, r1, r2]) rfl ⟨set3_below0 HL.out (by omega) _ _ _, rfl⟩
      · go_enter Tryd.func10, Tryd.ntmps10
        go_wp2_with (first
          | (go_at_call 15; refine (NW.out _).mono ?_; rintro e w9 ⟨v, rfl, hf, hb, N, rfl⟩
             have HF := Lib.hid hf
             have HB := Lib.hid (HB.out.next hb)
             obtain ⟨r0, r1, r2⟩ := box3 HB.out.r
             have z0 := frozen3 HB.out.r 0
             have z1 := frozen3 HB.out.r 1
             have z2 := frozen3 HB.out.r 2
             have HL := Lib.hid HB.out.bel
             clear hb hf)
          | (go_at_call 32; first | ((with_reducible refine (TA.out _).mono ?_); rintro e w2 ⟨rfl, hb⟩) | ((with_reducible refine (TB.out _).mono ?_); rintro e w2 ⟨rfl, hb⟩)
             have HB := Lib.hid (HB.out.next hb)
             obtain ⟨a0, a1, a2⟩ := box3 HB.out.a
             obtain ⟨b0, b1, b2⟩ := box3 HB.out.b
             obtain ⟨r0, r1, r2⟩ := box3 HB.out.r
             have z0 := frozen3 HB.out.r 0
             have z1 := frozen3 HB.out.r 1
             have z2 := frozen3 HB.out.r 2
             have HL := Lib.hid HB.out.bel
             clear hb)
          | (go_at_call 33; refine (CM.out _).mono ?_; rintro e w2 ⟨rfl, rfl⟩)
          | (go_at_call 36; refine (UN.out _).mono ?_; rintro e w2 ⟨rfl, rfl⟩))
        exact bodyPost_ret (v := .tuple #[.agg #[.int .i64 0, .int .i64 0, .string ⟨#[]⟩], .nilIface]) (by simp [results, Tryd.results10, go_sem, r0, r1, r2]) rfl ⟨set3_below0 HL.out (by omega) _ _ _, rfl⟩
    · have k0 : ¬ k = 0 := fun h => hz (.inl h)
      have j0 : ¬ j = 0 := fun h => hz (.inr h)
      have k0' : (k == 0) = false := by simpa using k0
      have j0' : (j == 0) = false := by simpa using j0
      cases hpa : promI k n q with
      | none =>
        have HV : Hid (rv = .bad 31 0) := Lib.hid (by rw [HR.out, if_neg hop, if_neg hz, hpa])
        obtain rfl := HV.out
        have NW := NW0.out 31 0 rfl
        rw [hpa] at PA0
        have PA := Lib.hid (fun w => (PA0.out w).mono fun _ _ h => h.none)
        clear HR HV NW0 hk hj PA0 PB0 hop k0 j0 hz hpa
        go_enter Tryd.func10, Tryd.ntmps10
        go_wp2_with (first
          | (go_at_call 15; refine (NW.out _).mono ?_; rintro e w9 ⟨v, rfl, hf, hb, N, rfl⟩
             have HF := Lib.hid hf
             have HB := Lib.hid (HB.out.next hb)
             obtain ⟨r0, r1, r2⟩ := box3 HB.out.r
             have z0 := frozen3 HB.out.r 0
             have z1 := frozen3 HB.out.r 1
             have z2 := frozen3 HB.out.r 2
             have HL := Lib.hid HB.out.bel
             clear hb hf)
          | (go_at_call 32; first | ((with_reducible refine (TA.out _).mono ?_); rintro e w2 ⟨rfl, hb⟩) | ((with_reducible refine (TB.out _).mono ?_); rintro e w2 ⟨rfl, hb⟩)
             have HB := Lib.hid (HB.out.next hb)
             obtain ⟨a0, a1, a2⟩ := box3 HB.out.a
             obtain ⟨b0, b1, b2⟩ := box3 HB.out.b
             clear hb)
          | (go_at_call 33; refine (CM.out _).mono ?_; rintro e w2 ⟨rfl, rfl⟩)
          | (go_at_call 36; refine (UN.out _).mono ?_; rintro e w2 ⟨rfl, rfl⟩)
          | (go_at_call 34; (with_reducible refine (PA.out _).mono ?_); rintro e w2 ⟨x, rfl, hb⟩
             have HB := Lib.hid (HB.out.next hb)
             obtain ⟨a0, a1, a2⟩ := box3 HB.out.a
             obtain ⟨b0, b1, b2⟩ := box3 HB.out.b
             obtain ⟨r0, r1, r2⟩ := box3 HB.out.r
             clear hb))
        all_goals exact bodyPost_ret (v := .tuple #[.agg #[.int .i64 0, .int .i64 0, .string ⟨#[]⟩], .iface 69 (.pointer (some ⟨N, 0, none⟩))]) (by simp [results, Tryd.results10, go_sem, r0, r1, r2]) rfl ⟨set3_below0 HL.out (by omega) _ _ _, _, rfl, HF.out.set3 HB.out.r _ _ _⟩
      | some x =>
        rw [hpa] at PA0
        have PA := Lib.hid (fun w => (PA0.out w).mono fun _ _ h => h.some)
        cases hpb : promI j m q with
        | none =>
          have HV : Hid (rv = .bad 31 1) := Lib.hid (by rw [HR.out, if_neg hop, if_neg hz, hpa, hpb])
          obtain rfl := HV.out
          have NW := NW0.out 31 1 rfl
          rw [hpb] at PB0
          have PB := Lib.hid (fun w => (PB0.out w).mono fun _ _ h => h.none)
          clear HR HV NW0 hk hj PA0 PB0 hop k0 j0 hz hpa hpb
          go_enter Tryd.func10, Tryd.ntmps10
          go_wp2_with (first
            | (go_at_call 15; refine (NW.out _).mono ?_; rintro e w9 ⟨v, rfl, hf, hb, N, rfl⟩
               have HF := Lib.hid hf
               have HB := Lib.hid (HB.out.next hb)
               obtain ⟨r0, r1, r2⟩ := box3 HB.out.r
               have z0 := frozen3 HB.out.r 0
               have z1 := frozen3 HB.out.r 1
               have z2 := frozen3 HB.out.r 2
               have HL := Lib.hid HB.out.bel
               clear hb hf)
            | (go_at_call 32; first | ((with_reducible refine (TA.out _).mono ?_); rintro e w2 ⟨rfl, hb⟩) | ((with_reducible refine (TB.out _).mono ?_); rintro e w2 ⟨rfl, hb⟩)
               have HB := Lib.hid (HB.out.next hb)
               obtain ⟨a0, a1, a2⟩ := box3 HB.out.a
               obtain ⟨b0, b1, b2⟩ := box3 HB.out.b
               clear hb)
            | (go_at_call 33; refine (CM.out _).mono ?_; rintro e w2 ⟨rfl, rfl⟩)
            | (go_at_call 36; refine (UN.out _).mono ?_; rintro e w2 ⟨rfl, rfl⟩)
            | (go_at_call 34; (with_reducible refine (PA.out _).mono ?_); rintro e w2 ⟨rfl, hb⟩
               have HB := Lib.hid (HB.out.next hb)
               obtain ⟨a0, a1, a2⟩ := box3 HB.out.a
               obtain ⟨b0, b1, b2⟩ := box3 HB.out.b
               obtain ⟨r0, r1, r2⟩ := box3 HB.out.r
               clear hb)
            | (go_at_call 34; (with_reducible refine (PB.out _).mono ?_); rintro e w2 ⟨x, rfl, hb⟩
               have HB := Lib.hid (HB.out.next hb)
               obtain ⟨a0, a1, a2⟩ := box3 HB.out.a
               obtain ⟨b0, b1, b2⟩ := box3 HB.out.b
               clear hb))
          all_goals exact bodyPost_ret (v := .tuple #[.agg #[.int .i64 0, .int .i64 0, .string ⟨#[]⟩], .iface 69 (.pointer (some ⟨N, 0, none⟩))]) (by simp [results, Tryd.results10, go_sem, r0, r1, r2]) rfl ⟨set3_below0 HL.out (by omega) _ _ _, _, rfl, HF.out.set3 HB.out.r _ _ _⟩
        | some y =>
          rw [hpb] at PB0
          have PB := Lib.hid (fun w => (PB0.out w).mono fun _ _ h => h.some)
          by_cases hy : op = 6 ∧ y = 0
          · have HV : Hid (rv = .bad 32 1) := Lib.hid (by rw [HR.out, if_neg hop, if_neg hz, hpa, hpb]; simp only; rw [if_pos hy])
            obtain rfl := HV.out
            have NW := NW0.out 32 1 rfl
            obtain ⟨rfl, rfl⟩ := hy
            clear HR HV NW0 hk hj PA0 PB0 hop k0 j0 hz hpa hpb
            go_enter Tryd.func10, Tryd.ntmps10
            go_wp2_with (first
              | (go_at_call 15; refine (NW.out _).mono ?_; rintro e w9 ⟨v, rfl, hf, hb, N, rfl⟩
                 have HF := Lib.hid hf
                 have HB := Lib.hid (HB.out.next hb)
                 obtain ⟨r0, r1, r2⟩ := box3 HB.out.r
                 have z0 := frozen3 HB.out.r 0
                 have z1 := frozen3 HB.out.r 1
                 have z2 := frozen3 HB.out.r 2
                 have HL := Lib.hid HB.out.bel
                 clear hb hf)
              | (go_at_call 32; first | ((with_reducible refine (TA.out _).mono ?_); rintro e w2 ⟨rfl, hb⟩) | ((with_reducible refine (TB.out _).mono ?_); rintro e w2 ⟨rfl, hb⟩)
                 have HB := Lib.hid (HB.out.next hb)
                 obtain ⟨a0, a1, a2⟩ := box3 HB.out.a
                 obtain ⟨b0, b1, b2⟩ := box3 HB.out.b
                 clear hb)
              | (go_at_call 33; refine (CM.out _).mono ?_; rintro e w2 ⟨rfl, rfl⟩)
              | (go_at_call 36; refine (UN.out _).mono ?_; rintro e w2 ⟨rfl, rfl⟩)
              | (go_at_call 34; (with_reducible refine (PA.out _).mono ?_); rintro e w2 ⟨rfl, hb⟩
                 have HB := Lib.hid (HB.out.next hb)
                 obtain ⟨a0, a1, a2⟩ := box3 HB.out.a
                 obtain ⟨b0, b1, b2⟩ := box3 HB.out.b
                 obtain ⟨r0, r1, r2⟩ := box3 HB.out.r
                 clear hb)
              | (go_at_call 34; (with_reducible refine (PB.out _).mono ?_); rintro e w2 ⟨rfl, hb⟩
                 have HB := Lib.hid (HB.out.next hb)
                 obtain ⟨a0, a1, a2⟩ := box3 HB.out.a
                 obtain ⟨b0, b1, b2⟩ := box3 HB.out.b
                 clear hb))
            all_goals exact bodyPost_ret (v := .tuple #[.agg #[.int .i64 0, .int .i64 0, .string ⟨#[]⟩], .iface 69 (.pointer (some ⟨N, 0, none⟩))]) (by simp [results, Tryd.results10, go_sem, r0, r1, r2]) rfl ⟨set3_below0 HL.out (by omega) _ _ _, _, rfl, HF.out.set3 HB.out.r _ _ _⟩
          · have hyn : ¬ op = 6 ∨ op = 6 ∧ ¬ y = 0 := by
              by_cases h : op = 6
              · exact .inr ⟨h, fun e => hy ⟨h, e⟩⟩
              · exact .inl h
            have RS0 := Lib.hid (result_any op x y o (by omega) h6 (promote_ok hpa) (promote_ok hpb) (by rw [ho.out]; exact unit_ok q))
            cases hrs : resultI op x y o with
            | none =>
              have HV : Hid (rv = .bad 31 2) := Lib.hid (by rw [HR.out, if_neg hop, if_neg hz, hpa, hpb]; simp only; rw [if_neg hy, hrs])
              obtain rfl := HV.out
              rw [hrs] at RS0
              exact reckon_bad op k n j m q o x y w h3 h6' k0' j0' hyn TA TB CM UN PA PB (Lib.hid (fun w => (RS0.out w).mono fun _ _ h => h.none)) (NW0.out 31 2 rfl)
            | some z =>
              have HV : Hid (rv = .ok q z) := Lib.hid (by rw [HR.out, if_neg hop, if_neg hz, hpa, hpb]; simp only; rw [if_neg hy, hrs])
              obtain rfl := HV.out
              rw [hrs] at RS0
              exact reckon_good op k n j m q o x y z w h3 h6' k0' j0' hyn TA TB CM UN PA PB (Lib.hid (fun w => (RS0.out w).mono fun _ _ h => h.some))
end Go.Proofs.YtjfbhajaddgmpaaDoor

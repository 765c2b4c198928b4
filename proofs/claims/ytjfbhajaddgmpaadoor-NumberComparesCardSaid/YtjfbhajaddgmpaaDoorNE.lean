/- Package number: promote, result, Reckon, at numbers and at Null. -/
import Derived.Test.YtjfbhajaddgmpaaDoorND
import Derived.Test.YtjfbhajaddgmpaaDoorNX
namespace Go.Proofs.YtjfbhajaddgmpaaDoor
open Go.RowKit

theorem Fits.some {n : Int} {w : World} {e : Ending} {w' : World} (h : Fits (some n) w e w') : e = .returned (.tuple #[.int .i64 n, .bool true]) ∧ Below w.heap.size w w' := ⟨h.2, h.1⟩
theorem Fits.none {w : World} {e : Ending} {w' : World} (h : Fits none w e w') : ∃ n : Int, e = .returned (.tuple #[.int .i64 n, .bool false]) ∧ Below w.heap.size w w' := by
  obtain ⟨h1, n, h2⟩ := h
  exact ⟨n, h2, h1⟩
def promI (k n q : Int) : Option Int := ratioI n (unitI q) (unitI k)
theorem unit_ok (k : Int) : i64ok (unitI k) := by unfold unitI i64ok; split <;> omega
set_option maxRecDepth 100000 in
set_option maxHeartbeats 1000000 in
theorem promote_core (k n q a b : Int) (R : Ending → World → World → Prop) (w : World)
    (UQ : Hid (∀ w, Calls Tryd.prog 36 #[.int .i64 q] w fun e w' => e = .returned (.int .i64 a) ∧ w = w'))
    (UK : Hid (∀ w, Calls Tryd.prog 36 #[.int .i64 k] w fun e w' => e = .returned (.int .i64 b) ∧ w = w'))
    (HR : Hid (∀ w, Calls Tryd.prog 47 #[.int .i64 n, .int .i64 a, .int .i64 b] w fun e w' => ∃ (x : Int) (t : Bool), e = .returned (.tuple #[.int .i64 x, .bool t]) ∧ Below w.heap.size w w' ∧ ∀ w0, Below w0.heap.size w0 w' → R e w0 w')) :
    Calls Tryd.prog 34 #[.agg #[.int .i64 k, .int .i64 n, .string ⟨#[]⟩], .int .i64 q] w fun e w' => R e w w' := by
  have HB := Lib.hid (VB.start w k n ⟨#[]⟩)
  have HB := Lib.hid (HB.out.next (drew_below _))
  go_enter Tryd.func34, Tryd.ntmps34
  go_wp2_with fail
  go_region_held3 (fun W => W.cell? ⟨w.heap.size, 0, none⟩ = some (.int .i64 k) ∧ W.cell? ⟨w.heap.size, 1, none⟩ = some (.int .i64 n) ∧ W.cell? ⟨w.heap.size, 2, none⟩ = some (.string ⟨#[]⟩))
    (first | exact box3 HB.out.x | go_keep)
    (first
      | (go_at_call 36; first | ((with_reducible refine (UQ.out _).mono ?_); rintro e w1 ⟨rfl, rfl⟩) | ((with_reducible refine (UK.out _).mono ?_); rintro e w1 ⟨rfl, rfl⟩))
      | (go_at_call 47; refine (HR.out _).mono ?_; rintro e w2 ⟨x, t, rfl, hb, hr⟩; have HB := Lib.hid (HB.out.next hb); have HX := Lib.hid (hr _ HB.out.bel); clear hb hr))
  go_wp2_with fail
  exact HX.out
theorem promote_any (k n q : Int) (hn : i64ok n) (w : World) : Calls Tryd.prog 34 #[.agg #[.int .i64 k, .int .i64 n, .string ⟨#[]⟩], .int .i64 q] w (Fits (promI k n q) w) := by
  refine promote_core k n q (unitI q) (unitI k) (fun e w w' => Fits (promI k n q) w e w') w (Lib.hid (unit_any q)) (Lib.hid (unit_any k)) (Lib.hid fun w => (ratio_any n (unitI q) (unitI k) hn (unit_ok q) (unit_ok k) w).mono fun e w' h => ?_)
  have hp : promI k n q = ratioI n (unitI q) (unitI k) := rfl
  rw [hp]
  cases hr : ratioI n (unitI q) (unitI k) with
  | some x => rw [hr] at h; obtain ⟨rfl, hb⟩ := h.some; exact ⟨x, true, rfl, hb, fun w0 h0 => ⟨h0, rfl⟩⟩
  | none => rw [hr] at h; obtain ⟨x, rfl, hb⟩ := h.none; exact ⟨x, false, rfl, hb, fun w0 h0 => ⟨h0, x, rfl⟩⟩
/-- the four operations -/
def resultI (op a b one : Int) : Option Int := if op = 3 then fitI (a + b) else if op = 4 then fitI (a - b) else if op = 5 then ratioI a b one else ratioI a one b
theorem fit_sub (a b : Int) : fitI (a + (-b - 1) + 1) = fitI (a - b) := by congr 1; omega
set_option maxRecDepth 100000 in
set_option maxHeartbeats 1000000 in
theorem result_any (op a b one : Int) (h1 : 3 ≤ op) (h2 : op ≤ 6) (ha : i64ok a) (hb : i64ok b) (ho : i64ok one) (w : World) : Calls Tryd.prog 35 #[.int .i64 op, .int .i64 a, .int .i64 b, .int .i64 one] w (Fits (resultI op a b one) w) := by
  have h4 : op = 3 ∨ op = 4 ∨ op = 5 ∨ op = 6 := by omega
  clear h1 h2
  have fin : ∀ (o : Option Int) (w : World) (e : Ending) (w' : World), Fits o w e w' → ∃ (x : Int) (t : Bool), e = .returned (.tuple #[.int .i64 x, .bool t]) ∧ Hid (Fits o w e w') := by
    intro o w e w' h
    cases o with
    | some x => exact ⟨x, true, h.2, Lib.hid h⟩
    | none => obtain ⟨x, hx, _⟩ := h.none; exact ⟨x, false, hx, Lib.hid h⟩
  have FN := Lib.hid fin
  clear fin
  rcases h4 with rfl | rfl | rfl | rfl
  · have HS := Lib.hid (sum_any a b 0 ha hb (.inl rfl))
    have HR : Hid (resultI 3 a b one = fitI (a + b + 0)) := Lib.hid (by unfold resultI; rw [if_pos rfl]; congr 1; omega)
    rw [HR.out]
    clear ha hb ho
    go_enter Tryd.func35, Tryd.ntmps35
    go_wp2_with (go_at_call 48; refine (HS.out _).mono ?_; intro e w2 h; obtain ⟨x, t, he, HX⟩ := FN.out _ _ _ _ h; subst he; clear h)
    go_ret2
    exact HX.out
  · have nb : Hid (i64ok (-b - 1)) := Lib.hid (by obtain ⟨x, y⟩ := hb; unfold i64ok; omega)
    have HS := Lib.hid (sum_any a (-b - 1) 1 ha nb.out (.inr rfl))
    have HR : Hid (resultI 4 a b one = fitI (a + (-b - 1) + 1)) := Lib.hid (by unfold resultI; rw [if_neg (by omega), if_pos rfl, fit_sub])
    rw [HR.out]
    have e1 : bits .xor .i64 (-1) b = -b - 1 := not_val hb
    have e2 : IntKind.i64.wrap (-b - 1) = -b - 1 := by obtain ⟨x, y⟩ := nb.out; rw [IntKind.wrap_i64]; omega
    obtain ⟨c, hc⟩ : ∃ c, Hid (c = -b - 1) := ⟨_, Lib.hid rfl⟩
    rw [← hc.out] at HS e1 e2 ⊢
    clear ha hb ho
    go_enter Tryd.func35, Tryd.ntmps35
    go_wp2_with (go_at_call 48; ((with_reducible refine (HS.out _).mono ?_); intro e w2 h; obtain ⟨x, t, he, HX⟩ := FN.out _ _ _ _ h; subst he; clear h))
    go_ret2
    exact HX.out
  · have HS := Lib.hid (ratio_any a b one ha hb ho)
    have HR : Hid (resultI 5 a b one = ratioI a b one) := Lib.hid (by unfold resultI; rw [if_neg (by omega), if_neg (by omega), if_pos rfl])
    rw [HR.out]
    clear ha hb ho
    go_enter Tryd.func35, Tryd.ntmps35
    go_wp2_with (go_at_call 47; refine (HS.out _).mono ?_; intro e w2 h; obtain ⟨x, t, he, HX⟩ := FN.out _ _ _ _ h; subst he; clear h)
    go_ret2
    exact HX.out
  · have HS := Lib.hid (ratio_any a one b ha ho hb)
    have HR : Hid (resultI 6 a b one = ratioI a one b) := Lib.hid (by unfold resultI; rw [if_neg (by omega), if_neg (by omega), if_neg (by omega)])
    rw [HR.out]
    clear ha hb ho
    go_enter Tryd.func35, Tryd.ntmps35
    go_wp2_with (go_at_call 47; refine (HS.out _).mono ?_; intro e w2 h; obtain ⟨x, t, he, HX⟩ := FN.out _ _ _ _ h; subst he; clear h)
    go_ret2
    exact HX.out
end Go.Proofs.YtjfbhajaddgmpaaDoor

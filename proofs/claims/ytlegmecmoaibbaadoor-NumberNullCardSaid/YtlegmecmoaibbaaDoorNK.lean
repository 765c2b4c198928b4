/- Package number: Compare beside Null. -/
import Derived.Test.YtlegmecmoaibbaaDoorNI
import Derived.Test.YtlegmecmoaibbaaDoorHB
namespace Go.Proofs.YtlegmecmoaibbaaDoor
open Go.RowKit
attribute [local go_sem ↓] eqV

def cmpNull (op : Int) : RV := if op < 8 ∨ 13 < op then .bad 1 0 else .ok 0 0
set_option maxRecDepth 100000 in
set_option maxHeartbeats 8000000 in
theorem compare_null (op k n j m : Int) (hk : termP k n) (hj : termP j m) (hz : k = 0 ∨ j = 0) (w : World) :
    Calls Tryd.prog 21 #[.int .i64 op, .agg #[.int .i64 k, .int .i64 n, .string ⟨#[]⟩], .agg #[.int .i64 j, .int .i64 m, .string ⟨#[]⟩]] w (RK (cmpNull op) w) := by
  have HB := Lib.hid (RB.start w k n j m)
  have TA := Lib.hid (right_at k n (right_term hk))
  have TB := Lib.hid (right_at j m (right_term hj))
  have NW := Lib.hid (new_any 1 0 rfl)
  have HR : Hid (cmpNull op = if op < 8 ∨ 13 < op then .bad 1 0 else .ok 0 0) := Lib.hid rfl
  generalize cmpNull op = rv at HR ⊢
  clear hk hj
  by_cases hop : op < 8 ∨ 13 < op
  · have HV : Hid (rv = .bad 1 0) := Lib.hid (by rw [HR.out, if_pos hop])
    obtain rfl := HV.out
    clear HR HV
    rcases hop with h | h
    · go_enter Tryd.func21, Tryd.ntmps21
      go_wp2_with (first
        | (go_at_call 33; refine (NW.out _).mono ?_; rintro e w9 ⟨v, rfl, hf, hb, N, rfl⟩
           have HF := Lib.hid hf
           have HB := Lib.hid (HB.out.next hb)
           obtain ⟨r0, r1, r2⟩ := box3 HB.out.r
           have z0 := frozen3 HB.out.r 0
           have z1 := frozen3 HB.out.r 1
           have z2 := frozen3 HB.out.r 2
           have HL := Lib.hid HB.out.bel
           clear hb hf))
      all_goals exact bodyPost_ret (v := .tuple #[.agg #[.int .i64 0, .int .i64 0, .string ⟨#[]⟩], .iface 102 (.pointer (some ⟨N, 0, none⟩))]) (by simp [results, Tryd.results21, go_sem, r0, r1, r2]) rfl ⟨set3_below0 HL.out (by omega) _ _ _, _, rfl, HF.out.set3 HB.out.r _ _ _⟩
    · have h' : ¬ op < 8 := by omega
      go_enter Tryd.func21, Tryd.ntmps21
      go_wp2_with (first
        | (go_at_call 33; refine (NW.out _).mono ?_; rintro e w9 ⟨v, rfl, hf, hb, N, rfl⟩
           have HF := Lib.hid hf
           have HB := Lib.hid (HB.out.next hb)
           obtain ⟨r0, r1, r2⟩ := box3 HB.out.r
           have z0 := frozen3 HB.out.r 0
           have z1 := frozen3 HB.out.r 1
           have z2 := frozen3 HB.out.r 2
           have HL := Lib.hid HB.out.bel
           clear hb hf))
      all_goals exact bodyPost_ret (v := .tuple #[.agg #[.int .i64 0, .int .i64 0, .string ⟨#[]⟩], .iface 102 (.pointer (some ⟨N, 0, none⟩))]) (by simp [results, Tryd.results21, go_sem, r0, r1, r2]) rfl ⟨set3_below0 HL.out (by omega) _ _ _, _, rfl, HF.out.set3 HB.out.r _ _ _⟩
  · have HV : Hid (rv = .ok 0 0) := Lib.hid (by rw [HR.out, if_neg hop])
    obtain rfl := HV.out
    have h8 : ¬ op < 8 := by omega
    have h13 : ¬ 13 < op := by omega
    have hz1 : (k == 0) = true ∨ (k == 0) = false ∧ (j == 0) = true := by
      by_cases h : k = 0
      · exact .inl (by simp [h])
      · exact .inr ⟨by simpa using h, by simpa using hz.resolve_left h⟩
    clear hz HR HV hop
    rcases hz1 with hz1 | ⟨hz1, hz2⟩
    · go_enter Tryd.func21, Tryd.ntmps21
      go_wp2_with (first
        | (go_at_call 15; first | ((with_reducible refine (TA.out _).mono ?_); rintro e w2 ⟨rfl, hb⟩) | ((with_reducible refine (TB.out _).mono ?_); rintro e w2 ⟨rfl, hb⟩)
           have HB := Lib.hid (HB.out.next hb)
           obtain ⟨a0, a1, a2⟩ := box3 HB.out.a
           obtain ⟨b0, b1, b2⟩ := box3 HB.out.b
           obtain ⟨r0, r1, r2⟩ := box3 HB.out.r
           have z0 := frozen3 HB.out.r 0
           have z1 := frozen3 HB.out.r 1
           have z2 := frozen3 HB.out.r 2
           have HL := Lib.hid HB.out.bel
           clear hb))
      exact bodyPost_ret (v := .tuple #[.agg #[.int .i64 0, .int .i64 0, .string ⟨#[]⟩], .nilIface]) (by simp [results, Tryd.results21, go_sem, r0, r1, r2]) rfl ⟨set3_below0 HL.out (by omega) _ _ _, rfl⟩
    · go_enter Tryd.func21, Tryd.ntmps21
      go_wp2_with (first
        | (go_at_call 15; first | ((with_reducible refine (TA.out _).mono ?_); rintro e w2 ⟨rfl, hb⟩) | ((with_reducible refine (TB.out _).mono ?_); rintro e w2 ⟨rfl, hb⟩)
           have HB := Lib.hid (HB.out.next hb)
           obtain ⟨a0, a1, a2⟩ := box3 HB.out.a
           obtain ⟨b0, b1, b2⟩ := box3 HB.out.b
           obtain ⟨r0, r1, r2⟩ := box3 HB.out.r
           have z0 := frozen3 HB.out.r 0
           have z1 := frozen3 HB.out.r 1
           have z2 := frozen3 HB.out.r 2
           have HL := Lib.hid HB.out.bel
           clear hb))
      exact bodyPost_ret (v := .tuple #[.agg #[.int .i64 0, .int .i64 0, .string ⟨#[]⟩], .nilIface]) (by simp [results, Tryd.results21, go_sem, r0, r1, r2]) rfl ⟨set3_below0 HL.out (by omega) _ _ _, rfl⟩
/-- an answer beside Null: Null, and nil or a fault -/
theorem reckon_null (op k n j m : Int) (hz : k = 0 ∨ j = 0) : reckonN op k n j m = if op < 3 ∨ 6 < op then .bad 1 0 else .ok 0 0 := by
  unfold reckonN
  by_cases h : op < 3 ∨ 6 < op
  · rw [if_pos h, if_pos h]
  · rw [if_neg h, if_neg h, if_pos hz]
theorem RK.split {c p : Int} {w : World} {e : Ending} {w' : World} {P : Prop} [Decidable P] (h : RK (if P then .bad c p else .ok 0 0) w e w') :
    ∃ v, e = .returned (.tuple #[.agg #[.int .i64 0, .int .i64 0, .string ⟨#[]⟩], v]) ∧ Below w.heap.size w w' ∧ (P ∧ (∃ N, v = .iface 102 (.pointer (some ⟨N, 0, none⟩))) ∨ ¬ P ∧ v = .nilIface) := by
  by_cases hp : P
  · rw [if_pos hp] at h
    obtain ⟨hb, v, rfl, N, rfl, _⟩ := h
    exact ⟨_, rfl, hb, .inl ⟨hp, N, rfl⟩⟩
  · rw [if_neg hp] at h
    exact ⟨_, h.2, h.1, .inr ⟨hp, rfl⟩⟩
end Go.Proofs.YtlegmecmoaibbaaDoor

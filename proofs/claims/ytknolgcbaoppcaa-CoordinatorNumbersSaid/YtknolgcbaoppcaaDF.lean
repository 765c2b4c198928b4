/- Package disk: Power. -/
import Derived.Test.YtknolgcbaoppcaaDE
namespace Go.Proofs.Ytknolgcbaoppcaa
open Go.RowKit

/-- which of n a raw number speaks of -/
def pickZ (c : Int) (n : Nat) : Nat := ((if c < 0 then -(c + 1) else c) % (n : Int)).toNat
theorem pickZ_lt (c : Int) {n : Nat} (h : 0 < n) : pickZ c n < n := by
  unfold pickZ
  have h1 := Int.emod_nonneg (if c < 0 then -(c + 1) else c) (b := (n : Int)) (by omega)
  have h2 := Int.emod_lt_of_pos (if c < 0 then -(c + 1) else c) (b := (n : Int)) (by omega)
  omega
/-- what Power answers -/
def PwT (w : World) (b s : Nat) (l : List UInt8) (n : Nat) (e : Ending) (w' : World) : Prop := ∃ p' g', e = .returned (.pointer (some ⟨p', 0, none⟩)) ∧ Dk w' w.heap.size p' g' b (s + n) (l.take (s - b + n)) ∧ Below w.heap.size w w'
theorem dk_power {w w3 : World} {B p g b s n m : Nat} {l : List UInt8} {A' : Option Addr} {cap' : Nat} (h : Dk w B p g b s l) (hn : n < b + l.length - s + 1) (ho : OwnB w3 w.heap.size (.slice A' m cap') (l.take (s - b + n))) (hm : m = s - b + n) (hb : Below w.heap.size w w3) :
    PwT w b s l n (.returned (.pointer (some ⟨w3.heap.size, 0, none⟩))) (w3.alloc (.cells #[.int .i64 (b : Int), .int .i64 ((s + n : Nat) : Int), .slice A' m cap'] 58)) := by
  have hse := h.se
  have hbs := h.bs
  have hsm := h.small
  have hl : (l.take (s - b + n)).length = s - b + n := by rw [List.length_take]; omega
  have hsz := hb.size
  have ho2 := ho.below (alloc_below w3 (.cells #[.int .i64 (b : Int), .int .i64 ((s + n : Nat) : Int), .slice A' m cap'] 58))
  refine ⟨w3.heap.size, ?_⟩
  have hbel := hb.trans ((alloc_below w3 (.cells #[.int .i64 (b : Int), .int .i64 ((s + n : Nat) : Int), .slice A' m cap'] 58)).mono hsz)
  have hheld : ∃ g', HeldAt (w3.alloc (.cells #[.int .i64 (b : Int), .int .i64 ((s + n : Nat) : Int), .slice A' m cap'] 58)) w3.heap.size g' (.slice A' m cap') (l.take (s - b + n)) ∧ w.heap.size ≤ g' := by
    rcases ho2.1.2 with ⟨e, h0⟩ | ⟨g', c', cur, e, hg, hh, hnc, hmx, hsz2, ht⟩
    · exact ⟨w3.heap.size, .inl ⟨e, List.length_eq_zero_iff.1 h0, rfl⟩, hsz⟩
    · injection e with e1 e2 e3
      subst e1 e3
      have hlt : g' < w3.heap.size := ho.lt g' (by simp [Value.ownBlock])
      exact ⟨g', .inr ⟨by omega, 0, cap', by rw [e2], OwnAt.of_own (B := w.heap.size) (by rw [← e2]; exact ho2)⟩, hg⟩
  obtain ⟨g', hh1, hh2⟩ := hheld
  subst hm
  exact ⟨g', rfl, ⟨⟨A', cap', by rw [hl]; exact heap_alloc_new w3 _, by rw [hl]; exact hh1⟩, ⟨hsz, hh2⟩, by omega, by omega, by omega⟩, hbel⟩
theorem pick_neg {c : Int} {s d e : Nat} (h : c < 0) (h1 : -9223372036854775808 ≤ c) (hd : d ≤ 100000) (hs : s ≤ 100000) (he : e = s + pickZ c (d + 1)) : wrap64 ((s : Int) + -(c + 1).tmod ((d : Int) + 1)) = (e : Int) := by
  subst he
  have h2 : -(c + 1).tmod ((d : Int) + 1) = (pickZ c (d + 1) : Int) := by
    rw [← Int.neg_tmod, Int.tmod_eq_emod_of_nonneg (by omega)]
    unfold pickZ
    rw [if_pos h]
    have := Int.emod_nonneg (-(c + 1)) (b := ((d + 1 : Nat) : Int)) (by omega)
    rw [Int.toNat_of_nonneg this]
    simp
  have h3 := pickZ_lt c (n := d + 1) (by omega)
  rw [h2]
  have e : wrap64 ((s : Int) + (pickZ c (d + 1) : Int)) = (s : Int) + (pickZ c (d + 1) : Int) := by
    unfold wrap64
    omega
  rw [e]
  simp
theorem pick_pos {c : Int} {s d e : Nat} (h : ¬ c < 0) (hd : d ≤ 100000) (hs : s ≤ 100000) (he : e = s + pickZ c (d + 1)) : wrap64 ((s : Int) + c % ((d : Int) + 1)) = (e : Int) := by
  subst he
  have h2 : c % ((d : Int) + 1) = (pickZ c (d + 1) : Int) := by
    unfold pickZ
    rw [if_neg h]
    have := Int.emod_nonneg c (b := ((d + 1 : Nat) : Int)) (by omega)
    rw [Int.toNat_of_nonneg this]
    simp
  have h3 := pickZ_lt c (n := d + 1) (by omega)
  rw [h2]
  have e : wrap64 ((s : Int) + (pickZ c (d + 1) : Int)) = (s : Int) + (pickZ c (d + 1) : Int) := by
    unfold wrap64
    omega
  rw [e]
  simp
set_option maxRecDepth 100000 in
set_option maxHeartbeats 2000000 in
theorem power_any {w : World} {B p g b s : Nat} {l : List UInt8} (h : Dk w B p g b s l) (c : Int) (hc : i64ok c) :
    Calls Try.prog 18 #[.pointer (some ⟨p, 0, none⟩), .int .i64 c] w (PwT w b s l (pickZ c (b + l.length - s + 1))) := by
  have HE : Hid (∀ n, Calls Try.prog 21 #[.pointer (some ⟨p, 0, none⟩)] (w.drewN n) (LooksN (.int .i64 ((b + l.length : Nat) : Int)) (w.drewN n))) := Lib.hid fun n => end_any (h.below (drewN_below w n))
  have hse := h.se
  have hsm := h.small
  have hbs := h.bs
  obtain ⟨hc1, hc2⟩ := hc
  obtain ⟨n, hn⟩ : ∃ n, n = pickZ c (b + l.length - s + 1) := ⟨_, rfl⟩
  have hlt := pickZ_lt c (n := b + l.length - s + 1) (by omega)
  rw [← hn] at hlt ⊢
  obtain ⟨e, he⟩ : ∃ e, e = s + n := ⟨_, rfl⟩
  have hd : ((b + l.length - s : Nat) : Int) = (b : Int) + (l.length : Int) - (s : Int) := by omega
  have HN := Lib.hid (fun h1 => pick_neg (c := c) (s := s) (d := b + l.length - s) (e := e) h1 hc1 (by omega) (by omega) (by rw [he, hn]))
  have HP := Lib.hid (fun h1 => pick_pos (c := c) (s := s) (d := b + l.length - s) (e := e) h1 (by omega) (by omega) (by rw [he, hn]))
  rw [hd] at HN HP
  have HB : Hid (∀ n, Calls Try.prog 33 #[.pointer (some ⟨p, 0, none⟩), .int .i64 (b : Int), .int .i64 (e : Int)] (w.drewN n) (BtT (w.drewN n) p g b b e l)) := Lib.hid fun n => between_any (h.below (drewN_below w n)) b e (Nat.le_refl _) (by omega) (by omega)
  have HL : Hid (((l.drop (b - b)).take (e - b)).length ≤ 100000) := Lib.hid (by rw [List.length_take]; omega)
  have HDW : Hid (∀ n, Below w.heap.size w (w.drewN n)) := Lib.hid fun n => drewN_below w n
  have HY := Lib.hid (fun w3 A' m cap' => dk_power (w3 := w3) (A' := A') (m := m) (cap' := cap') h hlt)
  have HEE := Lib.hid he
  have HMN : Hid (s - b + n ≤ l.length) := Lib.hid (by omega)
  have HED : Hid (List.take (e - b) (List.drop (b - b) l) = l.take (s - b + n)) := Lib.hid (by rw [Nat.sub_self, List.drop_zero]; congr 1; omega)
  obtain ⟨A, cap, h1, h2⟩ := h.box
  obtain ⟨x0, x1, x2⟩ := box3 h1
  have HX := Lib.hid h1
  have HPL := Lib.hid h.lt
  have hsei : (s : Int) ≤ b + (l.length : Int) := by omega
  have hsmi : (b : Int) + (l.length : Int) ≤ 100000 := by omega
  clear h1 h2 h hn hlt he hd
  by_cases hneg : c < 0
  · have hw := HN.out hneg
    go_enter Try.func18, Try.ntmps18
    go_wp2_with fail
    go_quiet (first | (go_at_call 21; refine Calls.quiet_of (HE.out _)))
    go_wp2_with fail
    rw [hw]
    go_region_law (first
      | (go_simp; go_at_call 33; refine (HB.out _).mono ?_; rintro e2 w2 ⟨A2, n2, m2, rfl, hm2, hh2, rfl⟩
         have HC := Lib.hid (fun n => clone_held (hh2.heap (w' := w.drewN n) rfl) HL.out)
         clear hh2 hm2)
      | (go_simp; go_at_call 32; refine (HC.out _).mono ?_; rintro e3 w3 ⟨v3, rfl, ho3, hb3⟩
         have hb4 := (HDW.out _).trans hb3
         obtain ⟨y0, y1, y2⟩ := box3 ((hb4.block _ HPL.out).trans HX.out)
         rw [HED.out] at ho3
         obtain ⟨_, A3, cap3, hv3, _⟩ := id ho3
         subst hv3
         have HP3 : Hid (∀ (x : Int) (m : Nat), x = (e : Int) → m = s - b + n → PwT w b s l n (.returned (.pointer (some ⟨w3.heap.size, 0, none⟩))) (w3.alloc (.cells #[.int .i64 (b : Int), .int .i64 x, .slice A3 m cap3] 58))) := Lib.hid (fun x m hx hm => by
           have h5 := HY.out w3 A3 m cap3 (by have h6 := ho3; rw [show (l.take (s - b + n)).length = m by rw [List.length_take]; have := HMN.out; omega] at h6; exact h6) hm hb4
           rw [← HEE.out, ← hx] at h5
           exact h5)
         clear ho3 hb3 hb4))
    all_goals
      go_wp2_with fail
      go_ret
      exact HP3.out _ _ rfl (by have := HMN.out; omega)
  · have hw := HP.out hneg
    go_enter Try.func18, Try.ntmps18
    go_wp2_with fail
    go_quiet (first | (go_at_call 21; refine Calls.quiet_of (HE.out _)))
    go_wp2_with fail
    rw [hw]
    go_region_law (first
      | (go_simp; go_at_call 33; refine (HB.out _).mono ?_; rintro e2 w2 ⟨A2, n2, m2, rfl, hm2, hh2, rfl⟩
         have HC := Lib.hid (fun n => clone_held (hh2.heap (w' := w.drewN n) rfl) HL.out)
         clear hh2 hm2)
      | (go_simp; go_at_call 32; refine (HC.out _).mono ?_; rintro e3 w3 ⟨v3, rfl, ho3, hb3⟩
         have hb4 := (HDW.out _).trans hb3
         obtain ⟨y0, y1, y2⟩ := box3 ((hb4.block _ HPL.out).trans HX.out)
         rw [HED.out] at ho3
         obtain ⟨_, A3, cap3, hv3, _⟩ := id ho3
         subst hv3
         have HP3 : Hid (∀ (x : Int) (m : Nat), x = (e : Int) → m = s - b + n → PwT w b s l n (.returned (.pointer (some ⟨w3.heap.size, 0, none⟩))) (w3.alloc (.cells #[.int .i64 (b : Int), .int .i64 x, .slice A3 m cap3] 58))) := Lib.hid (fun x m hx hm => by
           have h5 := HY.out w3 A3 m cap3 (by have h6 := ho3; rw [show (l.take (s - b + n)).length = m by rw [List.length_take]; have := HMN.out; omega] at h6; exact h6) hm hb4
           rw [← HEE.out, ← hx] at h5
           exact h5)
         clear ho3 hb3 hb4))
    all_goals
      go_wp2_with fail
      go_ret
      exact HP3.out _ _ rfl (by have := HMN.out; omega)
end Go.Proofs.Ytknolgcbaoppcaa

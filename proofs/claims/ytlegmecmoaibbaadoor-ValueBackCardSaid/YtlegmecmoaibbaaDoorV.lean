/- ValueBack: the law's own body answers true. -/
import Derived.Test.YtlegmecmoaibbaaDoorU
namespace Go.Proofs.YtlegmecmoaibbaaDoor
open Go.RowKit
attribute [local go_sem ↓] eqV

theorem text_size {x : Val} (hx : x.ok) (hr : rightB x = true) : (textS x).size ≤ 1000 := by
  have hrn : ¬ rightB x = false := by rw [hr]; decide
  have hn : i64ok x.n := hx.2
  have h1 := decS_le x.n.natAbs (by obtain ⟨a, b⟩ := hn; omega)
  have h2 := decS_le (x.n.natAbs / 10000) (by obtain ⟨a, b⟩ := hn; omega)
  have h3 := pad4_size (x.n.natAbs % 10000) (Nat.mod_lt _ (by omega))
  have h4 : (⟨(signL x.n).toArray⟩ : ByteArray).size ≤ 1 := by unfold signL; split <;> decide
  unfold textS
  rw [if_neg hrn]
  rcases right_cases hr with ⟨h, _⟩ | ⟨h, _⟩ | ⟨h, _⟩ | ⟨h, _⟩ | ⟨h, _⟩ | ⟨h, _, h5⟩ | ⟨h, _, h5⟩
  · rw [if_pos h]; decide
  · rw [if_neg (by omega), if_pos h]; split <;> decide
  · rw [if_neg (by omega), if_pos h]; split <;> decide
  · rw [if_neg (by omega), if_neg (by omega), if_pos h, ByteArray.size_append]; omega
  · rw [if_neg (by omega), if_neg (by omega), if_neg (by omega), if_pos h, ByteArray.size_append, ByteArray.size_append, ByteArray.size_append, h3]
    have : (⟨#[46]⟩ : ByteArray).size = 1 := rfl
    omega
  · have h6 := quotS_size x.s
    rw [if_neg (by omega), if_neg (by omega), if_neg (by omega), if_neg (by omega), if_pos h, ByteArray.size_append, ByteArray.size_append]
    have : (⟨#[39]⟩ : ByteArray).size = 1 := rfl
    omega
  · have h6 := hexS_size x.s
    rw [if_neg (by omega), if_neg (by omega), if_neg (by omega), if_neg (by omega), if_neg (by omega), ByteArray.size_append, ByteArray.size_append]
    have h7 : (⟨#[39]⟩ : ByteArray).size = 1 := rfl
    have h8 : (⟨#[120, 39]⟩ : ByteArray).size = 2 := rfl
    omega
theorem val_eq {x y : Val} : x = y ↔ eqB x.k x.n x.s y.k y.n y.s = true := by
  obtain ⟨k, n, s⟩ := x
  obtain ⟨j, m, t⟩ := y
  unfold eqB
  simp
set_option maxRecDepth 100000 in
set_option maxHeartbeats 40000000 in
theorem back_law (x y : Val) (z : ByteArray) (hx : x.ok) (hy : y.ok) (lx : x.s.size ≤ 9223372036854775807) (ly : y.s.size ≤ 9223372036854775807) (lz : z.size ≤ 9223372036854775807) (w : World) (hE : Env w) : Calls Tryd.prog 3 #[x.v, y.v, .string z] w (Ans (.bool true) w) := by
  have RX := Lib.hid (right_any x lx)
  have RY := Lib.hid (right_any y ly)
  have TX := Lib.hid (text_any x hx lx)
  have TY := Lib.hid (text_any y hy ly)
  have AL := Lib.hid alive_any
  have HE := Lib.hid hE
  have HRU : rightB x = true → Hid (∀ w, Env w → Calls Tryd.prog 13 #[.string (textS x)] w fun e w' => e = .returned (.tuple #[x.v, .nilIface]) ∧ Below w.heap.size w w') := fun h => Lib.hid fun w hE => by
    have := read_any (textS x) (text_size hx h) w hE
    rw [read_text x hx h] at this
    exact this.mono fun _ _ ⟨a, b⟩ => ⟨b, a⟩
  have HTE : rightB x = true → rightB y = true → (textS x = textS y ↔ eqB x.k x.n x.s y.k y.n y.s = true) := fun a b => (text_inj hx hy a b).trans val_eq
  have HRD := fun (h : z.size ≤ 1000) => read_any z h
  have HBK := @read_back z
  have HOK : z.size ≤ 1000 → ∀ r, readV z = some r → r.ok ∧ r.s.size ≤ 1000 := fun h r hr => by
    unfold readV at hr
    split at hr
    · rename_i g hg
      split at hr
      · injection hr with hr; subst hr; exact guessV_ok h hg
      · cases hr
    · cases hr
  obtain ⟨k, n, s⟩ := x
  obtain ⟨j, m, t⟩ := y
  unfold Val.v at *
  simp only at *
  have HB := Lib.hid (PB.start w k n s j m t)
  have lx' : (s.size : Int) ≤ 9223372036854775807 := by omega
  have ly' : (t.size : Int) ≤ 9223372036854775807 := by omega
  have lz' : (z.size : Int) ≤ 9223372036854775807 := by omega
  generalize textS ⟨k, n, s⟩ = u at *
  generalize textS ⟨j, m, t⟩ = v at *
  generalize rightB ⟨k, n, s⟩ = p at *
  generalize rightB ⟨j, m, t⟩ = q at *
  clear hE hx hy lx ly lz
  by_cases h5 : z.size ≤ 500
  · have h1000 : z.size ≤ 1000 := by omega
    have h5i : ¬ 500 < (z.size : Int) := by omega
    have HRD' := HRD h1000
    cases hr : readV z with
    | none =>
      rw [hr] at HRD'
      have RS : Hid (∀ w, Env w → Calls Tryd.prog 13 #[.string z] w fun e w' => ∃ N, e = .returned (.tuple #[.agg #[.int .i64 0, .int .i64 0, .string ⟨#[]⟩], .iface 102 (.pointer (some ⟨N, 0, none⟩))]) ∧ Below w.heap.size w w') := Lib.hid fun w hE => (HRD' w hE).mono fun e w' h => by
        obtain ⟨hb, v, rfl, N, rfl, _⟩ := h
        exact ⟨N, rfl, hb⟩
      clear HRD HRD' HBK HOK hr h5 h1000
      cases p with
      | false =>
        clear HRU HTE
        go_enter Tryd.func3, Tryd.ntmps3
        go_wp2_with (first
          | (go_at_call 13; (with_reducible refine (RS.out _ (HE.out.below HB.out.bel)).mono ?_); rintro e wr ⟨N, rfl, hb⟩
             have HB := Lib.hid ((HB.out.next hb).next (alloc_below _ (.cells #[.int .i64 0, .int .i64 0, .string ⟨#[]⟩] 24)))
             clear hb
             obtain ⟨x0, x1, x2⟩ := box3 HB.out.x
             obtain ⟨y0, y1, y2⟩ := box3 HB.out.y)
          | (go_at_call 15; first | ((with_reducible refine (RX.out _).mono ?_); rintro e w2 ⟨rfl, hb⟩) | ((with_reducible refine (RY.out _).mono ?_); rintro e w3 ⟨rfl, hb⟩)
             have HB := Lib.hid (HB.out.next hb)
             clear hb
             obtain ⟨x0, x1, x2⟩ := box3 HB.out.x
             obtain ⟨y0, y1, y2⟩ := box3 HB.out.y)
          | (go_at_call 12; refine (AL.out _ (HE.out.below HB.out.bel)).mono ?_; rintro e w5 ⟨rfl, hb⟩
             have HB := Lib.hid (HB.out.next hb); clear hb))
        all_goals try (go_ret; exact ⟨rfl, HB.out.bel⟩)
      | true =>
        have RU := HRU rfl
        cases q with
        | false =>
          clear HRU HTE
          go_enter Tryd.func3, Tryd.ntmps3
          go_wp2_with (first
            | (go_at_call 13; (with_reducible refine (RS.out _ (HE.out.below HB.out.bel)).mono ?_); rintro e wr ⟨N, rfl, hb⟩
               have HB := Lib.hid ((HB.out.next hb).next (alloc_below _ (.cells #[.int .i64 0, .int .i64 0, .string ⟨#[]⟩] 24)))
               clear hb
               obtain ⟨x0, x1, x2⟩ := box3 HB.out.x
               obtain ⟨y0, y1, y2⟩ := box3 HB.out.y)
            | (go_at_call 13; (with_reducible refine (RU.out _ (HE.out.below HB.out.bel)).mono ?_); rintro e wy ⟨rfl, hb⟩
               have HY := Lib.hid (heap_alloc_new wy (.cells #[.int .i64 k, .int .i64 n, .string s] 24))
               have HB := Lib.hid ((HB.out.next hb).next (alloc_below _ (.cells #[.int .i64 k, .int .i64 n, .string s] 24)))
               clear hb)
            | (go_at_call 15; first | ((with_reducible refine (RX.out _).mono ?_); rintro e w2 ⟨rfl, hb⟩) | ((with_reducible refine (RY.out _).mono ?_); rintro e w3 ⟨rfl, hb⟩)
               have HB := Lib.hid (HB.out.next hb)
               clear hb
               obtain ⟨x0, x1, x2⟩ := box3 HB.out.x
               obtain ⟨y0, y1, y2⟩ := box3 HB.out.y)
            | (go_at_call 14; first | ((with_reducible refine (TX.out _ (HE.out.below HB.out.bel)).mono ?_); rintro e w6 ⟨rfl, hb⟩)
               have HB := Lib.hid (HB.out.next hb)
               clear hb
               obtain ⟨x0, x1, x2⟩ := box3 HB.out.x
               obtain ⟨y0, y1, y2⟩ := box3 HB.out.y)
            | (go_at_call 12; refine (AL.out _ (HE.out.below HB.out.bel)).mono ?_; rintro e w5 ⟨rfl, hb⟩
               have HB := Lib.hid (HB.out.next hb); clear hb))
          all_goals try (go_ret; exact ⟨rfl, HB.out.bel⟩)
        | true =>
          have HT := HTE rfl rfl
          clear HRU HTE
          have he3 : eqB k n s k n s = true := by unfold eqB; simp
          cases he1 : eqB k n s j m t with
          | true =>
            have huv : u = v := HT.2 he1
            have he2 : (u.toList == v.toList) = true := by simp [huv]
            clear HT huv
            go_enter Tryd.func3, Tryd.ntmps3
            go_wp2_with (first
              | (go_at_call 13; (with_reducible refine (RS.out _ (HE.out.below HB.out.bel)).mono ?_); rintro e wr ⟨N, rfl, hb⟩
                 have HB := Lib.hid ((HB.out.next hb).next (alloc_below _ (.cells #[.int .i64 0, .int .i64 0, .string ⟨#[]⟩] 24)))
                 clear hb
                 obtain ⟨x0, x1, x2⟩ := box3 HB.out.x
                 obtain ⟨y0, y1, y2⟩ := box3 HB.out.y)
              | (go_at_call 13; (with_reducible refine (RU.out _ (HE.out.below HB.out.bel)).mono ?_); rintro e wy ⟨rfl, hb⟩
                 have HY := Lib.hid (heap_alloc_new wy (.cells #[.int .i64 k, .int .i64 n, .string s] 24))
                 have HB := Lib.hid ((HB.out.next hb).next (alloc_below _ (.cells #[.int .i64 k, .int .i64 n, .string s] 24)))
                 clear hb)
              | (go_at_call 15; first | ((with_reducible refine (RX.out _).mono ?_); rintro e w2 ⟨rfl, hb⟩) | ((with_reducible refine (RY.out _).mono ?_); rintro e w3 ⟨rfl, hb⟩)
                 have HB := Lib.hid (HB.out.next hb)
                 clear hb
                 obtain ⟨x0, x1, x2⟩ := box3 HB.out.x
                 obtain ⟨y0, y1, y2⟩ := box3 HB.out.y)
              | (go_at_call 14; first | ((with_reducible refine (TX.out _ (HE.out.below HB.out.bel)).mono ?_); rintro e w6 ⟨rfl, hb⟩)
                 have HB := Lib.hid (HB.out.next hb)
                 clear hb
                 obtain ⟨x0, x1, x2⟩ := box3 HB.out.x
                 obtain ⟨y0, y1, y2⟩ := box3 HB.out.y)
              | (go_at_call 12; refine (AL.out _ (HE.out.below HB.out.bel)).mono ?_; rintro e w5 ⟨rfl, hb⟩
                 have HB := Lib.hid (HB.out.next hb); clear hb))
            all_goals try (go_ret; exact ⟨rfl, HB.out.bel⟩)
            have HB := Lib.hid HB.out.drew
            have HY := Lib.hid (((drew_below _).block _ (Array.getElem?_eq_some_iff.1 HY.out).1).trans HY.out)
            go_region_held3 (fun W => (W.cell? ⟨w.heap.size, 0, none⟩ = some (.int .i64 k) ∧ W.cell? ⟨w.heap.size, 1, none⟩ = some (.int .i64 n) ∧ W.cell? ⟨w.heap.size, 2, none⟩ = some (.string s) ∧
              W.cell? ⟨w.heap.size + 1, 0, none⟩ = some (.int .i64 j) ∧ W.cell? ⟨w.heap.size + 1, 1, none⟩ = some (.int .i64 m) ∧ W.cell? ⟨w.heap.size + 1, 2, none⟩ = some (.string t)) ∧
              W.cell? ⟨wy.heap.size, 0, none⟩ = some (.int .i64 k) ∧ W.cell? ⟨wy.heap.size, 1, none⟩ = some (.int .i64 n) ∧ W.cell? ⟨wy.heap.size, 2, none⟩ = some (.string s))
              (first | exact ⟨HB.out.six, box3 HY.out⟩ | go_keep)
              (first
                | (go_at_call 12; refine (AL.out _ (HE.out.below HB.out.bel)).mono ?_; rintro e w5 ⟨rfl, hb⟩; have HB := Lib.hid (HB.out.next hb)
                   have HY := Lib.hid ((hb.block _ (Array.getElem?_eq_some_iff.1 HY.out).1).trans HY.out); clear hb)
                | (go_at_call 14; first | ((with_reducible refine (TX.out _ (HE.out.below HB.out.bel)).mono ?_); rintro e w6 ⟨rfl, hb⟩) | ((with_reducible refine (TY.out _ (HE.out.below HB.out.bel)).mono ?_); rintro e w7 ⟨rfl, hb⟩)
                   have HB := Lib.hid (HB.out.next hb)
                   have HY := Lib.hid ((hb.block _ (Array.getElem?_eq_some_iff.1 HY.out).1).trans HY.out); clear hb))
            go_wp2_with fail
            go_ret
            first | exact ⟨rfl, HB.out.bel⟩ | (refine ⟨ret_bool ?_, HB.out.bel⟩; simp [he1, he2, he3])
          | false =>
            have huv : ¬ u = v := fun e => by have := HT.1 e; rw [he1] at this; cases this
            have he2 : (u.toList == v.toList) = false := by simp [bytes_inj, huv]
            clear HT huv
            go_enter Tryd.func3, Tryd.ntmps3
            go_wp2_with (first
              | (go_at_call 13; (with_reducible refine (RS.out _ (HE.out.below HB.out.bel)).mono ?_); rintro e wr ⟨N, rfl, hb⟩
                 have HB := Lib.hid ((HB.out.next hb).next (alloc_below _ (.cells #[.int .i64 0, .int .i64 0, .string ⟨#[]⟩] 24)))
                 clear hb
                 obtain ⟨x0, x1, x2⟩ := box3 HB.out.x
                 obtain ⟨y0, y1, y2⟩ := box3 HB.out.y)
              | (go_at_call 13; (with_reducible refine (RU.out _ (HE.out.below HB.out.bel)).mono ?_); rintro e wy ⟨rfl, hb⟩
                 have HY := Lib.hid (heap_alloc_new wy (.cells #[.int .i64 k, .int .i64 n, .string s] 24))
                 have HB := Lib.hid ((HB.out.next hb).next (alloc_below _ (.cells #[.int .i64 k, .int .i64 n, .string s] 24)))
                 clear hb)
              | (go_at_call 15; first | ((with_reducible refine (RX.out _).mono ?_); rintro e w2 ⟨rfl, hb⟩) | ((with_reducible refine (RY.out _).mono ?_); rintro e w3 ⟨rfl, hb⟩)
                 have HB := Lib.hid (HB.out.next hb)
                 clear hb
                 obtain ⟨x0, x1, x2⟩ := box3 HB.out.x
                 obtain ⟨y0, y1, y2⟩ := box3 HB.out.y)
              | (go_at_call 14; first | ((with_reducible refine (TX.out _ (HE.out.below HB.out.bel)).mono ?_); rintro e w6 ⟨rfl, hb⟩)
                 have HB := Lib.hid (HB.out.next hb)
                 clear hb
                 obtain ⟨x0, x1, x2⟩ := box3 HB.out.x
                 obtain ⟨y0, y1, y2⟩ := box3 HB.out.y)
              | (go_at_call 12; refine (AL.out _ (HE.out.below HB.out.bel)).mono ?_; rintro e w5 ⟨rfl, hb⟩
                 have HB := Lib.hid (HB.out.next hb); clear hb))
            all_goals try (go_ret; exact ⟨rfl, HB.out.bel⟩)
            have HB := Lib.hid HB.out.drew
            have HY := Lib.hid (((drew_below _).block _ (Array.getElem?_eq_some_iff.1 HY.out).1).trans HY.out)
            go_region_held3 (fun W => (W.cell? ⟨w.heap.size, 0, none⟩ = some (.int .i64 k) ∧ W.cell? ⟨w.heap.size, 1, none⟩ = some (.int .i64 n) ∧ W.cell? ⟨w.heap.size, 2, none⟩ = some (.string s) ∧
              W.cell? ⟨w.heap.size + 1, 0, none⟩ = some (.int .i64 j) ∧ W.cell? ⟨w.heap.size + 1, 1, none⟩ = some (.int .i64 m) ∧ W.cell? ⟨w.heap.size + 1, 2, none⟩ = some (.string t)) ∧
              W.cell? ⟨wy.heap.size, 0, none⟩ = some (.int .i64 k) ∧ W.cell? ⟨wy.heap.size, 1, none⟩ = some (.int .i64 n) ∧ W.cell? ⟨wy.heap.size, 2, none⟩ = some (.string s))
              (first | exact ⟨HB.out.six, box3 HY.out⟩ | go_keep)
              (first
                | (go_at_call 12; refine (AL.out _ (HE.out.below HB.out.bel)).mono ?_; rintro e w5 ⟨rfl, hb⟩; have HB := Lib.hid (HB.out.next hb)
                   have HY := Lib.hid ((hb.block _ (Array.getElem?_eq_some_iff.1 HY.out).1).trans HY.out); clear hb)
                | (go_at_call 14; first | ((with_reducible refine (TX.out _ (HE.out.below HB.out.bel)).mono ?_); rintro e w6 ⟨rfl, hb⟩) | ((with_reducible refine (TY.out _ (HE.out.below HB.out.bel)).mono ?_); rintro e w7 ⟨rfl, hb⟩)
                   have HB := Lib.hid (HB.out.next hb)
                   have HY := Lib.hid ((hb.block _ (Array.getElem?_eq_some_iff.1 HY.out).1).trans HY.out); clear hb))
            go_wp2_with fail
            go_ret
            first | exact ⟨rfl, HB.out.bel⟩ | (refine ⟨ret_bool ?_, HB.out.bel⟩; simp [he1, he2, he3])
    | some r =>
      obtain ⟨hz, hrr⟩ := HBK hr
      obtain ⟨hrok, hrs⟩ := HOK h1000 r hr
      have RZ0 := Lib.hid (right_any r (by omega))
      have TZ0 := Lib.hid (text_any r hrok (by omega))
      rw [hrr] at RZ0
      rw [hz] at TZ0
      rw [hr] at HRD'
      obtain ⟨a, b, c⟩ := r
      unfold Val.v at RZ0 TZ0
      simp only at RZ0 TZ0
      have RZ := RZ0
      have TZ := TZ0
      have RS : Hid (∀ w, Env w → Calls Tryd.prog 13 #[.string z] w fun e w' => e = .returned (.tuple #[.agg #[.int .i64 a, .int .i64 b, .string c], .nilIface]) ∧ Below w.heap.size w w') := Lib.hid fun w hE => (HRD' w hE).mono fun e w' h => ⟨h.2, h.1⟩
      clear HRD HRD' HBK HOK hr h5 h1000 hz hrr hrok hrs RZ0 TZ0
      cases p with
      | false =>
        clear HRU HTE
        go_enter Tryd.func3, Tryd.ntmps3
        go_wp2_with (first
          | (go_at_call 13; (with_reducible refine (RS.out _ (HE.out.below HB.out.bel)).mono ?_); rintro e wr ⟨rfl, hb⟩
             have HX := Lib.hid (heap_alloc_new wr (.cells #[.int .i64 a, .int .i64 b, .string c] 24))
             have HB := Lib.hid ((HB.out.next hb).next (alloc_below _ (.cells #[.int .i64 a, .int .i64 b, .string c] 24)))
             clear hb
             obtain ⟨x0, x1, x2⟩ := box3 HB.out.x
             obtain ⟨y0, y1, y2⟩ := box3 HB.out.y
             obtain ⟨q0, q1, q2⟩ := box3 HX.out)
          | (go_at_call 15; first | ((with_reducible refine (RX.out _).mono ?_); rintro e w2 ⟨rfl, hb⟩) | ((with_reducible refine (RY.out _).mono ?_); rintro e w3 ⟨rfl, hb⟩) | ((with_reducible refine (RZ.out _).mono ?_); rintro e w4 ⟨rfl, hb⟩)
             have HB := Lib.hid (HB.out.next hb)
             have HX := Lib.hid ((hb.block _ (Array.getElem?_eq_some_iff.1 HX.out).1).trans HX.out)
             clear hb
             obtain ⟨x0, x1, x2⟩ := box3 HB.out.x
             obtain ⟨y0, y1, y2⟩ := box3 HB.out.y
             obtain ⟨q0, q1, q2⟩ := box3 HX.out)
          | (go_at_call 14; first | ((with_reducible refine (TX.out _ (HE.out.below HB.out.bel)).mono ?_); rintro e w6 ⟨rfl, hb⟩) | ((with_reducible refine (TZ.out _ (HE.out.below HB.out.bel)).mono ?_); rintro e w7 ⟨rfl, hb⟩)
             have HB := Lib.hid (HB.out.next hb)
             have HX := Lib.hid ((hb.block _ (Array.getElem?_eq_some_iff.1 HX.out).1).trans HX.out)
             clear hb
             obtain ⟨x0, x1, x2⟩ := box3 HB.out.x
             obtain ⟨y0, y1, y2⟩ := box3 HB.out.y
             obtain ⟨q0, q1, q2⟩ := box3 HX.out)
          | (go_at_call 12; refine (AL.out _ (HE.out.below HB.out.bel)).mono ?_; rintro e w5 ⟨rfl, hb⟩
             have HB := Lib.hid (HB.out.next hb); clear hb))
        all_goals try (go_ret; exact ⟨rfl, HB.out.bel⟩)
      | true =>
        have RU := HRU rfl
        cases q with
        | false =>
          clear HRU HTE
          go_enter Tryd.func3, Tryd.ntmps3
          go_wp2_with (first
            | (go_at_call 13; (with_reducible refine (RS.out _ (HE.out.below HB.out.bel)).mono ?_); rintro e wr ⟨rfl, hb⟩
               have HX := Lib.hid (heap_alloc_new wr (.cells #[.int .i64 a, .int .i64 b, .string c] 24))
               have HB := Lib.hid ((HB.out.next hb).next (alloc_below _ (.cells #[.int .i64 a, .int .i64 b, .string c] 24)))
               clear hb
               obtain ⟨x0, x1, x2⟩ := box3 HB.out.x
               obtain ⟨y0, y1, y2⟩ := box3 HB.out.y
               obtain ⟨q0, q1, q2⟩ := box3 HX.out)
            | (go_at_call 13; (with_reducible refine (RU.out _ (HE.out.below HB.out.bel)).mono ?_); rintro e wy ⟨rfl, hb⟩
               have HY := Lib.hid (heap_alloc_new wy (.cells #[.int .i64 k, .int .i64 n, .string s] 24))
               have HB := Lib.hid ((HB.out.next hb).next (alloc_below _ (.cells #[.int .i64 k, .int .i64 n, .string s] 24)))
               clear hb)
            | (go_at_call 15; first | ((with_reducible refine (RX.out _).mono ?_); rintro e w2 ⟨rfl, hb⟩) | ((with_reducible refine (RY.out _).mono ?_); rintro e w3 ⟨rfl, hb⟩) | ((with_reducible refine (RZ.out _).mono ?_); rintro e w4 ⟨rfl, hb⟩)
               have HB := Lib.hid (HB.out.next hb)
               have HX := Lib.hid ((hb.block _ (Array.getElem?_eq_some_iff.1 HX.out).1).trans HX.out)
               clear hb
               obtain ⟨x0, x1, x2⟩ := box3 HB.out.x
               obtain ⟨y0, y1, y2⟩ := box3 HB.out.y
               obtain ⟨q0, q1, q2⟩ := box3 HX.out)
            | (go_at_call 14; first | ((with_reducible refine (TX.out _ (HE.out.below HB.out.bel)).mono ?_); rintro e w6 ⟨rfl, hb⟩) | ((with_reducible refine (TZ.out _ (HE.out.below HB.out.bel)).mono ?_); rintro e w7 ⟨rfl, hb⟩)
               have HB := Lib.hid (HB.out.next hb)
               have HX := Lib.hid ((hb.block _ (Array.getElem?_eq_some_iff.1 HX.out).1).trans HX.out)
               clear hb
               obtain ⟨x0, x1, x2⟩ := box3 HB.out.x
               obtain ⟨y0, y1, y2⟩ := box3 HB.out.y
               obtain ⟨q0, q1, q2⟩ := box3 HX.out)
            | (go_at_call 12; refine (AL.out _ (HE.out.below HB.out.bel)).mono ?_; rintro e w5 ⟨rfl, hb⟩
               have HB := Lib.hid (HB.out.next hb); clear hb))
          all_goals try (go_ret; exact ⟨rfl, HB.out.bel⟩)
        | true =>
          have HT := HTE rfl rfl
          clear HRU HTE
          have he3 : eqB k n s k n s = true := by unfold eqB; simp
          cases he1 : eqB k n s j m t with
          | true =>
            have huv : u = v := HT.2 he1
            have he2 : (u.toList == v.toList) = true := by simp [huv]
            clear HT huv
            go_enter Tryd.func3, Tryd.ntmps3
            go_wp2_with (first
              | (go_at_call 13; (with_reducible refine (RS.out _ (HE.out.below HB.out.bel)).mono ?_); rintro e wr ⟨rfl, hb⟩
                 have HX := Lib.hid (heap_alloc_new wr (.cells #[.int .i64 a, .int .i64 b, .string c] 24))
                 have HB := Lib.hid ((HB.out.next hb).next (alloc_below _ (.cells #[.int .i64 a, .int .i64 b, .string c] 24)))
                 clear hb
                 obtain ⟨x0, x1, x2⟩ := box3 HB.out.x
                 obtain ⟨y0, y1, y2⟩ := box3 HB.out.y
                 obtain ⟨q0, q1, q2⟩ := box3 HX.out)
              | (go_at_call 13; (with_reducible refine (RU.out _ (HE.out.below HB.out.bel)).mono ?_); rintro e wy ⟨rfl, hb⟩
                 have HY := Lib.hid (heap_alloc_new wy (.cells #[.int .i64 k, .int .i64 n, .string s] 24))
                 have HB := Lib.hid ((HB.out.next hb).next (alloc_below _ (.cells #[.int .i64 k, .int .i64 n, .string s] 24)))
                 clear hb)
              | (go_at_call 15; first | ((with_reducible refine (RX.out _).mono ?_); rintro e w2 ⟨rfl, hb⟩) | ((with_reducible refine (RY.out _).mono ?_); rintro e w3 ⟨rfl, hb⟩) | ((with_reducible refine (RZ.out _).mono ?_); rintro e w4 ⟨rfl, hb⟩)
                 have HB := Lib.hid (HB.out.next hb)
                 have HX := Lib.hid ((hb.block _ (Array.getElem?_eq_some_iff.1 HX.out).1).trans HX.out)
                 clear hb
                 obtain ⟨x0, x1, x2⟩ := box3 HB.out.x
                 obtain ⟨y0, y1, y2⟩ := box3 HB.out.y
                 obtain ⟨q0, q1, q2⟩ := box3 HX.out)
              | (go_at_call 14; first | ((with_reducible refine (TX.out _ (HE.out.below HB.out.bel)).mono ?_); rintro e w6 ⟨rfl, hb⟩) | ((with_reducible refine (TZ.out _ (HE.out.below HB.out.bel)).mono ?_); rintro e w7 ⟨rfl, hb⟩)
                 have HB := Lib.hid (HB.out.next hb)
                 have HX := Lib.hid ((hb.block _ (Array.getElem?_eq_some_iff.1 HX.out).1).trans HX.out)
                 clear hb
                 obtain ⟨x0, x1, x2⟩ := box3 HB.out.x
                 obtain ⟨y0, y1, y2⟩ := box3 HB.out.y
                 obtain ⟨q0, q1, q2⟩ := box3 HX.out)
              | (go_at_call 12; refine (AL.out _ (HE.out.below HB.out.bel)).mono ?_; rintro e w5 ⟨rfl, hb⟩
                 have HB := Lib.hid (HB.out.next hb); clear hb))
            all_goals try (go_ret; exact ⟨rfl, HB.out.bel⟩)
            have HB := Lib.hid HB.out.drew
            have HY := Lib.hid (((drew_below _).block _ (Array.getElem?_eq_some_iff.1 HY.out).1).trans HY.out)
            go_region_held3 (fun W => (W.cell? ⟨w.heap.size, 0, none⟩ = some (.int .i64 k) ∧ W.cell? ⟨w.heap.size, 1, none⟩ = some (.int .i64 n) ∧ W.cell? ⟨w.heap.size, 2, none⟩ = some (.string s) ∧
              W.cell? ⟨w.heap.size + 1, 0, none⟩ = some (.int .i64 j) ∧ W.cell? ⟨w.heap.size + 1, 1, none⟩ = some (.int .i64 m) ∧ W.cell? ⟨w.heap.size + 1, 2, none⟩ = some (.string t)) ∧
              W.cell? ⟨wy.heap.size, 0, none⟩ = some (.int .i64 k) ∧ W.cell? ⟨wy.heap.size, 1, none⟩ = some (.int .i64 n) ∧ W.cell? ⟨wy.heap.size, 2, none⟩ = some (.string s))
              (first | exact ⟨HB.out.six, box3 HY.out⟩ | go_keep)
              (first
                | (go_at_call 12; refine (AL.out _ (HE.out.below HB.out.bel)).mono ?_; rintro e w5 ⟨rfl, hb⟩; have HB := Lib.hid (HB.out.next hb)
                   have HY := Lib.hid ((hb.block _ (Array.getElem?_eq_some_iff.1 HY.out).1).trans HY.out); clear hb)
                | (go_at_call 14; first | ((with_reducible refine (TX.out _ (HE.out.below HB.out.bel)).mono ?_); rintro e w6 ⟨rfl, hb⟩) | ((with_reducible refine (TY.out _ (HE.out.below HB.out.bel)).mono ?_); rintro e w7 ⟨rfl, hb⟩)
                   have HB := Lib.hid (HB.out.next hb)
                   have HY := Lib.hid ((hb.block _ (Array.getElem?_eq_some_iff.1 HY.out).1).trans HY.out); clear hb))
            go_wp2_with fail
            go_ret
            first | exact ⟨rfl, HB.out.bel⟩ | (refine ⟨ret_bool ?_, HB.out.bel⟩; simp [he1, he2, he3])
          | false =>
            have huv : ¬ u = v := fun e => by have := HT.1 e; rw [he1] at this; cases this
            have he2 : (u.toList == v.toList) = false := by simp [bytes_inj, huv]
            clear HT huv
            go_enter Tryd.func3, Tryd.ntmps3
            go_wp2_with (first
              | (go_at_call 13; (with_reducible refine (RS.out _ (HE.out.below HB.out.bel)).mono ?_); rintro e wr ⟨rfl, hb⟩
                 have HX := Lib.hid (heap_alloc_new wr (.cells #[.int .i64 a, .int .i64 b, .string c] 24))
                 have HB := Lib.hid ((HB.out.next hb).next (alloc_below _ (.cells #[.int .i64 a, .int .i64 b, .string c] 24)))
                 clear hb
                 obtain ⟨x0, x1, x2⟩ := box3 HB.out.x
                 obtain ⟨y0, y1, y2⟩ := box3 HB.out.y
                 obtain ⟨q0, q1, q2⟩ := box3 HX.out)
              | (go_at_call 13; (with_reducible refine (RU.out _ (HE.out.below HB.out.bel)).mono ?_); rintro e wy ⟨rfl, hb⟩
                 have HY := Lib.hid (heap_alloc_new wy (.cells #[.int .i64 k, .int .i64 n, .string s] 24))
                 have HB := Lib.hid ((HB.out.next hb).next (alloc_below _ (.cells #[.int .i64 k, .int .i64 n, .string s] 24)))
                 clear hb)
              | (go_at_call 15; first | ((with_reducible refine (RX.out _).mono ?_); rintro e w2 ⟨rfl, hb⟩) | ((with_reducible refine (RY.out _).mono ?_); rintro e w3 ⟨rfl, hb⟩) | ((with_reducible refine (RZ.out _).mono ?_); rintro e w4 ⟨rfl, hb⟩)
                 have HB := Lib.hid (HB.out.next hb)
                 have HX := Lib.hid ((hb.block _ (Array.getElem?_eq_some_iff.1 HX.out).1).trans HX.out)
                 clear hb
                 obtain ⟨x0, x1, x2⟩ := box3 HB.out.x
                 obtain ⟨y0, y1, y2⟩ := box3 HB.out.y
                 obtain ⟨q0, q1, q2⟩ := box3 HX.out)
              | (go_at_call 14; first | ((with_reducible refine (TX.out _ (HE.out.below HB.out.bel)).mono ?_); rintro e w6 ⟨rfl, hb⟩) | ((with_reducible refine (TZ.out _ (HE.out.below HB.out.bel)).mono ?_); rintro e w7 ⟨rfl, hb⟩)
                 have HB := Lib.hid (HB.out.next hb)
                 have HX := Lib.hid ((hb.block _ (Array.getElem?_eq_some_iff.1 HX.out).1).trans HX.out)
                 clear hb
                 obtain ⟨x0, x1, x2⟩ := box3 HB.out.x
                 obtain ⟨y0, y1, y2⟩ := box3 HB.out.y
                 obtain ⟨q0, q1, q2⟩ := box3 HX.out)
              | (go_at_call 12; refine (AL.out _ (HE.out.below HB.out.bel)).mono ?_; rintro e w5 ⟨rfl, hb⟩
                 have HB := Lib.hid (HB.out.next hb); clear hb))
            all_goals try (go_ret; exact ⟨rfl, HB.out.bel⟩)
            have HB := Lib.hid HB.out.drew
            have HY := Lib.hid (((drew_below _).block _ (Array.getElem?_eq_some_iff.1 HY.out).1).trans HY.out)
            go_region_held3 (fun W => (W.cell? ⟨w.heap.size, 0, none⟩ = some (.int .i64 k) ∧ W.cell? ⟨w.heap.size, 1, none⟩ = some (.int .i64 n) ∧ W.cell? ⟨w.heap.size, 2, none⟩ = some (.string s) ∧
              W.cell? ⟨w.heap.size + 1, 0, none⟩ = some (.int .i64 j) ∧ W.cell? ⟨w.heap.size + 1, 1, none⟩ = some (.int .i64 m) ∧ W.cell? ⟨w.heap.size + 1, 2, none⟩ = some (.string t)) ∧
              W.cell? ⟨wy.heap.size, 0, none⟩ = some (.int .i64 k) ∧ W.cell? ⟨wy.heap.size, 1, none⟩ = some (.int .i64 n) ∧ W.cell? ⟨wy.heap.size, 2, none⟩ = some (.string s))
              (first | exact ⟨HB.out.six, box3 HY.out⟩ | go_keep)
              (first
                | (go_at_call 12; refine (AL.out _ (HE.out.below HB.out.bel)).mono ?_; rintro e w5 ⟨rfl, hb⟩; have HB := Lib.hid (HB.out.next hb)
                   have HY := Lib.hid ((hb.block _ (Array.getElem?_eq_some_iff.1 HY.out).1).trans HY.out); clear hb)
                | (go_at_call 14; first | ((with_reducible refine (TX.out _ (HE.out.below HB.out.bel)).mono ?_); rintro e w6 ⟨rfl, hb⟩) | ((with_reducible refine (TY.out _ (HE.out.below HB.out.bel)).mono ?_); rintro e w7 ⟨rfl, hb⟩)
                   have HB := Lib.hid (HB.out.next hb)
                   have HY := Lib.hid ((hb.block _ (Array.getElem?_eq_some_iff.1 HY.out).1).trans HY.out); clear hb))
            go_wp2_with fail
            go_ret
            first | exact ⟨rfl, HB.out.bel⟩ | (refine ⟨ret_bool ?_, HB.out.bel⟩; simp [he1, he2, he3])
  · have h5i : 500 < (z.size : Int) := by omega
    clear HRD HBK HOK HRU HTE RX RY TX TY h5
    go_enter Tryd.func3, Tryd.ntmps3
    go_wp2_with (first
      | (go_at_call 12; refine (AL.out _ (HE.out.below HB.out.bel)).mono ?_; rintro e w5 ⟨rfl, hb⟩
         have HB := Lib.hid (HB.out.next hb); clear hb))
    all_goals try (go_ret; exact ⟨rfl, HB.out.bel⟩)
end Go.Proofs.YtlegmecmoaibbaaDoor

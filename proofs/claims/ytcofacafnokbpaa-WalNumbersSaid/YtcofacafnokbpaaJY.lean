/- WalNumbers: the law's own body answers true. -/
import Derived.Test.YtcofacafnokbpaaJX
import Derived.Deep.CutBlock
namespace Go.Proofs.Ytcofacafnokbpaa
open Go.RowKit

set_option maxRecDepth 100000 in
set_option maxHeartbeats 20000000 in
theorem walNumbers_law (l0 : List Act6) (A0 : Option Addr) (cap0 : Nat) (w : World) (r0 : RdA w w.heap.size A0 l0) (o0 : ∀ x ∈ l0, x.ok w w.heap.size) :
    Calls Try.prog 6 #[.slice A0 l0.length cap0] w (Ans (.bool true) w) := by
  obtain ⟨ib, hib, hzb0, hzb1, hzb2⟩ := info_parts infoI
  obtain ⟨is, his, hzs0, hzs1, hzs2⟩ := info_parts infoStr
  have HR0 := Lib.hid r0
  have HO0 := Lib.hid o0
  clear r0 o0
  go_enter Try.func6, Try.ntmps6
  go_wp2_with (first
    | (go_at_call 17; refine (new_any _).mono ?_; rintro e w1 ⟨p, rfl, hd, hb⟩
       have HD := Lib.hid hd
       have HB1 := Lib.hid hb
       clear hd hb)
    | (go_at_call 18; refine (open_any HD.out HB1.out.size [] [] rfl rfl (by intro r hr; cases hr)).mono ?_; rintro e w2 ⟨q, d, rfl, hw, hq, hdd, hO⟩
       have HB2 := Lib.hid (onlyP HB1.out (Nat.le_refl _) hO HD.out.ge.1)
       have HW2 := Lib.hid hw
       clear hw hq hdd hO HD)
    | (go_at_call 40; refine (alive_wal _).mono ?_; rintro e w3 ⟨rfl, hb⟩
       have HB3 := Lib.hid (belowM HB2.out (Nat.le_refl _) hb)
       have HW3 := Lib.hid (HW2.out.below hb)
       clear hb HW2))
  have HST : Hid (WnL w q p l0 (.slice none 0 0) (.slice none 0 0) (.int .i64 0) (.int .i64 0) w3) := Lib.hid ⟨0, rfl, Nat.zero_le _, Nat.zero_le _, p, d, q, q, 0, _, [], [], [], [], 0, rfl, ⟨HW3.out, .inl ⟨rfl, rfl, rfl, rfl⟩, .inl ⟨rfl, rfl, rfl, rfl⟩, .inl rfl, .inl rfl, ⟨HW3.out.ge.1, HW3.out.ge.1⟩, HB3.out⟩, rfl, Nat.le_refl _, rfl, rfl, (fun i x h _ => by simp at h), by decide, Nat.le_refl _⟩
  clear HB1 HB2 HB3 HW3
  go_loopw [6, 7, 8, 9] (fun v6 v7 v8 v9 wr => WnL w q p l0 v6 v7 v8 v9 wr) (fun _ _ _ v9 _ => l0.length - (intOf v9).toNat)
  case atStart => exact HST.out
  case round =>
    obtain ⟨k, rfl, hk, hk4, hs⟩ := hrel
    have HP := Lib.hid hs
    have HB : Hid (Below w.heap.size w wr) := Lib.hid (by obtain ⟨_, _, _, _, _, _, _, _, _, _, _, _, h2, _⟩ := hs; exact h2.bel)
    clear hs HST
    by_cases hlt : k < l0.length ∧ k < 40
    · obtain ⟨hlt1, hlt40⟩ := hlt
      have hlti : (k : Int) < (l0.length : Int) := by omega
      have hlt4 : (k : Int) < 40 := by omega
      obtain ⟨x, hx⟩ : ∃ x, l0[k]? = some x := ⟨_, List.getElem?_eq_getElem hlt1⟩
      obtain ⟨b0, o0, hA0, c0, c1, c2, c3⟩ := HR0.out.at_ hx HB.out (Nat.le_refl _)
      subst hA0
      have hxo := HO0.out x (List.mem_of_getElem? hx)
      obtain ⟨xk, xn, xm, xA, xl, xcap⟩ := x
      dsimp only at c0 c1 c2 c3
      have HRX : Hid (∀ w', Below w.heap.size w w' → RdB w' w'.heap.size xA xl) := Lib.hid fun w' h => (hxo.rd.below h (Nat.le_refl _)).more h.size
      have HNI : Hid (i64ok xn) := Lib.hid hxo.n
      have HKL : Hid (k + 1 ≤ l0.length ∧ k + 1 ≤ 40) := Lib.hid ⟨hlt1, hlt40⟩
      clear hx hxo
      by_cases hbig : xk = 1 ∧ 300 < xl.length
      · obtain ⟨h1, hbig⟩ := hbig
        subst h1
        have hbi : (300 : Int) < (xl.length : Int) := by omega
        have HY : Hid (∀ v9, v9 = .int .i64 ((k + 1 : Nat) : Int) → WnL w q p l0 _ _ _ v9 (wr.alloc (.cells #[.int .i64 1, .int .i64 xn, .int .i64 xm, .slice xA xl.length xcap] 45))) := Lib.hid fun v9 h9 => ⟨k + 1, h9, HKL.out.1, HKL.out.2, (HP.out.below (alloc_below wr _)).more⟩
        clear hbig hk hk4
        go_wp2_with fail
        go_roundw
        case rel => first | exact HY.out _ (by go_num) | ((repeat apply Exists.intro); exact ⟨HY.out _ (by go_num), rfl⟩)
        case measure => simp [intOf]; omega
      · go_upto_block 2 with fail
        have HBX : Hid ((wr.alloc (.cells #[.int .i64 xk, .int .i64 xn, .int .i64 xm, .slice xA xl.length xcap] 45)).heap[wr.heap.size]? = some (.cells #[.int .i64 xk, .int .i64 xn, .int .i64 xm, .slice xA xl.length xcap] 45 (0, 0))) := Lib.hid (heap_alloc_new wr _)
        have HP0 := Lib.hid (HP.out.below (alloc_below wr (.cells #[.int .i64 xk, .int .i64 xn, .int .i64 xm, .slice xA xl.length xcap] 45)))
        have HBW := Lib.hid (HB.out.trans ((alloc_below wr (.cells #[.int .i64 xk, .int .i64 xn, .int .i64 xm, .slice xA xl.length xcap] 45)).mono HB.out.size))
        have HNB : Hid (wr.heap.size < (wr.alloc (.cells #[.int .i64 xk, .int .i64 xn, .int .i64 xm, .slice xA xl.length xcap] 45)).heap.size) := Lib.hid (by simp)
        have HP1 : Hid (∃ g d gn gr b s pre rs N R f, u8 = .int .i64 ((f : Nat) : Int) ∧ WN w (wr.alloc (.cells #[.int .i64 xk, .int .i64 xn, .int .i64 xm, .slice xA xl.length xcap] 45)) q p g d gn gr b s pre rs N R u6 u7 ∧ N.length = R.length ∧ f ≤ N.length ∧ N.drop f = numbersOf b rs ∧ R.drop f = rs ∧ (∀ i x, N[i]? = some x → i < f → x < b) ∧ b + (bytesOf rs).length ≤ 305 * k ∧ N.length ≤ k ∧ (wr.heap.size ≠ q ∧ wr.heap.size ≠ p ∧ wr.heap.size ≠ g ∧ wr.heap.size ≠ d ∧ wr.heap.size ≠ gn ∧ wr.heap.size ≠ gr)) := Lib.hid (by
          obtain ⟨g, d, gn, gr, b, s, pre, rs, N, R, f, h1, h2, h3, h4, h5, h6, h7, h8, h9⟩ := HP.out
          exact ⟨g, d, gn, gr, b, s, pre, rs, N, R, f, h1, h2.below (alloc_below wr _), h3, h4, h5, h6, h7, h8, h9, by have := h2.lt; omega⟩)
        generalize wr.alloc (.cells #[.int .i64 xk, .int .i64 xn, .int .i64 xm, .slice xA xl.length xcap] 45) = W0 at HBX HP0 HBW HNB HP1 ⊢
        generalize wr.heap.size = nb at HBX HNB HP1 ⊢
        clear c0 c1 c2 c3 HP
        go_cut [6, 7, 8] (fun v6 v7 v8 wx => WnS w q p (k + 1) v6 v7 v8 wx)
        case first =>
          obtain ⟨y0, y1, y2, y3⟩ := box4 HBX.out
          by_cases hk1 : xk = 1
          · subst hk1
            have hxl3 : xl.length ≤ 300 := by omega
            have hxl3i : ¬ (300 : Int) < (xl.length : Int) := by omega
            by_cases hx1 : 1 ≤ xl.length
            · obtain ⟨g, d, gn, gr, b, s, pre, rs, N, R, f, rfl, hwn, hNR, hfN, hNd, hRd, hNb, hbl, hNk, hnn⟩ := HP1.out
              have HNN := Lib.hid hnn
              clear hnn
              have HWN := Lib.hid hwn
              have HF1 : Hid (N.length = R.length ∧ f ≤ N.length ∧ N.drop f = numbersOf b rs ∧ R.drop f = rs ∧ (∀ i x, N[i]? = some x → i < f → x < b) ∧ b + (bytesOf rs).length ≤ 305 * k ∧ N.length ≤ k) := Lib.hid ⟨hNR, hfN, hNd, hRd, hNb, hbl, hNk⟩
              obtain ⟨E, hE⟩ : ∃ E, E = b + (bytesOf rs).length := ⟨_, rfl⟩
              have HE := Lib.hid hE
              have hEi : (E : Int) ≤ 12200 := by omega
              have HXL := Lib.hid hxl3
              have HAP := Lib.hid (wappend_yes hwn.wl HBW.out.size xl xA _ xcap rfl ⟨hx1, by omega⟩ (HRX.out _ HBW.out) (by omega))
              obtain ⟨A6, c6, hv6, _⟩ := hwn.nums.slice
              subst hv6
              obtain ⟨A7, c7, hv7, _⟩ := hwn.recs.slice
              subst hv7
              have hN40 : (N.length : Int) ≤ 40 := by omega
              by_cases hN0 : 0 < N.length
              · obtain ⟨X, hX⟩ : ∃ X, N[N.length - 1]? = some X := ⟨_, List.getElem?_eq_getElem (by omega)⟩
                have hXE : ¬ ((E : Int) ≤ (X : Int)) := by have := (nums_lt hNd hNb hX).1; omega
                obtain ⟨m, hm⟩ : ∃ m, m = N.length - 1 := ⟨_, rfl⟩
                rw [← hm] at hX
                have hm1 : (N.length : Int) - 1 = (m : Int) := by omega
                have hmlt : (m : Int) < (N.length : Int) := by omega
                have hpos : 0 < (N.length : Int) := by omega
                obtain ⟨b6, o6, hA6, _⟩ := hwn.nums.rd.1.at_ (intsV_get hX) (Below.refl _ _) (Nat.le_refl _)
                subst hA6
                have HX := Lib.hid hX
                clear hX hm
                clear hwn hNR hfN hNd hRd hNb hbl hNk hE hx1 hxl3 hN0
                go_wp2_with (first
                  | (go_at_call 20; refine HAP.out.mono ?_; rintro e w2 ⟨he, g', d', hw, hO, hg, hd⟩
                     have he2 : e = .returned (.tuple #[.int .i64 (E : Int), .int .i64 0]) := by rw [he, HE.out]
                     have HW2 := Lib.hid (HWN.out.wal hw hO hg hd)
                     have hnb := HNN.out
                     have hbx := (hO.block nb HNB.out (fun e9 => by have h9 : nb = q ∨ nb = p ∨ nb = g ∨ nb = d := e9; omega)).trans HBX.out
                     obtain ⟨z0, z1, z2, z3⟩ := box4 hbx
                     have HBX2 := Lib.hid hbx
                     have HN2 : Hid (nb < w2.heap.size) := Lib.hid (Nat.lt_of_lt_of_le HNB.out hO.size)
                     have HHA : Hid (∀ o, HeldC (w2.alloc o) q gn 1 (.slice (some ⟨b6, o6, none⟩) N.length c6) N.length (intsV N)) := Lib.hid fun o => (HW2.out.below (alloc_below w2 o)).nums
                     have HQA : Hid (∀ o, q < (w2.alloc o).heap.size) := Lib.hid fun o => (HW2.out.below (alloc_below w2 o)).lt.1
                     have d6 := HW2.out.nums.rd.1.val (intsV_get HX.out)
                     clear hw hO hg hd he hnb hbx
                     subst he2)
                  | (at_builtin
                     refine wpList_appHC (n := N.length) (m := 1) (ys := [.int .i64 (E : Int)]) (by rfl) _ _ 50 3 (by rfl) Try.underlying50 hib hzb0 hzb1 hzb2 (by rfl) (by omega) (by rfl) (HHA.out _) (HQA.out _) (by rfl) (by rfl) (one_cell1 _ _ _) (one_int _ _) (by have := HF1.out; omega) (by have := HF1.out; omega) ?_
                     intro g6 v6 w3 ho6 hO6 hg6
                     have HW3 := Lib.hid ((HW2.out.below (alloc_below w2 _)).num ho6 hO6 hg6)
                     have hbx := (hO6.block nb (by have := alloc_size w2 (.cells #[.int .i64 (E : Int)] 3); have := HN2.out; omega) (fun e9 => by have := HNN.out; have h9 : nb = gn := e9.1; omega)).trans (((alloc_below w2 _).block nb HN2.out).trans HBX2.out)
                     obtain ⟨z0, z1, z2, z3⟩ := box4 hbx
                     have kc3 := conv_rd (cap := xcap) (HRX.out w3 HW3.out.bel) rfl ⟨xl.toArray⟩ rfl
                     have HHB : Hid (∀ o, HeldC (w3.alloc o) q gr 1 (.slice A7 R.length c7) R.length (strsV R)) := Lib.hid fun o => (HW3.out.below (alloc_below w3 o)).recs
                     have HQB : Hid (∀ o, q < (w3.alloc o).heap.size) := Lib.hid fun o => (HW3.out.below (alloc_below w3 o)).lt.1
                     clear ho6 hO6 hg6 hbx HHA)
                  | (at_builtin
                     refine wpList_appHC (n := R.length) (m := 1) (ys := [strV xl]) (by rfl) _ _ 68 9 (by rfl) Try.underlying68 his hzs0 hzs1 hzs2 (by rfl) (by omega) (by rfl) (HHB.out _) (HQB.out _) (by rfl) (by rfl) (one_cell1 _ _ _) (one_val _ rfl) (by have := HF1.out; omega) (by have := HF1.out; omega) ?_
                     intro g7 v7 w4 ho7 hO7 hg7
                     have HY := Lib.hid ((HW3.out.below (alloc_below w3 _)).str ho7 hO7 hg7)
                     clear ho7 hO7 hg7))
                go_meet
                obtain ⟨e1, e2, e3, e4, e5, e6, e7⟩ := HF1.out
                exact ⟨_, _, _, _, b, s, _, _, _, _, f, rfl, HY.out, by rw [List.length_append, List.length_append, e1]; rfl, by rw [List.length_append]; omega, by rw [List.drop_append_of_le_length e2, e3, numbersOf_app, HE.out], by rw [List.drop_append_of_le_length (by omega), e4], fun i x hx hi => e5 i x (by rw [List.getElem?_append_left (by omega)] at hx; exact hx) hi, by rw [bytesOf_app, bytesOf_one, List.length_append, frameL_len]; have := HXL.out; omega, by rw [List.length_append, List.length_singleton]; omega⟩
              · have hpos : ¬ 0 < (N.length : Int) := by omega
                clear hwn hNR hfN hNd hRd hNb hbl hNk hE hx1 hxl3 hN0
                go_wp2_with (first
                  | (go_at_call 20; refine HAP.out.mono ?_; rintro e w2 ⟨he, g', d', hw, hO, hg, hd⟩
                     have he2 : e = .returned (.tuple #[.int .i64 (E : Int), .int .i64 0]) := by rw [he, HE.out]
                     have HW2 := Lib.hid (HWN.out.wal hw hO hg hd)
                     have hnb := HNN.out
                     have hbx := (hO.block nb HNB.out (fun e9 => by have h9 : nb = q ∨ nb = p ∨ nb = g ∨ nb = d := e9; omega)).trans HBX.out
                     obtain ⟨z0, z1, z2, z3⟩ := box4 hbx
                     have HBX2 := Lib.hid hbx
                     have HN2 : Hid (nb < w2.heap.size) := Lib.hid (Nat.lt_of_lt_of_le HNB.out hO.size)
                     have HHA : Hid (∀ o, HeldC (w2.alloc o) q gn 1 (.slice A6 N.length c6) N.length (intsV N)) := Lib.hid fun o => (HW2.out.below (alloc_below w2 o)).nums
                     have HQA : Hid (∀ o, q < (w2.alloc o).heap.size) := Lib.hid fun o => (HW2.out.below (alloc_below w2 o)).lt.1
                     clear hw hO hg hd he hnb hbx
                     subst he2)
                  | (at_builtin
                     refine wpList_appHC (n := N.length) (m := 1) (ys := [.int .i64 (E : Int)]) (by rfl) _ _ 50 3 (by rfl) Try.underlying50 hib hzb0 hzb1 hzb2 (by rfl) (by omega) (by rfl) (HHA.out _) (HQA.out _) (by rfl) (by rfl) (one_cell1 _ _ _) (one_int _ _) (by have := HF1.out; omega) (by have := HF1.out; omega) ?_
                     intro g6 v6 w3 ho6 hO6 hg6
                     have HW3 := Lib.hid ((HW2.out.below (alloc_below w2 _)).num ho6 hO6 hg6)
                     have hbx := (hO6.block nb (by have := alloc_size w2 (.cells #[.int .i64 (E : Int)] 3); have := HN2.out; omega) (fun e9 => by have := HNN.out; have h9 : nb = gn := e9.1; omega)).trans (((alloc_below w2 _).block nb HN2.out).trans HBX2.out)
                     obtain ⟨z0, z1, z2, z3⟩ := box4 hbx
                     have kc3 := conv_rd (cap := xcap) (HRX.out w3 HW3.out.bel) rfl ⟨xl.toArray⟩ rfl
                     have HHB : Hid (∀ o, HeldC (w3.alloc o) q gr 1 (.slice A7 R.length c7) R.length (strsV R)) := Lib.hid fun o => (HW3.out.below (alloc_below w3 o)).recs
                     have HQB : Hid (∀ o, q < (w3.alloc o).heap.size) := Lib.hid fun o => (HW3.out.below (alloc_below w3 o)).lt.1
                     clear ho6 hO6 hg6 hbx HHA)
                  | (at_builtin
                     refine wpList_appHC (n := R.length) (m := 1) (ys := [strV xl]) (by rfl) _ _ 68 9 (by rfl) Try.underlying68 his hzs0 hzs1 hzs2 (by rfl) (by omega) (by rfl) (HHB.out _) (HQB.out _) (by rfl) (by rfl) (one_cell1 _ _ _) (one_val _ rfl) (by have := HF1.out; omega) (by have := HF1.out; omega) ?_
                     intro g7 v7 w4 ho7 hO7 hg7
                     have HY := Lib.hid ((HW3.out.below (alloc_below w3 _)).str ho7 hO7 hg7)
                     clear ho7 hO7 hg7))
                go_meet
                obtain ⟨e1, e2, e3, e4, e5, e6, e7⟩ := HF1.out
                exact ⟨_, _, _, _, b, s, _, _, _, _, f, rfl, HY.out, by rw [List.length_append, List.length_append, e1]; rfl, by rw [List.length_append]; omega, by rw [List.drop_append_of_le_length e2, e3, numbersOf_app, HE.out], by rw [List.drop_append_of_le_length (by omega), e4], fun i x hx hi => e5 i x (by rw [List.getElem?_append_left (by omega)] at hx; exact hx) hi, by rw [bytesOf_app, bytesOf_one, List.length_append, frameL_len]; have := HXL.out; omega, by rw [List.length_append, List.length_singleton]; omega⟩
            · have HAP : Hid (Calls Try.prog 20 #[.pointer (some ⟨q, 0, none⟩), .slice xA xl.length xcap] W0 (Looks (.tuple #[.int .i64 0, .int .i64 1]) W0)) := Lib.hid (wappend_no xA xl.length xcap (.inl (by omega)))
              clear hx1 hxl3
              go_wp2_with (go_at_call 20; refine HAP.out.mono ?_; rintro e wz ⟨rfl, rfl⟩)
              go_meet
              exact HP0.out.more
          · have hk1b : (xk == 1) = false := beq_false_of_ne hk1
            by_cases hk2 : xk = 2
            · subst hk2
              obtain ⟨g, d, gn, gr, b, s, pre, rs, N, R, f, rfl, hwn, hNR, hfN, hNd, hRd, hNb, hbl, hNk, hnn⟩ := HP1.out
              have HNN := Lib.hid hnn
              clear hnn
              have HWN := Lib.hid hwn
              have HF1 : Hid (N.length = R.length ∧ f ≤ N.length ∧ N.drop f = numbersOf b rs ∧ R.drop f = rs ∧ (∀ i x, N[i]? = some x → i < f → x < b) ∧ b + (bytesOf rs).length ≤ 305 * k ∧ N.length ≤ k) := Lib.hid ⟨hNR, hfN, hNd, hRd, hNb, hbl, hNk⟩
              have HSY := Lib.hid (wsync_any hwn.wl)
              clear hwn hNR hfN hNd hRd hNb hbl hNk
              go_wp2_with (go_at_call 22; refine HSY.out.mono ?_; rintro e wz ⟨rfl, hw, hO⟩
                           have HY := Lib.hid (HWN.out.wal hw (hO.more (fun j _ e => by simp [show j = p from e])) (.inl rfl) (.inl rfl))
                           clear hw hO)
              go_meet
              obtain ⟨e1, e2, e3, e4, e5, e6, e7⟩ := HF1.out
              exact ⟨g, d, gn, gr, b, _, pre, rs, N, R, f, rfl, HY.out, e1, e2, e3, e4, e5, by omega, by omega⟩
            · have hk2b : (xk == 2) = false := beq_false_of_ne hk2
              by_cases hk3 : xk = 3
              · subst hk3
                obtain ⟨g, d, gn, gr, b, s, pre, rs, N, R, f, rfl, hwn, hNR, hfN, hNd, hRd, hNb, hbl, hNk, hnn⟩ := HP1.out
                have HNN := Lib.hid hnn
                clear hnn
                have HWN := Lib.hid hwn
                have HF1 : Hid (N.length = R.length ∧ f ≤ N.length ∧ N.drop f = numbersOf b rs ∧ R.drop f = rs ∧ (∀ i x, N[i]? = some x → i < f → x < b) ∧ b + (bytesOf rs).length ≤ 305 * k ∧ N.length ≤ k) := Lib.hid ⟨hNR, hfN, hNd, hRd, hNb, hbl, hNk⟩
                have hNl : N.length = f + rs.length := by have := congrArg List.length hNd; rw [List.length_drop, numbersOf_len] at this; omega
                have hfi : (f : Int) ≤ 40 := by omega
                have hNli : (f : Int) ≤ (N.length : Int) := by omega
                have hN40 : (N.length : Int) ≤ 40 := by omega
                have hrsi : (rs.length : Int) ≤ 40 := by omega
                obtain ⟨jj, hjj⟩ : ∃ jj, jj = pickZ xn (rs.length + 1) := ⟨_, rfl⟩
                have hjl : jj ≤ rs.length := by have := pickZ_lt xn (n := rs.length + 1) (by omega); omega
                have HPK := Lib.hid (pick_any xn (rs.length + 1) (by omega) (by omega) HNI.out jj hjj ((N.length : Int) - (f : Int) + 1) (by omega))
                have hjji : (jj : Int) ≤ 40 := by omega
                obtain ⟨X, hX⟩ : ∃ X, X = startOf b rs jj := ⟨_, rfl⟩
                clear hjj
                by_cases hs : startOf b rs jj ≤ s
                · by_cases hjlt : jj < rs.length
                  · have hji : (f : Int) + (jj : Int) < (N.length : Int) := by omega
                    obtain ⟨A6, c6, hv6, _⟩ := hwn.nums.slice
                    subst hv6
                    obtain ⟨b6, o6, hA6, d6⟩ := hwn.nums.rd.1.at_ (intsV_get (k := f + jj) (x := X) (by
                      have h8 : (N.drop f)[jj]? = some X := by rw [hNd, numbersOf_get b rs hjlt, hX]
                      rw [List.getElem?_drop] at h8
                      exact h8)) (Below.refl _ _) (Nat.le_refl _)
                    subst hA6
                    have HD6 := Lib.hid d6
                    have HTR := Lib.hid (fun (W : World) (h1 : Wl W w.heap.size q p g d b s pre rs) => trim_yes (w := W) h1 hjl hs (X : Int) (by rw [hX]))
                    have HX := Lib.hid hX
                    have HJL := Lib.hid hjl
                    clear hX hjl hs hjlt
                    clear d6
                    clear hNl
                    clear hwn hNR hfN hNd hRd hNb hbl hNk
                    go_wp2_with (first
                      | (go_at_call 41; refine (HPK.out _).mono ?_; rintro e w2 ⟨rfl, rfl⟩)
                      | (go_at_call 36; refine (end_at HWN.out.wl.disk ((b + (bytesOf rs).length : Nat) : Int) rfl).mono ?_; rintro e w5 ⟨rfl, n5, hn5⟩
                         have HW5 := Lib.hid (HWN.out.below (drewN_below W0 n5))
                         rw [← hn5] at HW5
                         have HXE : Hid (¬ jj < rs.length → ((b + (bytesOf rs).length : Nat) : Int) = (X : Int)) := Lib.hid (fun h9 => by rw [HX.out, startOf_end b rs (by omega)])
                         have d6 : w5.cell? ⟨b6, o6 + (f + jj), none⟩ = some (.int .i64 (X : Int)) := by rw [hn5]; exact HD6.out
                         clear hn5)
                      | (go_at_call 26; refine (HTR.out _ HW5.out.wl).mono ?_; rintro e w6 ⟨rfl, hw, hO⟩
                         have HY := Lib.hid (HW5.out.wal hw (hO.more (fun j _ e => by simp [show j = p from e])) (.inl rfl) (.inl rfl))
                         clear hw hO))
                    go_meet
                    obtain ⟨e1, e2, e3, e4, e5, e6, e7⟩ := HF1.out
                    have hNl : N.length = f + rs.length := by have := congrArg List.length e3; rw [List.length_drop, numbersOf_len] at this; omega
                    have hjl := HJL.out
                    exact ⟨g, d, gn, gr, _, _, _, _, N, R, f + jj, by simp, HY.out, e1, by omega, by rw [← List.drop_drop, e3, numbersOf_drop], by rw [← List.drop_drop, e4], fun i x hx hi => by
                      rcases Nat.lt_or_ge i f with h9 | h9
                      · have := e5 i x hx h9
                        have := startOf_le b rs (Nat.zero_le jj)
                        rw [startOf_zero] at this
                        omega
                      · obtain ⟨_, h10⟩ := nums_lt e3 e5 hx
                        obtain ⟨h11, h12⟩ := h10 h9
                        have := startOf_lt b rs hjl (i := i - f) (by omega)
                        omega, by rw [startOf_bytes]; omega, by omega⟩
                  · have hji : ¬ (f : Int) + (jj : Int) < (N.length : Int) := by omega
                    have HJN := Lib.hid hjlt
                    obtain ⟨A6, c6, hv6, _⟩ := hwn.nums.slice
                    subst hv6
                    have HTR := Lib.hid (fun (W : World) (h1 : Wl W w.heap.size q p g d b s pre rs) => trim_yes (w := W) h1 hjl hs (X : Int) (by rw [hX]))
                    have HX := Lib.hid hX
                    have HJL := Lib.hid hjl
                    clear hX hjl hs hjlt
                    clear hNl
                    clear hwn hNR hfN hNd hRd hNb hbl hNk
                    go_wp2_with (first
                      | (go_at_call 41; refine (HPK.out _).mono ?_; rintro e w2 ⟨rfl, rfl⟩)
                      | (go_at_call 36; refine (end_at HWN.out.wl.disk ((b + (bytesOf rs).length : Nat) : Int) rfl).mono ?_; rintro e w5 ⟨rfl, n5, hn5⟩
                         have HW5 := Lib.hid (HWN.out.below (drewN_below W0 n5))
                         rw [← hn5] at HW5
                         have HXE : Hid (¬ jj < rs.length → ((b + (bytesOf rs).length : Nat) : Int) = (X : Int)) := Lib.hid (fun h9 => by rw [HX.out, startOf_end b rs (by omega)])
                         rw [HXE.out (by have := HJN.out; omega)]
                         clear hn5)
                      | (go_at_call 26; refine (HTR.out _ HW5.out.wl).mono ?_; rintro e w6 ⟨rfl, hw, hO⟩
                         have HY := Lib.hid (HW5.out.wal hw (hO.more (fun j _ e => by simp [show j = p from e])) (.inl rfl) (.inl rfl))
                         clear hw hO))
                    go_meet
                    obtain ⟨e1, e2, e3, e4, e5, e6, e7⟩ := HF1.out
                    have hNl : N.length = f + rs.length := by have := congrArg List.length e3; rw [List.length_drop, numbersOf_len] at this; omega
                    have hjl := HJL.out
                    exact ⟨g, d, gn, gr, _, _, _, _, N, R, f + jj, by simp, HY.out, e1, by omega, by rw [← List.drop_drop, e3, numbersOf_drop], by rw [← List.drop_drop, e4], fun i x hx hi => by
                      rcases Nat.lt_or_ge i f with h9 | h9
                      · have := e5 i x hx h9
                        have := startOf_le b rs (Nat.zero_le jj)
                        rw [startOf_zero] at this
                        omega
                      · obtain ⟨_, h10⟩ := nums_lt e3 e5 hx
                        obtain ⟨h11, h12⟩ := h10 h9
                        have := startOf_lt b rs hjl (i := i - f) (by omega)
                        omega, by rw [startOf_bytes]; omega, by omega⟩
                · by_cases hjlt : jj < rs.length
                  · have hji : (f : Int) + (jj : Int) < (N.length : Int) := by omega
                    obtain ⟨A6, c6, hv6, _⟩ := hwn.nums.slice
                    subst hv6
                    obtain ⟨b6, o6, hA6, d6⟩ := hwn.nums.rd.1.at_ (intsV_get (k := f + jj) (x := X) (by
                      have h8 : (N.drop f)[jj]? = some X := by rw [hNd, numbersOf_get b rs hjlt, hX]
                      rw [List.getElem?_drop] at h8
                      exact h8)) (Below.refl _ _) (Nat.le_refl _)
                    subst hA6
                    have HD6 := Lib.hid d6
                    have HTR := Lib.hid (fun (W : World) (h1 : Wl W w.heap.size q p g d b s pre rs) => trim_no (w := W) h1 (X : Int) (.inr (by rw [hX]; omega)))
                    have HX := Lib.hid hX
                    have HJL := Lib.hid hjl
                    clear hX hjl hs hjlt
                    clear d6
                    clear hNl
                    clear hwn hNR hfN hNd hRd hNb hbl hNk
                    go_wp2_with (first
                      | (go_at_call 41; refine (HPK.out _).mono ?_; rintro e w2 ⟨rfl, rfl⟩)
                      | (go_at_call 36; refine (end_at HWN.out.wl.disk ((b + (bytesOf rs).length : Nat) : Int) rfl).mono ?_; rintro e w5 ⟨rfl, n5, hn5⟩
                         have HW5 := Lib.hid (HWN.out.below (drewN_below W0 n5))
                         rw [← hn5] at HW5
                         have HXE : Hid (¬ jj < rs.length → ((b + (bytesOf rs).length : Nat) : Int) = (X : Int)) := Lib.hid (fun h9 => by rw [HX.out, startOf_end b rs (by omega)])
                         have d6 : w5.cell? ⟨b6, o6 + (f + jj), none⟩ = some (.int .i64 (X : Int)) := by rw [hn5]; exact HD6.out
                         clear hn5)
                      | (go_at_call 26; refine (HTR.out _ HW5.out.wl).mono ?_; rintro e w6 ⟨rfl, hb⟩
                         have HY := Lib.hid (HW5.out.below hb)
                         clear hb))
                    go_meet
                    obtain ⟨e1, e2, e3, e4, e5, e6, e7⟩ := HF1.out
                    exact ⟨g, d, gn, gr, b, s, pre, rs, N, R, f, rfl, HY.out, e1, e2, e3, e4, e5, by omega, by omega⟩
                  · have hji : ¬ (f : Int) + (jj : Int) < (N.length : Int) := by omega
                    have HJN := Lib.hid hjlt
                    obtain ⟨A6, c6, hv6, _⟩ := hwn.nums.slice
                    subst hv6
                    have HTR := Lib.hid (fun (W : World) (h1 : Wl W w.heap.size q p g d b s pre rs) => trim_no (w := W) h1 (X : Int) (.inr (by rw [hX]; omega)))
                    have HX := Lib.hid hX
                    have HJL := Lib.hid hjl
                    clear hX hjl hs hjlt
                    clear hNl
                    clear hwn hNR hfN hNd hRd hNb hbl hNk
                    go_wp2_with (first
                      | (go_at_call 41; refine (HPK.out _).mono ?_; rintro e w2 ⟨rfl, rfl⟩)
                      | (go_at_call 36; refine (end_at HWN.out.wl.disk ((b + (bytesOf rs).length : Nat) : Int) rfl).mono ?_; rintro e w5 ⟨rfl, n5, hn5⟩
                         have HW5 := Lib.hid (HWN.out.below (drewN_below W0 n5))
                         rw [← hn5] at HW5
                         have HXE : Hid (¬ jj < rs.length → ((b + (bytesOf rs).length : Nat) : Int) = (X : Int)) := Lib.hid (fun h9 => by rw [HX.out, startOf_end b rs (by omega)])
                         rw [HXE.out (by have := HJN.out; omega)]
                         clear hn5)
                      | (go_at_call 26; refine (HTR.out _ HW5.out.wl).mono ?_; rintro e w6 ⟨rfl, hb⟩
                         have HY := Lib.hid (HW5.out.below hb)
                         clear hb))
                    go_meet
                    obtain ⟨e1, e2, e3, e4, e5, e6, e7⟩ := HF1.out
                    exact ⟨g, d, gn, gr, b, s, pre, rs, N, R, f, rfl, HY.out, e1, e2, e3, e4, e5, by omega, by omega⟩
              · have hk3b : (xk == 3) = false := beq_false_of_ne hk3
                go_wp2_with fail
                go_meet
                exact HP0.out.more
        case rest =>
          obtain ⟨g, d, gn, gr, b, s, pre, rs, N, R, f, hv8, hwn, e1, e2, e3, e4, e5, e6, e7⟩ := hcut
          subst hv8
          obtain ⟨A6, c6, hv6, _⟩ := hwn.nums.slice
          subst hv6
          obtain ⟨A7, c7, hv7, _⟩ := hwn.recs.slice
          subst hv7
          have HWN := Lib.hid hwn
          have HF1 : Hid (N.length = R.length ∧ f ≤ N.length ∧ N.drop f = numbersOf b rs ∧ R.drop f = rs ∧ (∀ i x, N[i]? = some x → i < f → x < b) ∧ b + (bytesOf rs).length ≤ 305 * (k + 1) ∧ N.length ≤ k + 1) := Lib.hid ⟨e1, e2, e3, e4, e5, e6, e7⟩
          have hNl : N.length = f + rs.length := by have := congrArg List.length e3; rw [List.length_drop, numbersOf_len] at this; omega
          have hNL := Lib.hid hNl
          have hN40 : (N.length : Int) ≤ 40 := by have := HKL.out; omega
          have hfi : (f : Int) ≤ (N.length : Int) := by omega
          have hri : (rs.length : Int) ≤ 40 := by have := HKL.out; omega
          have hq1 : (N.length : Int) - (f : Int) = (rs.length : Int) := by omega
          have HNU := Lib.hid (numbers_any hwn.wl)
          clear hwn e1 e2 e3 e4 e5 e6 e7 hNl HBX HP0 HBW HNB HP1
          go_wp2_with (first
            | (go_at_call 25; refine HNU.out.mono ?_; rintro e w4 ⟨A4, cap4, rfl, hrc4, _, hb4⟩
               rw [numbersOf_len]
               have HRC4 := Lib.hid hrc4
               have HW4 := Lib.hid (HWN.out.below hb4)
               clear hrc4 hb4))
          clear hq1
          have HST4 : Hid (WkL4 w4 N.length (.int .i64 0) w4) := Lib.hid ⟨0, rfl, Nat.zero_le _, Below.refl _ _⟩
          go_loopw [16] (fun v16 wr => WkL4 w4 N.length v16 wr) (fun v16 _ => N.length - (intOf v16).toNat)
          case atStart => exact HST4.out
          case round =>
            obtain ⟨k2, rfl, hk2, hb2⟩ := hrel
            have HB2 := Lib.hid hb2
            have HWI := Lib.hid (HW4.out.below hb2)
            by_cases hlt2 : k2 < N.length
            · have hlti2 : (k2 : Int) < (N.length : Int) := by omega
              obtain ⟨X, hX⟩ : ∃ X, N[k2]? = some X := ⟨_, List.getElem?_eq_getElem hlt2⟩
              obtain ⟨b6, o6, hA6, d6⟩ := HWI.out.nums.rd.1.at_ (intsV_get hX) (Below.refl _ _) (Nat.le_refl _)
              subst hA6
              have hk21 : k2 + 1 ≤ N.length := hlt2
              by_cases hkf : k2 < f
              · have hge : ¬ (f : Int) ≤ (k2 : Int) := by omega
                have hgeN : ¬ f ≤ k2 := by omega
                have hgd : decide ((f : Int) ≤ (k2 : Int)) = false := decide_eq_false hge
                have HRD := Lib.hid (wread_no HWI.out.wl (X : Int) (fun j hj => by
                  have h8 := HF1.out.2.2.2.2.1 k2 X hX hkf
                  have h9 := startOf_le b rs (Nat.zero_le j)
                  rw [startOf_zero] at h9
                  omega))
                clear hX hkf hk2 hb2 hlt2
                go_wp2_with (go_at_call 38; refine HRD.out.mono ?_; rintro e w5 ⟨rfl, hb5⟩
                             have HY : Hid (∀ n v16, v16 = .int .i64 ((k2 + 1 : Nat) : Int) → WkL4 w4 N.length v16 (w5.drewN n)) := Lib.hid fun n v16 h16 => ⟨k2 + 1, h16, hk21, (HB2.out.trans (hb5.mono HB2.out.size)).trans ((drewN_below _ n).mono (Nat.le_trans HB2.out.size hb5.size))⟩
                             clear hb5)
                go_quiet (fail)
                go_wp2_with fail
                go_roundw
                case rel => first | exact HY.out _ _ (by go_num) | ((repeat apply Exists.intro); exact ⟨HY.out _ (.int .i64 ((k2 : Int) + 1)) (by go_num), rfl⟩)
                case measure => simp [intOf]; omega
              · have hge : (f : Int) ≤ (k2 : Int) := by omega
                have hgeN : f ≤ k2 := by omega
                have hgd : decide ((f : Int) ≤ (k2 : Int)) = true := decide_eq_true hge
                obtain ⟨hjl, hXj⟩ := (nums_lt HF1.out.2.2.1 HF1.out.2.2.2.2.1 hX).2 (by omega)
                obtain ⟨j, hj⟩ : ∃ j, j = k2 - f := ⟨_, rfl⟩
                rw [← hj] at hjl hXj
                obtain ⟨r, hr⟩ : ∃ r, rs[j]? = some r := ⟨_, List.getElem?_eq_getElem hjl⟩
                have hRk : R[k2]? = some r := by
                  have h8 : (R.drop f)[j]? = some r := by rw [HF1.out.2.2.2.1]; exact hr
                  rw [List.getElem?_drop, show f + j = k2 by omega] at h8
                  exact h8
                obtain ⟨b7, o7, hA7, d7⟩ := HWI.out.recs.rd.1.at_ (strsV_get hRk) (Below.refl _ _) (Nat.le_refl _)
                subst hA7
                obtain ⟨b8, o8, hA8, d8⟩ := HRC4.out.at_ (intsV_get (numbersOf_get b rs hjl)) hb2 (Nat.le_refl _)
                subst hA8
                rw [← hXj] at d8
                have HRD := Lib.hid (wread_yes HWI.out.wl hr (X : Int) (by rw [hXj]))
                have hkj : (k2 : Int) - (f : Int) = (j : Int) := by omega
                have hji : (j : Int) < (rs.length : Int) := by omega
                have hkR : (k2 : Int) < (R.length : Int) := by have := HF1.out.1; omega
                have HD6 := Lib.hid d6
                have HD7 := Lib.hid d7
                have HD8 := Lib.hid d8
                clear hX hkf hk2 hb2 hlt2 hjl hXj hj hr hRk d7 d8
                go_wp2_with (go_at_call 38; refine HRD.out.mono ?_; rintro e w5 ⟨v5, rfl, ho5, hb5⟩
                             have t6 := (World.cell?_of_block (hb5.block _ (cell_lt HD6.out))).trans HD6.out
                             have t7 : w5.cell? ⟨b7, o7 + k2, none⟩ = some (.string ⟨r.toArray⟩) := (World.cell?_of_block (hb5.block _ (cell_lt HD7.out))).trans HD7.out
                             have t8 := (World.cell?_of_block (hb5.block _ (cell_lt HD8.out))).trans HD8.out
                             have kv : ∀ n, (convert 23 9 v5).run Try.prog (w5.drewN n) = .ok (.string ⟨r.toArray⟩) (w5.drewN n) := fun n => conv_ownS (ho5.below (drewN_below _ n)) _ rfl
                             have HY : Hid (∀ n v16, v16 = .int .i64 ((k2 + 1 : Nat) : Int) → WkL4 w4 N.length v16 (w5.drewN n)) := Lib.hid fun n v16 h16 => ⟨k2 + 1, h16, hk21, (HB2.out.trans (hb5.mono HB2.out.size)).trans ((drewN_below _ n).mono (Nat.le_trans HB2.out.size hb5.size))⟩
                             clear ho5 hb5)
                go_quiet (fail)
                go_wp2_with fail
                go_roundw
                case rel => first | exact HY.out _ _ (by go_num) | ((repeat apply Exists.intro); exact ⟨HY.out _ (.int .i64 ((k2 : Int) + 1)) (by go_num), rfl⟩)
                case measure => simp [intOf]; omega
            · have hk2e : k2 = N.length := by omega
              subst hk2e
              have hlti2 : ¬ (N.length : Int) < (N.length : Int) := by omega
              have HYO : Hid (∀ v9, v9 = .int .i64 ((k + 1 : Nat) : Int) → WnL w q p l0 _ _ _ v9 _) := Lib.hid fun v9 h9 => ⟨k + 1, h9, HKL.out.1, HKL.out.2, g, d, gn, gr, b, s, pre, rs, N, R, f, rfl, HWI.out, HF1.out⟩
              clear hk2 hb2 hlt2
              go_wp2_with fail
              go_roundw
              case rel => first | exact HYO.out _ (by go_num) | ((repeat apply Exists.intro); exact ⟨HYO.out _ (by go_num), rfl⟩)
              case measure => simp [intOf]; have := HKL.out; omega
    · by_cases hlt1 : k < l0.length
      · have hlti : (k : Int) < (l0.length : Int) := by omega
        have hlt4 : ¬ (k : Int) < 40 := by omega
        clear hlt hlt1 hk hk4
        go_wp2_with fail
        go_ret
        exact ⟨rfl, HB.out⟩
      · have hlti : ¬ (k : Int) < (l0.length : Int) := by omega
        clear hlt hlt1 hk hk4
        go_wp2_with fail
        go_ret
        exact ⟨rfl, HB.out⟩
#print axioms walNumbers_law
end Go.Proofs.Ytcofacafnokbpaa

/- NetTo: the law's own body answers true. -/
import Derived.Test.YthapjoghnhfkdaaSN
namespace Go.Proofs.Ythapjoghnhfkdaa
open Go.RowKit Go.Maps

/-- how many letters are to nodes below k -/
def cntN (L : List En) (k : Int) : Nat := (L.filter fun e => decide (e.l.t < k)).length
theorem cntN_next (L : List En) (k : Int) : cntN L (k + 1) = cntN L k + (toN L k).length := by
  unfold cntN toN numsN
  rw [List.length_map]
  induction L with
  | nil => rfl
  | cons e M ih =>
    simp only [List.filter_cons, decide_eq_true_eq]
    by_cases h1 : e.l.t < k
    · rw [if_pos (by omega), if_pos h1, if_neg (by omega), List.length_cons, List.length_cons, ih]; omega
    · by_cases h2 : e.l.t = k
      · rw [if_pos (by omega), if_neg h1, if_pos h2, List.length_cons, List.length_cons, ih]; omega
      · rw [if_neg (by omega), if_neg h1, if_neg h2, ih]
theorem cntN_zero {L : List En} (h : ∀ e ∈ L, e.l.right = true) : cntN L 0 = 0 := by
  unfold cntN
  rw [List.length_eq_zero_iff, List.filter_eq_nil_iff]
  intro e he
  have := (Ltr.head (h e he)).2.1
  simp only [decide_eq_true_eq]
  omega
theorem cntN_all {L : List En} (h : ∀ e ∈ L, e.l.right = true) : cntN L 16 = L.length := by
  unfold cntN
  rw [List.filter_eq_self.2]
  intro e he
  have := (Ltr.head (h e he)).2.1
  simp only [decide_eq_true_eq]
  omega
theorem cntN_le (L : List En) (k : Int) : cntN L k ≤ L.length := List.length_filter_le _ _
theorem dropN_last {L : List En} (hu : Ups L) {r : Nat} {e : En} (h : L[r]? = some e) : dropN (L.take (r + 1)) e.n = L.take r := by
  rw [take_snoc h]
  have hu2 : Ups (L.take r ++ [e]) := by rw [← take_snoc h]; exact hu.sublist (List.take_sublist _ _)
  have h2 := List.pairwise_append.1 hu2
  unfold dropN
  rw [List.filter_append, List.filter_eq_self.2 fun u hu => by
    have := h2.2.2 u hu e (by simp)
    simp only [ne_eq, decide_eq_true_eq]
    omega]
  simp
theorem toN_at {L : List En} {k : Int} {i : Nat} {y : Int} (h : (toN L k)[i]? = some y) : ∃ e ∈ L, e.l.t = k ∧ y = (e.n : Int) := by
  unfold toN numsN at h
  rw [List.getElem?_map, Option.map_eq_some_iff] at h
  obtain ⟨e, h1, h2⟩ := h
  have h3 := List.mem_filter.1 (List.mem_of_getElem? h1)
  exact ⟨e, h3.1, by simpa using h3.2, h2.symm⟩
theorem toN_up {L : List En} (hu : Ups L) {k : Int} : (toN L k).Pairwise (· < ·) := (ups_filter hu _).nums
theorem toN_le (L : List En) (k : Int) : (toN L k).length ≤ L.length := by
  unfold toN; rw [nums_len]; exact List.length_filter_le _ _
/-- at the first loop's head -/
def ToL (w : World) (n : Nat) (v4 : Value) (wr : World) : Prop := ∃ (i : Nat) (m : Option Nat) (L : List En), v4 = .int .i64 (i : Int) ∧ i ≤ n ∧ i ≤ 80 ∧ L.length ≤ i ∧ NetW w wr w.heap.size m L L.length 0
/-- the net and all its numbers, at hand -/
structure ToA (w wr : World) (m : Option Nat) (L K : List En) (t B : Nat) (v : Value) : Prop where
  net : NetW w wr w.heap.size m K L.length t
  own : OwnI wr B v (numsN L)
  gm : ∀ j, NK w.heap.size m j → j < B
  gB : w.heap.size ≤ B
theorem ToA.below {w wr W : World} {m : Option Nat} {L K : List En} {t B : Nat} {v : Value} (h : ToA w wr m L K t B v) (hb : Below wr.heap.size wr W) : ToA w W m L K t B v := ⟨h.net.below hb, h.own.below hb, h.gm, h.gB⟩
/-- at the second loop's head -/
def ToM (w : World) (m : Option Nat) (L : List En) (B : Nat) (v : Value) (v6 v7 : Value) (wr : World) : Prop := ∃ k : Nat, v6 = .int .i64 (cntN L k : Int) ∧ v7 = .int .i64 (k : Int) ∧ k ≤ 16 ∧ ToA w wr m L L 0 B v
/-- at the third loop's head -/
def ToI (w : World) (m : Option Nat) (L : List En) (B : Nat) (v : Value) (B8 : Nat) (v8 : Value) (k : Nat) (v9 : Value) (wr : World) : Prop := ∃ i : Nat, v9 = .int .i64 (i : Int) ∧ i ≤ (toN L k).length ∧ ToA w wr m L L 0 B v ∧ OwnI wr B8 v8 (toN L k)
/-- at the last loop's head -/
def ToT (w : World) (m : Option Nat) (L : List En) (B : Nat) (v : Value) (v12 : Value) (wr : World) : Prop := ∃ r : Nat, v12 = .int .i64 ((r : Int) - 1) ∧ r ≤ L.length ∧ ToA w wr m L (L.take r) (L.length - r) B v
theorem ToA.take {w wr W : World} {m : Option Nat} {L : List En} {r B c : Nat} {v : Value} {e0 : En} {A : Option Addr} (h : ToA w wr m L (L.take (r + 1)) (L.length - (r + 1)) B v) (hu : Ups L) (he : L[r]? = some e0) (k : TakeR wr w.heap.size m (L.take (r + 1)) L.length (L.length - (r + 1)) e0.n e0.l A c W) : ToA w W m L (L.take r) (L.length - r) B v := by
  have h1 := h.net.take k
  rw [dropN_last hu he] at h1
  have hlt := (List.getElem?_eq_some_iff.1 he).1
  rw [show L.length - (r + 1) + 1 = L.length - r by omega] at h1
  exact ⟨h1, h.own.only k.2.2 fun j hj hk => by have := h.gm j hk; omega, h.gm, h.gB⟩
theorem take_len {L : List En} {r : Nat} (h : r ≤ L.length) : (numsN (L.take r)).length = r := by rw [nums_len, List.length_take]; omega
theorem find_take {L : List En} (hu : Ups L) {r : Nat} {e : En} (h : L[r]? = some e) : findN (L.take (r + 1)) e.n = some e :=
  findN_at (i := r) (hu.sublist (List.take_sublist _ _)) (by rw [List.getElem?_take, if_pos (by omega)]; exact h)
set_option maxRecDepth 100000 in
set_option maxHeartbeats 16000000 in
theorem netTo_law (l : List ActN) (A : Option Addr) (cap : Nat) (w : World) (hm : l.length ≤ maxLen) (hr : RdActs w w.heap.size A l) (hok : ∀ x ∈ l, x.ok w w.heap.size) :
    Calls Try.prog 7 #[.slice A l.length cap] w (Ans (.bool true) w) := by
  obtain ⟨n, hn⟩ : ∃ n, l.length = n := ⟨_, rfl⟩
  rw [hn] at hm ⊢
  have hni : (n : Int) ≤ 9223372036854775807 := by unfold maxLen at hm; omega
  have HR := Lib.hid hr
  have HN0 := Lib.hid hn
  have HOK := Lib.hid hok
  have HST : Hid (ToL w n (.int .i64 0) (w.alloc (netO none 0 0))) := Lib.hid ⟨0, none, [], rfl, Nat.zero_le _, by omega, by simp, NetW.new w⟩
  unfold netO at HST
  clear hr hn hm hok
  go_enter Try.func7, Try.ntmps7
  go_wp2_with (go_at_call 9; refine (new_any _).mono ?_; unfold netO; rintro e w1 ⟨rfl, rfl⟩)
  go_loopw [4] (fun v4 wr => ToL w n v4 wr) (fun v4 _ => n - (intOf v4).toNat)
  case atStart => exact HST.out
  case round =>
    obtain ⟨i, m, L, rfl, hi1, hi2, hL, hN⟩ := hrel
    have hii : (i : Int) ≤ 80 := by omega
    by_cases hx : i < n ∧ i < 80
    · obtain ⟨h1, h2⟩ := hx
      have h1i : (i : Int) < (n : Int) := by omega
      have h2i : (i : Int) < 80 := by omega
      obtain ⟨x, hx⟩ : ∃ x, l[i]? = some x := ⟨_, List.getElem?_eq_getElem (by rw [HN0.out]; exact h1)⟩
      have hxo := HOK.out x (List.mem_of_getElem? hx)
      obtain ⟨b, o, hA, hcs⟩ := HR.out.at_ hx
      subst hA
      obtain ⟨q0, q1, q2, q3, q4, q5, q6⟩ := hcs wr fun k hk => hN.bel.block k hk
      have HW := Lib.hid hN
      have hrd : RdI wr wr.heap.size x.a.A x.a.l.ns := (hxo.a.rd.below hN.bel (Nat.le_refl _)).more hN.bel.size
      have HRD := Lib.hid hrd
      obtain ⟨xk, xn, ⟨⟨lk, lf, lt, lx, lns⟩, xA, xcap⟩⟩ := x
      simp only at *
      have hlen : (lns.length : Int) ≤ 9223372036854775807 := by have := hxo.a.cap; have := hxo.a.most; simp only at *; unfold maxLen at *; omega
      have HL := Lib.hid hL
      obtain ⟨N, hNN⟩ : ∃ N, lns.length = N := ⟨_, rfl⟩
      have HNN := Lib.hid hNN
      rw [hNN] at q6 hlen
      have HSK : Hid (∀ v4, v4 = .int .i64 ((i + 1 : Nat) : Int) → ToL w n v4 wr) := Lib.hid fun v4 h4 => ⟨i + 1, m, L, h4, by omega, by omega, by omega, hN⟩
      clear hN hx hxo hcs hrd hL hi1 hi2 hNN h1 h2
      by_cases hs : (N : Int) ≤ 80
      · cases hk1 : (xk == 1)
        · go_wp2_with fail
          go_roundw
          case rel => first | exact HSK.out _ (by go_num) | ((repeat apply Exists.intro); exact ⟨HSK.out _ (by go_num), rfl⟩)
          case measure => simp [intOf]; omega
        · cases hR : Ltr.right ⟨lk, lf, lt, lx, lns⟩
          · have HS := Lib.hid (send_wrong (p := w.heap.size) ⟨lk, lf, lt, lx, lns⟩ hR xA N xcap HNN.out (by omega) wr HRD.out)
            have HZ : Hid (∀ v4 w2, v4 = .int .i64 ((i + 1 : Nat) : Int) → Below wr.heap.size wr w2 → ToL w n v4 w2) := Lib.hid fun v4 w2 h4 hb => ⟨i + 1, m, L, h4, by omega, by omega, by have := HL.out; omega, HW.out.below hb⟩
            clear hR
            go_wp2_with (go_at_call 10; refine HS.out.mono ?_; rintro e w2 ⟨rfl, hb⟩; have HY := Lib.hid (fun v4 h4 => HZ.out v4 w2 h4 hb); clear hb)
            go_roundw
            case rel => first | exact HY.out _ (by go_num) | ((repeat apply Exists.intro); exact ⟨HY.out _ (by go_num), rfl⟩)
            case measure => simp [intOf]; omega
          · have HS := Lib.hid (send_yes HW.out.net (by have := HL.out; omega) (by have := HL.out; omega) ⟨lk, lf, lt, lx, lns⟩ hR xA N xcap HNN.out (by omega) HRD.out)
            unfold PutT at HS
            have HZ : Hid (∀ v4 w2, v4 = .int .i64 ((i + 1 : Nat) : Int) → PutR wr w.heap.size m L L.length 0 ⟨lk, lf, lt, lx, lns⟩ w2 → ToL w n v4 w2) := Lib.hid fun v4 w2 h4 hp => by
              obtain ⟨m2, g2, c2, h2⟩ := HW.out.put hp
              refine ⟨i + 1, m2, L ++ [⟨L.length, ⟨lk, lf, lt, lx, lns⟩, g2, c2⟩], h4, by omega, by omega, by have := HL.out; rw [List.length_append, List.length_cons, List.length_nil]; omega, ?_⟩
              rw [List.length_append]
              exact h2
            clear hR
            go_wp2_with (go_at_call 10; refine HS.out.mono ?_; rintro e w2 ⟨rfl, hb⟩; have HY := Lib.hid (fun v4 h4 => HZ.out v4 w2 h4 hb); clear hb)
            go_roundw
            case rel => first | exact HY.out _ (by go_num) | ((repeat apply Exists.intro); exact ⟨HY.out _ (by go_num), rfl⟩)
            case measure => simp [intOf]; omega
      · go_wp2_with fail
        go_roundw
        case rel => first | exact HSK.out _ (by go_num) | ((repeat apply Exists.intro); exact ⟨HSK.out _ (by go_num), rfl⟩)
        case measure => simp [intOf]; omega
    · have hx2 : (¬ (i : Int) < (n : Int)) ∨ ((i : Int) < (n : Int) ∧ ¬ (i : Int) < 80) := by omega
      clear hx
      rcases hx2 with hx3 | ⟨hx3, hx4⟩
      all_goals
        have HN := Lib.hid hN
        have hLi : L.length ≤ 80 := by omega
        have HLI := Lib.hid hLi
        clear hN hi1 hi2 hL hLi
        go_wp2_with (go_at_call 23; refine (numbers_any HN.out.net).mono ?_; rintro e w5 ⟨v5, rfl, hn5, hb5⟩
                     obtain ⟨A5, c5, rfl, hc5⟩ := hn5.2
                     have h5 : ToA w w5 m L L 0 wr.heap.size (.slice A5 (numsN L).length c5) := ⟨HN.out.below hb5, hn5, fun j hj => by
                       rcases hj with hj | hj
                       · rw [hj]; exact HN.out.net.lt_p
                       · have h1 := HN.out.net
                         rw [← hj] at h1
                         exact (h1.map_lt).1, HN.out.bel.size⟩
                     have H5 := Lib.hid h5
                     clear hn5 hb5 h5 hc5)

        obtain ⟨n5, hn5⟩ : ∃ n5, (numsN L).length = n5 := ⟨_, rfl⟩
        rw [hn5] at H5 ⊢
        obtain ⟨B5, hB5⟩ : ∃ B5, Hid (B5 = wr.heap.size) := ⟨_, Lib.hid rfl⟩
        rw [← hB5.out] at H5
        have HN5 : Hid (L.length = n5) := Lib.hid (by rw [← hn5, nums_len])
        have HST : Hid (ToM w m L B5 (.slice A5 n5 c5) (.int .i64 0) (.int .i64 0) w5) := Lib.hid ⟨0, by rw [show ((0 : Nat) : Int) = 0 from rfl, cntN_zero H5.out.net.net.right]; rfl, rfl, by omega, H5.out⟩
        clear hn5
        go_loopw [6, 7] (fun v6 v7 wr6 => ToM w m L B5 (.slice A5 n5 c5) v6 v7 wr6) (fun _ v7 _ => 16 - (intOf v7).toNat)
        case atStart => exact HST.out
        case round =>
          obtain ⟨k, rfl, rfl, hk, hA⟩ := hrel
          have HA := Lib.hid hA
          clear hA
          have hki : (k : Int) ≤ 16 := by omega
          by_cases hlt : k < 16
          · have hlti : (k : Int) < 16 := by omega
            have HT := Lib.hid (to_any HA.out.net.net (k : Int))
            go_wp2_with (go_at_call 25; refine HT.out.mono ?_; rintro e w8 ⟨v8, rfl, ho8, hb8⟩
                         obtain ⟨A8, c8, rfl, hc8⟩ := ho8.2
                         have HO8 := Lib.hid ho8
                         have HB8 := Lib.hid hb8
                         clear ho8 hb8 hc8)
            obtain ⟨n8, hn8⟩ : ∃ n8, (toN L (k : Int)).length = n8 := ⟨_, rfl⟩
            have hn8l : n8 ≤ 80 := by have := toN_le L (k : Int); have := HLI.out; omega
            obtain ⟨B8, hB8⟩ : ∃ B8, Hid (B8 = wr.heap.size) := ⟨_, Lib.hid rfl⟩
            rw [← hB8.out] at HO8
            have HS8 : Hid (ToI w m L B5 (.slice A5 n5 c5) B8 (.slice A8 (toN L (k : Int)).length c8) k (.int .i64 0) w8) := Lib.hid ⟨0, rfl, Nat.zero_le _, HA.out.below HB8.out, HO8.out⟩
            have hcn : cntN L (k : Int) ≤ 80 := by have := cntN_le L (k : Int); have := HLI.out; omega
            have hcw : wrap64 ((cntN L (k : Int) : Int) + (n8 : Int)) = (cntN L ((k : Int) + 1) : Int) := by rw [cntN_next, hn8]; unfold wrap64; omega
            have HN8 := Lib.hid hn8
            rw [hn8] at HS8 HO8 ⊢
            clear hn8
            have hn8i : (n8 : Int) ≤ 80 := by omega
            clear hcn
            go_wp2_with fail
            rw [hcw]
            clear hcw
            go_loopw [9] (fun v9 wr9 => ToI w m L B5 (.slice A5 n5 c5) B8 (.slice A8 n8 c8) k v9 wr9) (fun v9 _ => n8 - (intOf v9).toNat)
            case atStart => exact HS8.out
            case round =>
              obtain ⟨j, rfl, hj, hA9, hO9⟩ := hrel
              have HA9 := Lib.hid hA9
              have HO9 := Lib.hid hO9
              rw [HN8.out] at hj
              have hji : (j : Int) ≤ 80 := by omega
              clear hA9 hO9
              by_cases hjl : j < n8
              · have hjli : (j : Int) < (n8 : Int) := by omega
                obtain ⟨y, hy⟩ : ∃ y, (toN L (k : Int))[j]? = some y := ⟨_, List.getElem?_eq_getElem (by rw [HN8.out]; exact hjl)⟩
                obtain ⟨e0, he0, het, rfl⟩ := toN_at hy
                obtain ⟨b8, o8, hA8, _, hc8⟩ := HO9.out.rd.at_ hy
                subst hA8
                have HLk := Lib.hid (lookN_yes HA9.out.net.net (by have := HA9.out.net.net.lt e0 he0; have := HLI.out; unfold i64ok; omega) (findN_mem HA9.out.net.net.ups he0))
                have HAT : Hid (∀ i y, (toN L (k : Int))[i]? = some y → ∀ W, Below wr.heap.size wr W → W.cell? ⟨b8, o8 + i, none⟩ = some (.int .i64 y)) := Lib.hid fun i y hi W hW => by
                  obtain ⟨b', o', e', hb', hc'⟩ := HO9.out.rd.at_ hi
                  injection e' with e'
                  injection e' with e1 e2
                  subst e1 e2
                  exact (World.cell?_of_block (hW.block _ hb')).trans hc'
                have HY := Lib.hid hy
                have HZ : Hid (∀ v9 W, v9 = .int .i64 ((j + 1 : Nat) : Int) → Below wr.heap.size wr W → ToI w m L B5 (.slice A5 n5 c5) B8 (.slice (some ⟨b8, o8, none⟩) n8 c8) k v9 W) := Lib.hid fun v9 W h9 hW => ⟨j + 1, h9, by rw [HN8.out]; exact hjl, HA9.out.below hW, HO9.out.below hW⟩
                unfold DcY at HLk
                obtain ⟨en, ⟨ek, ef, et, ex, ens⟩, eg, ec⟩ := e0
                simp only at *
                subst het
                clear he0 hy
                rcases Nat.eq_zero_or_pos j with hj0 | hj0
                · subst hj0
                  have q0 := HAT.out 0 _ HY.out wr (Below.refl _ _)
                  rw [Nat.add_zero] at q0
                  go_wp2_with (go_at_call 13; refine HLk.out.mono ?_; rintro e wa ⟨Aa, ca, rfl, hoa, hba⟩
                               have hal := hba.trans ((alloc_below wa (.cells #[.int .i64 ek, .int .i64 ef, .int .i64 (k : Int), .int .i64 ex, .slice Aa ens.length ca] 32)).mono hba.size)
                               have HAL := Lib.hid hal
                               have HDR : Hid (∀ n, Below wr.heap.size wr ((wa.alloc (.cells #[.int .i64 ek, .int .i64 ef, .int .i64 (k : Int), .int .i64 ex, .slice Aa ens.length ca] 32)).drewN n)) := Lib.hid fun n => hal.trans ((drewN_below _ n).mono hal.size)
                               clear hoa hal hba)
                  have hkk : ((k : Int) != (k : Int)) = false := by simp
                  go_quiet (fail)
                  go_wp2_with fail
                  go_roundw
                  case rel => first | exact HZ.out _ _ (by go_num) (HDR.out _) | ((repeat apply Exists.intro); exact ⟨HZ.out _ _ (by go_num) (HDR.out _), rfl⟩)
                  case measure => simp [intOf]; omega
                · obtain ⟨h, rfl⟩ : ∃ h, j = h + 1 := ⟨j - 1, by omega⟩
                  have q0 := HAT.out _ _ HY.out wr (Below.refl _ _)
                  obtain ⟨y', hy'⟩ : ∃ y', (toN L (k : Int))[h]? = some y' := ⟨_, List.getElem?_eq_getElem (by rw [HN8.out]; omega)⟩
                  have hlt : y' < (en : Int) := by
                    obtain ⟨z1, z2⟩ := List.getElem?_eq_some_iff.1 hy'
                    obtain ⟨z3, z4⟩ := List.getElem?_eq_some_iff.1 HY.out
                    rw [← z2, ← z4]
                    exact List.pairwise_iff_getElem.1 (toN_up HA9.out.net.net.ups) _ _ _ _ (by omega)
                  have hge : decide ((en : Int) ≤ y') = false := decide_eq_false (by omega)
                  have HQ0 : Hid (∀ W, Below wr.heap.size wr W → W.cell? ⟨b8, o8 + (h + 1), none⟩ = some (.int .i64 (en : Int)) ∧ W.cell? ⟨b8, o8 + h, none⟩ = some (.int .i64 y')) := Lib.hid fun W hW => ⟨HAT.out _ _ HY.out W hW, HAT.out _ _ hy' W hW⟩
                  have hw1 : wrap64 (((h + 1 : Nat) : Int) - 1) = (h : Int) := by unfold wrap64; omega
                  clear hy' hlt
                  go_wp2_with (go_at_call 13; refine HLk.out.mono ?_; rintro e wa ⟨Aa, ca, rfl, hoa, hba⟩
                               have hal := hba.trans ((alloc_below wa (.cells #[.int .i64 ek, .int .i64 ef, .int .i64 (k : Int), .int .i64 ex, .slice Aa ens.length ca] 32)).mono hba.size)
                               have HAL := Lib.hid hal
                               have HDR : Hid (∀ n, Below wr.heap.size wr ((wa.alloc (.cells #[.int .i64 ek, .int .i64 ef, .int .i64 (k : Int), .int .i64 ex, .slice Aa ens.length ca] 32)).drewN n)) := Lib.hid fun n => hal.trans ((drewN_below _ n).mono hal.size)
                               have p0 := fun n => (HQ0.out _ (HDR.out n)).1
                               have p1 := fun n => (HQ0.out _ (HDR.out n)).2
                               have r0 := (HQ0.out _ hal).1
                               have r1 := (HQ0.out _ hal).2
                               clear hoa hal hba)
                  have hkk : ((k : Int) != (k : Int)) = false := by simp
                  have hpos : (0 : Int) < ((h + 1 : Nat) : Int) := by omega
                  go_quiet (fail)
                  go_wp2_with fail
                  go_roundw
                  case rel => first | exact HZ.out _ _ (by go_num) (HDR.out _) | ((repeat apply Exists.intro); exact ⟨HZ.out _ _ (by go_num) (HDR.out _), rfl⟩)
                  case measure => simp [intOf]; omega
              · have hje : j = n8 := by omega
                subst hje
                have hjli : ¬ (j : Int) < (j : Int) := by omega
                have HM : Hid (∀ v7, v7 = .int .i64 ((k + 1 : Nat) : Int) → ToM w m L B5 (.slice A5 n5 c5) (.int .i64 (cntN L ((k : Int) + 1) : Int)) v7 wr) := Lib.hid fun v7 h7 => ⟨k + 1, rfl, h7, by omega, HA9.out⟩
                clear hjl hj
                go_wp2_with fail
                go_roundw
                case rel => first | exact HM.out _ (by go_num) | ((repeat apply Exists.intro); exact ⟨HM.out _ (by go_num), rfl⟩)
                case measure => simp [intOf]; omega
          · have hke : k = 16 := by omega
            subst hke
            have hc16 : (cntN L ((16 : Nat) : Int) : Int) = (n5 : Int) := by rw [show ((16 : Nat) : Int) = 16 from rfl, cntN_all HA.out.net.net.right, HN5.out]
            have h5i : (n5 : Int) ≤ 80 := by have := HLI.out; have := HN5.out; omega
            have hw5 : wrap64 ((n5 : Int) - 1) = (n5 : Int) - 1 := by unfold wrap64; omega
            have HST5 : Hid (ToT w m L B5 (.slice A5 n5 c5) (.int .i64 ((n5 : Int) - 1)) wr) := Lib.hid ⟨n5, rfl, by rw [HN5.out]; exact Nat.le_refl _, by
              rw [← HN5.out, List.take_length, Nat.sub_self, HN5.out]
              exact HA.out⟩
            have hki2 : ¬ ((16 : Nat) : Int) < 16 := by omega
            have HUP := Lib.hid HA.out.net.net.ups
            have HLT5 : Hid (∀ e ∈ L, e.n < L.length) := Lib.hid HA.out.net.net.lt
            rw [hc16]
            clear hlt hk hki hc16
            go_wp2_with fail
            try rw [hw5]
            clear hw5
            go_loopw [12] (fun v12 wr12 => ToT w m L B5 (.slice A5 n5 c5) v12 wr12) (fun v12 _ => (intOf v12 + 1).toNat)
            case atStart => exact HST5.out
            case round =>
              obtain ⟨r, hv12, hr5, hAT⟩ := hrel
              rw [HN5.out] at hr5
              rcases r with _ | r
              · rw [show ((0 : Nat) : Int) - 1 = -1 from rfl] at hv12
                subst hv12
                have HAT := Lib.hid hAT
                clear hAT
                go_wp2_with (go_at_call 26; refine (aliveN_any _).mono ?_; rintro e wz ⟨rfl, hb⟩
                             have HE := Lib.hid (HAT.out.net.below hb).bel
                             clear hb)
                go_ret
                exact ⟨by simp, HE.out⟩
              · rw [show ((r + 1 : Nat) : Int) - 1 = (r : Int) by omega] at hv12
                subst hv12
                have HAT := Lib.hid hAT
                clear hAT
                have hri : (r : Int) < (n5 : Int) := by omega
                have hr0 : (0 : Int) ≤ (r : Int) := by omega
                obtain ⟨e0, he0⟩ : ∃ e0, L[r]? = some e0 := ⟨_, List.getElem?_eq_getElem (by rw [HN5.out]; omega)⟩
                obtain ⟨b5, o5, hA5, _, hc5⟩ := HAT.out.own.rd.at_ (nums_at he0)
                subst hA5
                have HTk := Lib.hid (take_yes HAT.out.net.net (x := (e0.n : Int)) (by have := HLT5.out e0 (List.mem_of_getElem? he0); have := HLI.out; unfold i64ok; omega) (find_take HUP.out he0))
                have HNX : Hid (∀ A c W, TakeR wr w.heap.size m (L.take (r + 1)) L.length (L.length - (r + 1)) (e0.n : Int) e0.l A c W → ToA w W m L (L.take r) (L.length - r) B5 (.slice (some ⟨b5, o5, none⟩) n5 c5)) := Lib.hid fun A c W hk => HAT.out.take HUP.out he0 hk
                have HZ : Hid (∀ v12 W, v12 = .int .i64 ((r : Int) - 1) → ToA w W m L (L.take r) (L.length - r) B5 (.slice (some ⟨b5, o5, none⟩) n5 c5) → ToT w m L B5 (.slice (some ⟨b5, o5, none⟩) n5 c5) v12 W) := Lib.hid fun v12 W h12 hW => ⟨r, h12, by rw [HN5.out]; omega, hW⟩
                have HLEN : Hid ((numsN (L.take r)).length = r) := Lib.hid (take_len (by rw [HN5.out]; omega))
                unfold TakeT at HTk
                obtain ⟨en, ⟨ek, ef, et, ex, ens⟩, eg, ec⟩ := e0
                simp only at *
                have hw1 : wrap64 ((r : Int) - 1) = (r : Int) - 1 := by unfold wrap64; omega
                have hrr : ((r : Int) != (r : Int)) = false := by simp
                clear he0 hr5
                go_wp2_with (first
                  | (go_at_call 15; refine HTk.out.mono ?_; rintro e wa ⟨Aa, ca, rfl, hp⟩
                     have HA2 := Lib.hid ((HNX.out _ _ _ hp).below (alloc_below wa (.cells #[.int .i64 ek, .int .i64 ef, .int .i64 et, .int .i64 ex, .slice Aa ens.length ca] 32)))
                     clear hp)
                  | (go_at_call 23; refine (numbers_any HA2.out.net.net).mono ?_; rintro e wb ⟨vb, rfl, hob, hbb⟩
                     obtain ⟨Ab, cb, rfl, _⟩ := hob.2
                     have HA3 := Lib.hid (HA2.out.below hbb)
                     rw [HLEN.out]
                     clear hob hbb))
                go_roundw
                case rel => first | exact HZ.out _ _ (by go_num) HA3.out | ((repeat apply Exists.intro); exact ⟨HZ.out _ _ (by go_num) HA3.out, rfl⟩)
                case measure => simp [intOf]

end Go.Proofs.Ythapjoghnhfkdaa

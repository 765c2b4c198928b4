/- The document's Decode of a key. -/
import Derived.Test.YtjnjolhokcmmhaaKPG
import Derived.Test.YtjnjolhokcmmhaaKPE
import Derived.Test.YtjnjolhokcmmhaaKDP
namespace Go.Proofs.Ytjnjolhokcmmhaa
open Go.RowKit

theorem rd_val_2k (w : World) (o : Obj) (x : Val) : RdV ((w.alloc o).alloc (.cells #[.int .i64 x.k, .int .i64 x.n, .string x.s] 68)) ((w.alloc o).alloc (.cells #[.int .i64 x.k, .int .i64 x.n, .string x.s] 68)).heap.size (some ⟨w.heap.size + 1, 0, none⟩) [x] := by
  have h := rd_val_2 w o x
  have e : ((w.alloc o).alloc (.cells #[.int .i64 x.k, .int .i64 x.n, .string x.s] 68)).heap.size = w.heap.size + 1 + 1 := by simp
  rw [e]
  exact h
theorem refTakeK_drop (bs : List UInt8) (a : Nat) (ha : a < bs.length) (A : Option Addr) (n cap : Nat) (hn : n = bs.length - a) (w : World) (hl : bs.length ≤ 100000) (hr : RdB w w.heap.size A (bs.drop a)) : Calls Try.prog 39 #[.slice A n cap] w (TkK w (bs.drop a)) := by
  have e : bs.drop a = bs[a] :: bs.drop (a + 1) := List.drop_eq_getElem_cons ha
  rw [e] at hr ⊢
  exact refTakeK_any _ _ A n cap (by rw [List.length_drop]; omega) w (by rw [List.length_drop]; omega) hr
/-- at the head of its loop -/
def KFL (w : World) (bs : List UInt8) (v4 v5 : Value) (wr : World) : Prop := ∃ (l : List Val) (a : Nat) (y : Value), y = v4 ∧ v5 = .int .i64 (a : Int) ∧ l.length ≤ 16 ∧ a ≤ bs.length ∧ AllOk l ∧ OwnV wr w.heap.size y l ∧ Below w.heap.size w wr ∧
  ∀ m, (∀ x ∈ m, Val.R x) → m.length ≤ 16 → bs = encL m → ∃ k, m = l ++ k ∧ bs.drop a = encL k
theorem encL_zero {k : List Val} (h : encL k = []) : k = [] := by
  rcases k with _ | ⟨z, k⟩
  · rfl
  · rw [encL_cons] at h
    have := enc_pos z
    rw [List.append_eq_nil_iff] at h
    rw [h.1] at this
    simp at this
/-- what a step of it tells of a key -/
theorem kfl_step {bs : List UInt8} {l : List Val} {a n2 : Nat} {x : Val} (hlt : a < bs.length)
    (hm : ∀ m, (∀ x ∈ m, Val.R x) → m.length ≤ 16 → bs = encL m → ∃ k, m = l ++ k ∧ bs.drop a = encL k) (hx : ∀ y r, Val.R y → bs.drop a = enc1 y ++ r → x = y ∧ n2 = (enc1 y).length) :
    ∀ m, (∀ x ∈ m, Val.R x) → m.length ≤ 16 → bs = encL m → 0 < n2 ∧ l.length < 16 ∧ ∃ k, m = (l ++ [x]) ++ k ∧ bs.drop (a + n2) = encL k := fun m hR h16 e => by
  obtain ⟨k, h1, h2⟩ := hm m hR h16 e
  rcases k with _ | ⟨z, k⟩
  · have h3 : (bs.drop a).length = 0 := by rw [h2]; rfl
    rw [List.length_drop] at h3; omega
  · rw [encL_cons] at h2
    obtain ⟨h4, h5⟩ := hx z _ (hR z (by rw [h1]; simp)) h2
    refine ⟨by rw [h5]; exact enc_pos z, ?_, k, by rw [h1, h4]; simp, ?_⟩
    · rw [h1, List.length_append, List.length_cons] at h16; omega
    · rw [← List.drop_drop, h2, h5, List.drop_left]
set_option maxRecDepth 100000 in
set_option maxHeartbeats 16000000 in
theorem refDecodeK_any (bs : List UInt8) (A : Option Addr) (cap : Nat) (w : World) (hcap : bs.length ≤ cap) (hl : bs.length ≤ 100000) (hr : RdB w w.heap.size A bs) :
    Calls Try.prog 14 #[.slice A bs.length cap] w (DecPost w bs) := by
  obtain ⟨i0, hi, hz0, hz1, hz2⟩ := info_parts infoV
  have HR : Hid (RdB w w.heap.size A bs) := Lib.hid hr
  have HCAP : Hid (bs.length ≤ cap ∧ bs.length ≤ 100000) := Lib.hid ⟨hcap, hl⟩
  have hli : (bs.length : Int) ≤ 100000 := by omega
  have hci : (bs.length : Int) ≤ (cap : Int) := by omega
  clear hr hcap hl
  go_enter Try.func14, Try.ntmps14
  go_wp2_with fail
  go_loopw [4, 5] (fun v4 v5 wr => KFL w bs v4 v5 wr) (fun _ v5 _ => bs.length - (intOf v5).toNat)
  case atStart => exact ⟨[], 0, _, rfl, rfl, Nat.zero_le _, Nat.zero_le _, fun x hx => by simp at hx, OwnV.nil _ _, Below.refl _ _, fun m _ _ e => ⟨m, rfl, by rw [e]; rfl⟩⟩
  case round =>
    obtain ⟨l, a, y, rfl, rfl, hln, hab2, hok, ho, hb, hm⟩ := hrel
    obtain ⟨A2, cap2, rfl, hcap2⟩ := ho.2
    have HO := Lib.hid ho
    have HB := Lib.hid hb
    have HK := Lib.hid hok
    have HM := Lib.hid hm
    have HLN := Lib.hid hln
    have hai : (a : Int) ≤ (bs.length : Int) := by omega
    clear ho hb hok hm hcap2
    by_cases hlt : a < bs.length
    · have hki : (a : Int) < (bs.length : Int) := by omega
      have hac : (a : Int) ≤ (cap : Int) := by omega
      have hca : ¬ cap = a := by have := HCAP.out; omega
      obtain ⟨ad, hA, _, _⟩ := HR.out (fun e => by subst e; simp at hlt)
      subst hA
      have HTK1 : Hid (Calls Try.prog 39 #[.slice (some (ad.add a)) (bs.length - a) (cap - a)] wr (TkK wr (bs.drop a))) := Lib.hid (by
        have h := ((HR.out.drop (k := a) HCAP.out.1).below HB.out (Nat.le_refl _)).more HB.out.size
        rw [if_neg hca, Option.map_some] at h
        exact refTakeK_drop bs a hlt _ _ _ rfl wr HCAP.out.2 h)
      have HLT := Lib.hid hlt
      clear hln
      go_wp2_with fail
      refine (HTK1.out).mono ?_
      rintro e w5 ⟨hb5, ⟨xk, xn, xs⟩, n2, rfl, hxok, hxs, hn2, hx⟩
      have HB5 := Lib.hid (HB.out.trans (hb5.mono HB.out.size))
      have HO5 := Lib.hid (HO.out.below hb5)
      have HSTEP := Lib.hid (kfl_step HLT.out HM.out hx)
      have HN2 : Hid (a + n2 ≤ bs.length) := Lib.hid (by rw [List.length_drop] at hn2; omega)
      have hn2i : (n2 : Int) ≤ 100000 := by have := HN2.out; have := HCAP.out; omega
      have HXO : Hid ((⟨xk, xn, xs⟩ : Val).ok ∧ (⟨xk, xn, xs⟩ : Val).s.size ≤ 9223372036854775807) := Lib.hid ⟨hxok, by have h1 := HCAP.out; rw [List.length_drop] at hxs; omega⟩
      have HBT := Lib.hid (HB5.out.trans ((alloc_below w5 (.cells #[.int .i64 xk, .int .i64 xn, .string xs] 68)).mono HB5.out.size))
      clear hb5 hxok hxs hn2 hx
      simp only [Val.v]
      by_cases h0 : n2 = 0
      · have HY : Hid (DecPost w bs (.returned (.tuple #[.slice none 0 0, .int .i64 41])) (w5.alloc (.cells #[.int .i64 xk, .int .i64 xn, .string xs] 68))) := Lib.hid ⟨HBT.out, .inr ⟨rfl, fun m hR h16 e => by
          have h1 := (HSTEP.out m hR h16 e).1
          omega⟩⟩
        subst h0
        go_wp2_with fail
        go_ret2
        exact HY.out
      · have hnz : ((n2 : Int) == 0) = false := beq_false_of_ne (by omega)
        by_cases h16 : l.length = 16
        · have HY : Hid (∀ N, DecPost w bs (.returned (.tuple #[.slice none 0 0, .int .i64 41])) ((w5.alloc (.cells #[.int .i64 xk, .int .i64 xn, .string xs] 68)).drewN N)) := Lib.hid fun N => ⟨HBT.out.trans ((drewN_below _ N).mono HBT.out.size), .inr ⟨rfl, fun m hR hm16 e => by
            have h1 := (HSTEP.out m hR hm16 e).2.1
            omega⟩⟩
          have h16b : ((l.length : Int) == 16) = true := by rw [h16]; rfl
          clear h16
          go_wp2_with fail
          go_ret2
          first | exact HY.out 0 | exact HY.out _ | fail
        · have h16b : ((l.length : Int) == 16) = false := beq_false_of_ne (by omega)
          have HLT16 : Hid (l.length < 16) := Lib.hid (by have := HLN.out; omega)
          have HL1 : Hid ((l.length + 1) * 32 ≤ 140737488355328) := Lib.hid (by have := HLN.out; omega)
          have HBZ : Hid (∀ o p, w.heap.size ≤ ((w5.alloc o).alloc p).heap.size) := Lib.hid fun o p => Nat.le_trans HB5.out.size (alloc2_below w5 o p).size
          have HNX : Hid (∀ o p v5 w6, OwnV w6 w.heap.size v5 (l ++ [⟨xk, xn, xs⟩]) → Grew ((w5.alloc o).alloc p) (.slice A2 l.length cap2) w6 v5 → ∀ x, x = .int .i64 ((a + n2 : Nat) : Int) → KFL w bs v5 x w6) := Lib.hid fun o p v5 w6 ho6 hg6 x hx => by
            have hbb := HB5.out.trans (((alloc2_below w5 o p).mono HB5.out.size).trans (hg6.toBelow (HBZ.out o p) (fun k e => HO.out.ge k e)))
            refine ⟨l ++ [⟨xk, xn, xs⟩], a + n2, v5, rfl, hx, by rw [List.length_append, List.length_singleton]; have := HLT16.out; omega, HN2.out, fun z hz => ?_, ho6, hbb, fun m hR h16 e => (HSTEP.out m hR h16 e).2.2⟩
            rw [List.mem_append, List.mem_singleton] at hz
            rcases hz with hz | hz
            · exact HK.out z hz
            · rw [hz]; exact HXO.out
          go_wp2_with (at_builtin
                       refine wpList_appV (xs := l) (ys := [⟨xk, xn, xs⟩]) (B := w.heap.size) rfl _ _ 22 rfl Try.underlying22 hi hz0 hz1 hz2 rfl (HO5.out.below (alloc2_below w5 _ _)) rfl rfl (rd_val_2 w5 _ ⟨xk, xn, xs⟩) HL1.out (HBZ.out _ _) ?_
                       intro v6 w6 ho6 hg6
                       have HY := Lib.hid (HNX.out _ _ v6 w6 ho6 hg6)
                       clear ho6 hg6)
          go_roundw
          case rel => first | exact HY.out _ (by go_num) | ((repeat apply Exists.intro); exact ⟨HY.out _ (by go_num), rfl⟩)
          case measure => simp [intOf]; omega
    · have hnlt : ¬ (a : Int) < (bs.length : Int) := by omega
      have HWH : Hid (∀ m, (∀ x ∈ m, Val.R x) → m.length ≤ 16 → bs = encL m → m = l) := Lib.hid fun m hR h16 e => by
        obtain ⟨k, h1, h2⟩ := HM.out m hR h16 e
        rw [List.drop_of_length_le (by omega)] at h2
        rw [h1, encL_zero h2.symm, List.append_nil]
      clear hlt hln
      go_wp2_with fail
      refine (refEncodeK_any l A2 cap2 wr (by have := HLN.out; omega) HK.out HO.out.rd).mono ?_
      rintro e w6 ⟨hb6, hcase⟩
      have HB6 := Lib.hid (HB.out.trans (hb6.mono HB.out.size))
      rcases hcase with ⟨henc, v, rfl, hov⟩ | ⟨hno, rfl⟩
      · obtain ⟨s1, hs1⟩ := ba_of (encL l)
        obtain ⟨s2, hs2⟩ := ba_of bs
        have k1 := conv_ownS hov s1 hs1
        have k2 := conv_rd (n := bs.length) (cap := cap) (HR.out.below HB6.out (Nat.le_refl _)) rfl s2 hs2
        by_cases heq : bs = encL l
        · have hss : s1 = s2 := bytes_ext (by rw [hs1, hs2, heq])
          have HY : Hid (DecPost w bs (.returned (.tuple #[.slice A2 l.length cap2, .int .i64 0])) w6) := Lib.hid ⟨HB6.out, .inl ⟨l, _, rfl, fun x hx => ⟨henc.2 x hx, (HK.out x hx).1⟩, henc.1, heq, HO.out.below hb6⟩⟩
          subst hss
          clear hb6 hov hs1 hs2 henc heq
          go_wp2_with fail
          go_ret2
          exact HY.out
        · have HY : Hid (DecPost w bs (.returned (.tuple #[.slice none 0 0, .int .i64 41])) w6) := Lib.hid ⟨HB6.out, .inr ⟨rfl, fun m hR h16 e => by
            have h1 := HWH.out m hR h16 e
            subst h1
            exact heq e⟩⟩
          have hss : ¬ s1 = s2 := fun e => heq (by rw [← hs1, ← hs2, e])
          have hsb : (s1.toList == s2.toList) = false := beq_false_of_ne (fun e => hss ((bytes_inj s1 s2).1 e))
          clear hss
          clear hb6 hov hs1 hs2 henc heq
          go_wp2_with fail
          go_ret2
          exact HY.out
      · have HY : Hid (DecPost w bs (.returned (.tuple #[.slice none 0 0, .int .i64 41])) w6) := Lib.hid ⟨HB6.out, .inr ⟨rfl, fun m hR h16 e => by
          have h1 := HWH.out m hR h16 e
          subst h1
          exact hno ⟨h16, fun x hx => (hR x hx).1⟩⟩⟩
        clear hb6 hno
        go_wp2_with fail
        go_ret2
        exact HY.out
end Go.Proofs.Ytjnjolhokcmmhaa

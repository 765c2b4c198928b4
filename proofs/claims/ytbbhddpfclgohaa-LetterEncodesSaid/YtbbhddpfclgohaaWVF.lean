/- The document's Decode. -/
import Derived.Test.YtbbhddpfclgohaaWVD
import Derived.Test.YtbbhddpfclgohaaWU
import Derived.Test.YtbbhddpfclgohaaKY
namespace Go.Proofs.Ytbbhddpfclgohaa
open Go.RowKit

/-- at the head of its loop -/
def RFL (w : World) (n : Nat) (bs : List UInt8) (v4 v5 v6 : Value) (wr : World) : Prop := ∃ (l : List Val) (a : Nat) (y : Value), y = v4 ∧ v5 = .int .i64 (a : Int) ∧ v6 = .int .i64 (l.length : Int) ∧ l.length ≤ n ∧ a ≤ bs.length ∧ AllOk l ∧ OwnV wr w.heap.size y l ∧ Below w.heap.size w wr ∧
  ∀ m, (∀ x ∈ m, Val.R x) → m.length ≤ 16 → bs = rowB m → ∃ k, m = l ++ k ∧ bs.drop a = rowL k
/-- what a step of it tells of a row -/
theorem rfl_step {bs : List UInt8} {c : UInt8} {b1 : List UInt8} {l : List Val} {a n2 : Nat} {x : Val} (hbs : bs = c :: b1) (hlt : l.length < c.toNat)
    (hm : ∀ m, (∀ x ∈ m, Val.R x) → m.length ≤ 16 → bs = rowB m → ∃ k, m = l ++ k ∧ bs.drop a = rowL k) (hx : ∀ y r, Val.R y → bs.drop a = rowV y ++ r → x = y ∧ n2 = (rowV y).length) :
    ∀ m, (∀ x ∈ m, Val.R x) → m.length ≤ 16 → bs = rowB m → 0 < n2 ∧ ∃ k, m = (l ++ [x]) ++ k ∧ bs.drop (a + n2) = rowL k := fun m hR h16 e => by
  obtain ⟨k, h1, h2⟩ := hm m hR h16 e
  obtain ⟨h3, _⟩ := rowB_cons h16 (hbs.symm.trans e)
  rcases k with _ | ⟨z, k⟩
  · rw [h1, List.append_nil] at h3; omega
  · rw [rowL_cons] at h2
    obtain ⟨h4, h5⟩ := hx z _ (hR z (by rw [h1]; simp)) h2
    refine ⟨by rw [h5]; exact rowV_pos z, k, by rw [h1, h4]; simp, ?_⟩
    rw [← List.drop_drop, h2, h5, List.drop_left]
set_option maxRecDepth 100000 in
set_option maxHeartbeats 16000000 in
theorem refDecodeR_any (bs : List UInt8) (A : Option Addr) (cap : Nat) (w : World) (hcap : bs.length ≤ cap) (hl : bs.length ≤ 100000) (hr : RdB w w.heap.size A bs) :
    Calls Try.prog 21 #[.slice A bs.length cap] w (DcR w bs) := by
  obtain ⟨i0, hi, hz0, hz1, hz2⟩ := info_parts infoV
  rcases bs with _ | ⟨c, b1⟩
  · have HY : Hid (DcR w [] (.returned (.tuple #[.slice none 0 0, .int .i64 51])) w) := Lib.hid ⟨Below.refl _ _, .inr ⟨rfl, fun l _ _ => by simp [rowB]⟩⟩
    clear hr
    go_enter Try.func21, Try.ntmps21
    go_wp2_with fail
    go_ret2
    exact HY.out
  · obtain ⟨bs, hbs⟩ : ∃ bs, bs = c :: b1 := ⟨_, rfl⟩
    rw [← hbs] at hcap hl hr ⊢
    obtain ⟨n, HN⟩ : ∃ n : Nat, Hid (n = c.toNat) := ⟨_, Lib.hid rfl⟩
    obtain ⟨ad, rfl, hab, hcells⟩ := hr (by rw [hbs]; simp)
    have x0 := hcells 0 c (by rw [hbs]; rfl)
    rw [Addr.add_zero', ← HN.out] at x0
    have HX0 : Hid (∀ W, Below w.heap.size w W → W.cell? ad = some (.int .u8 (n : Int))) := Lib.hid fun W h => (World.cell?_of_block (h.block _ hab)).trans x0
    have hn256 : (n : Int) < 256 := by have := c.toNat_lt; rw [HN.out]; omega
    have hwn : wrap64 (n : Int) = (n : Int) := by unfold wrap64; omega
    have hpos : 0 < bs.length := by rw [hbs]; simp
    have hposi : (0 : Int) < (bs.length : Int) := by omega
    have hbz : ((bs.length : Int) == 0) = false := beq_false_of_ne (by omega)
    have hli : (bs.length : Int) ≤ 100000 := by omega
    have hci : (bs.length : Int) ≤ (cap : Int) := by omega
    have HR : Hid (RdB w w.heap.size (some ad) bs) := Lib.hid hr
    have HCAP : Hid (bs.length ≤ cap ∧ bs.length ≤ 100000 ∧ 0 < bs.length) := Lib.hid ⟨hcap, hl, hpos⟩
    have HBS := Lib.hid hbs
    clear hcells hr hcap hl hpos hbs
    go_enter Try.func21, Try.ntmps21
    go_wp2_with fail
    go_loopw [4, 5, 6] (fun v4 v5 v6 wr => RFL w n bs v4 v5 v6 wr) (fun _ _ v6 _ => n - (intOf v6).toNat)
    case atStart => exact ⟨[], 1, _, rfl, rfl, rfl, Nat.zero_le _, by have := HCAP.out; omega, fun x hx => by simp at hx, OwnV.nil _ _, Below.refl _ _, fun m _ _ e => ⟨m, rfl, by rw [e]; rfl⟩⟩
    case round =>
      obtain ⟨l, a, y, rfl, rfl, rfl, hln, hab2, hok, ho, hb, hm⟩ := hrel
      obtain ⟨A2, cap2, rfl, hcap2⟩ := ho.2
      have x1 := HX0.out _ hb
      have HO := Lib.hid ho
      have HB := Lib.hid hb
      have HK := Lib.hid hok
      have HM := Lib.hid hm
      have hai : (a : Int) ≤ (bs.length : Int) := by omega
      have hln2 : l.length ≤ 255 := by omega
      clear ho hb hok hm hcap2
      by_cases hlt : l.length < n
      · have hki : (l.length : Int) < (n : Int) := by omega
        have HLT : Hid (l.length < c.toNat) := Lib.hid (by rw [← HN.out]; exact hlt)
        have HTK : Hid (∀ W, Below w.heap.size w W → Calls Try.prog 35 #[.slice (if cap = a then some ad else (some ad).map fun x => x.add a) (bs.length - a) (cap - a)] W (TkT W (bs.drop a))) := Lib.hid fun W hW => by
          have hc := HCAP.out
          exact refTake_any (bs.drop a) _ _ _ (by rw [List.length_drop]) W (by rw [List.length_drop]; omega) (by rw [List.length_drop]; omega) (((HR.out.drop (k := a) hc.1).below hW (Nat.le_refl _)).more hW.size)
        by_cases hca : cap = a
        · have hz : bs.length - a = 0 := by have := HCAP.out; omega
          have htk := HTK.out _ HB.out
          rw [if_pos hca, hz, show cap - a = 0 by omega] at htk
          have HTK1 := Lib.hid htk
          have hzc : bs.length - cap = 0 := by omega
          clear htk HTK
          subst hca
          go_wp2_with fail
          refine (HTK1.out).mono ?_
          rintro e w5 ⟨hb5, ⟨xk, xn, xs⟩, n2, rfl, hxok, hxs, hn2, hx⟩
          have HB5 := Lib.hid (HB.out.trans (hb5.mono HB.out.size))
          have HO5 := Lib.hid (HO.out.below hb5)
          have HSTEP := Lib.hid (rfl_step HBS.out HLT.out HM.out hx)
          have HN2 : Hid (cap + n2 ≤ bs.length) := Lib.hid (by rw [List.length_drop] at hn2; omega)
          have hn2i : (n2 : Int) ≤ 100000 := by have := HN2.out; have := HCAP.out; omega
          have HXO : Hid ((⟨xk, xn, xs⟩ : Val).ok ∧ (⟨xk, xn, xs⟩ : Val).s.size ≤ 9223372036854775807) := Lib.hid ⟨hxok, by have h1 := HCAP.out; rw [List.length_drop] at hxs; omega⟩
          have HBT := Lib.hid (HB5.out.trans ((alloc_below w5 (.cells #[.int .i64 xk, .int .i64 xn, .string xs] 45)).mono HB5.out.size))
          clear hb5 hxok hxs hn2 hx
          simp only [Val.v]
          by_cases h0 : n2 = 0
          · have HY : Hid (DcR w bs (.returned (.tuple #[.slice none 0 0, .int .i64 51])) (w5.alloc (.cells #[.int .i64 xk, .int .i64 xn, .string xs] 45))) := Lib.hid ⟨HBT.out, .inr ⟨rfl, fun m hR h16 e => by
              have h1 := (HSTEP.out m hR h16 e).1
              omega⟩⟩
            subst h0
            go_wp2_with fail
            go_ret2
            exact HY.out
          · have hnz : ((n2 : Int) == 0) = false := beq_false_of_ne (by omega)
            have HL1 : Hid ((l.length + 1) * 32 ≤ 140737488355328) := Lib.hid (by omega)
            have HBZ : Hid (∀ o p, w.heap.size ≤ ((w5.alloc o).alloc p).heap.size) := Lib.hid fun o p => Nat.le_trans HB5.out.size (alloc2_below w5 o p).size
            have HNX : Hid (∀ o p v5 w6, OwnV w6 w.heap.size v5 (l ++ [⟨xk, xn, xs⟩]) → Grew ((w5.alloc o).alloc p) (.slice A2 l.length cap2) w6 v5 → ∀ x y, x = .int .i64 ((cap + n2 : Nat) : Int) → y = .int .i64 ((l.length + 1 : Nat) : Int) → RFL w n bs v5 x y w6) := Lib.hid fun o p v5 w6 ho6 hg6 x y hx hy => by
              have hbb := HB5.out.trans (((alloc2_below w5 o p).mono HB5.out.size).trans (hg6.toBelow (HBZ.out o p) (fun k e => HO.out.ge k e)))
              refine ⟨l ++ [⟨xk, xn, xs⟩], cap + n2, v5, rfl, hx, by rw [hy, List.length_append]; rfl, by rw [List.length_append, List.length_singleton]; omega, HN2.out, fun z hz => ?_, ho6, hbb, fun m hR h16 e => (HSTEP.out m hR h16 e).2⟩
              rw [List.mem_append, List.mem_singleton] at hz
              rcases hz with hz | hz
              · exact HK.out z hz
              · rw [hz]; exact HXO.out
            go_wp2_with (at_builtin
                         refine wpList_appV (xs := l) (ys := [⟨xk, xn, xs⟩]) (B := w.heap.size) rfl _ _ 40 rfl Try.underlying40 hi hz0 hz1 hz2 rfl (HO5.out.below (alloc2_below w5 _ _)) rfl rfl (rd_val_2' w5 _ ⟨xk, xn, xs⟩) HL1.out (HBZ.out _ _) ?_
                         intro v6 w6 ho6 hg6
                         have HY := Lib.hid (HNX.out _ _ v6 w6 ho6 hg6)
                         clear ho6 hg6)
            go_roundw
            case rel => first | exact HY.out _ _ (by go_num) (by go_num) | ((repeat apply Exists.intro); exact ⟨HY.out _ _ (by go_num) (by go_num), rfl⟩)
            case measure => simp [intOf]; omega
        · have htk := HTK.out _ HB.out
          rw [if_neg hca, Option.map_some] at htk
          have HTK1 := Lib.hid htk
          clear htk HTK
          go_wp2_with fail
          refine (HTK1.out).mono ?_
          rintro e w5 ⟨hb5, ⟨xk, xn, xs⟩, n2, rfl, hxok, hxs, hn2, hx⟩
          have HB5 := Lib.hid (HB.out.trans (hb5.mono HB.out.size))
          have HO5 := Lib.hid (HO.out.below hb5)
          have HSTEP := Lib.hid (rfl_step HBS.out HLT.out HM.out hx)
          have HN2 : Hid (a + n2 ≤ bs.length) := Lib.hid (by rw [List.length_drop] at hn2; omega)
          have hn2i : (n2 : Int) ≤ 100000 := by have := HN2.out; have := HCAP.out; omega
          have HXO : Hid ((⟨xk, xn, xs⟩ : Val).ok ∧ (⟨xk, xn, xs⟩ : Val).s.size ≤ 9223372036854775807) := Lib.hid ⟨hxok, by have h1 := HCAP.out; rw [List.length_drop] at hxs; omega⟩
          have HBT := Lib.hid (HB5.out.trans ((alloc_below w5 (.cells #[.int .i64 xk, .int .i64 xn, .string xs] 45)).mono HB5.out.size))
          clear hb5 hxok hxs hn2 hx
          simp only [Val.v]
          by_cases h0 : n2 = 0
          · have HY : Hid (DcR w bs (.returned (.tuple #[.slice none 0 0, .int .i64 51])) (w5.alloc (.cells #[.int .i64 xk, .int .i64 xn, .string xs] 45))) := Lib.hid ⟨HBT.out, .inr ⟨rfl, fun m hR h16 e => by
              have h1 := (HSTEP.out m hR h16 e).1
              omega⟩⟩
            subst h0
            go_wp2_with fail
            go_ret2
            exact HY.out
          · have hnz : ((n2 : Int) == 0) = false := beq_false_of_ne (by omega)
            have HL1 : Hid ((l.length + 1) * 32 ≤ 140737488355328) := Lib.hid (by omega)
            have HBZ : Hid (∀ o p, w.heap.size ≤ ((w5.alloc o).alloc p).heap.size) := Lib.hid fun o p => Nat.le_trans HB5.out.size (alloc2_below w5 o p).size
            have HNX : Hid (∀ o p v5 w6, OwnV w6 w.heap.size v5 (l ++ [⟨xk, xn, xs⟩]) → Grew ((w5.alloc o).alloc p) (.slice A2 l.length cap2) w6 v5 → ∀ x y, x = .int .i64 ((a + n2 : Nat) : Int) → y = .int .i64 ((l.length + 1 : Nat) : Int) → RFL w n bs v5 x y w6) := Lib.hid fun o p v5 w6 ho6 hg6 x y hx hy => by
              have hbb := HB5.out.trans (((alloc2_below w5 o p).mono HB5.out.size).trans (hg6.toBelow (HBZ.out o p) (fun k e => HO.out.ge k e)))
              refine ⟨l ++ [⟨xk, xn, xs⟩], a + n2, v5, rfl, hx, by rw [hy, List.length_append]; rfl, by rw [List.length_append, List.length_singleton]; omega, HN2.out, fun z hz => ?_, ho6, hbb, fun m hR h16 e => (HSTEP.out m hR h16 e).2⟩
              rw [List.mem_append, List.mem_singleton] at hz
              rcases hz with hz | hz
              · exact HK.out z hz
              · rw [hz]; exact HXO.out
            go_wp2_with (at_builtin
                         refine wpList_appV (xs := l) (ys := [⟨xk, xn, xs⟩]) (B := w.heap.size) rfl _ _ 40 rfl Try.underlying40 hi hz0 hz1 hz2 rfl (HO5.out.below (alloc2_below w5 _ _)) rfl rfl (rd_val_2' w5 _ ⟨xk, xn, xs⟩) HL1.out (HBZ.out _ _) ?_
                         intro v6 w6 ho6 hg6
                         have HY := Lib.hid (HNX.out _ _ v6 w6 ho6 hg6)
                         clear ho6 hg6)
            go_roundw
            case rel => first | exact HY.out _ _ (by go_num) (by go_num) | ((repeat apply Exists.intro); exact ⟨HY.out _ _ (by go_num) (by go_num), rfl⟩)
            case measure => simp [intOf]; omega
      · have hkl : l.length = n := by omega
        have HKL := Lib.hid hkl
        have hnlt : ¬ (l.length : Int) < (n : Int) := by omega
        clear hlt hln hkl
        go_wp2_with fail
        refine (refEncodeR_any l A2 cap2 wr HK.out HO.out.rd).mono ?_
        rintro e w6 ⟨hb6, hcase⟩
        have HB6 := Lib.hid (HB.out.trans (hb6.mono HB.out.size))
        have HWH : Hid (∀ m, (∀ x ∈ m, Val.R x) → m.length ≤ 16 → bs = rowB m → m = l) := Lib.hid fun m hR h16 e => by
          obtain ⟨k, h1, h2⟩ := HM.out m hR h16 e
          obtain ⟨h3, _⟩ := rowB_cons h16 (HBS.out.symm.trans e)
          have h4 := HKL.out
          have h5 := HN.out
          rcases k with _ | ⟨z, k⟩
          · rw [h1, List.append_nil]
          · rw [h1, List.length_append, List.length_cons] at h3; omega
        rcases hcase with ⟨henc, v, rfl, hov⟩ | ⟨hno, rfl⟩
        · obtain ⟨s1, hs1⟩ := ba_of (rowB l)
          obtain ⟨s2, hs2⟩ := ba_of bs
          have k1 := conv_ownS hov s1 hs1
          have k2 := conv_rd (n := bs.length) (cap := cap) (HR.out.below HB6.out (Nat.le_refl _)) rfl s2 hs2
          by_cases heq : bs = rowB l
          · have hss : s1 = s2 := bytes_ext (by rw [hs1, hs2, heq])
            have HY : Hid (DcR w bs (.returned (.tuple #[.slice A2 l.length cap2, .int .i64 0])) w6) := Lib.hid ⟨HB6.out, .inl ⟨l, _, rfl, fun x hx => ⟨henc.2 x hx, (HK.out x hx).1⟩, henc.1, heq, HO.out.below hb6⟩⟩
            subst hss
            clear hb6 hov hs1 hs2 henc heq
            go_wp2_with fail
            go_ret2
            exact HY.out
          · have HY : Hid (DcR w bs (.returned (.tuple #[.slice none 0 0, .int .i64 51])) w6) := Lib.hid ⟨HB6.out, .inr ⟨rfl, fun m hR h16 e => by
              have h1 := HWH.out m hR h16 e
              subst h1
              exact heq e⟩⟩
            have hss : ¬ s1 = s2 := fun e => heq (by rw [← hs1, ← hs2, e])
            have hsb : (s1.toList == s2.toList) = false := beq_false_of_ne (fun e => hss ((bytes_inj s1 s2).1 e))
            clear hss
            clear hb6 hov hs1 hs2 henc heq
            go_wp2_with fail
            go_ret2
            exact HY.out
        · have HY : Hid (DcR w bs (.returned (.tuple #[.slice none 0 0, .int .i64 51])) w6) := Lib.hid ⟨HB6.out, .inr ⟨rfl, fun m hR h16 e => by
            have h1 := HWH.out m hR h16 e
            subst h1
            exact hno ⟨h16, fun x hx => (hR x hx).1⟩⟩⟩
          clear hb6 hno
          go_wp2_with fail
          go_ret2
          exact HY.out
end Go.Proofs.Ytbbhddpfclgohaa

/- KeyEncodes: the law's own body answers true. -/
import Derived.Test.YtjnjolhokcmmhaaKPH
import Derived.Test.YtjnjolhokcmmhaaKDR
import Derived.Test.YtjnjolhokcmmhaaKQ
import Derived.Test.YtjnjolhokcmmhaaKY
import Derived.Test.YtjnjolhokcmmhaaKI
import Derived.Test.YtjnjolhokcmmhaaKL
namespace Go.Proofs.Ytjnjolhokcmmhaa
open Go.RowKit

theorem few_len {l : List Val} (h : fewB l = true) : l.length ≤ 20 := by
  unfold fewB at h
  simp only [Bool.and_eq_true, decide_eq_true_eq] at h
  exact h.1
theorem encK_yes (l : List Val) (A : Option Addr) (cap : Nat) (w : World) (h : encOk l) (hl : l.length ≤ 1000000) (hok : AllOk l) (hr : RdV w w.heap.size A l) :
    Calls Try.prog 11 #[.slice A l.length cap] w (fun e w' => ∃ v, e = .returned (.tuple #[v, .int .i64 0]) ∧ OwnB w' w.heap.size v (encL l) ∧ Below w.heap.size w w') := by
  refine (encode_any l A cap w hl hok hr).mono fun e w' ⟨hb, hc⟩ => ?_
  rcases hc with ⟨_, v, he, ho⟩ | ⟨hno, _⟩
  · exact ⟨v, he, ho, hb⟩
  · exact absurd h hno
theorem encodeK_no (l : List Val) (A : Option Addr) (cap : Nat) (w : World) (hno : ¬ encOk l) (hl : l.length ≤ 1000000) (hok : AllOk l) (hr : RdV w w.heap.size A l) :
    Calls Try.prog 11 #[.slice A l.length cap] w (Ans (.tuple #[.slice none 0 0, .int .i64 41]) w) := by
  refine (encode_any l A cap w hl hok hr).mono fun e w' ⟨hb, h⟩ => ?_
  rcases h with ⟨h, _⟩ | ⟨_, he⟩
  · exact absurd h hno
  · exact ⟨he, hb⟩
theorem refEncK_yes (l : List Val) (A : Option Addr) (cap : Nat) (w : World) (h : encOk l) (hl : l.length ≤ 1000000) (hok : AllOk l) (hr : RdV w w.heap.size A l) :
    Calls Try.prog 12 #[.slice A l.length cap] w (fun e w' => ∃ v, e = .returned (.tuple #[v, .int .i64 0]) ∧ OwnB w' w.heap.size v (encL l) ∧ Below w.heap.size w w') := by
  refine (refEncodeK_any l A cap w hl hok hr).mono fun e w' ⟨hb, hc⟩ => ?_
  rcases hc with ⟨_, v, he, ho⟩ | ⟨hno, _⟩
  · exact ⟨v, he, ho, hb⟩
  · exact absurd h hno
theorem refEncK_no (l : List Val) (A : Option Addr) (cap : Nat) (w : World) (hno : ¬ encOk l) (hl : l.length ≤ 1000000) (hok : AllOk l) (hr : RdV w w.heap.size A l) :
    Calls Try.prog 12 #[.slice A l.length cap] w (Ans (.tuple #[.slice none 0 0, .int .i64 41]) w) := by
  refine (refEncodeK_any l A cap w hl hok hr).mono fun e w' ⟨hb, h⟩ => ?_
  rcases h with ⟨h, _⟩ | ⟨_, he⟩
  · exact absurd h hno
  · exact ⟨he, hb⟩
def DcToK (w : World) (m : List Val) (e : Ending) (w' : World) : Prop := ∃ v, e = .returned (.tuple #[v, .int .i64 0]) ∧ OwnV w' w.heap.size v m ∧ Below w.heap.size w w'
theorem refDecK_yes (bs : List UInt8) (m : List Val) (hm : ∀ x ∈ m, x.R) (h16 : m.length ≤ 16) (hb : bs = encL m) (A : Option Addr) (n cap : Nat) (hn : n = bs.length) (w : World) (hcap : bs.length ≤ cap) (hl : bs.length ≤ 100000) (hr : RdB w w.heap.size A bs) :
    Calls Try.prog 14 #[.slice A n cap] w (DcToK w m) := by
  subst hn
  refine (refDecodeK_any bs A cap w hcap hl hr).mono fun e w' ⟨hbel, h⟩ => ?_
  rcases h with ⟨l, v, rfl, hR, hl16, he, ho⟩ | ⟨_, h⟩
  · obtain rfl := encL_inj hR hm (by rw [← he, hb])
    exact ⟨v, rfl, ho, hbel⟩
  · exact absurd hb (h m hm h16)
theorem refDecK_no (bs : List UInt8) (hno : ¬ ∃ m, (∀ x ∈ m, Val.R x) ∧ m.length ≤ 16 ∧ bs = encL m) (A : Option Addr) (n cap : Nat) (hn : n = bs.length) (w : World) (hcap : bs.length ≤ cap) (hl : bs.length ≤ 100000) (hr : RdB w w.heap.size A bs) :
    Calls Try.prog 14 #[.slice A n cap] w (Ans (.tuple #[.slice none 0 0, .int .i64 41]) w) := by
  subst hn
  refine (refDecodeK_any bs A cap w hcap hl hr).mono fun e w' ⟨hbel, h⟩ => ?_
  rcases h with ⟨l, v, _, hR, h16, he, _⟩ | ⟨rfl, _⟩
  · exact absurd ⟨l, hR, h16, he⟩ hno
  · exact ⟨rfl, hbel⟩
theorem belowT {w w1 w2 : World} (hb : Below w.heap.size w w1) (h : Below w1.heap.size w1 w2) : Below w.heap.size w w2 := hb.trans (h.mono hb.size)
set_option maxRecDepth 100000 in
set_option maxHeartbeats 40000000 in
theorem keyEncodes_law (l : List Val) (b : List UInt8) (A C : Option Addr) (cap1 cap2 : Nat) (w : World) (hla : l.length ≤ maxLen) (hlb : b.length ≤ cap2) (hka : AllOk l) (hr : RdV w w.heap.size A l) (hrb : RdB w w.heap.size C b) :
    Calls Try.prog 3 #[.slice A l.length cap1, .slice C b.length cap2] w (Ans (.bool true) w) := by
  obtain ⟨i0, hi, hz0, hz1, hz2⟩ := info_parts info8
  have AL := Lib.hid alive_any
  obtain ⟨p, hp⟩ : ∃ p, Hid (p = fewB l) := ⟨_, Lib.hid rfl⟩
  have FW := Lib.hid (few_any l A cap1 w hla hka hr)
  rw [← hp.out] at FW
  by_cases hall : p = true ∧ b.length ≤ 2000
  · obtain ⟨rfl, hb5⟩ := hall
    have HL20 := Lib.hid (few_len hp.out.symm)
    have hb5i : ¬ (2000 : Int) < (b.length : Int) := by omega
    have hb5j : (b.length : Int) ≤ 2000 := by omega
    have HLB : Hid (b.length ≤ 2000 ∧ b.length ≤ cap2) := Lib.hid ⟨hb5, hlb⟩
    have HRV : Hid (∀ W, Below w.heap.size w W → RdV W W.heap.size A l) := Lib.hid fun W h => (hr.below h (Nat.le_refl _)).more h.size
    have HRB : Hid (∀ W, Below w.heap.size w W → RdB W W.heap.size C b) := Lib.hid fun W h => (hrb.below h (Nat.le_refl _)).more h.size
    have HRB0 := Lib.hid hrb
    have HKA := Lib.hid hka
    obtain ⟨sx, hsx⟩ := ba_of (encL l)
    obtain ⟨sb, hsb⟩ := ba_of b
    have HSX := Lib.hid hsx
    have HSB := Lib.hid hsb
    have HW0 := Lib.hid (alloc_below w (.cells #[] 5))
    have HO0 := Lib.hid (own_empty (Nat.le_refl w.heap.size) 0)
    have kn : ∀ W : World, (convert 23 9 (.slice none 0 0)).run Try.prog W = .ok (.string ByteArray.empty) W := fun W => run_convert_bytes_nil W _ _ Try.underlying23 Try.underlying5 _ _ _ Try.underlying9
    have HNL : Hid (∀ W : World, RdV W W.heap.size none []) := Lib.hid fun W => RdV.nil _ _ _
    clear hr hrb hla hlb hka hb5 hsx hsb
    by_cases henc : encOk l
    · have HE := Lib.hid henc
      clear henc
      by_cases hdec : ∃ m, (∀ x ∈ m, Val.R x) ∧ m.length ≤ 16 ∧ b = encL m
      · obtain ⟨m, hmR, hm16, hbm⟩ := hdec
        have HM := Lib.hid (And.intro hmR (And.intro hm16 hbm))
        have SA : Hid (sameL m m = true) := Lib.hid (sameL_self m)
        clear hmR hm16 hbm
        go_enter Try.func3, Try.ntmps3
        go_wp2_with (first
            | (go_at_call 9; refine FW.out.mono ?_; rintro e w2 ⟨rfl, rfl⟩)
            | (at_builtin
               refine wpList_appB (xs := b) (ys := [7]) (B := w.heap.size) rfl _ _ 23 rfl Try.underlying23 hi hz0 hz1 hz2 rfl (HO5.out.below (alloc_below w5 _)) rfl rfl (rd_one w5 7 7 rfl) (by have := HLB.out; simp only [List.length_singleton]; omega) (Nat.le_trans HB5.out.size (alloc_below w5 _).size) ?_
               intro v6 w6 ho6 hg6
               obtain ⟨_, A6, cap6, hv6, hc6⟩ := id ho6
               subst hv6
               have hb6 := belowT HB5.out (alloc_below w5 (.cells #[.int .u8 7] 5))
               have HB6 := Lib.hid (hb6.trans (hg6.toBelow hb6.size HO5.out.ge))
               have HR6 : Hid (∀ W, Below w6.heap.size w6 W → RdB W W.heap.size A6 b) := Lib.hid fun W hW => by
                 have h := (ho6.rd.take b.length)
                 rw [List.take_left] at h
                 exact (h.below hW (Nat.le_refl _)).more hW.size
               have HC6 : Hid (b.length ≤ cap6) := Lib.hid (by rw [List.length_append] at hc6; omega)
               have hc6i : (b.length : Int) ≤ (cap6 : Int) := by rw [List.length_append] at hc6; omega
               clear ho6 hg6 hb6 hc6)
            | (at_builtin
               refine wpList_appB (xs := []) (ys := b) (B := w.heap.size) rfl _ _ 23 rfl Try.underlying23 hi hz0 hz1 hz2 rfl HO0.out rfl rfl (HRB0.out.below HW0.out (Nat.le_refl _)) (by have := HLB.out; simp only [List.length_nil]; omega) HW0.out.size ?_
               intro v5 w5 ho5 hg5
               rw [List.nil_append] at ho5
               have HB5 := Lib.hid (grew_below HW0.out HO0.out.ge hg5)
               have HO5 := Lib.hid ho5
               clear ho5 hg5)
            | (go_at_call 11; refine (encK_yes l A cap1 w6 HE.out (by have := HL20.out; omega) HKA.out (HRV.out _ HB6.out)).mono ?_; rintro e w7 ⟨v7, rfl, ho7, hb7⟩
               have HB7 := Lib.hid hb7
               have HX7 := Lib.hid ho7
               clear ho7 hb7)
            | (go_at_call 12; refine (refEncK_yes l A cap1 w7 HE.out (by have := HL20.out; omega) HKA.out (HRV.out _ (belowT HB6.out HB7.out))).mono ?_; rintro e w8 ⟨v8, rfl, ho8, hb8⟩
               have HB8 := Lib.hid (belowT HB7.out hb8)
               have HX8 := Lib.hid (HX7.out.below hb8)
               have HY8 := Lib.hid ho8
               clear ho8 hb8)
            | (go_at_call 13; refine (decode_yes b m HM.out.1 HM.out.2.1 HM.out.2.2 A6 _ cap6 rfl w8 HC6.out (HR6.out _ HB8.out)).mono ?_; rintro e w9 ⟨v9, rfl, ho9, hb9⟩
               have HB9 := Lib.hid (belowT HB8.out hb9)
               have HX9 := Lib.hid (HX8.out.below hb9)
               have HY9 := Lib.hid (HY8.out.below hb9)
               obtain ⟨A9, cap9, hv9, _⟩ := id ho9.2
               subst hv9
               have HZ9 := Lib.hid ho9
               clear ho9 hb9)
            | (go_at_call 14; refine (refDecK_yes b m HM.out.1 HM.out.2.1 HM.out.2.2 C _ cap2 rfl w9 HLB.out.2 (by have := HLB.out; omega) (HRB.out _ (belowT HB6.out HB9.out))).mono ?_; rintro e w10 ⟨v10, rfl, ho10, hb10⟩
               have HB10 := Lib.hid (belowT HB9.out hb10)
               have HX10 := Lib.hid (HX9.out.below hb10)
               have HY10 := Lib.hid (HY9.out.below hb10)
               obtain ⟨A10, cap10, hv10, _⟩ := id ho10.2
               subst hv10
               have HZ10 := Lib.hid (HZ9.out.below hb10)
               have HW10 := Lib.hid ho10
               clear ho10 hb10)
            | (go_at_call 15; refine (same_any m m A9 A10 cap9 cap10 w10 (by have := HM.out.2.1; omega) (by have := HM.out.2.1; omega) HZ10.out.rd HW10.out.rd).mono ?_; rintro e w11 ⟨rfl, hb11⟩
               rw [SA.out]
               have HB11 := Lib.hid (belowT HB10.out hb11)
               have HX11 := Lib.hid (HX10.out.below hb11)
               have HY11 := Lib.hid (HY10.out.below hb11)
               clear hb11)
            | (go_at_call 10; refine (AL.out _).mono ?_; rintro e w12 ⟨rfl, hb12⟩
               have hb := belowT HB11.out hb12
               have ko := conv_rd (n := b.length) (cap := cap6) (HR6.out _ hb) rfl sb HSB.out
               have kb := conv_rd (n := b.length) (cap := cap2) (HRB.out _ (belowT HB6.out hb)) rfl sb HSB.out
               have kx := conv_ownS (HX11.out.below hb12) sx HSX.out
               have ky := conv_ownS (HY11.out.below hb12) sx HSX.out
               have HY : Hid (Ans (.bool true) w (.returned (.bool true)) w12) := Lib.hid ⟨rfl, belowT HB6.out hb⟩
               clear hb hb12))
        go_ret
        exact HY.out
      · have HD := Lib.hid hdec
        have SA : Hid (sameL ([] : List Val) [] = true) := Lib.hid (sameL_self [])
        clear hdec
        go_enter Try.func3, Try.ntmps3
        go_wp2_with (first
            | (go_at_call 9; refine FW.out.mono ?_; rintro e w2 ⟨rfl, rfl⟩)
            | (at_builtin
               refine wpList_appB (xs := b) (ys := [7]) (B := w.heap.size) rfl _ _ 23 rfl Try.underlying23 hi hz0 hz1 hz2 rfl (HO5.out.below (alloc_below w5 _)) rfl rfl (rd_one w5 7 7 rfl) (by have := HLB.out; simp only [List.length_singleton]; omega) (Nat.le_trans HB5.out.size (alloc_below w5 _).size) ?_
               intro v6 w6 ho6 hg6
               obtain ⟨_, A6, cap6, hv6, hc6⟩ := id ho6
               subst hv6
               have hb6 := belowT HB5.out (alloc_below w5 (.cells #[.int .u8 7] 5))
               have HB6 := Lib.hid (hb6.trans (hg6.toBelow hb6.size HO5.out.ge))
               have HR6 : Hid (∀ W, Below w6.heap.size w6 W → RdB W W.heap.size A6 b) := Lib.hid fun W hW => by
                 have h := (ho6.rd.take b.length)
                 rw [List.take_left] at h
                 exact (h.below hW (Nat.le_refl _)).more hW.size
               have HC6 : Hid (b.length ≤ cap6) := Lib.hid (by rw [List.length_append] at hc6; omega)
               have hc6i : (b.length : Int) ≤ (cap6 : Int) := by rw [List.length_append] at hc6; omega
               clear ho6 hg6 hb6 hc6)
            | (at_builtin
               refine wpList_appB (xs := []) (ys := b) (B := w.heap.size) rfl _ _ 23 rfl Try.underlying23 hi hz0 hz1 hz2 rfl HO0.out rfl rfl (HRB0.out.below HW0.out (Nat.le_refl _)) (by have := HLB.out; simp only [List.length_nil]; omega) HW0.out.size ?_
               intro v5 w5 ho5 hg5
               rw [List.nil_append] at ho5
               have HB5 := Lib.hid (grew_below HW0.out HO0.out.ge hg5)
               have HO5 := Lib.hid ho5
               clear ho5 hg5)
            | (go_at_call 11; refine (encK_yes l A cap1 w6 HE.out (by have := HL20.out; omega) HKA.out (HRV.out _ HB6.out)).mono ?_; rintro e w7 ⟨v7, rfl, ho7, hb7⟩
               have HB7 := Lib.hid hb7
               have HX7 := Lib.hid ho7
               clear ho7 hb7)
            | (go_at_call 12; refine (refEncK_yes l A cap1 w7 HE.out (by have := HL20.out; omega) HKA.out (HRV.out _ (belowT HB6.out HB7.out))).mono ?_; rintro e w8 ⟨v8, rfl, ho8, hb8⟩
               have HB8 := Lib.hid (belowT HB7.out hb8)
               have HX8 := Lib.hid (HX7.out.below hb8)
               have HY8 := Lib.hid ho8
               clear ho8 hb8)
            | (go_at_call 13; refine (decode_no b HD.out A6 _ cap6 rfl w8 (by have := HLB.out; omega) HC6.out (HR6.out _ HB8.out)).mono ?_; rintro e w9 ⟨rfl, hb9⟩
               have HB9 := Lib.hid (belowT HB8.out hb9)
               have HX9 := Lib.hid (HX8.out.below hb9)
               have HY9 := Lib.hid (HY8.out.below hb9)
               clear hb9)
            | (go_at_call 14; refine (refDecK_no b HD.out C _ cap2 rfl w9 HLB.out.2 (by have := HLB.out; omega) (HRB.out _ (belowT HB6.out HB9.out))).mono ?_; rintro e w10 ⟨rfl, hb10⟩
               have HB10 := Lib.hid (belowT HB9.out hb10)
               have HX10 := Lib.hid (HX9.out.below hb10)
               have HY10 := Lib.hid (HY9.out.below hb10)
               clear hb10)
            | (go_at_call 15; refine (same_any [] [] none none 0 0 w10 (by decide) (by decide) (HNL.out _) (HNL.out _)).mono ?_; rintro e w11 ⟨rfl, hb11⟩
               rw [SA.out]
               have HB11 := Lib.hid (belowT HB10.out hb11)
               have HX11 := Lib.hid (HX10.out.below hb11)
               have HY11 := Lib.hid (HY10.out.below hb11)
               clear hb11)
            | (go_at_call 10; refine (AL.out _).mono ?_; rintro e w12 ⟨rfl, hb12⟩
               have hb := belowT HB11.out hb12
               have ko := conv_rd (n := b.length) (cap := cap6) (HR6.out _ hb) rfl sb HSB.out
               have kb := conv_rd (n := b.length) (cap := cap2) (HRB.out _ (belowT HB6.out hb)) rfl sb HSB.out
               have kx := conv_ownS (HX11.out.below hb12) sx HSX.out
               have ky := conv_ownS (HY11.out.below hb12) sx HSX.out
               have HY : Hid (Ans (.bool true) w (.returned (.bool true)) w12) := Lib.hid ⟨rfl, belowT HB6.out hb⟩
               clear hb hb12))
        go_ret
        exact HY.out
    · have HE := Lib.hid henc
      clear henc
      by_cases hdec : ∃ m, (∀ x ∈ m, Val.R x) ∧ m.length ≤ 16 ∧ b = encL m
      · obtain ⟨m, hmR, hm16, hbm⟩ := hdec
        have HM := Lib.hid (And.intro hmR (And.intro hm16 hbm))
        have SA : Hid (sameL m m = true) := Lib.hid (sameL_self m)
        clear hmR hm16 hbm
        go_enter Try.func3, Try.ntmps3
        go_wp2_with (first
            | (go_at_call 9; refine FW.out.mono ?_; rintro e w2 ⟨rfl, rfl⟩)
            | (at_builtin
               refine wpList_appB (xs := b) (ys := [7]) (B := w.heap.size) rfl _ _ 23 rfl Try.underlying23 hi hz0 hz1 hz2 rfl (HO5.out.below (alloc_below w5 _)) rfl rfl (rd_one w5 7 7 rfl) (by have := HLB.out; simp only [List.length_singleton]; omega) (Nat.le_trans HB5.out.size (alloc_below w5 _).size) ?_
               intro v6 w6 ho6 hg6
               obtain ⟨_, A6, cap6, hv6, hc6⟩ := id ho6
               subst hv6
               have hb6 := belowT HB5.out (alloc_below w5 (.cells #[.int .u8 7] 5))
               have HB6 := Lib.hid (hb6.trans (hg6.toBelow hb6.size HO5.out.ge))
               have HR6 : Hid (∀ W, Below w6.heap.size w6 W → RdB W W.heap.size A6 b) := Lib.hid fun W hW => by
                 have h := (ho6.rd.take b.length)
                 rw [List.take_left] at h
                 exact (h.below hW (Nat.le_refl _)).more hW.size
               have HC6 : Hid (b.length ≤ cap6) := Lib.hid (by rw [List.length_append] at hc6; omega)
               have hc6i : (b.length : Int) ≤ (cap6 : Int) := by rw [List.length_append] at hc6; omega
               clear ho6 hg6 hb6 hc6)
            | (at_builtin
               refine wpList_appB (xs := []) (ys := b) (B := w.heap.size) rfl _ _ 23 rfl Try.underlying23 hi hz0 hz1 hz2 rfl HO0.out rfl rfl (HRB0.out.below HW0.out (Nat.le_refl _)) (by have := HLB.out; simp only [List.length_nil]; omega) HW0.out.size ?_
               intro v5 w5 ho5 hg5
               rw [List.nil_append] at ho5
               have HB5 := Lib.hid (grew_below HW0.out HO0.out.ge hg5)
               have HO5 := Lib.hid ho5
               clear ho5 hg5)
            | (go_at_call 11; refine (encodeK_no l A cap1 w6 HE.out (by have := HL20.out; omega) HKA.out (HRV.out _ HB6.out)).mono ?_; rintro e w7 ⟨rfl, hb7⟩
               have HB7 := Lib.hid hb7
               clear hb7)
            | (go_at_call 12; refine (refEncK_no l A cap1 w7 HE.out (by have := HL20.out; omega) HKA.out (HRV.out _ (belowT HB6.out HB7.out))).mono ?_; rintro e w8 ⟨rfl, hb8⟩
               have HB8 := Lib.hid (belowT HB7.out hb8)
               clear hb8)
            | (go_at_call 13; refine (decode_yes b m HM.out.1 HM.out.2.1 HM.out.2.2 A6 _ cap6 rfl w8 HC6.out (HR6.out _ HB8.out)).mono ?_; rintro e w9 ⟨v9, rfl, ho9, hb9⟩
               have HB9 := Lib.hid (belowT HB8.out hb9)
               obtain ⟨A9, cap9, hv9, _⟩ := id ho9.2
               subst hv9
               have HZ9 := Lib.hid ho9
               clear ho9 hb9)
            | (go_at_call 14; refine (refDecK_yes b m HM.out.1 HM.out.2.1 HM.out.2.2 C _ cap2 rfl w9 HLB.out.2 (by have := HLB.out; omega) (HRB.out _ (belowT HB6.out HB9.out))).mono ?_; rintro e w10 ⟨v10, rfl, ho10, hb10⟩
               have HB10 := Lib.hid (belowT HB9.out hb10)
               obtain ⟨A10, cap10, hv10, _⟩ := id ho10.2
               subst hv10
               have HZ10 := Lib.hid (HZ9.out.below hb10)
               have HW10 := Lib.hid ho10
               clear ho10 hb10)
            | (go_at_call 15; refine (same_any m m A9 A10 cap9 cap10 w10 (by have := HM.out.2.1; omega) (by have := HM.out.2.1; omega) HZ10.out.rd HW10.out.rd).mono ?_; rintro e w11 ⟨rfl, hb11⟩
               rw [SA.out]
               have HB11 := Lib.hid (belowT HB10.out hb11)
               clear hb11)
            | (go_at_call 10; refine (AL.out _).mono ?_; rintro e w12 ⟨rfl, hb12⟩
               have hb := belowT HB11.out hb12
               have ko := conv_rd (n := b.length) (cap := cap6) (HR6.out _ hb) rfl sb HSB.out
               have kb := conv_rd (n := b.length) (cap := cap2) (HRB.out _ (belowT HB6.out hb)) rfl sb HSB.out
               have HY : Hid (Ans (.bool true) w (.returned (.bool true)) w12) := Lib.hid ⟨rfl, belowT HB6.out hb⟩
               clear hb hb12))
        go_ret
        exact HY.out
      · have HD := Lib.hid hdec
        have SA : Hid (sameL ([] : List Val) [] = true) := Lib.hid (sameL_self [])
        clear hdec
        go_enter Try.func3, Try.ntmps3
        go_wp2_with (first
            | (go_at_call 9; refine FW.out.mono ?_; rintro e w2 ⟨rfl, rfl⟩)
            | (at_builtin
               refine wpList_appB (xs := b) (ys := [7]) (B := w.heap.size) rfl _ _ 23 rfl Try.underlying23 hi hz0 hz1 hz2 rfl (HO5.out.below (alloc_below w5 _)) rfl rfl (rd_one w5 7 7 rfl) (by have := HLB.out; simp only [List.length_singleton]; omega) (Nat.le_trans HB5.out.size (alloc_below w5 _).size) ?_
               intro v6 w6 ho6 hg6
               obtain ⟨_, A6, cap6, hv6, hc6⟩ := id ho6
               subst hv6
               have hb6 := belowT HB5.out (alloc_below w5 (.cells #[.int .u8 7] 5))
               have HB6 := Lib.hid (hb6.trans (hg6.toBelow hb6.size HO5.out.ge))
               have HR6 : Hid (∀ W, Below w6.heap.size w6 W → RdB W W.heap.size A6 b) := Lib.hid fun W hW => by
                 have h := (ho6.rd.take b.length)
                 rw [List.take_left] at h
                 exact (h.below hW (Nat.le_refl _)).more hW.size
               have HC6 : Hid (b.length ≤ cap6) := Lib.hid (by rw [List.length_append] at hc6; omega)
               have hc6i : (b.length : Int) ≤ (cap6 : Int) := by rw [List.length_append] at hc6; omega
               clear ho6 hg6 hb6 hc6)
            | (at_builtin
               refine wpList_appB (xs := []) (ys := b) (B := w.heap.size) rfl _ _ 23 rfl Try.underlying23 hi hz0 hz1 hz2 rfl HO0.out rfl rfl (HRB0.out.below HW0.out (Nat.le_refl _)) (by have := HLB.out; simp only [List.length_nil]; omega) HW0.out.size ?_
               intro v5 w5 ho5 hg5
               rw [List.nil_append] at ho5
               have HB5 := Lib.hid (grew_below HW0.out HO0.out.ge hg5)
               have HO5 := Lib.hid ho5
               clear ho5 hg5)
            | (go_at_call 11; refine (encodeK_no l A cap1 w6 HE.out (by have := HL20.out; omega) HKA.out (HRV.out _ HB6.out)).mono ?_; rintro e w7 ⟨rfl, hb7⟩
               have HB7 := Lib.hid hb7
               clear hb7)
            | (go_at_call 12; refine (refEncK_no l A cap1 w7 HE.out (by have := HL20.out; omega) HKA.out (HRV.out _ (belowT HB6.out HB7.out))).mono ?_; rintro e w8 ⟨rfl, hb8⟩
               have HB8 := Lib.hid (belowT HB7.out hb8)
               clear hb8)
            | (go_at_call 13; refine (decode_no b HD.out A6 _ cap6 rfl w8 (by have := HLB.out; omega) HC6.out (HR6.out _ HB8.out)).mono ?_; rintro e w9 ⟨rfl, hb9⟩
               have HB9 := Lib.hid (belowT HB8.out hb9)
               clear hb9)
            | (go_at_call 14; refine (refDecK_no b HD.out C _ cap2 rfl w9 HLB.out.2 (by have := HLB.out; omega) (HRB.out _ (belowT HB6.out HB9.out))).mono ?_; rintro e w10 ⟨rfl, hb10⟩
               have HB10 := Lib.hid (belowT HB9.out hb10)
               clear hb10)
            | (go_at_call 15; refine (same_any [] [] none none 0 0 w10 (by decide) (by decide) (HNL.out _) (HNL.out _)).mono ?_; rintro e w11 ⟨rfl, hb11⟩
               rw [SA.out]
               have HB11 := Lib.hid (belowT HB10.out hb11)
               clear hb11)
            | (go_at_call 10; refine (AL.out _).mono ?_; rintro e w12 ⟨rfl, hb12⟩
               have hb := belowT HB11.out hb12
               have ko := conv_rd (n := b.length) (cap := cap6) (HR6.out _ hb) rfl sb HSB.out
               have kb := conv_rd (n := b.length) (cap := cap2) (HRB.out _ (belowT HB6.out hb)) rfl sb HSB.out
               have HY : Hid (Ans (.bool true) w (.returned (.bool true)) w12) := Lib.hid ⟨rfl, belowT HB6.out hb⟩
               clear hb hb12))
        go_ret
        exact HY.out
  · have hbig : p = false ∨ (2000 : Int) < (b.length : Int) := by
      cases p
      · exact .inl rfl
      · exact .inr (by
          have : ¬ b.length ≤ 2000 := fun h => hall ⟨rfl, h⟩
          omega)
    clear hall hr hrb hla hlb hka
    cases p with
    | false =>
      go_enter Try.func3, Try.ntmps3
      go_wp2_with (first
        | (go_at_call 9; refine FW.out.mono ?_; rintro e w2 ⟨rfl, rfl⟩)
        | (go_at_call 10; refine (AL.out _).mono ?_; rintro e w3 ⟨rfl, hb3⟩
           have HY : Hid (Ans (.bool true) w (.returned (.bool true)) w3) := Lib.hid ⟨rfl, hb3⟩
           clear hb3))
      go_ret
      exact HY.out
    | true =>
      have hb5 : (2000 : Int) < (b.length : Int) := by
        rcases hbig with h | h
        · cases h
        · exact h
      clear hbig
      go_enter Try.func3, Try.ntmps3
      go_wp2_with (first
        | (go_at_call 9; refine FW.out.mono ?_; rintro e w2 ⟨rfl, rfl⟩)
        | (go_at_call 10; refine (AL.out _).mono ?_; rintro e w3 ⟨rfl, hb3⟩
           have HY : Hid (Ans (.bool true) w (.returned (.bool true)) w3) := Lib.hid ⟨rfl, hb3⟩
           clear hb3))
      go_ret
      exact HY.out
#print axioms keyEncodes_law
end Go.Proofs.Ytjnjolhokcmmhaa

/- KeyOrder: the law's own body answers true. -/
import Derived.Test.YtaokblhflhlhiaaKM
namespace Go.Proofs.Ytaokblhflhlhiaa
open Go.RowKit

theorem conv_ownS {w : World} {B : Nat} {v : Value} {l : List UInt8} (h : OwnB w B v l) (s : ByteArray) (hs : s.data.toList = l) : (convert 23 9 v).run Try.prog w = .ok (.string s) w := by
  have h1 := conv_own h
  have e : (⟨l.toArray⟩ : ByteArray) = s := bytes_ext (by rw [hs])
  rw [e] at h1
  exact h1
theorem less_of' {a b : ByteArray} {x : Bool} (h : decide (cmpB a.data.toList b.data.toList < 0) = x) : Op.bytesLess a.toList b.toList = x := by rw [less_eq, ByteArray.toList_eq, ByteArray.toList_eq]; exact h
theorem eq_of' {a b : ByteArray} {x : Bool} (h : decide (a.data.toList = b.data.toList) = x) : (a.toList == b.toList) = x := by
  rw [ByteArray.toList_eq, ByteArray.toList_eq, ← h]
  by_cases e : a.data.toList = b.data.toList
  · rw [e]; simp
  · rw [decide_eq_false e]; exact beq_false_of_ne e
theorem ba_of' (l : List UInt8) : ∃ s : ByteArray, s.data.toList = l := ⟨⟨l.toArray⟩, by simp⟩
theorem cmpB_iff (x y : List UInt8) : cmpB x y = 0 ↔ x = y := ⟨cmpB_zero, fun e => by rw [e, cmpB_self]⟩
theorem right_all {l : List Val} (h : rightL l = true) (hok : AllOk l) : l.length ≤ 16 ∧ ∀ x ∈ l, x.R := by
  unfold rightL at h
  rw [Bool.and_eq_true, decide_eq_true_eq, List.all_eq_true] at h
  exact ⟨h.1, fun x hx => ⟨h.2 x hx, (hok x hx).1⟩⟩
set_option maxRecDepth 100000 in
set_option maxHeartbeats 40000000 in
theorem keyOrder_law (a b : List Val) (A C : Option Addr) (cap1 cap2 : Nat) (w : World) (hla : a.length ≤ maxLen) (hlb : b.length ≤ maxLen) (hka : AllOk a) (hkb : AllOk b) (hr : RdV w w.heap.size A a) (hs : RdV w w.heap.size C b) :
    Calls Try.prog 4 #[.slice A a.length cap1, .slice C b.length cap2] w (Ans (.bool true) w) := by
  have AL := Lib.hid alive_any
  have FA := Lib.hid (few_any a A cap1 w hla hka hr)
  have FB := Lib.hid (few_any b C cap2 w hlb hkb hs)
  have RA := Lib.hid (fun w' (hw : Below w.heap.size w w') => rightL_any a A cap1 w' hla hka ((hr.below hw (Nat.le_refl _)).more hw.size))
  have RB := Lib.hid (fun w' (hw : Below w.heap.size w w') => rightL_any b C cap2 w' hlb hkb ((hs.below hw (Nat.le_refl _)).more hw.size))
  have BF := Lib.hid (Below.refl w.heap.size w)
  by_cases hall : fewB a = true ∧ fewB b = true ∧ rightL a = true ∧ rightL b = true
  · obtain ⟨p, q, r, s⟩ := hall
    obtain ⟨a16, aR⟩ := right_all r hka
    obtain ⟨b16, bR⟩ := right_all s hkb
    rw [p] at FA
    rw [q] at FB
    rw [r] at RA
    rw [s] at RB
    have EA := Lib.hid (fun w' (hw : Below w.heap.size w w') => encode_right a A a.length cap1 rfl w' a16 hka aR ((hr.below hw (Nat.le_refl _)).more hw.size))
    have EB := Lib.hid (fun w' (hw : Below w.heap.size w w') => encode_right b C b.length cap2 rfl w' b16 hkb bR ((hs.below hw (Nat.le_refl _)).more hw.size))
    have RW := Lib.hid (fun w' (hw : Below w.heap.size w w') => rows_any a b A C cap1 cap2 w' hla ((hr.below hw (Nat.le_refl _)).more hw.size) ((hs.below hw (Nat.le_refl _)).more hw.size))
    have hc := encL_cmp aR bR
    obtain ⟨sa, hsa⟩ := ba_of' (encL a)
    obtain ⟨sb, hsb⟩ := ba_of' (encL b)
    have HSA := Lib.hid hsa
    have HSB := Lib.hid hsb
    have hro := rows_3 a b
    clear hla hlb hka hkb hr hs a16 b16 aR bR p q r s
    generalize rowsI a b = o at *
    have H1 : Hid (Op.bytesLess sa.toList sb.toList = decide (o < 0)) := Lib.hid (less_of' (by rw [hsa, hsb, hc]))
    have H2 : Hid ((sa.toList == sb.toList) = decide (o = 0)) := Lib.hid (eq_of' (by rw [hsa, hsb, decide_eq_decide, ← cmpB_iff, hc]))
    clear hc hsa hsb
    rcases hro with rfl | rfl | rfl
    · have l1 : Op.bytesLess sa.toList sb.toList = true := H1.out
      have l2 : (sa.toList == sb.toList) = false := H2.out
      have L := Lib.hid (And.intro l1 l2)
      clear l1 l2 H1 H2
      go_enter Try.func4, Try.ntmps4
      go_wp2_with (first
        | (go_at_call 9; first | ((with_reducible refine FA.out.mono ?_); rintro e w2 ⟨rfl, rfl⟩) | ((with_reducible refine FB.out.mono ?_); rintro e w2 ⟨rfl, rfl⟩))
        | (go_at_call 16; first | ((with_reducible refine (RA.out _ BF.out).mono ?_); rintro e w2 ⟨rfl, hb2⟩; have BF := Lib.hid (BF.out.trans (hb2.mono BF.out.size)); clear hb2) | ((with_reducible refine (RB.out _ BF.out).mono ?_); rintro e w2 ⟨rfl, hb2⟩; have BF := Lib.hid (BF.out.trans (hb2.mono BF.out.size)); clear hb2))
        | (go_at_call 11
           first
             | ((with_reducible refine (EA.out _ BF.out).mono ?_)
                rintro e w2 ⟨v, rfl, ho, hb2⟩
                have BF := Lib.hid (BF.out.trans (hb2.mono BF.out.size))
                have HOA := Lib.hid ho
                clear hb2 ho)
             | ((with_reducible refine (EB.out _ BF.out).mono ?_)
                rintro e w2 ⟨v2, rfl, ho, hb2⟩
                have BF := Lib.hid (BF.out.trans (hb2.mono BF.out.size))
                have HOA := Lib.hid (HOA.out.below hb2)
                have HOB := Lib.hid ho
                clear hb2 ho))
        | (go_at_call 17
           refine (RW.out _ BF.out).mono ?_
           rintro e w2 ⟨rfl, hb2⟩
           have BF := Lib.hid (BF.out.trans (hb2.mono BF.out.size))
           have HOA := Lib.hid (HOA.out.below hb2)
           have HOB := Lib.hid (HOB.out.below hb2)
           clear hb2)
        | (go_at_call 10
           refine (AL.out _).mono ?_
           rintro e w2 ⟨rfl, hb2⟩
           have BF := Lib.hid (BF.out.trans (hb2.mono BF.out.size))
           have c1 := conv_ownS (HOA.out.below hb2) sa HSA.out
           have c2 := conv_ownS (HOB.out.below hb2) sb HSB.out
           obtain ⟨l1, l2⟩ := L.out
           clear hb2))
      go_ret
      exact ⟨rfl, BF.out⟩
    · have l1 : Op.bytesLess sa.toList sb.toList = false := H1.out
      have l2 : (sa.toList == sb.toList) = true := H2.out
      have L := Lib.hid (And.intro l1 l2)
      clear l1 l2 H1 H2
      go_enter Try.func4, Try.ntmps4
      go_wp2_with (first
        | (go_at_call 9; first | ((with_reducible refine FA.out.mono ?_); rintro e w2 ⟨rfl, rfl⟩) | ((with_reducible refine FB.out.mono ?_); rintro e w2 ⟨rfl, rfl⟩))
        | (go_at_call 16; first | ((with_reducible refine (RA.out _ BF.out).mono ?_); rintro e w2 ⟨rfl, hb2⟩; have BF := Lib.hid (BF.out.trans (hb2.mono BF.out.size)); clear hb2) | ((with_reducible refine (RB.out _ BF.out).mono ?_); rintro e w2 ⟨rfl, hb2⟩; have BF := Lib.hid (BF.out.trans (hb2.mono BF.out.size)); clear hb2))
        | (go_at_call 11
           first
             | ((with_reducible refine (EA.out _ BF.out).mono ?_)
                rintro e w2 ⟨v, rfl, ho, hb2⟩
                have BF := Lib.hid (BF.out.trans (hb2.mono BF.out.size))
                have HOA := Lib.hid ho
                clear hb2 ho)
             | ((with_reducible refine (EB.out _ BF.out).mono ?_)
                rintro e w2 ⟨v2, rfl, ho, hb2⟩
                have BF := Lib.hid (BF.out.trans (hb2.mono BF.out.size))
                have HOA := Lib.hid (HOA.out.below hb2)
                have HOB := Lib.hid ho
                clear hb2 ho))
        | (go_at_call 17
           refine (RW.out _ BF.out).mono ?_
           rintro e w2 ⟨rfl, hb2⟩
           have BF := Lib.hid (BF.out.trans (hb2.mono BF.out.size))
           have HOA := Lib.hid (HOA.out.below hb2)
           have HOB := Lib.hid (HOB.out.below hb2)
           clear hb2)
        | (go_at_call 10
           refine (AL.out _).mono ?_
           rintro e w2 ⟨rfl, hb2⟩
           have BF := Lib.hid (BF.out.trans (hb2.mono BF.out.size))
           have c1 := conv_ownS (HOA.out.below hb2) sa HSA.out
           have c2 := conv_ownS (HOB.out.below hb2) sb HSB.out
           obtain ⟨l1, l2⟩ := L.out
           clear hb2))
      go_ret
      exact ⟨rfl, BF.out⟩
    · have l1 : Op.bytesLess sa.toList sb.toList = false := H1.out
      have l2 : (sa.toList == sb.toList) = false := H2.out
      have L := Lib.hid (And.intro l1 l2)
      clear l1 l2 H1 H2
      go_enter Try.func4, Try.ntmps4
      go_wp2_with (first
        | (go_at_call 9; first | ((with_reducible refine FA.out.mono ?_); rintro e w2 ⟨rfl, rfl⟩) | ((with_reducible refine FB.out.mono ?_); rintro e w2 ⟨rfl, rfl⟩))
        | (go_at_call 16; first | ((with_reducible refine (RA.out _ BF.out).mono ?_); rintro e w2 ⟨rfl, hb2⟩; have BF := Lib.hid (BF.out.trans (hb2.mono BF.out.size)); clear hb2) | ((with_reducible refine (RB.out _ BF.out).mono ?_); rintro e w2 ⟨rfl, hb2⟩; have BF := Lib.hid (BF.out.trans (hb2.mono BF.out.size)); clear hb2))
        | (go_at_call 11
           first
             | ((with_reducible refine (EA.out _ BF.out).mono ?_)
                rintro e w2 ⟨v, rfl, ho, hb2⟩
                have BF := Lib.hid (BF.out.trans (hb2.mono BF.out.size))
                have HOA := Lib.hid ho
                clear hb2 ho)
             | ((with_reducible refine (EB.out _ BF.out).mono ?_)
                rintro e w2 ⟨v2, rfl, ho, hb2⟩
                have BF := Lib.hid (BF.out.trans (hb2.mono BF.out.size))
                have HOA := Lib.hid (HOA.out.below hb2)
                have HOB := Lib.hid ho
                clear hb2 ho))
        | (go_at_call 17
           refine (RW.out _ BF.out).mono ?_
           rintro e w2 ⟨rfl, hb2⟩
           have BF := Lib.hid (BF.out.trans (hb2.mono BF.out.size))
           have HOA := Lib.hid (HOA.out.below hb2)
           have HOB := Lib.hid (HOB.out.below hb2)
           clear hb2)
        | (go_at_call 10
           refine (AL.out _).mono ?_
           rintro e w2 ⟨rfl, hb2⟩
           have BF := Lib.hid (BF.out.trans (hb2.mono BF.out.size))
           have c1 := conv_ownS (HOA.out.below hb2) sa HSA.out
           have c2 := conv_ownS (HOB.out.below hb2) sb HSB.out
           obtain ⟨l1, l2⟩ := L.out
           clear hb2))
      go_ret
      exact ⟨rfl, BF.out⟩
  · clear hla hlb hka hkb hr hs
    generalize fewB a = p at *
    generalize fewB b = q at *
    generalize rightL a = r at *
    generalize rightL b = s at *
    have hcase : (p = false) ∨ (p = true ∧ q = false) ∨ (p = true ∧ q = true ∧ r = false) ∨ (p = true ∧ q = true ∧ r = true ∧ s = false) := by
      cases p <;> cases q <;> cases r <;> cases s <;> simp at hall ⊢
    clear hall
    rcases hcase with rfl | ⟨rfl, rfl⟩ | ⟨rfl, rfl, rfl⟩ | ⟨rfl, rfl, rfl, rfl⟩
    all_goals
      go_enter Try.func4, Try.ntmps4
      go_wp2_with (first
        | (go_at_call 9; first | ((with_reducible refine FA.out.mono ?_); rintro e w2 ⟨rfl, rfl⟩) | ((with_reducible refine FB.out.mono ?_); rintro e w2 ⟨rfl, rfl⟩))
        | (go_at_call 16; first | ((with_reducible refine (RA.out _ BF.out).mono ?_); rintro e w2 ⟨rfl, hb2⟩; have BF := Lib.hid (BF.out.trans (hb2.mono BF.out.size)); clear hb2) | ((with_reducible refine (RB.out _ BF.out).mono ?_); rintro e w2 ⟨rfl, hb2⟩; have BF := Lib.hid (BF.out.trans (hb2.mono BF.out.size)); clear hb2))
        | (go_at_call 10; refine (AL.out _).mono ?_; rintro e w2 ⟨rfl, hb2⟩; have BF := Lib.hid (BF.out.trans (hb2.mono BF.out.size)); clear hb2))
      go_ret
      exact ⟨rfl, BF.out⟩
end Go.Proofs.Ytaokblhflhlhiaa

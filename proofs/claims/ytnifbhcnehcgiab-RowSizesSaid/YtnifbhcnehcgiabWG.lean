/- RowSizes: the law's own body answers true. -/
import Derived.Test.YtnifbhcnehcgiabWF
import Derived.Test.YtnifbhcnehcgiabKY
import Derived.IntWalk
namespace Go.Proofs.Ytnifbhcnehcgiab
open Go.RowKit

theorem encodeR_no (l : List Val) (A : Option Addr) (cap : Nat) (w : World) (hno : ¬ encOk l) (hok : AllOk l) (hr : RdV w w.heap.size A l) :
    Calls Try.prog 5 #[.slice A l.length cap] w (Ans (.tuple #[.slice none 0 0, .int .i64 51]) w) := by
  refine (encodeR_any l A cap w hok hr).mono fun e w' ⟨hb, h⟩ => ?_
  rcases h with ⟨h, _⟩ | ⟨_, he⟩
  · exact absurd h hno
  · exact ⟨he, hb⟩
/-- how many bytes stand behind a value's kind -/
def sizeR (x : Val) : Nat := (bodyR x.k x.n x.s.data.toList).length
theorem rowL_size (l : List Val) (k : Nat) (x : Val) (h : l[k]? = some x) : (rowL (l.take (k + 1))).length = (rowL (l.take k)).length + 1 + sizeR x := by
  rw [List.take_add_one, h, Option.toList_some, rowL_snoc, List.length_append]
  simp only [rowV, sizeR, List.length_cons]
  omega
/-- at the head of its loop -/
def SZL (w : World) (l : List Val) (v6 v7 : Value) (wr : World) : Prop := ∃ k m : Nat, v7 = .int .i64 k ∧ k ≤ l.length ∧ v6 = .int .i64 m ∧ m = 1 + (rowL (l.take k)).length ∧ Below w.heap.size w wr
theorem SZL.next {w wr : World} {l : List Val} {k m : Nat} {x : Val} {v6 v7 : Value} (hx : l[k]? = some x) (hm : m = 1 + (rowL (l.take k)).length) (hb : Below w.heap.size w wr) (h7 : v7 = .int .i64 ((k + 1 : Nat) : Int)) (h6 : v6 = .int .i64 ((m + 1 + sizeR x : Nat) : Int)) : SZL w l v6 v7 wr :=
  ⟨k + 1, m + 1 + sizeR x, h7, (List.getElem?_eq_some_iff.1 hx).1, h6, by rw [rowL_size l k x hx, hm]; omega, hb⟩
theorem rowL_take (l : List Val) (k : Nat) (h : ∀ x ∈ l, x.R) (h16 : l.length ≤ 16) : (rowL (l.take k)).length ≤ 3376 := by
  have h1 := rowL_len (l := l.take k) fun x hx => h x (List.mem_of_mem_take hx)
  have h2 : (l.take k).length ≤ 16 := by rw [List.length_take]; omega
  omega
set_option maxRecDepth 100000 in
set_option maxHeartbeats 40000000 in
theorem rowSizes_law (l : List Val) (A : Option Addr) (cap1 : Nat) (w : World) (hla : l.length ≤ maxLen) (hka : AllOk l) (hr : RdV w w.heap.size A l) :
    Calls Try.prog 3 #[.slice A l.length cap1] w (Ans (.bool true) w) := by
  have HR := Lib.hid hr
  have AL := Lib.hid alive5_any
  obtain ⟨p, hp⟩ : ∃ p, Hid (p = fewB l) := ⟨_, Lib.hid rfl⟩
  have FW := Lib.hid (few5_any l A cap1 w hla hka hr)
  rw [← hp.out] at FW
  by_cases hall : p = true ∧ encOk l
  · obtain ⟨rfl, h16, hrt⟩ := hall
    have hR : ∀ x ∈ l, x.R := fun x hx => ⟨hrt x hx, (hka x hx).1⟩
    have HRR := Lib.hid hR
    have H16 := Lib.hid h16
    have HKA := Lib.hid hka
    clear hr hla hka h16 hrt hR
    go_enter Try.func3, Try.ntmps3
    go_wp2_with (go_at_call 4; refine FW.out.mono ?_; rintro e w1 ⟨rfl, rfl⟩)
    refine (encodeR_right l A _ cap1 rfl w H16.out HKA.out HRR.out HR.out).mono ?_
    rintro e w2 ⟨vx, rfl, hox, hbx⟩
    obtain ⟨X, kx, rfl, hkx⟩ := hox.2
    have HOX := Lib.hid hox
    have HB := Lib.hid hbx
    clear hox hbx
    go_wp2_with fail
    go_loopw [6, 7] (fun v6 v7 wr => SZL w2 l v6 v7 wr) (fun _ v7 _ => l.length - (intOf v7).toNat)
    case atStart => exact ⟨0, 1, rfl, Nat.zero_le _, rfl, by simp [rowL], Below.refl _ _⟩
    case round =>
      obtain ⟨k, m, rfl, hk, rfl, hm, hb⟩ := hrel
      have HM := Lib.hid hm
      have HB2 := Lib.hid hb
      have hkb : (k : Int) ≤ 16 := by have := H16.out; omega
      have hmi : (m : Int) ≤ 4000 := by have := rowL_take l k HRR.out H16.out; omega
      clear hm hb
      by_cases hlt : k < l.length
      · have hki : (k : Int) < (l.length : Int) := by omega
        obtain ⟨x, hx⟩ : ∃ x, l[k]? = some x := ⟨_, List.getElem?_eq_getElem hlt⟩
        obtain ⟨b, o, hA, c0, c1, c2⟩ := (HR.out.below HB.out (Nat.le_refl _)).at_ hx (HB2.out.mono HB.out.size) (Nat.le_refl _)
        subst hA
        have HX := Lib.hid hx
        have hxc := (HRR.out x (List.mem_of_getElem? hx)).cases
        have HN : Hid (∀ v6 v7 wq, Below wr.heap.size wr wq → v7 = .int .i64 ((k + 1 : Nat) : Int) → v6 = .int .i64 ((m + 1 + sizeR x : Nat) : Int) → SZL w2 l v6 v7 wq) := Lib.hid fun v6 v7 wq hbq h7 h6 => SZL.next HX.out HM.out (HB2.out.trans (hbq.mono HB2.out.size)) h7 h6
        obtain ⟨xk, xn, xs⟩ := x
        simp only at hxc c0 c1 c2
        clear hx hlt hk
        rcases hxc with ⟨rfl, rfl, rfl⟩ | ⟨rfl, hn, rfl⟩ | ⟨hk, rfl, hn⟩ | ⟨hk, rfl, hs⟩
        · have HZ : Hid (∀ v6 : Value, v6 = .int .i64 ((m : Int) + 1) → v6 = .int .i64 ((m + 1 + sizeR ⟨0, 0, ⟨#[]⟩⟩ : Nat) : Int)) := Lib.hid fun v6 h => by rw [h]; rfl
          go_wp2_with fail
          go_roundw
          case rel => first | exact HN.out _ _ _ (Below.refl _ _) (by go_num) (HZ.out _ rfl) | ((repeat apply Exists.intro); exact ⟨HN.out _ _ _ (Below.refl _ _) (by go_num) (HZ.out _ rfl), rfl⟩)
          case measure => simp [intOf]; omega
        · have HZ : Hid (∀ v6 : Value, v6 = .int .i64 ((m : Int) + 1 + 1) → v6 = .int .i64 ((m + 1 + sizeR ⟨1, xn, ⟨#[]⟩⟩ : Nat) : Int)) := Lib.hid fun v6 h => by rw [h]; rfl
          clear hn
          go_wp2_with fail
          go_roundw
          case rel => first | exact HN.out _ _ _ (Below.refl _ _) (by go_num) (HZ.out _ rfl) | ((repeat apply Exists.intro); exact ⟨HN.out _ _ _ (Below.refl _ _) (by go_num) (HZ.out _ rfl), rfl⟩)
          case measure => simp [intOf]; omega
        · have SH := Lib.hid (short_any xn hn)
          have HSZ : Hid (∀ v6 : Value, v6 = .int .i64 ((m : Int) + 1 + ((vL (zig xn)).length : Int)) → v6 = .int .i64 ((m + 1 + (vL (zig xn)).length : Nat) : Int)) := Lib.hid fun v6 h => by rw [h]; congr 1
          have hvl : ((vL (zig xn)).length : Int) ≤ 10 := by have := vL_10 (zig_lt hn.1 hn.2); omega
          clear hn
          rcases hk with rfl | rfl
          all_goals
            go_wp2_with (go_at_call 7; refine (SH.out _).mono ?_; rintro e w6 ⟨v6, rfl, ho6, hb6⟩
                         obtain ⟨A6, cap6, hv6, hcap6⟩ := ho6.2
                         subst hv6
                         have HB6 := Lib.hid hb6
                         clear ho6 hb6 hcap6)
            go_roundw
            case rel => first | exact HN.out _ _ _ HB6.out (by go_num) (HSZ.out _ rfl) | ((repeat apply Exists.intro); exact ⟨HN.out _ _ _ HB6.out (by go_num) (HSZ.out _ rfl), rfl⟩)
            case measure => simp [intOf]; omega
        · have hn : i64ok (xs.size : Int) := by unfold i64ok; omega
          have SH := Lib.hid (short_any (xs.size : Int) hn)
          have HSZ : Hid (∀ v6 : Value, v6 = .int .i64 ((m : Int) + 1 + ((vL (zig (xs.size : Int))).length : Int) + (xs.size : Int)) → v6 = .int .i64 ((m + 1 + ((vL (zig (xs.size : Int))).length + xs.size) : Nat) : Int)) := Lib.hid fun v6 h => by rw [h]; congr 1; omega
          have HSE : Hid (∀ K : Int, K = 4 ∨ K = 5 → sizeR ⟨K, 0, xs⟩ = (vL (zig (xs.size : Int))).length + xs.size) := Lib.hid fun K hK => by
            have hsz : xs.data.toList.length = xs.size := by simp
            unfold sizeR bodyR
            rw [if_neg (by simp only; omega), if_neg (by simp only; omega), if_pos (by simp only; omega), List.length_append, hsz]
          have hvl : (vL (zig (xs.size : Int))).length ≤ 10 := vL_10 (zig_lt hn.1 hn.2)
          have HW1 : Hid (IntKind.i64.wrap ((m : Int) + 1 + ((vL (zig (xs.size : Int))).length : Int)) = (m : Int) + 1 + ((vL (zig (xs.size : Int))).length : Int)) := Lib.hid (IntWalk.i64_in _ (by omega))
          have HW2 : Hid (IntKind.i64.wrap ((m : Int) + 1 + ((vL (zig (xs.size : Int))).length : Int) + (xs.size : Int)) = (m : Int) + 1 + ((vL (zig (xs.size : Int))).length : Int) + (xs.size : Int)) := Lib.hid (IntWalk.i64_in _ (by omega))
          have HTV : Hid (wr.cell? ⟨b, o + k * 3 + 2, none⟩ = some (.string xs)) := Lib.hid c2
          have HBR := Lib.hid (drew_below wr)
          have HCL : Hid (∀ W V, Below W.heap.size W V → W.cell? ⟨b, o + k * 3 + 2, none⟩ = some (.string xs) → V.cell? ⟨b, o + k * 3 + 2, none⟩ = some (.string xs)) := Lib.hid fun W V hb h1 => by
            have hlt : b < W.heap.size := by
              rcases Nat.lt_or_ge b W.heap.size with h2 | h2
              · exact h2
              · simp [World.cell?, Array.getElem?_eq_none h2] at h1
            exact (hb.cell (p := ⟨b, o + k * 3 + 2, none⟩) hlt).trans h1
          rcases hk with rfl | rfl
          all_goals
            clear hs hn hvl
            go_wp2_with fail
            have hw1 := HW1.out
            have hw2 := HW2.out
            go_region_held3 (fun W => W.cell? ⟨b, o + k * 3 + 2, none⟩ = some (.string xs))
              (first | exact HTV.out | go_keep)
              ((go_at_call 7
                refine (SH.out _).mono ?_
                rintro e w6 ⟨v6, rfl, ho6, hb6⟩
                obtain ⟨A6, cap6, hv6, hcap6⟩ := ho6.2
                subst hv6
                have HTV := Lib.hid (HCL.out _ _ (HBR.out.trans (hb6.mono HBR.out.size)) HTV.out)
                have HBR := Lib.hid (HBR.out.trans (hb6.mono HBR.out.size))
                clear ho6 hb6 hcap6))
            clear hw1 hw2
            go_wp2_with fail
            go_roundw
            case rel => first | exact HN.out _ _ _ HBR.out (by go_num) (by first | (rw [HSE.out 4 (.inl rfl)]; exact HSZ.out _ rfl) | (rw [HSE.out 5 (.inr rfl)]; exact HSZ.out _ rfl)) | ((repeat apply Exists.intro); exact ⟨HN.out _ _ _ HBR.out (by go_num) (by first | (rw [HSE.out 4 (.inl rfl)]; exact HSZ.out _ rfl) | (rw [HSE.out 5 (.inr rfl)]; exact HSZ.out _ rfl)), rfl⟩)
            case measure => simp [intOf]; omega
      · have hkl : k = l.length := by omega
        subst hkl
        have hnlt : ¬ ((l.length : Int) < (l.length : Int)) := by omega
        clear hlt hk
        have HTL : Hid (l.take l.length = l) := Lib.hid (List.take_of_length_le (Nat.le_refl _))
        have HML : Hid ((rowB l).length = m) := Lib.hid (by rw [HM.out, HTL.out]; simp [rowB]; omega)
        obtain ⟨gX, hX⟩ : ∃ ad, X = some ad := by
          obtain ⟨ad, h, _⟩ := HOX.out.rd (by simp [rowB])
          exact ⟨ad, h⟩
        subst hX
        have HC0 : Hid (∀ W, Below w2.heap.size w2 W → W.cell? gX = some (.int .u8 (l.length : Int))) := Lib.hid fun W hb => by
          obtain ⟨ad, h, _, hc⟩ := (HOX.out.below hb).rd (by simp [rowB])
          injection h with h
          subst h
          have h0 := hc 0 (UInt8.ofNat l.length) rfl
          rw [Addr.add_zero', ofNat_toNat (by have := H16.out; omega)] at h0
          exact h0
        have hl16 : (l.length : Int) ≤ 16 := by have := H16.out; omega
        rw [HML.out]
        have hm0 : (0 : Int) < (m : Int) := by have := HM.out; omega
        have hm1 : 0 < m := by have := HM.out; omega
        clear hkx
        go_wp2_with (go_at_call 6; refine (AL.out _).mono ?_; rintro e w3 ⟨rfl, hb3⟩
                     have hc0 := HC0.out _ (HB2.out.trans (hb3.mono HB2.out.size))
                     have HB := Lib.hid (HB.out.trans ((HB2.out.trans (hb3.mono HB2.out.size)).mono HB.out.size))
                     clear hb3)
        go_ret
        exact ⟨rfl, HB.out⟩
  · have hc3 : (p = false ∧ encOk l) ∨ (p = false ∧ ¬ encOk l) ∨ (p = true ∧ ¬ encOk l) := by
      by_cases h1 : encOk l
      · exact .inl ⟨by cases p; rfl; exact absurd ⟨rfl, h1⟩ hall, h1⟩
      · cases p
        · exact .inr (.inl ⟨rfl, h1⟩)
        · exact .inr (.inr ⟨rfl, h1⟩)
    have HKA := Lib.hid hka
    clear hr hla hka hall
    rcases hc3 with ⟨rfl, h16, hrt⟩ | ⟨rfl, hno⟩ | ⟨rfl, hno⟩
    · have EN := Lib.hid (encodeR_right l A _ cap1 rfl w h16 HKA.out (fun x hx => ⟨hrt x hx, (HKA.out x hx).1⟩) HR.out)
      clear h16 hrt
      go_enter Try.func3, Try.ntmps3
      go_wp2_with (first
        | (go_at_call 4; refine FW.out.mono ?_; rintro e w1 ⟨rfl, rfl⟩)
        | (go_at_call 5; refine EN.out.mono ?_; rintro e w2 ⟨vx, rfl, hox, hb⟩; have HB := Lib.hid hb; clear hb hox)
        | (go_at_call 6; refine (AL.out _).mono ?_; rintro e w3 ⟨rfl, hb⟩; have HB := Lib.hid (HB.out.trans (hb.mono HB.out.size)); clear hb)
        | fail)
      go_ret
      exact ⟨rfl, HB.out⟩
    all_goals
      have EN := Lib.hid (encodeR_no l A cap1 w hno HKA.out HR.out)
      clear hno
      go_enter Try.func3, Try.ntmps3
      go_wp2_with (first
        | (go_at_call 4; refine FW.out.mono ?_; rintro e w1 ⟨rfl, rfl⟩)
        | (go_at_call 5; refine EN.out.mono ?_; rintro e w2 ⟨rfl, hb⟩; have HB := Lib.hid hb; clear hb)
        | (go_at_call 6; refine (AL.out _).mono ?_; rintro e w3 ⟨rfl, hb⟩; have HB := Lib.hid (HB.out.trans (hb.mono HB.out.size)); clear hb)
        | fail)
      go_ret
      exact ⟨rfl, HB.out⟩
end Go.Proofs.Ytnifbhcnehcgiab

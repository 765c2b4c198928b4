/- Package row: takeValue; Decode. -/
import Derived.Test.YthdhifnafgidaaaWQA
import Derived.Test.YthdhifnafgidaaaWQB
import Derived.Test.YthdhifnafgidaaaWQC
import Derived.Test.YthdhifnafgidaaaKT
namespace Go.Proofs.Ythdhifnafgidaaa
open Go.RowKit

theorem six' {c : UInt8} (h : ¬ 5 < c.toNat) : c = 0 ∨ c = 1 ∨ c = 2 ∨ c = 3 ∨ c = 4 ∨ c = 5 := by
  have h1 : c.toNat = 0 ∨ c.toNat = 1 ∨ c.toNat = 2 ∨ c.toNat = 3 ∨ c.toNat = 4 ∨ c.toNat = 5 := by omega
  rcases h1 with h1 | h1 | h1 | h1 | h1 | h1
  · exact .inl (u8_ext h1)
  · exact .inr (.inl (u8_ext h1))
  · exact .inr (.inr (.inl (u8_ext h1)))
  · exact .inr (.inr (.inr (.inl (u8_ext h1))))
  · exact .inr (.inr (.inr (.inr (.inl (u8_ext h1)))))
  · exact .inr (.inr (.inr (.inr (.inr (u8_ext h1)))))
theorem takeValue_any (l : List UInt8) (g B : Nat) (w : World) (h : Src w g B l) : Calls Try.prog 52 #[.func (.func 63) #[] #[.pointer (some ⟨g, 0, none⟩)]] w (TVT w g B l) := by
  rcases l with _ | ⟨c, t⟩
  · exact tv_nil g B w h
  · by_cases hc5 : 5 < c.toNat
    · exact tv_x c t g B w h hc5
    · have hnum : (∃ u r, u < 18446744073709551616 ∧ t = vL u ++ r) ∨ ∀ u r, u < 18446744073709551616 → t ≠ vL u ++ r := by
        by_cases h : ∃ u r, u < 18446744073709551616 ∧ t = vL u ++ r
        · exact .inl h
        · exact .inr fun u r hu e => h ⟨u, r, hu, e⟩
      have htxt : (∃ s r : List UInt8, s.length ≤ 200 ∧ t = vL (zig (s.length : Int)) ++ (s ++ r)) ∨ ∀ s r : List UInt8, s.length ≤ 200 → t ≠ vL (zig (s.length : Int)) ++ (s ++ r) := by
        by_cases h : ∃ s r : List UInt8, s.length ≤ 200 ∧ t = vL (zig (s.length : Int)) ++ (s ++ r)
        · exact .inl h
        · exact .inr fun s r hs e => h ⟨s, r, hs, e⟩
      rcases six' hc5 with rfl | rfl | rfl | rfl | rfl | rfl
      · exact tv_0 t g B w h
      · rcases t with _ | ⟨d, t⟩
        · exact tv_1n g B w h
        · by_cases hd : d.toNat ≤ 1
          · exact tv_1y d t g B w h hd
          · exact tv_1b d t g B w h (by omega)
      · rcases hnum with ⟨u, r, hu, rfl⟩ | hno
        · exact tv_2y u r g B w h hu
        · exact tv_2n t g B w h hno
      · rcases hnum with ⟨u, r, hu, rfl⟩ | hno
        · exact tv_3y u r g B w h hu
        · exact tv_3n t g B w h hno
      · rcases htxt with ⟨s, r, hs, rfl⟩ | hno
        · exact tv_4y s r g B w h hs
        · exact tv_4n t g B w h hno
      · rcases htxt with ⟨s, r, hs, rfl⟩ | hno
        · exact tv_5y s r g B w h hs
        · exact tv_5n t g B w h hno
/-- what Decode answers -/
def DcR (w : World) (bs : List UInt8) (e : Ending) (w' : World) : Prop := Below w.heap.size w w' ∧ ((∃ l v, e = .returned (.tuple #[v, .int .i64 0]) ∧ (∀ x ∈ l, x.R) ∧ l.length ≤ 16 ∧ bs = rowB l ∧ OwnV w' w.heap.size v l) ∨
  (e = .returned (.tuple #[.slice none 0 0, .int .i64 51]) ∧ ∀ l, (∀ x ∈ l, x.R) → l.length ≤ 16 → bs ≠ rowB l))
theorem rowB_cons {c : UInt8} {t : List UInt8} {m : List Val} (h16 : m.length ≤ 16) (h : c :: t = rowB m) : m.length = c.toNat ∧ t = rowL m := by
  unfold rowB at h
  rw [List.cons.injEq] at h
  have g := congrArg UInt8.toNat h.1
  rw [ofNat_toNat (by omega)] at g
  exact ⟨g.symm, h.2⟩
theorem rowL_begins {l m : List Val} (hl : ∀ x ∈ l, x.R) (hm : ∀ x ∈ m, x.R) (hlen : l.length ≤ m.length) {r : List UInt8} (h : rowL l ++ r = rowL m) : ∃ k, m = l ++ k ∧ r = rowL k := by
  have e : m = m.take l.length ++ m.drop l.length := (List.take_append_drop _ _).symm
  rw [e, rowL_app] at h
  obtain ⟨h1, h2⟩ := rowL_inj hl (fun x hx => hm x (List.mem_of_mem_take hx)) (by rw [List.length_take]; omega) h
  exact ⟨m.drop l.length, by rw [h1, List.length_take, Nat.min_eq_left hlen]; exact e, h2⟩
theorem OwnV.grown {w w' : World} {B g : Nat} {v : Value} {l : List Val} (h : OwnV w B v l) (hg : w.grownBy w' (some g)) (hB : g < B) : OwnV w' B v l :=
  ⟨h.1.kept hg (.inr fun e => by have := h.ge _ e; omega), h.2⟩
theorem Src.grew {W V : World} {g B : Nat} {l : List UInt8} {o : Option Nat} (hs : Src W g B l) (hg : W.grownBy V o) (hn : ∀ h, o = some h → g < h) : Src V g B l := by
  obtain ⟨A, cap, h1, h2, h3, h4⟩ := hs
  have hlt := (Array.getElem?_eq_some_iff.1 h1).1
  exact ⟨A, cap, (hg.block _ hlt (fun e => by have := hn _ e.symm; omega)).trans h1, h2, h3.keep fun k hk => hg.block k (by omega) (fun e => by have := hn _ e.symm; omega), h4⟩
theorem rd_val_2' (w : World) (o : Obj) (x : Val) : RdV ((w.alloc o).alloc (.cells #[.int .i64 x.k, .int .i64 x.n, .string x.s] 88)) (w.heap.size + 1 + 1) (some ⟨w.heap.size + 1, 0, none⟩) [x] := by
  have h := rd_val (w := (w.alloc o).alloc (.cells #[.int .i64 x.k, .int .i64 x.n, .string x.s] 88)) (g := (w.alloc o).heap.size) (x := x) (heap_alloc_new _ _)
  have e : (w.alloc o).heap.size = w.heap.size + 1 := by simp
  rw [e] at h
  exact h
theorem OwnV.low {w : World} {B C : Nat} {v : Value} {l : List Val} (h : OwnV w B v l) (hC : C ≤ B) : OwnV w C v l := by
  refine ⟨⟨h.1.1, ?_⟩, h.2⟩
  rcases h.1.2 with h1 | ⟨g, cap, cur, e, hb, hr⟩
  · exact .inl h1
  · exact .inr ⟨g, cap, cur, e, Nat.le_trans hC hb, hr⟩
/-- at the head of its loop -/
def RDL (w : World) (n : Nat) (b1 : List UInt8) (v7 v26 : Value) (wr : World) : Prop := ∃ (l : List Val) (r : List UInt8) (y : Value), y = v7 ∧ v26 = .int .u8 l.length ∧ l.length ≤ n ∧ b1 = rowL l ++ r ∧ (∀ x ∈ l, x.R) ∧ OwnV wr (w.heap.size + 1) y l ∧ Src wr w.heap.size w.heap.size r ∧ Below w.heap.size w wr
set_option maxRecDepth 100000 in
set_option maxHeartbeats 16000000 in
theorem decodeR_any (bs : List UInt8) (A : Option Addr) (cap : Nat) (w : World) (hcap : bs.length ≤ cap) (hr : RdB w w.heap.size A bs) :
    Calls Try.prog 40 #[.slice A bs.length cap] w (DcR w bs) := by
  obtain ⟨i0, hi, hz0, hz1, hz2⟩ := info_parts infoV
  have HC := Lib.hid (consume_any bs A _ cap rfl w hcap hr)
  clear hr hcap
  go_enter Try.func40, Try.ntmps40
  go_wp2_with fail
  refine HC.out.mono ?_
  rintro e w1 ⟨rfl, hs, hb⟩
  have HS := Lib.hid hs
  have HB := Lib.hid hb
  clear hs hb
  go_wp2_with fail
  rcases bs with _ | ⟨c, b1⟩
  · refine (next_none' _ w.heap.size w.heap.size HS.out).mono ?_
    rintro e w2 ⟨rfl, rfl⟩
    have HY : Hid (DcR w [] (.returned (.tuple #[.slice none 0 0, .int .i64 51])) w1) := Lib.hid ⟨HB.out, .inr ⟨rfl, fun l _ _ => by simp [rowB]⟩⟩
    go_wp2_with fail
    go_ret2
    exact HY.out
  · obtain ⟨n, HN⟩ : ∃ n : Nat, Hid (n = c.toNat) := ⟨_, Lib.hid rfl⟩
    refine (nextX_at _ w.heap.size w.heap.size c b1 (n : Int) (by rw [HN.out]) HS.out).mono ?_
    rintro e w2 ⟨rfl, hs2, hg2⟩
    have HS := Lib.hid hs2
    have HB := Lib.hid (HB.out.trans (grown_below' hg2 (Nat.le_refl _) HB.out.size))
    clear hs2 hg2
    by_cases h16 : n ≤ 16
    · have h16i : ¬ (16 : Int) < (n : Int) := by omega
      have h16j : (n : Int) ≤ 16 := by omega
      have H16 := Lib.hid h16
      clear h16
      go_wp2_with fail
      go_loopw [7, 26] (fun v7 v26 wr => RDL w n b1 v7 v26 wr) (fun _ v26 _ => n - (intOf v26).toNat)
      case atStart => exact ⟨[], b1, _, rfl, rfl, Nat.zero_le _, rfl, fun x hx => by simp at hx, OwnV.nil _ _, HS.out, HB.out⟩
      case round =>
        obtain ⟨l, r, y, rfl, rfl, hln, hb1, hR, ho, hsr, hb⟩ := hrel
        obtain ⟨A2, cap2, rfl, hcap2⟩ := ho.2
        have HB1 := Lib.hid hb1
        have HR := Lib.hid hR
        have HO := Lib.hid ho
        have HSR := Lib.hid hsr
        have HB := Lib.hid hb
        have HLN := Lib.hid hln
        clear hb1 hR ho hsr hb hcap2
        by_cases hlt : l.length < n
        · have hki : (l.length : Int) < (n : Int) := by omega
          have HLT := Lib.hid hlt
          clear hlt hln
          go_wp2_with fail
          refine (takeValue_any r w.heap.size w.heap.size wr HSR.out).mono ?_
          rintro e w5 ⟨hg5, ⟨xk, xn, xs⟩, ok, r5, rfl, hs5, hcase⟩
          have HB5 := Lib.hid (HB.out.trans (grown_below' hg5 (Nat.le_refl _) HB.out.size))
          have HO5 := Lib.hid (HO.out.grown hg5 (Nat.lt_succ_self _))
          have HS5 := Lib.hid hs5
          have HBT := Lib.hid (HB5.out.trans ((alloc_below w5 (.cells #[.int .i64 xk, .int .i64 xn, .string xs] 88)).mono HB5.out.size))
          clear hg5 hs5
          simp only [Val.v]
          rcases hcase with ⟨rfl, hxR, hrr⟩ | ⟨rfl, hno⟩
          · have HM : Hid ((l.length + 1) * 32 ≤ 140737488355328) := Lib.hid (by have := H16.out; have := HLT.out; omega)
            have HSZ : Hid (w.heap.size + 1 ≤ w5.heap.size) := Lib.hid HS5.out.lt
            have HBZ : Hid (∀ o p, w.heap.size + 1 ≤ ((w5.alloc o).alloc p).heap.size) := Lib.hid fun o p => Nat.le_trans HSZ.out (alloc2_below w5 o p).size
            have HNX : Hid (∀ o p v5 w6, OwnV w6 (w.heap.size + 1) v5 (l ++ [⟨xk, xn, xs⟩]) → Grew ((w5.alloc o).alloc p) (.slice A2 l.length cap2) w6 v5 → ∀ v26, v26 = .int .u8 ((l.length + 1 : Nat) : Int) → RDL w n b1 v5 v26 w6) := Lib.hid fun o p v5 w6 ho6 hg6 v26 h26 => by
              have hbb := HB5.out.trans (((alloc2_below w5 o p).mono HB5.out.size).trans (hg6.toBelow (Nat.le_trans (Nat.le_succ _) (HBZ.out o p)) (fun k e => Nat.le_trans (Nat.le_succ _) (HO.out.ge k e))))
              have hss := (HS5.out.keep (alloc2_below w5 o p)).grew hg6.by_ (fun h e => by have := HO.out.ge h e; omega)
              refine ⟨l ++ [⟨xk, xn, xs⟩], r5, v5, rfl, by rw [h26, List.length_append]; rfl, by have := HLT.out; rw [List.length_append, List.length_singleton]; omega, by rw [HB1.out, hrr, rowL_snoc, List.append_assoc], fun z hz => ?_, ho6, hss, hbb⟩
              rw [List.mem_append, List.mem_singleton] at hz
              rcases hz with hz | hz
              · exact HR.out z hz
              · rw [hz]; exact hxR
            clear hrr hxR
            go_wp2_with (at_builtin
                         refine wpList_appV (xs := l) (ys := [⟨xk, xn, xs⟩]) (B := w.heap.size + 1) rfl _ _ 76 rfl Try.underlying76 hi hz0 hz1 hz2 rfl (HO5.out.below (alloc2_below w5 _ _)) rfl rfl (rd_val_2' w5 _ ⟨xk, xn, xs⟩) HM.out (HBZ.out _ _) ?_
                         intro v6 w6 ho6 hg6
                         have HY := Lib.hid (HNX.out _ _ v6 w6 ho6 hg6)
                         clear ho6 hg6)
            go_roundw
            case rel => first | exact HY.out _ (by go_num) | ((repeat apply Exists.intro); exact ⟨HY.out _ (by go_num), rfl⟩)
            case measure => simp [intOf]; omega
          · have HY : Hid (DcR w (c :: b1) (.returned (.tuple #[.slice none 0 0, .int .i64 51])) (w5.alloc (.cells #[.int .i64 xk, .int .i64 xn, .string xs] 88))) := Lib.hid ⟨HBT.out, .inr ⟨rfl, fun m hm hm16 e => by
              obtain ⟨h1, h2⟩ := rowB_cons hm16 e
              have h3 := HN.out
              have h4 := HLT.out
              obtain ⟨k, rfl, h5⟩ := rowL_begins HR.out hm (by omega) (HB1.out.symm.trans h2)
              rcases k with _ | ⟨z, k⟩
              · rw [List.append_nil] at h1; omega
              · rw [rowL_cons] at h5
                exact hno z _ (hm z (by simp)) h5⟩⟩
            clear hno
            go_wp2_with fail
            go_ret2
            exact HY.out
        · have hkl : l.length = n := by omega
          have HKL := Lib.hid hkl
          have hnlt : ¬ (l.length : Int) < (n : Int) := by omega
          clear hlt hln hkl
          go_wp2_with fail
          rcases r with _ | ⟨d, t⟩
          · refine (next_none' _ w.heap.size w.heap.size HSR.out).mono ?_
            rintro e w6 ⟨rfl, rfl⟩
            have HY : Hid (DcR w (c :: b1) (.returned (.tuple #[.slice A2 l.length cap2, .int .i64 0])) wr) := Lib.hid ⟨HB.out, .inl ⟨l, _, rfl, HR.out, by have := H16.out; have := HKL.out; omega, by
              rw [HB1.out, List.append_nil]
              unfold rowB
              rw [HKL.out, HN.out]
              simp, HO.out.low (Nat.le_succ _)⟩⟩
            go_wp2_with fail
            go_ret2
            exact HY.out
          · refine (next_some' _ w.heap.size w.heap.size d t HSR.out).mono ?_
            rintro e w6 ⟨rfl, hs6, hg6⟩
            have HY : Hid (DcR w (c :: b1) (.returned (.tuple #[.slice none 0 0, .int .i64 51])) w6) := Lib.hid ⟨HB.out.trans (grown_below' hg6 (Nat.le_refl _) HB.out.size), .inr ⟨rfl, fun m hm hm16 e => by
              obtain ⟨h1, h2⟩ := rowB_cons hm16 e
              have h3 := HN.out
              have h4 := HKL.out
              obtain ⟨k, rfl, h5⟩ := rowL_begins HR.out hm (by omega) (HB1.out.symm.trans h2)
              rcases k with _ | ⟨z, k⟩
              · simp [rowL] at h5
              · rw [List.length_append, List.length_cons] at h1; omega⟩⟩
            clear hs6 hg6
            go_wp2_with fail
            go_ret2
            exact HY.out
    · have h16i : (16 : Int) < (n : Int) := by omega
      have HY : Hid (DcR w (c :: b1) (.returned (.tuple #[.slice none 0 0, .int .i64 51])) w2) := Lib.hid ⟨HB.out, .inr ⟨rfl, fun m hm hm16 e => by
        obtain ⟨h1, _⟩ := rowB_cons hm16 e
        have := HN.out
        omega⟩⟩
      clear h16
      go_wp2_with fail
      go_ret2
      exact HY.out
end Go.Proofs.Ythdhifnafgidaaa

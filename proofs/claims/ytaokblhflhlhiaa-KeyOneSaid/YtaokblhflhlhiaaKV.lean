/- KeyOne: the law's own body answers true. -/
import Derived.Test.YtaokblhflhlhiaaKU
namespace Go.Proofs.Ytaokblhflhlhiaa
open Go.RowKit

set_option maxRecDepth 100000 in
set_option maxHeartbeats 40000000 in
theorem keyOne_law (l : List Val) (a b : Val) (A : Option Addr) (cap1 : Nat) (w : World) (hla : l.length ≤ maxLen) (h32 : l.length * 32 ≤ 140737488351232) (hka : AllOk l) (hxa : a.ok ∧ a.s.size ≤ 9223372036854775807) (hxb : b.ok ∧ b.s.size ≤ 9223372036854775807) (hr : RdV w w.heap.size A l) :
    Calls Try.prog 8 #[.slice A l.length cap1, .agg #[.int .i64 a.k, .int .i64 a.n, .string a.s], .agg #[.int .i64 b.k, .int .i64 b.n, .string b.s]] w (Ans (.bool true) w) := by
  obtain ⟨i0, hi, hz0, hz1, hz2⟩ := info_parts infoV
  have HS : Hid (ON w a b ((((w.alloc (.cells #[.int .i64 a.k, .int .i64 a.n, .string a.s] 37)).alloc (.cells #[.int .i64 b.k, .int .i64 b.n, .string b.s] 37)).alloc (.cells #[.int .i64 a.k, .int .i64 a.n, .string a.s] 37)).alloc (.cells #[.int .i64 b.k, .int .i64 b.n, .string b.s] 37))) := Lib.hid (ON.start w a b)
  have HR := Lib.hid hr
  obtain ⟨p, hp⟩ : ∃ p, Hid (p = fewB (l ++ [a, b])) := ⟨_, Lib.hid rfl⟩
  have FW := Lib.hid (fun X cap n W (hn : n = (l ++ [a, b]).length) (h : RdV W W.heap.size X (l ++ [a, b])) => few_n (l ++ [a, b]) X n cap W hn (by rw [List.length_append]; unfold maxLen; simp; omega) (by
    intro x hx
    rw [List.mem_append] at hx
    rcases hx with hx | hx
    · exact hka x hx
    · simp at hx
      rcases hx with rfl | rfl
      · exact hxa
      · exact hxb) h)
  rw [← hp.out] at FW
  have HLN : Hid ((([] : List Val).length + l.length) * 32 ≤ 140737488355328) := Lib.hid (by simp; omega)
  have HLM : Hid ((l.length + [a, b].length) * 32 ≤ 140737488355328) := Lib.hid (by simp; omega)
  clear hr
  go_enter Try.func8, Try.ntmps8
  go_upto_region 3 with fail
  go_cut [9] (fun v9 wx => v9 = .bool p ∧ ON w a b wx)
  case first =>
    generalize ((((w.alloc (.cells #[.int .i64 a.k, .int .i64 a.n, .string a.s] 37)).alloc (.cells #[.int .i64 b.k, .int .i64 b.n, .string b.s] 37)).alloc (.cells #[.int .i64 a.k, .int .i64 a.n, .string a.s] 37)).alloc (.cells #[.int .i64 b.k, .int .i64 b.n, .string b.s] 37)) = w3 at *
    have HX := HS
    have HB3 : Hid (w.heap.size ≤ w3.heap.size) := Lib.hid HS.out.bel.size
    have HRD : Hid (∀ W, Below w3.heap.size w3 W → RdV W w.heap.size A l) := Lib.hid fun W hb => (HR.out.below HS.out.bel (Nat.le_refl _)).below hb HB3.out
    have E1 : Hid (OwnV (w3.alloc (.cells #[] 37)).drew w3.heap.size (.slice (some ⟨w3.heap.size, 0, none⟩) 0 0) [] ∧ Below w3.heap.size w3 (w3.alloc (.cells #[] 37)).drew) := Lib.hid ⟨empty_own (heap_alloc_new w3 _) (Nat.le_refl _), (alloc_below _ _).drew⟩
    have E2 : Hid (OwnV ((w3.alloc (.cells #[] 37)).alloc (.cells #[.int .i64 a.k, .int .i64 a.n, .string a.s, .int .i64 b.k, .int .i64 b.n, .string b.s] 37)).drew w3.heap.size (.slice (some ⟨w3.heap.size, 0, none⟩) 0 0) [] ∧ Below w3.heap.size w3 ((w3.alloc (.cells #[] 37)).alloc (.cells #[.int .i64 a.k, .int .i64 a.n, .string a.s, .int .i64 b.k, .int .i64 b.n, .string b.s] 37)).drew ∧ ((w3.alloc (.cells #[] 37)).alloc (.cells #[.int .i64 a.k, .int .i64 a.n, .string a.s, .int .i64 b.k, .int .i64 b.n, .string b.s] 37)).drew.heap[w3.heap.size + 1]? = some (.cells #[.int .i64 a.k, .int .i64 a.n, .string a.s, .int .i64 b.k, .int .i64 b.n, .string b.s] 37)) := Lib.hid ⟨empty_own (heap_old (heap_alloc_new w3 _)) (Nat.le_refl _), (alloc2_below _ _ _).drew, heap_new2 _ _ _⟩
    have E3 : Hid (OwnV ((w3.alloc (.cells #[.int .i64 a.k, .int .i64 a.n, .string a.s, .int .i64 b.k, .int .i64 b.n, .string b.s] 37)).alloc (.cells #[] 37)).drew w3.heap.size (.slice (some ⟨w3.heap.size + 1, 0, none⟩) 0 0) [] ∧ Below w3.heap.size w3 ((w3.alloc (.cells #[.int .i64 a.k, .int .i64 a.n, .string a.s, .int .i64 b.k, .int .i64 b.n, .string b.s] 37)).alloc (.cells #[] 37)).drew ∧ ((w3.alloc (.cells #[.int .i64 a.k, .int .i64 a.n, .string a.s, .int .i64 b.k, .int .i64 b.n, .string b.s] 37)).alloc (.cells #[] 37)).drew.heap[w3.heap.size]? = some (.cells #[.int .i64 a.k, .int .i64 a.n, .string a.s, .int .i64 b.k, .int .i64 b.n, .string b.s] 37)) := Lib.hid ⟨empty_own (heap_new2 _ _ _) (Nat.le_succ _), (alloc2_below _ _ _).drew, heap_old (heap_alloc_new w3 _)⟩
    have HSZ : Hid (∀ W, Below w3.heap.size w3 W → w3.heap.size ≤ W.heap.size) := Lib.hid fun W h => h.size
    have PR : Hid (∀ (W : World) (g : Nat), W.heap[g]? = some (.cells #[.int .i64 a.k, .int .i64 a.n, .string a.s, .int .i64 b.k, .int .i64 b.n, .string b.s] 37) → RdV W (g + 1) (some ⟨g, 0, none⟩) [a, b]) := Lib.hid fun W g h => rd_val2 h
    have PN : Hid (∀ W : World, (W.alloc (.cells #[.int .i64 a.k, .int .i64 a.n, .string a.s, .int .i64 b.k, .int .i64 b.n, .string b.s] 37)).heap[W.heap.size]? = some (.cells #[.int .i64 a.k, .int .i64 a.n, .string a.s, .int .i64 b.k, .int .i64 b.n, .string b.s] 37)) := Lib.hid fun W => heap_alloc_new W _
    go_region_held3 (fun W => (W.cell? ⟨w.heap.size, 0, none⟩ = some (.int .i64 a.k) ∧ W.cell? ⟨w.heap.size, 1, none⟩ = some (.int .i64 a.n) ∧ W.cell? ⟨w.heap.size, 2, none⟩ = some (.string a.s)) ∧ W.cell? ⟨w.heap.size + 1, 0, none⟩ = some (.int .i64 b.k) ∧ W.cell? ⟨w.heap.size + 1, 1, none⟩ = some (.int .i64 b.n) ∧ W.cell? ⟨w.heap.size + 1, 2, none⟩ = some (.string b.s))
      (first | with_reducible exact HX.out.six | with_reducible exact (HX.out.next E1.out.2).six | with_reducible exact (HX.out.next E2.out.2.1).six | with_reducible exact (HX.out.next E3.out.2.1).six | with_reducible exact HX.out.drew.six | with_reducible exact (HX.out.next (alloc_below _ _)).six | with_reducible exact (HX.out.next ((alloc_below _ _).drew)).six)
      (first
      | (go_at_call 9; refine (FW.out _ _ _ _ (by simp) HO6.out.rd).mono ?_; rintro e w7 ⟨rfl, rfl⟩)
      | (refine step_appV (by rfl) _ _ 22 (by rfl) (B := w3.heap.size) (xs := l) (ys := [a, b]) Try.underlying22 hi hz0 hz1 hz2 (by rfl) HO5.out (by rfl) (by rfl) (PR.out _ _ HP5.out) HLM.out (HSZ.out _ HB5.out) ?_
         intro v6 w6 ho6 hg6
         obtain ⟨X6, k6, hv6, hk6⟩ := ho6.2
         subst hv6
         have hb6 : Below w3.heap.size w3 w6 := HB5.out.trans (hg6.toBelow (HSZ.out _ HB5.out) HO5.out.ge)
         have HX := Lib.hid (HS.out.next hb6)
         have HO6 := Lib.hid ho6
         have HB6 := Lib.hid hb6
         clear ho6 hg6 hb6)
      | (refine step_appV (by rfl) _ _ 22 (by rfl) (B := w3.heap.size) (xs := l) (ys := [a, b]) Try.underlying22 hi hz0 hz1 hz2 (by rfl) (HO5.out.below (alloc_below _ _)) (by rfl) (by rfl) (PR.out _ _ (PN.out _)) HLM.out (Nat.le_trans (HSZ.out _ HB5.out) (alloc_below _ _).size) ?_
         intro v6 w6 ho6 hg6
         obtain ⟨X6, k6, hv6, hk6⟩ := ho6.2
         subst hv6
         have hb6 : Below w3.heap.size w3 w6 := (HB5.out.trans ((alloc_below _ _).mono HB5.out.size)).trans (hg6.toBelow (Nat.le_trans (HSZ.out _ HB5.out) (alloc_below _ _).size) HO5.out.ge)
         have HX := Lib.hid (HS.out.next hb6)
         have HO6 := Lib.hid ho6
         have HB6 := Lib.hid hb6
         clear ho6 hg6 hb6)
      | (refine step_appV (by rfl) _ _ 22 (by rfl) (B := w3.heap.size) (C := w.heap.size) (ys := l) (xs := []) Try.underlying22 hi hz0 hz1 hz2 (by rfl) E1.out.1 (by rfl) (by rfl) (HRD.out _ E1.out.2) HLN.out (HSZ.out _ E1.out.2) ?_
         intro v5 w5 ho5 hg5
         have hb5 := E1.out.2.trans (hg5.toBelow (HSZ.out _ E1.out.2) E1.out.1.ge)
         have HX := Lib.hid (HS.out.next hb5)
         have HO5 := Lib.hid ho5
         have HB5 := Lib.hid hb5
         clear ho5 hg5 hb5)
      | (refine step_appV (by rfl) _ _ 22 (by rfl) (B := w3.heap.size) (C := w.heap.size) (ys := l) (xs := []) Try.underlying22 hi hz0 hz1 hz2 (by rfl) E2.out.1 (by rfl) (by rfl) (HRD.out _ E2.out.2.1) HLN.out (HSZ.out _ E2.out.2.1) ?_
         intro v5 w5 ho5 hg5
         have hb5 := E2.out.2.1.trans (hg5.toBelow (HSZ.out _ E2.out.2.1) E2.out.1.ge)
         have HP5 := Lib.hid ((hg5.by_.block _ (Array.getElem?_eq_some_iff.1 E2.out.2.2).1 (by simp [Value.ownBlock])).trans E2.out.2.2)
         have HX := Lib.hid (HS.out.next hb5)
         have HO5 := Lib.hid ho5
         have HB5 := Lib.hid hb5
         clear ho5 hg5 hb5)
      | (refine step_appV (by rfl) _ _ 22 (by rfl) (B := w3.heap.size) (C := w.heap.size) (ys := l) (xs := []) Try.underlying22 hi hz0 hz1 hz2 (by rfl) E3.out.1 (by rfl) (by rfl) (HRD.out _ E3.out.2.1) HLN.out (HSZ.out _ E3.out.2.1) ?_
         intro v5 w5 ho5 hg5
         have hb5 := E3.out.2.1.trans (hg5.toBelow (HSZ.out _ E3.out.2.1) E3.out.1.ge)
         have HP5 := Lib.hid ((hg5.by_.block _ (Array.getElem?_eq_some_iff.1 E3.out.2.2).1 (by simp [Value.ownBlock])).trans E3.out.2.2)
         have HX := Lib.hid (HS.out.next hb5)
         have HO5 := Lib.hid ho5
         have HB5 := Lib.hid hb5
         clear ho5 hg5 hb5)
      | fail)
    all_goals
      go_wp2_with fail
      go_meet
      exact ⟨rfl, HX.out⟩
  case rest =>
    obtain ⟨rfl, hw⟩ := hcut
    have HX := Lib.hid hw
    clear hw HS
    have AL := Lib.hid alive_any
    have R1 := Lib.hid (fun W (h : ON w a b W) => right_n [a] (some ⟨w.heap.size + 1 + 1, 0, none⟩) 1 1 W rfl (by unfold maxLen; simp) (fun x hx => by rw [List.mem_singleton] at hx; rw [hx]; exact hxa) ((rd_val h.a1).more (Array.getElem?_eq_some_iff.1 h.a1).1))
    have R2 := Lib.hid (fun W (h : ON w a b W) => right_n [b] (some ⟨w.heap.size + 1 + 1 + 1, 0, none⟩) 1 1 W rfl (by unfold maxLen; simp) (fun x hx => by rw [List.mem_singleton] at hx; rw [hx]; exact hxb) ((rd_val h.b1).more (Array.getElem?_eq_some_iff.1 h.b1).1))
    have R3 := Lib.hid (fun W (h : ON w a b W) => rightL_any l A cap1 W hla hka ((HR.out.below h.bel (Nat.le_refl _)).more h.bel.size))
    by_cases hall : p = true ∧ rightL [a] = true ∧ rightL [b] = true ∧ rightL l = true ∧ l.length ≤ 10
    · obtain ⟨hpt, q1, q2, q3, q4⟩ := hall
      obtain ⟨_, ra⟩ := right_all q1 (fun x hx => by rw [List.mem_singleton] at hx; rw [hx]; exact hxa)
      obtain ⟨_, rb⟩ := right_all q2 (fun x hx => by rw [List.mem_singleton] at hx; rw [hx]; exact hxb)
      obtain ⟨_, rl⟩ := right_all q3 hka
      rw [q1] at R1
      rw [q2] at R2
      rw [q3] at R3
      subst hpt
      have hxa' : AllOk [a] := fun x hx => by rw [List.mem_singleton] at hx; rw [hx]; exact hxa
      have hxb' : AllOk [b] := fun x hx => by rw [List.mem_singleton] at hx; rw [hx]; exact hxb
      have EN1 := Lib.hid (fun W (h : ON w a b W) => encode_right [a] (some ⟨w.heap.size + 1 + 1, 0, none⟩) 1 1 rfl W (by simp) hxa' ra ((rd_val h.a1).more (Array.getElem?_eq_some_iff.1 h.a1).1))
      have EN2 := Lib.hid (fun W (h : ON w a b W) => encode_right [b] (some ⟨w.heap.size + 1 + 1 + 1, 0, none⟩) 1 1 rfl W (by simp) hxb' rb ((rd_val h.b1).more (Array.getElem?_eq_some_iff.1 h.b1).1))
      have EN3 := Lib.hid (fun (x : Val) (hx : AllOk [x]) (hR : ∀ z ∈ [x], z.R) X n cap W (hn : n = (l ++ [x]).length) (h : RdV W W.heap.size X (l ++ [x])) => encode_right (l ++ [x]) X n cap hn W (by rw [List.length_append]; simp; omega)
        (fun z hz => by rw [List.mem_append] at hz; rcases hz with hz | hz; exact hka z hz; exact hx z hz) (fun z hz => by rw [List.mem_append] at hz; rcases hz with hz | hz; exact rl z hz; exact hR z hz) h)
      have EN4 := Lib.hid (EN3.out a hxa' ra)
      have EN5 := Lib.hid (EN3.out b hxb' rb)
      have OR := Lib.hid (order_at a b)
      have M1 : Hid (cmpB (encL [a]) (encL [b]) = ordI a b) := Lib.hid (by rw [encL_cmp ra rb]; simp only [rowsI]; split; exact (by assumption : ordI a b = 0).symm; rfl)
      have M2 : Hid (cmpB (encL (l ++ [a])) (encL (l ++ [b])) = ordI a b) := Lib.hid (by rw [encL_app, encL_app, cmpB_app, M1.out])
      have M3 : Hid (encL [a] <+: encL [b] ↔ ordI a b = 0) := Lib.hid (by
        rw [encL_prefix ra rb, ord_zero_iff]
        constructor
        · intro h
          have h1 := List.IsPrefix.eq_of_length h rfl
          injection h1
        · intro h
          rw [h]
          exact List.prefix_refl _)
      have h10 : ¬ (10 : Int) < (l.length : Int) := by omega
      have HLA : Hid ((l.length + [a].length) * 32 ≤ 140737488355328) := Lib.hid (by simp; omega)
      have HLB : Hid ((l.length + [b].length) * 32 ≤ 140737488355328) := Lib.hid (by simp; omega)
      clear hla h32 hka hxa hxb q1 q2 q3 q4 ra rb rl hxa' hxb' HLM
      obtain ⟨ex, hex⟩ : ∃ ex, Hid (ex = encL [a]) := ⟨_, Lib.hid rfl⟩
      obtain ⟨ey, hey⟩ : ∃ ey, Hid (ey = encL [b]) := ⟨_, Lib.hid rfl⟩
      obtain ⟨eu, heu⟩ : ∃ eu, Hid (eu = encL (l ++ [a])) := ⟨_, Lib.hid rfl⟩
      obtain ⟨ev, hev⟩ : ∃ ev, Hid (ev = encL (l ++ [b])) := ⟨_, Lib.hid rfl⟩
      rw [← hex.out, ← hey.out] at M1 M3
      rw [← heu.out, ← hev.out] at M2
      have X1 : Hid (∀ W e V, EncTo W [a] e V → ∃ v, e = .returned (.tuple #[v, .int .i64 0]) ∧ OwnB V W.heap.size v ex ∧ Below W.heap.size W V) := Lib.hid fun W e V h => by rw [hex.out]; exact h
      have X2 : Hid (∀ W e V, EncTo W [b] e V → ∃ v, e = .returned (.tuple #[v, .int .i64 0]) ∧ OwnB V W.heap.size v ey ∧ Below W.heap.size W V) := Lib.hid fun W e V h => by rw [hey.out]; exact h
      have X3 : Hid (∀ W e V, EncTo W (l ++ [a]) e V → ∃ v, e = .returned (.tuple #[v, .int .i64 0]) ∧ OwnB V W.heap.size v eu ∧ Below W.heap.size W V) := Lib.hid fun W e V h => by rw [heu.out]; exact h
      have X4 : Hid (∀ W e V, EncTo W (l ++ [b]) e V → ∃ v, e = .returned (.tuple #[v, .int .i64 0]) ∧ OwnB V W.heap.size v ev ∧ Below W.heap.size W V) := Lib.hid fun W e V h => by rw [hev.out]; exact h
      clear EN3
      go_upto_region 11 with (first
        | (go_at_call 16
           first
             | ((with_reducible refine (R1.out _ HX.out).mono ?_); rintro e w2 ⟨rfl, hb⟩; have HX := Lib.hid (HX.out.next hb); clear hb)
             | ((with_reducible refine (R2.out _ HX.out).mono ?_); rintro e w2 ⟨rfl, hb⟩; have HX := Lib.hid (HX.out.next hb); clear hb)
             | ((with_reducible refine (R3.out _ HX.out).mono ?_); rintro e w2 ⟨rfl, hb⟩; have HX := Lib.hid (HX.out.next hb); clear hb))
        | (go_at_call 11
           first
             | ((with_reducible refine (EN1.out _ HX.out).mono ?_)
                rintro e w4 he
                obtain ⟨v5, rfl, ho, hb⟩ := X1.out _ _ _ he
                obtain ⟨Xx, kx, hvx, hkx⟩ := ho.2
                subst hvx
                have HX := Lib.hid (HX.out.next hb)
                have HO1 := Lib.hid ho
                clear hb ho he)
             | ((with_reducible refine (EN2.out _ HX.out).mono ?_)
                rintro e wb he
                obtain ⟨v6, rfl, ho, hb⟩ := X2.out _ _ _ he
                obtain ⟨Xy, ky, hvy, hky⟩ := ho.2
                subst hvy
                have HX := Lib.hid (HX.out.next hb)
                have HO1 := Lib.hid (HO1.out.below hb)
                have HO2 := Lib.hid ho
                clear hb ho he)))
      go_cut [17, 18] (fun v17 v18 wx => ∃ (y : Value) (B : Nat), y = v17 ∧ v18 = .int .i64 0 ∧ OwnB wx B y eu ∧ Below wb.heap.size wb wx)
      case first =>
        have HS := HX
        have HB3 : Hid (w.heap.size ≤ wb.heap.size) := Lib.hid HS.out.bel.size
        have HRD : Hid (∀ W, Below wb.heap.size wb W → RdV W w.heap.size A l) := Lib.hid fun W hb => (HR.out.below HS.out.bel (Nat.le_refl _)).below hb HB3.out
        have E1 : Hid (OwnV (wb.alloc (.cells #[] 37)).drew wb.heap.size (.slice (some ⟨wb.heap.size, 0, none⟩) 0 0) [] ∧ Below wb.heap.size wb (wb.alloc (.cells #[] 37)).drew) := Lib.hid ⟨empty_own (heap_alloc_new wb _) (Nat.le_refl _), (alloc_below _ _).drew⟩
        have E2 : Hid (OwnV ((wb.alloc (.cells #[] 37)).alloc (.cells #[.int .i64 a.k, .int .i64 a.n, .string a.s] 37)).drew wb.heap.size (.slice (some ⟨wb.heap.size, 0, none⟩) 0 0) [] ∧ Below wb.heap.size wb ((wb.alloc (.cells #[] 37)).alloc (.cells #[.int .i64 a.k, .int .i64 a.n, .string a.s] 37)).drew ∧ ((wb.alloc (.cells #[] 37)).alloc (.cells #[.int .i64 a.k, .int .i64 a.n, .string a.s] 37)).drew.heap[wb.heap.size + 1]? = some (.cells #[.int .i64 a.k, .int .i64 a.n, .string a.s] 37)) := Lib.hid ⟨empty_own (heap_old (heap_alloc_new wb _)) (Nat.le_refl _), (alloc2_below _ _ _).drew, heap_new2 _ _ _⟩
        have E3 : Hid (OwnV ((wb.alloc (.cells #[.int .i64 a.k, .int .i64 a.n, .string a.s] 37)).alloc (.cells #[] 37)).drew wb.heap.size (.slice (some ⟨wb.heap.size + 1, 0, none⟩) 0 0) [] ∧ Below wb.heap.size wb ((wb.alloc (.cells #[.int .i64 a.k, .int .i64 a.n, .string a.s] 37)).alloc (.cells #[] 37)).drew ∧ ((wb.alloc (.cells #[.int .i64 a.k, .int .i64 a.n, .string a.s] 37)).alloc (.cells #[] 37)).drew.heap[wb.heap.size]? = some (.cells #[.int .i64 a.k, .int .i64 a.n, .string a.s] 37)) := Lib.hid ⟨empty_own (heap_new2 _ _ _) (Nat.le_succ _), (alloc2_below _ _ _).drew, heap_old (heap_alloc_new wb _)⟩
        have HSZ : Hid (∀ W, Below wb.heap.size wb W → wb.heap.size ≤ W.heap.size) := Lib.hid fun W h => h.size
        have PR : Hid (∀ (W : World) (g : Nat), W.heap[g]? = some (.cells #[.int .i64 a.k, .int .i64 a.n, .string a.s] 37) → RdV W (g + 1) (some ⟨g, 0, none⟩) [a]) := Lib.hid fun W g h => rd_val h
        have PN : Hid (∀ W : World, (W.alloc (.cells #[.int .i64 a.k, .int .i64 a.n, .string a.s] 37)).heap[W.heap.size]? = some (.cells #[.int .i64 a.k, .int .i64 a.n, .string a.s] 37)) := Lib.hid fun W => heap_alloc_new W _
        go_region_held3 (fun W => (W.cell? ⟨w.heap.size, 0, none⟩ = some (.int .i64 a.k) ∧ W.cell? ⟨w.heap.size, 1, none⟩ = some (.int .i64 a.n) ∧ W.cell? ⟨w.heap.size, 2, none⟩ = some (.string a.s)) ∧ W.cell? ⟨w.heap.size + 1, 0, none⟩ = some (.int .i64 b.k) ∧ W.cell? ⟨w.heap.size + 1, 1, none⟩ = some (.int .i64 b.n) ∧ W.cell? ⟨w.heap.size + 1, 2, none⟩ = some (.string b.s))
          (first | with_reducible exact HX.out.six | with_reducible exact (HX.out.next E1.out.2).six | with_reducible exact (HX.out.next E2.out.2.1).six | with_reducible exact (HX.out.next E3.out.2.1).six | with_reducible exact HX.out.drew.six | with_reducible exact (HX.out.next (alloc_below _ _)).six | with_reducible exact (HX.out.next ((alloc_below _ _).drew)).six)
          (first
          | (go_at_call 11; refine (EN4.out _ _ _ _ (by simp) HO6.out.rd).mono ?_; rintro e w7 he; obtain ⟨v7, rfl, ho, hb⟩ := X3.out _ _ _ he; have HX := Lib.hid (HX.out.next hb); have HB7 := Lib.hid (HB6.out.trans (hb.mono HB6.out.size)); have HO7 := Lib.hid ho; clear hb ho he)
          | (refine step_appV (by rfl) _ _ 22 (by rfl) (B := wb.heap.size) (xs := l) (ys := [a]) Try.underlying22 hi hz0 hz1 hz2 (by rfl) HO5.out (by rfl) (by rfl) (PR.out _ _ HP5.out) HLA.out (HSZ.out _ HB5.out) ?_
             intro v6 w6 ho6 hg6
             obtain ⟨X6, k6, hv6, hk6⟩ := ho6.2
             subst hv6
             have hb6 : Below wb.heap.size wb w6 := HB5.out.trans (hg6.toBelow (HSZ.out _ HB5.out) HO5.out.ge)
             have HX := Lib.hid (HS.out.next hb6)
             have HO6 := Lib.hid ho6
             have HB6 := Lib.hid hb6
             clear ho6 hg6 hb6)
          | (refine step_appV (by rfl) _ _ 22 (by rfl) (B := wb.heap.size) (xs := l) (ys := [a]) Try.underlying22 hi hz0 hz1 hz2 (by rfl) (HO5.out.below (alloc_below _ _)) (by rfl) (by rfl) (PR.out _ _ (PN.out _)) HLA.out (Nat.le_trans (HSZ.out _ HB5.out) (alloc_below _ _).size) ?_
             intro v6 w6 ho6 hg6
             obtain ⟨X6, k6, hv6, hk6⟩ := ho6.2
             subst hv6
             have hb6 : Below wb.heap.size wb w6 := (HB5.out.trans ((alloc_below _ _).mono HB5.out.size)).trans (hg6.toBelow (Nat.le_trans (HSZ.out _ HB5.out) (alloc_below _ _).size) HO5.out.ge)
             have HX := Lib.hid (HS.out.next hb6)
             have HO6 := Lib.hid ho6
             have HB6 := Lib.hid hb6
             clear ho6 hg6 hb6)
          | (refine step_appV (by rfl) _ _ 22 (by rfl) (B := wb.heap.size) (C := w.heap.size) (ys := l) (xs := []) Try.underlying22 hi hz0 hz1 hz2 (by rfl) E1.out.1 (by rfl) (by rfl) (HRD.out _ E1.out.2) HLN.out (HSZ.out _ E1.out.2) ?_
             intro v5 w5 ho5 hg5
             have hb5 := E1.out.2.trans (hg5.toBelow (HSZ.out _ E1.out.2) E1.out.1.ge)
             have HX := Lib.hid (HS.out.next hb5)
             have HO5 := Lib.hid ho5
             have HB5 := Lib.hid hb5
             clear ho5 hg5 hb5)
          | (refine step_appV (by rfl) _ _ 22 (by rfl) (B := wb.heap.size) (C := w.heap.size) (ys := l) (xs := []) Try.underlying22 hi hz0 hz1 hz2 (by rfl) E2.out.1 (by rfl) (by rfl) (HRD.out _ E2.out.2.1) HLN.out (HSZ.out _ E2.out.2.1) ?_
             intro v5 w5 ho5 hg5
             have hb5 := E2.out.2.1.trans (hg5.toBelow (HSZ.out _ E2.out.2.1) E2.out.1.ge)
             have HP5 := Lib.hid ((hg5.by_.block _ (Array.getElem?_eq_some_iff.1 E2.out.2.2).1 (by simp [Value.ownBlock])).trans E2.out.2.2)
             have HX := Lib.hid (HS.out.next hb5)
             have HO5 := Lib.hid ho5
             have HB5 := Lib.hid hb5
             clear ho5 hg5 hb5)
          | (refine step_appV (by rfl) _ _ 22 (by rfl) (B := wb.heap.size) (C := w.heap.size) (ys := l) (xs := []) Try.underlying22 hi hz0 hz1 hz2 (by rfl) E3.out.1 (by rfl) (by rfl) (HRD.out _ E3.out.2.1) HLN.out (HSZ.out _ E3.out.2.1) ?_
             intro v5 w5 ho5 hg5
             have hb5 := E3.out.2.1.trans (hg5.toBelow (HSZ.out _ E3.out.2.1) E3.out.1.ge)
             have HP5 := Lib.hid ((hg5.by_.block _ (Array.getElem?_eq_some_iff.1 E3.out.2.2).1 (by simp [Value.ownBlock])).trans E3.out.2.2)
             have HX := Lib.hid (HS.out.next hb5)
             have HO5 := Lib.hid ho5
             have HB5 := Lib.hid hb5
             clear ho5 hg5 hb5)
          | fail)

        all_goals
          go_wp2_with fail
          go_meet
          exact ⟨_, _, rfl, rfl, HO7.out, HB7.out⟩
      case rest =>
        obtain ⟨y17, B17, rfl, rfl, ho17, hb17⟩ := hcut
        have HX := Lib.hid (HX.out.next hb17)
        have HO1 := Lib.hid (HO1.out.below hb17)
        have HO2 := Lib.hid (HO2.out.below hb17)
        have HO3 := Lib.hid ho17
        clear ho17 hb17
        go_upto_region 12 with fail
        go_cut [19, 20] (fun v19 v20 wx => ∃ (y : Value) (B : Nat), y = v19 ∧ v20 = .int .i64 0 ∧ OwnB wx B y ev ∧ Below wc.heap.size wc wx)
        case first =>
          have HS := HX
          have HB3 : Hid (w.heap.size ≤ wc.heap.size) := Lib.hid HS.out.bel.size
          have HRD : Hid (∀ W, Below wc.heap.size wc W → RdV W w.heap.size A l) := Lib.hid fun W hb => (HR.out.below HS.out.bel (Nat.le_refl _)).below hb HB3.out
          have E1 : Hid (OwnV (wc.alloc (.cells #[] 37)).drew wc.heap.size (.slice (some ⟨wc.heap.size, 0, none⟩) 0 0) [] ∧ Below wc.heap.size wc (wc.alloc (.cells #[] 37)).drew) := Lib.hid ⟨empty_own (heap_alloc_new wc _) (Nat.le_refl _), (alloc_below _ _).drew⟩
          have E2 : Hid (OwnV ((wc.alloc (.cells #[] 37)).alloc (.cells #[.int .i64 b.k, .int .i64 b.n, .string b.s] 37)).drew wc.heap.size (.slice (some ⟨wc.heap.size, 0, none⟩) 0 0) [] ∧ Below wc.heap.size wc ((wc.alloc (.cells #[] 37)).alloc (.cells #[.int .i64 b.k, .int .i64 b.n, .string b.s] 37)).drew ∧ ((wc.alloc (.cells #[] 37)).alloc (.cells #[.int .i64 b.k, .int .i64 b.n, .string b.s] 37)).drew.heap[wc.heap.size + 1]? = some (.cells #[.int .i64 b.k, .int .i64 b.n, .string b.s] 37)) := Lib.hid ⟨empty_own (heap_old (heap_alloc_new wc _)) (Nat.le_refl _), (alloc2_below _ _ _).drew, heap_new2 _ _ _⟩
          have E3 : Hid (OwnV ((wc.alloc (.cells #[.int .i64 b.k, .int .i64 b.n, .string b.s] 37)).alloc (.cells #[] 37)).drew wc.heap.size (.slice (some ⟨wc.heap.size + 1, 0, none⟩) 0 0) [] ∧ Below wc.heap.size wc ((wc.alloc (.cells #[.int .i64 b.k, .int .i64 b.n, .string b.s] 37)).alloc (.cells #[] 37)).drew ∧ ((wc.alloc (.cells #[.int .i64 b.k, .int .i64 b.n, .string b.s] 37)).alloc (.cells #[] 37)).drew.heap[wc.heap.size]? = some (.cells #[.int .i64 b.k, .int .i64 b.n, .string b.s] 37)) := Lib.hid ⟨empty_own (heap_new2 _ _ _) (Nat.le_succ _), (alloc2_below _ _ _).drew, heap_old (heap_alloc_new wc _)⟩
          have HSZ : Hid (∀ W, Below wc.heap.size wc W → wc.heap.size ≤ W.heap.size) := Lib.hid fun W h => h.size
          have PR : Hid (∀ (W : World) (g : Nat), W.heap[g]? = some (.cells #[.int .i64 b.k, .int .i64 b.n, .string b.s] 37) → RdV W (g + 1) (some ⟨g, 0, none⟩) [b]) := Lib.hid fun W g h => rd_val h
          have PN : Hid (∀ W : World, (W.alloc (.cells #[.int .i64 b.k, .int .i64 b.n, .string b.s] 37)).heap[W.heap.size]? = some (.cells #[.int .i64 b.k, .int .i64 b.n, .string b.s] 37)) := Lib.hid fun W => heap_alloc_new W _
          go_region_held3 (fun W => (W.cell? ⟨w.heap.size, 0, none⟩ = some (.int .i64 a.k) ∧ W.cell? ⟨w.heap.size, 1, none⟩ = some (.int .i64 a.n) ∧ W.cell? ⟨w.heap.size, 2, none⟩ = some (.string a.s)) ∧ W.cell? ⟨w.heap.size + 1, 0, none⟩ = some (.int .i64 b.k) ∧ W.cell? ⟨w.heap.size + 1, 1, none⟩ = some (.int .i64 b.n) ∧ W.cell? ⟨w.heap.size + 1, 2, none⟩ = some (.string b.s))
            (first | with_reducible exact HX.out.six | with_reducible exact (HX.out.next E1.out.2).six | with_reducible exact (HX.out.next E2.out.2.1).six | with_reducible exact (HX.out.next E3.out.2.1).six | with_reducible exact HX.out.drew.six | with_reducible exact (HX.out.next (alloc_below _ _)).six | with_reducible exact (HX.out.next ((alloc_below _ _).drew)).six)
            (first
            | (go_at_call 11; refine (EN5.out _ _ _ _ (by simp) HO6.out.rd).mono ?_; rintro e w7 he; obtain ⟨v7, rfl, ho, hb⟩ := X4.out _ _ _ he; have HX := Lib.hid (HX.out.next hb); have HB7 := Lib.hid (HB6.out.trans (hb.mono HB6.out.size)); have HO7 := Lib.hid ho; clear hb ho he)
            | (refine step_appV (by rfl) _ _ 22 (by rfl) (B := wc.heap.size) (xs := l) (ys := [b]) Try.underlying22 hi hz0 hz1 hz2 (by rfl) HO5.out (by rfl) (by rfl) (PR.out _ _ HP5.out) HLB.out (HSZ.out _ HB5.out) ?_
               intro v6 w6 ho6 hg6
               obtain ⟨X6, k6, hv6, hk6⟩ := ho6.2
               subst hv6
               have hb6 : Below wc.heap.size wc w6 := HB5.out.trans (hg6.toBelow (HSZ.out _ HB5.out) HO5.out.ge)
               have HX := Lib.hid (HS.out.next hb6)
               have HO6 := Lib.hid ho6
               have HB6 := Lib.hid hb6
               clear ho6 hg6 hb6)
            | (refine step_appV (by rfl) _ _ 22 (by rfl) (B := wc.heap.size) (xs := l) (ys := [b]) Try.underlying22 hi hz0 hz1 hz2 (by rfl) (HO5.out.below (alloc_below _ _)) (by rfl) (by rfl) (PR.out _ _ (PN.out _)) HLB.out (Nat.le_trans (HSZ.out _ HB5.out) (alloc_below _ _).size) ?_
               intro v6 w6 ho6 hg6
               obtain ⟨X6, k6, hv6, hk6⟩ := ho6.2
               subst hv6
               have hb6 : Below wc.heap.size wc w6 := (HB5.out.trans ((alloc_below _ _).mono HB5.out.size)).trans (hg6.toBelow (Nat.le_trans (HSZ.out _ HB5.out) (alloc_below _ _).size) HO5.out.ge)
               have HX := Lib.hid (HS.out.next hb6)
               have HO6 := Lib.hid ho6
               have HB6 := Lib.hid hb6
               clear ho6 hg6 hb6)
            | (refine step_appV (by rfl) _ _ 22 (by rfl) (B := wc.heap.size) (C := w.heap.size) (ys := l) (xs := []) Try.underlying22 hi hz0 hz1 hz2 (by rfl) E1.out.1 (by rfl) (by rfl) (HRD.out _ E1.out.2) HLN.out (HSZ.out _ E1.out.2) ?_
               intro v5 w5 ho5 hg5
               have hb5 := E1.out.2.trans (hg5.toBelow (HSZ.out _ E1.out.2) E1.out.1.ge)
               have HX := Lib.hid (HS.out.next hb5)
               have HO5 := Lib.hid ho5
               have HB5 := Lib.hid hb5
               clear ho5 hg5 hb5)
            | (refine step_appV (by rfl) _ _ 22 (by rfl) (B := wc.heap.size) (C := w.heap.size) (ys := l) (xs := []) Try.underlying22 hi hz0 hz1 hz2 (by rfl) E2.out.1 (by rfl) (by rfl) (HRD.out _ E2.out.2.1) HLN.out (HSZ.out _ E2.out.2.1) ?_
               intro v5 w5 ho5 hg5
               have hb5 := E2.out.2.1.trans (hg5.toBelow (HSZ.out _ E2.out.2.1) E2.out.1.ge)
               have HP5 := Lib.hid ((hg5.by_.block _ (Array.getElem?_eq_some_iff.1 E2.out.2.2).1 (by simp [Value.ownBlock])).trans E2.out.2.2)
               have HX := Lib.hid (HS.out.next hb5)
               have HO5 := Lib.hid ho5
               have HB5 := Lib.hid hb5
               clear ho5 hg5 hb5)
            | (refine step_appV (by rfl) _ _ 22 (by rfl) (B := wc.heap.size) (C := w.heap.size) (ys := l) (xs := []) Try.underlying22 hi hz0 hz1 hz2 (by rfl) E3.out.1 (by rfl) (by rfl) (HRD.out _ E3.out.2.1) HLN.out (HSZ.out _ E3.out.2.1) ?_
               intro v5 w5 ho5 hg5
               have hb5 := E3.out.2.1.trans (hg5.toBelow (HSZ.out _ E3.out.2.1) E3.out.1.ge)
               have HP5 := Lib.hid ((hg5.by_.block _ (Array.getElem?_eq_some_iff.1 E3.out.2.2).1 (by simp [Value.ownBlock])).trans E3.out.2.2)
               have HX := Lib.hid (HS.out.next hb5)
               have HO5 := Lib.hid ho5
               have HB5 := Lib.hid hb5
               clear ho5 hg5 hb5)
            | fail)

          all_goals
            go_wp2_with fail
            go_meet
            exact ⟨_, _, rfl, rfl, HO7.out, HB7.out⟩
        case rest =>
          obtain ⟨y19, B19, rfl, rfl, ho19, hb19⟩ := hcut
          have HX := Lib.hid (HX.out.next hb19)
          have HO1 := Lib.hid (HO1.out.below hb19)
          have HO2 := Lib.hid (HO2.out.below hb19)
          have HO3 := Lib.hid (HO3.out.below hb19)
          have HO4 := Lib.hid ho19
          clear ho19 hb19 EN1 EN2 EN4 EN5 R1 R2 R3 FW X1 X2 X3 X4 HLN HLA HLB hi hz0 hz1 hz2
          obtain ⟨⟨x0, x1, x2⟩, y0, y1, y2⟩ := HX.out.six
          have hsgn := ord_3 a b
          generalize ordI a b = o at *
          obtain ⟨sx, hsx⟩ := ba_of ex
          obtain ⟨sy, hsy⟩ := ba_of ey
          obtain ⟨su, hsu⟩ := ba_of eu
          obtain ⟨sv, hsv⟩ := ba_of ev
          have LX : Hid (Op.bytesLess sx.toList sy.toList = decide (o < 0)) := Lib.hid (less_of (by rw [hsx, hsy, M1.out]))
          have LU : Hid (Op.bytesLess su.toList sv.toList = decide (o < 0)) := Lib.hid (less_of (by rw [hsu, hsv, M2.out]))
          have SX := Lib.hid (And.intro hsx (And.intro hsy (And.intro hsu hsv)))
          clear hsx hsy hsu hsv
          go_upto_region 14 with (go_at_call 20; refine (OR.out _).mono ?_; rintro e wf ⟨rfl, hb⟩
                                  have HO1 := Lib.hid (HO1.out.below hb)
                                  have HO2 := Lib.hid (HO2.out.below hb)
                                  have HO3 := Lib.hid (HO3.out.below hb)
                                  have HO4 := Lib.hid (HO4.out.below hb)
                                  have HBF := Lib.hid (HX.out.bel.trans (hb.mono HX.out.bel.size))
                                  clear hb)
          go_cut [22] (fun v22 wx => v22 = .bool (decide (o = 0)) ∧ Below wf.heap.size wf wx)
          case first =>
            by_cases hp : ex <+: ey
            · obtain ⟨hlen, htk⟩ := prefix_take.1 hp
              have ho0 := M3.out.1 hp
              subst ho0
              have hlk : ex.length ≤ ky := by omega
              have c1 := fun q => conv_rd (cap := ky) ((HO2.out.below (drewN_below wf q)).rd.take ex.length) (n := ex.length) (by rw [List.length_take]; omega) sx (by rw [SX.out.1, htk])
              have c2 := fun q => conv_rd (cap := kx) (HO1.out.below (drewN_below wf q)).rd rfl sx SX.out.1
              have hleni : (ex.length : Int) ≤ (ey.length : Int) := by omega
              have hlend : decide (ex.length ≤ ey.length) = true := decide_eq_true hlen
              clear hp hlen htk LX LU M1 M2 M3
              go_quiet (fail)
              go_wp2_with fail
              go_meet
              exact ⟨rfl, drewN_below _ _⟩
            · have ho0 : ¬ o = 0 := fun h => hp (M3.out.2 h)
              have hod : decide (o = 0) = false := decide_eq_false ho0
              have HOD := Lib.hid hod
              by_cases hlen : ex.length ≤ ey.length
              · obtain ⟨st, hst⟩ := ba_of (ey.take ex.length)
                have he : (st.toList == sx.toList) = false := eq_of (by rw [hst, SX.out.1]; exact decide_eq_false fun h => hp (prefix_take.2 ⟨hlen, h⟩))
                have hlk : ex.length ≤ ky := by omega
                have c1 := fun q => conv_rd (cap := ky) ((HO2.out.below (drewN_below wf q)).rd.take ex.length) (n := ex.length) (by rw [List.length_take]; omega) st hst
                have c2 := fun q => conv_rd (cap := kx) (HO1.out.below (drewN_below wf q)).rd rfl sx SX.out.1
                have hleni : (ex.length : Int) ≤ (ey.length : Int) := by omega
                have hlend : decide (ex.length ≤ ey.length) = true := decide_eq_true hlen
                clear hp hlen hst ho0 hod LX LU M1 M2 M3
                go_quiet (fail)
                go_wp2_with fail
                go_meet
                exact ⟨by rw [HOD.out], drewN_below _ _⟩
              · have hlend : decide (ex.length ≤ ey.length) = false := decide_eq_false hlen
                clear hp hlen ho0 hod LX LU M1 M2 M3
                go_quiet (fail)
                go_wp2_with fail
                go_meet
                exact ⟨by rw [HOD.out], drewN_below _ _⟩
          case rest =>
            obtain ⟨rfl, hbw⟩ := hcut
            have HO1 := Lib.hid (HO1.out.below hbw)
            have HO2 := Lib.hid (HO2.out.below hbw)
            have HO3 := Lib.hid (HO3.out.below hbw)
            have HO4 := Lib.hid (HO4.out.below hbw)
            have HBF := Lib.hid (HBF.out.trans (hbw.mono HBF.out.size))
            clear hbw M1 M2 M3 x0 x1 x2 y0 y1 y2
            rcases hsgn with rfl | rfl | rfl
            all_goals
              have hlx := LX.out
              have hlu := LU.out
              have LL := Lib.hid (And.intro hlx hlu)
              clear hlx hlu LX LU
              go_wp2_with (go_at_call 10
                           refine (AL.out _).mono ?_
                           rintro e wg ⟨rfl, hb⟩
                           have c1 := conv_rd (cap := kx) (HO1.out.below hb).rd rfl sx SX.out.1
                           have c2 := conv_rd (cap := ky) (HO2.out.below hb).rd rfl sy SX.out.2.1
                           have c3 := conv_ownS (HO3.out.below hb) su SX.out.2.2.1
                           have c4 := conv_ownS (HO4.out.below hb) sv SX.out.2.2.2
                           have hlx : Op.bytesLess sx.toList sy.toList = _ := LL.out.1.trans rfl
                           obtain ⟨hlx, hlu⟩ := LL.out
                           have HBF := Lib.hid (HBF.out.trans (hb.mono HBF.out.size))
                           clear hb)
              go_ret
              exact ⟨rfl, HBF.out⟩
    · have hc5 : p = false ∨ (p = true ∧ rightL [a] = false) ∨ (p = true ∧ rightL [a] = true ∧ rightL [b] = false) ∨ (p = true ∧ rightL [a] = true ∧ rightL [b] = true ∧ rightL l = false) ∨ (p = true ∧ rightL [a] = true ∧ rightL [b] = true ∧ rightL l = true ∧ (10 : Int) < (l.length : Int)) := by
        generalize rightL [a] = q1 at *
        generalize rightL [b] = q2 at *
        generalize rightL l = q3 at *
        cases p <;> cases q1 <;> cases q2 <;> cases q3 <;> simp at hall ⊢
        omega
      clear hall hla h32 hka hxa hxb
      generalize rightL [a] = q1 at *
      generalize rightL [b] = q2 at *
      generalize rightL l = q3 at *
      rcases hc5 with rfl | ⟨rfl, rfl⟩ | ⟨rfl, rfl, rfl⟩ | ⟨rfl, rfl, rfl, rfl⟩ | ⟨rfl, rfl, rfl, rfl, h10⟩
      all_goals
        go_wp2_with (first
          | (go_at_call 16
             first
               | ((with_reducible refine (R1.out _ HX.out).mono ?_); rintro e w2 ⟨rfl, hb⟩; have HX := Lib.hid (HX.out.next hb); clear hb)
               | ((with_reducible refine (R2.out _ HX.out).mono ?_); rintro e w2 ⟨rfl, hb⟩; have HX := Lib.hid (HX.out.next hb); clear hb)
               | ((with_reducible refine (R3.out _ HX.out).mono ?_); rintro e w2 ⟨rfl, hb⟩; have HX := Lib.hid (HX.out.next hb); clear hb))
          | (go_at_call 10; refine (AL.out _).mono ?_; rintro e w2 ⟨rfl, hb⟩; have HX := Lib.hid (HX.out.next hb); clear hb))
        go_ret
        exact ⟨rfl, HX.out.bel⟩
end Go.Proofs.Ytaokblhflhlhiaa

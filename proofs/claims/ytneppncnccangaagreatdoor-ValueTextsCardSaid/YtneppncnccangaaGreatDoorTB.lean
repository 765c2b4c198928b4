/- ValueTruths: the law's own body answers true. -/
import Derived.Test.YtneppncnccangaaGreatDoorTA
import Derived.Test.YtneppncnccangaaGreatDoorFS
import Derived.Test.YtneppncnccangaaGreatDoorN
import Derived.Deep.CutBlock
namespace Go.Proofs.YtneppncnccangaaGreatDoor
open Go.RowKit
attribute [local go_sem ↓] eqV

theorem eqB_self (k n : Int) : eqB k n ⟨#[]⟩ k n ⟨#[]⟩ = true := by unfold eqB; simp
def vob (x : Val) : Obj := .cells #[.int .i64 x.k, .int .i64 x.n, .string x.s] 24 (0, 0)
def fob (p : Int) : Obj := .cells #[.int .i64 22, .int .i64 p, .nilIface, .int .i64 1] 53 (0, 0)
theorem vobx {W : World} {b : Nat} {k n : Int} {s : ByteArray} (h : W.heap[b]? = some (vob ⟨k, n, s⟩)) : W.cell? ⟨b, 0, none⟩ = some (.int .i64 k) ∧ W.cell? ⟨b, 1, none⟩ = some (.int .i64 n) ∧ W.cell? ⟨b, 2, none⟩ = some (.string s) := box3 h
theorem Held.cons {W : World} {L : List (Nat × Obj)} {b : Nat} {o : Obj} (h : Held W L) (e : W.heap[b]? = some o) : Held W ((b, o) :: L) := by
  intro p hp
  rcases List.mem_cons.1 hp with rfl | hp
  · exact e
  · exact h p hp
theorem Held.box {W : World} {L : List (Nat × Obj)} (h : Held W L) (k n : Int) (s : ByteArray) : Held (W.alloc (.cells #[.int .i64 k, .int .i64 n, .string s] 24)) ((W.heap.size, vob ⟨k, n, s⟩) :: L) := h.alloc _
theorem Held.lone {W : World} {L : List (Nat × Obj)} {b : Nat} {p : Int} (h : Held W L) (hm : (b, fob p) ∈ L) : Lone W b 22 p := h (b, fob p) hm
theorem ti_some (t : T3) : (ti (some t) == -2) = false ∧ (ti (some t) != -2) = true := by
  rcases t with _ | _ | _ <;> decide
theorem held_two (w : World) (x y : Val) : Held ((w.alloc (.cells #[.int .i64 x.k, .int .i64 x.n, .string x.s] 24)).alloc (.cells #[.int .i64 y.k, .int .i64 y.n, .string y.s] 24)) [(w.heap.size + 1, vob y), (w.heap.size, vob x)] := by
  have h := ((Held.nil w).alloc (.cells #[.int .i64 x.k, .int .i64 x.n, .string x.s] 24)).alloc (.cells #[.int .i64 y.k, .int .i64 y.n, .string y.s] 24)
  have e : (w.alloc (.cells #[.int .i64 x.k, .int .i64 x.n, .string x.s] 24)).heap.size = w.heap.size + 1 := by simp
  rw [e] at h
  exact h
set_option maxRecDepth 100000 in
set_option maxHeartbeats 20000000 in
theorem truths_law (k n : Int) (s : ByteArray) (j m : Int) (t : ByteArray) (hs : s.size ≤ 9223372036854775807) (ht : t.size ≤ 9223372036854775807) (w : World) (hE : Env w) (hg : Handle w) :
    Calls Tryz.prog 3 #[.agg #[.int .i64 k, .int .i64 n, .string s], .agg #[.int .i64 j, .int .i64 m, .string t]] w (Ans (.bool true) w) := by
  have HE := Lib.hid hE
  have HG := Lib.hid hg
  have AL := Lib.hid alive_any
  have HB := Lib.hid (alloc2_below w (.cells #[.int .i64 k, .int .i64 n, .string s] 24) (.cells #[.int .i64 j, .int .i64 m, .string t] 24))
  have HL := Lib.hid (held_two w ⟨k, n, s⟩ ⟨j, m, t⟩)
  have TX := Lib.hid (refTruth_any ⟨k, n, s⟩ hs)
  have TY := Lib.hid (refTruth_any ⟨j, m, t⟩ ht)
  obtain ⟨pI, HP⟩ : ∃ pI, Hid (pI = ti (tO ⟨k, n, s⟩)) := ⟨_, Lib.hid rfl⟩
  obtain ⟨qI, HQI⟩ : ∃ qI, Hid (qI = ti (tO ⟨j, m, t⟩)) := ⟨_, Lib.hid rfl⟩
  obtain ⟨a1, H1⟩ : ∃ a1, Hid (a1 = ti (o2 andT (tO ⟨k, n, s⟩) (tO ⟨j, m, t⟩))) := ⟨_, Lib.hid rfl⟩
  obtain ⟨a2, H2⟩ : ∃ a2, Hid (a2 = ti (o2 orT (tO ⟨k, n, s⟩) (tO ⟨j, m, t⟩))) := ⟨_, Lib.hid rfl⟩
  obtain ⟨a3, H3⟩ : ∃ a3, Hid (a3 = ti ((tO ⟨k, n, s⟩).map notT)) := ⟨_, Lib.hid rfl⟩
  rw [← HP.out] at TX
  rw [← HQI.out] at TY
  have RA : Hid (∀ w, Calls Tryz.prog 13 #[.int .i64 pI, .int .i64 qI] w fun e w' => e = .returned (.int .i64 a1) ∧ w = w') := Lib.hid fun w => by
    rw [HP.out, HQI.out, H1.out]
    exact refAnd_any _ _ w
  have RO : Hid (∀ w, Calls Tryz.prog 14 #[.int .i64 pI, .int .i64 qI] w fun e w' => e = .returned (.int .i64 a2) ∧ w = w') := Lib.hid fun w => by
    rw [HP.out, HQI.out, H2.out]
    exact refOr_any _ _ w
  have RN : Hid (∀ w, Calls Tryz.prog 15 #[.int .i64 pI] w fun e w' => e = .returned (.int .i64 a3) ∧ w = w') := Lib.hid fun w => by
    rw [HP.out, H3.out]
    exact refNot_any _ w
  simp only at TX TY HL
  clear hE hg hs ht
  obtain ⟨x0, x1, x2⟩ := vobx (HL.out (w.heap.size, vob ⟨k, n, s⟩) (by simp))
  obtain ⟨y0, y1, y2⟩ := vobx (HL.out (w.heap.size + 1, vob ⟨j, m, t⟩) (by simp))
  by_cases hl : s.size ≤ 500
  · have hl1 : ¬ (500 : Int) < (s.size : Int) := by omega
    by_cases hm : t.size ≤ 500
    · have hm1 : ¬ (500 : Int) < (t.size : Int) := by omega
      clear hl hm
      cases hA : tO ⟨k, n, s⟩ with
      | some a =>
        cases hB : tO ⟨j, m, t⟩ with
        | some b =>
          obtain ⟨hp, hp2⟩ : (pI == -2) = false ∧ (pI != -2) = true := by rw [HP.out, hA]; exact ti_some a
          obtain ⟨hq, hq2⟩ : (qI == -2) = false ∧ (qI != -2) = true := by rw [HQI.out, hB]; exact ti_some b
          obtain ⟨kx, hkx⟩ : ∃ kx, Hid (kx = tk (andT a b)) := ⟨_, Lib.hid rfl⟩
          obtain ⟨nx, hnx⟩ : ∃ nx, Hid (nx = tn (andT a b)) := ⟨_, Lib.hid rfl⟩
          obtain ⟨ky, hky⟩ : ∃ ky, Hid (ky = tk (orT a b)) := ⟨_, Lib.hid rfl⟩
          obtain ⟨ny, hny⟩ : ∃ ny, Hid (ny = tn (orT a b)) := ⟨_, Lib.hid rfl⟩
          have hvx := tO_some hA
          have hvy := tO_some hB
          have CA : Hid (∀ w, Calls Tryz.prog 6 #[.agg #[.int .i64 k, .int .i64 n, .string s], .agg #[.int .i64 j, .int .i64 m, .string t]] w fun e w' => e = .returned (.tuple #[.agg #[.int .i64 kx, .int .i64 nx, .string ⟨#[]⟩], .nilIface]) ∧ Below w.heap.size w w') := Lib.hid fun w => by
            injection hvx with e1 e2 e3
            injection hvy with e4 e5 e6
            rw [hkx.out, hnx.out, e1, e2, e3, e4, e5, e6]
            exact and_any a b w
          have CO : Hid (∀ w, Calls Tryz.prog 7 #[.agg #[.int .i64 k, .int .i64 n, .string s], .agg #[.int .i64 j, .int .i64 m, .string t]] w fun e w' => e = .returned (.tuple #[.agg #[.int .i64 ky, .int .i64 ny, .string ⟨#[]⟩], .nilIface]) ∧ Below w.heap.size w w') := Lib.hid fun w => by
            injection hvx with e1 e2 e3
            injection hvy with e4 e5 e6
            rw [hky.out, hny.out, e1, e2, e3, e4, e5, e6]
            exact or_any a b w
          have OA : Hid (∀ w, Calls Tryz.prog 12 #[.int .i64 a1] w (Ans (.agg #[.int .i64 kx, .int .i64 nx, .string ⟨#[]⟩]) w)) := Lib.hid fun w => by
            rw [H1.out, hA, hB, hkx.out, hnx.out]
            exact refOf_any (some (andT a b)) w
          have OO : Hid (∀ w, Calls Tryz.prog 12 #[.int .i64 a2] w (Ans (.agg #[.int .i64 ky, .int .i64 ny, .string ⟨#[]⟩]) w)) := Lib.hid fun w => by
            rw [H2.out, hA, hB, hky.out, hny.out]
            exact refOf_any (some (orT a b)) w
          have f1 := eqB_self kx nx
          have f2 := eqB_self ky ny
          obtain ⟨kz, hkz⟩ : ∃ kz, Hid (kz = tk (notT a)) := ⟨_, Lib.hid rfl⟩
          obtain ⟨nz, hnz⟩ : ∃ nz, Hid (nz = tn (notT a)) := ⟨_, Lib.hid rfl⟩
          have hvz := tO_some hA
          have CN : Hid (∀ w, Calls Tryz.prog 8 #[.agg #[.int .i64 k, .int .i64 n, .string s]] w fun e w' => e = .returned (.tuple #[.agg #[.int .i64 kz, .int .i64 nz, .string ⟨#[]⟩], .nilIface]) ∧ Below w.heap.size w w') := Lib.hid fun w => by
            injection hvz with e1 e2 e3
            rw [hkz.out, hnz.out, e1, e2, e3]
            exact not_any a w
          have ON : Hid (∀ w, Calls Tryz.prog 12 #[.int .i64 a3] w (Ans (.agg #[.int .i64 kz, .int .i64 nz, .string ⟨#[]⟩]) w)) := Lib.hid fun w => by
            rw [H3.out, hA, hkz.out, hnz.out]
            exact refOf_any (some (notT a)) w
          have f3 := eqB_self kz nz
          clear hA hB hvx hvy hvz
          as_aux_lemma =>
            go_enter Tryz.func3, Tryz.ntmps3
            go_upto_region 20 with (first
              | (go_at_call 6; (with_reducible refine (CA.out _).mono ?_)
                 rintro e w1 ⟨rfl, hb⟩
                 have HB := Lib.hid (HB.out.trans ((hb.trans ((alloc_below w1 (.cells #[.int .i64 kx, .int .i64 nx, .string ⟨#[]⟩] 24)).mono hb.size)).mono HB.out.size))
                 have HL := Lib.hid ((HL.out.next hb).box kx nx ⟨#[]⟩)
                 clear x0 x1 x2 y0 y1 y2 hb
                 obtain ⟨x0, x1, x2⟩ := vobx (HL.out (w.heap.size, vob ⟨k, n, s⟩) (by simp))
                 obtain ⟨y0, y1, y2⟩ := vobx (HL.out (w.heap.size + 1, vob ⟨j, m, t⟩) (by simp)))
              | (go_at_call 7; (with_reducible refine (CO.out _).mono ?_)
                 rintro e w2 ⟨rfl, hb⟩
                 have HB := Lib.hid (HB.out.trans ((hb.trans ((alloc_below w2 (.cells #[.int .i64 ky, .int .i64 ny, .string ⟨#[]⟩] 24)).mono hb.size)).mono HB.out.size))
                 have HL := Lib.hid ((HL.out.next hb).box ky ny ⟨#[]⟩)
                 clear x0 x1 x2 y0 y1 y2 hb
                 obtain ⟨x0, x1, x2⟩ := vobx (HL.out (w.heap.size, vob ⟨k, n, s⟩) (by simp))
                 obtain ⟨y0, y1, y2⟩ := vobx (HL.out (w.heap.size + 1, vob ⟨j, m, t⟩) (by simp)))
              | (go_at_call 8; (with_reducible refine (CN.out _).mono ?_)
                 rintro e w3 ⟨rfl, hb⟩
                 have HB := Lib.hid (HB.out.trans ((hb.trans ((alloc_below w3 (.cells #[.int .i64 kz, .int .i64 nz, .string ⟨#[]⟩] 24)).mono hb.size)).mono HB.out.size))
                 have HL := Lib.hid ((HL.out.next hb).box kz nz ⟨#[]⟩)
                 clear x0 x1 x2 y0 y1 y2 hb
                 obtain ⟨x0, x1, x2⟩ := vobx (HL.out (w.heap.size, vob ⟨k, n, s⟩) (by simp))
                 obtain ⟨y0, y1, y2⟩ := vobx (HL.out (w.heap.size + 1, vob ⟨j, m, t⟩) (by simp)))
              | (go_at_call 9; (with_reducible refine (TX.out _).mono ?_)
                 rintro e w4 ⟨rfl, hb⟩
                 have HB := Lib.hid (HB.out.trans (hb.mono HB.out.size))
                 have HL := Lib.hid (HL.out.next hb)
                 clear x0 x1 x2 y0 y1 y2 hb
                 obtain ⟨x0, x1, x2⟩ := vobx (HL.out (w.heap.size, vob ⟨k, n, s⟩) (by simp))
                 obtain ⟨y0, y1, y2⟩ := vobx (HL.out (w.heap.size + 1, vob ⟨j, m, t⟩) (by simp)))
              | (go_at_call 9; (with_reducible refine (TY.out _).mono ?_)
                 rintro e w5 ⟨rfl, hb⟩
                 have HB := Lib.hid (HB.out.trans (hb.mono HB.out.size))
                 have HL := Lib.hid (HL.out.next hb)
                 clear x0 x1 x2 y0 y1 y2 hb
                 obtain ⟨x0, x1, x2⟩ := vobx (HL.out (w.heap.size, vob ⟨k, n, s⟩) (by simp))
                 obtain ⟨y0, y1, y2⟩ := vobx (HL.out (w.heap.size + 1, vob ⟨j, m, t⟩) (by simp)))
              | (go_at_call 10; (with_reducible refine (code_none _).mono ?_)
                 rintro e w6 ⟨rfl, hb⟩
                 have HB := Lib.hid (HB.out.trans (hb.mono HB.out.size))
                 have HL := Lib.hid (HL.out.next hb)
                 clear x0 x1 x2 y0 y1 y2 hb
                 obtain ⟨x0, x1, x2⟩ := vobx (HL.out (w.heap.size, vob ⟨k, n, s⟩) (by simp))
                 obtain ⟨y0, y1, y2⟩ := vobx (HL.out (w.heap.size + 1, vob ⟨j, m, t⟩) (by simp)))
              | (go_at_call 11; (with_reducible refine (at_none _).mono ?_)
                 rintro e w7 ⟨rfl, hb⟩
                 have HB := Lib.hid (HB.out.trans (hb.mono HB.out.size))
                 have HL := Lib.hid (HL.out.next hb)
                 clear x0 x1 x2 y0 y1 y2 hb
                 obtain ⟨x0, x1, x2⟩ := vobx (HL.out (w.heap.size, vob ⟨k, n, s⟩) (by simp))
                 obtain ⟨y0, y1, y2⟩ := vobx (HL.out (w.heap.size + 1, vob ⟨j, m, t⟩) (by simp))))
            have HD := Lib.hid HB.out
            have HQ := Lib.hid HL.out
            clear x0 x1 x2 y0 y1 y2
            go_region_held3 (fun W => (W.cell? ⟨w1.heap.size, 0, none⟩ = some (.int .i64 kx) ∧ W.cell? ⟨w1.heap.size, 1, none⟩ = some (.int .i64 nx) ∧ W.cell? ⟨w1.heap.size, 2, none⟩ = some (.string ⟨#[]⟩) ∧ W.cell? ⟨w2.heap.size, 0, none⟩ = some (.int .i64 ky) ∧ W.cell? ⟨w2.heap.size, 1, none⟩ = some (.int .i64 ny) ∧ W.cell? ⟨w2.heap.size, 2, none⟩ = some (.string ⟨#[]⟩) ∧ W.cell? ⟨w3.heap.size, 0, none⟩ = some (.int .i64 kz) ∧ W.cell? ⟨w3.heap.size, 1, none⟩ = some (.int .i64 nz) ∧ W.cell? ⟨w3.heap.size, 2, none⟩ = some (.string ⟨#[]⟩)))
              (first
                | (obtain ⟨a0, a1, a2⟩ := vobx (k := kx) (n := nx) (s := ⟨#[]⟩) (HL.out (w1.heap.size, vob ⟨kx, nx, ⟨#[]⟩⟩) (by simp))
                   obtain ⟨b0, b1, b2⟩ := vobx (k := ky) (n := ny) (s := ⟨#[]⟩) (HL.out (w2.heap.size, vob ⟨ky, ny, ⟨#[]⟩⟩) (by simp))
                   obtain ⟨c0, c1, c2⟩ := vobx (k := kz) (n := nz) (s := ⟨#[]⟩) (HL.out (w3.heap.size, vob ⟨kz, nz, ⟨#[]⟩⟩) (by simp))
                   exact ⟨a0, a1, a2, b0, b1, b2, c0, c1, c2⟩)
                | go_keep)
              (first
                | (go_at_call 5; (with_reducible refine (AL.out _ (HE.out.below (HB.out.trans ((drew_below _).mono HB.out.size)))).mono ?_); rintro e wa ⟨rfl, hb⟩
                   have HB := Lib.hid ((HB.out.trans ((drew_below _).mono HB.out.size)).trans (hb.mono (HB.out.trans ((drew_below _).mono HB.out.size)).size))
                   have HL := Lib.hid ((HL.out.next (drew_below _)).next hb)
                   clear hb)
                | (go_at_call 13; (with_reducible refine (RA.out _).mono ?_); rintro e wb ⟨rfl, rfl⟩)
                | (go_at_call 14; (with_reducible refine (RO.out _).mono ?_); rintro e wb ⟨rfl, rfl⟩)
                | (go_at_call 15; (with_reducible refine (RN.out _).mono ?_); rintro e wb ⟨rfl, rfl⟩)
                | (go_at_call 12; (with_reducible first | refine (OA.out _).mono ?_ | refine (OO.out _).mono ?_ | refine (ON.out _).mono ?_); rintro e wc ⟨rfl, hb⟩
                   have HB := Lib.hid (HB.out.trans (hb.mono HB.out.size))
                   have HL := Lib.hid (HL.out.next hb)
                   clear hb)
                | fail)
            all_goals
              go_wp2_with fail
              go_ret
              exact ⟨rfl, HB.out⟩
        | none =>
          obtain ⟨hp, hp2⟩ : (pI == -2) = false ∧ (pI != -2) = true := by rw [HP.out, hA]; exact ti_some a
          obtain rfl : qI = -2 := by rw [HQI.out, hB]; rfl
          have CA : Hid (∀ w, Calls Tryz.prog 6 #[.agg #[.int .i64 k, .int .i64 n, .string s], .agg #[.int .i64 j, .int .i64 m, .string t]] w (TrB 1 w)) := Lib.hid fun w => and_core ⟨k, n, s⟩ ⟨j, m, t⟩ 1 (Lib.hid fun w => (prevail_badB ⟨k, n, s⟩ ⟨j, m, t⟩ (by have := tO_some hA; injection this with e1 e2 e3; subst e1 e2 e3; exact isT_tv a) (tO_none hB) false w).mono fun _ _ h => h.apart) w
          have CO : Hid (∀ w, Calls Tryz.prog 7 #[.agg #[.int .i64 k, .int .i64 n, .string s], .agg #[.int .i64 j, .int .i64 m, .string t]] w (TrB 1 w)) := Lib.hid fun w => or_core ⟨k, n, s⟩ ⟨j, m, t⟩ 1 (Lib.hid fun w => (prevail_badB ⟨k, n, s⟩ ⟨j, m, t⟩ (by have := tO_some hA; injection this with e1 e2 e3; subst e1 e2 e3; exact isT_tv a) (tO_none hB) true w).mono fun _ _ h => h.apart) w
          have OA : Hid (∀ w, Calls Tryz.prog 12 #[.int .i64 a1] w (Ans (.agg #[.int .i64 0, .int .i64 0, .string ⟨#[]⟩]) w)) := Lib.hid fun w => by
            rw [H1.out, hA, hB]
            exact refOf_any none w
          have OO : Hid (∀ w, Calls Tryz.prog 12 #[.int .i64 a2] w (Ans (.agg #[.int .i64 0, .int .i64 0, .string ⟨#[]⟩]) w)) := Lib.hid fun w => by
            rw [H2.out, hA, hB]
            exact refOf_any none w
          have f0 := eqB_self 0 0
          obtain ⟨kz, hkz⟩ : ∃ kz, Hid (kz = tk (notT a)) := ⟨_, Lib.hid rfl⟩
          obtain ⟨nz, hnz⟩ : ∃ nz, Hid (nz = tn (notT a)) := ⟨_, Lib.hid rfl⟩
          have hvz := tO_some hA
          have CN : Hid (∀ w, Calls Tryz.prog 8 #[.agg #[.int .i64 k, .int .i64 n, .string s]] w fun e w' => e = .returned (.tuple #[.agg #[.int .i64 kz, .int .i64 nz, .string ⟨#[]⟩], .nilIface]) ∧ Below w.heap.size w w') := Lib.hid fun w => by
            injection hvz with e1 e2 e3
            rw [hkz.out, hnz.out, e1, e2, e3]
            exact not_any a w
          have ON : Hid (∀ w, Calls Tryz.prog 12 #[.int .i64 a3] w (Ans (.agg #[.int .i64 kz, .int .i64 nz, .string ⟨#[]⟩]) w)) := Lib.hid fun w => by
            rw [H3.out, hA, hkz.out, hnz.out]
            exact refOf_any (some (notT a)) w
          have f3 := eqB_self kz nz
          clear hA hB hvz
          as_aux_lemma =>
            go_enter Tryz.func3, Tryz.ntmps3
            go_upto_region 20 with (first
              | (go_at_call 6; (with_reducible refine (CA.out _).mono ?_)
                 rintro e w1 ⟨N1, rfl, hN, hb⟩
                 have HB := Lib.hid (HB.out.trans ((hb.trans ((alloc_below w1 (.cells #[.int .i64 0, .int .i64 0, .string ⟨#[]⟩] 24)).mono hb.size)).mono HB.out.size))
                 have HL := Lib.hid (((HL.out.next hb).cons (o := fob 1) hN).box 0 0 ⟨#[]⟩)
                 clear hN
                 clear x0 x1 x2 y0 y1 y2 hb
                 obtain ⟨x0, x1, x2⟩ := vobx (HL.out (w.heap.size, vob ⟨k, n, s⟩) (by simp))
                 obtain ⟨y0, y1, y2⟩ := vobx (HL.out (w.heap.size + 1, vob ⟨j, m, t⟩) (by simp)))
              | (go_at_call 7; (with_reducible refine (CO.out _).mono ?_)
                 rintro e w2 ⟨N2, rfl, hN, hb⟩
                 have HB := Lib.hid (HB.out.trans ((hb.trans ((alloc_below w2 (.cells #[.int .i64 0, .int .i64 0, .string ⟨#[]⟩] 24)).mono hb.size)).mono HB.out.size))
                 have HL := Lib.hid (((HL.out.next hb).cons (o := fob 1) hN).box 0 0 ⟨#[]⟩)
                 clear hN
                 clear x0 x1 x2 y0 y1 y2 hb
                 obtain ⟨x0, x1, x2⟩ := vobx (HL.out (w.heap.size, vob ⟨k, n, s⟩) (by simp))
                 obtain ⟨y0, y1, y2⟩ := vobx (HL.out (w.heap.size + 1, vob ⟨j, m, t⟩) (by simp)))
              | (go_at_call 8; (with_reducible refine (CN.out _).mono ?_)
                 rintro e w3 ⟨rfl, hb⟩
                 have HB := Lib.hid (HB.out.trans ((hb.trans ((alloc_below w3 (.cells #[.int .i64 kz, .int .i64 nz, .string ⟨#[]⟩] 24)).mono hb.size)).mono HB.out.size))
                 have HL := Lib.hid ((HL.out.next hb).box kz nz ⟨#[]⟩)
                 clear x0 x1 x2 y0 y1 y2 hb
                 obtain ⟨x0, x1, x2⟩ := vobx (HL.out (w.heap.size, vob ⟨k, n, s⟩) (by simp))
                 obtain ⟨y0, y1, y2⟩ := vobx (HL.out (w.heap.size + 1, vob ⟨j, m, t⟩) (by simp)))
              | (go_at_call 9; (with_reducible refine (TX.out _).mono ?_)
                 rintro e w4 ⟨rfl, hb⟩
                 have HB := Lib.hid (HB.out.trans (hb.mono HB.out.size))
                 have HL := Lib.hid (HL.out.next hb)
                 clear x0 x1 x2 y0 y1 y2 hb
                 obtain ⟨x0, x1, x2⟩ := vobx (HL.out (w.heap.size, vob ⟨k, n, s⟩) (by simp))
                 obtain ⟨y0, y1, y2⟩ := vobx (HL.out (w.heap.size + 1, vob ⟨j, m, t⟩) (by simp)))
              | (go_at_call 9; (with_reducible refine (TY.out _).mono ?_)
                 rintro e w5 ⟨rfl, hb⟩
                 have HB := Lib.hid (HB.out.trans (hb.mono HB.out.size))
                 have HL := Lib.hid (HL.out.next hb)
                 clear x0 x1 x2 y0 y1 y2 hb
                 obtain ⟨x0, x1, x2⟩ := vobx (HL.out (w.heap.size, vob ⟨k, n, s⟩) (by simp))
                 obtain ⟨y0, y1, y2⟩ := vobx (HL.out (w.heap.size + 1, vob ⟨j, m, t⟩) (by simp)))
              | (go_at_call 10; (with_reducible refine (code_one (HL.out.lone (b := N1) (p := 1) (by simp)) (HG.out.below HB.out)).mono ?_)
                 rintro e w6 ⟨rfl, hb⟩
                 have HB := Lib.hid (HB.out.trans (hb.mono HB.out.size))
                 have HL := Lib.hid (HL.out.next hb)
                 clear x0 x1 x2 y0 y1 y2 hb
                 obtain ⟨x0, x1, x2⟩ := vobx (HL.out (w.heap.size, vob ⟨k, n, s⟩) (by simp))
                 obtain ⟨y0, y1, y2⟩ := vobx (HL.out (w.heap.size + 1, vob ⟨j, m, t⟩) (by simp)))
              | (go_at_call 11; (with_reducible refine (at_one (HL.out.lone (b := N1) (p := 1) (by simp)) (HG.out.below HB.out)).mono ?_)
                 rintro e w7 ⟨rfl, hb⟩
                 have HB := Lib.hid (HB.out.trans (hb.mono HB.out.size))
                 have HL := Lib.hid (HL.out.next hb)
                 clear x0 x1 x2 y0 y1 y2 hb
                 obtain ⟨x0, x1, x2⟩ := vobx (HL.out (w.heap.size, vob ⟨k, n, s⟩) (by simp))
                 obtain ⟨y0, y1, y2⟩ := vobx (HL.out (w.heap.size + 1, vob ⟨j, m, t⟩) (by simp)))
              | (go_at_call 10; (with_reducible refine (code_one (HL.out.lone (b := N2) (p := 1) (by simp)) (HG.out.below HB.out)).mono ?_)
                 rintro e w8 ⟨rfl, hb⟩
                 have HB := Lib.hid (HB.out.trans (hb.mono HB.out.size))
                 have HL := Lib.hid (HL.out.next hb)
                 clear x0 x1 x2 y0 y1 y2 hb
                 obtain ⟨x0, x1, x2⟩ := vobx (HL.out (w.heap.size, vob ⟨k, n, s⟩) (by simp))
                 obtain ⟨y0, y1, y2⟩ := vobx (HL.out (w.heap.size + 1, vob ⟨j, m, t⟩) (by simp)))
              | (go_at_call 11; (with_reducible refine (at_one (HL.out.lone (b := N2) (p := 1) (by simp)) (HG.out.below HB.out)).mono ?_)
                 rintro e w9 ⟨rfl, hb⟩
                 have HB := Lib.hid (HB.out.trans (hb.mono HB.out.size))
                 have HL := Lib.hid (HL.out.next hb)
                 clear x0 x1 x2 y0 y1 y2 hb
                 obtain ⟨x0, x1, x2⟩ := vobx (HL.out (w.heap.size, vob ⟨k, n, s⟩) (by simp))
                 obtain ⟨y0, y1, y2⟩ := vobx (HL.out (w.heap.size + 1, vob ⟨j, m, t⟩) (by simp))))
            have HD := Lib.hid HB.out
            have HQ := Lib.hid HL.out
            clear x0 x1 x2 y0 y1 y2
            go_region_held3 (fun W => (W.cell? ⟨w1.heap.size, 0, none⟩ = some (.int .i64 0) ∧ W.cell? ⟨w1.heap.size, 1, none⟩ = some (.int .i64 0) ∧ W.cell? ⟨w1.heap.size, 2, none⟩ = some (.string ⟨#[]⟩) ∧ W.cell? ⟨w2.heap.size, 0, none⟩ = some (.int .i64 0) ∧ W.cell? ⟨w2.heap.size, 1, none⟩ = some (.int .i64 0) ∧ W.cell? ⟨w2.heap.size, 2, none⟩ = some (.string ⟨#[]⟩) ∧ W.cell? ⟨w3.heap.size, 0, none⟩ = some (.int .i64 kz) ∧ W.cell? ⟨w3.heap.size, 1, none⟩ = some (.int .i64 nz) ∧ W.cell? ⟨w3.heap.size, 2, none⟩ = some (.string ⟨#[]⟩)))
              (first
                | (obtain ⟨a0, a1, a2⟩ := vobx (k := 0) (n := 0) (s := ⟨#[]⟩) (HL.out (w1.heap.size, vob ⟨0, 0, ⟨#[]⟩⟩) (by simp))
                   obtain ⟨b0, b1, b2⟩ := vobx (k := 0) (n := 0) (s := ⟨#[]⟩) (HL.out (w2.heap.size, vob ⟨0, 0, ⟨#[]⟩⟩) (by simp))
                   obtain ⟨c0, c1, c2⟩ := vobx (k := kz) (n := nz) (s := ⟨#[]⟩) (HL.out (w3.heap.size, vob ⟨kz, nz, ⟨#[]⟩⟩) (by simp))
                   exact ⟨a0, a1, a2, b0, b1, b2, c0, c1, c2⟩)
                | go_keep)
              (first
                | (go_at_call 5; (with_reducible refine (AL.out _ (HE.out.below (HB.out.trans ((drew_below _).mono HB.out.size)))).mono ?_); rintro e wa ⟨rfl, hb⟩
                   have HB := Lib.hid ((HB.out.trans ((drew_below _).mono HB.out.size)).trans (hb.mono (HB.out.trans ((drew_below _).mono HB.out.size)).size))
                   have HL := Lib.hid ((HL.out.next (drew_below _)).next hb)
                   clear hb)
                | (go_at_call 13; (with_reducible refine (RA.out _).mono ?_); rintro e wb ⟨rfl, rfl⟩)
                | (go_at_call 14; (with_reducible refine (RO.out _).mono ?_); rintro e wb ⟨rfl, rfl⟩)
                | (go_at_call 15; (with_reducible refine (RN.out _).mono ?_); rintro e wb ⟨rfl, rfl⟩)
                | (go_at_call 12; (with_reducible first | refine (OA.out _).mono ?_ | refine (OO.out _).mono ?_ | refine (ON.out _).mono ?_); rintro e wc ⟨rfl, hb⟩
                   have HB := Lib.hid (HB.out.trans (hb.mono HB.out.size))
                   have HL := Lib.hid (HL.out.next hb)
                   clear hb)
                | fail)
            all_goals
              go_wp2_with fail
              go_ret
              exact ⟨rfl, HB.out⟩
      | none =>
        cases hB : tO ⟨j, m, t⟩ with
        | some b =>
          obtain rfl : pI = -2 := by rw [HP.out, hA]; rfl
          obtain ⟨hq, hq2⟩ : (qI == -2) = false ∧ (qI != -2) = true := by rw [HQI.out, hB]; exact ti_some b
          have CA : Hid (∀ w, Calls Tryz.prog 6 #[.agg #[.int .i64 k, .int .i64 n, .string s], .agg #[.int .i64 j, .int .i64 m, .string t]] w (TrB 0 w)) := Lib.hid fun w => and_core ⟨k, n, s⟩ ⟨j, m, t⟩ 0 (Lib.hid fun w => (prevail_badA ⟨k, n, s⟩ ⟨j, m, t⟩ (tO_none hA) false w).mono fun _ _ h => h.apart) w
          have CO : Hid (∀ w, Calls Tryz.prog 7 #[.agg #[.int .i64 k, .int .i64 n, .string s], .agg #[.int .i64 j, .int .i64 m, .string t]] w (TrB 0 w)) := Lib.hid fun w => or_core ⟨k, n, s⟩ ⟨j, m, t⟩ 0 (Lib.hid fun w => (prevail_badA ⟨k, n, s⟩ ⟨j, m, t⟩ (tO_none hA) true w).mono fun _ _ h => h.apart) w
          have OA : Hid (∀ w, Calls Tryz.prog 12 #[.int .i64 a1] w (Ans (.agg #[.int .i64 0, .int .i64 0, .string ⟨#[]⟩]) w)) := Lib.hid fun w => by
            rw [H1.out, hA, hB]
            exact refOf_any none w
          have OO : Hid (∀ w, Calls Tryz.prog 12 #[.int .i64 a2] w (Ans (.agg #[.int .i64 0, .int .i64 0, .string ⟨#[]⟩]) w)) := Lib.hid fun w => by
            rw [H2.out, hA, hB]
            exact refOf_any none w
          have f0 := eqB_self 0 0
          have CN : Hid (∀ w, Calls Tryz.prog 8 #[.agg #[.int .i64 k, .int .i64 n, .string s]] w (TrB 0 w)) := Lib.hid fun w => not_bad ⟨k, n, s⟩ (tO_none hA) w
          have ON : Hid (∀ w, Calls Tryz.prog 12 #[.int .i64 a3] w (Ans (.agg #[.int .i64 0, .int .i64 0, .string ⟨#[]⟩]) w)) := Lib.hid fun w => by
            rw [H3.out, hA]
            exact refOf_any none w
          clear hA hB
          as_aux_lemma =>
            go_enter Tryz.func3, Tryz.ntmps3
            go_upto_region 20 with (first
              | (go_at_call 6; (with_reducible refine (CA.out _).mono ?_)
                 rintro e w1 ⟨N1, rfl, hN, hb⟩
                 have HB := Lib.hid (HB.out.trans ((hb.trans ((alloc_below w1 (.cells #[.int .i64 0, .int .i64 0, .string ⟨#[]⟩] 24)).mono hb.size)).mono HB.out.size))
                 have HL := Lib.hid (((HL.out.next hb).cons (o := fob 0) hN).box 0 0 ⟨#[]⟩)
                 clear hN
                 clear x0 x1 x2 y0 y1 y2 hb
                 obtain ⟨x0, x1, x2⟩ := vobx (HL.out (w.heap.size, vob ⟨k, n, s⟩) (by simp))
                 obtain ⟨y0, y1, y2⟩ := vobx (HL.out (w.heap.size + 1, vob ⟨j, m, t⟩) (by simp)))
              | (go_at_call 7; (with_reducible refine (CO.out _).mono ?_)
                 rintro e w2 ⟨N2, rfl, hN, hb⟩
                 have HB := Lib.hid (HB.out.trans ((hb.trans ((alloc_below w2 (.cells #[.int .i64 0, .int .i64 0, .string ⟨#[]⟩] 24)).mono hb.size)).mono HB.out.size))
                 have HL := Lib.hid (((HL.out.next hb).cons (o := fob 0) hN).box 0 0 ⟨#[]⟩)
                 clear hN
                 clear x0 x1 x2 y0 y1 y2 hb
                 obtain ⟨x0, x1, x2⟩ := vobx (HL.out (w.heap.size, vob ⟨k, n, s⟩) (by simp))
                 obtain ⟨y0, y1, y2⟩ := vobx (HL.out (w.heap.size + 1, vob ⟨j, m, t⟩) (by simp)))
              | (go_at_call 8; (with_reducible refine (CN.out _).mono ?_)
                 rintro e w3 ⟨N3, rfl, hN, hb⟩
                 have HB := Lib.hid (HB.out.trans ((hb.trans ((alloc_below w3 (.cells #[.int .i64 0, .int .i64 0, .string ⟨#[]⟩] 24)).mono hb.size)).mono HB.out.size))
                 have HL := Lib.hid (((HL.out.next hb).cons (o := fob 0) hN).box 0 0 ⟨#[]⟩)
                 clear hN
                 clear x0 x1 x2 y0 y1 y2 hb
                 obtain ⟨x0, x1, x2⟩ := vobx (HL.out (w.heap.size, vob ⟨k, n, s⟩) (by simp))
                 obtain ⟨y0, y1, y2⟩ := vobx (HL.out (w.heap.size + 1, vob ⟨j, m, t⟩) (by simp)))
              | (go_at_call 9; (with_reducible refine (TX.out _).mono ?_)
                 rintro e w4 ⟨rfl, hb⟩
                 have HB := Lib.hid (HB.out.trans (hb.mono HB.out.size))
                 have HL := Lib.hid (HL.out.next hb)
                 clear x0 x1 x2 y0 y1 y2 hb
                 obtain ⟨x0, x1, x2⟩ := vobx (HL.out (w.heap.size, vob ⟨k, n, s⟩) (by simp))
                 obtain ⟨y0, y1, y2⟩ := vobx (HL.out (w.heap.size + 1, vob ⟨j, m, t⟩) (by simp)))
              | (go_at_call 9; (with_reducible refine (TY.out _).mono ?_)
                 rintro e w5 ⟨rfl, hb⟩
                 have HB := Lib.hid (HB.out.trans (hb.mono HB.out.size))
                 have HL := Lib.hid (HL.out.next hb)
                 clear x0 x1 x2 y0 y1 y2 hb
                 obtain ⟨x0, x1, x2⟩ := vobx (HL.out (w.heap.size, vob ⟨k, n, s⟩) (by simp))
                 obtain ⟨y0, y1, y2⟩ := vobx (HL.out (w.heap.size + 1, vob ⟨j, m, t⟩) (by simp)))
              | (go_at_call 10; (with_reducible refine (code_one (HL.out.lone (b := N1) (p := 0) (by simp)) (HG.out.below HB.out)).mono ?_)
                 rintro e w6 ⟨rfl, hb⟩
                 have HB := Lib.hid (HB.out.trans (hb.mono HB.out.size))
                 have HL := Lib.hid (HL.out.next hb)
                 clear x0 x1 x2 y0 y1 y2 hb
                 obtain ⟨x0, x1, x2⟩ := vobx (HL.out (w.heap.size, vob ⟨k, n, s⟩) (by simp))
                 obtain ⟨y0, y1, y2⟩ := vobx (HL.out (w.heap.size + 1, vob ⟨j, m, t⟩) (by simp)))
              | (go_at_call 11; (with_reducible refine (at_one (HL.out.lone (b := N1) (p := 0) (by simp)) (HG.out.below HB.out)).mono ?_)
                 rintro e w7 ⟨rfl, hb⟩
                 have HB := Lib.hid (HB.out.trans (hb.mono HB.out.size))
                 have HL := Lib.hid (HL.out.next hb)
                 clear x0 x1 x2 y0 y1 y2 hb
                 obtain ⟨x0, x1, x2⟩ := vobx (HL.out (w.heap.size, vob ⟨k, n, s⟩) (by simp))
                 obtain ⟨y0, y1, y2⟩ := vobx (HL.out (w.heap.size + 1, vob ⟨j, m, t⟩) (by simp)))
              | (go_at_call 10; (with_reducible refine (code_one (HL.out.lone (b := N2) (p := 0) (by simp)) (HG.out.below HB.out)).mono ?_)
                 rintro e w8 ⟨rfl, hb⟩
                 have HB := Lib.hid (HB.out.trans (hb.mono HB.out.size))
                 have HL := Lib.hid (HL.out.next hb)
                 clear x0 x1 x2 y0 y1 y2 hb
                 obtain ⟨x0, x1, x2⟩ := vobx (HL.out (w.heap.size, vob ⟨k, n, s⟩) (by simp))
                 obtain ⟨y0, y1, y2⟩ := vobx (HL.out (w.heap.size + 1, vob ⟨j, m, t⟩) (by simp)))
              | (go_at_call 11; (with_reducible refine (at_one (HL.out.lone (b := N2) (p := 0) (by simp)) (HG.out.below HB.out)).mono ?_)
                 rintro e w9 ⟨rfl, hb⟩
                 have HB := Lib.hid (HB.out.trans (hb.mono HB.out.size))
                 have HL := Lib.hid (HL.out.next hb)
                 clear x0 x1 x2 y0 y1 y2 hb
                 obtain ⟨x0, x1, x2⟩ := vobx (HL.out (w.heap.size, vob ⟨k, n, s⟩) (by simp))
                 obtain ⟨y0, y1, y2⟩ := vobx (HL.out (w.heap.size + 1, vob ⟨j, m, t⟩) (by simp)))
              | (go_at_call 10; (with_reducible refine (code_one (HL.out.lone (b := N3) (p := 0) (by simp)) (HG.out.below HB.out)).mono ?_)
                 rintro e w10 ⟨rfl, hb⟩
                 have HB := Lib.hid (HB.out.trans (hb.mono HB.out.size))
                 have HL := Lib.hid (HL.out.next hb)
                 clear x0 x1 x2 y0 y1 y2 hb
                 obtain ⟨x0, x1, x2⟩ := vobx (HL.out (w.heap.size, vob ⟨k, n, s⟩) (by simp))
                 obtain ⟨y0, y1, y2⟩ := vobx (HL.out (w.heap.size + 1, vob ⟨j, m, t⟩) (by simp)))
              | (go_at_call 11; (with_reducible refine (at_one (HL.out.lone (b := N3) (p := 0) (by simp)) (HG.out.below HB.out)).mono ?_)
                 rintro e w11 ⟨rfl, hb⟩
                 have HB := Lib.hid (HB.out.trans (hb.mono HB.out.size))
                 have HL := Lib.hid (HL.out.next hb)
                 clear x0 x1 x2 y0 y1 y2 hb
                 obtain ⟨x0, x1, x2⟩ := vobx (HL.out (w.heap.size, vob ⟨k, n, s⟩) (by simp))
                 obtain ⟨y0, y1, y2⟩ := vobx (HL.out (w.heap.size + 1, vob ⟨j, m, t⟩) (by simp))))
            have HD := Lib.hid HB.out
            have HQ := Lib.hid HL.out
            clear x0 x1 x2 y0 y1 y2
            go_region_held3 (fun W => (W.cell? ⟨w1.heap.size, 0, none⟩ = some (.int .i64 0) ∧ W.cell? ⟨w1.heap.size, 1, none⟩ = some (.int .i64 0) ∧ W.cell? ⟨w1.heap.size, 2, none⟩ = some (.string ⟨#[]⟩) ∧ W.cell? ⟨w2.heap.size, 0, none⟩ = some (.int .i64 0) ∧ W.cell? ⟨w2.heap.size, 1, none⟩ = some (.int .i64 0) ∧ W.cell? ⟨w2.heap.size, 2, none⟩ = some (.string ⟨#[]⟩) ∧ W.cell? ⟨w3.heap.size, 0, none⟩ = some (.int .i64 0) ∧ W.cell? ⟨w3.heap.size, 1, none⟩ = some (.int .i64 0) ∧ W.cell? ⟨w3.heap.size, 2, none⟩ = some (.string ⟨#[]⟩)))
              (first
                | (obtain ⟨a0, a1, a2⟩ := vobx (k := 0) (n := 0) (s := ⟨#[]⟩) (HL.out (w1.heap.size, vob ⟨0, 0, ⟨#[]⟩⟩) (by simp))
                   obtain ⟨b0, b1, b2⟩ := vobx (k := 0) (n := 0) (s := ⟨#[]⟩) (HL.out (w2.heap.size, vob ⟨0, 0, ⟨#[]⟩⟩) (by simp))
                   obtain ⟨c0, c1, c2⟩ := vobx (k := 0) (n := 0) (s := ⟨#[]⟩) (HL.out (w3.heap.size, vob ⟨0, 0, ⟨#[]⟩⟩) (by simp))
                   exact ⟨a0, a1, a2, b0, b1, b2, c0, c1, c2⟩)
                | go_keep)
              (first
                | (go_at_call 5; (with_reducible refine (AL.out _ (HE.out.below (HB.out.trans ((drew_below _).mono HB.out.size)))).mono ?_); rintro e wa ⟨rfl, hb⟩
                   have HB := Lib.hid ((HB.out.trans ((drew_below _).mono HB.out.size)).trans (hb.mono (HB.out.trans ((drew_below _).mono HB.out.size)).size))
                   have HL := Lib.hid ((HL.out.next (drew_below _)).next hb)
                   clear hb)
                | (go_at_call 13; (with_reducible refine (RA.out _).mono ?_); rintro e wb ⟨rfl, rfl⟩)
                | (go_at_call 14; (with_reducible refine (RO.out _).mono ?_); rintro e wb ⟨rfl, rfl⟩)
                | (go_at_call 15; (with_reducible refine (RN.out _).mono ?_); rintro e wb ⟨rfl, rfl⟩)
                | (go_at_call 12; (with_reducible first | refine (OA.out _).mono ?_ | refine (OO.out _).mono ?_ | refine (ON.out _).mono ?_); rintro e wc ⟨rfl, hb⟩
                   have HB := Lib.hid (HB.out.trans (hb.mono HB.out.size))
                   have HL := Lib.hid (HL.out.next hb)
                   clear hb)
                | fail)
            all_goals
              go_wp2_with fail
              go_ret
              exact ⟨rfl, HB.out⟩
        | none =>
          obtain rfl : pI = -2 := by rw [HP.out, hA]; rfl
          obtain rfl : qI = -2 := by rw [HQI.out, hB]; rfl
          have CA : Hid (∀ w, Calls Tryz.prog 6 #[.agg #[.int .i64 k, .int .i64 n, .string s], .agg #[.int .i64 j, .int .i64 m, .string t]] w (TrB 0 w)) := Lib.hid fun w => and_core ⟨k, n, s⟩ ⟨j, m, t⟩ 0 (Lib.hid fun w => (prevail_badA ⟨k, n, s⟩ ⟨j, m, t⟩ (tO_none hA) false w).mono fun _ _ h => h.apart) w
          have CO : Hid (∀ w, Calls Tryz.prog 7 #[.agg #[.int .i64 k, .int .i64 n, .string s], .agg #[.int .i64 j, .int .i64 m, .string t]] w (TrB 0 w)) := Lib.hid fun w => or_core ⟨k, n, s⟩ ⟨j, m, t⟩ 0 (Lib.hid fun w => (prevail_badA ⟨k, n, s⟩ ⟨j, m, t⟩ (tO_none hA) true w).mono fun _ _ h => h.apart) w
          have OA : Hid (∀ w, Calls Tryz.prog 12 #[.int .i64 a1] w (Ans (.agg #[.int .i64 0, .int .i64 0, .string ⟨#[]⟩]) w)) := Lib.hid fun w => by
            rw [H1.out, hA, hB]
            exact refOf_any none w
          have OO : Hid (∀ w, Calls Tryz.prog 12 #[.int .i64 a2] w (Ans (.agg #[.int .i64 0, .int .i64 0, .string ⟨#[]⟩]) w)) := Lib.hid fun w => by
            rw [H2.out, hA, hB]
            exact refOf_any none w
          have f0 := eqB_self 0 0
          have CN : Hid (∀ w, Calls Tryz.prog 8 #[.agg #[.int .i64 k, .int .i64 n, .string s]] w (TrB 0 w)) := Lib.hid fun w => not_bad ⟨k, n, s⟩ (tO_none hA) w
          have ON : Hid (∀ w, Calls Tryz.prog 12 #[.int .i64 a3] w (Ans (.agg #[.int .i64 0, .int .i64 0, .string ⟨#[]⟩]) w)) := Lib.hid fun w => by
            rw [H3.out, hA]
            exact refOf_any none w
          clear hA hB
          as_aux_lemma =>
            go_enter Tryz.func3, Tryz.ntmps3
            go_upto_region 20 with (first
              | (go_at_call 6; (with_reducible refine (CA.out _).mono ?_)
                 rintro e w1 ⟨N1, rfl, hN, hb⟩
                 have HB := Lib.hid (HB.out.trans ((hb.trans ((alloc_below w1 (.cells #[.int .i64 0, .int .i64 0, .string ⟨#[]⟩] 24)).mono hb.size)).mono HB.out.size))
                 have HL := Lib.hid (((HL.out.next hb).cons (o := fob 0) hN).box 0 0 ⟨#[]⟩)
                 clear hN
                 clear x0 x1 x2 y0 y1 y2 hb
                 obtain ⟨x0, x1, x2⟩ := vobx (HL.out (w.heap.size, vob ⟨k, n, s⟩) (by simp))
                 obtain ⟨y0, y1, y2⟩ := vobx (HL.out (w.heap.size + 1, vob ⟨j, m, t⟩) (by simp)))
              | (go_at_call 7; (with_reducible refine (CO.out _).mono ?_)
                 rintro e w2 ⟨N2, rfl, hN, hb⟩
                 have HB := Lib.hid (HB.out.trans ((hb.trans ((alloc_below w2 (.cells #[.int .i64 0, .int .i64 0, .string ⟨#[]⟩] 24)).mono hb.size)).mono HB.out.size))
                 have HL := Lib.hid (((HL.out.next hb).cons (o := fob 0) hN).box 0 0 ⟨#[]⟩)
                 clear hN
                 clear x0 x1 x2 y0 y1 y2 hb
                 obtain ⟨x0, x1, x2⟩ := vobx (HL.out (w.heap.size, vob ⟨k, n, s⟩) (by simp))
                 obtain ⟨y0, y1, y2⟩ := vobx (HL.out (w.heap.size + 1, vob ⟨j, m, t⟩) (by simp)))
              | (go_at_call 8; (with_reducible refine (CN.out _).mono ?_)
                 rintro e w3 ⟨N3, rfl, hN, hb⟩
                 have HB := Lib.hid (HB.out.trans ((hb.trans ((alloc_below w3 (.cells #[.int .i64 0, .int .i64 0, .string ⟨#[]⟩] 24)).mono hb.size)).mono HB.out.size))
                 have HL := Lib.hid (((HL.out.next hb).cons (o := fob 0) hN).box 0 0 ⟨#[]⟩)
                 clear hN
                 clear x0 x1 x2 y0 y1 y2 hb
                 obtain ⟨x0, x1, x2⟩ := vobx (HL.out (w.heap.size, vob ⟨k, n, s⟩) (by simp))
                 obtain ⟨y0, y1, y2⟩ := vobx (HL.out (w.heap.size + 1, vob ⟨j, m, t⟩) (by simp)))
              | (go_at_call 9; (with_reducible refine (TX.out _).mono ?_)
                 rintro e w4 ⟨rfl, hb⟩
                 have HB := Lib.hid (HB.out.trans (hb.mono HB.out.size))
                 have HL := Lib.hid (HL.out.next hb)
                 clear x0 x1 x2 y0 y1 y2 hb
                 obtain ⟨x0, x1, x2⟩ := vobx (HL.out (w.heap.size, vob ⟨k, n, s⟩) (by simp))
                 obtain ⟨y0, y1, y2⟩ := vobx (HL.out (w.heap.size + 1, vob ⟨j, m, t⟩) (by simp)))
              | (go_at_call 9; (with_reducible refine (TY.out _).mono ?_)
                 rintro e w5 ⟨rfl, hb⟩
                 have HB := Lib.hid (HB.out.trans (hb.mono HB.out.size))
                 have HL := Lib.hid (HL.out.next hb)
                 clear x0 x1 x2 y0 y1 y2 hb
                 obtain ⟨x0, x1, x2⟩ := vobx (HL.out (w.heap.size, vob ⟨k, n, s⟩) (by simp))
                 obtain ⟨y0, y1, y2⟩ := vobx (HL.out (w.heap.size + 1, vob ⟨j, m, t⟩) (by simp)))
              | (go_at_call 10; (with_reducible refine (code_one (HL.out.lone (b := N1) (p := 0) (by simp)) (HG.out.below HB.out)).mono ?_)
                 rintro e w6 ⟨rfl, hb⟩
                 have HB := Lib.hid (HB.out.trans (hb.mono HB.out.size))
                 have HL := Lib.hid (HL.out.next hb)
                 clear x0 x1 x2 y0 y1 y2 hb
                 obtain ⟨x0, x1, x2⟩ := vobx (HL.out (w.heap.size, vob ⟨k, n, s⟩) (by simp))
                 obtain ⟨y0, y1, y2⟩ := vobx (HL.out (w.heap.size + 1, vob ⟨j, m, t⟩) (by simp)))
              | (go_at_call 11; (with_reducible refine (at_one (HL.out.lone (b := N1) (p := 0) (by simp)) (HG.out.below HB.out)).mono ?_)
                 rintro e w7 ⟨rfl, hb⟩
                 have HB := Lib.hid (HB.out.trans (hb.mono HB.out.size))
                 have HL := Lib.hid (HL.out.next hb)
                 clear x0 x1 x2 y0 y1 y2 hb
                 obtain ⟨x0, x1, x2⟩ := vobx (HL.out (w.heap.size, vob ⟨k, n, s⟩) (by simp))
                 obtain ⟨y0, y1, y2⟩ := vobx (HL.out (w.heap.size + 1, vob ⟨j, m, t⟩) (by simp)))
              | (go_at_call 10; (with_reducible refine (code_one (HL.out.lone (b := N2) (p := 0) (by simp)) (HG.out.below HB.out)).mono ?_)
                 rintro e w8 ⟨rfl, hb⟩
                 have HB := Lib.hid (HB.out.trans (hb.mono HB.out.size))
                 have HL := Lib.hid (HL.out.next hb)
                 clear x0 x1 x2 y0 y1 y2 hb
                 obtain ⟨x0, x1, x2⟩ := vobx (HL.out (w.heap.size, vob ⟨k, n, s⟩) (by simp))
                 obtain ⟨y0, y1, y2⟩ := vobx (HL.out (w.heap.size + 1, vob ⟨j, m, t⟩) (by simp)))
              | (go_at_call 11; (with_reducible refine (at_one (HL.out.lone (b := N2) (p := 0) (by simp)) (HG.out.below HB.out)).mono ?_)
                 rintro e w9 ⟨rfl, hb⟩
                 have HB := Lib.hid (HB.out.trans (hb.mono HB.out.size))
                 have HL := Lib.hid (HL.out.next hb)
                 clear x0 x1 x2 y0 y1 y2 hb
                 obtain ⟨x0, x1, x2⟩ := vobx (HL.out (w.heap.size, vob ⟨k, n, s⟩) (by simp))
                 obtain ⟨y0, y1, y2⟩ := vobx (HL.out (w.heap.size + 1, vob ⟨j, m, t⟩) (by simp)))
              | (go_at_call 10; (with_reducible refine (code_one (HL.out.lone (b := N3) (p := 0) (by simp)) (HG.out.below HB.out)).mono ?_)
                 rintro e w10 ⟨rfl, hb⟩
                 have HB := Lib.hid (HB.out.trans (hb.mono HB.out.size))
                 have HL := Lib.hid (HL.out.next hb)
                 clear x0 x1 x2 y0 y1 y2 hb
                 obtain ⟨x0, x1, x2⟩ := vobx (HL.out (w.heap.size, vob ⟨k, n, s⟩) (by simp))
                 obtain ⟨y0, y1, y2⟩ := vobx (HL.out (w.heap.size + 1, vob ⟨j, m, t⟩) (by simp)))
              | (go_at_call 11; (with_reducible refine (at_one (HL.out.lone (b := N3) (p := 0) (by simp)) (HG.out.below HB.out)).mono ?_)
                 rintro e w11 ⟨rfl, hb⟩
                 have HB := Lib.hid (HB.out.trans (hb.mono HB.out.size))
                 have HL := Lib.hid (HL.out.next hb)
                 clear x0 x1 x2 y0 y1 y2 hb
                 obtain ⟨x0, x1, x2⟩ := vobx (HL.out (w.heap.size, vob ⟨k, n, s⟩) (by simp))
                 obtain ⟨y0, y1, y2⟩ := vobx (HL.out (w.heap.size + 1, vob ⟨j, m, t⟩) (by simp))))
            have HD := Lib.hid HB.out
            have HQ := Lib.hid HL.out
            clear x0 x1 x2 y0 y1 y2
            go_region_held3 (fun W => (W.cell? ⟨w1.heap.size, 0, none⟩ = some (.int .i64 0) ∧ W.cell? ⟨w1.heap.size, 1, none⟩ = some (.int .i64 0) ∧ W.cell? ⟨w1.heap.size, 2, none⟩ = some (.string ⟨#[]⟩) ∧ W.cell? ⟨w2.heap.size, 0, none⟩ = some (.int .i64 0) ∧ W.cell? ⟨w2.heap.size, 1, none⟩ = some (.int .i64 0) ∧ W.cell? ⟨w2.heap.size, 2, none⟩ = some (.string ⟨#[]⟩) ∧ W.cell? ⟨w3.heap.size, 0, none⟩ = some (.int .i64 0) ∧ W.cell? ⟨w3.heap.size, 1, none⟩ = some (.int .i64 0) ∧ W.cell? ⟨w3.heap.size, 2, none⟩ = some (.string ⟨#[]⟩)))
              (first
                | (obtain ⟨a0, a1, a2⟩ := vobx (k := 0) (n := 0) (s := ⟨#[]⟩) (HL.out (w1.heap.size, vob ⟨0, 0, ⟨#[]⟩⟩) (by simp))
                   obtain ⟨b0, b1, b2⟩ := vobx (k := 0) (n := 0) (s := ⟨#[]⟩) (HL.out (w2.heap.size, vob ⟨0, 0, ⟨#[]⟩⟩) (by simp))
                   obtain ⟨c0, c1, c2⟩ := vobx (k := 0) (n := 0) (s := ⟨#[]⟩) (HL.out (w3.heap.size, vob ⟨0, 0, ⟨#[]⟩⟩) (by simp))
                   exact ⟨a0, a1, a2, b0, b1, b2, c0, c1, c2⟩)
                | go_keep)
              (first
                | (go_at_call 5; (with_reducible refine (AL.out _ (HE.out.below (HB.out.trans ((drew_below _).mono HB.out.size)))).mono ?_); rintro e wa ⟨rfl, hb⟩
                   have HB := Lib.hid ((HB.out.trans ((drew_below _).mono HB.out.size)).trans (hb.mono (HB.out.trans ((drew_below _).mono HB.out.size)).size))
                   have HL := Lib.hid ((HL.out.next (drew_below _)).next hb)
                   clear hb)
                | (go_at_call 13; (with_reducible refine (RA.out _).mono ?_); rintro e wb ⟨rfl, rfl⟩)
                | (go_at_call 14; (with_reducible refine (RO.out _).mono ?_); rintro e wb ⟨rfl, rfl⟩)
                | (go_at_call 15; (with_reducible refine (RN.out _).mono ?_); rintro e wb ⟨rfl, rfl⟩)
                | (go_at_call 12; (with_reducible first | refine (OA.out _).mono ?_ | refine (OO.out _).mono ?_ | refine (ON.out _).mono ?_); rintro e wc ⟨rfl, hb⟩
                   have HB := Lib.hid (HB.out.trans (hb.mono HB.out.size))
                   have HL := Lib.hid (HL.out.next hb)
                   clear hb)
                | fail)
            all_goals
              go_wp2_with fail
              go_ret
              exact ⟨rfl, HB.out⟩
    · have hm1 : (500 : Int) < (t.size : Int) := by omega
      clear hl hm
      go_enter Tryz.func3, Tryz.ntmps3
      go_wp2_with (go_at_call 5; refine (AL.out _ (HE.out.below HB.out)).mono ?_; rintro e w1 ⟨rfl, hb⟩
                   have HB := Lib.hid (HB.out.trans (hb.mono HB.out.size))
                   clear hb)
      go_ret
      exact ⟨rfl, HB.out⟩
  · have hl1 : (500 : Int) < (s.size : Int) := by omega
    clear hl
    go_enter Tryz.func3, Tryz.ntmps3
    go_wp2_with (go_at_call 5; refine (AL.out _ (HE.out.below HB.out)).mono ?_; rintro e w1 ⟨rfl, hb⟩
                 have HB := Lib.hid (HB.out.trans (hb.mono HB.out.size))
                 clear hb)
    go_ret
    exact ⟨rfl, HB.out⟩
#print axioms truths_law
end Go.Proofs.YtneppncnccangaaGreatDoor

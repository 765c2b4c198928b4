/- The document's Append. -/
import Derived.Test.YtgdofnbnahpedaaLJ
namespace Go.Proofs.Ytgdofnbnahpedaa
open Go.RowKit

theorem rwappend_no (A : Option Addr) (n cap q : Nat) (w : World) (h : n < 1 ∨ 4096 < n) : Calls Try.prog 21 #[.pointer (some ⟨q, 0, none⟩), .slice A n cap] w (Looks (.tuple #[.int .i64 0, .int .i64 1]) w) := by
  rcases h with h | h
  · have hi : (n : Int) < 1 := by omega
    clear h
    go_enter Try.func21, Try.ntmps21
    go_wp2_with fail
    go_ret2
    exact ⟨rfl, rfl⟩
  · have hi : (4096 : Int) < (n : Int) := by omega
    have hi2 : ¬ (n : Int) < 1 := by omega
    clear h
    go_enter Try.func21, Try.ntmps21
    go_wp2_with fail
    go_ret2
    exact ⟨rfl, rfl⟩
/-- what Append answers -/
def RaT (w : World) (B q p b e s : Nat) (X : List UInt8) (es : List BEnt) (l : List UInt8) (en : Ending) (w' : World) : Prop := en = .returned (.tuple #[.int .i64 (e : Int), .int .i64 0]) ∧ ∃ g' d' e' x, Rw w' B q p g' d' b e' s (X.take e ++ frameL l) (es ++ [x]) ∧ (X.take e ++ frameL l).length = e' ∧ x.no = (e : Int) ∧ x.l = l ∧ Only (fun k => k = q ∨ k = p) w w' ∧ (g' = p ∨ w.heap.size ≤ g') ∧ w.heap.size ≤ d' ∧ x.fresh w.heap.size
theorem rw_app {w w1 w2 w5 w6 w7 : World} {B q p g g' d g5 g7 b e e' s c n : Nat} {X X' : List UInt8} {es : List BEnt} {l : List UInt8} {A : Option Addr} {o : Obj} {v7 : Value} {no : Int} (h : Rw w B q p g d b e s X es)
    (hb1 : Below w.heap.size w w1) (hd : Mk w2 B p g' b e' s X') (hO2 : Only (fun k => k = p) w1 w2) (hg' : g' = p ∨ w1.heap.size ≤ g') (hb5 : Below w2.heap.size w2 w5) (hg5 : w2.heap.size ≤ g5) (hg5l : g5 < w5.heap.size)
    (ho : OwnB w6 w5.heap.size (.slice A n c) l) (hb6 : Below w5.heap.size w5 w6) (h7 : HeldC w7 q g7 2 v7 (es.length + 1) (entsV es ++ [.int .i64 no, .slice A n c])) (hO7 : Only (fun k => k = g5 ∧ k ≠ q) (w6.alloc o) w7) (hg7 : g7 = g5 ∨ (w6.alloc o).heap.size ≤ g7) (hno : no = (e : Int)) (hX' : X' = X.take e ++ frameL l) (he' : X'.length = e') :
    RaT w B q p b e s X es l (.returned (.tuple #[.int .i64 (e : Int), .int .i64 0])) (w7.setCell ⟨q, 1, none⟩ v7) := by
  have hn := ho.len
  subst hn hX'
  obtain ⟨A7, c7, rfl, _⟩ := h7.slice
  have hne := h.ne
  have hlt := h.lt
  have hdl := h.dlt
  have hpl := h.disk.lt
  have hge := h.ge
  have hdg := hd.ge
  have s1 := hb1.size
  have s2 := hO2.size
  have s5 := hb5.size
  have s6 := hb6.size
  have s7 := alloc_size w6 o
  have s8 := hO7.size
  have hdl2 := hd.dlt
  have hOs := Only.set w7 q 1 (.slice A7 (es.length + 1) c7)
  have hO27 : Only (fun k => k = q) w2 (w7.setCell ⟨q, 1, none⟩ (.slice A7 (es.length + 1) c7)) := by
    refine (Only.of_below (((hb5.trans (hb6.mono s5)).trans ((alloc_below w6 o).mono (by omega))).trans (hO7.below (by omega) (fun j e => by have := e.1; omega)))).trans hOs (fun _ _ e => e)
  have hO : Only (fun k => k = q ∨ k = p) w (w7.setCell ⟨q, 1, none⟩ (.slice A7 (es.length + 1) c7)) :=
    ((Only.of_below hb1).trans hO2 (fun _ _ e => .inr e)).trans hO27 (fun _ _ e => .inl e)
  refine ⟨rfl, g', g7, e', ⟨no, A, l, c⟩, ⟨⟨A7, c7, ?_, ?_⟩, ?_, ⟨hge.1, by omega⟩, by omega, fun x hx => ?_⟩, he', hno, rfl, hO, by omega, by omega, fun hn ad e => ?_⟩
  · obtain ⟨A0, cap0, h1, _⟩ := h.box
    have hq2 := (hO2.block q (by omega) hne.1).trans ((hb1.block q hlt).trans h1)
    have hq7 := (hO7.block q (by omega) (fun e => e.2 rfl)).trans (((alloc_below w6 o).block q (by omega)).trans ((hb6.block q (by omega)).trans ((hb5.block q (by omega)).trans hq2)))
    rw [List.length_append, List.length_singleton]
    simp [World.setCell, Array.getElem?_modify, hq7]
  · rw [List.length_append, List.length_singleton, entsV_app]
    exact h7.only hOs (fun hne => hne)
  · exact hd.only hO27 (fun e => hne.1 e.symm) (fun e => by omega)
  · rcases List.mem_append.1 hx with hx | hx
    · obtain ⟨h3, h4⟩ := h.ents x hx
      refine ⟨h3.only hO (fun hn ad e e2 => by have := h4 hn ad e; rcases e2 with e2 | e2 <;> omega), fun hn ad e => ?_⟩
      obtain ⟨ad', e3, hl3, _⟩ := h3 hn
      have h5 := h4 hn ad e
      rw [e] at e3
      injection e3 with e3
      subst e3
      omega
    · rw [List.mem_singleton] at hx
      subst hx
      by_cases hl : l = []
      · exact ⟨by show RdB _ _ A l; rw [hl]; exact RdB.nil _ _ _, fun hn => absurd hl hn⟩
      · obtain ⟨ad, hA, hlt6, _⟩ := ho.rd hl
        subst hA
        have hge6 : w5.heap.size ≤ ad.block := ho.ge ad.block rfl
        refine ⟨?_, fun _ ad' e => ?_⟩
        · show RdB _ _ (some ad) l
          exact ho.rd.only (K := fun k => k = q ∨ k = g5) (((Only.of_below (alloc_below w6 o)).trans hO7 (fun _ _ e => .inr e.1)).trans hOs (fun _ _ e => .inl e)) (fun _ ad' e e2 => by
            injection e with e
            subst e
            rcases e2 with e2 | e2 <;> omega)
        · injection e with e
          subst e
          omega
  · obtain ⟨ad', hA, _⟩ := ho.rd hn
    have e' : A = some ad := e
    rw [hA] at e'
    injection e' with e'
    subst hA e'
    have hge6 : w5.heap.size ≤ ad'.block := ho.ge ad'.block rfl
    omega
set_option maxRecDepth 100000 in
set_option maxHeartbeats 8000000 in
theorem rwappend_yes {w : World} {B q p g d b e s : Nat} {X : List UInt8} {es : List BEnt} (h : Rw w B q p g d b e s X es) (hB : B ≤ w.heap.size) (hes : es.length ≤ 100000) (l : List UInt8) (A : Option Addr) (n cap : Nat) (hn : l.length = n) (h1 : 1 ≤ l.length ∧ l.length ≤ 4096) (hr : RdB w B A l) (hsm : e + l.length + 5 ≤ 100000) :
    Calls Try.prog 21 #[.pointer (some ⟨q, 0, none⟩), .slice A n cap] w (RaT w B q p b e s X es l) := by
  subst hn
  obtain ⟨i0, hi, hz0, hz1, hz2⟩ := info_parts info8
  obtain ⟨ie, hie, hze0, hze1, hze2⟩ := info_parts infoEn
  have HL := Lib.hid h1
  have HR := Lib.hid hr
  have HH := Lib.hid h
  have HBB := Lib.hid hB
  have HES := Lib.hid hes
  have HSM := Lib.hid hsm
  have HQ := Lib.hid h.lt
  have hi1 : ¬ ((l.length : Int) < 1) := by omega
  have hi2 : ¬ ((4096 : Int) < (l.length : Int)) := by omega
  have hi3 : (l.length : Int) ≤ 4096 := by omega
  have HFL : Hid ((frameL l).length = l.length + 5) := Lib.hid (frameL_len l)
  obtain ⟨A0, cap0, hx, hc0⟩ := h.box
  have HX := Lib.hid hx
  have HC0 := Lib.hid hc0
  have HS0 : Hid (∀ W : World, Below w.heap.size w W → W.cell? ⟨q, 0, none⟩ = some (.pointer (some ⟨p, 0, none⟩))) := Lib.hid fun W hW => (box2 ((hW.block q HQ.out).trans HX.out)).1
  have HF : Hid (∀ W : World, Below w.heap.size w W → Calls Try.prog 74 #[.slice A l.length cap] W (fun e w' => ∃ v, e = .returned v ∧ OwnB w' w.heap.size v (frameL l) ∧ Below w.heap.size w w')) := Lib.hid fun W hW => by
    have h9 := rframe_any l A l.length cap rfl HL.out.1 HL.out.2 W ((HR.out.below hW HBB.out).more (Nat.le_trans HBB.out hW.size))
    refine h9.mono ?_
    rintro e w' ⟨v, he, ho, hb⟩
    exact ⟨v, he, ho.lower hW.size, hW.trans (hb.mono hW.size)⟩
  clear h h1 hr hB hes hsm hx hc0
  go_enter Try.func21, Try.ntmps21
  go_wp2_with fail
  go_region_held3 (fun W => W.cell? ⟨q, 0, none⟩ = some (.pointer (some ⟨p, 0, none⟩)))
    (first
      | exact HS2.out
      | exact HS0.out _ HB1.out
      | exact HS0.out _ (drew_below _))
    (first
    | (go_at_call 74; refine (HF.out _ (drew_below _)).mono ?_; rintro e w1 ⟨v1, rfl, ho1, hb1⟩
       obtain ⟨_, A1, cap1, hv1, _⟩ := id ho1
       subst hv1
       have HB1 := Lib.hid hb1
       have HO1 := Lib.hid ho1
       clear ho1 hb1)
    | (go_at_call 31; refine (rappend_any (HH.out.disk.below HB1.out) (Nat.le_trans HBB.out HB1.out.size) (frameL l) _ _ _ (by first | rfl | exact HFL.out) HO1.out.rd (by have := HFL.out; have := HSM.out; omega)).mono ?_; rintro e w2 ⟨rfl, g', e', hd, hX', hO2, hg'⟩
       have HD2 := Lib.hid (And.intro hd (And.intro hX' (And.intro hO2 hg')))
       have hx2 := (hO2.block q (Nat.lt_of_lt_of_le HQ.out HB1.out.size) HH.out.ne.1).trans ((HB1.out.block q HQ.out).trans HX.out)
       have HX2 := Lib.hid hx2
       have HS2 : Hid (w2.cell? ⟨q, 0, none⟩ = some (.pointer (some ⟨p, 0, none⟩))) := Lib.hid (box2 hx2).1
       clear hd hX' hO2 hg' hx2)
    | fail)
  have HQ2 : Hid (q < w2.heap.size) := Lib.hid (Nat.lt_of_lt_of_le HQ.out (Nat.le_trans HB1.out.size HD2.out.2.2.1.size))
  have HW12 : Hid (Below B w w2) := Lib.hid ((HB1.out.mono HBB.out).trans (HD2.out.2.2.1.below (Nat.le_trans HBB.out HB1.out.size) (fun j e => by have := HH.out.disk.ge.1; omega)))
  have hx2 := HX2.out
  obtain ⟨x0, x1⟩ := box2 hx2
  obtain ⟨y0, y1⟩ := box2 (((alloc_below w2 (.cells #[] 62)).block q HQ2.out).trans hx2)
  have HRE : Hid (RdC (w2.alloc (.cells #[] 62)) w.heap.size A0 (entsV es)) := Lib.hid (fun hn => by
    obtain ⟨b9, o9, e9, hlt9, hc9⟩ := HC0.out.rd.1 hn
    refine ⟨b9, o9, e9, hlt9, fun j u hj => ?_⟩
    have hbk : b9 = d ∨ b9 = q := by
      rcases HC0.out with ⟨_, _, h, _⟩ | ⟨_, o, c, h, _⟩
      · exact absurd h hn
      · injection h with h
        rw [e9] at h
        injection h with h
        injection h with h
        exact .inl h
    have hne : b9 ≠ p := by have := HH.out.ne; omega
    have h8 := (((alloc_below w2 (.cells #[] 62)).block b9 (by have := HB1.out.size; have := HD2.out.2.2.1.size; omega))).trans ((HD2.out.2.2.1.block b9 (by have := HB1.out.size; omega) hne).trans (HB1.out.block b9 hlt9))
    exact (World.cell?_of_block h8).trans (hc9 j u hj))
  clear hx2
  go_wp2_with (first
    | (at_builtin
       refine wpList_appHCa (n := 0) (m := es.length) (ys := entsV es) (by rfl) _ _ 56 62 (by rfl) Try.underlying56 hie hze0 hze1 hze2 (by rfl) (by omega) (by rfl) (held_new (t := 62) (sz := 2) HQ2.out) (by simp; have := HQ2.out; omega) (by rfl) (entsV_len es) HRE.out (entsV_one es) (by have := HES.out; omega) (by have := HES.out; omega) ?_
       intro g5 v5 w5 ho5 hO5 hg5
       rw [Nat.zero_add, List.nil_append] at ho5
       obtain ⟨A5, c5, hv5, _⟩ := ho5.slice
       subst hv5
       have HO5 := Lib.hid ho5
       have HB5 : Hid (Below w2.heap.size w2 w5) := Lib.hid ((alloc_below w2 _).trans (hO5.below (alloc_below w2 _).size (fun j e => by have := e.1; omega)))
       have HG5 : Hid (w2.heap.size ≤ g5 ∧ g5 < w5.heap.size) := Lib.hid ⟨by have := alloc_size w2 (.cells #[] 62); omega, ho5.lt (by have := HB5.out.size; have := HQ2.out; omega)⟩
       have HE : Hid (OwnB (w5.alloc (.cells #[] 5)) w5.heap.size (.slice (some ⟨w5.heap.size, 0, none⟩) 0 0) []) := Lib.hid (own_empty (Nat.le_refl _) 0)
       have HRL : Hid (RdB (w5.alloc (.cells #[] 5)) B A l) := Lib.hid (HR.out.below ((HW12.out.trans (HB5.out.mono (by have := HW12.out.size; have := HBB.out; omega))).trans ((alloc_below w5 _).mono (by have := HW12.out.size; have := HBB.out; have := HB5.out.size; omega))) (Nat.le_refl _))
       clear ho5 hO5 hg5)
    | (at_builtin
       refine wpList_appB (xs := []) (ys := l) (B := w5.heap.size) (by rfl) _ _ 23 (by rfl) Try.underlying23 hi hz0 hz1 hz2 (by rfl) HE.out (by rfl) rfl HRL.out (by have := HL.out; simp; omega) (by simp) ?_
       intro v6 w6 ho6 hg6
       have HB6 := Lib.hid (grew_below (alloc_below w5 _) HE.out.ge hg6)
       rw [List.nil_append] at ho6
       obtain ⟨_, A6, cap6, hv6, _⟩ := id ho6
       subst hv6
       have HO6 := Lib.hid ho6
       have HHA : Hid (∀ o, HeldC (w6.alloc o) q g5 2 (.slice A5 es.length c5) es.length (entsV es)) := Lib.hid fun o => (HO5.out.only (Only.of_below (K := fun _ => False) HB6.out) (fun _ => id)).only (Only.of_below (K := fun _ => False) (alloc_below w6 o)) (fun _ => id)
       have HQA : Hid (∀ o, q < (w6.alloc o).heap.size) := Lib.hid fun o => by have := alloc_size w6 o; have := HB6.out.size; have := HB5.out.size; have := HQ2.out; omega
       clear ho6 hg6)
    | (at_builtin
       refine wpList_appHC (n := es.length) (m := 1) (ys := [.int .i64 (e : Int), .slice A6 l.length cap6]) (by rfl) _ _ 56 62 (by rfl) Try.underlying56 hie hze0 hze1 hze2 (by rfl) (by omega) (by rfl) (HHA.out _) (HQA.out _) (by rfl) (by rfl) (two_cells2 _ _ _ _) (two_vals _ _ _ _) (by have := HES.out; omega) (by have := HES.out; omega) ?_
       intro g7 v7 w7 ho7 hO7 hg7
       obtain ⟨A7, c7, hv7, _⟩ := id ho7.slice
       subst hv7
       have hb7 : Below w2.heap.size w2 w7 := ((HB5.out.trans (HB6.out.mono HB5.out.size)).trans ((alloc_below w6 _).mono (by have := HB5.out.size; have := HB6.out.size; omega))).trans (hO7.below (by have := alloc_size w6 (.cells #[.int .i64 (e : Int), .slice A6 l.length cap6] 62); have := HB5.out.size; have := HB6.out.size; omega) (fun j e => by have := e.1; have := HG5.out; omega))
       have hx7 := (hb7.block q HQ2.out).trans HX2.out
       obtain ⟨z0, z1⟩ := box2 hx7
       have f1 : w7.frozen? ⟨q, 1, none⟩ = false := by simp [World.frozen?, hx7]
       have HY : Hid (RaT w B q p b e s X es l (.returned (.tuple #[.int .i64 (e : Int), .int .i64 0])) (w7.setCell ⟨q, 1, none⟩ (.slice A7 (es.length + 1) c7))) := Lib.hid (rw_app HH.out HB1.out HD2.out.1 HD2.out.2.2.1 HD2.out.2.2.2 HB5.out HG5.out.1 HG5.out.2 HO6.out HB6.out ho7 hO7 hg7 rfl rfl HD2.out.2.1)
       clear ho7 hO7 hg7 hb7 hx7))
  go_ret2
  exact HY.out
end Go.Proofs.Ytgdofnbnahpedaa

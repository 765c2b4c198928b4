/- The document's Open. -/
import Derived.Test.YtgdofnbnahpedaaLK
namespace Go.Proofs.Ytgdofnbnahpedaa
open Go.RowKit

set_option maxRecDepth 100000 in
theorem rscan_none {w : World} {q cap : Nat} (A : Option Addr) (b : Int) : Calls Try.prog 70 #[.slice A 0 cap, .int .i64 b] w (ScT w q b []) := by
  have HST : Hid (∀ W, Below w.heap.size w W → ScL w q b [] (.slice none 0 0) (.int .i64 0) W) := Lib.hid fun W h => ⟨0, q, [], rfl, Nat.zero_le _, rfl, .inl ⟨rfl, rfl, rfl, rfl⟩, .inl rfl, (fun x hx => by cases hx), h⟩
  have HYE : Hid (∀ W', Below w.heap.size w W' → ScT w q b [] (.returned (.tuple #[.slice none 0 0, .int .i64 0])) W') := Lib.hid fun W' h => sc_end (rs := []) (es := []) (W := w) (gA := q) (w := w) rfl (.inl ⟨rfl, rfl, rfl, rfl⟩) (.inl rfl) (fun x hx => by cases hx) (Below.refl _ _) h 0 (by rfl)
  go_enter Try.func70, Try.ntmps70
  go_wp2_with fail
  go_loopw [6, 7] (fun v6 v7 wr => v6 = .slice none 0 0 ∧ v7 = .int .i64 0 ∧ wr = w) (fun _ _ _ => 0)
  case atStart => exact ⟨rfl, rfl, rfl⟩
  case round =>
    obtain ⟨rfl, rfl, rfl⟩ := hrel
    go_wp2_with fail
    first | go_ret2 | go_ret
    exact HYE.out _ (Below.refl _ _)
/-- what Open answers -/
def RoT (w : World) (B p g b : Nat) (X : List UInt8) (rs : List (List UInt8)) (en : Ending) (w' : World) : Prop := ∃ q d es, en = .returned (.pointer (some ⟨q, 0, none⟩)) ∧ Rw w' B q p g d b (b + (bytesOf rs).length) (b + (bytesOf rs).length) X es ∧ es.map BEnt.says = entsOf (b : Int) rs ∧ w.heap.size ≤ q ∧ w.heap.size ≤ d ∧ Only (fun k => k = p) w w' ∧ ∀ x ∈ es, x.fresh w.heap.size
theorem rw_open {w w1 w2 w3 : World} {B p g b e' gq cap n : Nat} {X : List UInt8} {rs : List (List UInt8)} {es : List BEnt} {A : Option Addr} (hpl : p < w.heap.size) (hgl : g < w.heap.size) (hb1 : Below w.heap.size w w1) (hm : es.map BEnt.says = entsOf (b : Int) rs) (hh : HeldC w2 p gq 2 (.slice A n cap) n (entsV es)) (hn : n = rs.length) (hgq : gq = p ∨ w1.heap.size ≤ gq) (hok : EntsOk w1 w2 gq es) (hb2 : Below w1.heap.size w1 w2) (hd : Mk w3 B p g b e' e' X) (hO : Only (fun k => k = p) w2 w3) (he' : e' = b + (bytesOf rs).length) :
    RoT w B p g b X rs (.returned (.pointer (some ⟨w3.heap.size, 0, none⟩))) (w3.alloc (.cells #[.pointer (some ⟨p, 0, none⟩), .slice A n cap] 58)) := by
  subst he'
  have hel : es.length = n := by rw [hn, ← entsOf_len (b : Int) rs, ← hm, List.length_map]
  subst hel
  have s1 := hb1.size
  have s2 := hb2.size
  have s3 := hO.size
  have hdg := hd.ge
  have hOa : Only (fun k => k = p) w (w3.alloc (.cells #[.pointer (some ⟨p, 0, none⟩), .slice A es.length cap] 58)) :=
    ((Only.of_below (hb1.trans (hb2.mono s1))).trans hO (fun _ _ e => e)).trans (Only.of_below (K := fun k => k = p) (alloc_below w3 _)) (fun _ _ e => e)
  have hO2 : Only (fun k => k = p) w2 (w3.alloc (.cells #[.pointer (some ⟨p, 0, none⟩), .slice A es.length cap] 58)) := hO.trans (Only.of_below (K := fun k => k = p) (alloc_below w3 _)) (fun _ _ e => e)
  have hents : ∀ d', d' = w3.heap.size ∨ d' = gq → ∀ x ∈ es, RdB (w3.alloc (.cells #[.pointer (some ⟨p, 0, none⟩), .slice A es.length cap] 58)) (w3.alloc (.cells #[.pointer (some ⟨p, 0, none⟩), .slice A es.length cap] 58)).heap.size x.A x.l ∧ (x.l ≠ [] → ∀ ad, x.A = some ad → B ≤ ad.block ∧ ad.block ≠ w3.heap.size ∧ ad.block ≠ p ∧ ad.block ≠ g ∧ ad.block ≠ d') := fun d' hd' x hx => by
    obtain ⟨h1, h2⟩ := hok x hx
    refine ⟨h1.only hO2 (fun hn ad e e2 => by have := h2 hn ad e; omega), fun hn ad e => ?_⟩
    have h3 := h2 hn ad e
    obtain ⟨ad', e4, hlt, _⟩ := h1 hn
    rw [e] at e4
    injection e4 with e4
    subst e4
    omega
  have hfr : ∀ x ∈ es, x.fresh w.heap.size := fun x hx hn ad e => by have := (hok x hx).2 hn ad e; omega
  rcases hh with ⟨e1, e2, e3, rfl⟩ | ⟨hne, o, cap', e1, ho⟩
  · refine ⟨w3.heap.size, w3.heap.size, es, rfl, ⟨⟨A, cap, heap_alloc_new w3 _, .inl ⟨e1, e2, e3, rfl⟩⟩, hd.below (alloc_below w3 _), ⟨by omega, by omega⟩, by omega, hents _ (.inl rfl)⟩, hm, by omega, by omega, hOa, hfr⟩
  · have hgl2 := ho.lt
    refine ⟨w3.heap.size, gq, es, rfl, ⟨⟨A, cap, heap_alloc_new w3 _, .inr ⟨by omega, o, cap', e1, ho.only hO2 (fun e => hne e)⟩⟩, hd.below (alloc_below w3 _), ⟨by omega, by omega⟩, by omega, hents _ (.inr rfl)⟩, hm, by omega, by omega, hOa, hfr⟩
set_option maxRecDepth 100000 in
set_option maxHeartbeats 2000000 in
theorem rwopen_any {w : World} {B p g b e s : Nat} {X : List UInt8} (h : Mk w B p g b e s X) (hB : B ≤ w.heap.size) (rs : List (List UInt8)) (t : List UInt8) (hl : (X.drop b).take (e - b) = bytesOf rs ++ t) (ht : firstL t = 0) (hrs : ∀ r ∈ rs, 1 ≤ r.length ∧ r.length ≤ 4096) :
    Calls Try.prog 19 #[.pointer (some ⟨p, 0, none⟩)] w (RoT w B p g b X rs) := by
  have HD := Lib.hid h
  have HBB := Lib.hid hB
  have hbe : b ≤ e := Nat.le_trans h.bs h.se
  have hex := h.ex
  have hsm := h.small
  have hlen : (bytesOf rs ++ t).length = e - b := by rw [← hl, List.length_take, List.length_drop]; omega
  obtain ⟨D, hDD⟩ : ∃ D, D = bytesOf rs ++ t := ⟨_, rfl⟩
  have HRD := Lib.hid (fun W hW => rread_yes (w := W) (h.below hW) b e (Nat.le_refl _) hbe (Nat.le_refl _) D (hDD.trans hl.symm))
  have HDD := Lib.hid hDD
  clear hDD
  have HPL := Lib.hid (And.intro h.lt h.dlt)
  obtain ⟨A0, cap0, hx, _⟩ := h.box
  have HX := Lib.hid hx
  obtain ⟨N, hN⟩ : ∃ N, N = (bytesOf rs).length := ⟨_, rfl⟩
  obtain ⟨T, hT⟩ : ∃ T, T = t.length := ⟨_, rfl⟩
  have hNT : e = b + N + T := by rw [List.length_append] at hlen; omega
  subst hNT
  have HN := Lib.hid hN
  have HT := Lib.hid hT
  have HTT := Lib.hid ht
  have HRS := Lib.hid hrs
  have hbi : (b : Int) ≤ 100000 := by omega
  have hNi : (N : Int) ≤ 100000 := by omega
  have hTi : (T : Int) ≤ 100000 := by omega
  have HS0 : Hid (∀ W : World, Below w.heap.size w W → W.cell? ⟨p, 1, none⟩ = some (.int .i64 (b : Int)) ∧ W.cell? ⟨p, 2, none⟩ = some (.int .i64 ((b + N + T : Nat) : Int))) := Lib.hid fun W hW => by
    obtain ⟨_, c1, c2, _⟩ := box4 ((hW.block p HPL.out.1).trans HX.out)
    exact ⟨c1, c2⟩
  have HSC : Hid (∀ W v, OwnB W w.heap.size v D → Below w.heap.size w W → Calls Try.prog 70 #[v, .int .i64 (b : Int)] W (ScT W p (b : Int) rs)) := Lib.hid fun W v ho hb => by
    rw [HDD.out] at ho
    have hpW : p < W.heap.size := by have := hb.size; have := HPL.out.1; omega
    rcases Nat.eq_zero_or_pos (bytesOf rs ++ t).length with h0 | h0
    · have hrs0 : rs = [] := by
        have := bytesOf_len rs
        rw [List.length_append] at h0
        exact List.length_eq_zero_iff.1 (by omega)
      obtain ⟨_, A, cap, rfl, _⟩ := ho
      rw [h0]
      subst hrs0
      exact rscan_none A b
    · obtain ⟨g2, cap2, rfl, hg2⟩ := ho.head h0
      have hrm : (bytesOf rs ++ t).length ≤ cap2 := by
        obtain ⟨_, A, cap, e, hc⟩ := ho
        injection e with e1 e2 e3
        subst e3
        exact hc
      exact rscan_any hpW rs t HTT.out HRS.out rfl hrm (by rw [List.length_append, ← HN.out, ← HT.out]; omega) (b : Int) (by omega) (by omega) ho.rd
  clear h hB hl ht hrs hx hlen hN hT hbe hex hsm
  by_cases hT0 : 0 < T
  · have hTp : (0 : Int) < (T : Int) := by omega
    have hTp2 : (N : Int) < (N : Int) + (T : Int) := by omega
    go_enter Try.func19, Try.ntmps19
    go_wp2_with fail
    go_region_held3 (fun W => W.cell? ⟨p, 1, none⟩ = some (.int .i64 (b : Int)) ∧ W.cell? ⟨p, 2, none⟩ = some (.int .i64 ((b + N + T : Nat) : Int)))
      (first
        | exact HS0.out _ HB1.out
        | exact HS0.out _ (drew_below _))
      (first
      | (go_at_call 69; refine (HRD.out _ (drew_below _)).mono ?_; rintro en w1 ⟨v1, rfl, ho1, hb1⟩
         obtain ⟨_, A1, cap1, hv1, _⟩ := id ho1
         subst hv1
         have HB1 := Lib.hid ((drew_below w).trans hb1)
         have HO1 := Lib.hid (ho1.lower (drew_below w).size)
         have HLN : Hid (((D.length : Nat) : Int) = (N : Int) + (T : Int)) := Lib.hid (by rw [HDD.out, List.length_append, ← HN.out, ← HT.out]; omega)
         clear ho1 hb1)
      | fail)
    have hx1 := (HS0.out _ HB1.out).1
    go_wp2_with (first
      | (go_at_call 70; refine (HSC.out _ _ HO1.out HB1.out).mono ?_; rintro en w2 ⟨A2, cap2, gq, es, rfl, hm, hh, hgq, hok, hb2⟩
         rw [← HN.out]
         have hd1 := HLN.out
         have HB2 := Lib.hid (HB1.out.trans (hb2.mono HB1.out.size))
         have HP2 := Lib.hid (And.intro hm (And.intro hh (And.intro hgq (And.intro hok hb2))))
         have hx2 := (HS0.out _ HB2.out).1
         clear hm hh hgq hok hb2)
      | (go_at_call 71; refine (rcut_yes (HD.out.below HB2.out) (b + N) (by omega) (by omega)).mono ?_; rintro en w3 ⟨rfl, hd, hO⟩
         have HP3 := Lib.hid (And.intro hd hO)
         clear hd hO))
    go_ret
    exact rw_open HPL.out.1 HPL.out.2 HB1.out HP2.out.1 HP2.out.2.1 rfl HP2.out.2.2.1 HP2.out.2.2.2.1 HP2.out.2.2.2.2 HP3.out.1 HP3.out.2 (by rw [← HN.out])
  · obtain rfl : T = 0 := by omega
    clear hT0
    simp only [Nat.add_zero] at HD HRD HS0
    go_enter Try.func19, Try.ntmps19
    go_wp2_with fail
    go_region_held3 (fun W => W.cell? ⟨p, 1, none⟩ = some (.int .i64 (b : Int)) ∧ W.cell? ⟨p, 2, none⟩ = some (.int .i64 ((b + N : Nat) : Int)))
      (first
        | exact HS0.out _ HB1.out
        | exact HS0.out _ (drew_below _))
      (first
      | (go_at_call 69; refine (HRD.out _ (drew_below _)).mono ?_; rintro en w1 ⟨v1, rfl, ho1, hb1⟩
         obtain ⟨_, A1, cap1, hv1, _⟩ := id ho1
         subst hv1
         have HB1 := Lib.hid ((drew_below w).trans hb1)
         have HO1 := Lib.hid (ho1.lower (drew_below w).size)
         have HLN : Hid (((D.length : Nat) : Int) = (N : Int)) := Lib.hid (by rw [HDD.out, List.length_append, ← HN.out, ← HT.out]; omega)
         clear ho1 hb1)
      | fail)
    have hx1 := (HS0.out _ HB1.out).1
    go_wp2_with (first
      | (go_at_call 70; refine (HSC.out _ _ HO1.out HB1.out).mono ?_; rintro en w2 ⟨A2, cap2, gq, es, rfl, hm, hh, hgq, hok, hb2⟩
         rw [← HN.out]
         have hd1 := HLN.out
         have HB2 := Lib.hid (HB1.out.trans (hb2.mono HB1.out.size))
         have HP2 := Lib.hid (And.intro hm (And.intro hh (And.intro hgq (And.intro hok hb2))))
         have hx2 := (HS0.out _ HB2.out).1
         clear hm hh hgq hok hb2)
      | (go_at_call 23; refine (rsync_any (HD.out.below HB2.out)).mono ?_; rintro en w3 ⟨rfl, hd, hO⟩
         have HP3 := Lib.hid (And.intro hd hO)
         clear hd hO))
    go_ret
    exact rw_open HPL.out.1 HPL.out.2 HB1.out HP2.out.1 HP2.out.2.1 rfl HP2.out.2.2.1 HP2.out.2.2.2.1 HP2.out.2.2.2.2 HP3.out.1 HP3.out.2 (by rw [← HN.out])
end Go.Proofs.Ytgdofnbnahpedaa

/- FaultPlays's walk over what built leaves. -/
import Derived.Test.YtdfmmphoccfacaaDoorU
namespace Go.Proofs.YtdfmmphoccfacaaDoor
open Go.RowKit Go.Extern.Stop Go.Stop Go.Extern

theorem places_n (t : Tree) (n : Nat) (hn : t.codes.length = n) (w : World) (h : Rep w t) (hm : n ≤ 1000000) : Calls Tryd.prog 11 #[t.val] w (ListN t.places n w) := by
  subst hn
  refine (places_any t w h (by rw [Tree.places_len]; exact hm)).mono ?_
  rintro e w' ⟨v, rfl, hb, ho⟩
  by_cases h0 : 0 < t.places.length
  · obtain ⟨g, cap, rfl, _, hc⟩ := own_get ho (by rw [vals_len]; exact h0)
    refine ⟨some ⟨g, 0, none⟩, cap, by rw [vals_len, Tree.places_len], hb, fun j c hj => ⟨g, rfl, hc j _ (by simp [vals, hj])⟩⟩
  · obtain ⟨pa, cap, rfl⟩ := own_slice ho
    have hz : t.places = [] := List.length_eq_zero_iff.1 (by omega)
    rw [Tree.places_len]
    exact ⟨pa, cap, rfl, hb, fun j c hj => by rw [hz] at hj; simp at hj⟩
/-- all that the calls of a round answer, of an error whose value is v -/
structure Calls5 (t : Tree) (v : Value) (n : Nat) (code c0 p0 : Int) (hv : Bool) : Prop where
  cds : ∀ wc, Rep wc t → Calls Tryd.prog 10 #[v] wc (ListN t.codes n wc)
  pls : ∀ wc, Rep wc t → Calls Tryd.prog 11 #[v] wc (ListN t.places n wc)
  cde : ∀ wc, Rep wc t → Handle wc → Calls Tryd.prog 12 #[v] wc (Ans (.int .i64 c0) wc)
  plc : ∀ wc, Rep wc t → Handle wc → Calls Tryd.prog 13 #[v] wc (Ans (.int .i64 p0) wc)
  dep : ∀ wc, Rep wc t → Calls Tryd.prog 14 #[v] wc (Ans (.int .i64 (t.deep : Int)) wc)
  hs : ∀ wc, Rep wc t → Calls Tryd.prog 15 #[v, .int .i64 code] wc (Ans (.bool hv) wc)
theorem calls5 (t : Tree) (n : Nat) (code c0 p0 : Int) (hv : Bool) (hn : t.codes.length = n) (hm : n ≤ 1000000) (hz : ∀ c ∈ t.codes, c ≠ 0) (h0 : t.codes.headD 0 = c0) (h1 : t.places.headD (-1) = p0) (hh : hasB code t.codes n = hv) : Calls5 t t.val n code c0 p0 hv := by
  refine ⟨fun wc h => codes_n t _ _ rfl hn _ h hm, fun wc h => places_n t _ hn _ h hm, fun wc h k => ?_, fun wc h k => ?_, fun wc h => ?_, fun wc h => ?_⟩
  · have := code_any t wc h k
    rwa [h0] at this
  · have := at_any t wc h k
    rwa [h1] at this
  · refine (deep_any t wc h).mono ?_
    rintro e w' ⟨rfl, rfl⟩
    exact ⟨rfl, Below.refl _ _⟩
  · have := has_any t code wc h
    rwa [← hasB_all code t.codes hz, hn, hh] at this
structure PS (w0 : World) (t : Tree) (qa qb : Option Addr) (W : World) : Prop where
  tr : Rep W t
  q : Cells W qa t.codes
  r : Cells W qb t.places
  han : Handle W
  bel : Below w0.heap.size w0 W
theorem PS.next {w0 W V : World} {t : Tree} {qa qb : Option Addr} (h : PS w0 t qa qb W) (hb : Below W.heap.size W V) : PS w0 t qa qb V := ⟨h.tr.below hb, h.q.below hb, h.r.below hb, h.han.below hb, h.bel.trans (hb.mono h.bel.size)⟩

set_option maxRecDepth 100000 in
set_option maxHeartbeats 8000000 in
theorem plays_law (sl : Value) (code : Int) (w : World) (hg : Handle w) (HB : Hid (Calls Tryd.prog 8 #[sl] w (BuiltItems w))) :
    Calls Tryd.prog 3 #[sl, .int .i64 code] w (Ans (.bool true) w) := by
  have HG := Lib.hid hg
  clear hg
  go_enter Tryd.func3, Tryd.ntmps3
  go_wp2_with (first
    | (go_at_call 8; refine HB.out.mono ?_; rintro e w1 ⟨g, m, cap, gt, capt, ts, rfl, hm, hts, hb⟩
       have HT := Lib.hid hts
       have HG1 := Lib.hid (HG.out.below hb)
       have HB1 := Lib.hid hb
       clear hts hb))
  have hm0 : (0 : Int) ≤ (m : Int) := Int.natCast_nonneg _
  have hm14 : (m : Int) ≤ 14 := by omega
  go_loopw [7] (fun v7 wr => HOut w1 m v7 wr) (fun v7 _ => (m + 1) - (intOf v7).toNat)
  case atStart => exact ⟨0, rfl, by omega, Below.refl _ _⟩
  case round =>
    obtain ⟨i, rfl, hi, hbr⟩ := hrel
    have hi0 : (0 : Int) ≤ (i : Int) := Int.natCast_nonneg _
    by_cases hle : i ≤ m
    · obtain ⟨c1, r1, n1, d1, qa, qb, dc, dp, q0, q1, q2, hQ, hR⟩ := HT.out i hle
      have hlt : (i : Int) < (m : Int) + 1 := by omega
      have HX : Hid (∀ w', Below wr.heap.size wr w' → HOut w1 m (.int .i64 ((i : Int) + 1)) w') := fun w' hb' => hout_next hle hbr hb'
      have bel := HB1.out.trans (hbr.mono HB1.out.size)
      have P := Lib.hid (PS.mk (r1.below hbr) (hQ.below hbr) (hR.below hbr) (HG1.out.below hbr) bel)
      have hci : wr.cell? ⟨g, i, none⟩ = some (ts i).val := (hbr.cell (p := ⟨g, i, none⟩) (World.block_lt_of_cell? _ _ c1)).trans c1
      have hq0 : wr.cell? ⟨gt, i * 3, none⟩ = some (.slice qa (ts i).codes.length dc) := (hbr.cell (p := ⟨gt, i * 3, none⟩) (World.block_lt_of_cell? _ _ q0)).trans q0
      have hq1 : wr.cell? ⟨gt, i * 3 + 1, none⟩ = some (.slice qb (ts i).codes.length dp) := (hbr.cell (p := ⟨gt, i * 3 + 1, none⟩) (World.block_lt_of_cell? _ _ q1)).trans q1
      have hq2 : wr.cell? ⟨gt, i * 3 + 2, none⟩ = some (.int .i64 ((ts i).deep : Int)) := (hbr.cell (p := ⟨gt, i * 3 + 2, none⟩) (World.block_lt_of_cell? _ _ q2)).trans q2
      generalize ts i = t at n1 d1 hci hq0 hq1 hq2 P
      clear c1 r1 q0 q1 q2 hQ hR hbr bel
      obtain ⟨n, hn⟩ : ∃ n, t.codes.length = n := ⟨_, rfl⟩
      rw [hn] at n1 hq0 hq1
      have hz := P.out.tr.no_zero
      obtain ⟨hv, hhv⟩ : ∃ hv, hasB code t.codes n = hv := ⟨_, rfl⟩
      have HN := Lib.hid hn
      have HHV := Lib.hid hhv
      have HPL := Lib.hid (Tree.places_len t)
      have hd0 : (0 : Int) ≤ (t.deep : Int) := Int.natCast_nonneg _
      have hn0 : (0 : Int) ≤ (n : Int) := Int.natCast_nonneg _
      have hn1 : (n : Int) ≤ 16384 := by omega
      by_cases ht : t = .nil
      · have hnz : n = 0 := by rw [← hn, ht]; rfl
        have C5 := Lib.hid (calls5 t n code 0 (-1) hv hn (by omega) hz (by rw [ht]; rfl) (by rw [ht]; rfl) hhv)
        have hval : t.val = .nilIface := by rw [ht]; rfl
        rw [hval] at hci C5
        clear hn hhv hz ht hval
        subst hnz
        go_wp2_with fail
        have P := Lib.hid (P.out.next ((alloc_below _ (.cells #[.slice qa 0 dc, .slice qb 0 dp, .int .i64 (t.deep : Int)] 33)).drew))
        have HX : Hid (∀ w', Below (wr.alloc (.cells #[.slice qa 0 dc, .slice qb 0 dp, .int .i64 (t.deep : Int)] 33)).drew.heap.size (wr.alloc (.cells #[.slice qa 0 dc, .slice qb 0 dp, .int .i64 (t.deep : Int)] 33)).drew w' → HOut w1 m (.int .i64 ((i : Int) + 1)) w') := Lib.hid (fun w' hb' => HX.out w' (((alloc_below wr (.cells #[.slice qa 0 dc, .slice qb 0 dp, .int .i64 (t.deep : Int)] 33)).drew).trans (Below.mono hb' ((alloc_below wr (.cells #[.slice qa 0 dc, .slice qb 0 dp, .int .i64 (t.deep : Int)] 33)).drew).size)))
        have hx0 : (wr.alloc (.cells #[.slice qa 0 dc, .slice qb 0 dp, .int .i64 (t.deep : Int)] 33)).drew.cell? ⟨wr.heap.size, 0, none⟩ = some (.slice qa 0 dc) := World.cell?_alloc_new _ _ _ _
        have hx1 : (wr.alloc (.cells #[.slice qa 0 dc, .slice qb 0 dp, .int .i64 (t.deep : Int)] 33)).drew.cell? ⟨wr.heap.size, 1, none⟩ = some (.slice qb 0 dp) := World.cell?_alloc_new _ _ _ _
        have hx2 : (wr.alloc (.cells #[.slice qa 0 dc, .slice qb 0 dp, .int .i64 (t.deep : Int)] 33)).drew.cell? ⟨wr.heap.size, 2, none⟩ = some (.int .i64 (t.deep : Int)) := World.cell?_alloc_new _ _ _ _
        go_region_held3 (fun w' => w'.cell? ⟨wr.heap.size, 0, none⟩ = some (.slice qa 0 dc) ∧ w'.cell? ⟨wr.heap.size, 1, none⟩ = some (.slice qb 0 dp) ∧ w'.cell? ⟨wr.heap.size, 2, none⟩ = some (.int .i64 (t.deep : Int)))
          (first
            | exact ⟨hx0, hx1, hx2⟩
            | go_keep)
          (first
            | (go_at_call 10; refine (C5.out.cds _ (by exact P.out.tr)).mono ?_; rintro e w5 ⟨pa, ca, rfl, hb, ha⟩
               have P := Lib.hid (P.out.next hb)
               have HX := Lib.hid (fun w' hb' => HX.out w' (hb.trans (Below.mono hb' hb.size)))
               have hx0 := (hb.cell (p := ⟨wr.heap.size, 0, none⟩) (World.block_lt_of_cell? _ _ hx0)).trans hx0
               have hx1 := (hb.cell (p := ⟨wr.heap.size, 1, none⟩) (World.block_lt_of_cell? _ _ hx1)).trans hx1
               have hx2 := (hb.cell (p := ⟨wr.heap.size, 2, none⟩) (World.block_lt_of_cell? _ _ hx2)).trans hx2
               try (have A := Lib.hid (A.out.below hb))
               try (have B := Lib.hid (B.out.below hb))
               have A := Lib.hid ha
               clear ha)
            | (go_at_call 11; refine (C5.out.pls _ (by exact P.out.tr)).mono ?_; rintro e w5 ⟨pb, cb, rfl, hb, ha⟩
               have P := Lib.hid (P.out.next hb)
               have HX := Lib.hid (fun w' hb' => HX.out w' (hb.trans (Below.mono hb' hb.size)))
               have hx0 := (hb.cell (p := ⟨wr.heap.size, 0, none⟩) (World.block_lt_of_cell? _ _ hx0)).trans hx0
               have hx1 := (hb.cell (p := ⟨wr.heap.size, 1, none⟩) (World.block_lt_of_cell? _ _ hx1)).trans hx1
               have hx2 := (hb.cell (p := ⟨wr.heap.size, 2, none⟩) (World.block_lt_of_cell? _ _ hx2)).trans hx2
               try (have A := Lib.hid (A.out.below hb))
               try (have B := Lib.hid (B.out.below hb))
               have B := Lib.hid ha
               clear ha)
            | (go_at_call 9; refine (same_any t.codes t.places 0 _ _ _ _ _ _ _ _ _ _ HN.out (by rw [HPL.out]; exact HN.out) (by omega) (by exact A.out) (by exact B.out) (by exact P.out.q) (by exact P.out.r)).mono ?_; rintro e w5 ⟨rfl, hb⟩
               have P := Lib.hid (P.out.next hb)
               have HX := Lib.hid (fun w' hb' => HX.out w' (hb.trans (Below.mono hb' hb.size)))
               have hx0 := (hb.cell (p := ⟨wr.heap.size, 0, none⟩) (World.block_lt_of_cell? _ _ hx0)).trans hx0
               have hx1 := (hb.cell (p := ⟨wr.heap.size, 1, none⟩) (World.block_lt_of_cell? _ _ hx1)).trans hx1
               have hx2 := (hb.cell (p := ⟨wr.heap.size, 2, none⟩) (World.block_lt_of_cell? _ _ hx2)).trans hx2
               try (have A := Lib.hid (A.out.below hb))
               try (have B := Lib.hid (B.out.below hb))))
        go_wp2_with fail
        have HRH : Hid (∀ wc, Cells wc qa t.codes → Calls Tryd.prog 16 #[.agg #[.slice qa 0 dc, .slice qb 0 dp, .int .i64 (t.deep : Int)], .int .i64 code] wc (Ans (.bool hv) wc)) := Lib.hid (fun wc hc => by
          have := refHas_any t.codes 0 qa dc (.slice qb 0 dp) (t.deep : Int) code _ _ _ rfl wc HN.out (by omega) hc
          rwa [HHV.out] at this)
        have P := Lib.hid (P.out.next (drew_below _))
        have HX := Lib.hid (fun w' hb' => HX.out w' ((drew_below _).trans hb'))
        go_region_held3 (fun w' => w'.cell? ⟨wr.heap.size, 0, none⟩ = some (.slice qa 0 dc) ∧ w'.cell? ⟨wr.heap.size, 1, none⟩ = some (.slice qb 0 dp) ∧ w'.cell? ⟨wr.heap.size, 2, none⟩ = some (.int .i64 (t.deep : Int)))
          (first
            | exact ⟨hx0, hx1, hx2⟩
            | go_keep)
          (first
            | (go_at_call 12; refine (C5.out.cde _ (by exact P.out.tr) (by exact P.out.han)).mono ?_; rintro e w5 ⟨rfl, hb⟩
               have P := Lib.hid (P.out.next hb)
               have HX := Lib.hid (fun w' hb' => HX.out w' (hb.trans (Below.mono hb' hb.size)))
               have hx0 := (hb.cell (p := ⟨wr.heap.size, 0, none⟩) (World.block_lt_of_cell? _ _ hx0)).trans hx0
               have hx1 := (hb.cell (p := ⟨wr.heap.size, 1, none⟩) (World.block_lt_of_cell? _ _ hx1)).trans hx1
               have hx2 := (hb.cell (p := ⟨wr.heap.size, 2, none⟩) (World.block_lt_of_cell? _ _ hx2)).trans hx2
               try (have A := Lib.hid (A.out.below hb))
               try (have B := Lib.hid (B.out.below hb)))
            | (go_at_call 13; refine (C5.out.plc _ (by exact P.out.tr) (by exact P.out.han)).mono ?_; rintro e w5 ⟨rfl, hb⟩
               have P := Lib.hid (P.out.next hb)
               have HX := Lib.hid (fun w' hb' => HX.out w' (hb.trans (Below.mono hb' hb.size)))
               have hx0 := (hb.cell (p := ⟨wr.heap.size, 0, none⟩) (World.block_lt_of_cell? _ _ hx0)).trans hx0
               have hx1 := (hb.cell (p := ⟨wr.heap.size, 1, none⟩) (World.block_lt_of_cell? _ _ hx1)).trans hx1
               have hx2 := (hb.cell (p := ⟨wr.heap.size, 2, none⟩) (World.block_lt_of_cell? _ _ hx2)).trans hx2
               try (have A := Lib.hid (A.out.below hb))
               try (have B := Lib.hid (B.out.below hb)))
            | (go_at_call 14; refine (C5.out.dep _ (by exact P.out.tr)).mono ?_; rintro e w5 ⟨rfl, hb⟩
               have P := Lib.hid (P.out.next hb)
               have HX := Lib.hid (fun w' hb' => HX.out w' (hb.trans (Below.mono hb' hb.size)))
               have hx0 := (hb.cell (p := ⟨wr.heap.size, 0, none⟩) (World.block_lt_of_cell? _ _ hx0)).trans hx0
               have hx1 := (hb.cell (p := ⟨wr.heap.size, 1, none⟩) (World.block_lt_of_cell? _ _ hx1)).trans hx1
               have hx2 := (hb.cell (p := ⟨wr.heap.size, 2, none⟩) (World.block_lt_of_cell? _ _ hx2)).trans hx2
               try (have A := Lib.hid (A.out.below hb))
               try (have B := Lib.hid (B.out.below hb)))
            | (go_at_call 15; refine (C5.out.hs _ (by exact P.out.tr)).mono ?_; rintro e w5 ⟨rfl, hb⟩
               have P := Lib.hid (P.out.next hb)
               have HX := Lib.hid (fun w' hb' => HX.out w' (hb.trans (Below.mono hb' hb.size)))
               have hx0 := (hb.cell (p := ⟨wr.heap.size, 0, none⟩) (World.block_lt_of_cell? _ _ hx0)).trans hx0
               have hx1 := (hb.cell (p := ⟨wr.heap.size, 1, none⟩) (World.block_lt_of_cell? _ _ hx1)).trans hx1
               have hx2 := (hb.cell (p := ⟨wr.heap.size, 2, none⟩) (World.block_lt_of_cell? _ _ hx2)).trans hx2
               try (have A := Lib.hid (A.out.below hb))
               try (have B := Lib.hid (B.out.below hb)))
            | (go_at_call 16; refine (HRH.out _ (by exact P.out.q)).mono ?_; rintro e w5 ⟨rfl, hb⟩
               have P := Lib.hid (P.out.next hb)
               have HX := Lib.hid (fun w' hb' => HX.out w' (hb.trans (Below.mono hb' hb.size)))
               have hx0 := (hb.cell (p := ⟨wr.heap.size, 0, none⟩) (World.block_lt_of_cell? _ _ hx0)).trans hx0
               have hx1 := (hb.cell (p := ⟨wr.heap.size, 1, none⟩) (World.block_lt_of_cell? _ _ hx1)).trans hx1
               have hx2 := (hb.cell (p := ⟨wr.heap.size, 2, none⟩) (World.block_lt_of_cell? _ _ hx2)).trans hx2
               try (have A := Lib.hid (A.out.below hb))
               try (have B := Lib.hid (B.out.below hb))))
        clear hx0 hx1 hx2
        go_wp2_with fail
        go_roundw
        case rel => exact HX.out _ (Below.refl _ _)
        case measure => simp only [intOf]; omega
      · obtain ⟨T, b, hT, hval⟩ := Tree.val_iface ht
        have hne : t.codes ≠ [] := fun h => ht (P.out.tr.codes_none h)
        obtain ⟨c0, cs, hcs⟩ : ∃ c0 cs, t.codes = c0 :: cs := List.exists_cons_of_ne_nil hne
        obtain ⟨p0, ps, hps⟩ : ∃ p0 ps, t.places = p0 :: ps := List.exists_cons_of_ne_nil (fun h => hne (List.length_eq_zero_iff.1 (by rw [← Tree.places_len, h]; rfl)))
        have hl0 : (0 : Int) < (n : Int) := by rw [← hn, hcs]; simp
        have hlz : ((n : Int) == 0) = false := by simp; omega
        have C5 := Lib.hid (calls5 t n code c0 p0 hv hn (by omega) hz (by rw [hcs]; rfl) (by rw [hps]; rfl) hhv)
        obtain ⟨g3, rfl, y3⟩ := P.out.q 0 c0 (by rw [hcs]; rfl)
        obtain ⟨g4, rfl, y4⟩ := P.out.r 0 p0 (by rw [hps]; rfl)
        have z3 : ∀ o, (wr.alloc o).cell? ⟨g3, 0, none⟩ = some (.int .i64 c0) := fun o => by rw [World.cell?_alloc_past _ _ _ (World.block_lt_of_cell? _ _ y3)]; exact y3
        have z4 : ∀ o, (wr.alloc o).cell? ⟨g4, 0, none⟩ = some (.int .i64 p0) := fun o => by rw [World.cell?_alloc_past _ _ _ (World.block_lt_of_cell? _ _ y4)]; exact y4
        rw [hval] at hci C5
        clear hn hhv hz ht hval hne hcs hps y3 y4
        rcases hT with rfl | rfl
        all_goals
          go_wp2_with fail
          have P := Lib.hid (P.out.next ((alloc_below _ (.cells #[.slice (some ⟨g3, 0, none⟩) n dc, .slice (some ⟨g4, 0, none⟩) n dp, .int .i64 (t.deep : Int)] 33)).drew))
          have HX : Hid (∀ w', Below (wr.alloc (.cells #[.slice (some ⟨g3, 0, none⟩) n dc, .slice (some ⟨g4, 0, none⟩) n dp, .int .i64 (t.deep : Int)] 33)).drew.heap.size (wr.alloc (.cells #[.slice (some ⟨g3, 0, none⟩) n dc, .slice (some ⟨g4, 0, none⟩) n dp, .int .i64 (t.deep : Int)] 33)).drew w' → HOut w1 m (.int .i64 ((i : Int) + 1)) w') := Lib.hid (fun w' hb' => HX.out w' (((alloc_below wr (.cells #[.slice (some ⟨g3, 0, none⟩) n dc, .slice (some ⟨g4, 0, none⟩) n dp, .int .i64 (t.deep : Int)] 33)).drew).trans (Below.mono hb' ((alloc_below wr (.cells #[.slice (some ⟨g3, 0, none⟩) n dc, .slice (some ⟨g4, 0, none⟩) n dp, .int .i64 (t.deep : Int)] 33)).drew).size)))
          have hx0 : (wr.alloc (.cells #[.slice (some ⟨g3, 0, none⟩) n dc, .slice (some ⟨g4, 0, none⟩) n dp, .int .i64 (t.deep : Int)] 33)).drew.cell? ⟨wr.heap.size, 0, none⟩ = some (.slice (some ⟨g3, 0, none⟩) n dc) := World.cell?_alloc_new _ _ _ _
          have hx1 : (wr.alloc (.cells #[.slice (some ⟨g3, 0, none⟩) n dc, .slice (some ⟨g4, 0, none⟩) n dp, .int .i64 (t.deep : Int)] 33)).drew.cell? ⟨wr.heap.size, 1, none⟩ = some (.slice (some ⟨g4, 0, none⟩) n dp) := World.cell?_alloc_new _ _ _ _
          have hx2 : (wr.alloc (.cells #[.slice (some ⟨g3, 0, none⟩) n dc, .slice (some ⟨g4, 0, none⟩) n dp, .int .i64 (t.deep : Int)] 33)).drew.cell? ⟨wr.heap.size, 2, none⟩ = some (.int .i64 (t.deep : Int)) := World.cell?_alloc_new _ _ _ _
          go_region_held3 (fun w' => w'.cell? ⟨wr.heap.size, 0, none⟩ = some (.slice (some ⟨g3, 0, none⟩) n dc) ∧ w'.cell? ⟨wr.heap.size, 1, none⟩ = some (.slice (some ⟨g4, 0, none⟩) n dp) ∧ w'.cell? ⟨wr.heap.size, 2, none⟩ = some (.int .i64 (t.deep : Int)))
            (first
              | exact ⟨hx0, hx1, hx2⟩
              | go_keep)
            (first
              | (go_at_call 10; refine (C5.out.cds _ (by exact P.out.tr)).mono ?_; rintro e w5 ⟨pa, ca, rfl, hb, ha⟩
                 have P := Lib.hid (P.out.next hb)
                 have HX := Lib.hid (fun w' hb' => HX.out w' (hb.trans (Below.mono hb' hb.size)))
                 have hx0 := (hb.cell (p := ⟨wr.heap.size, 0, none⟩) (World.block_lt_of_cell? _ _ hx0)).trans hx0
                 have hx1 := (hb.cell (p := ⟨wr.heap.size, 1, none⟩) (World.block_lt_of_cell? _ _ hx1)).trans hx1
                 have hx2 := (hb.cell (p := ⟨wr.heap.size, 2, none⟩) (World.block_lt_of_cell? _ _ hx2)).trans hx2
                 try (have A := Lib.hid (A.out.below hb))
                 try (have B := Lib.hid (B.out.below hb))
                 have A := Lib.hid ha
                 clear ha)
              | (go_at_call 11; refine (C5.out.pls _ (by exact P.out.tr)).mono ?_; rintro e w5 ⟨pb, cb, rfl, hb, ha⟩
                 have P := Lib.hid (P.out.next hb)
                 have HX := Lib.hid (fun w' hb' => HX.out w' (hb.trans (Below.mono hb' hb.size)))
                 have hx0 := (hb.cell (p := ⟨wr.heap.size, 0, none⟩) (World.block_lt_of_cell? _ _ hx0)).trans hx0
                 have hx1 := (hb.cell (p := ⟨wr.heap.size, 1, none⟩) (World.block_lt_of_cell? _ _ hx1)).trans hx1
                 have hx2 := (hb.cell (p := ⟨wr.heap.size, 2, none⟩) (World.block_lt_of_cell? _ _ hx2)).trans hx2
                 try (have A := Lib.hid (A.out.below hb))
                 try (have B := Lib.hid (B.out.below hb))
                 have B := Lib.hid ha
                 clear ha)
              | (go_at_call 9; refine (same_any t.codes t.places n _ _ _ _ _ _ _ _ _ _ HN.out (by rw [HPL.out]; exact HN.out) (by omega) (by exact A.out) (by exact B.out) (by exact P.out.q) (by exact P.out.r)).mono ?_; rintro e w5 ⟨rfl, hb⟩
                 have P := Lib.hid (P.out.next hb)
                 have HX := Lib.hid (fun w' hb' => HX.out w' (hb.trans (Below.mono hb' hb.size)))
                 have hx0 := (hb.cell (p := ⟨wr.heap.size, 0, none⟩) (World.block_lt_of_cell? _ _ hx0)).trans hx0
                 have hx1 := (hb.cell (p := ⟨wr.heap.size, 1, none⟩) (World.block_lt_of_cell? _ _ hx1)).trans hx1
                 have hx2 := (hb.cell (p := ⟨wr.heap.size, 2, none⟩) (World.block_lt_of_cell? _ _ hx2)).trans hx2
                 try (have A := Lib.hid (A.out.below hb))
                 try (have B := Lib.hid (B.out.below hb))))
          go_wp2_with fail
          have HRH : Hid (∀ wc, Cells wc (some ⟨g3, 0, none⟩) t.codes → Calls Tryd.prog 16 #[.agg #[.slice (some ⟨g3, 0, none⟩) n dc, .slice (some ⟨g4, 0, none⟩) n dp, .int .i64 (t.deep : Int)], .int .i64 code] wc (Ans (.bool hv) wc)) := Lib.hid (fun wc hc => by
            have := refHas_any t.codes n (some ⟨g3, 0, none⟩) dc (.slice (some ⟨g4, 0, none⟩) n dp) (t.deep : Int) code _ _ _ rfl wc HN.out (by omega) hc
            rwa [HHV.out] at this)
          have P := Lib.hid (P.out.next (drew_below _))
          have HX := Lib.hid (fun w' hb' => HX.out w' ((drew_below _).trans hb'))
          go_region_held3 (fun w' => w'.cell? ⟨wr.heap.size, 0, none⟩ = some (.slice (some ⟨g3, 0, none⟩) n dc) ∧ w'.cell? ⟨wr.heap.size, 1, none⟩ = some (.slice (some ⟨g4, 0, none⟩) n dp) ∧ w'.cell? ⟨wr.heap.size, 2, none⟩ = some (.int .i64 (t.deep : Int)))
            (first
              | exact ⟨hx0, hx1, hx2⟩
              | go_keep)
            (first
              | (go_at_call 12; refine (C5.out.cde _ (by exact P.out.tr) (by exact P.out.han)).mono ?_; rintro e w5 ⟨rfl, hb⟩
                 have P := Lib.hid (P.out.next hb)
                 have HX := Lib.hid (fun w' hb' => HX.out w' (hb.trans (Below.mono hb' hb.size)))
                 have hx0 := (hb.cell (p := ⟨wr.heap.size, 0, none⟩) (World.block_lt_of_cell? _ _ hx0)).trans hx0
                 have hx1 := (hb.cell (p := ⟨wr.heap.size, 1, none⟩) (World.block_lt_of_cell? _ _ hx1)).trans hx1
                 have hx2 := (hb.cell (p := ⟨wr.heap.size, 2, none⟩) (World.block_lt_of_cell? _ _ hx2)).trans hx2
                 try (have A := Lib.hid (A.out.below hb))
                 try (have B := Lib.hid (B.out.below hb)))
              | (go_at_call 13; refine (C5.out.plc _ (by exact P.out.tr) (by exact P.out.han)).mono ?_; rintro e w5 ⟨rfl, hb⟩
                 have P := Lib.hid (P.out.next hb)
                 have HX := Lib.hid (fun w' hb' => HX.out w' (hb.trans (Below.mono hb' hb.size)))
                 have hx0 := (hb.cell (p := ⟨wr.heap.size, 0, none⟩) (World.block_lt_of_cell? _ _ hx0)).trans hx0
                 have hx1 := (hb.cell (p := ⟨wr.heap.size, 1, none⟩) (World.block_lt_of_cell? _ _ hx1)).trans hx1
                 have hx2 := (hb.cell (p := ⟨wr.heap.size, 2, none⟩) (World.block_lt_of_cell? _ _ hx2)).trans hx2
                 try (have A := Lib.hid (A.out.below hb))
                 try (have B := Lib.hid (B.out.below hb)))
              | (go_at_call 14; refine (C5.out.dep _ (by exact P.out.tr)).mono ?_; rintro e w5 ⟨rfl, hb⟩
                 have P := Lib.hid (P.out.next hb)
                 have HX := Lib.hid (fun w' hb' => HX.out w' (hb.trans (Below.mono hb' hb.size)))
                 have hx0 := (hb.cell (p := ⟨wr.heap.size, 0, none⟩) (World.block_lt_of_cell? _ _ hx0)).trans hx0
                 have hx1 := (hb.cell (p := ⟨wr.heap.size, 1, none⟩) (World.block_lt_of_cell? _ _ hx1)).trans hx1
                 have hx2 := (hb.cell (p := ⟨wr.heap.size, 2, none⟩) (World.block_lt_of_cell? _ _ hx2)).trans hx2
                 try (have A := Lib.hid (A.out.below hb))
                 try (have B := Lib.hid (B.out.below hb)))
              | (go_at_call 15; refine (C5.out.hs _ (by exact P.out.tr)).mono ?_; rintro e w5 ⟨rfl, hb⟩
                 have P := Lib.hid (P.out.next hb)
                 have HX := Lib.hid (fun w' hb' => HX.out w' (hb.trans (Below.mono hb' hb.size)))
                 have hx0 := (hb.cell (p := ⟨wr.heap.size, 0, none⟩) (World.block_lt_of_cell? _ _ hx0)).trans hx0
                 have hx1 := (hb.cell (p := ⟨wr.heap.size, 1, none⟩) (World.block_lt_of_cell? _ _ hx1)).trans hx1
                 have hx2 := (hb.cell (p := ⟨wr.heap.size, 2, none⟩) (World.block_lt_of_cell? _ _ hx2)).trans hx2
                 try (have A := Lib.hid (A.out.below hb))
                 try (have B := Lib.hid (B.out.below hb)))
              | (go_at_call 16; refine (HRH.out _ (by exact P.out.q)).mono ?_; rintro e w5 ⟨rfl, hb⟩
                 have P := Lib.hid (P.out.next hb)
                 have HX := Lib.hid (fun w' hb' => HX.out w' (hb.trans (Below.mono hb' hb.size)))
                 have hx0 := (hb.cell (p := ⟨wr.heap.size, 0, none⟩) (World.block_lt_of_cell? _ _ hx0)).trans hx0
                 have hx1 := (hb.cell (p := ⟨wr.heap.size, 1, none⟩) (World.block_lt_of_cell? _ _ hx1)).trans hx1
                 have hx2 := (hb.cell (p := ⟨wr.heap.size, 2, none⟩) (World.block_lt_of_cell? _ _ hx2)).trans hx2
                 try (have A := Lib.hid (A.out.below hb))
                 try (have B := Lib.hid (B.out.below hb))))
          clear hx0 hx1 hx2
          go_wp2_with fail
          go_roundw
          case rel => exact HX.out _ (Below.refl _ _)
          case measure => simp only [intOf]; omega
    · have hnlt : ¬ ((i : Int) < (m : Int) + 1) := by omega
      have H1 := Lib.hid (St.mk (t := .nil) trivial (HG1.out.below hbr) (HB1.out.trans (hbr.mono HB1.out.size)))
      clear hbr
      go_wp2_with (go_at_call 17; refine (alive_any _ H1.out.han).mono ?_; rintro e w2 ⟨rfl, hb⟩; have H1 := Lib.hid (H1.out.next hb); clear hb)
      go_ret
      exact ⟨rfl, H1.out.bel⟩
end Go.Proofs.YtdfmmphoccfacaaDoor

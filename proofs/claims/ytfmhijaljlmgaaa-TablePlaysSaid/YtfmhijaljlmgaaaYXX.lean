/- TablePlays: the law. -/
import Derived.Test.YtfmhijaljlmgaaaYW
import Derived.Deep.CutBlock
namespace Go.Proofs.Ytfmhijaljlmgaaa
open Go.RowKit

/-- behind the switch, all named -/
def TpN (w0 : World) (K : Option Addr) (kn : Nat) (G D : Nat → Prop) (q P : Nat) (ps : List Pg) (L : List (List UInt8 × List UInt8)) (A : Option Addr) (n : Nat) (W : World) : Prop := TpS w0 W G D q P ps L A n ∧ FrB W K kn ∧ (0 < kn → ∀ ad, K = some ad → w0.heap.size ≤ ad.block ∧ ¬ G ad.block ∧ ¬ D ad.block ∧ (L ≠ [] → ∀ bd, A = some bd → bd.block ≠ ad.block))
theorem TpN.turn {w0 W : World} {kn g : Nat} {G D : Nat → Prop} {q P : Nat} {ps : List Pg} {L : List (List UInt8 × List UInt8)} {A : Option Addr} {n : Nat} (h : TpN w0 (some ⟨g, 0, none⟩) kn G D q P ps L A n W) (hk : 0 < kn) {k : Nat} {u : Value} (hu : W.cell? ⟨g, k, none⟩ = some u) (z : Int) : TpN w0 (some ⟨g, 0, none⟩) kn G D q P ps L A n (W.setCell ⟨g, k, none⟩ (.int .u8 z)) := by
  obtain ⟨h4, h5, h6⟩ := h
  obtain ⟨a1, a2, a3, a4⟩ := h6 hk _ rfl
  have hO := Only.set W g k (.int .u8 z)
  exact ⟨⟨⟨h4.ta.tb.only hO (fun j hj e => a2 (by subst e; exact hj)) (fun j hj e => a3 (by subst e; exact hj)), h4.ta.kv, h4.ta.ge, h4.ta.bel.trans (hO.below h4.ta.bel.size (fun j e => by rw [e]; exact a1))⟩, h4.rd.only hO (fun hn ad e => a4 hn ad e), h4.len, h4.sep⟩, h5.set hu z, h6⟩
def LpK (w0 : World) (K : Option Addr) (kn : Nat) (G D : Nat → Prop) (q P : Nat) (ps : List Pg) (L : List (List UInt8 × List UInt8)) (A : Option Addr) (n : Nat) (v18 : Value) (W : World) : Prop := ∃ j : Nat, v18 = .int .i64 (j : Int) ∧ j ≤ kn ∧ TpN w0 K kn G D q P ps L A n W
def LpX (wm : World) (m7 : Nat) (A7 : Option Addr) (es7 : List Ent) (v21 : Value) (W : World) : Prop := ∃ j' : Nat, v21 = .int .i64 (j' : Int) ∧ j' ≤ m7 ∧ Below wm.heap.size wm W ∧ (0 < m7 → ∃ bX oX, A7 = some ⟨bX, oX, none⟩ ∧ bX < W.heap.size ∧ TpX wm W bX oX es7)
def LpY (wm : World) (rl bX oX : Nat) (es7 : List Ent) (v22 : Value) (W : World) : Prop := ∃ k' : Nat, v22 = .int .i64 (k' : Int) ∧ k' ≤ rl ∧ bX < W.heap.size ∧ TpX wm W bX oX es7
theorem TaW.lensX {w0 W : World} {G D : Nat → Prop} {q P : Nat} {ps : List Pg} {l : List (List UInt8 × List UInt8)} (h : TaW w0 W G D q P ps l) : ∀ x ∈ l, x.1.length ≤ 100000 ∧ x.2.length ≤ 100000 := by
  rw [← h.kv]
  intro x hx
  obtain ⟨e, he, rfl⟩ := List.mem_map.1 hx
  unfold flat at he
  obtain ⟨p, hp, he⟩ := List.mem_flatMap.1 he
  have h2 := h.tb.t.ents p hp e he
  exact ⟨h2.kl, h2.rl⟩
set_option maxRecDepth 100000 in
set_option maxHeartbeats 4000000 in
/-- Drop of a key that is not there changes nothing -/
theorem w64_next {k : Nat} (h : (k : Int) < 1000000) : wrap64 ((k : Int) + 1) = ((k + 1 : Nat) : Int) := by unfold wrap64; omega
theorem rangeK_sub {f t : List UInt8} {L : List (List UInt8 × List UInt8)} {m : Nat} {x : List UInt8 × List UInt8} (h : x ∈ (rangeK f t L).take m) : x ∈ L := by
  have h1 := List.mem_of_mem_take h
  unfold rangeK at h1
  exact (List.mem_filter.1 h1).1
theorem rows_short {w0 W : World} {G D : Nat → Prop} {q P : Nat} {ps : List Pg} {L R : List (List UInt8 × List UInt8)} {f t : List UInt8} {m rl : Nat} {es : List Ent} {e : Ent} (h : TaW w0 W G D q P ps L) (hR : R = (rangeK f t L).take m) (hk : kv es = R) (he : e ∈ es) (hr : e.r.length = rl) : (rl : Int) ≤ 100000 := by
  have h1 : (e.k, e.r) ∈ R := by rw [← hk]; exact List.mem_map.2 ⟨e, he, rfl⟩
  rw [hR] at h1
  have h2 := (h.lensX _ (rangeK_sub h1)).2
  have h3 : e.r.length ≤ 100000 := h2
  omega
theorem kv_takes (es : List Ent) (m : Nat) : kv (es.take m) = (kv es).take m := by simp [kv, List.map_take]
set_option maxRecDepth 100000 in
set_option maxHeartbeats 32000000 in
theorem tablePlays_law (l : List Act8) (f t : List UInt8) (A F T : Option Addr) (cap fc tc : Nat) (most : Int) (w : World) (hl : l.length ≤ maxLen) (hf : f.length ≤ maxLen) (ht : t.length ≤ maxLen) (hr : RdA8 w w.heap.size A l) (hok : ∀ x ∈ l, x.ok w w.heap.size) (hrf : RdB w w.heap.size F f) (hrt : RdB w w.heap.size T t) :
    Calls Try.prog 3 #[.slice A l.length cap, .agg #[.slice F f.length fc, .slice T t.length tc, .int .i64 most]] w (Ans (.bool true) w) := by
  have AL := Lib.hid alive_table
  have hnil : ∀ (w : World) (a : Option Addr), (binOp .eql 26 (.pointer a) (.pointer none)).run Try.prog w = .ok (.bool a.isNone) w := fun w a => by cases a <;> rfl
  obtain ⟨N, hN⟩ : ∃ n, l.length = n := ⟨_, rfl⟩
  obtain ⟨fn, hfn⟩ : ∃ n, f.length = n := ⟨_, rfl⟩
  obtain ⟨tn, htn⟩ : ∃ n, t.length = n := ⟨_, rfl⟩
  rw [hN, hfn, htn]
  rw [hfn] at hf
  rw [htn] at ht
  rw [hN] at hl
  have hNi : (N : Int) ≤ 9223372036854775807 := by unfold maxLen at hl; omega
  have hfi : (fn : Int) ≤ 9223372036854775807 := by unfold maxLen at hf; omega
  have hti : (tn : Int) ≤ 9223372036854775807 := by unfold maxLen at ht; omega
  obtain ⟨w0, hw0⟩ : ∃ w0, w0 = w.alloc (.cells #[.slice F fn fc, .slice T tn tc, .int .i64 most] 25) := ⟨_, rfl⟩
  have hb0 : Below w.heap.size w w0 := by rw [hw0]; exact alloc_below _ _
  have hs0 : w0.heap.size = w.heap.size + 1 := by rw [hw0]; simp
  have hbx0 : w0.heap[w.heap.size]? = some (.cells #[.slice F fn fc, .slice T tn tc, .int .i64 most] 25 (0, 0)) := by rw [hw0]; exact heap_alloc_new w _
  have HBX : Hid (∀ W, Below w0.heap.size w0 W → W.cell? ⟨w.heap.size, 0, none⟩ = some (.slice F fn fc) ∧ W.cell? ⟨w.heap.size, 1, none⟩ = some (.slice T tn tc) ∧ W.cell? ⟨w.heap.size, 2, none⟩ = some (.int .i64 most)) := Lib.hid fun W hb => box3Y ((hb.block _ (by omega)).trans hbx0)
  have HB0 := Lib.hid hb0
  have HW0 := Lib.hid hw0
  have HCF : Hid (∀ W, Below w0.heap.size w0 W → (convert 23 9 (.slice F fn fc)).run Try.prog W = .ok (.string (sB f)) W) := Lib.hid fun W hb => conv_rd (((hrf.below hb0 (Nat.le_refl _)).below hb hb0.size).more (Nat.le_trans hb0.size hb.size)) hfn (sB f) (sB_list f)
  have HCT : Hid (∀ W, Below w0.heap.size w0 W → (convert 23 9 (.slice T tn tc)).run Try.prog W = .ok (.string (sB t)) W) := Lib.hid fun W hb => conv_rd (((hrt.below hb0 (Nat.le_refl _)).below hb hb0.size).more (Nat.le_trans hb0.size hb.size)) htn (sB t) (sB_list t)
  have HRF : Hid (∀ W, Below w0.heap.size w0 W → RdB W W.heap.size F f) := Lib.hid fun W hb => (((hrf.below hb0 (Nat.le_refl _)).below hb hb0.size).more (Nat.le_trans hb0.size hb.size))
  have HRT : Hid (∀ W, Below w0.heap.size w0 W → RdB W W.heap.size T t) := Lib.hid fun W hb => (((hrt.below hb0 (Nat.le_refl _)).below hb hb0.size).more (Nat.le_trans hb0.size hb.size))
  have HACT : Hid (∀ W, Below w0.heap.size w0 W → ∀ (i : Nat) (x : Act8), l[i]? = some x → (∃ b o, A = some ⟨b, o, none⟩ ∧ W.cell? ⟨b, o + i * 3, none⟩ = some (.int .i64 x.k) ∧ W.cell? ⟨b, o + i * 3 + 1, none⟩ = some (.slice x.A x.l.length x.ac) ∧ W.cell? ⟨b, o + i * 3 + 2, none⟩ = some (.slice x.B x.m.length x.bc)) ∧ RdB W W.heap.size x.A x.l ∧ RdB W W.heap.size x.B x.m) := Lib.hid fun W hb i x hx => by
    have hbw : Below w.heap.size w W := hb0.trans (hb.mono hb0.size)
    have hxk := hok x (List.mem_of_getElem? hx)
    exact ⟨hr.at_ hx hbw (Nat.le_refl _), (hxk.rk.below hbw (Nat.le_refl _)).more hbw.size, (hxk.rr.below hbw (Nat.le_refl _)).more hbw.size⟩
  have HOK := Lib.hid hok
  have HN := Lib.hid hN
  have HFN := Lib.hid (And.intro hfn htn)
  obtain ⟨x0, x1, x2⟩ := HBX.out w0 (Below.refl _ _)
  clear hl hf ht hr hok hrf hrt hb0 hs0 hbx0 hw0 hN hfn htn
  by_cases hA : (40 : Int) < (fn : Int) ∨ (¬ (40 : Int) < (fn : Int) ∧ (40 : Int) < (tn : Int))
  · as_aux_lemma =>
      rcases hA with h1 | ⟨h1, h2⟩
      all_goals
        go_enter Try.func3, Try.ntmps3
        go_upto_region 1 with fail
        rw [← HW0.out]
        go_wp2_with (first
          | (go_at_call 4; refine (new_any _).mono ?_; rintro e w1 ⟨rfl, ht, hb⟩
             have HB1 := Lib.hid hb
             clear ht x0 x1 x2
             obtain ⟨x0, x1, x2⟩ := HBX.out w1 hb
             clear hb)
          | (go_at_call 5; refine (AL.out _).mono ?_; rintro e w22 ⟨rfl, hb⟩; have HB22 := Lib.hid (HB0.out.trans ((HB1.out.trans (hb.mono HB1.out.size)).mono HB0.out.size)); clear hb)
          | fail)
        go_ret
        exact ⟨rfl, HB22.out⟩
  have h1 : ¬ (40 : Int) < (fn : Int) := fun h => hA (.inl h)
  have h2 : ¬ (40 : Int) < (tn : Int) := fun h => hA (.inr ⟨h1, h⟩)
  clear hA
  go_enter Try.func3, Try.ntmps3
  go_upto_region 1 with fail
  rw [← HW0.out]
  go_wp2_with (first
    | (go_at_call 4; refine (new_any _).mono ?_; rintro e w1 ⟨rfl, ht, hb⟩
       have HST : Hid (TpL w0 N (.pointer (some ⟨w0.heap.size, 0, none⟩)) (.slice none 0 0) (.int .i64 0) w1) := Lib.hid ⟨0, _, _, _, _, _, [], none, 0, 0, rfl, rfl, rfl, Nat.zero_le _, by omega, Nat.le_refl _, ⟨⟨ht, rfl, fun j hj => hj.elim (fun e => Nat.le_of_eq e.symm) False.elim, hb⟩, fun hn => absurd rfl hn, rfl, fun hn => absurd rfl hn⟩⟩
       clear ht x0 x1 x2
       obtain ⟨x0, x1, x2⟩ := HBX.out w1 hb
       clear hb)
    | fail)
  clear x0 x1 x2 h1 h2
  go_loopw [5, 6, 7] (fun v5 v6 v7 wr => TpL w0 N v5 v6 v7 wr) (fun _ _ v7 _ => 150 - (intOf v7).toNat)
  case atStart => exact HST.out
  case round =>
    obtain ⟨i, G, D, q, P, ps, L, Al, n, c, rfl, rfl, rfl, hi, hi2, hni, hst⟩ := hrel
    have HS := Lib.hid hst
    have hb := hst.ta.bel
    have HB := Lib.hid hb
    have HNI := Lib.hid hni
    obtain ⟨x0, x1, x2⟩ := HBX.out wr hb
    clear hst hb
    by_cases hlt : i < N ∧ i < 150
    · obtain ⟨hlt, hlt2⟩ := hlt
      have hlti : (i : Int) < (N : Int) := by omega
      have hlti2 : (i : Int) < 150 := by omega
      have hi0 : 0 ≤ (i : Int) := by omega
      obtain ⟨x, hx⟩ : ∃ x, l[i]? = some x := ⟨_, List.getElem?_eq_getElem (by rw [HN.out]; exact hlt)⟩
      have HI := Lib.hid (And.intro hlt hlt2)
      have HX := Lib.hid hx
      obtain ⟨⟨b, o, hA, c0, c1, c2⟩, _, _⟩ := HACT.out wr HB.out i x hx
      subst hA
      have HXO := Lib.hid (HOK.out x (List.mem_of_getElem? hx))
      obtain ⟨kn, hkn⟩ : ∃ m, x.l.length = m := ⟨_, rfl⟩
      obtain ⟨rn, hrn⟩ : ∃ m, x.m.length = m := ⟨_, rfl⟩
      rw [hkn] at c1
      rw [hrn] at c2
      obtain ⟨wa, hwa⟩ : ∃ wa, wa = wr.alloc (.cells #[.int .i64 x.k, .slice x.A kn x.ac, .slice x.B rn x.bc] 31) := ⟨_, rfl⟩
      have hba : Below wr.heap.size wr wa := by rw [hwa]; exact alloc_below _ _
      have hsa : wa.heap.size = wr.heap.size + 1 := by rw [hwa]; simp
      have hxa : wa.heap[wr.heap.size]? = some (.cells #[.int .i64 x.k, .slice x.A kn x.ac, .slice x.B rn x.bc] 31 (0, 0)) := by rw [hwa]; exact heap_alloc_new _ _
      have HF := Lib.hid (fits8_any x.k x.A x.B kn x.ac rn x.bc wa (by rw [← hkn]; exact Nat.le_trans HXO.out.kc HXO.out.km) (by rw [← hrn]; exact Nat.le_trans HXO.out.rc HXO.out.rm))
      have HWA := Lib.hid hwa
      have HBA := Lib.hid hba
      have HXA := Lib.hid hxa
      have HSA := Lib.hid hsa
      have HKN := Lib.hid (And.intro hkn hrn)
      obtain ⟨y0, y1, y2⟩ := box3Y hxa
      clear hwa hba hsa hxa hkn hrn hx hi hi2 hni hlt hlt2
      cases hf : (decide (kn ≤ 40) && decide (rn ≤ 40)) with
      | false =>
        rw [hf] at HF
        as_aux_lemma =>
          have HY : Hid (∀ v7 w2, v7 = .int .i64 ((i + 1 : Nat) : Int) → Below wa.heap.size wa w2 → TpL w0 N (.pointer (some ⟨q, 0, none⟩)) (.slice Al n c) v7 w2) := Lib.hid fun v7 w2 h7 hb => ⟨i + 1, G, D, q, P, ps, L, Al, n, c, rfl, rfl, h7, HI.out.1, HI.out.2, Nat.le_succ_of_le HNI.out, (HS.out.below HBA.out).below hb⟩
          clear hf
          go_upto_region 11 with fail
          rw [← HWA.out]
          go_wp2_with (go_at_call 6; refine HF.out.mono ?_; rintro e w2 ⟨rfl, hb⟩; have HZ := Lib.hid (fun v7 h7 => HY.out v7 w2 h7 hb); clear hb)
          go_roundw
          case rel => first | exact HZ.out _ (by go_num) | ((repeat apply Exists.intro); exact ⟨HZ.out _ (by go_num), rfl⟩)
          case measure => have := HI.out; simp [intOf]; omega
      | true =>
        rw [hf] at HF
        have hll : kn ≤ 40 ∧ rn ≤ 40 := by simpa using hf
        have HLL := Lib.hid hll
        have hk40 : (kn : Int) ≤ 40 := by omega
        have hr40 : (rn : Int) ≤ 40 := by omega
        clear hf hll
        go_upto_region 11 with fail
        rw [← HWA.out]
        go_upto_region 13 with (go_at_call 6; refine HF.out.mono ?_; rintro e w2 ⟨rfl, hb⟩; have HB2 := Lib.hid hb; clear hb)
        have hst2 := (HS.out.below HBA.out).below HB2.out
        have HS2 := Lib.hid hst2
        have HX2 := Lib.hid ((HB2.out.block _ (by rw [HSA.out]; omega)).trans HXA.out)
        have HBW2 := Lib.hid hst2.ta.bel
        have HCK : Hid (∀ W, Below w0.heap.size w0 W → (convert 23 9 (.slice x.A kn x.ac)).run Try.prog W = .ok (.string (sB x.l)) W) := Lib.hid fun W hb => conv_rd (HACT.out W hb i x HX.out).2.1 HKN.out.1 (sB x.l) (sB_list _)
        have HCR : Hid (∀ W, Below w0.heap.size w0 W → (convert 23 9 (.slice x.B rn x.bc)).run Try.prog W = .ok (.string (sB x.m)) W) := Lib.hid fun W hb => conv_rd (HACT.out W hb i x HX.out).2.2 HKN.out.2 (sB x.m) (sB_list _)
        have HRK : Hid (∀ W, Below w0.heap.size w0 W → RdB W W.heap.size x.A x.l ∧ RdB W W.heap.size x.B x.m) := Lib.hid fun W hb => (HACT.out W hb i x HX.out).2
        have hfnd := refFind_any (cap := c) x.l hst2.rd hst2.len (by have := HNI.out; have := HI.out; omega)
        obtain ⟨z, hz⟩ : ∃ z, fndZ L x.l = z := ⟨_, rfl⟩
        obtain ⟨gr, hgr⟩ : ∃ r, (getK L x.l).getD [] = r := ⟨_, rfl⟩
        obtain ⟨gs, hgs⟩ : ∃ b, (getK L x.l).isSome = b := ⟨_, rfl⟩
        have hgz : decide (0 ≤ z) = gs := by rw [← hgs, fnd_is, hz]
        have hsp := fnd_spec x.l L
        rw [hz] at hfnd hsp
        have HFN2 := Lib.hid hfnd
        have HSP := Lib.hid hsp
        have HG := Lib.hid (And.intro hgr hgs)
        have HGZ := Lib.hid hgz
        clear y0 y1 y2 c0 c1 c2 hst2 hfnd hz hgr hgs hgz hsp
        obtain ⟨y0, y1, y2⟩ := box3Y HX2.out
        have cvk := HCK.out w2 HBW2.out
        go_upto_if 62 with (go_at_call 7; refine HFN2.out.mono ?_; rintro e w2b ⟨rfl, rfl⟩)
        go_cut [11] (fun v11 W => v11 = .string (sB gr) ∧ Below w2.heap.size w2 W)
        case first =>
          as_aux_lemma =>
            rcases HSP.out with ⟨hz, hg⟩ | ⟨j, y, hz, hy, hg⟩
            · have hz0 : ¬ 0 ≤ z := by omega
              have hgr := HG.out.1
              rw [hg] at hgr
              have HGR : Hid (gr = []) := Lib.hid hgr.symm
              clear hz hg hgr
              go_wp2_with fail
              go_meet
              exact ⟨by rw [HGR.out]; rfl, Below.refl _ _⟩
            · subst hz
              have hgr := HG.out.1
              rw [hg] at hgr
              have HGR : Hid (gr = y.2) := Lib.hid hgr.symm
              obtain ⟨b2, o2, hA2, d0, d1⟩ := HS2.out.rd.at_ hy
              subst hA2
              have hjn : j < n := by rw [← HS2.out.len]; exact (List.getElem?_eq_some_iff.1 hy).1
              have hjni : (j : Int) < (n : Int) := by omega
              have hj0 : 0 ≤ (j : Int) := by omega
              clear hg hgr hy hjn
              go_wp2_with fail
              go_meet
              exact ⟨by rw [HGR.out], Below.refl _ _⟩
        case rest =>
          obtain ⟨rfl, hb⟩ := hcut
          obtain ⟨wx, hwx, hbx⟩ : ∃ W, W = wc ∧ Below w2.heap.size w2 W := ⟨_, rfl, hb⟩
          subst hwx
          have HBX2 := Lib.hid hbx
          have HSX := Lib.hid (HS2.out.below hbx)
          have HBWX := Lib.hid (HBW2.out.trans (hbx.mono HBW2.out.size))
          have HXX := Lib.hid ((hbx.block _ (by have := HB2.out.size; rw [HSA.out] at this; omega)).trans HX2.out)
          clear hb hbx y0 y1 y2 cvk
          obtain ⟨y0, y1, y2⟩ := box3Y HXX.out
          have hya : ∀ C, (wx.alloc (.cells C 5)).cell? ⟨wr.heap.size, 1, none⟩ = some (.slice x.A kn x.ac) := fun C => (box3Y (((alloc_below wx _).block _ (by have := HB2.out.size; have := HBX2.out.size; rw [HSA.out] at *; omega)).trans HXX.out)).2.1
          obtain ⟨i0, hi8, hz0, hz1, hz2⟩ := info_parts info8
          go_upto_region 18 with (at_builtin
                                  refine wpList_appB (xs := []) (ys := x.l) rfl _ _ 23 rfl Try.underlying23 hi8 hz0 hz1 hz2 rfl (OwnB.empty_at wx rfl) rfl HKN.out.1 (HRK.out _ (HBWX.out.trans ((alloc_below wx _).mono HBWX.out.size))).1 (by have := HLL.out; have := HKN.out; simp; omega) (by simp) ?_
                                  intro v12 w3 ho hg
                                  rw [List.nil_append] at ho
                                  have hb3 : Below wx.heap.size wx w3 := (alloc_below wx _).trans (grownB hg.by_ (Nat.le_refl _) (by simp))
                                  obtain ⟨K, kc, rfl⟩ := ho.new
                                  rw [HKN.out.1] at ho ⊢
                                  have HKO := Lib.hid ho
                                  have HB3 := Lib.hid hb3
                                  clear ho hg hb3)
          have HS3 := Lib.hid (HSX.out.below HB3.out)
          have HBW3 := Lib.hid (HBWX.out.trans (HB3.out.mono HBWX.out.size))
          have HX3 := Lib.hid ((HB3.out.block _ (by have := HB2.out.size; have := HBX2.out.size; rw [HSA.out] at *; omega)).trans HXX.out)
          have HXG : Hid (¬ G wr.heap.size) := Lib.hid fun hg => Nat.lt_irrefl _ (HS.out.ta.tb.t.glt _ hg)
          have HKF := Lib.hid HKO.out.frB
          have HKR := Lib.hid HKO.out.rd
          have HKG : Hid (0 < kn → ∀ ad, K = some ad → w0.heap.size ≤ ad.block ∧ ad.block < w3.heap.size ∧ ¬ G ad.block ∧ ¬ D ad.block ∧ (L ≠ [] → ∀ bd, Al = some bd → bd.block ≠ ad.block)) := Lib.hid fun hk ad e => by
            obtain ⟨a1, a2, _⟩ := own_at HKO.out (Nat.le_refl _) (fun e0 => by have := HKN.out.1; rw [e0] at this; simp at this; omega) ad e
            have hg := HSX.out.ta.tb.t.glt ad.block
            have hd := HSX.out.ta.tb.t.dlt ad.block
            exact ⟨Nat.le_trans HBWX.out.size a1, a2, fun h => by have := hg h; omega, fun h => by have := hd h; omega, fun hn bd e2 => by have := HSX.out.rd.blk hn bd e2; omega⟩
          clear y0 y1 y2 hya
          obtain ⟨y0, y1, y2⟩ := box3Y HX3.out
          have hkn0 : (0 : Int) ≤ (kn : Int) := by omega
          go_upto_block 2 with fail
          go_cut [5, 6] (fun v5 v6 W => TpM w0 i K kn v5 v6 W)
          case first =>
            have hgz := HGZ.out
            by_cases hk1 : x.k = 1
            · have k1 : (x.k == 1) = true := by rw [hk1]; rfl
              have HPU := Lib.hid (HS3.out.ta.put3 (by have := HS3.out.len; have := HNI.out; have := HI.out; omega) x.l x.m K x.B kn kc rn x.bc HKN.out.1 HKN.out.2 (by have := HKN.out; have := HLL.out; omega) (by have := HKN.out; have := HLL.out; omega) HKR.out (HRK.out _ HBW3.out).2)
              have HPL := Lib.hid (putK_len L x.l x.m)
              unfold Pt3 at HPU
              rw [HG.out.1, HG.out.2] at HPU
              clear hk1
              as_aux_lemma =>
                cases gs with
                | true =>
                  have hz0 : 0 ≤ z := by simpa using hgz
                  clear hgz
                  go_wp2_with (first
                    | (go_at_call 8; refine HPU.out.mono ?_; rintro e w4 ⟨G', D', P', ps', A', n', c', rfl, hta, hrd, hnn, hO, hfr⟩
                       have HTA := Lib.hid hta
                       have HRD4 := Lib.hid hrd
                       have HNN := Lib.hid hnn
                       have HO4 := Lib.hid hO
                       have HFR := Lib.hid hfr
                       have HX4 := Lib.hid ((hO.block _ (Array.getElem?_eq_some_iff.1 HX3.out).1 HXG.out).trans HX3.out)
                       have HLS : Hid (RdS w4 w4.heap.size Al L) := Lib.hid (HS3.out.rd.only hO (fun hn ad e => HS3.out.sep hn ad e))
                       clear y0 y1 y2 hta hrd hnn hO hfr
                       obtain ⟨y0, y1, y2⟩ := box3Y HX4.out
                       have cvk := HCK.out w4 HTA.out.bel
                       have cvr := HCR.out w4 HTA.out.bel)
                    | (go_at_call 9; refine (refPut_any (cap := c) x.l x.m HS3.out.ta.pair HLS.out HS3.out.len (by have := HNI.out; have := HI.out; omega)).mono ?_; rintro e w5 ⟨A5, n5, c5, rfl, hn5, hrd5, hge5, hb5⟩
                       have HM : Hid (TpM w0 i K kn (.pointer (some ⟨q, 0, none⟩)) (.slice A5 n5 c5) w5) := Lib.hid (TpM.of_put HKF.out (fun hk ad e => by
                         obtain ⟨a1, a2, a3, a4, _⟩ := HKG.out hk ad e
                         exact ⟨a1, a2, a3, a4⟩) HTA.out HO4.out HFR.out hn5 hrd5 hge5 hb5 (by have := HPL.out; have := HS3.out.len; have := HNI.out; omega))
                       have cvo := conv_rd (cap := c') ((HRD4.out.below hb5 (Nat.le_refl _)).more hb5.size) HNN.out (sB gr) (sB_list gr)
                       clear hn5 hrd5 hge5 hb5)
                    | fail)
                  go_meet
                  exact HM.out
                | false =>
                  have hz0 : ¬ 0 ≤ z := by simpa using hgz
                  clear hgz
                  go_wp2_with (first
                    | (go_at_call 8; refine HPU.out.mono ?_; rintro e w4 ⟨G', D', P', ps', A', n', c', rfl, hta, hrd, hnn, hO, hfr⟩
                       have HTA := Lib.hid hta
                       have HRD4 := Lib.hid hrd
                       have HNN := Lib.hid hnn
                       have HO4 := Lib.hid hO
                       have HFR := Lib.hid hfr
                       have HX4 := Lib.hid ((hO.block _ (Array.getElem?_eq_some_iff.1 HX3.out).1 HXG.out).trans HX3.out)
                       have HLS : Hid (RdS w4 w4.heap.size Al L) := Lib.hid (HS3.out.rd.only hO (fun hn ad e => HS3.out.sep hn ad e))
                       clear y0 y1 y2 hta hrd hnn hO hfr
                       obtain ⟨y0, y1, y2⟩ := box3Y HX4.out
                       have cvk := HCK.out w4 HTA.out.bel
                       have cvr := HCR.out w4 HTA.out.bel)
                    | (go_at_call 9; refine (refPut_any (cap := c) x.l x.m HS3.out.ta.pair HLS.out HS3.out.len (by have := HNI.out; have := HI.out; omega)).mono ?_; rintro e w5 ⟨A5, n5, c5, rfl, hn5, hrd5, hge5, hb5⟩
                       have HM : Hid (TpM w0 i K kn (.pointer (some ⟨q, 0, none⟩)) (.slice A5 n5 c5) w5) := Lib.hid (TpM.of_put HKF.out (fun hk ad e => by
                         obtain ⟨a1, a2, a3, a4, _⟩ := HKG.out hk ad e
                         exact ⟨a1, a2, a3, a4⟩) HTA.out HO4.out HFR.out hn5 hrd5 hge5 hb5 (by have := HPL.out; have := HS3.out.len; have := HNI.out; omega))
                       have cvo := conv_rd (cap := c') ((HRD4.out.below hb5 (Nat.le_refl _)).more hb5.size) HNN.out (sB gr) (sB_list gr)
                       clear hn5 hrd5 hge5 hb5)
                    | fail)
                  go_meet
                  exact HM.out
            · have k1 : (x.k == 1) = false := by simpa using hk1
              by_cases hk2 : x.k = 2
              · have k2 : (x.k == 2) = true := by rw [hk2]; rfl
                have HPU := Lib.hid (HS3.out.ta.drop3 x.l K kn kc HKN.out.1 HKR.out)
                have HPL := Lib.hid (dropK_len L x.l)
                unfold Pt3 at HPU
                rw [HG.out.1, HG.out.2] at HPU
                clear hk1 hk2
                as_aux_lemma =>
                  cases gs with
                  | true =>
                    have hz0 : 0 ≤ z := by simpa using hgz
                    clear hgz
                    go_wp2_with (first
                      | (go_at_call 10; refine HPU.out.mono ?_; rintro e w4 ⟨G', D', P', ps', A', n', c', rfl, hta, hrd, hnn, hO, hfr⟩
                         have HTA := Lib.hid hta
                         have HRD4 := Lib.hid hrd
                         have HNN := Lib.hid hnn
                         have HO4 := Lib.hid hO
                         have HFR := Lib.hid hfr
                         have HX4 := Lib.hid ((hO.block _ (Array.getElem?_eq_some_iff.1 HX3.out).1 HXG.out).trans HX3.out)
                         have HLS : Hid (RdS w4 w4.heap.size Al L) := Lib.hid (HS3.out.rd.only hO (fun hn ad e => HS3.out.sep hn ad e))
                         clear y0 y1 y2 hta hrd hnn hO hfr
                         obtain ⟨y0, y1, y2⟩ := box3Y HX4.out
                         have cvk := HCK.out w4 HTA.out.bel)
                      | (go_at_call 11; refine (refDrop_any (cap := c) x.l HLS.out HS3.out.len (by have := HNI.out; have := HI.out; omega)).mono ?_; rintro e w5 ⟨v5, rfl, ho5, hb5⟩
                         rw [dropF_dropK HS3.out.ta.pair] at ho5
                         obtain ⟨A5, c5, rfl, _⟩ := ho5.2
                         obtain ⟨n5, hn5⟩ : ∃ m, (dropK L x.l).length = m := ⟨_, rfl⟩
                         rw [hn5] at ho5 ⊢
                         have HM : Hid (TpM w0 i K kn (.pointer (some ⟨q, 0, none⟩)) (.slice A5 n5 c5) w5) := Lib.hid (TpM.of_put HKF.out (fun hk ad e => by
                           obtain ⟨a1, a2, a3, a4, _⟩ := HKG.out hk ad e
                           exact ⟨a1, a2, a3, a4⟩) HTA.out HO4.out HFR.out hn5 ho5.rd (fun ad e => ho5.ge _ (by rw [e]; rfl)) hb5 (by have := HPL.out; have := HS3.out.len; have := HNI.out; omega))
                         have cvo := conv_rd (cap := c') ((HRD4.out.below hb5 (Nat.le_refl _)).more hb5.size) HNN.out (sB gr) (sB_list gr)
                         clear hn5 ho5 hb5)
                      | fail)
                    go_meet
                    exact HM.out
                  | false =>
                    have hz0 : ¬ 0 ≤ z := by simpa using hgz
                    clear hgz
                    go_wp2_with (first
                      | (go_at_call 10; refine HPU.out.mono ?_; rintro e w4 ⟨G', D', P', ps', A', n', c', rfl, hta, hrd, hnn, hO, hfr⟩
                         have HTA := Lib.hid hta
                         have HRD4 := Lib.hid hrd
                         have HNN := Lib.hid hnn
                         have HO4 := Lib.hid hO
                         have HFR := Lib.hid hfr
                         have HX4 := Lib.hid ((hO.block _ (Array.getElem?_eq_some_iff.1 HX3.out).1 HXG.out).trans HX3.out)
                         have HLS : Hid (RdS w4 w4.heap.size Al L) := Lib.hid (HS3.out.rd.only hO (fun hn ad e => HS3.out.sep hn ad e))
                         clear y0 y1 y2 hta hrd hnn hO hfr
                         obtain ⟨y0, y1, y2⟩ := box3Y HX4.out
                         have cvk := HCK.out w4 HTA.out.bel)
                      | (go_at_call 11; refine (refDrop_any (cap := c) x.l HLS.out HS3.out.len (by have := HNI.out; have := HI.out; omega)).mono ?_; rintro e w5 ⟨v5, rfl, ho5, hb5⟩
                         rw [dropF_dropK HS3.out.ta.pair] at ho5
                         obtain ⟨A5, c5, rfl, _⟩ := ho5.2
                         obtain ⟨n5, hn5⟩ : ∃ m, (dropK L x.l).length = m := ⟨_, rfl⟩
                         rw [hn5] at ho5 ⊢
                         have HM : Hid (TpM w0 i K kn (.pointer (some ⟨q, 0, none⟩)) (.slice A5 n5 c5) w5) := Lib.hid (TpM.of_put HKF.out (fun hk ad e => by
                           obtain ⟨a1, a2, a3, a4, _⟩ := HKG.out hk ad e
                           exact ⟨a1, a2, a3, a4⟩) HTA.out HO4.out HFR.out hn5 ho5.rd (fun ad e => ho5.ge _ (by rw [e]; rfl)) hb5 (by have := HPL.out; have := HS3.out.len; have := HNI.out; omega))
                         have cvo := conv_rd (cap := c') ((HRD4.out.below hb5 (Nat.le_refl _)).more hb5.size) HNN.out (sB gr) (sB_list gr)
                         clear hn5 ho5 hb5)
                      | fail)
                    go_meet
                    exact HM.out
              · have k2 : (x.k == 2) = false := by simpa using hk2
                by_cases hk3 : x.k = 3
                · have k3 : (x.k == 3) = true := by rw [hk3]; rfl
                  clear hk1 hk2 hk3 hgz
                  have HCO := Lib.hid (copy_any HS3.out.ta.tb)
                  as_aux_lemma =>
                    go_wp2_with (first
                      | (go_at_call 12; refine HCO.out.mono ?_; rintro e w4 ⟨G', D', cc, P', ps', rfl, htb, hkv, hge, hb4⟩
                         rw [HS3.out.ta.kv] at hkv
                         have HTB := Lib.hid htb
                         have HKV := Lib.hid hkv
                         have HGE := Lib.hid hge
                         have HB4 := Lib.hid hb4
                         have hbw4 := HBW3.out.trans (hb4.mono HBW3.out.size)
                         have HPU := Lib.hid ((HS3.out.ta.below hb4).put3 (by have := HS3.out.len; have := HNI.out; have := HI.out; omega) x.l x.m K x.B kn kc rn x.bc HKN.out.1 HKN.out.2 (by have := HKN.out; have := HLL.out; omega) (by have := HKN.out; have := HLL.out; omega) ((HKR.out.below hb4 (Nat.le_refl _)).more hb4.size) (HRK.out _ hbw4).2)
                         have HX4 := Lib.hid ((hb4.block _ (Array.getElem?_eq_some_iff.1 HX3.out).1).trans HX3.out)
                         clear y0 y1 y2 htb hkv hge hb4 hbw4
                         obtain ⟨y0, y1, y2⟩ := box3Y HX4.out)
                      | (go_at_call 8; refine HPU.out.mono ?_; rintro e w5 ⟨G2, D2, P2, ps2, A2, n2, c2, rfl, _, _, _, hO, _⟩
                         have HM : Hid (TpM w0 i K kn (.pointer (some ⟨cc, 0, none⟩)) (.slice Al n c) w5) := Lib.hid (TpM.of_copy HS3.out HKF.out HKG.out HTB.out HKV.out HGE.out HB4.out hO (by have := HNI.out; omega))
                         clear hO)
                      | fail)
                    go_meet
                    exact HM.out
                · have k3 : (x.k == 3) = false := by simpa using hk3
                  have HM : Hid (TpM w0 i K kn (.pointer (some ⟨q, 0, none⟩)) (.slice Al n c) w3) := Lib.hid (TpM.of_none HS3.out HKF.out HKG.out (by have := HNI.out; omega))
                  clear hk1 hk2 hk3 hgz
                  as_aux_lemma =>
                    go_wp2_with fail
                    go_meet
                    exact HM.out
          case rest =>
            obtain ⟨G1, D1, q1, P1, ps1, L1, A1, n1, c1, rfl, rfl, hn1, hst1, hfs1, hap1⟩ := hcut
            have HC1 : Hid (TpN w0 K kn G1 D1 q1 P1 ps1 L1 A1 n1 wc) := Lib.hid ⟨hst1, hfs1, hap1⟩
            have HN1 := Lib.hid hn1
            clear hn1 hst1 hfs1 hap1 y0 y1 y2 x0 x1 x2
            go_wp2_with fail
            go_loopw [18] (fun v18 W => LpK w0 K kn G1 D1 q1 P1 ps1 L1 A1 n1 v18 W) (fun v18 _ => kn - (intOf v18).toNat)
            case atStart => exact ⟨0, rfl, Nat.zero_le _, HC1.out⟩
            case round =>
              obtain ⟨j, rfl, hj, hcn⟩ := hrel
              obtain ⟨wm, hwm⟩ : ∃ W, W = wr := ⟨_, rfl⟩
              have HCN := Lib.hid hcn
              clear hcn
              by_cases hlt : j < kn
              · have hltj : (j : Int) < (kn : Int) := by omega
                have hj0 : 0 ≤ (j : Int) := by omega
                have hk0 : 0 < kn := by omega
                obtain ⟨g, hK, hg, hfb⟩ := HCN.out.2.1 hk0
                obtain ⟨⟨z8, d0⟩, d1⟩ := hfb j hlt
                rw [Nat.zero_add] at d0 d1
                have HZ : Hid (∀ (zz : Int) (v18 : Value), v18 = .int .i64 ((j + 1 : Nat) : Int) → LpK w0 K kn G1 D1 q1 P1 ps1 L1 A1 n1 v18 (wr.setCell ⟨g, j, none⟩ (.int .u8 zz))) := Lib.hid fun zz v18 h18 => ⟨j + 1, h18, hlt, by
                  have h9 := HCN.out
                  rw [hK] at h9 ⊢
                  exact h9.turn hk0 d0 zz⟩
                have HJ := Lib.hid hlt
                subst hK
                clear hfb hg hlt hk0 hj hwm
                as_aux_lemma =>
                  go_wp2_with fail
                  go_roundw
                  case rel => first | exact HZ.out _ _ (by go_num) | ((repeat apply Exists.intro); exact ⟨HZ.out _ _ (by go_num), rfl⟩)
                  case measure => have := HJ.out; simp [intOf]; omega
              · have hje : j = kn := by omega
                subst hje hwm
                have hltj : ¬ (j : Int) < (j : Int) := by omega
                have HM := Lib.hid HCN.out.1
                have HBM := Lib.hid HM.out.ta.bel
                obtain ⟨R, hR⟩ : ∃ R, R = (rangeK f t L1).take most.toNat := ⟨_, rfl⟩
                have HRX : Hid (Calls Try.prog 13 #[.pointer (some ⟨q1, 0, none⟩), .slice F fn fc, .slice T tn tc, .int .i64 most] wm (RgXx wm R)) := Lib.hid (by
                  have h5 := range_sep HM.out.ta.tb F T f t fn fc tn tc most HFN.out.1 HFN.out.2 (HRF.out _ HBM.out) (HRT.out _ HBM.out)
                  rw [kv_takes, kv_range, HM.out.ta.kv, ← hR] at h5
                  exact range_x h5)
                have HRD := Lib.hid hR
                obtain ⟨x0, x1, x2⟩ := HBX.out wm HBM.out
                clear hlt hj hR
                go_upto_region 40 with (go_at_call 13; refine HRX.out.mono ?_; rintro e w7 ⟨A7, m7, c7, es7, rfl, hm7, he7, hrl7, hkv7, hb7, htx⟩
                                        have HM7 := Lib.hid (And.intro hm7 (And.intro he7 (And.intro hrl7 (And.intro hkv7 (And.intro hb7 htx)))))
                                        clear hm7 he7 hrl7 hkv7 hb7 htx)
                have HSF : Hid (∀ Wk, Below w0.heap.size w0 Wk → ∀ W' : World, W'.heap = Wk.heap → W'.cell? ⟨w.heap.size, 0, none⟩ = some (.slice F fn fc) ∧ W'.cell? ⟨w.heap.size, 1, none⟩ = some (.slice T tn tc) ∧ W'.cell? ⟨w.heap.size, 2, none⟩ = some (.int .i64 most) ∧ (convert 23 9 (.slice F fn fc)).run Try.prog W' = .ok (.string (sB f)) W' ∧ (convert 23 9 (.slice T tn tc)).run Try.prog W' = .ok (.string (sB t)) W') := Lib.hid fun Wk hbk W' e => by
                  obtain ⟨e0, e1, e2⟩ := HBX.out Wk hbk
                  refine ⟨(World.cell?_of_block (by rw [e])).trans e0, (World.cell?_of_block (by rw [e])).trans e1, (World.cell?_of_block (by rw [e])).trans e2, conv_rd ((HRF.out Wk hbk).keep fun k _ => by rw [e]) HFN.out.1 (sB f) (sB_list f), conv_rd ((HRT.out Wk hbk).keep fun k _ => by rw [e]) HFN.out.2 (sB t) (sB_list t)⟩
                have HB7 := Lib.hid (HBM.out.trans (HM7.out.2.2.2.2.1.mono HBM.out.size))
                have HS7 := Lib.hid (HSF.out w7 HB7.out)
                have HMN : Hid (m7 ≤ 150) := Lib.hid (by
                  rw [← HM7.out.1, HRD.out]
                  have h1 := rangeK_len f t L1
                  have h2 := HM.out.len
                  have h3 := HN1.out
                  have h4 := HI.out
                  rw [List.length_take]
                  omega)
                have HSM := Lib.hid (HM.out.below HM7.out.2.2.2.2.1)
                obtain ⟨sf, hsf⟩ : ∃ s, s = sB f := ⟨_, rfl⟩
                obtain ⟨st, hst⟩ : ∃ s, s = sB t := ⟨_, rfl⟩
                have HRR : Hid (∀ W, Below w7.heap.size w7 W → Calls Try.prog 16 #[.slice A1 n1 c1, .string sf, .string st, .int .i64 most] W (SnT W R)) := Lib.hid fun W hb => by
                  have h9 := refRange_any (cap := c1) f t most (HSM.out.below hb).rd HSM.out.len (by have := HN1.out; have := HI.out; omega)
                  rw [← HRD.out, ← hsf, ← hst] at h9
                  exact h9
                rw [← hsf, ← hst] at HSF HS7
                clear x0 x1 x2 hsf hst
                go_region_held3 (fun W' => W'.cell? ⟨w.heap.size, 0, none⟩ = some (.slice F fn fc) ∧ W'.cell? ⟨w.heap.size, 1, none⟩ = some (.slice T tn tc) ∧ W'.cell? ⟨w.heap.size, 2, none⟩ = some (.int .i64 most) ∧ (convert 23 9 (.slice F fn fc)).run Try.prog W' = .ok (.string sf) W' ∧ (convert 23 9 (.slice T tn tc)).run Try.prog W' = .ok (.string st) W')
                  (first
                    | exact HS9.out _ rfl
                    | exact HS8.out _ rfl
                    | exact HS7.out _ rfl)
                  (first
                  | (go_at_call 15; refine (told_any es7 A7 m7 c7 HM7.out.2.1 (Nat.le_trans HMN.out (by decide)) _ (HM7.out.2.2.1.below (by first | exact drew_below _ | exact Below.refl _ _))).mono ?_; rintro e w8 ⟨v8, rfl, ho8, hb8⟩
                     rw [HM7.out.2.2.2.1] at ho8
                     obtain ⟨X8, c8, rfl, _⟩ := ho8.2
                     rw [HM7.out.1] at ho8 ⊢
                     have hb8 := below_drew hb8
                     have HO8 := Lib.hid ho8
                     have HB8 := Lib.hid hb8
                     have HS8 := Lib.hid (HSF.out w8 (HB7.out.trans (hb8.mono HB7.out.size)))
                     clear ho8 hb8)
                  | (go_at_call 16; refine (HRR.out _ HB8.out).mono ?_; rintro e w9 ⟨v9, rfl, ho9, hb9⟩
                     obtain ⟨X9, c9, rfl, _⟩ := ho9.2
                     rw [HM7.out.1] at ho9 ⊢
                     have HO9 := Lib.hid ho9
                     have HB9 := Lib.hid hb9
                     have HS9 := Lib.hid (HSF.out w9 ((HB7.out.trans (HB8.out.mono HB7.out.size)).trans (hb9.mono (Nat.le_trans HB7.out.size HB8.out.size))))
                     clear ho9 hb9)
                  | (go_at_call 14; refine (sameE_any (HO8.out.below HB9.out).rd HO9.out.rd HM7.out.1 HM7.out.1 (Nat.le_trans HMN.out (by decide)) (Nat.le_trans HMN.out (by decide))).mono ?_; rintro e w10 ⟨rfl, k10, rfl⟩
                     rw [decide_eq_true rfl]
                     have HB10 : Hid (Below w7.heap.size w7 (w9.drewN k10)) := Lib.hid (HB8.out.trans ((HB9.out.trans ((drewN_below w9 k10).mono HB9.out.size)).mono HB8.out.size)))
                  | fail)
                have HXR : Hid (∀ W, Below w7.heap.size w7 W → Below wm.heap.size wm W ∧ (0 < m7 → ∃ bX oX, A7 = some ⟨bX, oX, none⟩ ∧ bX < W.heap.size ∧ TpX wm W bX oX es7)) := Lib.hid fun W hb => by
                  obtain ⟨_, _, _, _, h5, h6⟩ := HM7.out
                  refine ⟨h5.trans (hb.mono h5.size), fun hm => ?_⟩
                  obtain ⟨bX, oX, e1, e2, e3⟩ := h6 hm
                  exact ⟨bX, oX, e1, Nat.lt_of_lt_of_le e2 hb.size, e3.below hb e2⟩
                clear HSF HRR HS7 HS8 HS9 HO8 HO9 HRX
                go_wp2_with fail
                go_loopw [21] (fun v21 W => LpX wm m7 A7 es7 v21 W) (fun v21 _ => m7 - (intOf v21).toNat)
                case atStart => exact ⟨0, rfl, Nat.zero_le _, HXR.out _ HB10.out⟩
                case round =>
                  obtain ⟨j1, rfl, hj1, hbm, hx7⟩ := hrel
                  by_cases hlt : j1 < m7
                  · have hltj : (j1 : Int) < (m7 : Int) := by omega
                    have hj0 : 0 ≤ (j1 : Int) := by omega
                    obtain ⟨bX, oX, hAX, hbX, hTX⟩ := hx7 (by omega)
                    obtain ⟨⟨kA, kk, kc', rA, r, rc⟩, hx⟩ : ∃ e, es7[j1]? = some e := ⟨_, List.getElem?_eq_getElem (by rw [HM7.out.2.1]; exact hlt)⟩
                    obtain ⟨rl, hrl⟩ : ∃ m, r.length = m := ⟨_, rfl⟩
                    have HXE := Lib.hid (And.intro (List.mem_of_getElem? hx) hrl)
                    have hm150 : (m7 : Int) ≤ 150 := by have := HMN.out; omega
                    have HRL5 := Lib.hid (rows_short HM.out.ta HRD.out HM7.out.2.2.2.1 (List.mem_of_getElem? hx) hrl)
                    have HJ1 := Lib.hid hlt
                    have HAX := Lib.hid hAX
                    have HST7 : Hid (∃ W, W = wr ∧ bX < W.heap.size ∧ TpX wm W bX oX es7) := Lib.hid ⟨_, rfl, hbX, hTX⟩
                    have HHX := Lib.hid hx
                    clear hbm hx7 hj1 hlt hTX hbX hrl
                    go_wp2_with fail
                    go_loopw [22] (fun v22 W => LpY wm rl bX oX es7 v22 W) (fun v22 _ => rl - (intOf v22).toNat)
                    case atStart =>
                      obtain ⟨W, hW, h1, h2⟩ := HST7.out
                      rw [← hW]
                      exact ⟨0, rfl, Nat.zero_le _, h1, h2⟩
                    case round =>
                      clear HST7
                      obtain ⟨k1, rfl, hk1, hbX, hTX⟩ := hrel
                      have hc1 := hTX.cells j1 _ HHX.out
                      simp only [HXE.out.2] at hc1
                      have hcd : ∀ m, (wr.drewN m).cell? ⟨bX, oX + j1 * 2 + 1, none⟩ = some (.slice rA rl rc) := fun m => hc1
                      by_cases hlt : k1 < rl
                      · have hltk : (k1 : Int) < (rl : Int) := by omega
                        have hk0 : 0 ≤ (k1 : Int) := by omega
                        have hfs := (hTX.row _ HXE.out.1).1
                        simp only [HXE.out.2] at hfs
                        obtain ⟨g, hK, hg, hfb⟩ := hfs (by omega)
                        obtain ⟨⟨z8, d0⟩, d1⟩ := hfb k1 hlt
                        rw [Nat.zero_add] at d0 d1
                        have dd0 : ∀ m, (wr.drewN m).cell? ⟨g, k1, none⟩ = some (.int .u8 z8) := fun m => d0
                        have dd1 : ∀ m, (wr.drewN m).frozen? ⟨g, k1, none⟩ = false := fun m => d1
                        have HZ : Hid (∀ (zz : Int) (v22 : Value), v22 = .int .i64 ((k1 + 1 : Nat) : Int) → LpY wm rl bX oX es7 v22 (wr.setCell ⟨g, k1, none⟩ (.int .u8 zz)).drew) := Lib.hid fun zz v22 h22 => by
                          have h1 : bX < (wr.setCell ⟨g, k1, none⟩ (.int .u8 zz)).heap.size := Nat.lt_of_lt_of_le hbX (Only.set wr g k1 (.int .u8 zz)).size
                          exact ⟨k1 + 1, h22, hlt, Nat.lt_of_lt_of_le h1 (drew_below _).size, (hTX.turn HXE.out.1 hK (by rw [HXE.out.2]; omega) d0 zz).below (drew_below _) h1⟩
                        have HK1 := Lib.hid hlt
                        have hkb : (k1 : Int) + 1 ≤ 9223372036854775807 := by have := HRL5.out; omega
                        subst hK hAX
                        clear hfb hg hlt hk1 hbX hTX hfs hx
                        as_aux_lemma =>
                          go_wp2_with fail
                          go_region
                          all_goals
                            go_wp2_with fail
                            go_roundw
                            case rel => first | exact HZ.out _ _ (by go_num) | exact HZ.out _ _ (by rw [w64_next (by have := HRL5.out; have := HK1.out; omega)])
                            case measure => clear hkb; have h1 := HK1.out; simp [intOf]; omega
                      · have hke : k1 = rl := by omega
                        subst hke
                        have hltk : ¬ (k1 : Int) < (k1 : Int) := by omega
                        have HZ : Hid (∀ v21, v21 = .int .i64 ((j1 + 1 : Nat) : Int) → LpX wm m7 A7 es7 v21 wr) := Lib.hid fun v21 h21 => ⟨j1 + 1, h21, HJ1.out, hTX.bel, fun _ => ⟨bX, oX, HAX.out, hbX, hTX⟩⟩
                        subst hAX
                        clear hlt hk1 hbX hTX hx
                        as_aux_lemma =>
                          go_wp2_with fail
                          go_roundw
                          case rel => first | exact HZ.out _ (by go_num) | ((repeat apply Exists.intro); exact ⟨HZ.out _ (by go_num), rfl⟩)
                          case measure => have := HJ1.out; simp [intOf]; omega
                  · have hje : j1 = m7 := by omega
                    subst hje
                    have hltj : ¬ (j1 : Int) < (j1 : Int) := by omega
                    have HLN := Lib.hid (len_any (HM.out.below hbm).ta.tb n1 (by rw [(HM.out.below hbm).ta.kv]; exact (HM.out.below hbm).len.symm))
                    have HZ : Hid (∀ v7, v7 = .int .i64 ((i + 1 : Nat) : Int) → TpL w0 N (.pointer (some ⟨q1, 0, none⟩)) (.slice A1 n1 c1) v7 wr) := Lib.hid fun v7 h7 => ⟨i + 1, G1, D1, q1, P1, ps1, L1, A1, n1, c1, rfl, rfl, h7, HI.out.1, HI.out.2, HN1.out, HM.out.below hbm⟩
                    have hnn1 : ((n1 : Int) != (n1 : Int)) = false := by simp
                    clear hlt hj1 hbm hx7
                    as_aux_lemma =>
                      go_wp2_with (go_at_call 17; refine HLN.out.mono ?_; rintro e w11 ⟨rfl, rfl⟩)
                      go_roundw
                      case rel => first | exact HZ.out _ (by go_num) | ((repeat apply Exists.intro); exact ⟨HZ.out _ (by go_num), rfl⟩)
                      case measure => have := HI.out; simp [intOf]; omega
    · have HEN := Lib.hid (ends_any (A := Al) (n := n) (cap := c) HS.out.ta (by have := HS.out.len; omega) HS.out.rd HS.out.len f t F T fn fc tn tc most HFN.out.1 HFN.out.2 (HRF.out _ HB.out) (HRT.out _ HB.out))
      have hor : (¬ (i : Int) < (N : Int)) ∨ ((i : Int) < (N : Int) ∧ ¬ (i : Int) < 150) := by omega
      clear hlt hi hi2 hni
      as_aux_lemma =>
        rcases hor with h1 | ⟨h1, h2⟩
        all_goals
          go_wp2_with (first
            | (go_at_call 18; refine HEN.out.mono ?_; rintro e w21 ⟨rfl, hb⟩
               have HB21 := Lib.hid (HB.out.trans (hb.mono HB.out.size))
               clear hb)
            | (go_at_call 5; refine (AL.out _).mono ?_; rintro e w22 ⟨rfl, hb⟩; have HB22 := Lib.hid (HB0.out.trans ((HB21.out.trans (hb.mono HB21.out.size)).mono HB0.out.size)); clear hb)
            | fail)
          go_ret
          exact ⟨rfl, HB22.out⟩
end Go.Proofs.Ytfmhijaljlmgaaa

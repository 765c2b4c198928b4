/- Package table: insert, its walk. -/
import Derived.Test.YtkohppalfcalbaaGreatPK
namespace Go.Proofs.YtkohppalfcalbaaGreat
open Go.RowKit
/-- the world behind region 6 -/
def InR (wc w0 : World) (G G0 D : Nat → Prop) (q P c i o cap : Nat) (es' : List Ent) (p : Pg) (ps : List Pg) (wx : World) : Prop := ∃ W W5 g' A5 cap5, Below wc.heap.size wc W ∧ BhPg w0 W G G0 D q P c i o cap g' (.slice A5 es'.length cap5) es' p ps W5 ∧ wx = W5.setCell ⟨P, o + i, none⟩ (.slice A5 es'.length cap5)
set_option maxRecDepth 100000 in
set_option maxHeartbeats 8000000 in
theorem insert_any {w : World} {G D : Nat → Prop} {q P c i j : Nat} {ps : List Pg} (h : Tb0 w G D q P c ps) (hf : ∀ p ∈ ps, p.es ≠ [] ∧ p.es.length ≤ 128) (hn : ps.length ≤ 1000) (hil : i ≤ ps.length) (hj : ∀ p, ps[i]? = some p → j ≤ p.es.length) (hj0 : i = ps.length → j = 0) (hc : c ≤ 100000) (X : Ent) (hx : EntOk w D X) :
    Calls Tryz.prog 90 #[.pointer (some ⟨q, 0, none⟩), .int .i64 (i : Int), .int .i64 (j : Int), X.v] w (InT w G D q c (laidIn (flat ps) ((flat (ps.take i)).length + j) X)) := by
  obtain ⟨kA, k, kc, rA, r, rc⟩ := X
  unfold Ent.v
  obtain ⟨kn, hkn⟩ : ∃ kn, kn = k.length := ⟨_, rfl⟩
  obtain ⟨rn, hrn⟩ : ∃ rn, rn = r.length := ⟨_, rfl⟩
  obtain ⟨X, hX⟩ : ∃ X : Ent, X = ⟨kA, k, kc, rA, r, rc⟩ := ⟨_, rfl⟩
  have HXC : X.cells = [.slice kA kn kc, .slice rA rn rc] := by rw [hX, hkn, hrn]; rfl
  have HXK : X.kA = kA ∧ X.k.length = kn ∧ X.kc = kc ∧ X.rA = rA ∧ X.r.length = rn ∧ X.rc = rc := by rw [hX, hkn, hrn]; exact ⟨rfl, rfl, rfl, rfl, rfl, rfl⟩
  simp only
  rw [← hX] at hx ⊢
  rw [← hkn, ← hrn]
  obtain ⟨w0, hw0⟩ : ∃ w0, w0 = w.alloc (.cells #[.slice kA kn kc, .slice rA rn rc] 92) := ⟨_, rfl⟩
  have hb0 : Below w.heap.size w w0 := by rw [hw0]; exact alloc_below w _
  have hbx : w0.heap[w.heap.size]? = some (.cells #[.slice kA kn kc, .slice rA rn rc] 92 (0, 0)) := by rw [hw0]; exact heap_alloc_new w _
  have hbx' : w0.heap[w.heap.size]? = some (.cells #[.slice X.kA X.k.length X.kc, .slice X.rA X.r.length X.rc] 92 (0, 0)) := by
    obtain ⟨e1, e2, e3, e4, e5, e6⟩ := HXK
    rw [e1, e2, e3, e4, e5, e6]; exact hbx
  have hbl : w.heap.size < w0.heap.size := by rw [hw0]; simp
  obtain ⟨LL, hLL⟩ : ∃ LL, LL = laidIn (flat ps) ((flat (ps.take i)).length + j) X := ⟨_, rfl⟩
  rw [← hLL]
  obtain ⟨v, hv1, hv2⟩ := h.box
  obtain ⟨A0, cap0, rfl, _, _⟩ := hv2.slice
  have hv0 := (hb0.block q h.lt).trans hv1
  obtain ⟨x0, _⟩ := box2 hv0
  have f0 := frozen_of hv0 0
  have HONE : Hid (ps ≠ [] → OneV w G D q c i j X LL w0) := Lib.hid fun hne => ⟨G, P, ps, by rw [hLL]; exact OnePg.of h hb0 hne hf hn hil hj hj0 hx hbx' hbl⟩
  have HNIL : Hid (ps = [] → OneV w G D q c i j X LL ((w0.alloc (.cells #[.slice none 0 0] 156)).setCell ⟨q, 0, none⟩ (.slice (some ⟨w0.heap.size, 0, none⟩) 1 1))) := Lib.hid fun he => by
    subst he
    have hi0 : i = 0 := by simpa using hil
    subst hi0
    have hjj := hj0 rfl
    subst hjj
    rw [hLL]
    exact OnePg.nil h hb0 hbl hx hv0 hbx'
  have HW0 := Lib.hid hw0
  have HQ := Lib.hid h.lt
  have HV0 := Lib.hid hv0
  have hni : (ps.length : Int) ≤ 1000 := by omega
  have hci : (c : Int) ≤ 100000 := by omega
  clear h hx hf hb0 hbx hbx' hj hj0 hkn hrn hw0 hLL hv1 hv2 hv0 hX
  go_enter Tryz.func90, Tryz.ntmps90
  go_upto_region 1 with (fail)
  rw [← HW0.out]
  clear HW0
  go_upto_if 14 with (fail)
  go_cut [] (fun wx => OneV w G D q c i j X LL wx)
  case first =>
    by_cases hps : ps = []
    · have hl0 : ((ps.length : Int) == 0) = true := by rw [hps]; rfl
      have HY := Lib.hid (HNIL.out hps)
      have hq0 : (w0.alloc (.cells #[.slice none 0 0] 156)).cell? ⟨q, 0, none⟩ = some (.slice A0 ps.length cap0) := (box2 (((alloc_below w0 (.cells #[.slice none 0 0] 156)).block q (Array.getElem?_eq_some_iff.1 HV0.out).1).trans HV0.out)).1
      have hf0 : (w0.alloc (.cells #[.slice none 0 0] 156)).frozen? ⟨q, 0, none⟩ = false := frozen_of (((alloc_below w0 (.cells #[.slice none 0 0] 156)).block q (Array.getElem?_eq_some_iff.1 HV0.out).1).trans HV0.out) 0
      clear hps
      go_wp2_with fail
      go_meet
      exact HY.out
    · have hl0 : ((ps.length : Int) == 0) = false := by
        have := List.length_pos_iff.2 hps
        simp; omega
      have HY := Lib.hid (HONE.out hps)
      clear hps
      go_wp2_with fail
      go_meet
      exact HY.out
  case rest =>
    obtain ⟨G1, P1, ps1, h1⟩ := hcut
    have hl1 := List.length_pos_iff.2 h1.ne
    have hn1 := h1.fewp
    obtain ⟨p0, hp0⟩ : ∃ p, ps1[0]? = some p := ⟨_, List.getElem?_eq_getElem hl1⟩
    obtain ⟨o1, cap1, hb1, ho1, hP1⟩ := h1.t.cap hp0
    obtain ⟨y0, _⟩ := box2 hb1
    have H1 := Lib.hid h1
    have HO1 := Lib.hid ho1
    have hni1 : (ps1.length : Int) ≤ 1000 := by omega
    clear HONE HNIL HQ HV0 x0 f0 h1 hp0 hb1 ho1 hP1 p0
    go_upto_if 25 with (fail)
    go_cut [1, 2] (fun v1 v2 wx => AtV w G D q c X LL v1 v2 wx)
    case first =>
      by_cases hie : i = ps1.length
      · obtain ⟨m, hm⟩ : ∃ m, ps1.length = m + 1 := ⟨ps1.length - 1, by omega⟩
        obtain ⟨p, hp⟩ : ∃ p, ps1[m]? = some p := ⟨_, List.getElem?_eq_getElem (by omega)⟩
        obtain ⟨A, pc, hpv, _⟩ := (H1.out.t.page p (List.mem_of_getElem? hp)).1.slice
        have hcell : wc.cell? ⟨P1, o1 + m, none⟩ = some (.slice A p.es.length pc) := by
          have := HO1.out.cell m p.v (by unfold pagesV; rw [List.getElem?_map, hp]; rfl)
          rw [this, hpv]
        have hll : ∀ p' : Pg, p'.es = p.es.take p.es.length ++ (X :: p.es.drop p.es.length) → flat (ps1.set m p') = LL := fun p' hp' => by
          rcases H1.out.cases with ⟨x, hx, _⟩ | ⟨_, hc2⟩
          · have := (List.getElem?_eq_some_iff.1 hx).1; omega
          · exact hc2 m p hp hm.symm p' (by rw [hp']; simp)
        obtain ⟨o2, cap2, A2, pc2, hR⟩ := H1.out.at_ hp p.es.length (Nat.le_refl _) hll
        have HY : Hid (AtV w G D q c X LL (.int .i64 (m : Int)) (.int .i64 (p.es.length : Int)) wc) := Lib.hid ⟨_, _, _, _, _, _, _, _, _, _, rfl, rfl, hR⟩
        have hie2 : (((i : Nat) : Int) == ((ps1.length : Nat) : Int)) = true := by simp [hie]
        have hie1 : i = m + 1 := by omega
        have hmi : (m : Int) + 1 ≤ 1000 := by omega
        have hml : (m : Int) < (ps1.length : Int) := by omega
        have hpl := (H1.out.pages p (List.mem_of_getElem? hp)).2.1
        have hpli : (p.es.length : Int) ≤ 128 := by omega
        clear hie hll hR hm hp hpv hil hn hn1 hl1 hpl
        subst hie1
        go_wp2_with fail
        go_meet
        exact HY.out
      · have HY : Hid (AtV w G D q c X LL (.int .i64 (i : Int)) (.int .i64 (j : Int)) wc) := Lib.hid (by
          rcases H1.out.cases with ⟨x, hx, hjx, hlx⟩ | ⟨hc2, _⟩
          · obtain ⟨o2, cap2, A2, pc2, hR⟩ := H1.out.at_ hx j hjx hlx
            exact ⟨_, _, _, _, _, _, _, _, _, _, rfl, rfl, hR⟩
          · exact absurd hc2 hie)
        have hie2 : (((i : Nat) : Int) == ((ps1.length : Nat) : Int)) = false := by simp; omega
        clear hie
        go_wp2_with fail
        go_meet
        exact HY.out
    case rest =>
      obtain ⟨G2, P2, i2, j2, o2, cap2, A, pc, p, ps2, rfl, rfl, hR⟩ := hcut
      clear H1 HO1 y0 hni1 hl1 hn1
      obtain ⟨es', hes'⟩ : ∃ es', es' = p.es.take j2 ++ (X :: p.es.drop j2) := ⟨_, rfl⟩
      have hj2 := hR.a.jl
      have hes : es'.length = p.es.length + 1 := by rw [hes', List.length_append, List.length_cons, List.length_take, List.length_drop]; omega
      have hbx2 : wc.heap[w.heap.size]? = some (.cells #[.slice kA kn kc, .slice rA rn rc] 92 (0, 0)) := by
        have := hR.bx
        obtain ⟨e1, e2, e3, e4, e5, e6⟩ := HXK
        rw [e1, e2, e3, e4, e5, e6] at this; exact this
      have HS0 : Hid (∀ W, Below wc.heap.size wc W → W.cell? ⟨q, 0, none⟩ = some (.slice (some ⟨P2, o2, none⟩) ps2.length cap2) ∧ W.cell? ⟨P2, o2 + i2, none⟩ = some (.slice A p.es.length pc) ∧ W.cell? ⟨w.heap.size, 0, none⟩ = some (.slice kA kn kc) ∧ W.cell? ⟨w.heap.size, 1, none⟩ = some (.slice rA rn rc)) := Lib.hid fun W hb => by
        obtain ⟨y0, y1⟩ := (hR.a.below hb).cells
        obtain ⟨z0, z1⟩ := box2 ((hb.block w.heap.size hR.bel).trans hbx2)
        exact ⟨y0, y1, z0, z1⟩
      have HI : Hid (∀ W vb, Below wc.heap.size wc W → W.heap[vb]? = some (.cells #[.slice kA kn kc, .slice rA rn rc] 92 (0, 0)) → wc.heap.size ≤ vb → Calls Tryz.prog 123 #[.slice A p.es.length pc, .int .i64 (j2 : Int), .slice (some ⟨vb, 0, none⟩) 1 1] W (InsTE W q p.g p.es.length (entV es'))) := Lib.hid fun W vb hb hvb hle => by
        have ha := hR.a.below hb
        have hpv := (ha.t.page p (List.mem_of_getElem? ha.hp)).1
        have hpg := hR.pg
        have hbl2 := hR.bel
        have hfw := hR.few
        rw [ha.v] at hpv
        rw [hes', ← entV_ins]
        exact insertE_any hpv ha.t.lt (by omega) (ys := X.cells) (by rw [HXC]; exact hvb) (by omega) (by rw [HXC]; rfl) (by rw [HXC]; intro u hu; simp only [List.mem_cons, List.not_mem_nil, or_false] at hu; rcases hu with rfl | rfl <;> rfl) (entV_one _) j2 hj2
      have HIB : Hid (∀ W g' v' W5, Below wc.heap.size wc W → HeldC W5 q g' 2 v' (p.es.length + 1) (entV es') → Only (fun k => k = p.g ∧ k ≠ q) W W5 → (g' = p.g ∨ W.heap.size ≤ g') → BhPg w W G2 G D q P2 c i2 o2 cap2 g' v' es' p ps2 W5 ∧ Below wc.heap.size wc W) := Lib.hid fun W g' v' W5 hb hv hO hg => by
        have hR2 := hR.below hb
        refine ⟨?_, hb⟩
        refine ⟨⟨j2, A, pc, hR2.a⟩, by rw [hes]; exact hv, hO, hg, fun x hx2 => ?_⟩
        rw [hes', List.mem_append, List.mem_cons] at hx2
        rcases hx2 with h1 | rfl | h1
        · exact hR2.a.t.ents p (List.mem_of_getElem? hR2.a.hp) x (List.mem_of_mem_take h1)
        · exact hR2.x
        · exact hR2.a.t.ents p (List.mem_of_getElem? hR2.a.hp) x (List.mem_of_mem_drop h1)
      obtain ⟨x0, x1, b0, b1⟩ := HS0.out _ (Below.refl _ _)
      obtain ⟨n0, n1, n2, n3⟩ := HS0.out _ (alloc_below wc (.cells #[.slice kA kn kc, .slice rA rn rc] 92))
      have hlt2 := (List.getElem?_eq_some_iff.1 hR.a.hp).1
      have hfp := hR.fewp
      have hni2 : (ps2.length : Int) ≤ 1000 := by omega
      have hlti : (i2 : Int) < (ps2.length : Int) := by omega
      have HR := Lib.hid hR
      have HES := Lib.hid hes
      have HES' := Lib.hid hes'
      have HIR : Hid (∀ W W5 g' A5 cap5, Below wc.heap.size wc W → BhPg w W G2 G D q P2 c i2 o2 cap2 g' (.slice A5 (p.es.length + 1) cap5) es' p ps2 W5 → InR wc w G2 G D q P2 c i2 o2 cap2 es' p ps2 (W5.setCell ⟨P2, o2 + i2, none⟩ (.slice A5 (p.es.length + 1) cap5))) := Lib.hid fun W W5 g' A5 cap5 hb hB => ⟨W, W5, g', A5, cap5, hb, by rw [hes]; exact hB, by rw [hes]⟩
      clear hR hes hes' hj2 hbx2 hlt2 hfp HXC HXK
      go_upto_region 6 with (fail)
      go_cut [] (fun wx => InR wc w G2 G D q P2 c i2 o2 cap2 es' p ps2 wx)
      case first =>
        go_region_law (go_simp; go_at_call 123; refine (HI.out _ _ (by first | exact alloc_drew_below _ _ | exact (drew_below _).trans (alloc_below _ _)) (by exact heap_alloc_new _ _) (by exact Nat.le_refl _)).mono ?_; rintro e w5 ⟨g', v', rfl, hv, hO, hg⟩
                       obtain ⟨A5, cap5, rfl, _, _⟩ := hv.slice
                       obtain ⟨hB1, hB2⟩ := HIB.out _ _ _ _ (by first | exact alloc_drew_below _ _ | exact (drew_below _).trans (alloc_below _ _)) hv hO hg
                       have HB := Lib.hid hB1
                       have HBB := Lib.hid hB2
                       obtain ⟨u0, u1⟩ := HB.out.cells _ rfl
                       have zf := HB.out.frz
                       clear hv hO hg hB1 hB2)
        all_goals
          go_wp2_with fail
          go_meet
          exact HIR.out _ _ _ _ _ HBB.out HB.out
      case rest =>
        clear HI HIB n0 n1 n2 n3 x0 x1 b0 b1
        obtain ⟨W, W5, g', A5, cap5, hbW, hB, hwc⟩ := hcut
        subst hwc
        obtain ⟨o3, cap3, A3, pc3, hA3⟩ := hB.done (c + 1)
        have hcl := hB.cells _ rfl
        have hbq : (W5.setCell ⟨P2, o2 + i2, none⟩ (.slice A5 es'.length cap5)).heap[q]? = some (.cells #[.slice (some ⟨P2, o2, none⟩) ps2.length cap2, .int .i64 (c : Int)] 147 (0, 0)) := by
          obtain ⟨_, _, _, ha⟩ := hB.a
          exact ((Only.set W5 P2 (o2 + i2) _).block q (Nat.lt_of_lt_of_le ha.t.lt hB.o_.size) (fun e => ha.pq e.symm)).trans ((hB.o_.block q ha.t.lt (fun e => e.2 rfl)).trans ha.box)
        obtain ⟨x0, x1⟩ := box2 hbq
        have zq := frozen_of hbq 1
        have hgne : g' ≠ q ∧ ∃ o5, A5 = some ⟨g', o5, none⟩ ∧ OwnC W5 g' o5 cap5 2 es'.length (entV es') := by
          rcases hB.v with ⟨_, h0, _⟩ | ⟨h1, o5, cap', h2, h3⟩
          · have := HES.out; omega
          · injection h2 with h2 h4 h5
            subst h2 h5
            exact ⟨h1, o5, rfl, h3⟩
        obtain ⟨hgq, o5, rfl, _⟩ := hgne
        have hA4 := hA3
        push_cast at hA4
        obtain ⟨W6, hW6⟩ : ∃ W6, W6 = W5.setCell ⟨P2, o2 + i2, none⟩ (.slice (some ⟨g', o5, none⟩) es'.length cap5) := ⟨_, rfl⟩
        rw [← hW6] at hA4 x0 x1 zq ⊢
        have hN1 : es'.length ≤ 129 := by have := HES.out; have := HR.out.few; omega
        have hNi : (es'.length : Int) ≤ 129 := by omega
        have hN0 : 0 < es'.length := by have := HES.out; omega
        obtain ⟨N, hN⟩ : ∃ N, N = es'.length := ⟨_, rfl⟩
        have HFL : Hid (flat (ps2.set i2 ⟨g', .slice (some ⟨g', o5, none⟩) N cap5, es'⟩) = LL) := Lib.hid (HR.out.ll _ HES'.out)
        have HOT : Hid (∀ k x, (ps2.set i2 ⟨g', .slice (some ⟨g', o5, none⟩) N cap5, es'⟩)[k]? = some x → k ≠ i2 → x.es ≠ [] ∧ x.es.length ≤ 128) := Lib.hid (fun k x hk hne => by
          rw [List.getElem?_set, if_neg (fun e => hne e.symm)] at hk
          exact HR.out.others k x hk hne)
        rw [← hN] at hA4 hN1 hNi hN0
        obtain ⟨ps3, hps3⟩ : ∃ ps3, ps3 = ps2.set i2 ⟨g', .slice (some ⟨g', o5, none⟩) N cap5, es'⟩ := ⟨_, rfl⟩
        have hl3 : ps3.length = ps2.length := by rw [hps3, List.length_set]
        rw [← hps3] at hA4 HFL HOT
        have HA4 := Lib.hid hA4
        have HL3 := Lib.hid hl3
        have HN := Lib.hid hN
        have hNi' : (N : Int) ≤ 129 := by omega
        have hNN : Hid (es'.length = N) := Lib.hid hN.symm
        clear hA3 hA4 hB hbW hbq hps3 hl3 hW6
        rw [hNN.out] at HES
        clear hN hNi
        go_upto_region 8 with (fail)
        obtain ⟨W7, hW7⟩ : ∃ W7, W7 = W6.setCell ⟨q, 1, none⟩ (.int .i64 ((c : Int) + 1)) := ⟨_, rfl⟩
        rw [← hW7] at HA4 ⊢
        clear hW7 x0 x1 zq
        have hv7 := HA4.out.v
        simp only at hv7
        injection hv7 with e1 e2 e3
        subst e1 e3
        obtain ⟨y0, y1⟩ := HA4.out.cells
        simp only at y1
        rw [hNN.out] at y1
        have hl3 := HL3.out
        have hni3 : (ps3.length : Int) ≤ 1000 := by omega
        have hlti3 : (i2 : Int) < (ps3.length : Int) := by omega
        have hwn3 : IntKind.i64.wrap ((i2 : Int) + 1) = (i2 : Int) + 1 := by rw [IntKind.wrap_i64]; omega
        have hG' : Hid (∀ j, (fun j => G2 j ∨ j = g') j → G j ∨ w.heap.size ≤ j) := Lib.hid HA4.out.g
        clear hcl e2 hl3
        by_cases h128 : N ≤ 128
        · have hd : (N : Int) ≤ 128 := by omega
          have HY : Hid (InT w G D q c LL (.returned (.tuple #[])) W7) := Lib.hid ⟨rfl, _, P2, ps3, HA4.out.t, HFL.out, fun x hx => by
            obtain ⟨k, hk⟩ := List.mem_iff_getElem?.1 hx
            by_cases hki : k = i2
            · subst hki
              have := HA4.out.hp
              rw [hk] at this
              injection this with this
              subst this
              exact ⟨fun e => by have e4 : es' = [] := e; have := hNN.out; rw [e4] at this; simp at this; omega, by show es'.length ≤ 128; rw [hNN.out]; exact h128⟩
            · exact HOT.out k x hk hki, hG'.out, HA4.out.o_⟩
          clear h128
          go_wp2_with fail
          go_end0
          exact HY.out
        · have hN129 : N = 129 := by omega
          have hd : (128 : Int) < (N : Int) := by omega
          have hncap : N ≤ cap5 := by
            rcases (HA4.out.t.page _ (List.mem_of_getElem? HA4.out.hp)).1 with ⟨_, h0, _⟩ | ⟨_, o6, cap6, h2, h3⟩
            · have : es'.length = 0 := h0
              rw [hNN.out] at this; omega
            · simp only at h2
              injection h2 with h4 h5 h6
              subst h6
              have := h3.room
              have e4 : es'.length ≤ cap5 := this
              rw [hNN.out] at e4; exact e4
          have hc64 : ¬ cap5 = 64 := by omega
          have h64 : 64 ≤ N := by omega
          have h64i : (64 : Int) ≤ (N : Int) := by omega
          have hw2 : (0 : Int) ≤ (i2 : Int) + 1 := by omega
          have hw3 : ((i2 : Int) + 1).toNat = i2 + 1 := by omega
          clear h128
          subst hN129
          have hT7 := HA4.out.t
          have hp7 := HA4.out.hp
          have hho : OwnC W7 g' o5 cap5 2 129 (entV es') := by
            rcases (hT7.page _ (List.mem_of_getElem? hp7)).1 with ⟨_, h0, _⟩ | ⟨_, o6, cap6, h2, h3⟩
            · have : es'.length = 0 := h0
              rw [hNN.out] at this; omega
            · simp only at h2
              injection h2 with h4 h5 h6
              injection h4 with h4
              injection h4 with h7 h8
              subst h6 h8
              have h9 : OwnC W7 g' o5 cap5 2 es'.length (entV es') := h3
              rw [hNN.out] at h9
              exact h9
          have hdl : (entV (es'.drop 64)).length = 65 * 2 := by rw [entV_len, List.length_drop, hNN.out]
          have HQ7 : Hid (∀ W, Below W7.heap.size W7 W → W.cell? ⟨q, 0, none⟩ = some (.slice (some ⟨P2, o3, none⟩) ps3.length cap3)) := Lib.hid fun W hb => (HA4.out.below hb).cells.1
          have HCL : Hid (∀ W, Below W7.heap.size W7 W → Calls Tryz.prog 125 #[.slice (some ⟨g', o5 + 128, none⟩) 65 (cap5 - 64)] W (ClnT W q 65 (entV (es'.drop 64)))) := Lib.hid fun W hb => by
            have h1 := hho.only (Only.of_below (K := fun _ => False) hb) id
            exact cloneE_any (Nat.lt_of_lt_of_le hT7.lt hb.size) hdl (by omega) (fun j u hj => by
              have h2 := h1.rdAt (64 * 2) j u
              rw [entV_drop] at h2
              exact h2 hj) h1.lt (entV_one _)
          have HIP : Hid (∀ W vb An capn, Below W7.heap.size W7 W → W.heap[vb]? = some (.cells #[.slice An 65 capn] 156 (0, 0)) → W7.heap.size ≤ vb → Calls Tryz.prog 124 #[.slice (some ⟨P2, o3, none⟩) ps3.length cap3, .int .i64 ((i2 : Int) + 1), .slice (some ⟨vb, 0, none⟩) 1 1] W (InsTP W q P2 ps3.length ((pagesV ps3).take (i2 + 1) ++ ([.slice An 65 capn] ++ (pagesV ps3).drop (i2 + 1))))) := Lib.hid fun W vb An capn hb hvb hle => by
            have ha := HA4.out.below hb
            have hlt7 := (List.getElem?_eq_some_iff.1 hp7).1
            have h1 : HeldC W q P2 1 (.slice (some ⟨P2, o3, none⟩) ps3.length cap3) ps3.length (pagesV ps3) := .inr ⟨ha.pq, o3, cap3, rfl, ha.own⟩
            have h2 := insertP_any h1 ha.t.lt (by omega) (ys := [.slice An 65 capn]) (vb := vb) (e := 156) (by simpa using hvb) (by have := hT7.glt P2 hT7.gP; omega) rfl (by intro u hu; rw [List.mem_singleton] at hu; subst hu; rfl) ha.t.one (i2 + 1) (by omega)
            push_cast at h2
            exact h2
          have HSR : Hid (∀ w8 gn An capn w11 P' v', Below W7.heap.size W7 w8 → HeldC w8 q gn 2 (.slice An 65 capn) 65 (entV (es'.drop 64)) → W7.heap.size ≤ gn → HeldC w11 q P' 1 v' (ps3.length + 1) ((pagesV ps3).take (i2 + 1) ++ ([.slice An 65 capn] ++ (pagesV ps3).drop (i2 + 1))) → Only (fun k => k = P2 ∧ k ≠ q) (w8.alloc (.cells #[.slice An 65 capn] 156)) w11 → (P' = P2 ∨ (w8.alloc (.cells #[.slice An 65 capn] 156)).heap.size ≤ P') →
              SpR w G D q (c + 1) i2 ⟨g', .slice (some ⟨g', o5, none⟩) 129 cap5, es'⟩ ps3 (w11.setCell ⟨q, 0, none⟩ v') ∧ w11.cell? ⟨q, 0, none⟩ = some (.slice (some ⟨P2, o3, none⟩) ps3.length cap3) ∧ w11.frozen? ⟨q, 0, none⟩ = false) := Lib.hid fun w8 gn An capn w11 P' v' hb hvn hgn hv hO hP => by
            have hb8 := alloc_below w8 (.cells #[.slice An 65 capn] 156)
            have hbW := hb.trans (hb8.mono hb.size)
            have hpn : HeldC (w8.alloc (.cells #[.slice An 65 capn] 156)) q gn 2 (.slice An 65 capn) (es'.drop 64).length (entV (es'.drop 64)) := by
              rw [show (es'.drop 64).length = 65 by rw [List.length_drop, hNN.out]]
              exact hvn.only (Only.of_below (K := fun _ => False) hb8) (fun _ => id)
            have hq11 := (hO.block q (HA4.out.below hbW).t.lt (fun e => e.2 rfl)).trans (HA4.out.below hbW).box
            refine ⟨HA4.out.split hbW (pn := ⟨gn, .slice An 65 capn, es'.drop 64⟩) hpn hgn rfl ?_ hO hP, (box2 hq11).1, frozen_of hq11 0⟩
            have e4 : pagesV (ps3.take (i2 + 1) ++ ((⟨gn, .slice An 65 capn, es'.drop 64⟩ : Pg) :: ps3.drop (i2 + 1))) = (pagesV ps3).take (i2 + 1) ++ ([.slice An 65 capn] ++ (pagesV ps3).drop (i2 + 1)) := by simp [pagesV]
            rw [e4]
            exact hv
          clear hT7 hp7 hho hdl
          go_upto_region 10 with (fail)
          go_cut [] (fun wx => SpR w G D q (c + 1) i2 ⟨g', .slice (some ⟨g', o5, none⟩) 129 cap5, es'⟩ ps3 wx)
          case first =>
            go_region_law (first
              | (go_simp; go_at_call 125; refine (HCL.out _ (by first | exact drew_below _ | exact Below.refl _ _)).mono ?_; rintro e w8 ⟨gn, vn, rfl, hvn, hbn, hgn⟩
                 obtain ⟨An, capn, rfl, _, _⟩ := hvn.slice
                 have H8 := Lib.hid (by first | exact below_drew hbn | exact hbn : Below W7.heap.size W7 w8)
                 have HVN := Lib.hid hvn
                 have HGN : Hid (W7.heap.size ≤ gn) := Lib.hid (by exact hgn)
                 have q8 := HQ7.out _ H8.out
                 have q9 := HQ7.out _ (H8.out.trans ((alloc_below w8 (.cells #[.slice An 65 capn] 156)).mono H8.out.size))
                 clear hvn hbn hgn)
              | (go_simp; go_at_call 124; refine (HIP.out _ _ _ _ (by exact H8.out.trans ((alloc_below w8 _).mono H8.out.size)) (by exact heap_alloc_new _ _) (by exact H8.out.size)).mono ?_; rintro e w11 ⟨P', v', rfl, hv, hO, hP⟩
                 obtain ⟨A', cap', rfl, _, _⟩ := hv.slice
                 obtain ⟨hsp, q11, z11⟩ := HSR.out _ _ _ _ _ _ _ H8.out HVN.out HGN.out hv hO hP
                 have HSP := Lib.hid hsp
                 clear hv hO hP hsp))
            all_goals
              go_wp2_with fail
              go_meet
              exact HSP.out
          case rest =>
            obtain ⟨G4, P4, pn, hpn, ht4, hg4, hO4⟩ := hcut
            clear HCL HIP HSR HQ7 y0
            have hp3 := HA4.out.hp
            have hlt7 := (List.getElem?_eq_some_iff.1 hp3).1
            have hp4 : (ps3.take (i2 + 1) ++ (pn :: ps3.drop (i2 + 1)))[i2]? = some ⟨g', .slice (some ⟨g', o5, none⟩) 129 cap5, es'⟩ := by
              rw [List.getElem?_append_left (by rw [List.length_take]; omega), List.getElem?_take, if_pos (by omega), hp3]
            obtain ⟨o4, cap4, hbx4, ho4, hpq4⟩ := ht4.cap hp4
            have hho : OwnC wc g' o5 cap5 2 129 (entV es') := by
              rcases (ht4.page _ (List.mem_of_getElem? hp4)).1 with ⟨_, h0, _⟩ | ⟨_, o6, cap6, h2, h3⟩
              · have : es'.length = 0 := h0
                rw [hNN.out] at this; omega
              · simp only at h2
                injection h2 with h4 h5 h6
                injection h4 with h4
                injection h4 with h7 h8
                subst h6 h8
                have h9 : OwnC wc g' o5 cap5 2 es'.length (entV es') := h3
                rw [hNN.out] at h9
                exact h9
            have HDL : Hid (∀ W : World, W.heap = wc.heap → Calls Tryz.prog 126 #[.slice (some ⟨g', o5, none⟩) 129 cap5, .int .i64 64, .int .i64 129] W (DelTE W g' o5 cap5 64 (entV (es'.take 64)))) := Lib.hid fun W e => by
              have h1 := deleteE_any (hho.heap e) (entV_one _) 64 129 64 (by omega) (by omega) (by omega) (by omega)
              have e2 : (entV es').take (64 * 2) ++ (entV es').drop (129 * 2) = entV (es'.take 64) := by
                rw [entV_take, entV_drop, List.drop_eq_nil_of_le (by rw [hNN.out]; omega)]
                simp [entV]
              rw [e2] at h1
              exact h1
            obtain ⟨nl, hnl⟩ : ∃ nl, nl = (ps3.take (i2 + 1) ++ (pn :: ps3.drop (i2 + 1))).length := ⟨_, rfl⟩
            have hnl2 : nl = ps3.length + 1 := by rw [hnl, List.length_append, List.length_cons, List.length_take, List.length_drop]; omega
            have hpl : g' ≠ P4 := (ht4.page _ (List.mem_of_getElem? hp4)).2.1
            have HFN : Hid (∀ w12, OwnC w12 g' o5 cap5 2 64 (entV (es'.take 64)) → Only (· = g') wc w12 → InT w G D q c LL (.returned (.tuple #[])) (w12.setCell ⟨P4, o4 + i2, none⟩ (.slice (some ⟨g', o5, none⟩) 64 cap5))) := Lib.hid fun w12 ho hO =>
              SpR.done (p := ⟨g', .slice (some ⟨g', o5, none⟩) 129 cap5, es'⟩) ht4 hpn hg4 hO4 hp3 hNN.out hbx4 hgq ho hO HOT.out HFL.out c rfl
            have HC12 : Hid (∀ w12 : World, Only (· = g') wc w12 → w12.cell? ⟨q, 0, none⟩ = some (.slice (some ⟨P4, o4, none⟩) nl cap4) ∧ w12.cell? ⟨P4, o4 + i2, none⟩ = some (.slice (some ⟨g', o5, none⟩) 129 cap5) ∧ w12.frozen? ⟨P4, o4 + i2, none⟩ = false) := Lib.hid fun w12 hO => by
              have h1 := ho4.only hO (fun e => hpl e.symm)
              have hr := h1.room
              refine ⟨by rw [hnl]; exact (box2 ((hO.block q ht4.lt (fun e => hgq e.symm)).trans hbx4)).1, h1.cell i2 _ (by unfold pagesV; rw [List.getElem?_map, hp4]; rfl), (h1.free i2 (by omega)).2⟩
            obtain ⟨y0, y1, _⟩ := HC12.out wc (Only.refl _ _)
            have hlti4 : (i2 : Int) < (nl : Int) := by omega
            have hnl3 : (nl : Int) ≤ 1001 := by omega
            clear hp3 hp4 hbx4 ho4 hho hnl hnl2 hpl hlt7 ht4 hg4 hO4 hpn hwn3 hw2 hw3
            go_wp2_with fail
            go_region_law (go_simp; go_at_call 126; refine (HDL.out _ (by rfl)).mono ?_; rintro e w12 ⟨rfl, ho, hO⟩
                           have hO := (Only.of_below (K := fun k => k = g') (drew_below wc)).trans hO (fun _ _ e => e)
                           obtain ⟨u0, u1, u2⟩ := HC12.out _ hO
                           have HY := Lib.hid (HFN.out _ ho hO)
                           clear ho hO)
            all_goals
              go_wp2_with fail
              go_end0
              exact HY.out
end Go.Proofs.YtkohppalfcalbaaGreat

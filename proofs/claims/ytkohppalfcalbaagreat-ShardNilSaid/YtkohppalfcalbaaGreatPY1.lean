/- slices.Delete and Insert of entries. -/
import Derived.Test.YtkohppalfcalbaaGreatPD
namespace Go.Proofs.YtkohppalfcalbaaGreat
section
open Go.RowKit
theorem infoE : (Tryz.prog.info? 92).map (fun i => (i.zero, i.size, i.bytes)) = some (some (.agg #[.slice none 0 0, .slice none 0 0]), 2, 48) := by kernel_rfl
/-- what Delete answers -/
def DelTE (w : World) (g o cap n : Nat) (vs : List Value) (e : Ending) (w' : World) : Prop := e = .returned (.slice (some ⟨g, o, none⟩) n cap) ∧ OwnC w' g o cap 2 n vs ∧ Only (· = g) w w'
set_option maxRecDepth 100000 in
set_option maxHeartbeats 4000000 in
theorem deleteE_any {w : World} {g o cap n : Nat} {vs : List Value} (h : OwnC w g o cap 2 n vs) (h1 : ∀ u ∈ vs, u.oneCell' = true) (i j m : Nat) (hij : i < j) (hjn : j ≤ n) (hm : i + (n - j) = m) (hn : n ≤ 1000000) :
    Calls Tryz.prog 126 #[.slice (some ⟨g, o, none⟩) n cap, .int .i64 (i : Int), .int .i64 (j : Int)] w (DelTE w g o cap m (vs.take (i * 2) ++ vs.drop (j * 2))) := by
  obtain ⟨i0, hi, hz0, hz1, hz2⟩ := info_parts infoE
  have hlen := h.len
  have hnc := h.room
  have HW := Lib.hid h
  have HL : Hid ((vs.drop (j * 2)).length = (n - j) * 2) := Lib.hid (by rw [List.length_drop, hlen]; omega)
  have H1 : Hid (∀ u ∈ vs.drop (j * 2), u.oneCell' = true) := Lib.hid fun u hu => h1 u (List.mem_of_mem_drop hu)
  have hv : ∀ w, (zeroValue 92).run Tryz.prog w = .ok (.agg #[.slice none 0 0, .slice none 0 0]) w := fun w => Tryz.zeroValue92 w
  have HM := Lib.hid hm
  have hin : i ≤ n := by omega
  have hic : i ≤ cap := by omega
  have hjc : j ≤ cap := by omega
  have hmc : m ≤ cap := by omega
  have hni : (n : Int) ≤ 1000000 := by omega
  have hiji : (i : Int) < (j : Int) := by omega
  have hjni : (j : Int) ≤ (n : Int) := by omega
  have hnci : (n : Int) ≤ (cap : Int) := by omega
  have hmn : m < n := by omega
  have hmni : (m : Int) < (n : Int) := by omega
  have HSR : Hid (∀ j' u, (vs.drop (j * 2))[j']? = some u → w.cell? ((⟨g, o + j * 2, none⟩ : Addr).add j') = some u) := Lib.hid (h.rdAt _)
  have HSR2 : Hid (n = j → ∀ (A : Addr), ∀ j' u, (vs.drop (j * 2))[j']? = some u → w.cell? (A.add j') = some u) := Lib.hid (fun e A j' u hu => by rw [List.drop_eq_nil_of_le (by rw [hlen, e]; omega)] at hu; simp at hu)
  clear h h1 hlen hn
  by_cases hcj : cap = j
  · have hnj : n = j := by omega
    have HE := Lib.hid (HSR2.out hnj)
    have HO5 : Hid (OwnC w g o cap 2 m (vs.take (i * 2) ++ vs.drop (j * 2))) := Lib.hid (by
      have h := HW.out.cut hin
      have e : vs.drop (j * 2) = [] := List.drop_eq_nil_of_le (by rw [HW.out.len, hnj]; omega)
      have e2 : m = i := by omega
      rw [e, List.append_nil, e2]
      simpa using h)
    have hmi : m = i := by omega
    have HMI := Lib.hid hmi
    obtain ⟨X, hX⟩ : ∃ X, Hid (X = vs.take (i * 2) ++ vs.drop (j * 2)) := ⟨_, Lib.hid rfl⟩
    rw [← hX.out] at HO5 ⊢
    subst hnj
    subst hcj
    subst hmi
    clear HSR HSR2 HE HL H1 hm hX HM
    go_enter Tryz.func126, Tryz.ntmps126
    go_wp2_with fail
    go_region_law (fail)
    obtain ⟨w6, hcl, ho6, hO6⟩ := run_clearC (P := Tryz.prog) (w := w.drew) 156 92 (sz := 2) Tryz.underlying156 hv rfl (by intro u hu; simp [Value.cells] at hu; subst hu; rfl) (by decide) (HO5.out.heap rfl) (m := cap - m) (c := cap - m) (k := m) (p' := o + m * 2) (by omega) (by omega) (Nat.le_refl _) (by omega)
    have HY : Hid (DelTE w g o cap m X (.returned (.slice (some ⟨g, o, none⟩) m cap)) w6) := Lib.hid ⟨rfl, ho6, (Only.of_below (drew_below w)).trans hO6 (fun _ _ e => e)⟩
    clear ho6 hO6
    go_wp2_with fail
    go_ret
    exact HY.out
  · have hcji : ¬ (cap : Int) = (j : Int) := by omega
    clear HSR2 hm
    go_enter Tryz.func126, Tryz.ntmps126
    go_wp2_with fail
    go_region_law (refine step_of_wp rfl (wp_appR _ _ 156 92 rfl Tryz.underlying156 hi hz1 (HW.out.heap rfl) (k := i) (by simp [Act.eval, Act.put]) hin (A := ⟨g, o + j * 2, none⟩) (m := n - j) (c := cap - j) (by simp [Act.eval, Act.put]) HL.out HSR.out H1.out (by omega) ?_)
                   intro w5 ho5 hO5
                   simp only [HM.out] at ho5 ⊢
                   skip
                   have HO5 := Lib.hid ho5
                   have HP5 := Lib.hid hO5
                   clear ho5 hO5)
    obtain ⟨w6, hcl, ho6, hO6⟩ := run_clearC (P := Tryz.prog) 156 92 (sz := 2) Tryz.underlying156 hv rfl (by intro u hu; simp [Value.cells] at hu; subst hu; rfl) (by decide) HO5.out (m := n - m) (c := cap - m) (k := m) (p' := o + m * 2) (by omega) (by omega) (Nat.le_refl _) (by omega)
    have HY : Hid (DelTE w g o cap m (vs.take (i * 2) ++ vs.drop (j * 2)) (.returned (.slice (some ⟨g, o, none⟩) m cap)) w6) := Lib.hid ⟨rfl, ho6, by first | exact HP5.out.trans hO6 (fun _ _ e => e) | exact ((Only.of_below (drew_below w)).trans HP5.out (fun _ _ e => e)).trans hO6 (fun _ _ e => e)⟩
    clear ho6 hO6
    go_wp2_with fail
    go_ret
    exact HY.out
end

section
open Go.RowKit
/-- what Insert answers -/
def InsTE (w : World) (q g n : Nat) (us : List Value) (e : Ending) (w' : World) : Prop := ∃ g' v', e = .returned v' ∧ HeldC w' q g' 2 v' (n + 1) us ∧ Only (fun k => k = g ∧ k ≠ q) w w' ∧ (g' = g ∨ w.heap.size ≤ g')
set_option maxRecDepth 100000 in
set_option maxHeartbeats 4000000 in
theorem insertEndE_any {w : World} {q g n vb : Nat} {v : Value} {vs ys : List Value} {e : TypeId} (h : HeldC w q g 2 v n vs) (hq : q < w.heap.size) (hn : n ≤ 1000) (hb : w.heap[vb]? = some (.cells ys.toArray e (0, 0))) (hy : ys.length = 2) (hy1 : ∀ u ∈ ys, u.oneCell' = true) (i : Nat) (hin : i = n) :
    Calls Tryz.prog 123 #[v, .int .i64 (i : Int), .slice (some ⟨vb, 0, none⟩) 1 1] w (InsTE w q g n (vs ++ ys)) := by
  subst hin
  obtain ⟨i0, hi, hz0, hz1, hz2⟩ := info_parts infoE
  have hr : ∀ j u, ys[j]? = some u → w.cell? ((⟨vb, 0, none⟩ : Addr).add j) = some u := fun j u hj => by rw [add_plain, cell_of_row _ _ j _ _ (0, 0) hb]; simpa using hj
  obtain ⟨g', v', w', hrun, h2, h3, h4⟩ := run_appHC (P := Tryz.prog) 156 156 92 Tryz.underlying156 hi hz0 hz1 hz2 (by simp [Value.cells]) (by decide) h hq (m := 1) (c := 1) (by omega) hr hy1 (by omega) (by omega)
  have hrun2 := (run_append_two (P := Tryz.prog) w 156 31 156 92 92 hi Tryz.underlying156 Tryz.underlying31 v (.slice (some ⟨vb, 0, none⟩) 1 1)).trans hrun
  have HY : Hid (InsTE w q g i (vs ++ ys) (.returned v') w') := Lib.hid ⟨g', v', rfl, h2, h3, h4⟩
  have HR := Lib.hid hrun2
  have hni : (i : Int) ≤ 1000 := by omega
  rcases h with ⟨rfl, rfl, rfl, rfl⟩ | ⟨_, o, cap, rfl, ho⟩
  · clear hrun hrun2 h2 h3 h4 hr hb hy hy1
    go_enter Tryz.func123, Tryz.ntmps123
    go_wp2_with (at_builtin; refine Lib.wpList_append_run _ rfl _ _ _ _ rfl _ _ rfl rfl _ _ HR.out ?_)
    go_ret
    exact HY.out
  · have hnc := ho.room
    have hnci : (i : Int) ≤ (cap : Int) := by omega
    by_cases hci : cap = i
    · subst hci
      clear hrun hrun2 h2 h3 h4 hr hb hy hy1 ho
      go_enter Tryz.func123, Tryz.ntmps123
      go_wp2_with (at_builtin; refine Lib.wpList_append_run _ rfl _ _ _ _ rfl _ _ rfl rfl _ _ HR.out ?_)
      go_ret
      exact HY.out
    · clear hrun hrun2 h2 h3 h4 hr hb hy hy1 ho
      go_enter Tryz.func123, Tryz.ntmps123
      go_wp2_with (at_builtin; refine Lib.wpList_append_run _ rfl _ _ _ _ rfl _ _ rfl rfl _ _ HR.out ?_)
      go_ret
      exact HY.out
set_option maxRecDepth 100000 in
set_option maxHeartbeats 4000000 in
theorem insertRoomE_any {w : World} {q g o cap n vb : Nat} {vs ys : List Value} {e : TypeId} (h : OwnC w g o cap 2 n vs) (hgq : g ≠ q) (hn : n ≤ 1000) (hb : w.heap[vb]? = some (.cells ys.toArray e (0, 0))) (hvg : vb ≠ g) (hy : ys.length = 2) (hy1 : ∀ u ∈ ys, u.oneCell' = true) (h1 : ∀ u ∈ vs, u.oneCell' = true) (i : Nat) (hin : i < n) (hroom : n + 1 ≤ cap) :
    Calls Tryz.prog 123 #[.slice (some ⟨g, o, none⟩) n cap, .int .i64 (i : Int), .slice (some ⟨vb, 0, none⟩) 1 1] w (InsTE w q g n (vs.take (i * 2) ++ (ys ++ vs.drop (i * 2)))) := by
  have hsz : (Tryz.prog.info? 92).map (·.size) = some 2 := by
    obtain ⟨i0, hi, hz0, hz1, hz2⟩ := info_parts infoE
    rw [hi]; simp [hz1]
  have hlen := h.len
  have hvc : ∀ (W : World), W.heap[vb]? = w.heap[vb]? → ∀ j u, ys[j]? = some u → W.cell? ((⟨vb, 0, none⟩ : Addr).add j) = some u := fun W e j u hj => by rw [add_plain, cell_of_row _ _ j _ _ (0, 0) (e.trans hb)]; simpa using hj
  have hov : ∀ lb cb, (callFunc 162 #[.slice (some ⟨vb, 0, none⟩) 1 1, .slice (some ⟨g, o + (i + 1) * 2, none⟩) lb cb]).run Tryz.prog w = .ok (.value (.bool false)) w := fun lb cb => by
    obtain ⟨u0, hu0⟩ := Option.isSome_iff_exists.1 (h.free 0 (by omega)).1
    obtain ⟨c0, e0, f0, hg0⟩ : ∃ c e f, w.heap[g]? = some (.cells c e f) := by
      unfold World.cell? at hu0
      split at hu0
      · rename_i c e f hg; exact ⟨c, e, f, hg⟩
      · cases hu0
    have hk0 : c0.size ≠ 0 := fun e => by
      simp only [World.cell?, hg0] at hu0
      simp at hu0
      rw [Array.getElem?_eq_none (by omega)] at hu0
      cases hu0
    rw [run_callFunc_extern Tryz.func162 (by kernel_rfl) (by kernel_rfl) (by kernel_rfl) (e := Extern.SlicesOverlaps.overlaps #[31, 31] #[4]) (by kernel_rfl),
      Lib.run_overlaps_apart w 31 4 92 Tryz.underlying31 2 (fun w => by obtain ⟨i0, hi, hz0, hz1, hz2⟩ := info_parts infoE; simp [sizeOf, typeInfo, hi, hz1]) ⟨vb, 0, none⟩ ⟨g, o + (i + 1) * 2, none⟩ 1 1 lb cb hvg e e0 ys.toArray.size c0.size (by simp [World.shape?, hb]) (by simp [World.shape?, hg0]) hk0 (frozen_of hb 0) (frozen_of hb _)]
    rfl
  have hdl : (vs.drop (i * 2)).length = (n - i) * 2 := by rw [List.length_drop, hlen]; omega
  have HTL : Hid (∀ W : World, W.heap = w.heap → OwnC (W.setCells g (o + (i + 1) * 2) (vs.drop (i * 2))) g o cap 2 (n + 1) (vs.take (i * 2) ++ ((vs.drop (i * 2)).take 2 ++ vs.drop (i * 2)))) := Lib.hid fun W e => by
    have hT := (h.heap e).tail (k := (i + 1) * 2) (ys := vs.drop (i * 2)) (n' := n + 1) (by omega) (by omega) hroom
    rw [show (i + 1) * 2 = i * 2 + 2 by omega, take_next_, List.append_assoc] at hT
    rw [show (i + 1) * 2 = i * 2 + 2 by omega]
    exact hT
  have HTA : Hid ((vs.take (i * 2)).length = i * 2) := Lib.hid (by rw [List.length_take]; omega)
  have HTB : Hid (((vs.drop (i * 2)).take 2).length = 2) := Lib.hid (by rw [List.length_take]; omega)
  have hsrc := h.rdAt (i * 2)
  have HS := Lib.hid hsrc
  have HDL := Lib.hid hdl
  have HW := Lib.hid h
  have H1 : Hid (∀ u ∈ vs.drop (i * 2), u.oneCell' = true) := Lib.hid fun u hu => h1 u (List.mem_of_mem_drop hu)
  have HVC := Lib.hid hvc
  have hni : (n : Int) ≤ 1000 := by omega
  have hini : (i : Int) < (n : Int) := by omega
  have hroomi : (n : Int) + 1 ≤ (cap : Int) := by omega
  have hine : ¬ (i : Int) = (n : Int) := by omega
  have hii2 : (i : Int) ≤ (n : Int) + 1 := by omega
  have hii3 : (i : Int) + 1 ≤ (n : Int) + 1 := by omega
  have hc1 : ¬ cap = i := by omega
  have hc2 : ¬ cap = i + 1 := by omega
  have hii : i + 1 ≤ n + 1 := by omega
  have hi2 : i ≤ n + 1 := by omega
  have hi3 : i ≤ n := by omega
  have HY1 := Lib.hid hy1
  have HYL := Lib.hid hy
  have HGQ := Lib.hid hgq
  have HVG := Lib.hid hvg
  have hw1 : IntKind.i64.wrap ((i : Int) + 1) = (i : Int) + 1 := by rw [IntKind.wrap_i64]; omega
  have hw2 : (0 : Int) ≤ (i : Int) + 1 := by omega
  have hw3 : ((i : Int) + 1).toNat = i + 1 := by omega
  have HBB := Lib.hid hb
  clear h hlen hvc hdl hsrc h1 hy hy1 hb hgq hvg
  go_enter Tryz.func123, Tryz.ntmps123
  go_wp2_with (simp only [hov])
  go_region_law (refine step_of_wp rfl (wp_copyC _ _ 156 156 92 rfl Tryz.underlying156 hsz (HW.out.heap rfl) (k := (i + 1) * 2) (dLen := n + 1 - (i + 1)) (dCap := cap - (i + 1)) (p' := o + (i + 1) * 2) (by simp [Act.eval, Act.put]) rfl (A := ⟨g, o + i * 2, none⟩) (sLen := n + 1 - i) (sCap := cap - i) (m := n - i) (by simp [Act.eval, Act.put]) (by simp only [Nat.min_def]; split <;> omega) HDL.out HS.out H1.out (by rw [HDL.out]; omega) (HTL.out _ rfl) ?_)
                 intro w5 ho5 hO5 hs5
                 have HO5 := Lib.hid ho5
                 have HP5 := Lib.hid hO5
                 clear ho5 hO5 hs5)
  clear hw1 hw2 hw3
  have HVC5 : Hid (∀ j u, ys[j]? = some u → w5.cell? ((⟨vb, 0, none⟩ : Addr).add j) = some u) := Lib.hid (HVC.out w5 (HP5.out.block vb (Array.getElem?_eq_some_iff.1 HBB.out).1 HVG.out))
  obtain ⟨w6, hcp, ho6, hO6⟩ := run_copyC (P := Tryz.prog) 156 31 92 Tryz.underlying156 hsz HO5.out (k := i * 2) (n + 1 - i) (o + i * 2) rfl ⟨vb, 0, none⟩ 1 1 (by simp only [Nat.min_def]; split <;> omega) (by rw [HYL.out]) HVC5.out HY1.out (by rw [HYL.out]; omega) (HO5.out.mid_ (by rw [HYL.out, HTB.out]) HTA.out)
  have HY : Hid (InsTE w q g n (vs.take (i * 2) ++ (ys ++ vs.drop (i * 2))) (.returned (.slice (some ⟨g, o, none⟩) (n + 1) cap)) w6) := Lib.hid ⟨g, _, rfl, .inr ⟨HGQ.out, o, cap, rfl, ho6⟩, ((Only.of_below (K := (· = g)) (drew_below w)).trans (HP5.out.trans hO6 (fun _ _ e => e)) (fun _ _ e => e)).more (fun j _ e => ⟨e, by rw [e]; exact HGQ.out⟩), .inl rfl⟩
  clear ho6 hO6
  go_wp2_with fail
  go_ret
  exact HY.out
set_option maxRecDepth 100000 in
set_option maxHeartbeats 4000000 in
theorem insertGrowE_any {w : World} {q g o cap n vb : Nat} {vs ys : List Value} {e : TypeId} (h : OwnC w g o cap 2 n vs) (hq : q < w.heap.size) (hn : n ≤ 1000) (hb : w.heap[vb]? = some (.cells ys.toArray e (0, 0))) (hy : ys.length = 2) (hy1 : ∀ u ∈ ys, u.oneCell' = true) (h1 : ∀ u ∈ vs, u.oneCell' = true) (i : Nat) (hin : i < n) (hroom : cap < n + 1) :
    Calls Tryz.prog 123 #[.slice (some ⟨g, o, none⟩) n cap, .int .i64 (i : Int), .slice (some ⟨vb, 0, none⟩) 1 1] w (InsTE w q g n (vs.take (i * 2) ++ (ys ++ vs.drop (i * 2)))) := by
  obtain ⟨i0, hi, hz0, hz1, hz2⟩ := info_parts infoE
  have hsz : (Tryz.prog.info? 92).map (·.size) = some 2 := by rw [hi]; simp [hz1]
  have hlen := h.len
  have hnc := h.room
  have hgl := h.lt
  have hvl := (Array.getElem?_eq_some_iff.1 hb).1
  obtain ⟨w4, cap', us, hrz, hul, hut, ho4, hb4, hc4⟩ := run_appZ (P := Tryz.prog) 156 3 92 Tryz.underlying156 Tryz.underlying3 hi hz0 hz1 hz2 (by simp [Value.cells]) (by decide) h (k := i) (by omega) (y := (n : Int) + 1 - (i : Int)) (m := n + 1 - i) (by omega) (by omega) (N := n + 1) (by omega) hroom (by omega) (by omega)
  have hq4 := hb4.size
  have hvc4 : ∀ j u, ys[j]? = some u → w4.cell? ((⟨vb, 0, none⟩ : Addr).add j) = some u := fun j u hj => by rw [add_plain, cell_of_row _ _ j _ _ (0, 0) ((hb4.block vb hvl).trans hb)]; simpa using hj
  have husp : us = us.take (i * 2) ++ ((us.drop (i * 2)).take 2 ++ us.drop (i * 2 + 2)) := by
    have e1 := List.take_append_drop (i * 2) us
    have e2 := List.take_append_drop 2 (us.drop (i * 2))
    rw [List.drop_drop] at e2
    rw [e2]; exact e1.symm
  have htl : (us.take (i * 2)).length = i * 2 := by rw [List.length_take]; omega
  have hml : ((us.drop (i * 2)).take 2).length = 2 := by rw [List.length_take, List.length_drop]; omega
  obtain ⟨w5, hcp5, ho5, hO5⟩ := run_copyC (P := Tryz.prog) 156 31 92 Tryz.underlying156 hsz ho4 (k := i * 2) (n + 1 - i) (0 + i * 2) rfl ⟨vb, 0, none⟩ 1 1 (by simp only [Nat.min_def]; split <;> omega) (by rw [hy]) hvc4 hy1 (by rw [hy]; omega) (OwnC.mid_ (a := us.take (i * 2)) (b := (us.drop (i * 2)).take 2) (c := us.drop (i * 2 + 2)) (by rw [← husp]; exact ho4) (by rw [hy, hml]) htl)
  have hdl : (vs.drop (i * 2)).length = (n - i) * 2 := by rw [List.length_drop, hlen]; omega
  have hk5 : w5.drew.heap[g]? = w.heap[g]? := (hO5.block g (by omega) (fun e => by omega)).trans (hb4.block g hgl)
  have hs5 : ∀ j u, (vs.drop (i * 2))[j]? = some u → w5.drew.cell? ((⟨g, o + i * 2, none⟩ : Addr).add j) = some u := fun j u hj => (World.cell?_of_block (by rw [addr_add_block]; exact hk5)).trans (h.rdAt (i * 2) j u hj)
  have hlen5 := ho5.len
  obtain ⟨w6, hcp6, ho6, hO6⟩ := run_copyC (P := Tryz.prog) (w := w5.drew) 156 156 92 Tryz.underlying156 hsz (ho5.heap rfl) (k := i * 2 + 2) (n + 1 - (i + 1)) (0 + (i * 2 + 2)) rfl ⟨g, o + i * 2, none⟩ (n - i) (n - i) (by simp only [Nat.min_def]; split <;> omega) hdl hs5 (fun u hu => h1 u (List.mem_of_mem_drop hu)) (by rw [hdl]; omega) (OwnC.tail (ho5.heap rfl) (n' := n + 1) (by omega) (by rw [hdl]; omega) hc4)
  have hfin : (us.take (i * 2) ++ (ys ++ us.drop (i * 2 + 2))).take (i * 2 + 2) ++ vs.drop (i * 2) = vs.take (i * 2) ++ (ys ++ vs.drop (i * 2)) := by
    rw [← List.append_assoc (us.take _), List.take_append_of_le_length (by rw [List.length_append, htl, hy]; exact Nat.le_refl _), List.take_of_length_le (by rw [List.length_append, htl, hy]; exact Nat.le_refl _), hut, List.append_assoc]
  rw [hfin] at ho6
  have HY : Hid (InsTE w q g n (vs.take (i * 2) ++ (ys ++ vs.drop (i * 2))) (.returned (.slice (some ⟨w.heap.size, 0, none⟩) (n + 1) cap')) w6) := Lib.hid ⟨w.heap.size, _, rfl, .inr ⟨by omega, 0, cap', rfl, by simpa using ho6⟩, by
    have h7 : Only (fun j => j = w.heap.size) w w6 := ((Only.of_below hb4).trans hO5 (fun _ _ e => e)).trans ((Only.of_below (drew_below w5)).trans hO6 (fun _ _ e => e)) (fun _ _ e => e)
    exact h7.more (fun j hj e => by omega), .inr (Nat.le_refl _)⟩
  have HZ : Hid (∀ ty, (Builtin.append_ #[156, 3] ty #[.slice (some ⟨g, o, none⟩) i cap, .int .i64 ((n : Int) + 1 - (i : Int))]).run Tryz.prog w = .ok (.slice (some ⟨w.heap.size, 0, none⟩) (n + 1) cap') w4) := Lib.hid hrz
  have hcq5 : ∀ ty dc sc, (Builtin.copy_ #[156, 31] ty #[.slice (some ⟨w.heap.size, i * 2, none⟩) (n + 1 - i) dc, .slice (some ⟨vb, 0, none⟩) 1 sc]).run Tryz.prog w4 = .ok (goInt 1) w5 := fun ty dc sc => by
    have := hcp5 ty dc sc
    rw [show 0 + i * 2 = i * 2 by omega] at this
    exact this
  have hcq6 : ∀ ty dc sc, (Builtin.copy_ #[156, 156] ty #[.slice (some ⟨w.heap.size, (i + 1) * 2, none⟩) (n - i) dc, .slice (some ⟨g, o + i * 2, none⟩) (n - i) sc]).run Tryz.prog w5.drew = .ok (goInt ((n - i : Nat) : Int)) w6 := fun ty dc sc => by
    have := hcp6 ty dc sc
    rw [show n + 1 - (i + 1) = n - i by omega, show 0 + (i * 2 + 2) = (i + 1) * 2 by omega, show i * 2 = i * 2 by omega] at this
    exact this
  have hni : (n : Int) ≤ 1000 := by omega
  have hini : (i : Int) < (n : Int) := by omega
  have hroomi : (cap : Int) < (n : Int) + 1 := by omega
  have hine : ¬ (i : Int) = (n : Int) := by omega
  have hc1 : ¬ cap = i := by omega
  have hc2 : ¬ cap' = i := by omega
  have hc3 : ¬ cap' = i + 1 := by omega
  have hii : i + 1 ≤ n + 1 := by omega
  have hi2 : i ≤ n + 1 := by omega
  have hi3 : i ≤ n := by omega
  have hi4 : i ≤ cap := by omega
  have hii2 : (i : Int) ≤ (n : Int) + 1 := by omega
  have hii3 : (i : Int) + 1 ≤ (n : Int) + 1 := by omega
  have hw1 : IntKind.i64.wrap ((i : Int) + 1) = (i : Int) + 1 := by rw [IntKind.wrap_i64]; omega
  have hw2 : (0 : Int) ≤ (i : Int) + 1 := by omega
  have hw3 : ((i : Int) + 1).toNat = i + 1 := by omega
  clear hrz hcp5 hcp6 ho4 ho5 ho6 hO5 hO6 hb4 hq4 hvc4 husp htl hml hdl hk5 hs5 hlen5 hfin hul hut hi hz0 hz1 hz2 hsz hlen h hb hy hy1 h1 hq hvl hgl
  go_enter Tryz.func123, Tryz.ntmps123
  go_wp2_with (at_builtin; refine Lib.wpList_append_run _ rfl _ _ _ _ rfl _ _ rfl rfl _ _ (HZ.out _) ?_)
  go_region_law (fail)
  go_wp2_with fail
  go_ret
  exact HY.out
theorem insertE_any {w : World} {q g n vb : Nat} {v : Value} {vs ys : List Value} {e : TypeId} (h : HeldC w q g 2 v n vs) (hq : q < w.heap.size) (hn : n ≤ 1000) (hb : w.heap[vb]? = some (.cells ys.toArray e (0, 0))) (hvg : vb ≠ g) (hy : ys.length = 2) (hy1 : ∀ u ∈ ys, u.oneCell' = true) (h1 : ∀ u ∈ vs, u.oneCell' = true) (i : Nat) (hin : i ≤ n) :
    Calls Tryz.prog 123 #[v, .int .i64 (i : Int), .slice (some ⟨vb, 0, none⟩) 1 1] w (InsTE w q g n (vs.take (i * 2) ++ (ys ++ vs.drop (i * 2)))) := by
  obtain ⟨_, _, _, _, hlen⟩ := h.slice
  rcases Nat.lt_or_ge i n with hlt | hge
  · rcases h with ⟨_, rfl, _⟩ | ⟨hgq, o, cap, rfl, ho⟩
    · omega
    · rcases Nat.lt_or_ge cap (n + 1) with hr | hr
      · exact insertGrowE_any ho hq hn hb hy hy1 h1 i hlt hr
      · exact insertRoomE_any ho hgq hn hb hvg hy hy1 h1 i hlt hr
  · have := insertEndE_any h hq hn hb hy hy1 i (by omega)
    rw [List.take_of_length_le (by omega), List.drop_eq_nil_of_le (by omega), List.append_nil]
    exact this
end

section
open Go.RowKit
theorem infoP : (Tryz.prog.info? 156).map (fun i => (i.zero, i.size, i.bytes)) = some (some (.slice none 0 0), 1, 24) := by kernel_rfl
/-- what Delete answers -/
def DelTP (w : World) (g o cap n : Nat) (vs : List Value) (e : Ending) (w' : World) : Prop := e = .returned (.slice (some ⟨g, o, none⟩) n cap) ∧ OwnC w' g o cap 1 n vs ∧ Only (· = g) w w'
set_option maxRecDepth 100000 in
set_option maxHeartbeats 4000000 in
theorem deleteP_any {w : World} {g o cap n : Nat} {vs : List Value} (h : OwnC w g o cap 1 n vs) (h1 : ∀ u ∈ vs, u.oneCell' = true) (i j m : Nat) (hij : i < j) (hjn : j ≤ n) (hm : i + (n - j) = m) (hn : n ≤ 1000000) :
    Calls Tryz.prog 166 #[.slice (some ⟨g, o, none⟩) n cap, .int .i64 (i : Int), .int .i64 (j : Int)] w (DelTP w g o cap m (vs.take (i) ++ vs.drop (j))) := by
  obtain ⟨i0, hi, hz0, hz1, hz2⟩ := info_parts infoP
  have hlen := h.len
  have hnc := h.room
  have HW := Lib.hid h
  have HL : Hid ((vs.drop (j)).length = (n - j) * 1) := Lib.hid (by rw [List.length_drop, hlen]; omega)
  have H1 : Hid (∀ u ∈ vs.drop (j), u.oneCell' = true) := Lib.hid fun u hu => h1 u (List.mem_of_mem_drop hu)
  have hv : ∀ w, (zeroValue 156).run Tryz.prog w = .ok (.slice none 0 0) w := fun w => Tryz.zeroValue156 w
  have HM := Lib.hid hm
  have hin : i ≤ n := by omega
  have hic : i ≤ cap := by omega
  have hjc : j ≤ cap := by omega
  have hmc : m ≤ cap := by omega
  have hni : (n : Int) ≤ 1000000 := by omega
  have hiji : (i : Int) < (j : Int) := by omega
  have hjni : (j : Int) ≤ (n : Int) := by omega
  have hnci : (n : Int) ≤ (cap : Int) := by omega
  have hmn : m < n := by omega
  have hmni : (m : Int) < (n : Int) := by omega
  have HSR : Hid (∀ j' u, (vs.drop (j))[j']? = some u → w.cell? ((⟨g, o + j, none⟩ : Addr).add j') = some u) := Lib.hid (h.rdAt _)
  have HSR2 : Hid (n = j → ∀ (A : Addr), ∀ j' u, (vs.drop (j))[j']? = some u → w.cell? (A.add j') = some u) := Lib.hid (fun e A j' u hu => by rw [List.drop_eq_nil_of_le (by rw [hlen, e]; omega)] at hu; simp at hu)
  clear h h1 hlen hn
  by_cases hcj : cap = j
  · have hnj : n = j := by omega
    have HE := Lib.hid (HSR2.out hnj)
    have HO5 : Hid (OwnC w g o cap 1 m (vs.take (i) ++ vs.drop (j))) := Lib.hid (by
      have h := HW.out.cut hin
      have e : vs.drop (j) = [] := List.drop_eq_nil_of_le (by rw [HW.out.len, hnj]; omega)
      have e2 : m = i := by omega
      rw [e, List.append_nil, e2]
      simpa using h)
    have hmi : m = i := by omega
    have HMI := Lib.hid hmi
    obtain ⟨X, hX⟩ : ∃ X, Hid (X = vs.take (i) ++ vs.drop (j)) := ⟨_, Lib.hid rfl⟩
    rw [← hX.out] at HO5 ⊢
    subst hnj
    subst hcj
    subst hmi
    clear HSR HSR2 HE HL H1 hm hX HM
    go_enter Tryz.func166, Tryz.ntmps166
    go_wp2_with fail
    go_region_law (fail)
    obtain ⟨w6, hcl, ho6, hO6⟩ := run_clearC (P := Tryz.prog) (w := w.drew) 145 156 (sz := 1) Tryz.underlying145 hv rfl (by intro u hu; simp [Value.cells] at hu; subst hu; rfl) (by decide) (HO5.out.heap rfl) (m := cap - m) (c := cap - m) (k := m) (p' := o + m) (by omega) (by omega) (Nat.le_refl _) (by omega)
    have HY : Hid (DelTP w g o cap m X (.returned (.slice (some ⟨g, o, none⟩) m cap)) w6) := Lib.hid ⟨rfl, ho6, (Only.of_below (drew_below w)).trans hO6 (fun _ _ e => e)⟩
    clear ho6 hO6
    go_wp2_with fail
    go_ret
    exact HY.out
  · have hcji : ¬ (cap : Int) = (j : Int) := by omega
    clear HSR2 hm
    go_enter Tryz.func166, Tryz.ntmps166
    go_wp2_with fail
    go_region_law (refine step_of_wp rfl (wp_appR _ _ 145 156 rfl Tryz.underlying145 hi hz1 (HW.out.heap rfl) (k := i) (by simp [Act.eval, Act.put]) hin (A := ⟨g, o + j, none⟩) (m := n - j) (c := cap - j) (by simp [Act.eval, Act.put]) HL.out HSR.out H1.out (by omega) ?_)
                   intro w5 ho5 hO5
                   simp only [HM.out] at ho5 ⊢
                   simp only [Nat.mul_one] at *
                   have HO5 := Lib.hid ho5
                   have HP5 := Lib.hid hO5
                   clear ho5 hO5)
    obtain ⟨w6, hcl, ho6, hO6⟩ := run_clearC (P := Tryz.prog) 145 156 (sz := 1) Tryz.underlying145 hv rfl (by intro u hu; simp [Value.cells] at hu; subst hu; rfl) (by decide) HO5.out (m := n - m) (c := cap - m) (k := m) (p' := o + m) (by omega) (by omega) (Nat.le_refl _) (by omega)
    have HY : Hid (DelTP w g o cap m (vs.take (i) ++ vs.drop (j)) (.returned (.slice (some ⟨g, o, none⟩) m cap)) w6) := Lib.hid ⟨rfl, ho6, by first | exact HP5.out.trans hO6 (fun _ _ e => e) | exact ((Only.of_below (drew_below w)).trans HP5.out (fun _ _ e => e)).trans hO6 (fun _ _ e => e)⟩
    clear ho6 hO6
    go_wp2_with fail
    go_ret
    exact HY.out
end

section
open Go.RowKit
/-- what Insert answers -/
def InsTP (w : World) (q g n : Nat) (us : List Value) (e : Ending) (w' : World) : Prop := ∃ g' v', e = .returned v' ∧ HeldC w' q g' 1 v' (n + 1) us ∧ Only (fun k => k = g ∧ k ≠ q) w w' ∧ (g' = g ∨ w.heap.size ≤ g')
set_option maxRecDepth 100000 in
set_option maxHeartbeats 4000000 in
theorem insertEndP_any {w : World} {q g n vb : Nat} {v : Value} {vs ys : List Value} {e : TypeId} (h : HeldC w q g 1 v n vs) (hq : q < w.heap.size) (hn : n ≤ 1000) (hb : w.heap[vb]? = some (.cells ys.toArray e (0, 0))) (hy : ys.length = 1) (hy1 : ∀ u ∈ ys, u.oneCell' = true) (i : Nat) (hin : i = n) :
    Calls Tryz.prog 124 #[v, .int .i64 (i : Int), .slice (some ⟨vb, 0, none⟩) 1 1] w (InsTP w q g n (vs ++ ys)) := by
  subst hin
  obtain ⟨i0, hi, hz0, hz1, hz2⟩ := info_parts infoP
  have hr : ∀ j u, ys[j]? = some u → w.cell? ((⟨vb, 0, none⟩ : Addr).add j) = some u := fun j u hj => by rw [add_plain, cell_of_row _ _ j _ _ (0, 0) hb]; simpa using hj
  obtain ⟨g', v', w', hrun, h2, h3, h4⟩ := run_appHC (P := Tryz.prog) 145 145 156 Tryz.underlying145 hi hz0 hz1 hz2 (by simp [Value.cells]) (by decide) h hq (m := 1) (c := 1) (by omega) hr hy1 (by omega) (by omega)
  have hrun2 := (run_append_two (P := Tryz.prog) w 145 145 145 156 156 hi Tryz.underlying145 Tryz.underlying145 v (.slice (some ⟨vb, 0, none⟩) 1 1)).trans hrun
  have HY : Hid (InsTP w q g i (vs ++ ys) (.returned v') w') := Lib.hid ⟨g', v', rfl, h2, h3, h4⟩
  have HR := Lib.hid hrun2
  have hni : (i : Int) ≤ 1000 := by omega
  rcases h with ⟨rfl, rfl, rfl, rfl⟩ | ⟨_, o, cap, rfl, ho⟩
  · clear hrun hrun2 h2 h3 h4 hr hb hy hy1
    go_enter Tryz.func124, Tryz.ntmps124
    go_wp2_with (at_builtin; refine Lib.wpList_append_run _ rfl _ _ _ _ rfl _ _ rfl rfl _ _ HR.out ?_)
    go_ret
    exact HY.out
  · have hnc := ho.room
    have hnci : (i : Int) ≤ (cap : Int) := by omega
    by_cases hci : cap = i
    · subst hci
      clear hrun hrun2 h2 h3 h4 hr hb hy hy1 ho
      go_enter Tryz.func124, Tryz.ntmps124
      go_wp2_with (at_builtin; refine Lib.wpList_append_run _ rfl _ _ _ _ rfl _ _ rfl rfl _ _ HR.out ?_)
      go_ret
      exact HY.out
    · clear hrun hrun2 h2 h3 h4 hr hb hy hy1 ho
      go_enter Tryz.func124, Tryz.ntmps124
      go_wp2_with (at_builtin; refine Lib.wpList_append_run _ rfl _ _ _ _ rfl _ _ rfl rfl _ _ HR.out ?_)
      go_ret
      exact HY.out
set_option maxRecDepth 100000 in
set_option maxHeartbeats 4000000 in
theorem insertRoomP_any {w : World} {q g o cap n vb : Nat} {vs ys : List Value} {e : TypeId} (h : OwnC w g o cap 1 n vs) (hgq : g ≠ q) (hn : n ≤ 1000) (hb : w.heap[vb]? = some (.cells ys.toArray e (0, 0))) (hvg : vb ≠ g) (hy : ys.length = 1) (hy1 : ∀ u ∈ ys, u.oneCell' = true) (h1 : ∀ u ∈ vs, u.oneCell' = true) (i : Nat) (hin : i < n) (hroom : n + 1 ≤ cap) :
    Calls Tryz.prog 124 #[.slice (some ⟨g, o, none⟩) n cap, .int .i64 (i : Int), .slice (some ⟨vb, 0, none⟩) 1 1] w (InsTP w q g n (vs.take (i) ++ (ys ++ vs.drop (i)))) := by
  have hsz : (Tryz.prog.info? 156).map (·.size) = some 1 := by
    obtain ⟨i0, hi, hz0, hz1, hz2⟩ := info_parts infoP
    rw [hi]; simp [hz1]
  have hlen := h.len
  have hvc : ∀ (W : World), W.heap[vb]? = w.heap[vb]? → ∀ j u, ys[j]? = some u → W.cell? ((⟨vb, 0, none⟩ : Addr).add j) = some u := fun W e j u hj => by rw [add_plain, cell_of_row _ _ j _ _ (0, 0) (e.trans hb)]; simpa using hj
  have hov : ∀ lb cb, (callFunc 164 #[.slice (some ⟨vb, 0, none⟩) 1 1, .slice (some ⟨g, o + (i + 1), none⟩) lb cb]).run Tryz.prog w = .ok (.value (.bool false)) w := fun lb cb => by
    obtain ⟨u0, hu0⟩ := Option.isSome_iff_exists.1 (h.free 0 (by omega)).1
    obtain ⟨c0, e0, f0, hg0⟩ : ∃ c e f, w.heap[g]? = some (.cells c e f) := by
      unfold World.cell? at hu0
      split at hu0
      · rename_i c e f hg; exact ⟨c, e, f, hg⟩
      · cases hu0
    have hk0 : c0.size ≠ 0 := fun e => by
      simp only [World.cell?, hg0] at hu0
      simp at hu0
      rw [Array.getElem?_eq_none (by omega)] at hu0
      cases hu0
    rw [run_callFunc_extern Tryz.func164 (by kernel_rfl) (by kernel_rfl) (by kernel_rfl) (e := Extern.SlicesOverlaps.overlaps #[145, 145] #[4]) (by kernel_rfl),
      Lib.run_overlaps_apart w 145 4 156 Tryz.underlying145 1 (fun w => by obtain ⟨i0, hi, hz0, hz1, hz2⟩ := info_parts infoP; simp [sizeOf, typeInfo, hi, hz1]) ⟨vb, 0, none⟩ ⟨g, o + (i + 1), none⟩ 1 1 lb cb hvg e e0 ys.toArray.size c0.size (by simp [World.shape?, hb]) (by simp [World.shape?, hg0]) hk0 (frozen_of hb 0) (frozen_of hb _)]
    rfl
  have hdl : (vs.drop (i)).length = (n - i) * 1 := by rw [List.length_drop, hlen]; omega
  have HTL : Hid (∀ W : World, W.heap = w.heap → OwnC (W.setCells g (o + (i + 1)) (vs.drop (i))) g o cap 1 (n + 1) (vs.take (i) ++ ((vs.drop (i)).take 1 ++ vs.drop (i)))) := Lib.hid fun W e => by
    have hT := (h.heap e).tail (k := (i + 1)) (ys := vs.drop (i)) (n' := n + 1) (by omega) (by omega) hroom
    rw [show (i + 1) = i + 1 by omega, take_next_, List.append_assoc] at hT
    rw [show (i + 1) = i + 1 by omega]
    exact hT
  have HTA : Hid ((vs.take (i)).length = i) := Lib.hid (by rw [List.length_take]; omega)
  have HTB : Hid (((vs.drop (i)).take 1).length = 1) := Lib.hid (by rw [List.length_take]; omega)
  have hsrc := h.rdAt (i)
  have HS := Lib.hid hsrc
  have HDL := Lib.hid hdl
  have HW := Lib.hid h
  have H1 : Hid (∀ u ∈ vs.drop (i), u.oneCell' = true) := Lib.hid fun u hu => h1 u (List.mem_of_mem_drop hu)
  have HVC := Lib.hid hvc
  have hni : (n : Int) ≤ 1000 := by omega
  have hini : (i : Int) < (n : Int) := by omega
  have hroomi : (n : Int) + 1 ≤ (cap : Int) := by omega
  have hine : ¬ (i : Int) = (n : Int) := by omega
  have hii2 : (i : Int) ≤ (n : Int) + 1 := by omega
  have hii3 : (i : Int) + 1 ≤ (n : Int) + 1 := by omega
  have hc1 : ¬ cap = i := by omega
  have hc2 : ¬ cap = i + 1 := by omega
  have hii : i + 1 ≤ n + 1 := by omega
  have hi2 : i ≤ n + 1 := by omega
  have hi3 : i ≤ n := by omega
  have HY1 := Lib.hid hy1
  have HYL := Lib.hid hy
  have HGQ := Lib.hid hgq
  have HVG := Lib.hid hvg
  have hw1 : IntKind.i64.wrap ((i : Int) + 1) = (i : Int) + 1 := by rw [IntKind.wrap_i64]; omega
  have hw2 : (0 : Int) ≤ (i : Int) + 1 := by omega
  have hw3 : ((i : Int) + 1).toNat = i + 1 := by omega
  have HBB := Lib.hid hb
  clear h hlen hvc hdl hsrc h1 hy hy1 hb hgq hvg
  go_enter Tryz.func124, Tryz.ntmps124
  go_wp2_with (simp only [hov])
  go_region_law (refine step_of_wp rfl (wp_copyC _ _ 145 145 156 rfl Tryz.underlying145 hsz (HW.out.heap rfl) (k := (i + 1)) (dLen := n + 1 - (i + 1)) (dCap := cap - (i + 1)) (p' := o + (i + 1)) (by simp [Act.eval, Act.put]) rfl (A := ⟨g, o + i, none⟩) (sLen := n + 1 - i) (sCap := cap - i) (m := n - i) (by simp [Act.eval, Act.put]) (by simp only [Nat.min_def]; split <;> omega) HDL.out HS.out H1.out (by rw [HDL.out]; omega) (HTL.out _ rfl) ?_)
                 intro w5 ho5 hO5 hs5
                 have HO5 := Lib.hid ho5
                 have HP5 := Lib.hid hO5
                 clear ho5 hO5 hs5)
  clear hw1 hw2 hw3
  have HVC5 : Hid (∀ j u, ys[j]? = some u → w5.cell? ((⟨vb, 0, none⟩ : Addr).add j) = some u) := Lib.hid (HVC.out w5 (HP5.out.block vb (Array.getElem?_eq_some_iff.1 HBB.out).1 HVG.out))
  obtain ⟨w6, hcp, ho6, hO6⟩ := run_copyC (P := Tryz.prog) 145 145 156 Tryz.underlying145 hsz HO5.out (k := i) (n + 1 - i) (o + i) rfl ⟨vb, 0, none⟩ 1 1 (by simp only [Nat.min_def]; split <;> omega) (by rw [HYL.out]) HVC5.out HY1.out (by rw [HYL.out]; omega) (HO5.out.mid_ (by rw [HYL.out, HTB.out]) HTA.out)
  have HY : Hid (InsTP w q g n (vs.take (i) ++ (ys ++ vs.drop (i))) (.returned (.slice (some ⟨g, o, none⟩) (n + 1) cap)) w6) := Lib.hid ⟨g, _, rfl, .inr ⟨HGQ.out, o, cap, rfl, ho6⟩, ((Only.of_below (K := (· = g)) (drew_below w)).trans (HP5.out.trans hO6 (fun _ _ e => e)) (fun _ _ e => e)).more (fun j _ e => ⟨e, by rw [e]; exact HGQ.out⟩), .inl rfl⟩
  clear ho6 hO6
  go_wp2_with fail
  go_ret
  exact HY.out
set_option maxRecDepth 100000 in
set_option maxHeartbeats 4000000 in
theorem insertGrowP_any {w : World} {q g o cap n vb : Nat} {vs ys : List Value} {e : TypeId} (h : OwnC w g o cap 1 n vs) (hq : q < w.heap.size) (hn : n ≤ 1000) (hb : w.heap[vb]? = some (.cells ys.toArray e (0, 0))) (hy : ys.length = 1) (hy1 : ∀ u ∈ ys, u.oneCell' = true) (h1 : ∀ u ∈ vs, u.oneCell' = true) (i : Nat) (hin : i < n) (hroom : cap < n + 1) :
    Calls Tryz.prog 124 #[.slice (some ⟨g, o, none⟩) n cap, .int .i64 (i : Int), .slice (some ⟨vb, 0, none⟩) 1 1] w (InsTP w q g n (vs.take (i) ++ (ys ++ vs.drop (i)))) := by
  obtain ⟨i0, hi, hz0, hz1, hz2⟩ := info_parts infoP
  have hsz : (Tryz.prog.info? 156).map (·.size) = some 1 := by rw [hi]; simp [hz1]
  have hlen := h.len
  have hnc := h.room
  have hgl := h.lt
  have hvl := (Array.getElem?_eq_some_iff.1 hb).1
  obtain ⟨w4, cap', us, hrz, hul, hut, ho4, hb4, hc4⟩ := run_appZ (P := Tryz.prog) 145 3 156 Tryz.underlying145 Tryz.underlying3 hi hz0 hz1 hz2 (by simp [Value.cells]) (by decide) h (k := i) (by omega) (y := (n : Int) + 1 - (i : Int)) (m := n + 1 - i) (by omega) (by omega) (N := n + 1) (by omega) hroom (by omega) (by omega)
  have hq4 := hb4.size
  have hvc4 : ∀ j u, ys[j]? = some u → w4.cell? ((⟨vb, 0, none⟩ : Addr).add j) = some u := fun j u hj => by rw [add_plain, cell_of_row _ _ j _ _ (0, 0) ((hb4.block vb hvl).trans hb)]; simpa using hj
  have husp : us = us.take (i * 1) ++ ((us.drop (i * 1)).take 1 ++ us.drop (i * 1 + 1)) := by
    have e1 := List.take_append_drop (i * 1) us
    have e2 := List.take_append_drop 1 (us.drop (i * 1))
    rw [List.drop_drop] at e2
    rw [e2]; exact e1.symm
  have htl : (us.take (i * 1)).length = i * 1 := by rw [List.length_take]; omega
  have hml : ((us.drop (i * 1)).take 1).length = 1 := by rw [List.length_take, List.length_drop]; omega
  obtain ⟨w5, hcp5, ho5, hO5⟩ := run_copyC (P := Tryz.prog) 145 145 156 Tryz.underlying145 hsz ho4 (k := i * 1) (n + 1 - i) (0 + i * 1) rfl ⟨vb, 0, none⟩ 1 1 (by simp only [Nat.min_def]; split <;> omega) (by rw [hy]) hvc4 hy1 (by rw [hy]; omega) (OwnC.mid_ (a := us.take (i * 1)) (b := (us.drop (i * 1)).take 1) (c := us.drop (i * 1 + 1)) (by rw [← husp]; exact ho4) (by rw [hy, hml]) htl)
  have hdl : (vs.drop (i * 1)).length = (n - i) * 1 := by rw [List.length_drop, hlen]; omega
  have hk5 : w5.drew.heap[g]? = w.heap[g]? := (hO5.block g (by omega) (fun e => by omega)).trans (hb4.block g hgl)
  have hs5 : ∀ j u, (vs.drop (i * 1))[j]? = some u → w5.drew.cell? ((⟨g, o + i * 1, none⟩ : Addr).add j) = some u := fun j u hj => (World.cell?_of_block (by rw [addr_add_block]; exact hk5)).trans (h.rdAt (i * 1) j u hj)
  have hlen5 := ho5.len
  obtain ⟨w6, hcp6, ho6, hO6⟩ := run_copyC (P := Tryz.prog) (w := w5.drew) 145 145 156 Tryz.underlying145 hsz (ho5.heap rfl) (k := i * 1 + 1) (n + 1 - (i + 1)) (0 + (i * 1 + 1)) rfl ⟨g, o + i * 1, none⟩ (n - i) (n - i) (by simp only [Nat.min_def]; split <;> omega) hdl hs5 (fun u hu => h1 u (List.mem_of_mem_drop hu)) (by rw [hdl]; omega) (OwnC.tail (ho5.heap rfl) (n' := n + 1) (by omega) (by rw [hdl]; omega) hc4)
  have hfin : (us.take (i * 1) ++ (ys ++ us.drop (i * 1 + 1))).take (i * 1 + 1) ++ vs.drop (i * 1) = vs.take (i * 1) ++ (ys ++ vs.drop (i * 1)) := by
    rw [← List.append_assoc (us.take _), List.take_append_of_le_length (by rw [List.length_append, htl, hy]; exact Nat.le_refl _), List.take_of_length_le (by rw [List.length_append, htl, hy]; exact Nat.le_refl _), hut, List.append_assoc]
  rw [hfin] at ho6
  have HY : Hid (InsTP w q g n (vs.take (i) ++ (ys ++ vs.drop (i))) (.returned (.slice (some ⟨w.heap.size, 0, none⟩) (n + 1) cap')) w6) := Lib.hid ⟨w.heap.size, _, rfl, .inr ⟨by omega, 0, cap', rfl, by simpa using ho6⟩, by
    have h7 : Only (fun j => j = w.heap.size) w w6 := ((Only.of_below hb4).trans hO5 (fun _ _ e => e)).trans ((Only.of_below (drew_below w5)).trans hO6 (fun _ _ e => e)) (fun _ _ e => e)
    exact h7.more (fun j hj e => by omega), .inr (Nat.le_refl _)⟩
  have HZ : Hid (∀ ty, (Builtin.append_ #[145, 3] ty #[.slice (some ⟨g, o, none⟩) i cap, .int .i64 ((n : Int) + 1 - (i : Int))]).run Tryz.prog w = .ok (.slice (some ⟨w.heap.size, 0, none⟩) (n + 1) cap') w4) := Lib.hid hrz
  have hcq5 : ∀ ty dc sc, (Builtin.copy_ #[145, 145] ty #[.slice (some ⟨w.heap.size, i, none⟩) (n + 1 - i) dc, .slice (some ⟨vb, 0, none⟩) 1 sc]).run Tryz.prog w4 = .ok (goInt 1) w5 := fun ty dc sc => by
    have := hcp5 ty dc sc
    rw [show 0 + i * 1 = i by omega] at this
    exact this
  have hcq6 : ∀ ty dc sc, (Builtin.copy_ #[145, 145] ty #[.slice (some ⟨w.heap.size, (i + 1), none⟩) (n - i) dc, .slice (some ⟨g, o + i, none⟩) (n - i) sc]).run Tryz.prog w5.drew = .ok (goInt ((n - i : Nat) : Int)) w6 := fun ty dc sc => by
    have := hcp6 ty dc sc
    rw [show n + 1 - (i + 1) = n - i by omega, show 0 + (i * 1 + 1) = (i + 1) by omega, show i * 1 = i by omega] at this
    exact this
  have hni : (n : Int) ≤ 1000 := by omega
  have hini : (i : Int) < (n : Int) := by omega
  have hroomi : (cap : Int) < (n : Int) + 1 := by omega
  have hine : ¬ (i : Int) = (n : Int) := by omega
  have hc1 : ¬ cap = i := by omega
  have hc2 : ¬ cap' = i := by omega
  have hc3 : ¬ cap' = i + 1 := by omega
  have hii : i + 1 ≤ n + 1 := by omega
  have hi2 : i ≤ n + 1 := by omega
  have hi3 : i ≤ n := by omega
  have hi4 : i ≤ cap := by omega
  have hii2 : (i : Int) ≤ (n : Int) + 1 := by omega
  have hii3 : (i : Int) + 1 ≤ (n : Int) + 1 := by omega
  have hw1 : IntKind.i64.wrap ((i : Int) + 1) = (i : Int) + 1 := by rw [IntKind.wrap_i64]; omega
  have hw2 : (0 : Int) ≤ (i : Int) + 1 := by omega
  have hw3 : ((i : Int) + 1).toNat = i + 1 := by omega
  clear hrz hcp5 hcp6 ho4 ho5 ho6 hO5 hO6 hb4 hq4 hvc4 husp htl hml hdl hk5 hs5 hlen5 hfin hul hut hi hz0 hz1 hz2 hsz hlen h hb hy hy1 h1 hq hvl hgl
  go_enter Tryz.func124, Tryz.ntmps124
  go_wp2_with (at_builtin; refine Lib.wpList_append_run _ rfl _ _ _ _ rfl _ _ rfl rfl _ _ (HZ.out _) ?_)
  go_region_law (fail)
  go_wp2_with fail
  go_ret
  exact HY.out
theorem insertP_any {w : World} {q g n vb : Nat} {v : Value} {vs ys : List Value} {e : TypeId} (h : HeldC w q g 1 v n vs) (hq : q < w.heap.size) (hn : n ≤ 1000) (hb : w.heap[vb]? = some (.cells ys.toArray e (0, 0))) (hvg : vb ≠ g) (hy : ys.length = 1) (hy1 : ∀ u ∈ ys, u.oneCell' = true) (h1 : ∀ u ∈ vs, u.oneCell' = true) (i : Nat) (hin : i ≤ n) :
    Calls Tryz.prog 124 #[v, .int .i64 (i : Int), .slice (some ⟨vb, 0, none⟩) 1 1] w (InsTP w q g n (vs.take (i) ++ (ys ++ vs.drop (i)))) := by
  obtain ⟨_, _, _, _, hlen⟩ := h.slice
  rcases Nat.lt_or_ge i n with hlt | hge
  · rcases h with ⟨_, rfl, _⟩ | ⟨hgq, o, cap, rfl, ho⟩
    · omega
    · rcases Nat.lt_or_ge cap (n + 1) with hr | hr
      · exact insertGrowP_any ho hq hn hb hy hy1 h1 i hlt hr
      · exact insertRoomP_any ho hgq hn hb hvg hy hy1 h1 i hlt hr
  · have := insertEndP_any h hq hn hb hy hy1 i (by omega)
    rw [List.take_of_length_le (by omega), List.drop_eq_nil_of_le (by omega), List.append_nil]
    exact this
end
end Go.Proofs.YtkohppalfcalbaaGreat

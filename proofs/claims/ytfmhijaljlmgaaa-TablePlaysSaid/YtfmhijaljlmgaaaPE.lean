/- slices.Delete and Insert of entries. -/
import Derived.Test.YtfmhijaljlmgaaaPD
namespace Go.Proofs.Ytfmhijaljlmgaaa
open Go.RowKit
theorem infoE : (Try.prog.info? 46).map (fun i => (i.zero, i.size, i.bytes)) = some (some (.agg #[.slice none 0 0, .slice none 0 0]), 2, 48) := by kernel_rfl
/-- what Delete answers -/
def DelTE (w : World) (g o cap n : Nat) (vs : List Value) (e : Ending) (w' : World) : Prop := e = .returned (.slice (some ⟨g, o, none⟩) n cap) ∧ OwnC w' g o cap 2 n vs ∧ Only (· = g) w w'
set_option maxRecDepth 100000 in
set_option maxHeartbeats 4000000 in
theorem deleteE_any {w : World} {g o cap n : Nat} {vs : List Value} (h : OwnC w g o cap 2 n vs) (h1 : ∀ u ∈ vs, u.oneCell' = true) (i j m : Nat) (hij : i < j) (hjn : j ≤ n) (hm : i + (n - j) = m) (hn : n ≤ 1000000) :
    Calls Try.prog 35 #[.slice (some ⟨g, o, none⟩) n cap, .int .i64 (i : Int), .int .i64 (j : Int)] w (DelTE w g o cap m (vs.take (i * 2) ++ vs.drop (j * 2))) := by
  obtain ⟨i0, hi, hz0, hz1, hz2⟩ := info_parts infoE
  have hlen := h.len
  have hnc := h.room
  have HW := Lib.hid h
  have HL : Hid ((vs.drop (j * 2)).length = (n - j) * 2) := Lib.hid (by rw [List.length_drop, hlen]; omega)
  have H1 : Hid (∀ u ∈ vs.drop (j * 2), u.oneCell' = true) := Lib.hid fun u hu => h1 u (List.mem_of_mem_drop hu)
  have hv : ∀ w, (zeroValue 46).run Try.prog w = .ok (.agg #[.slice none 0 0, .slice none 0 0]) w := fun w => Try.zeroValue46 w
  have HM := Lib.hid hm
  have hin : i ≤ n := by omega
  have hic : i ≤ cap := by omega
  have hjc : j ≤ cap := by omega
  have hmc : m ≤ cap := by omega
  have hni : (n : Int) ≤ 1000000 := by omega
  have hiji : (i : Int) < (j : Int) := by omega
  have hjni : (j : Int) ≤ (n : Int) := by omega
  have hnci : (n : Int) ≤ (cap : Int) := by omega
  have hmn : m < n := by omega
  have hmni : (m : Int) < (n : Int) := by omega
  have HSR : Hid (∀ j' u, (vs.drop (j * 2))[j']? = some u → w.cell? ((⟨g, o + j * 2, none⟩ : Addr).add j') = some u) := Lib.hid (h.rdAt _)
  have HSR2 : Hid (n = j → ∀ (A : Addr), ∀ j' u, (vs.drop (j * 2))[j']? = some u → w.cell? (A.add j') = some u) := Lib.hid (fun e A j' u hu => by rw [List.drop_eq_nil_of_le (by rw [hlen, e]; omega)] at hu; simp at hu)
  clear h h1 hlen hn
  by_cases hcj : cap = j
  · have hnj : n = j := by omega
    have HE := Lib.hid (HSR2.out hnj)
    have HO5 : Hid (OwnC w g o cap 2 m (vs.take (i * 2) ++ vs.drop (j * 2))) := Lib.hid (by
      have h := HW.out.cut hin
      have e : vs.drop (j * 2) = [] := List.drop_eq_nil_of_le (by rw [HW.out.len, hnj]; omega)
      have e2 : m = i := by omega
      rw [e, List.append_nil, e2]
      simpa using h)
    have hmi : m = i := by omega
    have HMI := Lib.hid hmi
    obtain ⟨X, hX⟩ : ∃ X, Hid (X = vs.take (i * 2) ++ vs.drop (j * 2)) := ⟨_, Lib.hid rfl⟩
    rw [← hX.out] at HO5 ⊢
    subst hnj
    subst hcj
    subst hmi
    clear HSR HSR2 HE HL H1 hm hX HM
    go_enter Try.func35, Try.ntmps35
    go_wp2_with fail
    go_region_law (fail)
    obtain ⟨w6, hcl, ho6, hO6⟩ := run_clearC (P := Try.prog) (w := w.drew) 58 46 (sz := 2) Try.underlying58 hv rfl (by intro u hu; simp [Value.cells] at hu; subst hu; rfl) (by decide) (HO5.out.heap rfl) (m := cap - m) (c := cap - m) (k := m) (p' := o + m * 2) (by omega) (by omega) (Nat.le_refl _) (by omega)
    have HY : Hid (DelTE w g o cap m X (.returned (.slice (some ⟨g, o, none⟩) m cap)) w6) := Lib.hid ⟨rfl, ho6, (Only.of_below (drew_below w)).trans hO6 (fun _ _ e => e)⟩
    clear ho6 hO6
    go_wp2_with fail
    go_ret
    exact HY.out
  · have hcji : ¬ (cap : Int) = (j : Int) := by omega
    clear HSR2 hm
    go_enter Try.func35, Try.ntmps35
    go_wp2_with fail
    go_region_law (refine step_of_wp rfl (wp_appR _ _ 58 46 rfl Try.underlying58 hi hz1 (HW.out.heap rfl) (k := i) (by simp [Act.eval, Act.put]) hin (A := ⟨g, o + j * 2, none⟩) (m := n - j) (c := cap - j) (by simp [Act.eval, Act.put]) HL.out HSR.out H1.out (by omega) ?_)
                   intro w5 ho5 hO5
                   simp only [HM.out] at ho5 ⊢
                   skip
                   have HO5 := Lib.hid ho5
                   have HP5 := Lib.hid hO5
                   clear ho5 hO5)
    obtain ⟨w6, hcl, ho6, hO6⟩ := run_clearC (P := Try.prog) 58 46 (sz := 2) Try.underlying58 hv rfl (by intro u hu; simp [Value.cells] at hu; subst hu; rfl) (by decide) HO5.out (m := n - m) (c := cap - m) (k := m) (p' := o + m * 2) (by omega) (by omega) (Nat.le_refl _) (by omega)
    have HY : Hid (DelTE w g o cap m (vs.take (i * 2) ++ vs.drop (j * 2)) (.returned (.slice (some ⟨g, o, none⟩) m cap)) w6) := Lib.hid ⟨rfl, ho6, by first | exact HP5.out.trans hO6 (fun _ _ e => e) | exact ((Only.of_below (drew_below w)).trans HP5.out (fun _ _ e => e)).trans hO6 (fun _ _ e => e)⟩
    clear ho6 hO6
    go_wp2_with fail
    go_ret
    exact HY.out
end Go.Proofs.Ytfmhijaljlmgaaa

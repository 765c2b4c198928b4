/- slices.Delete and Insert of pages. -/
import Derived.Test.YtfmhijaljlmgaaaPD
namespace Go.Proofs.Ytfmhijaljlmgaaa
open Go.RowKit
theorem infoP : (Try.prog.info? 58).map (fun i => (i.zero, i.size, i.bytes)) = some (some (.slice none 0 0), 1, 24) := by kernel_rfl
/-- what Delete answers -/
def DelTP (w : World) (g o cap n : Nat) (vs : List Value) (e : Ending) (w' : World) : Prop := e = .returned (.slice (some ⟨g, o, none⟩) n cap) ∧ OwnC w' g o cap 1 n vs ∧ Only (· = g) w w'
set_option maxRecDepth 100000 in
set_option maxHeartbeats 4000000 in
theorem deleteP_any {w : World} {g o cap n : Nat} {vs : List Value} (h : OwnC w g o cap 1 n vs) (h1 : ∀ u ∈ vs, u.oneCell' = true) (i j m : Nat) (hij : i < j) (hjn : j ≤ n) (hm : i + (n - j) = m) (hn : n ≤ 1000000) :
    Calls Try.prog 36 #[.slice (some ⟨g, o, none⟩) n cap, .int .i64 (i : Int), .int .i64 (j : Int)] w (DelTP w g o cap m (vs.take (i) ++ vs.drop (j))) := by
  obtain ⟨i0, hi, hz0, hz1, hz2⟩ := info_parts infoP
  have hlen := h.len
  have hnc := h.room
  have HW := Lib.hid h
  have HL : Hid ((vs.drop (j)).length = (n - j) * 1) := Lib.hid (by rw [List.length_drop, hlen]; omega)
  have H1 : Hid (∀ u ∈ vs.drop (j), u.oneCell' = true) := Lib.hid fun u hu => h1 u (List.mem_of_mem_drop hu)
  have hv : ∀ w, (zeroValue 58).run Try.prog w = .ok (.slice none 0 0) w := fun w => Try.zeroValue58 w
  have HM := Lib.hid hm
  have hin : i ≤ n := by omega
  have hic : i ≤ cap := by omega
  have hjc : j ≤ cap := by omega
  have hmc : m ≤ cap := by omega
  have hni : (n : Int) ≤ 1000000 := by omega
  have hiji : (i : Int) < (j : Int) := by omega
  have hjni : (j : Int) ≤ (n : Int) := by omega
  have hnci : (n : Int) ≤ (cap : Int) := by omega
  have hmn : m < n := by omega
  have hmni : (m : Int) < (n : Int) := by omega
  have HSR : Hid (∀ j' u, (vs.drop (j))[j']? = some u → w.cell? ((⟨g, o + j, none⟩ : Addr).add j') = some u) := Lib.hid (h.rdAt _)
  have HSR2 : Hid (n = j → ∀ (A : Addr), ∀ j' u, (vs.drop (j))[j']? = some u → w.cell? (A.add j') = some u) := Lib.hid (fun e A j' u hu => by rw [List.drop_eq_nil_of_le (by rw [hlen, e]; omega)] at hu; simp at hu)
  clear h h1 hlen hn
  by_cases hcj : cap = j
  · have hnj : n = j := by omega
    have HE := Lib.hid (HSR2.out hnj)
    have HO5 : Hid (OwnC w g o cap 1 m (vs.take (i) ++ vs.drop (j))) := Lib.hid (by
      have h := HW.out.cut hin
      have e : vs.drop (j) = [] := List.drop_eq_nil_of_le (by rw [HW.out.len, hnj]; omega)
      have e2 : m = i := by omega
      rw [e, List.append_nil, e2]
      simpa using h)
    have hmi : m = i := by omega
    have HMI := Lib.hid hmi
    obtain ⟨X, hX⟩ : ∃ X, Hid (X = vs.take (i) ++ vs.drop (j)) := ⟨_, Lib.hid rfl⟩
    rw [← hX.out] at HO5 ⊢
    subst hnj
    subst hcj
    subst hmi
    clear HSR HSR2 HE HL H1 hm hX HM
    go_enter Try.func36, Try.ntmps36
    go_wp2_with fail
    go_region_law (fail)
    obtain ⟨w6, hcl, ho6, hO6⟩ := run_clearC (P := Try.prog) (w := w.drew) 50 58 (sz := 1) Try.underlying50 hv rfl (by intro u hu; simp [Value.cells] at hu; subst hu; rfl) (by decide) (HO5.out.heap rfl) (m := cap - m) (c := cap - m) (k := m) (p' := o + m) (by omega) (by omega) (Nat.le_refl _) (by omega)
    have HY : Hid (DelTP w g o cap m X (.returned (.slice (some ⟨g, o, none⟩) m cap)) w6) := Lib.hid ⟨rfl, ho6, (Only.of_below (drew_below w)).trans hO6 (fun _ _ e => e)⟩
    clear ho6 hO6
    go_wp2_with fail
    go_ret
    exact HY.out
  · have hcji : ¬ (cap : Int) = (j : Int) := by omega
    clear HSR2 hm
    go_enter Try.func36, Try.ntmps36
    go_wp2_with fail
    go_region_law (refine step_of_wp rfl (wp_appR _ _ 50 58 rfl Try.underlying50 hi hz1 (HW.out.heap rfl) (k := i) (by simp [Act.eval, Act.put]) hin (A := ⟨g, o + j, none⟩) (m := n - j) (c := cap - j) (by simp [Act.eval, Act.put]) HL.out HSR.out H1.out (by omega) ?_)
                   intro w5 ho5 hO5
                   simp only [HM.out] at ho5 ⊢
                   simp only [Nat.mul_one] at *
                   have HO5 := Lib.hid ho5
                   have HP5 := Lib.hid hO5
                   clear ho5 hO5)
    obtain ⟨w6, hcl, ho6, hO6⟩ := run_clearC (P := Try.prog) 50 58 (sz := 1) Try.underlying50 hv rfl (by intro u hu; simp [Value.cells] at hu; subst hu; rfl) (by decide) HO5.out (m := n - m) (c := cap - m) (k := m) (p' := o + m) (by omega) (by omega) (Nat.le_refl _) (by omega)
    have HY : Hid (DelTP w g o cap m (vs.take (i) ++ vs.drop (j)) (.returned (.slice (some ⟨g, o, none⟩) m cap)) w6) := Lib.hid ⟨rfl, ho6, by first | exact HP5.out.trans hO6 (fun _ _ e => e) | exact ((Only.of_below (drew_below w)).trans HP5.out (fun _ _ e => e)).trans hO6 (fun _ _ e => e)⟩
    clear ho6 hO6
    go_wp2_with fail
    go_ret
    exact HY.out
end Go.Proofs.Ytfmhijaljlmgaaa

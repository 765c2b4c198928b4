/- CoordinatorEnds, for every input: the call returns true, and each argument reads behind it as before. No condition. -/
import Derived.Test.YtknolgcbaoppcaaGreatCF
import Derived.Test.YtknolgcbaoppcaaGreatOLI
namespace Go.Proofs.YtknolgcbaoppcaaGreat
open Go.ChangeShapes Go.WideShapes Go.ChangeAt Go.RowKit Go.Deep

set_option maxRecDepth 100000 in
theorem coordinatorEnds_lifted (os : Os) (started : os.Started) (H : Type) (enc : TypeId × Value → H) :
    ReturnsInHanded {} Tryz.checked os 3 .any (Rows.coordinatorEndsSpec.pre6 enc Tryz.prog Tryz.f3 Rows.coordinatorEndsRow.domain false) (Rows.coordinatorEndsSpec.post enc Tryz.prog Tryz.f3 false true false false) := by
  refine returnsInHanded_of_change (C := Tryz.checked) own_knob started (by kernel_rfl) Tryz.func3
    (ChangeSpec.witness6 (enc := enc) (C := Tryz.checked) false ⟨#[], #[.int .i64 0, .slice none 0 0, .slice none 0 0], []⟩ 8 (by kernel_rfl) (by kernel_rfl) (by kernel_rfl) (by kernel_rfl)) ?_
  intro W base args ds gs before hval0 hW hcnd _
  have hval : ∀ (j : Nat) t v, Tryz.f3.params[j]? = some t → args[j]? = some v → Value.okWide Tryz.prog W .any base t v := hval0
  have hW' := hW
  obtain ⟨p, q, hA0, hV, rfl, hfz, hnd⟩ := hW
  have hA : DataW.TrodAll enc Tryz.prog W 0 (fun _ => true) true Tryz.f3.params.toList args.toList ds p := hA0
  rw [Tryz.params3] at hA hval
  obtain ⟨v0, v1, v2, d0, d1, d2, p0, p1, p2, rfl, rfl, rfl, h0, h1, h2⟩ := trodAll_three hA
  obtain ⟨rfl, rfl⟩ := trodVars_none hV
  have hlt := fun x hx => hW'.lt x hx
  obtain ⟨n0, rfl, rfl, rfl, w0⟩ := open_int Tryz.underlying3 (hval 0 3 v0 rfl rfl) h0
  obtain ⟨A1, l1, cap1, rfl, r1, k1, m1⟩ := open_intsA (hval 1 22 v1 rfl rfl) h1
  obtain ⟨A2, l2, cap2, rfl, r2, o2, k2, m2⟩ := open_intsW (hval 2 22 v2 rfl rfl) h2
  clear hA0 hval0
  have e1 : Rows.coordinatorEndsSpec.fn H ([.lit (.int .i64 n0), d1, d2] ++ []) = { results := [.lit (.bool true)], args := [.lit (.int .i64 n0), d1, d2] } := by simp [Rows.coordinatorEndsSpec]
  refine (coordinatorEnds_law n0 l1 l2 A1 l1.length cap1 A2 l2.length cap2 W rfl (Nat.le_trans k1 m1) r1 rfl (Nat.le_trans k2 m2) o2 r2).mono fun e W' ⟨he, hb⟩ => ?_
  subst he
  refine ⟨_, rfl, post_of_below (pa := [] ++ (p1 ++ p2)) (pv := []) hW' ?_ ?_ ?_ (by simp) hb ?_⟩
  · intro _ _ _
    rw [e1]; exact trodAll_mk1 (shut_bool Tryz.underlying4 true)
  · intro sp hsp
    rw [e1]
    exact trodAll_mk3 (shut_int Tryz.underlying3 w0) (trod_later (t := 22) (by kernel_rfl) (of_decide_eq_true (by kernel_rfl)) h1 hb (fun x hx => hlt x (by simp [hx])) sp (fun x hx => hsp x (by simp [hx]))) (trod_later (t := 22) (by kernel_rfl) (of_decide_eq_true (by kernel_rfl)) h2 hb (fun x hx => hlt x (by simp [hx])) sp (fun x hx => hsp x (by simp [hx])))
  · intro _ _
    rw [e1]; rfl
  · exact ok_one (by kernel_rfl) rfl (okWide_bool_mk Tryz.underlying4 _)
theorem coordinatorEnds_holds : Rows.CoordinatorEndsSaid :=
  OpenClaim.holds_of_wide 3 Tryz.f3 rfl rfl rfl rfl rfl rfl rfl ⟨rfl, rfl, rfl, rfl, rfl⟩ rfl rfl rfl rfl rfl (by kernel_rfl) Tryz.func3 (by kernel_rfl)
    (of_decide_eq_true (by kernel_rfl)) (by unfold Func.isWrapper; first | (rw [if_pos (by decide +kernel)]; kernel_rfl) | (rw [if_neg (by decide +kernel)]; exact ⟨rfl, rfl⟩))
    (fun os started H enc _ => coordinatorEnds_lifted os started H enc)
#print axioms coordinatorEnds_holds
end Go.Proofs.YtknolgcbaoppcaaGreat

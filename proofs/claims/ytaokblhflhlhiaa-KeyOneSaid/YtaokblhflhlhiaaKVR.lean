/- KeyOne, for every input: the call returns true, and each argument reads behind it as before. No condition. -/
import Derived.Test.YtaokblhflhlhiaaKV
import Derived.Test.YtaokblhflhlhiaaKS
import Derived.SizedLaws
namespace Go.Proofs.Ytaokblhflhlhiaa
open Go.ChangeShapes Go.WideShapes Go.ChangeAt Go.RowKit Go.Deep

set_option maxRecDepth 100000 in
theorem len_datum {H : Type} {enc : TypeId × Value → H} {W : World} {v : Value} {d : DataW H} {p : List MemPlace} (h : DataW.Trod enc Try.prog W 0 (fun _ => true) true 22 v d p) :
    ∀ A n cap, v = .slice A n cap → n = 0 ∨ ∃ E S, d = .slice E S ∧ E.length = n := by
  rintro A n cap rfl
  obtain ⟨fuel, hf⟩ := h
  rcases open_slice Try.underlying22 hf with ⟨hcs, _⟩ | ⟨a, len, cap', m, k, D, Pl, hcs, _, hl, hm, hmm, hx, hi⟩
  · simp [Value.cells] at hcs
    exact .inl hcs.2.1
  · simp [Value.cells] at hcs
    obtain ⟨rfl, rfl, rfl⟩ := hcs
    simp only [Prod.mk.injEq] at hx
    exact .inr ⟨_, _, hx.1, by simp⟩
set_option maxRecDepth 100000 in
theorem keyOne_lifted (os : Os) (started : os.Started) (H : Type) (enc : TypeId × Value → H) :
    ReturnsInHanded {} Try.checked os 8 .any (Rows.keyOneSpec.pre6 enc Try.prog Try.f8 Rows.keyOneRow.domain false) (Rows.keyOneSpec.post enc Try.prog Try.f8 false true false false) := by
  refine returnsInHanded_of_change_sized (C := Try.checked) own_knob started (by kernel_rfl) Try.func8
    (ChangeSpec.witness6 (enc := enc) (C := Try.checked) false ⟨#[], #[.slice none 0 0, .agg #[.int .i64 0, .int .i64 0, .string ⟨#[]⟩], .agg #[.int .i64 0, .int .i64 0, .string ⟨#[]⟩]], []⟩ 8 (by kernel_rfl) (by kernel_rfl) (by kernel_rfl) (by kernel_rfl)) ?_
  intro W base args ds gs before hval0 hW hcnd hsz0 _
  have hsz : (DataW.weightsEach Try.prog (Try.f8.params.toList ++ Rows.keyOneSpec.plain.varTypes Try.prog) (ds ++ gs)).all (· ≤ reachBytes) = true := hsz0
  clear hsz0
  have hval : ∀ (j : Nat) t v, Try.f8.params[j]? = some t → args[j]? = some v → Value.okWide Try.prog W .any base t v := hval0
  have hW' := hW
  obtain ⟨p, q, hA0, hV, rfl, hfz, hnd⟩ := hW
  have hA : DataW.TrodAll enc Try.prog W 0 (fun _ => true) true Try.f8.params.toList args.toList ds p := hA0
  rw [Try.params8] at hA hval hsz
  obtain ⟨v0, v1, v2, d0, d1, d2, p0, p1, p2, rfl, rfl, rfl, h0, h1, h2⟩ := trodAll_three hA
  obtain ⟨rfl, rfl⟩ := trodVars_none hV
  have hlt := fun x hx => hW'.lt x hx
  have hdl := len_datum h0
  obtain ⟨A0, l0, cap0, rfl, r0, o0, k0, m0⟩ := open_vals (hval 0 22 v0 rfl rfl) h0
  obtain ⟨x1, rfl, o1, m1⟩ := open_val (hval 1 37 v1 rfl rfl) h1
  obtain ⟨x2, rfl, o2, m2⟩ := open_val (hval 2 37 v2 rfl rfl) h2
  clear hA0 hval0
  have h32 : l0.length * 32 ≤ 140737488351232 := by
    rcases hdl _ _ _ rfl with h | ⟨E, S, rfl, hE⟩
    · omega
    · have h1 := sized_slice hsz (j := 0) (t := 22) (e := 37) rfl rfl Try.underlying22
      have hb : Try.prog.bytesOf 37 = 32 := by kernel_rfl
      rw [hb] at h1
      simp only [reachBytes] at h1
      omega
  have e1 : Rows.keyOneSpec.fn H ([d0, d1, d2] ++ []) = { results := [.lit (.bool true)], args := [d0, d1, d2] } := by simp [Rows.keyOneSpec]
  refine (keyOne_law l0 x1 x2 A0 cap0 W (Nat.le_trans k0 m0) h32 o0 ⟨o1, maxLen_le m1⟩ ⟨o2, maxLen_le m2⟩ r0).mono fun e W' ⟨he, hb⟩ => ?_
  subst he
  refine ⟨_, rfl, post_of_below (pa := p0 ++ (p1 ++ p2)) (pv := []) hW' ?_ ?_ ?_ (by simp) hb ?_⟩
  · intro _ _ _
    rw [e1]; exact trodAll_mk1 (shut_bool Try.underlying4 true)
  · intro sp hsp
    rw [e1]
    exact trodAll_mk3 (trod_later (t := 22) (by kernel_rfl) (of_decide_eq_true (by kernel_rfl)) h0 hb (fun x hx => hlt x (by simp [hx])) sp (fun x hx => hsp x (by simp [hx]))) (trod_later (t := 37) (by kernel_rfl) (of_decide_eq_true (by kernel_rfl)) h1 hb (fun x hx => hlt x (by simp [hx])) sp (fun x hx => hsp x (by simp [hx]))) (trod_later (t := 37) (by kernel_rfl) (of_decide_eq_true (by kernel_rfl)) h2 hb (fun x hx => hlt x (by simp [hx])) sp (fun x hx => hsp x (by simp [hx])))
  · intro _ _
    rw [e1]; rfl
  · exact ok_one (by kernel_rfl) rfl (okWide_bool_mk Try.underlying4 _)
theorem keyOne_holds : Rows.KeyOneSaid :=
  OpenClaim.holds_of_wide 8 Try.f8 rfl rfl rfl rfl rfl rfl rfl ⟨rfl, rfl, rfl, rfl, rfl⟩ rfl rfl rfl rfl rfl (by kernel_rfl) Try.func8 (by kernel_rfl)
    (of_decide_eq_true (by kernel_rfl)) (by unfold Func.isWrapper; first | (rw [if_pos (by decide +kernel)]; kernel_rfl) | (rw [if_neg (by decide +kernel)]; exact ⟨rfl, rfl⟩))
    (fun os started H enc _ => keyOne_lifted os started H enc)
#print axioms keyOne_holds
end Go.Proofs.Ytaokblhflhlhiaa

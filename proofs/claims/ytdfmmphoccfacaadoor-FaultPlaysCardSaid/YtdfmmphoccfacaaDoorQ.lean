/- FaultHas's walk over what built leaves. -/
import Derived.Test.YtdfmmphoccfacaaDoorO
import Derived.Deep.RegionHeld3
namespace Go.Proofs.YtdfmmphoccfacaaDoor
open Go.RowKit Go.Extern.Stop Go.Stop Go.Extern

/-- a list that a call has made, of at least one: where it lies -/
def ListAt (l : List Int) (w : World) : Ending → World → Prop := fun e w' => ∃ g cap, e = .returned (.slice (some ⟨g, 0, none⟩) l.length cap) ∧ Below w.heap.size w w' ∧ ∀ j c, l[j]? = some c → w'.cell? ⟨g, j, none⟩ = some (.int .i64 c)
theorem list_at {l : List Int} {te : TypeId} {w w' : World} {e : Ending} (h : Listed te (vals l) w e w') (h0 : 0 < l.length) : ListAt l w e w' := by
  obtain ⟨v, rfl, hb, ho⟩ := h
  obtain ⟨g, cap, rfl, _, hc⟩ := own_get ho (by rw [vals_len]; exact h0)
  refine ⟨g, cap, by rw [vals_len], hb, fun j c hj => hc j _ ?_⟩
  simp [vals, hj]
theorem codes_at (t : Tree) (w : World) (h : Rep w t) (hn : t.codes.length ≤ 1000000) (h0 : 0 < t.codes.length) : Calls Tryd.prog 10 #[t.val] w (ListAt t.codes w) :=
  (codes_any t w h hn).mono fun _ _ k => list_at k h0
theorem places_at (t : Tree) (w : World) (h : Rep w t) (hn : t.codes.length ≤ 1000000) (h0 : 0 < t.codes.length) : Calls Tryd.prog 11 #[t.val] w (ListAt t.places w) :=
  (places_any t w h (by rw [Tree.places_len]; exact hn)).mono fun _ _ k => list_at k (by rw [Tree.places_len]; exact h0)
theorem places_len_call (t : Tree) (w : World) (h : Rep w t) (hn : t.codes.length ≤ 1000000) : Calls Tryd.prog 11 #[t.val] w (LenAns t.codes.length w) := by
  refine (places_any t w h (by rw [Tree.places_len]; exact hn)).mono ?_
  rintro e w' ⟨v, rfl, hb, ho⟩
  obtain ⟨pa, cap, rfl⟩ := own_slice ho
  rw [Tree.places_len]
  exact ⟨pa, cap, rfl, hb⟩
theorem Rep.no_zero {w : World} : ∀ {t : Tree}, Rep w t → ∀ c ∈ t.codes, c ≠ 0
  | .nil, _, c, h => by simp [Tree.codes] at h
  | .fault _ k _ _, hR, c, h => by
    simp only [Tree.codes, List.mem_cons] at h
    rcases h with rfl | h
    · exact hR.2.1
    · exact Rep.no_zero hR.2.2.2.2.2 c h
  | .join _ _ _, hR, c, h => by
    simp only [Tree.codes, List.mem_append] at h
    rcases h with h | h
    · exact Rep.no_zero hR.2.2.2.2.2.1 c h
    · exact Rep.no_zero hR.2.2.2.2.2.2 c h
def hasB (code : Int) (l : List Int) (k : Nat) : Bool := (l.take k).any (· == code)
theorem hasB_next (code : Int) (l : List Int) (k : Nat) (c : Int) (h : l[k]? = some c) : hasB code l (k + 1) = (hasB code l k || c == code) := by
  obtain ⟨hk, rfl⟩ := List.getElem?_eq_some_iff.1 h
  unfold hasB
  rw [List.take_succ_eq_append_getElem hk, List.any_append]
  simp
theorem hasB_all (code : Int) (l : List Int) (h : ∀ c ∈ l, c ≠ 0) : hasB code l l.length = decide (code ≠ 0 ∧ code ∈ l) := by
  unfold hasB
  rw [List.take_length, Bool.eq_iff_iff]
  simp only [List.any_eq_true, beq_iff_eq, decide_eq_true_eq]
  constructor
  · rintro ⟨x, hx, rfl⟩
    exact ⟨h x hx, hx⟩
  · rintro ⟨_, hx⟩
    exact ⟨code, hx, rfl⟩
/-- at the head of the outer loop -/
def HOut (w1 : World) (m : Nat) (v7 : Value) (wr : World) : Prop := ∃ i : Nat, v7 = .int .i64 i ∧ i ≤ m + 1 ∧ Below w1.heap.size w1 wr
/-- at the head of the inner loop -/
def HIn (w3 : World) (code : Int) (l : List Int) (v11 v12 : Value) (wr : World) : Prop := ∃ k : Nat, v12 = .int .i64 k ∧ k ≤ l.length ∧ v11 = .bool (hasB code l k) ∧ Below w3.heap.size w3 wr
theorem hout_next {w1 wr w' : World} {m i : Nat} (hi : i ≤ m) (hb : Below w1.heap.size w1 wr) (hb' : Below wr.heap.size wr w') : HOut w1 m (.int .i64 ((i : Int) + 1)) w' :=
  ⟨i + 1, rfl, by omega, hb.trans (hb'.mono hb.size)⟩
theorem drew_below (w : World) : Below w.heap.size w w.drew := ⟨rfl, rfl, rfl, Nat.le_refl _, fun _ _ => rfl⟩
theorem below_drewN (w : World) (k : Nat) : Below w.heap.size w (w.drewN k) := ⟨rfl, rfl, rfl, Nat.le_refl _, fun _ _ => rfl⟩

set_option maxRecDepth 100000 in
set_option maxHeartbeats 4000000 in
theorem has_law (sl : Value) (code : Int) (w : World) (hg : Handle w) (HB : Hid (Calls Tryd.prog 8 #[sl] w (BuiltTrees w))) :
    Calls Tryd.prog 5 #[sl, .int .i64 code] w (Ans (.bool true) w) := by
  have HG := Lib.hid hg
  clear hg
  go_enter Tryd.func5, Tryd.ntmps5
  go_wp2_with (first
    | (go_at_call 8; refine HB.out.mono ?_; rintro e w1 ⟨g, m, cap, vt, ts, rfl, hm, hts, hb⟩
       have HT := Lib.hid hts
       have HG1 := Lib.hid (HG.out.below hb)
       have HB1 := Lib.hid hb
       clear hts hb))
  have hm0 : (0 : Int) ≤ (m : Int) := Int.natCast_nonneg _
  have hm14 : (m : Int) ≤ 14 := by omega
  go_loopw [7] (fun v7 wr => HOut w1 m v7 wr) (fun v7 _ => (m + 1) - (intOf v7).toNat)
  case atStart => exact ⟨0, rfl, by omega, Below.refl _ _⟩
  case round =>
    obtain ⟨i, rfl, hi, hbr⟩ := hrel
    have hi0 : (0 : Int) ≤ (i : Int) := Int.natCast_nonneg _
    by_cases hle : i ≤ m
    · obtain ⟨c1, r1, n1, d1⟩ := HT.out i hle
      have hlt : (i : Int) < (m : Int) + 1 := by omega
      have H := Lib.hid (St.mk (r1.below hbr) (HG1.out.below hbr) (HB1.out.trans (hbr.mono HB1.out.size)))
      have hci : wr.cell? ⟨g, i, none⟩ = some (ts i).val := (hbr.cell (p := ⟨g, i, none⟩) (World.block_lt_of_cell? _ _ c1)).trans c1
      have HX : Hid (∀ w', Below wr.heap.size wr w' → HOut w1 m (.int .i64 ((i : Int) + 1)) w') := fun w' hb' => hout_next hle hbr hb'
      generalize ts i = t at r1 n1 d1 hci H
      have HN := Lib.hid (show t.codes.length ≤ 1000000 by omega)
      clear c1 r1 d1 hbr
      by_cases ht : t = .nil
      · subst ht
        clear n1
        have hz : ([] : List Int).length = 0 := rfl
        simp only [Tree.val] at hci
        go_wp2_with (first
          | (go_at_call 10; refine (codes_len .nil _ H.out.rep HN.out).mono ?_; rintro e w2 ⟨pa, ca, rfl, hb⟩; have H := Lib.hid (H.out.next hb); have HX : Hid (∀ w', Below w2.heap.size w2 w' → HOut w1 m (.int .i64 ((i : Int) + 1)) w') := (fun w' hb' => HX.out w' (hb.trans (hb'.mono hb.size))); clear hb; simp only [Tree.codes, List.length_nil])
          | (go_at_call 11; refine (places_len_call .nil _ H.out.rep HN.out).mono ?_; rintro e w2 ⟨pb, cb, rfl, hb⟩; have H := Lib.hid (H.out.next hb); have HX : Hid (∀ w', Below w2.heap.size w2 w' → HOut w1 m (.int .i64 ((i : Int) + 1)) w') := (fun w' hb' => HX.out w' (hb.trans (hb'.mono hb.size))); clear hb; simp only [Tree.codes, List.length_nil]))
        go_loop [11, 12] (fun v11 v12 => v11 = .bool false ∧ v12 = .int .i64 0) (fun _ _ => 0)
        case atStart => exact ⟨rfl, rfl⟩
        case round =>
          obtain ⟨rfl, rfl⟩ := hrel
          go_wp2_with (first
            | (go_at_call 15; refine (has_none code _).mono ?_; rintro e w2 ⟨rfl, hb⟩; have H := Lib.hid (H.out.next hb); have HX : Hid (∀ w', Below w2.heap.size w2 w' → HOut w1 m (.int .i64 ((i : Int) + 1)) w') := (fun w' hb' => HX.out w' (hb.trans (hb'.mono hb.size))); clear hb)
            | (go_at_call 12; refine (code_any .nil _ H.out.rep H.out.han).mono ?_; rintro e w2 ⟨rfl, hb⟩; have H := Lib.hid (H.out.next hb); have HX : Hid (∀ w', Below w2.heap.size w2 w' → HOut w1 m (.int .i64 ((i : Int) + 1)) w') := (fun w' hb' => HX.out w' (hb.trans (hb'.mono hb.size))); clear hb; simp only [Tree.codes, List.headD_nil]))
          go_quiet (fail)
          go_wp2_with fail
          go_roundw
          case rel => exact HX.out _ (below_drewN _ _)
          case measure => simp only [intOf]; omega
      · have hne : t.codes ≠ [] := fun h => ht (H.out.rep.codes_none h)
        obtain ⟨c0, cs, hcs⟩ : ∃ c0 cs, t.codes = c0 :: cs := List.exists_cons_of_ne_nil hne
        obtain ⟨p0, ps, hps⟩ : ∃ p0 ps, t.places = p0 :: ps := List.exists_cons_of_ne_nil (fun h => hne (List.length_eq_zero_iff.1 (by rw [← Tree.places_len, h]; rfl)))
        have hl0 : 0 < t.codes.length := by rw [hcs]; simp
        have hpl := Tree.places_len t
        have HZ := Lib.hid H.out.rep.no_zero
        have HCS := Lib.hid (And.intro hcs hps)
        have HPL := Lib.hid hpl
        clear hne hcs hps ht hpl
        go_wp2_with (first
          | (go_at_call 10; refine (codes_at t _ H.out.rep HN.out hl0).mono ?_; rintro e w2 ⟨gl, ca, rfl, hb, hcl⟩
             have H := Lib.hid (H.out.next hb)
             have HX : Hid (∀ w', Below w2.heap.size w2 w' → HOut w1 m (.int .i64 ((i : Int) + 1)) w') := (fun w' hb' => HX.out w' (hb.trans (hb'.mono hb.size)))
             have HL := Lib.hid hcl
             clear hb hcl)
          | (go_at_call 11; refine (places_at t _ H.out.rep HN.out hl0).mono ?_; rintro e w3 ⟨gp, cp, rfl, hb, hcp⟩
             have H := Lib.hid (H.out.next hb)
             have HX : Hid (∀ w', Below w3.heap.size w3 w' → HOut w1 m (.int .i64 ((i : Int) + 1)) w') := (fun w' hb' => HX.out w' (hb.trans (hb'.mono hb.size)))
             have HL : Hid (∀ j c, t.codes[j]? = some c → w3.cell? ⟨gl, j, none⟩ = some (.int .i64 c)) := (fun j c hj => (hb.cell (p := ⟨gl, j, none⟩) (World.block_lt_of_cell? _ _ (HL.out j c hj))).trans (HL.out j c hj))
             have HP := Lib.hid hcp
             clear hb hcp))
        rw [HPL.out]
        go_loopw [11, 12] (fun v11 v12 wr2 => HIn w3 code t.codes v11 v12 wr2) (fun _ v12 _ => t.codes.length - (intOf v12).toNat)
        case atStart => exact ⟨0, rfl, by omega, rfl, Below.refl _ _⟩
        case round =>
          obtain ⟨k, rfl, hk, rfl, hbk⟩ := hrel
          have hk0 : (0 : Int) ≤ (k : Int) := Int.natCast_nonneg _
          have H := Lib.hid (H.out.next hbk)
          by_cases hlt2 : k < t.codes.length
          · obtain ⟨c, hc⟩ : ∃ c, t.codes[k]? = some c := ⟨_, List.getElem?_eq_getElem hlt2⟩
            have hcell : wr.cell? ⟨gl, k, none⟩ = some (.int .i64 c) := (hbk.cell (p := ⟨gl, k, none⟩) (World.block_lt_of_cell? _ _ (HL.out k c hc))).trans (HL.out k c hc)
            have hcm : c ∈ t.codes := List.mem_of_getElem? hc
            have hcz : (c == 0) = false := by simpa using HZ.out c hcm
            have HHas : Hid (∀ wc, Rep wc t → Calls Tryd.prog 15 #[t.val, .int .i64 c] wc (Ans (.bool true) wc)) := fun wc hr => by
              refine (has_any t c wc hr).mono ?_
              rintro e w' ⟨rfl, hb⟩
              refine ⟨?_, hb⟩
              rw [decide_eq_true ⟨HZ.out c hcm, hcm⟩]
            have HK : Hid (∀ b, b = hasB code t.codes (k + 1) → ∀ w', Below wr.heap.size wr w' → HIn w3 code t.codes (.bool b) (.int .i64 ((k : Int) + 1)) w') := fun b hb w' hb' => ⟨k + 1, rfl, by omega, by rw [hb], hbk.trans (hb'.mono hbk.size)⟩
            have hnx := hasB_next code t.codes k c hc
            have hltd : (k : Int) < (t.codes.length : Int) := by omega
            clear hcm hc hbk
            by_cases hh : hasB code t.codes k = true
            · rw [hh] at hnx ⊢
              have HE := Lib.hid (show true = hasB code t.codes (k + 1) by rw [hnx]; rfl)
              clear hh hnx
              go_wp2_with (go_at_call 15; refine (HHas.out _ H.out.rep).mono ?_; rintro e w4 ⟨rfl, hb⟩; have HY := Lib.hid (HK.out true HE.out _ hb); clear hb)
              go_roundw
              case rel => exact HY.out
              case measure => simp only [intOf]; omega
            · rw [Bool.not_eq_true] at hh
              rw [hh] at hnx ⊢
              by_cases hcc : c = code
              · subst hcc
                have HE := Lib.hid (show true = hasB c t.codes (k + 1) by rw [hnx]; simp)
                clear hh hnx
                go_wp2_with (go_at_call 15; refine (HHas.out _ H.out.rep).mono ?_; rintro e w4 ⟨rfl, hb⟩; have HY := Lib.hid (HK.out true HE.out _ hb); clear hb)
                go_roundw
                case rel => exact HY.out
                case measure => simp only [intOf]; omega
              · have hd : (c == code) = false := by simpa using hcc
                have HE := Lib.hid (show false = hasB code t.codes (k + 1) by rw [hnx]; simpa using hcc)
                clear hh hnx hcc
                go_wp2_with (go_at_call 15; refine (HHas.out _ H.out.rep).mono ?_; rintro e w4 ⟨rfl, hb⟩; have HY := Lib.hid (HK.out false HE.out _ hb); clear hb)
                go_roundw
                case rel => exact HY.out
                case measure => simp only [intOf]; omega
          · have hkl : k = t.codes.length := by omega
            subst hkl
            have hall := hasB_all code t.codes HZ.out
            have HX : Hid (∀ w', Below wr.heap.size wr w' → HOut w1 m (.int .i64 ((i : Int) + 1)) w') := (fun w' hb' => HX.out w' (hbk.trans (hb'.mono hbk.size)))
            have HC0 : Hid (t.codes[0]? = some c0 ∧ t.places[0]? = some p0 ∧ t.codes.headD 0 = c0 ∧ t.places.headD (-1) = p0) := by rw [HCS.out.1, HCS.out.2]; exact ⟨rfl, rfl, rfl, rfl⟩
            have hc0 : wr.cell? ⟨gl, 0, none⟩ = some (.int .i64 c0) := (hbk.cell (p := ⟨gl, 0, none⟩) (World.block_lt_of_cell? _ _ (HL.out 0 c0 HC0.out.1))).trans (HL.out 0 c0 HC0.out.1)
            have hp0 : wr.cell? ⟨gp, 0, none⟩ = some (.int .i64 p0) := (hbk.cell (p := ⟨gp, 0, none⟩) (World.block_lt_of_cell? _ _ (HP.out 0 p0 HC0.out.2.1))).trans (HP.out 0 p0 HC0.out.2.1)
            have hcz : (c0 == 0) = false := by simpa using HZ.out c0 (by rw [HCS.out.1]; simp)
            have hln : ¬ (t.codes.length : Int) = 0 := by omega
            have hlp : (0 : Int) < (t.codes.length : Int) := by omega
            have HCode : Hid (∀ wc, Rep wc t → Handle wc → Calls Tryd.prog 12 #[t.val] wc (Ans (.int .i64 c0) wc)) := fun wc hr hh => by
              have := code_any t wc hr hh
              rwa [HC0.out.2.2.1] at this
            have HAt : Hid (∀ wc, Rep wc t → Handle wc → Calls Tryd.prog 13 #[t.val] wc (Ans (.int .i64 p0) wc)) := fun wc hr hh => by
              have := at_any t wc hr hh
              rwa [HC0.out.2.2.2] at this
            have HHas : Hid (∀ wc, Rep wc t → Calls Tryd.prog 15 #[t.val, .int .i64 code] wc (Ans (.bool (hasB code t.codes t.codes.length)) wc)) := fun wc hr => by
              rw [hall]; exact has_any t code wc hr
            generalize hasB code t.codes t.codes.length = hv at HHas ⊢
            have hlx : ¬ ((t.codes.length : Int) < (t.codes.length : Int)) := by omega
            clear hall hlt2 hk hbk
            cases hv
            all_goals
              go_wp2_with (first
                | (go_at_call 15; refine (HHas.out _ H.out.rep).mono ?_; rintro e w4 ⟨rfl, hb⟩
                   have H := Lib.hid (H.out.next hb)
                   have HX : Hid (∀ w', Below w4.heap.size w4 w' → HOut w1 m (.int .i64 ((i : Int) + 1)) w') := (fun w' hb' => HX.out w' (hb.trans (hb'.mono hb.size)))
                   have hc0 := (hb.cell (p := ⟨gl, 0, none⟩) (World.block_lt_of_cell? _ _ hc0)).trans hc0
                   have hp0 := (hb.cell (p := ⟨gp, 0, none⟩) (World.block_lt_of_cell? _ _ hp0)).trans hp0
                   clear hb)
                | (go_at_call 12; refine (HCode.out _ H.out.rep H.out.han).mono ?_; rintro e w4 ⟨rfl, hb⟩
                   have H := Lib.hid (H.out.next hb)
                   have HX : Hid (∀ w', Below w4.heap.size w4 w' → HOut w1 m (.int .i64 ((i : Int) + 1)) w') := (fun w' hb' => HX.out w' (hb.trans (hb'.mono hb.size)))
                   have hc0 := (hb.cell (p := ⟨gl, 0, none⟩) (World.block_lt_of_cell? _ _ hc0)).trans hc0
                   have hp0 := (hb.cell (p := ⟨gp, 0, none⟩) (World.block_lt_of_cell? _ _ hp0)).trans hp0
                   clear hb))
              have H := Lib.hid (H.out.next (drew_below _))
              have HX := Lib.hid (fun w' hb' => HX.out w' ((drew_below _).trans hb'))
              go_region_held3 (fun w' => w'.cell? ⟨gl, 0, none⟩ = some (.int .i64 c0) ∧ w'.cell? ⟨gp, 0, none⟩ = some (.int .i64 p0))
                (first
                  | exact ⟨hc0, hp0⟩
                  | go_keep)
                (first
                  | (go_at_call 12; refine (HCode.out _ (by exact H.out.rep) (by exact H.out.han)).mono ?_; rintro e w5 ⟨rfl, hb⟩
                     have H := Lib.hid (H.out.next hb)
                     have HX := Lib.hid (fun w' hb' => HX.out w' (hb.trans (Below.mono hb' hb.size)))
                     have hc0 := (hb.cell (p := ⟨gl, 0, none⟩) (World.block_lt_of_cell? _ _ hc0)).trans hc0
                     have hp0 := (hb.cell (p := ⟨gp, 0, none⟩) (World.block_lt_of_cell? _ _ hp0)).trans hp0)
                  | (go_at_call 13; refine (HAt.out _ (by exact H.out.rep) (by exact H.out.han)).mono ?_; rintro e w6 ⟨rfl, hb⟩
                     have H := Lib.hid (H.out.next hb)
                     have HX := Lib.hid (fun w' hb' => HX.out w' (hb.trans (Below.mono hb' hb.size)))
                     have hc0 := (hb.cell (p := ⟨gl, 0, none⟩) (World.block_lt_of_cell? _ _ hc0)).trans hc0
                     have hp0 := (hb.cell (p := ⟨gp, 0, none⟩) (World.block_lt_of_cell? _ _ hp0)).trans hp0))
              clear hc0 hp0
              go_wp2_with fail
              go_roundw
              case rel => exact HX.out _ (Below.refl _ _)
              case measure => simp only [intOf]; omega
    · have hnlt : ¬ ((i : Int) < (m : Int) + 1) := by omega
      have H1 := Lib.hid (St.mk (t := .nil) trivial (HG1.out.below hbr) (HB1.out.trans (hbr.mono HB1.out.size)))
      clear hbr
      go_wp2_with (go_at_call 17; refine (alive_any _ H1.out.han).mono ?_; rintro e w2 ⟨rfl, hb⟩; have H1 := Lib.hid (H1.out.next hb); clear hb)
      go_ret
      exact ⟨rfl, H1.out.bel⟩
end Go.Proofs.YtdfmmphoccfacaaDoor

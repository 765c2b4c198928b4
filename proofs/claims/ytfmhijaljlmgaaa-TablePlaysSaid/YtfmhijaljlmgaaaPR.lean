/- Package table: remove, Drop. -/
import Derived.Test.YtfmhijaljlmgaaaPQ
namespace Go.Proofs.Ytfmhijaljlmgaaa
open Go.RowKit

theorem join_any {w : World} {G D : Nat → Prop} {q P c i : Nat} {ps : List Pg} (h : Tb0 w G D q P c ps) (hf : ∀ p ∈ ps, p.es ≠ [] ∧ p.es.length ≤ 128) (hi : i < ps.length) (hn : ps.length ≤ 1000) : Calls Try.prog 37 #[.pointer (some ⟨q, 0, none⟩), .int .i64 (i : Int)] w (JoT w G D q c (flat ps) (i + 1)) := by
  obtain ⟨p1, h1⟩ : ∃ p, ps[i]? = some p := ⟨_, List.getElem?_eq_getElem hi⟩
  rcases Nat.lt_or_ge (i + 1) ps.length with h2 | h2
  · obtain ⟨p2, h2⟩ : ∃ p, ps[i + 1]? = some p := ⟨_, List.getElem?_eq_getElem h2⟩
    rcases Nat.lt_or_ge 64 (p1.es.length + p2.es.length) with h3 | h3
    · exact joinNo_any h hf h1 h2 hn h3
    · exact joinYes_any h hf h1 h2 hn h3
  · have e : i + 1 = ps.length := by omega
    rw [e]
    exact joinEnd_any h hf e hn
theorem JoT.then {w w1 w2 : World} {G G1 D : Nat → Prop} {q c k : Nat} {L : List Ent} {e : Ending} (hg : ∀ j, G1 j → G j ∨ w.heap.size ≤ j) (hO : Only G w w1) (h : JoT w1 G1 D q c L k e w2) : JoT w G D q c L k e w2 := by
  obtain ⟨he, G', P', ps', h1, h2, h3, h4, h5, h6⟩ := h
  have hs := hO.size
  refine ⟨he, G', P', ps', h1, h2, h3, h4, fun j hj => ?_, hO.trans h6 (fun j hj e => (hg j e).resolve_right (by omega))⟩
  rcases h5 j hj with e | e
  · exact hg j e
  · exact .inr (by omega)
theorem JoT.less {w w2 : World} {G D : Nat → Prop} {q c k m : Nat} {L : List Ent} {e : Ending} (h : JoT w G D q c L k e w2) (hm : m ≤ k) : JoT w G D q c L m e w2 := by
  obtain ⟨he, G', P', ps', h1, h2, h3, h4, h5, h6⟩ := h
  exact ⟨he, G', P', ps', h1, h2, h3, by omega, h5, h6⟩
theorem flat_era {ps : List Pg} {i j : Nat} {p p' : Pg} (hp : ps[i]? = some p) (hj : j < p.es.length) (h : p'.es = p.es.take j ++ p.es.drop (j + 1)) : flat (ps.set i p') = (flat ps).eraseIdx ((flat (ps.take i)).length + j) := by
  rw [flat_set (List.getElem?_eq_some_iff.1 hp).1, flat_at hp, List.eraseIdx_append_of_length_le (by omega), Nat.add_sub_cancel_left, List.eraseIdx_append_of_lt_length hj, List.eraseIdx_eq_take_drop_succ, h]
/-- a page out of the row -/
theorem AtPg.out {w W w11 : World} {G3 G D : Nat → Prop} {q P c i j o cap pc : Nat} {A : Option Addr} {p : Pg} {ps : List Pg} (h : AtPg w W G3 G D q P c i j o cap A pc p ps) (he : p.es = []) (hf : ∀ k x, ps[k]? = some x → k ≠ i → x.es ≠ [] ∧ x.es.length ≤ 128)
    (ho : OwnC w11 P o cap 1 (ps.length - 1) (pagesV (ps.take i ++ ps.drop (i + 1)))) (hO : Only (· = P) W w11) : JoT w G D q c (flat ps) 0 (.returned (.tuple #[])) (w11.setCell ⟨q, 0, none⟩ (.slice (some ⟨P, o, none⟩) (ps.length - 1) cap)) := by
  have hlt := (List.getElem?_eq_some_iff.1 h.hp).1
  have hlen : (ps.take i ++ ps.drop (i + 1)).length = ps.length - 1 := by rw [List.length_append, List.length_take, List.length_drop]; omega
  have hmem : ∀ x ∈ ps.take i ++ ps.drop (i + 1), x ∈ ps := fun x hx => by
    rcases List.mem_append.1 hx with hx | hx
    · exact List.mem_of_mem_take hx
    · exact List.mem_of_mem_drop hx
  obtain ⟨G4, h5, h6, h7⟩ := h.t.setRow h.box (hO.more (fun k _ e => ⟨e, by rw [e]; exact h.pq⟩)) (P' := P) (v' := .slice (some ⟨P, o, none⟩) (ps.length - 1) cap) (.inr ⟨h.pq, o, cap, rfl, ho⟩) hlen.symm (.inl rfl) (fun x hx => .inl (hmem x hx)) (by
    have h8 := h.t.apart
    have e1 : ps.map Pg.g = (ps.take i).map Pg.g ++ (ps.drop i).map Pg.g := by rw [← List.map_append, List.take_append_drop]
    rw [e1] at h8
    rw [List.map_append]
    rw [List.nodup_append] at h8 ⊢
    have e2 : ps.drop (i + 1) = (ps.drop i).drop 1 := by rw [List.drop_drop]
    refine ⟨h8.1, ?_, fun a ha b hb2 => h8.2.2 a ha b ?_⟩
    · rw [e2, List.map_drop]
      exact h8.2.1.sublist (List.drop_sublist 1 _)
    · rw [e2, List.map_drop] at hb2
      exact List.mem_of_mem_drop hb2)
  have hfl : flat ps = flat (ps.take i ++ ps.drop (i + 1)) := by rw [flat_at h.hp, he, flat_app]; rfl
  refine ⟨rfl, G4, P, _, h5, hfl.symm, fun x hx => ?_, Nat.zero_le _, fun k hk => ?_, h.o_.trans h7 (fun k hk e => ?_)⟩
  · rcases List.mem_append.1 hx with hx | hx
    · obtain ⟨k, hk⟩ := List.mem_iff_getElem?.1 hx
      rw [List.getElem?_take] at hk
      split at hk
      · exact hf k x hk (by omega)
      · cases hk
    · obtain ⟨k, hk⟩ := List.mem_iff_getElem?.1 hx
      rw [List.getElem?_drop] at hk
      exact hf _ x hk (by omega)
  · rcases h6 k hk with e | rfl | ⟨x, hx, rfl⟩
    · exact h.g k e
    · exact h.g _ h.t.gP
    · exact h.g _ (h.t.page x (hmem x hx)).2.2
  · rcases e with rfl | rfl
    · exact (h.g _ h.t.gP).resolve_right (by omega)
    · exact (h.g _ h.t.gq).resolve_right (by omega)
/-- the world behind the page's Delete and the count -/
def RmR (w : World) (G D : Nat → Prop) (q P c i o cap : Nat) (es' : List Ent) (p : Pg) (ps : List Pg) (wx : World) : Prop := ∃ W W5 g' A5 cap5, BhPg w W G G D q P c i o cap g' (.slice A5 es'.length cap5) es' p ps W5 ∧ wx = W5.setCell ⟨P, o + i, none⟩ (.slice A5 es'.length cap5)
set_option maxRecDepth 100000 in
set_option maxHeartbeats 8000000 in
theorem remove_any {w : World} {G D : Nat → Prop} {q P i j : Nat} {p : Pg} {ps : List Pg} {c : Nat} (h : Tbl w G D q P ps) (hc : (flat ps).length = c + 1) (hp : ps[i]? = some p) (hj : j < p.es.length) :
    Calls Try.prog 22 #[.pointer (some ⟨q, 0, none⟩), .int .i64 (i : Int), .int .i64 (j : Int)] w (JoT w G D q c ((flat ps).eraseIdx ((flat (ps.take i)).length + j)) 0) := by
  have ht := h.t
  rw [hc] at ht
  obtain ⟨o, cap, A, pc, hA⟩ := AtPg.of (G0 := G) (W0 := w) ht hp (Nat.le_of_lt hj) (fun j hj => .inl hj) (Only.refl _ _)
  obtain ⟨x0, x1⟩ := hA.cells
  have hpl := (h.pg p (List.mem_of_getElem? hp)).2
  have hlen := h.len
  have hlt := (List.getElem?_eq_some_iff.1 hp).1
  obtain ⟨hgq, op, hAe, hown⟩ : p.g ≠ q ∧ ∃ op, A = some ⟨p.g, op, none⟩ ∧ OwnC w p.g op pc 2 p.es.length (entV p.es) := by
    have h1 := (ht.page p (List.mem_of_getElem? hp)).1
    rw [hA.v] at h1
    rcases h1 with ⟨_, h0, _⟩ | ⟨h1, o5, cap', h2, h3⟩
    · omega
    · injection h2 with h2 h4 h5
      subst h2 h5
      exact ⟨h1, o5, rfl, h3⟩
  subst hAe
  obtain ⟨es', hes'⟩ : ∃ es', es' = p.es.take j ++ p.es.drop (j + 1) := ⟨_, rfl⟩
  have hesl : es'.length = p.es.length - 1 := by rw [hes', List.length_append, List.length_take, List.length_drop]; omega
  obtain ⟨LL, hLL⟩ : ∃ LL, LL = (flat ps).eraseIdx ((flat (ps.take i)).length + j) := ⟨_, rfl⟩
  have HFL : Hid (∀ g v, flat (ps.set i ⟨g, v, es'⟩) = LL) := Lib.hid fun g v => by rw [hLL]; exact flat_era hp hj hes'
  rw [← hLL]
  have HD : Hid (∀ W : World, W.heap = w.heap → Calls Try.prog 35 #[.slice (some ⟨p.g, op, none⟩) p.es.length pc, .int .i64 (j : Int), .int .i64 ((j : Int) + 1)] W (DelTE W p.g op pc es'.length (entV es'))) := Lib.hid fun W e => by
    have h1 := deleteE_any (hown.heap e) (entV_one _) j (j + 1) es'.length (by omega) (by omega) (by omega) (by omega)
    rw [entV_take, entV_drop, ← entV_app, ← hes'] at h1
    push_cast at h1
    exact h1
  have HB : Hid (∀ W W5, W.heap = w.heap → Below w.heap.size w W → OwnC W5 p.g op pc 2 es'.length (entV es') → Only (· = p.g) W W5 → BhPg w W G G D q P (c + 1) i o cap p.g (.slice (some ⟨p.g, op, none⟩) es'.length pc) es' p ps W5) := Lib.hid fun W W5 e hb ho hO =>
    ⟨⟨j, _, pc, hA.below hb⟩, .inr ⟨hgq, op, pc, rfl, ho⟩, hO.more (fun k _ e => ⟨e, by rw [e]; exact hgq⟩), .inl rfl, fun x hx => by
      rw [hes'] at hx
      have h2 := (hA.below hb).t.ents p (List.mem_of_getElem? hp)
      rcases List.mem_append.1 hx with hx | hx
      · exact h2 x (List.mem_of_mem_take hx)
      · exact h2 x (List.mem_of_mem_drop hx)⟩
  have HOT : Hid (∀ k x, k ≠ i → ps[k]? = some x → x.es ≠ [] ∧ x.es.length ≤ 128) := Lib.hid fun k x _ hk => h.pg x (List.mem_of_getElem? hk)
  have HEL : Hid (es'.length ≤ 128) := Lib.hid (by omega)
  have hii : (i : Int) < (ps.length : Int) := by omega
  have hni : (ps.length : Int) ≤ 1000 := by omega
  have hji : (j : Int) < (p.es.length : Int) := by omega
  have hpi : (p.es.length : Int) ≤ 128 := by omega
  have hci : (c : Int) ≤ 900 := by have := h.few; omega
  have hwj : IntKind.i64.wrap ((j : Int) + 1) = (j : Int) + 1 := by rw [IntKind.wrap_i64]; omega
  have HLT := Lib.hid hlt
  have HLN := Lib.hid hlen
  have HLL9 : Hid (LL.length ≤ 900) := Lib.hid (by rw [hLL]; have := List.length_eraseIdx_le (flat ps) ((flat (ps.take i)).length + j); have := h.few; omega)
  clear h hc hj ht hA hpl hlen hlt hown hes' hLL hesl
  go_enter Try.func22, Try.ntmps22
  go_upto_region 0 with (fail)
  go_cut [] (fun wx => RmR w G D q P (c + 1) i o cap es' p ps wx)
  case first =>
    go_region_law (go_simp; go_at_call 35; refine (HD.out _ (by rfl)).mono ?_; rintro e w5 ⟨rfl, ho, hO⟩
                   have hBB := HB.out _ _ (by rfl) (by first | exact drew_below w | exact drewN_below w _) ho hO
                   obtain ⟨u0, u1⟩ := hBB.cells _ rfl
                   have zf := hBB.frz
                   have HBB := Lib.hid hBB
                   clear ho hO hBB)
    all_goals
      go_wp2_with fail
      go_meet
      exact ⟨_, _, _, _, _, HBB.out, rfl⟩
  case rest =>
    obtain ⟨W, W5, g', A5, cap5, hB, hwc⟩ := hcut
    subst hwc
    obtain ⟨o3, cap3, A3, pc3, hA3⟩ := hB.done c
    have hbq : (W5.setCell ⟨P, o + i, none⟩ (.slice A5 es'.length cap5)).heap[q]? = some (.cells #[.slice (some ⟨P, o, none⟩) ps.length cap, .int .i64 ((c : Int) + 1)] 52 (0, 0)) := by
      obtain ⟨_, _, _, ha⟩ := hB.a
      exact ((Only.set W5 P (o + i) _).block q (Nat.lt_of_lt_of_le ha.t.lt hB.o_.size) (fun e => ha.pq e.symm)).trans ((hB.o_.block q ha.t.lt (fun e => e.2 rfl)).trans ha.box)
    obtain ⟨x0, x1⟩ := box2 hbq
    have zq := frozen_of hbq 1
    obtain ⟨W6, hW6⟩ : ∃ W6, W6 = W5.setCell ⟨P, o + i, none⟩ (.slice A5 es'.length cap5) := ⟨_, rfl⟩
    rw [← hW6] at hA3 x0 x1 zq ⊢
    obtain ⟨ps3, hps3⟩ : ∃ ps3, ps3 = ps.set i ⟨g', .slice A5 es'.length cap5, es'⟩ := ⟨_, rfl⟩
    have HF3 : Hid (flat ps3 = LL) := Lib.hid (by rw [hps3]; exact HFL.out _ _)
    have hl3 : ps3.length = ps.length := by rw [hps3, List.length_set]
    have HO3 : Hid (∀ k x, ps3[k]? = some x → k ≠ i → x.es ≠ [] ∧ x.es.length ≤ 128) := Lib.hid fun k x hk hne => by
      rw [hps3, List.getElem?_set, if_neg (fun e => hne e.symm)] at hk
      exact HOT.out k x hne hk
    rw [← hps3] at hA3
    have HA3 := Lib.hid hA3
    have HL3 := Lib.hid hl3
    clear hB hbq hW6 hA3 hps3 hl3 hwj
    go_upto_region 2 with (fail)
    obtain ⟨W7, hW7⟩ : ∃ W7, W7 = W6.setCell ⟨q, 1, none⟩ (.int .i64 (c : Int)) := ⟨_, rfl⟩
    rw [← hW7] at HA3 ⊢
    clear hW7 x0 x1 zq
    obtain ⟨y0, y1⟩ := HA3.out.cells
    have hl4 := HL3.out
    have hii3 : (i : Int) < (ps3.length : Int) := by omega
    have hni3 : (ps3.length : Int) ≤ 1000 := by omega
    have hwi : IntKind.i64.wrap ((i : Int) + 1) = (i : Int) + 1 := by rw [IntKind.wrap_i64]; omega
    clear hl4
    by_cases he : es' = []
    · have hl0 : ((es'.length : Int) == 0) = true := by rw [he]; rfl
      have HDP : Hid (Calls Try.prog 36 #[.slice (some ⟨P, o3, none⟩) ps3.length cap3, .int .i64 (i : Int), .int .i64 ((i : Int) + 1)] W7 (DelTP W7 P o3 cap3 (ps3.length - 1) (pagesV (ps3.take i ++ ps3.drop (i + 1))))) := Lib.hid (by
        have h1 := deleteP_any HA3.out.own HA3.out.t.one i (i + 1) (ps3.length - 1) (by omega) (by omega) (by omega) (by omega)
        have epv : (pagesV ps3).take i ++ (pagesV ps3).drop (i + 1) = pagesV (ps3.take i ++ ps3.drop (i + 1)) := by simp [pagesV]
        rw [epv] at h1
        push_cast at h1
        exact h1)
      have HFX : Hid (∀ w11, OwnC w11 P o3 cap3 1 (ps3.length - 1) (pagesV (ps3.take i ++ ps3.drop (i + 1))) → Only (· = P) W7 w11 → JoT w G D q c LL 0 (.returned (.tuple #[])) (w11.setCell ⟨q, 0, none⟩ (.slice (some ⟨P, o3, none⟩) (ps3.length - 1) cap3)) ∧ w11.cell? ⟨q, 0, none⟩ = some (.slice (some ⟨P, o3, none⟩) ps3.length cap3) ∧ w11.frozen? ⟨q, 0, none⟩ = false) := Lib.hid fun w11 ho hO => by
        have h1 := HA3.out.out he HO3.out ho hO
        rw [HF3.out] at h1
        have h9 := (hO.block q HA3.out.t.lt (fun e => HA3.out.pq e.symm)).trans HA3.out.box
        exact ⟨h1, (box2 h9).1, frozen_of h9 0⟩
      clear he
      go_wp2_with (go_at_call 36; refine HDP.out.mono ?_; rintro e w11 ⟨rfl, ho, hO⟩
                   obtain ⟨hz, z0, z1⟩ := HFX.out _ ho hO
                   have HZ := Lib.hid hz
                   clear ho hO hz)
      refine bodyPost_ret (results_none rfl _ _ _) rfl ?_
      exact HZ.out
    · have hl0 : ((es'.length : Int) == 0) = false := by have := List.length_pos_iff.2 he; simp; omega
      have hf3 : ∀ x ∈ ps3, x.es ≠ [] ∧ x.es.length ≤ 128 := fun x hx => by
        obtain ⟨k, hk⟩ := List.mem_iff_getElem?.1 hx
        by_cases hki : k = i
        · subst hki
          have := HA3.out.hp
          rw [hk] at this
          injection this with this
          subst this
          exact ⟨he, HEL.out⟩
        · exact HO3.out k x hk hki
      have HJ1 : Hid (Calls Try.prog 37 #[.pointer (some ⟨q, 0, none⟩), .int .i64 (i : Int)] W7 (JoT W7 (fun j => G j ∨ j = g') D q c LL (i + 1))) := Lib.hid (by
        have h1 := join_any HA3.out.t hf3 (i := i) (by omega) (by omega)
        rw [HF3.out] at h1
        exact h1)
      have HK : Hid (∀ w8, JoT W7 (fun j => G j ∨ j = g') D q c LL (i + 1) (.returned (.tuple #[])) w8 → JoT w G D q c LL (i + 1) (.returned (.tuple #[])) w8) := Lib.hid fun w8 h => h.then HA3.out.g HA3.out.o_
      have HJ2 : Hid (∀ w8 m, m + 1 = i → JoT w G D q c LL (i + 1) (.returned (.tuple #[])) w8 → Calls Try.prog 37 #[.pointer (some ⟨q, 0, none⟩), .int .i64 (m : Int)] w8 (JoT w G D q c LL 0)) := Lib.hid fun w8 m hm h => by
        obtain ⟨_, G8, P8, ps8, h1, h2, h3, h4, h5, h6⟩ := h
        have h7 := flat_le ps8 (fun p hp => (h3 p hp).1)
        have h8 := HLL9.out
        have h9 := join_any h1 h3 (i := m) (by omega) (by rw [h2] at h7; omega)
        rw [h2] at h9
        exact h9.mono fun e w9 h10 => (h10.then h5 h6).less (Nat.zero_le _)
      have HJ3 : Hid (∀ w8, JoT w G D q c LL (i + 1) (.returned (.tuple #[])) w8 → Calls Try.prog 37 #[.pointer (some ⟨q, 0, none⟩), .int .i64 (-1)] w8 (JoT w G D q c LL 0)) := Lib.hid fun w8 h => by
        obtain ⟨_, G8, P8, ps8, h1, h2, h3, h4, h5, h6⟩ := h
        have h9 := joinNeg_any h1 h3
        rw [h2] at h9
        exact h9.mono fun e w9 h10 => h10.then h5 h6
      clear he hf3
      rcases i with _ | i
      · simp only [Int.natCast_zero] at HJ1 hii3 hwi hii
        simp only [Nat.add_zero] at y1
        go_wp2_with (first
          | (go_at_call 37; (with_reducible refine HJ1.out.mono ?_); rintro e w8 hj
             have he := hj.1
             subst he
             have H8 := Lib.hid (HK.out _ hj)
             clear hj)
          | (go_at_call 37; (with_reducible refine (HJ3.out _ H8.out).mono ?_); rintro e w9 hj
             have he := hj.1
             subst he
             have H9 := Lib.hid hj
             clear hj))
        go_end0
        exact H9.out
      · push_cast at HJ1 y1 hii3 hwi hii
        go_wp2_with (first
          | (go_at_call 37; (with_reducible refine HJ1.out.mono ?_); rintro e w8 hj
             have he := hj.1
             subst he
             have H8 := Lib.hid (HK.out _ hj)
             clear hj)
          | (go_at_call 37; (with_reducible refine (HJ2.out _ i rfl H8.out).mono ?_); rintro e w9 hj
             have he := hj.1
             subst he
             have H9 := Lib.hid hj
             clear hj))
        go_end0
        exact H9.out
end Go.Proofs.Ytfmhijaljlmgaaa

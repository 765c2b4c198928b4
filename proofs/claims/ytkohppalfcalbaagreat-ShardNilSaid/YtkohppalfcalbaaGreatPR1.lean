/- Package table: remove, Drop. -/
import Derived.Test.YtkohppalfcalbaaGreatPQ
import Derived.Test.YtkohppalfcalbaaGreatGSX1
import Derived.Test.YtkohppalfcalbaaGreatJZ
import Derived.Test.YtkohppalfcalbaaGreatPV
import Derived.Test.YtkohppalfcalbaaGreatPM1
namespace Go.Proofs.YtkohppalfcalbaaGreat
section
open Go.RowKit

theorem join_any {w : World} {G D : Nat → Prop} {q P c i : Nat} {ps : List Pg} (h : Tb0 w G D q P c ps) (hf : ∀ p ∈ ps, p.es ≠ [] ∧ p.es.length ≤ 128) (hi : i < ps.length) (hn : ps.length ≤ 1000) : Calls Tryz.prog 167 #[.pointer (some ⟨q, 0, none⟩), .int .i64 (i : Int)] w (JoT w G D q c (flat ps) (i + 1)) := by
  obtain ⟨p1, h1⟩ : ∃ p, ps[i]? = some p := ⟨_, List.getElem?_eq_getElem hi⟩
  rcases Nat.lt_or_ge (i + 1) ps.length with h2 | h2
  · obtain ⟨p2, h2⟩ : ∃ p, ps[i + 1]? = some p := ⟨_, List.getElem?_eq_getElem h2⟩
    rcases Nat.lt_or_ge 64 (p1.es.length + p2.es.length) with h3 | h3
    · exact joinNo_any h hf h1 h2 hn h3
    · exact joinYes_any h hf h1 h2 hn h3
  · have e : i + 1 = ps.length := by omega
    rw [e]
    exact joinEnd_any h hf e hn
theorem JoT.then {w w1 w2 : World} {G G1 D : Nat → Prop} {q c k : Nat} {L : List Ent} {e : Ending} (hg : ∀ j, G1 j → G j ∨ w.heap.size ≤ j) (hO : Only G w w1) (h : JoT w1 G1 D q c L k e w2) : JoT w G D q c L k e w2 := by
  obtain ⟨he, G', P', ps', h1, h2, h3, h4, h5, h6⟩ := h
  have hs := hO.size
  refine ⟨he, G', P', ps', h1, h2, h3, h4, fun j hj => ?_, hO.trans h6 (fun j hj e => (hg j e).resolve_right (by omega))⟩
  rcases h5 j hj with e | e
  · exact hg j e
  · exact .inr (by omega)
theorem JoT.less {w w2 : World} {G D : Nat → Prop} {q c k m : Nat} {L : List Ent} {e : Ending} (h : JoT w G D q c L k e w2) (hm : m ≤ k) : JoT w G D q c L m e w2 := by
  obtain ⟨he, G', P', ps', h1, h2, h3, h4, h5, h6⟩ := h
  exact ⟨he, G', P', ps', h1, h2, h3, by omega, h5, h6⟩
theorem flat_era {ps : List Pg} {i j : Nat} {p p' : Pg} (hp : ps[i]? = some p) (hj : j < p.es.length) (h : p'.es = p.es.take j ++ p.es.drop (j + 1)) : flat (ps.set i p') = (flat ps).eraseIdx ((flat (ps.take i)).length + j) := by
  rw [flat_set (List.getElem?_eq_some_iff.1 hp).1, flat_at hp, List.eraseIdx_append_of_length_le (by omega), Nat.add_sub_cancel_left, List.eraseIdx_append_of_lt_length hj, List.eraseIdx_eq_take_drop_succ, h]
/-- a page out of the row -/
theorem AtPg.out {w W w11 : World} {G3 G D : Nat → Prop} {q P c i j o cap pc : Nat} {A : Option Addr} {p : Pg} {ps : List Pg} (h : AtPg w W G3 G D q P c i j o cap A pc p ps) (he : p.es = []) (hf : ∀ k x, ps[k]? = some x → k ≠ i → x.es ≠ [] ∧ x.es.length ≤ 128)
    (ho : OwnC w11 P o cap 1 (ps.length - 1) (pagesV (ps.take i ++ ps.drop (i + 1)))) (hO : Only (· = P) W w11) : JoT w G D q c (flat ps) 0 (.returned (.tuple #[])) (w11.setCell ⟨q, 0, none⟩ (.slice (some ⟨P, o, none⟩) (ps.length - 1) cap)) := by
  have hlt := (List.getElem?_eq_some_iff.1 h.hp).1
  have hlen : (ps.take i ++ ps.drop (i + 1)).length = ps.length - 1 := by rw [List.length_append, List.length_take, List.length_drop]; omega
  have hmem : ∀ x ∈ ps.take i ++ ps.drop (i + 1), x ∈ ps := fun x hx => by
    rcases List.mem_append.1 hx with hx | hx
    · exact List.mem_of_mem_take hx
    · exact List.mem_of_mem_drop hx
  obtain ⟨G4, h5, h6, h7⟩ := h.t.setRow h.box (hO.more (fun k _ e => ⟨e, by rw [e]; exact h.pq⟩)) (P' := P) (v' := .slice (some ⟨P, o, none⟩) (ps.length - 1) cap) (.inr ⟨h.pq, o, cap, rfl, ho⟩) hlen.symm (.inl rfl) (fun x hx => .inl (hmem x hx)) (by
    have h8 := h.t.apart
    have e1 : ps.map Pg.g = (ps.take i).map Pg.g ++ (ps.drop i).map Pg.g := by rw [← List.map_append, List.take_append_drop]
    rw [e1] at h8
    rw [List.map_append]
    rw [List.nodup_append] at h8 ⊢
    have e2 : ps.drop (i + 1) = (ps.drop i).drop 1 := by rw [List.drop_drop]
    refine ⟨h8.1, ?_, fun a ha b hb2 => h8.2.2 a ha b ?_⟩
    · rw [e2, List.map_drop]
      exact h8.2.1.sublist (List.drop_sublist 1 _)
    · rw [e2, List.map_drop] at hb2
      exact List.mem_of_mem_drop hb2)
  have hfl : flat ps = flat (ps.take i ++ ps.drop (i + 1)) := by rw [flat_at h.hp, he, flat_app]; rfl
  refine ⟨rfl, G4, P, _, h5, hfl.symm, fun x hx => ?_, Nat.zero_le _, fun k hk => ?_, h.o_.trans h7 (fun k hk e => ?_)⟩
  · rcases List.mem_append.1 hx with hx | hx
    · obtain ⟨k, hk⟩ := List.mem_iff_getElem?.1 hx
      rw [List.getElem?_take] at hk
      split at hk
      · exact hf k x hk (by omega)
      · cases hk
    · obtain ⟨k, hk⟩ := List.mem_iff_getElem?.1 hx
      rw [List.getElem?_drop] at hk
      exact hf _ x hk (by omega)
  · rcases h6 k hk with e | rfl | ⟨x, hx, rfl⟩
    · exact h.g k e
    · exact h.g _ h.t.gP
    · exact h.g _ (h.t.page x (hmem x hx)).2.2
  · rcases e with rfl | rfl
    · exact (h.g _ h.t.gP).resolve_right (by omega)
    · exact (h.g _ h.t.gq).resolve_right (by omega)
/-- the world behind the page's Delete and the count -/
def RmR (w : World) (G D : Nat → Prop) (q P c i o cap : Nat) (es' : List Ent) (p : Pg) (ps : List Pg) (wx : World) : Prop := ∃ W W5 g' A5 cap5, BhPg w W G G D q P c i o cap g' (.slice A5 es'.length cap5) es' p ps W5 ∧ wx = W5.setCell ⟨P, o + i, none⟩ (.slice A5 es'.length cap5)
set_option maxRecDepth 100000 in
set_option maxHeartbeats 8000000 in
theorem remove_any {w : World} {G D : Nat → Prop} {q P i j : Nat} {p : Pg} {ps : List Pg} {c : Nat} (h : Tbl w G D q P ps) (hc : (flat ps).length = c + 1) (hp : ps[i]? = some p) (hj : j < p.es.length) :
    Calls Tryz.prog 127 #[.pointer (some ⟨q, 0, none⟩), .int .i64 (i : Int), .int .i64 (j : Int)] w (JoT w G D q c ((flat ps).eraseIdx ((flat (ps.take i)).length + j)) 0) := by
  have ht := h.t
  rw [hc] at ht
  obtain ⟨o, cap, A, pc, hA⟩ := AtPg.of (G0 := G) (W0 := w) ht hp (Nat.le_of_lt hj) (fun j hj => .inl hj) (Only.refl _ _)
  obtain ⟨x0, x1⟩ := hA.cells
  have hpl := (h.pg p (List.mem_of_getElem? hp)).2
  have hlen := h.len
  have hlt := (List.getElem?_eq_some_iff.1 hp).1
  obtain ⟨hgq, op, hAe, hown⟩ : p.g ≠ q ∧ ∃ op, A = some ⟨p.g, op, none⟩ ∧ OwnC w p.g op pc 2 p.es.length (entV p.es) := by
    have h1 := (ht.page p (List.mem_of_getElem? hp)).1
    rw [hA.v] at h1
    rcases h1 with ⟨_, h0, _⟩ | ⟨h1, o5, cap', h2, h3⟩
    · omega
    · injection h2 with h2 h4 h5
      subst h2 h5
      exact ⟨h1, o5, rfl, h3⟩
  subst hAe
  obtain ⟨es', hes'⟩ : ∃ es', es' = p.es.take j ++ p.es.drop (j + 1) := ⟨_, rfl⟩
  have hesl : es'.length = p.es.length - 1 := by rw [hes', List.length_append, List.length_take, List.length_drop]; omega
  obtain ⟨LL, hLL⟩ : ∃ LL, LL = (flat ps).eraseIdx ((flat (ps.take i)).length + j) := ⟨_, rfl⟩
  have HFL : Hid (∀ g v, flat (ps.set i ⟨g, v, es'⟩) = LL) := Lib.hid fun g v => by rw [hLL]; exact flat_era hp hj hes'
  rw [← hLL]
  have HD : Hid (∀ W : World, W.heap = w.heap → Calls Tryz.prog 126 #[.slice (some ⟨p.g, op, none⟩) p.es.length pc, .int .i64 (j : Int), .int .i64 ((j : Int) + 1)] W (DelTE W p.g op pc es'.length (entV es'))) := Lib.hid fun W e => by
    have h1 := deleteE_any (hown.heap e) (entV_one _) j (j + 1) es'.length (by omega) (by omega) (by omega) (by omega)
    rw [entV_take, entV_drop, ← entV_app, ← hes'] at h1
    push_cast at h1
    exact h1
  have HB : Hid (∀ W W5, W.heap = w.heap → Below w.heap.size w W → OwnC W5 p.g op pc 2 es'.length (entV es') → Only (· = p.g) W W5 → BhPg w W G G D q P (c + 1) i o cap p.g (.slice (some ⟨p.g, op, none⟩) es'.length pc) es' p ps W5) := Lib.hid fun W W5 e hb ho hO =>
    ⟨⟨j, _, pc, hA.below hb⟩, .inr ⟨hgq, op, pc, rfl, ho⟩, hO.more (fun k _ e => ⟨e, by rw [e]; exact hgq⟩), .inl rfl, fun x hx => by
      rw [hes'] at hx
      have h2 := (hA.below hb).t.ents p (List.mem_of_getElem? hp)
      rcases List.mem_append.1 hx with hx | hx
      · exact h2 x (List.mem_of_mem_take hx)
      · exact h2 x (List.mem_of_mem_drop hx)⟩
  have HOT : Hid (∀ k x, k ≠ i → ps[k]? = some x → x.es ≠ [] ∧ x.es.length ≤ 128) := Lib.hid fun k x _ hk => h.pg x (List.mem_of_getElem? hk)
  have HEL : Hid (es'.length ≤ 128) := Lib.hid (by omega)
  have hii : (i : Int) < (ps.length : Int) := by omega
  have hni : (ps.length : Int) ≤ 1000 := by omega
  have hji : (j : Int) < (p.es.length : Int) := by omega
  have hpi : (p.es.length : Int) ≤ 128 := by omega
  have hci : (c : Int) ≤ 900 := by have := h.few; omega
  have hwj : IntKind.i64.wrap ((j : Int) + 1) = (j : Int) + 1 := by rw [IntKind.wrap_i64]; omega
  have HLT := Lib.hid hlt
  have HLN := Lib.hid hlen
  have HLL9 : Hid (LL.length ≤ 900) := Lib.hid (by rw [hLL]; have := List.length_eraseIdx_le (flat ps) ((flat (ps.take i)).length + j); have := h.few; omega)
  clear h hc hj ht hA hpl hlen hlt hown hes' hLL hesl
  go_enter Tryz.func127, Tryz.ntmps127
  go_upto_region 0 with (fail)
  go_cut [] (fun wx => RmR w G D q P (c + 1) i o cap es' p ps wx)
  case first =>
    go_region_law (go_simp; go_at_call 126; refine (HD.out _ (by rfl)).mono ?_; rintro e w5 ⟨rfl, ho, hO⟩
                   have hBB := HB.out _ _ (by rfl) (by first | exact drew_below w | exact drewN_below w _) ho hO
                   obtain ⟨u0, u1⟩ := hBB.cells _ rfl
                   have zf := hBB.frz
                   have HBB := Lib.hid hBB
                   clear ho hO hBB)
    all_goals
      go_wp2_with fail
      go_meet
      exact ⟨_, _, _, _, _, HBB.out, rfl⟩
  case rest =>
    obtain ⟨W, W5, g', A5, cap5, hB, hwc⟩ := hcut
    subst hwc
    obtain ⟨o3, cap3, A3, pc3, hA3⟩ := hB.done c
    have hbq : (W5.setCell ⟨P, o + i, none⟩ (.slice A5 es'.length cap5)).heap[q]? = some (.cells #[.slice (some ⟨P, o, none⟩) ps.length cap, .int .i64 ((c : Int) + 1)] 147 (0, 0)) := by
      obtain ⟨_, _, _, ha⟩ := hB.a
      exact ((Only.set W5 P (o + i) _).block q (Nat.lt_of_lt_of_le ha.t.lt hB.o_.size) (fun e => ha.pq e.symm)).trans ((hB.o_.block q ha.t.lt (fun e => e.2 rfl)).trans ha.box)
    obtain ⟨x0, x1⟩ := box2 hbq
    have zq := frozen_of hbq 1
    obtain ⟨W6, hW6⟩ : ∃ W6, W6 = W5.setCell ⟨P, o + i, none⟩ (.slice A5 es'.length cap5) := ⟨_, rfl⟩
    rw [← hW6] at hA3 x0 x1 zq ⊢
    obtain ⟨ps3, hps3⟩ : ∃ ps3, ps3 = ps.set i ⟨g', .slice A5 es'.length cap5, es'⟩ := ⟨_, rfl⟩
    have HF3 : Hid (flat ps3 = LL) := Lib.hid (by rw [hps3]; exact HFL.out _ _)
    have hl3 : ps3.length = ps.length := by rw [hps3, List.length_set]
    have HO3 : Hid (∀ k x, ps3[k]? = some x → k ≠ i → x.es ≠ [] ∧ x.es.length ≤ 128) := Lib.hid fun k x hk hne => by
      rw [hps3, List.getElem?_set, if_neg (fun e => hne e.symm)] at hk
      exact HOT.out k x hne hk
    rw [← hps3] at hA3
    have HA3 := Lib.hid hA3
    have HL3 := Lib.hid hl3
    clear hB hbq hW6 hA3 hps3 hl3 hwj
    go_upto_region 2 with (fail)
    obtain ⟨W7, hW7⟩ : ∃ W7, W7 = W6.setCell ⟨q, 1, none⟩ (.int .i64 (c : Int)) := ⟨_, rfl⟩
    rw [← hW7] at HA3 ⊢
    clear hW7 x0 x1 zq
    obtain ⟨y0, y1⟩ := HA3.out.cells
    have hl4 := HL3.out
    have hii3 : (i : Int) < (ps3.length : Int) := by omega
    have hni3 : (ps3.length : Int) ≤ 1000 := by omega
    have hwi : IntKind.i64.wrap ((i : Int) + 1) = (i : Int) + 1 := by rw [IntKind.wrap_i64]; omega
    clear hl4
    by_cases he : es' = []
    · have hl0 : ((es'.length : Int) == 0) = true := by rw [he]; rfl
      have HDP : Hid (Calls Tryz.prog 166 #[.slice (some ⟨P, o3, none⟩) ps3.length cap3, .int .i64 (i : Int), .int .i64 ((i : Int) + 1)] W7 (DelTP W7 P o3 cap3 (ps3.length - 1) (pagesV (ps3.take i ++ ps3.drop (i + 1))))) := Lib.hid (by
        have h1 := deleteP_any HA3.out.own HA3.out.t.one i (i + 1) (ps3.length - 1) (by omega) (by omega) (by omega) (by omega)
        have epv : (pagesV ps3).take i ++ (pagesV ps3).drop (i + 1) = pagesV (ps3.take i ++ ps3.drop (i + 1)) := by simp [pagesV]
        rw [epv] at h1
        push_cast at h1
        exact h1)
      have HFX : Hid (∀ w11, OwnC w11 P o3 cap3 1 (ps3.length - 1) (pagesV (ps3.take i ++ ps3.drop (i + 1))) → Only (· = P) W7 w11 → JoT w G D q c LL 0 (.returned (.tuple #[])) (w11.setCell ⟨q, 0, none⟩ (.slice (some ⟨P, o3, none⟩) (ps3.length - 1) cap3)) ∧ w11.cell? ⟨q, 0, none⟩ = some (.slice (some ⟨P, o3, none⟩) ps3.length cap3) ∧ w11.frozen? ⟨q, 0, none⟩ = false) := Lib.hid fun w11 ho hO => by
        have h1 := HA3.out.out he HO3.out ho hO
        rw [HF3.out] at h1
        have h9 := (hO.block q HA3.out.t.lt (fun e => HA3.out.pq e.symm)).trans HA3.out.box
        exact ⟨h1, (box2 h9).1, frozen_of h9 0⟩
      clear he
      go_wp2_with (go_at_call 166; refine HDP.out.mono ?_; rintro e w11 ⟨rfl, ho, hO⟩
                   obtain ⟨hz, z0, z1⟩ := HFX.out _ ho hO
                   have HZ := Lib.hid hz
                   clear ho hO hz)
      refine bodyPost_ret (results_none rfl _ _ _) rfl ?_
      exact HZ.out
    · have hl0 : ((es'.length : Int) == 0) = false := by have := List.length_pos_iff.2 he; simp; omega
      have hf3 : ∀ x ∈ ps3, x.es ≠ [] ∧ x.es.length ≤ 128 := fun x hx => by
        obtain ⟨k, hk⟩ := List.mem_iff_getElem?.1 hx
        by_cases hki : k = i
        · subst hki
          have := HA3.out.hp
          rw [hk] at this
          injection this with this
          subst this
          exact ⟨he, HEL.out⟩
        · exact HO3.out k x hk hki
      have HJ1 : Hid (Calls Tryz.prog 167 #[.pointer (some ⟨q, 0, none⟩), .int .i64 (i : Int)] W7 (JoT W7 (fun j => G j ∨ j = g') D q c LL (i + 1))) := Lib.hid (by
        have h1 := join_any HA3.out.t hf3 (i := i) (by omega) (by omega)
        rw [HF3.out] at h1
        exact h1)
      have HK : Hid (∀ w8, JoT W7 (fun j => G j ∨ j = g') D q c LL (i + 1) (.returned (.tuple #[])) w8 → JoT w G D q c LL (i + 1) (.returned (.tuple #[])) w8) := Lib.hid fun w8 h => h.then HA3.out.g HA3.out.o_
      have HJ2 : Hid (∀ w8 m, m + 1 = i → JoT w G D q c LL (i + 1) (.returned (.tuple #[])) w8 → Calls Tryz.prog 167 #[.pointer (some ⟨q, 0, none⟩), .int .i64 (m : Int)] w8 (JoT w G D q c LL 0)) := Lib.hid fun w8 m hm h => by
        obtain ⟨_, G8, P8, ps8, h1, h2, h3, h4, h5, h6⟩ := h
        have h7 := flat_le ps8 (fun p hp => (h3 p hp).1)
        have h8 := HLL9.out
        have h9 := join_any h1 h3 (i := m) (by omega) (by rw [h2] at h7; omega)
        rw [h2] at h9
        exact h9.mono fun e w9 h10 => (h10.then h5 h6).less (Nat.zero_le _)
      have HJ3 : Hid (∀ w8, JoT w G D q c LL (i + 1) (.returned (.tuple #[])) w8 → Calls Tryz.prog 167 #[.pointer (some ⟨q, 0, none⟩), .int .i64 (-1)] w8 (JoT w G D q c LL 0)) := Lib.hid fun w8 h => by
        obtain ⟨_, G8, P8, ps8, h1, h2, h3, h4, h5, h6⟩ := h
        have h9 := joinNeg_any h1 h3
        rw [h2] at h9
        exact h9.mono fun e w9 h10 => h10.then h5 h6
      clear he hf3
      rcases i with _ | i
      · simp only [Int.natCast_zero] at HJ1 hii3 hwi hii
        simp only [Nat.add_zero] at y1
        go_wp2_with (first
          | (go_at_call 167; (with_reducible refine HJ1.out.mono ?_); rintro e w8 hj
             have he := hj.1
             subst he
             have H8 := Lib.hid (HK.out _ hj)
             clear hj)
          | (go_at_call 167; (with_reducible refine (HJ3.out _ H8.out).mono ?_); rintro e w9 hj
             have he := hj.1
             subst he
             have H9 := Lib.hid hj
             clear hj))
        go_end0
        exact H9.out
      · push_cast at HJ1 y1 hii3 hwi hii
        go_wp2_with (first
          | (go_at_call 167; (with_reducible refine HJ1.out.mono ?_); rintro e w8 hj
             have he := hj.1
             subst he
             have H8 := Lib.hid (HK.out _ hj)
             clear hj)
          | (go_at_call 167; (with_reducible refine (HJ2.out _ i rfl H8.out).mono ?_); rintro e w9 hj
             have he := hj.1
             subst he
             have H9 := Lib.hid hj
             clear hj))
        go_end0
        exact H9.out
end

section
open Go.RowKit

def dropK : List (List UInt8 × List UInt8) → List UInt8 → List (List UInt8 × List UInt8)
  | [], _ => []
  | x :: l, k => if cmpB x.1 k = 0 then l else x :: dropK l k
theorem dropK_none : ∀ {l : List (List UInt8 × List UInt8)} {k : List UInt8}, getK l k = none → dropK l k = l
  | [], _, _ => rfl
  | x :: l, k, h => by
    unfold getK at h
    unfold dropK
    split at h
    · cases h
    · rename_i hx
      rw [if_neg hx, dropK_none h]
theorem kv_era {L : List Ent} {k : List UInt8} : ∀ {m : Nat} {e : Ent}, SplitB L k m → L[m]? = some e → cmpB e.k k = 0 → kv (L.eraseIdx m) = dropK (kv L) k := by
  induction L with
  | nil => intro m e _ h; simp at h
  | cons x L ih =>
    intro m e h he h0
    cases m with
    | zero =>
      simp at he
      subst he
      simp only [kv, List.eraseIdx_cons_zero, List.map_cons, dropK]
      rw [if_pos h0]
    | succ m =>
      have h1 := h.lo 0 x rfl (by omega)
      have h2 : SplitB L k m := ⟨by have := h.le; simp at this; omega, fun j e hj hlt => h.lo (j + 1) e (by simpa using hj) (by omega), fun j e hj hle => h.hi (j + 1) e (by simpa using hj) (by omega)⟩
      have h3 := ih h2 (by simpa using he) h0
      simp only [kv, List.eraseIdx_cons_succ, List.map_cons, dropK]
      rw [if_neg (by omega)]
      simp only [kv] at h3
      rw [h3]
/-- what Drop answers -/
def DropT (w : World) (G D : Nat → Prop) (q : Nat) (l : List (List UInt8 × List UInt8)) (key : List UInt8) (en : Ending) (w' : World) : Prop := ∃ (G' : Nat → Prop) (P' : Nat) (ps' : List Pg) (A : Option Addr) (n c : Nat), en = .returned (.tuple #[.slice A n c, .bool (getK l key).isSome]) ∧ Tbl w' G' D q P' ps' ∧ kv (flat ps') = dropK l key ∧ (∀ j, G' j → G j ∨ w.heap.size ≤ j) ∧ Only G w w' ∧ RdB w' w'.heap.size A ((getK l key).getD []) ∧ ((getK l key).getD []).length = n
theorem DropT.old {w w1 w' : World} {G D : Nat → Prop} {q P m c : Nat} {ps : List Pg} {key : List UInt8} {e : Ent} {en : Ending} (h : Tbl w G D q P ps) (hs : SplitB (flat ps) key m) (he : (flat ps)[m]? = some e) (h0 : cmpB e.k key = 0) (hg : getK (kv (flat ps)) key = some e.r) (heo : EntOk w D e) (hb : Below w.heap.size w w1) (hc : (flat ps).length = c + 1)
    (hj : JoT w1 G D q c ((flat ps).eraseIdx m) 0 en w') : DropT w G D q (kv (flat ps)) key (.returned (.tuple #[.slice e.rA e.r.length e.rc, .bool true])) w' := by
  obtain ⟨_, G', P', ps', h1, h2, h3, _, h5, h6⟩ := hj
  have hm := (List.getElem?_eq_some_iff.1 he).1
  have hlen : (flat ps').length = c := by rw [h2, List.length_eraseIdx_of_lt hm]; omega
  have hO := (Only.of_below (K := G) hb).trans h6 (fun _ _ e => e)
  refine ⟨G', P', ps', e.rA, _, e.rc, by rw [hg]; rfl, ⟨by rw [hlen]; exact h1, h3, ?_, by rw [hlen]; have := h.few; omega⟩, by rw [h2]; exact kv_era hs he h0, fun j hj => ?_, hO, ?_, by rw [hg]; rfl⟩
  · rw [h2]
    exact List.Pairwise.sublist (List.eraseIdx_sublist _ _) h.rise
  · rcases h5 j hj with e1 | e1
    · exact .inl e1
    · have := hb.size; exact .inr (by omega)
  · rw [hg]
    exact heo.row.only' hO (fun hn ad ha hgk => h.t.dis _ hgk (heo.rd hn ad ha))
set_option maxRecDepth 100000 in
set_option maxHeartbeats 4000000 in
theorem drop_any {w : World} {G D : Nat → Prop} {q P : Nat} {ps : List Pg} (h : Tbl w G D q P ps) (key : List UInt8) (K : Option Addr) (kn kc : Nat) (hkn : key.length = kn) (hk : RdB w w.heap.size K key) :
    Calls Tryz.prog 91 #[.pointer (some ⟨q, 0, none⟩), .slice K kn kc] w (DropT w G D q (kv (flat ps)) key) := by
  obtain ⟨i, j, f, hF, hS, hf, hfind⟩ := h.find key
  have HFI := Lib.hid (hfind K kn kc hkn w (Below.refl _ _) hk)
  have hnil : ∀ (w : World) (a : Option Addr), (binOp .eql 88 (.pointer a) (.pointer none)).run Tryz.prog w = .ok (.bool a.isNone) w := fun w a => by cases a <;> rfl
  cases f with
  | false =>
    have HY : Hid (∀ w', Below w.heap.size w w' → DropT w G D q (kv (flat ps)) key (.returned (.tuple #[.slice none 0 0, .bool false])) w') := Lib.hid fun w' hb => by
      have hg : getK (kv (flat ps)) key = none := by rw [getK_at h.rise hS, ← hf]; rfl
      exact ⟨G, P, ps, none, 0, 0, by rw [hg]; rfl, h.below hb, (dropK_none hg).symm, fun j hj => .inl hj, Only.of_below hb, by rw [hg]; exact RdB.nil _ _ _, by rw [hg]; rfl⟩
    clear h hk hF hS hf hfind hkn
    go_enter Tryz.func91, Tryz.ntmps91
    go_wp2_with (go_at_call 89; refine HFI.out.mono ?_; rintro e w1 ⟨rfl, hb⟩; have HB1 := Lib.hid hb; clear hb)
    go_ret2
    exact HY.out _ HB1.out
  | true =>
    obtain ⟨p, e, o, pc, ro, rcap, hp, he, hpv, hi, hj, hpl, hg, heo, hfe, h0, hc⟩ := h.there hF hS hf
    have HC := Lib.hid hc
    obtain ⟨c, hcl⟩ : ∃ c, (flat ps).length = c + 1 := ⟨(flat ps).length - 1, by have := (List.getElem?_eq_some_iff.1 hfe).1; omega⟩
    have HR : Hid (∀ W, Below w.heap.size w W → Calls Tryz.prog 127 #[.pointer (some ⟨q, 0, none⟩), .int .i64 (i : Int), .int .i64 (j : Int)] W (JoT W G D q c ((flat ps).eraseIdx ((flat (ps.take i)).length + j)) 0)) := Lib.hid fun W hb => remove_any (h.below hb) hcl hp hj
    have HY : Hid (∀ w1 w' en, Below w.heap.size w w1 → JoT w1 G D q c ((flat ps).eraseIdx ((flat (ps.take i)).length + j)) 0 en w' → DropT w G D q (kv (flat ps)) key (.returned (.tuple #[.slice e.rA e.r.length e.rc, .bool true])) w') := Lib.hid fun w1 w' en hb hj => DropT.old h hS hfe h0 hg heo hb hcl hj
    have hlen := h.len
    have hii : (i : Int) < (ps.length : Int) := by omega
    have hji : (j : Int) < (p.es.length : Int) := by omega
    have hni : (ps.length : Int) ≤ 1000 := by omega
    have hpi : (p.es.length : Int) ≤ 128 := by omega
    clear h hk hF hS hf hfind hkn hp he hpv hi hj hpl hg heo hc hlen hfe h0 hcl
    go_enter Tryz.func91, Tryz.ntmps91
    go_wp2_with (first
      | (go_at_call 89; refine HFI.out.mono ?_; rintro e1 w1 ⟨rfl, hb⟩; have HB1 := Lib.hid hb
         obtain ⟨x0, x1, x2, x3⟩ := HC.out _ hb
         clear hb)
      | (go_at_call 127; refine (HR.out _ (by exact HB1.out)).mono ?_; rintro e2 w2 hj
         have HZ := Lib.hid (HY.out _ _ _ HB1.out hj)
         have he2 := hj.1
         subst he2
         clear hj))
    go_ret2
    exact HZ.out
end

section
open Go.RowKit

/-- the log q on the disk p, with records rs: its blocks are L's -/
def LgL (w : World) (ℓ : Nat → Nat) (L q p b s : Nat) (rs : List (List UInt8)) : Prop := ∃ g d pre, Wl w 0 q p g d b s pre rs ∧ ℓ q = L ∧ ℓ p = L ∧ ℓ g = L ∧ ℓ d = L
theorem LgL.only {K : Nat → Prop} {w w' : World} {ℓ : Nat → Nat} {L q p b s : Nat} {rs : List (List UInt8)} (h : LgL w ℓ L q p b s rs) (hO : Only K w w') (hK : ∀ k, ℓ k = L → ¬ K k) : LgL w' ℓ L q p b s rs := by
  obtain ⟨g, d, pre, h1, hq, hp, hg, hd⟩ := h
  exact ⟨g, d, pre, h1.only hO (hK q hq) (hK p hp) (hK g hg) (hK d hd), hq, hp, hg, hd⟩
theorem LgL.relabel {w : World} {ℓ ℓ' : Nat → Nat} {L q p b s : Nat} {rs : List (List UInt8)} (h : LgL w ℓ L q p b s rs) (he : ∀ k, k < w.heap.size → ℓ' k = ℓ k) : LgL w ℓ' L q p b s rs := by
  obtain ⟨g, d, pre, h1, hq, hp, hg, hd⟩ := h
  exact ⟨g, d, pre, h1, (he q h1.lt).trans hq, (he p h1.disk.lt).trans hp, (he g h1.disk.dlt).trans hg, (he d h1.dlt).trans hd⟩
theorem LgL.below {w w' : World} {ℓ : Nat → Nat} {L q p b s : Nat} {rs : List (List UInt8)} (h : LgL w ℓ L q p b s rs) (hb : Below w.heap.size w w') : LgL w' ℓ L q p b s rs := h.only (Only.of_below (K := fun _ => False) hb) (fun _ _ => id)
theorem LgL.lt {w : World} {ℓ : Nat → Nat} {L q p b s : Nat} {rs : List (List UInt8)} (h : LgL w ℓ L q p b s rs) : q < w.heap.size ∧ p < w.heap.size := by
  obtain ⟨g, d, pre, h1, _⟩ := h
  exact ⟨h1.lt, h1.disk.lt⟩
/-- what one record more leaves -/
def LaT (w : World) (ℓ : Nat → Nat) (L q p b s : Nat) (rs : List (List UInt8)) (r : List UInt8) (e : Ending) (w' : World) : Prop := e = .returned (.tuple #[.int .i64 ((b + (bytesOf rs).length : Nat) : Int), .int .i64 0]) ∧ Only (fun k => ℓ k = L) w w' ∧ ∀ ℓ', (∀ k, k < w.heap.size → ℓ' k = ℓ k) → (∀ k, w.heap.size ≤ k → ℓ' k = L) → LgL w' ℓ' L q p b s (rs ++ [r])
theorem lg_append {w : World} {ℓ : Nat → Nat} {L q p b s : Nat} {rs : List (List UInt8)} (h : LgL w ℓ L q p b s rs) (r : List UInt8) (A : Option Addr) (n cap : Nat) (hn : r.length = n) (h1 : 1 ≤ r.length ∧ r.length ≤ 4096) (hr : RdB w w.heap.size A r) (hroom : b + (bytesOf rs).length + (r.length + 5) ≤ 100000) :
    Calls Tryz.prog 94 #[.pointer (some ⟨q, 0, none⟩), .slice A n cap] w (LaT w ℓ L q p b s rs r) := by
  obtain ⟨g, d, pre, h2, hq, hp, hg, hd⟩ := h
  refine (wappend_yes h2 (Nat.zero_le _) r A n cap hn h1 hr hroom).mono ?_
  rintro e w' ⟨rfl, g', d', h3, hO, hg', hd'⟩
  refine ⟨rfl, hO.more (fun j _ e => by rcases e with rfl | rfl | rfl | rfl <;> assumption), fun ℓ' he hn' => ⟨g', d', [], h3, (he q h2.lt).trans hq, (he p h2.disk.lt).trans hp, ?_, ?_⟩⟩
  · rcases hg' with rfl | hg'
    · exact (he _ h2.disk.dlt).trans hg
    · exact hn' _ hg'
  · rcases hd' with rfl | hd'
    · exact (he _ h2.dlt).trans hd
    · exact hn' _ hd'
/-- what Sync leaves -/
def LsT (w : World) (ℓ : Nat → Nat) (L q p b s : Nat) (rs : List (List UInt8)) (e : Ending) (w' : World) : Prop := e = .returned (.int .i64 0) ∧ Only (fun k => ℓ k = L) w w' ∧ ∀ ℓ', (∀ k, k < w.heap.size → ℓ' k = ℓ k) → LgL w' ℓ' L q p b s rs
theorem lg_sync {w : World} {ℓ : Nat → Nat} {L q p b s : Nat} {rs : List (List UInt8)} (h : LgL w ℓ L q p b s rs) : Calls Tryz.prog 57 #[.pointer (some ⟨q, 0, none⟩)] w (LsT w ℓ L q p b (b + (bytesOf rs).length) rs) := by
  obtain ⟨g, d, pre, h2, hq, hp, hg, hd⟩ := h
  refine (wsync_any h2).mono ?_
  rintro e w' ⟨rfl, h3, hO⟩
  exact ⟨rfl, hO.more (fun j _ e => by rw [e]; exact hp), fun ℓ' he => ⟨g, d, pre, h3, (he q h2.lt).trans hq, (he p h2.disk.lt).trans hp, (he g h2.disk.dlt).trans hg, (he d h2.dlt).trans hd⟩⟩
/-- a table at block b with rows l: its blocks are L's -/
def TbL (w : World) (ℓ : Nat → Nat) (L b : Nat) (l : List (List UInt8 × List UInt8)) : Prop := ∃ G D P ps, Tbl w G D b P ps ∧ (∀ j, G j ∨ D j → ℓ j = L) ∧ kv (flat ps) = l
theorem TbL.only {K : Nat → Prop} {w w' : World} {ℓ : Nat → Nat} {L b : Nat} {l : List (List UInt8 × List UInt8)} (h : TbL w ℓ L b l) (hO : Only K w w') (hK : ∀ k, ℓ k = L → ¬ K k) : TbL w' ℓ L b l := by
  obtain ⟨G, D, P, ps, h1, h2, h3⟩ := h
  exact ⟨G, D, P, ps, h1.only hO (fun j hj => hK j (h2 j (.inl hj))) (fun j hj => hK j (h2 j (.inr hj))), h2, h3⟩
theorem TbL.relabel {w : World} {ℓ ℓ' : Nat → Nat} {L b : Nat} {l : List (List UInt8 × List UInt8)} (h : TbL w ℓ L b l) (he : ∀ k, k < w.heap.size → ℓ' k = ℓ k) : TbL w ℓ' L b l := by
  obtain ⟨G, D, P, ps, h1, h2, h3⟩ := h
  exact ⟨G, D, P, ps, h1, fun j hj => (he j (by rcases hj with hj | hj; exact h1.t.glt j hj; exact h1.t.dlt j hj)).trans (h2 j hj), h3⟩
theorem TbL.below {w w' : World} {ℓ : Nat → Nat} {L b : Nat} {l : List (List UInt8 × List UInt8)} (h : TbL w ℓ L b l) (hb : Below w.heap.size w w') : TbL w' ℓ L b l := h.only (Only.of_below (K := fun _ => False) hb) (fun _ _ => id)
theorem TbL.at_ {w : World} {ℓ : Nat → Nat} {L b : Nat} {l : List (List UInt8 × List UInt8)} (h : TbL w ℓ L b l) : ℓ b = L ∧ b < w.heap.size := by
  obtain ⟨G, D, P, ps, h1, h2, h3⟩ := h
  exact ⟨h2 b (.inl h1.t.gq), h1.t.lt⟩
theorem TbL.few {w : World} {ℓ : Nat → Nat} {L b : Nat} {l : List (List UInt8 × List UInt8)} (h : TbL w ℓ L b l) : l.length ≤ 900 := by
  obtain ⟨G, D, P, ps, h1, h2, h3⟩ := h
  rw [← h3]
  unfold kv
  rw [List.length_map]
  exact h1.few
/-- what Put and Drop leave of a table -/
def TpL (w : World) (ℓ : Nat → Nat) (L b : Nat) (l : List (List UInt8 × List UInt8)) (e : Ending) (w' : World) : Prop := (∃ A n c o, e = .returned (.tuple #[.slice A n c, .bool o])) ∧ Only (fun k => ℓ k = L) w w' ∧ ∀ ℓ', (∀ k, k < w.heap.size → ℓ' k = ℓ k) → (∀ k, w.heap.size ≤ k → ℓ' k = L) → TbL w' ℓ' L b l
theorem tb_put {w : World} {ℓ : Nat → Nat} {L b : Nat} {l : List (List UInt8 × List UInt8)} (h : TbL w ℓ L b l) (hf : l.length ≤ 899) (key row : List UInt8) (K A : Option Addr) (kn kc rn rc : Nat) (hkn : key.length = kn) (hrn : row.length = rn) (hkl : key.length ≤ 100000) (hrl : row.length ≤ 100000) (hk : RdB w w.heap.size K key) (hr : RdB w w.heap.size A row) :
    Calls Tryz.prog 44 #[.pointer (some ⟨b, 0, none⟩), .slice K kn kc, .slice A rn rc] w (TpL w ℓ L b (putK l key row)) := by
  obtain ⟨G, D, P, ps, h1, h2, h3⟩ := h
  have hlen : (flat ps).length ≤ 899 := by rw [← h3] at hf; unfold kv at hf; rw [List.length_map] at hf; exact hf
  refine (put_any h1 hlen key row K A kn kc rn rc hkn hrn hkl hrl hk hr).mono ?_
  rintro e w' ⟨G', D', P', ps', A', n', c', rfl, h4, h5, h6, hO, _, _⟩
  refine ⟨⟨_, _, _, _, rfl⟩, hO.more (fun j _ e => h2 j (.inl e)), fun ℓ' he hn => ⟨G', D', P', ps', h4, fun j hj => ?_, by rw [h5, h3]⟩⟩
  rcases Nat.lt_or_ge j w.heap.size with hlt | hge
  · rcases h6 j hj with h7 | h7 | h7
    · exact (he j hlt).trans (h2 j (.inl h7))
    · exact (he j hlt).trans (h2 j (.inr h7))
    · omega
  · exact hn j hge
theorem tb_drop {w : World} {ℓ : Nat → Nat} {L b : Nat} {l : List (List UInt8 × List UInt8)} (h : TbL w ℓ L b l) (key : List UInt8) (K : Option Addr) (kn kc : Nat) (hkn : key.length = kn) (hk : RdB w w.heap.size K key) :
    Calls Tryz.prog 91 #[.pointer (some ⟨b, 0, none⟩), .slice K kn kc] w (TpL w ℓ L b (dropK l key)) := by
  obtain ⟨G, D, P, ps, h1, h2, h3⟩ := h
  refine (drop_any h1 key K kn kc hkn hk).mono ?_
  rintro e w' ⟨G', P', ps', A', n', c', rfl, h4, h5, h6, hO, _, _⟩
  refine ⟨⟨_, _, _, _, rfl⟩, hO.more (fun j _ e => h2 j (.inl e)), fun ℓ' he hn => ⟨G', D, P', ps', h4, fun j hj => ?_, by rw [h5, h3]⟩⟩
  rcases Nat.lt_or_ge j w.heap.size with hlt | hge
  · rcases hj with hj | hj
    · rcases h6 j hj with h7 | h7
      · exact (he j hlt).trans (h2 j (.inl h7))
      · omega
    · exact (he j hlt).trans (h2 j (.inr hj))
  · exact hn j hge
theorem tb_len {w : World} {ℓ : Nat → Nat} {L b : Nat} {l : List (List UInt8 × List UInt8)} (h : TbL w ℓ L b l) : Calls Tryz.prog 113 #[.pointer (some ⟨b, 0, none⟩)] w (Looks (.int .i64 (l.length : Int)) w) := by
  obtain ⟨G, D, P, ps, h1, h2, h3⟩ := h
  exact len_any h1 _ (by rw [h3])
/-- what New leaves -/
def TnL (w : World) (e : Ending) (w' : World) : Prop := e = .returned (.pointer (some ⟨w.heap.size, 0, none⟩)) ∧ Below w.heap.size w w' ∧ w.heap.size < w'.heap.size ∧ ∀ ℓ L, ℓ w.heap.size = L → TbL w' ℓ L w.heap.size []
theorem tb_new (w : World) : Calls Tryz.prog 42 #[] w (TnL w) := by
  refine (newT_any w).mono ?_
  rintro e w' ⟨rfl, h1, h2⟩
  exact ⟨rfl, h2, h1.t.lt, fun ℓ L hL => ⟨_, _, _, [], h1, fun j hj => by rcases hj with rfl | hj; exact hL; exact hj.elim, rfl⟩⟩
theorem range_whole (L : List Ent) : rangeL [] [] L = L := range_all fun e _ => by
  unfold inR
  have h : 0 ≤ cmpB e.k [] := by
    cases e.k with
    | nil => decide
    | cons a l => show (0 : Int) ≤ 1; decide
  simp [h]
theorem tb_range {w : World} {ℓ : Nat → Nat} {L b : Nat} {l : List (List UInt8 × List UInt8)} (h : TbL w ℓ L b l) : Calls Tryz.prog 43 #[.pointer (some ⟨b, 0, none⟩), .slice none 0 0, .slice none 0 0, .int .i64 9223372036854775807] w (RgT w l) := by
  obtain ⟨G, D, P, ps, h1, h2, h3⟩ := h
  have h4 := range_any h1 none none [] [] 0 0 0 0 9223372036854775807 rfl rfl (fun h => absurd rfl h) (fun h => absurd rfl h)
  rw [range_whole, List.take_of_length_le (by have := h1.few; have h5 : (9223372036854775807 : Int).toNat = 9223372036854775807 := rfl; omega), h3] at h4
  exact h4
end
end Go.Proofs.YtkohppalfcalbaaGreat

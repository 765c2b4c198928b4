/- The document's Same: these numbers are those of the entries. -/
import Derived.Test.YtgdofnbnahpedaaLC
import Derived.Test.YtgdofnbnahpedaaJK
namespace Go.Proofs.Ytgdofnbnahpedaa
open Go.RowKit

/-- numbers can be read -/
def RdI (w : World) (B : Nat) (A : Option Addr) (l : List Int) : Prop := l ≠ [] → ∃ b o, A = some ⟨b, o, none⟩ ∧ b < B ∧ ∀ j x, l[j]? = some x → w.cell? ⟨b, o + j, none⟩ = some (.int .i64 x)
theorem RdI.at_ {w : World} {B : Nat} {A : Option Addr} {l : List Int} (h : RdI w B A l) {j : Nat} {x : Int} (hj : l[j]? = some x) : ∃ b o, A = some ⟨b, o, none⟩ ∧ b < B ∧ w.cell? ⟨b, o + j, none⟩ = some (.int .i64 x) := by
  obtain ⟨b, o, e, hlt, hc⟩ := h (by rintro rfl; simp at hj)
  exact ⟨b, o, e, hlt, hc j x hj⟩
theorem RdC.ints {w : World} {B : Nat} {A : Option Addr} {l : List Nat} (h : RdC w B A (intsV l)) : RdI w B A (l.map Int.ofNat) := fun hn => by
  obtain ⟨b, o, e, hb, hc⟩ := h (by cases l with
    | nil => exact absurd rfl hn
    | cons x l => simp [intsV])
  refine ⟨b, o, e, hb, fun j x hj => hc j _ ?_⟩
  rw [List.getElem?_map] at hj
  unfold intsV
  rw [List.getElem?_map]
  cases hx : l[j]? with
  | none => rw [hx] at hj; cases hj
  | some y => rw [hx] at hj; injection hj with hj; subst hj; rfl
/-- at the head of Same's loop -/
def SmL (w : World) (ns : List Int) (es : List BEnt) (v5 : Value) (wr : World) : Prop := ∃ i k : Nat, v5 = .int .i64 (i : Int) ∧ i ≤ es.length ∧ (∀ j n x, j < i → ns[j]? = some n → es[j]? = some x → n = x.no) ∧ wr = w.drewN k
theorem same_yes {ns : List Int} {es : List BEnt} (hl : ns.length = es.length) (h : ∀ j n x, j < es.length → ns[j]? = some n → es[j]? = some x → n = x.no) : ns = es.map (·.no) := by
  apply List.ext_getElem?
  intro j
  rw [List.getElem?_map]
  rcases Nat.lt_or_ge j es.length with hj | hj
  · rw [List.getElem?_eq_getElem (show j < ns.length by omega), List.getElem?_eq_getElem hj]
    show some _ = some _
    rw [h j _ _ hj (List.getElem?_eq_getElem (by omega)) (List.getElem?_eq_getElem hj)]
  · rw [List.getElem?_eq_none (by omega), List.getElem?_eq_none hj]; rfl
theorem same_no {ns : List Int} {es : List BEnt} {j : Nat} {n : Int} {x : BEnt} (hn : ns[j]? = some n) (hx : es[j]? = some x) (hne : n ≠ x.no) : ns ≠ es.map (·.no) := by
  intro e
  rw [e, List.getElem?_map, hx] at hn
  injection hn with hn
  exact hne hn.symm
set_option maxRecDepth 100000 in
set_option maxHeartbeats 4000000 in
theorem rsame_any {w : World} {A0 A1 : Option Addr} {n0 n1 c0 c1 : Nat} {ns : List Int} {es : List BEnt} (h0 : RdI w w.heap.size A0 ns) (h1 : RdE w w.heap.size A1 es) (hn0 : ns.length = n0) (hn1 : es.length = n1) (hs0 : n0 ≤ 1000000) (hs1 : n1 ≤ 1000000) :
    Calls Try.prog 32 #[.slice A0 n0 c0, .slice A1 n1 c1] w (LooksN (.bool (decide (ns = es.map (·.no)))) w) := by
  have H0 := Lib.hid h0
  have H1 := Lib.hid h1
  obtain ⟨r, hr⟩ : ∃ r, Hid (r = decide (ns = es.map (·.no))) := ⟨_, Lib.hid rfl⟩
  rw [← hr.out]
  have hi0 : (n0 : Int) ≤ 1000000 := by omega
  have hi1 : (n1 : Int) ≤ 1000000 := by omega
  by_cases hl : n0 = n1
  · subst hl
    have HN0 := Lib.hid hn0
    have HN1 := Lib.hid hn1
    have HST : Hid (SmL w ns es (.int .i64 0) w) := Lib.hid ⟨0, 0, rfl, Nat.zero_le _, fun j n x hj => absurd hj (Nat.not_lt_zero _), rfl⟩
    clear h0 h1 hn0 hn1
    go_enter Try.func32, Try.ntmps32
    go_wp2_with fail
    go_loopw [5] (fun v5 wr => SmL w ns es v5 wr) (fun v5 _ => n0 - (intOf v5).toNat)
    case atStart => exact HST.out
    case round =>
      obtain ⟨i, k, rfl, hi, hlo, hw⟩ := hrel
      have HLO := Lib.hid hlo
      have HW := Lib.hid hw
      clear hlo hw
      rw [HN1.out] at hi
      by_cases hlt : i < n0
      · have hlti : (i : Int) < (n0 : Int) := by omega
        obtain ⟨x, hx⟩ : ∃ x, es[i]? = some x := ⟨_, List.getElem?_eq_getElem (by rw [HN1.out]; exact hlt)⟩
        obtain ⟨n, hn⟩ : ∃ n, ns[i]? = some n := ⟨_, List.getElem?_eq_getElem (by rw [HN0.out]; exact hlt)⟩
        obtain ⟨b0, o0, hA0, _, d0⟩ := H0.out.at_ hn
        obtain ⟨b1, o1, hA1, _, d1, _⟩ := H1.out.at_ hx
        subst hA0 hA1
        have d0 : wr.cell? ⟨b0, o0 + i, none⟩ = some (.int .i64 n) := by rw [← d0, HW.out]; rfl
        obtain ⟨m, hm⟩ : ∃ m, m = x.no := ⟨_, rfl⟩
        have d1 : wr.cell? ⟨b1, o1 + i * 2, none⟩ = some (.int .i64 m) := by rw [hm, ← d1, HW.out]; rfl
        have hi00 : 0 ≤ (i : Int) := by omega
        by_cases hnm : n = m
        · subst hnm
          have HY : Hid (∀ v5 k2, v5 = .int .i64 ((i + 1 : Nat) : Int) → SmL w ns es v5 (wr.drewN k2)) := Lib.hid fun v5 k2 h5 => ⟨i + 1, k + k2, h5, by rw [HN1.out]; exact hlt, fun j n' x' hj hn' hx' => by
            rcases Nat.lt_or_ge j i with h | h
            · exact HLO.out j n' x' h hn' hx'
            · have : j = i := by omega
              subst this
              rw [hn] at hn'; injection hn' with hn'
              rw [hx] at hx'; injection hx' with hx'
              rw [← hn', ← hx', ← hm], by rw [HW.out, World.drewN_drewN]⟩
          clear hx hn hm hi
          go_wp2_with fail
          go_quiet (fail)
          go_wp2_with fail
          go_roundw
          case rel => first | exact HY.out _ _ (by go_num) | ((repeat apply Exists.intro); exact ⟨HY.out _ _ (by go_num), rfl⟩)
          case measure => simp [intOf]; omega
        · have HY : Hid (r = false) := Lib.hid (hr.out.trans (decide_eq_false (same_no hn hx (by rw [← hm]; exact hnm))))
          have HZ : Hid (∀ k2, ∃ j, wr.drewN k2 = w.drewN j) := Lib.hid fun k2 => ⟨k + k2, by rw [HW.out, World.drewN_drewN]⟩
          clear hx hn hm hi
          go_wp2_with fail
          go_quiet (fail)
          go_wp2_with fail
          go_ret
          exact ⟨by rw [HY.out]; rfl, HZ.out _⟩
      · have hie : i = n0 := by omega
        subst hie
        have hlti : ¬ (i : Int) < (i : Int) := by omega
        have HY : Hid (r = true) := Lib.hid (hr.out.trans (decide_eq_true (same_yes (HN0.out.trans HN1.out.symm) (by rw [HN1.out]; exact HLO.out))))
        clear hi
        go_wp2_with fail
        go_ret
        exact ⟨by rw [HY.out]; rfl, _, HW.out⟩
  · have hli : ¬ (n0 : Int) = (n1 : Int) := by omega
    have HY : Hid (r = false) := Lib.hid (hr.out.trans (decide_eq_false (fun e => hl (by rw [← hn0, ← hn1, e, List.length_map]))))
    clear h0 h1 hn0 hn1
    go_enter Try.func32, Try.ntmps32
    go_wp2_with fail
    go_ret
    exact ⟨by rw [HY.out]; rfl, 0, rfl⟩
end Go.Proofs.Ytgdofnbnahpedaa

/- The document's Same and Has over lists in memory; what built leaves, both sides. -/
import Derived.Test.YtdfmmphoccfacaaDoorS
import Derived.Test.YtdfmmphoccfacaaDoorM
namespace Go.Proofs.YtdfmmphoccfacaaDoor
open Go.RowKit Go.Extern.Stop Go.Stop Go.Extern

theorem lst_cells {w : World} {e : TypeId} {pa : Option Addr} {n cap : Nat} {l : List Int} (h : Lst w e (.slice pa n cap) (vals l)) : Cells w pa l := by
  intro j c hj
  have h0 : 0 < (vals l).length := by
    rw [vals_len]
    obtain ⟨h1, _⟩ := List.getElem?_eq_some_iff.1 hj
    omega
  obtain ⟨g, cap', hv, _, hc⟩ := own_get h.1 h0
  injection hv with e1 e2 e3
  exact ⟨g, e1, hc j _ (by simp [vals, hj])⟩
/-- at the head of Same's loop -/
def SL (w0 : World) (n : Nat) (v : Value) (wr : World) : Prop := ∃ k : Nat, v = .int .i64 k ∧ k ≤ n ∧ Below w0.heap.size w0 wr

set_option maxRecDepth 100000 in
set_option maxHeartbeats 2000000 in
theorem same_any (cs ps : List Int) (n : Nat) (pa pb qa qb : Option Addr) (ca cb da db : Nat) (d : Int) (w : World) (hcs : cs.length = n) (hps : ps.length = n) (hn : n ≤ 1000000)
    (hA : Cells w pa cs) (hB : Cells w pb ps) (hQ : Cells w qa cs) (hR : Cells w qb ps) :
    Calls Tryd.prog 9 #[.slice pa n ca, .slice pb n cb, .agg #[.slice qa n da, .slice qb n db, .int .i64 d]] w (Ans (.bool true) w) := by
  have hn0 : (0 : Int) ≤ (n : Int) := Int.natCast_nonneg _
  have hn1 : (n : Int) ≤ 1000000 := by omega
  have A := Lib.hid hA
  have B := Lib.hid hB
  have Q := Lib.hid hQ
  have R := Lib.hid hR
  have HC := Lib.hid hcs
  have HP := Lib.hid hps
  clear hA hB hQ hR hcs hps hn
  go_enter Tryd.func9, Tryd.ntmps9
  go_wp2_with fail
  go_loopw [7] (fun v7 wr => SL (w.alloc (.cells #[.slice qa n da, .slice qb n db, .int .i64 d] 33)) n v7 wr) (fun v7 _ => n - (intOf v7).toNat)
  case atStart => exact ⟨0, rfl, by omega, Below.refl _ _⟩
  case round =>
    obtain ⟨k, rfl, hk, hb⟩ := hrel
    have hk0 : (0 : Int) ≤ (k : Int) := Int.natCast_nonneg _
    have hb2 := (alloc_below w (.cells #[.slice qa n da, .slice qb n db, .int .i64 d] 33)).trans (hb.mono (by simp))
    have x0 : wr.cell? ⟨w.heap.size, 0, none⟩ = some (.slice qa n da) := by
      rw [hb.cell (p := ⟨w.heap.size, 0, none⟩) (by simp)]; exact World.cell?_alloc_new _ _ _ _
    have x1 : wr.cell? ⟨w.heap.size, 1, none⟩ = some (.slice qb n db) := by
      rw [hb.cell (p := ⟨w.heap.size, 1, none⟩) (by simp)]; exact World.cell?_alloc_new _ _ _ _
    by_cases hlt : k < n
    · obtain ⟨c, hc⟩ : ∃ c, cs[k]? = some c := ⟨_, List.getElem?_eq_getElem (by have := HC.out; omega)⟩
      obtain ⟨p, hp⟩ : ∃ p, ps[k]? = some p := ⟨_, List.getElem?_eq_getElem (by have := HP.out; omega)⟩
      obtain ⟨g1, rfl, y1⟩ := (A.out.below hb2) k c hc
      obtain ⟨g2, rfl, y2⟩ := (B.out.below hb2) k p hp
      obtain ⟨g3, rfl, y3⟩ := (Q.out.below hb2) k c hc
      obtain ⟨g4, rfl, y4⟩ := (R.out.below hb2) k p hp
      have b1 : (k : Int) < (n : Int) := by omega
      have HK : Hid (∀ w', Below wr.heap.size wr w' → SL (w.alloc (.cells #[.slice (some ⟨g3, 0, none⟩) n da, .slice (some ⟨g4, 0, none⟩) n db, .int .i64 d] 33)) n (.int .i64 ((k : Int) + 1)) w') := fun w' hb' => ⟨k + 1, rfl, by omega, hb.trans (hb'.mono hb.size)⟩
      clear hb hb2 hc hp hlt hk
      go_wp2_with fail
      go_quiet (fail)
      go_wp2_with fail
      go_roundw
      case rel => exact HK.out _ (below_drewN _ _)
      case measure => simp only [intOf]; omega
    · have hnlt : ¬ ((k : Int) < (n : Int)) := by omega
      have HB := Lib.hid hb2
      clear hb hb2 hlt hk
      go_wp2_with fail
      go_ret
      exact ⟨rfl, HB.out⟩

def HL (w0 : World) (n : Nat) (code : Int) (cs : List Int) (v : Value) (wr : World) : Prop := ∃ k : Nat, v = .int .i64 k ∧ k ≤ n ∧ Below w0.heap.size w0 wr ∧ hasB code cs k = false
set_option maxRecDepth 100000 in
set_option maxHeartbeats 2000000 in
theorem refHas_any (cs : List Int) (n : Nat) (qa : Option Addr) (da : Nat) (v : Value) (d code : Int) (pb : Option Addr) (m db : Nat) (hv : v = .slice pb m db) (w : World) (hcs : cs.length = n) (hn : n ≤ 1000000) (hQ : Cells w qa cs) :
    Calls Tryd.prog 16 #[.agg #[.slice qa n da, v, .int .i64 d], .int .i64 code] w (Ans (.bool (hasB code cs n)) w) := by
  subst hv
  have hn0 : (0 : Int) ≤ (n : Int) := Int.natCast_nonneg _
  have hn1 : (n : Int) ≤ 1000000 := by omega
  have Q := Lib.hid hQ
  have HC := Lib.hid hcs
  clear hQ hcs hn
  go_enter Tryd.func16, Tryd.ntmps16
  go_wp2_with fail
  go_loopw [5] (fun v5 wr => HL (w.alloc (.cells #[.slice qa n da, .slice pb m db, .int .i64 d] 33)) n code cs v5 wr) (fun v5 _ => n - (intOf v5).toNat)
  case atStart => exact ⟨0, rfl, by omega, Below.refl _ _, rfl⟩
  case round =>
    obtain ⟨k, rfl, hk, hb, hno⟩ := hrel
    have hk0 : (0 : Int) ≤ (k : Int) := Int.natCast_nonneg _
    have hb2 := (alloc_below w (.cells #[.slice qa n da, .slice pb m db, .int .i64 d] 33)).trans (hb.mono (by simp))
    have x0 : wr.cell? ⟨w.heap.size, 0, none⟩ = some (.slice qa n da) := by
      rw [hb.cell (p := ⟨w.heap.size, 0, none⟩) (by simp)]; exact World.cell?_alloc_new _ _ _ _
    by_cases hlt : k < n
    · obtain ⟨c, hc⟩ : ∃ c, cs[k]? = some c := ⟨_, List.getElem?_eq_getElem (by have := HC.out; omega)⟩
      obtain ⟨g3, rfl, y3⟩ := (Q.out.below hb2) k c hc
      have b1 : (k : Int) < (n : Int) := by omega
      have hnx := hasB_next code cs k c hc
      have HB := Lib.hid hb2
      have hkn := HC.out
      by_cases hcc : c = code
      · subst hcc
        have HE : Hid (true = hasB c cs n) := Lib.hid <| by
          have h1 : hasB c cs (k + 1) = true := by rw [hnx]; simp
          unfold hasB at h1 ⊢
          symm
          rw [List.any_eq_true] at h1 ⊢
          obtain ⟨y, hy, hy2⟩ := h1
          refine ⟨y, ?_, hy2⟩
          rw [List.take_of_length_le (by omega)]
          exact List.mem_of_mem_take hy
        clear hb hb2 hc hnx hno hkn hlt hk
        go_wp2_with fail
        go_ret
        rw [← HE.out]
        exact ⟨rfl, HB.out⟩
      · have hd : (c == code) = false := by simpa using hcc
        have HK : Hid (HL (w.alloc (.cells #[.slice (some ⟨g3, 0, none⟩) n da, .slice pb m db, .int .i64 d] 33)) n code cs (.int .i64 ((k : Int) + 1)) wr) := ⟨k + 1, rfl, by omega, hb, by rw [hnx, hno]; simpa using hcc⟩
        clear hb hb2 hc hnx hno hkn hlt hk hcc
        go_wp2_with fail
        go_roundw
        case rel => exact HK.out
        case measure => simp only [intOf]; omega
    · have hnlt : ¬ ((k : Int) < (n : Int)) := by omega
      have HB := Lib.hid hb2
      have HE : Hid (false = hasB code cs n) := Lib.hid (by rw [show n = k by omega, hno])
      clear hb hb2 hlt hk hno
      go_wp2_with fail
      go_ret
      rw [← HE.out]
      exact ⟨rfl, HB.out⟩
/-- WHAT THE LAWS TAKE FROM built: the errors and the document's answers -/
def Told (w' : World) (gt i : Nat) (t : Tree) : Prop := ∃ (qc qp : Option Addr) (dc dp : Nat), w'.cell? ⟨gt, i * 3, none⟩ = some (.slice qc t.codes.length dc) ∧ w'.cell? ⟨gt, i * 3 + 1, none⟩ = some (.slice qp t.codes.length dp) ∧
  w'.cell? ⟨gt, i * 3 + 2, none⟩ = some (.int .i64 (t.deep : Int)) ∧ Cells w' qc t.codes ∧ Cells w' qp t.places
def BuiltItems (w : World) (e : Ending) (w' : World) : Prop := ∃ (g m cap gt capt : Nat) (ts : Nat → Tree), e = .returned (.tuple #[.slice (some ⟨g, 0, none⟩) (m + 1) cap, .slice (some ⟨gt, 0, none⟩) (m + 1) capt]) ∧ m ≤ 14 ∧
  (∀ i, i ≤ m → w'.cell? ⟨g, i, none⟩ = some (ts i).val ∧ Rep w' (ts i) ∧ (ts i).codes.length ≤ 16384 ∧ (ts i).deep ≤ 15 ∧ Told w' gt i (ts i)) ∧ Below w.heap.size w w'
theorem built_items (acts : List ActV) (sa : Option Addr) (b o cap : Nat) (W : World) (HS : 0 < acts.length → sa = some ⟨b, o, none⟩ ∧ Script W b o acts) (hl : acts.length ≤ cap) (hm : cap ≤ maxLen) (hg : Handle W) :
    Calls Tryd.prog 8 #[.slice sa acts.length cap] W (BuiltItems W) := by
  refine (built_any acts sa b o cap W HS hl hm hg.lt).mono ?_
  rintro e w' ⟨va, vt, l, rfl, h0, h15, hA, hT, hI, hS, hB⟩
  obtain ⟨g, c, rfl, _⟩ := own_head hA h0
  obtain ⟨gt, ct, rfl, _⟩ := own_head hT h0
  obtain ⟨m, hm⟩ : ∃ m, l.length = m + 1 := ⟨l.length - 1, by omega⟩
  refine ⟨g, m, c, gt, ct, fun i => ((l[i]?).map (·.1)).getD .nil, by rw [hm], by omega, fun i hi => ?_, hB⟩
  have hil : i < l.length := by omega
  obtain ⟨y, hy⟩ : ∃ y, l[i]? = some y := ⟨_, List.getElem?_eq_getElem hil⟩
  have hyl := List.mem_of_getElem? hy
  have hts : ((l[i]?).map (·.1)).getD Tree.nil = y.1 := by rw [hy]; rfl
  simp only [hts]
  have hp : 2 ^ (l.length - 1) ≤ 16384 := Nat.le_trans (Nat.pow_le_pow_right (by omega) (show l.length - 1 ≤ 14 by omega)) (by decide)
  refine ⟨?_, (hI y hyl).1, Nat.le_trans (hS y hyl).1 hp, by have := (hS y hyl).2; omega, ?_⟩
  · rw [← add_plain]
    exact hA.cells rfl _ _ (by simp [trees, hy])
  · obtain ⟨q0, q1, q2⟩ := tolds_get l i y hy
    obtain ⟨qc, dc, e1, _⟩ := lst_slice (hI y hyl).2.1
    obtain ⟨qp, dp, e2, _⟩ := lst_slice (hI y hyl).2.2
    rw [Tree.places_len] at e2
    have c1 := (hI y hyl).2.1
    have c2 := (hI y hyl).2.2
    rw [e1] at q0 c1
    rw [e2] at q1 c2
    refine ⟨qc, qp, dc, dp, ?_, ?_, ?_, lst_cells c1, lst_cells c2⟩
    · rw [← add_plain]; exact hT.cells rfl _ _ q0
    · rw [← add_plain]; exact hT.cells rfl _ _ q1
    · rw [← add_plain]; exact hT.cells rfl _ _ q2
end Go.Proofs.YtdfmmphoccfacaaDoor

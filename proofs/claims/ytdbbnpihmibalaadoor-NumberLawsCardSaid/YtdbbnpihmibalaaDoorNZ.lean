/- NumberLaws: the law's own body. -/
import Derived.Test.YtdbbnpihmibalaaDoorNW
namespace Go.Proofs.YtdbbnpihmibalaaDoor
open Go.RowKit
attribute [local go_sem ↓] eqV

/-- the two values behind i rounds -/
def V2 (i : Nat) (d0 d1 : Bool) (n0 n1 : Int) : Array Value := #[.int .i64 (if 0 < i then kd d0 else 0), .int .i64 (if 0 < i then n0 else 0), .string ⟨#[]⟩, .int .i64 (if 1 < i then kd d1 else 0), .int .i64 (if 1 < i then n1 else 0), .string ⟨#[]⟩]
/-- the law's three blocks -/
structure LwS (w : World) (gn gd gv : Nat) (d0 d1 : Bool) (n0 n1 n2 : Int) (C : Array Value) (wr : World) : Prop where
  n : wr.heap[gn]? = some (.cells #[.int .i64 n0, .int .i64 n1, .int .i64 n2] 45 (0, 0))
  d : wr.heap[gd]? = some (.cells #[.bool d0, .bool d1] 51 (0, 0))
  v : wr.heap[gv]? = some (.cells C 52 (0, 0))
  bel : Below w.heap.size w wr
  ne : gv ≠ gn ∧ gv ≠ gd
  ge : w.heap.size ≤ gv
/-- the same, and boxes of numbers -/
structure LwB (w : World) (gn gd gv : Nat) (d0 d1 : Bool) (n0 n1 n2 : Int) (C : Array Value) (bs : List (Nat × Int × Int)) (wr : World) : Prop where
  s : LwS w gn gd gv d0 d1 n0 n1 n2 C wr
  b : ∀ x ∈ bs, wr.heap[x.1]? = some (.cells #[.int .i64 x.2.1, .int .i64 x.2.2, .string ⟨#[]⟩] 25 (0, 0))
theorem boxT {w : World} {g : Nat} {a b : Value} {t : TypeId} (h : w.heap[g]? = some (.cells #[a, b] t (0, 0))) : w.cell? ⟨g, 0, none⟩ = some a ∧ w.cell? ⟨g, 1, none⟩ = some b := by
  simp [World.cell?, h]
section
variable {w wr wz wy : World} {gn gd gv : Nat} {d0 d1 : Bool} {n0 n1 n2 : Int} {C : Array Value} {bs : List (Nat × Int × Int)}
theorem LwS.next (h : LwS w gn gd gv d0 d1 n0 n1 n2 C wr) (hb : Below wr.heap.size wr wz) : LwS w gn gd gv d0 d1 n0 n1 n2 C wz :=
  ⟨(hb.block _ (Array.getElem?_eq_some_iff.1 h.n).1).trans h.n, (hb.block _ (Array.getElem?_eq_some_iff.1 h.d).1).trans h.d, (hb.block _ (Array.getElem?_eq_some_iff.1 h.v).1).trans h.v, h.bel.trans (hb.mono h.bel.size), h.ne, h.ge⟩
theorem LwS.cell (h : LwS w gn gd gv d0 d1 n0 n1 n2 C wr) (j : Nat) (x : Value) (hx : C[j]? = some x) : wr.cell? ⟨gv, j, none⟩ = some x := by simp [World.cell?, h.v, hx]
theorem LwS.fz (h : LwS w gn gd gv d0 d1 n0 n1 n2 C wr) (j : Nat) : wr.frozen? ⟨gv, j, none⟩ = false := by simp [World.frozen?, h.v]
theorem LwS.put (h : LwS w gn gd gv d0 d1 n0 n1 n2 C wr) (o : Nat) (x y z : Value) : LwS w gn gd gv d0 d1 n0 n1 n2 (((C.setIfInBounds o x).setIfInBounds (o + 1) y).setIfInBounds (o + 2) z) (((wr.setCell ⟨gv, o, none⟩ x).setCell ⟨gv, o + 1, none⟩ y).setCell ⟨gv, o + 2, none⟩ z) := by
  refine ⟨?_, ?_, ?_, ((h.bel.setCell (p := ⟨gv, o, none⟩) h.ge x).setCell (p := ⟨gv, o + 1, none⟩) h.ge y).setCell (p := ⟨gv, o + 2, none⟩) h.ge z, h.ne, h.ge⟩
  · have := h.ne.1
    simp [World.setCell, Array.getElem?_modify, this, h.n]
  · have := h.ne.2
    simp [World.setCell, Array.getElem?_modify, this, h.d]
  · simp [World.setCell, Array.getElem?_modify, h.v]
theorem LwB.next (h : LwB w gn gd gv d0 d1 n0 n1 n2 C bs wr) (hb : Below wr.heap.size wr wz) : LwB w gn gd gv d0 d1 n0 n1 n2 C bs wz :=
  ⟨h.s.next hb, fun x hx => (hb.block _ (Array.getElem?_eq_some_iff.1 (h.b x hx)).1).trans (h.b x hx)⟩
theorem LwB.push (h : LwB w gn gd gv d0 d1 n0 n1 n2 C bs wr) (hb : Below wr.heap.size wr wz) (k n : Int) : LwB w gn gd gv d0 d1 n0 n1 n2 C ((wz.heap.size, k, n) :: bs) (wz.alloc (.cells #[.int .i64 k, .int .i64 n, .string ⟨#[]⟩] 25)) := by
  have h2 := (h.next hb).next (alloc_below wz (.cells #[.int .i64 k, .int .i64 n, .string ⟨#[]⟩] 25))
  refine ⟨h2.s, fun x hx => ?_⟩
  rcases List.mem_cons.1 hx with rfl | hx
  · exact heap_alloc_new wz _
  · exact h2.b x hx
/-- the box of one is written -/
theorem LwB.one (h : LwB w gn gd gv d0 d1 n0 n1 n2 C bs wr) (hb : Below wr.heap.size wr wz) {a b k n : Int} (hc : Below (wz.alloc (.cells #[.int .i64 a, .int .i64 b, .string ⟨#[]⟩] 25)).heap.size (wz.alloc (.cells #[.int .i64 a, .int .i64 b, .string ⟨#[]⟩] 25)) wy) :
    LwB w gn gd gv d0 d1 n0 n1 n2 C ((wz.heap.size, k, n) :: bs) (((wy.setCell ⟨wz.heap.size, 0, none⟩ (.int .i64 k)).setCell ⟨wz.heap.size, 1, none⟩ (.int .i64 n)).setCell ⟨wz.heap.size, 2, none⟩ (.string ⟨#[]⟩)) := by
  have hz := hb.size
  have hbel : Below wr.heap.size wr wy := (hb.trans ((alloc_below wz (.cells #[.int .i64 a, .int .i64 b, .string ⟨#[]⟩] 25)).mono hz)).trans (hc.mono (by simp; omega))
  have h2 := h.next (set3_below0 hbel hz (.int .i64 k) (.int .i64 n) (.string ⟨#[]⟩))
  refine ⟨h2.s, fun x hx => ?_⟩
  rcases List.mem_cons.1 hx with rfl | hx
  · exact heap_set3 ((hc.block _ (by simp)).trans (heap_alloc_new wz _))
  · exact h2.b x hx
theorem LwB.world (h : LwB w gn gd gv d0 d1 n0 n1 n2 C bs wr) : ∃ W, W = wr ∧ LwB w gn gd gv d0 d1 n0 n1 n2 C bs W := ⟨wr, rfl, h⟩
end
/-- behind the seven answers' tests -/
def LwF (w : World) (gn gd gv : Nat) (d0 d1 : Bool) (n0 n1 n2 : Int) (C : Array Value) (v : Value) (wx : World) : Prop := v = .bool false ∧ LwS w gn gd gv d0 d1 n0 n1 n2 C wx
theorem LwF.world {w wx : World} {gn gd gv : Nat} {d0 d1 : Bool} {n0 n1 n2 : Int} {C : Array Value} {v : Value} (h : LwF w gn gd gv d0 d1 n0 n1 n2 C v wx) : ∃ W, W = wx ∧ v = .bool false ∧ LwS w gn gd gv d0 d1 n0 n1 n2 C W := ⟨wx, rfl, h⟩
/-- at the head of the loop of tests: so many numbers are small -/
def LmR (n0 n1 n2 : Int) (v22 : Value) : Prop := ∃ m : Nat, v22 = .int .i64 (m : Int) ∧ m ≤ 3 ∧ (0 < m → smallI n0) ∧ (1 < m → smallI n1) ∧ (2 < m → smallI n2)
/-- behind a product that is laid into a box of its own -/
def LwP (W0 : World) (n : Int) (va vb : Value) (wx : World) : Prop := ∃ g : Nat, va = .pointer (some ⟨g, 0, none⟩) ∧ vb = .nilIface ∧ wx.heap[g]? = some (.cells #[.int .i64 2, .int .i64 n, .string ⟨#[]⟩] 25 (0, 0)) ∧ Below W0.heap.size W0 wx ∧ W0.heap.size ≤ g
theorem LwP.world {W0 wx : World} {n : Int} {va vb : Value} (h : LwP W0 n va vb wx) : ∃ W, W = wx ∧ LwP W0 n va vb W := ⟨wx, rfl, h⟩
/-- behind a product that is laid into a box that was there -/
def LwO (W0 : World) (g : Nat) (n : Int) (wx : World) : Prop := wx.heap[g]? = some (.cells #[.int .i64 2, .int .i64 n, .string ⟨#[]⟩] 25 (0, 0)) ∧ Below W0.heap.size W0 wx
theorem LwO.world {W0 wx : World} {g : Nat} {n : Int} (h : LwO W0 g n wx) : ∃ W, W = wx ∧ LwO W0 g n W := ⟨wx, rfl, h⟩
/-- what Reckon answers, number or fault -/
def Rk (r : RV) (v : Value) (k n : Int) : Prop := (r = .ok k n ∧ v = .nilIface) ∨ ∃ (c p : Int) (N : Nat), r = .bad c p ∧ v = .iface 80 (.pointer (some ⟨N, 0, none⟩)) ∧ k = 0 ∧ n = 0
def RkA (r : RV) (w : World) (e : Ending) (w' : World) : Prop := ∃ (v : Value) (k n : Int), e = .returned (.tuple #[.agg #[.int .i64 k, .int .i64 n, .string ⟨#[]⟩], v]) ∧ Rk r v k n ∧ Below w.heap.size w w'
theorem reckon_all (op k n j m : Int) (hk : k = 2 ∨ k = 3) (hj : j = 2 ∨ j = 3) (hn : i64ok n) (hm : i64ok m) (w : World) :
    Calls Tryd.prog 15 #[.int .i64 op, .agg #[.int .i64 k, .int .i64 n, .string ⟨#[]⟩], .agg #[.int .i64 j, .int .i64 m, .string ⟨#[]⟩]] w (RkA (reckonN op k n j m) w) := by
  cases h : reckonN op k n j m with
  | ok q z =>
    refine (reckon_good2 h hk hj hn hm w).mono ?_
    rintro e w' ⟨he, hb⟩
    exact ⟨_, _, _, he, .inl ⟨rfl, rfl⟩, hb⟩
  | bad c p =>
    refine (reckon_bad2 h hk hj hn hm w).mono ?_
    rintro e w' ⟨N, he, hb⟩
    exact ⟨_, _, _, he, .inr ⟨c, p, N, rfl, rfl, rfl, rfl⟩, hb⟩
theorem rk_same {r s : RV} {v u : Value} {k n j m : Int} (h : RL r s) (hr : Rk r v k n) (hs : Rk s u j m) : k = j ∧ n = m ∧ ((v = .nilIface ∧ u = .nilIface) ∨ ∃ N1 N2 : Nat, v = .iface 80 (.pointer (some ⟨N1, 0, none⟩)) ∧ u = .iface 80 (.pointer (some ⟨N2, 0, none⟩))) := by
  cases h with
  | ok a b =>
    rcases hr with ⟨e1, rfl⟩ | ⟨c, p, N, e1, _⟩
    · rcases hs with ⟨e2, rfl⟩ | ⟨c, p, N, e2, _⟩
      · injection e1 with e3 e4
        injection e2 with e5 e6
        exact ⟨e3.symm.trans e5, e4.symm.trans e6, .inl ⟨rfl, rfl⟩⟩
      · cases e2
    · cases e1
  | bad a b c d =>
    rcases hr with ⟨e1, rfl⟩ | ⟨c, p, N, e1, rfl, rfl, rfl⟩
    · cases e1
    · rcases hs with ⟨e2, rfl⟩ | ⟨c2, p2, N2, e2, rfl, rfl, rfl⟩
      · cases e2
      · exact ⟨rfl, rfl, .inr ⟨N, N2, rfl, rfl⟩⟩
/-- at the head of the loop that fills the values -/
def LwL (w : World) (d0 d1 : Bool) (n0 n1 n2 : Int) (v6 : Value) (wr : World) : Prop := ∃ i : Nat, v6 = .int .i64 (i : Int) ∧ i ≤ 2 ∧ LwS w w.heap.size (w.heap.size + 1) (w.heap.size + 1 + 1) d0 d1 n0 n1 n2 (V2 i d0 d1 n0 n1) wr
theorem lw_start (w : World) (d0 d1 : Bool) (n0 n1 n2 : Int) : LwL w d0 d1 n0 n1 n2 (.int .i64 0) (((w.alloc (.cells #[.int .i64 n0, .int .i64 n1, .int .i64 n2] 45)).alloc (.cells #[.bool d0, .bool d1] 51)).alloc (.cells #[.int .i64 0, .int .i64 0, .string ⟨#[]⟩, .int .i64 0, .int .i64 0, .string ⟨#[]⟩] 52)) := by
  refine ⟨0, rfl, by omega, ?_, ?_, ?_, (alloc2_below w _ _).trans ((alloc_below _ _).mono (by simp; omega)), by omega, by omega⟩
  · rw [heap_at, if_neg (by simp <;> omega), heap_at, if_neg (by simp)]
    exact heap_alloc_new w _
  · rw [heap_at, if_neg (by simp), heap_at, if_pos (by simp)]
  · rw [heap_at, if_pos (by simp)]
    rfl
set_option maxRecDepth 100000 in
set_option maxHeartbeats 20000000 in
theorem laws_law (d0 d1 : Bool) (n0 n1 n2 : Int) (w : World) (h0 : i64ok n0) (h1 : i64ok n1) (h2 : i64ok n2) (hg : Handle w) : Calls Tryd.prog 6 #[.agg #[.int .i64 n0, .int .i64 n1, .int .i64 n2], .agg #[.bool d0, .bool d1]] w (Ans (.bool true) w) := by
  have WH := Lib.hid whole_any
  have DC := Lib.hid dec_any
  have AL := Lib.hid aliveN_any
  have HG := Lib.hid hg
  have HN := Lib.hid (And.intro h0 (And.intro h1 h2))
  have HST := Lib.hid (lw_start w d0 d1 n0 n1 n2)
  clear h0 h1 h2 hg
  go_enter Tryd.func6, Tryd.ntmps6
  go_wp2_with fail
  go_loopw [6] (fun v6 wr => LwL w d0 d1 n0 n1 n2 v6 wr) (fun v6 _ => 2 - (intOf v6).toNat)
  case atStart => exact HST.out
  case round =>
    obtain ⟨i, rfl, hi, hs⟩ := hrel
    clear HST
    by_cases hlt : i < 2
    · obtain rfl | rfl : i = 0 ∨ i = 1 := by omega
      · have HS := Lib.hid hs
        clear hs hi
        obtain ⟨n0x, n1x, n2x⟩ := box3 HS.out.n
        obtain ⟨d0x, d1x⟩ := boxT HS.out.d
        have v0x := HS.out.cell 0 _ rfl
        have z0x := HS.out.fz 0
        have v1x := HS.out.cell 1 _ rfl
        have z1x := HS.out.fz 1
        have v2x := HS.out.cell 2 _ rfl
        have z2x := HS.out.fz 2
        go_upto_region 6 with (go_at_call 13; refine (WH.out n0 _).mono ?_; rintro e w1 ⟨rfl, hb⟩
                               have H1 := Lib.hid (HS.out.next hb)
                               clear n0x n1x n2x d0x d1x v0x v1x v2x z0x z1x z2x
                               obtain ⟨n0x, n1x, n2x⟩ := box3 H1.out.n
                               obtain ⟨d0x, d1x⟩ := boxT H1.out.d
                               have v0x := H1.out.cell 0 _ rfl
                               have z0x := H1.out.fz 0
                               have v1x := H1.out.cell 1 _ rfl
                               have z1x := H1.out.fz 1
                               have v2x := H1.out.cell 2 _ rfl
                               have z2x := H1.out.fz 2
                               clear hb)
        clear n0x n1x n2x d0x d1x v0x v1x v2x z0x z1x z2x
        have H2 := Lib.hid (H1.out.put 0 (.int .i64 2) (.int .i64 n0) (.string ⟨#[]⟩))
        obtain ⟨W2, hW2⟩ : ∃ W2, W2 = ((w1.setCell ⟨w.heap.size + 1 + 1, 0, none⟩ (.int .i64 2)).setCell ⟨w.heap.size + 1 + 1, 1, none⟩ (.int .i64 n0)).setCell ⟨w.heap.size + 1 + 1, 2, none⟩ (.string ⟨#[]⟩) := ⟨_, rfl⟩
        have HW2 := Lib.hid hW2
        rw [← hW2]
        clear hW2
        have H2 : Hid (LwS w w.heap.size (w.heap.size + 1) (w.heap.size + 1 + 1) d0 d1 n0 n1 n2 _ W2) := Lib.hid (by rw [HW2.out]; exact H2.out)
        clear HW2 H1
        obtain ⟨n0x, n1x, n2x⟩ := box3 H2.out.n
        obtain ⟨d0x, d1x⟩ := boxT H2.out.d
        have v0x := H2.out.cell 0 _ rfl
        have z0x := H2.out.fz 0
        have v1x := H2.out.cell 1 _ rfl
        have z1x := H2.out.fz 1
        have v2x := H2.out.cell 2 _ rfl
        have z2x := H2.out.fz 2
        cases d0 with
        | false =>
          have HY : Hid (∀ v6, v6 = .int .i64 ((1 : Nat) : Int) → LwL w false d1 n0 n1 n2 v6 W2) := Lib.hid fun v6 h6 => ⟨1, h6, by omega, H2.out⟩
          go_wp2_with fail
          go_roundw
          case rel => first | exact HY.out _ (by go_num) | ((repeat apply Exists.intro); exact ⟨HY.out _ (by go_num), rfl⟩)
          case measure => simp [intOf]
        | true =>
          go_wp2_with (go_at_call 14; refine (DC.out n0 _).mono ?_; rintro e w3 ⟨rfl, hb⟩
                       have H3 := Lib.hid (H2.out.next hb)
                       clear n0x n1x n2x d0x d1x v0x v1x v2x z0x z1x z2x
                       obtain ⟨n0x, n1x, n2x⟩ := box3 H3.out.n
                       obtain ⟨d0x, d1x⟩ := boxT H3.out.d
                       have v0x := H3.out.cell 0 _ rfl
                       have z0x := H3.out.fz 0
                       have v1x := H3.out.cell 1 _ rfl
                       have z1x := H3.out.fz 1
                       have v2x := H3.out.cell 2 _ rfl
                       have z2x := H3.out.fz 2
                       have HY : Hid (∀ v6, v6 = .int .i64 ((1 : Nat) : Int) → LwL w true d1 n0 n1 n2 v6 (((w3.setCell ⟨w.heap.size + 1 + 1, 0, none⟩ (.int .i64 3)).setCell ⟨w.heap.size + 1 + 1, 1, none⟩ (.int .i64 n0)).setCell ⟨w.heap.size + 1 + 1, 2, none⟩ (.string ⟨#[]⟩))) := Lib.hid fun v6 h6 => ⟨1, h6, by omega, H3.out.put 0 (.int .i64 3) (.int .i64 n0) (.string ⟨#[]⟩)⟩
                       clear hb)
          go_roundw
          case rel => first | exact HY.out _ (by go_num) | ((repeat apply Exists.intro); exact ⟨HY.out _ (by go_num), rfl⟩)
          case measure => simp [intOf]
      · have HS := Lib.hid hs
        clear hs hi
        obtain ⟨n0x, n1x, n2x⟩ := box3 HS.out.n
        obtain ⟨d0x, d1x⟩ := boxT HS.out.d
        have v0x := HS.out.cell 3 _ rfl
        have z0x := HS.out.fz 3
        have v1x := HS.out.cell 4 _ rfl
        have z1x := HS.out.fz 4
        have v2x := HS.out.cell 5 _ rfl
        have z2x := HS.out.fz 5
        go_upto_region 6 with (go_at_call 13; refine (WH.out n1 _).mono ?_; rintro e w1 ⟨rfl, hb⟩
                               have H1 := Lib.hid (HS.out.next hb)
                               clear n0x n1x n2x d0x d1x v0x v1x v2x z0x z1x z2x
                               obtain ⟨n0x, n1x, n2x⟩ := box3 H1.out.n
                               obtain ⟨d0x, d1x⟩ := boxT H1.out.d
                               have v0x := H1.out.cell 3 _ rfl
                               have z0x := H1.out.fz 3
                               have v1x := H1.out.cell 4 _ rfl
                               have z1x := H1.out.fz 4
                               have v2x := H1.out.cell 5 _ rfl
                               have z2x := H1.out.fz 5
                               clear hb)
        clear n0x n1x n2x d0x d1x v0x v1x v2x z0x z1x z2x
        have H2 := Lib.hid (H1.out.put 3 (.int .i64 2) (.int .i64 n1) (.string ⟨#[]⟩))
        obtain ⟨W2, hW2⟩ : ∃ W2, W2 = ((w1.setCell ⟨w.heap.size + 1 + 1, 3, none⟩ (.int .i64 2)).setCell ⟨w.heap.size + 1 + 1, 4, none⟩ (.int .i64 n1)).setCell ⟨w.heap.size + 1 + 1, 5, none⟩ (.string ⟨#[]⟩) := ⟨_, rfl⟩
        have HW2 := Lib.hid hW2
        rw [← hW2]
        clear hW2
        have H2 : Hid (LwS w w.heap.size (w.heap.size + 1) (w.heap.size + 1 + 1) d0 d1 n0 n1 n2 _ W2) := Lib.hid (by rw [HW2.out]; exact H2.out)
        clear HW2 H1
        obtain ⟨n0x, n1x, n2x⟩ := box3 H2.out.n
        obtain ⟨d0x, d1x⟩ := boxT H2.out.d
        have v0x := H2.out.cell 3 _ rfl
        have z0x := H2.out.fz 3
        have v1x := H2.out.cell 4 _ rfl
        have z1x := H2.out.fz 4
        have v2x := H2.out.cell 5 _ rfl
        have z2x := H2.out.fz 5
        cases d1 with
        | false =>
          have HY : Hid (∀ v6, v6 = .int .i64 ((2 : Nat) : Int) → LwL w d0 false n0 n1 n2 v6 W2) := Lib.hid fun v6 h6 => ⟨2, h6, by omega, H2.out⟩
          go_wp2_with fail
          go_roundw
          case rel => first | exact HY.out _ (by go_num) | ((repeat apply Exists.intro); exact ⟨HY.out _ (by go_num), rfl⟩)
          case measure => simp [intOf]
        | true =>
          go_wp2_with (go_at_call 14; refine (DC.out n1 _).mono ?_; rintro e w3 ⟨rfl, hb⟩
                       have H3 := Lib.hid (H2.out.next hb)
                       clear n0x n1x n2x d0x d1x v0x v1x v2x z0x z1x z2x
                       obtain ⟨n0x, n1x, n2x⟩ := box3 H3.out.n
                       obtain ⟨d0x, d1x⟩ := boxT H3.out.d
                       have v0x := H3.out.cell 3 _ rfl
                       have z0x := H3.out.fz 3
                       have v1x := H3.out.cell 4 _ rfl
                       have z1x := H3.out.fz 4
                       have v2x := H3.out.cell 5 _ rfl
                       have z2x := H3.out.fz 5
                       have HY : Hid (∀ v6, v6 = .int .i64 ((2 : Nat) : Int) → LwL w d0 true n0 n1 n2 v6 (((w3.setCell ⟨w.heap.size + 1 + 1, 3, none⟩ (.int .i64 3)).setCell ⟨w.heap.size + 1 + 1, 4, none⟩ (.int .i64 n1)).setCell ⟨w.heap.size + 1 + 1, 5, none⟩ (.string ⟨#[]⟩))) := Lib.hid fun v6 h6 => ⟨2, h6, by omega, H3.out.put 3 (.int .i64 3) (.int .i64 n1) (.string ⟨#[]⟩)⟩
                       clear hb)
          go_roundw
          case rel => first | exact HY.out _ (by go_num) | ((repeat apply Exists.intro); exact ⟨HY.out _ (by go_num), rfl⟩)
          case measure => simp [intOf]
    · obtain rfl : i = 2 := by omega
      clear hi hlt
      obtain ⟨k0, hk0⟩ : ∃ k0, Hid (k0 = kd d0) := ⟨_, Lib.hid rfl⟩
      obtain ⟨k1, hk1⟩ : ∃ k1, Hid (k1 = kd d1) := ⟨_, Lib.hid rfl⟩
      have hk23 : k0 = 2 ∨ k0 = 3 := by rw [hk0.out]; exact kd_23 _
      have hk24 : k1 = 2 ∨ k1 = 3 := by rw [hk1.out]; exact kd_23 _
      have RA := Lib.hid (reckon_all 3 k0 n0 k1 n1 hk23 hk24 HN.out.1 HN.out.2.1)
      have RB := Lib.hid (reckon_all 3 k1 n1 k0 n0 hk24 hk23 HN.out.2.1 HN.out.1)
      have RC := Lib.hid (reckon_all 5 k0 n0 k1 n1 hk23 hk24 HN.out.1 HN.out.2.1)
      have RD := Lib.hid (reckon_all 5 k1 n1 k0 n0 hk24 hk23 HN.out.2.1 HN.out.1)
      have HRL := Lib.hid (And.intro (laws_comm (op := 3) (n := n0) (m := n1) (.inl rfl) hk23 hk24) (laws_comm (op := 5) (n := n0) (m := n1) (.inr rfl) hk23 hk24))
      have hu : i64ok (unitI k0) := by rcases hk23 with rfl | rfl <;> (unfold unitI i64ok; omega)
      have RX := Lib.hid (reckon_good2 (laws_one hk23 HN.out.1) hk23 hk23 HN.out.1 hu)
      have RY := Lib.hid (reckon_good2 (laws_zero hk23 HN.out.1) hk23 hk23 HN.out.1 (by unfold i64ok; omega))
      have RZ := Lib.hid (reckon_good2 (laws_div hk23 HN.out.1) hk23 hk23 HN.out.1 hu)
      have HS0 : Hid (LwB w w.heap.size (w.heap.size + 1) (w.heap.size + 1 + 1) d0 d1 n0 n1 n2 #[.int .i64 k0, .int .i64 n0, .string ⟨#[]⟩, .int .i64 k1, .int .i64 n1, .string ⟨#[]⟩] [] wr) := Lib.hid ⟨by
        rw [hk0.out, hk1.out]
        exact hs, fun x hx => by cases hx⟩
      clear hs hk23 hk24 hu
      obtain ⟨n0x, n1x, n2x⟩ := box3 HS0.out.s.n
      have v0x := HS0.out.s.cell 0 _ rfl
      have v1x := HS0.out.s.cell 1 _ rfl
      have v2x := HS0.out.s.cell 2 _ rfl
      have v3x := HS0.out.s.cell 3 _ rfl
      have v4x := HS0.out.s.cell 4 _ rfl
      have v5x := HS0.out.s.cell 5 _ rfl
      go_upto_if 80 with (first
        | (go_at_call 15; (with_reducible refine (RA.out _).mono ?_); rintro e w8 ⟨e8, k8, m8, rfl, hq8, hb8⟩
           clear n0x n1x n2x v0x v1x v2x v3x v4x v5x
           have H8 := Lib.hid (HS0.out.push hb8 k8 m8)
           have Q8 := Lib.hid hq8
           clear hb8 hq8
           obtain ⟨n0x, n1x, n2x⟩ := box3 H8.out.s.n
           have v0x := H8.out.s.cell 0 _ rfl
           have v1x := H8.out.s.cell 1 _ rfl
           have v2x := H8.out.s.cell 2 _ rfl
           have v3x := H8.out.s.cell 3 _ rfl
           have v4x := H8.out.s.cell 4 _ rfl
           have v5x := H8.out.s.cell 5 _ rfl)
        | (go_at_call 15; (with_reducible refine (RB.out _).mono ?_); rintro e w9 ⟨e9, k9, m9, rfl, hq9, hb9⟩
           clear n0x n1x n2x v0x v1x v2x v3x v4x v5x
           have H9 := Lib.hid (H8.out.push hb9 k9 m9)
           have Q9 := Lib.hid hq9
           clear hb9 hq9
           obtain ⟨n0x, n1x, n2x⟩ := box3 H9.out.s.n
           have v0x := H9.out.s.cell 0 _ rfl
           have v1x := H9.out.s.cell 1 _ rfl
           have v2x := H9.out.s.cell 2 _ rfl
           have v3x := H9.out.s.cell 3 _ rfl
           have v4x := H9.out.s.cell 4 _ rfl
           have v5x := H9.out.s.cell 5 _ rfl)
        | (go_at_call 15; (with_reducible refine (RC.out _).mono ?_); rintro e w10 ⟨e10, k10, m10, rfl, hq10, hb10⟩
           clear n0x n1x n2x v0x v1x v2x v3x v4x v5x
           have H10 := Lib.hid (H9.out.push hb10 k10 m10)
           have Q10 := Lib.hid hq10
           clear hb10 hq10
           obtain ⟨n0x, n1x, n2x⟩ := box3 H10.out.s.n
           have v0x := H10.out.s.cell 0 _ rfl
           have v1x := H10.out.s.cell 1 _ rfl
           have v2x := H10.out.s.cell 2 _ rfl
           have v3x := H10.out.s.cell 3 _ rfl
           have v4x := H10.out.s.cell 4 _ rfl
           have v5x := H10.out.s.cell 5 _ rfl)
        | (go_at_call 15; (with_reducible refine (RD.out _).mono ?_); rintro e w11 ⟨e11, k11, m11, rfl, hq11, hb11⟩
           clear n0x n1x n2x v0x v1x v2x v3x v4x v5x
           have H11 := Lib.hid (H10.out.push hb11 k11 m11)
           have Q11 := Lib.hid hq11
           clear hb11 hq11
           obtain ⟨n0x, n1x, n2x⟩ := box3 H11.out.s.n
           have v0x := H11.out.s.cell 0 _ rfl
           have v1x := H11.out.s.cell 1 _ rfl
           have v2x := H11.out.s.cell 2 _ rfl
           have v3x := H11.out.s.cell 3 _ rfl
           have v4x := H11.out.s.cell 4 _ rfl
           have v5x := H11.out.s.cell 5 _ rfl)
        | (go_at_call 13; (with_reducible refine (WH.out 1 _).mono ?_); rintro e w12 ⟨rfl, hb12⟩
           clear n0x n1x n2x v0x v1x v2x v3x v4x v5x
           have H12 := Lib.hid (H11.out.push hb12 2 1)
           have HB12 := Lib.hid hb12
           clear hb12
           obtain ⟨n0x, n1x, n2x⟩ := box3 H12.out.s.n
           have v0x := H12.out.s.cell 0 _ rfl
           have v1x := H12.out.s.cell 1 _ rfl
           have v2x := H12.out.s.cell 2 _ rfl
           have v3x := H12.out.s.cell 3 _ rfl
           have v4x := H12.out.s.cell 4 _ rfl
           have v5x := H12.out.s.cell 5 _ rfl
           obtain ⟨c0, c1, c2⟩ := box3 (H12.out.b _ (.head _))
           obtain ⟨d0x, d1x⟩ := boxT H12.out.s.d))
      go_cut [] (fun wx => LwB w w.heap.size (w.heap.size + 1) (w.heap.size + 1 + 1) d0 d1 n0 n1 n2 #[.int .i64 k0, .int .i64 n0, .string ⟨#[]⟩, .int .i64 k1, .int .i64 n1, .string ⟨#[]⟩] [(w12.heap.size, k0, unitI k0), (w11.heap.size, k11, m11), (w10.heap.size, k10, m10), (w9.heap.size, k9, m9), (w8.heap.size, k8, m8)] wx)
      case first =>
        cases d0 with
        | false =>
          have hk : k0 = 2 := hk0.out
          subst hk
          go_wp2_with fail
          go_meet
          exact H12.out
        | true =>
          have hk : k0 = 3 := hk0.out
          subst hk
          have z0 := frozen3 (H12.out.b _ (.head _)) 0
          have z1 := frozen3 (H12.out.b _ (.head _)) 1
          have z2 := frozen3 (H12.out.b _ (.head _)) 2
          go_wp2_with (go_at_call 14; (with_reducible refine (DC.out 10000 _).mono ?_); rintro e w13 ⟨rfl, hb13⟩
                       have H13 := Lib.hid (H12.out.next hb13)
                       have HB13 := Lib.hid hb13
                       clear c0 c1 c2 z0 z1 z2 hb13
                       obtain ⟨c0, c1, c2⟩ := box3 (H13.out.b _ (.head _))
                       have z0 := frozen3 (H13.out.b _ (.head _)) 0
                       have z1 := frozen3 (H13.out.b _ (.head _)) 1
                       have z2 := frozen3 (H13.out.b _ (.head _)) 2)
          go_meet
          exact H11.out.one HB12.out HB13.out
      case rest =>
        obtain ⟨W1, hW1, hs1⟩ := LwB.world hcut
        subst hW1
        have H14 := Lib.hid hs1
        clear hs1 hcut H8 H9 H10 H11 H12 HB12 RA RB RC RD n0x n1x n2x v0x v1x v2x v3x v4x v5x c0 c1 c2 d0x d1x
        generalize w12.heap.size = go at H14 ⊢
        generalize w11.heap.size = gd at H14 ⊢
        generalize w10.heap.size = gc at H14 ⊢
        generalize w9.heap.size = gb at H14 ⊢
        generalize w8.heap.size = ga at H14 ⊢
        as_aux_lemma =>
          obtain ⟨n0x, n1x, n2x⟩ := box3 H14.out.s.n
          have v0x := H14.out.s.cell 0 _ rfl
          have v1x := H14.out.s.cell 1 _ rfl
          have v2x := H14.out.s.cell 2 _ rfl
          have v3x := H14.out.s.cell 3 _ rfl
          have v4x := H14.out.s.cell 4 _ rfl
          have v5x := H14.out.s.cell 5 _ rfl
          obtain ⟨c0, c1, c2⟩ := box3 (H14.out.b _ (.head _))
          go_upto_region 18 with (first
            | (go_at_call 15; (with_reducible refine (RX.out _).mono ?_); rintro e w15 ⟨rfl, hb15⟩
               clear n0x n1x n2x v0x v1x v2x v3x v4x v5x c0 c1 c2
               have H15 := Lib.hid (H14.out.push hb15 k0 n0)
               clear hb15
               obtain ⟨n0x, n1x, n2x⟩ := box3 H15.out.s.n
               have v0x := H15.out.s.cell 0 _ rfl
               have v1x := H15.out.s.cell 1 _ rfl
               have v2x := H15.out.s.cell 2 _ rfl
               have v3x := H15.out.s.cell 3 _ rfl
               have v4x := H15.out.s.cell 4 _ rfl
               have v5x := H15.out.s.cell 5 _ rfl
               obtain ⟨c0, c1, c2⟩ := box3 (H15.out.b _ (.tail _ (.head _))))
            | (go_at_call 15; (with_reducible refine (RY.out _).mono ?_); rintro e w16 ⟨rfl, hb16⟩
               clear n0x n1x n2x v0x v1x v2x v3x v4x v5x c0 c1 c2
               have H16 := Lib.hid (H15.out.push hb16 k0 n0)
               clear hb16
               obtain ⟨n0x, n1x, n2x⟩ := box3 H16.out.s.n
               have v0x := H16.out.s.cell 0 _ rfl
               have v1x := H16.out.s.cell 1 _ rfl
               have v2x := H16.out.s.cell 2 _ rfl
               have v3x := H16.out.s.cell 3 _ rfl
               have v4x := H16.out.s.cell 4 _ rfl
               have v5x := H16.out.s.cell 5 _ rfl
               obtain ⟨c0, c1, c2⟩ := box3 (H16.out.b _ (.tail _ (.tail _ (.head _)))))
            | (go_at_call 15; (with_reducible refine (RZ.out _).mono ?_); rintro e w17 ⟨rfl, hb17⟩
               clear n0x n1x n2x v0x v1x v2x v3x v4x v5x c0 c1 c2
               have H17 := Lib.hid (H16.out.push hb17 k0 n0)
               clear hb17
               obtain ⟨n0x, n1x, n2x⟩ := box3 H17.out.s.n
               have v0x := H17.out.s.cell 0 _ rfl
               have v1x := H17.out.s.cell 1 _ rfl
               have v2x := H17.out.s.cell 2 _ rfl
               have v3x := H17.out.s.cell 3 _ rfl
               have v4x := H17.out.s.cell 4 _ rfl
               have v5x := H17.out.s.cell 5 _ rfl
               obtain ⟨c0, c1, c2⟩ := box3 (H17.out.b _ (.tail _ (.tail _ (.tail _ (.head _)))))))
          have HX := Lib.hid H17.out
          generalize w17.alloc (.cells #[.int .i64 k0, .int .i64 n0, .string ⟨#[]⟩] 25) = W2 at HX ⊢
          generalize w17.heap.size = gz at HX ⊢
          generalize w16.heap.size = gy at HX ⊢
          generalize w15.heap.size = gx at HX ⊢
          clear H14 H15 H16 H17 RX RY RZ n0x n1x n2x v0x v1x v2x v3x v4x v5x c0 c1 c2
          go_cut [157] (fun v157 wx => LwF w w.heap.size (w.heap.size + 1) (w.heap.size + 1 + 1) d0 d1 n0 n1 n2 #[.int .i64 k0, .int .i64 n0, .string ⟨#[]⟩, .int .i64 k1, .int .i64 n1, .string ⟨#[]⟩] v157 wx)
          case first =>
            obtain ⟨n0x, n1x, n2x⟩ := box3 HX.out.s.n
            have v0x := HX.out.s.cell 0 _ rfl
            have v1x := HX.out.s.cell 1 _ rfl
            have v2x := HX.out.s.cell 2 _ rfl
            have v3x := HX.out.s.cell 3 _ rfl
            have v4x := HX.out.s.cell 4 _ rfl
            have v5x := HX.out.s.cell 5 _ rfl
            obtain ⟨p0, p1, p2⟩ := box3 (HX.out.b _ (.head _))
            obtain ⟨q0, q1, q2⟩ := box3 (HX.out.b _ (.tail _ (.head _)))
            obtain ⟨r0, r1, r2⟩ := box3 (HX.out.b _ (.tail _ (.tail _ (.head _))))
            obtain ⟨s0, s1, s2⟩ := box3 (HX.out.b _ (.tail _ (.tail _ (.tail _ (.tail _ (.head _))))))
            obtain ⟨t0, t1, t2⟩ := box3 (HX.out.b _ (.tail _ (.tail _ (.tail _ (.tail _ (.tail _ (.head _)))))))
            obtain ⟨u0, u1, u2⟩ := box3 (HX.out.b _ (.tail _ (.tail _ (.tail _ (.tail _ (.tail _ (.tail _ (.head _))))))))
            obtain ⟨x0, x1, x2⟩ := box3 (HX.out.b _ (.tail _ (.tail _ (.tail _ (.tail _ (.tail _ (.tail _ (.tail _ (.head _)))))))))
            have f0 := eqB_one k0 n0
            obtain ⟨hab, hac, hae⟩ := rk_same HRL.out.1 Q8.out Q9.out
            obtain ⟨hcd, hce, hcf⟩ := rk_same HRL.out.2 Q10.out Q11.out
            subst hab hac hcd hce
            have f1 := eqB_one k8 m8
            have f2 := eqB_one k10 m10
            rcases hae with ⟨rfl, rfl⟩ | ⟨N1, N2, rfl, rfl⟩ <;> rcases hcf with ⟨rfl, rfl⟩ | ⟨N3, N4, rfl, rfl⟩
            all_goals
              go_quiet (fail)
              go_wp2_with fail
              go_meet
              exact ⟨rfl, HX.out.s.next (drewN_below W2 _)⟩
          case rest =>
            obtain ⟨W3, hW3, rfl, hs3⟩ := LwF.world hcut
            subst hW3
            have HS := Lib.hid hs3
            clear hs3 hcut HX Q8 Q9 Q10 Q11 HRL
            as_aux_lemma =>
              have HM0 : Hid (LmR n0 n1 n2 (.int .i64 0)) := Lib.hid ⟨0, rfl, by omega, fun h => absurd h (by omega), fun h => absurd h (by omega), fun h => absurd h (by omega)⟩
              go_wp2_with fail
              go_loop [22] (fun v22 => LmR n0 n1 n2 v22) (fun v22 => 3 - (intOf v22).toNat)
              case atStart => exact HM0.out
              case round =>
                obtain ⟨m, rfl, hm, s0, s1, s2⟩ := hrel
                have HI := Lib.hid (And.intro s0 (And.intro s1 s2))
                clear HM0 s0 s1 s2
                by_cases hlt : m < 3
                · obtain rfl | rfl | rfl : m = 0 ∨ m = 1 ∨ m = 2 := by omega
                  · clear hm hlt
                    obtain ⟨n0x, n1x, n2x⟩ := box3 HS.out.n
                    by_cases h1 : n0 ≤ -1048576
                    · go_wp2_with (first
                        | (go_at_call 7; refine (AL.out _ (HG.out.below HS.out.bel)).mono ?_; rintro e w14 ⟨rfl, hb⟩
                           have HE := Lib.hid (HS.out.next hb)
                           clear hb))
                      go_ret
                      exact ⟨rfl, HE.out.bel⟩
                    · by_cases h2 : 1048576 ≤ n0
                      · go_wp2_with (first
                          | (go_at_call 7; refine (AL.out _ (HG.out.below HS.out.bel)).mono ?_; rintro e w14 ⟨rfl, hb⟩
                             have HE := Lib.hid (HS.out.next hb)
                             clear hb))
                        go_ret
                        exact ⟨rfl, HE.out.bel⟩
                      · have HY : Hid (∀ v, v = .int .i64 ((1 : Nat) : Int) → LmR n0 n1 n2 v) := Lib.hid fun v h => ⟨1, h, by omega, fun _ => ⟨by omega, by omega⟩, fun h => absurd h (by omega), fun h => absurd h (by omega)⟩
                        go_wp2_with fail
                        go_round
                        case rel => exact HY.out _ (by go_num)
                        case measure => simp [intOf]
                  · clear hm hlt
                    obtain ⟨n0x, n1x, n2x⟩ := box3 HS.out.n
                    by_cases h1 : n1 ≤ -1048576
                    · go_wp2_with (first
                        | (go_at_call 7; refine (AL.out _ (HG.out.below HS.out.bel)).mono ?_; rintro e w14 ⟨rfl, hb⟩
                           have HE := Lib.hid (HS.out.next hb)
                           clear hb))
                      go_ret
                      exact ⟨rfl, HE.out.bel⟩
                    · by_cases h2 : 1048576 ≤ n1
                      · go_wp2_with (first
                          | (go_at_call 7; refine (AL.out _ (HG.out.below HS.out.bel)).mono ?_; rintro e w14 ⟨rfl, hb⟩
                             have HE := Lib.hid (HS.out.next hb)
                             clear hb))
                        go_ret
                        exact ⟨rfl, HE.out.bel⟩
                      · have HY : Hid (∀ v, v = .int .i64 ((2 : Nat) : Int) → LmR n0 n1 n2 v) := Lib.hid fun v h => ⟨2, h, by omega, fun _ => HI.out.1 (by omega), fun _ => ⟨by omega, by omega⟩, fun h => absurd h (by omega)⟩
                        go_wp2_with fail
                        go_round
                        case rel => exact HY.out _ (by go_num)
                        case measure => simp [intOf]
                  · clear hm hlt
                    obtain ⟨n0x, n1x, n2x⟩ := box3 HS.out.n
                    by_cases h1 : n2 ≤ -1048576
                    · go_wp2_with (first
                        | (go_at_call 7; refine (AL.out _ (HG.out.below HS.out.bel)).mono ?_; rintro e w14 ⟨rfl, hb⟩
                           have HE := Lib.hid (HS.out.next hb)
                           clear hb))
                      go_ret
                      exact ⟨rfl, HE.out.bel⟩
                    · by_cases h2 : 1048576 ≤ n2
                      · go_wp2_with (first
                          | (go_at_call 7; refine (AL.out _ (HG.out.below HS.out.bel)).mono ?_; rintro e w14 ⟨rfl, hb⟩
                             have HE := Lib.hid (HS.out.next hb)
                             clear hb))
                        go_ret
                        exact ⟨rfl, HE.out.bel⟩
                      · have HY : Hid (∀ v, v = .int .i64 ((3 : Nat) : Int) → LmR n0 n1 n2 v) := Lib.hid fun v h => ⟨3, h, by omega, fun _ => HI.out.1 (by omega), fun _ => HI.out.2.1 (by omega), fun _ => ⟨by omega, by omega⟩⟩
                        go_wp2_with fail
                        go_round
                        case rel => exact HY.out _ (by go_num)
                        case measure => simp [intOf]
                · obtain rfl : m = 3 := by omega
                  clear hm hlt
                  have s0 := HI.out.1 (by omega)
                  have s1 := HI.out.2.1 (by omega)
                  have s2 := HI.out.2.2 (by omega)
                  obtain ⟨s, hs⟩ : ∃ s, s = n0 * n1 := ⟨_, rfl⟩
                  obtain ⟨u, hu⟩ : ∃ u, u = n1 * n2 := ⟨_, rfl⟩
                  obtain ⟨P, hP⟩ : ∃ P, P = s * n2 := ⟨_, rfl⟩
                  have hP2 : n0 * u = P := by rw [hP, hs, hu, Int.mul_assoc]
                  have b1 : i64ok s := by have := mul_small s0 s1; rw [← hs] at this; unfold i64ok; omega
                  have b2 : i64ok u := by have := mul_small s1 s2; rw [← hu] at this; unfold i64ok; omega
                  have b3 : i64ok P := by have := mul_three s0 s1 s2; rw [← hs, ← hP] at this; unfold i64ok; omega
                  have l1 := laws_mul HN.out.1 HN.out.2.1 (by rw [← hs]; exact b1)
                  have l2 := laws_mul b1 HN.out.2.2 (by rw [← hP]; exact b3)
                  have l3 := laws_mul HN.out.2.1 HN.out.2.2 (by rw [← hu]; exact b2)
                  have l4 := laws_mul HN.out.1 b2 (by rw [hP2]; exact b3)
                  rw [← hs] at l1
                  rw [← hP] at l2
                  rw [← hu] at l3
                  rw [hP2] at l4
                  have R1 := Lib.hid (reckon_good2 l1 (.inl rfl) (.inl rfl) HN.out.1 HN.out.2.1)
                  have R2 := Lib.hid (reckon_good2 l2 (.inl rfl) (.inl rfl) b1 HN.out.2.2)
                  have R3 := Lib.hid (reckon_good2 l3 (.inl rfl) (.inl rfl) HN.out.2.1 HN.out.2.2)
                  have R4 := Lib.hid (reckon_good2 l4 (.inl rfl) (.inl rfl) HN.out.1 b2)
                  have K1 : Hid (IntKind.i64.wrap (n0 * n1) = s) := Lib.hid (by rw [← hs]; exact IntWalk.i64_in _ (by unfold i64ok at b1; omega))
                  have K2 : Hid (IntKind.i64.wrap (s * n2) = P) := Lib.hid (by rw [← hP]; exact IntWalk.i64_in _ (by unfold i64ok at b3; omega))
                  have HQ : Hid (∀ W, Below W3.heap.size W3 W → (W.cell? ⟨w.heap.size, 0, none⟩ = some (.int .i64 n0) ∧ W.cell? ⟨w.heap.size, 1, none⟩ = some (.int .i64 n1) ∧ W.cell? ⟨w.heap.size, 2, none⟩ = some (.int .i64 n2))) := Lib.hid fun W h => box3 ((h.block _ (Array.getElem?_eq_some_iff.1 HS.out.n).1).trans HS.out.n)
                  clear s0 s1 s2 hs hu hP hP2 b1 b2 b3 l1 l2 l3 l4 HI
                  go_upto_region 25 with fail
                  go_cut [23, 24] (fun va vb wx => LwP W3 s va vb wx)
                  case first =>
                    go_region_held3 (fun W => (W.cell? ⟨w.heap.size, 0, none⟩ = some (.int .i64 n0) ∧ W.cell? ⟨w.heap.size, 1, none⟩ = some (.int .i64 n1) ∧ W.cell? ⟨w.heap.size, 2, none⟩ = some (.int .i64 n2)))
                      (first
                        | exact HQ.out _ HC.out
                        | exact HQ.out _ (HC.out.trans ((alloc_below _ _).mono HC.out.size))
                        | exact HQ.out _ (set3_below0 HC.out (by first | exact Nat.le_refl _ | exact HA.out.size | exact HBB.out.size) _ _ _)
                        | exact HQ.out _ HBB.out
                        | exact HQ.out _ (HBB.out.trans ((alloc_below _ _).mono HBB.out.size))
                        | exact HQ.out _ HA.out
                        | exact HQ.out _ (HA.out.trans ((alloc_below _ _).mono HA.out.size))
                        | exact HQ.out _ (drew_below _)
                        | exact HQ.out _ ((drew_below _).trans ((alloc_below _ _).mono (Nat.le_refl _))))
                      (first
                      | (go_at_call 13; (with_reducible refine (WH.out n0 _).mono ?_); rintro e wA ⟨rfl, hbA⟩
                         have HA : Hid (Below W3.heap.size W3 wA) := Lib.hid (by first | exact (drew_below W3).trans hbA | exact ((drew_below W3).trans ((alloc_below _ _).mono (Nat.le_refl _))).trans (hbA.mono (by simp)))
                         (first
                           | (have hx := (hbA.block W3.heap.size (by simp)).trans (heap_alloc_new W3.drew (.cells #[.int .i64 0, .int .i64 0, .string ⟨#[]⟩] 25))
                              have HZ := Lib.hid hx
                              clear hx)
                           | skip)
                         clear hbA)
                      | (go_at_call 13; (with_reducible refine (WH.out n1 _).mono ?_); rintro e wB ⟨rfl, hbB⟩
                         have HBB : Hid (Below W3.heap.size W3 wB) := Lib.hid (by first | exact HA.out.trans (hbB.mono HA.out.size) | exact (HA.out.trans ((alloc_below wA _).mono HA.out.size)).trans (hbB.mono (by have := HA.out.size; simp; omega)))
                         (first
                           | (have hx := (hbB.block wA.heap.size (by simp)).trans (heap_alloc_new wA (.cells #[.int .i64 0, .int .i64 0, .string ⟨#[]⟩] 25))
                              have HZ := Lib.hid hx
                              clear hx)
                           | (have hx := (hbB.block W3.heap.size (by have := HA.out.size; have := (Array.getElem?_eq_some_iff.1 HZ.out).1; omega)).trans HZ.out
                              have HZ := Lib.hid hx
                              clear hx)
                           | skip)
                         clear hbB)
                      | (go_at_call 15; (with_reducible refine (R1.out _).mono ?_); rintro e wC ⟨rfl, hbC⟩
                         have HC : Hid (Below W3.heap.size W3 wC) := Lib.hid (by first | exact HBB.out.trans (hbC.mono HBB.out.size) | exact (HBB.out.trans ((alloc_below wB _).mono HBB.out.size)).trans (hbC.mono (by have := HBB.out.size; simp; omega)))
                         (first
                           | (have hx := (hbC.block wB.heap.size (by simp)).trans (heap_alloc_new wB (.cells #[.int .i64 0, .int .i64 0, .string ⟨#[]⟩] 25))
                              have HZ := Lib.hid hx
                              obtain ⟨r0, r1, r2⟩ := box3 hx
                              have z0 := frozen3 hx 0
                              have z1 := frozen3 hx 1
                              have z2 := frozen3 hx 2
                              clear hx)
                           | (have hx := (hbC.block wA.heap.size (by have := (Array.getElem?_eq_some_iff.1 HZ.out).1; omega)).trans HZ.out
                              have HZ := Lib.hid hx
                              obtain ⟨r0, r1, r2⟩ := box3 hx
                              have z0 := frozen3 hx 0
                              have z1 := frozen3 hx 1
                              have z2 := frozen3 hx 2
                              clear hx)
                           | (have hx := (hbC.block W3.heap.size (by have := (Array.getElem?_eq_some_iff.1 HZ.out).1; omega)).trans HZ.out
                              have HZ := Lib.hid hx
                              obtain ⟨r0, r1, r2⟩ := box3 hx
                              have z0 := frozen3 hx 0
                              have z1 := frozen3 hx 1
                              have z2 := frozen3 hx 2
                              clear hx)
                           | skip)
                         clear hbC)
                      | fail)
                    all_goals
                      go_wp2_with fail
                      go_meet
                      first
                        | exact ⟨_, rfl, rfl, heap_alloc_new wC _, HC.out.trans ((alloc_below wC _).mono HC.out.size), HC.out.size⟩
                        | exact ⟨_, rfl, rfl, heap_set3 HZ.out, set3_below0 HC.out (Nat.le_refl _) _ _ _, Nat.le_refl _⟩
                        | exact ⟨_, rfl, rfl, heap_set3 HZ.out, set3_below0 HC.out HA.out.size _ _ _, HA.out.size⟩
                        | exact ⟨_, rfl, rfl, heap_set3 HZ.out, set3_below0 HC.out HBB.out.size _ _ _, HBB.out.size⟩
                  case rest =>
                    obtain ⟨W4, hW4, hq⟩ := LwP.world hcut
                    subst hW4
                    obtain ⟨gp, rfl, rfl, hp, hb4, hge⟩ := hq
                    have HP := Lib.hid hp
                    have HB4 := Lib.hid hb4
                    have HGE := Lib.hid hge
                    clear hp hb4 hge hcut
                    as_aux_lemma =>
                      obtain ⟨p0, p1, p2⟩ := box3 HP.out
                      have z0 := frozen3 HP.out 0
                      have z1 := frozen3 HP.out 1
                      have z2 := frozen3 HP.out 2
                      obtain ⟨n0x, n1x, n2x⟩ := HQ.out _ HB4.out
                      go_upto_region 26 with fail
                      go_cut [] (fun wx => LwO W3 gp P wx)
                      case first =>
                        go_region_law (first
                          | (go_simp; go_at_call 13; (with_reducible refine (WH.out n2 _).mono ?_); rintro e wA ⟨rfl, hbA⟩
                             have HA : Hid (Below W4.heap.size W4 wA) := Lib.hid (by first | exact (drew_below W4).trans hbA | exact (drewN_below W4 _).trans hbA)
                             have HPA := Lib.hid ((HA.out.block gp (Array.getElem?_eq_some_iff.1 HP.out).1).trans HP.out)
                             clear p0 p1 p2 z0 z1 z2 n0x n1x n2x hbA
                             obtain ⟨p0, p1, p2⟩ := box3 HPA.out
                             obtain ⟨n0x, n1x, n2x⟩ := HQ.out _ (HB4.out.trans (HA.out.mono HB4.out.size)))
                          | (go_simp; go_at_call 15; (with_reducible refine (R2.out _).mono ?_); rintro e wB ⟨rfl, hbB⟩
                             have HC := Lib.hid (HB4.out.trans ((HA.out.trans (hbB.mono HA.out.size)).mono HB4.out.size))
                             have HPB := Lib.hid ((hbB.block gp (Array.getElem?_eq_some_iff.1 HPA.out).1).trans HPA.out)
                             clear p0 p1 p2 n0x n1x n2x hbB
                             obtain ⟨p0, p1, p2⟩ := box3 HPB.out
                             have z0 := frozen3 HPB.out 0
                             have z1 := frozen3 HPB.out 1
                             have z2 := frozen3 HPB.out 2))
                        all_goals
                          go_wp2_with fail
                          go_meet
                          exact ⟨heap_set3 HPB.out, set3_below0 HC.out HGE.out _ _ _⟩
                      case rest =>
                        obtain ⟨W5, hW5, hq⟩ := LwO.world hcut
                        subst hW5
                        have HP5 := Lib.hid hq.1
                        have HB5 := Lib.hid hq.2
                        clear hq hcut HP HB4 HGE R1 R2 p0 p1 p2 z0 z1 z2 n0x n1x n2x
                        have HQ5 : Hid (∀ W, Below W5.heap.size W5 W → (W.cell? ⟨w.heap.size, 0, none⟩ = some (.int .i64 n0) ∧ W.cell? ⟨w.heap.size, 1, none⟩ = some (.int .i64 n1) ∧ W.cell? ⟨w.heap.size, 2, none⟩ = some (.int .i64 n2))) := Lib.hid fun W h => HQ.out W (HB5.out.trans (h.mono HB5.out.size))
                        as_aux_lemma =>
                          go_upto_region 27 with fail
                          go_cut [25, 26] (fun va vb wx => LwP W5 u va vb wx)
                          case first =>
                            go_region_held3 (fun W => (W.cell? ⟨w.heap.size, 0, none⟩ = some (.int .i64 n0) ∧ W.cell? ⟨w.heap.size, 1, none⟩ = some (.int .i64 n1) ∧ W.cell? ⟨w.heap.size, 2, none⟩ = some (.int .i64 n2)))
                              (first
                                | exact HQ5.out _ HC.out
                                | exact HQ5.out _ (HC.out.trans ((alloc_below _ _).mono HC.out.size))
                                | exact HQ5.out _ (set3_below0 HC.out (by first | exact Nat.le_refl _ | exact HA.out.size | exact HBB.out.size) _ _ _)
                                | exact HQ5.out _ HBB.out
                                | exact HQ5.out _ (HBB.out.trans ((alloc_below _ _).mono HBB.out.size))
                                | exact HQ5.out _ HA.out
                                | exact HQ5.out _ (HA.out.trans ((alloc_below _ _).mono HA.out.size))
                                | exact HQ5.out _ (drew_below _)
                                | exact HQ5.out _ ((drew_below _).trans ((alloc_below _ _).mono (Nat.le_refl _))))
                              (first
                              | (go_at_call 13; (with_reducible refine (WH.out n1 _).mono ?_); rintro e wA ⟨rfl, hbA⟩
                                 have HA : Hid (Below W5.heap.size W5 wA) := Lib.hid (by first | exact (drew_below W5).trans hbA | exact ((drew_below W5).trans ((alloc_below _ _).mono (Nat.le_refl _))).trans (hbA.mono (by simp)))
                                 (first
                                   | (have hx := (hbA.block W5.heap.size (by simp)).trans (heap_alloc_new W5.drew (.cells #[.int .i64 0, .int .i64 0, .string ⟨#[]⟩] 25))
                                      have HZ := Lib.hid hx
                                      clear hx)
                                   | skip)
                                 clear hbA)
                              | (go_at_call 13; (with_reducible refine (WH.out n2 _).mono ?_); rintro e wB ⟨rfl, hbB⟩
                                 have HBB : Hid (Below W5.heap.size W5 wB) := Lib.hid (by first | exact HA.out.trans (hbB.mono HA.out.size) | exact (HA.out.trans ((alloc_below wA _).mono HA.out.size)).trans (hbB.mono (by have := HA.out.size; simp; omega)))
                                 (first
                                   | (have hx := (hbB.block wA.heap.size (by simp)).trans (heap_alloc_new wA (.cells #[.int .i64 0, .int .i64 0, .string ⟨#[]⟩] 25))
                                      have HZ := Lib.hid hx
                                      clear hx)
                                   | (have hx := (hbB.block W5.heap.size (by have := HA.out.size; have := (Array.getElem?_eq_some_iff.1 HZ.out).1; omega)).trans HZ.out
                                      have HZ := Lib.hid hx
                                      clear hx)
                                   | skip)
                                 clear hbB)
                              | (go_at_call 15; (with_reducible refine (R3.out _).mono ?_); rintro e wC ⟨rfl, hbC⟩
                                 have HC : Hid (Below W5.heap.size W5 wC) := Lib.hid (by first | exact HBB.out.trans (hbC.mono HBB.out.size) | exact (HBB.out.trans ((alloc_below wB _).mono HBB.out.size)).trans (hbC.mono (by have := HBB.out.size; simp; omega)))
                                 (first
                                   | (have hx := (hbC.block wB.heap.size (by simp)).trans (heap_alloc_new wB (.cells #[.int .i64 0, .int .i64 0, .string ⟨#[]⟩] 25))
                                      have HZ := Lib.hid hx
                                      obtain ⟨r0, r1, r2⟩ := box3 hx
                                      have z0 := frozen3 hx 0
                                      have z1 := frozen3 hx 1
                                      have z2 := frozen3 hx 2
                                      clear hx)
                                   | (have hx := (hbC.block wA.heap.size (by have := (Array.getElem?_eq_some_iff.1 HZ.out).1; omega)).trans HZ.out
                                      have HZ := Lib.hid hx
                                      obtain ⟨r0, r1, r2⟩ := box3 hx
                                      have z0 := frozen3 hx 0
                                      have z1 := frozen3 hx 1
                                      have z2 := frozen3 hx 2
                                      clear hx)
                                   | (have hx := (hbC.block W5.heap.size (by have := (Array.getElem?_eq_some_iff.1 HZ.out).1; omega)).trans HZ.out
                                      have HZ := Lib.hid hx
                                      obtain ⟨r0, r1, r2⟩ := box3 hx
                                      have z0 := frozen3 hx 0
                                      have z1 := frozen3 hx 1
                                      have z2 := frozen3 hx 2
                                      clear hx)
                                   | skip)
                                 clear hbC)
                              | fail)
                            all_goals
                              go_wp2_with fail
                              go_meet
                              first
                                | exact ⟨_, rfl, rfl, heap_alloc_new wC _, HC.out.trans ((alloc_below wC _).mono HC.out.size), HC.out.size⟩
                                | exact ⟨_, rfl, rfl, heap_set3 HZ.out, set3_below0 HC.out (Nat.le_refl _) _ _ _, Nat.le_refl _⟩
                                | exact ⟨_, rfl, rfl, heap_set3 HZ.out, set3_below0 HC.out HA.out.size _ _ _, HA.out.size⟩
                                | exact ⟨_, rfl, rfl, heap_set3 HZ.out, set3_below0 HC.out HBB.out.size _ _ _, HBB.out.size⟩
                          case rest =>
                            obtain ⟨W6, hW6, hq⟩ := LwP.world hcut
                            subst hW6
                            obtain ⟨gq, rfl, rfl, hp, hb4, hge⟩ := hq
                            have HP := Lib.hid hp
                            have HB4 := Lib.hid hb4
                            have HGE := Lib.hid hge
                            clear hp hb4 hge hcut
                            as_aux_lemma =>
                              obtain ⟨p0, p1, p2⟩ := box3 HP.out
                              have z0 := frozen3 HP.out 0
                              have z1 := frozen3 HP.out 1
                              have z2 := frozen3 HP.out 2
                              obtain ⟨n0x, n1x, n2x⟩ := HQ5.out _ HB4.out
                              go_upto_region 28 with fail
                              go_cut [] (fun wx => LwO W5 gq P wx)
                              case first =>
                                go_region_law (first
                                  | (go_simp; go_at_call 13; (with_reducible refine (WH.out n0 _).mono ?_); rintro e wA ⟨rfl, hbA⟩
                                     have HA : Hid (Below W6.heap.size W6 wA) := Lib.hid (by first | exact (drew_below W6).trans hbA | exact (drewN_below W6 _).trans hbA)
                                     have HPA := Lib.hid ((HA.out.block gq (Array.getElem?_eq_some_iff.1 HP.out).1).trans HP.out)
                                     clear p0 p1 p2 z0 z1 z2 n0x n1x n2x hbA
                                     obtain ⟨p0, p1, p2⟩ := box3 HPA.out
                                     obtain ⟨n0x, n1x, n2x⟩ := HQ5.out _ (HB4.out.trans (HA.out.mono HB4.out.size)))
                                  | (go_simp; go_at_call 15; (with_reducible refine (R4.out _).mono ?_); rintro e wB ⟨rfl, hbB⟩
                                     have HC := Lib.hid (HB4.out.trans ((HA.out.trans (hbB.mono HA.out.size)).mono HB4.out.size))
                                     have HPB := Lib.hid ((hbB.block gq (Array.getElem?_eq_some_iff.1 HPA.out).1).trans HPA.out)
                                     clear p0 p1 p2 n0x n1x n2x hbB
                                     obtain ⟨p0, p1, p2⟩ := box3 HPB.out
                                     have z0 := frozen3 HPB.out 0
                                     have z1 := frozen3 HPB.out 1
                                     have z2 := frozen3 HPB.out 2))
                                all_goals
                                  go_wp2_with fail
                                  go_meet
                                  exact ⟨heap_set3 HPB.out, set3_below0 HC.out HGE.out _ _ _⟩
                              case rest =>
                                obtain ⟨W7, hW7, hq⟩ := LwO.world hcut
                                subst hW7
                                have HP7 := Lib.hid hq.1
                                have HB7 := Lib.hid hq.2
                                clear hq hcut HP HB4 HGE R3 R4 p0 p1 p2 z0 z1 z2 n0x n1x n2x
                                have f1 := eqB_one 2 P
                                have k1 := K1.out
                                have k2 := K2.out
                                as_aux_lemma =>
                                  go_wp2_with (go_at_call 7; refine (AL.out _ (HG.out.below (HS.out.bel.trans ((HB5.out.trans (HB7.out.mono HB5.out.size)).mono HS.out.bel.size)))).mono ?_; rintro e w14 ⟨rfl, hb⟩
                                               have hb5 := HB7.out.trans (hb.mono HB7.out.size)
                                               obtain ⟨p0, p1, p2⟩ := box3 ((hb5.block gp (Array.getElem?_eq_some_iff.1 HP5.out).1).trans HP5.out)
                                               obtain ⟨q0, q1, q2⟩ := box3 ((hb.block gq (Array.getElem?_eq_some_iff.1 HP7.out).1).trans HP7.out)
                                               obtain ⟨n0x, n1x, n2x⟩ := HQ5.out _ hb5
                                               have HE := Lib.hid (HS.out.bel.trans ((HB5.out.trans (hb5.mono HB5.out.size)).mono HS.out.bel.size))
                                               clear hb hb5)
                                  go_ret
                                  exact ⟨rfl, HE.out⟩
#print axioms laws_law
end Go.Proofs.YtdbbnpihmibalaaDoor

/- FaultKeeps's walk over what built leaves. -/
import Derived.Test.YtdfmmphoccfacaaDoorQ
namespace Go.Proofs.YtdfmmphoccfacaaDoor
open Go.RowKit Go.Extern.Stop Go.Stop Go.Extern

/-- a list in memory, none too -/
def Cells (w : World) (pa : Option Addr) (l : List Int) : Prop := ∀ j c, l[j]? = some c → ∃ g, pa = some ⟨g, 0, none⟩ ∧ w.cell? ⟨g, j, none⟩ = some (.int .i64 c)
theorem Cells.below {w w' : World} {pa : Option Addr} {l : List Int} (h : Cells w pa l) (hb : Below w.heap.size w w') : Cells w' pa l := fun j c hj => by
  obtain ⟨g, e, hc⟩ := h j c hj
  exact ⟨g, e, (hb.cell (p := ⟨g, j, none⟩) (World.block_lt_of_cell? _ _ hc)).trans hc⟩
def ListOf (l : List Int) (w : World) : Ending → World → Prop := fun e w' => ∃ pa cap, e = .returned (.slice pa l.length cap) ∧ Below w.heap.size w w' ∧ Cells w' pa l
theorem codes_of (t : Tree) (w : World) (h : Rep w t) (hn : t.codes.length ≤ 1000000) : Calls Tryd.prog 10 #[t.val] w (ListOf t.codes w) := by
  refine (codes_any t w h hn).mono ?_
  rintro e w' ⟨v, rfl, hb, ho⟩
  by_cases h0 : 0 < t.codes.length
  · obtain ⟨g, cap, rfl, _, hc⟩ := own_get ho (by rw [vals_len]; exact h0)
    refine ⟨some ⟨g, 0, none⟩, cap, by rw [vals_len], hb, fun j c hj => ⟨g, rfl, hc j _ (by simp [vals, hj])⟩⟩
  · obtain ⟨pa, cap, rfl⟩ := own_slice ho
    have hz : t.codes = [] := List.length_eq_zero_iff.1 (by omega)
    exact ⟨pa, cap, rfl, hb, fun j c hj => by rw [hz] at hj; simp at hj⟩
theorem joinT_codes (k : Nat) (t u : Tree) : (joinT k t u).codes = t.codes ++ u.codes := by
  unfold joinT
  split
  · rename_i h; subst h; rfl
  · split
    · rename_i h; subst h; simp [Tree.codes]
    · rfl
theorem eq55_nil (v : Value) (w : World) : (binOp .eql 29 (.iface 55 v) .nilIface).run Tryd.prog w = .ok (.bool false) w := by kernel_rfl
theorem eq69_nil (v : Value) (w : World) : (binOp .eql 29 (.iface 69 v) .nilIface).run Tryd.prog w = .ok (.bool false) w := by kernel_rfl
theorem eqnil_nil (w : World) : (binOp .eql 29 .nilIface .nilIface).run Tryd.prog w = .ok (.bool true) w := by kernel_rfl
theorem val_eq_nil (t : Tree) (h : t ≠ .nil) (w : World) : (binOp .eql 29 t.val .nilIface).run Tryd.prog w = .ok (.bool false) w := by
  cases t with
  | nil => exact absurd rfl h
  | fault b c p u => exact eq55_nil _ w
  | join b l r => exact eq69_nil _ w
/-- what wrapping a tree makes: a tree with so many codes more -/
def Wrapped (t : Tree) (pre : List Int) (n : Nat) (p : Int) (w : World) : Ending → World → Prop := fun e w' => ∃ x : Tree, e = .returned x.val ∧ Rep w' x ∧ Below w.heap.size w w' ∧ x.codes = pre ++ t.codes ∧ x.codes.length = n ∧ (pre ≠ [] → x.places.headD (-1) = p)
theorem wrapped_more (t : Tree) (code p : Int) (hc : i64ok code) (hp : i64ok p) (w : World) (h : Rep w t) (hd : t.deep < 1000000) (ht : t ≠ .nil) (h0 : code ≠ 0) : Calls Tryd.prog 18 #[t.val, .int .i64 code, .int .i64 p] w (Wrapped t [code] (t.codes.length + 1) p w) := by
  refine (wrap_any t code p hc hp w h hd).mono ?_
  rintro e w' ⟨x, rfl, hr, hb, k, rfl⟩
  have e1 : wrapT k t code p = .fault k code p t := by simp [wrapT, ht, h0]
  rw [e1] at hr ⊢
  exact ⟨_, rfl, hr, hb, rfl, by simp [Tree.codes], fun _ => rfl⟩
theorem wrapped_same (t : Tree) (code p : Int) (hc : i64ok code) (hp : i64ok p) (w : World) (h : Rep w t) (hd : t.deep < 1000000) (h0 : t = .nil ∨ code = 0) : Calls Tryd.prog 18 #[t.val, .int .i64 code, .int .i64 p] w (Wrapped t [] t.codes.length p w) := by
  refine (wrap_any t code p hc hp w h hd).mono ?_
  rintro e w' ⟨x, rfl, hr, hb, k, rfl⟩
  have e1 : wrapT k t code p = t := by simp [wrapT, h0]
  rw [e1] at hr ⊢
  exact ⟨_, rfl, hr, hb, rfl, rfl, fun h => absurd rfl h⟩
def ListN (l : List Int) (n : Nat) (w : World) : Ending → World → Prop := fun e w' => ∃ pa cap, e = .returned (.slice pa n cap) ∧ Below w.heap.size w w' ∧ Cells w' pa l
theorem codes_n (t : Tree) (l : List Int) (n : Nat) (hl : t.codes = l) (hn : t.codes.length = n) (w : World) (h : Rep w t) (hm : n ≤ 1000000) : Calls Tryd.prog 10 #[t.val] w (ListN l n w) := by
  subst hl hn
  exact codes_of t w h hm
theorem at_wrapped (x : Tree) (p : Int) (h : x.places.headD (-1) = p) (w : World) (hr : Rep w x) (hh : Handle w) : Calls Tryd.prog 13 #[x.val] w (Ans (.int .i64 p) w) := by
  have := at_any x w hr hh
  rwa [h] at this
structure KS (w0 : World) (t u x y : Tree) (W : World) : Prop where
  t : Rep W t
  u : Rep W u
  x : Rep W x
  y : Rep W y
  han : Handle W
  bel : Below w0.heap.size w0 W
theorem KS.next {w0 W V : World} {t u x y : Tree} (h : KS w0 t u x y W) (hb : Below W.heap.size W V) : KS w0 t u x y V := ⟨h.t.below hb, h.u.below hb, h.x.below hb, h.y.below hb, h.han.below hb, h.bel.trans (hb.mono h.bel.size)⟩

/-- at the head of a loop that reads -/
def KL (w7 : World) (n : Nat) (v : Value) (wr : World) : Prop := ∃ k : Nat, v = .int .i64 k ∧ k ≤ n ∧ Below w7.heap.size w7 wr
set_option maxRecDepth 100000 in
set_option maxHeartbeats 4000000 in
theorem keeps_law (sl : Value) (code at_ : Int) (hc : i64ok code) (hp : i64ok at_) (w : World) (hg : Handle w) (HB : Hid (Calls Tryd.prog 8 #[sl] w (BuiltTrees w))) :
    Calls Tryd.prog 4 #[sl, .int .i64 code, .int .i64 at_] w (Ans (.bool true) w) := by
  have HG := Lib.hid hg
  have HC := Lib.hid hc
  have HP := Lib.hid hp
  clear hg hc hp
  go_enter Tryd.func4, Tryd.ntmps4
  go_wp2_with (first
    | (go_at_call 8; refine HB.out.mono ?_; rintro e w1 ⟨g, m, cap, vt, ts, rfl, hm, hts, hb⟩
       obtain ⟨c1, r1, n1, d1⟩ := hts m (Nat.le_refl _)
       obtain ⟨q, hq⟩ : ∃ q, q = (m + 1) / 2 := ⟨_, rfl⟩
       obtain ⟨c2, r2, n2, d2⟩ := hts q (by omega)
       have H := Lib.hid (St.mk r1 (HG.out.below hb) hb)
       have HU := Lib.hid (St.mk r2 (HG.out.below hb) hb)
       have HN := Lib.hid (And.intro (And.intro n1 d1) (And.intro n2 d2))
       have hqi : ((m : Int) + 1) / 2 = (q : Int) := by omega
       have hq0 : (0 : Int) ≤ (q : Int) := by omega
       have hq1 : (q : Int) < (m : Int) + 1 := by omega
       have hm0 : (0 : Int) ≤ (m : Int) := by omega
       have hm14 : (m : Int) ≤ 14 := by omega
       generalize ts m = t at c1 H HN
       generalize ts q = u at c2 HU HN
       clear r1 n1 d1 r2 n2 d2 hts hb hq))
  have n1 : (t.codes.length : Int) ≤ 16384 := by have := HN.out.1.1; omega
  have n2 : (u.codes.length : Int) ≤ 16384 := by have := HN.out.2.1; omega
  have n10 : (0 : Int) ≤ (t.codes.length : Int) := by omega
  have n20 : (0 : Int) ≤ (u.codes.length : Int) := by omega
  have K0 := Lib.hid (KS.mk (x := .nil) (y := .nil) H.out.rep HU.out.rep trivial trivial H.out.han H.out.bel)
  clear H HU
  obtain ⟨v, hv⟩ : ∃ v, t.val = v := ⟨_, rfl⟩
  have HC10 : Hid (∀ wc, Rep wc t → Calls Tryd.prog 10 #[v] wc (ListN t.codes t.codes.length wc)) := fun wc hr => by
    rw [← hv]; exact codes_n t _ _ rfl rfl _ hr (by have := HN.out.1.1; omega)
  have HC19 : Hid (∀ wc, Rep wc t → Rep wc u → Calls Tryd.prog 19 #[v, u.val] wc (Made wc fun y => ∃ b, y = joinT b t u)) := fun wc hr hs => by
    rw [← hv]; exact join_any t u _ hr hs (by have := HN.out.1.2; omega) (by have := HN.out.2.2; omega)
  have hcase : (v = .nilIface ∧ Hid (∀ W, Rep W t → Calls Tryd.prog 18 #[v, .int .i64 code, .int .i64 at_] W (Wrapped t [] t.codes.length at_ W))) ∨
      ((∃ T b, (T = 55 ∨ T = 69) ∧ v = .iface T (.pointer (some ⟨b, 0, none⟩))) ∧ ((code = 0 ∧ Hid (∀ W, Rep W t → Calls Tryd.prog 18 #[v, .int .i64 code, .int .i64 at_] W (Wrapped t [] t.codes.length at_ W))) ∨
        (code ≠ 0 ∧ Hid (∀ W, Rep W t → Calls Tryd.prog 18 #[v, .int .i64 code, .int .i64 at_] W (Wrapped t [code] (t.codes.length + 1) at_ W))))) := by
    have hd : t.deep < 1000000 := by have := HN.out.1.2; omega
    by_cases h1 : t = .nil
    · exact .inl ⟨by rw [← hv, h1]; rfl, fun W hR => by rw [← hv]; exact wrapped_same t code at_ HC.out HP.out W hR hd (.inl h1)⟩
    · obtain ⟨T, b, hT, hw⟩ := Tree.val_iface h1
      refine .inr ⟨⟨T, b, hT, by rw [← hv, hw]⟩, ?_⟩
      by_cases h2 : code = 0
      · exact .inl ⟨h2, fun W hR => by rw [← hv]; exact wrapped_same t code at_ HC.out HP.out W hR hd (.inr h2)⟩
      · exact .inr ⟨h2, fun W hR => by rw [← hv]; exact wrapped_more t code at_ HC.out HP.out W hR hd h1 h2⟩
  rw [hv] at c1 ⊢
  have HCC := Lib.hid c1
  clear hv
  rcases hcase with ⟨rfl, HW⟩ | ⟨⟨T, b, rfl | rfl, rfl⟩, ⟨rfl, HW⟩ | ⟨h2, HW⟩⟩
  · skip
    go_wp2_with (first
      | (go_at_call 10; first
          | ((with_reducible refine (HC10.out _ K0.out.t).mono ?_); rintro e w2 ⟨pa, ca, rfl, hb, ha⟩; have K0 := Lib.hid (K0.out.next hb); have A := Lib.hid ha; clear hb ha)
          | ((with_reducible refine (codes_n x _ t.codes.length rfl HX.out.2.1 _ K1.out.x (by have := HN.out.1.1; omega)).mono ?_); rintro e w4 ⟨px, cx, rfl, hb, hx⟩; have K1 := Lib.hid (K1.out.next hb); have A := Lib.hid (A.out.below hb); have X := Lib.hid hx; clear hb hx)
          | ((with_reducible refine (codes_n y _ (t.codes.length + u.codes.length) rfl HY.out.2 _ K2.out.y (by have := HN.out; omega)).mono ?_); rintro e w6 ⟨py, cy, rfl, hb, hy⟩; have K2 := Lib.hid (K2.out.next hb); have A := Lib.hid (A.out.below hb); have X := Lib.hid (X.out.below hb); have Y := Lib.hid hy; clear hb hy)
          | ((with_reducible refine (codes_n u _ _ rfl rfl _ K2.out.u (by have := HN.out.2.1; omega)).mono ?_); rintro e w7 ⟨pu, cu, rfl, hb, hu⟩; have K2 := Lib.hid (K2.out.next hb); have A := Lib.hid (A.out.below hb); have X := Lib.hid (X.out.below hb); have Y := Lib.hid (Y.out.below hb); have U := Lib.hid hu; clear hb hu))
      | (go_at_call 18; refine (HW.out _ K0.out.t).mono ?_; rintro e w3 ⟨x, rfl, rx, hb, hx1, hx2, hx3⟩; have A := Lib.hid (A.out.below hb)
         have K1 := Lib.hid (KS.mk (y := .nil) (K0.out.next hb).t (K0.out.next hb).u rx trivial (K0.out.next hb).han (K0.out.next hb).bel); have HX := Lib.hid (And.intro hx1 (And.intro hx2 hx3)); clear hb rx hx1 hx2 hx3)
      | (go_at_call 19; refine (HC19.out _ K1.out.t K1.out.u).mono ?_; rintro e w5 ⟨y, rfl, ry, hb, k, hy⟩; have A := Lib.hid (A.out.below hb); have X := Lib.hid (X.out.below hb)
         have K2 := Lib.hid (KS.mk (K1.out.next hb).t (K1.out.next hb).u (K1.out.next hb).x ry (K1.out.next hb).han (K1.out.next hb).bel); have HY := Lib.hid (show y.codes = t.codes ++ u.codes ∧ y.codes.length = t.codes.length + u.codes.length by rw [hy, joinT_codes]; simp); clear hb ry hy))
    go_loopw [17] (fun v17 wr => KL w7 t.codes.length v17 wr) (fun v17 _ => t.codes.length - (intOf v17).toNat)
    case atStart => exact ⟨0, rfl, by omega, Below.refl _ _⟩
    case round =>
      obtain ⟨k, rfl, hk, hbk⟩ := hrel
      have hk0 : (0 : Int) ≤ (k : Int) := Int.natCast_nonneg _
      have K2 := Lib.hid (K2.out.next hbk)
      have A := Lib.hid (A.out.below hbk)
      have X := Lib.hid (X.out.below hbk)
      have Y := Lib.hid (Y.out.below hbk)
      have U := Lib.hid (U.out.below hbk)
      by_cases hlt : k < t.codes.length
      · obtain ⟨c, hc⟩ : ∃ c, t.codes[k]? = some c := ⟨_, List.getElem?_eq_getElem hlt⟩
        obtain ⟨g1, rfl, hc1⟩ := A.out k c hc
        obtain ⟨g2, rfl, hc2⟩ := X.out k c (by rw [HX.out.1]; exact hc)
        obtain ⟨g3, rfl, hc3⟩ := Y.out k c (by rw [HY.out.1, List.getElem?_append_left hlt]; exact hc)
        have b1 : (k : Int) < (t.codes.length : Int) := by omega
        have b2 : (k : Int) < (t.codes.length : Int) + (u.codes.length : Int) := by omega
        clear hlt
        have HK : Hid (∀ w', Below wr.heap.size wr w' → KL w7 t.codes.length (.int .i64 ((k : Int) + 1)) w') := fun w' hb' => ⟨k + 1, rfl, by omega, hbk.trans (hb'.mono hbk.size)⟩
        clear hbk hc hk
        go_wp2_with fail
        go_quiet (fail)
        go_wp2_with fail
        go_roundw
        case rel => exact HK.out _ (below_drewN _ _)
        case measure => simp only [intOf]; omega
      · have hnlt : ¬ ((k : Int) < (t.codes.length : Int)) := by omega
        clear hbk hlt hk
        go_wp2_with fail
        go_loopw [18] (fun v18 w9 => KL wr u.codes.length v18 w9) (fun v18 _ => u.codes.length - (intOf v18).toNat)
        case atStart => exact ⟨0, rfl, by omega, Below.refl _ _⟩
        case round =>
          obtain ⟨k, rfl, hk, hbk⟩ := hrel
          have hk0 : (0 : Int) ≤ (k : Int) := Int.natCast_nonneg _
          have K2 := Lib.hid (K2.out.next hbk)
          have Y := Lib.hid (Y.out.below hbk)
          have U := Lib.hid (U.out.below hbk)
          by_cases hlt : k < u.codes.length
          · obtain ⟨c, hc⟩ : ∃ c, u.codes[k]? = some c := ⟨_, List.getElem?_eq_getElem hlt⟩
            obtain ⟨g1, rfl, hc1⟩ := U.out k c hc
            obtain ⟨g3, rfl, hc3⟩ := Y.out (t.codes.length + k) c (by rw [HY.out.1, List.getElem?_append_right (by omega)]; simpa using hc)
            have b1 : (k : Int) < (u.codes.length : Int) := by omega
            have b2 : (t.codes.length : Int) + (k : Int) < (t.codes.length : Int) + (u.codes.length : Int) := by omega
            have HK : Hid (∀ w', Below wr.heap.size wr w' → KL _ u.codes.length (.int .i64 ((k : Int) + 1)) w') := fun w' hb' => ⟨k + 1, rfl, by omega, hbk.trans (hb'.mono hbk.size)⟩
            clear hbk hc hk hlt
            go_wp2_with fail
            go_quiet (fail)
            go_wp2_with fail
            go_roundw
            case rel => exact HK.out _ (below_drewN _ _)
            case measure => simp only [intOf]; omega
          · have hnlt2 : ¬ ((k : Int) < (u.codes.length : Int)) := by omega
            clear hbk hlt hk
            go_wp2_with (first
              | (go_at_call 17; refine (alive_any _ K2.out.han).mono ?_; rintro e wa ⟨rfl, hb⟩; have K2 := Lib.hid (K2.out.next hb); clear hb)
              | (go_at_call 10; refine (HC10.out _ K2.out.t).mono ?_; rintro e wb ⟨p9, c9, rfl, hb, _⟩; have K2 := Lib.hid (K2.out.next hb); clear hb))
            go_ret
            exact ⟨rfl, K2.out.bel⟩
  · skip
    go_wp2_with (first
      | (go_at_call 10; first
          | ((with_reducible refine (HC10.out _ K0.out.t).mono ?_); rintro e w2 ⟨pa, ca, rfl, hb, ha⟩; have K0 := Lib.hid (K0.out.next hb); have A := Lib.hid ha; clear hb ha)
          | ((with_reducible refine (codes_n x _ t.codes.length rfl HX.out.2.1 _ K1.out.x (by have := HN.out.1.1; omega)).mono ?_); rintro e w4 ⟨px, cx, rfl, hb, hx⟩; have K1 := Lib.hid (K1.out.next hb); have A := Lib.hid (A.out.below hb); have X := Lib.hid hx; clear hb hx)
          | ((with_reducible refine (codes_n y _ (t.codes.length + u.codes.length) rfl HY.out.2 _ K2.out.y (by have := HN.out; omega)).mono ?_); rintro e w6 ⟨py, cy, rfl, hb, hy⟩; have K2 := Lib.hid (K2.out.next hb); have A := Lib.hid (A.out.below hb); have X := Lib.hid (X.out.below hb); have Y := Lib.hid hy; clear hb hy)
          | ((with_reducible refine (codes_n u _ _ rfl rfl _ K2.out.u (by have := HN.out.2.1; omega)).mono ?_); rintro e w7 ⟨pu, cu, rfl, hb, hu⟩; have K2 := Lib.hid (K2.out.next hb); have A := Lib.hid (A.out.below hb); have X := Lib.hid (X.out.below hb); have Y := Lib.hid (Y.out.below hb); have U := Lib.hid hu; clear hb hu))
      | (go_at_call 18; refine (HW.out _ K0.out.t).mono ?_; rintro e w3 ⟨x, rfl, rx, hb, hx1, hx2, hx3⟩; have A := Lib.hid (A.out.below hb)
         have K1 := Lib.hid (KS.mk (y := .nil) (K0.out.next hb).t (K0.out.next hb).u rx trivial (K0.out.next hb).han (K0.out.next hb).bel); have HX := Lib.hid (And.intro hx1 (And.intro hx2 hx3)); clear hb rx hx1 hx2 hx3)
      | (go_at_call 19; refine (HC19.out _ K1.out.t K1.out.u).mono ?_; rintro e w5 ⟨y, rfl, ry, hb, k, hy⟩; have A := Lib.hid (A.out.below hb); have X := Lib.hid (X.out.below hb)
         have K2 := Lib.hid (KS.mk (K1.out.next hb).t (K1.out.next hb).u (K1.out.next hb).x ry (K1.out.next hb).han (K1.out.next hb).bel); have HY := Lib.hid (show y.codes = t.codes ++ u.codes ∧ y.codes.length = t.codes.length + u.codes.length by rw [hy, joinT_codes]; simp); clear hb ry hy))
    go_loopw [17] (fun v17 wr => KL w7 t.codes.length v17 wr) (fun v17 _ => t.codes.length - (intOf v17).toNat)
    case atStart => exact ⟨0, rfl, by omega, Below.refl _ _⟩
    case round =>
      obtain ⟨k, rfl, hk, hbk⟩ := hrel
      have hk0 : (0 : Int) ≤ (k : Int) := Int.natCast_nonneg _
      have K2 := Lib.hid (K2.out.next hbk)
      have A := Lib.hid (A.out.below hbk)
      have X := Lib.hid (X.out.below hbk)
      have Y := Lib.hid (Y.out.below hbk)
      have U := Lib.hid (U.out.below hbk)
      by_cases hlt : k < t.codes.length
      · obtain ⟨c, hc⟩ : ∃ c, t.codes[k]? = some c := ⟨_, List.getElem?_eq_getElem hlt⟩
        obtain ⟨g1, rfl, hc1⟩ := A.out k c hc
        obtain ⟨g2, rfl, hc2⟩ := X.out k c (by rw [HX.out.1]; exact hc)
        obtain ⟨g3, rfl, hc3⟩ := Y.out k c (by rw [HY.out.1, List.getElem?_append_left hlt]; exact hc)
        have b1 : (k : Int) < (t.codes.length : Int) := by omega
        have b2 : (k : Int) < (t.codes.length : Int) + (u.codes.length : Int) := by omega
        clear hlt
        have HK : Hid (∀ w', Below wr.heap.size wr w' → KL w7 t.codes.length (.int .i64 ((k : Int) + 1)) w') := fun w' hb' => ⟨k + 1, rfl, by omega, hbk.trans (hb'.mono hbk.size)⟩
        clear hbk hc hk
        go_wp2_with fail
        go_quiet (fail)
        go_wp2_with fail
        go_roundw
        case rel => exact HK.out _ (below_drewN _ _)
        case measure => simp only [intOf]; omega
      · have hnlt : ¬ ((k : Int) < (t.codes.length : Int)) := by omega
        clear hbk hlt hk
        go_wp2_with fail
        go_loopw [18] (fun v18 w9 => KL wr u.codes.length v18 w9) (fun v18 _ => u.codes.length - (intOf v18).toNat)
        case atStart => exact ⟨0, rfl, by omega, Below.refl _ _⟩
        case round =>
          obtain ⟨k, rfl, hk, hbk⟩ := hrel
          have hk0 : (0 : Int) ≤ (k : Int) := Int.natCast_nonneg _
          have K2 := Lib.hid (K2.out.next hbk)
          have Y := Lib.hid (Y.out.below hbk)
          have U := Lib.hid (U.out.below hbk)
          by_cases hlt : k < u.codes.length
          · obtain ⟨c, hc⟩ : ∃ c, u.codes[k]? = some c := ⟨_, List.getElem?_eq_getElem hlt⟩
            obtain ⟨g1, rfl, hc1⟩ := U.out k c hc
            obtain ⟨g3, rfl, hc3⟩ := Y.out (t.codes.length + k) c (by rw [HY.out.1, List.getElem?_append_right (by omega)]; simpa using hc)
            have b1 : (k : Int) < (u.codes.length : Int) := by omega
            have b2 : (t.codes.length : Int) + (k : Int) < (t.codes.length : Int) + (u.codes.length : Int) := by omega
            have HK : Hid (∀ w', Below wr.heap.size wr w' → KL _ u.codes.length (.int .i64 ((k : Int) + 1)) w') := fun w' hb' => ⟨k + 1, rfl, by omega, hbk.trans (hb'.mono hbk.size)⟩
            clear hbk hc hk hlt
            go_wp2_with fail
            go_quiet (fail)
            go_wp2_with fail
            go_roundw
            case rel => exact HK.out _ (below_drewN _ _)
            case measure => simp only [intOf]; omega
          · have hnlt2 : ¬ ((k : Int) < (u.codes.length : Int)) := by omega
            clear hbk hlt hk
            go_wp2_with (first
              | (go_at_call 17; refine (alive_any _ K2.out.han).mono ?_; rintro e wa ⟨rfl, hb⟩; have K2 := Lib.hid (K2.out.next hb); clear hb)
              | (go_at_call 10; refine (HC10.out _ K2.out.t).mono ?_; rintro e wb ⟨p9, c9, rfl, hb, _⟩; have K2 := Lib.hid (K2.out.next hb); clear hb))
            go_ret
            exact ⟨rfl, K2.out.bel⟩
  · skip
    have hz : (code == 0) = false := by simpa using h2
    go_wp2_with (first
      | (go_at_call 10; first
          | ((with_reducible refine (HC10.out _ K0.out.t).mono ?_); rintro e w2 ⟨pa, ca, rfl, hb, ha⟩; have K0 := Lib.hid (K0.out.next hb); have A := Lib.hid ha; clear hb ha)
          | ((with_reducible refine (codes_n x _ (t.codes.length + 1) rfl HX.out.2.1 _ K1.out.x (by have := HN.out.1.1; omega)).mono ?_); rintro e w4 ⟨px, cx, rfl, hb, hx⟩; have K1 := Lib.hid (K1.out.next hb); have A := Lib.hid (A.out.below hb); have X := Lib.hid hx; clear hb hx)
          | ((with_reducible refine (codes_n y _ (t.codes.length + u.codes.length) rfl HY.out.2 _ K2.out.y (by have := HN.out; omega)).mono ?_); rintro e w6 ⟨py, cy, rfl, hb, hy⟩; have K2 := Lib.hid (K2.out.next hb); have A := Lib.hid (A.out.below hb); have X := Lib.hid (X.out.below hb); have Y := Lib.hid hy; clear hb hy)
          | ((with_reducible refine (codes_n u _ _ rfl rfl _ K2.out.u (by have := HN.out.2.1; omega)).mono ?_); rintro e w7 ⟨pu, cu, rfl, hb, hu⟩; have K2 := Lib.hid (K2.out.next hb); have A := Lib.hid (A.out.below hb); have X := Lib.hid (X.out.below hb); have Y := Lib.hid (Y.out.below hb); have U := Lib.hid hu; clear hb hu; obtain ⟨gx, rfl, hx0⟩ := X.out 0 code (by rw [HX.out.1]; rfl)))
      | (go_at_call 18; refine (HW.out _ K0.out.t).mono ?_; rintro e w3 ⟨x, rfl, rx, hb, hx1, hx2, hx3⟩; have A := Lib.hid (A.out.below hb)
         have K1 := Lib.hid (KS.mk (y := .nil) (K0.out.next hb).t (K0.out.next hb).u rx trivial (K0.out.next hb).han (K0.out.next hb).bel); have HX := Lib.hid (And.intro hx1 (And.intro hx2 hx3)); clear hb rx hx1 hx2 hx3)
      | (go_at_call 19; refine (HC19.out _ K1.out.t K1.out.u).mono ?_; rintro e w5 ⟨y, rfl, ry, hb, k, hy⟩; have A := Lib.hid (A.out.below hb); have X := Lib.hid (X.out.below hb)
         have K2 := Lib.hid (KS.mk (K1.out.next hb).t (K1.out.next hb).u (K1.out.next hb).x ry (K1.out.next hb).han (K1.out.next hb).bel); have HY := Lib.hid (show y.codes = t.codes ++ u.codes ∧ y.codes.length = t.codes.length + u.codes.length by rw [hy, joinT_codes]; simp); clear hb ry hy)
      | (go_at_call 13; refine (at_wrapped x at_ (HX.out.2.2 (by simp)) _ K2.out.x K2.out.han).mono ?_; rintro e w7 ⟨rfl, hb⟩; have K2 := Lib.hid (K2.out.next hb); have A := Lib.hid (A.out.below hb); have X := Lib.hid (X.out.below hb); have Y := Lib.hid (Y.out.below hb); have U := Lib.hid (U.out.below hb); clear hb hx0))
    go_loopw [17] (fun v17 wr => KL w7 t.codes.length v17 wr) (fun v17 _ => t.codes.length - (intOf v17).toNat)
    case atStart => exact ⟨0, rfl, by omega, Below.refl _ _⟩
    case round =>
      obtain ⟨k, rfl, hk, hbk⟩ := hrel
      have hk0 : (0 : Int) ≤ (k : Int) := Int.natCast_nonneg _
      have K2 := Lib.hid (K2.out.next hbk)
      have A := Lib.hid (A.out.below hbk)
      have X := Lib.hid (X.out.below hbk)
      have Y := Lib.hid (Y.out.below hbk)
      have U := Lib.hid (U.out.below hbk)
      by_cases hlt : k < t.codes.length
      · obtain ⟨c, hc⟩ : ∃ c, t.codes[k]? = some c := ⟨_, List.getElem?_eq_getElem hlt⟩
        obtain ⟨g1, rfl, hc1⟩ := A.out k c hc
        obtain ⟨g2, e2, hc2⟩ := X.out (k + 1) c (by rw [HX.out.1]; simpa using hc)
        obtain rfl : gx = g2 := by injection e2 with e2; injection e2
        have b3 : (k : Int) + 1 < (t.codes.length : Int) + 1 := by omega
        obtain ⟨g3, rfl, hc3⟩ := Y.out k c (by rw [HY.out.1, List.getElem?_append_left hlt]; exact hc)
        have b1 : (k : Int) < (t.codes.length : Int) := by omega
        have b2 : (k : Int) < (t.codes.length : Int) + (u.codes.length : Int) := by omega
        clear hlt
        have HK : Hid (∀ w', Below wr.heap.size wr w' → KL w7 t.codes.length (.int .i64 ((k : Int) + 1)) w') := fun w' hb' => ⟨k + 1, rfl, by omega, hbk.trans (hb'.mono hbk.size)⟩
        clear hbk hc hk
        go_wp2_with fail
        go_quiet (fail)
        go_wp2_with fail
        go_roundw
        case rel => exact HK.out _ (below_drewN _ _)
        case measure => simp only [intOf]; omega
      · have hnlt : ¬ ((k : Int) < (t.codes.length : Int)) := by omega
        clear hbk hlt hk
        go_wp2_with fail
        go_loopw [18] (fun v18 w9 => KL wr u.codes.length v18 w9) (fun v18 _ => u.codes.length - (intOf v18).toNat)
        case atStart => exact ⟨0, rfl, by omega, Below.refl _ _⟩
        case round =>
          obtain ⟨k, rfl, hk, hbk⟩ := hrel
          have hk0 : (0 : Int) ≤ (k : Int) := Int.natCast_nonneg _
          have K2 := Lib.hid (K2.out.next hbk)
          have Y := Lib.hid (Y.out.below hbk)
          have U := Lib.hid (U.out.below hbk)
          by_cases hlt : k < u.codes.length
          · obtain ⟨c, hc⟩ : ∃ c, u.codes[k]? = some c := ⟨_, List.getElem?_eq_getElem hlt⟩
            obtain ⟨g1, rfl, hc1⟩ := U.out k c hc
            obtain ⟨g3, rfl, hc3⟩ := Y.out (t.codes.length + k) c (by rw [HY.out.1, List.getElem?_append_right (by omega)]; simpa using hc)
            have b1 : (k : Int) < (u.codes.length : Int) := by omega
            have b2 : (t.codes.length : Int) + (k : Int) < (t.codes.length : Int) + (u.codes.length : Int) := by omega
            have HK : Hid (∀ w', Below wr.heap.size wr w' → KL _ u.codes.length (.int .i64 ((k : Int) + 1)) w') := fun w' hb' => ⟨k + 1, rfl, by omega, hbk.trans (hb'.mono hbk.size)⟩
            clear hbk hc hk hlt
            go_wp2_with fail
            go_quiet (fail)
            go_wp2_with fail
            go_roundw
            case rel => exact HK.out _ (below_drewN _ _)
            case measure => simp only [intOf]; omega
          · have hnlt2 : ¬ ((k : Int) < (u.codes.length : Int)) := by omega
            clear hbk hlt hk
            go_wp2_with (first
              | (go_at_call 17; refine (alive_any _ K2.out.han).mono ?_; rintro e wa ⟨rfl, hb⟩; have K2 := Lib.hid (K2.out.next hb); clear hb)
              | (go_at_call 10; refine (HC10.out _ K2.out.t).mono ?_; rintro e wb ⟨p9, c9, rfl, hb, _⟩; have K2 := Lib.hid (K2.out.next hb); clear hb))
            go_ret
            exact ⟨rfl, K2.out.bel⟩
  · skip
    go_wp2_with (first
      | (go_at_call 10; first
          | ((with_reducible refine (HC10.out _ K0.out.t).mono ?_); rintro e w2 ⟨pa, ca, rfl, hb, ha⟩; have K0 := Lib.hid (K0.out.next hb); have A := Lib.hid ha; clear hb ha)
          | ((with_reducible refine (codes_n x _ t.codes.length rfl HX.out.2.1 _ K1.out.x (by have := HN.out.1.1; omega)).mono ?_); rintro e w4 ⟨px, cx, rfl, hb, hx⟩; have K1 := Lib.hid (K1.out.next hb); have A := Lib.hid (A.out.below hb); have X := Lib.hid hx; clear hb hx)
          | ((with_reducible refine (codes_n y _ (t.codes.length + u.codes.length) rfl HY.out.2 _ K2.out.y (by have := HN.out; omega)).mono ?_); rintro e w6 ⟨py, cy, rfl, hb, hy⟩; have K2 := Lib.hid (K2.out.next hb); have A := Lib.hid (A.out.below hb); have X := Lib.hid (X.out.below hb); have Y := Lib.hid hy; clear hb hy)
          | ((with_reducible refine (codes_n u _ _ rfl rfl _ K2.out.u (by have := HN.out.2.1; omega)).mono ?_); rintro e w7 ⟨pu, cu, rfl, hb, hu⟩; have K2 := Lib.hid (K2.out.next hb); have A := Lib.hid (A.out.below hb); have X := Lib.hid (X.out.below hb); have Y := Lib.hid (Y.out.below hb); have U := Lib.hid hu; clear hb hu))
      | (go_at_call 18; refine (HW.out _ K0.out.t).mono ?_; rintro e w3 ⟨x, rfl, rx, hb, hx1, hx2, hx3⟩; have A := Lib.hid (A.out.below hb)
         have K1 := Lib.hid (KS.mk (y := .nil) (K0.out.next hb).t (K0.out.next hb).u rx trivial (K0.out.next hb).han (K0.out.next hb).bel); have HX := Lib.hid (And.intro hx1 (And.intro hx2 hx3)); clear hb rx hx1 hx2 hx3)
      | (go_at_call 19; refine (HC19.out _ K1.out.t K1.out.u).mono ?_; rintro e w5 ⟨y, rfl, ry, hb, k, hy⟩; have A := Lib.hid (A.out.below hb); have X := Lib.hid (X.out.below hb)
         have K2 := Lib.hid (KS.mk (K1.out.next hb).t (K1.out.next hb).u (K1.out.next hb).x ry (K1.out.next hb).han (K1.out.next hb).bel); have HY := Lib.hid (show y.codes = t.codes ++ u.codes ∧ y.codes.length = t.codes.length + u.codes.length by rw [hy, joinT_codes]; simp); clear hb ry hy))
    go_loopw [17] (fun v17 wr => KL w7 t.codes.length v17 wr) (fun v17 _ => t.codes.length - (intOf v17).toNat)
    case atStart => exact ⟨0, rfl, by omega, Below.refl _ _⟩
    case round =>
      obtain ⟨k, rfl, hk, hbk⟩ := hrel
      have hk0 : (0 : Int) ≤ (k : Int) := Int.natCast_nonneg _
      have K2 := Lib.hid (K2.out.next hbk)
      have A := Lib.hid (A.out.below hbk)
      have X := Lib.hid (X.out.below hbk)
      have Y := Lib.hid (Y.out.below hbk)
      have U := Lib.hid (U.out.below hbk)
      by_cases hlt : k < t.codes.length
      · obtain ⟨c, hc⟩ : ∃ c, t.codes[k]? = some c := ⟨_, List.getElem?_eq_getElem hlt⟩
        obtain ⟨g1, rfl, hc1⟩ := A.out k c hc
        obtain ⟨g2, rfl, hc2⟩ := X.out k c (by rw [HX.out.1]; exact hc)
        obtain ⟨g3, rfl, hc3⟩ := Y.out k c (by rw [HY.out.1, List.getElem?_append_left hlt]; exact hc)
        have b1 : (k : Int) < (t.codes.length : Int) := by omega
        have b2 : (k : Int) < (t.codes.length : Int) + (u.codes.length : Int) := by omega
        clear hlt
        have HK : Hid (∀ w', Below wr.heap.size wr w' → KL w7 t.codes.length (.int .i64 ((k : Int) + 1)) w') := fun w' hb' => ⟨k + 1, rfl, by omega, hbk.trans (hb'.mono hbk.size)⟩
        clear hbk hc hk
        go_wp2_with fail
        go_quiet (fail)
        go_wp2_with fail
        go_roundw
        case rel => exact HK.out _ (below_drewN _ _)
        case measure => simp only [intOf]; omega
      · have hnlt : ¬ ((k : Int) < (t.codes.length : Int)) := by omega
        clear hbk hlt hk
        go_wp2_with fail
        go_loopw [18] (fun v18 w9 => KL wr u.codes.length v18 w9) (fun v18 _ => u.codes.length - (intOf v18).toNat)
        case atStart => exact ⟨0, rfl, by omega, Below.refl _ _⟩
        case round =>
          obtain ⟨k, rfl, hk, hbk⟩ := hrel
          have hk0 : (0 : Int) ≤ (k : Int) := Int.natCast_nonneg _
          have K2 := Lib.hid (K2.out.next hbk)
          have Y := Lib.hid (Y.out.below hbk)
          have U := Lib.hid (U.out.below hbk)
          by_cases hlt : k < u.codes.length
          · obtain ⟨c, hc⟩ : ∃ c, u.codes[k]? = some c := ⟨_, List.getElem?_eq_getElem hlt⟩
            obtain ⟨g1, rfl, hc1⟩ := U.out k c hc
            obtain ⟨g3, rfl, hc3⟩ := Y.out (t.codes.length + k) c (by rw [HY.out.1, List.getElem?_append_right (by omega)]; simpa using hc)
            have b1 : (k : Int) < (u.codes.length : Int) := by omega
            have b2 : (t.codes.length : Int) + (k : Int) < (t.codes.length : Int) + (u.codes.length : Int) := by omega
            have HK : Hid (∀ w', Below wr.heap.size wr w' → KL _ u.codes.length (.int .i64 ((k : Int) + 1)) w') := fun w' hb' => ⟨k + 1, rfl, by omega, hbk.trans (hb'.mono hbk.size)⟩
            clear hbk hc hk hlt
            go_wp2_with fail
            go_quiet (fail)
            go_wp2_with fail
            go_roundw
            case rel => exact HK.out _ (below_drewN _ _)
            case measure => simp only [intOf]; omega
          · have hnlt2 : ¬ ((k : Int) < (u.codes.length : Int)) := by omega
            clear hbk hlt hk
            go_wp2_with (first
              | (go_at_call 17; refine (alive_any _ K2.out.han).mono ?_; rintro e wa ⟨rfl, hb⟩; have K2 := Lib.hid (K2.out.next hb); clear hb)
              | (go_at_call 10; refine (HC10.out _ K2.out.t).mono ?_; rintro e wb ⟨p9, c9, rfl, hb, _⟩; have K2 := Lib.hid (K2.out.next hb); clear hb))
            go_ret
            exact ⟨rfl, K2.out.bel⟩
  · skip
    have hz : (code == 0) = false := by simpa using h2
    go_wp2_with (first
      | (go_at_call 10; first
          | ((with_reducible refine (HC10.out _ K0.out.t).mono ?_); rintro e w2 ⟨pa, ca, rfl, hb, ha⟩; have K0 := Lib.hid (K0.out.next hb); have A := Lib.hid ha; clear hb ha)
          | ((with_reducible refine (codes_n x _ (t.codes.length + 1) rfl HX.out.2.1 _ K1.out.x (by have := HN.out.1.1; omega)).mono ?_); rintro e w4 ⟨px, cx, rfl, hb, hx⟩; have K1 := Lib.hid (K1.out.next hb); have A := Lib.hid (A.out.below hb); have X := Lib.hid hx; clear hb hx)
          | ((with_reducible refine (codes_n y _ (t.codes.length + u.codes.length) rfl HY.out.2 _ K2.out.y (by have := HN.out; omega)).mono ?_); rintro e w6 ⟨py, cy, rfl, hb, hy⟩; have K2 := Lib.hid (K2.out.next hb); have A := Lib.hid (A.out.below hb); have X := Lib.hid (X.out.below hb); have Y := Lib.hid hy; clear hb hy)
          | ((with_reducible refine (codes_n u _ _ rfl rfl _ K2.out.u (by have := HN.out.2.1; omega)).mono ?_); rintro e w7 ⟨pu, cu, rfl, hb, hu⟩; have K2 := Lib.hid (K2.out.next hb); have A := Lib.hid (A.out.below hb); have X := Lib.hid (X.out.below hb); have Y := Lib.hid (Y.out.below hb); have U := Lib.hid hu; clear hb hu; obtain ⟨gx, rfl, hx0⟩ := X.out 0 code (by rw [HX.out.1]; rfl)))
      | (go_at_call 18; refine (HW.out _ K0.out.t).mono ?_; rintro e w3 ⟨x, rfl, rx, hb, hx1, hx2, hx3⟩; have A := Lib.hid (A.out.below hb)
         have K1 := Lib.hid (KS.mk (y := .nil) (K0.out.next hb).t (K0.out.next hb).u rx trivial (K0.out.next hb).han (K0.out.next hb).bel); have HX := Lib.hid (And.intro hx1 (And.intro hx2 hx3)); clear hb rx hx1 hx2 hx3)
      | (go_at_call 19; refine (HC19.out _ K1.out.t K1.out.u).mono ?_; rintro e w5 ⟨y, rfl, ry, hb, k, hy⟩; have A := Lib.hid (A.out.below hb); have X := Lib.hid (X.out.below hb)
         have K2 := Lib.hid (KS.mk (K1.out.next hb).t (K1.out.next hb).u (K1.out.next hb).x ry (K1.out.next hb).han (K1.out.next hb).bel); have HY := Lib.hid (show y.codes = t.codes ++ u.codes ∧ y.codes.length = t.codes.length + u.codes.length by rw [hy, joinT_codes]; simp); clear hb ry hy)
      | (go_at_call 13; refine (at_wrapped x at_ (HX.out.2.2 (by simp)) _ K2.out.x K2.out.han).mono ?_; rintro e w7 ⟨rfl, hb⟩; have K2 := Lib.hid (K2.out.next hb); have A := Lib.hid (A.out.below hb); have X := Lib.hid (X.out.below hb); have Y := Lib.hid (Y.out.below hb); have U := Lib.hid (U.out.below hb); clear hb hx0))
    go_loopw [17] (fun v17 wr => KL w7 t.codes.length v17 wr) (fun v17 _ => t.codes.length - (intOf v17).toNat)
    case atStart => exact ⟨0, rfl, by omega, Below.refl _ _⟩
    case round =>
      obtain ⟨k, rfl, hk, hbk⟩ := hrel
      have hk0 : (0 : Int) ≤ (k : Int) := Int.natCast_nonneg _
      have K2 := Lib.hid (K2.out.next hbk)
      have A := Lib.hid (A.out.below hbk)
      have X := Lib.hid (X.out.below hbk)
      have Y := Lib.hid (Y.out.below hbk)
      have U := Lib.hid (U.out.below hbk)
      by_cases hlt : k < t.codes.length
      · obtain ⟨c, hc⟩ : ∃ c, t.codes[k]? = some c := ⟨_, List.getElem?_eq_getElem hlt⟩
        obtain ⟨g1, rfl, hc1⟩ := A.out k c hc
        obtain ⟨g2, e2, hc2⟩ := X.out (k + 1) c (by rw [HX.out.1]; simpa using hc)
        obtain rfl : gx = g2 := by injection e2 with e2; injection e2
        have b3 : (k : Int) + 1 < (t.codes.length : Int) + 1 := by omega
        obtain ⟨g3, rfl, hc3⟩ := Y.out k c (by rw [HY.out.1, List.getElem?_append_left hlt]; exact hc)
        have b1 : (k : Int) < (t.codes.length : Int) := by omega
        have b2 : (k : Int) < (t.codes.length : Int) + (u.codes.length : Int) := by omega
        clear hlt
        have HK : Hid (∀ w', Below wr.heap.size wr w' → KL w7 t.codes.length (.int .i64 ((k : Int) + 1)) w') := fun w' hb' => ⟨k + 1, rfl, by omega, hbk.trans (hb'.mono hbk.size)⟩
        clear hbk hc hk
        go_wp2_with fail
        go_quiet (fail)
        go_wp2_with fail
        go_roundw
        case rel => exact HK.out _ (below_drewN _ _)
        case measure => simp only [intOf]; omega
      · have hnlt : ¬ ((k : Int) < (t.codes.length : Int)) := by omega
        clear hbk hlt hk
        go_wp2_with fail
        go_loopw [18] (fun v18 w9 => KL wr u.codes.length v18 w9) (fun v18 _ => u.codes.length - (intOf v18).toNat)
        case atStart => exact ⟨0, rfl, by omega, Below.refl _ _⟩
        case round =>
          obtain ⟨k, rfl, hk, hbk⟩ := hrel
          have hk0 : (0 : Int) ≤ (k : Int) := Int.natCast_nonneg _
          have K2 := Lib.hid (K2.out.next hbk)
          have Y := Lib.hid (Y.out.below hbk)
          have U := Lib.hid (U.out.below hbk)
          by_cases hlt : k < u.codes.length
          · obtain ⟨c, hc⟩ : ∃ c, u.codes[k]? = some c := ⟨_, List.getElem?_eq_getElem hlt⟩
            obtain ⟨g1, rfl, hc1⟩ := U.out k c hc
            obtain ⟨g3, rfl, hc3⟩ := Y.out (t.codes.length + k) c (by rw [HY.out.1, List.getElem?_append_right (by omega)]; simpa using hc)
            have b1 : (k : Int) < (u.codes.length : Int) := by omega
            have b2 : (t.codes.length : Int) + (k : Int) < (t.codes.length : Int) + (u.codes.length : Int) := by omega
            have HK : Hid (∀ w', Below wr.heap.size wr w' → KL _ u.codes.length (.int .i64 ((k : Int) + 1)) w') := fun w' hb' => ⟨k + 1, rfl, by omega, hbk.trans (hb'.mono hbk.size)⟩
            clear hbk hc hk hlt
            go_wp2_with fail
            go_quiet (fail)
            go_wp2_with fail
            go_roundw
            case rel => exact HK.out _ (below_drewN _ _)
            case measure => simp only [intOf]; omega
          · have hnlt2 : ¬ ((k : Int) < (u.codes.length : Int)) := by omega
            clear hbk hlt hk
            go_wp2_with (first
              | (go_at_call 17; refine (alive_any _ K2.out.han).mono ?_; rintro e wa ⟨rfl, hb⟩; have K2 := Lib.hid (K2.out.next hb); clear hb)
              | (go_at_call 10; refine (HC10.out _ K2.out.t).mono ?_; rintro e wb ⟨p9, c9, rfl, hb, _⟩; have K2 := Lib.hid (K2.out.next hb); clear hb))
            go_ret
            exact ⟨rfl, K2.out.bel⟩
end Go.Proofs.YtdfmmphoccfacaaDoor

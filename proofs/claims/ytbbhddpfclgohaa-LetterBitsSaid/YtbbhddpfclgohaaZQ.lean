/- LetterBits: the law's own body answers true, by the kind. -/
import Derived.Test.YtbbhddpfclgohaaZP
namespace Go.Proofs.Ytbbhddpfclgohaa
open Go.RowKit

/-- the letter that the law builds -/
structure BitB (w W : World) (f : Int) (v : Value) (ns : List Int) : Prop where
  bel : Below w.heap.size w W
  box : W.heap[w.heap.size]? = some (.cells #[.int .i64 1, .int .i64 f, .int .i64 0, .int .i64 5, v] 25 (0, 0))
  own : OwnI W (w.heap.size + 1) v ns
theorem BitB.set {w W W2 : World} {f : Int} {v v2 : Value} {ns ms : List Int} (h : BitB w W f v ns) (hb : Below (w.heap.size + 1) W W2) (ho : OwnI W2 (w.heap.size + 1) v2 ms) : BitB w (W2.setCell ⟨w.heap.size, 4, none⟩ v2) f v2 ms := by
  have hlt := (Array.getElem?_eq_some_iff.1 h.box).1
  have hbx := (hb.block _ (by omega)).trans h.box
  have g := grown_set W2 w.heap.size 4 v2
  have hW : Below w.heap.size w W2 := ⟨hb.os.trans h.bel.os, hb.tape.trans h.bel.tape, hb.output.trans h.bel.output, Nat.le_trans h.bel.size hb.size, fun k hk => (hb.block k (by omega)).trans (h.bel.block k hk)⟩
  refine ⟨hW.trans (grown_below' g (Nat.le_refl _) hW.size), ?_, ho.kept g (fun e => by have := ho.ge _ e; omega)⟩
  simp [World.setCell, Array.getElem?_modify, hbx]
def BitL (w : World) (f : Int) (b : Nat) (v8 : Value) (wr : World) : Prop := ∃ (i : Nat) (v : Value), v8 = .int .i64 i ∧ i ≤ 16 ∧ BitB w wr f v (nodesTo b i)
theorem rem2 {b i : Nat} : (((b : Int) / 2 ^ i).tmod 2 == 1) = b.testBit i := by
  have e : ((b : Int) / 2 ^ i) = ((b / 2 ^ i : Nat) : Int) := by simp
  rw [e, Nat.testBit_eq_decide_div_mod_eq]
  generalize b / 2 ^ i = a
  rw [Int.tmod_eq_emod_of_nonneg (by omega), Bool.eq_iff_iff, beq_iff_eq, decide_eq_true_eq]
  omega
theorem twice_is {ns : List Int} (h : upN (-1) ns = true) {p : Bool} (hp : ((ns.length : Int) == 0) = p) : upN (-1) (ns ++ [0]) = p := by
  cases ns with
  | nil => rw [← hp]; decide
  | cons x l =>
    have e : p = false := by rw [← hp]; exact beq_false_of_ne (by simp; omega)
    rw [e]
    cases hu : upN (-1) ((x :: l) ++ [0]) with
    | false => rfl
    | true =>
      have hs : ((x :: (l ++ [0]) : List Int)).Pairwise (· < ·) := up_sorted hu
      have h1 := (List.pairwise_cons.1 hs).1 0 (by simp)
      have h2 := up_mem h x (by simp)
      omega
/-- a copy of a letter in a box, whose nodes lie ahead of it -/
structure LBy (W : World) (g : Nat) (k f t x : Int) (A : Option Addr) (n cap : Nat) (ns : List Int) : Prop where
  x : W.heap[g]? = some (.cells #[.int .i64 k, .int .i64 f, .int .i64 t, .int .i64 x, .slice A n cap] 25 (0, 0))
  rd : RdI W g A ns
theorem LBy.next {W W' : World} {g : Nat} {k f t x : Int} {A : Option Addr} {n cap : Nat} {ns : List Int} (h : LBy W g k f t x A n cap ns) (hb : Below W.heap.size W W') : LBy W' g k f t x A n cap ns :=
  ⟨(hb.block _ (Array.getElem?_eq_some_iff.1 h.x).1).trans h.x, h.rd.below hb (Nat.le_of_lt (Array.getElem?_eq_some_iff.1 h.x).1)⟩
theorem set_other (W : World) (g j : Nat) (v : Value) {b : Nat} (h : b ≠ g) : (W.setCell ⟨g, j, none⟩ v).heap[b]? = W.heap[b]? := by
  have : ¬ g = b := fun e => h e.symm
  simp [World.setCell, Array.getElem?_modify, this]
theorem LBy.set0 {W : World} {g : Nat} {k f t x : Int} {A : Option Addr} {n cap : Nat} {ns : List Int} (h : LBy W g k f t x A n cap ns) (k2 : Int) : LBy (W.setCell ⟨g, 0, none⟩ (.int .i64 k2)) g k2 f t x A n cap ns :=
  ⟨by have hx := h.x; simp [World.setCell, Array.getElem?_modify, hx], h.rd.keep fun b hb => set_other W g 0 _ (by omega)⟩
theorem LBy.set4 {W : World} {g : Nat} {k f t x : Int} {A : Option Addr} {n cap : Nat} {ns : List Int} (h : LBy W g k f t x A n cap ns) (v : Value) : (W.setCell ⟨g, 4, none⟩ v).heap[g]? = some (.cells #[.int .i64 k, .int .i64 f, .int .i64 t, .int .i64 x, v] 25 (0, 0)) := by
  have hx := h.x; simp [World.setCell, Array.getElem?_modify, hx]
theorem LBx.setAt {W : World} {g g3 : Nat} {l : Ltr} {A : Option Addr} {n cap j : Nat} {v : Value} (h : LBx W g l A n cap) (hne : g ≠ g3) (hr : RdI W g3 A l.ns) (hlt : g3 < W.heap.size) : LBx (W.setCell ⟨g3, j, none⟩ v) g l A n cap :=
  ⟨(set_other W g3 j v hne).trans h.x, (hr.keep fun b hb => set_other W g3 j v (by omega)).more (by simp [World.setCell]; omega)⟩
theorem own_emptyI (W : World) : OwnI (W.alloc (.cells #[] 3)) W.heap.size (.slice (some ⟨W.heap.size, 0, none⟩) 0 0) [] :=
  OwnI.of_row (n := 0) (l := []) (own_lit (cs := #[]) (heap_alloc_new W _) (Nat.le_refl _) rfl (by omega))
theorem set_below {w W : World} {g j : Nat} {v : Value} (h : Below w.heap.size w W) (hg : w.heap.size ≤ g) : Below w.heap.size w (W.setCell ⟨g, j, none⟩ v) := h.trans (grown_below' (grown_set W g j v) hg h.size)
set_option maxRecDepth 100000 in
set_option maxHeartbeats 16000000 in
theorem lbits_one (b : Nat) (hb : b < 65536) (f kd : Int) (hf : 0 ≤ f ∧ f < 16) (k1 : (kd == 1) = true) (k2 : 1 ≤ kd) (k3 : kd ≤ 8) (w : World) :
    Calls Try.prog 6 #[.int .i64 (b : Int), .int .i64 f, .int .i64 kd] w (Ans (.bool true) w) := by
  have HBI := Lib.hid hb
  have f0 : ¬ f < 0 := by omega
  have f1 : ¬ 16 ≤ f := by omega
  have b0 : ¬ (b : Int) < 0 := by omega
  have b1 : decide (65536 ≤ (b : Int)) = false := decide_eq_false (by omega)
  have HST : Hid (BitL w f b (.int .i64 0) (w.alloc (.cells #[.int .i64 1, .int .i64 f, .int .i64 0, .int .i64 5, .slice none 0 0] 25))) := Lib.hid ⟨0, _, rfl, by omega, alloc_below w _, heap_alloc_new w _, OwnI.nil _ _⟩
  obtain ⟨ns, hns⟩ : ∃ ns, ns = nodesI b := ⟨_, rfl⟩
  obtain ⟨m, hm⟩ : ∃ m, ns.length = m := ⟨_, rfl⟩
  have hup : upN (-1) ns = true := by rw [hns]; exact nodesI_up b
  have hm16 : m ≤ 16 := by have := up_len (a := -1) (by omega) (by omega) hup; omega
  have hmi : (m : Int) ≤ 16 := by omega
  obtain ⟨p, hp⟩ : ∃ p, ((m : Int) == 0) = p := ⟨_, rfl⟩
  have hpp : (p == p) = true := by cases p <;> rfl
  have hR : Ltr.right ⟨1, f, 0, 5, ns⟩ = true := by
    unfold Ltr.right
    rw [show headOk 1 f 0 5 = true from head_ok ⟨by omega, by omega⟩ ⟨hf, by omega⟩ (by omega), if_pos rfl, Bool.true_and]
    exact hup
  have hR1 : Ltr.right ⟨kd, f, 0, 5, ns⟩ = true := by
    have hk : kd = 1 := by simpa using k1
    unfold Ltr.right
    rw [show headOk kd f 0 5 = true from head_ok ⟨by omega, by omega⟩ ⟨hf, by omega⟩ (by omega), if_pos hk, Bool.true_and]
    exact hup
  have hR2 : Ltr.right ⟨1, f, 0, 5, ns ++ [0]⟩ = p := by
    unfold Ltr.right
    rw [show headOk 1 f 0 5 = true from head_ok ⟨by omega, by omega⟩ ⟨hf, by omega⟩ (by omega), if_pos rfl, Bool.true_and]
    exact twice_is hup (by rw [hm]; exact hp)
  have HE := Lib.hid (fun W A cap hrd => encL_yes hR (encodeL_any ⟨1, f, 0, 5, ns⟩ A m cap hm (by omega) W hrd))
  obtain ⟨M, hM⟩ : ∃ M, (Ltr.bytes ⟨1, f, 0, 5, ns⟩).length = M := ⟨_, rfl⟩
  have HM := Lib.hid hM
  have HD := Lib.hid (fun W X cap hcap hrd => decL_of hR hM hcap (A := X) (cap := cap) (w := W) hrd)
  have HS := Lib.hid (fun W A B c d hra hrb => sameL_any ⟨1, f, 0, 5, ns⟩ ⟨1, f, 0, 5, ns⟩ A B m m c d hm hm (by omega) (by omega) W hra hrb)
  rw [sameL_self] at HS
  have HR1 := Lib.hid (fun W A cap hrd => rightL_any kd f 0 5 ns A m cap hm (by omega) W hrd)
  rw [hR1] at HR1
  obtain ⟨N9, hN9⟩ : ∃ N9, (ns ++ [0]).length = N9 := ⟨_, rfl⟩
  have hN9m : N9 ≤ 20 := by rw [← hN9, List.length_append, hm]; simp; omega
  have HN9 := Lib.hid hN9
  have hN9i : (N9 : Int) ≤ 20 := by omega
  have HR2 := Lib.hid (fun W A cap hrd => rightL_any 1 f 0 5 (ns ++ [0]) A N9 cap hN9 (by omega) W hrd)
  rw [hR2] at HR2
  have HL := Lib.hid aliveZ_any
  have HNS := Lib.hid hns
  have HMM := Lib.hid hm
  have HA0 : Hid (([] : List Int).length + ns.length ≤ 1000000) := Lib.hid (by simp; omega)
  have HA1 : Hid (ns.length + ([0] : List Int).length ≤ 1000000) := Lib.hid (by simp; omega)
  clear hb hf hns hm hup hm16 hR hR1 hR2 hM hN9 hN9m
  go_enter Try.func6, Try.ntmps6
  go_wp2_with fail
  go_loopw [8] (fun v8 wr => BitL w f b v8 wr) (fun v8 _ => 16 - (intOf v8).toNat)
  case atStart => exact HST.out
  case round =>
    obtain ⟨i, v, rfl, hi, hB⟩ := hrel
    obtain ⟨Av, cv, rfl, _⟩ := hB.own.2
    by_cases hlt : i < 16
    · obtain ⟨nn, hnn⟩ : ∃ nn, nn = (nodesTo b i).length := ⟨_, rfl⟩
      rw [← hnn] at hB
      have HB := Lib.hid hB
      obtain ⟨x0, x1, x2, x3, x4⟩ := box5 hB.box
      have z4 := frozen_of hB.box 4
      clear hB
      have hlti : (i : Int) < 16 := by omega
      have hi0 : 0 ≤ (i : Int) := by omega
      have HT := Lib.hid (rem2 (b := b) (i := i))
      cases hbit : b.testBit i with
      | true =>
        have hbt : (((b : Int) / 2 ^ i).tmod 2 == 1) = true := by rw [HT.out, hbit]
        have HM1 : Hid ((nodesTo b i).length + [(i : Int)].length ≤ 1000000) := Lib.hid (by have := nodesTo_len b i; simp; omega)
        have HLT := Lib.hid (Array.getElem?_eq_some_iff.1 HB.out.box).1
        have HBZ : Hid (w.heap.size + 1 ≤ (wr.alloc (.cells #[.int .i64 (i : Int)] 3)).heap.size) := Lib.hid (by have := HLT.out; simp; omega)
        have HN : Hid (∀ v6 w6, OwnI w6 (w.heap.size + 1) v6 (nodesTo b i ++ [(i : Int)]) → Grew (wr.alloc (.cells #[.int .i64 (i : Int)] 3)) (.slice Av nn cv) w6 v6 → w6.heap[w.heap.size]? = some (.cells #[.int .i64 1, .int .i64 f, .int .i64 0, .int .i64 5, .slice Av nn cv] 25 (0, 0)) ∧ ∀ v8, v8 = .int .i64 ((i + 1 : Nat) : Int) → BitL w f b v8 (w6.setCell ⟨w.heap.size, 4, none⟩ v6)) := Lib.hid fun v6 w6 ho hg => by
          have h1 := hg.toBelow HBZ.out HB.out.own.ge
          have hb6 : Below (w.heap.size + 1) wr w6 := ((alloc_below wr _).mono (by have := HLT.out; omega)).trans h1
          exact ⟨(hb6.block _ (by omega)).trans HB.out.box, fun v8 h8 => ⟨i + 1, v6, h8, by omega, HB.out.set hb6 (by rw [nodesTo_yes hbit]; exact ho)⟩⟩
        obtain ⟨NL, hNL⟩ : ∃ NL, (nodesTo b i ++ [(i : Int)]).length = NL := ⟨_, rfl⟩
        have HNL := Lib.hid hNL
        clear hbit hi hnn hNL
        go_wp2_with (refine wpList_appI (xs := nodesTo b i) (ys := [(i : Int)]) (B := w.heap.size + 1) rfl _ _ 23 rfl Try.underlying23 rfl (HB.out.own.below (alloc_below wr _)) rfl rfl (rd_oneI wr _) HM1.out HBZ.out ?_
                     intro v6 w6 ho6 hg6
                     obtain ⟨h1, h2⟩ := HN.out v6 w6 ho6 hg6
                     obtain ⟨A6, c6, hv6, _⟩ := ho6.2
                     rw [HNL.out] at hv6
                     subst hv6
                     have z4 := frozen_of h1 4
                     obtain ⟨_, _, _, _, y4⟩ := box5 h1
                     have HY := Lib.hid h2
                     clear ho6 hg6 h1 h2)
        go_roundw
        case rel => first | exact HY.out _ (by go_num) | ((repeat apply Exists.intro); exact ⟨HY.out _ (by go_num), rfl⟩)
        case measure => simp [intOf]; omega
      | false =>
        have hbt : (((b : Int) / 2 ^ i).tmod 2 == 1) = false := by rw [HT.out, hbit]
        have HN : Hid (∀ v8, v8 = .int .i64 ((i + 1 : Nat) : Int) → BitL w f b v8 wr) := Lib.hid fun v8 h8 => ⟨i + 1, _, h8, by omega, by rw [nodesTo_no hbit]; exact HB.out⟩
        clear hbit hi hnn
        go_wp2_with fail
        go_roundw
        case rel => first | exact HN.out _ (by go_num) | ((repeat apply Exists.intro); exact ⟨HN.out _ (by go_num), rfl⟩)
        case measure => simp [intOf]; omega
    · have hie : i = 16 := by omega
      rw [hie, nodesTo_all, ← HNS.out] at hB
      rw [HMM.out] at hB
      have HB : Hid (Below w.heap.size w wr) := Lib.hid hB.bel
      have HX : Hid (LBx wr w.heap.size ⟨1, f, 0, 5, ns⟩ Av m cv) := Lib.hid ⟨hB.box, hB.own.rd⟩
      have hlti : ¬ (i : Int) < 16 := by omega
      clear hlt hi hie hB
      obtain ⟨x0, x1, x2, x3, x4⟩ := HX.out.cells
      simp only at x0 x1 x2 x3
      go_upto_region 17 with (first
        | (go_at_call 8; (with_reducible refine (HE.out _ _ _ HX.out.rd).mono ?_); rintro e w4 ⟨v4, rfl, ho, hb⟩
           obtain ⟨X, kx, hv, hk⟩ := ho.2
           rw [HM.out] at hv hk
           subst hv
           have HO := Lib.hid ho
           have HKX := Lib.hid hk
           have HB := Lib.hid (HB.out.trans (hb.mono HB.out.size))
           have HX := Lib.hid (HX.out.next hb)
           clear x0 x1 x2 x3 x4
           obtain ⟨x0, x1, x2, x3, x4⟩ := HX.out.cells
           clear ho hb hk)
        | (go_at_call 10; (with_reducible refine (HD.out _ X kx HKX.out HO.out.rd).mono ?_); rintro e w5 ⟨Ax, capx, rfl, hox, hb0⟩
           simp only [HMM.out] at hox ⊢
           have hb := hb0.trans ((alloc_below w5 (.cells #[.int .i64 1, .int .i64 f, .int .i64 0, .int .i64 5, .slice Ax m capx] 25)).mono hb0.size)
           have HZ : Hid (LBx (w5.alloc (.cells #[.int .i64 1, .int .i64 f, .int .i64 0, .int .i64 5, .slice Ax m capx] 25)) w5.heap.size ⟨1, f, 0, 5, ns⟩ Ax m capx) := Lib.hid ⟨heap_alloc_new w5 _, (hox.rd.below (alloc_below w5 _) (Nat.le_refl _)).more (alloc_below w5 _).size⟩
           obtain ⟨y0, y1, y2, y3, y4⟩ := HZ.out.cells
           simp only at y0 y1 y2 y3
           have HB := Lib.hid (HB.out.trans (hb.mono HB.out.size))
           have HX := Lib.hid (HX.out.next hb)
           clear x0 x1 x2 x3 x4
           obtain ⟨x0, x1, x2, x3, x4⟩ := HX.out.cells
           clear hox hb hb0)
        | (go_at_call 15; (with_reducible refine (HS.out _ _ _ _ _ HZ.out.rd HX.out.rd).mono ?_); rintro e w6 ⟨rfl, hb⟩
           have HZ := Lib.hid (HZ.out.next hb)
           clear y0 y1 y2 y3 y4
           obtain ⟨y0, y1, y2, y3, y4⟩ := HZ.out.cells
           have HB := Lib.hid (HB.out.trans (hb.mono HB.out.size))
           have HX := Lib.hid (HX.out.next hb)
           clear x0 x1 x2 x3 x4
           obtain ⟨x0, x1, x2, x3, x4⟩ := HX.out.cells
           have HY : Hid (LBy (w6.alloc (.cells #[.int .i64 kd, .int .i64 f, .int .i64 0, .int .i64 5, .slice Av m cv] 25)) w6.heap.size kd f 0 5 Av m cv ns) := Lib.hid ⟨heap_alloc_new w6 _, HX.out.rd.below (alloc_below w6 _) (Nat.le_refl _)⟩
           obtain ⟨u0, u1, u2, u3, u4⟩ := box5 HY.out.x
           clear hb)
        | (go_at_call 13; (with_reducible refine (HR1.out _ _ _ (HY.out.rd.more (alloc_below w6 _).size)).mono ?_); rintro e w7 ⟨rfl, hb7⟩
           have HY := Lib.hid (HY.out.next hb7)
           have z0 := frozen_of HY.out.x 0
           clear u0 u1 u2 u3 u4
           obtain ⟨u0, _⟩ := box5 HY.out.x
           have hb := (alloc_below w6 (.cells #[.int .i64 kd, .int .i64 f, .int .i64 0, .int .i64 5, .slice Av m cv] 25)).trans (hb7.mono (alloc_below w6 (.cells #[.int .i64 kd, .int .i64 f, .int .i64 0, .int .i64 5, .slice Av m cv] 25)).size)
           have hne : w.heap.size ≠ w6.heap.size := Nat.ne_of_lt (Array.getElem?_eq_some_iff.1 HX.out.x).1
           have HNE := Lib.hid hne
           have hsz := HB.out.size
           have HX := Lib.hid ((HX.out.next hb).setAt (v := .int .i64 1) (j := 0) hne HY.out.rd (Array.getElem?_eq_some_iff.1 HY.out.x).1)
           have HB := Lib.hid (set_below (g := w6.heap.size) (j := 0) (v := .int .i64 1) (HB.out.trans (hb.mono HB.out.size)) (by omega))
           have HY := Lib.hid (HY.out.set0 1)
           have HSZ := Lib.hid hsz
           clear hb hb7 hne hsz x0 x1 x2 x3 x4 y0 y1 y2 y3 y4)
        | fail)
      generalize hW7 : w7.setCell ⟨w6.heap.size, 0, none⟩ (.int .i64 1) = W7 at *
      clear hW7 z0 u0
      have HGL := Lib.hid (Array.getElem?_eq_some_iff.1 HY.out.x).1
      obtain ⟨x0, x1, x2, x3, x4⟩ := (HX.out.next (alloc_below W7 (.cells #[] 3))).cells
      simp only at x0 x1 x2 x3
      go_wp2_with (first
        | (at_builtin
           refine wpList_appI (xs := ns) (ys := [0]) (B := W7.heap.size) rfl _ _ 23 rfl Try.underlying23 rfl (HO8.out.below (alloc_below w8 _)) rfl rfl (rd_oneI w8 0) HA1.out (by have := H8.out.size; simp; omega) ?_
           intro v9 w9 ho9 hg9
           obtain ⟨A9, c9, hv9, _⟩ := ho9.2
           rw [HN9.out] at hv9
           subst hv9
           have h9 : Below W7.heap.size W7 w9 := (H8.out.trans ((alloc_below w8 (.cells #[.int .i64 0] 3)).mono H8.out.size)).trans (hg9.toBelow (by have := H8.out.size; simp; omega) HO8.out.ge)
           have hy9 := HY.out.next h9
           have z4 := frozen_of hy9.x 4
           have hgl := HGL.out
           have hs9 := h9.size
           have HX := Lib.hid ((HX.out.next h9).setAt (v := .slice A9 N9 c9) (j := 4) HNE.out hy9.rd (by omega))
           have HB := Lib.hid (set_below (g := w6.heap.size) (j := 4) (v := .slice A9 N9 c9) (HB.out.trans (h9.mono HB.out.size)) HSZ.out)
           have HR9 := Lib.hid ((ho9.kept (grown_set w9 w6.heap.size 4 (.slice A9 N9 c9)) (fun e => by have := ho9.ge _ e; omega)).rd)
           obtain ⟨u0, u1, u2, u3, u4⟩ := box5 (hy9.set4 (.slice A9 N9 c9))
           obtain ⟨_, _, _, _, y4⟩ := box5 hy9.x
           clear ho9 hg9 h9 hy9 hgl hs9)
        | (at_builtin
           refine wpList_appI (xs := []) (ys := ns) rfl _ _ 23 rfl Try.underlying23 rfl (own_emptyI W7) rfl HMM.out (HX.out.rd.below (alloc_below W7 _) (Nat.le_refl _)) HA0.out (alloc_below _ _).size ?_
           intro v8 w8 ho8 hg8
           obtain ⟨A8, c8, hv8, _⟩ := ho8.2
           rw [List.nil_append, HMM.out] at hv8
           subst hv8
           have HO8 := Lib.hid ho8
           have H8 := Lib.hid ((alloc_below W7 (.cells #[] 3)).trans (hg8.toBelow (alloc_below W7 (.cells #[] 3)).size (own_emptyI W7).ge))
           clear ho8 hg8)
        | (go_at_call 13; (with_reducible refine (HR2.out _ _ _ HR9.out).mono ?_); rintro e w10 ⟨rfl, hb⟩
           have HB := Lib.hid (HB.out.trans (hb.mono HB.out.size))
           have HX := Lib.hid (HX.out.next hb)
           obtain ⟨x0, x1, x2, x3, x4⟩ := HX.out.cells
           clear hb)
        | (go_at_call 7; refine (HL.out _).mono ?_; rintro e w12 ⟨rfl, hb⟩
           have HB := Lib.hid (HB.out.trans (hb.mono HB.out.size))
           have HX := Lib.hid (HX.out.next hb)
           obtain ⟨x0, x1, x2, x3, x4⟩ := HX.out.cells
           clear hb)
        | fail)
      go_ret
      exact ⟨rfl, HB.out⟩
set_option maxRecDepth 100000 in
set_option maxHeartbeats 16000000 in
theorem lbits_other (b : Nat) (hb : b < 65536) (f kd : Int) (hf : 0 ≤ f ∧ f < 16) (k1 : (kd == 1) = false) (k2 : 1 ≤ kd) (k3 : kd ≤ 8) (w : World) :
    Calls Try.prog 6 #[.int .i64 (b : Int), .int .i64 f, .int .i64 kd] w (Ans (.bool true) w) := by
  have HBI := Lib.hid hb
  have f0 : ¬ f < 0 := by omega
  have f1 : ¬ 16 ≤ f := by omega
  have b0 : ¬ (b : Int) < 0 := by omega
  have b1 : decide (65536 ≤ (b : Int)) = false := decide_eq_false (by omega)
  have HST : Hid (BitL w f b (.int .i64 0) (w.alloc (.cells #[.int .i64 1, .int .i64 f, .int .i64 0, .int .i64 5, .slice none 0 0] 25))) := Lib.hid ⟨0, _, rfl, by omega, alloc_below w _, heap_alloc_new w _, OwnI.nil _ _⟩
  obtain ⟨ns, hns⟩ : ∃ ns, ns = nodesI b := ⟨_, rfl⟩
  obtain ⟨m, hm⟩ : ∃ m, ns.length = m := ⟨_, rfl⟩
  have hup : upN (-1) ns = true := by rw [hns]; exact nodesI_up b
  have hm16 : m ≤ 16 := by have := up_len (a := -1) (by omega) (by omega) hup; omega
  have hmi : (m : Int) ≤ 16 := by omega
  obtain ⟨p, hp⟩ : ∃ p, ((m : Int) == 0) = p := ⟨_, rfl⟩
  have hpp : (p == p) = true := by cases p <;> rfl
  have hR : Ltr.right ⟨1, f, 0, 5, ns⟩ = true := by
    unfold Ltr.right
    rw [show headOk 1 f 0 5 = true from head_ok ⟨by omega, by omega⟩ ⟨hf, by omega⟩ (by omega), if_pos rfl, Bool.true_and]
    exact hup
  have hR1 : Ltr.right ⟨kd, f, 0, 5, ns⟩ = p := by
    have hk : ¬ kd = 1 := by simpa using k1
    unfold Ltr.right
    rw [show headOk kd f 0 5 = true from head_ok ⟨by omega, by omega⟩ ⟨hf, by omega⟩ (by omega), if_neg hk, Bool.true_and, ← hp, ← hm, Bool.eq_iff_iff, decide_eq_true_eq, beq_iff_eq]
    constructor
    · intro h; have h2 : ns = [] := h; rw [h2]; rfl
    · intro h; have h3 : ((ns.length : Nat) : Int) = 0 := h; have h4 : ns.length = 0 := by omega
      exact List.length_eq_zero_iff.1 h4
  have hR2 : Ltr.right ⟨1, f, 0, 5, ns ++ [0]⟩ = p := by
    unfold Ltr.right
    rw [show headOk 1 f 0 5 = true from head_ok ⟨by omega, by omega⟩ ⟨hf, by omega⟩ (by omega), if_pos rfl, Bool.true_and]
    exact twice_is hup (by rw [hm]; exact hp)
  have HE := Lib.hid (fun W A cap hrd => encL_yes hR (encodeL_any ⟨1, f, 0, 5, ns⟩ A m cap hm (by omega) W hrd))
  obtain ⟨M, hM⟩ : ∃ M, (Ltr.bytes ⟨1, f, 0, 5, ns⟩).length = M := ⟨_, rfl⟩
  have HM := Lib.hid hM
  have HD := Lib.hid (fun W X cap hcap hrd => decL_of hR hM hcap (A := X) (cap := cap) (w := W) hrd)
  have HS := Lib.hid (fun W A B c d hra hrb => sameL_any ⟨1, f, 0, 5, ns⟩ ⟨1, f, 0, 5, ns⟩ A B m m c d hm hm (by omega) (by omega) W hra hrb)
  rw [sameL_self] at HS
  have HR1 := Lib.hid (fun W A cap hrd => rightL_any kd f 0 5 ns A m cap hm (by omega) W hrd)
  rw [hR1] at HR1
  obtain ⟨N9, hN9⟩ : ∃ N9, (ns ++ [0]).length = N9 := ⟨_, rfl⟩
  have hN9m : N9 ≤ 20 := by rw [← hN9, List.length_append, hm]; simp; omega
  have HN9 := Lib.hid hN9
  have hN9i : (N9 : Int) ≤ 20 := by omega
  have HR2 := Lib.hid (fun W A cap hrd => rightL_any 1 f 0 5 (ns ++ [0]) A N9 cap hN9 (by omega) W hrd)
  rw [hR2] at HR2
  have HL := Lib.hid aliveZ_any
  have HNS := Lib.hid hns
  have HMM := Lib.hid hm
  have HA0 : Hid (([] : List Int).length + ns.length ≤ 1000000) := Lib.hid (by simp; omega)
  have HA1 : Hid (ns.length + ([0] : List Int).length ≤ 1000000) := Lib.hid (by simp; omega)
  clear hb hf hns hm hup hm16 hR hR1 hR2 hM hN9 hN9m
  go_enter Try.func6, Try.ntmps6
  go_wp2_with fail
  go_loopw [8] (fun v8 wr => BitL w f b v8 wr) (fun v8 _ => 16 - (intOf v8).toNat)
  case atStart => exact HST.out
  case round =>
    obtain ⟨i, v, rfl, hi, hB⟩ := hrel
    obtain ⟨Av, cv, rfl, _⟩ := hB.own.2
    by_cases hlt : i < 16
    · obtain ⟨nn, hnn⟩ : ∃ nn, nn = (nodesTo b i).length := ⟨_, rfl⟩
      rw [← hnn] at hB
      have HB := Lib.hid hB
      obtain ⟨x0, x1, x2, x3, x4⟩ := box5 hB.box
      have z4 := frozen_of hB.box 4
      clear hB
      have hlti : (i : Int) < 16 := by omega
      have hi0 : 0 ≤ (i : Int) := by omega
      have HT := Lib.hid (rem2 (b := b) (i := i))
      cases hbit : b.testBit i with
      | true =>
        have hbt : (((b : Int) / 2 ^ i).tmod 2 == 1) = true := by rw [HT.out, hbit]
        have HM1 : Hid ((nodesTo b i).length + [(i : Int)].length ≤ 1000000) := Lib.hid (by have := nodesTo_len b i; simp; omega)
        have HLT := Lib.hid (Array.getElem?_eq_some_iff.1 HB.out.box).1
        have HBZ : Hid (w.heap.size + 1 ≤ (wr.alloc (.cells #[.int .i64 (i : Int)] 3)).heap.size) := Lib.hid (by have := HLT.out; simp; omega)
        have HN : Hid (∀ v6 w6, OwnI w6 (w.heap.size + 1) v6 (nodesTo b i ++ [(i : Int)]) → Grew (wr.alloc (.cells #[.int .i64 (i : Int)] 3)) (.slice Av nn cv) w6 v6 → w6.heap[w.heap.size]? = some (.cells #[.int .i64 1, .int .i64 f, .int .i64 0, .int .i64 5, .slice Av nn cv] 25 (0, 0)) ∧ ∀ v8, v8 = .int .i64 ((i + 1 : Nat) : Int) → BitL w f b v8 (w6.setCell ⟨w.heap.size, 4, none⟩ v6)) := Lib.hid fun v6 w6 ho hg => by
          have h1 := hg.toBelow HBZ.out HB.out.own.ge
          have hb6 : Below (w.heap.size + 1) wr w6 := ((alloc_below wr _).mono (by have := HLT.out; omega)).trans h1
          exact ⟨(hb6.block _ (by omega)).trans HB.out.box, fun v8 h8 => ⟨i + 1, v6, h8, by omega, HB.out.set hb6 (by rw [nodesTo_yes hbit]; exact ho)⟩⟩
        obtain ⟨NL, hNL⟩ : ∃ NL, (nodesTo b i ++ [(i : Int)]).length = NL := ⟨_, rfl⟩
        have HNL := Lib.hid hNL
        clear hbit hi hnn hNL
        go_wp2_with (refine wpList_appI (xs := nodesTo b i) (ys := [(i : Int)]) (B := w.heap.size + 1) rfl _ _ 23 rfl Try.underlying23 rfl (HB.out.own.below (alloc_below wr _)) rfl rfl (rd_oneI wr _) HM1.out HBZ.out ?_
                     intro v6 w6 ho6 hg6
                     obtain ⟨h1, h2⟩ := HN.out v6 w6 ho6 hg6
                     obtain ⟨A6, c6, hv6, _⟩ := ho6.2
                     rw [HNL.out] at hv6
                     subst hv6
                     have z4 := frozen_of h1 4
                     obtain ⟨_, _, _, _, y4⟩ := box5 h1
                     have HY := Lib.hid h2
                     clear ho6 hg6 h1 h2)
        go_roundw
        case rel => first | exact HY.out _ (by go_num) | ((repeat apply Exists.intro); exact ⟨HY.out _ (by go_num), rfl⟩)
        case measure => simp [intOf]; omega
      | false =>
        have hbt : (((b : Int) / 2 ^ i).tmod 2 == 1) = false := by rw [HT.out, hbit]
        have HN : Hid (∀ v8, v8 = .int .i64 ((i + 1 : Nat) : Int) → BitL w f b v8 wr) := Lib.hid fun v8 h8 => ⟨i + 1, _, h8, by omega, by rw [nodesTo_no hbit]; exact HB.out⟩
        clear hbit hi hnn
        go_wp2_with fail
        go_roundw
        case rel => first | exact HN.out _ (by go_num) | ((repeat apply Exists.intro); exact ⟨HN.out _ (by go_num), rfl⟩)
        case measure => simp [intOf]; omega
    · have hie : i = 16 := by omega
      rw [hie, nodesTo_all, ← HNS.out] at hB
      rw [HMM.out] at hB
      have HB : Hid (Below w.heap.size w wr) := Lib.hid hB.bel
      have HX : Hid (LBx wr w.heap.size ⟨1, f, 0, 5, ns⟩ Av m cv) := Lib.hid ⟨hB.box, hB.own.rd⟩
      have hlti : ¬ (i : Int) < 16 := by omega
      clear hlt hi hie hB
      obtain ⟨x0, x1, x2, x3, x4⟩ := HX.out.cells
      simp only at x0 x1 x2 x3
      go_upto_region 17 with (first
        | (go_at_call 8; (with_reducible refine (HE.out _ _ _ HX.out.rd).mono ?_); rintro e w4 ⟨v4, rfl, ho, hb⟩
           obtain ⟨X, kx, hv, hk⟩ := ho.2
           rw [HM.out] at hv hk
           subst hv
           have HO := Lib.hid ho
           have HKX := Lib.hid hk
           have HB := Lib.hid (HB.out.trans (hb.mono HB.out.size))
           have HX := Lib.hid (HX.out.next hb)
           clear x0 x1 x2 x3 x4
           obtain ⟨x0, x1, x2, x3, x4⟩ := HX.out.cells
           clear ho hb hk)
        | (go_at_call 10; (with_reducible refine (HD.out _ X kx HKX.out HO.out.rd).mono ?_); rintro e w5 ⟨Ax, capx, rfl, hox, hb0⟩
           simp only [HMM.out] at hox ⊢
           have hb := hb0.trans ((alloc_below w5 (.cells #[.int .i64 1, .int .i64 f, .int .i64 0, .int .i64 5, .slice Ax m capx] 25)).mono hb0.size)
           have HZ : Hid (LBx (w5.alloc (.cells #[.int .i64 1, .int .i64 f, .int .i64 0, .int .i64 5, .slice Ax m capx] 25)) w5.heap.size ⟨1, f, 0, 5, ns⟩ Ax m capx) := Lib.hid ⟨heap_alloc_new w5 _, (hox.rd.below (alloc_below w5 _) (Nat.le_refl _)).more (alloc_below w5 _).size⟩
           obtain ⟨y0, y1, y2, y3, y4⟩ := HZ.out.cells
           simp only at y0 y1 y2 y3
           have HB := Lib.hid (HB.out.trans (hb.mono HB.out.size))
           have HX := Lib.hid (HX.out.next hb)
           clear x0 x1 x2 x3 x4
           obtain ⟨x0, x1, x2, x3, x4⟩ := HX.out.cells
           clear hox hb hb0)
        | (go_at_call 15; (with_reducible refine (HS.out _ _ _ _ _ HZ.out.rd HX.out.rd).mono ?_); rintro e w6 ⟨rfl, hb⟩
           have HZ := Lib.hid (HZ.out.next hb)
           clear y0 y1 y2 y3 y4
           obtain ⟨y0, y1, y2, y3, y4⟩ := HZ.out.cells
           have HB := Lib.hid (HB.out.trans (hb.mono HB.out.size))
           have HX := Lib.hid (HX.out.next hb)
           clear x0 x1 x2 x3 x4
           obtain ⟨x0, x1, x2, x3, x4⟩ := HX.out.cells
           have HY : Hid (LBy (w6.alloc (.cells #[.int .i64 kd, .int .i64 f, .int .i64 0, .int .i64 5, .slice Av m cv] 25)) w6.heap.size kd f 0 5 Av m cv ns) := Lib.hid ⟨heap_alloc_new w6 _, HX.out.rd.below (alloc_below w6 _) (Nat.le_refl _)⟩
           obtain ⟨u0, u1, u2, u3, u4⟩ := box5 HY.out.x
           clear hb)
        | (go_at_call 13; (with_reducible refine (HR1.out _ _ _ (HY.out.rd.more (alloc_below w6 _).size)).mono ?_); rintro e w7 ⟨rfl, hb7⟩
           have HY := Lib.hid (HY.out.next hb7)
           have z0 := frozen_of HY.out.x 0
           clear u0 u1 u2 u3 u4
           obtain ⟨u0, _⟩ := box5 HY.out.x
           have hb := (alloc_below w6 (.cells #[.int .i64 kd, .int .i64 f, .int .i64 0, .int .i64 5, .slice Av m cv] 25)).trans (hb7.mono (alloc_below w6 (.cells #[.int .i64 kd, .int .i64 f, .int .i64 0, .int .i64 5, .slice Av m cv] 25)).size)
           have hne : w.heap.size ≠ w6.heap.size := Nat.ne_of_lt (Array.getElem?_eq_some_iff.1 HX.out.x).1
           have HNE := Lib.hid hne
           have hsz := HB.out.size
           have HX := Lib.hid ((HX.out.next hb).setAt (v := .int .i64 1) (j := 0) hne HY.out.rd (Array.getElem?_eq_some_iff.1 HY.out.x).1)
           have HB := Lib.hid (set_below (g := w6.heap.size) (j := 0) (v := .int .i64 1) (HB.out.trans (hb.mono HB.out.size)) (by omega))
           have HY := Lib.hid (HY.out.set0 1)
           have HSZ := Lib.hid hsz
           clear hb hb7 hne hsz x0 x1 x2 x3 x4 y0 y1 y2 y3 y4)
        | fail)
      generalize hW7 : w7.setCell ⟨w6.heap.size, 0, none⟩ (.int .i64 1) = W7 at *
      clear hW7 z0 u0
      have HGL := Lib.hid (Array.getElem?_eq_some_iff.1 HY.out.x).1
      obtain ⟨x0, x1, x2, x3, x4⟩ := (HX.out.next (alloc_below W7 (.cells #[] 3))).cells
      simp only at x0 x1 x2 x3
      go_wp2_with (first
        | (at_builtin
           refine wpList_appI (xs := ns) (ys := [0]) (B := W7.heap.size) rfl _ _ 23 rfl Try.underlying23 rfl (HO8.out.below (alloc_below w8 _)) rfl rfl (rd_oneI w8 0) HA1.out (by have := H8.out.size; simp; omega) ?_
           intro v9 w9 ho9 hg9
           obtain ⟨A9, c9, hv9, _⟩ := ho9.2
           rw [HN9.out] at hv9
           subst hv9
           have h9 : Below W7.heap.size W7 w9 := (H8.out.trans ((alloc_below w8 (.cells #[.int .i64 0] 3)).mono H8.out.size)).trans (hg9.toBelow (by have := H8.out.size; simp; omega) HO8.out.ge)
           have hy9 := HY.out.next h9
           have z4 := frozen_of hy9.x 4
           have hgl := HGL.out
           have hs9 := h9.size
           have HX := Lib.hid ((HX.out.next h9).setAt (v := .slice A9 N9 c9) (j := 4) HNE.out hy9.rd (by omega))
           have HB := Lib.hid (set_below (g := w6.heap.size) (j := 4) (v := .slice A9 N9 c9) (HB.out.trans (h9.mono HB.out.size)) HSZ.out)
           have HR9 := Lib.hid ((ho9.kept (grown_set w9 w6.heap.size 4 (.slice A9 N9 c9)) (fun e => by have := ho9.ge _ e; omega)).rd)
           obtain ⟨u0, u1, u2, u3, u4⟩ := box5 (hy9.set4 (.slice A9 N9 c9))
           obtain ⟨_, _, _, _, y4⟩ := box5 hy9.x
           clear ho9 hg9 h9 hy9 hgl hs9)
        | (at_builtin
           refine wpList_appI (xs := []) (ys := ns) rfl _ _ 23 rfl Try.underlying23 rfl (own_emptyI W7) rfl HMM.out (HX.out.rd.below (alloc_below W7 _) (Nat.le_refl _)) HA0.out (alloc_below _ _).size ?_
           intro v8 w8 ho8 hg8
           obtain ⟨A8, c8, hv8, _⟩ := ho8.2
           rw [List.nil_append, HMM.out] at hv8
           subst hv8
           have HO8 := Lib.hid ho8
           have H8 := Lib.hid ((alloc_below W7 (.cells #[] 3)).trans (hg8.toBelow (alloc_below W7 (.cells #[] 3)).size (own_emptyI W7).ge))
           clear ho8 hg8)
        | (go_at_call 13; (with_reducible refine (HR2.out _ _ _ HR9.out).mono ?_); rintro e w10 ⟨rfl, hb⟩
           have HB := Lib.hid (HB.out.trans (hb.mono HB.out.size))
           have HX := Lib.hid (HX.out.next hb)
           obtain ⟨x0, x1, x2, x3, x4⟩ := HX.out.cells
           clear hb)
        | (go_at_call 7; refine (HL.out _).mono ?_; rintro e w12 ⟨rfl, hb⟩
           have HB := Lib.hid (HB.out.trans (hb.mono HB.out.size))
           have HX := Lib.hid (HX.out.next hb)
           obtain ⟨x0, x1, x2, x3, x4⟩ := HX.out.cells
           clear hb)
        | fail)
      go_ret
      exact ⟨rfl, HB.out⟩
set_option maxRecDepth 100000 in
set_option maxHeartbeats 16000000 in
theorem lbits_low (b : Nat) (hb : b < 65536) (f kd : Int) (hf : 0 ≤ f ∧ f < 16) (k1 : (kd == 1) = false) (k2 : ¬ 1 ≤ kd) (w : World) :
    Calls Try.prog 6 #[.int .i64 (b : Int), .int .i64 f, .int .i64 kd] w (Ans (.bool true) w) := by
  have HBI := Lib.hid hb
  have f0 : ¬ f < 0 := by omega
  have f1 : ¬ 16 ≤ f := by omega
  have b0 : ¬ (b : Int) < 0 := by omega
  have b1 : decide (65536 ≤ (b : Int)) = false := decide_eq_false (by omega)
  have HST : Hid (BitL w f b (.int .i64 0) (w.alloc (.cells #[.int .i64 1, .int .i64 f, .int .i64 0, .int .i64 5, .slice none 0 0] 25))) := Lib.hid ⟨0, _, rfl, by omega, alloc_below w _, heap_alloc_new w _, OwnI.nil _ _⟩
  obtain ⟨ns, hns⟩ : ∃ ns, ns = nodesI b := ⟨_, rfl⟩
  obtain ⟨m, hm⟩ : ∃ m, ns.length = m := ⟨_, rfl⟩
  have hup : upN (-1) ns = true := by rw [hns]; exact nodesI_up b
  have hm16 : m ≤ 16 := by have := up_len (a := -1) (by omega) (by omega) hup; omega
  have hmi : (m : Int) ≤ 16 := by omega
  obtain ⟨p, hp⟩ : ∃ p, ((m : Int) == 0) = p := ⟨_, rfl⟩
  have hpp : (p == p) = true := by cases p <;> rfl
  have hR : Ltr.right ⟨1, f, 0, 5, ns⟩ = true := by
    unfold Ltr.right
    rw [show headOk 1 f 0 5 = true from head_ok ⟨by omega, by omega⟩ ⟨hf, by omega⟩ (by omega), if_pos rfl, Bool.true_and]
    exact hup
  have hR1 : Ltr.right ⟨kd, f, 0, 5, ns⟩ = false := right_bad (head_k (fun h => k2 h.1))
  have hR2 : Ltr.right ⟨1, f, 0, 5, ns ++ [0]⟩ = p := by
    unfold Ltr.right
    rw [show headOk 1 f 0 5 = true from head_ok ⟨by omega, by omega⟩ ⟨hf, by omega⟩ (by omega), if_pos rfl, Bool.true_and]
    exact twice_is hup (by rw [hm]; exact hp)
  have HE := Lib.hid (fun W A cap hrd => encL_yes hR (encodeL_any ⟨1, f, 0, 5, ns⟩ A m cap hm (by omega) W hrd))
  obtain ⟨M, hM⟩ : ∃ M, (Ltr.bytes ⟨1, f, 0, 5, ns⟩).length = M := ⟨_, rfl⟩
  have HM := Lib.hid hM
  have HD := Lib.hid (fun W X cap hcap hrd => decL_of hR hM hcap (A := X) (cap := cap) (w := W) hrd)
  have HS := Lib.hid (fun W A B c d hra hrb => sameL_any ⟨1, f, 0, 5, ns⟩ ⟨1, f, 0, 5, ns⟩ A B m m c d hm hm (by omega) (by omega) W hra hrb)
  rw [sameL_self] at HS
  have HR1 := Lib.hid (fun W A cap hrd => rightL_any kd f 0 5 ns A m cap hm (by omega) W hrd)
  rw [hR1] at HR1
  obtain ⟨N9, hN9⟩ : ∃ N9, (ns ++ [0]).length = N9 := ⟨_, rfl⟩
  have hN9m : N9 ≤ 20 := by rw [← hN9, List.length_append, hm]; simp; omega
  have HN9 := Lib.hid hN9
  have hN9i : (N9 : Int) ≤ 20 := by omega
  have HR2 := Lib.hid (fun W A cap hrd => rightL_any 1 f 0 5 (ns ++ [0]) A N9 cap hN9 (by omega) W hrd)
  rw [hR2] at HR2
  have HL := Lib.hid aliveZ_any
  have HNS := Lib.hid hns
  have HMM := Lib.hid hm
  have HA0 : Hid (([] : List Int).length + ns.length ≤ 1000000) := Lib.hid (by simp; omega)
  have HA1 : Hid (ns.length + ([0] : List Int).length ≤ 1000000) := Lib.hid (by simp; omega)
  clear hb hf hns hm hup hm16 hR hR1 hR2 hM hN9 hN9m
  go_enter Try.func6, Try.ntmps6
  go_wp2_with fail
  go_loopw [8] (fun v8 wr => BitL w f b v8 wr) (fun v8 _ => 16 - (intOf v8).toNat)
  case atStart => exact HST.out
  case round =>
    obtain ⟨i, v, rfl, hi, hB⟩ := hrel
    obtain ⟨Av, cv, rfl, _⟩ := hB.own.2
    by_cases hlt : i < 16
    · obtain ⟨nn, hnn⟩ : ∃ nn, nn = (nodesTo b i).length := ⟨_, rfl⟩
      rw [← hnn] at hB
      have HB := Lib.hid hB
      obtain ⟨x0, x1, x2, x3, x4⟩ := box5 hB.box
      have z4 := frozen_of hB.box 4
      clear hB
      have hlti : (i : Int) < 16 := by omega
      have hi0 : 0 ≤ (i : Int) := by omega
      have HT := Lib.hid (rem2 (b := b) (i := i))
      cases hbit : b.testBit i with
      | true =>
        have hbt : (((b : Int) / 2 ^ i).tmod 2 == 1) = true := by rw [HT.out, hbit]
        have HM1 : Hid ((nodesTo b i).length + [(i : Int)].length ≤ 1000000) := Lib.hid (by have := nodesTo_len b i; simp; omega)
        have HLT := Lib.hid (Array.getElem?_eq_some_iff.1 HB.out.box).1
        have HBZ : Hid (w.heap.size + 1 ≤ (wr.alloc (.cells #[.int .i64 (i : Int)] 3)).heap.size) := Lib.hid (by have := HLT.out; simp; omega)
        have HN : Hid (∀ v6 w6, OwnI w6 (w.heap.size + 1) v6 (nodesTo b i ++ [(i : Int)]) → Grew (wr.alloc (.cells #[.int .i64 (i : Int)] 3)) (.slice Av nn cv) w6 v6 → w6.heap[w.heap.size]? = some (.cells #[.int .i64 1, .int .i64 f, .int .i64 0, .int .i64 5, .slice Av nn cv] 25 (0, 0)) ∧ ∀ v8, v8 = .int .i64 ((i + 1 : Nat) : Int) → BitL w f b v8 (w6.setCell ⟨w.heap.size, 4, none⟩ v6)) := Lib.hid fun v6 w6 ho hg => by
          have h1 := hg.toBelow HBZ.out HB.out.own.ge
          have hb6 : Below (w.heap.size + 1) wr w6 := ((alloc_below wr _).mono (by have := HLT.out; omega)).trans h1
          exact ⟨(hb6.block _ (by omega)).trans HB.out.box, fun v8 h8 => ⟨i + 1, v6, h8, by omega, HB.out.set hb6 (by rw [nodesTo_yes hbit]; exact ho)⟩⟩
        obtain ⟨NL, hNL⟩ : ∃ NL, (nodesTo b i ++ [(i : Int)]).length = NL := ⟨_, rfl⟩
        have HNL := Lib.hid hNL
        clear hbit hi hnn hNL
        go_wp2_with (refine wpList_appI (xs := nodesTo b i) (ys := [(i : Int)]) (B := w.heap.size + 1) rfl _ _ 23 rfl Try.underlying23 rfl (HB.out.own.below (alloc_below wr _)) rfl rfl (rd_oneI wr _) HM1.out HBZ.out ?_
                     intro v6 w6 ho6 hg6
                     obtain ⟨h1, h2⟩ := HN.out v6 w6 ho6 hg6
                     obtain ⟨A6, c6, hv6, _⟩ := ho6.2
                     rw [HNL.out] at hv6
                     subst hv6
                     have z4 := frozen_of h1 4
                     obtain ⟨_, _, _, _, y4⟩ := box5 h1
                     have HY := Lib.hid h2
                     clear ho6 hg6 h1 h2)
        go_roundw
        case rel => first | exact HY.out _ (by go_num) | ((repeat apply Exists.intro); exact ⟨HY.out _ (by go_num), rfl⟩)
        case measure => simp [intOf]; omega
      | false =>
        have hbt : (((b : Int) / 2 ^ i).tmod 2 == 1) = false := by rw [HT.out, hbit]
        have HN : Hid (∀ v8, v8 = .int .i64 ((i + 1 : Nat) : Int) → BitL w f b v8 wr) := Lib.hid fun v8 h8 => ⟨i + 1, _, h8, by omega, by rw [nodesTo_no hbit]; exact HB.out⟩
        clear hbit hi hnn
        go_wp2_with fail
        go_roundw
        case rel => first | exact HN.out _ (by go_num) | ((repeat apply Exists.intro); exact ⟨HN.out _ (by go_num), rfl⟩)
        case measure => simp [intOf]; omega
    · have hie : i = 16 := by omega
      rw [hie, nodesTo_all, ← HNS.out] at hB
      rw [HMM.out] at hB
      have HB : Hid (Below w.heap.size w wr) := Lib.hid hB.bel
      have HX : Hid (LBx wr w.heap.size ⟨1, f, 0, 5, ns⟩ Av m cv) := Lib.hid ⟨hB.box, hB.own.rd⟩
      have hlti : ¬ (i : Int) < 16 := by omega
      clear hlt hi hie hB
      obtain ⟨x0, x1, x2, x3, x4⟩ := HX.out.cells
      simp only at x0 x1 x2 x3
      go_upto_region 17 with (first
        | (go_at_call 8; (with_reducible refine (HE.out _ _ _ HX.out.rd).mono ?_); rintro e w4 ⟨v4, rfl, ho, hb⟩
           obtain ⟨X, kx, hv, hk⟩ := ho.2
           rw [HM.out] at hv hk
           subst hv
           have HO := Lib.hid ho
           have HKX := Lib.hid hk
           have HB := Lib.hid (HB.out.trans (hb.mono HB.out.size))
           have HX := Lib.hid (HX.out.next hb)
           clear x0 x1 x2 x3 x4
           obtain ⟨x0, x1, x2, x3, x4⟩ := HX.out.cells
           clear ho hb hk)
        | (go_at_call 10; (with_reducible refine (HD.out _ X kx HKX.out HO.out.rd).mono ?_); rintro e w5 ⟨Ax, capx, rfl, hox, hb0⟩
           simp only [HMM.out] at hox ⊢
           have hb := hb0.trans ((alloc_below w5 (.cells #[.int .i64 1, .int .i64 f, .int .i64 0, .int .i64 5, .slice Ax m capx] 25)).mono hb0.size)
           have HZ : Hid (LBx (w5.alloc (.cells #[.int .i64 1, .int .i64 f, .int .i64 0, .int .i64 5, .slice Ax m capx] 25)) w5.heap.size ⟨1, f, 0, 5, ns⟩ Ax m capx) := Lib.hid ⟨heap_alloc_new w5 _, (hox.rd.below (alloc_below w5 _) (Nat.le_refl _)).more (alloc_below w5 _).size⟩
           obtain ⟨y0, y1, y2, y3, y4⟩ := HZ.out.cells
           simp only at y0 y1 y2 y3
           have HB := Lib.hid (HB.out.trans (hb.mono HB.out.size))
           have HX := Lib.hid (HX.out.next hb)
           clear x0 x1 x2 x3 x4
           obtain ⟨x0, x1, x2, x3, x4⟩ := HX.out.cells
           clear hox hb hb0)
        | (go_at_call 15; (with_reducible refine (HS.out _ _ _ _ _ HZ.out.rd HX.out.rd).mono ?_); rintro e w6 ⟨rfl, hb⟩
           have HZ := Lib.hid (HZ.out.next hb)
           clear y0 y1 y2 y3 y4
           obtain ⟨y0, y1, y2, y3, y4⟩ := HZ.out.cells
           have HB := Lib.hid (HB.out.trans (hb.mono HB.out.size))
           have HX := Lib.hid (HX.out.next hb)
           clear x0 x1 x2 x3 x4
           obtain ⟨x0, x1, x2, x3, x4⟩ := HX.out.cells
           have HY : Hid (LBy (w6.alloc (.cells #[.int .i64 kd, .int .i64 f, .int .i64 0, .int .i64 5, .slice Av m cv] 25)) w6.heap.size kd f 0 5 Av m cv ns) := Lib.hid ⟨heap_alloc_new w6 _, HX.out.rd.below (alloc_below w6 _) (Nat.le_refl _)⟩
           obtain ⟨u0, u1, u2, u3, u4⟩ := box5 HY.out.x
           clear hb)
        | (go_at_call 13; (with_reducible refine (HR1.out _ _ _ (HY.out.rd.more (alloc_below w6 _).size)).mono ?_); rintro e w7 ⟨rfl, hb7⟩
           have HY := Lib.hid (HY.out.next hb7)
           have z0 := frozen_of HY.out.x 0
           clear u0 u1 u2 u3 u4
           obtain ⟨u0, _⟩ := box5 HY.out.x
           have hb := (alloc_below w6 (.cells #[.int .i64 kd, .int .i64 f, .int .i64 0, .int .i64 5, .slice Av m cv] 25)).trans (hb7.mono (alloc_below w6 (.cells #[.int .i64 kd, .int .i64 f, .int .i64 0, .int .i64 5, .slice Av m cv] 25)).size)
           have hne : w.heap.size ≠ w6.heap.size := Nat.ne_of_lt (Array.getElem?_eq_some_iff.1 HX.out.x).1
           have HNE := Lib.hid hne
           have hsz := HB.out.size
           have HX := Lib.hid ((HX.out.next hb).setAt (v := .int .i64 1) (j := 0) hne HY.out.rd (Array.getElem?_eq_some_iff.1 HY.out.x).1)
           have HB := Lib.hid (set_below (g := w6.heap.size) (j := 0) (v := .int .i64 1) (HB.out.trans (hb.mono HB.out.size)) (by omega))
           have HY := Lib.hid (HY.out.set0 1)
           have HSZ := Lib.hid hsz
           clear hb hb7 hne hsz x0 x1 x2 x3 x4 y0 y1 y2 y3 y4)
        | fail)
      generalize hW7 : w7.setCell ⟨w6.heap.size, 0, none⟩ (.int .i64 1) = W7 at *
      clear hW7 z0 u0
      have HGL := Lib.hid (Array.getElem?_eq_some_iff.1 HY.out.x).1
      obtain ⟨x0, x1, x2, x3, x4⟩ := (HX.out.next (alloc_below W7 (.cells #[] 3))).cells
      simp only at x0 x1 x2 x3
      go_wp2_with (first
        | (at_builtin
           refine wpList_appI (xs := ns) (ys := [0]) (B := W7.heap.size) rfl _ _ 23 rfl Try.underlying23 rfl (HO8.out.below (alloc_below w8 _)) rfl rfl (rd_oneI w8 0) HA1.out (by have := H8.out.size; simp; omega) ?_
           intro v9 w9 ho9 hg9
           obtain ⟨A9, c9, hv9, _⟩ := ho9.2
           rw [HN9.out] at hv9
           subst hv9
           have h9 : Below W7.heap.size W7 w9 := (H8.out.trans ((alloc_below w8 (.cells #[.int .i64 0] 3)).mono H8.out.size)).trans (hg9.toBelow (by have := H8.out.size; simp; omega) HO8.out.ge)
           have hy9 := HY.out.next h9
           have z4 := frozen_of hy9.x 4
           have hgl := HGL.out
           have hs9 := h9.size
           have HX := Lib.hid ((HX.out.next h9).setAt (v := .slice A9 N9 c9) (j := 4) HNE.out hy9.rd (by omega))
           have HB := Lib.hid (set_below (g := w6.heap.size) (j := 4) (v := .slice A9 N9 c9) (HB.out.trans (h9.mono HB.out.size)) HSZ.out)
           have HR9 := Lib.hid ((ho9.kept (grown_set w9 w6.heap.size 4 (.slice A9 N9 c9)) (fun e => by have := ho9.ge _ e; omega)).rd)
           obtain ⟨u0, u1, u2, u3, u4⟩ := box5 (hy9.set4 (.slice A9 N9 c9))
           obtain ⟨_, _, _, _, y4⟩ := box5 hy9.x
           clear ho9 hg9 h9 hy9 hgl hs9)
        | (at_builtin
           refine wpList_appI (xs := []) (ys := ns) rfl _ _ 23 rfl Try.underlying23 rfl (own_emptyI W7) rfl HMM.out (HX.out.rd.below (alloc_below W7 _) (Nat.le_refl _)) HA0.out (alloc_below _ _).size ?_
           intro v8 w8 ho8 hg8
           obtain ⟨A8, c8, hv8, _⟩ := ho8.2
           rw [List.nil_append, HMM.out] at hv8
           subst hv8
           have HO8 := Lib.hid ho8
           have H8 := Lib.hid ((alloc_below W7 (.cells #[] 3)).trans (hg8.toBelow (alloc_below W7 (.cells #[] 3)).size (own_emptyI W7).ge))
           clear ho8 hg8)
        | (go_at_call 13; (with_reducible refine (HR2.out _ _ _ HR9.out).mono ?_); rintro e w10 ⟨rfl, hb⟩
           have HB := Lib.hid (HB.out.trans (hb.mono HB.out.size))
           have HX := Lib.hid (HX.out.next hb)
           obtain ⟨x0, x1, x2, x3, x4⟩ := HX.out.cells
           clear hb)
        | (go_at_call 7; refine (HL.out _).mono ?_; rintro e w12 ⟨rfl, hb⟩
           have HB := Lib.hid (HB.out.trans (hb.mono HB.out.size))
           have HX := Lib.hid (HX.out.next hb)
           obtain ⟨x0, x1, x2, x3, x4⟩ := HX.out.cells
           clear hb)
        | fail)
      go_ret
      exact ⟨rfl, HB.out⟩
set_option maxRecDepth 100000 in
set_option maxHeartbeats 16000000 in
theorem lbits_high (b : Nat) (hb : b < 65536) (f kd : Int) (hf : 0 ≤ f ∧ f < 16) (k1 : (kd == 1) = false) (k2 : 1 ≤ kd) (k3 : ¬ kd ≤ 8) (w : World) :
    Calls Try.prog 6 #[.int .i64 (b : Int), .int .i64 f, .int .i64 kd] w (Ans (.bool true) w) := by
  have HBI := Lib.hid hb
  have f0 : ¬ f < 0 := by omega
  have f1 : ¬ 16 ≤ f := by omega
  have b0 : ¬ (b : Int) < 0 := by omega
  have b1 : decide (65536 ≤ (b : Int)) = false := decide_eq_false (by omega)
  have HST : Hid (BitL w f b (.int .i64 0) (w.alloc (.cells #[.int .i64 1, .int .i64 f, .int .i64 0, .int .i64 5, .slice none 0 0] 25))) := Lib.hid ⟨0, _, rfl, by omega, alloc_below w _, heap_alloc_new w _, OwnI.nil _ _⟩
  obtain ⟨ns, hns⟩ : ∃ ns, ns = nodesI b := ⟨_, rfl⟩
  obtain ⟨m, hm⟩ : ∃ m, ns.length = m := ⟨_, rfl⟩
  have hup : upN (-1) ns = true := by rw [hns]; exact nodesI_up b
  have hm16 : m ≤ 16 := by have := up_len (a := -1) (by omega) (by omega) hup; omega
  have hmi : (m : Int) ≤ 16 := by omega
  obtain ⟨p, hp⟩ : ∃ p, ((m : Int) == 0) = p := ⟨_, rfl⟩
  have hpp : (p == p) = true := by cases p <;> rfl
  have hR : Ltr.right ⟨1, f, 0, 5, ns⟩ = true := by
    unfold Ltr.right
    rw [show headOk 1 f 0 5 = true from head_ok ⟨by omega, by omega⟩ ⟨hf, by omega⟩ (by omega), if_pos rfl, Bool.true_and]
    exact hup
  have hR1 : Ltr.right ⟨kd, f, 0, 5, ns⟩ = false := right_bad (head_k (fun h => k3 h.2))
  have hR2 : Ltr.right ⟨1, f, 0, 5, ns ++ [0]⟩ = p := by
    unfold Ltr.right
    rw [show headOk 1 f 0 5 = true from head_ok ⟨by omega, by omega⟩ ⟨hf, by omega⟩ (by omega), if_pos rfl, Bool.true_and]
    exact twice_is hup (by rw [hm]; exact hp)
  have HE := Lib.hid (fun W A cap hrd => encL_yes hR (encodeL_any ⟨1, f, 0, 5, ns⟩ A m cap hm (by omega) W hrd))
  obtain ⟨M, hM⟩ : ∃ M, (Ltr.bytes ⟨1, f, 0, 5, ns⟩).length = M := ⟨_, rfl⟩
  have HM := Lib.hid hM
  have HD := Lib.hid (fun W X cap hcap hrd => decL_of hR hM hcap (A := X) (cap := cap) (w := W) hrd)
  have HS := Lib.hid (fun W A B c d hra hrb => sameL_any ⟨1, f, 0, 5, ns⟩ ⟨1, f, 0, 5, ns⟩ A B m m c d hm hm (by omega) (by omega) W hra hrb)
  rw [sameL_self] at HS
  have HR1 := Lib.hid (fun W A cap hrd => rightL_any kd f 0 5 ns A m cap hm (by omega) W hrd)
  rw [hR1] at HR1
  obtain ⟨N9, hN9⟩ : ∃ N9, (ns ++ [0]).length = N9 := ⟨_, rfl⟩
  have hN9m : N9 ≤ 20 := by rw [← hN9, List.length_append, hm]; simp; omega
  have HN9 := Lib.hid hN9
  have hN9i : (N9 : Int) ≤ 20 := by omega
  have HR2 := Lib.hid (fun W A cap hrd => rightL_any 1 f 0 5 (ns ++ [0]) A N9 cap hN9 (by omega) W hrd)
  rw [hR2] at HR2
  have HL := Lib.hid aliveZ_any
  have HNS := Lib.hid hns
  have HMM := Lib.hid hm
  have HA0 : Hid (([] : List Int).length + ns.length ≤ 1000000) := Lib.hid (by simp; omega)
  have HA1 : Hid (ns.length + ([0] : List Int).length ≤ 1000000) := Lib.hid (by simp; omega)
  clear hb hf hns hm hup hm16 hR hR1 hR2 hM hN9 hN9m
  go_enter Try.func6, Try.ntmps6
  go_wp2_with fail
  go_loopw [8] (fun v8 wr => BitL w f b v8 wr) (fun v8 _ => 16 - (intOf v8).toNat)
  case atStart => exact HST.out
  case round =>
    obtain ⟨i, v, rfl, hi, hB⟩ := hrel
    obtain ⟨Av, cv, rfl, _⟩ := hB.own.2
    by_cases hlt : i < 16
    · obtain ⟨nn, hnn⟩ : ∃ nn, nn = (nodesTo b i).length := ⟨_, rfl⟩
      rw [← hnn] at hB
      have HB := Lib.hid hB
      obtain ⟨x0, x1, x2, x3, x4⟩ := box5 hB.box
      have z4 := frozen_of hB.box 4
      clear hB
      have hlti : (i : Int) < 16 := by omega
      have hi0 : 0 ≤ (i : Int) := by omega
      have HT := Lib.hid (rem2 (b := b) (i := i))
      cases hbit : b.testBit i with
      | true =>
        have hbt : (((b : Int) / 2 ^ i).tmod 2 == 1) = true := by rw [HT.out, hbit]
        have HM1 : Hid ((nodesTo b i).length + [(i : Int)].length ≤ 1000000) := Lib.hid (by have := nodesTo_len b i; simp; omega)
        have HLT := Lib.hid (Array.getElem?_eq_some_iff.1 HB.out.box).1
        have HBZ : Hid (w.heap.size + 1 ≤ (wr.alloc (.cells #[.int .i64 (i : Int)] 3)).heap.size) := Lib.hid (by have := HLT.out; simp; omega)
        have HN : Hid (∀ v6 w6, OwnI w6 (w.heap.size + 1) v6 (nodesTo b i ++ [(i : Int)]) → Grew (wr.alloc (.cells #[.int .i64 (i : Int)] 3)) (.slice Av nn cv) w6 v6 → w6.heap[w.heap.size]? = some (.cells #[.int .i64 1, .int .i64 f, .int .i64 0, .int .i64 5, .slice Av nn cv] 25 (0, 0)) ∧ ∀ v8, v8 = .int .i64 ((i + 1 : Nat) : Int) → BitL w f b v8 (w6.setCell ⟨w.heap.size, 4, none⟩ v6)) := Lib.hid fun v6 w6 ho hg => by
          have h1 := hg.toBelow HBZ.out HB.out.own.ge
          have hb6 : Below (w.heap.size + 1) wr w6 := ((alloc_below wr _).mono (by have := HLT.out; omega)).trans h1
          exact ⟨(hb6.block _ (by omega)).trans HB.out.box, fun v8 h8 => ⟨i + 1, v6, h8, by omega, HB.out.set hb6 (by rw [nodesTo_yes hbit]; exact ho)⟩⟩
        obtain ⟨NL, hNL⟩ : ∃ NL, (nodesTo b i ++ [(i : Int)]).length = NL := ⟨_, rfl⟩
        have HNL := Lib.hid hNL
        clear hbit hi hnn hNL
        go_wp2_with (refine wpList_appI (xs := nodesTo b i) (ys := [(i : Int)]) (B := w.heap.size + 1) rfl _ _ 23 rfl Try.underlying23 rfl (HB.out.own.below (alloc_below wr _)) rfl rfl (rd_oneI wr _) HM1.out HBZ.out ?_
                     intro v6 w6 ho6 hg6
                     obtain ⟨h1, h2⟩ := HN.out v6 w6 ho6 hg6
                     obtain ⟨A6, c6, hv6, _⟩ := ho6.2
                     rw [HNL.out] at hv6
                     subst hv6
                     have z4 := frozen_of h1 4
                     obtain ⟨_, _, _, _, y4⟩ := box5 h1
                     have HY := Lib.hid h2
                     clear ho6 hg6 h1 h2)
        go_roundw
        case rel => first | exact HY.out _ (by go_num) | ((repeat apply Exists.intro); exact ⟨HY.out _ (by go_num), rfl⟩)
        case measure => simp [intOf]; omega
      | false =>
        have hbt : (((b : Int) / 2 ^ i).tmod 2 == 1) = false := by rw [HT.out, hbit]
        have HN : Hid (∀ v8, v8 = .int .i64 ((i + 1 : Nat) : Int) → BitL w f b v8 wr) := Lib.hid fun v8 h8 => ⟨i + 1, _, h8, by omega, by rw [nodesTo_no hbit]; exact HB.out⟩
        clear hbit hi hnn
        go_wp2_with fail
        go_roundw
        case rel => first | exact HN.out _ (by go_num) | ((repeat apply Exists.intro); exact ⟨HN.out _ (by go_num), rfl⟩)
        case measure => simp [intOf]; omega
    · have hie : i = 16 := by omega
      rw [hie, nodesTo_all, ← HNS.out] at hB
      rw [HMM.out] at hB
      have HB : Hid (Below w.heap.size w wr) := Lib.hid hB.bel
      have HX : Hid (LBx wr w.heap.size ⟨1, f, 0, 5, ns⟩ Av m cv) := Lib.hid ⟨hB.box, hB.own.rd⟩
      have hlti : ¬ (i : Int) < 16 := by omega
      clear hlt hi hie hB
      obtain ⟨x0, x1, x2, x3, x4⟩ := HX.out.cells
      simp only at x0 x1 x2 x3
      go_upto_region 17 with (first
        | (go_at_call 8; (with_reducible refine (HE.out _ _ _ HX.out.rd).mono ?_); rintro e w4 ⟨v4, rfl, ho, hb⟩
           obtain ⟨X, kx, hv, hk⟩ := ho.2
           rw [HM.out] at hv hk
           subst hv
           have HO := Lib.hid ho
           have HKX := Lib.hid hk
           have HB := Lib.hid (HB.out.trans (hb.mono HB.out.size))
           have HX := Lib.hid (HX.out.next hb)
           clear x0 x1 x2 x3 x4
           obtain ⟨x0, x1, x2, x3, x4⟩ := HX.out.cells
           clear ho hb hk)
        | (go_at_call 10; (with_reducible refine (HD.out _ X kx HKX.out HO.out.rd).mono ?_); rintro e w5 ⟨Ax, capx, rfl, hox, hb0⟩
           simp only [HMM.out] at hox ⊢
           have hb := hb0.trans ((alloc_below w5 (.cells #[.int .i64 1, .int .i64 f, .int .i64 0, .int .i64 5, .slice Ax m capx] 25)).mono hb0.size)
           have HZ : Hid (LBx (w5.alloc (.cells #[.int .i64 1, .int .i64 f, .int .i64 0, .int .i64 5, .slice Ax m capx] 25)) w5.heap.size ⟨1, f, 0, 5, ns⟩ Ax m capx) := Lib.hid ⟨heap_alloc_new w5 _, (hox.rd.below (alloc_below w5 _) (Nat.le_refl _)).more (alloc_below w5 _).size⟩
           obtain ⟨y0, y1, y2, y3, y4⟩ := HZ.out.cells
           simp only at y0 y1 y2 y3
           have HB := Lib.hid (HB.out.trans (hb.mono HB.out.size))
           have HX := Lib.hid (HX.out.next hb)
           clear x0 x1 x2 x3 x4
           obtain ⟨x0, x1, x2, x3, x4⟩ := HX.out.cells
           clear hox hb hb0)
        | (go_at_call 15; (with_reducible refine (HS.out _ _ _ _ _ HZ.out.rd HX.out.rd).mono ?_); rintro e w6 ⟨rfl, hb⟩
           have HZ := Lib.hid (HZ.out.next hb)
           clear y0 y1 y2 y3 y4
           obtain ⟨y0, y1, y2, y3, y4⟩ := HZ.out.cells
           have HB := Lib.hid (HB.out.trans (hb.mono HB.out.size))
           have HX := Lib.hid (HX.out.next hb)
           clear x0 x1 x2 x3 x4
           obtain ⟨x0, x1, x2, x3, x4⟩ := HX.out.cells
           have HY : Hid (LBy (w6.alloc (.cells #[.int .i64 kd, .int .i64 f, .int .i64 0, .int .i64 5, .slice Av m cv] 25)) w6.heap.size kd f 0 5 Av m cv ns) := Lib.hid ⟨heap_alloc_new w6 _, HX.out.rd.below (alloc_below w6 _) (Nat.le_refl _)⟩
           obtain ⟨u0, u1, u2, u3, u4⟩ := box5 HY.out.x
           clear hb)
        | (go_at_call 13; (with_reducible refine (HR1.out _ _ _ (HY.out.rd.more (alloc_below w6 _).size)).mono ?_); rintro e w7 ⟨rfl, hb7⟩
           have HY := Lib.hid (HY.out.next hb7)
           have z0 := frozen_of HY.out.x 0
           clear u0 u1 u2 u3 u4
           obtain ⟨u0, _⟩ := box5 HY.out.x
           have hb := (alloc_below w6 (.cells #[.int .i64 kd, .int .i64 f, .int .i64 0, .int .i64 5, .slice Av m cv] 25)).trans (hb7.mono (alloc_below w6 (.cells #[.int .i64 kd, .int .i64 f, .int .i64 0, .int .i64 5, .slice Av m cv] 25)).size)
           have hne : w.heap.size ≠ w6.heap.size := Nat.ne_of_lt (Array.getElem?_eq_some_iff.1 HX.out.x).1
           have HNE := Lib.hid hne
           have hsz := HB.out.size
           have HX := Lib.hid ((HX.out.next hb).setAt (v := .int .i64 1) (j := 0) hne HY.out.rd (Array.getElem?_eq_some_iff.1 HY.out.x).1)
           have HB := Lib.hid (set_below (g := w6.heap.size) (j := 0) (v := .int .i64 1) (HB.out.trans (hb.mono HB.out.size)) (by omega))
           have HY := Lib.hid (HY.out.set0 1)
           have HSZ := Lib.hid hsz
           clear hb hb7 hne hsz x0 x1 x2 x3 x4 y0 y1 y2 y3 y4)
        | fail)
      generalize hW7 : w7.setCell ⟨w6.heap.size, 0, none⟩ (.int .i64 1) = W7 at *
      clear hW7 z0 u0
      have HGL := Lib.hid (Array.getElem?_eq_some_iff.1 HY.out.x).1
      obtain ⟨x0, x1, x2, x3, x4⟩ := (HX.out.next (alloc_below W7 (.cells #[] 3))).cells
      simp only at x0 x1 x2 x3
      go_wp2_with (first
        | (at_builtin
           refine wpList_appI (xs := ns) (ys := [0]) (B := W7.heap.size) rfl _ _ 23 rfl Try.underlying23 rfl (HO8.out.below (alloc_below w8 _)) rfl rfl (rd_oneI w8 0) HA1.out (by have := H8.out.size; simp; omega) ?_
           intro v9 w9 ho9 hg9
           obtain ⟨A9, c9, hv9, _⟩ := ho9.2
           rw [HN9.out] at hv9
           subst hv9
           have h9 : Below W7.heap.size W7 w9 := (H8.out.trans ((alloc_below w8 (.cells #[.int .i64 0] 3)).mono H8.out.size)).trans (hg9.toBelow (by have := H8.out.size; simp; omega) HO8.out.ge)
           have hy9 := HY.out.next h9
           have z4 := frozen_of hy9.x 4
           have hgl := HGL.out
           have hs9 := h9.size
           have HX := Lib.hid ((HX.out.next h9).setAt (v := .slice A9 N9 c9) (j := 4) HNE.out hy9.rd (by omega))
           have HB := Lib.hid (set_below (g := w6.heap.size) (j := 4) (v := .slice A9 N9 c9) (HB.out.trans (h9.mono HB.out.size)) HSZ.out)
           have HR9 := Lib.hid ((ho9.kept (grown_set w9 w6.heap.size 4 (.slice A9 N9 c9)) (fun e => by have := ho9.ge _ e; omega)).rd)
           obtain ⟨u0, u1, u2, u3, u4⟩ := box5 (hy9.set4 (.slice A9 N9 c9))
           obtain ⟨_, _, _, _, y4⟩ := box5 hy9.x
           clear ho9 hg9 h9 hy9 hgl hs9)
        | (at_builtin
           refine wpList_appI (xs := []) (ys := ns) rfl _ _ 23 rfl Try.underlying23 rfl (own_emptyI W7) rfl HMM.out (HX.out.rd.below (alloc_below W7 _) (Nat.le_refl _)) HA0.out (alloc_below _ _).size ?_
           intro v8 w8 ho8 hg8
           obtain ⟨A8, c8, hv8, _⟩ := ho8.2
           rw [List.nil_append, HMM.out] at hv8
           subst hv8
           have HO8 := Lib.hid ho8
           have H8 := Lib.hid ((alloc_below W7 (.cells #[] 3)).trans (hg8.toBelow (alloc_below W7 (.cells #[] 3)).size (own_emptyI W7).ge))
           clear ho8 hg8)
        | (go_at_call 13; (with_reducible refine (HR2.out _ _ _ HR9.out).mono ?_); rintro e w10 ⟨rfl, hb⟩
           have HB := Lib.hid (HB.out.trans (hb.mono HB.out.size))
           have HX := Lib.hid (HX.out.next hb)
           obtain ⟨x0, x1, x2, x3, x4⟩ := HX.out.cells
           clear hb)
        | (go_at_call 7; refine (HL.out _).mono ?_; rintro e w12 ⟨rfl, hb⟩
           have HB := Lib.hid (HB.out.trans (hb.mono HB.out.size))
           have HX := Lib.hid (HX.out.next hb)
           obtain ⟨x0, x1, x2, x3, x4⟩ := HX.out.cells
           clear hb)
        | fail)
      go_ret
      exact ⟨rfl, HB.out⟩
set_option maxRecDepth 100000 in
theorem lbits_b0 (n f kd : Int) (h1 : n < 0) (w : World) :
    Calls Try.prog 6 #[.int .i64 n, .int .i64 f, .int .i64 kd] w (Ans (.bool true) w) := by
  have HL := Lib.hid aliveZ_any
  go_enter Try.func6, Try.ntmps6
  go_wp2_with (go_at_call 7; refine (HL.out _).mono ?_; rintro e w12 ⟨rfl, hb⟩; have HB := Lib.hid hb; clear hb)
  go_ret
  exact ⟨rfl, HB.out⟩
set_option maxRecDepth 100000 in
theorem lbits_b1 (n f kd : Int) (h1 : ¬ n < 0) (h2 : decide (65536 ≤ n) = true) (w : World) :
    Calls Try.prog 6 #[.int .i64 n, .int .i64 f, .int .i64 kd] w (Ans (.bool true) w) := by
  have HL := Lib.hid aliveZ_any
  go_enter Try.func6, Try.ntmps6
  go_wp2_with (go_at_call 7; refine (HL.out _).mono ?_; rintro e w12 ⟨rfl, hb⟩; have HB := Lib.hid hb; clear hb)
  go_ret
  exact ⟨rfl, HB.out⟩
set_option maxRecDepth 100000 in
theorem lbits_b2 (n f kd : Int) (h1 : ¬ n < 0) (h2 : decide (65536 ≤ n) = false) (h3 : f < 0) (w : World) :
    Calls Try.prog 6 #[.int .i64 n, .int .i64 f, .int .i64 kd] w (Ans (.bool true) w) := by
  have HL := Lib.hid aliveZ_any
  go_enter Try.func6, Try.ntmps6
  go_wp2_with (go_at_call 7; refine (HL.out _).mono ?_; rintro e w12 ⟨rfl, hb⟩; have HB := Lib.hid hb; clear hb)
  go_ret
  exact ⟨rfl, HB.out⟩
set_option maxRecDepth 100000 in
theorem lbits_b3 (n f kd : Int) (h1 : ¬ n < 0) (h2 : decide (65536 ≤ n) = false) (h3 : ¬ f < 0) (h4 : 16 ≤ f) (w : World) :
    Calls Try.prog 6 #[.int .i64 n, .int .i64 f, .int .i64 kd] w (Ans (.bool true) w) := by
  have HL := Lib.hid aliveZ_any
  go_enter Try.func6, Try.ntmps6
  go_wp2_with (go_at_call 7; refine (HL.out _).mono ?_; rintro e w12 ⟨rfl, hb⟩; have HB := Lib.hid hb; clear hb)
  go_ret
  exact ⟨rfl, HB.out⟩
theorem letterBits_law (n f kd : Int) (w : World) :
    Calls Try.prog 6 #[.int .i64 n, .int .i64 f, .int .i64 kd] w (Ans (.bool true) w) := by
  by_cases h1 : n < 0
  · exact lbits_b0 n f kd h1 w
  by_cases h2 : 65536 ≤ n
  · exact lbits_b1 n f kd h1 (decide_eq_true h2) w
  by_cases h3 : f < 0
  · exact lbits_b2 n f kd h1 (decide_eq_false h2) h3 w
  by_cases h4 : 16 ≤ f
  · exact lbits_b3 n f kd h1 (decide_eq_false h2) h3 h4 w
  obtain ⟨b, rfl⟩ : ∃ b : Nat, n = (b : Int) := ⟨n.toNat, by omega⟩
  have hb : b < 65536 := by omega
  have hf : 0 ≤ f ∧ f < 16 := by omega
  by_cases hk : kd = 1
  · exact lbits_one b hb f kd hf (by simpa using hk) (by omega) (by omega) w
  have hk1 : (kd == 1) = false := by simpa using hk
  by_cases g1 : 1 ≤ kd
  · by_cases g2 : kd ≤ 8
    · exact lbits_other b hb f kd hf hk1 g1 g2 w
    · exact lbits_high b hb f kd hf hk1 g1 g2 w
  · exact lbits_low b hb f kd hf hk1 g1 w
#print axioms letterBits_law
end Go.Proofs.Ytbbhddpfclgohaa

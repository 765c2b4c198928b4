/- Layer 8: the document's Find, In, Drop, Range. -/
import Derived.Test.YtfmhijaljlmgaaaYM
namespace Go.Proofs.Ytfmhijaljlmgaaa
section
open Go.RowKit

theorem alloc_sz (w : World) (o : Obj) : (w.alloc o).heap.size = w.heap.size + 1 := by simp

def fndZ (l : List (List UInt8 × List UInt8)) (k : List UInt8) : Int := match l.findIdx? (fun x => x.1 == k) with
  | some i => (i : Int)
  | none => -1
theorem fnd_at {l : List (List UInt8 × List UInt8)} {k : List UInt8} {i : Nat} {x : List UInt8 × List UInt8} (hx : l[i]? = some x) (hk : x.1 = k) (hlo : ∀ (j : Nat) (y : List UInt8 × List UInt8), j < i → l[j]? = some y → y.1 ≠ k) : fndZ l k = (i : Int) := by
  have h : l.findIdx? (fun x => x.1 == k) = some i := by
    rw [List.findIdx?_eq_some_iff_getElem]
    have hlt := (List.getElem?_eq_some_iff.1 hx).1
    refine ⟨hlt, ?_, fun j hj => ?_⟩
    · rw [(List.getElem?_eq_some_iff.1 hx).2]; simpa using hk
    · have := hlo j (l[j]'(by omega)) hj (List.getElem?_eq_getElem (by omega))
      simpa using this
  unfold fndZ
  rw [h]
theorem fnd_no {l : List (List UInt8 × List UInt8)} {k : List UInt8} (hlo : ∀ (j : Nat) (y : List UInt8 × List UInt8), l[j]? = some y → y.1 ≠ k) : fndZ l k = -1 := by
  have h : l.findIdx? (fun x => x.1 == k) = none := by
    rw [List.findIdx?_eq_none_iff]
    intro x hx
    obtain ⟨j, hj⟩ := List.mem_iff_getElem?.1 hx
    simpa using hlo j x hj
  unfold fndZ
  rw [h]
theorem eq_sB {a b : List UInt8} : ((sB a).toList == (sB b).toList) = decide (a = b) := by
  rw [ByteArray.toList_eq, ByteArray.toList_eq, sB_list, sB_list]
  by_cases h : a = b
  · subst h; simp
  · rw [decide_eq_false h]; simpa using h
def FnL (w : World) (l : List (List UInt8 × List UInt8)) (k : List UInt8) (v5 : Value) (wr : World) : Prop := ∃ i : Nat, v5 = .int .i64 (i : Int) ∧ i ≤ l.length ∧ (∀ (j : Nat) (y : List UInt8 × List UInt8), j < i → l[j]? = some y → y.1 ≠ k) ∧ wr = w
set_option maxRecDepth 100000 in
set_option maxHeartbeats 4000000 in
theorem refFind_any {w : World} {A : Option Addr} {n cap : Nat} {l : List (List UInt8 × List UInt8)} (k : List UInt8) (hr : RdS w w.heap.size A l) (hn : l.length = n) (hs : n ≤ 1000000) :
    Calls Try.prog 7 #[.slice A n cap, .string (sB k)] w (Looks (.int .i64 (fndZ l k)) w) := by
  have HR := Lib.hid hr
  have HN := Lib.hid hn
  have hni : (n : Int) ≤ 1000000 := by omega
  obtain ⟨z, hz⟩ : ∃ z, z = fndZ l k := ⟨_, rfl⟩
  rw [← hz]
  have HZ := Lib.hid hz
  obtain ⟨s, hse⟩ : ∃ s, s = sB k := ⟨_, rfl⟩
  rw [← hse]
  have HS := Lib.hid hse
  clear hr hn hs hz hse
  go_enter Try.func7, Try.ntmps7
  go_wp2_with fail
  go_loopw [5] (fun v5 wr => FnL w l k v5 wr) (fun v5 _ => n - (intOf v5).toNat)
  case atStart => exact ⟨0, rfl, Nat.zero_le _, fun j y hj => absurd hj (Nat.not_lt_zero _), rfl⟩
  case round =>
    obtain ⟨i, rfl, hi, hlo, rfl⟩ := hrel
    rw [HN.out] at hi
    have HLO := Lib.hid hlo
    clear hlo
    by_cases hlt : i < n
    · have hlti : (i : Int) < (n : Int) := by omega
      have hi00 : 0 ≤ (i : Int) := by omega
      obtain ⟨x, hx⟩ : ∃ x, l[i]? = some x := ⟨_, List.getElem?_eq_getElem (by rw [HN.out]; exact hlt)⟩
      obtain ⟨b0, o0, hA0, d0, d1⟩ := HR.out.at_ hx
      subst hA0
      obtain ⟨s1, hs1⟩ : ∃ s, s = sB x.1 := ⟨_, rfl⟩
      rw [← hs1] at d0
      have hq : (s1.toList == s.toList) = decide (x.1 = k) := by rw [hs1, HS.out]; exact eq_sB
      by_cases hxk : x.1 = k
      · rw [decide_eq_true hxk] at hq
        have HY : Hid (z = (i : Int)) := Lib.hid (HZ.out.trans (fnd_at hx hxk HLO.out))
        clear hx hxk hs1 hi d1
        go_wp2_with fail
        go_ret
        exact ⟨by rw [HY.out]; rfl, rfl⟩
      · rw [decide_eq_false hxk] at hq
        have HY : Hid (∀ v5, v5 = .int .i64 ((i + 1 : Nat) : Int) → FnL wr l k v5 wr) := Lib.hid fun v5 h5 => ⟨i + 1, h5, by rw [HN.out]; exact hlt, fun j y hj hy => by
          rcases Nat.lt_or_ge j i with h | h
          · exact HLO.out j y h hy
          · have : j = i := by omega
            subst this
            rw [hx] at hy
            injection hy with hy
            rw [← hy]; exact hxk, rfl⟩
        clear hx hxk hs1 hi d1
        go_wp2_with fail
        go_roundw
        case rel => first | exact HY.out _ (by go_num) | ((repeat apply Exists.intro); exact ⟨HY.out _ (by go_num), rfl⟩)
        case measure => simp [intOf]; omega
    · have hie : i = n := by omega
      subst hie
      have hlti : ¬ (i : Int) < (i : Int) := by omega
      have HY : Hid (z = -1) := Lib.hid (HZ.out.trans (fnd_no fun j y hy => HLO.out j y (by have := (List.getElem?_eq_some_iff.1 hy).1; rw [HN.out] at this; exact this) hy))
      clear hi
      go_wp2_with fail
      go_ret
      exact ⟨by rw [HY.out]; rfl, rfl⟩
/-- does a key lie in a range? -/
theorem refIn_any (x f t : List UInt8) (r : List UInt8) (w : World) : Calls Try.prog 26 #[.string (sB x), .string (sB f), .string (sB t)] w (Looks (.bool (inK f t (x, r))) w) := by
  obtain ⟨sx, hx⟩ : ∃ s, s = sB x := ⟨_, rfl⟩
  obtain ⟨sf, hf⟩ : ∃ s, s = sB f := ⟨_, rfl⟩
  obtain ⟨st, ht⟩ : ∃ s, s = sB t := ⟨_, rfl⟩
  rw [← hx, ← hf, ← ht]
  have l1 : Op.bytesLess sx.toList sf.toList = decide (cmpB x f < 0) := by rw [hx, hf]; exact less_sB rfl
  have l2 : Op.bytesLess sx.toList st.toList = decide (cmpB x t < 0) := by rw [hx, ht]; exact less_sB rfl
  have l3 : (st.toList == []) = t.isEmpty := by
    rw [ht, ByteArray.toList_eq, sB_list]
    cases t <;> rfl
  have HB : Hid (inK f t (x, r) = (!decide (cmpB x f < 0) && (t.isEmpty || decide (cmpB x t < 0)))) := Lib.hid (by
    unfold inK
    show (decide (0 ≤ cmpB x f) && _) = _
    congr 1
    by_cases h : cmpB x f < 0
    · rw [decide_eq_true h, decide_eq_false (by omega)]; rfl
    · rw [decide_eq_false h, decide_eq_true (by omega)]; rfl)
  rw [HB.out]
  clear hx hf ht HB
  cases h1 : decide (cmpB x f < 0) <;> rw [h1] at l1 <;> cases h3 : t.isEmpty <;> rw [h3] at l3 <;> cases h2 : decide (cmpB x t < 0) <;> rw [h2] at l2 <;> clear h1 h2 h3
  all_goals
    go_enter Try.func26, Try.ntmps26
    go_wp2_with fail
    go_ret
    exact ⟨rfl, rfl⟩
theorem rdS_one (w : World) (a b : List UInt8) (t : TypeId) : RdS (w.alloc (.cells #[.string (sB a), .string (sB b)] t)) (w.heap.size + 1) (some ⟨w.heap.size, 0, none⟩) [(a, b)] := fun _ => by
  obtain ⟨h1, h2⟩ := box2 (heap_alloc_new w (.cells #[.string (sB a), .string (sB b)] t))
  refine ⟨_, 0, rfl, Nat.lt_succ_self _, fun j x hj => ?_⟩
  match j with
  | 0 =>
    simp at hj
    subst hj
    exact ⟨h1, h2⟩
  | j + 1 => simp at hj
def dropF (l : List (List UInt8 × List UInt8)) (k : List UInt8) : List (List UInt8 × List UInt8) := l.filter fun x => !decide (x.1 = k)
theorem filter_next {l : List (List UInt8 × List UInt8)} {p : List UInt8 × List UInt8 → Bool} {i : Nat} {x : List UInt8 × List UInt8} (hx : l[i]? = some x) : (l.take (i + 1)).filter p = (l.take i).filter p ++ (if p x = true then [x] else []) := by
  rw [List.take_add_one, hx, Option.toList_some, List.filter_append]
  cases h : p x <;> simp [h]
/-- a row of entries made anew -/
def SnT (w : World) (R : List (List UInt8 × List UInt8)) (e : Ending) (w' : World) : Prop := ∃ v, e = .returned v ∧ OwnS w' w.heap.size v R ∧ Below w.heap.size w w'
def SnL (w : World) (l : List (List UInt8 × List UInt8)) (p : List UInt8 × List UInt8 → Bool) (v5 v6 : Value) (wr : World) : Prop := ∃ (i : Nat) (y : Value), y = v5 ∧ v6 = .int .i64 (i : Int) ∧ i ≤ l.length ∧ OwnS wr w.heap.size y ((l.take i).filter p) ∧ Below w.heap.size w wr
theorem Grew.bel {w w' : World} {v v' : Value} {B : Nat} (h : Grew w v w' v') (hv : ∀ k, v.ownBlock = some k → B ≤ k) (hB : B ≤ w.heap.size) : Below B w w' := (Only.of_grown h.by_).below hB (fun j e => hv j e.symm)
set_option maxRecDepth 100000 in
set_option maxHeartbeats 8000000 in
theorem refDrop_any {w : World} {A : Option Addr} {n cap : Nat} {l : List (List UInt8 × List UInt8)} (k : List UInt8) (hr : RdS w w.heap.size A l) (hn : l.length = n) (hs : n ≤ 1000) :
    Calls Try.prog 11 #[.slice A n cap, .string (sB k)] w (SnT w (dropF l k)) := by
  have HR := Lib.hid hr
  have HN := Lib.hid hn
  have HNS := Lib.hid hs
  have hni : (n : Int) ≤ 1000 := by omega
  obtain ⟨s, hse⟩ : ∃ s, s = sB k := ⟨_, rfl⟩
  rw [← hse]
  have HS := Lib.hid hse
  obtain ⟨p, hp⟩ : ∃ p : List UInt8 × List UInt8 → Bool, p = fun x => !decide (x.1 = k) := ⟨_, rfl⟩
  have HP := Lib.hid hp
  have HD : Hid (dropF l k = l.filter p) := Lib.hid (by unfold dropF; rw [hp])
  have HST : Hid (SnL w l p (.slice none 0 0) (.int .i64 0) w) := Lib.hid ⟨0, _, rfl, rfl, Nat.zero_le _, OwnS.nil _ _, Below.refl _ _⟩
  clear hr hn hs hse hp
  go_enter Try.func11, Try.ntmps11
  go_wp2_with fail
  go_loopw [5, 6] (fun v5 v6 wr => SnL w l p v5 v6 wr) (fun _ v6 _ => n - (intOf v6).toNat)
  case atStart => exact HST.out
  case round =>
    obtain ⟨i, y, rfl, rfl, hi, hown, hbl⟩ := hrel
    rw [HN.out] at hi
    obtain ⟨A1, c1, rfl, hc1⟩ := hown.2
    obtain ⟨m1, hm1⟩ : ∃ m, ((l.take i).filter p).length = m := ⟨_, rfl⟩
    rw [hm1] at hown hc1 ⊢
    have hm1l : m1 ≤ i := by rw [← hm1]; exact Nat.le_trans (List.length_filter_le _ _) (by rw [List.length_take]; omega)
    have HM := Lib.hid (And.intro hm1 hm1l)
    have HO := Lib.hid hown
    have HB := Lib.hid hbl
    clear hown hbl hm1 hm1l
    by_cases hlt : i < n
    · have hlti : (i : Int) < (n : Int) := by omega
      have hi00 : 0 ≤ (i : Int) := by omega
      obtain ⟨x, hx⟩ : ∃ x, l[i]? = some x := ⟨_, List.getElem?_eq_getElem (by rw [HN.out]; exact hlt)⟩
      obtain ⟨b0, o0, hA0, d0, d1⟩ := ((HR.out.below HB.out (Nat.le_refl _)).at_ hx)
      subst hA0
      obtain ⟨xk, xr⟩ := x
      simp only at d0 d1
      obtain ⟨s1, hs1⟩ : ∃ s, s = sB xk := ⟨_, rfl⟩
      rw [← hs1] at d0
      have HS1 := Lib.hid hs1
      have hq : (s1.toList == s.toList) = decide (xk = k) := by rw [hs1, HS.out]; exact eq_sB
      have HI := Lib.hid hlt
      have HNX := Lib.hid (filter_next (p := p) hx)
      by_cases hxk : xk = k
      · rw [decide_eq_true hxk] at hq
        have HPX : Hid (p (xk, xr) = false) := Lib.hid (by rw [HP.out]; simp [hxk])
        have HY : Hid (∀ v6, v6 = .int .i64 ((i + 1 : Nat) : Int) → SnL w l p (.slice A1 m1 c1) v6 wr) := Lib.hid fun v6 h6 => ⟨i + 1, _, rfl, h6, by rw [HN.out]; exact HI.out, by rw [HNX.out, HPX.out]; simpa using HO.out, HB.out⟩
        clear hx hxk hs1 hi hlt
        go_wp2_with fail
        go_roundw
        case rel => first | exact HY.out _ (by go_num) | ((repeat apply Exists.intro); exact ⟨HY.out _ (by go_num), rfl⟩)
        case measure => have := HI.out; simp [intOf]; omega
      · rw [decide_eq_false hxk] at hq
        have HPX : Hid (p (xk, xr) = true) := Lib.hid (by rw [HP.out]; simp [hxk])
        clear hx hxk hs1 hi hlt
        go_wp2_with (at_builtin
                     refine wpList_appS (B := w.heap.size) (n := 1) (ys := [(xk, xr)]) (by rfl) _ _ 29 (by rfl) Try.underlying29 (by rfl) (HO.out.below (alloc_below _ _)) (by rfl) (by rfl) (by rw [HS1.out]; exact rdS_one _ _ _ _) (by have := HM.out; have := HI.out; have := HNS.out; simp; omega) (by have := HB.out.size; have := alloc_sz wr (.cells #[.string s1, .string (sB xr)] 34); omega) ?_
                     intro v5 w5 ho5 hg5
                     have HO5 := Lib.hid ho5
                     have HG5 := Lib.hid hg5
                     obtain ⟨A5, c5, hv5, _⟩ := ho5.2
                     subst hv5
                     have HZ : Hid (∀ v6 m, v6 = .int .i64 ((i + 1 : Nat) : Int) → m = ((l.take i).filter p ++ [(xk, xr)]).length → SnL w l p (.slice A5 m c5) v6 w5) := Lib.hid (fun v6 m h6 hm => by
                       subst hm
                       have hge := HO.out.ge
                       have s0 := HB.out.size
                       have ha := alloc_below wr (.cells #[.string s1, .string (sB xr)] 34)
                       exact ⟨i + 1, _, rfl, h6, by rw [HN.out]; exact HI.out, by rw [HNX.out, HPX.out]; simpa using HO5.out, HB.out.trans ((ha.mono s0).trans (HG5.out.bel (fun j hj => hge j hj) (Nat.le_trans s0 ha.size)))⟩)
                     clear ho5 hg5)
        go_roundw
        case rel => first | exact HZ.out _ _ (by go_num) (by simp) | ((repeat apply Exists.intro); exact ⟨HZ.out _ _ (by go_num) rfl, rfl⟩)
        case measure => have := HI.out; simp [intOf]; omega
    · have hie : i = n := by omega
      subst hie
      have hlti : ¬ (i : Int) < (i : Int) := by omega
      have HY : Hid (SnT w (dropF l k) (.returned (.slice A1 m1 c1)) wr) := Lib.hid ⟨_, rfl, by rw [HD.out]; have h := HO.out; rw [List.take_of_length_le (by rw [HN.out]; exact Nat.le_refl _)] at h; exact h, HB.out⟩
      clear hi hlt
      go_wp2_with fail
      go_ret
      exact HY.out
end

section
open Go.RowKit

def RnL (w : World) (l : List (List UInt8 × List UInt8)) (p : List UInt8 × List UInt8 → Bool) (most : Int) (v9 v10 : Value) (wr : World) : Prop := ∃ (i : Nat) (y : Value), y = v9 ∧ v10 = .int .i64 (i : Int) ∧ i ≤ l.length ∧ OwnS wr w.heap.size y ((l.take i).filter p) ∧ ((l.take i).filter p).length ≤ most.toNat ∧ Below w.heap.size w wr
theorem take_filter {l : List (List UInt8 × List UInt8)} {p : List UInt8 × List UInt8 → Bool} {i m : Nat} (h : ((l.take i).filter p).length = m) : (l.filter p).take m = (l.take i).filter p := by
  conv => lhs; rw [← List.take_append_drop i l, List.filter_append]
  rw [List.take_left' h]
set_option maxRecDepth 100000 in
set_option maxHeartbeats 8000000 in
theorem refRange_any {w : World} {A : Option Addr} {n cap : Nat} {l : List (List UInt8 × List UInt8)} (f t : List UInt8) (most : Int) (hr : RdS w w.heap.size A l) (hn : l.length = n) (hs : n ≤ 1000) :
    Calls Try.prog 16 #[.slice A n cap, .string (sB f), .string (sB t), .int .i64 most] w (SnT w ((rangeK f t l).take most.toNat)) := by
  have HR := Lib.hid hr
  have HN := Lib.hid hn
  have HNS := Lib.hid hs
  have hni : (n : Int) ≤ 1000 := by omega
  obtain ⟨p, hp⟩ : ∃ p : List UInt8 × List UInt8 → Bool, p = inK f t := ⟨_, rfl⟩
  have HIN : Hid (∀ (x : List UInt8 × List UInt8) (b : Bool) (W : World), p x = b → Calls Try.prog 26 #[.string (sB x.1), .string (sB f), .string (sB t)] W (Looks (.bool b) W)) := Lib.hid fun x b W hb => by
    have h := refIn_any x.1 f t x.2 W
    rw [← hp] at h
    rw [hb] at h
    exact h
  obtain ⟨sf, hsf⟩ : ∃ s, s = sB f := ⟨_, rfl⟩
  obtain ⟨st, hst⟩ : ∃ s, s = sB t := ⟨_, rfl⟩
  rw [← hsf, ← hst] at HIN ⊢
  have HD : Hid (rangeK f t l = l.filter p) := Lib.hid (by unfold rangeK; rw [hp])
  have HST : Hid (RnL w l p most (.slice none 0 0) (.int .i64 0) w) := Lib.hid ⟨0, _, rfl, rfl, Nat.zero_le _, OwnS.nil _ _, Nat.zero_le _, Below.refl _ _⟩
  clear hr hn hs hp hsf hst
  go_enter Try.func16, Try.ntmps16
  go_wp2_with fail
  go_loopw [9, 10] (fun v9 v10 wr => RnL w l p most v9 v10 wr) (fun _ v10 _ => n - (intOf v10).toNat)
  case atStart => exact HST.out
  case round =>
    obtain ⟨i, y, rfl, rfl, hi, hown, hmost, hbl⟩ := hrel
    rw [HN.out] at hi
    obtain ⟨A1, c1, rfl, hc1⟩ := hown.2
    obtain ⟨m1, hm1⟩ : ∃ m, ((l.take i).filter p).length = m := ⟨_, rfl⟩
    rw [hm1] at hown hc1 hmost ⊢
    have hm1l : m1 ≤ i := by rw [← hm1]; exact Nat.le_trans (List.length_filter_le _ _) (by rw [List.length_take]; omega)
    have HM := Lib.hid (And.intro hm1 (And.intro hm1l hmost))
    have HO := Lib.hid hown
    have HB := Lib.hid hbl
    clear hown hbl hm1 hm1l hmost
    by_cases hlt : i < n
    · have hlti : (i : Int) < (n : Int) := by omega
      have hi00 : 0 ≤ (i : Int) := by omega
      by_cases hmm : (m1 : Int) < most
      · obtain ⟨x, hx⟩ : ∃ x, l[i]? = some x := ⟨_, List.getElem?_eq_getElem (by rw [HN.out]; exact hlt)⟩
        obtain ⟨b0, o0, hA0, d0, d1⟩ := ((HR.out.below HB.out (Nat.le_refl _)).at_ hx)
        subst hA0
        obtain ⟨b, hb⟩ : ∃ b, p x = b := ⟨_, rfl⟩
        have HC := Lib.hid (HIN.out x b wr hb)
        obtain ⟨xk, xr⟩ := x
        simp only at d0 d1 HC
        obtain ⟨s1, hs1⟩ : ∃ s, s = sB xk := ⟨_, rfl⟩
        obtain ⟨s2, hs2⟩ : ∃ s, s = sB xr := ⟨_, rfl⟩
        rw [← hs1] at d0 HC
        rw [← hs2] at d1
        have HS1 := Lib.hid (And.intro hs1 hs2)
        have HI := Lib.hid (And.intro hlt hmm)
        have HNX := Lib.hid (filter_next (p := p) hx)
        cases b with
        | false =>
          have HY : Hid (∀ v10, v10 = .int .i64 ((i + 1 : Nat) : Int) → RnL w l p most (.slice A1 m1 c1) v10 wr) := Lib.hid fun v6 h6 => ⟨i + 1, _, rfl, h6, by rw [HN.out]; exact HI.out.1, by rw [HNX.out, hb]; simpa using HO.out, by rw [HNX.out, hb]; simpa using (by rw [HM.out.1]; exact HM.out.2.2 : ((l.take i).filter p).length ≤ most.toNat), HB.out⟩
          clear hx hb hs1 hs2 hi hlt
          go_wp2_with (go_at_call 26; refine HC.out.mono ?_; rintro e w2 ⟨rfl, rfl⟩)
          go_roundw
          case rel => first | exact HY.out _ (by go_num) | ((repeat apply Exists.intro); exact ⟨HY.out _ (by go_num), rfl⟩)
          case measure => have := HI.out; simp [intOf]; omega
        | true =>
          have HPX := Lib.hid hb
          clear hx hb hs1 hs2 hi hlt
          go_wp2_with (first
            | (go_at_call 26; refine HC.out.mono ?_; rintro e w2 ⟨rfl, rfl⟩)
            | (at_builtin
               refine wpList_appS (B := w.heap.size) (n := 1) (ys := [(xk, xr)]) (by rfl) _ _ 29 (by rfl) Try.underlying29 (by rfl) (HO.out.below (alloc_below _ _)) (by rfl) (by rfl) (by rw [HS1.out.1, HS1.out.2]; exact rdS_one _ _ _ _) (by have := HM.out; have := HI.out; have := HNS.out; simp; omega) (by have := HB.out.size; have := alloc_sz wr (.cells #[.string s1, .string s2] 34); omega) ?_
               intro v5 w5 ho5 hg5
               have HO5 := Lib.hid ho5
               have HG5 := Lib.hid hg5
               obtain ⟨A5, c5, hv5, _⟩ := ho5.2
               subst hv5
               have HZ : Hid (∀ v10 m, v10 = .int .i64 ((i + 1 : Nat) : Int) → m = ((l.take i).filter p ++ [(xk, xr)]).length → RnL w l p most (.slice A5 m c5) v10 w5) := Lib.hid (fun v6 m h6 hm => by
                 subst hm
                 have hge := HO.out.ge
                 have s0 := HB.out.size
                 have ha := alloc_below wr (.cells #[.string s1, .string s2] 34)
                 exact ⟨i + 1, _, rfl, h6, by rw [HN.out]; exact HI.out.1, by rw [HNX.out, HPX.out]; simpa using HO5.out, by rw [HNX.out, HPX.out]; have h9 := HI.out.2; have h8 := HM.out.1; simp; omega, HB.out.trans ((ha.mono s0).trans (HG5.out.bel (fun j hj => hge j hj) (Nat.le_trans s0 ha.size)))⟩)
               clear ho5 hg5)
            | fail)
          go_roundw
          case rel => first | exact HZ.out _ _ (by go_num) (by simp) | ((repeat apply Exists.intro); exact ⟨HZ.out _ _ (by go_num) rfl, rfl⟩)
          case measure => have := HI.out; simp [intOf]; omega
      · have HY : Hid (SnT w ((rangeK f t l).take most.toNat) (.returned (.slice A1 m1 c1)) wr) := Lib.hid ⟨_, rfl, by
          have h := HO.out
          have e : m1 = most.toNat := by have := HM.out; omega
          rw [HD.out, ← e, take_filter HM.out.1]; exact h, HB.out⟩
        clear hi hlt
        go_wp2_with fail
        go_ret
        exact HY.out
    · have hie : i = n := by omega
      subst hie
      have hlti : ¬ (i : Int) < (i : Int) := by omega
      have HY : Hid (SnT w ((rangeK f t l).take most.toNat) (.returned (.slice A1 m1 c1)) wr) := Lib.hid ⟨_, rfl, by
        have h := HO.out
        have h2 := HM.out
        rw [List.take_of_length_le (by rw [HN.out]; exact Nat.le_refl _)] at h h2
        rw [HD.out, List.take_of_length_le (by omega)]; exact h, HB.out⟩
      clear hi hlt
      go_wp2_with fail
      go_ret
      exact HY.out
end
end Go.Proofs.Ytfmhijaljlmgaaa

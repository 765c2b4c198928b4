/- Layer 8: the document's Put. -/
import Derived.Test.YtfmhijaljlmgaaaYPQ
namespace Go.Proofs.Ytfmhijaljlmgaaa
section
open Go.RowKit

theorem cmp_ne {a b : List UInt8} (h : a ≠ b) : cmpB a b ≠ 0 := fun e => h (cmpB_zero e)
theorem dropF_all {l : List (List UInt8 × List UInt8)} {k : List UInt8} (h : ∀ x ∈ l, x.1 ≠ k) : dropF l k = l := List.filter_eq_self.2 fun x hx => by simpa using h x hx
theorem put_place {k r : List UInt8} : ∀ {l : List (List UInt8 × List UInt8)}, (l.Pairwise fun a b => cmpB a.1 b.1 < 0) → ∀ {j : Nat}, j ≤ (dropF l k).length → (∀ (i : Nat) (x : List UInt8 × List UInt8), (dropF l k)[i]? = some x → i < j → cmpB x.1 k < 0) → (∀ (i : Nat) (x : List UInt8 × List UInt8), (dropF l k)[i]? = some x → j ≤ i → 0 < cmpB x.1 k) → (dropF l k).take j ++ (k, r) :: (dropF l k).drop j = putK l k r
  | [], _, j, hj, _, _ => by
    simp [dropF, putK]
  | x :: l, h, j, hj, hlo, hhi => by
    obtain ⟨h1, h2⟩ := List.pairwise_cons.1 h
    unfold putK
    by_cases hc : cmpB x.1 k < 0
    · rw [if_pos hc]
      have hne : x.1 ≠ k := fun e => by rw [e, cmpB_self] at hc; omega
      have hd : dropF (x :: l) k = x :: dropF l k := by simp [dropF, hne]
      rw [hd] at hj hlo hhi ⊢
      cases j with
      | zero => have := hhi 0 x rfl (Nat.le_refl _); omega
      | succ j =>
        have h3 := put_place (r := r) h2 (j := j) (by simpa using hj) (fun i y hy hi => hlo (i + 1) y (by simpa using hy) (by omega)) (fun i y hy hi => hhi (i + 1) y (by simpa using hy) (by omega))
        rw [List.take_succ_cons, List.drop_succ_cons, List.cons_append, h3]
    · rw [if_neg hc]
      by_cases h0 : cmpB x.1 k = 0
      · rw [if_pos h0]
        have hxk := cmpB_zero h0
        have hal : ∀ y ∈ l, 0 < cmpB y.1 k := fun y hy => by have h4 := h1 y hy; rw [hxk] at h4; have := cmpB_neg k y.1; omega
        have hd : dropF (x :: l) k = l := by
          have : dropF (x :: l) k = dropF l k := by simp [dropF, hxk]
          rw [this]
          exact dropF_all fun y hy e => by have := hal y hy; rw [e, cmpB_self] at this; omega
        rw [hd] at hj hlo hhi ⊢
        have hj0 : j = 0 := by
          rcases Nat.eq_zero_or_pos j with h5 | h5
          · exact h5
          · obtain ⟨y, hy⟩ : ∃ y, l[0]? = some y := ⟨_, List.getElem?_eq_getElem (by omega)⟩
            have := hlo 0 y hy h5
            have := hal y (List.mem_of_getElem? hy)
            omega
        subst hj0
        rw [← hxk]; rfl
      · rw [if_neg h0]
        have hgt : 0 < cmpB x.1 k := by omega
        have hal : ∀ y ∈ x :: l, 0 < cmpB y.1 k := fun y hy => by
          rcases List.mem_cons.1 hy with rfl | hy
          · exact hgt
          · have h4 := h1 y hy
            have h5 : cmpB k x.1 < 0 := by have := cmpB_neg k x.1; omega
            have h6 := cmpB_tr h5 h4
            have := cmpB_neg k y.1
            omega
        have hd : dropF (x :: l) k = x :: l := dropF_all fun y hy e => by have := hal y hy; rw [e, cmpB_self] at this; omega
        rw [hd] at hj hlo hhi ⊢
        have hj0 : j = 0 := by
          rcases Nat.eq_zero_or_pos j with h5 | h5
          · exact h5
          · have := hlo 0 x rfl h5; omega
        subst hj0
        rfl
theorem dropF_rise {l : List (List UInt8 × List UInt8)} {k : List UInt8} (h : l.Pairwise fun a b => cmpB a.1 b.1 < 0) : (dropF l k).Pairwise fun a b => cmpB a.1 b.1 < 0 := h.filter _
theorem dropF_ne {l : List (List UInt8 × List UInt8)} {k : List UInt8} {x : List UInt8 × List UInt8} (h : x ∈ dropF l k) : x.1 ≠ k := by
  have := (List.mem_filter.1 h).2
  simpa using this
theorem dropF_dropK : ∀ {l : List (List UInt8 × List UInt8)} {k : List UInt8}, (l.Pairwise fun a b => cmpB a.1 b.1 < 0) → dropF l k = dropK l k
  | [], _, _ => rfl
  | x :: l, k, h => by
    obtain ⟨h1, h2⟩ := List.pairwise_cons.1 h
    unfold dropK
    by_cases h0 : cmpB x.1 k = 0
    · rw [if_pos h0]
      have hxk := cmpB_zero h0
      have : dropF (x :: l) k = dropF l k := by simp [dropF, hxk]
      rw [this]
      exact dropF_all fun y hy e => by have h4 := h1 y hy; rw [hxk, e, cmpB_self] at h4; omega
    · rw [if_neg h0, ← dropF_dropK h2]
      have hne : x.1 ≠ k := fun e => by rw [e, cmpB_self] at h0; exact h0 rfl
      simp [dropF, hne]
theorem strS_mid (P R : List (List UInt8 × List UInt8)) (x : List UInt8 × List UInt8) : strS (P ++ x :: R) = strS P ++ ([.string (sB x.1), .string (sB x.2)] ++ strS R) := by simp [strS]
theorem OwnC.ent {W : World} {g cap n p : Nat} {P R : List (List UInt8 × List UInt8)} {x : List UInt8 × List UInt8} (h : OwnC W g 0 cap 2 n (strS (P ++ x :: R))) (hp : P.length = p) :
    W.cell? ⟨g, p * 2, none⟩ = some (.string (sB x.1)) ∧ W.cell? ⟨g, p * 2 + 1, none⟩ = some (.string (sB x.2)) ∧ W.frozen? ⟨g, p * 2, none⟩ = false ∧ W.frozen? ⟨g, p * 2 + 1, none⟩ = false := by
  have hl := h.len
  have hr := h.room
  have hx : (P ++ x :: R)[p]? = some x := by rw [← hp]; simp
  obtain ⟨s1, s2⟩ := strS_at hx
  have c1 := h.cell _ _ s1
  have c2 := h.cell _ _ s2
  have h1 : p * 2 + 1 < cap * 2 := by
    rw [strS_len, List.length_append, List.length_cons, hp] at hl
    omega
  have f1 := (h.free (p * 2) (by omega)).2
  have f2 := (h.free (p * 2 + 1) h1).2
  rw [Nat.zero_add] at c1 c2 f1 f2
  exact ⟨c1, c2, f1, f2⟩
theorem OwnC.put2 {W : World} {g cap n p : Nat} {P R : List (List UInt8 × List UInt8)} {x : List UInt8 × List UInt8} (h : OwnC W g 0 cap 2 n (strS (P ++ x :: R))) (hp : P.length = p) (y : List UInt8 × List UInt8) :
    OwnC ((W.setCell ⟨g, p * 2, none⟩ (.string (sB y.1))).setCell ⟨g, p * 2 + 1, none⟩ (.string (sB y.2))) g 0 cap 2 n (strS (P ++ y :: R)) := by
  rw [strS_mid] at h ⊢
  have h1 := OwnC.mid_ (ys := [.string (sB y.1), .string (sB y.2)]) (k := p * 2) h rfl (by rw [strS_len, hp])
  rw [Nat.zero_add] at h1
  exact h1
/-- what Put answers -/
def PuT (w : World) (R : List (List UInt8 × List UInt8)) (e : Ending) (w' : World) : Prop := ∃ A n c, e = .returned (.slice A n c) ∧ R.length = n ∧ RdS w' w'.heap.size A R ∧ (∀ ad, A = some ad → w.heap.size ≤ ad.block) ∧ Below w.heap.size w w'
/-- where the new entry stands -/
def PuL (w : World) (g cap : Nat) (pre : List (List UInt8 × List UInt8)) (k r : List UInt8) (v8 : Value) (W : World) : Prop := ∃ j : Nat, v8 = .int .i64 (j : Int) ∧ j ≤ pre.length ∧ OwnC W g 0 cap 2 (pre.length + 1) (strS (pre.take j ++ (k, r) :: pre.drop j)) ∧ (∀ (i : Nat) (x : List UInt8 × List UInt8), pre[i]? = some x → j ≤ i → 0 < cmpB x.1 k) ∧ Below w.heap.size w W
theorem PuL.swap {w W W1 : World} {g cap j p : Nat} {pre : List (List UInt8 × List UInt8)} {k r : List UInt8} {y : List UInt8 × List UInt8} (hg : w.heap.size ≤ g) (hjp : j = p + 1) (hj : j ≤ pre.length) (hy : pre[p]? = some y) (hown : OwnC W g 0 cap 2 (pre.length + 1) (strS (pre.take j ++ (k, r) :: pre.drop j))) (hhi : ∀ (i : Nat) (x : List UInt8 × List UInt8), pre[i]? = some x → j ≤ i → 0 < cmpB x.1 k) (hbl : Below w.heap.size w W) (hlt : cmpB k y.1 < 0) (hW : W1.heap = W.heap) (hWb : Below W.heap.size W W1) (sk sr s1 s2 : ByteArray) (hsk : sk = sB k) (hsr : sr = sB r) (hs1 : s1 = sB y.1) (hs2 : s2 = sB y.2) :
    (W1.cell? ⟨g, j * 2, none⟩ = some (.string sk) ∧ W1.cell? ⟨g, j * 2 + 1, none⟩ = some (.string sr)) ∧ (W1.cell? ⟨g, p * 2, none⟩ = some (.string s1) ∧ W1.cell? ⟨g, p * 2 + 1, none⟩ = some (.string s2)) ∧ ∀ (W2 W3 W4 : World), W2 = W1.alloc (.cells #[.string sk, .string sr] 34) → W3 = (W2.setCell ⟨g, j * 2, none⟩ (.string s1)).setCell ⟨g, j * 2 + 1, none⟩ (.string s2) → W4 = (W3.setCell ⟨g, p * 2, none⟩ (.string sk)).setCell ⟨g, p * 2 + 1, none⟩ (.string sr) →
      (W2.cell? ⟨g, p * 2, none⟩ = some (.string s1) ∧ W2.cell? ⟨g, p * 2 + 1, none⟩ = some (.string s2) ∧ W2.cell? ⟨g, j * 2, none⟩ = some (.string sk) ∧ W2.cell? ⟨g, j * 2 + 1, none⟩ = some (.string sr) ∧ W2.frozen? ⟨g, j * 2, none⟩ = false ∧ W2.frozen? ⟨g, j * 2 + 1, none⟩ = false) ∧
      (W3.cell? ⟨W1.heap.size, 0, none⟩ = some (.string sk) ∧ W3.cell? ⟨W1.heap.size, 1, none⟩ = some (.string sr) ∧ W3.cell? ⟨g, p * 2, none⟩ = some (.string s1) ∧ W3.cell? ⟨g, p * 2 + 1, none⟩ = some (.string s2) ∧ W3.frozen? ⟨g, p * 2, none⟩ = false ∧ W3.frozen? ⟨g, p * 2 + 1, none⟩ = false) ∧
      ∀ v8, v8 = .int .i64 (p : Int) → PuL w g cap pre k r v8 W4 := by
  subst hsk hsr hs1 hs2
  have hpl : p < pre.length := (List.getElem?_eq_some_iff.1 hy).1
  have htk : pre.take j = pre.take p ++ [y] := by rw [hjp, List.take_add_one, hy, Option.toList_some]
  have hdr : pre.drop p = y :: pre.drop j := by rw [hjp, List.drop_eq_getElem_cons hpl, (List.getElem?_eq_some_iff.1 hy).2]
  have hlp : (pre.take p).length = p := by rw [List.length_take]; omega
  have hlj : (pre.take p ++ [y]).length = j := by rw [List.length_append, hlp, hjp]; rfl
  rw [htk] at hown
  have h1 := hown.heap hW
  have h1' : OwnC W1 g 0 cap 2 (pre.length + 1) (strS (pre.take p ++ y :: ((k, r) :: pre.drop j))) := by
    have e : pre.take p ++ [y] ++ (k, r) :: pre.drop j = pre.take p ++ y :: ((k, r) :: pre.drop j) := by simp
    rw [← e]; exact h1
  obtain ⟨a1, a2, _, _⟩ := h1.ent hlj
  obtain ⟨b1, b2, _, _⟩ := h1'.ent hlp
  refine ⟨⟨a1, a2⟩, ⟨b1, b2⟩, ?_⟩
  rintro W2 W3 W4 rfl rfl rfl
  have hb := alloc_below W1 (.cells #[.string (sB k), .string (sB r)] 34)
  have h2 := h1.only (Only.of_below (K := fun _ => False) hb) id
  have h2' := h1'.only (Only.of_below (K := fun _ => False) hb) id
  obtain ⟨a1, a2, a3, a4⟩ := h2.ent hlj
  obtain ⟨b1, b2, _, _⟩ := h2'.ent hlp
  have h3 := h2.put2 hlj y
  have h3' : OwnC (((W1.alloc (.cells #[.string (sB k), .string (sB r)] 34)).setCell ⟨g, j * 2, none⟩ (.string (sB y.1))).setCell ⟨g, j * 2 + 1, none⟩ (.string (sB y.2))) g 0 cap 2 (pre.length + 1) (strS (pre.take p ++ y :: (y :: pre.drop j))) := by
    have e : pre.take p ++ [y] ++ y :: pre.drop j = pre.take p ++ y :: (y :: pre.drop j) := by simp
    rw [← e]; exact h3
  obtain ⟨d1, d2, d3, d4⟩ := h3'.ent hlp
  have h4 := h3'.put2 hlp (k, r)
  have hgl : g < W1.heap.size := h1.lt
  have hnew := heap_alloc_new W1 (.cells #[.string (sB k), .string (sB r)] 34)
  have hO3 : Only (· = g) (W1.alloc (.cells #[.string (sB k), .string (sB r)] 34)) (((W1.alloc (.cells #[.string (sB k), .string (sB r)] 34)).setCell ⟨g, j * 2, none⟩ (.string (sB y.1))).setCell ⟨g, j * 2 + 1, none⟩ (.string (sB y.2))) := (Only.set _ g _ _).trans (Only.set _ g _ _) (fun _ _ e => e)
  obtain ⟨x1, x2⟩ := box2 ((hO3.block W1.heap.size (by simp) (fun e => by omega)).trans hnew)
  refine ⟨⟨b1, b2, a1, a2, a3, a4⟩, ⟨x1, x2, d1, d2, d3, d4⟩, fun v8 h8 => ⟨p, h8, by omega, by rw [hdr]; exact h4, fun i x hx hi => ?_, ?_⟩⟩
  · rcases Nat.lt_or_ge i j with h5 | h5
    · have : i = p := by omega
      subst this
      rw [hy] at hx
      injection hx with hx
      rw [← hx]
      have := cmpB_neg k y.1
      omega
    · exact hhi i x hx h5
  · have hO4 := hO3.trans ((Only.set _ g (p * 2) (.string (sB k))).trans (Only.set _ g (p * 2 + 1) (.string (sB r))) (fun _ _ e => e)) (fun _ _ e => e)
    have hs := hbl.size
    have hs1 := hWb.size
    exact (hbl.trans (hWb.mono hs)).trans ((hb.mono (by omega)).trans (hO4.below (by have := hb.size; omega) (fun i e => by omega)))
end

section
open Go.RowKit

attribute [-go_sem] Builtin.append_
set_option maxRecDepth 100000 in
set_option maxHeartbeats 8000000 in
theorem refPut_any {w : World} {A : Option Addr} {n cap : Nat} {l : List (List UInt8 × List UInt8)} (k r : List UInt8) (hri : l.Pairwise fun a b => cmpB a.1 b.1 < 0) (hr : RdS w w.heap.size A l) (hn : l.length = n) (hs : n ≤ 900) :
    Calls Try.prog 9 #[.slice A n cap, .string (sB k), .string (sB r)] w (PuT w (putK l k r)) := by
  have HD := Lib.hid (refDrop_any (cap := cap) k hr hn (by omega))
  obtain ⟨pre, hpre⟩ : ∃ pre, pre = dropF l k := ⟨_, rfl⟩
  rw [← hpre] at HD
  have HPR := Lib.hid (show pre.Pairwise fun a b => cmpB a.1 b.1 < 0 by rw [hpre]; exact dropF_rise hri)
  have HPN : Hid (∀ x ∈ pre, x.1 ≠ k) := Lib.hid fun x hx => by rw [hpre] at hx; exact dropF_ne hx
  have HPP : Hid (∀ {j : Nat}, j ≤ pre.length → (∀ (i : Nat) (x : List UInt8 × List UInt8), pre[i]? = some x → i < j → cmpB x.1 k < 0) → (∀ (i : Nat) (x : List UInt8 × List UInt8), pre[i]? = some x → j ≤ i → 0 < cmpB x.1 k) → pre.take j ++ (k, r) :: pre.drop j = putK l k r) := Lib.hid (by rw [hpre]; exact put_place hri)
  obtain ⟨m, hm⟩ : ∃ m, pre.length = m := ⟨_, rfl⟩
  have hmn : m ≤ 900 := by
    have : (dropF l k).length ≤ l.length := List.length_filter_le _ _
    rw [← hpre, hm] at this
    omega
  have HM := Lib.hid hm
  have HMN := Lib.hid hmn
  have hmi : (m : Int) ≤ 900 := by omega
  obtain ⟨sk, hsk⟩ : ∃ s, s = sB k := ⟨_, rfl⟩
  obtain ⟨sr, hsr⟩ : ∃ s, s = sB r := ⟨_, rfl⟩
  rw [← hsk] at HD
  rw [← hsk, ← hsr]
  have HK := Lib.hid (And.intro hsk hsr)
  clear hri hr hn hs hpre hm hmn hsk hsr
  go_enter Try.func9, Try.ntmps9
  go_wp2_with (first
    | (go_at_call 11; refine HD.out.mono ?_; rintro e w1 ⟨v1, rfl, ho1, hb1⟩
       have HO1 := Lib.hid ho1
       have HB1 := Lib.hid hb1
       clear ho1 hb1)
    | (at_builtin
       refine wpList_appS (B := w.heap.size) (n := 1) (ys := [(k, r)]) (by rfl) _ _ 29 (by rfl) Try.underlying29 (by rfl) (HO1.out.below (alloc_below _ _)) (by rfl) (by rfl) (by rw [HK.out.1, HK.out.2]; exact rdS_one _ _ _ _) (by have := HMN.out; rw [HM.out]; simp; omega) (by have := HB1.out.size; have := alloc_sz w1 (.cells #[.string sk, .string sr] 34); omega) ?_
       intro v5 w5 ho5 hg5
       have HST : Hid (∃ g c5, v5 = .slice (some ⟨g, 0, none⟩) (m + 1) c5 ∧ m + 1 ≤ c5 ∧ w.heap.size ≤ g ∧ PuL w g c5 pre k r (.int .i64 (m : Int)) w5) := Lib.hid (by
         have hbl : Below w.heap.size w w5 := HB1.out.trans (((alloc_below w1 (.cells #[.string sk, .string sr] 34)).mono HB1.out.size).trans (hg5.bel (fun j hj => HO1.out.ge j hj) (Nat.le_trans HB1.out.size (alloc_below w1 _).size)))
         rcases ho5.1.2 with ⟨_, h0⟩ | ⟨g, c5, cur, rfl, hB, hh, hnc, _⟩
         · simp at h0
         · obtain ⟨h1, _, _⟩ := ownC_of_row ho5.1
           have hl : (pre ++ [(k, r)]).length = m + 1 := by rw [List.length_append, HM.out]; rfl
           rw [hl] at h1 hnc ⊢
           refine ⟨g, c5, rfl, hnc, hB, m, rfl, by rw [HM.out]; exact Nat.le_refl _, ?_, fun i x hx hi => ?_, hbl⟩
           · rw [List.take_of_length_le (by rw [HM.out]; exact Nat.le_refl _), List.drop_of_length_le (by rw [HM.out]; exact Nat.le_refl _), HM.out]
             exact h1
           · have := (List.getElem?_eq_some_iff.1 hx).1
             rw [HM.out] at this
             omega)
       obtain ⟨g, c5, hv5, hc5, _⟩ := HST.out
       subst hv5
       clear ho5 hg5)
    | fail)
  obtain ⟨g2, c2, hv2, hc2, hg2, hst2⟩ := HST.out
  injection hv2 with hv2 _ hv3
  injection hv2 with hv2
  injection hv2 with hv2 _ _
  subst hv2 hv3
  have HGG := Lib.hid hg2
  have HS2 := Lib.hid hst2
  have hm1 : (m : Int) + 1 ≤ c5 := by omega
  clear HST hg2 hst2 hc2
  go_loopw [8] (fun v8 wr => PuL w g c5 pre k r v8 wr) (fun v8 _ => (intOf v8).toNat)
  case atStart => first | exact HS2.out | (simpa using HS2.out)
  case round =>
    obtain ⟨j, rfl, hj, hown, hhi, hbl⟩ := hrel
    rw [HM.out] at hj
    have HFIN : Hid ((j = 0 ∨ ∃ p y, j = p + 1 ∧ pre[p]? = some y ∧ ¬ cmpB k y.1 < 0) → ∀ W, W.heap = wr.heap → Below wr.heap.size wr W → PuT w (putK l k r) (.returned (.slice (some ⟨g, 0, none⟩) (m + 1) c5)) W) := Lib.hid fun hor W hW hb => by
      have h5 : ∀ (i : Nat) (x : List UInt8 × List UInt8), pre[i]? = some x → i < j → cmpB x.1 k < 0 := fun i x hx hi => by
        rcases hor with e | ⟨p, y, e, hy, hle⟩
        · omega
        · have h6 : cmpB y.1 k < 0 := by
            have h7 := cmp_ne (HPN.out y (List.mem_of_getElem? hy))
            have := cmpB_neg k y.1
            omega
          rcases Nat.lt_or_ge i p with h8 | h8
          · have hlt := (List.getElem?_eq_some_iff.1 hx).1
            have hlt2 := (List.getElem?_eq_some_iff.1 hy).1
            have h9 := (List.pairwise_iff_getElem.1 HPR.out) i p hlt hlt2 h8
            rw [(List.getElem?_eq_some_iff.1 hx).2, (List.getElem?_eq_some_iff.1 hy).2] at h9
            exact cmpB_tr h9 h6
          · have : i = p := by omega
            subst this
            rw [hy] at hx
            injection hx with hx
            rw [← hx]; exact h6
      have h6 := HPP.out (by rw [HM.out]; exact hj) h5 hhi
      have hlen : (putK l k r).length = m + 1 := by
        rw [← h6, List.length_append, List.length_take, List.length_cons, List.length_drop, HM.out]
        omega
      refine ⟨_, _, _, rfl, hlen, fun _ => ?_, fun ad e => by injection e with e; rw [← e]; exact HGG.out, hbl.trans (hb.mono hbl.size)⟩
      rw [← h6]
      have h7 := hown.heap hW
      refine ⟨g, 0, rfl, h7.lt, fun i x hx => ?_⟩
      obtain ⟨s1, s2⟩ := strS_at hx
      exact ⟨h7.cell _ _ s1, by have := h7.cell _ _ s2; rwa [← Nat.add_assoc] at this⟩
    have hjc : j ≤ m := hj
    cases j with
    | zero =>
      have hjz : decide ((0 : Int) < ((0 : Nat) : Int)) = false := by simp
      have HY := Lib.hid (HFIN.out (.inl rfl))
      clear hj hown hhi hbl HFIN
      go_wp2_with fail
      go_quiet (fail)
      go_wp2_with fail
      go_ret
      exact HY.out _ rfl (drewN_below _ _)
    | succ p =>
      obtain ⟨j, hje⟩ : ∃ j, j = p + 1 := ⟨_, rfl⟩
      rw [← hje] at hj hown hhi hjc HFIN ⊢
      obtain ⟨y, hy⟩ : ∃ y, pre[p]? = some y := ⟨_, List.getElem?_eq_getElem (by rw [HM.out]; omega)⟩
      obtain ⟨s1, hs1⟩ : ∃ s, s = sB y.1 := ⟨_, rfl⟩
      obtain ⟨s2, hs2⟩ : ∃ s, s = sB y.2 := ⟨_, rfl⟩
      have hq : Op.bytesLess sk.toList s1.toList = decide (cmpB k y.1 < 0) := by rw [HK.out.1, hs1]; exact less_sB rfl
      have hj0 : (0 : Int) < (j : Int) := by omega
      have hj0d : decide (0 < j) = true := by rw [hje]; simp
      have hj0n : 0 < j := by omega
      have hjm : (j : Int) ≤ (m : Int) := by omega
      have hp0 : (0 : Int) ≤ (p : Int) := by omega
      have hjp : IntKind.i64.wrap ((j : Int) - 1) = (p : Int) := by rw [IntKind.wrap_i64]; omega
      have hpm : (p : Int) < (m : Int) + 1 := by omega
      have hjm1 : (j : Int) < (m : Int) + 1 := by omega
      have HJP := Lib.hid hje
      obtain ⟨⟨f1, f2⟩, ⟨f3, f4⟩, HSW0⟩ : (wr.cell? ⟨g, j * 2, none⟩ = some (.string sk) ∧ wr.cell? ⟨g, j * 2 + 1, none⟩ = some (.string sr)) ∧ (wr.cell? ⟨g, p * 2, none⟩ = some (.string s1) ∧ wr.cell? ⟨g, p * 2 + 1, none⟩ = some (.string s2)) ∧ True := by
        have h1 := hown
        have htk : pre.take j = pre.take p ++ [y] := by rw [hje, List.take_add_one, hy, Option.toList_some]
        have hlp : (pre.take p).length = p := by rw [List.length_take, HM.out]; omega
        have hlj : (pre.take j).length = j := by rw [List.length_take, HM.out]; omega
        obtain ⟨a1, a2, _, _⟩ := h1.ent hlj
        rw [htk, List.append_assoc] at h1
        obtain ⟨b1, b2, _, _⟩ := OwnC.ent (P := pre.take p) (x := y) h1 hlp
        exact ⟨⟨by rw [HK.out.1]; exact a1, by rw [HK.out.2]; exact a2⟩, ⟨by rw [hs1]; exact b1, by rw [hs2]; exact b2⟩, trivial⟩
      by_cases hlt : cmpB k y.1 < 0
      · rw [decide_eq_true hlt] at hq
        have HSW := Lib.hid (fun (W1 : World) (h1 : W1.heap = wr.heap) (h2 : Below wr.heap.size wr W1) => PuL.swap HGG.out hje (by rw [HM.out]; exact hj) hy (by rw [HM.out] at hown ⊢; exact hown) hhi hbl hlt h1 h2 sk sr s1 s2 HK.out.1 HK.out.2 hs1 hs2)
        clear hj hown hhi hbl HFIN hy hs1 hs2 hlt hjc hje HSW0
        go_wp2_with fail
        go_quiet (fail)
        go_upto_region 5 with fail
        have hsw := HSW.out (wr.drewN nq) rfl (drewN_below _ _)
        obtain ⟨W1, hW1⟩ : ∃ W1, wr.drewN nq = W1 := ⟨_, rfl⟩
        rw [hW1] at hsw ⊢
        clear f1 f2 f3 f4 hW1
        obtain ⟨⟨f1, f2⟩, ⟨f3, f4⟩, hw4⟩ := hsw
        obtain ⟨⟨a1, a2, a3, a4, a5, a6⟩, ⟨b1, b2, b3, b4, b5, b6⟩, hpu⟩ := hw4 _ _ _ rfl rfl rfl
        have HZ := Lib.hid hpu
        clear hpu hw4
        go_wp2_with fail
        go_roundw
        case rel => first | exact HZ.out _ (by go_num) | exact HZ.out _ rfl | ((repeat apply Exists.intro); exact ⟨HZ.out _ (by go_num), rfl⟩)
        case measure => have := HJP.out; simp [intOf]; omega
      · rw [decide_eq_false hlt] at hq
        have HY := Lib.hid (HFIN.out (.inr ⟨p, y, hje, hy, hlt⟩))
        clear hj hown hhi hbl HFIN hy hs1 hs2 hlt hjc hje HSW0
        go_wp2_with fail
        go_quiet (fail)
        go_wp2_with fail
        go_ret
        exact HY.out _ rfl (drewN_below _ _)
end
end Go.Proofs.Ytfmhijaljlmgaaa

/- KeyNext: the law's own body answers true. -/
import Derived.Test.YtaokblhflhlhiaaKJ
namespace Go.Proofs.Ytaokblhflhlhiaa
open Go.RowKit

theorem nextTo_own {w w' : World} {l : List UInt8} {e : Ending} (h : NextTo w l e w') : ∃ v, e = .returned v ∧ OwnB w' w.heap.size v ((nextL l).getD []) ∧ Below w.heap.size w w' := by
  obtain ⟨hb, ⟨hn, rfl⟩ | ⟨r, v, hn, rfl, ho⟩⟩ := h
  · exact ⟨_, rfl, by rw [hn]; exact OwnB.nil _ _, hb⟩
  · exact ⟨_, rfl, by rw [hn]; exact ho, hb⟩
theorem conv_rd {w : World} {B n cap : Nat} {A : Option Addr} {l : List UInt8} (h : RdB w B A l) (hn : l.length = n) (s : ByteArray) (hs : s.data.toList = l) : (convert 23 9 (.slice A n cap)).run Try.prog w = .ok (.string s) w := by
  subst hn hs
  cases A with
  | none =>
    have : s.data.toList = [] := by
      rcases hl : s.data.toList with _ | ⟨y, t⟩
      · rfl
      · obtain ⟨_, e, _⟩ := h (by rw [hl]; simp); cases e
    have hs : s = ByteArray.empty := bytes_ext (by rw [this]; rfl)
    rw [run_convert_bytes_nil w _ _ Try.underlying23 Try.underlying5 _ _ _ Try.underlying9, hs]
  | some ad =>
    have hb := run_convert_bytes_back (P := Try.prog) w 23 9 5 ad cap s.data.toList Try.underlying23 Try.underlying5 Try.underlying9 (fun j hj => by
      obtain ⟨ad', e, _, hc⟩ := h (fun e => by rw [e] at hj; simp at hj)
      injection e with e
      subst e
      exact hc j _ (List.getElem?_eq_getElem hj))
    have e : (⟨s.data.toList.toArray⟩ : ByteArray) = s := bytes_ext (by simp)
    rw [e] at hb
    exact hb
theorem less_of {a b : ByteArray} {x : Bool} (h : decide (cmpB a.data.toList b.data.toList < 0) = x) : Op.bytesLess a.toList b.toList = x := by rw [less_eq, ByteArray.toList_eq, ByteArray.toList_eq]; exact h
theorem eq_of {a b : ByteArray} {x : Bool} (h : decide (a.data.toList = b.data.toList) = x) : (a.toList == b.toList) = x := by
  rw [ByteArray.toList_eq, ByteArray.toList_eq, ← h]
  by_cases e : a.data.toList = b.data.toList
  · rw [e]; simp
  · rw [decide_eq_false e]; exact beq_false_of_ne e
theorem ba_of (l : List UInt8) : ∃ s : ByteArray, s.data.toList = l := ⟨⟨l.toArray⟩, by simp⟩
theorem prefix_take {b c : List UInt8} : b <+: c ↔ b.length ≤ c.length ∧ c.take b.length = b := by
  rw [List.prefix_iff_eq_take]
  exact ⟨fun h => ⟨by have := congrArg List.length h; rw [List.length_take] at this; omega, h.symm⟩, fun h => h.2.symm⟩
theorem less_ofL {a : ByteArray} {b : List UInt8} {x : Bool} (h : decide (cmpB a.data.toList b < 0) = x) : Op.bytesLess a.toList b = x := by rw [less_eq, ByteArray.toList_eq]; exact h
theorem next_pos {b r : List UInt8} (h : nextL b = some r) : 0 < r.length := by
  cases b with
  | nil => cases h
  | cons a b =>
    simp only [nextL] at h
    cases hb : nextL b with
    | some q => rw [hb] at h; injection h with h; rw [← h]; simp
    | none =>
      rw [hb] at h
      simp only at h
      split at h
      · cases h
      · injection h with h; rw [← h]; simp
set_option maxRecDepth 100000 in
set_option maxHeartbeats 40000000 in
theorem keyNext_law (b c : List UInt8) (A C : Option Addr) (cap1 cap2 : Nat) (w : World) (hb : RdB w w.heap.size A b) (hc : RdB w w.heap.size C c) (hbc : b.length ≤ cap1) (hcc : c.length ≤ cap2) :
    Calls Try.prog 7 #[.slice A b.length cap1, .slice C c.length cap2] w (Ans (.bool true) w) := by
  have AL := Lib.hid alive_any
  by_cases h1 : b.length ≤ 500
  · by_cases h2 : c.length ≤ 500
    · have h1i : ¬ (500 : Int) < (b.length : Int) := by omega
      have h2i : ¬ (500 : Int) < (c.length : Int) := by omega
      obtain ⟨sb, hsb⟩ := ba_of b
      obtain ⟨sc, hsc⟩ := ba_of c
      have NA := Lib.hid (fun w' (hw : Below w.heap.size w w') => (next_any b A cap1 w' (by omega) ((hb.below hw (Nat.le_refl _)).more hw.size) hbc).mono fun e w2 h => nextTo_own h)
      have NB := Lib.hid (fun w' (hw : Below w.heap.size w w') => (refNext_any b A cap1 w' (by omega) ((hb.below hw (Nat.le_refl _)).more hw.size) hbc).mono fun e w2 h => nextTo_own h)
      have CB := Lib.hid (fun w' (hw : Below w.heap.size w w') => conv_rd (cap := cap1) (hb.below hw (Nat.le_refl _)) rfl sb hsb)
      have CC := Lib.hid (fun w' (hw : Below w.heap.size w w') => conv_rd (cap := cap2) (hc.below hw (Nat.le_refl _)) rfl sc hsc)
      have HIN := Lib.hid (next_in b c)
      obtain ⟨r, hr⟩ : ∃ r, (nextL b).getD [] = r := ⟨_, rfl⟩
      rw [hr] at NA NB
      have hl1 : (sc.data.toList = c) := hsc
      by_cases hp : b <+: c
      · obtain ⟨hlen, htk⟩ := prefix_take.1 hp
        have hleni : (b.length : Int) ≤ (c.length : Int) := by omega
        have hbc2 : b.length ≤ cap2 := by omega
        obtain ⟨st, hst⟩ := ba_of (c.take b.length)
        have heq : (st.toList == sb.toList) = true := eq_of (by rw [hst, hsb, htk]; simp)
        have CT := Lib.hid (fun w' (hw : Below w.heap.size w w') => conv_rd (cap := cap2) ((hc.below hw (Nat.le_refl _)).take b.length) (n := b.length) (by rw [List.length_take]; omega) st hst)
        obtain ⟨hge, hlt0⟩ := HIN.out.2 hp
        have hless : Op.bytesLess sc.toList sb.toList = false := less_of (by rw [hsc, hsb]; exact decide_eq_false (by omega))
        clear hl1
        cases hnx : nextL b with
        | none =>
          have hz : ((r.length : Int) == 0) = true := by rw [← hr, hnx]; rfl
          have HE := Lib.hid heq
          have HLE := Lib.hid hless
          have HZ := Lib.hid hz
          clear hr h1 h2 hb hc hbc hcc hsb hsc hless hp HIN hst heq hlen hz
          try clear htk
          try clear hge
          try clear hlt0
          try clear hnx
          go_enter Try.func7, Try.ntmps7
          go_wp2_with (first
            | (go_at_call 18; refine (NA.out _ (Below.refl _ _)).mono ?_; rintro e w2 ⟨v2, rfl, ho2, hb2⟩
               obtain ⟨A2, k2, hv2, _⟩ := ho2.2
               subst hv2
               have HB2 := Lib.hid hb2
               have HO2 := Lib.hid ho2
               clear hb2 ho2)
            | (go_at_call 19; refine (NB.out _ HB2.out).mono ?_; rintro e w3 ⟨v3, rfl, ho3, hb3⟩
               obtain ⟨A3, k3, hv3, _⟩ := ho3.2
               subst hv3
               have HB3 := Lib.hid (HB2.out.trans (hb3.mono HB2.out.size))
               have HO3 := Lib.hid (HO2.out.below hb3)
               have hcv2 := conv_own HO3.out
               have hcv3 := conv_own ho3
               clear hb3 ho3))
          clear hcv2 hcv3
          have c1 := fun q => CB.out _ (HB3.out.trans ((drewN_below w3 q).mono HB3.out.size))
          have c2 := fun q => CT.out _ (HB3.out.trans ((drewN_below w3 q).mono HB3.out.size))
          have he := HE.out
          go_quiet (fail)
          clear c1 c2
          have c1 := CB.out (w3.drewN nq) (HB3.out.trans ((drewN_below w3 nq).mono HB3.out.size))
          have c3 := CC.out (w3.drewN nq) (HB3.out.trans ((drewN_below w3 nq).mono HB3.out.size))
          have hle := HLE.out
          have hz := HZ.out
          have HW := Lib.hid (HB3.out.trans ((drewN_below w3 nq).mono HB3.out.size))
          go_wp2_with (go_at_call 10; refine (AL.out _).mono ?_; rintro e w4 ⟨rfl, hb4⟩; have HY := Lib.hid (HW.out.trans (hb4.mono HW.out.size)); clear hb4)
          go_ret
          exact ⟨rfl, HY.out⟩
        | some q =>
          have hz : ((r.length : Int) == 0) = false := by have h0 := next_pos hnx; rw [← hr, hnx, Option.getD_some]; exact beq_false_of_ne (by omega)
          have hlt : Op.bytesLess sc.toList r = true := less_ofL (by rw [hsc]; exact decide_eq_true (by rw [← hr, hnx]; exact hlt0 q hnx))
          have HE := Lib.hid heq
          have HLE := Lib.hid hless
          have HZ := Lib.hid hz
          have HLT := Lib.hid hlt
          clear hr h1 h2 hb hc hbc hcc hsb hsc hless hp HIN hst heq hlen hz hlt
          try clear htk
          try clear hge
          try clear hlt0
          try clear hnx
          go_enter Try.func7, Try.ntmps7
          go_wp2_with (first
            | (go_at_call 18; refine (NA.out _ (Below.refl _ _)).mono ?_; rintro e w2 ⟨v2, rfl, ho2, hb2⟩
               obtain ⟨A2, k2, hv2, _⟩ := ho2.2
               subst hv2
               have HB2 := Lib.hid hb2
               have HO2 := Lib.hid ho2
               clear hb2 ho2)
            | (go_at_call 19; refine (NB.out _ HB2.out).mono ?_; rintro e w3 ⟨v3, rfl, ho3, hb3⟩
               obtain ⟨A3, k3, hv3, _⟩ := ho3.2
               subst hv3
               have HB3 := Lib.hid (HB2.out.trans (hb3.mono HB2.out.size))
               have HO3 := Lib.hid (HO2.out.below hb3)
               have hcv2 := conv_own HO3.out
               have hcv3 := conv_own ho3
               clear hb3 ho3))
          clear hcv2 hcv3
          have c1 := fun q => CB.out _ (HB3.out.trans ((drewN_below w3 q).mono HB3.out.size))
          have c2 := fun q => CT.out _ (HB3.out.trans ((drewN_below w3 q).mono HB3.out.size))
          have he := HE.out
          go_quiet (fail)
          clear c1 c2
          have c1 := CB.out (w3.drewN nq) (HB3.out.trans ((drewN_below w3 nq).mono HB3.out.size))
          have c3 := CC.out (w3.drewN nq) (HB3.out.trans ((drewN_below w3 nq).mono HB3.out.size))
          have hle := HLE.out
          have hz := HZ.out
          have hlt := HLT.out
          have c4 := conv_own (HO3.out.below (drewN_below w3 nq))
          have HW := Lib.hid (HB3.out.trans ((drewN_below w3 nq).mono HB3.out.size))
          go_wp2_with (go_at_call 10; refine (AL.out _).mono ?_; rintro e w4 ⟨rfl, hb4⟩; have HY := Lib.hid (HW.out.trans (hb4.mono HW.out.size)); clear hb4)
          go_ret
          exact ⟨rfl, HY.out⟩
      · have hno : ¬ (0 ≤ cmpB c b ∧ ∀ r, nextL b = some r → cmpB c r < 0) := fun h => hp (HIN.out.1 h)
        by_cases hlen : b.length ≤ c.length
        · have hleni : (b.length : Int) ≤ (c.length : Int) := by omega
          have hbc2 : b.length ≤ cap2 := by omega
          obtain ⟨st, hst⟩ := ba_of (c.take b.length)
          have heq : (st.toList == sb.toList) = false := eq_of (by rw [hst, hsb]; exact decide_eq_false fun h => hp (prefix_take.2 ⟨hlen, h⟩))
          have CT := Lib.hid (fun w' (hw : Below w.heap.size w w') => conv_rd (cap := cap2) ((hc.below hw (Nat.le_refl _)).take b.length) (n := b.length) (by rw [List.length_take]; omega) st hst)
          clear hl1
          by_cases hge : 0 ≤ cmpB c b
          · have hless : Op.bytesLess sc.toList sb.toList = false := less_of (by rw [hsc, hsb]; exact decide_eq_false (by omega))
            cases hnx : nextL b with
            | none => exact absurd ⟨hge, fun r h => by rw [hnx] at h; cases h⟩ hno
            | some q =>
              have hz : ((r.length : Int) == 0) = false := by have h0 := next_pos hnx; rw [← hr, hnx, Option.getD_some]; exact beq_false_of_ne (by omega)
              have hlt : Op.bytesLess sc.toList r = false := less_ofL (by rw [hsc]; exact decide_eq_false fun h => hno ⟨hge, fun q2 hq => by rw [hnx] at hq; injection hq with hq; rw [← hr, hnx, Option.getD_some, hq] at h; exact h⟩)
              clear hno
              have HE := Lib.hid heq
              have HLE := Lib.hid hless
              have HZ := Lib.hid hz
              have HLT := Lib.hid hlt
              clear hr h1 h2 hb hc hbc hcc hsb hsc hless hp HIN hst heq hlen hz hlt
              try clear htk
              try clear hge
              try clear hlt0
              try clear hnx
              go_enter Try.func7, Try.ntmps7
              go_wp2_with (first
                | (go_at_call 18; refine (NA.out _ (Below.refl _ _)).mono ?_; rintro e w2 ⟨v2, rfl, ho2, hb2⟩
                   obtain ⟨A2, k2, hv2, _⟩ := ho2.2
                   subst hv2
                   have HB2 := Lib.hid hb2
                   have HO2 := Lib.hid ho2
                   clear hb2 ho2)
                | (go_at_call 19; refine (NB.out _ HB2.out).mono ?_; rintro e w3 ⟨v3, rfl, ho3, hb3⟩
                   obtain ⟨A3, k3, hv3, _⟩ := ho3.2
                   subst hv3
                   have HB3 := Lib.hid (HB2.out.trans (hb3.mono HB2.out.size))
                   have HO3 := Lib.hid (HO2.out.below hb3)
                   have hcv2 := conv_own HO3.out
                   have hcv3 := conv_own ho3
                   clear hb3 ho3))
              clear hcv2 hcv3
              have c1 := fun q => CB.out _ (HB3.out.trans ((drewN_below w3 q).mono HB3.out.size))
              have c2 := fun q => CT.out _ (HB3.out.trans ((drewN_below w3 q).mono HB3.out.size))
              have he := HE.out
              go_quiet (fail)
              clear c1 c2
              have c1 := CB.out (w3.drewN nq) (HB3.out.trans ((drewN_below w3 nq).mono HB3.out.size))
              have c3 := CC.out (w3.drewN nq) (HB3.out.trans ((drewN_below w3 nq).mono HB3.out.size))
              have hle := HLE.out
              have hz := HZ.out
              have hlt := HLT.out
              have c4 := conv_own (HO3.out.below (drewN_below w3 nq))
              have HW := Lib.hid (HB3.out.trans ((drewN_below w3 nq).mono HB3.out.size))
              go_wp2_with (go_at_call 10; refine (AL.out _).mono ?_; rintro e w4 ⟨rfl, hb4⟩; have HY := Lib.hid (HW.out.trans (hb4.mono HW.out.size)); clear hb4)
              go_ret
              exact ⟨rfl, HY.out⟩
          · have hless : Op.bytesLess sc.toList sb.toList = true := less_of (by rw [hsc, hsb]; exact decide_eq_true (by omega))
            clear hno
            have HE := Lib.hid heq
            have HLE := Lib.hid hless
            clear hr h1 h2 hb hc hbc hcc hsb hsc hless hp HIN hst heq hlen
            try clear htk
            try clear hge
            try clear hlt0
            try clear hnx
            go_enter Try.func7, Try.ntmps7
            go_wp2_with (first
              | (go_at_call 18; refine (NA.out _ (Below.refl _ _)).mono ?_; rintro e w2 ⟨v2, rfl, ho2, hb2⟩
                 obtain ⟨A2, k2, hv2, _⟩ := ho2.2
                 subst hv2
                 have HB2 := Lib.hid hb2
                 have HO2 := Lib.hid ho2
                 clear hb2 ho2)
              | (go_at_call 19; refine (NB.out _ HB2.out).mono ?_; rintro e w3 ⟨v3, rfl, ho3, hb3⟩
                 obtain ⟨A3, k3, hv3, _⟩ := ho3.2
                 subst hv3
                 have HB3 := Lib.hid (HB2.out.trans (hb3.mono HB2.out.size))
                 have HO3 := Lib.hid (HO2.out.below hb3)
                 have hcv2 := conv_own HO3.out
                 have hcv3 := conv_own ho3
                 clear hb3 ho3))
            clear hcv2 hcv3
            have c1 := fun q => CB.out _ (HB3.out.trans ((drewN_below w3 q).mono HB3.out.size))
            have c2 := fun q => CT.out _ (HB3.out.trans ((drewN_below w3 q).mono HB3.out.size))
            have he := HE.out
            go_quiet (fail)
            clear c1 c2
            have c1 := CB.out (w3.drewN nq) (HB3.out.trans ((drewN_below w3 nq).mono HB3.out.size))
            have c3 := CC.out (w3.drewN nq) (HB3.out.trans ((drewN_below w3 nq).mono HB3.out.size))
            have hle := HLE.out
            have HW := Lib.hid (HB3.out.trans ((drewN_below w3 nq).mono HB3.out.size))
            go_wp2_with (go_at_call 10; refine (AL.out _).mono ?_; rintro e w4 ⟨rfl, hb4⟩; have HY := Lib.hid (HW.out.trans (hb4.mono HW.out.size)); clear hb4)
            go_ret
            exact ⟨rfl, HY.out⟩
        · clear hl1
          by_cases hge : 0 ≤ cmpB c b
          · have hless : Op.bytesLess sc.toList sb.toList = false := less_of (by rw [hsc, hsb]; exact decide_eq_false (by omega))
            cases hnx : nextL b with
            | none => exact absurd ⟨hge, fun r h => by rw [hnx] at h; cases h⟩ hno
            | some q =>
              have hz : ((r.length : Int) == 0) = false := by have h0 := next_pos hnx; rw [← hr, hnx, Option.getD_some]; exact beq_false_of_ne (by omega)
              have hlt : Op.bytesLess sc.toList r = false := less_ofL (by rw [hsc]; exact decide_eq_false fun h => hno ⟨hge, fun q2 hq => by rw [hnx] at hq; injection hq with hq; rw [← hr, hnx, Option.getD_some, hq] at h; exact h⟩)
              clear hno
              have hnle : decide (b.length ≤ c.length) = false := decide_eq_false hlen
              have HLE := Lib.hid hless
              have HZ := Lib.hid hz
              have HLT := Lib.hid hlt
              clear hr h1 h2 hb hc hbc hcc hsb hsc hless hp HIN hlen hz hlt
              try clear hge
              try clear hlt0
              try clear hnx
              go_enter Try.func7, Try.ntmps7
              go_wp2_with (first
                | (go_at_call 18; refine (NA.out _ (Below.refl _ _)).mono ?_; rintro e w2 ⟨v2, rfl, ho2, hb2⟩
                   obtain ⟨A2, k2, hv2, _⟩ := ho2.2
                   subst hv2
                   have HB2 := Lib.hid hb2
                   have HO2 := Lib.hid ho2
                   clear hb2 ho2)
                | (go_at_call 19; refine (NB.out _ HB2.out).mono ?_; rintro e w3 ⟨v3, rfl, ho3, hb3⟩
                   obtain ⟨A3, k3, hv3, _⟩ := ho3.2
                   subst hv3
                   have HB3 := Lib.hid (HB2.out.trans (hb3.mono HB2.out.size))
                   have HO3 := Lib.hid (HO2.out.below hb3)
                   have hcv2 := conv_own HO3.out
                   have hcv3 := conv_own ho3
                   clear hb3 ho3))
              clear hcv2 hcv3
              go_quiet (fail)
              have c1 := CB.out (w3.drewN nq) (HB3.out.trans ((drewN_below w3 nq).mono HB3.out.size))
              have c3 := CC.out (w3.drewN nq) (HB3.out.trans ((drewN_below w3 nq).mono HB3.out.size))
              have hle := HLE.out
              have hz := HZ.out
              have hlt := HLT.out
              have c4 := conv_own (HO3.out.below (drewN_below w3 nq))
              have HW := Lib.hid (HB3.out.trans ((drewN_below w3 nq).mono HB3.out.size))
              go_wp2_with (go_at_call 10; refine (AL.out _).mono ?_; rintro e w4 ⟨rfl, hb4⟩; have HY := Lib.hid (HW.out.trans (hb4.mono HW.out.size)); clear hb4)
              go_ret
              exact ⟨rfl, HY.out⟩
          · have hless : Op.bytesLess sc.toList sb.toList = true := less_of (by rw [hsc, hsb]; exact decide_eq_true (by omega))
            clear hno
            have hnle : decide (b.length ≤ c.length) = false := decide_eq_false hlen
            have HLE := Lib.hid hless
            clear hr h1 h2 hb hc hbc hcc hsb hsc hless hp HIN hlen
            try clear hge
            try clear hlt0
            try clear hnx
            go_enter Try.func7, Try.ntmps7
            go_wp2_with (first
              | (go_at_call 18; refine (NA.out _ (Below.refl _ _)).mono ?_; rintro e w2 ⟨v2, rfl, ho2, hb2⟩
                 obtain ⟨A2, k2, hv2, _⟩ := ho2.2
                 subst hv2
                 have HB2 := Lib.hid hb2
                 have HO2 := Lib.hid ho2
                 clear hb2 ho2)
              | (go_at_call 19; refine (NB.out _ HB2.out).mono ?_; rintro e w3 ⟨v3, rfl, ho3, hb3⟩
                 obtain ⟨A3, k3, hv3, _⟩ := ho3.2
                 subst hv3
                 have HB3 := Lib.hid (HB2.out.trans (hb3.mono HB2.out.size))
                 have HO3 := Lib.hid (HO2.out.below hb3)
                 have hcv2 := conv_own HO3.out
                 have hcv3 := conv_own ho3
                 clear hb3 ho3))
            clear hcv2 hcv3
            go_quiet (fail)
            have c1 := CB.out (w3.drewN nq) (HB3.out.trans ((drewN_below w3 nq).mono HB3.out.size))
            have c3 := CC.out (w3.drewN nq) (HB3.out.trans ((drewN_below w3 nq).mono HB3.out.size))
            have hle := HLE.out
            have HW := Lib.hid (HB3.out.trans ((drewN_below w3 nq).mono HB3.out.size))
            go_wp2_with (go_at_call 10; refine (AL.out _).mono ?_; rintro e w4 ⟨rfl, hb4⟩; have HY := Lib.hid (HW.out.trans (hb4.mono HW.out.size)); clear hb4)
            go_ret
            exact ⟨rfl, HY.out⟩
    · have h1i : ¬ (500 : Int) < (b.length : Int) := by omega
      have h2i : (500 : Int) < (c.length : Int) := by omega
      clear h1 h2 hb hc hbc hcc
      go_enter Try.func7, Try.ntmps7
      go_wp2_with (go_at_call 10; refine (AL.out _).mono ?_; rintro e w2 ⟨rfl, hb⟩)
      go_ret
      exact ⟨rfl, hb⟩
  · have h1i : (500 : Int) < (b.length : Int) := by omega
    clear h1 hb hc hbc hcc
    go_enter Try.func7, Try.ntmps7
    go_wp2_with (go_at_call 10; refine (AL.out _).mono ?_; rintro e w2 ⟨rfl, hb⟩)
    go_ret
    exact ⟨rfl, hb⟩
end Go.Proofs.Ytaokblhflhlhiaa

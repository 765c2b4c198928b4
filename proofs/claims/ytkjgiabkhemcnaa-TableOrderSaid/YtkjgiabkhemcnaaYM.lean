/- TableOrder: the law's own body answers true. -/
import Derived.Test.YtkjgiabkhemcnaaYI
import Derived.Deep.QuietTactic
namespace Go.Proofs.Ytkjgiabkhemcnaa
open Go.RowKit


/-- does an entry lie in a range -/
def inK (f t : List UInt8) (x : List UInt8 × List UInt8) : Bool := decide (0 ≤ cmpB x.1 f) && (t.isEmpty || decide (cmpB x.1 t < 0))
def rangeK (f t : List UInt8) (L : List (List UInt8 × List UInt8)) : List (List UInt8 × List UInt8) := L.filter (inK f t)
theorem rangeK_len (f t : List UInt8) (L : List (List UInt8 × List UInt8)) : (rangeK f t L).length ≤ L.length := List.length_filter_le _ _
theorem kv_range (f t : List UInt8) (L : List Ent) : kv (rangeL f t L) = rangeK f t (kv L) := by
  unfold kv rangeL rangeK; rw [List.filter_map]; rfl
theorem range_150 {w W : World} {G D : Nat → Prop} {q P : Nat} {ps : List Pg} {L : List (List UInt8 × List UInt8)} (h : TaW w W G D q P ps L) (hl : L.length ≤ 150) (f t : List UInt8) : kv ((rangeL f t (flat ps)).take (150 : Int).toNat) = rangeK f t L := by
  have hk := h.kv
  rw [show (150 : Int).toNat = 150 from rfl, kv_take_all (by have h1 := congrArg List.length hk; simp only [kv, List.length_map] at h1; exact Nat.le_trans (range_le _ _ _) (by omega)), kv_range, hk]
theorem mid_ne {m : List UInt8} (h : m ≠ []) : m.isEmpty = false := by
  cases m with
  | nil => exact absurd rfl h
  | cons a b => rfl
theorem rise_all {f : List UInt8} {x : List UInt8 × List UInt8} {L : List (List UInt8 × List UInt8)} (h : ∀ y ∈ L, cmpB x.1 y.1 < 0) (hx : 0 ≤ cmpB x.1 f) : ∀ y ∈ x :: L, 0 ≤ cmpB y.1 f := fun y hy => by
  rw [List.mem_cons] at hy
  rcases hy with rfl | hy
  · exact hx
  · exact Int.le_of_lt (cmpB_up (h y hy) hx)
theorem rangeK_nil {f : List UInt8} {L : List (List UInt8 × List UInt8)} (h : ∀ y ∈ L, 0 ≤ cmpB y.1 f) : rangeK f [] L = L := List.filter_eq_self.2 fun y hy => by
  unfold inK; rw [decide_eq_true (h y hy)]; rfl
theorem join_range {f m : List UInt8} (hfm : cmpB f m ≤ 0) (hm : m ≠ []) : ∀ {L : List (List UInt8 × List UInt8)}, (L.Pairwise fun a b => cmpB a.1 b.1 < 0) → rangeK f m L ++ rangeK m [] L = rangeK f [] L
  | [], _ => rfl
  | x :: L, h => by
    obtain ⟨h1, h2⟩ := List.pairwise_cons.1 h
    have ih := join_range hfm hm h2
    have hme := mid_ne hm
    by_cases hx : cmpB x.1 m < 0
    · have e1 : inK m [] x = false := by unfold inK; rw [decide_eq_false (by omega)]; rfl
      have e2 : inK f m x = inK f [] x := by unfold inK; rw [hme, decide_eq_true hx]; rfl
      unfold rangeK at ih ⊢
      rw [List.filter_cons, List.filter_cons, List.filter_cons, e1, e2]
      cases inK f [] x
      · exact ih
      · simp only [if_true, List.cons_append]
        exact congrArg _ ih
    · have hall := rise_all h1 (by omega : 0 ≤ cmpB x.1 m)
      have hallf : ∀ y ∈ x :: L, 0 ≤ cmpB y.1 f := fun y hy => by
        have h3 := hall y hy
        have h4 := cmpB_neg y.1 m
        have h5 := line_cmpB.tr f m y.1 hfm (by omega)
        have h6 := cmpB_neg y.1 f
        omega
      have a1 : rangeK f m (x :: L) = [] := List.filter_eq_nil_iff.2 fun y hy => by
        have h3 := hall y hy
        unfold inK; rw [hme, decide_eq_false (by omega : ¬ cmpB y.1 m < 0)]; simp
      rw [a1, rangeK_nil hall, rangeK_nil hallf]; rfl
theorem range_tail {f : List UInt8} : ∀ {L : List (List UInt8 × List UInt8)}, (L.Pairwise fun a b => cmpB a.1 b.1 < 0) → ∃ k, k ≤ L.length ∧ rangeK f [] L = L.drop k ∧ ∀ (i : Nat) (x : List UInt8 × List UInt8), L[i]? = some x → decide (cmpB x.1 f < 0) = decide (i < k)
  | [], _ => ⟨0, Nat.le_refl _, rfl, fun i x h => by simp at h⟩
  | x :: L, h => by
    obtain ⟨h1, h2⟩ := List.pairwise_cons.1 h
    by_cases hx : cmpB x.1 f < 0
    · obtain ⟨k, hk, he, hi⟩ := range_tail (f := f) h2
      refine ⟨k + 1, by simp; omega, ?_, fun i y hy => ?_⟩
      · unfold rangeK at he ⊢
        rw [List.filter_cons, if_neg (by unfold inK; rw [decide_eq_false (by omega)]; simp), he, List.drop_succ_cons]
      · cases i with
        | zero => simp at hy; subst hy; simp [hx]
        | succ i =>
          have := hi i y (by simpa using hy)
          rw [this]; simp
    · have hall := rise_all h1 (by omega : 0 ≤ cmpB x.1 f)
      refine ⟨0, Nat.zero_le _, by rw [rangeK_nil hall]; rfl, fun i y hy => ?_⟩
      have := hall y (List.mem_of_getElem? hy)
      rw [decide_eq_false (by omega), decide_eq_false (by omega)]
theorem rangeK_all (L : List (List UInt8 × List UInt8)) : rangeK [] [] L = L := rangeK_nil fun y _ => by
  cases y.1 <;> simp [cmpB]
theorem TaW.pair {w0 W : World} {G D : Nat → Prop} {q P : Nat} {ps : List Pg} {l : List (List UInt8 × List UInt8)} (h : TaW w0 W G D q P ps l) : l.Pairwise fun a b => cmpB a.1 b.1 < 0 := by
  have := rise_pair h.tb.rise
  rwa [h.kv] at this
theorem pair_at {L : List (List UInt8 × List UInt8)} (h : L.Pairwise fun a b => cmpB a.1 b.1 < 0) {i : Nat} {x y : List UInt8 × List UInt8} (hx : L[i]? = some x) (hy : L[i + 1]? = some y) : cmpB x.1 y.1 < 0 := by
  obtain ⟨h1, h1'⟩ := List.getElem?_eq_some_iff.1 hx
  obtain ⟨h2, h2'⟩ := List.getElem?_eq_some_iff.1 hy
  have := List.pairwise_iff_getElem.1 h i (i + 1) h1 h2 (by omega)
  rw [h1', h2'] at this
  exact this
/-- a row's tail -/
theorem RdS.drop {w : World} {B : Nat} {A A' : Option Addr} {l : List (List UInt8 × List UInt8)} {k : Nat} (h : RdS w B A l) (hA : k < l.length → A' = A.map fun x => x.add (k * 2)) : RdS w B A' (l.drop k) := fun hn => by
  have hk : k < l.length := by
    rcases Nat.lt_or_ge k l.length with h1 | h1
    · exact h1
    · exact absurd (List.drop_eq_nil_of_le h1) hn
  obtain ⟨b, o, e, hb, hc⟩ := h (fun e => by rw [e] at hk; simp at hk)
  subst e
  refine ⟨b, o + k * 2, by rw [hA hk]; simp only [Option.map_some, Addr.add_lit], hb, fun j x hj => ?_⟩
  rw [List.getElem?_drop] at hj
  have := hc (k + j) x hj
  rwa [show o + k * 2 + j * 2 = o + (k + j) * 2 by omega]
/-- append of entries, whatever the source -/
theorem run_appendSs {w : World} (t ty : TypeId) {B : Nat} (ht : Try.prog.underlying t = some (.slice 34))
    {v : Value} {xs : List (List UInt8 × List UInt8)} (hown : OwnS w B v xs) {A : Option Addr} {C c : Nat} {ys : List (List UInt8 × List UInt8)} (hr : RdS w C A ys) (h63 : xs.length + ys.length ≤ 100000) (hbase : B ≤ w.heap.size) :
    ∃ v' w', (Builtin.append_ #[t, t] ty #[v, .slice A ys.length c]).run Try.prog w = .ok v' w' ∧ OwnS w' B v' (xs ++ ys) ∧ Grew w v w' v' := by
  obtain ⟨i0, hi, hz, hs, hb⟩ := info_parts infoS
  rcases A with _ | ad
  · have hy : ys = [] := by
      rcases ys with _ | ⟨y, ys⟩
      · rfl
      · obtain ⟨_, _, h, _⟩ := hr (by simp); cases h
    subst hy
    have hrun : (Builtin.append_ #[t, t] ty #[v, .slice none 0 c]).run Try.prog w = .ok v w := by
      rcases hown.1.2 with ⟨rfl, _⟩ | ⟨g, cap, cur, rfl, _, _, hnc, _⟩
      · simp [Builtin.append_, run_underlying ht, sizeOf, typeInfo, hi, Builtin.lenOf, Builtin.firstCells]
      · simp [Builtin.append_, run_underlying ht, sizeOf, typeInfo, hi, Builtin.lenOf, Builtin.firstCells, hnc, storeCells]
    exact ⟨v, w, hrun, by simpa using hown, Grew.refl w v⟩
  · have hcells : ∀ j u, (strS ys)[j]? = some u → w.cell? (ad.add j) = some u := by
      intro j u hu
      have hn : ys ≠ [] := fun e => by subst e; simp [strS] at hu
      obtain ⟨b, o, h, _, hc⟩ := hr hn
      injection h with h
      subst h
      have hjl : j < ys.length * 2 := by rw [← strS_len]; exact (List.getElem?_eq_some_iff.1 hu).1
      obtain ⟨x, hx⟩ : ∃ x, ys[j / 2]? = some x := ⟨_, List.getElem?_eq_getElem (by omega)⟩
      obtain ⟨s1, s2⟩ := strS_at hx
      obtain ⟨c1, c2⟩ := hc _ _ hx
      rw [Addr.add_lit]
      rcases Nat.mod_two_eq_zero_or_one j with h0 | h0
      · have e : j / 2 * 2 = j := by omega
        rw [e] at s1 c1
        rw [s1] at hu
        injection hu with hu
        rw [← hu]; exact c1
      · have e : j / 2 * 2 + 1 = j := by omega
        rw [e] at s2
        rw [s2] at hu
        injection hu with hu
        rw [← hu, show o + j = o + j / 2 * 2 + 1 by omega]; exact c2
    obtain ⟨v', w', hrun, h2, h3, _, h5⟩ := run_append_own_at (P := Try.prog) w B t ty 34 i0 (.agg #[.string ⟨#[]⟩, .string ⟨#[]⟩]) 2 32 ht hi hz hs hb rfl (by omega) v xs.length (strS xs) hown.1 ad ys.length c (strS ys) (strS_len ys) hcells (strS_one ys) (by unfold maxLen; omega) (by omega) hbase
    rw [← strS_app] at h2
    exact ⟨v', w', hrun, OwnS.of_row h2, grew_of h3 h5⟩
theorem wpList_appS {w : World} {ops : Array Oper} {rest : List Oper} {o : Oper} {a : Act} {Q : Exit → Act → World → Prop} (hgd : o.guard = none) (s x : Operand) (t : TypeId) (ho : o.op = .call { callee := .builtin .append, args := #[s, x], argTypes := #[t, t] })
    {B : Nat} (ht : Try.prog.underlying t = some (.slice 34))
    {v : Value} {xs : List (List UInt8 × List UInt8)} (hv : a.eval s = v) (hown : OwnS w B v xs) {A : Option Addr} {C c n : Nat} {ys : List (List UInt8 × List UInt8)} (hx : a.eval x = .slice A n c) (hn : ys.length = n) (hr : RdS w C A ys) (h63 : xs.length + ys.length ≤ 100000) (hbase : B ≤ w.heap.size)
    (h : ∀ v' w', OwnS w' B v' (xs ++ ys) → Grew w v w' v' → wpList Try.prog ops Q rest (a.put o.dst v') w') : wpList Try.prog ops Q (o :: rest) a w := by
  refine wpList_plain hgd fun _ hK => ?_
  subst hn
  obtain ⟨v', w', hrun, h2, h3⟩ := run_appendSs t o.type ht hown (c := c) hr h63 hbase
  unfold Oper.wp execOp
  simp only [ho, resolve, invoke, builtin, Sem.run_bind, Sem.run_pure, Result.andThen_ok, List.map_toArray, List.map_cons, List.map_nil, hv, hx, hrun]
  exact hK _ _ (h v' w' h2 h3)
theorem grownB {w w1 : World} {g B : Nat} (h : w.grownBy w1 (some g)) (hB : B ≤ g) (hw : B ≤ w.heap.size) : Below B w w1 :=
  ⟨h.os, h.tape, h.output, h.size, fun b hb => h.block b (by omega) (fun e => by injection e with e; omega)⟩
theorem OwnS.empty_at (w : World) {g : Nat} (hg : g = w.heap.size) : OwnS (w.alloc (.cells #[] 34)) g (.slice (some ⟨g, 0, none⟩) 0 0) [] := by
  subst hg
  exact ⟨⟨rfl, .inr ⟨_, 0, #[], rfl, Nat.le_refl _, heap_alloc_new w _, Nat.le_refl _, by unfold maxLen; omega, rfl, rfl⟩⟩, _, _, rfl, Nat.le_refl _⟩

theorem less_sB {a b : List UInt8} {x : Bool} (h : decide (cmpB a b < 0) = x) : Op.bytesLess (sB a).toList (sB b).toList = x := by
  rw [less_eq, ByteArray.toList_eq, ByteArray.toList_eq, sB_list, sB_list]; exact h
set_option maxRecDepth 100000 in
set_option maxHeartbeats 16000000 in
theorem tableOrder_law (l : List Act8) (f m : List UInt8) (A F M : Option Addr) (cap fc mc : Nat) (w : World) (hl : l.length ≤ maxLen) (hf : f.length ≤ maxLen) (hm : m.length ≤ maxLen) (hr : RdA8 w w.heap.size A l) (hok : ∀ x ∈ l, x.ok w w.heap.size) (hrf : RdB w w.heap.size F f) (hrm : RdB w w.heap.size M m) :
    Calls Try.prog 4 #[.slice A l.length cap, .slice F f.length fc, .slice M m.length mc] w (Ans (.bool true) w) := by
  have AL := Lib.hid alive_table
  obtain ⟨ln, hln⟩ : ∃ n, l.length = n := ⟨_, rfl⟩
  obtain ⟨fn, hfn⟩ : ∃ n, f.length = n := ⟨_, rfl⟩
  obtain ⟨mn, hmn⟩ : ∃ n, m.length = n := ⟨_, rfl⟩
  have HBU := Lib.hid (built_any l A ln cap w hln (by omega) hr hok)
  rw [hln, hfn, hmn]
  rw [hfn] at hf
  rw [hmn] at hm
  have hfi : (fn : Int) ≤ 9223372036854775807 := by unfold maxLen at hf; omega
  have hmi : (mn : Int) ≤ 9223372036854775807 := by unfold maxLen at hm; omega
  have cvF := conv_rd (cap := fc) hrf hfn (sB f) (sB_list f)
  have cvM := conv_rd (cap := mc) hrm hmn (sB m) (sB_list m)
  have HRF : Hid (∀ W, Below w.heap.size w W → RdB W W.heap.size F f) := Lib.hid fun W hb => (hrf.below hb (Nat.le_refl _)).more hb.size
  have HRM : Hid (∀ W, Below w.heap.size w W → RdB W W.heap.size M m) := Lib.hid fun W hb => (hrm.below hb (Nat.le_refl _)).more hb.size
  have HFN := Lib.hid hfn
  have HMN := Lib.hid hmn
  have HM0 : Hid (mn ≠ 0 → m ≠ []) := Lib.hid fun h e => h (by rw [← hmn, e]; rfl)
  obtain ⟨L, hL⟩ : ∃ L, L = bldTo l (min l.length 150) := ⟨_, rfl⟩
  have hL150 : L.length ≤ 150 := by rw [hL]; exact Nat.le_trans (bldTo_len _ _) (Nat.min_le_right _ _)
  have HL := Lib.hid hL
  have HL150 := Lib.hid hL150
  clear hl hf hm hr hok hrf hrm hfn hmn hln hL hL150
  by_cases hA : (40 : Int) < (fn : Int) ∨ (¬ (40 : Int) < (fn : Int) ∧ (40 : Int) < (mn : Int)) ∨ (¬ (40 : Int) < (fn : Int) ∧ ¬ (40 : Int) < (mn : Int) ∧ ((mn : Int) == 0) = true) ∨ (¬ (40 : Int) < (fn : Int) ∧ ¬ (40 : Int) < (mn : Int) ∧ ((mn : Int) == 0) = false ∧ (!Op.bytesLess (sB f).toList (sB m).toList && !(sB f).toList == (sB m).toList) = true)
  · clear HBU HL HRF HRM
    rcases hA with h1 | ⟨h1, h2⟩ | ⟨h1, h2, h3⟩ | ⟨h1, h2, h3, h4⟩
    all_goals
      go_enter Try.func4, Try.ntmps4
      go_wp2_with (go_at_call 9; refine (AL.out _).mono ?_; rintro e w22 ⟨rfl, hb⟩; have HB22 := Lib.hid hb; clear hb)
      go_ret
      exact ⟨rfl, HB22.out⟩
  have h1 : ¬ (40 : Int) < (fn : Int) := fun h => hA (.inl h)
  have h2 : ¬ (40 : Int) < (mn : Int) := fun h => hA (.inr (.inl ⟨h1, h⟩))
  have h3 : ((mn : Int) == 0) = false := by
    cases h : ((mn : Int) == 0)
    · rfl
    · exact absurd (.inr (.inr (.inl ⟨h1, h2, h⟩))) hA
  have h4 : (!Op.bytesLess (sB f).toList (sB m).toList && !(sB f).toList == (sB m).toList) = false := by
    cases h : (!Op.bytesLess (sB f).toList (sB m).toList && !(sB f).toList == (sB m).toList)
    · rfl
    · exact absurd (.inr (.inr (.inr ⟨h1, h2, h3, h⟩))) hA
  have hmne : m ≠ [] := HM0.out (by have h := ne_of_beq_false h3; omega)
  have hfm : cmpB f m ≤ 0 := by
    rcases cmpB_3 f m with h | h | h
    · omega
    · omega
    · have h5 : Op.bytesLess (sB f).toList (sB m).toList = false := less_sB (decide_eq_false (by omega))
      have h6 : ((sB f).toList == (sB m).toList) = false := by
        rw [ByteArray.toList_eq, ByteArray.toList_eq, sB_list, sB_list]
        exact beq_false_of_ne (fun e => by rw [e, cmpB_self] at h; omega)
      rw [h5, h6] at h4
      cases h4
  clear hA HM0
  obtain ⟨n, hn⟩ : ∃ n, L.length = n := ⟨_, rfl⟩
  rw [hn] at HL150
  have HN := Lib.hid hn
  obtain ⟨Ra, hRa⟩ : ∃ R, R = rangeK f m L := ⟨_, rfl⟩
  obtain ⟨Rb, hRb⟩ : ∃ R, R = rangeK m [] L := ⟨_, rfl⟩
  obtain ⟨Rc, hRc⟩ : ∃ R, R = rangeK f [] L := ⟨_, rfl⟩
  obtain ⟨na, hna⟩ : ∃ n, Ra.length = n := ⟨_, rfl⟩
  obtain ⟨nb, hnb⟩ : ∃ n, Rb.length = n := ⟨_, rfl⟩
  obtain ⟨nc, hnc⟩ : ∃ n, Rc.length = n := ⟨_, rfl⟩
  have HLE : Hid (na ≤ 150 ∧ nb ≤ 150 ∧ nc ≤ n) := Lib.hid ⟨by rw [← hna, hRa]; exact Nat.le_trans (rangeK_len _ _ _) (by rw [hn]; exact HL150.out), by rw [← hnb, hRb]; exact Nat.le_trans (rangeK_len _ _ _) (by rw [hn]; exact HL150.out), by rw [← hnc, hRc, ← hn]; exact rangeK_len _ _ _⟩
  have HNA := Lib.hid hna
  have HNB := Lib.hid hnb
  have HNC := Lib.hid hnc
  have HJ : Hid ((L.Pairwise fun a b => cmpB a.1 b.1 < 0) → Ra ++ Rb = Rc) := Lib.hid fun h => by rw [hRa, hRb, hRc]; exact join_range hfm hmne h
  have HTL : Hid ((L.Pairwise fun a b => cmpB a.1 b.1 < 0) → ∃ k, k + nc = n ∧ L.drop k = Rc ∧ ∀ (i : Nat) (x : List UInt8 × List UInt8), L[i]? = some x → decide (cmpB x.1 f < 0) = decide (i < k)) := Lib.hid fun h => by
    obtain ⟨k, hk, he, hi⟩ := range_tail (f := f) h
    refine ⟨k, ?_, by rw [hRc]; exact he.symm, hi⟩
    have := congrArg List.length he
    rw [← hRc, hnc, List.length_drop, hn] at this
    omega
  have HRA : Hid (∀ {W G D q P ps}, TaW w W G D q P ps L → Calls Try.prog 17 #[.pointer (some ⟨q, 0, none⟩), .slice F fn fc, .slice M mn mc, .int .i64 150] W (RgL W Ra)) := Lib.hid fun h => by
    have h5 := range_any h.tb F M f m fn fc mn mc 150 HFN.out HMN.out (HRF.out _ h.bel) (HRM.out _ h.bel)
    rw [range_150 h (by rw [hn]; exact HL150.out), ← hRa] at h5
    exact range_l h5
  have HRB : Hid (∀ {W G D q P ps}, TaW w W G D q P ps L → Calls Try.prog 17 #[.pointer (some ⟨q, 0, none⟩), .slice M mn mc, .slice none 0 0, .int .i64 150] W (RgL W Rb)) := Lib.hid fun h => by
    have h5 := range_any h.tb M none m [] mn mc 0 0 150 HMN.out rfl (HRM.out _ h.bel) (fun hn => absurd rfl hn)
    rw [range_150 h (by rw [hn]; exact HL150.out), ← hRb] at h5
    exact range_l h5
  have HRC : Hid (∀ {W G D q P ps}, TaW w W G D q P ps L → Calls Try.prog 17 #[.pointer (some ⟨q, 0, none⟩), .slice F fn fc, .slice none 0 0, .int .i64 150] W (RgL W Rc)) := Lib.hid fun h => by
    have h5 := range_any h.tb F none f [] fn fc 0 0 150 HFN.out rfl (HRF.out _ h.bel) (fun hn => absurd rfl hn)
    rw [range_150 h (by rw [hn]; exact HL150.out), ← hRc] at h5
    exact range_l h5
  have HRD : Hid (∀ {W G D q P ps}, TaW w W G D q P ps L → Calls Try.prog 17 #[.pointer (some ⟨q, 0, none⟩), .slice none 0 0, .slice none 0 0, .int .i64 150] W (RgL W L)) := Lib.hid fun h => by
    have h5 := range_any h.tb none none [] [] 0 0 0 0 150 rfl rfl (fun hn => absurd rfl hn) (fun hn => absurd rfl hn)
    rw [range_150 h (by rw [hn]; exact HL150.out), rangeK_all] at h5
    exact range_l h5
  clear hfm hmne hn hna hnb hnc hRa hRb hRc
  go_enter Try.func4, Try.ntmps4
  go_upto_region 8 with (first
    | (go_at_call 23; refine HBU.out.mono ?_; rintro e w1 ⟨rfl, G0, D0, P0, ps0, hT0⟩
       rw [← HL.out] at hT0
       have HT1 := Lib.hid hT0
       clear hT0)
    | (go_at_call 17; (with_reducible refine (HRA.out HT1.out).mono ?_); rintro e w2 ⟨A2, c2, es2, rfl, _, hrl, hkv, hb⟩
       rw [HNA.out]
       have HRL2 := Lib.hid hrl
       have HKV2 := Lib.hid hkv
       have HES2 : Hid (es2.length = na) := Lib.hid (by have h9 := congrArg List.length hkv; rw [HNA.out] at h9; simpa [kv] using h9)
       have HT2 := Lib.hid (HT1.out.below hb)
       have HB2 := Lib.hid hb
       clear hrl hkv hb)
    | (go_at_call 19; (with_reducible refine (told_any es2 A2 na c2 HES2.out (Nat.le_trans (HLE.out.1) (by decide)) _ HRL2.out).mono ?_); rintro e w3 ⟨v3, rfl, ho, hb⟩
       obtain ⟨X3, c3, rfl, _⟩ := ho.2
       rw [HKV2.out] at ho ⊢
       rw [HNA.out] at ho ⊢
       have HOA := Lib.hid ho
       have HT3 := Lib.hid (HT2.out.below hb)
       have HB3 := Lib.hid hb
       clear ho hb)
    | (go_at_call 17; (with_reducible refine (HRB.out HT3.out).mono ?_); rintro e w4 ⟨A4, c4, es4, rfl, _, hrl, hkv, hb⟩
       rw [HNB.out]
       have HRL4 := Lib.hid hrl
       have HKV4 := Lib.hid hkv
       have HES4 : Hid (es4.length = nb) := Lib.hid (by have h9 := congrArg List.length hkv; rw [HNB.out] at h9; simpa [kv] using h9)
       have HT4 := Lib.hid (HT3.out.below hb)
       have HB4 := Lib.hid hb
       clear hrl hkv hb)
    | (go_at_call 19; (with_reducible refine (told_any es4 A4 nb c4 HES4.out (Nat.le_trans (HLE.out.2.1) (by decide)) _ HRL4.out).mono ?_); rintro e w5 ⟨v5, rfl, ho, hb⟩
       obtain ⟨X5, c5, rfl, _⟩ := ho.2
       rw [HKV4.out] at ho ⊢
       rw [HNB.out] at ho ⊢
       have HOB := Lib.hid ho
       have HT5 := Lib.hid (HT4.out.below hb)
       have HB5 := Lib.hid hb
       clear ho hb)
    | (go_at_call 17; (with_reducible refine (HRC.out HT5.out).mono ?_); rintro e w6 ⟨A6, c6, es6, rfl, _, hrl, hkv, hb⟩
       rw [HNC.out]
       have HRL6 := Lib.hid hrl
       have HKV6 := Lib.hid hkv
       have HES6 : Hid (es6.length = nc) := Lib.hid (by have h9 := congrArg List.length hkv; rw [HNC.out] at h9; simpa [kv] using h9)
       have HT6 := Lib.hid (HT5.out.below hb)
       have HB6 := Lib.hid hb
       clear hrl hkv hb)
    | (go_at_call 19; (with_reducible refine (told_any es6 A6 nc c6 HES6.out (Nat.le_trans (Nat.le_trans HLE.out.2.2 HL150.out) (by decide)) _ HRL6.out).mono ?_); rintro e w7 ⟨v7, rfl, ho, hb⟩
       obtain ⟨X7, c7, rfl, _⟩ := ho.2
       rw [HKV6.out] at ho ⊢
       rw [HNC.out] at ho ⊢
       have HOC := Lib.hid ho
       have HT7 := Lib.hid (HT6.out.below hb)
       have HB7 := Lib.hid hb
       clear ho hb)
    | (go_at_call 17; (with_reducible refine (HRD.out HT7.out).mono ?_); rintro e w8 ⟨A8, c8, es8, rfl, _, hrl, hkv, hb⟩
       rw [HN.out]
       have HRL8 := Lib.hid hrl
       have HKV8 := Lib.hid hkv
       have HES8 : Hid (es8.length = n) := Lib.hid (by have h9 := congrArg List.length hkv; rw [HN.out] at h9; simpa [kv] using h9)
       have HT8 := Lib.hid (HT7.out.below hb)
       have HB8 := Lib.hid hb
       clear hrl hkv hb)
    | (go_at_call 19; (with_reducible refine (told_any es8 A8 n c8 HES8.out (Nat.le_trans (HL150.out) (by decide)) _ HRL8.out).mono ?_); rintro e w9 ⟨v9, rfl, ho, hb⟩
       obtain ⟨X9, c9, rfl, _⟩ := ho.2
       rw [HKV8.out] at ho ⊢
       rw [HN.out] at ho ⊢
       have HOD := Lib.hid ho
       have HT9 := Lib.hid (HT8.out.below hb)
       have HB9 := Lib.hid hb
       clear ho hb)
    | fail)
  obtain ⟨k, hk, hdrop, hpl⟩ := HTL.out HT9.out.pair
  have HJJ := Lib.hid (HJ.out HT9.out.pair)
  have HPAIR := Lib.hid HT9.out.pair
  have HDR := Lib.hid hdrop
  have HPL := Lib.hid hpl
  have HB79 := Lib.hid (HB8.out.trans (HB9.out.mono HB8.out.size))
  have HB59 := Lib.hid ((HB6.out.trans (HB7.out.mono HB6.out.size)).trans (HB79.out.mono (HB6.out.trans (HB7.out.mono HB6.out.size)).size))
  have HB39 := Lib.hid ((HB4.out.trans (HB5.out.mono HB4.out.size)).trans (HB59.out.mono (HB4.out.trans (HB5.out.mono HB4.out.size)).size))
  have HSA : Hid (∀ W, Below w9.heap.size w9 W → RdS W W.heap.size X3 Ra) := Lib.hid fun W hb => ((HOA.out.below HB39.out).below hb).rd
  have HSB : Hid (∀ W, Below w9.heap.size w9 W → RdS W W.heap.size X5 Rb) := Lib.hid fun W hb => ((HOB.out.below HB59.out).below hb).rd
  have HSC : Hid (∀ W, Below w9.heap.size w9 W → RdS W W.heap.size X7 Rc) := Lib.hid fun W hb => ((HOC.out.below HB79.out).below hb).rd
  have HSD : Hid (∀ W, Below w9.heap.size w9 W → RdS W W.heap.size X9 L) := Lib.hid fun W hb => (HOD.out.below hb).rd
  have HCP : Hid (n ≤ c9) := Lib.hid (by
    obtain ⟨A', cap', e, h⟩ := HOD.out.2
    injection e with e1 e2 e3
    rw [HN.out] at h
    omega)
  have hkn : (k : Int) ≤ (n : Int) := by omega
  have hkc : (n : Int) ≤ (c9 : Int) := by have := HCP.out; omega
  have hnl : ¬ (n : Int) < (nc : Int) := by omega
  have hn150 : (n : Int) ≤ 150 := by have := HL150.out; omega
  have hsub : IntKind.i64.wrap ((n : Int) - (nc : Int)) = (k : Int) := by rw [IntKind.wrap_i64]; omega
  have hsub2 : (n : Int) - (nc : Int) = (k : Int) := by omega
  have hneq : ((n : Int) != (n : Int)) = false := by simp
  have HK := Lib.hid hk
  clear hk hdrop hpl
  clear HRA HRB HRC HRD HJ HTL HBU HT1 HT2 HT3 HT4 HT5 HT6 HT7 HT8 HB2 HB3 HB4 HB5 HB6 HB7 HB8 HB9 HRL2 HRL4 HRL6 HRL8 HKV2 HKV4 HKV6 HKV8 HES2 HES4 HES6 HES8 HOA HOB HOC
  go_upto_region 9 with (first
    | (refine wpList_appS (xs := Ra) (ys := Rb) rfl _ _ 29 rfl Try.underlying29 rfl HO10.out rfl HNB.out (HSB.out _ HB10.out) (by rw [HNA.out, HNB.out]; have := HLE.out; omega) HB10.out.size ?_
       intro v11 w11 ho11 hg11
       have hb11 := grew_below HB10.out HO10.out.ge hg11
       obtain ⟨X11, c11, rfl, _⟩ := ho11.2
       rw [List.length_append, HNA.out, HNB.out] at ho11 ⊢
       have HO11 := Lib.hid ho11
       have HB11 := Lib.hid hb11
       clear ho11 hg11 hb11)
    | (refine wpList_appS (xs := []) (ys := Ra) rfl _ _ 29 rfl Try.underlying29 rfl (OwnS.empty_at w9 rfl) rfl HNA.out (HSA.out _ (alloc_below w9 _)) (by rw [HNA.out]; have := HLE.out; simp; omega) (by simp) ?_
       intro v10 w10 ho10 hg10
       rw [List.nil_append] at ho10
       have hb10 : Below w9.heap.size w9 w10 := (alloc_below w9 _).trans (grownB hg10.by_ (Nat.le_refl _) (by simp))
       obtain ⟨X10, c10, rfl, _⟩ := ho10.2
       rw [HNA.out] at ho10 ⊢
       have HO10 := Lib.hid ho10
       have HB10 := Lib.hid hb10
       clear ho10 hg10 hb10)
    | (go_at_call 18; refine (sameE_any HO11.out.rd (HSC.out _ HB11.out) (by rw [List.length_append, HNA.out, HNB.out]) HNC.out (by have := HLE.out; omega) (by have := HLE.out; have := HL150.out; omega)).mono ?_; rintro e w12 ⟨rfl, k9, rfl⟩
       rw [decide_eq_true HJJ.out]
       have HB12 := Lib.hid (HB11.out.trans ((drewN_below w11 k9).mono HB11.out.size))
       have HLN : Hid (∀ W, Below w9.heap.size w9 W → Calls Try.prog 21 #[.pointer (some ⟨w.heap.size, 0, none⟩)] W (Looks (.int .i64 (n : Int)) W)) := Lib.hid fun W hb => len_any (HT9.out.below hb).tb n (by rw [(HT9.out.below hb).kv]; exact HN.out.symm))
    | fail)
  go_upto_region 11 with (go_at_call 21; (with_reducible refine (HLN.out _ HB12.out).mono ?_); rintro e w13 ⟨rfl, rfl⟩)
  clear HLN HSA HSB HO10 HO11 HB10
  obtain ⟨AD, hAD⟩ : ∃ AD, (if c9 = k then X9 else Option.map (fun x => x.add (k * 2)) X9) = AD := ⟨_, rfl⟩
  have HAD := Lib.hid hAD
  have HST : Hid (RdS (w11.drewN k9) (w11.drewN k9).heap.size AD (L.drop k)) := Lib.hid ((HSD.out _ HB12.out).drop (fun h => by rw [← HAD.out, if_neg (by have h5 := HCP.out; rw [HN.out] at h; omega)]))
  have hnk : n - k = nc := by have := HK.out; omega
  go_wp2_with (go_at_call 18; refine (sameE_any HST.out (HSC.out _ HB12.out) (by rw [List.length_drop, HN.out]; exact hnk) HNC.out (by have := HLE.out; have := HL150.out; omega) (by have := HLE.out; have := HL150.out; omega)).mono ?_; rintro e w14 ⟨rfl, k10, rfl⟩
               rw [decide_eq_true HDR.out]
               have HB14 : Hid (Below w9.heap.size w9 (w11.drewN (k9 + k10))) := Lib.hid (HB11.out.trans ((drewN_below w11 (k9 + k10)).mono HB11.out.size)))
  clear HAD HST hAD hnk HB12 HB11 HLE HNA HNB HNC HJJ HDR
  go_loopw [14] (fun v14 wr => ∃ i : Nat, v14 = .int .i64 (i : Int) ∧ i ≤ n ∧ Below w9.heap.size w9 wr) (fun v14 _ => n - (intOf v14).toNat)
  case atStart => exact ⟨0, rfl, Nat.zero_le _, HB14.out⟩
  case round =>
    obtain ⟨i, rfl, hi, hb⟩ := hrel
    have HBR := Lib.hid hb
    by_cases hlt : i < n
    · have hlti : (i : Int) < (n : Int) := by omega
      have hi0 : 0 ≤ (i : Int) := by omega
      obtain ⟨x, hx⟩ : ∃ x, L[i]? = some x := ⟨_, List.getElem?_eq_getElem (by rw [HN.out]; exact hlt)⟩
      obtain ⟨b, o, hA, c0, c1⟩ := (HSD.out _ hb).at_ hx
      subst hA
      have HCE : Hid (∀ W, Below w9.heap.size w9 W → ∀ (j : Nat) (y : List UInt8 × List UInt8), L[j]? = some y → W.cell? ⟨b, o + j * 2, none⟩ = some (.string (sB y.1)) ∧ W.cell? ⟨b, o + j * 2 + 1, none⟩ = some (.string (sB y.2))) := Lib.hid fun W hW j y hj => by
        obtain ⟨b', o', hA', d0, d1⟩ := (HSD.out _ hW).at_ hj
        injection hA' with hA'
        injection hA' with e1 e2
        subst e1 e2
        exact ⟨d0, d1⟩
      obtain ⟨W2, cap2, hcv, hcells, hb2, hcap2, _⟩ := conv_bytes (sB x.1) wr
      have hbW2 : Below w9.heap.size w9 W2 := hb.trans (hb2.mono hb.size)
      obtain ⟨sz, hsz⟩ : ∃ sz, (sB x.1).size = sz := ⟨_, rfl⟩
      rw [hsz] at hcv
      have hlen : x.1.length = sz := by rw [← hsz]; simp [sB, ByteArray.size]
      have hrd : RdB W2 W2.heap.size (some ⟨wr.heap.size, 0, none⟩) x.1 := fun hn => by
        have hc0 := fun j c h => hcells j c (by rw [sB_list]; exact h)
        obtain ⟨d, hd⟩ : ∃ d, x.1[0]? = some d := ⟨_, List.getElem?_eq_getElem (List.length_pos_iff.2 hn)⟩
        exact ⟨_, rfl, cell_lt (hc0 0 d hd), fun j c h => by rw [Addr.add_lit, Nat.zero_add]; exact hc0 j c h⟩
      have HG := Lib.hid (get_any (HT9.out.below hbW2).tb x.1 (some ⟨wr.heap.size, 0, none⟩) sz cap2 hlen hrd)
      have hgk : getK (kv (flat ps0)) x.1 = some x.2 := by rw [HT9.out.kv]; exact getK_mem HPAIR.out (List.mem_of_getElem? hx)
      unfold GetT at HG
      simp only [hgk, Option.getD_some, Option.isSome_some] at HG
      have HB2 := Lib.hid hbW2
      have HX := Lib.hid hx
      have hbl : Op.bytesLess (sB x.1).toList (sB f).toList = decide (i < k) := less_sB (HPL.out i x hx)
      obtain ⟨bb, hbb⟩ : ∃ bb, decide (i < k) = bb := ⟨_, rfl⟩
      rw [hbb] at hbl
      have hki : decide ((k : Int) ≤ (i : Int)) = !bb := by
        rw [← hbb]
        by_cases h : i < k
        · rw [decide_eq_true h, decide_eq_false (by omega)]; rfl
        · rw [decide_eq_false h, decide_eq_true (by omega)]; rfl
      have hnn : ((!bb) == (!bb)) = true := by cases bb <;> rfl
      have hwk : IntKind.i64.wrap (k : Int) = (k : Int) := by rw [IntKind.wrap_i64]; omega
      clear hcells hb2 hcap2 hbW2 hlen hrd hgk hx hsz hb hbb
      go_upto_region 16 with (go_at_call 24; refine HG.out.mono ?_; rintro e w20 ⟨v, rfl, ho, hb20⟩
                              have hbw := HB2.out.trans (hb20.mono HB2.out.size)
                              have HB20 := Lib.hid hbw
                              obtain ⟨Av, cv, rfl, _⟩ := id ho.2
                              have HO := Lib.hid ho
                              clear ho hb20 hbw)
      have hbd := HB20.out.trans ((drew_below w20).mono HB20.out.size)
      obtain ⟨rn, hrn⟩ : ∃ rn, x.2.length = rn := ⟨_, rfl⟩
      have HRN := Lib.hid hrn
      rw [hrn]
      have cvr := conv_ownS (HO.out.below (drew_below w20)) (sB x.2) (sB_list _)
      rw [hrn] at cvr
      have cvf := conv_rd (cap := fc) (HRF.out _ (HT9.out.bel.trans (hbd.mono HT9.out.bel.size))) HFN.out (sB f) (sB_list f)
      obtain ⟨d0, d1⟩ := HCE.out _ hbd i x HX.out
      have hsn : ((sB x.2).toList != (sB x.2).toList) = false := by simp
      rcases i with _ | i
      · have hki2 : decide (k = 0) = !bb := by rw [← hki]; exact decide_eq_decide.2 (by omega)
        have hSS : (fun W => W.cell? ⟨b, o, none⟩ = some (.string (sB x.1)) ∧ W.cell? ⟨b, o + 1, none⟩ = some (.string (sB x.2)) ∧ (convert 23 9 (.slice Av rn cv)).run Try.prog W = .ok (.string (sB x.2)) W ∧ (convert 23 9 (.slice F fn fc)).run Try.prog W = .ok (.string (sB f)) W) w20.drew := ⟨by simpa using d0, by simpa using d1, cvr, cvf⟩
        clear d0 d1 cvr cvf hrn HG HO HCE
        refine wp_region_held_drew (S := (fun W => W.cell? ⟨b, o, none⟩ = some (.string (sB x.1)) ∧ W.cell? ⟨b, o + 1, none⟩ = some (.string (sB x.2)) ∧ (convert 23 9 (.slice Av rn cv)).run Try.prog W = .ok (.string (sB x.2)) W ∧ (convert 23 9 (.slice F fn fc)).run Try.prog W = .ok (.string (sB f)) W)) (by kernel_rfl) hSS (fun _ => ?_)
        refine wpAnyH_take (i := 0) (oi := ({ dst := Option.some 105, op := Go.Op.move (Go.Operand.tmp 14), type := 3, pos := "law.go:163", after := #[], guard := Option.none } : Oper)) (v := ?v0x1) rfl (by kernel_rfl) (by kernel_rfl) (by kernel_rfl) (fun _ _ _ h => h) (Or.inl ⟨by rfl, ?hy0x1⟩) hSS ?rest0x1
        case hy0x1 =>
          intro W0 hSw
          obtain ⟨s1, s2, s3, s4⟩ := hSw
          go_simp
          first | done | with_reducible rfl
        try simp only [Act.put, List.setIfInBounds_toArray, List.set_cons_zero, List.set_cons_succ]
        refine wpAnyH_take (i := 1) (oi := ({ dst := Option.some 106, op := Go.Op.binOp Go.BinOp.gtr 3 (Go.Operand.tmp 105) (Go.Operand.const (Go.Value.int Go.IntKind.i64 0)) 3, type := 4, pos := "law.go:163", after := #[{ on := 0, ground := Go.Ground.data }], guard := Option.none } : Oper)) (v := ?v1x2) rfl (by kernel_rfl) (by kernel_rfl) (by kernel_rfl) (fun _ _ _ h => h) (Or.inl ⟨by rfl, ?hy1x2⟩) hSS ?rest1x2
        case hy1x2 =>
          intro W0 hSw
          obtain ⟨s1, s2, s3, s4⟩ := hSw
          go_simp
          first | done | with_reducible rfl
        try simp only [Act.put, List.setIfInBounds_toArray, List.set_cons_zero, List.set_cons_succ]
        refine wpAnyH_take (i := 2) (oi := ({ dst := Option.some 107, op := Go.Op.move (Go.Operand.tmp 106), type := 4, pos := "law.go:163", after := #[{ on := 1, ground := Go.Ground.data }], guard := Option.none } : Oper)) (v := ?v2x3) rfl (by kernel_rfl) (by kernel_rfl) (by kernel_rfl) (fun _ _ _ h => h) (Or.inl ⟨by rfl, ?hy2x3⟩) hSS ?rest2x3
        case hy2x3 =>
          intro W0 hSw
          obtain ⟨s1, s2, s3, s4⟩ := hSw
          go_simp
          first | done | with_reducible rfl
        try simp only [Act.put, List.setIfInBounds_toArray, List.set_cons_zero, List.set_cons_succ]
        refine wpAnyH_take (i := 3) (oi := ({ dst := Option.some 108, op := Go.Op.move (Go.Operand.tmp 11), type := 29, pos := "law.go:163", after := #[{ on := 2, ground := Go.Ground.guard }], guard := Option.some (2, Bool.true) } : Oper)) (v := undef) rfl (by kernel_rfl) (by kernel_rfl) (by kernel_rfl) (fun _ _ _ h => h) (Or.inr ⟨by rfl, rfl⟩) hSS ?_
        try simp only [Act.put, List.setIfInBounds_toArray, List.set_cons_zero, List.set_cons_succ]
        refine wpAnyH_take (i := 4) (oi := ({ dst := Option.some 109, op := Go.Op.move (Go.Operand.tmp 14), type := 3, pos := "law.go:163", after := #[{ on := 2, ground := Go.Ground.guard }], guard := Option.some (2, Bool.true) } : Oper)) (v := undef) rfl (by kernel_rfl) (by kernel_rfl) (by kernel_rfl) (fun _ _ _ h => h) (Or.inr ⟨by rfl, rfl⟩) hSS ?_
        try simp only [Act.put, List.setIfInBounds_toArray, List.set_cons_zero, List.set_cons_succ]
        refine wpAnyH_take (i := 5) (oi := ({ dst := Option.some 110, op := Go.Op.binOp Go.BinOp.sub 3 (Go.Operand.tmp 109) (Go.Operand.const (Go.Value.int Go.IntKind.i64 1)) 3, type := 3, pos := "law.go:163", after := #[{ on := 4, ground := Go.Ground.data }, { on := 2, ground := Go.Ground.guard }], guard := Option.some (2, Bool.true) } : Oper)) (v := undef) rfl (by kernel_rfl) (by kernel_rfl) (by kernel_rfl) (fun _ _ _ h => h) (Or.inr ⟨by rfl, rfl⟩) hSS ?_
        try simp only [Act.put, List.setIfInBounds_toArray, List.set_cons_zero, List.set_cons_succ]
        refine wpAnyH_take (i := 6) (oi := ({ dst := Option.some 111, op := Go.Op.indexAddr 29 (Go.Operand.tmp 108) (Go.Operand.tmp 110), type := 0, pos := "law.go:163", after := #[{ on := 3, ground := Go.Ground.data }, { on := 5, ground := Go.Ground.data }, { on := 2, ground := Go.Ground.guard }], guard := Option.some (2, Bool.true) } : Oper)) (v := undef) rfl (by kernel_rfl) (by kernel_rfl) (by kernel_rfl) (fun _ _ _ h => h) (Or.inr ⟨by rfl, rfl⟩) hSS ?_
        try simp only [Act.put, List.setIfInBounds_toArray, List.set_cons_zero, List.set_cons_succ]
        refine wpAnyH_take (i := 7) (oi := ({ dst := Option.some 112, op := Go.Op.fieldAddr 34 (Go.Operand.tmp 111) 0, type := 0, pos := "law.go:163", after := #[{ on := 6, ground := Go.Ground.data }, { on := 2, ground := Go.Ground.guard }], guard := Option.some (2, Bool.true) } : Oper)) (v := undef) rfl (by kernel_rfl) (by kernel_rfl) (by kernel_rfl) (fun _ _ _ h => h) (Or.inr ⟨by rfl, rfl⟩) hSS ?_
        try simp only [Act.put, List.setIfInBounds_toArray, List.set_cons_zero, List.set_cons_succ]
        refine wpAnyH_take (i := 8) (oi := ({ dst := Option.some 113, op := Go.Op.load 9 (Go.Operand.tmp 112), type := 9, pos := "law.go:163", after := #[{ on := 7, ground := Go.Ground.data }, { on := 2, ground := Go.Ground.guard }], guard := Option.some (2, Bool.true) } : Oper)) (v := undef) rfl (by kernel_rfl) (by kernel_rfl) (by kernel_rfl) (fun _ _ _ h => h) (Or.inr ⟨by rfl, rfl⟩) hSS ?_
        try simp only [Act.put, List.setIfInBounds_toArray, List.set_cons_zero, List.set_cons_succ]
        refine wpAnyH_take (i := 9) (oi := ({ dst := Option.some 114, op := Go.Op.move (Go.Operand.tmp 11), type := 29, pos := "law.go:163", after := #[{ on := 2, ground := Go.Ground.guard }], guard := Option.some (2, Bool.true) } : Oper)) (v := undef) rfl (by kernel_rfl) (by kernel_rfl) (by kernel_rfl) (fun _ _ _ h => h) (Or.inr ⟨by rfl, rfl⟩) hSS ?_
        try simp only [Act.put, List.setIfInBounds_toArray, List.set_cons_zero, List.set_cons_succ]
        refine wpAnyH_take (i := 10) (oi := ({ dst := Option.some 115, op := Go.Op.move (Go.Operand.tmp 14), type := 3, pos := "law.go:163", after := #[{ on := 2, ground := Go.Ground.guard }], guard := Option.some (2, Bool.true) } : Oper)) (v := undef) rfl (by kernel_rfl) (by kernel_rfl) (by kernel_rfl) (fun _ _ _ h => h) (Or.inr ⟨by rfl, rfl⟩) hSS ?_
        try simp only [Act.put, List.setIfInBounds_toArray, List.set_cons_zero, List.set_cons_succ]
        refine wpAnyH_take (i := 11) (oi := ({ dst := Option.some 116, op := Go.Op.indexAddr 29 (Go.Operand.tmp 114) (Go.Operand.tmp 115), type := 0, pos := "law.go:163", after := #[{ on := 9, ground := Go.Ground.data }, { on := 10, ground := Go.Ground.data }, { on := 2, ground := Go.Ground.guard }], guard := Option.some (2, Bool.true) } : Oper)) (v := undef) rfl (by kernel_rfl) (by kernel_rfl) (by kernel_rfl) (fun _ _ _ h => h) (Or.inr ⟨by rfl, rfl⟩) hSS ?_
        try simp only [Act.put, List.setIfInBounds_toArray, List.set_cons_zero, List.set_cons_succ]
        refine wpAnyH_take (i := 12) (oi := ({ dst := Option.some 117, op := Go.Op.fieldAddr 34 (Go.Operand.tmp 116) 0, type := 0, pos := "law.go:163", after := #[{ on := 11, ground := Go.Ground.data }, { on := 2, ground := Go.Ground.guard }], guard := Option.some (2, Bool.true) } : Oper)) (v := undef) rfl (by kernel_rfl) (by kernel_rfl) (by kernel_rfl) (fun _ _ _ h => h) (Or.inr ⟨by rfl, rfl⟩) hSS ?_
        try simp only [Act.put, List.setIfInBounds_toArray, List.set_cons_zero, List.set_cons_succ]
        refine wpAnyH_take (i := 13) (oi := ({ dst := Option.some 118, op := Go.Op.load 9 (Go.Operand.tmp 117), type := 9, pos := "law.go:163", after := #[{ on := 12, ground := Go.Ground.data }, { on := 2, ground := Go.Ground.guard }], guard := Option.some (2, Bool.true) } : Oper)) (v := undef) rfl (by kernel_rfl) (by kernel_rfl) (by kernel_rfl) (fun _ _ _ h => h) (Or.inr ⟨by rfl, rfl⟩) hSS ?_
        try simp only [Act.put, List.setIfInBounds_toArray, List.set_cons_zero, List.set_cons_succ]
        refine wpAnyH_take (i := 14) (oi := ({ dst := Option.some 119, op := Go.Op.binOp Go.BinOp.geq 9 (Go.Operand.tmp 113) (Go.Operand.tmp 118) 9, type := 4, pos := "law.go:163", after := #[{ on := 8, ground := Go.Ground.data }, { on := 13, ground := Go.Ground.data }, { on := 2, ground := Go.Ground.guard }], guard := Option.some (2, Bool.true) } : Oper)) (v := undef) rfl (by kernel_rfl) (by kernel_rfl) (by kernel_rfl) (fun _ _ _ h => h) (Or.inr ⟨by rfl, rfl⟩) hSS ?_
        try simp only [Act.put, List.setIfInBounds_toArray, List.set_cons_zero, List.set_cons_succ]
        refine wpAnyH_take (i := 15) (oi := ({ dst := Option.some 120, op := Go.Op.pick (Go.Operand.tmp 107) (Go.Operand.tmp 119) (Go.Operand.const (Go.Value.bool Bool.false)), type := 4, pos := "law.go:163", after := #[{ on := 2, ground := Go.Ground.data }, { on := 14, ground := Go.Ground.data }], guard := Option.none } : Oper)) (v := ?v15x16) rfl (by kernel_rfl) (by kernel_rfl) (by kernel_rfl) (fun _ _ _ h => h) (Or.inl ⟨by rfl, ?hy15x16⟩) hSS ?rest15x16
        case hy15x16 =>
          intro W0 hSw
          obtain ⟨s1, s2, s3, s4⟩ := hSw
          go_simp
          first | done | with_reducible rfl
        try simp only [Act.put, List.setIfInBounds_toArray, List.set_cons_zero, List.set_cons_succ]
        refine wpAnyH_take (i := 16) (oi := ({ dst := Option.some 121, op := Go.Op.move (Go.Operand.tmp 120), type := 4, pos := "law.go:163", after := #[{ on := 15, ground := Go.Ground.data }, { on := 2, ground := Go.Ground.chain }], guard := Option.none } : Oper)) (v := ?v16x17) rfl (by kernel_rfl) (by kernel_rfl) (by kernel_rfl) (fun _ _ _ h => h) (Or.inl ⟨by rfl, ?hy16x17⟩) hSS ?rest16x17
        case hy16x17 =>
          intro W0 hSw
          obtain ⟨s1, s2, s3, s4⟩ := hSw
          go_simp
          first | done | with_reducible rfl
        try simp only [Act.put, List.setIfInBounds_toArray, List.set_cons_zero, List.set_cons_succ]
        refine wpAnyH_take (i := 17) (oi := ({ dst := Option.some 122, op := Go.Op.move (Go.Operand.tmp 16), type := 4, pos := "law.go:163", after := #[{ on := 16, ground := Go.Ground.guard }], guard := Option.some (16, Bool.false) } : Oper)) (v := ?v17x18) rfl (by kernel_rfl) (by kernel_rfl) (by kernel_rfl) (fun _ _ _ h => h) (Or.inl ⟨by rfl, ?hy17x18⟩) hSS ?rest17x18
        case hy17x18 =>
          intro W0 hSw
          obtain ⟨s1, s2, s3, s4⟩ := hSw
          go_simp
          first | done | with_reducible rfl
        try simp only [Act.put, List.setIfInBounds_toArray, List.set_cons_zero, List.set_cons_succ]
        refine wpAnyH_take (i := 18) (oi := ({ dst := Option.some 123, op := Go.Op.unOp Go.UnOp.not 4 (Go.Operand.tmp 122), type := 4, pos := "law.go:163", after := #[{ on := 17, ground := Go.Ground.data }, { on := 16, ground := Go.Ground.guard }], guard := Option.some (16, Bool.false) } : Oper)) (v := ?v18x19) rfl (by kernel_rfl) (by kernel_rfl) (by kernel_rfl) (fun _ _ _ h => h) (Or.inl ⟨by rfl, ?hy18x19⟩) hSS ?rest18x19
        case hy18x19 =>
          intro W0 hSw
          obtain ⟨s1, s2, s3, s4⟩ := hSw
          go_simp
          first | done | with_reducible rfl
        try simp only [Act.put, List.setIfInBounds_toArray, List.set_cons_zero, List.set_cons_succ]
        refine wpAnyH_take (i := 19) (oi := ({ dst := Option.some 124, op := Go.Op.pick (Go.Operand.tmp 121) (Go.Operand.const (Go.Value.bool Bool.true)) (Go.Operand.tmp 123), type := 4, pos := "law.go:163", after := #[{ on := 16, ground := Go.Ground.data }, { on := 18, ground := Go.Ground.data }], guard := Option.none } : Oper)) (v := ?v19x20) rfl (by kernel_rfl) (by kernel_rfl) (by kernel_rfl) (fun _ _ _ h => h) (Or.inl ⟨by rfl, ?hy19x20⟩) hSS ?rest19x20
        case hy19x20 =>
          intro W0 hSw
          obtain ⟨s1, s2, s3, s4⟩ := hSw
          go_simp
          first | done | with_reducible rfl
        try simp only [Act.put, List.setIfInBounds_toArray, List.set_cons_zero, List.set_cons_succ]
        refine wpAnyH_take (i := 20) (oi := ({ dst := Option.some 125, op := Go.Op.move (Go.Operand.tmp 124), type := 4, pos := "law.go:163", after := #[{ on := 19, ground := Go.Ground.data }, { on := 16, ground := Go.Ground.chain }], guard := Option.none } : Oper)) (v := ?v20x21) rfl (by kernel_rfl) (by kernel_rfl) (by kernel_rfl) (fun _ _ _ h => h) (Or.inl ⟨by rfl, ?hy20x21⟩) hSS ?rest20x21
        case hy20x21 =>
          intro W0 hSw
          obtain ⟨s1, s2, s3, s4⟩ := hSw
          go_simp
          first | done | with_reducible rfl
        try simp only [Act.put, List.setIfInBounds_toArray, List.set_cons_zero, List.set_cons_succ]
        refine wpAnyH_take (i := 21) (oi := ({ dst := Option.some 126, op := Go.Op.move (Go.Operand.tmp 15), type := 23, pos := "law.go:163", after := #[{ on := 20, ground := Go.Ground.guard }], guard := Option.some (20, Bool.false) } : Oper)) (v := ?v21x22) rfl (by kernel_rfl) (by kernel_rfl) (by kernel_rfl) (fun _ _ _ h => h) (Or.inl ⟨by rfl, ?hy21x22⟩) hSS ?rest21x22
        case hy21x22 =>
          intro W0 hSw
          obtain ⟨s1, s2, s3, s4⟩ := hSw
          go_simp
          first | done | with_reducible rfl
        try simp only [Act.put, List.setIfInBounds_toArray, List.set_cons_zero, List.set_cons_succ]
        refine wpAnyH_take (i := 22) (oi := ({ dst := Option.some 127, op := Go.Op.convert 23 9 (Go.Operand.tmp 126), type := 9, pos := "law.go:163", after := #[{ on := 21, ground := Go.Ground.data }, { on := 20, ground := Go.Ground.guard }], guard := Option.some (20, Bool.false) } : Oper)) (v := ?v22x23) rfl (by kernel_rfl) (by kernel_rfl) (by kernel_rfl) (fun _ _ _ h => h) (Or.inl ⟨by rfl, ?hy22x23⟩) hSS ?rest22x23
        case hy22x23 =>
          intro W0 hSw
          obtain ⟨s1, s2, s3, s4⟩ := hSw
          go_simp
          first | done | with_reducible rfl
        try simp only [Act.put, List.setIfInBounds_toArray, List.set_cons_zero, List.set_cons_succ]
        refine wpAnyH_take (i := 23) (oi := ({ dst := Option.some 128, op := Go.Op.move (Go.Operand.tmp 11), type := 29, pos := "law.go:163", after := #[{ on := 20, ground := Go.Ground.guard }], guard := Option.some (20, Bool.false) } : Oper)) (v := ?v23x24) rfl (by kernel_rfl) (by kernel_rfl) (by kernel_rfl) (fun _ _ _ h => h) (Or.inl ⟨by rfl, ?hy23x24⟩) hSS ?rest23x24
        case hy23x24 =>
          intro W0 hSw
          obtain ⟨s1, s2, s3, s4⟩ := hSw
          go_simp
          first | done | with_reducible rfl
        try simp only [Act.put, List.setIfInBounds_toArray, List.set_cons_zero, List.set_cons_succ]
        refine wpAnyH_take (i := 24) (oi := ({ dst := Option.some 129, op := Go.Op.move (Go.Operand.tmp 14), type := 3, pos := "law.go:163", after := #[{ on := 20, ground := Go.Ground.guard }], guard := Option.some (20, Bool.false) } : Oper)) (v := ?v24x25) rfl (by kernel_rfl) (by kernel_rfl) (by kernel_rfl) (fun _ _ _ h => h) (Or.inl ⟨by rfl, ?hy24x25⟩) hSS ?rest24x25
        case hy24x25 =>
          intro W0 hSw
          obtain ⟨s1, s2, s3, s4⟩ := hSw
          go_simp
          first | done | with_reducible rfl
        try simp only [Act.put, List.setIfInBounds_toArray, List.set_cons_zero, List.set_cons_succ]
        refine wpAnyH_take (i := 25) (oi := ({ dst := Option.some 130, op := Go.Op.indexAddr 29 (Go.Operand.tmp 128) (Go.Operand.tmp 129), type := 0, pos := "law.go:163", after := #[{ on := 23, ground := Go.Ground.data }, { on := 24, ground := Go.Ground.data }, { on := 20, ground := Go.Ground.guard }], guard := Option.some (20, Bool.false) } : Oper)) (v := ?v25x26) rfl (by kernel_rfl) (by kernel_rfl) (by kernel_rfl) (fun _ _ _ h => h) (Or.inl ⟨by rfl, ?hy25x26⟩) hSS ?rest25x26
        case hy25x26 =>
          intro W0 hSw
          obtain ⟨s1, s2, s3, s4⟩ := hSw
          go_simp
          first | done | with_reducible rfl
        try simp only [Act.put, List.setIfInBounds_toArray, List.set_cons_zero, List.set_cons_succ]
        refine wpAnyH_take (i := 26) (oi := ({ dst := Option.some 131, op := Go.Op.fieldAddr 34 (Go.Operand.tmp 130) 1, type := 0, pos := "law.go:163", after := #[{ on := 25, ground := Go.Ground.data }, { on := 20, ground := Go.Ground.guard }], guard := Option.some (20, Bool.false) } : Oper)) (v := ?v26x27) rfl (by kernel_rfl) (by kernel_rfl) (by kernel_rfl) (fun _ _ _ h => h) (Or.inl ⟨by rfl, ?hy26x27⟩) hSS ?rest26x27
        case hy26x27 =>
          intro W0 hSw
          obtain ⟨s1, s2, s3, s4⟩ := hSw
          go_simp
          first | done | with_reducible rfl
        try simp only [Act.put, List.setIfInBounds_toArray, List.set_cons_zero, List.set_cons_succ]
        refine wpAnyH_take (i := 27) (oi := ({ dst := Option.some 132, op := Go.Op.load 9 (Go.Operand.tmp 131), type := 9, pos := "law.go:163", after := #[{ on := 26, ground := Go.Ground.data }, { on := 20, ground := Go.Ground.guard }], guard := Option.some (20, Bool.false) } : Oper)) (v := ?v27x28) rfl (by kernel_rfl) (by kernel_rfl) (by kernel_rfl) (fun _ _ _ h => h) (Or.inl ⟨by rfl, ?hy27x28⟩) hSS ?rest27x28
        case hy27x28 =>
          intro W0 hSw
          obtain ⟨s1, s2, s3, s4⟩ := hSw
          go_simp
          first | done | with_reducible rfl
        try simp only [Act.put, List.setIfInBounds_toArray, List.set_cons_zero, List.set_cons_succ]
        refine wpAnyH_take (i := 28) (oi := ({ dst := Option.some 133, op := Go.Op.binOp Go.BinOp.neq 9 (Go.Operand.tmp 127) (Go.Operand.tmp 132) 9, type := 4, pos := "law.go:163", after := #[{ on := 22, ground := Go.Ground.data }, { on := 27, ground := Go.Ground.data }, { on := 20, ground := Go.Ground.guard }], guard := Option.some (20, Bool.false) } : Oper)) (v := ?v28x29) rfl (by kernel_rfl) (by kernel_rfl) (by kernel_rfl) (fun _ _ _ h => h) (Or.inl ⟨by rfl, ?hy28x29⟩) hSS ?rest28x29
        case hy28x29 =>
          intro W0 hSw
          obtain ⟨s1, s2, s3, s4⟩ := hSw
          go_simp
          first | done | with_reducible rfl
        try simp only [Act.put, List.setIfInBounds_toArray, List.set_cons_zero, List.set_cons_succ]
        refine wpAnyH_take (i := 29) (oi := ({ dst := Option.some 134, op := Go.Op.pick (Go.Operand.tmp 125) (Go.Operand.const (Go.Value.bool Bool.true)) (Go.Operand.tmp 133), type := 4, pos := "law.go:163", after := #[{ on := 20, ground := Go.Ground.data }, { on := 28, ground := Go.Ground.data }], guard := Option.none } : Oper)) (v := ?v29x30) rfl (by kernel_rfl) (by kernel_rfl) (by kernel_rfl) (fun _ _ _ h => h) (Or.inl ⟨by rfl, ?hy29x30⟩) hSS ?rest29x30
        case hy29x30 =>
          intro W0 hSw
          obtain ⟨s1, s2, s3, s4⟩ := hSw
          go_simp
          first | done | with_reducible rfl
        try simp only [Act.put, List.setIfInBounds_toArray, List.set_cons_zero, List.set_cons_succ]
        refine wpAnyH_take (i := 30) (oi := ({ dst := Option.some 135, op := Go.Op.move (Go.Operand.tmp 134), type := 4, pos := "law.go:163", after := #[{ on := 29, ground := Go.Ground.data }, { on := 20, ground := Go.Ground.chain }], guard := Option.none } : Oper)) (v := ?v30x31) rfl (by kernel_rfl) (by kernel_rfl) (by kernel_rfl) (fun _ _ _ h => h) (Or.inl ⟨by rfl, ?hy30x31⟩) hSS ?rest30x31
        case hy30x31 =>
          intro W0 hSw
          obtain ⟨s1, s2, s3, s4⟩ := hSw
          go_simp
          first | done | with_reducible rfl
        try simp only [Act.put, List.setIfInBounds_toArray, List.set_cons_zero, List.set_cons_succ]
        refine wpAnyH_take (i := 31) (oi := ({ dst := Option.some 136, op := Go.Op.move (Go.Operand.tmp 11), type := 29, pos := "law.go:163", after := #[{ on := 30, ground := Go.Ground.guard }], guard := Option.some (30, Bool.false) } : Oper)) (v := ?v31x32) rfl (by kernel_rfl) (by kernel_rfl) (by kernel_rfl) (fun _ _ _ h => h) (Or.inl ⟨by rfl, ?hy31x32⟩) hSS ?rest31x32
        case hy31x32 =>
          intro W0 hSw
          obtain ⟨s1, s2, s3, s4⟩ := hSw
          go_simp
          first | done | with_reducible rfl
        try simp only [Act.put, List.setIfInBounds_toArray, List.set_cons_zero, List.set_cons_succ]
        refine wpAnyH_take (i := 32) (oi := ({ dst := Option.some 137, op := Go.Op.move (Go.Operand.tmp 14), type := 3, pos := "law.go:163", after := #[{ on := 30, ground := Go.Ground.guard }], guard := Option.some (30, Bool.false) } : Oper)) (v := ?v32x33) rfl (by kernel_rfl) (by kernel_rfl) (by kernel_rfl) (fun _ _ _ h => h) (Or.inl ⟨by rfl, ?hy32x33⟩) hSS ?rest32x33
        case hy32x33 =>
          intro W0 hSw
          obtain ⟨s1, s2, s3, s4⟩ := hSw
          go_simp
          first | done | with_reducible rfl
        try simp only [Act.put, List.setIfInBounds_toArray, List.set_cons_zero, List.set_cons_succ]
        refine wpAnyH_take (i := 33) (oi := ({ dst := Option.some 138, op := Go.Op.indexAddr 29 (Go.Operand.tmp 136) (Go.Operand.tmp 137), type := 0, pos := "law.go:163", after := #[{ on := 31, ground := Go.Ground.data }, { on := 32, ground := Go.Ground.data }, { on := 30, ground := Go.Ground.guard }], guard := Option.some (30, Bool.false) } : Oper)) (v := ?v33x34) rfl (by kernel_rfl) (by kernel_rfl) (by kernel_rfl) (fun _ _ _ h => h) (Or.inl ⟨by rfl, ?hy33x34⟩) hSS ?rest33x34
        case hy33x34 =>
          intro W0 hSw
          obtain ⟨s1, s2, s3, s4⟩ := hSw
          go_simp
          first | done | with_reducible rfl
        try simp only [Act.put, List.setIfInBounds_toArray, List.set_cons_zero, List.set_cons_succ]
        refine wpAnyH_take (i := 34) (oi := ({ dst := Option.some 139, op := Go.Op.fieldAddr 34 (Go.Operand.tmp 138) 0, type := 0, pos := "law.go:163", after := #[{ on := 33, ground := Go.Ground.data }, { on := 30, ground := Go.Ground.guard }], guard := Option.some (30, Bool.false) } : Oper)) (v := ?v34x35) rfl (by kernel_rfl) (by kernel_rfl) (by kernel_rfl) (fun _ _ _ h => h) (Or.inl ⟨by rfl, ?hy34x35⟩) hSS ?rest34x35
        case hy34x35 =>
          intro W0 hSw
          obtain ⟨s1, s2, s3, s4⟩ := hSw
          go_simp
          first | done | with_reducible rfl
        try simp only [Act.put, List.setIfInBounds_toArray, List.set_cons_zero, List.set_cons_succ]
        refine wpAnyH_take (i := 35) (oi := ({ dst := Option.some 140, op := Go.Op.load 9 (Go.Operand.tmp 139), type := 9, pos := "law.go:163", after := #[{ on := 34, ground := Go.Ground.data }, { on := 30, ground := Go.Ground.guard }], guard := Option.some (30, Bool.false) } : Oper)) (v := ?v35x36) rfl (by kernel_rfl) (by kernel_rfl) (by kernel_rfl) (fun _ _ _ h => h) (Or.inl ⟨by rfl, ?hy35x36⟩) hSS ?rest35x36
        case hy35x36 =>
          intro W0 hSw
          obtain ⟨s1, s2, s3, s4⟩ := hSw
          go_simp
          first | done | with_reducible rfl
        try simp only [Act.put, List.setIfInBounds_toArray, List.set_cons_zero, List.set_cons_succ]
        refine wpAnyH_take (i := 36) (oi := ({ dst := Option.some 141, op := Go.Op.move (Go.Operand.tmp 1), type := 23, pos := "law.go:163", after := #[{ on := 30, ground := Go.Ground.guard }], guard := Option.some (30, Bool.false) } : Oper)) (v := ?v36x37) rfl (by kernel_rfl) (by kernel_rfl) (by kernel_rfl) (fun _ _ _ h => h) (Or.inl ⟨by rfl, ?hy36x37⟩) hSS ?rest36x37
        case hy36x37 =>
          intro W0 hSw
          obtain ⟨s1, s2, s3, s4⟩ := hSw
          go_simp
          first | done | with_reducible rfl
        try simp only [Act.put, List.setIfInBounds_toArray, List.set_cons_zero, List.set_cons_succ]
        refine wpAnyH_take (i := 37) (oi := ({ dst := Option.some 142, op := Go.Op.convert 23 9 (Go.Operand.tmp 141), type := 9, pos := "law.go:163", after := #[{ on := 36, ground := Go.Ground.data }, { on := 30, ground := Go.Ground.guard }], guard := Option.some (30, Bool.false) } : Oper)) (v := ?v37x38) rfl (by kernel_rfl) (by kernel_rfl) (by kernel_rfl) (fun _ _ _ h => h) (Or.inl ⟨by rfl, ?hy37x38⟩) hSS ?rest37x38
        case hy37x38 =>
          intro W0 hSw
          obtain ⟨s1, s2, s3, s4⟩ := hSw
          go_simp
          first | done | with_reducible rfl
        try simp only [Act.put, List.setIfInBounds_toArray, List.set_cons_zero, List.set_cons_succ]
        refine wpAnyH_take (i := 38) (oi := ({ dst := Option.some 143, op := Go.Op.binOp Go.BinOp.geq 9 (Go.Operand.tmp 140) (Go.Operand.tmp 142) 9, type := 4, pos := "law.go:163", after := #[{ on := 35, ground := Go.Ground.data }, { on := 37, ground := Go.Ground.data }, { on := 30, ground := Go.Ground.guard }], guard := Option.some (30, Bool.false) } : Oper)) (v := ?v38x39) rfl (by kernel_rfl) (by kernel_rfl) (by kernel_rfl) (fun _ _ _ h => h) (Or.inl ⟨by rfl, ?hy38x39⟩) hSS ?rest38x39
        case hy38x39 =>
          intro W0 hSw
          obtain ⟨s1, s2, s3, s4⟩ := hSw
          go_simp
          first | done | with_reducible rfl
        try simp only [Act.put, List.setIfInBounds_toArray, List.set_cons_zero, List.set_cons_succ]
        refine wpAnyH_take (i := 39) (oi := ({ dst := Option.some 144, op := Go.Op.move (Go.Operand.tmp 14), type := 3, pos := "law.go:163", after := #[{ on := 30, ground := Go.Ground.guard }], guard := Option.some (30, Bool.false) } : Oper)) (v := ?v39x40) rfl (by kernel_rfl) (by kernel_rfl) (by kernel_rfl) (fun _ _ _ h => h) (Or.inl ⟨by rfl, ?hy39x40⟩) hSS ?rest39x40
        case hy39x40 =>
          intro W0 hSw
          obtain ⟨s1, s2, s3, s4⟩ := hSw
          go_simp
          first | done | with_reducible rfl
        try simp only [Act.put, List.setIfInBounds_toArray, List.set_cons_zero, List.set_cons_succ]
        refine wpAnyH_take (i := 40) (oi := ({ dst := Option.some 145, op := Go.Op.move (Go.Operand.tmp 11), type := 29, pos := "law.go:163", after := #[{ on := 30, ground := Go.Ground.guard }], guard := Option.some (30, Bool.false) } : Oper)) (v := ?v40x41) rfl (by kernel_rfl) (by kernel_rfl) (by kernel_rfl) (fun _ _ _ h => h) (Or.inl ⟨by rfl, ?hy40x41⟩) hSS ?rest40x41
        case hy40x41 =>
          intro W0 hSw
          obtain ⟨s1, s2, s3, s4⟩ := hSw
          go_simp
          first | done | with_reducible rfl
        try simp only [Act.put, List.setIfInBounds_toArray, List.set_cons_zero, List.set_cons_succ]
        refine wpAnyH_take (i := 41) (oi := ({ dst := Option.some 146, op := Go.Op.call { callee := Go.Callee.builtin Go.Builtin.len, args := #[Go.Operand.tmp 145], argTypes := #[29] }, type := 3, pos := "law.go:163", after := #[{ on := 40, ground := Go.Ground.data }, { on := 30, ground := Go.Ground.guard }], guard := Option.some (30, Bool.false) } : Oper)) (v := ?v41x42) rfl (by kernel_rfl) (by kernel_rfl) (by kernel_rfl) (fun _ _ _ h => h) (Or.inl ⟨by rfl, ?hy41x42⟩) hSS ?rest41x42
        case hy41x42 =>
          intro W0 hSw
          obtain ⟨s1, s2, s3, s4⟩ := hSw
          go_simp
          first | done | with_reducible rfl
        try simp only [Act.put, List.setIfInBounds_toArray, List.set_cons_zero, List.set_cons_succ]
        refine wpAnyH_take (i := 42) (oi := ({ dst := Option.some 147, op := Go.Op.move (Go.Operand.tmp 10), type := 29, pos := "law.go:163", after := #[{ on := 30, ground := Go.Ground.guard }], guard := Option.some (30, Bool.false) } : Oper)) (v := ?v42x43) rfl (by kernel_rfl) (by kernel_rfl) (by kernel_rfl) (fun _ _ _ h => h) (Or.inl ⟨by rfl, ?hy42x43⟩) hSS ?rest42x43
        case hy42x43 =>
          intro W0 hSw
          obtain ⟨s1, s2, s3, s4⟩ := hSw
          go_simp
          first | done | with_reducible rfl
        try simp only [Act.put, List.setIfInBounds_toArray, List.set_cons_zero, List.set_cons_succ]
        refine wpAnyH_take (i := 43) (oi := ({ dst := Option.some 148, op := Go.Op.call { callee := Go.Callee.builtin Go.Builtin.len, args := #[Go.Operand.tmp 147], argTypes := #[29] }, type := 3, pos := "law.go:163", after := #[{ on := 42, ground := Go.Ground.data }, { on := 30, ground := Go.Ground.guard }], guard := Option.some (30, Bool.false) } : Oper)) (v := ?v43x44) rfl (by kernel_rfl) (by kernel_rfl) (by kernel_rfl) (fun _ _ _ h => h) (Or.inl ⟨by rfl, ?hy43x44⟩) hSS ?rest43x44
        case hy43x44 =>
          intro W0 hSw
          obtain ⟨s1, s2, s3, s4⟩ := hSw
          go_simp
          first | done | with_reducible rfl
        try simp only [Act.put, List.setIfInBounds_toArray, List.set_cons_zero, List.set_cons_succ]
        refine wpAnyH_take (i := 44) (oi := ({ dst := Option.some 149, op := Go.Op.binOp Go.BinOp.sub 3 (Go.Operand.tmp 146) (Go.Operand.tmp 148) 3, type := 3, pos := "law.go:163", after := #[{ on := 41, ground := Go.Ground.data }, { on := 43, ground := Go.Ground.data }, { on := 30, ground := Go.Ground.guard }], guard := Option.some (30, Bool.false) } : Oper)) (v := ?v44x45) rfl (by kernel_rfl) (by kernel_rfl) (by kernel_rfl) (fun _ _ _ h => h) (Or.inl ⟨by rfl, ?hy44x45⟩) hSS ?rest44x45
        case hy44x45 =>
          intro W0 hSw
          obtain ⟨s1, s2, s3, s4⟩ := hSw
          go_simp
          first | done | with_reducible rfl
        try simp only [Act.put, List.setIfInBounds_toArray, List.set_cons_zero, List.set_cons_succ]
        refine wpAnyH_take (i := 45) (oi := ({ dst := Option.some 150, op := Go.Op.binOp Go.BinOp.geq 3 (Go.Operand.tmp 144) (Go.Operand.tmp 149) 3, type := 4, pos := "law.go:163", after := #[{ on := 39, ground := Go.Ground.data }, { on := 44, ground := Go.Ground.data }, { on := 30, ground := Go.Ground.guard }], guard := Option.some (30, Bool.false) } : Oper)) (v := ?v45x46) rfl (by kernel_rfl) (by kernel_rfl) (by kernel_rfl) (fun _ _ _ h => h) (Or.inl ⟨by rfl, ?hy45x46⟩) hSS ?rest45x46
        case hy45x46 =>
          intro W0 hSw
          obtain ⟨s1, s2, s3, s4⟩ := hSw
          go_simp
          first | done | with_reducible rfl
        try simp only [Act.put, List.setIfInBounds_toArray, List.set_cons_zero, List.set_cons_succ]
        refine wpAnyH_take (i := 46) (oi := ({ dst := Option.some 151, op := Go.Op.binOp Go.BinOp.neq 4 (Go.Operand.tmp 143) (Go.Operand.tmp 150) 4, type := 4, pos := "law.go:163", after := #[{ on := 38, ground := Go.Ground.data }, { on := 45, ground := Go.Ground.data }, { on := 30, ground := Go.Ground.guard }], guard := Option.some (30, Bool.false) } : Oper)) (v := ?v46x47) rfl (by kernel_rfl) (by kernel_rfl) (by kernel_rfl) (fun _ _ _ h => h) (Or.inl ⟨by rfl, ?hy46x47⟩) hSS ?rest46x47
        case hy46x47 =>
          intro W0 hSw
          obtain ⟨s1, s2, s3, s4⟩ := hSw
          go_simp
          first | done | with_reducible rfl
        try simp only [Act.put, List.setIfInBounds_toArray, List.set_cons_zero, List.set_cons_succ]
        refine wpAnyH_take (i := 47) (oi := ({ dst := Option.some 152, op := Go.Op.pick (Go.Operand.tmp 135) (Go.Operand.const (Go.Value.bool Bool.true)) (Go.Operand.tmp 151), type := 4, pos := "law.go:163", after := #[{ on := 30, ground := Go.Ground.data }, { on := 46, ground := Go.Ground.data }], guard := Option.none } : Oper)) (v := ?v47x48) rfl (by kernel_rfl) (by kernel_rfl) (by kernel_rfl) (fun _ _ _ h => h) (Or.inl ⟨by rfl, ?hy47x48⟩) hSS ?rest47x48
        case hy47x48 =>
          intro W0 hSw
          obtain ⟨s1, s2, s3, s4⟩ := hSw
          go_simp
          first | done | with_reducible rfl
        try simp only [Act.put, List.setIfInBounds_toArray, List.set_cons_zero, List.set_cons_succ]
        refine wpAnyH_done (by kernel_rfl) ?_ _
        have HBE := Lib.hid hbd
        clear hbd
        go_wp2_with fail
        go_roundw
        case rel => exact ⟨1, rfl, hlt, HBE.out⟩
        case measure => exact Nat.sub_lt_sub_left hlt (Nat.lt_succ_self 0)
      · obtain ⟨y, hy⟩ : ∃ y, L[i]? = some y := ⟨_, List.getElem?_eq_getElem (by rw [HN.out]; omega)⟩
        obtain ⟨e0, _⟩ := HCE.out _ hbd i y hy
        have hlss : Op.bytesLess (sB y.1).toList (sB x.1).toList = true := less_sB (decide_eq_true (pair_at HPAIR.out hy HX.out))
        have hSS : (fun W => W.cell? ⟨b, o + (i + 1) * 2, none⟩ = some (.string (sB x.1)) ∧ W.cell? ⟨b, o + (i + 1) * 2 + 1, none⟩ = some (.string (sB x.2)) ∧ (convert 23 9 (.slice Av rn cv)).run Try.prog W = .ok (.string (sB x.2)) W ∧ (convert 23 9 (.slice F fn fc)).run Try.prog W = .ok (.string (sB f)) W ∧ W.cell? ⟨b, o + i * 2, none⟩ = some (.string (sB y.1))) w20.drew := ⟨d0, d1, cvr, cvf, e0⟩
        have hwi : IntKind.i64.wrap (i : Int) = (i : Int) := by rw [IntKind.wrap_i64]; omega
        have hii : (i : Int) < (n : Int) := by omega
        have hip : (0 : Int) < (i : Int) + 1 := by omega
        have h01 : (0 : Int) ≤ (i : Int) + 1 := by omega
        have h02 : (i : Int) + 1 < (n : Int) := by omega
        have hki2 : decide ((k : Int) ≤ (i : Int) + 1) = !bb := hki
        clear d0 d1 cvr cvf hrn HG HO HCE e0 hy
        refine wp_region_held_drew (S := (fun W => W.cell? ⟨b, o + (i + 1) * 2, none⟩ = some (.string (sB x.1)) ∧ W.cell? ⟨b, o + (i + 1) * 2 + 1, none⟩ = some (.string (sB x.2)) ∧ (convert 23 9 (.slice Av rn cv)).run Try.prog W = .ok (.string (sB x.2)) W ∧ (convert 23 9 (.slice F fn fc)).run Try.prog W = .ok (.string (sB f)) W ∧ W.cell? ⟨b, o + i * 2, none⟩ = some (.string (sB y.1)))) (by kernel_rfl) hSS (fun _ => ?_)
        refine wpAnyH_take (i := 0) (oi := ({ dst := Option.some 105, op := Go.Op.move (Go.Operand.tmp 14), type := 3, pos := "law.go:163", after := #[], guard := Option.none } : Oper)) (v := ?v0x49) rfl (by kernel_rfl) (by kernel_rfl) (by kernel_rfl) (fun _ _ _ h => h) (Or.inl ⟨by rfl, ?hy0x49⟩) hSS ?rest0x49
        case hy0x49 =>
          intro W0 hSw
          obtain ⟨s1, s2, s3, s4, s5⟩ := hSw
          go_simp
          first | done | with_reducible rfl
        try simp only [Act.put, List.setIfInBounds_toArray, List.set_cons_zero, List.set_cons_succ]
        refine wpAnyH_take (i := 1) (oi := ({ dst := Option.some 106, op := Go.Op.binOp Go.BinOp.gtr 3 (Go.Operand.tmp 105) (Go.Operand.const (Go.Value.int Go.IntKind.i64 0)) 3, type := 4, pos := "law.go:163", after := #[{ on := 0, ground := Go.Ground.data }], guard := Option.none } : Oper)) (v := ?v1x50) rfl (by kernel_rfl) (by kernel_rfl) (by kernel_rfl) (fun _ _ _ h => h) (Or.inl ⟨by rfl, ?hy1x50⟩) hSS ?rest1x50
        case hy1x50 =>
          intro W0 hSw
          obtain ⟨s1, s2, s3, s4, s5⟩ := hSw
          go_simp
          first | done | with_reducible rfl
        try simp only [Act.put, List.setIfInBounds_toArray, List.set_cons_zero, List.set_cons_succ]
        refine wpAnyH_take (i := 2) (oi := ({ dst := Option.some 107, op := Go.Op.move (Go.Operand.tmp 106), type := 4, pos := "law.go:163", after := #[{ on := 1, ground := Go.Ground.data }], guard := Option.none } : Oper)) (v := ?v2x51) rfl (by kernel_rfl) (by kernel_rfl) (by kernel_rfl) (fun _ _ _ h => h) (Or.inl ⟨by rfl, ?hy2x51⟩) hSS ?rest2x51
        case hy2x51 =>
          intro W0 hSw
          obtain ⟨s1, s2, s3, s4, s5⟩ := hSw
          go_simp
          first | done | with_reducible rfl
        try simp only [Act.put, List.setIfInBounds_toArray, List.set_cons_zero, List.set_cons_succ]
        refine wpAnyH_take (i := 3) (oi := ({ dst := Option.some 108, op := Go.Op.move (Go.Operand.tmp 11), type := 29, pos := "law.go:163", after := #[{ on := 2, ground := Go.Ground.guard }], guard := Option.some (2, Bool.true) } : Oper)) (v := ?v3x52) rfl (by kernel_rfl) (by kernel_rfl) (by kernel_rfl) (fun _ _ _ h => h) (Or.inl ⟨by rfl, ?hy3x52⟩) hSS ?rest3x52
        case hy3x52 =>
          intro W0 hSw
          obtain ⟨s1, s2, s3, s4, s5⟩ := hSw
          go_simp
          first | done | with_reducible rfl
        try simp only [Act.put, List.setIfInBounds_toArray, List.set_cons_zero, List.set_cons_succ]
        refine wpAnyH_take (i := 4) (oi := ({ dst := Option.some 109, op := Go.Op.move (Go.Operand.tmp 14), type := 3, pos := "law.go:163", after := #[{ on := 2, ground := Go.Ground.guard }], guard := Option.some (2, Bool.true) } : Oper)) (v := ?v4x53) rfl (by kernel_rfl) (by kernel_rfl) (by kernel_rfl) (fun _ _ _ h => h) (Or.inl ⟨by rfl, ?hy4x53⟩) hSS ?rest4x53
        case hy4x53 =>
          intro W0 hSw
          obtain ⟨s1, s2, s3, s4, s5⟩ := hSw
          go_simp
          first | done | with_reducible rfl
        try simp only [Act.put, List.setIfInBounds_toArray, List.set_cons_zero, List.set_cons_succ]
        refine wpAnyH_take (i := 5) (oi := ({ dst := Option.some 110, op := Go.Op.binOp Go.BinOp.sub 3 (Go.Operand.tmp 109) (Go.Operand.const (Go.Value.int Go.IntKind.i64 1)) 3, type := 3, pos := "law.go:163", after := #[{ on := 4, ground := Go.Ground.data }, { on := 2, ground := Go.Ground.guard }], guard := Option.some (2, Bool.true) } : Oper)) (v := ?v5x54) rfl (by kernel_rfl) (by kernel_rfl) (by kernel_rfl) (fun _ _ _ h => h) (Or.inl ⟨by rfl, ?hy5x54⟩) hSS ?rest5x54
        case hy5x54 =>
          intro W0 hSw
          obtain ⟨s1, s2, s3, s4, s5⟩ := hSw
          go_simp
          first | done | with_reducible rfl
        try simp only [Act.put, List.setIfInBounds_toArray, List.set_cons_zero, List.set_cons_succ]
        refine wpAnyH_take (i := 6) (oi := ({ dst := Option.some 111, op := Go.Op.indexAddr 29 (Go.Operand.tmp 108) (Go.Operand.tmp 110), type := 0, pos := "law.go:163", after := #[{ on := 3, ground := Go.Ground.data }, { on := 5, ground := Go.Ground.data }, { on := 2, ground := Go.Ground.guard }], guard := Option.some (2, Bool.true) } : Oper)) (v := ?v6x55) rfl (by kernel_rfl) (by kernel_rfl) (by kernel_rfl) (fun _ _ _ h => h) (Or.inl ⟨by rfl, ?hy6x55⟩) hSS ?rest6x55
        case hy6x55 =>
          intro W0 hSw
          obtain ⟨s1, s2, s3, s4, s5⟩ := hSw
          go_simp
          first | done | with_reducible rfl
        try simp only [Act.put, List.setIfInBounds_toArray, List.set_cons_zero, List.set_cons_succ]
        refine wpAnyH_take (i := 7) (oi := ({ dst := Option.some 112, op := Go.Op.fieldAddr 34 (Go.Operand.tmp 111) 0, type := 0, pos := "law.go:163", after := #[{ on := 6, ground := Go.Ground.data }, { on := 2, ground := Go.Ground.guard }], guard := Option.some (2, Bool.true) } : Oper)) (v := ?v7x56) rfl (by kernel_rfl) (by kernel_rfl) (by kernel_rfl) (fun _ _ _ h => h) (Or.inl ⟨by rfl, ?hy7x56⟩) hSS ?rest7x56
        case hy7x56 =>
          intro W0 hSw
          obtain ⟨s1, s2, s3, s4, s5⟩ := hSw
          go_simp
          first | done | with_reducible rfl
        try simp only [Act.put, List.setIfInBounds_toArray, List.set_cons_zero, List.set_cons_succ]
        refine wpAnyH_take (i := 8) (oi := ({ dst := Option.some 113, op := Go.Op.load 9 (Go.Operand.tmp 112), type := 9, pos := "law.go:163", after := #[{ on := 7, ground := Go.Ground.data }, { on := 2, ground := Go.Ground.guard }], guard := Option.some (2, Bool.true) } : Oper)) (v := ?v8x57) rfl (by kernel_rfl) (by kernel_rfl) (by kernel_rfl) (fun _ _ _ h => h) (Or.inl ⟨by rfl, ?hy8x57⟩) hSS ?rest8x57
        case hy8x57 =>
          intro W0 hSw
          obtain ⟨s1, s2, s3, s4, s5⟩ := hSw
          go_simp
          first | done | with_reducible rfl
        try simp only [Act.put, List.setIfInBounds_toArray, List.set_cons_zero, List.set_cons_succ]
        refine wpAnyH_take (i := 9) (oi := ({ dst := Option.some 114, op := Go.Op.move (Go.Operand.tmp 11), type := 29, pos := "law.go:163", after := #[{ on := 2, ground := Go.Ground.guard }], guard := Option.some (2, Bool.true) } : Oper)) (v := ?v9x58) rfl (by kernel_rfl) (by kernel_rfl) (by kernel_rfl) (fun _ _ _ h => h) (Or.inl ⟨by rfl, ?hy9x58⟩) hSS ?rest9x58
        case hy9x58 =>
          intro W0 hSw
          obtain ⟨s1, s2, s3, s4, s5⟩ := hSw
          go_simp
          first | done | with_reducible rfl
        try simp only [Act.put, List.setIfInBounds_toArray, List.set_cons_zero, List.set_cons_succ]
        refine wpAnyH_take (i := 10) (oi := ({ dst := Option.some 115, op := Go.Op.move (Go.Operand.tmp 14), type := 3, pos := "law.go:163", after := #[{ on := 2, ground := Go.Ground.guard }], guard := Option.some (2, Bool.true) } : Oper)) (v := ?v10x59) rfl (by kernel_rfl) (by kernel_rfl) (by kernel_rfl) (fun _ _ _ h => h) (Or.inl ⟨by rfl, ?hy10x59⟩) hSS ?rest10x59
        case hy10x59 =>
          intro W0 hSw
          obtain ⟨s1, s2, s3, s4, s5⟩ := hSw
          go_simp
          first | done | with_reducible rfl
        try simp only [Act.put, List.setIfInBounds_toArray, List.set_cons_zero, List.set_cons_succ]
        refine wpAnyH_take (i := 11) (oi := ({ dst := Option.some 116, op := Go.Op.indexAddr 29 (Go.Operand.tmp 114) (Go.Operand.tmp 115), type := 0, pos := "law.go:163", after := #[{ on := 9, ground := Go.Ground.data }, { on := 10, ground := Go.Ground.data }, { on := 2, ground := Go.Ground.guard }], guard := Option.some (2, Bool.true) } : Oper)) (v := ?v11x60) rfl (by kernel_rfl) (by kernel_rfl) (by kernel_rfl) (fun _ _ _ h => h) (Or.inl ⟨by rfl, ?hy11x60⟩) hSS ?rest11x60
        case hy11x60 =>
          intro W0 hSw
          obtain ⟨s1, s2, s3, s4, s5⟩ := hSw
          go_simp
          first | done | with_reducible rfl
        try simp only [Act.put, List.setIfInBounds_toArray, List.set_cons_zero, List.set_cons_succ]
        refine wpAnyH_take (i := 12) (oi := ({ dst := Option.some 117, op := Go.Op.fieldAddr 34 (Go.Operand.tmp 116) 0, type := 0, pos := "law.go:163", after := #[{ on := 11, ground := Go.Ground.data }, { on := 2, ground := Go.Ground.guard }], guard := Option.some (2, Bool.true) } : Oper)) (v := ?v12x61) rfl (by kernel_rfl) (by kernel_rfl) (by kernel_rfl) (fun _ _ _ h => h) (Or.inl ⟨by rfl, ?hy12x61⟩) hSS ?rest12x61
        case hy12x61 =>
          intro W0 hSw
          obtain ⟨s1, s2, s3, s4, s5⟩ := hSw
          go_simp
          first | done | with_reducible rfl
        try simp only [Act.put, List.setIfInBounds_toArray, List.set_cons_zero, List.set_cons_succ]
        refine wpAnyH_take (i := 13) (oi := ({ dst := Option.some 118, op := Go.Op.load 9 (Go.Operand.tmp 117), type := 9, pos := "law.go:163", after := #[{ on := 12, ground := Go.Ground.data }, { on := 2, ground := Go.Ground.guard }], guard := Option.some (2, Bool.true) } : Oper)) (v := ?v13x62) rfl (by kernel_rfl) (by kernel_rfl) (by kernel_rfl) (fun _ _ _ h => h) (Or.inl ⟨by rfl, ?hy13x62⟩) hSS ?rest13x62
        case hy13x62 =>
          intro W0 hSw
          obtain ⟨s1, s2, s3, s4, s5⟩ := hSw
          go_simp
          first | done | with_reducible rfl
        try simp only [Act.put, List.setIfInBounds_toArray, List.set_cons_zero, List.set_cons_succ]
        refine wpAnyH_take (i := 14) (oi := ({ dst := Option.some 119, op := Go.Op.binOp Go.BinOp.geq 9 (Go.Operand.tmp 113) (Go.Operand.tmp 118) 9, type := 4, pos := "law.go:163", after := #[{ on := 8, ground := Go.Ground.data }, { on := 13, ground := Go.Ground.data }, { on := 2, ground := Go.Ground.guard }], guard := Option.some (2, Bool.true) } : Oper)) (v := ?v14x63) rfl (by kernel_rfl) (by kernel_rfl) (by kernel_rfl) (fun _ _ _ h => h) (Or.inl ⟨by rfl, ?hy14x63⟩) hSS ?rest14x63
        case hy14x63 =>
          intro W0 hSw
          obtain ⟨s1, s2, s3, s4, s5⟩ := hSw
          go_simp
          first | done | with_reducible rfl
        try simp only [Act.put, List.setIfInBounds_toArray, List.set_cons_zero, List.set_cons_succ]
        refine wpAnyH_take (i := 15) (oi := ({ dst := Option.some 120, op := Go.Op.pick (Go.Operand.tmp 107) (Go.Operand.tmp 119) (Go.Operand.const (Go.Value.bool Bool.false)), type := 4, pos := "law.go:163", after := #[{ on := 2, ground := Go.Ground.data }, { on := 14, ground := Go.Ground.data }], guard := Option.none } : Oper)) (v := ?v15x64) rfl (by kernel_rfl) (by kernel_rfl) (by kernel_rfl) (fun _ _ _ h => h) (Or.inl ⟨by rfl, ?hy15x64⟩) hSS ?rest15x64
        case hy15x64 =>
          intro W0 hSw
          obtain ⟨s1, s2, s3, s4, s5⟩ := hSw
          go_simp
          first | done | with_reducible rfl
        try simp only [Act.put, List.setIfInBounds_toArray, List.set_cons_zero, List.set_cons_succ]
        refine wpAnyH_take (i := 16) (oi := ({ dst := Option.some 121, op := Go.Op.move (Go.Operand.tmp 120), type := 4, pos := "law.go:163", after := #[{ on := 15, ground := Go.Ground.data }, { on := 2, ground := Go.Ground.chain }], guard := Option.none } : Oper)) (v := ?v16x65) rfl (by kernel_rfl) (by kernel_rfl) (by kernel_rfl) (fun _ _ _ h => h) (Or.inl ⟨by rfl, ?hy16x65⟩) hSS ?rest16x65
        case hy16x65 =>
          intro W0 hSw
          obtain ⟨s1, s2, s3, s4, s5⟩ := hSw
          go_simp
          first | done | with_reducible rfl
        try simp only [Act.put, List.setIfInBounds_toArray, List.set_cons_zero, List.set_cons_succ]
        refine wpAnyH_take (i := 17) (oi := ({ dst := Option.some 122, op := Go.Op.move (Go.Operand.tmp 16), type := 4, pos := "law.go:163", after := #[{ on := 16, ground := Go.Ground.guard }], guard := Option.some (16, Bool.false) } : Oper)) (v := ?v17x66) rfl (by kernel_rfl) (by kernel_rfl) (by kernel_rfl) (fun _ _ _ h => h) (Or.inl ⟨by rfl, ?hy17x66⟩) hSS ?rest17x66
        case hy17x66 =>
          intro W0 hSw
          obtain ⟨s1, s2, s3, s4, s5⟩ := hSw
          go_simp
          first | done | with_reducible rfl
        try simp only [Act.put, List.setIfInBounds_toArray, List.set_cons_zero, List.set_cons_succ]
        refine wpAnyH_take (i := 18) (oi := ({ dst := Option.some 123, op := Go.Op.unOp Go.UnOp.not 4 (Go.Operand.tmp 122), type := 4, pos := "law.go:163", after := #[{ on := 17, ground := Go.Ground.data }, { on := 16, ground := Go.Ground.guard }], guard := Option.some (16, Bool.false) } : Oper)) (v := ?v18x67) rfl (by kernel_rfl) (by kernel_rfl) (by kernel_rfl) (fun _ _ _ h => h) (Or.inl ⟨by rfl, ?hy18x67⟩) hSS ?rest18x67
        case hy18x67 =>
          intro W0 hSw
          obtain ⟨s1, s2, s3, s4, s5⟩ := hSw
          go_simp
          first | done | with_reducible rfl
        try simp only [Act.put, List.setIfInBounds_toArray, List.set_cons_zero, List.set_cons_succ]
        refine wpAnyH_take (i := 19) (oi := ({ dst := Option.some 124, op := Go.Op.pick (Go.Operand.tmp 121) (Go.Operand.const (Go.Value.bool Bool.true)) (Go.Operand.tmp 123), type := 4, pos := "law.go:163", after := #[{ on := 16, ground := Go.Ground.data }, { on := 18, ground := Go.Ground.data }], guard := Option.none } : Oper)) (v := ?v19x68) rfl (by kernel_rfl) (by kernel_rfl) (by kernel_rfl) (fun _ _ _ h => h) (Or.inl ⟨by rfl, ?hy19x68⟩) hSS ?rest19x68
        case hy19x68 =>
          intro W0 hSw
          obtain ⟨s1, s2, s3, s4, s5⟩ := hSw
          go_simp
          first | done | with_reducible rfl
        try simp only [Act.put, List.setIfInBounds_toArray, List.set_cons_zero, List.set_cons_succ]
        refine wpAnyH_take (i := 20) (oi := ({ dst := Option.some 125, op := Go.Op.move (Go.Operand.tmp 124), type := 4, pos := "law.go:163", after := #[{ on := 19, ground := Go.Ground.data }, { on := 16, ground := Go.Ground.chain }], guard := Option.none } : Oper)) (v := ?v20x69) rfl (by kernel_rfl) (by kernel_rfl) (by kernel_rfl) (fun _ _ _ h => h) (Or.inl ⟨by rfl, ?hy20x69⟩) hSS ?rest20x69
        case hy20x69 =>
          intro W0 hSw
          obtain ⟨s1, s2, s3, s4, s5⟩ := hSw
          go_simp
          first | done | with_reducible rfl
        try simp only [Act.put, List.setIfInBounds_toArray, List.set_cons_zero, List.set_cons_succ]
        refine wpAnyH_take (i := 21) (oi := ({ dst := Option.some 126, op := Go.Op.move (Go.Operand.tmp 15), type := 23, pos := "law.go:163", after := #[{ on := 20, ground := Go.Ground.guard }], guard := Option.some (20, Bool.false) } : Oper)) (v := ?v21x70) rfl (by kernel_rfl) (by kernel_rfl) (by kernel_rfl) (fun _ _ _ h => h) (Or.inl ⟨by rfl, ?hy21x70⟩) hSS ?rest21x70
        case hy21x70 =>
          intro W0 hSw
          obtain ⟨s1, s2, s3, s4, s5⟩ := hSw
          go_simp
          first | done | with_reducible rfl
        try simp only [Act.put, List.setIfInBounds_toArray, List.set_cons_zero, List.set_cons_succ]
        refine wpAnyH_take (i := 22) (oi := ({ dst := Option.some 127, op := Go.Op.convert 23 9 (Go.Operand.tmp 126), type := 9, pos := "law.go:163", after := #[{ on := 21, ground := Go.Ground.data }, { on := 20, ground := Go.Ground.guard }], guard := Option.some (20, Bool.false) } : Oper)) (v := ?v22x71) rfl (by kernel_rfl) (by kernel_rfl) (by kernel_rfl) (fun _ _ _ h => h) (Or.inl ⟨by rfl, ?hy22x71⟩) hSS ?rest22x71
        case hy22x71 =>
          intro W0 hSw
          obtain ⟨s1, s2, s3, s4, s5⟩ := hSw
          go_simp
          first | done | with_reducible rfl
        try simp only [Act.put, List.setIfInBounds_toArray, List.set_cons_zero, List.set_cons_succ]
        refine wpAnyH_take (i := 23) (oi := ({ dst := Option.some 128, op := Go.Op.move (Go.Operand.tmp 11), type := 29, pos := "law.go:163", after := #[{ on := 20, ground := Go.Ground.guard }], guard := Option.some (20, Bool.false) } : Oper)) (v := ?v23x72) rfl (by kernel_rfl) (by kernel_rfl) (by kernel_rfl) (fun _ _ _ h => h) (Or.inl ⟨by rfl, ?hy23x72⟩) hSS ?rest23x72
        case hy23x72 =>
          intro W0 hSw
          obtain ⟨s1, s2, s3, s4, s5⟩ := hSw
          go_simp
          first | done | with_reducible rfl
        try simp only [Act.put, List.setIfInBounds_toArray, List.set_cons_zero, List.set_cons_succ]
        refine wpAnyH_take (i := 24) (oi := ({ dst := Option.some 129, op := Go.Op.move (Go.Operand.tmp 14), type := 3, pos := "law.go:163", after := #[{ on := 20, ground := Go.Ground.guard }], guard := Option.some (20, Bool.false) } : Oper)) (v := ?v24x73) rfl (by kernel_rfl) (by kernel_rfl) (by kernel_rfl) (fun _ _ _ h => h) (Or.inl ⟨by rfl, ?hy24x73⟩) hSS ?rest24x73
        case hy24x73 =>
          intro W0 hSw
          obtain ⟨s1, s2, s3, s4, s5⟩ := hSw
          go_simp
          first | done | with_reducible rfl
        try simp only [Act.put, List.setIfInBounds_toArray, List.set_cons_zero, List.set_cons_succ]
        refine wpAnyH_take (i := 25) (oi := ({ dst := Option.some 130, op := Go.Op.indexAddr 29 (Go.Operand.tmp 128) (Go.Operand.tmp 129), type := 0, pos := "law.go:163", after := #[{ on := 23, ground := Go.Ground.data }, { on := 24, ground := Go.Ground.data }, { on := 20, ground := Go.Ground.guard }], guard := Option.some (20, Bool.false) } : Oper)) (v := ?v25x74) rfl (by kernel_rfl) (by kernel_rfl) (by kernel_rfl) (fun _ _ _ h => h) (Or.inl ⟨by rfl, ?hy25x74⟩) hSS ?rest25x74
        case hy25x74 =>
          intro W0 hSw
          obtain ⟨s1, s2, s3, s4, s5⟩ := hSw
          go_simp
          first | done | with_reducible rfl
        try simp only [Act.put, List.setIfInBounds_toArray, List.set_cons_zero, List.set_cons_succ]
        refine wpAnyH_take (i := 26) (oi := ({ dst := Option.some 131, op := Go.Op.fieldAddr 34 (Go.Operand.tmp 130) 1, type := 0, pos := "law.go:163", after := #[{ on := 25, ground := Go.Ground.data }, { on := 20, ground := Go.Ground.guard }], guard := Option.some (20, Bool.false) } : Oper)) (v := ?v26x75) rfl (by kernel_rfl) (by kernel_rfl) (by kernel_rfl) (fun _ _ _ h => h) (Or.inl ⟨by rfl, ?hy26x75⟩) hSS ?rest26x75
        case hy26x75 =>
          intro W0 hSw
          obtain ⟨s1, s2, s3, s4, s5⟩ := hSw
          go_simp
          first | done | with_reducible rfl
        try simp only [Act.put, List.setIfInBounds_toArray, List.set_cons_zero, List.set_cons_succ]
        refine wpAnyH_take (i := 27) (oi := ({ dst := Option.some 132, op := Go.Op.load 9 (Go.Operand.tmp 131), type := 9, pos := "law.go:163", after := #[{ on := 26, ground := Go.Ground.data }, { on := 20, ground := Go.Ground.guard }], guard := Option.some (20, Bool.false) } : Oper)) (v := ?v27x76) rfl (by kernel_rfl) (by kernel_rfl) (by kernel_rfl) (fun _ _ _ h => h) (Or.inl ⟨by rfl, ?hy27x76⟩) hSS ?rest27x76
        case hy27x76 =>
          intro W0 hSw
          obtain ⟨s1, s2, s3, s4, s5⟩ := hSw
          go_simp
          first | done | with_reducible rfl
        try simp only [Act.put, List.setIfInBounds_toArray, List.set_cons_zero, List.set_cons_succ]
        refine wpAnyH_take (i := 28) (oi := ({ dst := Option.some 133, op := Go.Op.binOp Go.BinOp.neq 9 (Go.Operand.tmp 127) (Go.Operand.tmp 132) 9, type := 4, pos := "law.go:163", after := #[{ on := 22, ground := Go.Ground.data }, { on := 27, ground := Go.Ground.data }, { on := 20, ground := Go.Ground.guard }], guard := Option.some (20, Bool.false) } : Oper)) (v := ?v28x77) rfl (by kernel_rfl) (by kernel_rfl) (by kernel_rfl) (fun _ _ _ h => h) (Or.inl ⟨by rfl, ?hy28x77⟩) hSS ?rest28x77
        case hy28x77 =>
          intro W0 hSw
          obtain ⟨s1, s2, s3, s4, s5⟩ := hSw
          go_simp
          first | done | with_reducible rfl
        try simp only [Act.put, List.setIfInBounds_toArray, List.set_cons_zero, List.set_cons_succ]
        refine wpAnyH_take (i := 29) (oi := ({ dst := Option.some 134, op := Go.Op.pick (Go.Operand.tmp 125) (Go.Operand.const (Go.Value.bool Bool.true)) (Go.Operand.tmp 133), type := 4, pos := "law.go:163", after := #[{ on := 20, ground := Go.Ground.data }, { on := 28, ground := Go.Ground.data }], guard := Option.none } : Oper)) (v := ?v29x78) rfl (by kernel_rfl) (by kernel_rfl) (by kernel_rfl) (fun _ _ _ h => h) (Or.inl ⟨by rfl, ?hy29x78⟩) hSS ?rest29x78
        case hy29x78 =>
          intro W0 hSw
          obtain ⟨s1, s2, s3, s4, s5⟩ := hSw
          go_simp
          first | done | with_reducible rfl
        try simp only [Act.put, List.setIfInBounds_toArray, List.set_cons_zero, List.set_cons_succ]
        refine wpAnyH_take (i := 30) (oi := ({ dst := Option.some 135, op := Go.Op.move (Go.Operand.tmp 134), type := 4, pos := "law.go:163", after := #[{ on := 29, ground := Go.Ground.data }, { on := 20, ground := Go.Ground.chain }], guard := Option.none } : Oper)) (v := ?v30x79) rfl (by kernel_rfl) (by kernel_rfl) (by kernel_rfl) (fun _ _ _ h => h) (Or.inl ⟨by rfl, ?hy30x79⟩) hSS ?rest30x79
        case hy30x79 =>
          intro W0 hSw
          obtain ⟨s1, s2, s3, s4, s5⟩ := hSw
          go_simp
          first | done | with_reducible rfl
        try simp only [Act.put, List.setIfInBounds_toArray, List.set_cons_zero, List.set_cons_succ]
        refine wpAnyH_take (i := 31) (oi := ({ dst := Option.some 136, op := Go.Op.move (Go.Operand.tmp 11), type := 29, pos := "law.go:163", after := #[{ on := 30, ground := Go.Ground.guard }], guard := Option.some (30, Bool.false) } : Oper)) (v := ?v31x80) rfl (by kernel_rfl) (by kernel_rfl) (by kernel_rfl) (fun _ _ _ h => h) (Or.inl ⟨by rfl, ?hy31x80⟩) hSS ?rest31x80
        case hy31x80 =>
          intro W0 hSw
          obtain ⟨s1, s2, s3, s4, s5⟩ := hSw
          go_simp
          first | done | with_reducible rfl
        try simp only [Act.put, List.setIfInBounds_toArray, List.set_cons_zero, List.set_cons_succ]
        refine wpAnyH_take (i := 32) (oi := ({ dst := Option.some 137, op := Go.Op.move (Go.Operand.tmp 14), type := 3, pos := "law.go:163", after := #[{ on := 30, ground := Go.Ground.guard }], guard := Option.some (30, Bool.false) } : Oper)) (v := ?v32x81) rfl (by kernel_rfl) (by kernel_rfl) (by kernel_rfl) (fun _ _ _ h => h) (Or.inl ⟨by rfl, ?hy32x81⟩) hSS ?rest32x81
        case hy32x81 =>
          intro W0 hSw
          obtain ⟨s1, s2, s3, s4, s5⟩ := hSw
          go_simp
          first | done | with_reducible rfl
        try simp only [Act.put, List.setIfInBounds_toArray, List.set_cons_zero, List.set_cons_succ]
        refine wpAnyH_take (i := 33) (oi := ({ dst := Option.some 138, op := Go.Op.indexAddr 29 (Go.Operand.tmp 136) (Go.Operand.tmp 137), type := 0, pos := "law.go:163", after := #[{ on := 31, ground := Go.Ground.data }, { on := 32, ground := Go.Ground.data }, { on := 30, ground := Go.Ground.guard }], guard := Option.some (30, Bool.false) } : Oper)) (v := ?v33x82) rfl (by kernel_rfl) (by kernel_rfl) (by kernel_rfl) (fun _ _ _ h => h) (Or.inl ⟨by rfl, ?hy33x82⟩) hSS ?rest33x82
        case hy33x82 =>
          intro W0 hSw
          obtain ⟨s1, s2, s3, s4, s5⟩ := hSw
          go_simp
          first | done | with_reducible rfl
        try simp only [Act.put, List.setIfInBounds_toArray, List.set_cons_zero, List.set_cons_succ]
        refine wpAnyH_take (i := 34) (oi := ({ dst := Option.some 139, op := Go.Op.fieldAddr 34 (Go.Operand.tmp 138) 0, type := 0, pos := "law.go:163", after := #[{ on := 33, ground := Go.Ground.data }, { on := 30, ground := Go.Ground.guard }], guard := Option.some (30, Bool.false) } : Oper)) (v := ?v34x83) rfl (by kernel_rfl) (by kernel_rfl) (by kernel_rfl) (fun _ _ _ h => h) (Or.inl ⟨by rfl, ?hy34x83⟩) hSS ?rest34x83
        case hy34x83 =>
          intro W0 hSw
          obtain ⟨s1, s2, s3, s4, s5⟩ := hSw
          go_simp
          first | done | with_reducible rfl
        try simp only [Act.put, List.setIfInBounds_toArray, List.set_cons_zero, List.set_cons_succ]
        refine wpAnyH_take (i := 35) (oi := ({ dst := Option.some 140, op := Go.Op.load 9 (Go.Operand.tmp 139), type := 9, pos := "law.go:163", after := #[{ on := 34, ground := Go.Ground.data }, { on := 30, ground := Go.Ground.guard }], guard := Option.some (30, Bool.false) } : Oper)) (v := ?v35x84) rfl (by kernel_rfl) (by kernel_rfl) (by kernel_rfl) (fun _ _ _ h => h) (Or.inl ⟨by rfl, ?hy35x84⟩) hSS ?rest35x84
        case hy35x84 =>
          intro W0 hSw
          obtain ⟨s1, s2, s3, s4, s5⟩ := hSw
          go_simp
          first | done | with_reducible rfl
        try simp only [Act.put, List.setIfInBounds_toArray, List.set_cons_zero, List.set_cons_succ]
        refine wpAnyH_take (i := 36) (oi := ({ dst := Option.some 141, op := Go.Op.move (Go.Operand.tmp 1), type := 23, pos := "law.go:163", after := #[{ on := 30, ground := Go.Ground.guard }], guard := Option.some (30, Bool.false) } : Oper)) (v := ?v36x85) rfl (by kernel_rfl) (by kernel_rfl) (by kernel_rfl) (fun _ _ _ h => h) (Or.inl ⟨by rfl, ?hy36x85⟩) hSS ?rest36x85
        case hy36x85 =>
          intro W0 hSw
          obtain ⟨s1, s2, s3, s4, s5⟩ := hSw
          go_simp
          first | done | with_reducible rfl
        try simp only [Act.put, List.setIfInBounds_toArray, List.set_cons_zero, List.set_cons_succ]
        refine wpAnyH_take (i := 37) (oi := ({ dst := Option.some 142, op := Go.Op.convert 23 9 (Go.Operand.tmp 141), type := 9, pos := "law.go:163", after := #[{ on := 36, ground := Go.Ground.data }, { on := 30, ground := Go.Ground.guard }], guard := Option.some (30, Bool.false) } : Oper)) (v := ?v37x86) rfl (by kernel_rfl) (by kernel_rfl) (by kernel_rfl) (fun _ _ _ h => h) (Or.inl ⟨by rfl, ?hy37x86⟩) hSS ?rest37x86
        case hy37x86 =>
          intro W0 hSw
          obtain ⟨s1, s2, s3, s4, s5⟩ := hSw
          go_simp
          first | done | with_reducible rfl
        try simp only [Act.put, List.setIfInBounds_toArray, List.set_cons_zero, List.set_cons_succ]
        refine wpAnyH_take (i := 38) (oi := ({ dst := Option.some 143, op := Go.Op.binOp Go.BinOp.geq 9 (Go.Operand.tmp 140) (Go.Operand.tmp 142) 9, type := 4, pos := "law.go:163", after := #[{ on := 35, ground := Go.Ground.data }, { on := 37, ground := Go.Ground.data }, { on := 30, ground := Go.Ground.guard }], guard := Option.some (30, Bool.false) } : Oper)) (v := ?v38x87) rfl (by kernel_rfl) (by kernel_rfl) (by kernel_rfl) (fun _ _ _ h => h) (Or.inl ⟨by rfl, ?hy38x87⟩) hSS ?rest38x87
        case hy38x87 =>
          intro W0 hSw
          obtain ⟨s1, s2, s3, s4, s5⟩ := hSw
          go_simp
          first | done | with_reducible rfl
        try simp only [Act.put, List.setIfInBounds_toArray, List.set_cons_zero, List.set_cons_succ]
        refine wpAnyH_take (i := 39) (oi := ({ dst := Option.some 144, op := Go.Op.move (Go.Operand.tmp 14), type := 3, pos := "law.go:163", after := #[{ on := 30, ground := Go.Ground.guard }], guard := Option.some (30, Bool.false) } : Oper)) (v := ?v39x88) rfl (by kernel_rfl) (by kernel_rfl) (by kernel_rfl) (fun _ _ _ h => h) (Or.inl ⟨by rfl, ?hy39x88⟩) hSS ?rest39x88
        case hy39x88 =>
          intro W0 hSw
          obtain ⟨s1, s2, s3, s4, s5⟩ := hSw
          go_simp
          first | done | with_reducible rfl
        try simp only [Act.put, List.setIfInBounds_toArray, List.set_cons_zero, List.set_cons_succ]
        refine wpAnyH_take (i := 40) (oi := ({ dst := Option.some 145, op := Go.Op.move (Go.Operand.tmp 11), type := 29, pos := "law.go:163", after := #[{ on := 30, ground := Go.Ground.guard }], guard := Option.some (30, Bool.false) } : Oper)) (v := ?v40x89) rfl (by kernel_rfl) (by kernel_rfl) (by kernel_rfl) (fun _ _ _ h => h) (Or.inl ⟨by rfl, ?hy40x89⟩) hSS ?rest40x89
        case hy40x89 =>
          intro W0 hSw
          obtain ⟨s1, s2, s3, s4, s5⟩ := hSw
          go_simp
          first | done | with_reducible rfl
        try simp only [Act.put, List.setIfInBounds_toArray, List.set_cons_zero, List.set_cons_succ]
        refine wpAnyH_take (i := 41) (oi := ({ dst := Option.some 146, op := Go.Op.call { callee := Go.Callee.builtin Go.Builtin.len, args := #[Go.Operand.tmp 145], argTypes := #[29] }, type := 3, pos := "law.go:163", after := #[{ on := 40, ground := Go.Ground.data }, { on := 30, ground := Go.Ground.guard }], guard := Option.some (30, Bool.false) } : Oper)) (v := ?v41x90) rfl (by kernel_rfl) (by kernel_rfl) (by kernel_rfl) (fun _ _ _ h => h) (Or.inl ⟨by rfl, ?hy41x90⟩) hSS ?rest41x90
        case hy41x90 =>
          intro W0 hSw
          obtain ⟨s1, s2, s3, s4, s5⟩ := hSw
          go_simp
          first | done | with_reducible rfl
        try simp only [Act.put, List.setIfInBounds_toArray, List.set_cons_zero, List.set_cons_succ]
        refine wpAnyH_take (i := 42) (oi := ({ dst := Option.some 147, op := Go.Op.move (Go.Operand.tmp 10), type := 29, pos := "law.go:163", after := #[{ on := 30, ground := Go.Ground.guard }], guard := Option.some (30, Bool.false) } : Oper)) (v := ?v42x91) rfl (by kernel_rfl) (by kernel_rfl) (by kernel_rfl) (fun _ _ _ h => h) (Or.inl ⟨by rfl, ?hy42x91⟩) hSS ?rest42x91
        case hy42x91 =>
          intro W0 hSw
          obtain ⟨s1, s2, s3, s4, s5⟩ := hSw
          go_simp
          first | done | with_reducible rfl
        try simp only [Act.put, List.setIfInBounds_toArray, List.set_cons_zero, List.set_cons_succ]
        refine wpAnyH_take (i := 43) (oi := ({ dst := Option.some 148, op := Go.Op.call { callee := Go.Callee.builtin Go.Builtin.len, args := #[Go.Operand.tmp 147], argTypes := #[29] }, type := 3, pos := "law.go:163", after := #[{ on := 42, ground := Go.Ground.data }, { on := 30, ground := Go.Ground.guard }], guard := Option.some (30, Bool.false) } : Oper)) (v := ?v43x92) rfl (by kernel_rfl) (by kernel_rfl) (by kernel_rfl) (fun _ _ _ h => h) (Or.inl ⟨by rfl, ?hy43x92⟩) hSS ?rest43x92
        case hy43x92 =>
          intro W0 hSw
          obtain ⟨s1, s2, s3, s4, s5⟩ := hSw
          go_simp
          first | done | with_reducible rfl
        try simp only [Act.put, List.setIfInBounds_toArray, List.set_cons_zero, List.set_cons_succ]
        refine wpAnyH_take (i := 44) (oi := ({ dst := Option.some 149, op := Go.Op.binOp Go.BinOp.sub 3 (Go.Operand.tmp 146) (Go.Operand.tmp 148) 3, type := 3, pos := "law.go:163", after := #[{ on := 41, ground := Go.Ground.data }, { on := 43, ground := Go.Ground.data }, { on := 30, ground := Go.Ground.guard }], guard := Option.some (30, Bool.false) } : Oper)) (v := ?v44x93) rfl (by kernel_rfl) (by kernel_rfl) (by kernel_rfl) (fun _ _ _ h => h) (Or.inl ⟨by rfl, ?hy44x93⟩) hSS ?rest44x93
        case hy44x93 =>
          intro W0 hSw
          obtain ⟨s1, s2, s3, s4, s5⟩ := hSw
          go_simp
          first | done | with_reducible rfl
        try simp only [Act.put, List.setIfInBounds_toArray, List.set_cons_zero, List.set_cons_succ]
        refine wpAnyH_take (i := 45) (oi := ({ dst := Option.some 150, op := Go.Op.binOp Go.BinOp.geq 3 (Go.Operand.tmp 144) (Go.Operand.tmp 149) 3, type := 4, pos := "law.go:163", after := #[{ on := 39, ground := Go.Ground.data }, { on := 44, ground := Go.Ground.data }, { on := 30, ground := Go.Ground.guard }], guard := Option.some (30, Bool.false) } : Oper)) (v := ?v45x94) rfl (by kernel_rfl) (by kernel_rfl) (by kernel_rfl) (fun _ _ _ h => h) (Or.inl ⟨by rfl, ?hy45x94⟩) hSS ?rest45x94
        case hy45x94 =>
          intro W0 hSw
          obtain ⟨s1, s2, s3, s4, s5⟩ := hSw
          go_simp
          first | done | with_reducible rfl
        try simp only [Act.put, List.setIfInBounds_toArray, List.set_cons_zero, List.set_cons_succ]
        refine wpAnyH_take (i := 46) (oi := ({ dst := Option.some 151, op := Go.Op.binOp Go.BinOp.neq 4 (Go.Operand.tmp 143) (Go.Operand.tmp 150) 4, type := 4, pos := "law.go:163", after := #[{ on := 38, ground := Go.Ground.data }, { on := 45, ground := Go.Ground.data }, { on := 30, ground := Go.Ground.guard }], guard := Option.some (30, Bool.false) } : Oper)) (v := ?v46x95) rfl (by kernel_rfl) (by kernel_rfl) (by kernel_rfl) (fun _ _ _ h => h) (Or.inl ⟨by rfl, ?hy46x95⟩) hSS ?rest46x95
        case hy46x95 =>
          intro W0 hSw
          obtain ⟨s1, s2, s3, s4, s5⟩ := hSw
          go_simp
          first | done | with_reducible rfl
        try simp only [Act.put, List.setIfInBounds_toArray, List.set_cons_zero, List.set_cons_succ]
        refine wpAnyH_take (i := 47) (oi := ({ dst := Option.some 152, op := Go.Op.pick (Go.Operand.tmp 135) (Go.Operand.const (Go.Value.bool Bool.true)) (Go.Operand.tmp 151), type := 4, pos := "law.go:163", after := #[{ on := 30, ground := Go.Ground.data }, { on := 46, ground := Go.Ground.data }], guard := Option.none } : Oper)) (v := ?v47x96) rfl (by kernel_rfl) (by kernel_rfl) (by kernel_rfl) (fun _ _ _ h => h) (Or.inl ⟨by rfl, ?hy47x96⟩) hSS ?rest47x96
        case hy47x96 =>
          intro W0 hSw
          obtain ⟨s1, s2, s3, s4, s5⟩ := hSw
          go_simp
          first | done | with_reducible rfl
        try simp only [Act.put, List.setIfInBounds_toArray, List.set_cons_zero, List.set_cons_succ]
        refine wpAnyH_done (by kernel_rfl) ?_ _
        have HBE := Lib.hid hbd
        clear hbd
        go_wp2_with fail
        go_roundw
        case rel => first | exact ⟨i + 1 + 1, by go_num, hlt, HBE.out⟩ | ((repeat apply Exists.intro); exact ⟨⟨i + 1 + 1, by go_num, hlt, HBE.out⟩, rfl⟩)
        case measure => simp [intOf]; omega
    · have hlti : ¬ (i : Int) < (n : Int) := by omega
      clear hb
      go_wp2_with (go_at_call 9; refine (AL.out _).mono ?_; rintro e w22 ⟨rfl, hb⟩
                   have HB22 := Lib.hid (HBR.out.trans (hb.mono HBR.out.size))
                   clear hb)
      go_ret
      exact ⟨rfl, HT9.out.bel.trans (HB22.out.mono HT9.out.bel.size)⟩
end Go.Proofs.Ytkjgiabkhemcnaa

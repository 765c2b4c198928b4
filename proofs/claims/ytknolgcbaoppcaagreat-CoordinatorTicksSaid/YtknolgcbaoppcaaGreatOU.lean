/- Package coordinator: Tick. -/
import Derived.Test.YtknolgcbaoppcaaGreatOT
namespace Go.Proofs.YtknolgcbaoppcaaGreat
open Go.RowKit

theorem OwnI.mapped {S : CoS} {w3 w6 : World} {B0 B : Nat} {v : Value} {ns : List Int} (h : OwnI w3 B0 v ns) (hc : Co w3 B S) (hO : Only (· = S.m) w3 w6) : OwnI w6 B0 v ns := by
  refine ⟨⟨h.1.1, ?_⟩, h.2⟩
  rcases h.1.2 with h1 | ⟨g, cap, cur, rfl, h3, h4, h5⟩
  · exact .inl h1
  · exact .inr ⟨g, cap, cur, rfl, h3, (hO.block g (lt_of_heap h4) (hc.map.noCells h4)).trans h4, h5⟩
/-- a coordinator behind some transactions of a tick -/
def TkS (S : CoS) (k : Nat) (xs : List Int) (v : Value) (os1 : List Le) : CoS := { S with tks := k, T := (tkF S.node k S.T xs).1, ov := v, os := S.os ++ os1 }
def TkL (w : World) (B : Nat) (S : CoS) (k B0 : Nat) (ns : List Int) (A : Option Addr) (N c : Nat) (v18 : Value) (wr : World) : Prop := ∃ (i : Nat) (v : Value) (os1 : List Le), v18 = .int .i64 (i : Int) ∧ i ≤ N ∧ Co wr B (TkS S k (ns.take i) v os1) ∧ os1.map Le.core = (tkF S.node k S.T (ns.take i)).2 ∧ FrM S w wr v ∧ OwnI wr B0 (.slice A N c) ns
def TkT (w : World) (B : Nat) (S : CoS) (w' : World) : Prop := ∃ v os1, Co w' B (TkS S (S.tks + 1) (numsT S.T) v os1) ∧ os1.map Le.core = (tkF S.node (S.tks + 1) S.T (numsT S.T)).2 ∧ FrM S w w' v
theorem numsT_mem {T : List Te} {y : Int} (h : y ∈ numsT T) : ∃ e ∈ T, (e.n : Int) = y := by
  unfold numsT at h
  have h1 := (List.mergeSort_perm (T.map fun e => (e.n : Int)) fun x y => decide (x ≤ y)).mem_iff.1 h
  simpa using h1
theorem findT_mem {T : List Te} {e : Te} (h : e ∈ T) : (findT T e.n).isSome = true := by
  unfold findT
  rw [List.find?_isSome]
  exact ⟨e, h, by simp⟩
theorem dropT_len_le (T : List Te) (x : Nat) : (dropT T x).length ≤ T.length := List.length_filter_le _ _
theorem putT_len {T : List Te} {e : Te} (h1 : T.Pairwise fun a b => a.n ≠ b.n) (h : (findT T e.n).isSome = true) : (putT T e).length = T.length := by
  have h2 := dropT_len h1 e.n
  have h3 : T.any (fun u => decide (u.n = e.n)) = true := by
    unfold findT at h
    rw [List.find?_isSome] at h
    obtain ⟨u, hu, he⟩ := h
    exact List.any_eq_true.2 ⟨u, hu, he⟩
  rw [h3] at h2
  unfold putT
  rw [List.length_append]
  simpa using h2
theorem putT_pair {T : List Te} (h : T.Pairwise fun a b => a.n ≠ b.n) (e : Te) : (putT T e).Pairwise fun a b => a.n ≠ b.n := by
  unfold putT
  rw [List.pairwise_append]
  refine ⟨List.Pairwise.filter _ h, by simp, fun a ha b hb => ?_⟩
  rw [List.mem_singleton] at hb
  subst hb
  simpa using (List.mem_filter.1 ha).2
theorem tkF_len {node k : Nat} {T : List Te} (h : T.Pairwise fun a b => a.n ≠ b.n) (xs : List Int) : (tkF node k T xs).1.length = T.length := by
  suffices H : ∀ (xs : List Int) (p : List Te × List (Int × Int × Int × Int × Nat)), (p.1.Pairwise fun a b => a.n ≠ b.n) → (xs.foldl (tk1 node k) p).1.length = p.1.length by
    exact H xs (T, []) h
  intro xs
  induction xs with
  | nil => intro p _; rfl
  | cons x xs ih =>
    intro p hp
    have h2 : ((tk1 node k p x).1.Pairwise fun a b => a.n ≠ b.n) ∧ (tk1 node k p x).1.length = p.1.length := by
      unfold tk1
      split
      · next e he =>
        split
        · exact ⟨putT_pair hp _, putT_len hp (by show (findT p.1 e.n).isSome = true; rw [(findT_some he).2, he]; rfl)⟩
        · exact ⟨hp, rfl⟩
      · exact ⟨hp, rfl⟩
    rw [List.foldl_cons, ih _ h2.1, h2.2]
theorem tk_sent {w wr W9 w10 W w' : World} {B : Nat} {S : CoS} {k i B0 N c nn : Nat} {v : Value} {os1 : List Le} {ns : List Int} {e : Te} {A : Option Addr} {K : Int} {en : Ending}
    (hfr : FrM S w wr v) (hoi : OwnI wr B0 (.slice A N c) ns) (hcr : os1.map Le.core = (tkF S.node k S.T (ns.take i)).2) (hiN : i < N)
    (hbd : Below wr.heap.size wr W9) (hcd : Co W9 B (TkS S k (ns.take i) v os1)) (hOm : Only (· = S.m) W9 w10) (hc10 : Co w10 B { TkS S k (ns.take i) v os1 with T := putT (tkF S.node k S.T (ns.take i)).1 { e with t := k } }) (hb : Below w10.heap.size w10 W)
    (hstep : tkF S.node k S.T (ns.take (i + 1)) = (putT (tkF S.node k S.T (ns.take i)).1 { e with t := k }, (tkF S.node k S.T (ns.take i)).2 ++ coreL K S.node e.n nn (nodesI e.o)))
    (hs : SnT W B { TkS S k (ns.take i) v os1 with T := putT (tkF S.node k S.T (ns.take i)).1 { e with t := k } } K e.n nn (nodesI e.o) en w') : TkL w B S k B0 ns A N c (.int .i64 ((i + 1 : Nat) : Int)) w' := by
  obtain ⟨_, v', os2, h1, h2, h3⟩ := hs
  refine ⟨i + 1, v', os1 ++ os2, rfl, by omega, ?_, ?_, ⟨?_, fun j hj => ?_⟩, ?_⟩
  · unfold TkS
    rw [hstep, ← List.append_assoc]
    exact h1
  · rw [List.map_append, hcr, h2, hstep]
    rfl
  · refine (((hfr.1.trans (Only.of_below (K := fun _ => False) hbd) fun _ _ h => h.elim).trans hOm fun j _ hj => .inr (.inl hj)).trans (Only.of_below (K := fun _ => False) hb) fun _ _ h => h.elim).trans h3.1 fun j hj hk => ?_
    rcases hk with hk | hk
    · exact .inl hk
    · rcases hfr.2 j hk with h5 | h5
      · exact .inr (.inr h5)
      · omega
  · rcases h3.2 j hj with h5 | h5
    · exact hfr.2 j h5
    · exact .inr (Nat.le_trans hfr.1.size (Nat.le_trans hbd.size (Nat.le_trans hOm.size (Nat.le_trans hb.size h5))))
  · exact (((hoi.below hbd).mapped hcd hOm).below hb).sent (hc10.below hb) h3
set_option maxRecDepth 100000 in
set_option maxHeartbeats 32000000 in
theorem tick_any {w : World} {B : Nat} {S : CoS} (h : Co w B S) (hk : S.tks < 4000000000000) (hok : TkOk (S.tks + 1) S.T) (hT : S.T.length < 1000) (hos : S.os.length ≤ 30000) :
    Calls Tryz.prog 14 #[.pointer (some ⟨S.c, 0, none⟩)] w (fun e w' => e = .returned (.int .i64 0) ∧ TkT w B S w') := by
  have HC := Lib.hid (closed_any h)
  obtain ⟨c0, c1, c2, c3, c4, c5, c6⟩ := box7_ h.box
  have f4 := frozen_of h.box 4
  obtain ⟨k, hkk⟩ : ∃ k, k = S.tks + 1 := ⟨_, rfl⟩
  obtain ⟨K1, hK1⟩ : ∃ K1 : Int, K1 = (k : Int) := ⟨_, rfl⟩
  have a1 : wrap64 ((S.tks : Int) + 1) = K1 := by unfold wrap64; omega
  have hO1 := Only.set w S.c 4 (.int .i64 (k : Int))
  have hS1 := h.boxed hO1 { S with tks := k } (box7_set h.box _).2.1 ⟨rfl, rfl, rfl, rfl, rfl, rfl, rfl, rfl, rfl, rfl, rfl, rfl⟩ (h.out_kept hO1) h.no
  rw [← hK1] at hO1 hS1
  have HPD := Lib.hid (pending_any hS1 hT)
  have HS1 := Lib.hid hS1
  have HO1 := Lib.hid hO1
  obtain ⟨ns, hns⟩ : ∃ ns, ns = numsT S.T := ⟨_, rfl⟩
  have HNS := Lib.hid hns
  obtain ⟨N, hN⟩ : ∃ N, ns.length = N := ⟨_, rfl⟩
  have hNi : (N : Int) < 1000 := by rw [← hN, hns, numsT_len]; omega
  have HN := Lib.hid hN
  have HOK := Lib.hid hok
  rw [← hkk] at HOK
  have HOS := Lib.hid hos
  have hone : S.T.Pairwise fun a b => a.n ≠ b.n := by obtain ⟨_, _, hr⟩ := h.map; exact hr.one
  have HLEN : Hid (∀ xs, (tkF S.node k S.T xs).1.length < 1000) := Lib.hid fun xs => by rw [tkF_len hone]; exact hT
  have HKK := Lib.hid hkk
  have HK := Lib.hid hk
  have HK1 := Lib.hid hK1
  have HMEM : Hid (∀ y ∈ ns, ∃ e ∈ S.T, (e.n : Int) = y) := Lib.hid fun y hy => numsT_mem (by rw [← hns]; exact hy)
  clear h hk hok hT hos hS1 hO1 hns hN hkk hK1 hone
  go_enter Tryz.func14, Tryz.ntmps14
  go_wp2_with (first
    | (go_at_call 22; refine HC.out.mono ?_; rintro e w1 ⟨rfl, rfl⟩)
    | (go_at_call 17; refine HPD.out.mono ?_; rintro e w1 ⟨v16, rfl, ho1, hb1⟩
       rw [← HNS.out] at ho1
       obtain ⟨A16, c16, rfl, _⟩ := id ho1.2
       rw [HN.out] at ho1 ⊢
       have HO16 := Lib.hid ho1
       have HB1 := Lib.hid hb1
       have hst : TkL w B S k (w.setCell ⟨S.c, 4, none⟩ (.int .i64 K1)).heap.size ns A16 N c16 (.int .i64 0) w1 := ⟨0, S.ov, [], rfl, Nat.zero_le _, by simp only [TkS, tkF, List.take_zero, List.foldl_nil, List.append_nil]; exact HS1.out.below hb1, rfl, ⟨(HO1.out.trans (Only.of_below (K := (· = S.c)) hb1) fun _ _ h => h).more fun j _ hj => .inl hj, fun j hj => .inl hj⟩, ho1⟩
       have HST := Lib.hid hst
       clear ho1 hb1 hst))
  go_loopw [18] (fun v18 wr => TkL w B S k (w.setCell ⟨S.c, 4, none⟩ (.int .i64 K1)).heap.size ns A16 N c16 v18 wr) (fun v18 _ => N - (intOf v18).toNat)
  case atStart => exact HST.out
  case round =>
    obtain ⟨i, v, os1, rfl, hi, hco, hcr, hfr, hoi⟩ := hrel
    by_cases hlt : i < N
    · have hlti : (i : Int) < (N : Int) := by omega
      obtain ⟨y, hy⟩ : ∃ y, ns[i]? = some y := ⟨_, List.getElem?_eq_getElem (by rw [HN.out]; exact hlt)⟩
      obtain ⟨b16, o16, hA, hb16, hc16⟩ := hoi.rd (fun e => by rw [e] at hy; simp at hy)
      subst hA
      have y0 := hc16 i y hy
      have hNc : (N : Int) ≤ (c16 : Int) := by
        obtain ⟨_, _, e, hle⟩ := hoi.2
        injection e with _ e2 e3
        rw [HN.out] at hle
        omega
      obtain ⟨ok1, ok2, ok3⟩ := tkF_ok (node := S.node) HOK.out (ns.take i)
      obtain ⟨e0, he0, hn0⟩ := HMEM.out y (List.mem_of_getElem? hy)
      obtain ⟨e, he⟩ := Option.isSome_iff_exists.1 (ok3 _ (findT_mem he0))
      obtain ⟨heT, hen⟩ := findT_some he
      obtain ⟨hes, hea, heo, henn, het⟩ := ok1 e heT
      have hen2 : (e.n : Int) = y := by rw [hen]; exact hn0
      have hxi : i64ok (e.n : Int) := by unfold i64ok; omega
      have hlk := hco.map.look hxi
      have hstep := tkF_snoc (node := S.node) (k := k) (T := S.T) hy
      rw [hen] at hlk
      unfold stT at hlk
      simp only [TkS, he, Te.v, teV] at hlk
      rw [hn0] at hlk
      have hk1 : tk1 S.node k (tkF S.node k S.T (ns.take i)) y = if e.due k then (putT (tkF S.node k S.T (ns.take i)).1 { e with t := k }, (tkF S.node k S.T (ns.take i)).2 ++ coreL e.ask S.node e.n e.nn (nodesI e.o)) else tkF S.node k S.T (ns.take i) := by
        unfold tk1
        rw [show y.toNat = e0.n by omega, he]
      obtain ⟨c0, c1, c2, c3, c4, c5, c6⟩ := box7_ hco.box
      simp only [TkS] at c0 c1 c2 c3 c4 c5 c6
      rw [← HK1.out] at c4
      obtain ⟨S1, hS1⟩ : ∃ z : Int, z = (e.s : Int) := ⟨_, rfl⟩
      obtain ⟨A1, hA1⟩ : ∃ z : Int, z = (e.a : Int) := ⟨_, rfl⟩
      obtain ⟨O1, hO1⟩ : ∃ z : Int, z = (e.o : Int) := ⟨_, rfl⟩
      obtain ⟨Y1, hY1⟩ : ∃ z : Int, z = (e.y : Int) := ⟨_, rfl⟩
      obtain ⟨T1, hT1⟩ : ∃ z : Int, z = (e.t : Int) := ⟨_, rfl⟩
      have hkk := HK1.out
      have hkt := HKK.out
      have hks := HK.out
      have w2 : IntKind.i64.wrap (K1 - T1) = K1 - T1 := by rw [IntKind.wrap_i64]; omega
      rw [← hS1, ← hA1, ← hO1, ← hY1, ← hT1] at hlk
      have HNX : Hid (e.due k = false → ∀ W, Below wr.heap.size wr W → TkL w B S k (w.setCell ⟨S.c, 4, none⟩ (.int .i64 K1)).heap.size ns (some ⟨b16, o16, none⟩) N c16 (.int .i64 ((i + 1 : Nat) : Int)) W) := Lib.hid fun hdu W hb => by
        rw [hdu] at hk1
        refine ⟨i + 1, v, os1, rfl, by omega, ?_, ?_, ⟨hfr.1.trans (Only.of_below hb) fun _ _ h => h, hfr.2⟩, hoi.below hb⟩
        · unfold TkS
          rw [hstep, hk1]
          exact hco.below hb
        · rw [hstep, hk1]
          exact hcr
      by_cases hdu : e.due k = true
      · have hdu2 : ¬ S1 = 1 ∧ ¬ K1 - T1 < 5 := by
          simp only [Te.due, Bool.and_eq_true, Bool.not_eq_true', decide_eq_false_iff_not, decide_eq_true_eq] at hdu
          omega
        obtain ⟨h1, h2⟩ := hdu2
        have q1 : (S1 == 1) = false := by simpa using h1
        rw [hdu] at hk1
        have HK1T := Lib.hid hk1
        have HSTP := Lib.hid hstep
        have HCO := Lib.hid hco
        have HCR := Lib.hid hcr
        have HFR := Lib.hid hfr
        have HOI := Lib.hid hoi
        have HLT := Lib.hid hlt
        have HEF := Lib.hid (And.intro hS1 (And.intro hA1 (And.intro hO1 (And.intro hY1 hT1))))
        have HEB := Lib.hid (And.intro hes (And.intro hea (And.intro heo hxi)))
        have HEN := Lib.hid hen2
        have hbx := heap_alloc_new wr (.cells #[.int .i64 S1, .int .i64 A1, .int .i64 O1, .int .i64 Y1, .int .i64 T1] 61)
        obtain ⟨gt, hgt⟩ : ∃ gt, wr.heap.size = gt := ⟨_, rfl⟩
        have HGT := Lib.hid hgt
        rw [hgt] at hbx
        have HBX := Lib.hid hbx
        have HCL : Hid (S.c < wr.heap.size) := Lib.hid hco.lt
        obtain ⟨z0, _, _, _, z4⟩ := box5 hbx
        have hSS : (fun W : World => W.cell? ⟨S.c, 4, none⟩ = some (.int .i64 K1) ∧ W.cell? ⟨gt, 0, none⟩ = some (.int .i64 S1) ∧ W.cell? ⟨gt, 4, none⟩ = some (.int .i64 T1)) (wr.alloc (.cells #[.int .i64 S1, .int .i64 A1, .int .i64 O1, .int .i64 Y1, .int .i64 T1] 61)).drew := ⟨(World.cell?_of_block ((alloc_below wr (.cells #[.int .i64 S1, .int .i64 A1, .int .i64 O1, .int .i64 Y1, .int .i64 T1] 61)).block _ HCL.out)).trans c4, z0, z4⟩
        clear hi hco hcr hfr hoi hlt hy hb16 hc16 ok1 ok2 ok3 he0 hn0 he heT hen hes hea heo henn het hen2 hxi hstep hk1 hS1 hA1 hO1 hY1 hT1 hkk hkt hks hdu HNX hbx hgt z0 z4 h1
        go_upto_region 8 with fail
        rw [HGT.out]
        refine wp_region_held_drew (S := (fun W : World => W.cell? ⟨S.c, 4, none⟩ = some (.int .i64 K1) ∧ W.cell? ⟨gt, 0, none⟩ = some (.int .i64 S1) ∧ W.cell? ⟨gt, 4, none⟩ = some (.int .i64 T1))) (by kernel_rfl) hSS (fun _ => ?_)
        refine wpAnyH_take (i := 0) (oi := ({ dst := Option.some 28, op := Go.Op.fieldAddr 61 (Go.Operand.tmp 5) 0, type := 0, pos := "coordinator.go:112", after := #[], guard := Option.none } : Oper)) (v := ?v0x12) rfl (by kernel_rfl) (by kernel_rfl) (by kernel_rfl) (fun _ _ _ h => h) (Or.inl ⟨by rfl, ?hy0x12⟩) hSS ?rest0x12
        case hy0x12 =>
          intro W0 hSw
          obtain ⟨s0, s1, s2⟩ := hSw
          go_simp
          first | done | with_reducible rfl
        try simp only [Act.put, List.setIfInBounds_toArray, List.set_cons_zero, List.set_cons_succ]
        refine wpAnyH_take (i := 1) (oi := ({ dst := Option.some 29, op := Go.Op.load 58 (Go.Operand.tmp 28), type := 58, pos := "coordinator.go:112", after := #[{ on := 0, ground := Go.Ground.data }], guard := Option.none } : Oper)) (v := ?v1x13) rfl (by kernel_rfl) (by kernel_rfl) (by kernel_rfl) (fun _ _ _ h => h) (Or.inl ⟨by rfl, ?hy1x13⟩) hSS ?rest1x13
        case hy1x13 =>
          intro W0 hSw
          obtain ⟨s0, s1, s2⟩ := hSw
          go_simp
          first | done | with_reducible rfl
        try simp only [Act.put, List.setIfInBounds_toArray, List.set_cons_zero, List.set_cons_succ]
        refine wpAnyH_take (i := 2) (oi := ({ dst := Option.some 30, op := Go.Op.binOp Go.BinOp.eql 58 (Go.Operand.tmp 29) (Go.Operand.const (Go.Value.int Go.IntKind.i64 1)) 58, type := 4, pos := "coordinator.go:112", after := #[{ on := 1, ground := Go.Ground.data }], guard := Option.none } : Oper)) (v := ?v2x14) rfl (by kernel_rfl) (by kernel_rfl) (by kernel_rfl) (fun _ _ _ h => h) (Or.inl ⟨by rfl, ?hy2x14⟩) hSS ?rest2x14
        case hy2x14 =>
          intro W0 hSw
          obtain ⟨s0, s1, s2⟩ := hSw
          go_simp
          first | done | with_reducible rfl
        try simp only [Act.put, List.setIfInBounds_toArray, List.set_cons_zero, List.set_cons_succ]
        refine wpAnyH_take (i := 3) (oi := ({ dst := Option.some 31, op := Go.Op.move (Go.Operand.tmp 30), type := 4, pos := "coordinator.go:112", after := #[{ on := 2, ground := Go.Ground.data }], guard := Option.none } : Oper)) (v := ?v3x15) rfl (by kernel_rfl) (by kernel_rfl) (by kernel_rfl) (fun _ _ _ h => h) (Or.inl ⟨by rfl, ?hy3x15⟩) hSS ?rest3x15
        case hy3x15 =>
          intro W0 hSw
          obtain ⟨s0, s1, s2⟩ := hSw
          go_simp
          first | done | with_reducible rfl
        try simp only [Act.put, List.setIfInBounds_toArray, List.set_cons_zero, List.set_cons_succ]
        refine wpAnyH_take (i := 4) (oi := ({ dst := Option.some 32, op := Go.Op.move (Go.Operand.tmp 0), type := 23, pos := "coordinator.go:112", after := #[{ on := 3, ground := Go.Ground.guard }], guard := Option.some (3, Bool.false) } : Oper)) (v := ?v4x16) rfl (by kernel_rfl) (by kernel_rfl) (by kernel_rfl) (fun _ _ _ h => h) (Or.inl ⟨by rfl, ?hy4x16⟩) hSS ?rest4x16
        case hy4x16 =>
          intro W0 hSw
          obtain ⟨s0, s1, s2⟩ := hSw
          go_simp
          first | done | with_reducible rfl
        try simp only [Act.put, List.setIfInBounds_toArray, List.set_cons_zero, List.set_cons_succ]
        refine wpAnyH_take (i := 5) (oi := ({ dst := Option.some 33, op := Go.Op.nilCheck (Go.Operand.tmp 32), type := 0, pos := "coordinator.go:112", after := #[{ on := 4, ground := Go.Ground.data }, { on := 3, ground := Go.Ground.guard }], guard := Option.some (3, Bool.false) } : Oper)) (v := ?v5x17) rfl (by kernel_rfl) (by kernel_rfl) (by kernel_rfl) (fun _ _ _ h => h) (Or.inl ⟨by rfl, ?hy5x17⟩) hSS ?rest5x17
        case hy5x17 =>
          intro W0 hSw
          obtain ⟨s0, s1, s2⟩ := hSw
          go_simp
          first | done | with_reducible rfl
        try simp only [Act.put, List.setIfInBounds_toArray, List.set_cons_zero, List.set_cons_succ]
        refine wpAnyH_take (i := 6) (oi := ({ dst := Option.some 34, op := Go.Op.fieldAddr 57 (Go.Operand.tmp 33) 4, type := 0, pos := "coordinator.go:112", after := #[{ on := 5, ground := Go.Ground.data }, { on := 3, ground := Go.Ground.guard }], guard := Option.some (3, Bool.false) } : Oper)) (v := ?v6x18) rfl (by kernel_rfl) (by kernel_rfl) (by kernel_rfl) (fun _ _ _ h => h) (Or.inl ⟨by rfl, ?hy6x18⟩) hSS ?rest6x18
        case hy6x18 =>
          intro W0 hSw
          obtain ⟨s0, s1, s2⟩ := hSw
          go_simp
          first | done | with_reducible rfl
        try simp only [Act.put, List.setIfInBounds_toArray, List.set_cons_zero, List.set_cons_succ]
        refine wpAnyH_take (i := 7) (oi := ({ dst := Option.some 35, op := Go.Op.load 3 (Go.Operand.tmp 34), type := 3, pos := "coordinator.go:112", after := #[{ on := 6, ground := Go.Ground.data }, { on := 3, ground := Go.Ground.guard }], guard := Option.some (3, Bool.false) } : Oper)) (v := ?v7x19) rfl (by kernel_rfl) (by kernel_rfl) (by kernel_rfl) (fun _ _ _ h => h) (Or.inl ⟨by rfl, ?hy7x19⟩) hSS ?rest7x19
        case hy7x19 =>
          intro W0 hSw
          obtain ⟨s0, s1, s2⟩ := hSw
          go_simp
          first | done | with_reducible rfl
        try simp only [Act.put, List.setIfInBounds_toArray, List.set_cons_zero, List.set_cons_succ]
        refine wpAnyH_take (i := 8) (oi := ({ dst := Option.some 36, op := Go.Op.fieldAddr 61 (Go.Operand.tmp 5) 4, type := 0, pos := "coordinator.go:112", after := #[{ on := 3, ground := Go.Ground.guard }], guard := Option.some (3, Bool.false) } : Oper)) (v := ?v8x20) rfl (by kernel_rfl) (by kernel_rfl) (by kernel_rfl) (fun _ _ _ h => h) (Or.inl ⟨by rfl, ?hy8x20⟩) hSS ?rest8x20
        case hy8x20 =>
          intro W0 hSw
          obtain ⟨s0, s1, s2⟩ := hSw
          go_simp
          first | done | with_reducible rfl
        try simp only [Act.put, List.setIfInBounds_toArray, List.set_cons_zero, List.set_cons_succ]
        refine wpAnyH_take (i := 9) (oi := ({ dst := Option.some 37, op := Go.Op.load 3 (Go.Operand.tmp 36), type := 3, pos := "coordinator.go:112", after := #[{ on := 8, ground := Go.Ground.data }, { on := 3, ground := Go.Ground.guard }], guard := Option.some (3, Bool.false) } : Oper)) (v := ?v9x21) rfl (by kernel_rfl) (by kernel_rfl) (by kernel_rfl) (fun _ _ _ h => h) (Or.inl ⟨by rfl, ?hy9x21⟩) hSS ?rest9x21
        case hy9x21 =>
          intro W0 hSw
          obtain ⟨s0, s1, s2⟩ := hSw
          go_simp
          first | done | with_reducible rfl
        try simp only [Act.put, List.setIfInBounds_toArray, List.set_cons_zero, List.set_cons_succ]
        refine wpAnyH_take (i := 10) (oi := ({ dst := Option.some 38, op := Go.Op.binOp Go.BinOp.sub 3 (Go.Operand.tmp 35) (Go.Operand.tmp 37) 3, type := 3, pos := "coordinator.go:112", after := #[{ on := 7, ground := Go.Ground.data }, { on := 9, ground := Go.Ground.data }, { on := 3, ground := Go.Ground.guard }], guard := Option.some (3, Bool.false) } : Oper)) (v := ?v10x22) rfl (by kernel_rfl) (by kernel_rfl) (by kernel_rfl) (fun _ _ _ h => h) (Or.inl ⟨by rfl, ?hy10x22⟩) hSS ?rest10x22
        case hy10x22 =>
          intro W0 hSw
          obtain ⟨s0, s1, s2⟩ := hSw
          go_simp
          first | done | with_reducible rfl
        try simp only [Act.put, List.setIfInBounds_toArray, List.set_cons_zero, List.set_cons_succ]
        refine wpAnyH_take (i := 11) (oi := ({ dst := Option.some 39, op := Go.Op.binOp Go.BinOp.lss 3 (Go.Operand.tmp 38) (Go.Operand.const (Go.Value.int Go.IntKind.i64 5)) 3, type := 4, pos := "coordinator.go:112", after := #[{ on := 10, ground := Go.Ground.data }, { on := 3, ground := Go.Ground.guard }], guard := Option.some (3, Bool.false) } : Oper)) (v := ?v11x23) rfl (by kernel_rfl) (by kernel_rfl) (by kernel_rfl) (fun _ _ _ h => h) (Or.inl ⟨by rfl, ?hy11x23⟩) hSS ?rest11x23
        case hy11x23 =>
          intro W0 hSw
          obtain ⟨s0, s1, s2⟩ := hSw
          go_simp
          first | done | with_reducible rfl
        try simp only [Act.put, List.setIfInBounds_toArray, List.set_cons_zero, List.set_cons_succ]
        refine wpAnyH_take (i := 12) (oi := ({ dst := Option.some 40, op := Go.Op.pick (Go.Operand.tmp 31) (Go.Operand.const (Go.Value.bool Bool.true)) (Go.Operand.tmp 39), type := 4, pos := "coordinator.go:112", after := #[{ on := 3, ground := Go.Ground.data }, { on := 11, ground := Go.Ground.data }], guard := Option.none } : Oper)) (v := ?v12x24) rfl (by kernel_rfl) (by kernel_rfl) (by kernel_rfl) (fun _ _ _ h => h) (Or.inl ⟨by rfl, ?hy12x24⟩) hSS ?rest12x24
        case hy12x24 =>
          intro W0 hSw
          obtain ⟨s0, s1, s2⟩ := hSw
          go_simp
          first | done | with_reducible rfl
        try simp only [Act.put, List.setIfInBounds_toArray, List.set_cons_zero, List.set_cons_succ]
        refine wpAnyH_done (by kernel_rfl) ?_ _
        try simp only [w2]
        obtain ⟨W8, hW8⟩ : ∃ W8, Hid (W8 = (wr.alloc (.cells #[.int .i64 S1, .int .i64 A1, .int .i64 O1, .int .i64 Y1, .int .i64 T1] 61)).drew) := ⟨_, Lib.hid rfl⟩
        rw [← hW8.out]
        have hb8 : Below wr.heap.size wr W8 := by rw [hW8.out]; exact (alloc_below wr _).trans ((drew_below _).mono (alloc_below wr _).size)
        have hx8 : W8.heap[gt]? = some (.cells #[.int .i64 S1, .int .i64 A1, .int .i64 O1, .int .i64 Y1, .int .i64 T1] 61 (0, 0)) := by rw [hW8.out]; exact HBX.out
        have HB8 := Lib.hid hb8
        have HX8 := Lib.hid hx8
        clear c0 c1 c2 c3 c4 c5 c6 hlk hSS
        obtain ⟨c0, c1, c2, c3, c4, c5, c6⟩ := box7_ (HCO.out.below hb8).box
        simp only [TkS] at c0 c1 c2 c3 c4 c5 c6
        rw [← HK1.out] at c4
        have f9 := frozen_of hx8 4
        obtain ⟨z0, z1, z2, z3, z4⟩ := box5 hx8
        clear hb8 hx8
        go_upto_region 10 with fail
        obtain ⟨W9, hW9⟩ : ∃ W9, Hid (W9 = W8.setCell ⟨gt, 4, none⟩ (.int .i64 K1)) := ⟨_, Lib.hid rfl⟩
        rw [← hW9.out]
        have hb9 : Below wr.heap.size wr W9 := by rw [hW9.out]; exact HB8.out.setCell (by rw [HGT.out]; exact Nat.le_refl _) _
        have hx9 : W9.drew.heap[gt]? = some (.cells #[.int .i64 S1, .int .i64 A1, .int .i64 O1, .int .i64 Y1, .int .i64 K1] 61 (0, 0)) := by
          rw [hW9.out]
          show (W8.setCell ⟨gt, 4, none⟩ (.int .i64 K1)).heap[gt]? = _
          simp [World.setCell, Array.getElem?_modify, HX8.out]
        have hbd := hb9.trans ((drew_below W9).mono hb9.size)
        have hcd := HCO.out.below hbd
        obtain ⟨e1, e2, e3, e4, e5⟩ := HEF.out
        obtain ⟨es1, es2, es3, es4⟩ := HEB.out
        obtain ⟨T0, hT0⟩ : ∃ T0, T0 = (tkF S.node k S.T (ns.take i)).1 := ⟨_, rfl⟩
        have hlen9 : (TkS S k (ns.take i) v os1).T.length < 1000 := HLEN.out _
        obtain ⟨w10, hmp, hm10, hOm⟩ := hcd.map.store hlen9 es4 e.s e.a e.o e.y k (.agg #[.int .i64 S1, .int .i64 A1, .int .i64 O1, .int .i64 Y1, .int .i64 K1]) (by rw [e1, e2, e3, e4, HK1.out]; rfl)
        have hc10 := hcd.mapped hOm hm10
        rw [HEN.out] at hmp
        have hmp2 : (Instr.mapUpdate 55 (.map (some S.m)) (.int .i64 y) (.agg #[.int .i64 S1, .int .i64 A1, .int .i64 O1, .int .i64 Y1, .int .i64 K1])).run Tryz.prog W9.drew = .ok () w10 := hmp
        clear hmp
        obtain ⟨QK, hQK⟩ : ∃ z : Int, z = if S1 = 3 then 5 else 1 := ⟨_, rfl⟩
        have HQ : Hid (∀ W, Calls Tryz.prog 29 #[.agg #[.int .i64 S1, .int .i64 A1, .int .i64 O1, .int .i64 Y1, .int .i64 K1]] W (Ans (.int .i64 QK) W)) := Lib.hid fun W => by
          rw [hQK]
          exact question_any S1 A1 O1 Y1 K1 (by rw [e1]; omega) W
        have hgl : gt < W9.drew.heap.size := lt_of_heap hx9
        have hx10 := (hOm.block gt hgl (hcd.map.noCells hx9)).trans hx9
        have HX10 := Lib.hid hx10
        have HS10 : Hid ((fun W : World => W.cell? ⟨S.c, 5, none⟩ = some (.map (some S.m)) ∧ W.cell? ⟨gt, 0, none⟩ = some (.int .i64 S1) ∧ W.cell? ⟨gt, 1, none⟩ = some (.int .i64 A1) ∧ W.cell? ⟨gt, 2, none⟩ = some (.int .i64 O1) ∧ W.cell? ⟨gt, 3, none⟩ = some (.int .i64 Y1) ∧ W.cell? ⟨gt, 4, none⟩ = some (.int .i64 K1)) w10) := Lib.hid ⟨(box7_ hc10.box).2.2.2.2.2.1, box5 hx10⟩
        have hSS : (fun W : World => W.cell? ⟨S.c, 5, none⟩ = some (.map (some S.m)) ∧ W.cell? ⟨gt, 0, none⟩ = some (.int .i64 S1) ∧ W.cell? ⟨gt, 1, none⟩ = some (.int .i64 A1) ∧ W.cell? ⟨gt, 2, none⟩ = some (.int .i64 O1) ∧ W.cell? ⟨gt, 3, none⟩ = some (.int .i64 Y1) ∧ W.cell? ⟨gt, 4, none⟩ = some (.int .i64 K1)) W9.drew := ⟨(box7_ hcd.box).2.2.2.2.2.1, box5 hx9⟩
        have HS11 : Hid (∀ W, Below w10.heap.size w10 W → (fun W : World => W.cell? ⟨gt, 0, none⟩ = some (.int .i64 S1) ∧ W.cell? ⟨gt, 1, none⟩ = some (.int .i64 A1) ∧ W.cell? ⟨gt, 2, none⟩ = some (.int .i64 O1) ∧ W.cell? ⟨gt, 3, none⟩ = some (.int .i64 Y1) ∧ W.cell? ⟨gt, 4, none⟩ = some (.int .i64 K1)) W) := Lib.hid fun W hb => box5 ((hb.block gt (lt_of_heap hx10)).trans hx10)
        have HSTEP : Hid (tkF S.node k S.T (ns.take (i + 1)) = (putT (tkF S.node k S.T (ns.take i)).1 { e with t := k }, (tkF S.node k S.T (ns.take i)).2 ++ coreL e.ask S.node e.n e.nn (nodesI e.o))) := Lib.hid (by rw [HSTP.out, HK1T.out, if_pos rfl])
        have hos2 : (S.os ++ os1).length ≤ 50000 := by
          rw [List.length_append]
          have h1 := congrArg List.length HCR.out
          have h2 := (tkF_ok (node := S.node) HOK.out (ns.take i)).2.1
          rw [List.length_map] at h1
          rw [List.length_take] at h2
          have := HOS.out
          have := HLT.out
          omega
        have hQ3 : e.ask = QK := by unfold Te.ask; rw [hQK, e1]; by_cases h3 : e.s = 3 <;> simp [h3]; omega
        have HSN : Hid (∀ W, Below w10.heap.size w10 W → Calls Tryz.prog 25 #[.pointer (some ⟨S.c, 0, none⟩), .int .i64 QK, .int .i64 y, .int .i64 O1] W (fun en w' => en = .returned (.tuple #[]) ∧ (fun W : World => W.cell? ⟨gt, 0, none⟩ = some (.int .i64 S1) ∧ W.cell? ⟨gt, 1, none⟩ = some (.int .i64 A1) ∧ W.cell? ⟨gt, 2, none⟩ = some (.int .i64 O1) ∧ W.cell? ⟨gt, 3, none⟩ = some (.int .i64 Y1) ∧ W.cell? ⟨gt, 4, none⟩ = some (.int .i64 K1)) w' ∧ TkL w B S k (w.setCell ⟨S.c, 4, none⟩ (.int .i64 K1)).heap.size ns (some ⟨b16, o16, none⟩) N c16 (.int .i64 ((i + 1 : Nat) : Int)) w')) := Lib.hid fun W hb => by
          have hsn : Calls Tryz.prog 25 #[.pointer (some ⟨S.c, 0, none⟩), .int .i64 e.ask, .int .i64 (e.n : Int), .int .i64 (e.o : Int)] W (SnT W B { TkS S k (ns.take i) v os1 with T := putT (tkF S.node k S.T (ns.take i)).1 { e with t := k } } e.ask e.n e.nn (nodesI e.o)) := by
            by_cases h3 : e.s = 3
            · exact send_no (hc10.below hb) _ (by unfold Te.ask; rw [if_pos h3]; decide) es3 hos2 _ (by unfold Te.nn; rw [if_pos h3])
            · exact send_yes (hc10.below hb) _ es4 (by unfold Te.ask; rw [if_neg h3]) { e with t := k } (findT_put _ { e with t := k }) es2 es3 hos2 _ (by unfold Te.nn; rw [if_neg h3])
          rw [← hQ3, e3, ← HEN.out]
          refine hsn.mono fun en w' hs => ⟨hs.1, ?_, tk_sent HFR.out HOI.out HCR.out HLT.out hbd hcd hOm hc10 hb HSTEP.out hs⟩
          have h6 := (hb.block gt (lt_of_heap hx10)).trans hx10
          rw [e3] at h6
          obtain ⟨_, v', os2, _, _, h7⟩ := hs
          refine box5 ((h7.1.block gt (lt_of_heap h6) fun hj => ?_).trans h6)
          have hgg := HGT.out
          rcases hj with hj | hj
          · have := HCL.out; simp only [TkS] at hj; omega
          · obtain ⟨cs, hh⟩ := HCO.out.out.blk gt hj
            have := lt_of_heap hh
            omega
        clear hb9 hx9 hbd hcd e1 e2 e3 e4 e5 es1 es2 es3 es4 hlen9 hm10 hOm hc10 hQK hgl hx10 hos2 hQ3 c0 c1 c2 c3 c4 c5 c6 f9 z0 z1 z2 z3 z4
        refine wp_region_held_drew (S := (fun W : World => W.cell? ⟨S.c, 5, none⟩ = some (.map (some S.m)) ∧ W.cell? ⟨gt, 0, none⟩ = some (.int .i64 S1) ∧ W.cell? ⟨gt, 1, none⟩ = some (.int .i64 A1) ∧ W.cell? ⟨gt, 2, none⟩ = some (.int .i64 O1) ∧ W.cell? ⟨gt, 3, none⟩ = some (.int .i64 Y1) ∧ W.cell? ⟨gt, 4, none⟩ = some (.int .i64 K1))) (by kernel_rfl) hSS (fun _ => ?_)
        refine wpAnyH_take (i := 0) (oi := ({ dst := Option.some 46, op := Go.Op.move (Go.Operand.tmp 0), type := 23, pos := "coordinator.go:116", after := #[], guard := Option.none } : Oper)) (v := ?v0x1) rfl (by kernel_rfl) (by kernel_rfl) (by kernel_rfl) (fun _ _ _ h => h) (Or.inl ⟨by rfl, ?hy0x1⟩) hSS ?rest0x1
        case hy0x1 =>
          intro W0 hSw
          obtain ⟨s0, s1, s2, s3, s4, s5⟩ := hSw
          go_simp
          first | done | with_reducible rfl
        try simp only [Act.put, List.setIfInBounds_toArray, List.set_cons_zero, List.set_cons_succ]
        refine wpAnyH_take (i := 1) (oi := ({ dst := Option.some 47, op := Go.Op.nilCheck (Go.Operand.tmp 46), type := 0, pos := "coordinator.go:116", after := #[{ on := 0, ground := Go.Ground.data }], guard := Option.none } : Oper)) (v := ?v1x2) rfl (by kernel_rfl) (by kernel_rfl) (by kernel_rfl) (fun _ _ _ h => h) (Or.inl ⟨by rfl, ?hy1x2⟩) hSS ?rest1x2
        case hy1x2 =>
          intro W0 hSw
          obtain ⟨s0, s1, s2, s3, s4, s5⟩ := hSw
          go_simp
          first | done | with_reducible rfl
        try simp only [Act.put, List.setIfInBounds_toArray, List.set_cons_zero, List.set_cons_succ]
        refine wpAnyH_take (i := 2) (oi := ({ dst := Option.some 48, op := Go.Op.fieldAddr 57 (Go.Operand.tmp 47) 5, type := 0, pos := "coordinator.go:116", after := #[{ on := 1, ground := Go.Ground.data }], guard := Option.none } : Oper)) (v := ?v2x3) rfl (by kernel_rfl) (by kernel_rfl) (by kernel_rfl) (fun _ _ _ h => h) (Or.inl ⟨by rfl, ?hy2x3⟩) hSS ?rest2x3
        case hy2x3 =>
          intro W0 hSw
          obtain ⟨s0, s1, s2, s3, s4, s5⟩ := hSw
          go_simp
          first | done | with_reducible rfl
        try simp only [Act.put, List.setIfInBounds_toArray, List.set_cons_zero, List.set_cons_succ]
        refine wpAnyH_take (i := 3) (oi := ({ dst := Option.some 49, op := Go.Op.load 55 (Go.Operand.tmp 48), type := 55, pos := "coordinator.go:116", after := #[{ on := 2, ground := Go.Ground.data }], guard := Option.none } : Oper)) (v := ?v3x4) rfl (by kernel_rfl) (by kernel_rfl) (by kernel_rfl) (fun _ _ _ h => h) (Or.inl ⟨by rfl, ?hy3x4⟩) hSS ?rest3x4
        case hy3x4 =>
          intro W0 hSw
          obtain ⟨s0, s1, s2, s3, s4, s5⟩ := hSw
          go_simp
          first | done | with_reducible rfl
        try simp only [Act.put, List.setIfInBounds_toArray, List.set_cons_zero, List.set_cons_succ]
        refine wpAnyH_take (i := 4) (oi := ({ dst := Option.some 50, op := Go.Op.move (Go.Operand.tmp 4), type := 3, pos := "coordinator.go:116", after := #[], guard := Option.none } : Oper)) (v := ?v4x5) rfl (by kernel_rfl) (by kernel_rfl) (by kernel_rfl) (fun _ _ _ h => h) (Or.inl ⟨by rfl, ?hy4x5⟩) hSS ?rest4x5
        case hy4x5 =>
          intro W0 hSw
          obtain ⟨s0, s1, s2, s3, s4, s5⟩ := hSw
          go_simp
          first | done | with_reducible rfl
        try simp only [Act.put, List.setIfInBounds_toArray, List.set_cons_zero, List.set_cons_succ]
        refine wpAnyH_take (i := 5) (oi := ({ dst := Option.some 51, op := Go.Op.load 61 (Go.Operand.tmp 5), type := 61, pos := "coordinator.go:116", after := #[], guard := Option.none } : Oper)) (v := ?v5x6) rfl (by kernel_rfl) (by kernel_rfl) (by kernel_rfl) (fun _ _ _ h => h) (Or.inl ⟨by rfl, ?hy5x6⟩) hSS ?rest5x6
        case hy5x6 =>
          intro W0 hSw
          obtain ⟨s0, s1, s2, s3, s4, s5⟩ := hSw
          go_simp
          first | done | with_reducible rfl
        try simp only [Act.put, List.setIfInBounds_toArray, List.set_cons_zero, List.set_cons_succ]
        refine wpAnyH_ready (rs := [6]) (by kernel_rfl) (by simp) ?_
        refine AllReadyH.cons (o := ({ dst := Option.none, op := Go.Op.mapUpdate 55 (Go.Operand.tmp 49) (Go.Operand.tmp 50) (Go.Operand.tmp 51), type := 0, pos := "coordinator.go:116", after := #[{ on := 3, ground := Go.Ground.data }, { on := 4, ground := Go.Ground.data }, { on := 5, ground := Go.Ground.data }, { on := 0, ground := Go.Ground.phase }, { on := 1, ground := Go.Ground.phase }, { on := 2, ground := Go.Ground.phase }, { on := 3, ground := Go.Ground.phase }, { on := 4, ground := Go.Ground.phase }, { on := 5, ground := Go.Ground.phase }], guard := Option.none } : Oper)) rfl (fun K0 hK0 => ?_) AllReadyH.nil
        go_simp
        refine hK0.out _ _ HS10.out (fun _ => ?_)
        clear hK0 K0
        try simp only [Act.put, List.setIfInBounds_toArray, List.set_cons_zero, List.set_cons_succ]
        refine wpAnyH_done (by kernel_rfl) ?_ _
        go_upto_region 11 with fail
        have hSS := HS11.out _ (drew_below w10)
        refine wp_region_held_drew (S := (fun W : World => W.cell? ⟨gt, 0, none⟩ = some (.int .i64 S1) ∧ W.cell? ⟨gt, 1, none⟩ = some (.int .i64 A1) ∧ W.cell? ⟨gt, 2, none⟩ = some (.int .i64 O1) ∧ W.cell? ⟨gt, 3, none⟩ = some (.int .i64 Y1) ∧ W.cell? ⟨gt, 4, none⟩ = some (.int .i64 K1))) (by kernel_rfl) hSS (fun _ => ?_)
        refine wpAnyH_take (i := 0) (oi := ({ dst := Option.some 52, op := Go.Op.move (Go.Operand.tmp 0), type := 23, pos := "coordinator.go:117", after := #[], guard := Option.none } : Oper)) (v := ?v0x7) rfl (by kernel_rfl) (by kernel_rfl) (by kernel_rfl) (fun _ _ _ h => h) (Or.inl ⟨by rfl, ?hy0x7⟩) hSS ?rest0x7
        case hy0x7 =>
          intro W0 hSw
          obtain ⟨s1, s2, s3, s4, s5⟩ := hSw
          go_simp
          first | done | with_reducible rfl
        try simp only [Act.put, List.setIfInBounds_toArray, List.set_cons_zero, List.set_cons_succ]
        refine wpAnyH_take (i := 1) (oi := ({ dst := Option.some 53, op := Go.Op.load 61 (Go.Operand.tmp 5), type := 61, pos := "coordinator.go:117", after := #[], guard := Option.none } : Oper)) (v := ?v1x8) rfl (by kernel_rfl) (by kernel_rfl) (by kernel_rfl) (fun _ _ _ h => h) (Or.inl ⟨by rfl, ?hy1x8⟩) hSS ?rest1x8
        case hy1x8 =>
          intro W0 hSw
          obtain ⟨s1, s2, s3, s4, s5⟩ := hSw
          go_simp
          first | done | with_reducible rfl
        try simp only [Act.put, List.setIfInBounds_toArray, List.set_cons_zero, List.set_cons_succ]
        refine wpAnyH_take (i := 3) (oi := ({ dst := Option.some 55, op := Go.Op.move (Go.Operand.tmp 4), type := 3, pos := "coordinator.go:117", after := #[], guard := Option.none } : Oper)) (v := ?v3x9) rfl (by kernel_rfl) (by kernel_rfl) (by kernel_rfl) (fun _ _ _ h => h) (Or.inl ⟨by rfl, ?hy3x9⟩) hSS ?rest3x9
        case hy3x9 =>
          intro W0 hSw
          obtain ⟨s1, s2, s3, s4, s5⟩ := hSw
          go_simp
          first | done | with_reducible rfl
        try simp only [Act.put, List.setIfInBounds_toArray, List.set_cons_zero, List.set_cons_succ]
        refine wpAnyH_take (i := 4) (oi := ({ dst := Option.some 56, op := Go.Op.fieldAddr 61 (Go.Operand.tmp 5) 2, type := 0, pos := "coordinator.go:117", after := #[], guard := Option.none } : Oper)) (v := ?v4x10) rfl (by kernel_rfl) (by kernel_rfl) (by kernel_rfl) (fun _ _ _ h => h) (Or.inl ⟨by rfl, ?hy4x10⟩) hSS ?rest4x10
        case hy4x10 =>
          intro W0 hSw
          obtain ⟨s1, s2, s3, s4, s5⟩ := hSw
          go_simp
          first | done | with_reducible rfl
        try simp only [Act.put, List.setIfInBounds_toArray, List.set_cons_zero, List.set_cons_succ]
        refine wpAnyH_take (i := 5) (oi := ({ dst := Option.some 57, op := Go.Op.load 59 (Go.Operand.tmp 56), type := 59, pos := "coordinator.go:117", after := #[{ on := 4, ground := Go.Ground.data }], guard := Option.none } : Oper)) (v := ?v5x11) rfl (by kernel_rfl) (by kernel_rfl) (by kernel_rfl) (fun _ _ _ h => h) (Or.inl ⟨by rfl, ?hy5x11⟩) hSS ?rest5x11
        case hy5x11 =>
          intro W0 hSw
          obtain ⟨s1, s2, s3, s4, s5⟩ := hSw
          go_simp
          first | done | with_reducible rfl
        try simp only [Act.put, List.setIfInBounds_toArray, List.set_cons_zero, List.set_cons_succ]
        refine wpAnyH_ready (rs := [2]) (by kernel_rfl) (by simp) ?_
        refine AllReadyH.cons (o := ({ dst := Option.some 54, op := Go.Op.call { callee := Go.Callee.value (Go.Operand.func 29), args := #[Go.Operand.tmp 53], argTypes := #[61] }, type := 34, pos := "coordinator.go:117", after := #[{ on := 1, ground := Go.Ground.data }], guard := Option.none } : Oper)) rfl (fun K0 hK0 => ?_) AllReadyH.nil
        go_simp
        go_at_call 29
        refine (HQ.out _).mono ?_
        rintro e1 w11 ⟨rfl, hb11⟩
        have HB11 := Lib.hid ((drew_below w10).trans (hb11.mono (drew_below w10).size))
        have hSS2 := HS11.out _ HB11.out
        clear hb11
        try go_wp2_with fail
        refine hK0.out _ _ hSS2 (fun _ => ?_)
        clear hK0 K0
        try simp only [Act.put, List.setIfInBounds_toArray, List.set_cons_zero, List.set_cons_succ]
        refine wpAnyH_ready (rs := [6]) (by kernel_rfl) (by simp) ?_
        refine AllReadyH.cons (o := ({ dst := Option.some 58, op := Go.Op.call { callee := Go.Callee.value (Go.Operand.func 25), args := #[Go.Operand.tmp 52, Go.Operand.tmp 54, Go.Operand.tmp 55, Go.Operand.tmp 57], argTypes := #[23, 34, 3, 59] }, type := 0, pos := "coordinator.go:117", after := #[{ on := 0, ground := Go.Ground.data }, { on := 2, ground := Go.Ground.data }, { on := 3, ground := Go.Ground.data }, { on := 5, ground := Go.Ground.data }, { on := 2, ground := Go.Ground.chain }], guard := Option.none } : Oper)) rfl (fun K0 hK0 => ?_) AllReadyH.nil
        go_simp
        go_at_call 25
        refine (HSN.out _ HB11.out).mono ?_
        rintro e1 w12 ⟨rfl, hS12, htl⟩
        have HTL := Lib.hid htl
        clear htl
        try go_wp2_with fail
        refine hK0.out _ _ hS12 (fun _ => ?_)
        clear hK0 K0
        try simp only [Act.put, List.setIfInBounds_toArray, List.set_cons_zero, List.set_cons_succ]
        refine wpAnyH_done (by kernel_rfl) ?_ _
        go_wp2_with fail
        go_roundw
        case rel => exact HTL.out
        case measure => simp [intOf]; omega
      · have hdu2 : S1 = 1 ∨ (¬ S1 = 1 ∧ K1 - T1 < 5) := by
          simp only [Te.due, Bool.and_eq_true, Bool.not_eq_true', decide_eq_false_iff_not, decide_eq_true_eq] at hdu
          omega
        have HN2 := Lib.hid (HNX.out (by simpa using hdu))
        have HLT := Lib.hid hlt
        have HCL : Hid (S.c < wr.heap.size) := Lib.hid hco.lt
        clear hi hco hcr hfr hoi hlt hy hb16 hc16 ok1 ok2 ok3 he0 hn0 he heT hen hes hea heo henn het hen2 hxi hstep hk1 hS1 hA1 hO1 hY1 hT1 hkk hkt hks hdu HNX
        have hbx := heap_alloc_new wr (.cells #[.int .i64 S1, .int .i64 A1, .int .i64 O1, .int .i64 Y1, .int .i64 T1] 61)
        obtain ⟨z0, _, _, _, z4⟩ := box5 hbx
        have HSX : Hid ((fun W : World => W.cell? ⟨S.c, 4, none⟩ = some (.int .i64 K1) ∧ W.cell? ⟨wr.heap.size, 0, none⟩ = some (.int .i64 S1) ∧ W.cell? ⟨wr.heap.size, 4, none⟩ = some (.int .i64 T1)) (wr.alloc (.cells #[.int .i64 S1, .int .i64 A1, .int .i64 O1, .int .i64 Y1, .int .i64 T1] 61)).drew) := Lib.hid ⟨(World.cell?_of_block ((alloc_below wr (.cells #[.int .i64 S1, .int .i64 A1, .int .i64 O1, .int .i64 Y1, .int .i64 T1] 61)).block _ HCL.out)).trans c4, z0, z4⟩
        obtain ⟨gt, hgt⟩ : ∃ gt, wr.heap.size = gt := ⟨_, rfl⟩
        have HGT := Lib.hid hgt
        clear hbx z0 z4 hgt
        rcases hdu2 with h1 | ⟨h1, h2⟩
        · subst h1
          have hSS := HSX.out
          rw [HGT.out] at hSS
          go_upto_region 8 with fail
          rw [HGT.out]
          refine wp_region_held_drew (S := (fun W : World => W.cell? ⟨S.c, 4, none⟩ = some (.int .i64 K1) ∧ W.cell? ⟨gt, 0, none⟩ = some (.int .i64 1) ∧ W.cell? ⟨gt, 4, none⟩ = some (.int .i64 T1))) (by kernel_rfl) hSS (fun _ => ?_)
          refine wpAnyH_take (i := 0) (oi := ({ dst := Option.some 28, op := Go.Op.fieldAddr 61 (Go.Operand.tmp 5) 0, type := 0, pos := "coordinator.go:112", after := #[], guard := Option.none } : Oper)) (v := ?v0x25) rfl (by kernel_rfl) (by kernel_rfl) (by kernel_rfl) (fun _ _ _ h => h) (Or.inl ⟨by rfl, ?hy0x25⟩) hSS ?rest0x25
          case hy0x25 =>
            intro W0 hSw
            obtain ⟨s0, s1, s2⟩ := hSw
            go_simp
            first | done | with_reducible rfl
          try simp only [Act.put, List.setIfInBounds_toArray, List.set_cons_zero, List.set_cons_succ]
          refine wpAnyH_take (i := 1) (oi := ({ dst := Option.some 29, op := Go.Op.load 58 (Go.Operand.tmp 28), type := 58, pos := "coordinator.go:112", after := #[{ on := 0, ground := Go.Ground.data }], guard := Option.none } : Oper)) (v := ?v1x26) rfl (by kernel_rfl) (by kernel_rfl) (by kernel_rfl) (fun _ _ _ h => h) (Or.inl ⟨by rfl, ?hy1x26⟩) hSS ?rest1x26
          case hy1x26 =>
            intro W0 hSw
            obtain ⟨s0, s1, s2⟩ := hSw
            go_simp
            first | done | with_reducible rfl
          try simp only [Act.put, List.setIfInBounds_toArray, List.set_cons_zero, List.set_cons_succ]
          refine wpAnyH_take (i := 2) (oi := ({ dst := Option.some 30, op := Go.Op.binOp Go.BinOp.eql 58 (Go.Operand.tmp 29) (Go.Operand.const (Go.Value.int Go.IntKind.i64 1)) 58, type := 4, pos := "coordinator.go:112", after := #[{ on := 1, ground := Go.Ground.data }], guard := Option.none } : Oper)) (v := ?v2x27) rfl (by kernel_rfl) (by kernel_rfl) (by kernel_rfl) (fun _ _ _ h => h) (Or.inl ⟨by rfl, ?hy2x27⟩) hSS ?rest2x27
          case hy2x27 =>
            intro W0 hSw
            obtain ⟨s0, s1, s2⟩ := hSw
            go_simp
            first | done | with_reducible rfl
          try simp only [Act.put, List.setIfInBounds_toArray, List.set_cons_zero, List.set_cons_succ]
          refine wpAnyH_take (i := 3) (oi := ({ dst := Option.some 31, op := Go.Op.move (Go.Operand.tmp 30), type := 4, pos := "coordinator.go:112", after := #[{ on := 2, ground := Go.Ground.data }], guard := Option.none } : Oper)) (v := ?v3x28) rfl (by kernel_rfl) (by kernel_rfl) (by kernel_rfl) (fun _ _ _ h => h) (Or.inl ⟨by rfl, ?hy3x28⟩) hSS ?rest3x28
          case hy3x28 =>
            intro W0 hSw
            obtain ⟨s0, s1, s2⟩ := hSw
            go_simp
            first | done | with_reducible rfl
          try simp only [Act.put, List.setIfInBounds_toArray, List.set_cons_zero, List.set_cons_succ]
          refine wpAnyH_take (i := 4) (oi := ({ dst := Option.some 32, op := Go.Op.move (Go.Operand.tmp 0), type := 23, pos := "coordinator.go:112", after := #[{ on := 3, ground := Go.Ground.guard }], guard := Option.some (3, Bool.false) } : Oper)) (v := undef) rfl (by kernel_rfl) (by kernel_rfl) (by kernel_rfl) (fun _ _ _ h => h) (Or.inr ⟨by rfl, rfl⟩) hSS ?_
          try simp only [Act.put, List.setIfInBounds_toArray, List.set_cons_zero, List.set_cons_succ]
          refine wpAnyH_take (i := 5) (oi := ({ dst := Option.some 33, op := Go.Op.nilCheck (Go.Operand.tmp 32), type := 0, pos := "coordinator.go:112", after := #[{ on := 4, ground := Go.Ground.data }, { on := 3, ground := Go.Ground.guard }], guard := Option.some (3, Bool.false) } : Oper)) (v := undef) rfl (by kernel_rfl) (by kernel_rfl) (by kernel_rfl) (fun _ _ _ h => h) (Or.inr ⟨by rfl, rfl⟩) hSS ?_
          try simp only [Act.put, List.setIfInBounds_toArray, List.set_cons_zero, List.set_cons_succ]
          refine wpAnyH_take (i := 6) (oi := ({ dst := Option.some 34, op := Go.Op.fieldAddr 57 (Go.Operand.tmp 33) 4, type := 0, pos := "coordinator.go:112", after := #[{ on := 5, ground := Go.Ground.data }, { on := 3, ground := Go.Ground.guard }], guard := Option.some (3, Bool.false) } : Oper)) (v := undef) rfl (by kernel_rfl) (by kernel_rfl) (by kernel_rfl) (fun _ _ _ h => h) (Or.inr ⟨by rfl, rfl⟩) hSS ?_
          try simp only [Act.put, List.setIfInBounds_toArray, List.set_cons_zero, List.set_cons_succ]
          refine wpAnyH_take (i := 7) (oi := ({ dst := Option.some 35, op := Go.Op.load 3 (Go.Operand.tmp 34), type := 3, pos := "coordinator.go:112", after := #[{ on := 6, ground := Go.Ground.data }, { on := 3, ground := Go.Ground.guard }], guard := Option.some (3, Bool.false) } : Oper)) (v := undef) rfl (by kernel_rfl) (by kernel_rfl) (by kernel_rfl) (fun _ _ _ h => h) (Or.inr ⟨by rfl, rfl⟩) hSS ?_
          try simp only [Act.put, List.setIfInBounds_toArray, List.set_cons_zero, List.set_cons_succ]
          refine wpAnyH_take (i := 8) (oi := ({ dst := Option.some 36, op := Go.Op.fieldAddr 61 (Go.Operand.tmp 5) 4, type := 0, pos := "coordinator.go:112", after := #[{ on := 3, ground := Go.Ground.guard }], guard := Option.some (3, Bool.false) } : Oper)) (v := undef) rfl (by kernel_rfl) (by kernel_rfl) (by kernel_rfl) (fun _ _ _ h => h) (Or.inr ⟨by rfl, rfl⟩) hSS ?_
          try simp only [Act.put, List.setIfInBounds_toArray, List.set_cons_zero, List.set_cons_succ]
          refine wpAnyH_take (i := 9) (oi := ({ dst := Option.some 37, op := Go.Op.load 3 (Go.Operand.tmp 36), type := 3, pos := "coordinator.go:112", after := #[{ on := 8, ground := Go.Ground.data }, { on := 3, ground := Go.Ground.guard }], guard := Option.some (3, Bool.false) } : Oper)) (v := undef) rfl (by kernel_rfl) (by kernel_rfl) (by kernel_rfl) (fun _ _ _ h => h) (Or.inr ⟨by rfl, rfl⟩) hSS ?_
          try simp only [Act.put, List.setIfInBounds_toArray, List.set_cons_zero, List.set_cons_succ]
          refine wpAnyH_take (i := 10) (oi := ({ dst := Option.some 38, op := Go.Op.binOp Go.BinOp.sub 3 (Go.Operand.tmp 35) (Go.Operand.tmp 37) 3, type := 3, pos := "coordinator.go:112", after := #[{ on := 7, ground := Go.Ground.data }, { on := 9, ground := Go.Ground.data }, { on := 3, ground := Go.Ground.guard }], guard := Option.some (3, Bool.false) } : Oper)) (v := undef) rfl (by kernel_rfl) (by kernel_rfl) (by kernel_rfl) (fun _ _ _ h => h) (Or.inr ⟨by rfl, rfl⟩) hSS ?_
          try simp only [Act.put, List.setIfInBounds_toArray, List.set_cons_zero, List.set_cons_succ]
          refine wpAnyH_take (i := 11) (oi := ({ dst := Option.some 39, op := Go.Op.binOp Go.BinOp.lss 3 (Go.Operand.tmp 38) (Go.Operand.const (Go.Value.int Go.IntKind.i64 5)) 3, type := 4, pos := "coordinator.go:112", after := #[{ on := 10, ground := Go.Ground.data }, { on := 3, ground := Go.Ground.guard }], guard := Option.some (3, Bool.false) } : Oper)) (v := undef) rfl (by kernel_rfl) (by kernel_rfl) (by kernel_rfl) (fun _ _ _ h => h) (Or.inr ⟨by rfl, rfl⟩) hSS ?_
          try simp only [Act.put, List.setIfInBounds_toArray, List.set_cons_zero, List.set_cons_succ]
          refine wpAnyH_take (i := 12) (oi := ({ dst := Option.some 40, op := Go.Op.pick (Go.Operand.tmp 31) (Go.Operand.const (Go.Value.bool Bool.true)) (Go.Operand.tmp 39), type := 4, pos := "coordinator.go:112", after := #[{ on := 3, ground := Go.Ground.data }, { on := 11, ground := Go.Ground.data }], guard := Option.none } : Oper)) (v := ?v12x37) rfl (by kernel_rfl) (by kernel_rfl) (by kernel_rfl) (fun _ _ _ h => h) (Or.inl ⟨by rfl, ?hy12x37⟩) hSS ?rest12x37
          case hy12x37 =>
            intro W0 hSw
            obtain ⟨s0, s1, s2⟩ := hSw
            go_simp
            first | done | with_reducible rfl
          try simp only [Act.put, List.setIfInBounds_toArray, List.set_cons_zero, List.set_cons_succ]
          refine wpAnyH_done (by kernel_rfl) ?_ _
          go_wp2_with fail
          go_roundw
          case rel => exact HN2.out _ ((alloc_below wr _).trans ((drew_below _).mono (alloc_below wr _).size))
          case measure => simp [intOf]; omega
        · have q1 : (S1 == 1) = false := by simpa using h1
          clear h1
          have hSS := HSX.out
          rw [HGT.out] at hSS
          go_upto_region 8 with fail
          rw [HGT.out]
          refine wp_region_held_drew (S := (fun W : World => W.cell? ⟨S.c, 4, none⟩ = some (.int .i64 K1) ∧ W.cell? ⟨gt, 0, none⟩ = some (.int .i64 S1) ∧ W.cell? ⟨gt, 4, none⟩ = some (.int .i64 T1))) (by kernel_rfl) hSS (fun _ => ?_)
          refine wpAnyH_take (i := 0) (oi := ({ dst := Option.some 28, op := Go.Op.fieldAddr 61 (Go.Operand.tmp 5) 0, type := 0, pos := "coordinator.go:112", after := #[], guard := Option.none } : Oper)) (v := ?v0x38) rfl (by kernel_rfl) (by kernel_rfl) (by kernel_rfl) (fun _ _ _ h => h) (Or.inl ⟨by rfl, ?hy0x38⟩) hSS ?rest0x38
          case hy0x38 =>
            intro W0 hSw
            obtain ⟨s0, s1, s2⟩ := hSw
            go_simp
            first | done | with_reducible rfl
          try simp only [Act.put, List.setIfInBounds_toArray, List.set_cons_zero, List.set_cons_succ]
          refine wpAnyH_take (i := 1) (oi := ({ dst := Option.some 29, op := Go.Op.load 58 (Go.Operand.tmp 28), type := 58, pos := "coordinator.go:112", after := #[{ on := 0, ground := Go.Ground.data }], guard := Option.none } : Oper)) (v := ?v1x39) rfl (by kernel_rfl) (by kernel_rfl) (by kernel_rfl) (fun _ _ _ h => h) (Or.inl ⟨by rfl, ?hy1x39⟩) hSS ?rest1x39
          case hy1x39 =>
            intro W0 hSw
            obtain ⟨s0, s1, s2⟩ := hSw
            go_simp
            first | done | with_reducible rfl
          try simp only [Act.put, List.setIfInBounds_toArray, List.set_cons_zero, List.set_cons_succ]
          refine wpAnyH_take (i := 2) (oi := ({ dst := Option.some 30, op := Go.Op.binOp Go.BinOp.eql 58 (Go.Operand.tmp 29) (Go.Operand.const (Go.Value.int Go.IntKind.i64 1)) 58, type := 4, pos := "coordinator.go:112", after := #[{ on := 1, ground := Go.Ground.data }], guard := Option.none } : Oper)) (v := ?v2x40) rfl (by kernel_rfl) (by kernel_rfl) (by kernel_rfl) (fun _ _ _ h => h) (Or.inl ⟨by rfl, ?hy2x40⟩) hSS ?rest2x40
          case hy2x40 =>
            intro W0 hSw
            obtain ⟨s0, s1, s2⟩ := hSw
            go_simp
            first | done | with_reducible rfl
          try simp only [Act.put, List.setIfInBounds_toArray, List.set_cons_zero, List.set_cons_succ]
          refine wpAnyH_take (i := 3) (oi := ({ dst := Option.some 31, op := Go.Op.move (Go.Operand.tmp 30), type := 4, pos := "coordinator.go:112", after := #[{ on := 2, ground := Go.Ground.data }], guard := Option.none } : Oper)) (v := ?v3x41) rfl (by kernel_rfl) (by kernel_rfl) (by kernel_rfl) (fun _ _ _ h => h) (Or.inl ⟨by rfl, ?hy3x41⟩) hSS ?rest3x41
          case hy3x41 =>
            intro W0 hSw
            obtain ⟨s0, s1, s2⟩ := hSw
            go_simp
            first | done | with_reducible rfl
          try simp only [Act.put, List.setIfInBounds_toArray, List.set_cons_zero, List.set_cons_succ]
          refine wpAnyH_take (i := 4) (oi := ({ dst := Option.some 32, op := Go.Op.move (Go.Operand.tmp 0), type := 23, pos := "coordinator.go:112", after := #[{ on := 3, ground := Go.Ground.guard }], guard := Option.some (3, Bool.false) } : Oper)) (v := ?v4x42) rfl (by kernel_rfl) (by kernel_rfl) (by kernel_rfl) (fun _ _ _ h => h) (Or.inl ⟨by rfl, ?hy4x42⟩) hSS ?rest4x42
          case hy4x42 =>
            intro W0 hSw
            obtain ⟨s0, s1, s2⟩ := hSw
            go_simp
            first | done | with_reducible rfl
          try simp only [Act.put, List.setIfInBounds_toArray, List.set_cons_zero, List.set_cons_succ]
          refine wpAnyH_take (i := 5) (oi := ({ dst := Option.some 33, op := Go.Op.nilCheck (Go.Operand.tmp 32), type := 0, pos := "coordinator.go:112", after := #[{ on := 4, ground := Go.Ground.data }, { on := 3, ground := Go.Ground.guard }], guard := Option.some (3, Bool.false) } : Oper)) (v := ?v5x43) rfl (by kernel_rfl) (by kernel_rfl) (by kernel_rfl) (fun _ _ _ h => h) (Or.inl ⟨by rfl, ?hy5x43⟩) hSS ?rest5x43
          case hy5x43 =>
            intro W0 hSw
            obtain ⟨s0, s1, s2⟩ := hSw
            go_simp
            first | done | with_reducible rfl
          try simp only [Act.put, List.setIfInBounds_toArray, List.set_cons_zero, List.set_cons_succ]
          refine wpAnyH_take (i := 6) (oi := ({ dst := Option.some 34, op := Go.Op.fieldAddr 57 (Go.Operand.tmp 33) 4, type := 0, pos := "coordinator.go:112", after := #[{ on := 5, ground := Go.Ground.data }, { on := 3, ground := Go.Ground.guard }], guard := Option.some (3, Bool.false) } : Oper)) (v := ?v6x44) rfl (by kernel_rfl) (by kernel_rfl) (by kernel_rfl) (fun _ _ _ h => h) (Or.inl ⟨by rfl, ?hy6x44⟩) hSS ?rest6x44
          case hy6x44 =>
            intro W0 hSw
            obtain ⟨s0, s1, s2⟩ := hSw
            go_simp
            first | done | with_reducible rfl
          try simp only [Act.put, List.setIfInBounds_toArray, List.set_cons_zero, List.set_cons_succ]
          refine wpAnyH_take (i := 7) (oi := ({ dst := Option.some 35, op := Go.Op.load 3 (Go.Operand.tmp 34), type := 3, pos := "coordinator.go:112", after := #[{ on := 6, ground := Go.Ground.data }, { on := 3, ground := Go.Ground.guard }], guard := Option.some (3, Bool.false) } : Oper)) (v := ?v7x45) rfl (by kernel_rfl) (by kernel_rfl) (by kernel_rfl) (fun _ _ _ h => h) (Or.inl ⟨by rfl, ?hy7x45⟩) hSS ?rest7x45
          case hy7x45 =>
            intro W0 hSw
            obtain ⟨s0, s1, s2⟩ := hSw
            go_simp
            first | done | with_reducible rfl
          try simp only [Act.put, List.setIfInBounds_toArray, List.set_cons_zero, List.set_cons_succ]
          refine wpAnyH_take (i := 8) (oi := ({ dst := Option.some 36, op := Go.Op.fieldAddr 61 (Go.Operand.tmp 5) 4, type := 0, pos := "coordinator.go:112", after := #[{ on := 3, ground := Go.Ground.guard }], guard := Option.some (3, Bool.false) } : Oper)) (v := ?v8x46) rfl (by kernel_rfl) (by kernel_rfl) (by kernel_rfl) (fun _ _ _ h => h) (Or.inl ⟨by rfl, ?hy8x46⟩) hSS ?rest8x46
          case hy8x46 =>
            intro W0 hSw
            obtain ⟨s0, s1, s2⟩ := hSw
            go_simp
            first | done | with_reducible rfl
          try simp only [Act.put, List.setIfInBounds_toArray, List.set_cons_zero, List.set_cons_succ]
          refine wpAnyH_take (i := 9) (oi := ({ dst := Option.some 37, op := Go.Op.load 3 (Go.Operand.tmp 36), type := 3, pos := "coordinator.go:112", after := #[{ on := 8, ground := Go.Ground.data }, { on := 3, ground := Go.Ground.guard }], guard := Option.some (3, Bool.false) } : Oper)) (v := ?v9x47) rfl (by kernel_rfl) (by kernel_rfl) (by kernel_rfl) (fun _ _ _ h => h) (Or.inl ⟨by rfl, ?hy9x47⟩) hSS ?rest9x47
          case hy9x47 =>
            intro W0 hSw
            obtain ⟨s0, s1, s2⟩ := hSw
            go_simp
            first | done | with_reducible rfl
          try simp only [Act.put, List.setIfInBounds_toArray, List.set_cons_zero, List.set_cons_succ]
          refine wpAnyH_take (i := 10) (oi := ({ dst := Option.some 38, op := Go.Op.binOp Go.BinOp.sub 3 (Go.Operand.tmp 35) (Go.Operand.tmp 37) 3, type := 3, pos := "coordinator.go:112", after := #[{ on := 7, ground := Go.Ground.data }, { on := 9, ground := Go.Ground.data }, { on := 3, ground := Go.Ground.guard }], guard := Option.some (3, Bool.false) } : Oper)) (v := ?v10x48) rfl (by kernel_rfl) (by kernel_rfl) (by kernel_rfl) (fun _ _ _ h => h) (Or.inl ⟨by rfl, ?hy10x48⟩) hSS ?rest10x48
          case hy10x48 =>
            intro W0 hSw
            obtain ⟨s0, s1, s2⟩ := hSw
            go_simp
            first | done | with_reducible rfl
          try simp only [Act.put, List.setIfInBounds_toArray, List.set_cons_zero, List.set_cons_succ]
          refine wpAnyH_take (i := 11) (oi := ({ dst := Option.some 39, op := Go.Op.binOp Go.BinOp.lss 3 (Go.Operand.tmp 38) (Go.Operand.const (Go.Value.int Go.IntKind.i64 5)) 3, type := 4, pos := "coordinator.go:112", after := #[{ on := 10, ground := Go.Ground.data }, { on := 3, ground := Go.Ground.guard }], guard := Option.some (3, Bool.false) } : Oper)) (v := ?v11x49) rfl (by kernel_rfl) (by kernel_rfl) (by kernel_rfl) (fun _ _ _ h => h) (Or.inl ⟨by rfl, ?hy11x49⟩) hSS ?rest11x49
          case hy11x49 =>
            intro W0 hSw
            obtain ⟨s0, s1, s2⟩ := hSw
            go_simp
            first | done | with_reducible rfl
          try simp only [Act.put, List.setIfInBounds_toArray, List.set_cons_zero, List.set_cons_succ]
          refine wpAnyH_take (i := 12) (oi := ({ dst := Option.some 40, op := Go.Op.pick (Go.Operand.tmp 31) (Go.Operand.const (Go.Value.bool Bool.true)) (Go.Operand.tmp 39), type := 4, pos := "coordinator.go:112", after := #[{ on := 3, ground := Go.Ground.data }, { on := 11, ground := Go.Ground.data }], guard := Option.none } : Oper)) (v := ?v12x50) rfl (by kernel_rfl) (by kernel_rfl) (by kernel_rfl) (fun _ _ _ h => h) (Or.inl ⟨by rfl, ?hy12x50⟩) hSS ?rest12x50
          case hy12x50 =>
            intro W0 hSw
            obtain ⟨s0, s1, s2⟩ := hSw
            go_simp
            first | done | with_reducible rfl
          try simp only [Act.put, List.setIfInBounds_toArray, List.set_cons_zero, List.set_cons_succ]
          refine wpAnyH_done (by kernel_rfl) ?_ _
          try simp only [w2]
          go_wp2_with fail
          go_roundw
          case rel => exact HN2.out _ ((alloc_below wr _).trans ((drew_below _).mono (alloc_below wr _).size))
          case measure => simp [intOf]; omega
    · have HE : Hid (TkT w B S wr) := Lib.hid (by
        have hiN : i = N := by omega
        rw [hiN, List.take_of_length_le (by rw [HN.out]; exact Nat.le_refl _), HNS.out, HKK.out] at hco hcr
        exact ⟨v, os1, hco, hcr, hfr⟩)
      have hnl : ¬ (i : Int) < (N : Int) := by omega
      clear hco hcr hfr hoi hi hlt
      go_wp2_with fail
      go_ret
      exact ⟨rfl, HE.out⟩
end Go.Proofs.YtknolgcbaoppcaaGreat

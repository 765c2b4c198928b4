/- CoordinatorTicks: the law's own body answers true. -/
import Derived.Test.YtknolgcbaoppcaaGreatOU
namespace Go.Proofs.YtknolgcbaoppcaaGreat
open Go.RowKit

theorem putT_1 (x s a o y t s' a' o' y' t' : Nat) : putT [⟨x, s, a, o, y, t⟩] ⟨x, s', a', o', y', t'⟩ = [⟨x, s', a', o', y', t'⟩] := by simp [putT, dropT]
theorem dropT_1 (x s a o y t : Nat) : dropT [⟨x, s, a, o, y, t⟩] x = [] := by simp [dropT]
theorem findT_1 (x s a o y t : Nat) : findT [⟨x, s, a, o, y, t⟩] x = some ⟨x, s, a, o, y, t⟩ := by simp [findT]
theorem nums_nil : numsT [] = [] := by simp [numsT]
theorem nums_one (e : Te) : numsT [e] = [(e.n : Int)] := by simp [numsT]
theorem tk_nil (node k : Nat) : tkF node k [] (numsT []) = ([], []) := by rw [nums_nil]; rfl
theorem tk_one (node k x a o y t : Nat) (hd : t + 5 ≤ k) : tkF node k [⟨x, 2, a, o, y, t⟩] (numsT [⟨x, 2, a, o, y, t⟩]) = ([⟨x, 2, a, o, y, k⟩], coreL 1 node x (nodesI a).length (nodesI o)) := by
  rw [nums_one]
  have h1 : (Te.due k ⟨x, 2, a, o, y, t⟩) = true := by simp [Te.due, hd]
  simp [tkF, tk1, findT, h1, putT, dropT, Te.ask, Te.nn]
theorem tk_one_no (node k x a o y t : Nat) (hd : ¬ t + 5 ≤ k) : tkF node k [⟨x, 2, a, o, y, t⟩] (numsT [⟨x, 2, a, o, y, t⟩]) = ([⟨x, 2, a, o, y, t⟩], []) := by
  rw [nums_one]
  have h1 : (Te.due k ⟨x, 2, a, o, y, t⟩) = false := by simp [Te.due, hd]
  simp [tkF, tk1, findT, h1]
theorem up_drop {ns : List Int} (hu : upN (-1) ns = true) (i : Nat) : upN (-1) (ns.drop i) = true :=
  up_of_sorted ((up_sorted hu).sublist (List.drop_sublist i ns)) fun n hn => up_mem hu n (List.mem_of_mem_drop hn)
/-- the one transaction behind i votes, asked at tick t -/
def tkV (nd : Nat) (ns : List Int) (i t : Nat) : List Te := if i < ns.length then [⟨nd, 2, orB 0 ns, orB 0 (ns.drop i), 0, t⟩] else []
theorem tkV_tick {nd : Nat} {ns : List Int} (hu : upN (-1) ns = true) (k i j : Nat) (hj : j + 1 = i) : tkF nd i (tkV nd ns k (j / 5 * 5)) (numsT (tkV nd ns k (j / 5 * 5))) = (tkV nd ns k (i / 5 * 5), if i % 5 = 0 then coreL 1 nd nd ns.length (ns.drop k) else []) := by
  unfold tkV
  by_cases hk : k < ns.length
  · simp only [hk, if_true]
    by_cases h5 : i % 5 = 0
    · have e1 : j / 5 * 5 + 5 ≤ i := by omega
      have e2 : i / 5 * 5 = i := by omega
      rw [tk_one _ _ _ _ _ _ _ e1, nodes_or hu, nodes_or (up_drop hu k), e2, if_pos h5]
    · have e1 : ¬ j / 5 * 5 + 5 ≤ i := by omega
      have e2 : i / 5 * 5 = j / 5 * 5 := by omega
      rw [tk_one_no _ _ _ _ _ _ _ e1, e2, if_neg h5]
  · have hd : ns.drop k = [] := List.drop_eq_nil_of_le (by omega)
    simp only [hk, if_false]
    rw [tk_nil, hd]
    simp [coreL]
theorem tkV_ok {nd : Nat} (hnd : nd < 16) {ns : List Int} (hu : upN (-1) ns = true) (k t i : Nat) (ht : t ≤ i) : TkOk i (tkV nd ns k t) := by
  intro e he
  unfold tkV at he
  by_cases hk : k < ns.length
  · simp only [hk, if_true, List.mem_singleton] at he
    subst he
    exact ⟨.inr (.inl rfl), or_lt (by omega) hu (by decide), or_lt (by omega) (up_drop hu k) (by decide), by show nd < _; omega, ht⟩
  · simp only [hk, if_false] at he
    simp at he
theorem tkV_len (nd : Nat) (ns : List Int) (k t : Nat) : (tkV nd ns k t).length < 1000 := by
  unfold tkV
  split <;> simp
/-- at the head of the votes' loop -/
def TvL (w : World) (c nd : Nat) (ns : List Int) (k : Nat) (v : Value) (wr : World) : Prop := ∃ (i : Nat) (S : CoS), v = .int .i64 (i : Int) ∧ i ≤ k ∧ Co wr w.heap.size S ∧ S.c = c ∧ S.node = nd ∧ S.tks = 0 ∧ S.T = tkV nd ns i 0 ∧ S.os = [] ∧ Below w.heap.size w wr
/-- at the head of the ticks' loop -/
def TtL (w : World) (c nd : Nat) (ns : List Int) (k : Nat) (v : Value) (wr : World) : Prop := ∃ (i j : Nat) (S : CoS), v = .int .i64 (i : Int) ∧ j + 1 = i ∧ i ≤ 16 ∧ Co wr w.heap.size S ∧ S.c = c ∧ S.node = nd ∧ S.tks = j ∧ S.T = tkV nd ns k (j / 5 * 5) ∧ S.os = [] ∧ Below w.heap.size w wr
/-- at the head of the last loop -/
def TzL (w : World) (c nd : Nat) (v : Value) (wr : World) : Prop := ∃ (i : Nat) (S : CoS), v = .int .i64 (i : Int) ∧ i ≤ 10 ∧ Co wr w.heap.size S ∧ S.c = c ∧ S.node = nd ∧ S.tks = 15 + i ∧ S.T = [] ∧ S.os = [] ∧ Below w.heap.size w wr
def TjL (n : Nat) (we : World) (v : Value) (wr : World) : Prop := ∃ j : Nat, v = .int .i64 (j : Int) ∧ j ≤ n ∧ Below we.heap.size we wr
theorem vote_step {ns : List Int} {i f : Nat} (hf : ns[i]? = some (f : Int)) : ns.drop i = (f : Int) :: ns.drop (i + 1) := by
  obtain ⟨h1, h2⟩ := List.getElem?_eq_some_iff.1 hf
  rw [List.drop_eq_getElem_cons h1, h2]
theorem or_none {ns : List Int} (hu : upN (-1) ns = true) (h : orB 0 ns = 0) : ns = [] := by
  have h2 := nodes_or hu
  rw [h] at h2
  rw [← h2]
  decide
set_option maxRecDepth 100000 in
set_option maxHeartbeats 16000000 in
theorem ticks_bad (node : Int) (hbad : node < 0 ∨ 16 ≤ node) (NA : Option Addr) (nn nc : Nat) (voted : Int) (w : World) :
    Calls Tryz.prog 5 #[.int .i64 node, .slice NA nn nc, .int .i64 voted] w (Ans (.bool true) w) := by
  have hnil : ∀ (w : World) (a : Option Addr), (binOp .eql 23 (.pointer a) (.pointer none)).run Tryz.prog w = .ok (.bool a.isNone) w := fun w a => by cases a <;> rfl
  have HBAD := Lib.hid hbad
  clear hbad
  go_enter Tryz.func5, Tryz.ntmps5
  go_wp2_with (first
    | (go_at_call 7; refine (new_any _).mono ?_; rintro e w1 ⟨p, rfl, hd, hb⟩
       have HD := Lib.hid hd
       have HB1 := Lib.hid hb
       clear hd hb)
    | (go_at_call 6; refine (Open_bad p node HBAD.out _).mono ?_; unfold OpN; rintro e w2 ⟨rfl, rfl⟩)
    | (go_at_call 8; refine (alive13_any _).mono ?_; rintro e wz ⟨rfl, hb⟩
       have HE := Lib.hid (HB1.out.trans (hb.mono (Below.size HB1.out)))
       clear hb))
  go_ret
  exact ⟨rfl, HE.out⟩
set_option maxRecDepth 100000 in
set_option maxHeartbeats 16000000 in
theorem ticks_long {nd : Nat} (hnd : nd < 16) (NA : Option Addr) (nn nc : Nat) (voted : Int) (w : World) (hlong : 60 < nn) (hnm : nn ≤ maxLen) :
    Calls Tryz.prog 5 #[.int .i64 (nd : Int), .slice NA nn nc, .int .i64 voted] w (Ans (.bool true) w) := by
  have hnil : ∀ (w : World) (a : Option Addr), (binOp .eql 23 (.pointer a) (.pointer none)).run Tryz.prog w = .ok (.bool a.isNone) w := fun w a => by cases a <;> rfl
  have HND := Lib.hid hnd
  have hl : (60 : Int) < (nn : Int) := by omega
  have hni : (nn : Int) ≤ 9223372036854775807 := by unfold maxLen at hnm; omega
  clear hnd hlong hnm
  go_enter Tryz.func5, Tryz.ntmps5
  go_wp2_with (first
    | (go_at_call 7; refine (new_any _).mono ?_; rintro e w1 ⟨p, rfl, hd, hb⟩
       have HD := Lib.hid hd
       have HB1 := Lib.hid hb
       clear hd hb)
    | (go_at_call 6; refine (Open_fresh HD.out (Below.size HB1.out) HND.out).mono ?_; rintro e w2 ⟨S, rfl, hc, hn, hi, hcn, ht, hT, hv, hos, _, _, _, hO⟩
       obtain ⟨c, node, inc, cnt, tks, q, p', g, d, b, s, pre, rs, m, T, ov, os⟩ := S
       simp only at hn hi hcn ht hT hv hos
       have hn2 := hn.symm
       clear hn
       subst hn2 hi hcn ht hT hv hos
       have HC := Lib.hid hc
       have HB2 := Lib.hid (HD.out.belPG hO HB1.out)
       clear hc hO)
    | (go_at_call 8; refine (alive13_any _).mono ?_; rintro e wz ⟨rfl, hb⟩
       have HE := Lib.hid (HB2.out.trans (hb.mono (Below.size HB2.out)))
       clear hb))
  go_ret
  exact ⟨rfl, HE.out⟩
set_option maxRecDepth 100000 in
set_option maxHeartbeats 16000000 in
theorem ticks_arg {nd : Nat} (hnd : nd < 16) (ns : List Int) (NA : Option Addr) (nn nc : Nat) (voted : Int) (w : World) (hnn : nn ≤ 60) (hn : ns.length = nn) (hu : upN (-1) ns = false ∨ ns = []) (hr : RdI w w.heap.size NA ns) :
    Calls Tryz.prog 5 #[.int .i64 (nd : Int), .slice NA nn nc, .int .i64 voted] w (Ans (.bool true) w) := by
  have hnil : ∀ (w : World) (a : Option Addr), (binOp .eql 23 (.pointer a) (.pointer none)).run Tryz.prog w = .ok (.bool a.isNone) w := fun w a => by cases a <;> rfl
  have HND := Lib.hid hnd
  have HU := Lib.hid hu
  have HN := Lib.hid hn
  have HNN := Lib.hid hnn
  have hl : ¬ (60 : Int) < (nn : Int) := by omega
  have hni : (nn : Int) ≤ 60 := by omega
  have HR : Hid (∀ W, Below w.heap.size w W → RdI W W.heap.size NA ns) := Lib.hid fun W hb => (hr.below hb (Nat.le_refl _)).more hb.size
  clear hnd hu hn hnn hr
  go_enter Tryz.func5, Tryz.ntmps5
  go_wp2_with (first
    | (go_at_call 7; refine (new_any _).mono ?_; rintro e w1 ⟨p, rfl, hd, hb⟩
       have HD := Lib.hid hd
       have HB1 := Lib.hid hb
       clear hd hb)
    | (go_at_call 6; refine (Open_fresh HD.out (Below.size HB1.out) HND.out).mono ?_; rintro e w2 ⟨S, rfl, hc, hn, hi, hcn, ht, hT, hv, hos, _, _, _, hO⟩
       obtain ⟨c, node, inc, cnt, tks, q, p', g, d, b, s, pre, rs, m, T, ov, os⟩ := S
       simp only at hn hi hcn ht hT hv hos
       have hn2 := hn.symm
       clear hn
       subst hn2 hi hcn ht hT hv hos
       have HC := Lib.hid hc
       have HB2 := Lib.hid (HD.out.belPG hO HB1.out)
       clear hc hO)
    | (go_at_call 9; refine (begin_fresh HC.out rfl rfl rfl).mono ?_; rintro e w3 ⟨rfl, hc3, hO3⟩
       have HC3 := Lib.hid hc3
       have HB3 := Lib.hid (HC.out.belCM hO3 HB2.out)
       clear hc3 hO3)
    | (go_at_call 10; refine (ask_arg HC3.out (x := nd) (by have := HND.out; unfold i64ok; omega) (findT_1 nd 1 0 0 0 0) rfl ns HU.out NA nn nc HN.out (by have := HNN.out; omega) (HR.out _ HB3.out)).mono ?_; rintro e w4 ⟨rfl, hb⟩
       have HB4 := Lib.hid (HB3.out.trans (hb.mono HB3.out.size))
       clear hb)
    | (go_at_call 8; refine (alive13_any _).mono ?_; rintro e wz ⟨rfl, hb⟩
       have HE := Lib.hid (HB4.out.trans (hb.mono (Below.size HB4.out)))
       clear hb))
  go_ret
  exact ⟨rfl, HE.out⟩
set_option maxRecDepth 100000 in
set_option maxHeartbeats 64000000 in
theorem ticks_main {nd : Nat} (hnd : nd < 16) (ns : List Int) (NA : Option Addr) (nn nc : Nat) (voted : Int) (hv : i64ok voted) (w : World) (hnn : nn ≤ 60) (hn : ns.length = nn) (hu : upN (-1) ns = true) (hne : ns ≠ []) (hr : RdI w w.heap.size NA ns) :
    Calls Tryz.prog 5 #[.int .i64 (nd : Int), .slice NA nn nc, .int .i64 voted] w (Ans (.bool true) w) := by
  have hnil : ∀ (w : World) (a : Option Addr), (binOp .eql 23 (.pointer a) (.pointer none)).run Tryz.prog w = .ok (.bool a.isNone) w := fun w a => by cases a <;> rfl
  have HND := Lib.hid hnd
  have HU := Lib.hid hu
  have HN := Lib.hid hn
  have HNE := Lib.hid hne
  have hl : ¬ (60 : Int) < (nn : Int) := by omega
  have hni : (nn : Int) ≤ 60 := by omega
  have hneq : ∀ z : Int, (z != z) = false := fun z => by simp
  have HR : Hid (∀ W, Below w.heap.size w W → RdI W W.heap.size NA ns) := Lib.hid fun W hb => (hr.below hb (Nat.le_refl _)).more hb.size
  have HRC : Hid (∀ W, Below w.heap.size w W → ∀ j x, ns[j]? = some x → ∃ b o, NA = some ⟨b, o, none⟩ ∧ W.cell? ⟨b, o + j, none⟩ = some (.int .i64 x)) := Lib.hid fun W hb j x hj => by
    obtain ⟨b, o, h1, _, h3⟩ := (hr.below hb (Nat.le_refl _)).at_ hj
    exact ⟨b, o, h1, h3⟩
  have HPK := Lib.hid (fun W => pick13_any voted hv (nn + 1) (by omega) (by omega) W)
  obtain ⟨k, hk⟩ : ∃ k, pickZ voted (nn + 1) = k := ⟨_, rfl⟩
  have hkn : k ≤ nn := by have := pickZ_lt voted (n := nn + 1) (by omega); omega
  have hcst : ((nn + 1 : Nat) : Int) = (nn : Int) + 1 := by omega
  rw [hk, hcst] at HPK
  clear hcst
  have hki : (k : Int) ≤ (nn : Int) := by omega
  have HKN := Lib.hid hkn
  have HM : Hid (orB 0 ns < 65536) := Lib.hid (or_lt (by omega) hu (by decide))
  have HNO : Hid (nodesI (orB 0 ns) = ns) := Lib.hid (nodes_or hu)
  clear hnd hu hn hne hnn hr hv hk hkn
  go_enter Tryz.func5, Tryz.ntmps5
  go_wp2_with (first
    | (go_at_call 7; refine (new_any _).mono ?_; rintro e w1 ⟨p, rfl, hd, hb⟩
       have HD := Lib.hid hd
       have HB1 := Lib.hid hb
       clear hd hb)
    | (go_at_call 6; refine (Open_fresh HD.out (Below.size HB1.out) HND.out).mono ?_; rintro e w2 ⟨S, rfl, hc, hn, hi, hcn, ht, hT, hv, hos, _, _, _, hO⟩
       obtain ⟨c, node, inc, cnt, tks, q, p', g, d, b, s, pre, rs, m, T, ov, os⟩ := S
       simp only at hn hi hcn ht hT hv hos
       have hn2 := hn.symm
       clear hn
       subst hn2 hi hcn ht hT hv hos
       have HC := Lib.hid hc
       have HB2 := Lib.hid (HD.out.belPG hO HB1.out)
       clear hc hO)
    | (go_at_call 9; refine (begin_fresh HC.out rfl rfl rfl).mono ?_; rintro e w3 ⟨rfl, hc3, hO3⟩
       have HC3 := Lib.hid hc3
       have HB3 := Lib.hid (HC.out.belCM hO3 HB2.out)
       clear hc3 hO3)
    | (go_at_call 10; refine (ask_yes HC3.out (x := nd) (by have := HND.out; unfold i64ok; omega) (findT_1 nd 1 0 0 0 0) rfl ns HU.out HNE.out NA nn nc HN.out (HR.out _ HB3.out) (by show 1 < 1000; omega) (by simp)).mono ?_; rintro e w4 ⟨rfl, v4, os4, hc4, hcr4, hfr4⟩
       simp only [putT_1] at hc4
       have HB4 := Lib.hid (hfr4.below HC3.out HB3.out)
       have HC4 := Lib.hid hc4
       clear hc4 hcr4 hfr4)
    | (go_at_call 13; have _t := HC4; refine (out_any HC4.out).mono ?_; rintro e w5 ⟨rfl, hc5, ho5, hO5⟩
       have HC5 := Lib.hid hc5
       have HB5 := Lib.hid (HC4.out.belC hO5 HB4.out)
       clear hc5 hO5 ho5 _t)
    | (go_at_call 15; refine (HPK.out _).mono ?_; rintro e wp ⟨rfl, rfl⟩))
  go_loopw [12] (fun v9 wr => TvL w c nd ns k v9 wr) (fun v9 _ => k - (intOf v9).toNat)
  case atStart => exact ⟨0, _, rfl, Nat.zero_le _, HC5.out, rfl, rfl, rfl, (by unfold tkV; have := HN.out; have := HNE.out; rw [if_pos (by rcases ns with _ | _; exact absurd rfl this; simp)]; rfl), rfl, HB5.out⟩
  case round =>
    obtain ⟨i, S, rfl, hi, hco, hSc, hSn, hSk, hST, hSo, hbb⟩ := hrel
    obtain ⟨c9, node9, inc9, cnt9, tks9, q9, p9, g9, d9, b9, s9, pre9, rs9, m9, T9, ov9, os9⟩ := S
    simp only at hSc hSn hSk hST hSo
    have h1 := hSc.symm
    have h2 := hSn.symm
    clear hSc hSn
    subst h1 h2 hSk hST hSo
    have HCR := Lib.hid hco
    have HBB := Lib.hid hbb
    by_cases hx : i < k
    · have hxi : (i : Int) < (k : Int) := by omega
      have hin : i < ns.length := by have := HN.out; have := HKN.out; omega
      obtain ⟨x, hx2⟩ : ∃ x, ns[i]? = some x := ⟨_, List.getElem?_eq_getElem hin⟩
      have hxm := up_mem HU.out x (List.mem_of_getElem? hx2)
      obtain ⟨f, rfl⟩ : ∃ f : Nat, x = (f : Int) := ⟨x.toNat, by omega⟩
      obtain ⟨b, o, hA, y0⟩ := HRC.out _ hbb i _ hx2
      subst hA
      have HNX : Hid (∀ v9 W S', v9 = .int .i64 ((i + 1 : Nat) : Int) → Co W w.heap.size S' → S'.c = c → S'.node = nd → S'.tks = 0 → S'.T = tkV nd ns (i + 1) 0 → S'.os = [] → Below w.heap.size w W → TvL w c nd ns k v9 W) := Lib.hid fun v9 W S' h9 ha hb hc hd he hf hg => ⟨i + 1, S', h9, hx, ha, hb, hc, hd, he, hf, hg⟩
      have hcur : tkV nd ns i 0 = [⟨nd, 2, orB 0 ns, orB 0 ((f : Int) :: ns.drop (i + 1)), 0, 0⟩] := by unfold tkV; rw [if_pos hin, vote_step hx2]
      have hup : upN (-1) ((f : Int) :: ns.drop (i + 1)) = true := by rw [← vote_step hx2]; exact up_drop HU.out i
      have HH : Hid (∀ W, Below wr.heap.size wr W → Calls Tryz.prog 11 #[.pointer (some ⟨c, 0, none⟩), .agg #[.int .i64 4, .int .i64 (f : Int), .int .i64 (nd : Int), .int .i64 (nd : Int), .slice none 0 0]] W (fun e1 w' => e1 = .returned (.int .i64 0) ∧ LtT W w.heap.size ⟨c, nd, inc9, cnt9, 0, q9, p9, g9, d9, b9, s9, pre9, rs9, m9, tkV nd ns i 0, ov9, []⟩ (tkV nd ns (i + 1) 0) [] w')) := Lib.hid fun W hW => by
        have hc := HCR.out.below hW
        have hnd := HND.out
        rw [hcur] at hc ⊢
        by_cases hl : i + 1 < ns.length
        · have h9 := hear_rom hc (f := f) (x := nd) (by omega) (by omega) (by show nd % 16 = nd; omega) (findT_1 nd 2 _ _ 0 0) rfl (or_lt (by omega) hup (by decide)) head_bit (by
            show woB (orB 0 ((f : Int) :: ns.drop (i + 1))) f ≠ 0
            rw [woB_head hup]
            intro h0
            have := or_none (up_drop HU.out (i + 1)) h0
            have := congrArg List.length this
            simp at this
            omega) (by show 1 < 1000; omega)
          refine h9.mono fun e1 w' h => ⟨h.1, ?_⟩
          have h3 := h.2
          simp only [putT_1, woB_head hup] at h3
          have e : tkV nd ns (i + 1) 0 = [⟨nd, 2, orB 0 ns, orB 0 (ns.drop (i + 1)), 0, 0⟩] := by unfold tkV; rw [if_pos hl]
          rw [e]
          exact h3
        · have hd : ns.drop (i + 1) = [] := List.drop_eq_nil_of_le (by omega)
          have h9 := hear_rol hc (f := f) (x := nd) (by omega) (by omega) (by show nd % 16 = nd; omega) (findT_1 nd 2 _ _ 0 0) rfl (or_lt (by omega) hup (by decide)) head_bit rfl (by
            show woB (orB 0 ((f : Int) :: ns.drop (i + 1))) f = 0
            rw [woB_head hup, hd]
            rfl)
          refine h9.mono fun e1 w' h => ⟨h.1, ?_⟩
          have h3 := h.2
          simp only [dropT_1] at h3
          have e : tkV nd ns (i + 1) 0 = [] := by unfold tkV; rw [if_neg hl]
          rw [e]
          exact h3
      clear hx hx2 hxm hcur hup hin hi hco hbb
      go_wp2_with (go_at_call 11; refine (HH.out _ (Below.refl _ _)).mono ?_; rintro e wd ⟨rfl, hl⟩
                   have HBD := Lib.hid (hl.bel HCR.out HBB.out)
                   obtain ⟨vd, osd, hcd, hcrd, _⟩ := hl
                   have hosd : osd = [] := by cases osd with | nil => rfl | cons => simp at hcrd
                   subst hosd
                   have HCD := Lib.hid hcd
                   clear hcd hcrd)
      go_roundw
      case rel => first | exact HNX.out _ _ _ (by go_num) HCD.out rfl rfl rfl rfl rfl HBD.out | ((repeat apply Exists.intro); exact ⟨HNX.out _ _ _ (by go_num) HCD.out rfl rfl rfl rfl rfl HBD.out, rfl⟩)
      case measure => simp [intOf]; omega
    · have hik : i = k := by omega
      subst hik
      have hxi : ¬ (i : Int) < (i : Int) := by omega
      obtain ⟨Lf, hLf⟩ : ∃ Lf, Lf = nn - i := ⟨_, rfl⟩
      have hlf : (nn : Int) - (i : Int) = (Lf : Int) := by omega
      have HLF : Hid (Lf + i = nn) := Lib.hid (by omega)
      have hLi : (Lf : Int) ≤ 60 := by omega
      clear hx hi hco hbb hLf
      go_wp2_with fail
      go_loopw [14] (fun v11 wr => TtL w c nd ns i v11 wr) (fun v11 _ => 16 - (intOf v11).toNat)
      case atStart => exact ⟨1, 0, _, rfl, rfl, by omega, HCR.out, rfl, rfl, rfl, rfl, rfl, HBB.out⟩
      case round =>
        obtain ⟨i2, j2, S2, rfl, hij, hi2, hco, hSc, hSn, hSk, hST, hSo, hbb⟩ := hrel
        obtain ⟨c2, node2, inc2, cnt2, tks2, q2, p2, g2, d2, b2, s2, pre2, rs2, m2, T2, ov2, os2⟩ := S2
        simp only at hSc hSn hSk hST hSo
        have h1 := hSc.symm
        have h2 := hSn.symm
        clear hSc hSn
        subst h1 h2 hSk hST hSo
        have HCR2 := Lib.hid hco
        have HBB2 := Lib.hid hbb
        by_cases hx : i2 ≤ 15
        · have hxi : (i2 : Int) ≤ 15 := by omega
          have hT := tkV_tick (nd := nd) HU.out i i2 tks2 hij
          have HTK : Hid (∀ W, Below wr.heap.size wr W → Calls Tryz.prog 14 #[.pointer (some ⟨c, 0, none⟩)] W (fun e w' => e = .returned (.int .i64 0) ∧ ∃ v os1, Co w' w.heap.size ⟨c, nd, inc2, cnt2, i2, q2, p2, g2, d2, b2, s2, pre2, rs2, m2, tkV nd ns i (i2 / 5 * 5), v, os1⟩ ∧ os1.map Le.core = (if i2 % 5 = 0 then coreL 1 nd nd ns.length (ns.drop i) else []) ∧ Below w.heap.size w w')) := Lib.hid fun W hW => by
            have hc := HCR2.out.below hW
            refine (tick_any hc (by show tks2 < _; omega) (by show TkOk (tks2 + 1) _; rw [hij]; exact tkV_ok HND.out HU.out i _ _ (by omega)) (tkV_len _ _ _ _) (by simp)).mono ?_
            rintro e w' ⟨rfl, v, os1, h1, h2, h3⟩
            simp only [TkS, hij, hT, List.nil_append] at h1 h2
            exact ⟨rfl, v, os1, h1, h2, FrM.below h3 hc (HBB2.out.trans (hW.mono (Below.size HBB2.out)))⟩
          have HNX : Hid (∀ v11 W S', v11 = .int .i64 ((i2 + 1 : Nat) : Int) → Co W w.heap.size S' → S'.c = c → S'.node = nd → S'.tks = i2 → S'.T = tkV nd ns i (i2 / 5 * 5) → S'.os = [] → Below w.heap.size w W → TtL w c nd ns i v11 W) := Lib.hid fun v11 W S' h9 ha hb hc hd he hf hg => ⟨i2 + 1, i2, S', h9, rfl, by omega, ha, hb, hc, hd, he, hf, hg⟩
          by_cases h5 : i2 % 5 = 0
          · rw [if_pos h5] at HTK
            have hm1 : (i2 : Int) % 5 = 0 := by omega
            have hm2 : (i2 : Int).tmod 5 = 0 := by rw [Int.tmod_eq_emod_of_nonneg (by omega)]; exact hm1
            clear hT hx hi2 hij hco hbb h5
            go_wp2_with (first
              | (go_at_call 14; refine (HTK.out _ (Below.refl _ _)).mono ?_; rintro e wa ⟨rfl, va, osa, hca, hcra, hba⟩
                 have HCA := Lib.hid hca
                 have HCRA := Lib.hid hcra
                 have HBA := Lib.hid hba
                 clear hca hcra hba)
              | (go_at_call 13; refine (out_any HCA.out).mono ?_; rintro e wb ⟨rfl, hcb, hob, hOb⟩
                 have HCB := Lib.hid hcb
                 have HBC := Lib.hid (HCA.out.belC hOb HBA.out)
                 obtain ⟨AVb, cVb, hvb, hlb⟩ := id hob.2
                 have hlo : osa.length = Lf := by
                   have h9 := congrArg List.length HCRA.out
                   have := HN.out
                   have := HLF.out
                   simp only [coreL, List.length_map, List.length_drop] at h9
                   omega
                 simp only at hvb hob
                 rw [hlo] at hvb hlb
                 have hlbi : (Lf : Int) ≤ (cVb : Int) := by omega
                 subst hvb
                 have HOB := Lib.hid hob
                 clear hcb hob hOb hlb hlo))
            go_loopw [17] (fun v14 wr => TjL Lf wb v14 wr) (fun v14 _ => Lf - (intOf v14).toNat)
            case atStart => exact ⟨0, rfl, Nat.zero_le _, Below.refl _ _⟩
            case round =>
              obtain ⟨j3, rfl, hj3, hbw⟩ := hrel
              have HBW := Lib.hid hbw
              have HBX := Lib.hid (HBC.out.trans (hbw.mono (Below.size HBC.out)))
              have HCX := Lib.hid (HCB.out.below hbw)
              by_cases hl3 : j3 < Lf
              · have hl3i : (j3 : Int) < (Lf : Int) := by omega
                obtain ⟨z, hz⟩ : ∃ z, ns[i + j3]? = some z := ⟨_, List.getElem?_eq_getElem (by have := HN.out; have := HLF.out; omega)⟩
                obtain ⟨e1, he1, hk1, _, ht1, _, hn1⟩ := core_at HCRA.out (j := j3) (k := 1) (f := (nd : Int)) (t := z) (x := (nd : Int)) (n := ns.length) (by simp [coreL, List.getElem?_drop, hz])
                obtain ⟨ge, hAe, hgl, _, hne1, hcell⟩ := HOB.out.at_ (j := j3) (e := e1) he1
                obtain ⟨u0, _, u2, _, u4⟩ := hcell wr (hbw.block ge hgl)
                rw [hk1] at u0
                rw [ht1] at u2
                rw [hn1, HN.out] at u4
                subst hAe
                obtain ⟨b, o, hA, y0⟩ := HRC.out _ HBX.out (i + j3) _ hz
                subst hA
                have hij3 : IntKind.i64.wrap ((i : Int) + (j3 : Int)) = ((i + j3 : Nat) : Int) := by rw [IntKind.wrap_i64]; have := HLF.out; omega
                have hij4 : ((i + j3 : Nat) : Int) < (nn : Int) := by have := HLF.out; omega
                have hzz : (z != z) = false := by simp
                have HZ : Hid (∀ v14 W, v14 = .int .i64 ((j3 + 1 : Nat) : Int) → Below wr.heap.size wr W → TjL Lf wb v14 W) := Lib.hid fun v14 W h9 hW => ⟨j3 + 1, h9, hl3, HBW.out.trans (hW.mono (Below.size HBW.out))⟩
                clear he1 hk1 ht1 hn1 hcell hne1 hz hj3 hl3 hgl hbw
                go_wp2_with fail
                go_quiet (fail)
                go_wp2_with fail
                go_roundw
                case rel => first | exact HZ.out _ _ (by go_num) (drewN_below _ _) | ((repeat apply Exists.intro); exact ⟨HZ.out _ _ (by go_num) (drewN_below _ _), rfl⟩)
                case measure => clear hij3 hij4 hlf; simp [intOf]; omega
              · have hl3i : ¬ (j3 : Int) < (Lf : Int) := by omega
                clear hj3 hl3 hbw
                go_wp2_with fail
                go_roundw
                case rel => first | exact HNX.out _ _ _ (by go_num) HCX.out rfl rfl rfl rfl rfl HBX.out | ((repeat apply Exists.intro); exact ⟨HNX.out _ _ _ (by go_num) HCX.out rfl rfl rfl rfl rfl HBX.out, rfl⟩)
                case measure => simp [intOf]; omega
          · rw [if_neg h5] at HTK
            have hm1 : ((i2 : Int) % 5 == 0) = false := by simp; omega
            have hm2 : ((i2 : Int).tmod 5 == 0) = false := by rw [Int.tmod_eq_emod_of_nonneg (by omega)]; exact hm1
            clear hT hx hi2 hij hco hbb h5
            go_wp2_with (first
              | (go_at_call 14; refine (HTK.out _ (Below.refl _ _)).mono ?_; rintro e wa ⟨rfl, va, osa, hca, hcra, hba⟩
                 have hosd : osa = [] := by cases osa with | nil => rfl | cons => simp at hcra
                 subst hosd
                 have HCA := Lib.hid hca
                 have HBA := Lib.hid hba
                 clear hca hcra hba)
              | (go_at_call 13; refine (out_any HCA.out).mono ?_; rintro e wb ⟨rfl, hcb, hob, hOb⟩
                 have HCB := Lib.hid hcb
                 have HBC := Lib.hid (HCA.out.belC hOb HBA.out)
                 obtain ⟨AVb, cVb, hvb, hlb⟩ := id hob.2
                 simp only [List.length_nil] at hvb
                 subst hvb
                 clear hcb hob hOb hlb))
            go_loopw [17] (fun v14 wr => TjL 0 wb v14 wr) (fun v14 _ => 0 - (intOf v14).toNat)
            case atStart => exact ⟨0, rfl, Nat.zero_le _, Below.refl _ _⟩
            case round =>
              obtain ⟨j3, rfl, hj3, hbw⟩ := hrel
              have HBW := Lib.hid hbw
              have HBX := Lib.hid (HBC.out.trans (hbw.mono (Below.size HBC.out)))
              have HCX := Lib.hid (HCB.out.below hbw)
              have hj0 : j3 = 0 := by omega
              subst hj0
              clear hbw
              go_wp2_with fail
              go_roundw
              case rel => first | exact HNX.out _ _ _ (by go_num) HCX.out rfl rfl rfl rfl rfl HBX.out | ((repeat apply Exists.intro); exact ⟨HNX.out _ _ _ (by go_num) HCX.out rfl rfl rfl rfl rfl HBX.out, rfl⟩)
              case measure => simp [intOf]; omega
        · have hi16 : i2 = 16 := by omega
          have hxi : ¬ (i2 : Int) ≤ 15 := by omega
          have hj15 : tks2 = 15 := by omega
          subst hj15
          clear hx hi2 hij hi16 hco hbb
          by_cases hL0 : Lf = 0
          · have hz : ((Lf : Int) == 0) = true := by simp; omega
            have hT0 : tkV nd ns i (15 / 5 * 5) = [] := by unfold tkV; rw [if_neg (by have := HLF.out; have := HN.out; omega)]
            have HST : Hid (∀ W, Below wr.heap.size wr W → Calls Tryz.prog 16 #[.pointer (some ⟨c, 0, none⟩), .int .i64 (nd : Int)] W (Ans (.int .i64 131) W)) := Lib.hid fun W hW => stop_no (HCR2.out.below hW) (x := nd) (by have := HND.out; unfold i64ok; omega) (by show findT (tkV nd ns i (15 / 5 * 5)) nd = none; rw [hT0]; rfl)
            clear hT0 hL0
            go_wp2_with (first
              | (go_at_call 16; refine (HST.out _ (Below.refl _ _)).mono ?_; rintro e ws ⟨rfl, hbs⟩
                 have HCS := Lib.hid (HCR2.out.below hbs)
                 have HBS := Lib.hid (HBB2.out.trans (hbs.mono (Below.size HBB2.out)))
                 clear hbs)
              | (go_at_call 13; refine (out_any HCS.out).mono ?_; rintro e wo ⟨rfl, hcp, hop, hOp⟩
                 have HBO := Lib.hid (HCS.out.belC hOp HBS.out)
                 obtain ⟨AVp, cVp, hvp, hlp⟩ := id hop.2
                 simp only [List.length_nil] at hvp
                 subst hvp
                 clear hcp hop hOp hlp)
              | (go_at_call 8; refine (alive13_any _).mono ?_; rintro e wz ⟨rfl, hb⟩
                 have HE := Lib.hid (HBO.out.trans (hb.mono (Below.size HBO.out)))
                 clear hb))
            go_ret
            exact ⟨rfl, HE.out⟩
          · have hz : ((Lf : Int) == 0) = false := by simp; omega
            have hT0 : tkV nd ns i (15 / 5 * 5) = [⟨nd, 2, orB 0 ns, orB 0 (ns.drop i), 0, 15⟩] := by unfold tkV; rw [if_pos (by have := HLF.out; have := HN.out; omega)]
            have HST : Hid (∀ W, Below wr.heap.size wr W → Calls Tryz.prog 16 #[.pointer (some ⟨c, 0, none⟩), .int .i64 (nd : Int)] W (fun e w' => e = .returned (.int .i64 0) ∧ ∃ v os1, Co w' w.heap.size ⟨c, nd, inc2, cnt2, 15, q2, p2, g2, d2, b2, s2, pre2, rs2, m2, [], v, os1⟩ ∧ os1.length = nn ∧ Below w.heap.size w w')) := Lib.hid fun W hW => by
              have hc := HCR2.out.below hW
              rw [hT0] at hc
              refine (stop_yes hc (x := nd) (by have := HND.out; unfold i64ok; omega) (findT_1 nd 2 _ _ 0 15) (.inr rfl) HM.out (by simp)).mono ?_
              rintro e w' ⟨rfl, hl⟩
              have hbl := hl.bel hc (HBB2.out.trans (hW.mono (Below.size HBB2.out)))
              obtain ⟨v, os1, h1, h2, _⟩ := hl
              simp only [dropT_1, List.nil_append] at h1
              refine ⟨rfl, v, os1, h1, ?_, hbl⟩
              have h9 := congrArg List.length h2
              rw [HNO.out] at h9
              simpa [coreL, HN.out] using h9
            clear hT0 hL0
            go_wp2_with (first
              | (go_at_call 16; refine (HST.out _ (Below.refl _ _)).mono ?_; rintro e ws ⟨rfl, vs, oss, hcs, hls, hbs⟩
                 have HCS := Lib.hid hcs
                 have HLS := Lib.hid hls
                 have HBS := Lib.hid hbs
                 clear hcs hls hbs)
              | (go_at_call 13; refine (out_any HCS.out).mono ?_; rintro e wo ⟨rfl, hcp, hop, hOp⟩
                 have HBO := Lib.hid (HCS.out.belC hOp HBS.out)
                 have HCO := Lib.hid hcp
                 obtain ⟨AVp, cVp, hvp, hlp⟩ := id hop.2
                 simp only at hvp
                 rw [HLS.out] at hvp
                 subst hvp
                 clear hcp hop hOp hlp))
            go_loopw [20] (fun v20 wr => TzL w c nd v20 wr) (fun v20 _ => 10 - (intOf v20).toNat)
            case atStart => exact ⟨0, _, rfl, Nat.zero_le _, HCO.out, rfl, rfl, rfl, rfl, rfl, HBO.out⟩
            case round =>
              obtain ⟨i4, S4, rfl, hi4, hco, hSc, hSn, hSk, hST, hSo, hbb⟩ := hrel
              obtain ⟨c4, node4, inc4, cnt4, tks4, q4, p4, g4, d4, b4, s4, pre4, rs4, m4, T4, ov4, os4⟩ := S4
              simp only at hSc hSn hSk hST hSo
              have h1 := hSc.symm
              have h2 := hSn.symm
              clear hSc hSn
              subst h1 h2 hSk hST hSo
              have HCR4 := Lib.hid hco
              have HBB4 := Lib.hid hbb
              by_cases hx : i4 < 10
              · have hxi : (i4 : Int) < 10 := by omega
                have HTK : Hid (∀ W, Below wr.heap.size wr W → Calls Tryz.prog 14 #[.pointer (some ⟨c, 0, none⟩)] W (fun e w' => e = .returned (.int .i64 0) ∧ ∃ v, Co w' w.heap.size ⟨c, nd, inc4, cnt4, 15 + i4 + 1, q4, p4, g4, d4, b4, s4, pre4, rs4, m4, [], v, []⟩ ∧ Below w.heap.size w w')) := Lib.hid fun W hW => by
                  have hc := HCR4.out.below hW
                  refine (tick_any hc (by show 15 + i4 < _; omega) (fun e he => by simp at he) (by simp) (by simp)).mono ?_
                  rintro e w' ⟨rfl, v, os1, h1, h2, h3⟩
                  simp only [TkS, tk_nil, List.nil_append] at h1 h2
                  have hos : os1 = [] := by cases os1 with | nil => rfl | cons => simp at h2
                  subst hos
                  exact ⟨rfl, v, h1, FrM.below h3 hc (HBB4.out.trans (hW.mono (Below.size HBB4.out)))⟩
                have HNX : Hid (∀ v20 W S', v20 = .int .i64 ((i4 + 1 : Nat) : Int) → Co W w.heap.size S' → S'.c = c → S'.node = nd → S'.tks = 15 + i4 + 1 → S'.T = [] → S'.os = [] → Below w.heap.size w W → TzL w c nd v20 W) := Lib.hid fun v20 W S' h9 ha hb hc hd he hf hg => ⟨i4 + 1, S', h9, hx, ha, hb, hc, hd, he, hf, hg⟩
                clear hx hi4 hco hbb
                go_wp2_with (go_at_call 14; refine (HTK.out _ (Below.refl _ _)).mono ?_; rintro e wa ⟨rfl, va, hca, hba⟩
                             have HCA := Lib.hid hca
                             have HBA := Lib.hid hba
                             clear hca hba)
                go_roundw
                case rel => first | exact HNX.out _ _ _ (by go_num) HCA.out rfl rfl rfl rfl rfl HBA.out | ((repeat apply Exists.intro); exact ⟨HNX.out _ _ _ (by go_num) HCA.out rfl rfl rfl rfl rfl HBA.out, rfl⟩)
                case measure => simp [intOf]; omega
              · have hxi : ¬ (i4 : Int) < 10 := by omega
                clear hx hi4 hco hbb
                go_wp2_with (first
                  | (go_at_call 8; refine (alive13_any _).mono ?_; rintro e wz ⟨rfl, hb⟩
                     have HCZ := Lib.hid (HCR4.out.below hb)
                     have HBZ := Lib.hid (HBB4.out.trans (hb.mono (Below.size HBB4.out)))
                     clear hb)
                  | (go_at_call 13; refine (out_any HCZ.out).mono ?_; rintro e wo2 ⟨rfl, hcp, hop, hOp⟩
                     have HBY := Lib.hid (HCZ.out.belC hOp HBZ.out)
                     have HSY : Hid (Calls Tryz.prog 12 #[.pointer (some ⟨c, 0, none⟩), .int .i64 (nd : Int)] wo2 (LooksL (.int .i64 0) wo2)) := Lib.hid (state_any hcp (x := nd) (by have := HND.out; unfold i64ok; omega))
                     obtain ⟨AVq, cVq, hvq, hlq⟩ := id hop.2
                     simp only [List.length_nil] at hvq
                     subst hvq
                     clear hcp hop hOp hlq)
                  | (go_at_call 12; refine HSY.out.mono ?_; rintro e wy ⟨rfl, rfl⟩))
                go_ret
                exact ⟨rfl, HBY.out⟩
/-- the law, whatever the arguments -/
theorem coordinatorTicks_law (node : Int) (ns : List Int) (NA : Option Addr) (nn nc : Nat) (voted : Int) (hv : i64ok voted) (w : World) (hn : ns.length = nn) (hnm : nn ≤ maxLen) (hr : RdI w w.heap.size NA ns) :
    Calls Tryz.prog 5 #[.int .i64 node, .slice NA nn nc, .int .i64 voted] w (Ans (.bool true) w) := by
  by_cases hb : node < 0 ∨ 16 ≤ node
  · exact ticks_bad node hb NA nn nc voted w
  obtain ⟨nd, rfl⟩ : ∃ nd : Nat, node = (nd : Int) := ⟨node.toNat, by omega⟩
  have hnd : nd < 16 := by omega
  by_cases hl : 60 < nn
  · exact ticks_long hnd NA nn nc voted w hl hnm
  by_cases hne : ns = []
  · exact ticks_arg hnd ns NA nn nc voted w (by omega) hn (.inr hne) hr
  cases hu : upN (-1) ns
  · exact ticks_arg hnd ns NA nn nc voted w (by omega) hn (.inl hu) hr
  · exact ticks_main hnd ns NA nn nc voted hv w (by omega) hn hu hne hr
end Go.Proofs.YtknolgcbaoppcaaGreat

/- Package table: between, and its closure. -/
import Derived.Test.YtkohppalfcalbaaGreatPM1
import Derived.RangeFuncNested
import Derived.RangeFuncBound
import Derived.RangeFuncCalls
import Derived.RangeFuncLeaves
import Derived.Shelf.Abstract
import Derived.WalkKit
import Derived.OwnWalkIn
import Derived.TacticsInMore
import Derived.LoopNIn
import Derived.LoopIn
namespace Go.Proofs.YtkohppalfcalbaaGreat
open Go.RowKit

attribute [local go_sem] Oper.semAt_some
/-- what a round that goes on keeps: all below n but block bl -/
def KpR (n bl : Nat) (W W' : World) : Prop := Only (fun k => k = bl ∨ n ≤ k) W W'
/-- what between answers -/
def BtwT (w : World) (q : Nat) (F T : Option Addr) (fn fc tn tc : Nat) (en : Ending) (w' : World) : Prop := en = .returned (.func (.func 118) #[] #[.pointer (some ⟨w.heap.size, 0, none⟩), .pointer (some ⟨w.heap.size + 1, 0, none⟩), .pointer (some ⟨w.heap.size + 1 + 1, 0, none⟩)]) ∧
  w'.heap[w.heap.size]? = some (.cells #[.pointer (some ⟨q, 0, none⟩)] 88 (0, 0)) ∧ w'.heap[w.heap.size + 1]? = some (.cells #[.slice F fn fc] 22 (0, 0)) ∧ w'.heap[w.heap.size + 1 + 1]? = some (.cells #[.slice T tn tc] 22 (0, 0)) ∧ Below w.heap.size w w' ∧ w'.heap.size = w.heap.size + 3
set_option maxRecDepth 100000 in
theorem betweenT_any (w : World) (q : Nat) (F T : Option Addr) (fn fc tn tc : Nat) : Calls Tryz.prog 87 #[.pointer (some ⟨q, 0, none⟩), .slice F fn fc, .slice T tn tc] w (BtwT w q F T fn fc tn tc) := by
  have HY : Hid (BtwT w q F T fn fc tn tc (.returned (.func (.func 118) #[] #[.pointer (some ⟨w.heap.size, 0, none⟩), .pointer (some ⟨w.heap.size + 1, 0, none⟩), .pointer (some ⟨w.heap.size + 1 + 1, 0, none⟩)])) (((w.alloc (.cells #[.pointer (some ⟨q, 0, none⟩)] 88)).alloc (.cells #[.slice F fn fc] 22)).alloc (.cells #[.slice T tn tc] 22))) := Lib.hid (by
    have e1 : (w.alloc (.cells #[.pointer (some ⟨q, 0, none⟩)] 88)).heap.size = w.heap.size + 1 := by simp
    have e2 : ((w.alloc (.cells #[.pointer (some ⟨q, 0, none⟩)] 88)).alloc (.cells #[.slice F fn fc] 22)).heap.size = w.heap.size + 1 + 1 := by simp
    refine ⟨rfl, ?_, ?_, ?_, ((alloc_below w _).trans ((alloc_below _ _).mono (by simp))).trans ((alloc_below _ _).mono (by simp; omega)), by simp⟩
    · rw [Below.heap_alloc _ _ _ (by simp; omega), Below.heap_alloc _ _ _ (by simp)]
      exact heap_alloc_new w _
    · rw [Below.heap_alloc _ _ _ (by simp)]
      have h := heap_alloc_new (w.alloc (.cells #[.pointer (some ⟨q, 0, none⟩)] 88)) (.cells #[.slice F fn fc] 22)
      rw [e1] at h
      exact h
    · have h := heap_alloc_new ((w.alloc (.cells #[.pointer (some ⟨q, 0, none⟩)] 88)).alloc (.cells #[.slice F fn fc] 22)) (.cells #[.slice T tn tc] 22)
      rw [e2] at h
      exact h)
  go_enter Tryz.func87, Tryz.ntmps87
  go_wp2_with fail
  go_ret
  exact HY.out
/-- what the closure stands upon -/
structure Btw (W : World) (G D : Nat → Prop) (q P : Nat) (ps : List Pg) (b1 b2 b3 : Nat) (F T : Option Addr) (f t : List UInt8) (fn fc tn tc : Nat) : Prop where
  tb : Tbl W G D q P ps
  x1 : W.heap[b1]? = some (.cells #[.pointer (some ⟨q, 0, none⟩)] 88 (0, 0))
  x2 : W.heap[b2]? = some (.cells #[.slice F fn fc] 22 (0, 0))
  x3 : W.heap[b3]? = some (.cells #[.slice T tn tc] 22 (0, 0))
  rf : RdB W W.heap.size F f
  rt : RdB W W.heap.size T t
  fl : f.length = fn
  tl : t.length = tn
theorem Btw.only {K : Nat → Prop} {W W' : World} {G D : Nat → Prop} {q P : Nat} {ps : List Pg} {b1 b2 b3 : Nat} {F T : Option Addr} {f t : List UInt8} {fn fc tn tc : Nat} (h : Btw W G D q P ps b1 b2 b3 F T f t fn fc tn tc) (hO : Only K W W') (hG : ∀ j, G j → ¬ K j) (hD : ∀ j, D j → ¬ K j) (h1 : ¬ K b1) (h2 : ¬ K b2) (h3 : ¬ K b3) (hF : f ≠ [] → ∀ ad, F = some ad → ¬ K ad.block) (hT : t ≠ [] → ∀ ad, T = some ad → ¬ K ad.block) : Btw W' G D q P ps b1 b2 b3 F T f t fn fc tn tc :=
  ⟨h.tb.only hO hG hD, (hO.block b1 (Array.getElem?_eq_some_iff.1 h.x1).1 h1).trans h.x1, (hO.block b2 (Array.getElem?_eq_some_iff.1 h.x2).1 h2).trans h.x2, (hO.block b3 (Array.getElem?_eq_some_iff.1 h.x3).1 h3).trans h.x3, h.rf.only' hO hF, h.rt.only' hO hT, h.fl, h.tl⟩
theorem Btw.below {W W' : World} {G D : Nat → Prop} {q P : Nat} {ps : List Pg} {b1 b2 b3 : Nat} {F T : Option Addr} {f t : List UInt8} {fn fc tn tc : Nat} (h : Btw W G D q P ps b1 b2 b3 F T f t fn fc tn tc) (hb : Below W.heap.size W W') : Btw W' G D q P ps b1 b2 b3 F T f t fn fc tn tc :=
  h.only (Only.of_below (K := fun _ => False) hb) (fun _ _ => id) (fun _ _ => id) id id id (fun _ _ _ => id) (fun _ _ _ => id)
theorem range_stop {p : Pg} {Q : List Pg} {f t : List UInt8} (hr : Rise (p.es ++ flat Q)) (hne : p.es ≠ []) (hl : 0 ≤ cmpB (lastK p.es) f) (h0 : rangeL f t p.es = []) : rangeL f t (flat Q) = [] := by
  obtain ⟨e, he, hk, _⟩ := lastK_mem hne
  obtain ⟨_, _, h3⟩ := List.pairwise_append.1 hr
  have h4 : inR f t e = false := by
    cases h5 : inR f t e with
    | false => rfl
    | true =>
      have : e ∈ rangeL f t p.es := List.mem_filter.2 ⟨he, h5⟩
      rw [h0] at this
      cases this
  rw [hk] at hl
  unfold inR at h4
  rw [decide_eq_true hl, Bool.true_and] at h4
  cases hte : t.isEmpty with
  | true => rw [hte] at h4; cases h4
  | false =>
    rw [hte, Bool.false_or] at h4
    have h6 : 0 ≤ cmpB e.k t := by simpa using h4
    exact range_none fun x hx => by
      have h7 := cmpB_up (h3 e he x hx) h6
      unfold inR
      rw [hte, decide_eq_false (by omega : ¬ cmpB x.k t < 0)]
      simp
theorem range_ahead {ps : List Pg} {f t : List UInt8} {i : Nat} (hr : Rise (flat ps)) (hne : ∀ p ∈ ps, p.es ≠ []) (h : SplitP ps f i) : rangeL f t (flat (ps.take i)) = [] := range_none fun e he => by
  obtain ⟨p, hp, hep⟩ := List.mem_flatMap.1 he
  obtain ⟨k, hk⟩ := List.mem_iff_getElem?.1 hp
  rw [List.getElem?_take] at hk
  split at hk
  · rename_i hki
    have h1 := h.lo k p hk hki
    have hpm := List.mem_of_getElem? hk
    obtain ⟨x, hx, hxl, hxa⟩ := lastK_mem (hne p hpm)
    have hrp : Rise p.es := by
      rw [flat_at hk] at hr
      exact (List.pairwise_append.1 (List.pairwise_append.1 hr).2.1).1
    have h2 : cmpB e.k f < 0 := by
      rw [hxl] at h1
      rcases lastK_top hrp hxa hep with rfl | h3
      · exact h1
      · exact cmpB_tr h3 h1
    unfold inR
    rw [decide_eq_false (by omega : ¬ 0 ≤ cmpB e.k f)]; rfl
  · cases hk
theorem Tbl.entCell {W : World} {G D : Nat → Prop} {q P : Nat} {ps : List Pg} (h : Tbl W G D q P ps) {k m op pc : Nat} {p : Pg} {e : Ent} (hp : ps[k]? = some p) (hv : p.v = .slice (some ⟨p.g, op, none⟩) p.es.length pc) (he : p.es[m]? = some e) : W.cell? ⟨p.g, op + m * 2, none⟩ = some (.slice e.kA e.k.length e.kc) ∧ W.cell? ⟨p.g, op + m * 2 + 1, none⟩ = some (.slice e.rA e.r.length e.rc) := by
  have hml := (List.getElem?_eq_some_iff.1 he).1
  rcases (h.t.page p (List.mem_of_getElem? hp)).1 with ⟨_, h0, _⟩ | ⟨hne, o', cap', e1, ho⟩
  · omega
  · rw [hv] at e1
    injection e1 with e1 e2 e3
    injection e1 with e1
    injection e1 with e1 e4
    subst e4 e3
    exact ⟨ho.cell _ _ (entV_at he).1, by rw [Nat.add_assoc]; exact ho.cell _ _ (entV_at he).2⟩
theorem Tbl.pageCell {W : World} {G D : Nat → Prop} {q P o cap : Nat} {ps : List Pg} (h : Tbl W G D q P ps) (hbx : W.heap[q]? = some (.cells #[.slice (some ⟨P, o, none⟩) ps.length cap, .int .i64 ((flat ps).length : Int)] 147 (0, 0))) {k : Nat} {p : Pg} (hp : ps[k]? = some p) : ∃ op pc, p.v = .slice (some ⟨p.g, op, none⟩) p.es.length pc ∧ p.es.length ≤ pc ∧ W.cell? ⟨P, o + k, none⟩ = some (.slice (some ⟨p.g, op, none⟩) p.es.length pc) ∧ RdE W (some ⟨p.g, op, none⟩) p.es := by
  obtain ⟨ro2, rcap2, hbx2, hro2, _⟩ := h.t.cap hp
  rw [hbx2] at hbx
  have e1 : ro2 = o ∧ rcap2 = cap := by simp at hbx; exact hbx
  obtain ⟨rfl, rfl⟩ := e1
  have hpn := List.length_pos_iff.2 (h.pg p (List.mem_of_getElem? hp)).1
  have h1 := (h.t.page p (List.mem_of_getElem? hp)).1
  have hok : ∀ e ∈ p.es, RdB W W.heap.size e.kA e.k := fun e he => (h.t.ents p (List.mem_of_getElem? hp) e he).key
  have hc1 := hro2.cell k p.v (by unfold pagesV; rw [List.getElem?_map, hp]; rfl)
  rcases h1 with ⟨_, h0, _⟩ | ⟨hne, o', cap', e1, ho⟩
  · omega
  · rw [e1] at hc1
    exact ⟨o', cap', e1, ho.room, hc1, ⟨fun _ => ⟨_, _, rfl, ho.lt, ho.cell⟩, hok⟩⟩
/-- what the iterator has told, and keeps -/
def IvR {α : Type} (J : List α → World → Prop) (g : α → Ent) (W0 : World) (n1 bl : Nat) (l : List Ent) (wr : World) : Prop := ∃ pre : List α, pre.map g = l ∧ J pre wr ∧ Only (fun k => k = bl ∨ n1 ≤ k) W0 wr
/-- how the iterator ends -/
def StopP {ps : List Pg} (J Jx : List {x : Ent // x ∈ flat ps} → World → Prop) (R : List Ent) (e : Ending) (W' : World) : Prop := (∃ v, e = .returned v) ∧ ((∃ xs : List {x : Ent // x ∈ flat ps}, xs.map (·.1) = R ∧ J xs W') ∨ (∃ pre : List {x : Ent // x ∈ flat ps}, pre.map (·.1) <+: R ∧ Jx pre W'))
set_option maxRecDepth 100000 in
set_option maxHeartbeats 8000000 in
theorem closure_stops (n : Nat) {w : World} {G D : Nat → Prop} {q P : Nat} {ps : List Pg} {b1 b2 b3 n1 bl : Nat} {F T : Option Addr} {f t : List UInt8} {fn fc tn tc : Nat} (h : Btw w G D q P ps b1 b2 b3 F T f t fn fc tn tc) (_ : n1 ≤ w.heap.size) (hG : ∀ j, G j → j < n1 ∧ j ≠ bl) (hD : ∀ j, D j → j < n1 ∧ j ≠ bl) (h1 : b1 < n1 ∧ b1 ≠ bl) (h2 : b2 < n1 ∧ b2 ≠ bl) (h3 : b3 < n1 ∧ b3 ≠ bl) (hF : f ≠ [] → ∀ ad, F = some ad → ad.block < n1 ∧ ad.block ≠ bl) (hT : t ≠ [] → ∀ ad, T = some ad → ad.block < n1 ∧ ad.block ≠ bl) :
    SeqStopsK Fence.wide n Tryz.prog 118 #[.pointer (some ⟨b1, 0, none⟩), .pointer (some ⟨b2, 0, none⟩), .pointer (some ⟨b3, 0, none⟩)] (fun x : {x : Ent // x ∈ flat ps} => #[x.1.v]) (KpR n1 bl) (fun xs => xs.map (·.1) = rangeL f t (flat ps)) (fun pre => pre.map (·.1) <+: rangeL f t (flat ps)) (rangeL f t (flat ps)).length w := fun l J Jx W hW hJ hJx hY h0 => by
  have hB := h.below hW
  have HK : Hid (∀ W2, Only (fun k => k = bl ∨ n1 ≤ k) W W2 → Btw W2 G D q P ps b1 b2 b3 F T f t fn fc tn tc) := Lib.hid fun W2 hO => hB.only hO (fun j hj e => by have := hG j hj; omega) (fun j hj e => by have := hD j hj; omega) (by omega) (by omega) (by omega) (fun hn ad ha e => by have := hF hn ad ha; omega) (fun hn ad ha e => by have := hT hn ad ha; omega)
  have HAb : Hid (∀ pre W1 W2, J pre W1 → Below W1.heap.size W1 W2 → J pre W2) := Lib.hid fun pre W1 W2 hj hb => hJ pre W1 W2 none hj (grownBy_below hb) (fun r e => by cases e)
  obtain ⟨i, j, bf, hFA, hS, hf, hfind⟩ := hB.tb.find f
  have HFI := Lib.hid (hfind F fn fc h.fl W (Below.refl _ _) hB.rf)
  have hil := hFA.page.le
  have hlen := hB.tb.len
  clear hf hS hfind
  obtain ⟨x1, x2⟩ : W.cell? ⟨b1, 0, none⟩ = some (.pointer (some ⟨q, 0, none⟩)) ∧ W.cell? ⟨b2, 0, none⟩ = some (.slice F fn fc) := ⟨by simp [World.cell?, hB.x1], by simp [World.cell?, hB.x2]⟩
  have hii : (i : Int) ≤ (ps.length : Int) := by omega
  have hni : (ps.length : Int) ≤ 1000 := by omega
  obtain ⟨A, cap, hbx, hrds⟩ := hB.tb.t.rds (fun p hp => ⟨(hB.tb.pg p hp).1, by have := (hB.tb.pg p hp).2; omega⟩)
  show CallsIn Fence.wide n Tryz.prog 118 #[.func (.yield l) #[] #[], .pointer (some ⟨b1, 0, none⟩), .pointer (some ⟨b2, 0, none⟩), .pointer (some ⟨b3, 0, none⟩)] W (StopP J Jx (rangeL f t (flat ps)))
  refine callsIn_of_wp Tryz.func118 rfl trivial ?_ rfl
  simp only [Tryz.ntmps118, List.size_toArray, List.length_cons, List.length_nil, Nat.reduceAdd, Nat.reduceSub, Array.replicate_succ, Array.replicate_zero, List.push_toArray, List.append_toArray, List.nil_append, List.cons_append]
  have HC1 : Hid (∀ W2, Below W.heap.size W W2 → W2.cell? ⟨b1, 0, none⟩ = some (.pointer (some ⟨q, 0, none⟩)) ∧ W2.cell? ⟨q, 0, none⟩ = some (.slice A ps.length cap)) := Lib.hid fun W2 hb => ⟨by simp [World.cell?, (hB.below hb).x1], (box2 ((hb.block q hB.tb.t.lt).trans hbx)).1⟩
  have hahead := range_ahead (t := t) hB.tb.rise (fun p hp => (hB.tb.pg p hp).1) hFA.page
  have hsplit : flat ps = flat (ps.take i) ++ flat (ps.drop i) := by rw [← flat_app, List.take_append_drop]
  have hall : rangeL f t (flat ps) = rangeL f t (flat (ps.drop i)) := by rw [hsplit, range_app, hahead, List.nil_append]
  rcases Nat.lt_or_ge i ps.length with hilt | hige
  · obtain ⟨p0, hp0⟩ : ∃ p, ps[i]? = some p := ⟨_, List.getElem?_eq_getElem hilt⟩
    obtain ⟨ro, rcap, hbx2, hro, hPq⟩ := hB.tb.t.cap hp0
    rw [hbx] at hbx2
    have e1 : A = some ⟨P, ro, none⟩ ∧ cap = rcap := by simp at hbx2; exact hbx2
    obtain ⟨rfl, rfl⟩ := e1
    have hcn := hro.room
    have hci : ¬ cap = i := by omega
    have hiil : (i : Int) < (ps.length : Int) := by omega
    obtain ⟨M, hM⟩ : ∃ M, ps.length = i + M := ⟨ps.length - i, by omega⟩
    have HST : Hid (∀ w1, Below W.heap.size W w1 → IvR J (fun x : {x : Ent // x ∈ flat ps} => x.1) W n1 bl (rangeL f t (flat ((ps.drop i).take 0))) w1) := Lib.hid fun w1 hb => ⟨[], by simp [flat, rangeL], HAb.out _ _ _ h0 hb, Only.of_below hb⟩
    gi_wp2_with (refine ⟨trivial, (fun h => (by cases h)), ?_⟩; gi_at_call 89; refine (callsIn_wide.2 HFI.out).mono ?_; rintro e w1 ⟨rfl, hb⟩
                 have HB1 := Lib.hid hb
                 obtain ⟨y0, y1⟩ := HC1.out _ hb
                 clear hb)
    gi_loopw [27] (fun v wr => ∃ k : Nat, k ≤ M ∧ v = .int .i64 k ∧ IvR J (fun x : {x : Ent // x ∈ flat ps} => x.1) W n1 bl (rangeL f t (flat ((ps.drop i).take k))) wr) (fun v _ => M - (intOf v).toNat)
    case atStart => exact ⟨0, Nat.zero_le _, rfl, HST.out _ HB1.out⟩
    case round =>
      obtain ⟨k, hk, rfl, pre, hpre, hJp, hO⟩ := hrel
      have hki : (k : Int) ≤ (M : Int) := by omega
      have hMi : (M : Int) ≤ 1000 := by omega
      have hlM : ps.length - i = M := by omega
      rcases Nat.lt_or_ge k M with hkM | hkM
      · have hkMi : (k : Int) < (M : Int) := by omega
        obtain ⟨p, hp⟩ : ∃ p, ps[i + k]? = some p := ⟨_, List.getElem?_eq_getElem (by omega)⟩
        have hdp : (ps.drop i)[k]? = some p := by rw [List.getElem?_drop, hp]
        have hBw := HK.out wr hO
        have hbxr : wr.heap[q]? = some (.cells #[.slice (some ⟨P, ro, none⟩) ps.length cap, .int .i64 ((flat ps).length : Int)] 147 (0, 0)) := (hO.block q hB.tb.t.lt (fun e => by have := hG q hB.tb.t.gq; omega)).trans hbx
        obtain ⟨op, pc, hpv, hpc, hcell, hre⟩ := hBw.tb.pageCell hbxr hp
        rw [← Nat.add_assoc] at hcell
        obtain ⟨z2, z3⟩ : wr.cell? ⟨b2, 0, none⟩ = some (.slice F fn fc) ∧ wr.cell? ⟨b3, 0, none⟩ = some (.slice T tn tc) := ⟨by simp [World.cell?, hBw.x2], by simp [World.cell?, hBw.x3]⟩
        have hpl := (hB.tb.pg p (List.mem_of_getElem? hp)).2
        have hdsp : flat (ps.drop i) = flat ((ps.drop i).take k) ++ (p.es ++ flat ((ps.drop i).drop (k + 1))) := flat_at hdp
        have hrise : Rise (p.es ++ flat ((ps.drop i).drop (k + 1))) := by
          have h1 := hB.tb.rise
          rw [hsplit, hdsp] at h1
          exact (List.pairwise_append.1 (List.pairwise_append.1 h1).2.1).2.1
        have hrp : Rise p.es := (List.pairwise_append.1 hrise).1
        have HCU := Lib.hid (cut_any p.es hrp f t (some ⟨p.g, op, none⟩) F T pc fn fc tn tc h.fl h.tl hpc wr (by omega) hre hBw.rf hBw.rt)
        have hpli : (p.es.length : Int) ≤ 128 := by omega
        obtain ⟨L, hL⟩ : ∃ L, L = rangeL f t p.es := ⟨_, rfl⟩
        rw [← hL] at HCU
        by_cases hl : L = []
        · have hfin : pre.map (fun x => x.1) = rangeL f t (flat ps) := by
            rw [hpre, hall, hdsp, range_app, range_app, ← hL, hl]
            have := range_stop (t := t) hrise (hB.tb.pg p (List.mem_of_getElem? hp)).1 (hFA.page.hi _ p hp (by omega)) (by rw [← hL]; exact hl)
            rw [this]
            simp
          have HFN : Hid (∀ w4, Below wr.heap.size wr w4 → (∃ xs : List {x : Ent // x ∈ flat ps}, xs.map (fun x => x.1) = rangeL f t (flat ps) ∧ J xs w4)) := Lib.hid fun w4 hb => ⟨pre, hfin, HAb.out _ _ _ hJp hb⟩
          have hl0 : ((L.length : Int) == 0) = true := by rw [hl]; rfl
          clear hL hl hM hlM hall hsplit hahead hdsp hpre hfin hpv hp hdp hBw hre hrise hrp hJp hO hro hPq hp0 hbx hbx2 hrds hB
          gi_wp2_with (refine ⟨trivial, (fun h => (by cases h)), ?_⟩; gi_at_call 119; refine (callsIn_wide.2 HCU.out).mono ?_; rintro e w4 ⟨A4, a4, rfl, hu1, hu2, hu3, hb⟩
                       have HB4 := Lib.hid hb
                       clear hb hu1 hu2 hu3)
          refine bodyPost_ret (results_none rfl _ _ _) rfl ?_
          exact ⟨⟨_, rfl⟩, .inl (HFN.out _ HB4.out)⟩
        · have hl0 : ((L.length : Int) == 0) = false := by have := List.length_pos_iff.2 hl; simp; omega
          have hLl : L.length ≤ 128 := by rw [hL]; have := List.length_filter_le (inR f t) p.es; unfold rangeL; omega
          have HS4 : Hid (∀ w4, Below wr.heap.size wr w4 → IvR J (fun x : {x : Ent // x ∈ flat ps} => x.1) W n1 bl (rangeL f t (flat ((ps.drop i).take k)) ++ L.take 0) w4) := Lib.hid fun w4 hb => ⟨pre, by rw [hpre]; simp, HAb.out _ _ _ hJp hb, hO.trans (Only.of_below (K := fun _ => False) hb) (fun _ _ e => e.elim)⟩
          have HLQ := Lib.hid hL
          have HMQ := Lib.hid hM
          have HLM := Lib.hid hlM
          have HALL := Lib.hid hall
          have HDS := Lib.hid hdsp
          have HPV := Lib.hid hpv
          have HPQ := Lib.hid hp
          have HDP := Lib.hid hdp
          have HHL := Lib.hid hl
          clear hL hM hlM hall hsplit hahead hdsp hpre hpv hp hdp
          gi_wp2_with (refine ⟨trivial, (fun h => (by cases h)), ?_⟩; gi_at_call 119; refine (callsIn_wide.2 HCU.out).mono ?_; rintro e w4 ⟨A4, a4, rfl, _, hLe, hA4, hb⟩
                       have hA5 := hA4 HHL.out
                       rw [Option.map_some, Addr.add_lit] at hA5
                       subst hA5
                       have HLE := Lib.hid hLe
                       have HB4 := Lib.hid hb
                       clear hb hA4 hLe)
          gi_loopw [40] (fun v wr2 => ∃ j : Nat, j ≤ L.length ∧ v = .int .i64 j ∧ IvR J (fun x : {x : Ent // x ∈ flat ps} => x.1) W n1 bl (rangeL f t (flat ((ps.drop i).take k)) ++ L.take j) wr2) (fun v _ => L.length - (intOf v).toNat)
          case atStart => exact ⟨0, Nat.zero_le _, rfl, HS4.out _ HB4.out⟩
          case round =>
            obtain ⟨j2, hj2, rfl, pre2, hpre2, hJ2, hO2⟩ := hrel
            have hLi : (L.length : Int) ≤ 128 := by omega
            have hji : (j2 : Int) ≤ (L.length : Int) := by omega
            rcases Nat.lt_or_ge j2 L.length with hjL | hjL
            · have hjLi : (j2 : Int) < (L.length : Int) := by omega
              obtain ⟨e, he⟩ : ∃ e, L[j2]? = some e := ⟨_, List.getElem?_eq_getElem hjL⟩
              have hpe : p.es[a4 + j2]? = some e := by
                have h5 := HLE.out
                rw [h5, List.getElem?_take, if_pos hjL, List.getElem?_drop] at he
                exact he
              have hmem : e ∈ flat ps := List.mem_flatMap.2 ⟨p, List.mem_of_getElem? HPQ.out, List.mem_of_getElem? hpe⟩
              have hB2 := HK.out wr hO2
              obtain ⟨c0, c1⟩ := hB2.tb.entCell HPQ.out HPV.out hpe
              rw [show op + (a4 + j2) * 2 = op + a4 * 2 + j2 * 2 by omega] at c0 c1
              have hpl2 : pre2.length < (rangeL f t (flat ps)).length := by
                have h6 := congrArg List.length hpre2
                rw [List.length_map, List.length_append, List.length_take] at h6
                have h7 := congrArg List.length HALL.out
                rw [HDS.out, range_app, range_app, ← HLQ.out, List.length_append, List.length_append] at h7
                omega
              have HNX : Hid (∀ w3, J (pre2 ++ [⟨e, hmem⟩]) w3 → KpR n1 bl (wr.alloc (.cells #[.slice e.kA e.k.length e.kc, .slice e.rA e.r.length e.rc] 92)) w3 → IvR J (fun x : {x : Ent // x ∈ flat ps} => x.1) W n1 bl (rangeL f t (flat ((ps.drop i).take k)) ++ L.take (j2 + 1)) w3) := Lib.hid fun w3 hj hk3 => ⟨_, by rw [List.map_append, hpre2, List.append_assoc, List.take_add_one, he]; rfl, hj, (hO2.trans (Only.of_below (K := fun _ => False) (alloc_below _ _)) (fun _ _ e => e.elim)).trans hk3 (fun _ _ e => e)⟩
              have HST2 : Hid (∀ w3, Jx (pre2 ++ [⟨e, hmem⟩]) w3 → StopP J Jx (rangeL f t (flat ps)) (.returned (.tuple #[])) w3) := Lib.hid fun w3 hj => ⟨⟨_, rfl⟩, .inr ⟨_, by
                rw [List.map_append, hpre2, HALL.out, HDS.out, range_app, range_app, ← HLQ.out]
                refine ⟨L.drop (j2 + 1) ++ rangeL f t (flat ((ps.drop i).drop (k + 1))), ?_⟩
                have h8 : L.take j2 ++ [e] = L.take (j2 + 1) := by rw [List.take_add_one, he]; rfl
                show (rangeL f t (flat ((ps.drop i).take k)) ++ L.take j2) ++ [e] ++ _ = _
                rw [List.append_assoc (rangeL f t (flat ((ps.drop i).take k))), h8, List.append_assoc, ← List.append_assoc (L.take (j2 + 1)), List.take_append_drop], hj⟩⟩
              obtain ⟨fn9, tmps9, assign9, body9, hy, hR9⟩ := hY pre2 ⟨e, hmem⟩ (wr.alloc (.cells #[.slice e.kA e.k.length e.kc, .slice e.rA e.r.length e.rc] 92)) (HAb.out _ _ _ hJ2 (alloc_below _ _)) hpl2
              dsimp only [Ent.v] at hy
              clear hpe he hpre2 hpl2
              gi_wp2
              refine ⟨(fun h => (by cases h)), ?_⟩
              refine hR9.mono ?_
              rintro e9 w3 (⟨rfl, hJ3, hk3⟩ | ⟨rfl, hJx3⟩)
              · have HR9 := Lib.hid (HNX.out _ hJ3 hk3)
                clear hJ3 hk3
                gi_wp2
                go_roundw
                case rel => exact ⟨j2 + 1, by omega, by go_num, HR9.out⟩
                case measure => simp [intOf]; omega
              · have HR9 := Lib.hid (HST2.out _ hJx3)
                clear hJx3
                gi_wp2
                refine bodyPost_ret (results_none rfl _ _ _) rfl ?_
                exact HR9.out
            · have hjle : ¬ (j2 : Int) < (L.length : Int) := by omega
              have hjL2 : L.length = j2 := by omega
              have HNX : Hid (IvR J (fun x : {x : Ent // x ∈ flat ps} => x.1) W n1 bl (rangeL f t (flat ((ps.drop i).take (k + 1)))) wr) := Lib.hid ⟨pre2, by
                rw [hpre2, ← hjL2, List.take_length, List.take_add_one, HDP.out, flat_app, range_app, HLQ.out]
                simp [flat], hJ2, hO2⟩
              clear hpre2 hJ2 hO2 hjL2
              gi_wp2
              go_roundw
              case rel => exact ⟨k + 1, by omega, by go_num, HNX.out⟩
              case measure => simp [intOf]; omega
      · have hkle : ¬ (k : Int) < (M : Int) := by omega
        have hkM2 : k = M := by omega
        have HST3 : Hid (StopP J Jx (rangeL f t (flat ps)) (.returned (.tuple #[])) wr) := Lib.hid ⟨⟨_, rfl⟩, .inl ⟨pre, by
          rw [hpre, hall, hkM2, ← hlM, ← List.length_drop, List.take_length], hJp⟩⟩
        clear hall hsplit hahead hpre hM hlM hkM2
        gi_wp2
        go_end0
        exact HST3.out
  · have hie : i = ps.length := by omega
    have HST4 : Hid (∀ w1, Below W.heap.size W w1 → StopP J Jx (rangeL f t (flat ps)) (.returned (.tuple #[])) w1) := Lib.hid fun w1 hb => ⟨⟨_, rfl⟩, .inl ⟨[], by
      rw [hall, hie, List.drop_length]; simp [flat, rangeL], HAb.out _ _ _ h0 hb⟩⟩
    have hcap : ps.length ≤ cap := by
      obtain ⟨v, hv1, hv2⟩ := hB.tb.t.box
      rw [hbx] at hv1
      have e1 : Value.slice A ps.length cap = v := by simp at hv1; exact hv1
      subst e1
      obtain ⟨A9, c9, e9, h9, _⟩ := hv2.slice
      injection e9 with e9 e10 e11
      omega
    clear hall hsplit hahead
    subst hie
    by_cases hce : cap = ps.length
    · subst hce
      gi_wp2_with (refine ⟨trivial, (fun h => (by cases h)), ?_⟩; gi_at_call 89; refine (callsIn_wide.2 HFI.out).mono ?_; rintro e w1 ⟨rfl, hb⟩
                   have HB1 := Lib.hid hb
                   obtain ⟨y0, y1⟩ := HC1.out _ hb
                   clear hb)
      gi_loopw [27] (fun v wr => v = .int .i64 0 ∧ Below W.heap.size W wr) (fun v _ => 0)
      case atStart => exact ⟨rfl, HB1.out⟩
      case round =>
        obtain ⟨rfl, hbr⟩ := hrel
        gi_wp2
        go_end0
        exact HST4.out _ hbr
    · gi_wp2_with (refine ⟨trivial, (fun h => (by cases h)), ?_⟩; gi_at_call 89; refine (callsIn_wide.2 HFI.out).mono ?_; rintro e w1 ⟨rfl, hb⟩
                   have HB1 := Lib.hid hb
                   obtain ⟨y0, y1⟩ := HC1.out _ hb
                   clear hb)
      gi_loopw [27] (fun v wr => v = .int .i64 0 ∧ Below W.heap.size W wr) (fun v _ => 0)
      case atStart => exact ⟨rfl, HB1.out⟩
      case round =>
        obtain ⟨rfl, hbr⟩ := hrel
        gi_wp2
        go_end0
        exact HST4.out _ hbr
end Go.Proofs.YtkohppalfcalbaaGreat

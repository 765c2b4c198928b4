/- Package table: New, Len, Get, a page's cut. -/
import Derived.Test.YtfmhijaljlmgaaaPN
namespace Go.Proofs.Ytfmhijaljlmgaaa
open Go.RowKit

/-- what New answers -/
def NewT (w : World) (en : Ending) (w' : World) : Prop := en = .returned (.pointer (some ⟨w.heap.size, 0, none⟩)) ∧ Tbl w' (· = w.heap.size) (fun _ => False) w.heap.size w.heap.size [] ∧ Below w.heap.size w w'
theorem tbl_new (w : World) : Tbl (w.alloc (.cells #[.slice none 0 0, .int .i64 0] 52)) (· = w.heap.size) (fun _ => False) w.heap.size w.heap.size [] :=
  ⟨⟨⟨.slice none 0 0, heap_alloc_new w _, .inl ⟨rfl, rfl, rfl, rfl⟩⟩, fun p hp => by simp at hp, by simp, fun p hp => by simp at hp, rfl, rfl, fun _ _ h => h, fun j e => by subst e; simp, fun _ h => h.elim⟩, fun p hp => by simp at hp, List.Pairwise.nil, by simp [flat]⟩
set_option maxRecDepth 100000 in
theorem new_any (w : World) : Calls Try.prog 4 #[] w (NewT w) := by
  have HY : Hid (NewT w (.returned (.pointer (some ⟨w.heap.size, 0, none⟩))) (w.alloc (.cells #[.slice none 0 0, .int .i64 0] 52))) := Lib.hid ⟨rfl, tbl_new w, alloc_below w _⟩
  go_enter Try.func4, Try.ntmps4
  go_wp2_with fail
  go_ret
  exact HY.out
set_option maxRecDepth 100000 in
theorem len_any {w : World} {G D : Nat → Prop} {q P : Nat} {ps : List Pg} (h : Tbl w G D q P ps) (m : Nat) (hm : m = (kv (flat ps)).length) : Calls Try.prog 17 #[.pointer (some ⟨q, 0, none⟩)] w (Looks (.int .i64 (m : Int)) w) := by
  obtain ⟨v, h1, _⟩ := h.t.box
  have hm2 : m = (flat ps).length := by rw [hm]; simp [kv]
  rw [← hm2] at h1
  obtain ⟨x0, x1⟩ := box2 h1
  have hnil : ∀ (w : World) (a : Option Addr), (binOp .eql 26 (.pointer a) (.pointer none)).run Try.prog w = .ok (.bool a.isNone) w := fun w a => by cases a <;> rfl
  clear h h1 hm hm2
  go_enter Try.func17, Try.ntmps17
  go_wp2_with fail
  go_ret
  exact ⟨rfl, rfl⟩
/-- what Get answers -/
def GetT (w : World) (l : List (List UInt8 × List UInt8)) (key : List UInt8) (en : Ending) (w' : World) : Prop := ∃ v, en = .returned (.tuple #[v, .bool (getK l key).isSome]) ∧ OwnB w' w.heap.size v ((getK l key).getD []) ∧ Below w.heap.size w w'
/-- where an entry that is there lies -/
theorem Tbl.there {w : World} {G D : Nat → Prop} {q P : Nat} {ps : List Pg} (h : Tbl w G D q P ps) {key : List UInt8} {i j : Nat} (hF : FindAt ps key i j true) (hS : SplitB (flat ps) key ((flat (ps.take i)).length + j)) (hf : true = hasAt (flat ps) ((flat (ps.take i)).length + j) key) :
    ∃ p e o pc ro rcap, ps[i]? = some p ∧ p.es[j]? = some e ∧ p.v = .slice (some ⟨p.g, o, none⟩) p.es.length pc ∧ i < ps.length ∧ j < p.es.length ∧ p.es.length ≤ 128 ∧ getK (kv (flat ps)) key = some e.r ∧ EntOk w D e ∧ (flat ps)[(flat (ps.take i)).length + j]? = some e ∧ cmpB e.k key = 0 ∧
      ∀ W, Below w.heap.size w W → W.cell? ⟨q, 0, none⟩ = some (.slice (some ⟨P, ro, none⟩) ps.length rcap) ∧ W.cell? ⟨P, ro + i, none⟩ = some (.slice (some ⟨p.g, o, none⟩) p.es.length pc) ∧ W.cell? ⟨p.g, o + j * 2, none⟩ = some (.slice e.kA e.k.length e.kc) ∧ W.cell? ⟨p.g, o + j * 2 + 1, none⟩ = some (.slice e.rA e.r.length e.rc) := by
  have hi1 : i < ps.length := by
    rcases Nat.lt_or_ge i ps.length with h1 | h1
    · exact h1
    · have := (hF.past (by have := hF.page.le; omega)).2
      cases this
  obtain ⟨p, hp⟩ : ∃ p, ps[i]? = some p := ⟨_, List.getElem?_eq_getElem hi1⟩
  obtain ⟨hsp, hfp⟩ := hF.here p hp
  obtain ⟨e, he⟩ : ∃ e, p.es[j]? = some e := by
    unfold hasAt at hfp
    cases he : p.es[j]? with
    | some e => exact ⟨e, rfl⟩
    | none => rw [he] at hfp; cases hfp
  have hjl := (List.getElem?_eq_some_iff.1 he).1
  obtain ⟨o, pc, hpv⟩ : ∃ o pc, p.v = .slice (some ⟨p.g, o, none⟩) p.es.length pc := by
    rcases (h.t.page p (List.mem_of_getElem? hp)).1 with ⟨_, h0, _⟩ | ⟨_, o, pc, h1, _⟩
    · omega
    · exact ⟨o, pc, h1⟩
  obtain ⟨ro, rcap, hbx, hro, hPq⟩ := h.t.cap hp
  have hfe : (flat ps)[(flat (ps.take i)).length + j]? = some e := by
    rw [flat_at hp, List.getElem?_append_right (by omega), Nat.add_sub_cancel_left, List.getElem?_append_left hjl, he]
  refine ⟨p, e, o, pc, ro, rcap, hp, he, hpv, hi1, hjl, (h.pg p (List.mem_of_getElem? hp)).2, by rw [getK_at h.rise hS, ← hf, hfe]; rfl, h.t.ents p (List.mem_of_getElem? hp) e (List.mem_of_getElem? he), hfe, by unfold hasAt at hf; rw [hfe] at hf; simpa using hf.symm, fun W hb => ?_⟩
  have h2 := h.below hb
  obtain ⟨ro2, rcap2, hbx2, hro2, _⟩ := h2.t.cap hp
  have hbx3 := (hb.block q h.t.lt).trans hbx
  rw [hbx2] at hbx3
  have e1 : ro2 = ro ∧ rcap2 = rcap := by simp at hbx3; exact hbx3
  obtain ⟨rfl, rfl⟩ := e1
  have hc1 := hro2.cell i p.v (by unfold pagesV; rw [List.getElem?_map, hp]; rfl)
  rw [hpv] at hc1
  obtain ⟨hgq, ho⟩ : p.g ≠ q ∧ OwnC W p.g o pc 2 p.es.length (entV p.es) := by
    rcases (h2.t.page p (List.mem_of_getElem? hp)).1 with ⟨_, h0, _⟩ | ⟨hne, o', cap', e1, ho⟩
    · omega
    · rw [hpv] at e1
      injection e1 with e1 e2 e3
      injection e1 with e1
      injection e1 with e1 e4
      subst e4 e3
      exact ⟨hne, ho⟩
  exact ⟨(box2 hbx2).1, hc1, ho.cell _ _ (entV_at he).1, by rw [Nat.add_assoc]; exact ho.cell _ _ (entV_at he).2⟩
set_option maxRecDepth 100000 in
set_option maxHeartbeats 4000000 in
theorem get_any {w : World} {G D : Nat → Prop} {q P : Nat} {ps : List Pg} (h : Tbl w G D q P ps) (key : List UInt8) (K : Option Addr) (kn kc : Nat) (hkn : key.length = kn) (hk : RdB w w.heap.size K key) :
    Calls Try.prog 28 #[.pointer (some ⟨q, 0, none⟩), .slice K kn kc] w (GetT w (kv (flat ps)) key) := by
  obtain ⟨i, j, f, hF, hS, hf, hfind⟩ := h.find key
  have HFI := Lib.hid (hfind K kn kc hkn w (Below.refl _ _) hk)
  have hnil : ∀ (w : World) (a : Option Addr), (binOp .eql 26 (.pointer a) (.pointer none)).run Try.prog w = .ok (.bool a.isNone) w := fun w a => by cases a <;> rfl
  cases f with
  | false =>
    have HY : Hid (∀ w', Below w.heap.size w w' → GetT w (kv (flat ps)) key (.returned (.tuple #[.slice none 0 0, .bool false])) w') := Lib.hid fun w' hb => by
      have hg : getK (kv (flat ps)) key = none := by rw [getK_at h.rise hS, ← hf]; rfl
      exact ⟨_, by rw [hg]; rfl, by rw [hg]; exact OwnB.nil _ _, hb⟩
    clear h hk hF hS hf hfind hkn
    go_enter Try.func28, Try.ntmps28
    go_wp2_with (go_at_call 19; refine HFI.out.mono ?_; rintro e w1 ⟨rfl, hb⟩; have HB1 := Lib.hid hb; clear hb)
    go_ret2
    exact HY.out _ HB1.out
  | true =>
    obtain ⟨p, e, o, pc, ro, rcap, hp, he, hpv, hi, hj, hpl, hg, heo, _, _, hc⟩ := h.there hF hS hf
    have HC := Lib.hid hc
    have HR : Hid (∀ W, Below w.heap.size w W → Calls Try.prog 21 #[.slice e.rA e.r.length e.rc] W (CloneTo W e.r)) := Lib.hid fun W hb => cloneA_any e.r e.rA _ _ rfl W heo.rl ((heo.row.below hb (Nat.le_refl _)).more hb.size)
    have HY : Hid (∀ w1 w' v, Below w.heap.size w w1 → OwnB w' w1.heap.size v e.r → Below w1.heap.size w1 w' → GetT w (kv (flat ps)) key (.returned (.tuple #[v, .bool true])) w') := Lib.hid fun w1 w' v hb1 ho hb => ⟨v, by rw [hg]; rfl, by rw [hg]; exact ho.down hb1.size, hb1.trans (hb.mono hb1.size)⟩
    have hlen := h.len
    have hii : (i : Int) < (ps.length : Int) := by omega
    have hji : (j : Int) < (p.es.length : Int) := by omega
    have hni : (ps.length : Int) ≤ 1000 := by omega
    have hpi : (p.es.length : Int) ≤ 128 := by omega
    clear h hk hF hS hf hfind hkn hp he hpv hi hj hpl hg heo hc hlen
    go_enter Try.func28, Try.ntmps28
    go_wp2_with (first
      | (go_at_call 19; refine HFI.out.mono ?_; rintro e1 w1 ⟨rfl, hb⟩; have HB1 := Lib.hid hb
         obtain ⟨x0, x1, x2, x3⟩ := HC.out _ hb
         clear hb)
      | (go_at_call 21; refine (HR.out _ (by exact HB1.out)).mono ?_; rintro e2 w2 ⟨v2, rfl, ho, hb⟩
         have HZ := Lib.hid (HY.out _ _ _ HB1.out ho hb)
         clear ho hb))
    go_ret2
    exact HZ.out
end Go.Proofs.Ytfmhijaljlmgaaa

/- Package table: Last ahead of a key. -/
import Derived.Test.YtfmhijaljlmgaaaYB
namespace Go.Proofs.Ytfmhijaljlmgaaa
open Go.RowKit

theorem kv_last {L : List Ent} {m : Nat} {e : Ent} (hm : 0 < m) (he : L[m - 1]? = some e) : (kv (L.take m)).getLast? = some (e.k, e.r) := by
  have hl := (List.getElem?_eq_some_iff.1 he).1
  unfold kv
  rw [List.getLast?_eq_getElem?, List.length_map, List.length_take, List.getElem?_map, List.getElem?_take, if_pos (by omega), show min m L.length - 1 = m - 1 by omega, he]
  rfl
set_option maxRecDepth 100000 in
set_option maxHeartbeats 4000000 in
/-- .. where nothing stands ahead -/
theorem last_zero {w : World} {G D : Nat → Prop} {q P : Nat} {ps : List Pg} (h : Tbl w G D q P ps) (T : Option Addr) (tn tc : Nat) (htp : 0 < (tn : Int)) (f : Bool)
    (hfind : ∀ w2, Below w.heap.size w w2 → Calls Try.prog 19 #[.pointer (some ⟨q, 0, none⟩), .slice T tn tc] w2 (Ans (.tuple #[.int .i64 0, .int .i64 0, .bool f]) w2)) : Calls Try.prog 27 #[.pointer (some ⟨q, 0, none⟩), .slice T tn tc] w (LastT w []) := by
  have hnil : ∀ (w : World) (a : Option Addr), (binOp .eql 26 (.pointer a) (.pointer none)).run Try.prog w = .ok (.bool a.isNone) w := fun w a => by cases a <;> rfl
  obtain ⟨w0, hw0⟩ : ∃ w0, w0 = w.alloc (.cells #[.slice none 0 0, .slice none 0 0] 46) := ⟨_, rfl⟩
  have hb0 : Below w.heap.size w w0 := by rw [hw0]; exact alloc_below _ _
  have hs0 : w0.heap.size = w.heap.size + 1 := by rw [hw0]; simp
  have hbx0 : w0.heap[w.heap.size]? = some (.cells #[.slice none 0 0, .slice none 0 0] 46 (0, 0)) := by rw [hw0]; exact heap_alloc_new w _
  have HFI := Lib.hid (hfind w0 hb0)
  obtain ⟨v, h1, h2⟩ := h.t.box
  obtain ⟨A, cap, rfl, h3, _⟩ := h2.slice
  have x0 := (box2 ((hb0.block q h.t.lt).trans h1)).1
  have HN : Hid (∀ w1, Below w0.heap.size w0 w1 → w1.heap[w.heap.size]? = some (.cells #[.slice none 0 0, .slice none 0 0] 46 (0, 0)) ∧ Hid (LastT w [] (.returned (.tuple #[.agg #[.slice none 0 0, .slice none 0 0], .bool false])) ((w1.setCell ⟨w.heap.size, 0, none⟩ (.slice none 0 0)).setCell ⟨w.heap.size, 1, none⟩ (.slice none 0 0)))) := Lib.hid fun w1 hb => by
    have hO : Only (· = w.heap.size) w1 ((w1.setCell ⟨w.heap.size, 0, none⟩ (.slice none 0 0)).setCell ⟨w.heap.size, 1, none⟩ (.slice none 0 0)) := (Only.set w1 _ 0 _).trans (Only.set _ _ 1 _) (fun _ _ e => e)
    have hb3 := hb0.trans (hb.mono hb0.size)
    exact ⟨(hb.block _ (by omega)).trans hbx0, Lib.hid ⟨hb3.trans (hO.below hb3.size (fun j e => by omega)), .inl ⟨rfl, rfl⟩⟩⟩
  have hpsi : (ps.length : Int) ≤ 1000 := by have := h.len; omega
  have HW0 := Lib.hid hw0
  clear h hfind hbx0 hb0 hs0 hw0 h1 h2 h3
  go_enter Try.func27, Try.ntmps27
  rw [HW0.out] at x0
  go_wp2_with (go_at_call 19; rw [← HW0.out]; refine HFI.out.mono ?_; rintro e1 w1 ⟨rfl, hb⟩
               obtain ⟨hbx, HL⟩ := HN.out w1 hb
               obtain ⟨y0, y1⟩ := box2 hbx
               have z0 := frozen_of hbx 0
               have z1 := frozen_of hbx 1
               clear hb hbx)
  refine bodyPost_ret (v := .tuple #[.agg #[.slice none 0 0, .slice none 0 0], .bool false]) (by simp [results, Try.results27, go_sem, y0, y1]) rfl ?_
  exact HL.out
set_option maxRecDepth 100000 in
set_option maxHeartbeats 8000000 in
/-- .. at the end of a page -/
theorem last_end {w : World} {G D : Nat → Prop} {q P i j : Nat} {ps : List Pg} {p : Pg} {e : Ent} (h : Tbl w G D q P ps) (hp : ps[i]? = some p) (he : p.es[j]? = some e) (T : Option Addr) (tn tc : Nat) (htp : 0 < (tn : Int)) (f : Bool) (hjj : p.es.length = j + 1)
    (hfind : ∀ w2, Below w.heap.size w w2 → Calls Try.prog 19 #[.pointer (some ⟨q, 0, none⟩), .slice T tn tc] w2 (Ans (.tuple #[.int .i64 ((i : Int) + 1), .int .i64 0, .bool f]) w2)) (R : List (List UInt8 × List UInt8)) (hR : R.getLast? = some (e.k, e.r)) : Calls Try.prog 27 #[.pointer (some ⟨q, 0, none⟩), .slice T tn tc] w (LastT w R) := by
  have hnil : ∀ (w : World) (a : Option Addr), (binOp .eql 26 (.pointer a) (.pointer none)).run Try.prog w = .ok (.bool a.isNone) w := fun w a => by cases a <;> rfl
  obtain ⟨ro, rcap, op, pc, hrc, hpc, hE, hC⟩ := h.lastCells hp he
  have hlen := h.len
  have hpl := (h.pg p (List.mem_of_getElem? hp)).2
  have hil := (List.getElem?_eq_some_iff.1 hp).1
  have hjl := (List.getElem?_eq_some_iff.1 he).1
  obtain ⟨w0, hw0⟩ : ∃ w0, w0 = w.alloc (.cells #[.slice none 0 0, .slice none 0 0] 46) := ⟨_, rfl⟩
  have hb0 : Below w.heap.size w w0 := by rw [hw0]; exact alloc_below _ _
  have hbx0 : w0.heap[w.heap.size]? = some (.cells #[.slice none 0 0, .slice none 0 0] 46 (0, 0)) := by rw [hw0]; exact heap_alloc_new w _
  obtain ⟨x0, _⟩ := hC w0 hb0
  have HW0 := Lib.hid hw0
  have hii : (i : Int) < (ps.length : Int) := by omega
  have hji : (j : Int) < (p.es.length : Int) := by omega
  have hi1 : ¬ (i : Int) < 0 := by omega
  have hj1 : ¬ (j : Int) < 0 := by omega
  have hps : (ps.length : Int) ≤ 1000 := by omega
  have hpe : (p.es.length : Int) ≤ 128 := by omega
  have e1 : ((i : Int) + 1 == 0) = false := beq_false_of_ne (by omega)
  have e2 : ((j : Int) + 1 == 0) = false := beq_false_of_ne (by omega)
  have HFI := Lib.hid (hfind w0 hb0)
  have HC : Hid (∀ W, Below w0.heap.size w0 W → W.cell? ⟨q, 0, none⟩ = some (.slice (some ⟨P, ro, none⟩) ps.length rcap) ∧ W.cell? ⟨P, ro + i, none⟩ = some (.slice (some ⟨p.g, op, none⟩) (j + 1) pc) ∧ W.cell? ⟨p.g, op + j * 2, none⟩ = some (.slice e.kA e.k.length e.kc) ∧ W.cell? ⟨p.g, op + j * 2 + 1, none⟩ = some (.slice e.rA e.r.length e.rc)) := Lib.hid fun W hb => by
    have hx := hC W (hb0.trans (hb.mono hb0.size))
    have hj0 : p.es.length = (j + 1) := by omega
    rw [hj0] at hx
    exact hx
  have HCO : Hid (∀ W, Below w0.heap.size w0 W → Calls Try.prog 25 #[.agg #[.slice e.kA e.k.length e.kc, .slice e.rA e.r.length e.rc]] W _) := Lib.hid fun W hb => entCopied_any e.kA e.rA e.k e.r e.kc e.rc _ _ rfl rfl W ((hE.key.below (hb0.trans (hb.mono hb0.size)) (Nat.le_refl _)).more (Nat.le_trans hb0.size hb.size)) ((hE.row.below (hb0.trans (hb.mono hb0.size)) (Nat.le_refl _)).more (Nat.le_trans hb0.size hb.size)) hE.kl hE.rl
  have hs0 : w0.heap.size = w.heap.size + 1 := by rw [hw0]; simp
  have HE : Hid (∀ w2 w3 (e' : Ent), Below w0.heap.size w0 w2 → e'.k = e.k → e'.r = e.r → Below w2.heap.size w2 w3 → OwnB w3 w2.heap.size (.slice e'.kA e'.k.length e'.kc) e'.k → OwnB w3 w2.heap.size (.slice e'.rA e'.r.length e'.rc) e'.r → w3.heap[w.heap.size]? = some (.cells #[.slice none 0 0, .slice none 0 0] 46 (0, 0)) ∧ Hid (LastT w R (.returned (.tuple #[.agg #[.slice e'.kA e'.k.length e'.kc, .slice e'.rA e'.r.length e'.rc], .bool true])) ((w3.setCell ⟨w.heap.size, 0, none⟩ (.slice e'.kA e'.k.length e'.kc)).setCell ⟨w.heap.size, 1, none⟩ (.slice e'.rA e'.r.length e'.rc)))) := Lib.hid fun w2 w3 e' hb2 hk hr hb ho1 ho2 => by
    have hO : Only (· = w.heap.size) w3 ((w3.setCell ⟨w.heap.size, 0, none⟩ (.slice e'.kA e'.k.length e'.kc)).setCell ⟨w.heap.size, 1, none⟩ (.slice e'.rA e'.r.length e'.rc)) := (Only.set w3 _ 0 _).trans (Only.set _ _ 1 _) (fun _ _ e => e)
    have hs2 := hb2.size
    have hb3 := (hb0.trans (hb2.mono hb0.size)).trans (hb.mono (Nat.le_trans hb0.size hb2.size))
    exact ⟨(hb.block _ (by omega)).trans ((hb2.block _ (by omega)).trans hbx0), Lib.hid ⟨hb3.trans (hO.below hb3.size (fun j e => by omega)), .inr ⟨e', by rw [hR, hk, hr], rfl, (ho1.kept hO (fun b hb' e2 => by have := ho1.ge b hb'; omega)).down (by omega), (ho2.kept hO (fun b hb' e2 => by have := ho2.ge b hb'; omega)).down (by omega)⟩⟩⟩
  clear hs0 h hp he hC hbx0 hE hrc hpc hlen hpl hil hjl hb0 hw0 hfind
  go_enter Try.func27, Try.ntmps27
  rw [HW0.out] at x0
  go_wp2_with (first
    | (go_at_call 19; rw [← HW0.out]; refine HFI.out.mono ?_; rintro e1 w1 ⟨rfl, hb⟩
       have HB1 := Lib.hid hb
       obtain ⟨x0, x1, x2, x3⟩ := HC.out w1 hb
       clear hb)
    | (go_at_call 25; refine (HCO.out _ HB1.out).mono ?_; rintro e2 w3 ⟨⟨kA', k', kc', rA', r', rc'⟩, rfl, hk, hr, ho1, ho2, hb⟩
       obtain ⟨hbx3, HN⟩ := HE.out _ w3 _ HB1.out hk hr hb ho1 ho2
       obtain ⟨y0, y1⟩ := box2 hbx3
       have z0 := frozen_of hbx3 0
       have z1 := frozen_of hbx3 1
       dsimp only [Ent.v] at HN ⊢
       clear hk hr ho1 ho2 hb hbx3))
  refine bodyPost_ret (v := .tuple #[.agg #[_, _], .bool true]) (by simp [results, Try.results27, go_sem, y0, y1]; exact ⟨rfl, rfl⟩) rfl ?_
  exact HN.out
set_option maxRecDepth 100000 in
set_option maxHeartbeats 8000000 in
/-- .. within a page -/
theorem last_mid {w : World} {G D : Nat → Prop} {q P i j : Nat} {ps : List Pg} {p : Pg} {e : Ent} (h : Tbl w G D q P ps) (hp : ps[i]? = some p) (he : p.es[j]? = some e) (T : Option Addr) (tn tc : Nat) (htp : 0 < (tn : Int)) (f : Bool) (hbI : Bool) (hib : ((i : Int) == 0) = hbI)
    (hfind : ∀ w2, Below w.heap.size w w2 → Calls Try.prog 19 #[.pointer (some ⟨q, 0, none⟩), .slice T tn tc] w2 (Ans (.tuple #[.int .i64 (i : Int), .int .i64 ((j : Int) + 1), .bool f]) w2)) (R : List (List UInt8 × List UInt8)) (hR : R.getLast? = some (e.k, e.r)) : Calls Try.prog 27 #[.pointer (some ⟨q, 0, none⟩), .slice T tn tc] w (LastT w R) := by
  have hnil : ∀ (w : World) (a : Option Addr), (binOp .eql 26 (.pointer a) (.pointer none)).run Try.prog w = .ok (.bool a.isNone) w := fun w a => by cases a <;> rfl
  obtain ⟨ro, rcap, op, pc, hrc, hpc, hE, hC⟩ := h.lastCells hp he
  have hlen := h.len
  have hpl := (h.pg p (List.mem_of_getElem? hp)).2
  have hil := (List.getElem?_eq_some_iff.1 hp).1
  have hjl := (List.getElem?_eq_some_iff.1 he).1
  obtain ⟨w0, hw0⟩ : ∃ w0, w0 = w.alloc (.cells #[.slice none 0 0, .slice none 0 0] 46) := ⟨_, rfl⟩
  have hb0 : Below w.heap.size w w0 := by rw [hw0]; exact alloc_below _ _
  have hbx0 : w0.heap[w.heap.size]? = some (.cells #[.slice none 0 0, .slice none 0 0] 46 (0, 0)) := by rw [hw0]; exact heap_alloc_new w _
  obtain ⟨x0, _⟩ := hC w0 hb0
  have HW0 := Lib.hid hw0
  have hii : (i : Int) < (ps.length : Int) := by omega
  have hji : (j : Int) < (p.es.length : Int) := by omega
  have hi1 : ¬ (i : Int) < 0 := by omega
  have hj1 : ¬ (j : Int) < 0 := by omega
  have hps : (ps.length : Int) ≤ 1000 := by omega
  have hpe : (p.es.length : Int) ≤ 128 := by omega
  have e1 : ((i : Int) + 1 == 0) = false := beq_false_of_ne (by omega)
  have e2 : ((j : Int) + 1 == 0) = false := beq_false_of_ne (by omega)
  have HFI := Lib.hid (hfind w0 hb0)
  have HC : Hid (∀ W, Below w0.heap.size w0 W → W.cell? ⟨q, 0, none⟩ = some (.slice (some ⟨P, ro, none⟩) ps.length rcap) ∧ W.cell? ⟨P, ro + i, none⟩ = some (.slice (some ⟨p.g, op, none⟩) p.es.length pc) ∧ W.cell? ⟨p.g, op + j * 2, none⟩ = some (.slice e.kA e.k.length e.kc) ∧ W.cell? ⟨p.g, op + j * 2 + 1, none⟩ = some (.slice e.rA e.r.length e.rc)) := Lib.hid fun W hb => by
    have hx := hC W (hb0.trans (hb.mono hb0.size))
    have hj0 : p.es.length = p.es.length := by omega
    rw [hj0] at hx
    exact hx
  have HCO : Hid (∀ W, Below w0.heap.size w0 W → Calls Try.prog 25 #[.agg #[.slice e.kA e.k.length e.kc, .slice e.rA e.r.length e.rc]] W _) := Lib.hid fun W hb => entCopied_any e.kA e.rA e.k e.r e.kc e.rc _ _ rfl rfl W ((hE.key.below (hb0.trans (hb.mono hb0.size)) (Nat.le_refl _)).more (Nat.le_trans hb0.size hb.size)) ((hE.row.below (hb0.trans (hb.mono hb0.size)) (Nat.le_refl _)).more (Nat.le_trans hb0.size hb.size)) hE.kl hE.rl
  have hs0 : w0.heap.size = w.heap.size + 1 := by rw [hw0]; simp
  have HE : Hid (∀ w2 w3 (e' : Ent), Below w0.heap.size w0 w2 → e'.k = e.k → e'.r = e.r → Below w2.heap.size w2 w3 → OwnB w3 w2.heap.size (.slice e'.kA e'.k.length e'.kc) e'.k → OwnB w3 w2.heap.size (.slice e'.rA e'.r.length e'.rc) e'.r → w3.heap[w.heap.size]? = some (.cells #[.slice none 0 0, .slice none 0 0] 46 (0, 0)) ∧ Hid (LastT w R (.returned (.tuple #[.agg #[.slice e'.kA e'.k.length e'.kc, .slice e'.rA e'.r.length e'.rc], .bool true])) ((w3.setCell ⟨w.heap.size, 0, none⟩ (.slice e'.kA e'.k.length e'.kc)).setCell ⟨w.heap.size, 1, none⟩ (.slice e'.rA e'.r.length e'.rc)))) := Lib.hid fun w2 w3 e' hb2 hk hr hb ho1 ho2 => by
    have hO : Only (· = w.heap.size) w3 ((w3.setCell ⟨w.heap.size, 0, none⟩ (.slice e'.kA e'.k.length e'.kc)).setCell ⟨w.heap.size, 1, none⟩ (.slice e'.rA e'.r.length e'.rc)) := (Only.set w3 _ 0 _).trans (Only.set _ _ 1 _) (fun _ _ e => e)
    have hs2 := hb2.size
    have hb3 := (hb0.trans (hb2.mono hb0.size)).trans (hb.mono (Nat.le_trans hb0.size hb2.size))
    exact ⟨(hb.block _ (by omega)).trans ((hb2.block _ (by omega)).trans hbx0), Lib.hid ⟨hb3.trans (hO.below hb3.size (fun j e => by omega)), .inr ⟨e', by rw [hR, hk, hr], rfl, (ho1.kept hO (fun b hb' e2 => by have := ho1.ge b hb'; omega)).down (by omega), (ho2.kept hO (fun b hb' e2 => by have := ho2.ge b hb'; omega)).down (by omega)⟩⟩⟩
  clear hs0 h hp he hC hbx0 hE hrc hpc hlen hpl hil hjl hb0 hw0 hfind
  go_enter Try.func27, Try.ntmps27
  rw [HW0.out] at x0
  go_wp2_with (first
    | (go_at_call 19; rw [← HW0.out]; refine HFI.out.mono ?_; rintro e1 w1 ⟨rfl, hb⟩
       have HB1 := Lib.hid hb
       obtain ⟨x0, x1, x2, x3⟩ := HC.out w1 hb
       clear hb)
    | (go_at_call 25; refine (HCO.out _ HB1.out).mono ?_; rintro e2 w3 ⟨⟨kA', k', kc', rA', r', rc'⟩, rfl, hk, hr, ho1, ho2, hb⟩
       obtain ⟨hbx3, HN⟩ := HE.out _ w3 _ HB1.out hk hr hb ho1 ho2
       obtain ⟨y0, y1⟩ := box2 hbx3
       have z0 := frozen_of hbx3 0
       have z1 := frozen_of hbx3 1
       dsimp only [Ent.v] at HN ⊢
       clear hk hr ho1 ho2 hb hbx3))
  all_goals
    refine bodyPost_ret (v := .tuple #[.agg #[_, _], .bool true]) (by simp [results, Try.results27, go_sem, y0, y1]; exact ⟨rfl, rfl⟩) rfl ?_
    exact HN.out
theorem last_till {w : World} {G D : Nat → Prop} {q P : Nat} {ps : List Pg} (h : Tbl w G D q P ps) (t : List UInt8) (ht0 : t ≠ []) (T : Option Addr) (tn tc : Nat) (htn : t.length = tn) (ht : RdB w w.heap.size T t) : Calls Try.prog 27 #[.pointer (some ⟨q, 0, none⟩), .slice T tn tc] w (LastT w (kv (rangeL [] t (flat ps)))) := by
  obtain ⟨i, j, f, hF, hS, hf, hfind⟩ := h.find t
  rw [range_till hS ht0]
  have hil := hF.page.le
  have htp : 0 < (tn : Int) := by have := List.length_pos_iff.2 ht0; omega
  have HFI := fun w2 hb => hfind T tn tc htn w2 hb ((ht.below hb (Nat.le_refl _)).more hb.size)
  rcases last_at (fun p hp => (h.pg p hp).1) hil (fun p hp => (hF.here p hp).1.le) (fun e => (hF.past e).1) with ⟨rfl, rfl⟩ | ⟨i', j', p, e, hij, hp, he, hfl⟩
  · exact last_zero h T tn tc htp f HFI
  · split at hij
    · rename_i hj0
      subst hj0
      obtain ⟨rfl, hj⟩ := hij
      exact last_end h hp he T tn tc htp f hj.symm HFI _ (kv_last (by have := (List.getElem?_eq_some_iff.1 hfl).1; rcases Nat.eq_zero_or_pos ((flat (ps.take (i' + 1))).length + 0) with h0 | h0; (have e2 := flat_at hp; rw [List.take_add_one, hp, flat_app] at h0; simp [flat] at h0; have e3 := (List.getElem?_eq_some_iff.1 he).1; rw [h0.2] at e3; simp at e3); exact h0) hfl)
    · rename_i hj0
      obtain ⟨rfl, rfl⟩ := hij
      exact last_mid h hp he T tn tc htp f _ rfl HFI _ (kv_last (by omega) hfl)
end Go.Proofs.Ytfmhijaljlmgaaa

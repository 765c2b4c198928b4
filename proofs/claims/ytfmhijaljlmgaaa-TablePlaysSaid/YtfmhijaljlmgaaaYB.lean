/- Package table: Last. -/
import Derived.Test.YtfmhijaljlmgaaaYA
namespace Go.Proofs.Ytfmhijaljlmgaaa
open Go.RowKit

/-- what Last answers, where R is the range up to its key -/
def LastT (w : World) (R : List (List UInt8 × List UInt8)) (en : Ending) (w' : World) : Prop := Below w.heap.size w w' ∧ ((R = [] ∧ en = .returned (.tuple #[.agg #[.slice none 0 0, .slice none 0 0], .bool false])) ∨ ∃ e' : Ent, R.getLast? = some (e'.k, e'.r) ∧ en = .returned (.tuple #[.agg #[.slice e'.kA e'.k.length e'.kc, .slice e'.rA e'.r.length e'.rc], .bool true]) ∧ OwnB w' w.heap.size (.slice e'.kA e'.k.length e'.kc) e'.k ∧ OwnB w' w.heap.size (.slice e'.rA e'.r.length e'.rc) e'.r)
set_option maxRecDepth 100000 in
set_option maxHeartbeats 4000000 in
/-- .. behind nothing -/
theorem last_none {w : World} {G D : Nat → Prop} {q P : Nat} {ps : List Pg} (h : Tbl w G D q P ps) (T : Option Addr) (tc : Nat) (hps : ps = []) : Calls Try.prog 27 #[.pointer (some ⟨q, 0, none⟩), .slice T 0 tc] w (LastT w [] ) := by
  subst hps
  have hnil : ∀ (w : World) (a : Option Addr), (binOp .eql 26 (.pointer a) (.pointer none)).run Try.prog w = .ok (.bool a.isNone) w := fun w a => by cases a <;> rfl
  have HB : Hid (Below w.heap.size w (w.alloc (.cells #[.slice none 0 0, .slice none 0 0] 46))) := Lib.hid (alloc_below w _)
  obtain ⟨y0, y1⟩ := box2 (heap_alloc_new w (.cells #[.slice none 0 0, .slice none 0 0] 46))
  obtain ⟨A, cap, hbx, _⟩ := (h.below HB.out).t.rds (fun p hp => by simp at hp)
  obtain ⟨x0, x1⟩ := box2 hbx
  clear hbx
  go_enter Try.func27, Try.ntmps27
  go_wp2_with fail
  refine bodyPost_ret (v := .tuple #[.agg #[.slice none 0 0, .slice none 0 0], .bool false]) (by simp [results, Try.results27, go_sem, y0, y1]) rfl ?_
  exact ⟨HB.out, .inl ⟨rfl, rfl⟩⟩
/-- the cells that Last reads -/
theorem Tbl.lastCells {w : World} {G D : Nat → Prop} {q P i j : Nat} {ps : List Pg} {p : Pg} {e : Ent} (h : Tbl w G D q P ps) (hp : ps[i]? = some p) (he : p.es[j]? = some e) : ∃ ro rcap op pc, ps.length ≤ rcap ∧ p.es.length ≤ pc ∧ EntOk w D e ∧ ∀ W, Below w.heap.size w W → W.cell? ⟨q, 0, none⟩ = some (.slice (some ⟨P, ro, none⟩) ps.length rcap) ∧ W.cell? ⟨P, ro + i, none⟩ = some (.slice (some ⟨p.g, op, none⟩) p.es.length pc) ∧ W.cell? ⟨p.g, op + j * 2, none⟩ = some (.slice e.kA e.k.length e.kc) ∧ W.cell? ⟨p.g, op + j * 2 + 1, none⟩ = some (.slice e.rA e.r.length e.rc) := by
  obtain ⟨ro, rcap, hbx, hro, _⟩ := h.t.cap hp
  obtain ⟨op, pc, hpv, hpc, _, _⟩ := h.pageCell hbx hp
  refine ⟨ro, rcap, op, pc, hro.room, hpc, h.t.ents p (List.mem_of_getElem? hp) e (List.mem_of_getElem? he), fun W hb => ?_⟩
  have hbxW := (hb.block q h.t.lt).trans hbx
  obtain ⟨op2, pc2, hpv2, _, hcell, _⟩ := (h.below hb).pageCell hbxW hp
  rw [hpv] at hpv2
  injection hpv2 with e1 e2 e3
  injection e1 with e1
  injection e1 with e1 e4
  subst e4 e3
  exact ⟨(box2 hbxW).1, hcell, (h.below hb).entCell hp hpv he⟩
set_option maxRecDepth 100000 in
set_option maxHeartbeats 4000000 in
/-- .. of all -/
theorem last_all {w : World} {G D : Nat → Prop} {q P i j : Nat} {ps : List Pg} {p : Pg} {e : Ent} (h : Tbl w G D q P ps) (T : Option Addr) (tc : Nat) (hi : ps.length = i + 1) (hp : ps[i]? = some p) (hj : p.es.length = j + 1) (he : p.es[j]? = some e) (R : List (List UInt8 × List UInt8)) (hR : R.getLast? = some (e.k, e.r)) : Calls Try.prog 27 #[.pointer (some ⟨q, 0, none⟩), .slice T 0 tc] w (LastT w R) := by
  have hnil : ∀ (w : World) (a : Option Addr), (binOp .eql 26 (.pointer a) (.pointer none)).run Try.prog w = .ok (.bool a.isNone) w := fun w a => by cases a <;> rfl
  obtain ⟨ro, rcap, op, pc, hrc, hpc, hE, hC⟩ := h.lastCells hp he
  have hlen := h.len
  have hpl := (h.pg p (List.mem_of_getElem? hp)).2
  obtain ⟨w0, hw0⟩ : ∃ w0, w0 = w.alloc (.cells #[.slice none 0 0, .slice none 0 0] 46) := ⟨_, rfl⟩
  have hb0 : Below w.heap.size w w0 := by rw [hw0]; exact alloc_below _ _
  have hbx0 : w0.heap[w.heap.size]? = some (.cells #[.slice none 0 0, .slice none 0 0] 46 (0, 0)) := by rw [hw0]; exact heap_alloc_new w _
  obtain ⟨x0, x1, x2, x3⟩ := hC w0 hb0
  have HW0 := Lib.hid hw0
  have hii : (i : Int) ≤ 1000 := by omega
  have hji : (j : Int) ≤ 128 := by omega
  rw [hi] at x0
  rw [hj] at x1
  have HCO := Lib.hid (entCopied_any e.kA e.rA e.k e.r e.kc e.rc _ _ rfl rfl w0 ((hE.key.below hb0 (Nat.le_refl _)).more hb0.size) ((hE.row.below hb0 (Nat.le_refl _)).more hb0.size) hE.kl hE.rl)
  have hs0 : w0.heap.size = w.heap.size + 1 := by rw [hw0]; simp
  have HE : Hid (∀ w3 (e' : Ent), e'.k = e.k → e'.r = e.r → Below w0.heap.size w0 w3 → OwnB w3 w0.heap.size (.slice e'.kA e'.k.length e'.kc) e'.k → OwnB w3 w0.heap.size (.slice e'.rA e'.r.length e'.rc) e'.r → w3.heap[w.heap.size]? = some (.cells #[.slice none 0 0, .slice none 0 0] 46 (0, 0)) ∧ Hid (LastT w R (.returned (.tuple #[.agg #[.slice e'.kA e'.k.length e'.kc, .slice e'.rA e'.r.length e'.rc], .bool true])) ((w3.setCell ⟨w.heap.size, 0, none⟩ (.slice e'.kA e'.k.length e'.kc)).setCell ⟨w.heap.size, 1, none⟩ (.slice e'.rA e'.r.length e'.rc)))) := Lib.hid fun w3 e' hk hr hb ho1 ho2 => by
    have hO : Only (· = w.heap.size) w3 ((w3.setCell ⟨w.heap.size, 0, none⟩ (.slice e'.kA e'.k.length e'.kc)).setCell ⟨w.heap.size, 1, none⟩ (.slice e'.rA e'.r.length e'.rc)) := (Only.set w3 _ 0 _).trans (Only.set _ _ 1 _) (fun _ _ e => e)
    have hb3 := hb0.trans (hb.mono hb0.size)
    exact ⟨(hb.block _ (by omega)).trans hbx0, Lib.hid ⟨hb3.trans (hO.below hb3.size (fun j e => by omega)), .inr ⟨e', by rw [hR, hk, hr], rfl, (ho1.kept hO (fun b hb' e2 => by have := ho1.ge b hb'; omega)).down (by omega), (ho2.kept hO (fun b hb' e2 => by have := ho2.ge b hb'; omega)).down (by omega)⟩⟩⟩
  clear hs0 h hp he hC hbx0 hE hrc hpc hlen hpl hi hj hb0 hw0
  go_enter Try.func27, Try.ntmps27
  rw [HW0.out] at x0 x1 x2 x3
  go_wp2_with (go_at_call 25; rw [← HW0.out]; refine HCO.out.mono ?_; rintro e2 w3 ⟨⟨kA', k', kc', rA', r', rc'⟩, rfl, hk, hr, ho1, ho2, hb⟩
               obtain ⟨hbx3, HN⟩ := HE.out w3 _ hk hr hb ho1 ho2
               obtain ⟨y0, y1⟩ := box2 hbx3
               have z0 := frozen_of hbx3 0
               have z1 := frozen_of hbx3 1
               dsimp only [Ent.v] at HN ⊢
               clear hk hr ho1 ho2 hb hbx3)
  refine bodyPost_ret (v := .tuple #[.agg #[_, _], .bool true]) (by simp [results, Try.results27, go_sem, y0, y1]; exact ⟨rfl, rfl⟩) rfl ?_
  exact HN.out
end Go.Proofs.Ytfmhijaljlmgaaa

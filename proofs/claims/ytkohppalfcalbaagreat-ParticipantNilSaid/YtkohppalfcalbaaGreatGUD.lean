/- Package participant: doubt. -/
import Derived.Test.YtkohppalfcalbaaGreatGUC
namespace Go.Proofs.YtkohppalfcalbaaGreat
open Go.RowKit Go.Maps

/-- what is known of a prepared transaction, seen or not -/
def dbO (p : PtS) (n : Int) : Db := match findM p.D n with | some e => e.2 | none => ⟨none, 0, 0, p.ticks⟩
set_option maxRecDepth 100000 in
set_option maxHeartbeats 4000000 in
theorem doubt_any {w W : World} {p : PtS} (h : Pt w W p) {n : Int} (hn : i64ok n) : Calls Tryz.prog 110 #[.pointer (some ⟨p.pb, 0, none⟩), .int .i64 n] W (fun e W' => e = .returned (dbO p n).v ∧ Below W.heap.size W W') := by
  obtain ⟨c0, c1, c2, c3, c4, c5, c6⟩ := box7P h.box
  have hpl := h.lt _ (.inl rfl)
  have hLK : ∀ V, Below W.heap.size W V → (Instr.lookup 115 (.map (some p.dm)) (.int .i64 n) true).run Tryz.prog V = .ok (.tuple #[(atM doubtW p.D n).v, .bool (findM p.D n).isSome]) V := fun V hb => (h.md.below hb).look2 doubt_good (x := n) hn
  have HBX : Hid (∀ V, Below W.heap.size W V → V.cell? ⟨p.pb, 2, none⟩ = some (.int .i64 p.ticks)) := Lib.hid fun V hb => (box7P ((hb.block _ hpl).trans h.box)).2.2.1
  have HC3 : Hid (∀ V, Below W.heap.size W V → V.cell? ⟨p.pb, 3, none⟩ = some (.map (some p.dm))) := Lib.hid fun V hb => (box7P ((hb.block _ hpl).trans h.box)).2.2.2.1
  obtain ⟨pb, hpb⟩ : ∃ b, p.pb = b := ⟨_, rfl⟩
  obtain ⟨dm, hdm⟩ : ∃ b, p.dm = b := ⟨_, rfl⟩
  obtain ⟨tk, htk⟩ : ∃ b, p.ticks = b := ⟨_, rfl⟩
  rw [hpb] at HC3 HBX ⊢
  rw [hdm] at HC3 hLK
  rw [htk] at HBX
  have c3 := HC3.out _ (alloc_below W (.cells #[.slice none 0 0, .int .i64 0] 124))
  have HB := Lib.hid (fun o1 o2 => alloc2_below W o1 o2)
  cases hf : findM p.D n with
  | some e =>
    have e1 : dbO p n = e.2 := by unfold dbO; rw [hf]
    have e2 : atM doubtW p.D n = e.2 := by unfold atM; rw [hf]
    rw [e1]
    rw [e2, hf] at hLK
    obtain ⟨m, A, k, cap, s⟩ := e
    simp only [Db.v, Option.isSome_some] at hLK ⊢
    generalize (A.map fun p => (⟨p.1, p.2, none⟩ : Addr)) = A at hLK ⊢
    have hlk := hLK _ (alloc_below W (.cells #[.slice none 0 0, .int .i64 0] 124))
    clear h hn hf e1 e2 c0 c1 c2 c4 c5 c6 hpl hLK hpb hdm htk
    go_enter Tryz.func110, Tryz.ntmps110
    go_wp2_with fail
    refine bodyPost_ret (v := Value.agg #[.slice A k cap, .int .i64 s]) (by simp [results, Tryz.results110, go_sem]) rfl ?_
    exact ⟨rfl, HB.out _ _⟩
  | none =>
    have e1 : dbO p n = ⟨none, 0, 0, tk⟩ := by unfold dbO; rw [hf, htk]
    have e2 : atM doubtW p.D n = db0 := by unfold atM; rw [hf]; rfl
    rw [e1]
    rw [e2, hf] at hLK
    simp only [Db.v, db0, Option.isSome_none, Option.map_none] at hLK ⊢
    have hlk := hLK _ (alloc_below W (.cells #[.slice none 0 0, .int .i64 0] 124))
    clear h hn hf e1 e2 c0 c1 c2 c4 c5 c6 hpl hLK hpb hdm htk
    have c2 := HBX.out _ (HB.out (.cells #[.slice none 0 0, .int .i64 0] 124) (.cells #[.slice none 0 0, .int .i64 0] 124))
    go_enter Tryz.func110, Tryz.ntmps110
    go_wp2_with fail
    refine bodyPost_ret (v := Value.agg #[.slice none 0 0, .int .i64 tk]) (by simp [results, Tryz.results110, go_sem]) rfl ?_
    exact ⟨rfl, HB.out _ _⟩
end Go.Proofs.YtkohppalfcalbaaGreat

/- CoordinatorNil: the law's own body answers true. -/
import Derived.Test.YtajcmkhkknofgaaGreatOX
namespace Go.Proofs.YtajcmkhkknofgaaGreat
open Go.RowKit

set_option maxRecDepth 100000 in
set_option maxHeartbeats 16000000 in
theorem coordinatorNil_law (k i xn : Int) (NA : Option Addr) (nn nc : Nat) (lk lf lt lx : Int) (LA : Option Addr) (ln lc : Nat) (own : Bool) (BA : Option Addr) (bn bc : Nat) (node : Int) (w : World) :
    Calls Tryz.prog 4 #[.agg #[.int .i64 k, .int .i64 i, .int .i64 xn, .slice NA nn nc, .int .i64 lk, .int .i64 lf, .int .i64 lt, .int .i64 lx, .slice LA ln lc, .bool own, .slice BA bn bc], .int .i64 node] w (Ans (.bool true) w) := by
  have hnil : ∀ (w : World) (a : Option Addr), (binOp .eql 23 (.pointer a) (.pointer none)).run Tryz.prog w = .ok (.bool a.isNone) w := fun w a => by cases a <;> rfl
  obtain ⟨OB, hOB⟩ : ∃ OB, OB = Obj.cells #[.int .i64 k, .int .i64 i, .int .i64 xn, .slice NA nn nc, .int .i64 lk, .int .i64 lf, .int .i64 lt, .int .i64 lx, .slice LA ln lc, .bool own, .slice BA bn bc] 45 := ⟨_, rfl⟩
  have hb0 := alloc_below w OB
  have hbx := heap_alloc_new w OB
  rw [hOB] at hb0 hbx
  have HB0 := Lib.hid hb0
  have HBX := Lib.hid hbx
  have HCL : Hid (∀ W, Below (w.heap.size + 1) ((w.alloc (.cells #[.int .i64 k, .int .i64 i, .int .i64 xn, .slice NA nn nc, .int .i64 lk, .int .i64 lf, .int .i64 lt, .int .i64 lx, .slice LA ln lc, .bool own, .slice BA bn bc] 45))) W → W.cell? ⟨w.heap.size, 2, none⟩ = some (.int .i64 xn) ∧ W.cell? ⟨w.heap.size, 3, none⟩ = some (.slice NA nn nc) ∧ W.cell? ⟨w.heap.size, 4, none⟩ = some (.int .i64 lk) ∧ W.cell? ⟨w.heap.size, 5, none⟩ = some (.int .i64 lf) ∧ W.cell? ⟨w.heap.size, 6, none⟩ = some (.int .i64 lt) ∧ W.cell? ⟨w.heap.size, 7, none⟩ = some (.int .i64 lx) ∧ W.cell? ⟨w.heap.size, 8, none⟩ = some (.slice LA ln lc)) := Lib.hid fun W hb => by
    have h := (hb.block w.heap.size (by omega)).trans hbx
    simp [World.cell?, h]
  clear hb0 hbx hOB
  go_enter Tryz.func4, Tryz.ntmps4
  go_wp2_with (first
    | (go_at_call 6; refine (Open_nil node _).mono ?_; unfold OpN; rintro e w1 ⟨rfl, rfl⟩)
    | (go_at_call 9; refine (cBegin_nil _).mono ?_; rintro e w2 ⟨rfl, hb⟩
       have HB2 := Lib.hid hb
       clear hb)
    | (go_at_call 8; refine (alive13_any _).mono ?_; rintro e w3 ⟨rfl, hb⟩
       have HB3 := Lib.hid (HB2.out.trans (hb.mono HB2.out.size))
       obtain ⟨c2, c3, _⟩ := HCL.out _ (by simpa using HB3.out)
       clear hb)
    | (go_at_call 10; refine (cAsk_nil xn NA nn nc _).mono ?_; rintro e w4 ⟨rfl, hb⟩
       have HB4 := Lib.hid (HB3.out.trans (hb.mono HB3.out.size))
       clear c2 c3
       obtain ⟨c2, _⟩ := HCL.out _ (by simpa using HB4.out)
       clear hb)
    | (go_at_call 16; refine (cStop_nil xn _).mono ?_; rintro e w5 ⟨rfl, hb⟩
       have HB5 := Lib.hid (HB4.out.trans (hb.mono HB4.out.size))
       clear c2
       obtain ⟨_, _, c4, c5, c6, c7, c8⟩ := HCL.out _ (by simpa using HB5.out)
       clear hb)
    | (go_at_call 11; refine (cHear_nil lk lf lt lx LA ln lc _).mono ?_; rintro e w6 ⟨rfl, hb⟩
       have HB6 := Lib.hid (HB5.out.trans (hb.mono HB5.out.size))
       clear hb c4 c5 c6 c7 c8)
    | (go_at_call 14; refine (cTick_nil _).mono ?_; rintro e w7 ⟨rfl, hb⟩
       have HB7 := Lib.hid (HB6.out.trans (hb.mono HB6.out.size))
       clear hb)
    | (go_at_call 13; refine (cOut_nil _).mono ?_; rintro e w8 ⟨rfl, hb⟩
       have HB8 := Lib.hid (HB7.out.trans (hb.mono HB7.out.size))
       obtain ⟨c2, _⟩ := HCL.out _ (by simpa using HB8.out)
       clear hb)
    | (go_at_call 12; refine (cState_nil xn _).mono ?_; rintro e w9 ⟨rfl, hb⟩
       have HB9 := Lib.hid (HB8.out.trans (hb.mono HB8.out.size))
       clear hb c2)
    | (go_at_call 17; refine (cPending_nil _).mono ?_; rintro e wA ⟨rfl, hb⟩
       have HBA := Lib.hid (HB9.out.trans (hb.mono HB9.out.size))
       clear hb))
  go_ret
  exact ⟨rfl, HB0.out.trans (HBA.out.mono HB0.out.size)⟩
end Go.Proofs.YtajcmkhkknofgaaGreat

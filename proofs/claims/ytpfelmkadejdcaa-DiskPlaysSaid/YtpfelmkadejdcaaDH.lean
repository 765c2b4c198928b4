/- DiskNil: the law's own body answers true. -/
import Derived.Test.YtpfelmkadejdcaaDG
namespace Go.Proofs.Ytpfelmkadejdcaa
open Go.RowKit

theorem box4 {w : World} {b : Nat} {x y z u : Value} {t : TypeId} {fr : Nat × Nat} (h : w.heap[b]? = some (.cells #[x, y, z, u] t fr)) : w.cell? ⟨b, 0, none⟩ = some x ∧ w.cell? ⟨b, 1, none⟩ = some y ∧ w.cell? ⟨b, 2, none⟩ = some z ∧ w.cell? ⟨b, 3, none⟩ = some u := by
  simp [World.cell?, h]
set_option maxRecDepth 100000 in
set_option maxHeartbeats 2000000 in
theorem diskNil_law (k n m : Int) (A : Option Addr) (len cap : Nat) (w : World) : Calls Try.prog 8 #[.agg #[.int .i64 k, .int .i64 n, .int .i64 m, .slice A len cap]] w (Ans (.bool true) w) := by
  have HBX : Hid ((w.alloc (.cells #[.int .i64 k, .int .i64 n, .int .i64 m, .slice A len cap] 40)).heap[w.heap.size]? = some (.cells #[.int .i64 k, .int .i64 n, .int .i64 m, .slice A len cap] 40 (0, 0))) := Lib.hid (heap_alloc_new _ _)
  have HBA := Lib.hid (alloc_below w (.cells #[.int .i64 k, .int .i64 n, .int .i64 m, .slice A len cap] 40))
  go_enter Try.func8, Try.ntmps8
  go_wp2_with (first
    | (go_at_call 24; refine (nil_append _ _).mono ?_; rintro e w2 ⟨rfl, rfl⟩)
    | (go_at_call 32; refine (nil_read _ _ _).mono ?_; rintro e w2 ⟨rfl, rfl⟩)
    | (go_at_call 39; refine (alive_disk _).mono ?_; rintro e w2 ⟨rfl, hb⟩
       obtain ⟨y0, y1, y2, y3⟩ := box4 ((hb.block _ (by simp)).trans HBX.out)
       have HY : Hid (Ans (.bool true) w (.returned (.bool true)) w2) := Lib.hid ⟨rfl, HBA.out.trans (hb.mono HBA.out.size)⟩
       clear hb)
    | (go_at_call 26; refine (nil_sync _).mono ?_; rintro e w3 ⟨rfl, rfl⟩)
    | (go_at_call 28; refine (nil_drop _ _).mono ?_; rintro e w3 ⟨rfl, rfl⟩)
    | (go_at_call 30; refine (nil_cut _ _).mono ?_; rintro e w3 ⟨rfl, rfl⟩)
    | (go_at_call 37; refine (nil_begin _).mono ?_; rintro e w3 ⟨rfl, rfl⟩)
    | (go_at_call 38; refine (nil_end _).mono ?_; rintro e w3 ⟨rfl, rfl⟩)
    | (go_at_call 36; refine (nil_safe _).mono ?_; rintro e w3 ⟨rfl, rfl⟩)
    | (go_at_call 34; refine (nil_power _ _).mono ?_; rintro e w3 ⟨rfl, rfl⟩))
  go_ret
  exact HY.out
#print axioms diskNil_law
end Go.Proofs.Ytpfelmkadejdcaa

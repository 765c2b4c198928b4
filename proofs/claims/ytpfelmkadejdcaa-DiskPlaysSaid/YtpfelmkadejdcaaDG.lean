/- Package disk: no disk; layer 6's live question. -/
import Derived.Test.YtpfelmkadejdcaaDF
import Derived.Lib.SlBytesConst
namespace Go.Proofs.Ytpfelmkadejdcaa
open Go.RowKit

set_option maxRecDepth 100000 in
theorem nil_append (v : Value) (w : World) : Calls Try.prog 24 #[.pointer none, v] w (Looks (.tuple #[.int .i64 0, .int .i64 1]) w) := by
  go_enter Try.func24, Try.ntmps24
  go_wp2_with fail
  go_ret2
  exact ⟨rfl, rfl⟩
set_option maxRecDepth 100000 in
theorem nil_read (i j : Value) (w : World) : Calls Try.prog 32 #[.pointer none, i, j] w (Looks (.tuple #[.slice none 0 0, .int .i64 1]) w) := by
  go_enter Try.func32, Try.ntmps32
  go_wp2_with fail
  go_ret2
  exact ⟨rfl, rfl⟩
set_option maxRecDepth 100000 in
theorem nil_sync (w : World) : Calls Try.prog 26 #[.pointer none] w (Looks (.int .i64 1) w) := by
  go_enter Try.func26, Try.ntmps26
  go_wp2_with fail
  go_ret
  exact ⟨rfl, rfl⟩
set_option maxRecDepth 100000 in
theorem nil_drop (i : Value) (w : World) : Calls Try.prog 28 #[.pointer none, i] w (Looks (.int .i64 1) w) := by
  go_enter Try.func28, Try.ntmps28
  go_wp2_with fail
  go_ret
  exact ⟨rfl, rfl⟩
set_option maxRecDepth 100000 in
theorem nil_cut (i : Value) (w : World) : Calls Try.prog 30 #[.pointer none, i] w (Looks (.int .i64 1) w) := by
  go_enter Try.func30, Try.ntmps30
  go_wp2_with fail
  go_ret
  exact ⟨rfl, rfl⟩
set_option maxRecDepth 100000 in
theorem nil_begin (w : World) : Calls Try.prog 37 #[.pointer none] w (Looks (.int .i64 0) w) := by
  go_enter Try.func37, Try.ntmps37
  go_wp2_with fail
  go_ret
  exact ⟨rfl, rfl⟩
set_option maxRecDepth 100000 in
theorem nil_end (w : World) : Calls Try.prog 38 #[.pointer none] w (Looks (.int .i64 0) w) := by
  go_enter Try.func38, Try.ntmps38
  go_wp2_with fail
  go_ret
  exact ⟨rfl, rfl⟩
set_option maxRecDepth 100000 in
theorem nil_safe (w : World) : Calls Try.prog 36 #[.pointer none] w (Looks (.int .i64 0) w) := by
  go_enter Try.func36, Try.ntmps36
  go_wp2_with fail
  go_ret
  exact ⟨rfl, rfl⟩
set_option maxRecDepth 100000 in
theorem nil_power (i : Value) (w : World) : Calls Try.prog 34 #[.pointer none, i] w (Looks (.pointer none) w) := by
  go_enter Try.func34, Try.ntmps34
  go_wp2_with fail
  go_ret
  exact ⟨rfl, rfl⟩
/-- bytes as they are written -/
theorem rd_lit (w : World) (l : List UInt8) (cs : Array Value) (fr : Nat × Nat) (hc : cs = (bytesV l).toArray) : RdB (w.alloc (.cells cs 5 fr)) (w.alloc (.cells cs 5 fr)).heap.size (some ⟨w.heap.size, 0, none⟩) l := fun _ => ⟨_, rfl, by simp, fun j d hj => by
  subst hc
  have hh : (w.alloc (.cells (bytesV l).toArray 5 fr)).heap[w.heap.size]? = _ := heap_alloc_new w _
  rw [add_plain, cell_of_row _ _ j _ _ fr hh]
  simp [bytesV, hj]⟩
/-- what a call that turns the disk alone leaves, seen from below -/
theorem Only.dk {w w' : World} {B p g : Nat} (hO : Only (fun k => k = p ∨ k = g) w w') (hB : B ≤ w.heap.size) (hp : B ≤ p) (hg : B ≤ g) : Below B w w' := hO.below hB (fun j h => by rcases h with rfl | rfl <;> omega)
theorem alloc_dk {w w1 w2 : World} {o : Obj} {B p g : Nat} (hb : Below B w w1) (hB : B ≤ w.heap.size) (hO : Only (fun k => k = p ∨ k = g) (w1.alloc o) w2) (hp : B ≤ p) (hg : B ≤ g) : Below B w w2 := by
  have h1 := hb.trans ((alloc_below w1 o).mono (Nat.le_trans hB hb.size))
  exact h1.trans (hO.dk (Nat.le_trans hB h1.size) hp hg)
set_option maxRecDepth 100000 in
set_option maxHeartbeats 2000000 in
theorem alive_disk (w : World) : Calls Try.prog 39 #[] w (Ans (.bool true) w) := by
  have kc := fun (w : World) (C : Array Value) (n c : Nat) => Lib.run_convert_bytes_const (P := Try.prog) w 23 5 C n c Try.underlying23 Try.underlying5
  go_enter Try.func39, Try.ntmps39
  go_wp2_with (first
    | (go_at_call 23; refine (new_any _).mono ?_; rintro e w1 ⟨p, rfl, hd, hb⟩
       have HD := Lib.hid hd
       have HB := Lib.hid hb
       have HA := Lib.hid (fun o fr => (append_any (hd.below (alloc_below w1 (.cells o 5 fr))) (Nat.le_trans hb.size (alloc_below w1 (.cells o 5 fr)).size) [97, 98, 99] (some ⟨w1.heap.size, 0, none⟩) 3 3 rfl))
       clear hd hb)
    | (go_at_call 24; refine (HA.out _ _ (rd_lit w1 [97, 98, 99] _ _ rfl) (by decide)).mono ?_; rintro e w2 ⟨he, g2, hd2, hO2, hg2⟩
       have he2 : e = .returned (.tuple #[.int .i64 0, .int .i64 0]) := he
       have hb2 := alloc_dk HB.out (Nat.le_refl _) hO2 HD.out.ge.1 HD.out.ge.2
       have HB := Lib.hid hb2
       have HD := Lib.hid hd2
       have HA := Lib.hid (fun o fr => (append_any (hd2.below (alloc_below w2 (.cells o 5 fr))) (Nat.le_trans hb2.size (alloc_below w2 (.cells o 5 fr)).size) [100, 101] (some ⟨w2.heap.size, 0, none⟩) 2 2 rfl))
       clear hd2 hO2 hg2 hb2 he
       subst he2)
    | (go_at_call 24; refine (HA.out _ _ (rd_lit w2 [100, 101] _ _ rfl) (by decide)).mono ?_; rintro e w3 ⟨he, g3, hd3, hO3, hg3⟩
       have he2 : e = .returned (.tuple #[.int .i64 3, .int .i64 0]) := he
       have hb2 := alloc_dk HB.out (Nat.le_refl _) hO3 HD.out.ge.1 HD.out.ge.2
       have HB := Lib.hid hb2
       have HD := Lib.hid hd3
       have HR := Lib.hid (read_yes hd3 2 4 (by omega) (by omega) (by decide))
       clear hd3 hO3 hg3 hb2 he
       subst he2)
    | (go_at_call 32; refine HR.out.mono ?_; rintro e w4 ⟨v4, rfl, ho4, hb4⟩
       have hcv := conv_own ho4
       have e4 : ((([] ++ [97, 98, 99] ++ [100, 101] : List UInt8).drop (2 - 0)).take (4 - 2)).toArray = #[99, 100] := by decide
       rw [e4] at hcv
       have hb2 := HB.out.trans (hb4.mono HB.out.size)
       have HD4 := Lib.hid (HD.out.below hb4)
       have HB := Lib.hid hb2
       clear ho4 hb4 hb2)
    | (go_at_call 38; refine (end_any HD4.out).mono ?_; rintro e w5 ⟨he, n, rfl⟩
       have he2 : e = .returned (.int .i64 5) := he
       have HS := Lib.hid (safe_any (HD4.out.below (drewN_below w4 n)))
       have HY : Hid (Ans (.bool true) w (.returned (.bool true)) (w4.drewN n)) := Lib.hid ⟨rfl, HB.out.trans ((drewN_below w4 n).mono HB.out.size)⟩
       clear he
       subst he2)
    | (go_at_call 36; refine HS.out.mono ?_; rintro e w6 ⟨he, rfl⟩
       have he2 : e = .returned (.int .i64 0) := he
       clear he
       subst he2))
  go_ret
  exact HY.out
end Go.Proofs.Ytpfelmkadejdcaa

/- Package wal: Sync, Safe, Read. -/
import Derived.Test.YtogogekmodbdiaaJI
namespace Go.Proofs.Ytogogekmodbdiaa
open Go.RowKit

/-- a log whose disk alone has turned -/
theorem Wl.with_disk {w w' : World} {B q p g d b s s' : Nat} {pre : List (Nat × Nat)} {rs : List (List UInt8)} (h : Wl w B q p g d b s pre rs) (hO : Only (fun k => k = p) w w') (hd : Dk w' B p g b s' (bytesOf rs)) : Wl w' B q p g d b s' pre rs := by
  obtain ⟨A, cap, h1, h2⟩ := h.box
  exact ⟨⟨A, cap, (hO.block q h.lt h.ne.1).trans h1, h2.only hO (fun _ => h.ne.2.2.1)⟩, hd, h.ge, h.ne, h.gone, h.recs, h.few⟩
theorem Wl.cells {w : World} {B q p g d b s : Nat} {pre : List (Nat × Nat)} {rs : List (List UInt8)} (h : Wl w B q p g d b s pre rs) : Hid (∀ W, Below w.heap.size w W → W.cell? ⟨q, 0, none⟩ = some (.pointer (some ⟨p, 0, none⟩))) := Lib.hid fun W hb => by
  obtain ⟨A, cap, h1, _⟩ := h.box
  exact (box2 ((hb.block q h.lt).trans h1)).1
/-- what Sync answers -/
def SyT (w : World) (B q p g d b s : Nat) (pre : List (Nat × Nat)) (rs : List (List UInt8)) (e : Ending) (w' : World) : Prop := e = .returned (.int .i64 0) ∧ Wl w' B q p g d b s pre rs ∧ Only (fun k => k = p) w w'
set_option maxRecDepth 100000 in
theorem wsync_any {w : World} {B q p g d b s : Nat} {pre : List (Nat × Nat)} {rs : List (List UInt8)} (h : Wl w B q p g d b s pre rs) : Calls Try.prog 63 #[.pointer (some ⟨q, 0, none⟩)] w (SyT w B q p g d b (b + (bytesOf rs).length) pre rs) := by
  have x0 := h.cells.out w (Below.refl _ _)
  have HS := Lib.hid (sync_any h.disk)
  have HW : Hid (∀ w', Dk w' B p g b (b + (bytesOf rs).length) (bytesOf rs) → Only (fun k => k = p) w w' → SyT w B q p g d b (b + (bytesOf rs).length) pre rs (.returned (.int .i64 0)) w') := Lib.hid fun w' hd hO => ⟨rfl, h.with_disk hO hd, hO⟩
  clear h
  go_enter Try.func63, Try.ntmps63
  go_wp2_with (go_at_call 58; refine HS.out.mono ?_; rintro e w2 ⟨rfl, hd, hO⟩; have HY := Lib.hid (HW.out _ hd hO); clear hd hO)
  go_ret
  exact HY.out
end Go.Proofs.Ytogogekmodbdiaa

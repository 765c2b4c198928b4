/- Package wal: Sync, Safe, Read. -/
import Derived.Test.YtgdofnbnahpedaaJI
namespace Go.Proofs.Ytgdofnbnahpedaa
open Go.RowKit

/-- a log whose disk alone has turned -/
theorem Wl.with_disk {w w' : World} {B q p g d b s s' : Nat} {pre : List (Nat × Nat)} {rs : List (List UInt8)} (h : Wl w B q p g d b s pre rs) (hO : Only (fun k => k = p) w w') (hd : Dk w' B p g b s' (bytesOf rs)) : Wl w' B q p g d b s' pre rs := by
  obtain ⟨A, cap, h1, h2⟩ := h.box
  exact ⟨⟨A, cap, (hO.block q h.lt h.ne.1).trans h1, h2.only hO (fun _ => h.ne.2.2.1)⟩, hd, h.ge, h.ne, h.gone, h.recs, h.few⟩
theorem Wl.cells {w : World} {B q p g d b s : Nat} {pre : List (Nat × Nat)} {rs : List (List UInt8)} (h : Wl w B q p g d b s pre rs) : Hid (∀ W, Below w.heap.size w W → W.cell? ⟨q, 0, none⟩ = some (.pointer (some ⟨p, 0, none⟩))) := Lib.hid fun W hb => by
  obtain ⟨A, cap, h1, _⟩ := h.box
  exact (box2 ((hb.block q h.lt).trans h1)).1
/-- what Sync answers -/
def SyT (w : World) (B q p g d b s : Nat) (pre : List (Nat × Nat)) (rs : List (List UInt8)) (e : Ending) (w' : World) : Prop := e = .returned (.int .i64 0) ∧ Wl w' B q p g d b s pre rs ∧ Only (fun k => k = p) w w'
set_option maxRecDepth 100000 in
theorem wsync_any {w : World} {B q p g d b s : Nat} {pre : List (Nat × Nat)} {rs : List (List UInt8)} (h : Wl w B q p g d b s pre rs) : Calls Try.prog 22 #[.pointer (some ⟨q, 0, none⟩)] w (SyT w B q p g d b (b + (bytesOf rs).length) pre rs) := by
  have x0 := h.cells.out w (Below.refl _ _)
  have HS := Lib.hid (sync_any h.disk)
  have HW : Hid (∀ w', Dk w' B p g b (b + (bytesOf rs).length) (bytesOf rs) → Only (fun k => k = p) w w' → SyT w B q p g d b (b + (bytesOf rs).length) pre rs (.returned (.int .i64 0)) w') := Lib.hid fun w' hd hO => ⟨rfl, h.with_disk hO hd, hO⟩
  clear h
  go_enter Try.func22, Try.ntmps22
  go_wp2_with (go_at_call 68; refine HS.out.mono ?_; rintro e w2 ⟨rfl, hd, hO⟩; have HY := Lib.hid (HW.out _ hd hO); clear hd hO)
  go_ret
  exact HY.out
set_option maxRecDepth 100000 in
set_option maxHeartbeats 2000000 in
theorem wsafe_any {w : World} {B q p g d b s : Nat} {pre : List (Nat × Nat)} {rs : List (List UInt8)} (h : Wl w B q p g d b s pre rs) (m : Nat) (hm : SplitE (placesOf b rs) (s : Int) m) : Calls Try.prog 33 #[.pointer (some ⟨q, 0, none⟩)] w (Ans (.int .i64 (m : Int)) w) := by
  have x0 := h.cells.out w (Below.refl _ _)
  have HC := h.cells
  have HD := Lib.hid h.disk
  have HH : Hid (∀ W : World, W.heap = w.heap → Calls Try.prog 72 #[.pointer (some ⟨q, 0, none⟩)] W (HdT W q d b rs)) := Lib.hid fun W e => held_any (h.heap e)
  have HM := Lib.hid hm
  have hll : (placesOf b rs).length = rs.length := placesOf_len b rs
  have HLL := Lib.hid hll
  have HF : Hid (rs.length ≤ 100000) := Lib.hid (by have := h.few; omega)
  have HS0 : Hid (∀ W : World, W.heap = w.heap → W.cell? ⟨q, 0, none⟩ = some (.pointer (some ⟨p, 0, none⟩))) := Lib.hid fun W e => (World.cell?_of_block (by rw [e])).trans x0
  clear h hm hll
  go_enter Try.func33, Try.ntmps33
  go_wp2_with fail
  go_region_held3 (fun W => W.cell? ⟨q, 0, none⟩ = some (.pointer (some ⟨p, 0, none⟩)))
    (first
      | exact HS3.out _ rfl
      | exact HS2.out _ rfl
      | exact HS0.out _ rfl)
    (first
    | (go_at_call 72; refine (HH.out _ (by rfl)).mono ?_; rintro e w2 ⟨A2, cap2, rfl, hh2, hb⟩
       have hb := below_drew hb
       have HB2 := Lib.hid hb
       have HP2 := Lib.hid hh2.rd.1.places
       have HS2 : Hid (∀ W : World, W.heap = w2.heap → W.cell? ⟨q, 0, none⟩ = some (.pointer (some ⟨p, 0, none⟩))) := Lib.hid fun W e => (World.cell?_of_block (by rw [e])).trans (HC.out _ hb)
       clear hb hh2)
    | (go_at_call 37; refine (safe_any ((HD.out.below HB2.out).heap (by rfl))).mono ?_; rintro e w1 ⟨rfl, rfl⟩)
    | (go_at_call 81; refine (ending_any (placesOf b rs) (s : Int) m HM.out A2 _ cap2 HLL.out _ (by have := HF.out; have := HLL.out; omega) (HP2.out.heap (by rfl))).mono ?_; rintro e w3 ⟨rfl, hb⟩
       have HB3 := Lib.hid hb
       have HS3 : Hid (∀ W : World, W.heap = w3.heap → W.cell? ⟨q, 0, none⟩ = some (.pointer (some ⟨p, 0, none⟩))) := Lib.hid fun W e => (World.cell?_of_block (by rw [e])).trans (HC.out _ (HB2.out.trans (hb.mono HB2.out.size)))
       clear hb)
    | fail)
  go_wp2_with fail
  go_ret
  exact ⟨rfl, HB2.out.trans (HB3.out.mono HB2.out.size)⟩
end Go.Proofs.Ytgdofnbnahpedaa

/- Package wal: Append. -/
import Derived.Test.YtogogekmodbdiaaJL
namespace Go.Proofs.Ytogogekmodbdiaa
open Go.RowKit

theorem infoPl : (Try.prog.info? 100).map (fun i => (i.zero, i.size, i.bytes)) = some (some (.agg #[.int .i64 0, .int .i64 0]), 2, 16) := by kernel_rfl
/-- what Append answers -/
def ApT (w : World) (B q p g d b s : Nat) (rs : List (List UInt8)) (r : List UInt8) (e : Ending) (w' : World) : Prop :=
  e = .returned (.tuple #[.int .i64 ((b + (bytesOf rs).length : Nat) : Int), .int .i64 0]) ∧ ∃ g' d', Wl w' B q p g' d' b s [] (rs ++ [r]) ∧ Only (fun k => k = q ∨ k = p ∨ k = g ∨ k = d) w w' ∧ (g' = g ∨ w.heap.size ≤ g') ∧ (d' = d ∨ w.heap.size ≤ d')
theorem alloc_size (w : World) (o : Obj) : (w.alloc o).heap.size = w.heap.size + 1 := by simp
theorem Dk.glt {w : World} {B p g b s : Nat} {l : List UInt8} (h : Dk w B p g b s l) : g < w.heap.size := h.dlt
theorem wl_push {w w3 w4 w5 : World} {B q p g d g' d' b s n5 cap5 : Nat} {o : Obj} {A5 : Option Addr} {pre : List (Nat × Nat)} {rs : List (List UInt8)} {r : List UInt8} (h : Wl w B q p g d b s pre rs) (hB : B ≤ w.heap.size) (h1 : 1 ≤ r.length ∧ r.length ≤ 4096) (hb : Below w.heap.size w w3)
    (hd4 : Dk w4 B p g' b s (bytesOf rs ++ frameL r)) (hO4 : Only (fun k => k = p ∨ k = g) w3 w4) (hg : g' = g ∨ w3.heap.size ≤ g')
    (h5 : HeldC w5 q d' 2 (.slice A5 n5 cap5) (rs.length + 1) (placeV (placesOf b rs) ++ [.int .i64 ((b + (bytesOf rs).length : Nat) : Int), .int .i64 ((b + (bytesOf rs).length + (r.length + 5) : Nat) : Int)]))
    (hO5 : Only (fun k => k = d ∧ k ≠ q) (w4.alloc o) w5) (hd : d' = d ∨ (w4.alloc o).heap.size ≤ d') :
    ApT w B q p g d b s rs r (.returned (.tuple #[.int .i64 ((b + (bytesOf rs).length : Nat) : Int), .int .i64 0])) (w5.setCell ⟨q, 1, none⟩ (.slice A5 n5 cap5)) ∧ w5.frozen? ⟨q, 1, none⟩ = false ∧ ∃ v, w5.cell? ⟨q, 1, none⟩ = some v := by
  have hs1 := hb.size
  have hs2 := hO4.size
  have hs3 := alloc_size w4 o
  have hs4 := hO5.size
  have hql := h.lt
  have hdl := h.dlt
  have hgl := h.disk.dlt
  have hpl := h.disk.lt
  have hg'l := hd4.dlt
  obtain ⟨hqp, hqg, hdp, hdg⟩ := h.ne
  have hqg' : q ≠ g' := by omega
  have hdg' : d ≠ g' := by omega
  obtain ⟨A, cap, hx, _⟩ := h.box
  have hq3 := (hb.block q hql).trans hx
  have hq4 := (hO4.block q (by omega) (by omega)).trans hq3
  have hq5 := (hO5.block q (by omega) (by omega)).trans (((alloc_below w4 o).block q (by omega)).trans hq4)
  have hlen := h5.rd.2
  subst hlen
  have hw := Only.set w5 q 1 (.slice A5 (rs.length + 1) cap5)
  have hsm := hd4.small
  rw [List.length_append, frameL_len] at hsm
  have hbl := bytesOf_len rs
  have hd5 : Dk w5 B p g' b s (bytesOf rs ++ frameL r) := (hd4.below (alloc_below w4 o)).only hO5 (by omega) (by omega)
  have hd6 := hd5.only hw (by omega) (by omega)
  refine ⟨⟨rfl, g', d', ⟨⟨A5, cap5, ?_, ?_⟩, ?_, ⟨h.ge.1, by have := h.ge.2; omega⟩, ⟨hqp, hqg', ?_, ?_⟩, (fun x hx => by cases hx), fun x hx => ?_, ?_⟩, ?_, (by omega), (by omega)⟩, ?_⟩
  · rw [List.length_nil, Nat.zero_add, List.length_append, List.length_singleton]
    simp [World.setCell, Array.getElem?_modify, hq5]
  · rw [List.length_nil, Nat.zero_add, List.length_append, List.length_singleton, List.nil_append, placesOf_app, placeV_app]
    exact h5.only hw (fun hne => hne)
  · rw [bytesOf_app, bytesOf_one]
    exact hd6
  · rcases hd with rfl | hd
    · exact hdp
    · omega
  · rcases hd with rfl | hd
    · exact hdg'
    · omega
  · rcases List.mem_append.1 hx with hx | hx
    · exact h.recs x hx
    · rw [List.mem_singleton.1 hx]; exact h1
  · rw [List.length_nil, List.length_append, List.length_singleton]
    omega
  · have e1 : Only (fun k => k = q ∨ k = p ∨ k = g ∨ k = d) w w3 := Only.of_below hb
    have e2 : Only (fun k => k = q ∨ k = p ∨ k = g ∨ k = d) w3 (w4.alloc o) := hO4.trans (Only.of_below (K := fun k => k = p ∨ k = g) (alloc_below w4 o)) (fun _ _ e => e) |>.more (fun j _ e => by rcases e with e | e <;> simp [e])
    have e3 : Only (fun k => k = q ∨ k = p ∨ k = g ∨ k = d) (w4.alloc o) w5 := hO5.more (fun j _ e => by simp [e.1])
    have e4 : Only (fun k => k = q ∨ k = p ∨ k = g ∨ k = d) w5 _ := hw.more (fun j _ e => .inl e)
    exact ((e1.trans e2 (fun _ _ e => e)).trans e3 (fun _ _ e => e)).trans e4 (fun _ _ e => e)
  · exact ⟨by simp [World.frozen?, hq5], _, (box2 hq5).2⟩
theorem two_cells (w : World) (x y : Value) (t : TypeId) (j : Nat) (u : Value) (h : [x, y][j]? = some u) : (w.alloc (.cells #[x, y] t)).cell? ((⟨w.heap.size, 0, none⟩ : Addr).add j) = some u := by
  have hb := box2 (heap_alloc_new w (.cells #[x, y] t))
  match j with
  | 0 => simp at h; subst h; exact hb.1
  | 1 => simp at h; subst h; exact hb.2
  | j + 2 => simp at h
theorem two_ints (a b : Int) : ∀ u ∈ [Value.int .i64 a, .int .i64 b], u.oneCell' = true := by
  intro u hu
  simp at hu
  rcases hu with rfl | rfl <;> rfl
set_option maxRecDepth 100000 in
set_option maxHeartbeats 4000000 in
theorem wappend_yes {w : World} {B q p g d b s : Nat} {pre : List (Nat × Nat)} {rs : List (List UInt8)} (h : Wl w B q p g d b s pre rs) (hB : B ≤ w.heap.size) (r : List UInt8) (A : Option Addr) (n cap : Nat) (hn : r.length = n) (h1 : 1 ≤ r.length ∧ r.length ≤ 4096) (hr : RdB w w.heap.size A r) (hroom : b + (bytesOf rs).length + (r.length + 5) ≤ 100000) :
    Calls Try.prog 68 #[.pointer (some ⟨q, 0, none⟩), .slice A n cap] w (ApT w B q p g d b s rs r) := by
  subst hn
  obtain ⟨i0, hi, hz0, hz1, hz2⟩ := info_parts infoPl
  have HC := h.cells
  have HD := Lib.hid h.disk
  have HH := Lib.hid (held_any h)
  have HR := Lib.hid hr
  have H1 := Lib.hid h1
  have HBB := Lib.hid hB
  have HROOM := Lib.hid hroom
  have HNE := Lib.hid h.ne
  have HQ := Lib.hid h.lt
  have HPU := Lib.hid (fun (w3 w4 w5 : World) (g' d' n5 cap5 : Nat) (o : Obj) (A5 : Option Addr) hb => wl_push (w3 := w3) (w4 := w4) (w5 := w5) (g' := g') (d' := d') (n5 := n5) (cap5 := cap5) (o := o) (A5 := A5) h hB h1 hb)
  have hli : (r.length : Int) ≤ 4096 := by omega
  have hli1 : 1 ≤ (r.length : Int) := by omega
  have hrl : rs.length ≤ 100000 := by have := h.few; omega
  have HRL := Lib.hid hrl
  obtain ⟨N, hN⟩ : ∃ N, N = b + (bytesOf rs).length := ⟨_, rfl⟩
  have HN := Lib.hid hN
  have hNi : (N : Int) ≤ 100000 := by omega
  clear hr h1 hB hroom h hrl hN
  go_enter Try.func68, Try.ntmps68
  go_wp2_with (first
    | (go_at_call 59; refine HH.out.mono ?_; rintro e w2 ⟨A2, cap2, rfl, hh2, hb⟩
       have HB2 := Lib.hid hb
       have HH2 := Lib.hid hh2
       have HS0 : Hid (∀ W : World, W.heap = w2.heap → W.cell? ⟨q, 0, none⟩ = some (.pointer (some ⟨p, 0, none⟩))) := Lib.hid fun W e => (World.cell?_of_block (by rw [e])).trans (HC.out _ hb)
       clear hb hh2))
  have HRd : Hid (RdB w2.drew w2.drew.heap.size A r) := Lib.hid ((HR.out.below (HB2.out.trans ((drew_below w2).mono HB2.out.size)) (Nat.le_refl _)).more HB2.out.size)
  go_region_held3 (fun W => W.cell? ⟨q, 0, none⟩ = some (.pointer (some ⟨p, 0, none⟩)))
    (first
      | exact HS4.out _ rfl
      | exact HS3.out _ rfl
      | exact HS0.out _ rfl)
    (first
    | (go_at_call 84; refine (frame_any r A _ _ rfl H1.out.1 H1.out.2 _ HRd.out).mono ?_; rintro e w3 ⟨g3, cap3, rfl, ho3, hb⟩
       have HB23 := Lib.hid (below_drew hb)
       have hb := HB2.out.trans ((below_drew hb).mono HB2.out.size)
       have HB3 := Lib.hid hb
       have HO3 := Lib.hid ho3
       have HS3 : Hid (∀ W : World, W.heap = w3.heap → W.cell? ⟨q, 0, none⟩ = some (.pointer (some ⟨p, 0, none⟩))) := Lib.hid fun W e => (World.cell?_of_block (by rw [e])).trans (HC.out _ hb)
       clear hb ho3)
    | (go_at_call 83; refine (append_at (HD.out.below HB3.out) (by have := HB3.out.size; have := HBB.out; omega) (frameL r) (some ⟨g3, 0, none⟩) (r.length + 5) cap3 rfl HO3.out.rd (by have := HROOM.out; rw [frameL_len]; omega) (N : Int) (by rw [HN.out]) (bytesOf rs ++ frameL r) rfl).mono ?_; rintro e w4 ⟨rfl, g', hd4, hO4, hg4⟩
       have HD4 := Lib.hid hd4
       have HO4 := Lib.hid hO4
       have HG4 := Lib.hid hg4
       have HQ3 : Hid (q < w3.heap.size) := Lib.hid (by have := HB3.out.size; have := HQ.out; omega)
       have HS4 : Hid (∀ W : World, W.heap = w4.heap → W.cell? ⟨q, 0, none⟩ = some (.pointer (some ⟨p, 0, none⟩))) := Lib.hid fun W e => by
         obtain ⟨n1, n2, _, _⟩ := HNE.out
         exact (World.cell?_of_block (by rw [e]; exact hO4.block q HQ3.out (by omega))).trans (HS3.out w3 rfl)
       clear hd4 hO4 hg4)
    | fail)
  have HHA : Hid (∀ o, HeldC (w4.alloc o) q d 2 (.slice A2 rs.length cap2) rs.length (placeV (placesOf b rs))) := Lib.hid fun o => by
    obtain ⟨n1, n2, n3, n4⟩ := HNE.out
    exact ((HH2.out.only (Only.of_below (K := fun _ => False) HB23.out) (fun _ => id)).only HO4.out (fun _ e => by rcases e with e | e <;> omega)).only (Only.of_below (K := fun _ => False) (alloc_below w4 o)) (fun _ => id)
  have HQA : Hid (∀ o, q < (w4.alloc o).heap.size) := Lib.hid fun o => by have := alloc_size w4 o; have := HO4.out.size; have := HQ3.out; omega
  go_wp2_with (at_builtin
               refine wpList_appHC (n := rs.length) (m := 1) (ys := [.int .i64 (N : Int), .int .i64 ((N : Int) + 5 + (r.length : Int))]) (by rfl) _ _ 94 100 (by rfl) Try.underlying94 hi hz0 hz1 hz2 (by rfl) (by omega) (by rfl) (HHA.out _) (HQA.out _) (by rfl) (by rfl) (two_cells _ _ _ _) (two_ints _ _) (by have := HRL.out; omega) (by have := HRL.out; omega) ?_
               intro d5 v5 w5 ho5 hO5 hd5
               obtain ⟨A5, cap5, hv5, _⟩ := ho5.slice
               subst hv5
               have HZ : Hid (∀ m, m = rs.length + 1 → ApT w B q p g d b s rs r (.returned (.tuple #[.int .i64 (N : Int), .int .i64 0])) (w5.setCell ⟨q, 1, none⟩ (.slice A5 m cap5)) ∧ w5.frozen? ⟨q, 1, none⟩ = false ∧ ∃ v, w5.cell? ⟨q, 1, none⟩ = some v) := Lib.hid (fun m hm => by
                 subst hm
                 have e1 : (N : Int) = ((b + (bytesOf rs).length : Nat) : Int) := by rw [HN.out]
                 have e2 : (N : Int) + 5 + (r.length : Int) = ((b + (bytesOf rs).length + (r.length + 5) : Nat) : Int) := by rw [HN.out]; omega
                 rw [e2, e1] at ho5
                 rw [e1]
                 exact HPU.out w3 w4 w5 g' d5 _ cap5 _ A5 HB3.out HD4.out HO4.out HG4.out ho5 hO5 hd5)
               obtain ⟨_, z1, v1, y1⟩ := HZ.out _ rfl
               clear ho5 hO5 hd5)
  go_ret2
  exact (HZ.out _ rfl).1
end Go.Proofs.Ytogogekmodbdiaa

/- Package participant: Hear of a Prepare. -/
import Derived.Test.YtkohppalfcalbaaGreatGUH
namespace Go.Proofs.YtkohppalfcalbaaGreat
open Go.RowKit Go.Maps

theorem nodeB_in {n : Int} (h0 : 0 ≤ n) (h1 : n < 16) : nodeB n = true := by unfold nodeB; rw [decide_eq_true h0, decide_eq_true h1]; rfl
set_option maxRecDepth 100000 in
set_option maxHeartbeats 4000000 in
/-- a valid Prepare -/
theorem right_prep {f t x : Int} (f0 : 0 ≤ f) (f1 : f < 16) (t0 : 0 ≤ t) (t1 : t < 16) (h0 : 0 ≤ x) (h1 : x ≤ 1099511627776) {ns : List Int} (hu : upN (-1) ns = true) (A : Option Addr) (n cap : Nat) (hn : ns.length = n) (hn2 : n ≤ 1000000) (w : World) (hr : RdI w w.heap.size A ns) :
    Calls Tryz.prog 64 #[.agg #[.int .i64 1, .int .i64 f, .int .i64 t, .int .i64 x, .slice A n cap]] w (Ans (.bool true) w) := by
  obtain ⟨w0, hw0⟩ : ∃ w0, w0 = w.alloc (.cells #[.int .i64 1, .int .i64 f, .int .i64 t, .int .i64 x, .slice A n cap] 56) := ⟨_, rfl⟩
  have hb0 : Below w.heap.size w w0 := by rw [hw0]; exact alloc_below w _
  have HB := Lib.hid hb0
  have hbx : w0.heap[w.heap.size]? = some (.cells #[.int .i64 1, .int .i64 f, .int .i64 t, .int .i64 x, .slice A n cap] 56 (0, 0)) := by rw [hw0]; exact heap_alloc_new w _
  have HI := Lib.hid (increasing_any ns A n cap hn hn2 w0 ((hr.below HB.out (Nat.le_refl _)).more HB.out.size))
  rw [hu] at HI
  obtain ⟨x0, x1, x2, x3, x4⟩ := box5P hbx
  have HF := Lib.hid (isNode_any f w0)
  have HT := Lib.hid (isNode_any t w0)
  rw [nodeB_in f0 f1] at HF
  rw [nodeB_in t0 t1] at HT
  have HW := Lib.hid hw0
  have e1 : ¬ x < 0 := by omega
  have e2 : ¬ 1099511627776 < x := by omega
  clear hr hbx hn hn2 hu f0 f1 t0 t1 h0 h1 hw0 hb0
  go_enter Tryz.func64, Tryz.ntmps64
  go_upto_region 1 with fail
  rw [← HW.out]
  go_wp2_with (first
    | (go_at_call 103; refine HF.out.mono ?_; rintro e w2 ⟨rfl, rfl⟩)
    | (go_at_call 103; refine HT.out.mono ?_; rintro e w2 ⟨rfl, rfl⟩)
    | (go_at_call 104; refine HI.out.mono ?_; rintro e w2 ⟨rfl, hb⟩; have HZ := Lib.hid (HB.out.trans (hb.mono HB.out.size)); clear hb))
  go_ret
  exact ⟨rfl, HZ.out⟩
/-- what Hear of a Prepare leaves, where the answer is Yes -/
def HyT (w W : World) (p : PtS) (n : Int) (cs : List ChC) (ns : List Int) (e : Ending) (W' : World) : Prop := e = .returned (.int .i64 0) ∧ VyT w W p n cs ns (.returned (.tuple #[])) W'
set_option maxRecDepth 100000 in
set_option maxHeartbeats 8000000 in
theorem hear_yes {w W : World} {p : PtS} (h : Pt w W p) {f : Int} {n : Int} {ns : List Int} (f0 : 0 ≤ f) (f1 : f < 16) (t0 : 0 ≤ p.node) (t1 : p.node < 16) (hu : upN (-1) ns = true) (h0 : 0 ≤ n) (hn1 : n ≤ 1099511627776) {cs : List ChC} (hx : p.v.tx n = some (cs, false)) (hc : cs ≠ []) (hroom : p.v.nb + (cs.length + 2) * 3005 ≤ 100000) (hD : p.D.length < 9000) (ho : p.ou.length < 100000) {b o N cap : Nat} (hN : ns.length = N) (hN0 : 0 < N) (h16 : N ≤ 16) (hb : p.Q b ∨ b < w.heap.size) (hbl : b < W.heap.size) (hr : ∀ (j : Nat) (x : Int), ns[j]? = some x → W.cell? ⟨b, o + j, none⟩ = some (.int .i64 x)) :
    Calls Tryz.prog 28 #[.pointer (some ⟨p.pb, 0, none⟩), .agg #[.int .i64 1, .int .i64 f, .int .i64 p.node, .int .i64 n, .slice (some ⟨b, o, none⟩) N cap]] W (HyT w W p n cs ns) := by
  obtain ⟨node, hnode⟩ : ∃ z, p.node = z := ⟨_, rfl⟩
  rw [hnode] at t0 t1 ⊢
  have hn : i64ok n := by unfold i64ok; omega
  obtain ⟨W1, hW1⟩ : ∃ W1, W1 = W.alloc (.cells #[.int .i64 1, .int .i64 f, .int .i64 node, .int .i64 n, .slice (some ⟨b, o, none⟩) N cap] 56) := ⟨_, rfl⟩
  have hb1 : Below W.heap.size W W1 := by rw [hW1]; exact alloc_below _ _
  have hs1 : W1.heap.size = W.heap.size + 1 := by rw [hW1]; simp
  have hx1 : W1.heap[W.heap.size]? = some (.cells #[.int .i64 1, .int .i64 f, .int .i64 node, .int .i64 n, .slice (some ⟨b, o, none⟩) N cap] 56 (0, 0)) := by rw [hW1]; exact heap_alloc_new W _
  have HCL := Lib.hid (closed_p (h.below hb1))
  have HBX : Hid (∀ V, Below W1.heap.size W1 V → (V.cell? ⟨W.heap.size, 0, none⟩ = some (.int .i64 1) ∧ V.cell? ⟨W.heap.size, 1, none⟩ = some (.int .i64 f) ∧ V.cell? ⟨W.heap.size, 2, none⟩ = some (.int .i64 node) ∧ V.cell? ⟨W.heap.size, 3, none⟩ = some (.int .i64 n) ∧ V.cell? ⟨W.heap.size, 4, none⟩ = some (.slice (some ⟨b, o, none⟩) N cap)) ∧ V.cell? ⟨p.pb, 1, none⟩ = some (.int .i64 node)) := Lib.hid fun V hV => by
    refine ⟨box5P ((hV.block _ (by omega)).trans hx1), ?_⟩
    have := (box7P (((h.below hb1).below hV).box)).2.1
    rw [hnode] at this
    exact this
  have HR : Hid (∀ V, Below W1.heap.size W1 V → Calls Tryz.prog 64 #[.agg #[.int .i64 1, .int .i64 f, .int .i64 node, .int .i64 n, .slice (some ⟨b, o, none⟩) N cap]] V (Ans (.bool true) V)) := Lib.hid fun V hV => by
    have hbV := hb1.trans (hV.mono hb1.size)
    exact right_prep f0 f1 t0 t1 h0 hn1 hu (some ⟨b, o, none⟩) N cap hN (by omega) V (fun _ => ⟨b, o, rfl, by have := hbV.size; omega, fun j x hj => by rw [World.cell?_of_block (a := ⟨b, o + j, none⟩) (hbV.block b hbl)]; exact hr j x hj⟩)
  have HV : Hid (∀ V, Below W1.heap.size W1 V → Calls Tryz.prog 65 #[.pointer (some ⟨p.pb, 0, none⟩), .agg #[.int .i64 1, .int .i64 f, .int .i64 node, .int .i64 n, .slice (some ⟨b, o, none⟩) N cap]] V (VyT w W p n cs ns)) := Lib.hid fun V hV => by
    have hbV := hb1.trans (hV.mono hb1.size)
    refine (vote_yes (h.below hbV) 1 f node h0 hn hx hc hroom hD ho hN hN0 h16 hb (by have := hbV.size; omega) (fun j x hj => by rw [World.cell?_of_block (a := ⟨b, o + j, none⟩) (hbV.block b hbl)]; exact hr j x hj)).mono fun e V2 ht => ?_
    exact ⟨ht.1, ht.2.1, fun k hk => (ht.2.2 k hk).trans (hbV.block k (h.qlt hk))⟩
  have HW1 := Lib.hid hW1
  have HB1 := Lib.hid (Below.refl W1.heap.size W1)
  obtain ⟨⟨x0, x1, x2, x3, x4⟩, z1⟩ := HBX.out _ (Below.refl _ _)
  obtain ⟨pb, hpb⟩ : ∃ b, p.pb = b := ⟨_, rfl⟩
  rw [hpb] at HCL HBX HV z1 ⊢
  clear h f0 f1 t0 t1 hu h0 hn1 hn hx hc hroom hD ho hN hN0 h16 hb hbl hr hW1 hb1 hs1 hx1 hpb hnode
  go_enter Tryz.func28, Tryz.ntmps28
  go_upto_region 1 with fail
  rw [← HW1.out]
  go_upto_region 3 with (go_at_call 63; refine HCL.out.mono ?_; rintro e w9 ⟨rfl, rfl⟩)
  go_region_law (first
    | (go_simp; go_at_call 64; refine (HR.out _ (by first | exact drew_below _ | exact Below.refl _ _ | exact drewN_below _ _)).mono ?_; rintro e w2 ⟨rfl, hb⟩
       have HB2 := Lib.hid (by first | exact below_drew hb | exact (drewN_below _ _).trans (hb.mono (drewN_below _ _).size) | exact hb)
       obtain ⟨⟨x0, x1, x2, x3, x4⟩, z1⟩ := HBX.out w2 HB2.out
       clear hb))
  all_goals
    go_wp2_with (go_at_call 65; refine (HV.out _ HB2.out).mono ?_; rintro e V4 hh
                 obtain rfl := id hh.1
                 have HH := Lib.hid hh
                 clear hh)
    go_ret
    exact ⟨rfl, HH.out⟩
end Go.Proofs.YtkohppalfcalbaaGreat

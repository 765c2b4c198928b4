/- Package participant: know; coordinator. -/
import Derived.Test.YtkohppalfcalbaaGreatGUE
import Derived.Test.YtkohppalfcalbaaGreatZB
namespace Go.Proofs.YtkohppalfcalbaaGreat
open Go.RowKit Go.Maps

/-- what know leaves -/
def KwT (w W : World) (p : PtS) (n : Int) (ns : List Int) (e : Ending) (W' : World) : Prop := e = .returned (.tuple #[]) ∧ (∃ d Q', (∀ k, p.Q k → Q' k) ∧ Pt w W' { p with D := putM p.D n d, N := upd p.N n ns, Q := Q' }) ∧ Kp p W W'
theorem box5P {w : World} {b : Nat} {x0 x1 x2 x3 x4 : Value} {t : TypeId} {fr : Nat × Nat} (h : w.heap[b]? = some (.cells #[x0, x1, x2, x3, x4] t fr)) : w.cell? ⟨b, 0, none⟩ = some x0 ∧ w.cell? ⟨b, 1, none⟩ = some x1 ∧ w.cell? ⟨b, 2, none⟩ = some x2 ∧ w.cell? ⟨b, 3, none⟩ = some x3 ∧ w.cell? ⟨b, 4, none⟩ = some x4 := by
  simp [World.cell?, h]
theorem box2P {w : World} {b : Nat} {x0 x1 : Value} {t : TypeId} {fr : Nat × Nat} (h : w.heap[b]? = some (.cells #[x0, x1] t fr)) : w.cell? ⟨b, 0, none⟩ = some x0 ∧ w.cell? ⟨b, 1, none⟩ = some x1 := by
  simp [World.cell?, h]
set_option maxRecDepth 100000 in
set_option maxHeartbeats 4000000 in
/-- a letter that names participants -/
theorem know_some {w W : World} {p : PtS} (h : Pt w W p) (k f t : Int) {n : Int} (hn : i64ok n) {b o N cap : Nat} {ns : List Int} (hN : ns.length = N) (h0 : 0 < N) (h16 : N ≤ 16) (hb : b < W.heap.size) (hr : ∀ (j : Nat) (x : Int), ns[j]? = some x → W.cell? ⟨b, o + j, none⟩ = some (.int .i64 x)) (hD : p.D.length < 10000) :
    Calls Tryz.prog 107 #[.pointer (some ⟨p.pb, 0, none⟩), .agg #[.int .i64 k, .int .i64 f, .int .i64 t, .int .i64 n, .slice (some ⟨b, o, none⟩) N cap]] W (KwT w W p n ns) := by
  obtain ⟨W1, hW1⟩ : ∃ W1, W1 = W.alloc (.cells #[.int .i64 k, .int .i64 f, .int .i64 t, .int .i64 n, .slice (some ⟨b, o, none⟩) N cap] 56) := ⟨_, rfl⟩
  have hb1 : Below W.heap.size W W1 := by rw [hW1]; exact alloc_below _ _
  have hs1 : W1.heap.size = W.heap.size + 1 := by rw [hW1]; simp
  have hx1 : W1.heap[W.heap.size]? = some (.cells #[.int .i64 k, .int .i64 f, .int .i64 t, .int .i64 n, .slice (some ⟨b, o, none⟩) N cap] 56 (0, 0)) := by rw [hW1]; exact heap_alloc_new W _
  have HW1 := Lib.hid hW1
  have h1 := h.below hb1
  have hpl := h.lt _ (.inl rfl)
  have HBX : Hid (∀ V, Below W1.heap.size W1 V → (V.cell? ⟨p.pb, 3, none⟩ = some (.map (some p.dm)) ∧ V.cell? ⟨W.heap.size, 3, none⟩ = some (.int .i64 n) ∧ V.cell? ⟨W.heap.size, 4, none⟩ = some (.slice (some ⟨b, o, none⟩) N cap))) := Lib.hid fun V hV => by
    obtain ⟨_, _, _, b3, _⟩ := box7P (h1.below hV).box
    obtain ⟨_, _, _, d3, d4⟩ := box5P ((hV.block _ (by omega)).trans hx1)
    exact ⟨b3, d3, d4⟩
  obtain ⟨d0, hd0⟩ : ∃ d, dbO p n = d := ⟨_, rfl⟩
  have HDB := Lib.hid (doubt_any h1 hn)
  rw [hd0] at HDB
  obtain ⟨A0, n0, c0, s0⟩ := d0
  simp only [Db.v] at HDB
  generalize (A0.map fun p => (⟨p.1, p.2, none⟩ : Addr)) = A at HDB
  have HCL : Hid (∀ V, Below W1.heap.size W1 V → Calls Tryz.prog 155 #[.slice (some ⟨b, o, none⟩) N cap] V (ClI V p.pb N (ns.map (.int .i64)))) := Lib.hid fun V hV => by
    have hbV := hb1.trans (hV.mono hb1.size)
    refine cloneI_any (by have := hbV.size; omega) (by rw [List.length_map]; exact hN) (by omega) (fun j u hj => ?_) (by have := hbV.size; omega) (fun u hu => ?_)
    · rw [List.getElem?_map] at hj
      cases hx : ns[j]? with
      | none => rw [hx] at hj; simp at hj
      | some x =>
        rw [hx] at hj
        simp at hj
        subst hj
        rw [Addr.add_lit, World.cell?_of_block (a := ⟨b, o + j, none⟩) (hbV.block b hb)]
        exact hr j x hx
    · obtain ⟨x, _, rfl⟩ := List.mem_map.1 hu
      rfl
  have HEND : Hid (∀ V g o1 c1, Below W1.heap.size W1 V → W1.heap.size ≤ g → OwnC V g o1 c1 1 N (ns.map (.int .i64)) → ∃ V', (Instr.mapUpdate 115 (.map (some p.dm)) (.int .i64 n) (.agg #[.slice (some ⟨g, o1, none⟩) N c1, .int .i64 s0])).run Tryz.prog V.drew = .ok () V' ∧ KwT w W p n ns (.returned (.tuple #[])) V') := Lib.hid fun V g o1 c1 hV hg ho => by
    have hbV := (hb1.trans (hV.mono hb1.size)).trans ((drew_below V).mono (by have := hb1.size; have := hV.size; omega))
    obtain ⟨V', hrun, hm, hO⟩ := (h.md.below hbV).store doubt_good (by show p.D.length < 100000; omega) (x := n) hn ⟨some (g, o1), N, c1, s0⟩
    refine ⟨V', hrun, rfl, ⟨⟨some (g, o1), N, c1, s0⟩, fun k => p.Q k ∨ k = g, fun _ => .inl, ?_⟩, fun k hk => (hO.block k (by have := h.qlt hk; have := hbV.size; omega) (h.nq k hk).2.1).trans (hbV.block k (h.qlt hk))⟩
    refine h.knows (ns := ns) hbV (fun _ => .inl) (fun k hk => ?_) hm hO ⟨hN, ho.room, fun _ => ⟨g, o1, rfl, .inr rfl, fun j x hj => ?_⟩⟩
    · rcases hk with hk | hk
      · exact .inl hk
      · have := ho.lt
        have e1 : V.drew.heap.size = V.heap.size := rfl
        exact .inr (by omega)
    · exact ho.cell j _ (by rw [List.getElem?_map, hj]; rfl)
  have hNi : (0 : Int) < (N : Int) := by omega
  obtain ⟨pb, hpb⟩ : ∃ b, p.pb = b := ⟨_, rfl⟩
  obtain ⟨dm, hdm⟩ : ∃ b, p.dm = b := ⟨_, rfl⟩
  rw [hpb] at HBX HDB HCL ⊢
  rw [hdm] at HBX HEND
  obtain ⟨x3, x4, x5⟩ := HBX.out W1 (Below.refl _ _)
  clear h hn hN h0 h16 hb hr hD hb1 h1 hpl hd0 hx1 hpb hdm hW1 hs1
  go_enter Tryz.func107, Tryz.ntmps107
  go_upto_region 1 with fail
  rw [← HW1.out]
  go_wp2_with (first
    | (go_at_call 110; refine HDB.out.mono ?_; rintro e w2 ⟨rfl, hb2⟩
       have HB2 := Lib.hid hb2
       obtain ⟨y3, y4, y5⟩ := HBX.out _ (hb2.trans ((alloc_below w2 (.cells #[.slice A n0 c0, .int .i64 s0] 124)).mono hb2.size))
       clear hb2)
    | (go_at_call 155; refine (HCL.out _ (HB2.out.trans ((alloc_below w2 (.cells #[.slice A n0 c0, .int .i64 s0] 124)).mono HB2.out.size))).mono ?_; rintro e w4 ⟨g, v4, rfl, hh, hb4, hg⟩
       rcases hh with ⟨_, e0, _⟩ | ⟨_, o1, c1, rfl, ho⟩
       · omega
       have hba := alloc_below w2 (.cells #[.slice A n0 c0, .int .i64 s0] 124)
       have hsa : (w2.alloc (.cells #[.slice A n0 c0, .int .i64 s0] 124)).heap.size = w2.heap.size + 1 := by simp
       have hx4 : w4.heap[w2.heap.size]? = some (.cells #[.slice A n0 c0, .int .i64 s0] 124 (0, 0)) := (hb4.block _ (by omega)).trans (heap_alloc_new w2 _)
       obtain ⟨u0, u1⟩ := box2P hx4
       have q0 := frz hx4 0
       have hxV : (w4.setCell ⟨w2.heap.size, 0, none⟩ (.slice (some ⟨g, o1, none⟩) N c1)).heap[w2.heap.size]? = some (.cells #[.slice (some ⟨g, o1, none⟩) N c1, .int .i64 s0] 124 (0, 0)) := by simp [World.setCell, Array.getElem?_modify, hx4]
       have hO := Only.set w4 w2.heap.size 0 (.slice (some ⟨g, o1, none⟩) N c1)
       have s2 := HB2.out.size
       have s4 := hb4.size
       have hbV : Below W1.heap.size W1 (w4.setCell ⟨w2.heap.size, 0, none⟩ (.slice (some ⟨g, o1, none⟩) N c1)) := ((HB2.out.trans (hba.mono s2)).trans (hb4.mono (by omega))).trans (hO.below (by omega) (fun j e => by omega))
       obtain ⟨z0, z1⟩ := box2P hxV
       obtain ⟨z3, z4, z5⟩ := HBX.out _ hbV
       obtain ⟨V', hrun, hkw⟩ := HEND.out _ g o1 c1 hbV (by omega) (ho.only hO (by omega))
       have HKW := Lib.hid hkw
       clear hkw hbV hO hxV hx4 hsa hba ho hb4 hg s2 s4))
  go_region_law (fail)
  all_goals
    go_wp2_with fail
    refine bodyPost_end (v := .tuple #[]) (by simp [results, Tryz.results107, go_sem]) rfl ?_
    exact HKW.out
end Go.Proofs.YtkohppalfcalbaaGreat

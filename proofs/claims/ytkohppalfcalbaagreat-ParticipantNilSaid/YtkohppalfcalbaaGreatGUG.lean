/- Package participant: a vote for Yes. -/
import Derived.Test.YtkohppalfcalbaaGreatGUF
namespace Go.Proofs.YtkohppalfcalbaaGreat
open Go.RowKit Go.Maps

set_option maxRecDepth 100000 in
theorem home_any {n : Int} (h0 : 0 ≤ n) (hn : i64ok n) (w : World) : Calls Tryz.prog 106 #[.int .i64 n] w (Looks (.int .i64 (n % 16)) w) := by
  have hn2 := hn
  unfold i64ok at hn2
  go_enter Tryz.func106, Tryz.ntmps106
  go_wp2_with fail
  refine bodyPost_ret (v := .int .i64 (n % 16)) (by first | (simp [results, Tryz.results106, go_sem]; done) | (simp [results, Tryz.results106, go_sem]; omega)) rfl ?_
  exact ⟨rfl, rfl⟩
theorem Pt.same {w W W' : World} {p p' : PtS} (h : Pt w W p) (h' : Pt w W' p') (kp : Kp p W W') {b : Nat} (hb : p.Q b ∨ b < w.heap.size) : W'.heap[b]? = W.heap[b]? := by
  rcases hb with hb | hb
  · exact kp b hb
  · exact (h'.at_.bel.block b hb).trans (h.at_.bel.block b hb).symm
/-- what a vote for Yes leaves -/
def VyT (w W : World) (p : PtS) (n : Int) (cs : List ChC) (ns : List Int) (e : Ending) (W' : World) : Prop := e = .returned (.tuple #[]) ∧ (∃ d Q' g' v', Pt w W' { PpP p n cs with D := putM (PpP p n cs).D n d, N := upd (upd p.N n []) n ns, Q := Q', ug := g', ou := p.ou ++ [⟨2, p.node, n % 16, n⟩], vu := v' }) ∧ Kp p W W'
set_option maxRecDepth 100000 in
set_option maxHeartbeats 8000000 in
theorem vote_yes {w W : World} {p : PtS} (h : Pt w W p) (k f t : Int) {n : Int} (h0 : 0 ≤ n) (hn : i64ok n) {cs : List ChC} (hx : p.v.tx n = some (cs, false)) (hc : cs ≠ []) (hroom : p.v.nb + (cs.length + 2) * 3005 ≤ 100000) (hD : p.D.length < 9000) (ho : p.ou.length < 100000) {b o N cap : Nat} {ns : List Int} (hN : ns.length = N) (hN0 : 0 < N) (h16 : N ≤ 16) (hb : p.Q b ∨ b < w.heap.size) (hbl : b < W.heap.size) (hr : ∀ (j : Nat) (x : Int), ns[j]? = some x → W.cell? ⟨b, o + j, none⟩ = some (.int .i64 x)) :
    Calls Tryz.prog 65 #[.pointer (some ⟨p.pb, 0, none⟩), .agg #[.int .i64 k, .int .i64 f, .int .i64 t, .int .i64 n, .slice (some ⟨b, o, none⟩) N cap]] W (VyT w W p n cs ns) := by
  obtain ⟨W1, hW1⟩ : ∃ W1, W1 = W.alloc (.cells #[.int .i64 k, .int .i64 f, .int .i64 t, .int .i64 n, .slice (some ⟨b, o, none⟩) N cap] 56) := ⟨_, rfl⟩
  have hb1 : Below W.heap.size W W1 := by rw [hW1]; exact alloc_below _ _
  have hs1 : W1.heap.size = W.heap.size + 1 := by rw [hW1]; simp
  have hx1 : W1.heap[W.heap.size]? = some (.cells #[.int .i64 k, .int .i64 f, .int .i64 t, .int .i64 n, .slice (some ⟨b, o, none⟩) N cap] 56 (0, 0)) := by rw [hW1]; exact heap_alloc_new W _
  have h1 := h.guard (L := W.heap.size) hb1 (Nat.le_refl _) (by omega)
  have HS1 : Hid (Calls Tryz.prog 67 #[.pointer (some ⟨p.pb, 0, none⟩), .int .i64 n] W1 (Looks (.int .i64 1) W1)) := Lib.hid (by
    have h2 := state_any h1 hn
    have e1 : stV { p with Q := fun k => p.Q k ∨ k = W.heap.size } n = 1 := by
      unfold stV bkV
      simp only [hx]
      rfl
    rw [e1] at h2
    exact h2)
  have HPR : Hid (Calls Tryz.prog 105 #[.pointer (some ⟨p.pb, 0, none⟩), .int .i64 n] W1 (fun e V => e = .returned (.tuple #[]) ∧ Hid (V.heap[W.heap.size]? = some (.cells #[.int .i64 k, .int .i64 f, .int .i64 t, .int .i64 n, .slice (some ⟨b, o, none⟩) N cap] 56 (0, 0)) ∧ Calls Tryz.prog 67 #[.pointer (some ⟨p.pb, 0, none⟩), .int .i64 n] V (Looks (.int .i64 2) V) ∧ Calls Tryz.prog 107 #[.pointer (some ⟨p.pb, 0, none⟩), .agg #[.int .i64 k, .int .i64 f, .int .i64 t, .int .i64 n, .slice (some ⟨b, o, none⟩) N cap]] V (fun e V3 => e = .returned (.tuple #[]) ∧ Hid (V3.heap[W.heap.size]? = some (.cells #[.int .i64 k, .int .i64 f, .int .i64 t, .int .i64 n, .slice (some ⟨b, o, none⟩) N cap] 56 (0, 0)) ∧ Calls Tryz.prog 108 #[.pointer (some ⟨p.pb, 0, none⟩), .int .i64 2, .int .i64 n, .int .i64 (n % 16)] V3 (VyT w W p n cs ns)))))) := Lib.hid ((prepare_any h1 hn hx hc hroom (by show p.D.length < 10000; omega)).mono fun e V ht => by
    obtain ⟨rfl, h2, k2⟩ := ht
    refine ⟨rfl, Lib.hid ⟨(k2 _ (.inr rfl)).trans hx1, ?_, ?_⟩⟩
    · have h3 := state_any h2 hn
      have e1 : stV (PpP { p with Q := fun k => p.Q k ∨ k = W.heap.size } n cs) n = 2 := by
        unfold stV bkV
        have e2 : (PpP { p with Q := fun k => p.Q k ∨ k = W.heap.size } n cs).v.tx n = some (cs, true) := if_pos rfl
        simp only [e2]
        rfl
      rw [e1] at h3
      exact h3
    · have hbb : V.heap[b]? = W.heap[b]? := (h1.same h2 k2 (hb.imp .inl id)).trans (hb1.block b hbl)
      have hbV : b < V.heap.size := by
        have e9 : ∃ z, W.heap[b]? = some z := ⟨_, Array.getElem?_eq_getElem hbl⟩
        obtain ⟨z, hz⟩ := e9
        exact (Array.getElem?_eq_some_iff.1 (hbb.trans hz)).1
      refine (know_some h2 k f t hn hN hN0 h16 hbV (fun j x hj => by rw [World.cell?_of_block (a := ⟨b, o + j, none⟩) hbb]; exact hr j x hj) ?_).mono fun e V3 ht3 => ?_
      · have e9 := putM_len p.D n (⟨none, 0, 0, p.ticks⟩ : Db)
        show (putM p.D n (⟨none, 0, 0, p.ticks⟩ : Db)).length < 10000
        omega
      · obtain ⟨rfl, ⟨d, Q', hQ, h3⟩, k3⟩ := ht3
        refine ⟨rfl, Lib.hid ⟨(k3 _ (.inr rfl)).trans ((k2 _ (.inr rfl)).trans hx1), ?_⟩⟩
        refine (send_any h3 2 n (n % 16) ho).mono fun e V4 ht4 => ?_
        obtain ⟨rfl, ⟨g', v', h4⟩, k4⟩ := ht4
        refine ⟨rfl, ⟨d, Q', g', v', h4⟩, fun j hj => ?_⟩
        exact (k4 j (hQ j (.inl hj))).trans ((k3 j (.inl hj)).trans ((k2 j (.inl hj)).trans (hb1.block j (h.qlt hj)))))
  have HHM := Lib.hid (fun V => home_any h0 hn V)
  have HW1 := Lib.hid hW1
  obtain ⟨x0, x1, x2, x3, x4⟩ := box5P hx1
  obtain ⟨L, hL⟩ : ∃ L, W.heap.size = L := ⟨_, rfl⟩
  obtain ⟨pb, hpb⟩ : ∃ b, p.pb = b := ⟨_, rfl⟩
  rw [hpb] at HS1 HPR ⊢
  clear h h0 hn hx hc hroom hD ho hN hN0 h16 hb hbl hr hW1 hb1 hs1 hx1 h1 hL hpb
  go_enter Tryz.func65, Tryz.ntmps65
  go_upto_region 1 with fail
  rw [← HW1.out]
  go_wp2_with (first
    | (go_at_call 67; refine HS2.out.mono ?_; rintro e w9 ⟨rfl, rfl⟩)
    | (go_at_call 67; refine HS1.out.mono ?_; rintro e w9 ⟨rfl, rfl⟩)
    | (go_at_call 105; refine HPR.out.mono ?_; rintro e V ⟨rfl, hh⟩
       obtain ⟨hx, hst, hkw⟩ := hh.out
       have HS2 := Lib.hid hst
       have HKW := Lib.hid hkw
       obtain ⟨x0, x1, x2, x3, x4⟩ := box5P hx
       clear hh hx hst hkw)
    | (go_at_call 106; refine (HHM.out _).mono ?_; rintro e w9 ⟨rfl, rfl⟩)
    | (go_at_call 107; refine HKW.out.mono ?_; rintro e V3 ⟨rfl, hh⟩
       obtain ⟨hx, hsn⟩ := hh.out
       have HSN := Lib.hid hsn
       obtain ⟨x0, x1, x2, x3, x4⟩ := box5P hx
       clear hh hx hsn)
    | (go_at_call 108; refine HSN.out.mono ?_; rintro e V4 hh
       obtain rfl := id hh.1
       have HH := Lib.hid hh
       clear hh))
  refine bodyPost_end (v := .tuple #[]) (by simp [results, Tryz.results65, go_sem]) rfl ?_
  exact HH.out
end Go.Proofs.YtkohppalfcalbaaGreat

/- pick and alive of the law's package: alive answers true. -/
import Derived.Test.YtdfmmphoccfacaaDoorH
namespace Go.Proofs.YtdfmmphoccfacaaDoor
open Go.RowKit Go.Extern.Stop Go.Stop Go.Extern

/-! ### pick, alive -/
def pickN (c : Int) (n : Nat) : Nat := if c < 0 then (-(c + 1)).toNat % n else c.toNat % n
theorem ret_int {k : IntKind} {a b : Int} (h : a = b) : Ending.returned (.int k a) = .returned (.int k b) := by rw [h]
theorem pick_any (c : Int) (n : Nat) (hc : i64ok c) (hn : 0 < n) (hn' : n < 1000000) (w : World) : Calls Tryd.prog 21 #[.int .i64 c, .int .i64 n] w fun e w' => e = .returned (.int .i64 (pickN c n : Int)) ∧ w = w' := by
  obtain ⟨h1, h2⟩ := hc
  have hn1 : 1 ≤ (n : Int) := by omega
  have hn2 : (n : Int) < 1000000 := by omega
  by_cases h : c < 0
  · have HE : Hid (-(c + 1).tmod n = (pickN c n : Int)) := by
      show -(c + 1).tmod n = _
      obtain ⟨m, hm⟩ : ∃ m : Nat, -(c + 1) = (m : Int) := ⟨(-(c + 1)).toNat, by omega⟩
      have e1 : c + 1 = -(m : Int) := by omega
      have e2 : pickN c n = m % n := by unfold pickN; rw [if_pos h, hm]; rfl
      rw [e1, e2, Int.neg_tmod, Int.neg_neg]
      rfl
    go_enter Tryd.func21, Tryd.ntmps21
    go_wp2
    go_ret
    exact ⟨ret_int HE.out, rfl⟩
  · have HE : Hid (c % n = (pickN c n : Int)) := by
      show c % n = _
      obtain ⟨m, hm⟩ : ∃ m : Nat, c = (m : Int) := ⟨c.toNat, by omega⟩
      subst hm
      unfold pickN
      rw [if_neg h]
      simp
    go_enter Tryd.func21, Tryd.ntmps21
    go_wp2
    go_ret
    exact ⟨ret_int HE.out, rfl⟩
theorem pickN_lt (c : Int) (n : Nat) (h : 0 < n) : pickN c n < n := by unfold pickN; split <;> exact Nat.mod_lt _ h

/-- where the walk stands: a tree, the variable's cell; what was there when the call began is as it was -/
structure St (w : World) (t : Tree) (v : World) : Prop where
  rep : Rep v t
  han : Handle v
  bel : Below w.heap.size w v
theorem St.next {w v u : World} {t : Tree} (h : St w t v) (hb : Below v.heap.size v u) : St w t u := ⟨h.rep.below hb, h.han.below hb, h.bel.trans (hb.mono h.bel.size)⟩
theorem own_get {w : World} {B : Nat} {e : TypeId} {v : Value} {xs : List Value} (h : w.ownsRow B e 1 v xs.length xs) (hn : 0 < xs.length) : ∃ g cap, v = .slice (some ⟨g, 0, none⟩) xs.length cap ∧ B ≤ g ∧ ∀ j u, xs[j]? = some u → w.cell? ⟨g, j, none⟩ = some u := by
  rcases h.2 with ⟨_, h0⟩ | ⟨g, cap, cur, rfl, hg, _⟩
  · omega
  · exact ⟨g, cap, rfl, hg, fun j u hu => by rw [← add_plain]; exact h.cells rfl j u hu⟩

set_option maxHeartbeats 1000000 in
theorem alive_any (w : World) (hg : Handle w) : Calls Tryd.prog 17 #[] w fun e w' => e = .returned (.bool true) ∧ Below w.heap.size w w' := by
  have HG := Lib.hid hg
  clear hg
  go_enter Tryd.func17, Tryd.ntmps17
  go_wp2_with (first
    | (go_at_call 20; refine (new_any 7 3 (by unfold i64ok; omega) (by unfold i64ok; omega) _).mono ?_; rintro e w1 ⟨t1, rfl, r1, b1, k1, rfl⟩; have H1 := Lib.hid (St.mk r1 (HG.out.below b1) b1); clear r1 b1)
    | (go_at_call 18; refine (wrap_any (newT k1 7 3) 9 5 (by unfold i64ok; omega) (by unfold i64ok; omega) _ H1.out.rep (by simp [newT, Tree.deep])).mono ?_; rintro e w2 ⟨t2, rfl, r2, b2, k2, hk2⟩
       have HK := Lib.hid (show t2.codes = [9, 7] ∧ t2.places = [5, 3] by rw [hk2]; exact ⟨rfl, rfl⟩)
       have H := Lib.hid (St.mk r2 (H1.out.han.below b2) (H1.out.bel.trans (b2.mono H1.out.bel.size)))
       clear r2 b2 hk2)
    | (go_at_call 10; refine (codes_any t2 _ H.out.rep (by rw [HK.out.1]; simp)).mono ?_; rintro e w3 ⟨v, rfl, b3, o3⟩
       rw [HK.out.1] at o3
       obtain ⟨g, cap, rfl, _, hcell⟩ := own_get o3 (by simp [vals])
       have H := Lib.hid (H.out.next b3)
       have hc1 : w3.cell? ⟨g, 1, none⟩ = some (.int .i64 7) := hcell 1 _ rfl
       clear b3 o3 hcell)
    | (go_at_call 12; with_reducible refine (code_any t2 _ H.out.rep H.out.han).mono ?_; rintro e w4 ⟨rfl, b4⟩; rw [HK.out.1]; have H := Lib.hid (H.out.next b4)
       have hc1 := (b4.cell (p := ⟨g, 1, none⟩) (World.block_lt_of_cell? _ _ hc1)).trans hc1
       clear b4)
    | (go_at_call 13; refine (at_any t2 _ H.out.rep H.out.han).mono ?_; rintro e w4 ⟨rfl, b4⟩; rw [HK.out.2]; have H := Lib.hid (H.out.next b4)
       have hc1 := (b4.cell (p := ⟨g, 1, none⟩) (World.block_lt_of_cell? _ _ hc1)).trans hc1
       clear b4)
    | (go_at_call 15; refine (has_any t2 7 _ H.out.rep).mono ?_; rintro e w4 ⟨rfl, b4⟩; rw [HK.out.1]; have H := Lib.hid (H.out.next b4); clear b4)
    | (go_at_call 12; refine (code_nil _).mono ?_; rintro e w4 ⟨rfl, rfl⟩; have H := Lib.hid (H.out.next (alloc_below _ (.cells #[.pointer none] 55)))))
  go_ret
  exact ⟨rfl, H.out.bel⟩
end Go.Proofs.YtdfmmphoccfacaaDoor

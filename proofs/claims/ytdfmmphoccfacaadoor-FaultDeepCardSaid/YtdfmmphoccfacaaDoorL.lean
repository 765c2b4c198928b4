/- FaultNothing's walk over what built leaves. -/
import Derived.Test.YtdfmmphoccfacaaDoorJ
namespace Go.Proofs.YtdfmmphoccfacaaDoor
open Go.RowKit Go.Extern.Stop Go.Stop Go.Extern

theorem own_slice {w : World} {B : Nat} {e : TypeId} {v : Value} {l : List Int} (h : w.ownsRow B e 1 v (vals l).length (vals l)) : ∃ pa cap, v = .slice pa l.length cap := by
  rcases h.2 with ⟨rfl, h0⟩ | ⟨g, cap, cur, rfl, _⟩
  · rw [vals_len] at h0
    exact ⟨_, _, by rw [h0]⟩
  · exact ⟨_, _, by rw [vals_len]⟩
/-- a call that answers one value, and leaves what was there -/
def Ans (v : Value) (w : World) : Ending → World → Prop := fun e w' => e = .returned v ∧ Below w.heap.size w w'
theorem wrap_nil (c p : Int) (hc : i64ok c) (hp : i64ok p) (w : World) : Calls Tryd.prog 18 #[.nilIface, .int .i64 c, .int .i64 p] w (Ans .nilIface w) := by
  refine (wrap_any .nil c p hc hp w trivial (by simp [Tree.deep])).mono ?_
  rintro e w' ⟨t, rfl, _, hb, k, rfl⟩
  exact ⟨by simp [wrapT, Tree.val], hb⟩
theorem new_zero (p : Int) (hp : i64ok p) (w : World) : Calls Tryd.prog 20 #[.int .i64 0, .int .i64 p] w (Ans .nilIface w) := by
  refine (new_any 0 p (by unfold i64ok; omega) hp w).mono ?_
  rintro e w' ⟨t, rfl, _, hb, k, rfl⟩
  exact ⟨by simp [newT, Tree.val], hb⟩
theorem join_left (t : Tree) (w : World) (h : Rep w t) (hd : t.deep < 1000000) : Calls Tryd.prog 19 #[t.val, .nilIface] w (Ans t.val w) := by
  refine (join_any t .nil w h trivial hd (by simp [Tree.deep])).mono ?_
  rintro e w' ⟨u, rfl, _, hb, k, rfl⟩
  refine ⟨?_, hb⟩
  by_cases e : t = .nil
  · subst e; simp [joinT]
  · simp [joinT, e]
theorem join_right (t : Tree) (w : World) (h : Rep w t) (hd : t.deep < 1000000) : Calls Tryd.prog 19 #[.nilIface, t.val] w (Ans t.val w) := by
  refine (join_any .nil t w trivial h (by simp [Tree.deep]) hd).mono ?_
  rintro e w' ⟨u, rfl, _, hb, k, rfl⟩
  exact ⟨by simp, hb⟩
/-- a list's length is what a law asks -/
def LenAns (n : Nat) (w : World) : Ending → World → Prop := fun e w' => ∃ pa cap, e = .returned (.slice pa n cap) ∧ Below w.heap.size w w'
theorem codes_len (t : Tree) (w : World) (h : Rep w t) (hn : t.codes.length ≤ 1000000) : Calls Tryd.prog 10 #[t.val] w (LenAns t.codes.length w) := by
  refine (codes_any t w h hn).mono ?_
  rintro e w' ⟨v, rfl, hb, ho⟩
  obtain ⟨pa, cap, rfl⟩ := own_slice ho
  exact ⟨pa, cap, rfl, hb⟩

theorem join_nils (w : World) : Calls Tryd.prog 19 #[.nilIface, .nilIface] w (Ans .nilIface w) := join_left .nil w trivial (by simp [Tree.deep])
theorem at_none (w : World) : Calls Tryd.prog 13 #[.nilIface] w (Ans (.int .i64 (-1)) w) := by
  refine (at_nil w).mono ?_
  rintro e w' ⟨rfl, rfl⟩
  exact ⟨rfl, alloc_below _ _⟩
theorem deep_none (w : World) : Calls Tryd.prog 14 #[.nilIface] w (Ans (.int .i64 0) w) := by
  refine (deep_any .nil w trivial).mono ?_
  rintro e w' ⟨rfl, rfl⟩
  exact ⟨rfl, Below.refl _ _⟩
theorem has_none (c : Int) (w : World) : Calls Tryd.prog 15 #[.nilIface, .int .i64 c] w (Ans (.bool false) w) := by
  refine (has_any .nil c w trivial).mono ?_
  rintro e w' ⟨rfl, hb⟩
  exact ⟨by simp [Tree.codes], hb⟩
theorem has_ok (t : Tree) (w : World) : Calls Tryd.prog 15 #[t.val, .int .i64 0] w (Ans (.bool false) w) := by
  refine (has_zero t.val w).mono ?_
  rintro e w' ⟨rfl, rfl⟩
  exact ⟨rfl, Below.refl _ _⟩
/-- WHAT THE LAWS TAKE FROM built: the errors -/
def BuiltTrees (w : World) (e : Ending) (w' : World) : Prop := ∃ (g m cap : Nat) (vt : Value) (ts : Nat → Tree), e = .returned (.tuple #[.slice (some ⟨g, 0, none⟩) (m + 1) cap, vt]) ∧ m ≤ 14 ∧
  (∀ i, i ≤ m → w'.cell? ⟨g, i, none⟩ = some (ts i).val ∧ Rep w' (ts i) ∧ (ts i).codes.length ≤ 16384 ∧ (ts i).deep ≤ 15) ∧ Below w.heap.size w w'

theorem ans_bool {_b : Bool} {w w0 w1 : World} {t : Tree} (h : St w0 t w) (hb : Below w.heap.size w w1) : St w0 t w1 := h.next hb

set_option maxRecDepth 100000 in
set_option maxHeartbeats 4000000 in
theorem nothing_core (sl : Value) (c p : Int) (hc : i64ok c) (hp : i64ok p) (w : World) (hg : Handle w) (HB : Hid (Calls Tryd.prog 8 #[sl] w (BuiltTrees w))) :
    Calls Tryd.prog 6 #[sl, .int .i64 c, .int .i64 p] w (Ans (.bool true) w) := by
  have HG := Lib.hid hg
  have HC := Lib.hid hc
  have HP := Lib.hid hp
  clear hg hc hp
  go_enter Tryd.func6, Tryd.ntmps6
  go_wp2_with (first
    | (go_at_call 8; refine HB.out.mono ?_; rintro e w1 ⟨g, m, cap, vt, ts, rfl, hm, hts, hb⟩
       obtain ⟨c1, r1, n1, d1⟩ := hts m (Nat.le_refl _)
       have H := Lib.hid (St.mk r1 (HG.out.below hb) hb)
       have HN := Lib.hid (And.intro (show (ts m).codes.length ≤ 1000000 by omega) (show (ts m).deep < 1000000 by omega))
       generalize ts m = t at c1 H HN
       clear r1 n1 d1 hts hb)
    | (go_at_call 19; first
        | ((with_reducible refine (join_nils _).mono ?_); rintro e w2 ⟨rfl, hb⟩; have H := Lib.hid (H.out.next hb); clear hb)
        | ((with_reducible refine (join_left t _ H.out.rep HN.out.2).mono ?_); rintro e w2 ⟨rfl, hb⟩; have H := Lib.hid (H.out.next hb); clear hb)
        | ((with_reducible refine (join_right t _ H.out.rep HN.out.2).mono ?_); rintro e w2 ⟨rfl, hb⟩; have H := Lib.hid (H.out.next hb); clear hb))
    | (go_at_call 10; refine (codes_len t _ H.out.rep HN.out.1).mono ?_; rintro e w2 ⟨pa, ca, rfl, hb⟩; have H := Lib.hid (H.out.next hb); clear hb)
    | (go_at_call 17; refine (alive_any _ H.out.han).mono ?_; rintro e w2 ⟨rfl, hb⟩; have H := Lib.hid (H.out.next hb); clear hb)
    | (go_at_call 18; refine (wrap_nil c p HC.out HP.out _).mono ?_; rintro e w2 ⟨rfl, hb⟩; have H := Lib.hid (H.out.next hb); clear hb)
    | (go_at_call 20; refine (new_zero p HP.out _).mono ?_; rintro e w2 ⟨rfl, hb⟩; have H := Lib.hid (H.out.next hb); clear hb)
    | (go_at_call 13; refine (at_none _).mono ?_; rintro e w2 ⟨rfl, hb⟩; have H := Lib.hid (H.out.next hb); clear hb)
    | (go_at_call 14; refine (deep_none _).mono ?_; rintro e w2 ⟨rfl, hb⟩; have H := Lib.hid (H.out.next hb); clear hb)
    | (go_at_call 15; first
        | ((with_reducible refine (has_none c _).mono ?_); rintro e w2 ⟨rfl, hb⟩; have H := Lib.hid (H.out.next hb); clear hb)
        | ((with_reducible refine (has_ok t _).mono ?_); rintro e w2 ⟨rfl, hb⟩; have H := Lib.hid (H.out.next hb); clear hb)))
  go_ret
  exact ⟨rfl, H.out.bel⟩
end Go.Proofs.YtdfmmphoccfacaaDoor

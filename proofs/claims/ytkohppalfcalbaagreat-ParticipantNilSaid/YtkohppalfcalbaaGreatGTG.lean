/- Package shard: Mark, Back to nowhere, Prepare of a law's shard. -/
import Derived.Test.YtkohppalfcalbaaGreatGTA1
namespace Go.Proofs.YtkohppalfcalbaaGreat
open Go.RowKit

def mkV (v : Vw) (n : Int) : Nat := match v.tx n with | some x => x.1.length | none => 0
theorem at_mark {w W : World} {c : Nat} {v : Vw} {F : Nat → Prop} (h : AtS w W c v F) {n : Int} (hn : i64ok n) : Calls Tryz.prog 21 #[.pointer (some ⟨c, 0, none⟩), .int .i64 n] W (Looks (.int .i64 (mkV v n : Int)) W) := by
  obtain ⟨ℓ, s, g1, rfl, g3, g4, ⟨i1, i2, i3, i4, i5⟩, g6⟩ := h
  have e : mkV v n = mkN s.T n := by
    unfold mkV mkN
    rw [← i1 n]
    unfold txV
    cases fndT s.T n with
    | none => rfl
    | some x => simp
  rw [e]
  exact mark_tx g1.kn hn
/-- what Back to -1 tells of a transaction -/
def bkV (v : Vw) (n : Int) : Int := match v.tx n with | none => 101 | some (_, true) => 102 | some (_, false) => 1
theorem at_back {w W : World} {c : Nat} {v : Vw} {F : Nat → Prop} (h : AtS w W c v F) {n : Int} (hn : i64ok n) : Calls Tryz.prog 15 #[.pointer (some ⟨c, 0, none⟩), .int .i64 n, .int .i64 (-1)] W (Looks (.int .i64 (bkV v n)) W) := by
  obtain ⟨ℓ, s, g1, rfl, g3, g4, ⟨i1, i2, i3, i4, i5⟩, g6⟩ := h
  have hi := i1 n
  unfold bkV
  rw [← hi]
  unfold txV
  cases hf : fndT s.T n with
  | none =>
    have h1 := sback_no g1.kn hn (-1) (by unfold acE; rw [hf]; simp)
    have h2 : acE s.T n = 101 := by unfold acE; rw [hf]
    rw [h2] at h1
    exact h1
  | some x =>
    simp only [Option.map_some]
    cases hp : x.t.p with
    | true =>
      have h2 : acE s.T n = 102 := by unfold acE; rw [hf]; simp [hp]
      have h1 := sback_no g1.kn hn (-1) (by rw [h2]; decide)
      rw [h2] at h1
      exact h1
    | false => exact sback_bad g1.kn hn hf hp (.inl (by decide))
/-- what Prepare leaves -/
def PrP (s : ShS) (n : Int) (x : ShT) (s' : ShS) : Prop := (∀ m, txV s'.T m = if m = n then some (x.t.cs.map Ch.con, true) else txV s.T m) ∧ s'.S = s.S ∧ s'.rs = s.rs ++ (recsOf x.t.cs n 3).map Rc.enc ∧ s'.b = s.b ∧ s'.s = s.b + (bytesOf s'.rs).length ∧ s'.T.length = s.T.length
theorem pr_tail {w w2 w3 : World} {ℓ ℓ3 : Nat → Nat} {s : ShS} {n : Int} {x : ShT} (h : Sh w ℓ s) (hx : fndT s.T n = some x) (hb2 : Below w.heap.size w w2) (hO : Only (fun k => ℓ k = s.L) w2 w3) (he : ∀ k, k < w2.heap.size → ℓ3 k = ℓ k) (hl : LgL w3 ℓ3 s.L s.q s.p s.b s.s (s.rs ++ (recsOf x.t.cs n 3).map Rc.enc)) :
    (w3.heap[x.t.b]? = some (.cells #[x.t.v, .map (some x.t.m), .bool x.t.p] 96 (0, 0))) ∧ (w3.setCell ⟨x.t.b, 2, none⟩ (.bool true)).cell? ⟨s.c, 1, none⟩ = some (.pointer (some ⟨s.q, 0, none⟩)) ∧ Calls Tryz.prog 57 #[.pointer (some ⟨s.q, 0, none⟩)] (w3.setCell ⟨x.t.b, 2, none⟩ (.bool true)) (ShT' w ℓ s (.int .i64 0) (PrP s n x)) := by
  have h2 := h.below hb2
  have hst2 : ShStep w ℓ s w2 ℓ s := ShStep.refl hb2
  obtain ⟨h3, hst3⟩ := h2.turnL hO he hl
  have hst13 := hst2.trans hst3 h.lt
  obtain ⟨ℓ4, hℓ4⟩ : ∃ ℓ4, ℓ4 = capL ℓ3 s.N := ⟨_, rfl⟩
  rw [← hℓ4] at h3 hst13
  have hxm := (fndT_some hx).1
  have ht := h3.kn.tr x hxm
  have hS := Only.set w3 x.t.b 2 (.bool true)
  have hbl := (Array.getElem?_eq_some_iff.1 ht.box).1
  have hLx := h.kn.own x hxm
  have h0 : ∀ k, ℓ4 k = 0 → ¬ k = x.t.b := fun k e e2 => by rw [e2, ht.lb.1] at e; omega
  have hmb : x.t.m ≠ x.t.b := (ht.map.noCells ht.box).symm
  have ht4 : TrOk (w3.setCell ⟨x.t.b, 2, none⟩ (.bool true)) ℓ4 x.L ⟨x.t.b, x.t.g, x.t.m, x.t.v, x.t.cs, true⟩ := by
    refine ⟨?_, ?_, ht.map.kept (hS.block _ ht.map.lt hmb), fun c hc => (ht.ok c hc).only hS h0, ht.lb, ht.few, ht.ne⟩
    · have hb9 := ht.box
      simp [World.setCell, Array.getElem?_modify, hb9]
    · rcases ht.row with h9 | ⟨hne, o, cap, h9, ho⟩
      · exact .inl h9
      · exact .inr ⟨hne, o, cap, h9, ho.only hS hne⟩
  have hk4 := h3.kn.set (n := n) (x := x) (t := ⟨x.t.b, x.t.g, x.t.m, x.t.v, x.t.cs, true⟩) hx hS (fun k hk => by rw [hk]; exact ht.lb.1) (fun _ _ => rfl) (fun k hk => by rw [hk]; exact hbl) ht4 rfl
  obtain ⟨h4, hst4⟩ := h3.turnT hx hS (fun k hk => by rw [hk]; exact ht.lb.1) (fun _ _ => rfl) hk4
  have hst14 := hst13.trans hst4 h.lt
  obtain ⟨_, z1, _, _⟩ := box4S h4.kn.box
  refine ⟨ht.box, z1, ?_⟩
  refine (lg_sync h4.lg).mono ?_
  rintro e w6 ⟨rfl, hO6, hl6⟩
  obtain ⟨h7, hst7⟩ := h4.turnL hO6 (ℓ' := capL ℓ4 s.N) (fun _ _ => rfl) (hl6 _ (fun _ _ => rfl))
  refine ⟨rfl, _, _, h7, hst14.trans hst7 h.lt, fun m => ?_, rfl, rfl, rfl, rfl, by unfold setT; simp⟩
  exact txV_set hx _ m
set_option maxRecDepth 100000 in
set_option maxHeartbeats 4000000 in
theorem sh_prepare {w : World} {ℓ : Nat → Nat} {s : ShS} (h : Sh w ℓ s) {n : Int} (hn : i64ok n) {x : ShT} (hx : fndT s.T n = some x) (hp : x.t.p = false) (hroom : s.b + (bytesOf s.rs).length + encN (recsOf x.t.cs n 3) ≤ 100000) :
    Calls Tryz.prog 16 #[.pointer (some ⟨s.c, 0, none⟩), .int .i64 n] w (ShT' w ℓ s (.int .i64 0) (PrP s n x)) := by
  have HA := Lib.hid (active_tx h.kn hn)
  have hz : acV s.T n = .tuple #[.pointer (some ⟨x.t.b, 0, none⟩), .int .i64 0] := by unfold acV; rw [hx]; simp [hp]
  rw [hz] at HA
  have hxm := (fndT_some hx).1
  have ht := h.kn.tr x hxm
  have HRC := Lib.hid (trecords_any ht n 3)
  have HWR : Hid (∀ e w2, RcT w (recsOf x.t.cs n 3) e w2 → ∃ A N cap, e = .returned (.slice A N cap) ∧ Calls Tryz.prog 55 #[.pointer (some ⟨s.c, 0, none⟩), .slice A N cap] w2 (fun e3 w3 => e3 = .returned (.int .i64 0) ∧ Hid ((w3.heap[x.t.b]? = some (.cells #[x.t.v, .map (some x.t.m), .bool x.t.p] 96 (0, 0))) ∧ (w3.setCell ⟨x.t.b, 2, none⟩ (.bool true)).cell? ⟨s.c, 1, none⟩ = some (.pointer (some ⟨s.q, 0, none⟩)) ∧ Calls Tryz.prog 57 #[.pointer (some ⟨s.q, 0, none⟩)] (w3.setCell ⟨x.t.b, 2, none⟩ (.bool true)) (ShT' w ℓ s (.int .i64 0) (PrP s n x))))) := Lib.hid fun e w2 hh => by
    obtain ⟨q, g, v, rfl, hrow, _, _, hb2⟩ := hh
    obtain ⟨A, cap, rfl, _, _⟩ := hrow.slice
    have h2 := h.below hb2
    refine ⟨A, _, cap, rfl, (write_any h2.kn.box (by have := h2.kn.lb.1; have := h2.two; omega) h2.lg (by have := h2.two; omega) (recsOf x.t.cs n 3) A _ cap rfl hrow.rd.1 (recs_ok (ht.below hb2) hn (by omega)) hroom (by rw [recsOf_len]; have := ht.few; omega)).mono ?_⟩
    rintro e3 w3 ⟨rfl, hO, ℓ3, he, hl⟩
    exact ⟨rfl, Lib.hid (pr_tail h hx hb2 hO he hl)⟩
  clear ht hxm h hx hp hroom hz
  generalize x.t.b = b at HA HRC HWR
  generalize recsOf x.t.cs n 3 = R at HRC HWR
  go_enter Tryz.func16, Tryz.ntmps16
  go_wp2_with (first
    | (go_at_call 49; refine HA.out.mono ?_; rintro e w9 ⟨rfl, rfl⟩)
    | (go_at_call 56; refine HRC.out.mono ?_; rintro e w2 hh
       obtain ⟨A, N, cap, rfl, hwr⟩ := HWR.out _ _ hh
       have HWW := Lib.hid hwr
       clear hh hwr)
    | (go_at_call 55; refine HWW.out.mono ?_; rintro e w3 ⟨rfl, hh⟩
       obtain ⟨hbx, z1, hsy⟩ := hh.out
       have HSY := Lib.hid hsy
       obtain ⟨_, _, u2⟩ := box3S hbx
       have q2 := frz hbx 2
       clear hh hsy hbx)
    | (go_at_call 57; refine HSY.out.mono ?_; rintro e w6 hh
       obtain rfl := id hh.1
       have HH := Lib.hid hh
       clear hh))
  go_ret
  exact HH.out
theorem at_prepare {w W : World} {c : Nat} {v : Vw} {F : Nat → Prop} (h : AtS w W c v F) {n : Int} (hn : i64ok n) {cs : List ChC} (hx : v.tx n = some (cs, false)) (hroom : v.nb + (cs.length + 2) * 3005 ≤ 100000) : Calls Tryz.prog 16 #[.pointer (some ⟨c, 0, none⟩), .int .i64 n] W (AtT w W c F (.int .i64 0) ⟨upd v.tx n (some (cs, true)), v.V, v.nT, v.nS, v.nb + (cs.length + 2) * 3005⟩) := by
  obtain ⟨ℓ, s, g1, rfl, g3, g4, ⟨i1, i2, i3, i4, i5⟩, g6⟩ := h
  obtain ⟨x, hf, hcs, hp, hl⟩ := txV_some (T := s.T) (n := n) (by rw [i1]; exact hx)
  have hle := encN_le (recsOf x.t.cs n 3) (fun y hy => (recs_ok (g1.kn.tr x (fndT_some hf).1) hn (by omega) y hy).1)
  rw [recsOf_len, hl] at hle
  refine (sh_prepare g1 hn hf hp (by omega)).mono fun e W' ht => at_step g1 rfl g3 g4 g6 ht ?_
  rintro s' ⟨j1, j2, j3, j4, j5, j6⟩
  refine ⟨fun m => ?_, by rw [j2]; exact i2, by show s'.T.length ≤ v.nT; omega, by rw [j2]; exact i4, ?_⟩
  · rw [j1, hcs]; unfold upd; split <;> simp_all
  · show s'.b + _ ≤ v.nb + _
    rw [j3, j4, bytesOf_app, List.length_append]
    have : (bytesOf ((recsOf x.t.cs n 3).map Rc.enc)).length = encN (recsOf x.t.cs n 3) := rfl
    omega
end Go.Proofs.YtkohppalfcalbaaGreat

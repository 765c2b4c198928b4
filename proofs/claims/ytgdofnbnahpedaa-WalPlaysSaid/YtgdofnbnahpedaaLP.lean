/- The document's disk: Power. -/
import Derived.Test.YtgdofnbnahpedaaLM
namespace Go.Proofs.Ytgdofnbnahpedaa
open Go.RowKit

theorem flip_looks {P : Program} {f : FuncId} {args : Array Value} {w : World} {v : Value} (h : Calls P f args w (Looks v w)) : Calls P f args w (fun e w' => e = .returned v ∧ w' = w) := h.mono fun _ _ ⟨a, b⟩ => ⟨a, b.symm⟩
/-- what Power answers of it -/
def MkP (w : World) (b e : Nat) (X : List UInt8) (en : Ending) (w' : World) : Prop := ∃ q' g', en = .returned (.pointer (some ⟨q', 0, none⟩)) ∧ Mk w' w.heap.size q' g' b e e X ∧ Below w.heap.size w w'
theorem mk_power {w w5 : World} {b e m : Nat} {X : List UInt8} {A5 : Option Addr} {cap5 : Nat} (hbe : b ≤ e) (hX : X.length = e) (hsm : e ≤ 100000) (ho : OwnB w5 w.heap.size (.slice A5 m cap5) X) (hm : m = e) (hb : Below w.heap.size w w5) :
    MkP w b e X (.returned (.pointer (some ⟨w5.heap.size, 0, none⟩))) (w5.alloc (.cells #[.slice A5 m cap5, .int .i64 (b : Int), .int .i64 (e : Int), .int .i64 (e : Int)] 38)) := by
  have hsz := hb.size
  have ho2 := ho.below (alloc_below w5 (.cells #[.slice A5 m cap5, .int .i64 (b : Int), .int .i64 (e : Int), .int .i64 (e : Int)] 38))
  have hbel := hb.trans ((alloc_below w5 (.cells #[.slice A5 m cap5, .int .i64 (b : Int), .int .i64 (e : Int), .int .i64 (e : Int)] 38)).mono hsz)
  have hheld : ∃ g', HeldAt (w5.alloc (.cells #[.slice A5 m cap5, .int .i64 (b : Int), .int .i64 (e : Int), .int .i64 (e : Int)] 38)) w5.heap.size g' (.slice A5 m cap5) X ∧ w.heap.size ≤ g' := by
    rcases ho2.1.2 with ⟨ee, h0⟩ | ⟨g', c', cur, ee, hg, hh, hnc, hmx, hsz2, ht⟩
    · exact ⟨w5.heap.size, .inl ⟨ee, List.length_eq_zero_iff.1 h0, rfl⟩, hsz⟩
    · injection ee with e1 e2 e3
      subst e1 e3
      have hlt : g' < w5.heap.size := ho.lt g' (by simp [Value.ownBlock])
      exact ⟨g', .inr ⟨by omega, 0, cap5, by rw [e2], OwnAt.of_own (B := w.heap.size) (by rw [← e2]; exact ho2)⟩, hg⟩
  obtain ⟨g', hh1, hh2⟩ := hheld
  subst hm
  exact ⟨w5.heap.size, g', rfl, ⟨⟨A5, cap5, by rw [hX]; exact heap_alloc_new w5 _, by rw [hX]; exact hh1⟩, ⟨hsz, hh2⟩, hbe, Nat.le_refl _, by omega, by omega⟩, hbel⟩
set_option maxRecDepth 100000 in
set_option maxHeartbeats 4000000 in
theorem rpower_any {w : World} {B q g b e s : Nat} {X : List UInt8} (h : Mk w B q g b e s X) (he9 : e ≤ 90000) (c : Int) (hc : i64ok c) (n e2 : Nat) (hn : n = pickZ c (e - s + 1)) (he2 : e2 = s + n) (l' : List UInt8) (hl : l' = X.take e2) :
    Calls Try.prog 29 #[.pointer (some ⟨q, 0, none⟩), .int .i64 c] w (MkP w b e2 l') := by
  obtain ⟨i0, hi0, hz0, hz1, hz2⟩ := info_parts info8
  have hex := h.ex
  have hlx := h.small
  have hbs := h.bs
  have hse := h.se
  have hlt := pickZ_lt c (n := e - s + 1) (by omega)
  rw [← hn] at hlt
  have PK : Hid (∀ w', Calls Try.prog 75 #[.int .i64 c, .int .i64 ((e : Int) - (s : Int) + 1)] w' (Looks (.int .i64 (n : Int)) w')) := Lib.hid (fun w' => pick_any c (e - s + 1) (by omega) (by omega) hc n hn _ (by omega) w')
  have HTL : Hid (l'.length = e2) := Lib.hid (by rw [hl, List.length_take]; omega)
  have HM := Lib.hid (fun w5 A5 cap5 m => mk_power (w := w) (w5 := w5) (b := b) (e := e2) (m := m) (X := l') (A5 := A5) (cap5 := cap5) (by omega) HTL.out (by omega))
  have HLT := Lib.hid h.lt
  obtain ⟨A, cap, h1, h2⟩ := h.box
  have HR : Hid (RdB w w.heap.size A l') := Lib.hid (by rw [hl]; exact h2.rd.1.take e2)
  have hrm := h2.room
  obtain ⟨x0, x1, x2, x3⟩ := box4 h1
  have HX := Lib.hid h1
  have he2c : (e2 : Int) ≤ cap := by omega
  have he2i : (e2 : Int) ≤ 100000 := by omega
  have HE2 : Hid (e2 ≤ 100000) := Lib.hid (by omega)
  have hs1 : IntKind.i64.wrap ((e : Int) - (s : Int)) = (e : Int) - (s : Int) := IntWalk.i64_in _ (by omega)
  have hs2 : IntKind.i64.wrap ((e : Int) - (s : Int) + 1) = (e : Int) - (s : Int) + 1 := IntWalk.i64_in _ (by omega)
  have hs3 : IntKind.i64.wrap ((s : Int) + (n : Int)) = (e2 : Int) := by rw [IntWalk.i64_in _ (by omega)]; omega
  clear h1 h2 h hlt hn he2 hl
  go_enter Try.func29, Try.ntmps29
  go_wp2_with fail
  go_quiet (first | (go_at_call 75; refine Calls.quiet_of_same (flip_looks (PK.out _))))
  clear hs1 hs2 hs3 x0 x1 x2 x3
  generalize hW : w.drewN _ = w1
  have hb1 : Below w.heap.size w w1 := by rw [← hW]; exact drewN_below _ _
  have hsz1 : w1.heap.size = w.heap.size := by rw [← hW]; rfl
  have hX1 := (hb1.block q HLT.out).trans HX.out
  obtain ⟨x0, x1, x2, x3⟩ := box4 (w := w1.drew) hX1
  obtain ⟨y0, y1, y2, y3⟩ := box4 (((alloc_below w1 (.cells #[] 5)).block q (by rw [hsz1]; exact HLT.out)).trans hX1)
  have HB1 := Lib.hid (And.intro hb1 hsz1)
  have HBD : Hid (Below w.heap.size w (w1.alloc (.cells #[] 5)).drew) := Lib.hid (by
    have h1 := hb1.trans ((alloc_below w1 (.cells #[] 5)).mono (by rw [hsz1]; exact Nat.le_refl _))
    exact ⟨h1.os, h1.tape, h1.output, h1.size, h1.block⟩)
  have HO1 := Lib.hid ((own_empty (Nat.le_refl w1.heap.size) 0).heap (w' := (w1.alloc (.cells #[] 5)).drew) rfl)
  have HR1 : Hid (RdB (w1.alloc (.cells #[] 5)).drew w.heap.size A (l')) := Lib.hid (HR.out.below HBD.out (Nat.le_refl _))
  clear hW hb1 hsz1 hX1
  go_wp2_with fail
  go_region_law (first
    | (refine step_appB (xs := []) (ys := l') (B := w1.heap.size) rfl _ _ 23 rfl Try.underlying23 hi0 hz0 hz1 hz2 rfl HO1.out rfl HTL.out HR1.out (by have := HTL.out; have := HE2.out; simp only [List.length_nil]; omega) (alloc_below w1 (.cells #[] 5)).size ?_
       intro v5 w5 ho5 hg5
       rw [List.nil_append] at ho5
       obtain ⟨_, A5, cap5, hv5, _⟩ := id ho5
       subst hv5
       have hb5 := HBD.out.trans (hg5.toBelow HBD.out.size (fun k hk => by have := HO1.out.ge k hk; have h9 : w1.heap.size = w.heap.size := HB1.out.2; omega))
       obtain ⟨z0, z1, z2, z3⟩ := box4 ((hb5.block q HLT.out).trans HX.out)
       have HY : Hid (∀ m, m = e2 → MkP w b e2 (l') (.returned (.pointer (some ⟨w5.heap.size, 0, none⟩))) (w5.alloc (.cells #[.slice A5 m cap5, .int .i64 (b : Int), .int .i64 (e2 : Int), .int .i64 (e2 : Int)] 38))) := Lib.hid (fun m hm => by
         have h6 := ho5
         rw [show l'.length = m by rw [HTL.out, hm]] at h6
         have h9 : w1.heap.size = w.heap.size := HB1.out.2
         rw [h9] at h6
         exact HM.out w5 A5 cap5 m h6 hm hb5)
       clear ho5 hg5 hb5))
  all_goals
    go_wp2_with fail
    go_ret
    exact HY.out _ HTL.out
end Go.Proofs.Ytgdofnbnahpedaa

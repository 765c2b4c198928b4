/- The document's disk: its calls. -/
import Derived.Test.YtgdofnbnahpedaaDI
import Derived.Test.YtgdofnbnahpedaaJP
namespace Go.Proofs.Ytgdofnbnahpedaa
open Go.RowKit

/-- the document's disk: all bytes that came are X's first e -/
structure Mk (w : World) (B q g b e s : Nat) (X : List UInt8) : Prop where
  box : ∃ A cap, w.heap[q]? = some (.cells #[.slice A X.length cap, .int .i64 (b : Int), .int .i64 (e : Int), .int .i64 (s : Int)] 38 (0, 0)) ∧ HeldAt w q g (.slice A X.length cap) X
  ge : B ≤ q ∧ B ≤ g
  bs : b ≤ s
  se : s ≤ e
  ex : e ≤ X.length
  small : X.length ≤ 100000
theorem Mk.lt {w : World} {B q g b e s : Nat} {X : List UInt8} (h : Mk w B q g b e s X) : q < w.heap.size := by
  obtain ⟨A, cap, h1, _⟩ := h.box
  exact (Array.getElem?_eq_some_iff.1 h1).1
theorem Mk.dlt {w : World} {B q g b e s : Nat} {X : List UInt8} (h : Mk w B q g b e s X) : g < w.heap.size := by
  have := h.lt
  obtain ⟨A, cap, _, h2⟩ := h.box
  rcases h2 with ⟨_, _, rfl⟩ | ⟨_, _, _, _, ho⟩
  · exact this
  · exact ho.lt
theorem Mk.only {K : Nat → Prop} {w w' : World} {B q g b e s : Nat} {X : List UInt8} (h : Mk w B q g b e s X) (hO : Only K w w') (hq : ¬ K q) (hg : ¬ K g) : Mk w' B q g b e s X := by
  obtain ⟨A, cap, h1, h2⟩ := h.box
  exact ⟨⟨A, cap, (hO.block q h.lt hq).trans h1, h2.only hO (fun _ => hg)⟩, h.ge, h.bs, h.se, h.ex, h.small⟩
theorem Mk.below {w w' : World} {B q g b e s : Nat} {X : List UInt8} (h : Mk w B q g b e s X) (hb : Below w.heap.size w w') : Mk w' B q g b e s X := h.only (Only.of_below (K := fun _ => False) hb) id id
theorem Mk.heap {w w' : World} {B q g b e s : Nat} {X : List UInt8} (h : Mk w B q g b e s X) (ee : w'.heap = w.heap) : Mk w' B q g b e s X := by
  obtain ⟨A, cap, h1, h2⟩ := h.box
  exact ⟨⟨A, cap, by rw [ee]; exact h1, h2.heap ee⟩, h.ge, h.bs, h.se, h.ex, h.small⟩
theorem Mk.more {w : World} {B C q g b e s : Nat} {X : List UInt8} (h : Mk w B q g b e s X) (hC : C ≤ B) : Mk w C q g b e s X := ⟨h.box, ⟨Nat.le_trans hC h.ge.1, Nat.le_trans hC h.ge.2⟩, h.bs, h.se, h.ex, h.small⟩
theorem mk_new (w : World) : Mk (w.alloc (.cells #[.slice none 0 0, .int .i64 0, .int .i64 0, .int .i64 0] 38)) w.heap.size w.heap.size w.heap.size 0 0 0 [] :=
  ⟨⟨none, 0, heap_alloc_new w _, .inl ⟨rfl, rfl, rfl⟩⟩, ⟨Nat.le_refl _, Nat.le_refl _⟩, Nat.le_refl _, Nat.le_refl _, Nat.le_refl _, by simp⟩
theorem free4 {w : World} {b : Nat} {x y z u : Value} {t : TypeId} (h : w.heap[b]? = some (.cells #[x, y, z, u] t (0, 0))) (i : Nat) : w.frozen? ⟨b, i, none⟩ = false := by simp [World.frozen?, h]
/-- what a call with an error alone answers of it -/
def MkT (w : World) (B q g b e s : Nat) (X : List UInt8) (r : Value) (en : Ending) (w' : World) : Prop := en = .returned r ∧ Mk w' B q g b e s X ∧ Only (fun k => k = q) w w'
theorem mk_set {w : World} {B q g b e s b' e' s' : Nat} {X : List UInt8} (h : Mk w B q g b e s X) (hb : b' ≤ s') (hs : s' ≤ e') (he : e' ≤ X.length) {w' : World} (hO : Only (fun k => k = q) w w')
    (hh : ∀ A cap, w.heap[q]? = some (.cells #[.slice A X.length cap, .int .i64 (b : Int), .int .i64 (e : Int), .int .i64 (s : Int)] 38 (0, 0)) → w'.heap[q]? = some (.cells #[.slice A X.length cap, .int .i64 (b' : Int), .int .i64 (e' : Int), .int .i64 (s' : Int)] 38 (0, 0))) : Mk w' B q g b' e' s' X := by
  obtain ⟨A, cap, h1, h2⟩ := h.box
  exact ⟨⟨A, cap, hh A cap h1, h2.only hO (fun hne => hne)⟩, h.ge, hb, hs, he, h.small⟩
set_option maxRecDepth 100000 in
theorem rsync_any {w : World} {B q g b e s : Nat} {X : List UInt8} (h : Mk w B q g b e s X) : Calls Try.prog 23 #[.pointer (some ⟨q, 0, none⟩)] w (MkT w B q g b e e X (.int .i64 0)) := by
  have HO := Lib.hid (Only.set w q 3 (.int .i64 (e : Int)))
  have HY := Lib.hid (mk_set (b' := b) (e' := e) (s' := e) h (Nat.le_trans h.bs h.se) (Nat.le_refl _) h.ex HO.out (fun A cap h1 => by simp [World.setCell, Array.getElem?_modify, h1]))
  obtain ⟨A, cap, h1, _⟩ := h.box
  obtain ⟨x0, x1, x2, x3⟩ := box4 h1
  have z3 := free4 h1 3
  clear h1 h
  go_enter Try.func23, Try.ntmps23
  go_wp2_with fail
  go_ret
  exact ⟨rfl, HY.out, HO.out⟩
set_option maxRecDepth 100000 in
theorem rdrop_yes {w : World} {B q g b e s : Nat} {X : List UInt8} (h : Mk w B q g b e s X) (k : Nat) (hk : b ≤ k) (hk2 : k ≤ s) : Calls Try.prog 78 #[.pointer (some ⟨q, 0, none⟩), .int .i64 (k : Int)] w (MkT w B q g k e s X (.int .i64 0)) := by
  have HO := Lib.hid (Only.set w q 1 (.int .i64 (k : Int)))
  have HY := Lib.hid (mk_set (b' := k) (e' := e) (s' := s) h hk2 h.se h.ex HO.out (fun A cap h1 => by simp [World.setCell, Array.getElem?_modify, h1]))
  obtain ⟨A, cap, h1, _⟩ := h.box
  obtain ⟨x0, x1, x2, x3⟩ := box4 h1
  have z1 := free4 h1 1
  have hi1 : ¬ ((k : Int) < b) := by omega
  have hi2 : ¬ ((s : Int) < k) := by omega
  clear h1 h
  go_enter Try.func78, Try.ntmps78
  go_wp2_with fail
  go_ret
  exact ⟨rfl, HY.out, HO.out⟩
set_option maxRecDepth 100000 in
theorem rdrop_no {w : World} {B q g b e s : Nat} {X : List UInt8} (h : Mk w B q g b e s X) (k : Int) (hno : ¬ ((b : Int) ≤ k ∧ k ≤ (s : Int))) : Calls Try.prog 78 #[.pointer (some ⟨q, 0, none⟩), .int .i64 k] w (Looks (.int .i64 1) w) := by
  obtain ⟨A, cap, h1, _⟩ := h.box
  obtain ⟨x0, x1, x2, x3⟩ := box4 h1
  clear h1 h
  by_cases h1 : k < b
  · clear hno
    go_enter Try.func78, Try.ntmps78
    go_wp2_with fail
    go_ret
    exact ⟨rfl, rfl⟩
  · have h3 : (s : Int) < k := by omega
    clear hno
    go_enter Try.func78, Try.ntmps78
    go_wp2_with fail
    go_ret
    exact ⟨rfl, rfl⟩
set_option maxRecDepth 100000 in
theorem rcut_yes {w : World} {B q g b e s : Nat} {X : List UInt8} (h : Mk w B q g b e s X) (k : Nat) (hk : b ≤ k) (hk2 : k ≤ e) : Calls Try.prog 71 #[.pointer (some ⟨q, 0, none⟩), .int .i64 (k : Int)] w (MkT w B q g b k k X (.int .i64 0)) := by
  have HO := Lib.hid ((Only.set w q 2 (.int .i64 (k : Int))).trans (Only.set _ q 3 (.int .i64 (k : Int))) (fun _ _ e => e))
  have HY := Lib.hid (mk_set (b' := b) (e' := k) (s' := k) h hk (Nat.le_refl _) (Nat.le_trans hk2 h.ex) HO.out (fun A cap h1 => by simp [World.setCell, Array.getElem?_modify, h1]))
  obtain ⟨A, cap, h1, _⟩ := h.box
  obtain ⟨x0, x1, x2, x3⟩ := box4 h1
  have z2 := free4 h1 2
  have z3 := free4 h1 3
  have hi1 : ¬ ((k : Int) < b) := by omega
  have hi2 : ¬ ((e : Int) < k) := by omega
  clear h1 h
  go_enter Try.func71, Try.ntmps71
  go_wp2_with fail
  go_ret
  exact ⟨rfl, HY.out, HO.out⟩
set_option maxRecDepth 100000 in
theorem rcut_no {w : World} {B q g b e s : Nat} {X : List UInt8} (h : Mk w B q g b e s X) (k : Int) (hno : ¬ ((b : Int) ≤ k ∧ k ≤ (e : Int))) : Calls Try.prog 71 #[.pointer (some ⟨q, 0, none⟩), .int .i64 k] w (Looks (.int .i64 1) w) := by
  obtain ⟨A, cap, h1, _⟩ := h.box
  obtain ⟨x0, x1, x2, x3⟩ := box4 h1
  clear h1 h
  by_cases h1 : k < b
  · clear hno
    go_enter Try.func71, Try.ntmps71
    go_wp2_with fail
    go_ret
    exact ⟨rfl, rfl⟩
  · have h3 : (e : Int) < k := by omega
    clear hno
    go_enter Try.func71, Try.ntmps71
    go_wp2_with fail
    go_ret
    exact ⟨rfl, rfl⟩
/-- a window of what is held -/
theorem HeldAt.win {w : World} {p g cap : Nat} {A : Option Addr} {l : List UInt8} (h : HeldAt w p g (.slice A l.length cap) l) {i j : Nat} (hi : i ≤ j) (hj : j ≤ l.length) : RdB w w.heap.size (if cap = i then A else A.map fun x => x.add i) ((l.drop i).take (j - i)) := ((h.dropped (k := i) (by omega)).rd.1).take _
theorem HeldAt.room {w : World} {p g cap : Nat} {A : Option Addr} {l : List UInt8} (h : HeldAt w p g (.slice A l.length cap) l) : l.length ≤ cap := by
  rcases h with ⟨e, rfl, _⟩ | ⟨_, o, cap', e, ho⟩
  · simp
  · injection e with e1 e2 e3
    subst e3
    exact ho.room
set_option maxRecDepth 100000 in
set_option maxHeartbeats 1000000 in
theorem rread_yes {w : World} {B q g b e s : Nat} {X : List UInt8} (h : Mk w B q g b e s X) (i j : Nat) (hi : b ≤ i) (hij : i ≤ j) (hj : j ≤ e) (l' : List UInt8) (hl : l' = (X.drop i).take (j - i)) :
    Calls Try.prog 69 #[.pointer (some ⟨q, 0, none⟩), .int .i64 (i : Int), .int .i64 (j : Int)] w (RdY w l') := by
  subst hl
  obtain ⟨i0, hi0, hz0, hz1, hz2⟩ := info_parts info8
  have hex := h.ex
  have hsm := h.small
  obtain ⟨A, cap, h1, h2⟩ := h.box
  have HR := Lib.hid (h2.win hij (by omega))
  have HLL : Hid (((X.drop i).take (j - i)).length = j - i) := Lib.hid (by rw [List.length_take, List.length_drop]; omega)
  have hrm := h2.room
  obtain ⟨x0, x1, x2, x3⟩ := box4 h1
  obtain ⟨y0, y1, y2, y3⟩ := box4 (((alloc_below w (.cells #[] 5)).block q h.lt).trans h1)
  have hi1 : ¬ ((i : Int) < b) := by omega
  have hi2 : ¬ ((j : Int) < i) := by omega
  have hi3 : ¬ ((e : Int) < j) := by omega
  have hi4 : (i : Int) ≤ j := by omega
  have hi5 : (j : Int) ≤ cap := by omega
  have hi6 : (j : Int) - i ≤ 100000 := by omega
  clear h1 h2 h hi hij hj
  go_enter Try.func69, Try.ntmps69
  go_wp2_with (at_builtin
               have h1 := own_empty (Nat.le_refl w.heap.size) 0
               have h2 := HR.out.below (alloc_below w (.cells #[] 5)) (Nat.le_refl _)
               refine wpList_appB (xs := []) (ys := (X.drop i).take (j - i)) (B := w.heap.size) rfl _ _ 23 rfl Try.underlying23 hi0 hz0 hz1 hz2 rfl h1 rfl HLL.out h2 (by have := HLL.out; simp only [List.length_nil]; omega) (by simp) ?_
               intro v5 w5 ho5 hg5
               have HY : Hid (RdY w ((X.drop i).take (j - i)) (.returned (.tuple #[v5, .int .i64 0])) w5) := Lib.hid ⟨v5, rfl, ho5, grew_below (alloc_below w (.cells #[] 5)) h1.ge hg5⟩
               clear ho5 hg5 h1 h2)
  all_goals
    go_ret2
    exact HY.out
set_option maxRecDepth 100000 in
theorem rread_no {w : World} {B q g b e s : Nat} {X : List UInt8} (h : Mk w B q g b e s X) (i j : Int) (hno : ¬ ((b : Int) ≤ i ∧ i ≤ j ∧ j ≤ (e : Int))) : Calls Try.prog 69 #[.pointer (some ⟨q, 0, none⟩), .int .i64 i, .int .i64 j] w (Looks (.tuple #[.slice none 0 0, .int .i64 61]) w) := by
  obtain ⟨A, cap, h1, _⟩ := h.box
  obtain ⟨x0, x1, x2, x3⟩ := box4 h1
  clear h1 h
  by_cases h1 : i < b
  · clear hno
    go_enter Try.func69, Try.ntmps69
    go_wp2_with fail
    go_ret2
    exact ⟨rfl, rfl⟩
  · by_cases h2 : j < i
    · clear hno
      go_enter Try.func69, Try.ntmps69
      go_wp2_with fail
      go_ret2
      exact ⟨rfl, rfl⟩
    · have h3 : (e : Int) < j := by omega
      clear hno
      go_enter Try.func69, Try.ntmps69
      go_wp2_with fail
      go_ret2
      exact ⟨rfl, rfl⟩
/-- what Append answers of it -/
def MkA (w : World) (B q b e s : Nat) (X : List UInt8) (en : Ending) (w' : World) : Prop := en = .returned (.tuple #[.int .i64 (e : Int), .int .i64 0]) ∧ ∃ g' e', Mk w' B q g' b e' s X ∧ X.length = e' ∧ Only (fun k => k = q) w w' ∧ (g' = q ∨ w.heap.size ≤ g')
theorem mk_app {w w5 : World} {B q g b e s m : Nat} {X ys : List UInt8} {A5 : Option Addr} {cap5 : Nat} (h : Mk w B q g b e s X) (hB : B ≤ w.heap.size) (hsm : e + ys.length ≤ 100000) (ho : OwnB w5 w.heap.size (.slice A5 m cap5) (X.take e ++ ys)) (hm : m = e + ys.length) (hb : Below w.heap.size w w5) :
    MkA w B q b e s (X.take e ++ ys) (.returned (.tuple #[.int .i64 (e : Int), .int .i64 0])) ((w5.setCell ⟨q, 0, none⟩ (.slice A5 m cap5)).setCell ⟨q, 2, none⟩ (.int .i64 ((e + ys.length : Nat) : Int))) := by
  have hex := h.ex
  have hl : (X.take e ++ ys).length = e + ys.length := by rw [List.length_append, List.length_take]; omega
  have hO : Only (fun k => k = q) w5 ((w5.setCell ⟨q, 0, none⟩ (.slice A5 m cap5)).setCell ⟨q, 2, none⟩ (.int .i64 ((e + ys.length : Nat) : Int))) := (Only.set w5 q 0 _).trans (Only.set _ q 2 _) (fun _ _ e => e)
  obtain ⟨g', hg1, hg2⟩ := HeldAt.of_own (p := q) ho h.lt
  obtain ⟨A, cap, h1, _⟩ := (h.below hb).box
  have hge := h.ge
  refine ⟨rfl, g', e + ys.length, ⟨⟨A5, cap5, ?_, ?_⟩, ⟨hge.1, ?_⟩, h.bs, by have := h.se; omega, by omega, by omega⟩, hl, (Only.of_below hb).trans hO (fun _ _ e => e), hg2⟩
  · rw [hl, hm]
    simp [World.setCell, Array.getElem?_modify, h1]
  · rw [hl]
    subst hm
    exact hg1.only (K := fun k => k = q) hO (fun hne => hne)
  · rcases hg2 with rfl | hg2
    · exact hge.1
    · omega
set_option maxRecDepth 100000 in
set_option maxHeartbeats 2000000 in
theorem rappend_any {w : World} {B q g b e s : Nat} {X : List UInt8} (h : Mk w B q g b e s X) (hB : B ≤ w.heap.size) (ys : List UInt8) (C : Option Addr) (n c : Nat) (hn : ys.length = n) (hr : RdB w w.heap.size C ys) (hsm : e + ys.length ≤ 100000) :
    Calls Try.prog 31 #[.pointer (some ⟨q, 0, none⟩), .slice C n c] w (MkA w B q b e s (X.take e ++ ys)) := by
  subst hn
  obtain ⟨i0, hi0, hz0, hz1, hz2⟩ := info_parts info8
  have hex := h.ex
  have hbe := Nat.le_trans h.bs h.se
  have hlx := h.small
  have HA := Lib.hid (fun w5 A5 m cap5 => mk_app (w5 := w5) (A5 := A5) (m := m) (cap5 := cap5) (ys := ys) h hB hsm)
  have HLT := Lib.hid h.lt
  have HTE : Hid ((X.take e).length = e) := Lib.hid (by rw [List.length_take]; omega)
  obtain ⟨A, cap, h1, h2⟩ := h.box
  have HR : Hid (RdB w w.heap.size A (X.take e)) := Lib.hid (h2.rd.1.take e)
  have HC := Lib.hid hr
  have hrm := h2.room
  obtain ⟨x0, x1, x2, x3⟩ := box4 h1
  have HX := Lib.hid h1
  have HW1 : Hid (Below w.heap.size w w.drew) := Lib.hid (drew_below w)
  have HS : Hid (e + ys.length ≤ 100000) := Lib.hid hsm
  have hi1 : ¬ ((1048576 : Int) < (ys.length : Int)) := by omega
  have hi2 : (e : Int) ≤ 100000 := by omega
  have hi3 : (b : Int) ≤ (e : Int) := by omega
  have hi4 : (ys.length : Int) ≤ 100000 := by omega
  have hi5 : (e : Int) ≤ cap := by omega
  have hi6 : (e : Int) + (ys.length : Int) ≤ 100000 := by omega
  have hs1 : IntKind.i64.wrap ((e : Int) - (b : Int)) = (e : Int) - (b : Int) := IntWalk.i64_in _ (by omega)
  have hs2 : IntKind.i64.wrap ((e : Int) - (b : Int) + (ys.length : Int)) = (e : Int) - (b : Int) + (ys.length : Int) := IntWalk.i64_in _ (by omega)
  have hs3 : decide ((1048576 : Int) < (e : Int) - (b : Int) + (ys.length : Int)) = false := decide_eq_false (by omega)
  clear h1 h2 h hr hsm hB
  go_enter Try.func31, Try.ntmps31
  go_wp2_with fail
  go_quiet (fail)
  clear hs1 hs2 x0 x1 x2 x3
  generalize hW : w.drewN _ = w1
  have hb1 : Below w.heap.size w w1 := by rw [← hW]; exact drewN_below _ _
  have hsz1 : w1.heap.size = w.heap.size := by rw [← hW]; rfl
  have hX1 := (hb1.block q HLT.out).trans HX.out
  obtain ⟨x0, x1, x2, x3⟩ := box4 hX1
  obtain ⟨y0, y1, y2, y3⟩ := box4 (((alloc_below w1 (.cells #[] 5)).block q (by rw [hsz1]; exact HLT.out)).trans hX1)
  have HB1 := Lib.hid (And.intro hb1 hsz1)
  have HO1 := Lib.hid (own_empty (Nat.le_refl w1.heap.size) 0)
  have HC1 : Hid (RdB (w1.alloc (.cells #[] 5)) w.heap.size C ys) := Lib.hid ((HC.out.below hb1 (Nat.le_refl _)).below (alloc_below w1 _) (by rw [hsz1]; exact Nat.le_refl _))
  have HR1 : Hid (RdB (w1.alloc (.cells #[] 5)) w.heap.size A (X.take e)) := Lib.hid ((HR.out.below hb1 (Nat.le_refl _)).below (alloc_below w1 _) (by rw [hsz1]; exact Nat.le_refl _))
  clear hW hb1 hsz1 hX1
  go_wp2_with (first
    | (at_builtin
       refine wpList_appB (xs := X.take e) (ys := ys) (B := w1.heap.size) rfl _ _ 23 rfl Try.underlying23 hi0 hz0 hz1 hz2 rfl HO5.out rfl rfl (HC5.out) (by have := HTE.out; have := HS.out; omega) HB5.out.size ?_
       intro v6 w6 ho6 hg6
       obtain ⟨_, A6, cap6, hv6, _⟩ := id ho6
       subst hv6
       have hb6 := HB5.out.trans (hg6.toBelow HB5.out.size HO5.out.ge)
       have hb7 := HB1.out.1.trans (by have := hb6; rw [HB1.out.2] at this; exact this)
       obtain ⟨z0, z1, z2, z3⟩ := box4 ((hb7.block q HLT.out).trans HX.out)
       have f0 := free4 ((hb7.block q HLT.out).trans HX.out) 0
       have f2 := free4 ((hb7.block q HLT.out).trans HX.out) 2
       have HY : Hid (∀ (x : Int) (m : Nat), x = ((e + ys.length : Nat) : Int) → m = e + ys.length → MkA w B q b e s (X.take e ++ ys) (.returned (.tuple #[.int .i64 (e : Int), .int .i64 0])) ((w6.setCell ⟨q, 0, none⟩ (.slice A6 m cap6)).setCell ⟨q, 2, none⟩ (.int .i64 x))) := Lib.hid (fun x m hx hm => by
         subst hx
         have hl : (X.take e ++ ys).length = m := by rw [List.length_append, HTE.out, hm]
         have h6 := ho6
         rw [hl, HB1.out.2] at h6
         exact HA.out w6 A6 m cap6 h6 hm hb7)
       clear ho6 hg6 hb6 hb7)
    | (at_builtin
       refine wpList_appB (xs := []) (ys := X.take e) (B := w1.heap.size) rfl _ _ 23 rfl Try.underlying23 hi0 hz0 hz1 hz2 rfl HO1.out rfl HTE.out HR1.out (by have := HTE.out; simp only [List.length_nil]; omega) (by simp) ?_
       intro v5 w5 ho5 hg5
       have hb5 := grew_below (alloc_below w1 (.cells #[] 5)) HO1.out.ge hg5
       have HB5 := Lib.hid hb5
       have HO5 := Lib.hid ho5
       have HC5 := Lib.hid (((HC.out.below HB1.out.1 (Nat.le_refl _)).below hb5 (by rw [HB1.out.2]; exact Nat.le_refl _)))
       have hk5 := ((hb5.block q (by rw [HB1.out.2]; exact HLT.out)).trans ((HB1.out.1.block q HLT.out).trans HX.out))
       obtain ⟨z0, z1, z2, z3⟩ := box4 hk5
       clear ho5 hg5 hb5 hk5))
  go_ret2
  exact HY.out _ _ (by simp) (by first | rfl | (simp; have := HTE.out; simp at this; omega))
end Go.Proofs.Ytgdofnbnahpedaa

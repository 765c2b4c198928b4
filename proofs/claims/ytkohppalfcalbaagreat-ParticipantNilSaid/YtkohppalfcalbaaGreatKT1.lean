/- Rows of values of the call's own: appended to, read. -/
import Derived.Test.YtkohppalfcalbaaGreatKX
import Derived.Test.YtkohppalfcalbaaGreatGSP
import Derived.Test.YtkohppalfcalbaaGreatGSQ
namespace Go.Proofs.YtkohppalfcalbaaGreat
section
open Go.RowKit

/-- values as cells -/
def valsV : List Val → List Value
  | [] => []
  | x :: l => .int .i64 x.k :: .int .i64 x.n :: .string x.s :: valsV l
theorem valsV_len (l : List Val) : (valsV l).length = l.length * 3 := by
  induction l with
  | nil => rfl
  | cons x l ih => simp only [valsV, List.length_cons, ih]; omega
theorem valsV_app (a b : List Val) : valsV (a ++ b) = valsV a ++ valsV b := by
  induction a with
  | nil => rfl
  | cons x a ih => simp only [List.cons_append, valsV, ih]
theorem valsV_get {l : List Val} {i : Nat} {x : Val} (h : l[i]? = some x) : (valsV l)[i * 3]? = some (.int .i64 x.k) ∧ (valsV l)[i * 3 + 1]? = some (.int .i64 x.n) ∧ (valsV l)[i * 3 + 2]? = some (.string x.s) := by
  induction l generalizing i with
  | nil => simp at h
  | cons y l ih => cases i with
    | zero => simp at h; subst h; exact ⟨rfl, rfl, rfl⟩
    | succ i =>
      simp only [List.getElem?_cons_succ] at h
      obtain ⟨a, b, c⟩ := ih h
      have e : (i + 1) * 3 = i * 3 + 1 + 1 + 1 := by omega
      rw [e]
      simp only [valsV, List.getElem?_cons_succ]
      exact ⟨a, b, c⟩
theorem valsV_at {l : List Val} {j : Nat} {u : Value} (h : (valsV l)[j]? = some u) : ∃ i x, l[i]? = some x ∧ ((j = i * 3 ∧ u = .int .i64 x.k) ∨ (j = i * 3 + 1 ∧ u = .int .i64 x.n) ∨ (j = i * 3 + 2 ∧ u = .string x.s)) := by
  induction l generalizing j with
  | nil => simp [valsV] at h
  | cons y l ih =>
    match j with
    | 0 => simp [valsV] at h; exact ⟨0, y, rfl, .inl ⟨rfl, h.symm⟩⟩
    | 1 => simp [valsV] at h; exact ⟨0, y, rfl, .inr (.inl ⟨rfl, h.symm⟩)⟩
    | 2 => simp [valsV] at h; exact ⟨0, y, rfl, .inr (.inr ⟨rfl, h.symm⟩)⟩
    | j + 3 =>
      simp only [valsV, List.getElem?_cons_succ] at h
      obtain ⟨i, x, hx, hc⟩ := ih h
      refine ⟨i + 1, x, by simpa using hx, ?_⟩
      rcases hc with ⟨e, e2⟩ | ⟨e, e2⟩ | ⟨e, e2⟩
      · exact .inl ⟨by omega, e2⟩
      · exact .inr (.inl ⟨by omega, e2⟩)
      · exact .inr (.inr ⟨by omega, e2⟩)
theorem valsV_one {l : List Val} : ∀ u ∈ valsV l, u.oneCell' = true := by
  intro u hu
  obtain ⟨j, hj⟩ := List.getElem?_of_mem hu
  obtain ⟨i, x, _, ⟨_, rfl⟩ | ⟨_, rfl⟩ | ⟨_, rfl⟩⟩ := valsV_at hj <;> rfl
/-- a row of values of the call's own -/
def OwnV (w : World) (B : Nat) (v : Value) (l : List Val) : Prop := w.ownsRow B 184 3 v l.length (valsV l) ∧ ∃ A cap, v = .slice A l.length cap ∧ l.length ≤ cap
theorem OwnV.of_row {w : World} {B n : Nat} {v : Value} {l : List Val} (h : w.ownsRow B 184 3 v n (valsV l)) : OwnV w B v l := by
  have hn : n = l.length := by have := h.1; rw [valsV_len] at this; omega
  subst hn
  refine ⟨h, ?_⟩
  rcases h.2 with ⟨rfl, h0⟩ | ⟨g, cap, cur, rfl, _, _, hc, _⟩
  · exact ⟨none, 0, by rw [h0], by omega⟩
  · exact ⟨_, _, rfl, hc⟩
theorem OwnV.nil (w : World) (B : Nat) : OwnV w B (.slice none 0 0) [] := OwnV.of_row (n := 0) ⟨by simp [valsV], .inl ⟨rfl, rfl⟩⟩
theorem OwnV.below {w w' : World} {B : Nat} {v : Value} {l : List Val} (h : OwnV w B v l) (hb : Below w.heap.size w w') : OwnV w' B v l := ⟨own_below h.1 hb, h.2⟩
theorem OwnV.ge {w : World} {B : Nat} {v : Value} {l : List Val} (h : OwnV w B v l) : ∀ k, v.ownBlock = some k → B ≤ k := by
  rcases h.1.2 with ⟨rfl, _⟩ | ⟨g, c, cur, rfl, hg, _⟩
  · intro k e; cases e
  · intro k e
    have : g = k := by simpa [Value.ownBlock] using e
    omega
theorem OwnV.lt {w : World} {B : Nat} {v : Value} {l : List Val} (h : OwnV w B v l) : ∀ k, v.ownBlock = some k → k < w.heap.size := by
  rcases h.1.2 with ⟨rfl, _⟩ | ⟨g, c, cur, rfl, _, hh, _⟩
  · intro k e; cases e
  · intro k e
    have : g = k := by simpa [Value.ownBlock] using e
    subst this
    exact (Array.getElem?_eq_some_iff.1 hh).1
theorem OwnV.rd {w : World} {B : Nat} {A : Option Addr} {n cap : Nat} {l : List Val} (h : OwnV w B (.slice A n cap) l) : RdV w w.heap.size A l := fun hn => by
  rcases h.1.2 with ⟨_, h0⟩ | ⟨g, c, cur, e, _, hh, _, _, _, ht⟩
  · exact absurd (List.length_eq_zero_iff.1 h0) hn
  · injection e with e1
    subst e1
    refine ⟨g, 0, rfl, (Array.getElem?_eq_some_iff.1 hh).1, fun j x hj => ?_⟩
    obtain ⟨a, b, c⟩ := valsV_get hj
    have h2 := fun i u hu => h.1.cells (g := g) rfl i u hu
    have h3 := h2 _ _ a
    have h4 := h2 _ _ b
    have h5 := h2 _ _ c
    rw [add_plain] at h3 h4 h5
    rw [Nat.zero_add]
    exact ⟨h3, h4, h5⟩
theorem infoV : (Tryz.prog.info? 184).map (fun i => (i.zero, i.size, i.bytes)) = some (some (.agg #[.int .i64 0, .int .i64 0, .string ⟨#[]⟩]), 3, 32) := by kernel_rfl
end

section
open Go.RowKit

/-- what values answers -/
def VlT (w : World) (l : List Val) (e : Ending) (w' : World) : Prop := ∃ A c, e = .returned (.slice A l.length c) ∧ RdV w' w'.heap.size A l ∧ Below w.heap.size w w'
theorem HeldC.rdV {w : World} {q g n c : Nat} {A : Option Addr} {l : List Val} (h : HeldC w q g 3 (.slice A n c) l.length (valsV l)) : n = l.length ∧ RdV w w.heap.size A l := by
  obtain ⟨h1, h2⟩ := h.rd
  refine ⟨h2, fun hn => ?_⟩
  obtain ⟨b, o, hA, hlt, hc⟩ := h1 (fun e => by have h3 := valsV_len l; rw [e] at h3; have := List.length_pos_iff.2 hn; simp at h3; omega)
  refine ⟨b, o, hA, hlt, fun j x hj => ?_⟩
  obtain ⟨c0, c1, c2⟩ := valsV_get hj
  refine ⟨hc _ _ c0, ?_, ?_⟩
  · rw [Nat.add_assoc]; exact hc _ _ c1
  · rw [Nat.add_assoc]; exact hc _ _ c2
/-- what a region leaves where it ends as it should -/
def OnNormal (R : Act → World → Prop) : Exit → Act → World → Prop
  | .normal, a, w => R a w
  | _, _, _ => False
theorem wp_cutN {P : Program} {c : Code} {Q : Exit → Act → World → Prop} {a : Act} {w : World} (R : Act → World → Prop) (h : c.wp P (OnNormal R) a w) (hq : ∀ a' w', R a' w' → Q .normal a' w') : c.wp P Q a w :=
  Code.wp_mono (fun e a' w' h => by cases e <;> first | exact hq _ _ h | exact h.elim) h
theorem wp_cutA {P : Program} {c : Code} {Q : Exit → Act → World → Prop} {a : Act} {w : World} (R : Act → Act → World → Prop) (h : c.wp P (OnNormal (R a)) a w) (hq : ∀ a' w', R a a' w' → Q .normal a' w') : c.wp P Q a w := wp_cutN (R a) h hq
/-- the record's box -/
structure BxR (w W : World) (k n : Int) (sb : ByteArray) (kA rA : Option Addr) (kn kc rn rc : Nat) (d : Bool) : Prop where
  bel : Below w.heap.size w W
  box : W.heap[w.heap.size]? = some (.cells #[.int .i64 k, .int .i64 n, .string sb, .slice kA kn kc, .slice rA rn rc, .bool d] 108 (0, 0))
theorem BxR.new (w : World) (k n : Int) (sb : ByteArray) (kA rA : Option Addr) (kn kc rn rc : Nat) (d : Bool) : BxR w (w.alloc (.cells #[.int .i64 k, .int .i64 n, .string sb, .slice kA kn kc, .slice rA rn rc, .bool d] 108)) k n sb kA rA kn kc rn rc d := ⟨alloc_below _ _, heap_alloc_new _ _⟩
theorem BxR.next {w W W2 : World} {k n : Int} {sb : ByteArray} {kA rA : Option Addr} {kn kc rn rc : Nat} {d : Bool} (h : BxR w W k n sb kA rA kn kc rn rc d) (hb : Below W.heap.size W W2) : BxR w W2 k n sb kA rA kn kc rn rc d := ⟨h.bel.trans (hb.mono h.bel.size), (hb.block _ (Array.getElem?_eq_some_iff.1 h.box).1).trans h.box⟩
theorem BxR.lt {w W : World} {k n : Int} {sb : ByteArray} {kA rA : Option Addr} {kn kc rn rc : Nat} {d : Bool} (h : BxR w W k n sb kA rA kn kc rn rc d) : w.heap.size < W.heap.size := (Array.getElem?_eq_some_iff.1 h.box).1
theorem BxR.cells {w W : World} {k n : Int} {sb : ByteArray} {kA rA : Option Addr} {kn kc rn rc : Nat} {d : Bool} (h : BxR w W k n sb kA rA kn kc rn rc d) : W.cell? ⟨w.heap.size, 0, none⟩ = some (.int .i64 k) ∧ W.cell? ⟨w.heap.size, 1, none⟩ = some (.int .i64 n) ∧ W.cell? ⟨w.heap.size, 2, none⟩ = some (.string sb) ∧ W.cell? ⟨w.heap.size, 3, none⟩ = some (.slice kA kn kc) ∧ W.cell? ⟨w.heap.size, 4, none⟩ = some (.slice rA rn rc) := by
  have h1 := h.box
  simp [World.cell?, h1]
theorem two_vals {w : World} {o : Obj} (x y : Val) {q : Nat} (hq : q < w.heap.size) : HeldC ((w.alloc (.cells #[.int .i64 x.k, .int .i64 x.n, .string x.s, .int .i64 y.k, .int .i64 y.n, .string y.s] 184)).alloc o) q w.heap.size 3 (.slice (some ⟨w.heap.size, 0, none⟩) 2 2) 2 (valsV [x, y]) :=
  (held_alloc (n := 2) (sz := 3) rfl hq).only (Only.of_below (K := fun _ => False) (alloc_below _ _)) (fun _ => id)
set_option maxRecDepth 100000 in
set_option maxHeartbeats 4000000 in
theorem values_plain (k n : Int) (sb : ByteArray) (kA rA : Option Addr) (kn kc rn rc : Nat) (d : Bool) (h1 : ¬ k = 1) (h2 : ¬ k = 2) (h7 : ¬ k = 7) (w : World) : Calls Tryz.prog 93 #[.agg #[.int .i64 k, .int .i64 n, .string sb, .slice kA kn kc, .slice rA rn rc, .bool d]] w (VlT w [numV k, numV n]) := by
  have HX := Lib.hid (BxR.new w k n sb kA rA kn kc rn rc d)
  obtain ⟨w1, hw1⟩ : ∃ w1, w1 = w.alloc (.cells #[.int .i64 k, .int .i64 n, .string sb, .slice kA kn kc, .slice rA rn rc, .bool d] 108) := ⟨_, rfl⟩
  rw [← hw1] at HX
  have HW1 := Lib.hid hw1
  obtain ⟨x0, x1, x2, x3, x4⟩ := HX.out.cells
  obtain ⟨i0, hi, hz0, hz1, hz2⟩ := info_parts infoV
  clear hw1
  have HL : Hid (∀ (W : World) (o : Obj), BxR w W k n sb kA rA kn kc rn rc d → HeldC ((W.alloc (.cells #[.int .i64 2, .int .i64 k, .string ⟨#[]⟩, .int .i64 2, .int .i64 n, .string ⟨#[]⟩] 184)).alloc o) w.heap.size W.heap.size 3 (.slice (some ⟨W.heap.size, 0, none⟩) 2 2) 2 (valsV [numV k, numV n]) ∧ Below w.heap.size w ((W.alloc (.cells #[.int .i64 2, .int .i64 k, .string ⟨#[]⟩, .int .i64 2, .int .i64 n, .string ⟨#[]⟩] 184)).alloc o) ∧ w.heap.size < W.heap.size ∧ w.heap.size < ((W.alloc (.cells #[.int .i64 2, .int .i64 k, .string ⟨#[]⟩, .int .i64 2, .int .i64 n, .string ⟨#[]⟩] 184)).alloc o).heap.size) := Lib.hid fun W o hx => ⟨two_vals (numV k) (numV n) hx.lt, hx.bel.trans ((alloc2_below _ _ _).mono hx.bel.size), hx.lt, by have := hx.lt; have := (alloc2_below W (.cells #[.int .i64 2, .int .i64 k, .string ⟨#[]⟩, .int .i64 2, .int .i64 n, .string ⟨#[]⟩] 184) o).size; omega⟩
  go_enter Tryz.func93, Tryz.ntmps93
  go_upto_region 1 with fail
  rw [← HW1.out]
  go_region_law (first
    | (go_simp; go_at_call 130; refine (snumber_any _ _).mono ?_; rintro e w2 ⟨rfl, hb⟩
       have HX := Lib.hid (by first | exact HX.out.next hb | exact HX.out.next (below_drew hb) | exact (HX.out.next (drewN_below _ _)).next hb)
       obtain ⟨x0, x1, x2, x3, x4⟩ := HX.out.cells
       clear hb))
  all_goals
    have HH := Lib.hid (HL.out w2 (.cells #[.slice none 0 0] 159) HX.out)
    have y0 := (BxR.next HX.out (alloc2_below w2 (.cells #[.int .i64 2, .int .i64 k, .string ⟨#[]⟩, .int .i64 2, .int .i64 n, .string ⟨#[]⟩] 184) (.cells #[.slice none 0 0] 159))).cells.1
    go_wp2_with (first
      | (at_builtin
         refine wpList_appHCn (n := 2) (m := 0) (C := 0) (ys := []) (by rfl) _ _ 159 184 (by rfl) Tryz.underlying159 hi hz0 hz1 hz2 (by rfl) (by omega) (by rfl) HH.out.1 HH.out.2.2.2 (by rfl) (by rfl) (fun h => absurd rfl h) (fun u hu => by simp at hu) (by omega) (by omega) ?_
         intro g5 v5 w5 ho5 hO5 hg5
         rw [List.append_nil] at ho5
         have HY : Hid (VlT w [numV k, numV n] (.returned v5) w5) := Lib.hid (by
           obtain ⟨A5, c5, rfl, _, _⟩ := ho5.slice
           refine ⟨A5, c5, rfl, ho5.rdV.2, HH.out.2.1.trans (hO5.below (by have := HH.out.2.2.2; omega) (fun j hj => by have := HH.out.2.2.1; omega))⟩)
         clear ho5 hO5 hg5))
    go_ret
    exact HY.out
end

section
open Go.RowKit

/-- behind the pieces' box: the row l of two numbers, the box, the pieces' box -/
structure VlB (w w2 W : World) (k n : Int) (sb : ByteArray) (kA rA : Option Addr) (kn kc rn rc : Nat) (d : Bool) : Prop where
  bx : BxR w W k n sb kA rA kn kc rn rc d
  row : HeldC W w.heap.size w2.heap.size 3 (.slice (some ⟨w2.heap.size, 0, none⟩) 2 2) 2 (valsV [numV k, numV n])
  pcs : W.heap[w2.heap.size + 1]? = some (.cells #[.slice none 0 0] 159 (0, 0))
  ge : w.heap.size < w2.heap.size
theorem VlB.new {w w2 : World} {k n : Int} {sb : ByteArray} {kA rA : Option Addr} {kn kc rn rc : Nat} {d : Bool} (h : BxR w w2 k n sb kA rA kn kc rn rc d) : VlB w w2 ((w2.alloc (.cells #[.int .i64 2, .int .i64 k, .string ⟨#[]⟩, .int .i64 2, .int .i64 n, .string ⟨#[]⟩] 184)).alloc (.cells #[.slice none 0 0] 159)) k n sb kA rA kn kc rn rc d :=
  ⟨h.next (alloc2_below _ _ _), two_vals (numV k) (numV n) h.lt, heap_two _ _ _, h.lt⟩
theorem VlB.below {w w2 W W' : World} {k n : Int} {sb : ByteArray} {kA rA : Option Addr} {kn kc rn rc : Nat} {d : Bool} (h : VlB w w2 W k n sb kA rA kn kc rn rc d) (hb : Below W.heap.size W W') : VlB w w2 W' k n sb kA rA kn kc rn rc d :=
  ⟨h.bx.next hb, h.row.only (Only.of_below (K := fun _ => False) hb) (fun _ => id), (hb.block _ (Array.getElem?_eq_some_iff.1 h.pcs).1).trans h.pcs, h.ge⟩
theorem two_vals0 {w : World} {x y : Val} : ∀ j u, (valsV [x, y])[j]? = some u → (w.alloc (.cells #[.int .i64 x.k, .int .i64 x.n, .string x.s, .int .i64 y.k, .int .i64 y.n, .string y.s] 184)).cell? ((⟨w.heap.size, 0, none⟩ : Addr).add j) = some u := fun j u hj => by
  rw [add_plain, cell_of_row _ _ j _ _ (0, 0) (heap_alloc_new w _)]
  simpa [valsV] using hj
/-- the space and the key are appended -/
theorem vl_app {w w2 w3 : World} {k n : Int} {sb : ByteArray} (hrow : HeldC w3 w.heap.size w2.heap.size 3 (.slice (some ⟨w2.heap.size, 0, none⟩) 2 2) 2 (valsV [numV k, numV n])) (h3 : w.heap.size < w2.heap.size) (h4 : w2.heap.size < w3.heap.size) (kb : ByteArray) : ∃ A5 c5 w5, (Builtin.append_ #[159, 159] 159 #[.slice (some ⟨w2.heap.size, 0, none⟩) 2 2, .slice (some ⟨w3.heap.size, 0, none⟩) 2 2]).run Tryz.prog (w3.alloc (.cells #[.int .i64 4, .int .i64 0, .string sb, .int .i64 5, .int .i64 0, .string kb] 184)) = .ok (.slice A5 4 c5) w5 ∧
    Hid (∃ g5, HeldC w5 w.heap.size g5 3 (.slice A5 4 c5) 4 (valsV [numV k, numV n, ⟨4, 0, sb⟩, ⟨5, 0, kb⟩]) ∧ w.heap.size < g5 ∧ Only (fun j => j = w2.heap.size) w3 w5 ∧ (g5 = w2.heap.size ∨ w3.heap.size ≤ g5)) := by
  obtain ⟨i0, hi, hz0, hz1, hz2⟩ := info_parts infoV
  have hb := alloc_below w3 (.cells #[.int .i64 4, .int .i64 0, .string sb, .int .i64 5, .int .i64 0, .string kb] 184)
  have hrow2 := hrow.only (Only.of_below (K := fun _ => False) hb) (fun _ => id)
  have hs := hb.size
  obtain ⟨g', v', w', hrun, hrow, hO, hg'⟩ := run_appHC (P := Tryz.prog) 159 159 184 Tryz.underlying159 hi hz0 hz1 hz2 (by rfl) (by decide) hrow2 (by omega) (m := 2) (c := 2) (ys := valsV [⟨4, 0, sb⟩, ⟨5, 0, kb⟩]) rfl (two_vals0 (x := ⟨4, 0, sb⟩) (y := ⟨5, 0, kb⟩)) valsV_one (by omega) (by omega)
  obtain ⟨A', c', rfl, _, _⟩ := hrow.slice
  refine ⟨A', c', w', hrun, Lib.hid ⟨g', hrow, ?_, (Only.of_below hb).trans (hO.more fun j _ e => e.1) (fun _ _ e => e), ?_⟩⟩
  · rcases hg' with rfl | hg' <;> omega
  · rcases hg' with rfl | hg'
    · exact .inl rfl
    · exact .inr (by omega)
attribute [-go_sem] Builtin.append_
set_option maxRecDepth 100000 in
set_option maxHeartbeats 4000000 in
theorem values_drop (n : Int) (sb : ByteArray) (key : List UInt8) (kA rA : Option Addr) (kn kc rn rc : Nat) (d : Bool) (hkn : key.length = kn) (w : World) (hk : RdB w w.heap.size kA key) : Calls Tryz.prog 93 #[.agg #[.int .i64 2, .int .i64 n, .string sb, .slice kA kn kc, .slice rA rn rc, .bool d]] w (VlT w [numV 2, numV n, ⟨4, 0, sb⟩, blobV key]) := by
  have HX := Lib.hid (BxR.new w 2 n sb kA rA kn kc rn rc d)
  obtain ⟨w1, hw1⟩ : ∃ w1, w1 = w.alloc (.cells #[.int .i64 2, .int .i64 n, .string sb, .slice kA kn kc, .slice rA rn rc, .bool d] 108) := ⟨_, rfl⟩
  rw [← hw1] at HX
  have HW1 := Lib.hid hw1
  obtain ⟨x0, x1, x2, x3, x4⟩ := HX.out.cells
  obtain ⟨i0, hi, hz0, hz1, hz2⟩ := info_parts infoV
  have HI := Lib.hid (And.intro hi (And.intro hz0 (And.intro hz1 hz2)))
  clear hw1
  have HBK : Hid (∀ W, Below w.heap.size w W → Calls Tryz.prog 132 #[.slice kA kn kc] W (Ans (.agg #[.int .i64 5, .int .i64 0, .string (strB key)]) W)) := Lib.hid fun W hb => sblob_any key kA kn kc hkn W ((hk.below hb (Nat.le_refl _)).more hb.size)
  show Calls _ _ _ _ (VlT w [numV 2, numV n, ⟨4, 0, sb⟩, ⟨5, 0, strB key⟩])
  generalize strB key = kb at HBK ⊢
  clear hk hkn
  go_enter Tryz.func93, Tryz.ntmps93
  go_upto_region 1 with fail
  rw [← HW1.out]
  go_region_law (first
    | (go_simp; go_at_call 130; refine (snumber_any _ _).mono ?_; rintro e w2 ⟨rfl, hb⟩
       have HX := Lib.hid (by first | exact HX.out.next hb | exact HX.out.next (below_drew hb) | exact (HX.out.next (drewN_below _ _)).next hb)
       obtain ⟨x0, x1, x2, x3, x4⟩ := HX.out.cells
       clear hb))
  all_goals
    have HV := Lib.hid (VlB.new HX.out)
    obtain ⟨w4, hw4⟩ : ∃ w4, w4 = (w2.alloc (.cells #[.int .i64 2, .int .i64 2, .string ⟨#[]⟩, .int .i64 2, .int .i64 n, .string ⟨#[]⟩] 184)).alloc (.cells #[.slice none 0 0] 159) := ⟨_, rfl⟩
    rw [← hw4] at HV
    have HW4 := Lib.hid hw4
    clear hw4
    obtain ⟨x0, x1, x2, x3, x4⟩ := HV.out.bx.cells
    have HBL : Hid (∀ W, Below w4.heap.size w4 W → Calls Tryz.prog 132 #[.slice kA kn kc] W (Ans (.agg #[.int .i64 5, .int .i64 0, .string kb]) W)) := Lib.hid fun W hb => HBK.out W (HV.out.bx.bel.trans (hb.mono HV.out.bx.bel.size))
    go_upto_region 3 with fail
    rw [← HW4.out]
    go_upto_region 10 with fail
    go_region_law (first
      | (go_simp; go_at_call 132; refine (HBL.out _ (by first | exact Below.refl _ _ | exact drew_below _ | exact drewN_below _ _)).mono ?_; rintro e w3 ⟨rfl, hb⟩
         have HV3 := Lib.hid (by first | exact HV.out.below hb | exact HV.out.below (below_drew hb) | exact (HV.out.below (drewN_below _ _)).below hb)
         obtain ⟨A5, c5, w5, hrun, HN⟩ := vl_app (sb := sb) HV3.out.row HV3.out.ge (by have := (Array.getElem?_eq_some_iff.1 HV3.out.pcs).1; omega) kb
         obtain ⟨x0, x1, x2, x3, x4⟩ := HV3.out.bx.cells
         clear hb))
    all_goals
      obtain ⟨g5, hr5, hg5, hO5, hg5b⟩ := HN.out
      have hp5 : w5.heap[w2.heap.size + 1]? = some (.cells #[.slice none 0 0] 159 (0, 0)) := (hO5.block _ (Array.getElem?_eq_some_iff.1 HV3.out.pcs).1 (by omega)).trans HV3.out.pcs
      have y0 : w5.cell? ⟨w2.heap.size + 1, 0, none⟩ = some (.slice none 0 0) := by simp [World.cell?, hp5]
      have hq5 : w.heap.size < w5.heap.size := by have := hO5.size; have := HV3.out.bx.lt; omega
      have HR5 := Lib.hid hr5
      have HF5 : Hid (Below w.heap.size w w5) := Lib.hid (HV3.out.bx.bel.trans (hO5.below HV3.out.bx.bel.size (fun j e => by have := HV3.out.ge; omega)))
      have HG5 := Lib.hid hg5
      clear hr5 hO5 hg5b hp5
      go_wp2_with (first
        | (at_builtin
           refine wpList_appHCn (n := 4) (m := 0) (C := 0) (ys := []) (by rfl) _ _ 159 184 (by rfl) Tryz.underlying159 HI.out.1 HI.out.2.1 HI.out.2.2.1 HI.out.2.2.2 (by rfl) (by omega) (by rfl) HR5.out hq5 (by rfl) (by rfl) (fun h => absurd rfl h) (fun u hu => by simp at hu) (by omega) (by omega) ?_
           intro g6 v6 w6 ho6 hO6 hg6
           rw [List.append_nil] at ho6
           have HY : Hid (VlT w [numV 2, numV n, ⟨4, 0, sb⟩, ⟨5, 0, kb⟩] (.returned v6) w6) := Lib.hid (by
             obtain ⟨A6, c6, rfl, _, _⟩ := ho6.slice
             exact ⟨A6, c6, rfl, ho6.rdV.2, HF5.out.trans (hO6.below HF5.out.size (fun j hj => by have := HG5.out; omega))⟩)
           clear ho6 hO6 hg6))
      go_ret
      exact HY.out
end
end Go.Proofs.YtkohppalfcalbaaGreat

/- NumberBack: the law's own body answers true. -/
import Derived.Test.YtdbbnpihmibalaaDoorNV
import Derived.Test.YtdbbnpihmibalaaDoorNH
import Derived.Deep.CutBlock
namespace Go.Proofs.YtdbbnpihmibalaaDoor
open Go.RowKit
attribute [local go_sem ↓] eqV

theorem eqB_one (k n : Int) : eqB k n ⟨#[]⟩ k n ⟨#[]⟩ = true := by unfold eqB; simp
/-- the kind that a truth says -/
def kd (d : Bool) : Int := if d then 3 else 2
theorem kd_23 (d : Bool) : kd d = 2 ∨ kd d = 3 := by cases d; exact .inl rfl; exact .inr rfl
theorem term_23 {k : Int} (h : k = 2 ∨ k = 3) (n : Int) : termP k n := by rcases h with h | h; exact .inl h; exact .inr (.inl h)
/-- Reckon, where it refuses -/
def RkB (w : World) (e : Ending) (w' : World) : Prop := ∃ N : Nat, e = .returned (.tuple #[.agg #[.int .i64 0, .int .i64 0, .string ⟨#[]⟩], .iface 80 (.pointer (some ⟨N, 0, none⟩))]) ∧ Below w.heap.size w w'
def RkG (k n : Int) (w : World) (e : Ending) (w' : World) : Prop := e = .returned (.tuple #[.agg #[.int .i64 k, .int .i64 n, .string ⟨#[]⟩], .nilIface]) ∧ Below w.heap.size w w'
theorem reckon_good2 {op k n j m q z : Int} (h : reckonN op k n j m = .ok q z) (hk : k = 2 ∨ k = 3) (hj : j = 2 ∨ j = 3) (hn : i64ok n) (hm : i64ok m) (w : World) :
    Calls Tryd.prog 15 #[.int .i64 op, .agg #[.int .i64 k, .int .i64 n, .string ⟨#[]⟩], .agg #[.int .i64 j, .int .i64 m, .string ⟨#[]⟩]] w (RkG q z w) := reckon_ok h (term_23 hk n) (term_23 hj m) hn hm w
theorem reckon_bad2 {op k n j m c p : Int} (h : reckonN op k n j m = .bad c p) (hk : k = 2 ∨ k = 3) (hj : j = 2 ∨ j = 3) (hn : i64ok n) (hm : i64ok m) (w : World) :
    Calls Tryd.prog 15 #[.int .i64 op, .agg #[.int .i64 k, .int .i64 n, .string ⟨#[]⟩], .agg #[.int .i64 j, .int .i64 m, .string ⟨#[]⟩]] w (RkB w) := by
  have hr := reckon_any op k n j m (term_23 hk n) (term_23 hj m) hn hm w
  rw [h] at hr
  refine hr.mono ?_
  rintro e w' ⟨hb, v, he, N, hv, _⟩
  subst hv
  exact ⟨N, he, hb⟩
set_option maxRecDepth 100000 in
theorem neg_good (k n z : Int) (h : reckonN 5 k n 2 (-1) = .ok k z) (hk : k = 2 ∨ k = 3) (hn : i64ok n) (w : World) : Calls Tryd.prog 16 #[.agg #[.int .i64 k, .int .i64 n, .string ⟨#[]⟩]] w (RkG k z w) := by
  have HR := Lib.hid (reckon_good2 h hk (.inl rfl) hn (by unfold i64ok; omega))
  have HW := Lib.hid (alloc2_below w (.cells #[.int .i64 k, .int .i64 n, .string ⟨#[]⟩] 25) (.cells #[.int .i64 0, .int .i64 0, .string ⟨#[]⟩] 25))
  have HX : Hid (((w.alloc (.cells #[.int .i64 k, .int .i64 n, .string ⟨#[]⟩] 25)).alloc (.cells #[.int .i64 0, .int .i64 0, .string ⟨#[]⟩] 25)).heap[w.heap.size + 1]? = some (.cells #[.int .i64 0, .int .i64 0, .string ⟨#[]⟩] 25 (0, 0))) := Lib.hid (by rw [heap_at, if_pos (by simp)])
  clear h hk hn
  go_enter Tryd.func16, Tryd.ntmps16
  go_wp2_with (go_at_call 15; refine (HR.out _).mono ?_; rintro e w2 ⟨rfl, hb⟩
               have hx := (hb.block (w.heap.size + 1) (by simp)).trans HX.out
               obtain ⟨r0, r1, r2⟩ := box3 hx
               have z0 := frozen3 hx 0
               have z1 := frozen3 hx 1
               have z2 := frozen3 hx 2
               have HL := Lib.hid (HW.out.trans (hb.mono HW.out.size))
               clear hb hx)
  exact bodyPost_ret (v := .tuple #[.agg #[.int .i64 k, .int .i64 z, .string ⟨#[]⟩], .nilIface]) (by simp [results, Tryd.results16, go_sem, r0, r1, r2]) rfl ⟨rfl, set3_below0 HL.out (by omega) _ _ _⟩
set_option maxRecDepth 100000 in
theorem neg_bad2 (k n c p : Int) (h : reckonN 5 k n 2 (-1) = .bad c p) (hk : k = 2 ∨ k = 3) (hn : i64ok n) (w : World) : Calls Tryd.prog 16 #[.agg #[.int .i64 k, .int .i64 n, .string ⟨#[]⟩]] w (RkB w) := by
  have HR := Lib.hid (reckon_bad2 h hk (.inl rfl) hn (by unfold i64ok; omega))
  have HW := Lib.hid (alloc2_below w (.cells #[.int .i64 k, .int .i64 n, .string ⟨#[]⟩] 25) (.cells #[.int .i64 0, .int .i64 0, .string ⟨#[]⟩] 25))
  have HX : Hid (((w.alloc (.cells #[.int .i64 k, .int .i64 n, .string ⟨#[]⟩] 25)).alloc (.cells #[.int .i64 0, .int .i64 0, .string ⟨#[]⟩] 25)).heap[w.heap.size + 1]? = some (.cells #[.int .i64 0, .int .i64 0, .string ⟨#[]⟩] 25 (0, 0))) := Lib.hid (by rw [heap_at, if_pos (by simp)])
  clear h hk hn
  go_enter Tryd.func16, Tryd.ntmps16
  go_wp2_with (go_at_call 15; refine (HR.out _).mono ?_; rintro e w2 ⟨N, rfl, hb⟩
               have hx := (hb.block (w.heap.size + 1) (by simp)).trans HX.out
               obtain ⟨r0, r1, r2⟩ := box3 hx
               have z0 := frozen3 hx 0
               have z1 := frozen3 hx 1
               have z2 := frozen3 hx 2
               have HL := Lib.hid (HW.out.trans (hb.mono HW.out.size))
               clear hb hx)
  exact bodyPost_ret (v := .tuple #[.agg #[.int .i64 0, .int .i64 0, .string ⟨#[]⟩], .iface 80 (.pointer (some ⟨N, 0, none⟩))]) (by simp [results, Tryd.results16, go_sem, r0, r1, r2]) rfl ⟨N, rfl, set3_below0 HL.out (by omega) _ _ _⟩
/-- the two numbers in their boxes -/
structure BkS (w : World) (bx bz : Nat) (k j a b : Int) (wx : World) : Prop where
  x : wx.heap[bx]? = some (.cells #[.int .i64 k, .int .i64 a, .string ⟨#[]⟩] 25 (0, 0))
  y : wx.heap[bz]? = some (.cells #[.int .i64 j, .int .i64 b, .string ⟨#[]⟩] 25 (0, 0))
  bel : Below w.heap.size w wx
  ne : bx ≠ bz
  ge : w.heap.size ≤ bx ∧ w.heap.size ≤ bz
section
variable {w wx wz : World} {bx bz : Nat} {k j a b : Int}
theorem BkS.lt (h : BkS w bx bz k j a b wx) : bx < wx.heap.size ∧ bz < wx.heap.size := ⟨(Array.getElem?_eq_some_iff.1 h.x).1, (Array.getElem?_eq_some_iff.1 h.y).1⟩
theorem BkS.next (h : BkS w bx bz k j a b wx) (hb : Below wx.heap.size wx wz) : BkS w bx bz k j a b wz :=
  ⟨(hb.block _ h.lt.1).trans h.x, (hb.block _ h.lt.2).trans h.y, h.bel.trans (hb.mono h.bel.size), h.ne, h.ge⟩
theorem BkS.start {w1 w2 : World} (h1 : Below w.heap.size w w1) (h2 : Below (w1.alloc (.cells #[.int .i64 k, .int .i64 a, .string ⟨#[]⟩] 25)).heap.size (w1.alloc (.cells #[.int .i64 k, .int .i64 a, .string ⟨#[]⟩] 25)) w2) : BkS w w1.heap.size w2.heap.size k j a b (w2.alloc (.cells #[.int .i64 j, .int .i64 b, .string ⟨#[]⟩] 25)) := by
  have s1 := h1.size
  have s2 := h2.size
  simp at s2
  refine ⟨?_, heap_alloc_new w2 _, ((h1.trans ((alloc_below w1 _).mono s1)).trans (h2.mono (by simp; omega))).trans ((alloc_below w2 _).mono (by omega)), by omega, by omega⟩
  rw [heap_at, if_neg (by omega), h2.block _ (by simp)]
  exact heap_alloc_new w1 _
theorem heap_set3 {W : World} {g : Nat} {x y z u v t : Value} {ty : TypeId} (h : W.heap[g]? = some (.cells #[x, y, z] ty (0, 0))) : (((W.setCell ⟨g, 0, none⟩ u).setCell ⟨g, 1, none⟩ v).setCell ⟨g, 2, none⟩ t).heap[g]? = some (.cells #[u, v, t] ty (0, 0)) := by
  simp [World.setCell, Array.getElem?_modify, h]
theorem heap_set3_ne {W : World} {g m : Nat} (hne : g ≠ m) (u v t : Value) : (((W.setCell ⟨g, 0, none⟩ u).setCell ⟨g, 1, none⟩ v).setCell ⟨g, 2, none⟩ t).heap[m]? = W.heap[m]? := by
  simp [World.setCell, Array.getElem?_modify, hne]
theorem BkS.setx (h : BkS w bx bz k j a b wx) (k2 a2 : Int) : BkS w bx bz k2 j a2 b (((wx.setCell ⟨bx, 0, none⟩ (.int .i64 k2)).setCell ⟨bx, 1, none⟩ (.int .i64 a2)).setCell ⟨bx, 2, none⟩ (.string ⟨#[]⟩)) :=
  ⟨heap_set3 h.x, by rw [heap_set3_ne h.ne]; exact h.y, set3_below0 h.bel h.ge.1 _ _ _, h.ne, h.ge⟩
theorem BkS.sety (h : BkS w bx bz k j a b wx) (j2 b2 : Int) : BkS w bx bz k j2 a b2 (((wx.setCell ⟨bz, 0, none⟩ (.int .i64 j2)).setCell ⟨bz, 1, none⟩ (.int .i64 b2)).setCell ⟨bz, 2, none⟩ (.string ⟨#[]⟩)) :=
  ⟨by rw [heap_set3_ne (fun e => h.ne e.symm)]; exact h.x, heap_set3 h.y, set3_below0 h.bel h.ge.2 _ _ _, h.ne, h.ge⟩
end
end Go.Proofs.YtdbbnpihmibalaaDoor

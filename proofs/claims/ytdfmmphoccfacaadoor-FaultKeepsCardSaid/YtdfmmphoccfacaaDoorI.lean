/- The document Join answers both lists one behind the other and the greater depth, for lists below 400000. -/
import Derived.Test.YtdfmmphoccfacaaDoorH
import Derived.Deep.CutRange
import Derived.Deep.DeepCutAuto
namespace Go.Proofs.YtdfmmphoccfacaaDoor
open Go.RowKit Go.Extern.Stop Go.Stop Go.Extern

theorem own_apart {w : World} {B C n m s t : Nat} {e e' : TypeId} {v u : Value} {xs ys : List Value} (h : w.ownsRow B e s v n xs) (k : w.ownsRow C e' t u m ys) (he : e ≠ e') : v.ownBlock = none ∨ v.ownBlock ≠ u.ownBlock := by
  rcases k.2 with ⟨rfl, _⟩ | ⟨g, cap, cur, rfl, _, hh, _⟩
  · cases hv : v.ownBlock
    · exact .inl rfl
    · exact .inr (by simp [Value.ownBlock])
  · exact .inr (own_ne h hh he)
theorem lit_kept {w w2 : World} {B n : Nat} {e e' : TypeId} {v : Value} {xs : List Value} {c : Array Value} (o : w.ownsRow B e 1 v n xs) (he : e ≠ e') (g : (w.alloc (.cells c e')).grownBy w2 v.ownBlock) : w2.heap[w.heap.size]? = some (.cells c e' (0, 0)) :=
  (g.block _ (by simp) (own_ne (o.alloc (.cells c e')) (heap_new _ _) he).symm).trans (heap_new _ _)
theorem cell_past_drew (w : World) (o : Obj) (a : Addr) (h : a.block < w.heap.size) : (w.alloc o).drew.cell? a = w.drew.cell? a := by show (w.alloc o).cell? a = w.cell? a; exact World.cell?_alloc_lt _ _ a h
theorem cell3_far (w : World) (b : Nat) (x y z : Value) (a : Addr) (h : b ≠ a.block) : (((w.setCell ⟨b, 0, none⟩ x).setCell ⟨b, 1, none⟩ y).setCell ⟨b, 2, none⟩ z).cell? a = w.cell? a := by
  rw [World.cell?_setCell_far _ _ _ _ h, World.cell?_setCell_far _ _ _ _ h, World.cell?_setCell_far _ _ _ _ h]
theorem lst_end' {w : World} {B b n : Nat} {e : TypeId} {v : Value} {l k : List Int} {c : Array Value} {fr : Nat × Nat} (h : w.ownsRow B e 1 v n ([] ++ vals l ++ vals k)) (hz : w.heap[b]? = some (.cells c 33 fr)) (he : e ≠ 33) (x y z : Value) :
    Lst (((w.setCell ⟨b, 0, none⟩ x).setCell ⟨b, 1, none⟩ y).setCell ⟨b, 2, none⟩ z) e v (vals (l ++ k)) := by
  have h1 := h.kept (grown3 w b x y z) (.inr (own_ne h hz he))
  have hv : [] ++ vals l ++ vals k = vals (l ++ k) := by simp [vals]
  rw [hv] at h1
  have hn : n = (vals (l ++ k)).length := by have := h1.1; simp at this ⊢; omega
  subst hn
  exact ⟨⟨h1.1, h1.2.imp id fun ⟨g, cap, cur, a1, _, a3⟩ => ⟨g, cap, cur, a1, Nat.zero_le _, a3⟩⟩, vals_one _⟩

def JEnd (w : World) (A P C D : List Int) (r : Int) (wx : World) : Prop := ∃ pa l c pb l' c', wx.cell? ⟨w.heap.size + 2, 0, none⟩ = some (.slice pa l c) ∧ wx.cell? ⟨w.heap.size + 2, 1, none⟩ = some (.slice pb l' c') ∧ wx.cell? ⟨w.heap.size + 2, 2, none⟩ = some (.int .i64 r) ∧
  Lst wx 23 (.slice pa l c) (vals (A ++ C)) ∧ Lst wx 3 (.slice pb l' c') (vals (P ++ D)) ∧ Below w.heap.size w wx
def JPost (w : World) (A P C D : List Int) (r : Int) (e : Ending) (w' : World) : Prop := ∃ v1 v2, e = .returned (.agg #[v1, v2, .int .i64 r]) ∧ Lst w' 23 v1 (vals (A ++ C)) ∧ Lst w' 3 v2 (vals (P ++ D)) ∧ Below w.heap.size w w'
theorem three_cells {w : World} {b : Nat} {t : TypeId} {u0 u1 u2 : Value} (h : w.heap[b]? = some (.cells #[u0, u1, u2] t (0, 0))) (x y z : Value) : (((w.setCell ⟨b, 0, none⟩ x).setCell ⟨b, 1, none⟩ y).setCell ⟨b, 2, none⟩ z).heap[b]? = some (.cells #[x, y, z] t (0, 0)) := by
  simp [World.setCell, Array.getElem?_modify, h]
theorem j_end {w w4 : World} {A P C D : List Int} {r : Int} {pa pb : Option Addr} {l c l' c' n m : Nat} (z4 : w4.heap[w.heap.size + 2]? = some (.cells #[.slice none 0 0, .slice none 0 0, .int .i64 0] 33 (0, 0))) (o1 : w4.ownsRow (w.heap.size + 3) 23 1 (.slice pa l c) n ([] ++ vals A ++ vals C)) (o2 : w4.ownsRow (w.heap.size + 3) 3 1 (.slice pb l' c') m ([] ++ vals P ++ vals D)) (b4 : Below w.heap.size w w4) :
    JEnd w A P C D r (((w4.setCell ⟨w.heap.size + 2, 0, none⟩ (.slice pa l c)).setCell ⟨w.heap.size + 2, 1, none⟩ (.slice pb l' c')).setCell ⟨w.heap.size + 2, 2, none⟩ (.int .i64 r)) := by
  have h := three_cells z4 (.slice pa l c) (.slice pb l' c') (.int .i64 r)
  exact ⟨pa, l, c, pb, l', c', by simp [World.cell?, h], by simp [World.cell?, h], by simp [World.cell?, h], lst_end' o1 z4 (by decide) _ _ _, lst_end' o2 z4 (by decide) _ _ _, ((b4.setCell (by simp) _).setCell (by simp) _).setCell (by simp) _⟩

set_option maxHeartbeats 8000000 in
theorem refJoin_r (A P C D : List Int) (d f : Int) (w : World) (aa ap ba bp : Option Addr) (na ca ma cq nb cb mb cr : Nat)
    (HA : Hid (Lst w 23 (.slice aa na ca) (vals A))) (HP : Hid (Lst w 3 (.slice ap ma cq) (vals P))) (HC : Hid (Lst w 23 (.slice ba nb cb) (vals C))) (HD : Hid (Lst w 3 (.slice bp mb cr) (vals D)))
    (HN : Hid (A.length < 400000 ∧ P.length < 400000 ∧ C.length < 400000 ∧ D.length < 400000)) (r : Int) (HRR : Hid (r = if d < f then f else d)) :
    Calls Tryd.prog 24 #[.agg #[.slice aa na ca, .slice ap ma cq, .int .i64 d], .agg #[.slice ba nb cb, .slice bp mb cr, .int .i64 f]] w (JPost w A P C D r) := by
  have B1 : Hid (0 + (vals A).length ≤ maxLen ∧ (0 + (vals A).length) * 8 ≤ 140737488355328) := by
    rw [vals_len]; have := HN.out; unfold maxLen; exact ⟨by omega, by omega⟩
  have B2 : Hid (0 + (vals A).length + (vals C).length ≤ maxLen ∧ (0 + (vals A).length + (vals C).length) * 8 ≤ 140737488355328) := by
    rw [vals_len, vals_len]; have := HN.out; unfold maxLen; exact ⟨by omega, by omega⟩
  have B3 : Hid (0 + (vals P).length ≤ maxLen ∧ (0 + (vals P).length) * 8 ≤ 140737488355328) := by
    rw [vals_len]; have := HN.out; unfold maxLen; exact ⟨by omega, by omega⟩
  have B4 : Hid (0 + (vals P).length + (vals D).length ≤ maxLen ∧ (0 + (vals P).length + (vals D).length) * 8 ≤ 140737488355328) := by
    rw [vals_len, vals_len]; have := HN.out; unfold maxLen; exact ⟨by omega, by omega⟩
  · go_enter Tryd.func24, Tryd.ntmps24
    go_wp2_with fail
    go_cut [] from 5 to 24 (fun wx => JEnd w A P C D r wx)
    case first =>
     go_region_held3 (fun w' => w'.cell? ⟨w.heap.size, 0, none⟩ = some (.slice aa na ca) ∧ w'.cell? ⟨w.heap.size, 1, none⟩ = some (.slice ap ma cq) ∧ w'.cell? ⟨w.heap.size, 2, none⟩ = some (.int .i64 d) ∧
         w'.cell? ⟨w.heap.size + 1, 0, none⟩ = some (.slice ba nb cb) ∧ w'.cell? ⟨w.heap.size + 1, 1, none⟩ = some (.slice bp mb cr) ∧ w'.cell? ⟨w.heap.size + 1, 2, none⟩ = some (.int .i64 f))
       (first
         | (go_split_ands; refine ⟨?_, ?_, ?_, ?_, ?_, ?_⟩ <;> (rw [cell3_far _ _ _ _ _ _ (by simp <;> omega)]; assumption))
         | (go_split_ands; refine ⟨?_, ?_, ?_, ?_, ?_, ?_⟩ <;> (refine (cell_past_drew _ _ _ (by simp <;> omega)).trans ?_; assumption))
         | go_keep
         | (go_split_ands
            refine ⟨?_, ?_, ?_, ?_, ?_, ?_⟩ <;> first
              | (rw [g4.cell_far _ (by first | omega | (simp; omega)) (fun e => by have h := (o3.lt _ e.symm).1; simp at h <;> omega)]; assumption)
              | (rw [g4.cell_far _ (by first | omega | (simp; omega)) (fun e => by have := (o3.lt _ e.symm).1; omega)]; assumption)
              | (rw [g3.cell_far _ (by first | omega | (simp; omega)) (by simp [Value.ownBlock] <;> omega)]; assumption)
              | (rw [g2.cell_far _ (by first | omega | (simp; omega)) (fun e => by have h := (o1.lt _ e.symm).1; simp at h <;> omega)]; assumption)
              | (rw [g2.cell_far _ (by first | omega | (simp; omega)) (fun e => by have := (o1.lt _ e.symm).1; omega)]; assumption)
              | (rw [g1.cell_far _ (by simp; try omega) (by simp [Value.ownBlock] <;> omega)]; assumption)
              | go_keep))
       (first
         | (refine step_app (by rfl) _ _ 30 (by rfl) (w.heap.size + 3) 23 (.int .i64 0) 8 Tryd.underlying30 info23 rfl (.slice (some ⟨_, 0, none⟩) 0 0) 0 [] (by rfl) (own_lit (cs := #[]) (by simp only [drew_heap, heap_at, World.size_alloc] <;> simp) (by simp) rfl (by omega)) _ (vals A) (by rfl) (HA.out.below (by go_grown)) B1.out.1 B1.out.2 (by simp; try omega) ?_; intro pa1 l1 c1 w1 o1 g1
            have s1 : w.heap.size + 4 ≤ w1.heap.size := by have := g1.size; simp at this; omega
            have b1 : Below w.heap.size w w1 := Below.grown (by go_grown) g1 (by simp; try omega) (by simp [Value.ownBlock] <;> omega)
            have z1 : w1.heap[w.heap.size + 2]? = some (.cells #[.slice none 0 0, .slice none 0 0, .int .i64 0] 33 (0, 0)) := by
              rw [g1.block _ (by simp) (by simp [Value.ownBlock])]; simp only [drew_heap, heap_at, World.size_alloc] <;> simp
            first
              | have y1 : w1.heap[w.heap.size + 3]? = some (.cells #[] 3 (0, 0)) := by
                  rw [g1.block _ (by simp) (by simp [Value.ownBlock])]; (simp only [drew_heap, heap_at, World.size_alloc] <;> simp); done
              | have y1 : w1.heap[w.heap.size + 4]? = some (.cells #[] 3 (0, 0)) := by
                  rw [g1.block _ (by simp) (by simp [Value.ownBlock])]; (simp only [drew_heap, heap_at, World.size_alloc] <;> simp); done
              | skip)
         | (refine step_app (by rfl) _ _ 30 (by rfl) (w.heap.size + 3) 23 (.int .i64 0) 8 Tryd.underlying30 info23 rfl (.slice pa1 l1 c1) (0 + (vals A).length) ([] ++ vals A) (by rfl) (by first | exact o1 | exact o1.alloc _) _ (vals C) (by rfl) (HC.out.below (by go_grown)) B2.out.1 B2.out.2 (by first | omega | (simp; omega)) ?_; intro pa2 l2 c2 w2 o2 g2
            have s2 : w1.heap.size ≤ w2.heap.size := by have := g2.size; first | omega | (simp at this; omega)
            have b2 : Below w.heap.size w w2 := Below.grown (by go_grown) g2 (by first | omega | (simp; omega)) (fun k hk => by have := (o1.lt k hk).1; omega)
            have z2 : w2.heap[w.heap.size + 2]? = some (.cells #[.slice none 0 0, .slice none 0 0, .int .i64 0] 33 (0, 0)) := by
              rw [g2.block _ (by first | omega | (simp; omega)) (fun e => by have := (o1.lt _ e.symm).1; omega)]
              first
                | exact z1
                | (rw [heap_at, if_neg (by omega)]; exact z1)
            first
              | have y2 := lit_kept o1 (by decide) g2
              | have y2 := (g2.block _ (Array.getElem?_eq_some_iff.1 y1).1 (own_ne o1 y1 (by decide)).symm).trans y1
              | skip)
         | (refine step_app (by rfl) _ _ 31 (by rfl) (w.heap.size + 3) 3 (.int .i64 0) 8 Tryd.underlying31 info3 rfl (.slice (some ⟨_, 0, none⟩) 0 0) 0 [] (by rfl) (own_lit (cs := #[]) (by first | exact y2 | exact heap_new _ _) (by first | omega | (simp; omega)) rfl (by omega)) _ (vals P) (by rfl) (HP.out.below (by go_grown)) B3.out.1 B3.out.2 (by first | omega | (simp; omega)) ?_; intro pa3 l3 c3 w3 o3 g3
            have s3 : w2.heap.size ≤ w3.heap.size := by have := g3.size; first | omega | (simp at this; omega)
            have b3 : Below w.heap.size w w3 := Below.grown (by go_grown) g3 (by first | omega | (simp; omega)) (by simp [Value.ownBlock] <;> omega)
            have z3 : w3.heap[w.heap.size + 2]? = some (.cells #[.slice none 0 0, .slice none 0 0, .int .i64 0] 33 (0, 0)) := by
              rw [g3.block _ (by first | omega | (simp; omega)) (by simp [Value.ownBlock] <;> omega)]
              first
                | exact z2
                | (rw [heap_at, if_neg (by omega)]; exact z2)
            have o23 : w3.ownsRow (w.heap.size + 3) 23 1 (.slice pa2 l2 c2) (0 + (vals A).length + (vals C).length) ([] ++ vals A ++ vals C) := by
              first
                | exact own_new o2 (by decide) g3
                | exact own_later o2 y2 (by decide) g3)
         | (refine step_app (by rfl) _ _ 31 (by rfl) (w.heap.size + 3) 3 (.int .i64 0) 8 Tryd.underlying31 info3 rfl (.slice pa3 l3 c3) (0 + (vals P).length) ([] ++ vals P) (by rfl) o3 _ (vals D) (by rfl) (HD.out.below (by go_grown)) B4.out.1 B4.out.2 (by first | omega | (simp; omega)) ?_; intro pa4 l4 c4 w4 o4 g4
            have s4 : w3.heap.size ≤ w4.heap.size := g4.size
            have b4 : Below w.heap.size w w4 := Below.grown (by go_grown) g4 (by first | omega | (simp; omega)) (fun k hk => by have := (o3.lt k hk).1; omega)
            have z4 : w4.heap[w.heap.size + 2]? = some (.cells #[.slice none 0 0, .slice none 0 0, .int .i64 0] 33 (0, 0)) := (g4.block _ (by first | omega | (simp; omega)) (fun e => by have := (o3.lt _ e.symm).1; omega)).trans z3
            have o24 := o23.kept g4 (own_apart o23 o3 (by decide))
            have HN : Hid (∀ r', r' = (if d < f then f else d) → JEnd w A P C D r (((w4.setCell ⟨w.heap.size + 2, 0, none⟩ (.slice pa2 l2 c2)).setCell ⟨w.heap.size + 2, 1, none⟩ (.slice pa4 l4 c4)).setCell ⟨w.heap.size + 2, 2, none⟩ (.int .i64 r'))) := fun r' hr => by obtain rfl : r' = r := hr.trans HRR.out.symm; exact j_end z4 o24 o4 b4
            have q0 : w4.cell? ⟨w.heap.size + 2, 0, none⟩ = some (.slice none 0 0) := by simp [World.cell?, z4]
            have q1 : w4.cell? ⟨w.heap.size + 2, 1, none⟩ = some (.slice none 0 0) := by simp [World.cell?, z4]
            have q2 : w4.cell? ⟨w.heap.size + 2, 2, none⟩ = some (.int .i64 0) := by simp [World.cell?, z4]
            have q3 : w4.frozen? ⟨w.heap.size + 2, 0, none⟩ = false := by simp [World.frozen?, z4]
            have q4 : w4.frozen? ⟨w.heap.size + 2, 1, none⟩ = false := by simp [World.frozen?, z4]
            have q5 : w4.frozen? ⟨w.heap.size + 2, 2, none⟩ = false := by simp [World.frozen?, z4]))
     all_goals
       go_wp2_with fail
       all_goals
         go_meet
         exact HN.out _ (by first | rfl | exact (if_pos (by omega)).symm | exact (if_neg (by omega)).symm | (split <;> omega))
    case rest =>
      obtain ⟨pa, l, c, pb, l', c', r0, r1, r2, e1, e2, e3⟩ := hcut
      have HR : Hid (JPost w A P C D r (.returned (.agg #[.slice pa l c, .slice pb l' c', .int .i64 r])) wc) := ⟨_, _, rfl, e1, e2, e3⟩
      clear e1 e2 e3
      go_wp2_with fail
      refine bodyPost_ret (v := .agg #[.slice pa l c, .slice pb l' c', .int .i64 r]) (by simp [results, Tryd.results24, go_sem, r0, r1, r2]) rfl ?_
      exact HR.out
theorem refJoin_go (A P C D : List Int) (d f : Int) (w : World) (aa ap ba bp : Option Addr) (na ca ma cq nb cb mb cr : Nat)
    (HA : Hid (Lst w 23 (.slice aa na ca) (vals A))) (HP : Hid (Lst w 3 (.slice ap ma cq) (vals P))) (HC : Hid (Lst w 23 (.slice ba nb cb) (vals C))) (HD : Hid (Lst w 3 (.slice bp mb cr) (vals D)))
    (HN : Hid (A.length < 400000 ∧ P.length < 400000 ∧ C.length < 400000 ∧ D.length < 400000)) :
    Calls Tryd.prog 24 #[.agg #[.slice aa na ca, .slice ap ma cq, .int .i64 d], .agg #[.slice ba nb cb, .slice bp mb cr, .int .i64 f]] w fun e w' => ∃ v1 v2, e = .returned (.agg #[v1, v2, .int .i64 (if d < f then f else d)]) ∧ Lst w' 23 v1 (vals (A ++ C)) ∧ Lst w' 3 v2 (vals (P ++ D)) ∧ Below w.heap.size w w' :=
  refJoin_r A P C D d f w aa ap ba bp na ca ma cq nb cb mb cr HA HP HC HD HN _ rfl
end Go.Proofs.YtdfmmphoccfacaaDoor

/- The document's New and Wrap answer the lists of codes and places, for lists below 900000. -/
import Derived.Test.YtdfmmphoccfacaaDoorG
import Derived.Laws.AppendOwnNone
import Derived.Laws.OwnMore
namespace Go.Proofs.YtdfmmphoccfacaaDoor
open Go.RowKit Go.Extern.Stop Go.Stop Go.Extern

/-- A LIST IN MEMORY, whoever owns it -/
def Lst (w : World) (te : TypeId) (v : Value) (xs : List Value) : Prop := w.ownsRow 0 te 1 v xs.length xs ∧ ∀ x ∈ xs, x.oneCell' = true

theorem add_plain (g j : Nat) : (⟨g, 0, none⟩ : Addr).add j = ⟨g, j, none⟩ := by unfold Addr.add; split <;> simp_all
theorem run_append_any {P : Program} {w : World} (t ty : TypeId) (base : Nat) (e : TypeId) (z : Value) (bytes : Nat) (ht : P.underlying t = some (.slice e))
    (hinfo : (P.info? e).map (fun i => (i.zero, i.size, i.bytes)) = some (some z, 1, bytes)) (hz1 : z.cells.size = 1)
    (v : Value) (n : Nat) (xs : List Value) (hown : w.ownsRow base e 1 v n xs) (u : Value) (news : List Value) (hu : Lst w e u news)
    (h63 : n + news.length ≤ maxLen) (hbytes : (n + news.length) * bytes ≤ 140737488355328) (hbase : base ≤ w.heap.size) :
    ∃ v' w', (Builtin.append_ #[t, t] ty #[v, u]).run P w = .ok v' w' ∧ w'.ownsRow base e 1 v' (n + news.length) (xs ++ news) ∧ w.grownBy w' v.ownBlock := by
  obtain ⟨i0, hi0, hz0, hs1, hs2⟩ := info_parts hinfo
  obtain ⟨⟨_, hcase⟩, h1⟩ := hu
  rcases hcase with ⟨rfl, hn⟩ | ⟨g, cap, cur, rfl, hg, hh, hl, hc, hsz, htk⟩
  · have : news = [] := List.length_eq_zero_iff.1 hn
    subst this
    have hrun := run_append_owned_none (P := P) (w := w) base t ty e i0 1 ht hi0 v n xs hown
    exact ⟨v, w, hrun, by simpa using hown, rfl, rfl, rfl, Nat.le_refl _, fun _ _ _ => rfl⟩
  · obtain ⟨v', w', a1, a2, a3, _⟩ := run_append_own (P := P) w base t ty e i0 z 1 bytes ht hi0 hz0 hs1 hs2 hz1 (by omega) v n xs hown ⟨g, 0, none⟩ news.length cap news (by simp)
      (fun j x hx => by
        rw [add_plain, cell_of_row w g j cur e (0, 0) hh]
        rw [← htk, List.getElem?_take] at hx
        split at hx
        · simpa using hx
        · cases hx) h1 h63 hbytes hbase
    exact ⟨v', w', a1, a2, a3⟩

theorem owned_slice {w : World} {base n s : Nat} {e : TypeId} {v : Value} {xs : List Value} (h : w.ownsRow base e s v n xs) : ∃ pa l c, v = .slice pa l c := by
  rcases h.2 with ⟨rfl, _⟩ | ⟨g, cap, cur, rfl, _⟩
  · exact ⟨_, _, _, rfl⟩
  · exact ⟨_, _, _, rfl⟩
theorem step_app {P : Program} {ops : Array Oper} {o : Oper} {a : Act} {w : World} {K : Act → World → Prop} {Q : Exit → Act → World → Prop} {E : Prop} (hgd : o.guard = none) (s x : Operand) (t : TypeId)
    (ho : o.op = .call { callee := .builtin .append, args := #[s, x], argTypes := #[t, t] })
    (base : Nat) (e : TypeId) (z : Value) (bytes : Nat) (ht : P.underlying t = some (.slice e))
    (hinfo : (P.info? e).map (fun i => (i.zero, i.size, i.bytes)) = some (some z, 1, bytes)) (hz1 : z.cells.size = 1)
    (v : Value) (n : Nat) (xs : List Value) (hs : a.eval s = v) (hown : w.ownsRow base e 1 v n xs) (u : Value) (news : List Value) (hx : a.eval x = u) (hu : Lst w e u news)
    (h63 : n + news.length ≤ maxLen) (hbytes : (n + news.length) * bytes ≤ 140737488355328) (hbase : base ≤ w.heap.size)
    (h : ∀ pa l c w', w'.ownsRow base e 1 (.slice pa l c) (n + news.length) (xs ++ news) → w.grownBy w' v.ownBlock → K (a.put o.dst (.slice pa l c)) w') :
    if Region.wanted o (yielded ops a.tmps) = true then Oper.wp P o a w K Q else E := by
  have hw : Region.wanted o (yielded ops a.tmps) = true := by simp [Region.wanted, hgd]
  rw [if_pos hw]
  obtain ⟨v', w', hrun, h1, h2⟩ := run_append_any (P := P) t o.type base e z bytes ht hinfo hz1 v n xs hown u news hu h63 hbytes hbase
  unfold Oper.wp
  simp [execOp, ho, resolve, invoke, builtin, hs, hx, hrun, Result.andThen]
  obtain ⟨pa, l, c, rfl⟩ := owned_slice h1
  exact h _ _ _ _ h1 h2

theorem own_lit {w : World} {B g k : Nat} {cs : Array Value} {e : TypeId} (h : w.heap[g]? = some (.cells cs e (0, 0))) (hB : B ≤ g) (hk : cs.size = k) (hm : k ≤ 1000000) : w.ownsRow B e 1 (.slice (some ⟨g, 0, none⟩) k k) k cs.toList :=
  ⟨by simp [hk], .inr ⟨g, k, cs, rfl, hB, h, Nat.le_refl _, by unfold maxLen; omega, by omega, List.take_of_length_le (by simp [hk])⟩⟩
theorem own_ne {w : World} {B g n s : Nat} {v : Value} {xs : List Value} {e e' : TypeId} {c : Array Value} {fr : Nat × Nat} (h : w.ownsRow B e s v n xs) (hg : w.heap[g]? = some (.cells c e' fr)) (he : e ≠ e') : v.ownBlock ≠ some g := by
  rcases h.2 with ⟨rfl, _⟩ | ⟨g', cap, cur, rfl, _, hh, _⟩
  · simp [Value.ownBlock]
  · intro h
    simp [Value.ownBlock] at h
    subst h
    rw [hh] at hg
    simp at hg
    exact he hg.2.1
theorem Lst.kept {w w' : World} {te : TypeId} {v : Value} {xs : List Value} {row : Option Nat} (h : Lst w te v xs) (hg : w.grownBy w' row) (hne : v.ownBlock = none ∨ v.ownBlock ≠ row) : Lst w' te v xs := ⟨h.1.kept hg hne, h.2⟩
theorem Lst.below {w w' : World} {te : TypeId} {v : Value} {xs : List Value} (h : Lst w te v xs) (hb : Below w.heap.size w w') : Lst w' te v xs := h.kept (grownBy_below (row := none) hb) (by cases hv : v.ownBlock <;> simp)

/-- THE DOCUMENT's ANSWER in memory -/
def RefIs (w : World) (v : Value) (cs ps : List Int) (d : Nat) : Prop := ∃ vc vp, v = .agg #[vc, vp, .int .i64 (d : Int)] ∧ Lst w 23 vc (vals cs) ∧ Lst w 3 vp (vals ps)
theorem RefIs.below {w w' : World} {v : Value} {cs ps : List Int} {d : Nat} (h : RefIs w v cs ps d) (hb : Below w.heap.size w w') : RefIs w' v cs ps d := by
  obtain ⟨vc, vp, rfl, h1, h2⟩ := h
  exact ⟨vc, vp, rfl, h1.below hb, h2.below hb⟩
/-- what the document's functions leave -/
def RefMade (w : World) (cs ps : List Int) (d : Nat) : Ending → World → Prop := fun e w' => ∃ v, e = .returned v ∧ RefIs w' v cs ps d ∧ Below w.heap.size w w'
theorem vals_len (l : List Int) : (vals l).length = l.length := by simp [vals]
theorem vals_one (l : List Int) : ∀ x ∈ vals l, x.oneCell' = true := by
  intro x hx
  obtain ⟨a, _, rfl⟩ := List.mem_map.1 hx
  rfl
theorem Lst.nil (w : World) (te : TypeId) : Lst w te (.slice none 0 0) [] := ⟨World.ownsRow_nil _ _ _ _, by simp⟩
theorem Lst.lit {w : World} {g : Nat} {c : Int} {te : TypeId} (h : w.heap[g]? = some (.cells #[.int .i64 c] te (0, 0))) : Lst w te (.slice (some ⟨g, 0, none⟩) 1 1) (vals [c]) :=
  ⟨own_lit h (Nat.zero_le _) (by simp) (by omega), vals_one _⟩

theorem heap_at (w : World) (o : Obj) (k : Nat) : (w.alloc o).heap[k]? = if k = w.heap.size then some o else w.heap[k]? := by
  show (w.heap.push o)[k]? = _
  rw [Array.getElem?_push]

theorem drew_heap (w : World) : w.drew.heap = w.heap := rfl

theorem refNew_any (c p : Int) (w : World) : Calls Tryd.prog 22 #[.int .i64 c, .int .i64 p] w (RefMade w (newT 0 c p).codes (newT 0 c p).places (newT 0 c p).deep) := by
  by_cases h : c = 0
  · subst h
    have HR : Hid (∀ w', Below w.heap.size w w' → Hid (RefMade w (newT 0 0 p).codes (newT 0 0 p).places (newT 0 0 p).deep (.returned (.agg #[.slice none 0 0, .slice none 0 0, .int .i64 0])) w')) :=
      fun w' hb => ⟨_, rfl, ⟨_, _, rfl, Lst.nil _ _, Lst.nil _ _⟩, hb⟩
    have HB : Hid (Below w.heap.size w w) := Below.refl _ _
    go_enter Tryd.func22, Tryd.ntmps22
    go_wp2
    go_returns
    refine HR.out _ ?_
    go_grown
  · have HR : Hid (∀ w' g g', Below w.heap.size w w' → w'.heap[g]? = some (.cells #[.int .i64 c] 23 (0, 0)) → w'.heap[g']? = some (.cells #[.int .i64 p] 3 (0, 0)) → Hid (RefMade w (newT 0 c p).codes (newT 0 c p).places (newT 0 c p).deep (.returned (.agg #[.slice (some ⟨g, 0, none⟩) 1 1, .slice (some ⟨g', 0, none⟩) 1 1, .int .i64 1])) w')) :=
      fun w' g g' hb h1 h2 => by
        simp only [newT, if_neg h, Tree.codes, Tree.places, Tree.deep]
        exact ⟨_, rfl, ⟨_, _, rfl, Lst.lit h1, Lst.lit h2⟩, hb⟩
    go_enter Tryd.func22, Tryd.ntmps22
    go_wp2
    go_returns
    refine HR.out _ _ _ ?_ ?_ ?_
    · go_grown
    · simp only [heap_at, World.size_alloc]; simp
    · simp only [heap_at, World.size_alloc]; simp

theorem int_add1 (d : Nat) (h : d < 1000000) : IntKind.i64.wrap ((d : Int) + 1) = (d : Int) + 1 := IntWalk.i64_in _ (by omega)

theorem own_later {w w2 : World} {B n k j i : Nat} {e e' : TypeId} {v : Value} {xs : List Value} {c : Array Value} {fr : Nat × Nat} (o : w.ownsRow B e 1 v n xs) (h : w.heap[k]? = some (.cells c e' fr)) (he : e ≠ e')
    (g : w.grownBy w2 (Value.slice (some ⟨k, 0, none⟩) j i).ownBlock) : w2.ownsRow B e 1 v n xs := o.kept g (.inr (own_ne o h he))
theorem own_new {w w2 : World} {B n j i : Nat} {e e' : TypeId} {v : Value} {xs : List Value} {c : Array Value} (o : w.ownsRow B e 1 v n xs) (he : e ≠ e')
    (g : (w.alloc (.cells c e')).grownBy w2 (Value.slice (some ⟨w.heap.size, 0, none⟩) j i).ownBlock) : w2.ownsRow B e 1 v n xs := own_later (o.alloc _) (heap_new _ _) he g
theorem grown3 (w : World) (b : Nat) (x y z : Value) : w.grownBy (((w.setCell ⟨b, 0, none⟩ x).setCell ⟨b, 1, none⟩ y).setCell ⟨b, 2, none⟩ z) (some b) :=
  grownBy_trans (grownBy_trans (grownBy_setCell _ ⟨b, 0, none⟩ _) (grownBy_setCell _ ⟨b, 1, none⟩ _)) (grownBy_setCell _ ⟨b, 2, none⟩ _)
theorem lst_end {w : World} {B b n : Nat} {e : TypeId} {v : Value} {q : Int} {l : List Int} {c : Array Value} {fr : Nat × Nat} (h : w.ownsRow B e 1 v n ([.int .i64 q] ++ vals l)) (hz : w.heap[b]? = some (.cells c 33 fr)) (he : e ≠ 33) (x y z : Value) :
    Lst (((w.setCell ⟨b, 0, none⟩ x).setCell ⟨b, 1, none⟩ y).setCell ⟨b, 2, none⟩ z) e v (vals (q :: l)) := by
  have h1 := h.kept (grown3 w b x y z) (.inr (own_ne h hz he))
  have hn : n = (vals (q :: l)).length := by have := h.1; simp [vals] at this ⊢; omega
  subst hn
  exact ⟨⟨h1.1, h1.2.imp id fun ⟨g, cap, cur, a1, _, a3⟩ => ⟨g, cap, cur, a1, Nat.zero_le _, a3⟩⟩, vals_one _⟩

set_option maxHeartbeats 2000000 in
theorem refWrap_go (cs ps : List Int) (n : Nat) (d : Int) (c p : Int) (w : World) (a : Addr) (cap : Nat) (pp : Option Addr) (np cp : Nat) (HC : Hid (Lst w 23 (.slice (some a) n cap) (vals cs))) (HP : Hid (Lst w 3 (.slice pp np cp) (vals ps))) (h0 : c ≠ 0) (hn0 : ¬ n = 0) (HN : Hid (cs.length = n)) (HM : Hid (ps.length = n)) (hl : n < 900000) (hd0 : 0 ≤ d) (hd : d < 1000000) :
    Calls Tryd.prog 23 #[.agg #[.slice (some a) n cap, .slice pp np cp, .int .i64 d], .int .i64 c, .int .i64 p] w fun e w' => ∃ v1 v2, e = .returned (.agg #[v1, v2, .int .i64 (d + 1)]) ∧ Lst w' 23 v1 (vals (c :: cs)) ∧ Lst w' 3 v2 (vals (p :: ps)) ∧ Below w.heap.size w w' := by
  have hcond : ((n : Int) == 0 || c == 0) = false := by simp; omega
  have B1 : Hid (1 + (vals cs).length ≤ maxLen ∧ (1 + (vals cs).length) * 8 ≤ 140737488355328) := by
    rw [vals_len, HN.out]; unfold maxLen; exact ⟨by omega, by omega⟩
  have B2 : Hid (1 + (vals ps).length ≤ maxLen ∧ (1 + (vals ps).length) * 8 ≤ 140737488355328) := by
    rw [vals_len, HM.out]; unfold maxLen; exact ⟨by omega, by omega⟩
  go_enter Tryd.func23, Tryd.ntmps23
  go_wp2_with fail
  go_region_held3 (fun w' => w'.cell? ⟨w.heap.size, 0, none⟩ = some (.slice (some a) n cap) ∧ w'.cell? ⟨w.heap.size, 1, none⟩ = some (.slice pp np cp) ∧ w'.cell? ⟨w.heap.size, 2, none⟩ = some (.int .i64 d))
    (first
      | go_keep
      | (go_split_ands; refine ⟨?_, ?_, ?_⟩ <;> (rw [g2.cell_far _ (by simp; try omega) (by simp [Value.ownBlock] <;> omega)]; assumption))
      | (go_split_ands; refine ⟨?_, ?_, ?_⟩ <;> (rw [g1.cell_far _ (by simp; try omega) (by simp [Value.ownBlock] <;> omega)]; assumption)))
    (first
      | (refine step_app (by rfl) _ _ 30 (by rfl) (w.heap.size + 2) 23 (.int .i64 0) 8 Tryd.underlying30 info23 rfl (.slice (some ⟨_, 0, none⟩) 1 1) 1 [.int .i64 c] (by rfl) (own_lit (cs := #[.int .i64 c]) (by simp only [drew_heap, heap_at, World.size_alloc] <;> simp) (by simp) rfl (by omega)) _ (vals cs) (by rfl) (HC.out.below (by go_grown)) B1.out.1 B1.out.2 (by simp; try omega) ?_; intro pa1 l1 c1 w1 o1 g1
         have s1 : w.heap.size + 3 ≤ w1.heap.size := by have := g1.size; simp at this; omega
         have b1 : Below w.heap.size w w1 := Below.grown (by go_grown) g1 (by simp; try omega) (by simp [Value.ownBlock] <;> omega))
      | (refine step_app (by rfl) _ _ 31 (by rfl) (w.heap.size + 2) 3 (.int .i64 0) 8 Tryd.underlying31 info3 rfl (.slice (some ⟨_, 0, none⟩) 1 1) 1 [.int .i64 p] (by rfl) (own_lit (cs := #[.int .i64 p]) (by first | (simp only [heap_at] <;> simp; done) | (rw [g1.block _ (by simp) (by simp [Value.ownBlock])]; simp only [drew_heap, heap_at, World.size_alloc] <;> simp)) (by first | omega | (simp; try omega)) rfl (by omega)) _ (vals ps) (by rfl) (HP.out.below (by go_grown)) B2.out.1 B2.out.2 (by first | omega | (simp; try omega)) ?_; intro pa2 l2 c2 w2 o2 g2
         have z2 : w2.heap[w.heap.size + 1]? = some (.cells #[.slice none 0 0, .slice none 0 0, .int .i64 0] 33 (0, 0)) := by
           rw [g2.block _ (by first | omega | (simp; try omega)) (by simp [Value.ownBlock] <;> omega)]
           first
             | (rw [g1.block _ (by simp) (by simp [Value.ownBlock])]; simp only [drew_heap, heap_at, World.size_alloc] <;> simp; done)
             | (rw [heap_at, if_neg (by omega), g1.block _ (by simp) (by simp [Value.ownBlock])]; simp only [drew_heap, heap_at, World.size_alloc] <;> simp)
         have o12 : w2.ownsRow (w.heap.size + 2) 23 1 (.slice pa1 l1 c1) (1 + (vals cs).length) ([.int .i64 c] ++ vals cs) := by
           first
             | exact own_new o1 (by decide) g2
             | exact own_later o1 (c := #[.int .i64 p]) (e' := 3) (fr := (0, 0)) (by rw [g1.block _ (by simp) (by simp [Value.ownBlock])]; simp only [drew_heap, heap_at, World.size_alloc] <;> simp) (by decide) g2
         have b2 : Below w.heap.size w w2 := Below.grown (by go_grown) g2 (by first | omega | (simp; try omega)) (by simp [Value.ownBlock] <;> omega)
         have q0 : w2.cell? ⟨w.heap.size + 1, 0, none⟩ = some (.slice none 0 0) := by simp [World.cell?, z2]
         have q1 : w2.cell? ⟨w.heap.size + 1, 1, none⟩ = some (.slice none 0 0) := by simp [World.cell?, z2]
         have q2 : w2.cell? ⟨w.heap.size + 1, 2, none⟩ = some (.int .i64 0) := by simp [World.cell?, z2]
         have q3 : w2.frozen? ⟨w.heap.size + 1, 0, none⟩ = false := by simp [World.frozen?, z2]
         have q4 : w2.frozen? ⟨w.heap.size + 1, 1, none⟩ = false := by simp [World.frozen?, z2]
         have q5 : w2.frozen? ⟨w.heap.size + 1, 2, none⟩ = false := by simp [World.frozen?, z2]))
  all_goals
    have HE : Hid (∀ x y z, Hid (∃ v1 v2, Ending.returned (.agg #[.slice pa1 l1 c1, .slice pa2 l2 c2, .int .i64 (d + 1)]) = .returned (.agg #[v1, v2, .int .i64 (d + 1)]) ∧ Lst (((w2.setCell ⟨w.heap.size + 1, 0, none⟩ x).setCell ⟨w.heap.size + 1, 1, none⟩ y).setCell ⟨w.heap.size + 1, 2, none⟩ z) 23 v1 (vals (c :: cs)) ∧
        Lst (((w2.setCell ⟨w.heap.size + 1, 0, none⟩ x).setCell ⟨w.heap.size + 1, 1, none⟩ y).setCell ⟨w.heap.size + 1, 2, none⟩ z) 3 v2 (vals (p :: ps)) ∧ Below w.heap.size w (((w2.setCell ⟨w.heap.size + 1, 0, none⟩ x).setCell ⟨w.heap.size + 1, 1, none⟩ y).setCell ⟨w.heap.size + 1, 2, none⟩ z))) :=
      fun x y z => ⟨_, _, rfl, lst_end o12 z2 (by decide) x y z, lst_end o2 z2 (by decide) x y z, ((b2.setCell (by simp) _).setCell (by simp) _).setCell (by simp) _⟩
    clear o1 o2 o12 g1 g2 b1 b2 z2
    have hwr : IntKind.i64.wrap (d + 1) = d + 1 := IntWalk.i64_in _ (by omega)
    go_wp2_with fail
    refine bodyPost_ret (v := .agg #[.slice pa1 l1 c1, .slice pa2 l2 c2, .int .i64 (d + 1)]) (by simp [results, Tryd.results23, go_sem, q0, q1, q2, World.cell?_setCell_same', hwr]) rfl ?_
    exact HE.out _ _ _

theorem refWrap_zero (v : Value) (c p : Int) (w : World) (vp : Option Addr) (np cp : Nat) (d : Int) (pa : Option Addr) (cap : Nat) (hv : v = .agg #[.slice pa 0 cap, .slice vp np cp, .int .i64 d]) :
    Calls Tryd.prog 23 #[v, .int .i64 c, .int .i64 p] w fun e w' => e = .returned v ∧ Below w.heap.size w w' := by
  subst hv
  go_enter Tryd.func23, Tryd.ntmps23
  go_wp2
  go_returns
  exact ⟨rfl, by go_grown⟩
theorem refWrap_ok (v : Value) (p : Int) (w : World) (vp : Option Addr) (np cp : Nat) (d : Int) (pa : Option Addr) (n cap : Nat) (hn : ¬ n = 0) (hv : v = .agg #[.slice pa n cap, .slice vp np cp, .int .i64 d]) :
    Calls Tryd.prog 23 #[v, .int .i64 0, .int .i64 p] w fun e w' => e = .returned v ∧ Below w.heap.size w w' := by
  subst hv
  go_enter Tryd.func23, Tryd.ntmps23
  go_wp2
  go_returns
  exact ⟨rfl, by go_grown⟩
end Go.Proofs.YtdfmmphoccfacaaDoor

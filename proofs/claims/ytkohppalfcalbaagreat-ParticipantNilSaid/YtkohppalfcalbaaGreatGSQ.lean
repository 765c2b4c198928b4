/- Package shard: rows of records; a transaction's records. -/
import Derived.Test.YtkohppalfcalbaaGreatWY1
namespace Go.Proofs.YtkohppalfcalbaaGreat
open Go.RowKit

/-- a new block is its own row -/
theorem own_alloc {w : World} {cs : Array Value} {t : TypeId} {n sz : Nat} (hl : cs.size = n * sz) : OwnC (w.alloc (.cells cs t)) w.heap.size 0 n sz n cs.toList := by
  have hh := heap_alloc_new w (.cells cs t)
  refine ⟨by simp, by simpa using hl, Nat.le_refl _, fun j hj => ?_, fun j u hj => ?_⟩
  · rw [Nat.zero_add, cell_of_row _ _ j cs _ (0, 0) hh]
    refine ⟨?_, frozen_of hh j⟩
    rw [Array.getElem?_eq_getElem (by omega)]; rfl
  · rw [Nat.zero_add, cell_of_row _ _ j cs _ (0, 0) hh]
    simpa using hj
theorem held_alloc {w : World} {cs : Array Value} {t : TypeId} {n sz q : Nat} (hl : cs.size = n * sz) (hq : q < w.heap.size) : HeldC (w.alloc (.cells cs t)) q w.heap.size sz (.slice (some ⟨w.heap.size, 0, none⟩) n n) n cs.toList := .inr ⟨by omega, 0, n, rfl, own_alloc hl⟩
theorem run_appHCn {P : Program} {w : World} (t ty e : TypeId) {i0 : TypeInfo} {z : Value} {sz bytes : Nat} (ht : P.underlying t = some (.slice e)) (hi : P.info? e = some i0) (hz : i0.zero = some z) (hs : i0.size = sz) (hb : i0.bytes = bytes) (hzs : z.cells.size = sz) (hsp : 0 < sz)
    {q g n C : Nat} {v : Value} {xs : List Value} (hown : HeldC w q g sz v n xs) (hq : q < w.heap.size) {A : Option Addr} {m c : Nat} {ys : List Value} (hl : ys.length = m * sz) (hr : RdC w C A ys) (h1 : ∀ u ∈ ys, u.oneCell' = true) (h63 : n + m ≤ 1000000) (hby : (n + m) * bytes ≤ 140737488355328) :
    ∃ g' v' w', (Builtin.append_ #[t, t] ty #[v, .slice A m c]).run P w = .ok v' w' ∧ HeldC w' q g' sz v' (n + m) (xs ++ ys) ∧ Only (fun k => k = g ∧ k ≠ q) w w' ∧ (g' = g ∨ w.heap.size ≤ g') := by
  rcases A with _ | ad
  · have hy : ys = [] := by
      rcases ys with _ | ⟨y, ys⟩
      · rfl
      · obtain ⟨_, _, h, _⟩ := hr (by simp); cases h
    subst hy
    have hm : m = 0 := by
      rcases Nat.eq_zero_or_pos m with h | h
      · exact h
      · have := Nat.mul_pos h hsp
        simp at hl
        omega
    subst hm
    have hrun : (Builtin.append_ #[t, t] ty #[v, .slice none 0 c]).run P w = .ok v w := by
      rcases hown with ⟨rfl, _⟩ | ⟨_, o, cap, rfl, ho⟩
      · simp [Builtin.append_, run_underlying ht, sizeOf, typeInfo, hi, Builtin.lenOf, Builtin.firstCells]
      · have hnc := ho.room
        simp [Builtin.append_, run_underlying ht, sizeOf, typeInfo, hi, Builtin.lenOf, Builtin.firstCells, hnc, storeCells]
    exact ⟨g, v, w, hrun, by simpa using hown, Only.of_below (Below.refl _ _), .inl rfl⟩
  · exact run_appHC t ty e ht hi hz hs hb hzs hsp hown hq hl (fun j u hu => by
      obtain ⟨b, o, e1, _, hc⟩ := hr (fun e => by subst e; simp at hu)
      injection e1 with e1
      subst e1
      rw [Addr.add_lit]
      exact hc j u hu) h1 h63 hby
theorem wpList_appHCn {P : Program} {w : World} {ops : Array Oper} {rest : List Oper} {o : Oper} {a : Act} {Q : Exit → Act → World → Prop} (hgd : o.guard = none) (s x : Operand) (t e : TypeId) (ho : o.op = .call { callee := .builtin .append, args := #[s, x], argTypes := #[t, t] })
    {i0 : TypeInfo} {z : Value} {sz bytes : Nat} (ht : P.underlying t = some (.slice e)) (hi : P.info? e = some i0) (hz : i0.zero = some z) (hs : i0.size = sz) (hb : i0.bytes = bytes) (hzs : z.cells.size = sz) (hsp : 0 < sz)
    {q g n C : Nat} {v : Value} {xs : List Value} (hv : a.eval s = v) (hown : HeldC w q g sz v n xs) (hq : q < w.heap.size) {A : Option Addr} {m c : Nat} {ys : List Value} (hx : a.eval x = .slice A m c) (hl : ys.length = m * sz) (hr : RdC w C A ys) (h1 : ∀ u ∈ ys, u.oneCell' = true) (h63 : n + m ≤ 1000000) (hby : (n + m) * bytes ≤ 140737488355328)
    (h : ∀ g' v' w', HeldC w' q g' sz v' (n + m) (xs ++ ys) → Only (fun k => k = g ∧ k ≠ q) w w' → (g' = g ∨ w.heap.size ≤ g') → wpList P ops Q rest (a.put o.dst v') w') : wpList P ops Q (o :: rest) a w :=
  wpList_plain hgd fun _ hK => by
    obtain ⟨g', v', w', hrun, h2, h3, h4⟩ := run_appHCn (P := P) t o.type e ht hi hz hs hb hzs hsp hown hq (c := c) hl hr h1 h63 hby
    unfold Oper.wp execOp
    simp only [ho, resolve, invoke, builtin, Sem.run_bind, Sem.run_pure, Result.andThen_ok, List.map_toArray, List.map_cons, List.map_nil, hv, hx, hrun]
    exact hK _ _ (h g' v' w' h2 h3 h4)
def Rc.cells (x : Rc) : List Value := [.int .i64 x.k, .int .i64 x.n, .string (strB x.c.s), .slice x.c.kA x.c.k.length x.c.kc, .slice x.c.rA x.c.r.length x.c.rc, .bool x.c.d]
def Rc.v (x : Rc) : Value := .agg #[.int .i64 x.k, .int .i64 x.n, .string (strB x.c.s), .slice x.c.kA x.c.k.length x.c.kc, .slice x.c.rA x.c.r.length x.c.rc, .bool x.c.d]
def rcV (l : List Rc) : List Value := l.flatMap Rc.cells
theorem rcV_len (l : List Rc) : (rcV l).length = l.length * 6 := by
  induction l with
  | nil => rfl
  | cons x l ih => simp only [rcV, List.flatMap_cons, List.length_append, List.length_cons] at ih ⊢; rw [ih]; simp [Rc.cells]; omega
theorem rcV_app (a b : List Rc) : rcV (a ++ b) = rcV a ++ rcV b := by simp [rcV]
theorem rcV_at : ∀ (cs : List Rc) (i : Nat) (c : Rc), cs[i]? = some c → ∀ (j : Nat) (u : Value), c.cells[j]? = some u → (rcV cs)[i * 6 + j]? = some u
  | [], i, c, h, _, _, _ => by simp at h
  | x :: l, 0, c, h, j, u, hj => by
    simp only [List.getElem?_cons_zero, Option.some.injEq] at h
    subst h
    have hlt : j < x.cells.length := (List.getElem?_eq_some_iff.1 hj).1
    show (x.cells ++ rcV l)[0 * 6 + j]? = some u
    rw [Nat.zero_mul, Nat.zero_add, List.getElem?_append_left hlt]
    exact hj
  | x :: l, i + 1, c, h, j, u, hj => by
    rw [List.getElem?_cons_succ] at h
    show (x.cells ++ rcV l)[(i + 1) * 6 + j]? = some u
    have e : x.cells.length = 6 := rfl
    rw [List.getElem?_append_right (by rw [e]; omega), e, show (i + 1) * 6 + j - 6 = i * 6 + j by omega]
    exact rcV_at l i c h j u hj
theorem infoR : (Tryz.prog.info? 108).map (fun i => (i.zero, i.size, i.bytes)) = some (some (.agg #[.int .i64 0, .int .i64 0, .string ⟨#[]⟩, .slice none 0 0, .slice none 0 0, .bool false]), 6, 88) := by kernel_rfl
def noCh : Ch := ⟨[], none, [], 0, none, [], 0, false⟩
/-- a change's record -/
def chRc (n : Int) (c : Ch) : Rc := ⟨if c.d then 2 else 1, n, c⟩
/-- what the log tells of a transaction -/
def recsOf (cs : List Ch) (n en : Int) : List Rc := ⟨0, n, noCh⟩ :: (cs.map (chRc n) ++ [⟨en, n, noCh⟩])
theorem recsOf_len (cs : List Ch) (n en : Int) : (recsOf cs n en).length = cs.length + 2 := by simp [recsOf]
/-- a row of records that is the call's own -/
def RcT (w : World) (l : List Rc) (e : Ending) (w' : World) : Prop := ∃ q g v, e = .returned v ∧ HeldC w' q g 6 v l.length (rcV l) ∧ q < w.heap.size ∧ w.heap.size ≤ g ∧ Below w.heap.size w w'
/-- at the head of the loop -/
def RcL (w : World) (q : Nat) (cs : List Ch) (n : Int) (v7 v19 : Value) (wr : World) : Prop := ∃ k g : Nat, v19 = .int .i64 (k : Int) ∧ k ≤ cs.length ∧ HeldC wr q g 6 v7 (k + 1) (rcV (⟨0, n, noCh⟩ :: (cs.take k).map (chRc n))) ∧ w.heap.size ≤ g ∧ Below w.heap.size w wr
theorem rc_next {w w1 wr w3 : World} {q k g g3 : Nat} {cs : List Ch} {n : Int} {v5 : Value} {c : Ch} (hk : cs[k]? = some c) (hb : Below w.heap.size w wr) (h1 : Below wr.heap.size wr w1) (ho : HeldC w3 q g3 6 v5 (k + 1 + 1) (rcV (⟨0, n, noCh⟩ :: (cs.take k).map (chRc n)) ++ (chRc n c).cells)) (hO : Only (fun j => j = g ∧ j ≠ q) w1 w3) (hg : w.heap.size ≤ g) (hg3 : g3 = g ∨ w1.heap.size ≤ g3) (v11 : Value) (h11 : v11 = .int .i64 ((k + 1 : Nat) : Int)) : RcL w q cs n v5 v11 w3 := by
  have h2 := List.getElem?_eq_some_iff.1 hk
  have hsz := hb.size
  have hsz1 := h1.size
  refine ⟨k + 1, g3, h11, h2.1, ?_, by omega, ?_⟩
  · have e : rcV (⟨0, n, noCh⟩ :: (cs.take (k + 1)).map (chRc n)) = rcV (⟨0, n, noCh⟩ :: (cs.take k).map (chRc n)) ++ (chRc n c).cells := by
      rw [List.take_succ_eq_append_getElem h2.1, h2.2, List.map_append, ← List.cons_append, rcV_app]
      congr 1
    rw [e]
    exact ho
  · exact (hb.trans (h1.mono hsz)).trans (hO.below (by omega) (fun j hj => by omega))
theorem six_cells {w : World} {x : Rc} {g : Nat} {t : TypeId} {fr : Nat × Nat} (h : w.heap[g]? = some (.cells x.cells.toArray t fr)) : ∀ j u, x.cells[j]? = some u → w.cell? ((⟨g, 0, none⟩ : Addr).add j) = some u := fun j u hj => by
  rw [add_plain, cell_of_row _ _ j _ _ fr h]
  simpa using hj
theorem rc_one (x : Rc) : ∀ u ∈ x.cells, u.oneCell' = true := by
  intro u hu
  simp only [Rc.cells, List.mem_cons, List.not_mem_nil, or_false] at hu
  rcases hu with rfl | rfl | rfl | rfl | rfl | rfl <;> rfl
set_option maxRecDepth 100000 in
set_option maxHeartbeats 4000000 in
theorem trecords_any {w : World} {ℓ : Nat → Nat} {L : Nat} {t : Tr} (h : TrOk w ℓ L t) (n en : Int) : Calls Tryz.prog 56 #[.pointer (some ⟨t.b, 0, none⟩), .int .i64 n, .int .i64 en] w (RcT w (recsOf t.cs n en)) := by
  obtain ⟨i0, hi, hz0, hz1, hz2⟩ := info_parts infoR
  have hbl := (Array.getElem?_eq_some_iff.1 h.box).1
  obtain ⟨A, cap, hv⟩ := h.row.lens
  have hrow := h.row
  have hbox := h.box
  rw [hv] at hrow hbox
  have HRD := Lib.hid hrow.rd.1
  have hfew := h.few
  obtain ⟨b, hb⟩ : ∃ b, t.b = b := ⟨_, rfl⟩
  obtain ⟨cs, hcs⟩ : ∃ cs, t.cs = cs := ⟨_, rfl⟩
  rw [hb] at hbox hbl ⊢
  rw [hcs] at HRD hbox hfew ⊢
  obtain ⟨N, hN⟩ : ∃ N, cs.length = N := ⟨_, rfl⟩
  have HN := Lib.hid hN
  rw [hN] at hbox
  have HBX : Hid (∀ W, Below w.heap.size w W → W.cell? ⟨b, 0, none⟩ = some (.slice A N cap)) := Lib.hid fun W hb => (box3S ((hb.block _ hbl).trans hbox)).1
  have hNi : (N : Int) ≤ 1000 := by omega
  have HFW := Lib.hid hfew
  have HBL := Lib.hid hbl
  obtain ⟨w1, hw1⟩ : ∃ w1, w1 = w.alloc (.cells #[.int .i64 0, .int .i64 n, .string ⟨#[]⟩, .slice none 0 0, .slice none 0 0, .bool false] 108) := ⟨_, rfl⟩
  have hb1 : Below w.heap.size w w1 := by rw [hw1]; exact alloc_below _ _
  have HST : Hid (RcL w b cs n (.slice (some ⟨w.heap.size, 0, none⟩) 1 1) (.int .i64 0) w1) := Lib.hid ⟨0, w.heap.size, rfl, Nat.zero_le _, by rw [hw1]; exact held_alloc (n := 1) rfl hbl, Nat.le_refl _, hb1⟩
  have x0 := HBX.out w1 hb1
  have HW1 := Lib.hid hw1
  clear h hv hrow hbox hfew hbl hN hb hcs hb1 hw1
  go_enter Tryz.func56, Tryz.ntmps56
  go_upto_region 2 with fail
  rw [← HW1.out]
  go_wp2_with fail
  go_loopw [7, 19] (fun v7 v19 wr => RcL w b cs n v7 v19 wr) (fun _ v19 _ => N - (intOf v19).toNat)
  case atStart => exact HST.out
  case round =>
    obtain ⟨k, g, rfl, hk, hh, hg, hbw⟩ := hrel
    rw [HN.out] at hk
    have HG := Lib.hid hg
    have HB := Lib.hid hbw
    have hk5 : k ≤ 1000 := by omega
    have HK5 := Lib.hid hk5
    by_cases hlt : k < N
    · have hlti : (k : Int) < (N : Int) := by omega
      have hkc : k < cs.length := by have := HN.out; omega
      have HX : Hid (cs[k]? = some cs[k]) := Lib.hid (List.getElem?_eq_getElem hkc)
      obtain ⟨b0, o0, hA, hlt0, hc⟩ := HRD.out (by intro e; have := chV_len cs; rw [e] at this; simp at this; omega)
      subst hA
      have hat := chV_at cs k cs[k] HX.out
      have c0 := hc _ _ (hat 0 _ rfl)
      have c1 := hc _ _ (hat 1 _ rfl)
      have c2 := hc _ _ (hat 2 _ rfl)
      have c3 := hc _ _ (hat 3 _ rfl)
      rw [← Nat.add_assoc] at c0 c1 c2 c3
      have hcw : ∀ j, wr.cell? ⟨b0, j, none⟩ = w.cell? ⟨b0, j, none⟩ := fun j => World.cell?_of_block (hbw.block b0 hlt0)
      rw [← hcw] at c0 c1 c2 c3
      have HHA := Lib.hid (fun o1 o2 => hh.only (Only.of_below (K := fun _ => False) (alloc2_below wr o1 o2)) (fun _ => id))
      have HQL : Hid (∀ o1 o2, b < ((wr.alloc o1).alloc o2).heap.size) := Lib.hid (fun o1 o2 => by have := (alloc2_below wr o1 o2).size; have := hbw.size; have := HBL.out; omega)
      generalize hcc : cs[k] = c at HX c0 c1 c2 c3
      clear hcc hcw hc hat hlt0 hh hg hbw hkc
      obtain ⟨s, kA, kl, kc, rA, r, rc, d⟩ := c
      simp only [Nat.add_zero] at c0
      cases d
      · obtain ⟨y0, y1, y2, y3⟩ := box4S (heap_alloc_new wr (.cells #[.string (strB s), .slice kA kl.length kc, .slice rA r.length rc, .bool false] 62))
        go_wp2_with (first
          | (at_builtin
             refine wpList_appHC (n := k + 1) (m := 1) (ys := [.int .i64 1, .int .i64 n, .string (strB s), .slice kA kl.length kc, .slice rA r.length rc, .bool false]) (by rfl) _ _ 79 108 (by rfl) Tryz.underlying79 hi hz0 hz1 hz2 (by rfl) (by omega) (by rfl) (HHA.out _ _) (HQL.out _ _) (by rfl) (by rfl) (six_cells (x := ⟨1, n, ⟨s, kA, kl, kc, rA, r, rc, false⟩⟩) (heap_two wr _ _)) (rc_one ⟨1, n, ⟨s, kA, kl, kc, rA, r, rc, false⟩⟩) (by have := HK5.out; omega) (by have := HK5.out; omega) ?_
             intro g5 v5 w5 ho5 hO5 hg5
             have HY : Hid (∀ v11, v11 = .int .i64 ((k + 1 : Nat) : Int) → RcL w b cs n v5 v11 w5) := Lib.hid (fun v11 h11 => rc_next HX.out HB.out (by exact alloc2_below wr _ _) ho5 hO5 HG.out hg5 v11 h11)
             clear ho5 hO5 hg5))
        go_roundw
        case rel => first | exact HY.out _ (by go_num) | ((repeat apply Exists.intro); exact ⟨HY.out _ (by go_num), rfl⟩)
        case measure => simp [intOf]; omega
      · obtain ⟨y0, y1, y2, y3⟩ := box4S (heap_alloc_new wr (.cells #[.string (strB s), .slice kA kl.length kc, .slice rA r.length rc, .bool true] 62))
        go_wp2_with (first
          | (at_builtin
             refine wpList_appHC (n := k + 1) (m := 1) (ys := [.int .i64 2, .int .i64 n, .string (strB s), .slice kA kl.length kc, .slice rA r.length rc, .bool true]) (by rfl) _ _ 79 108 (by rfl) Tryz.underlying79 hi hz0 hz1 hz2 (by rfl) (by omega) (by rfl) (HHA.out _ _) (HQL.out _ _) (by rfl) (by rfl) (six_cells (x := ⟨2, n, ⟨s, kA, kl, kc, rA, r, rc, true⟩⟩) (heap_two wr _ _)) (rc_one ⟨2, n, ⟨s, kA, kl, kc, rA, r, rc, true⟩⟩) (by have := HK5.out; omega) (by have := HK5.out; omega) ?_
             intro g5 v5 w5 ho5 hO5 hg5
             have HY : Hid (∀ v11, v11 = .int .i64 ((k + 1 : Nat) : Int) → RcL w b cs n v5 v11 w5) := Lib.hid (fun v11 h11 => rc_next HX.out HB.out (by exact alloc2_below wr _ _) ho5 hO5 HG.out hg5 v11 h11)
             clear ho5 hO5 hg5))
        go_roundw
        case rel => first | exact HY.out _ (by go_num) | ((repeat apply Exists.intro); exact ⟨HY.out _ (by go_num), rfl⟩)
        case measure => simp [intOf]; omega
    · have hkl : k = N := by omega
      subst hkl
      have hlti : ¬ (k : Int) < (k : Int) := by omega
      have HHA := Lib.hid (fun o1 => hh.only (Only.of_below (K := fun _ => False) (alloc_below wr o1)) (fun _ => id))
      have HQL : Hid (∀ o1, b < (wr.alloc o1).heap.size) := Lib.hid (fun o1 => by have := (alloc_below wr o1).size; have := hbw.size; have := HBL.out; omega)
      have HRV : Hid (∀ (g5 : Nat) (v5 : Value) (w5 : World) (o1 : Obj), HeldC w5 b g5 6 v5 (k + 1 + 1) (rcV (⟨0, n, noCh⟩ :: (cs.take k).map (chRc n)) ++ [.int .i64 en, .int .i64 n, .string ⟨#[]⟩, .slice none 0 0, .slice none 0 0, .bool false]) → Only (fun j => j = g ∧ j ≠ b) (wr.alloc o1) w5 → (g5 = g ∨ (wr.alloc o1).heap.size ≤ g5) → RcT w (recsOf cs n en) (.returned v5) w5) := Lib.hid fun g5 v5 w5 o1 ho hO hg5 => by
        have s1 := hbw.size
        have s2 := (alloc_below wr o1).size
        refine ⟨b, g5, v5, rfl, ?_, HBL.out, by omega, (hbw.trans ((alloc_below wr o1).mono s1)).trans (hO.below (by omega) (fun j hj => by omega))⟩
        have e1 : (recsOf cs n en).length = k + 1 + 1 := by rw [recsOf_len, HN.out]
        have e2 : rcV (recsOf cs n en) = rcV (⟨0, n, noCh⟩ :: (cs.take k).map (chRc n)) ++ [.int .i64 en, .int .i64 n, .string ⟨#[]⟩, .slice none 0 0, .slice none 0 0, .bool false] := by
          have hkn := HN.out
          rw [List.take_of_length_le (by omega)]
          show rcV ((⟨0, n, noCh⟩ :: cs.map (chRc n)) ++ [⟨en, n, noCh⟩]) = _
          rw [rcV_app]
          rfl
        rw [e1, e2]
        exact ho
      clear hh hg hbw
      go_wp2_with (first
        | (at_builtin
           refine wpList_appHC (n := k + 1) (m := 1) (ys := [.int .i64 en, .int .i64 n, .string ⟨#[]⟩, .slice none 0 0, .slice none 0 0, .bool false]) (by rfl) _ _ 79 108 (by rfl) Tryz.underlying79 hi hz0 hz1 hz2 (by rfl) (by omega) (by rfl) (HHA.out _) (HQL.out _) (by rfl) (by rfl) (six_cells (x := ⟨en, n, noCh⟩) (heap_alloc_new wr _)) (rc_one ⟨en, n, noCh⟩) (by have := HK5.out; omega) (by have := HK5.out; omega) ?_
           intro g5 v5 w5 ho5 hO5 hg5
           have HY := Lib.hid (HRV.out g5 v5 w5 _ ho5 hO5 hg5)
           clear ho5 hO5 hg5))
      go_ret
      exact HY.out
end Go.Proofs.YtkohppalfcalbaaGreat

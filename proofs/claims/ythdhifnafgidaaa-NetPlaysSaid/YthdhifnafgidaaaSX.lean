/- The document's net: rows of ways; gone; Send. -/
import Derived.Test.YthdhifnafgidaaaSQ
namespace Go.Proofs.Ythdhifnafgidaaa
open Go.RowKit Go.Maps

/-- ways in a row of one's own -/
def OwnY (w : World) (B : Nat) (v : Value) (ws : List Wy) : Prop := w.ownsRow B 40 6 v ws.length (cellsY ws) ∧ ∃ g cap, v = .slice (some ⟨g, 0, none⟩) ws.length cap ∧ B ≤ g
/-- ways that can be read -/
def RdWs (w : World) (A : Option Addr) (ws : List Wy) : Prop := ws ≠ [] → ∃ b o, A = some ⟨b, o, none⟩ ∧ b < w.heap.size ∧ ∀ j u, (cellsY ws)[j]? = some u → w.cell? ⟨b, o + j, none⟩ = some u
theorem cellsY_ne {ws : List Wy} (h : ws ≠ []) : cellsY ws ≠ [] := by
  cases ws with
  | nil => exact absurd rfl h
  | cons y ws => simp [cellsY, Wy.cells]
theorem Rd0.ways {w : World} {A : Option Addr} {ws : List Wy} (h : Rd0 w A (cellsY ws)) : RdWs w A ws := fun hn => by
  obtain ⟨g, e, hg, hc⟩ := h (cellsY_ne hn)
  exact ⟨g, 0, e, hg, fun j u hu => by rw [Nat.zero_add]; exact hc j u hu⟩
theorem RdWs.below {w w' : World} {A : Option Addr} {ws : List Wy} (h : RdWs w A ws) (hb : Below w.heap.size w w') : RdWs w' A ws := fun hn => by
  obtain ⟨b, o, e, hlt, hc⟩ := h hn
  exact ⟨b, o, e, Nat.lt_of_lt_of_le hlt hb.size, fun j u hu => (World.cell?_of_block (hb.block b hlt)).trans (hc j u hu)⟩
theorem OwnY.below {w w' : World} {B : Nat} {v : Value} {ws : List Wy} (h : OwnY w B v ws) (hb : Below w.heap.size w w') : OwnY w' B v ws := ⟨own_below h.1 hb, h.2⟩
theorem OwnY.ge {w : World} {B : Nat} {v : Value} {ws : List Wy} (h : OwnY w B v ws) : ∀ k, v.ownBlock = some k → B ≤ k := by
  intro k hk
  obtain ⟨g, cap, rfl, hB⟩ := h.2
  injection hk with hk
  subst hk
  exact hB
theorem OwnY.rd {w : World} {B g n cap : Nat} {ws : List Wy} (h : OwnY w B (.slice (some ⟨g, 0, none⟩) n cap) ws) : Rd0 w (some ⟨g, 0, none⟩) (cellsY ws) ∧ ws.length = n ∧ n ≤ cap := by
  rcases h.1.2 with ⟨e, _⟩ | ⟨g', cap', cur, e, hB, hh, hnc, hm, hsz, htk⟩
  · cases e
  · injection e with e1 e2 e3
    injection e1 with e1
    injection e1 with e1
    subst e1 e2 e3
    refine ⟨fun _ => ⟨g, rfl, (Array.getElem?_eq_some_iff.1 hh).1, fun j u hu => ?_⟩, rfl, hnc⟩
    rw [cell_of_row w g j cur _ (0, 0) hh]
    rw [← htk, List.getElem?_take] at hu
    split at hu
    · rw [← Array.getElem?_toList]; exact hu
    · cases hu
theorem infoY : (Try.prog.info? 40).map (fun i => (i.zero, i.size, i.bytes)) = some (some (.agg #[.int .i64 0, .int .i64 0, .int .i64 0, .int .i64 0, .int .i64 0, .slice none 0 0]), 6, 64) := by kernel_rfl
/-- a new row of nothing -/
theorem OwnY.empty (w : World) : OwnY (w.alloc (.cells #[] 40)) w.heap.size (.slice (some ⟨w.heap.size, 0, none⟩) 0 0) [] :=
  ⟨⟨rfl, .inr ⟨_, 0, #[], rfl, Nat.le_refl _, heap_alloc_new w _, Nat.le_refl _, by unfold maxLen; omega, rfl, rfl⟩⟩, _, _, rfl, Nat.le_refl _⟩
set_option maxRecDepth 100000 in
/-- append, whatever the source -/
theorem run_appendY {w : World} (t ty : TypeId) {B : Nat} (ht : Try.prog.underlying t = some (.slice 40))
    {v : Value} {xs : List Wy} (hown : OwnY w B v xs) {A : Option Addr} {c : Nat} {ys : List Wy} (hr : RdWs w A ys) (h63 : xs.length + ys.length ≤ 2000) (hbase : B ≤ w.heap.size) :
    ∃ v' w', (Builtin.append_ #[t, t] ty #[v, .slice A ys.length c]).run Try.prog w = .ok v' w' ∧ OwnY w' B v' (xs ++ ys) ∧ w.grownBy w' v.ownBlock := by
  obtain ⟨i0, hi, hz, hs, hb⟩ := info_parts infoY
  obtain ⟨g, cap, rfl, hB⟩ := hown.2
  rcases A with _ | ad
  · have hy : ys = [] := by
      rcases ys with _ | ⟨y, ys⟩
      · rfl
      · obtain ⟨_, _, h, _⟩ := hr (by simp); cases h
    subst hy
    have hrun : (Builtin.append_ #[t, t] ty #[.slice (some ⟨g, 0, none⟩) xs.length cap, .slice none 0 c]).run Try.prog w = .ok (.slice (some ⟨g, 0, none⟩) xs.length cap) w := by
      have hnc := hown.rd.2.2
      simp [Builtin.append_, run_underlying ht, sizeOf, typeInfo, hi, Builtin.lenOf, Builtin.firstCells, hnc, storeCells]
    exact ⟨_, w, hrun, by simpa using hown, grown_refl _ _⟩
  · have hcells : ∀ j u, (cellsY ys)[j]? = some u → w.cell? (ad.add j) = some u := by
      intro j u hu
      have hn : ys ≠ [] := fun e => by subst e; simp [cellsY] at hu
      obtain ⟨b, o, h, _, hc⟩ := hr hn
      injection h with h
      subst h
      rw [Addr.add_lit]
      exact hc j u hu
    obtain ⟨v', w', hrun, h2, h3, h4, h5⟩ := run_append_own_at (P := Try.prog) w B t ty 40 i0 _ 6 64 ht hi hz hs hb rfl (by omega) _ xs.length (cellsY xs) hown.1 ad ys.length c (cellsY ys) (cellsY_len ys) hcells (cellsY_one ys) (by unfold maxLen; omega) (by omega) hbase
    rw [← cellsY_app, ← List.length_append] at h2
    refine ⟨v', w', hrun, ⟨h2, ?_⟩, h3⟩
    rcases h2.2 with ⟨e, _⟩ | ⟨g', cap', cur, e, hB', _⟩
    · have := (h4.1 e).1; cases this
    · exact ⟨g', cap', e, hB'⟩
theorem step_appY {w : World} {ops : Array Oper} {o : Oper} {a : Act} {K : Act → World → Prop} {Q : Exit → Act → World → Prop} {E : Prop} (hgd : o.guard = none) (s x : Operand) (t : TypeId) (ho : o.op = .call { callee := .builtin .append, args := #[s, x], argTypes := #[t, t] })
    {B : Nat} (ht : Try.prog.underlying t = some (.slice 40))
    {v : Value} {xs : List Wy} (hv : a.eval s = v) (hown : OwnY w B v xs) {A : Option Addr} {c n : Nat} {ys : List Wy} (hx : a.eval x = .slice A n c) (hn : ys.length = n) (hr : RdWs w A ys) (h63 : xs.length + ys.length ≤ 2000) (hbase : B ≤ w.heap.size)
    (h : ∀ v' w', OwnY w' B v' (xs ++ ys) → w.grownBy w' v.ownBlock → K (a.put o.dst v') w') : if Region.wanted o (yielded ops a.tmps) = true then Oper.wp Try.prog o a w K Q else E := by
  have hw : Region.wanted o (yielded ops a.tmps) = true := by simp [Region.wanted, hgd]
  rw [if_pos hw]
  subst hn
  obtain ⟨v', w', hrun, h2, h3⟩ := run_appendY t o.type ht hown (c := c) hr h63 hbase
  unfold Oper.wp execOp
  simp only [ho, resolve, invoke, builtin, Sem.run_bind, Sem.run_pure, Result.andThen_ok, List.map_toArray, List.map_cons, List.map_nil, hv, hx, hrun]
  exact h v' w' h2 h3
theorem RdWs.take {w : World} {A : Option Addr} {ws : List Wy} (h : RdWs w A ws) (i : Nat) : RdWs w A (ws.take i) := fun hn => by
  obtain ⟨b, o, e, hb, hc⟩ := h (fun e => hn (by rw [e]; simp))
  refine ⟨b, o, e, hb, fun j u hu => hc j u ?_⟩
  have h1 : cellsY ws = cellsY (ws.take i) ++ cellsY (ws.drop i) := by rw [← cellsY_app, List.take_append_drop]
  rw [h1, List.getElem?_append_left (List.getElem?_eq_some_iff.1 hu).1]
  exact hu
theorem RdWs.drop {w : World} {b o k : Nat} {ws : List Wy} (h : RdWs w (some ⟨b, o, none⟩) ws) {p : Nat} (hp : ws.drop k ≠ [] → p = o + k * 6) : RdWs w (some ⟨b, p, none⟩) (ws.drop k) := fun hn => by
  obtain ⟨b', o', e, hb, hc⟩ := h (fun e => hn (by rw [e]; simp))
  injection e with e
  injection e with e1 e2
  subst e1 e2
  refine ⟨_, p, rfl, hb, fun j u hu => ?_⟩
  rw [hp hn, Nat.add_assoc]
  refine hc (k * 6 + j) u ?_
  have hk : k ≤ ws.length := by
    rcases Nat.lt_or_ge ws.length k with h1 | h1
    · exact absurd (List.drop_eq_nil_of_le (by omega)) hn
    · exact h1
  have h1 : cellsY ws = cellsY (ws.take k) ++ cellsY (ws.drop k) := by rw [← cellsY_app, List.take_append_drop]
  rw [h1, List.getElem?_append_right (by rw [cellsY_len, List.length_take]; omega), cellsY_len, List.length_take, Nat.min_eq_left hk]
  rw [show k * 6 + j - k * 6 = j by omega]
  exact hu
def GoneR (w : World) (b : Nat) (ws : List Wy) (s t lo : Nat) (w' : World) : Prop := ∃ A' cap', RfAt w' b A' cap' ws s t lo ∧ Only (· = b) w w' ∧ ∃ g', A' = some ⟨g', 0, none⟩ ∧ w.heap.size ≤ g'
theorem gone_end {w w9 : World} {b : Nat} {A : Option Addr} {cap : Nat} {ws vs : List Wy} {s t lo : Nat} (h : RfAt w b A cap ws s t lo) (hb : Below w.heap.size w w9) {g9 n9 cap9 : Nat} (ho : OwnY w9 w.heap.size (.slice (some ⟨g9, 0, none⟩) n9 cap9) vs) (hv : ∀ y ∈ vs, Rd0 w9 y.x.A (intsZ y.x.l.ns) ∧ y.x.l.right = true) (hl : vs.length ≤ 1000) :
    GoneR w b vs s t lo (w9.setCell ⟨b, 0, none⟩ (.slice (some ⟨g9, 0, none⟩) n9 cap9)) := by
  have h9 := h.below hb
  have hO := Only.set w9 b 0 (.slice (some ⟨g9, 0, none⟩) n9 cap9)
  obtain ⟨h1, h2, h3⟩ := ho.rd
  refine ⟨some ⟨g9, 0, none⟩, cap9, ⟨by rw [h2]; exact (box4_set h9.box _).1, by omega, h1.only (cellsY_head _) hO fun k hk => by rw [hk]; exact h9.notI, fun y hy => ⟨(hv y hy).1.only (intsZ_head _) hO fun k hk => by rw [hk]; exact h9.notI, (hv y hy).2⟩, hl, h.most⟩, ?_⟩
  exact ⟨(Only.of_below hb).trans hO fun _ _ h => h, g9, rfl, by
    obtain ⟨g, c, e, hB⟩ := ho.2
    injection e with e1
    injection e1 with e1
    injection e1 with e1
    rw [e1]; exact hB⟩
set_option maxRecDepth 100000 in
set_option maxHeartbeats 32000000 in
theorem rgone_any {w : World} {b : Nat} {A : Option Addr} {cap : Nat} {ws : List Wy} {s t lo : Nat} (h : RfAt w b A cap ws s t lo) {i : Nat} (hi : i < ws.length) :
    Calls Try.prog 32 #[.pointer (some ⟨b, 0, none⟩), .int .i64 (i : Int)] w (fun e w' => e = .returned (.tuple #[]) ∧ GoneR w b (ws.take i ++ ws.drop (i + 1)) s t lo w') := by
  obtain ⟨g0, hA, _, _⟩ := h.row (cellsY_ne (fun e => by rw [e] at hi; simp at hi))
  subst hA
  obtain ⟨n, hn⟩ : ∃ n, ws.length = n := ⟨_, rfl⟩
  obtain ⟨c0, _⟩ := box4_ h.box
  have hcap := h.cap
  have hfew := h.few
  rw [hn] at c0 hi hcap hfew
  have HLT : Hid ((ws.take i).length = i) := Lib.hid (by rw [List.length_take]; omega)
  have HLD : Hid ((ws.drop (i + 1)).length = n - (i + 1)) := Lib.hid (by rw [List.length_drop]; omega)
  have hb0 : Below w.heap.size w (w.drew.alloc (.cells #[] 40)) := ((Below.refl _ w).drew).trans (alloc_below w.drew _)
  have HE0 : Hid (OwnY (w.drew.alloc (.cells #[] 40)) w.heap.size (.slice (some ⟨w.heap.size, 0, none⟩) 0 0) []) := Lib.hid (OwnY.empty w.drew)
  have HR1 : Hid (RdWs (w.drew.alloc (.cells #[] 40)) (some ⟨g0, 0, none⟩) (ws.take i)) := Lib.hid ((h.row.ways.below hb0).take i)
  have HF1 : Hid (i < n ∧ n ≤ 1000 ∧ (ws.take i).length = i ∧ (ws.drop (i + 1)).length = n - (i + 1) ∧ ws.length = n) := Lib.hid ⟨hi, hfew, HLT.out, HLD.out, hn⟩
  have HZ0 : Hid (w.heap.size ≤ (w.drew.alloc (.cells #[] 40)).heap.size) := Lib.hid hb0.size
  have HG8 : Hid (∀ w8, (w.drew.alloc (.cells #[] 40)).grownBy w8 (Value.slice (some ⟨w.heap.size, 0, none⟩) 0 0).ownBlock → Below w.heap.size w w8) := Lib.hid fun w8 hg => hb0.trans (grown_below' hg (Nat.le_refl _) hb0.size)
  have HC8 : Hid (∀ W, Below w.heap.size w W → W.cell? ⟨b, 0, none⟩ = some (.slice (some ⟨g0, 0, none⟩) n cap)) := Lib.hid fun W hW => by have := (box4_ (h.below hW).box).1; rw [hn] at this; exact this
  have HF8 : Hid (∀ W, Below w.heap.size w W → W.frozen? ⟨b, 0, none⟩ = false) := Lib.hid fun W hW => frozen_of (h.below hW).box 0
  have hcb := HC8.out _ hb0
  have hlb := h.lt
  have HR2 : Hid (∀ W, Below w.heap.size w W → RdWs W (if cap = i + 1 then some ⟨g0, 0, none⟩ else some ⟨g0, (i + 1) * 6, none⟩) (ws.drop (i + 1))) := Lib.hid fun W hW => by
    by_cases hc1 : cap = i + 1
    · rw [if_pos hc1]
      exact (h.row.ways.below hW).drop fun hne => absurd (List.drop_eq_nil_of_le (by omega)) hne
    · rw [if_neg hc1]
      exact (h.row.ways.below hW).drop fun _ => by omega
  obtain ⟨N9, hN9⟩ : ∃ N9, ((([] : List Wy) ++ ws.take i) ++ ws.drop (i + 1)).length = N9 := ⟨_, rfl⟩
  have HN9 := Lib.hid hN9
  have HEND : Hid (∀ w9 g9 cap9, Below w.heap.size w w9 → OwnY w9 w.heap.size (.slice (some ⟨g9, 0, none⟩) N9 cap9) (([] ++ ws.take i) ++ ws.drop (i + 1)) → GoneR w b (ws.take i ++ ws.drop (i + 1)) s t lo (w9.setCell ⟨b, 0, none⟩ (.slice (some ⟨g9, 0, none⟩) N9 cap9))) := Lib.hid fun w9 g9 cap9 hb ho => by
    refine gone_end h hb ho (fun y hy => ?_) (by have := HF1.out; rw [List.length_append]; omega)
    have hy2 : y ∈ ws := by
      rw [List.mem_append] at hy
      rcases hy with hy | hy
      · exact List.mem_of_mem_take hy
      · exact List.mem_of_mem_drop hy
    exact ⟨((h.below hb).nod y hy2).1, (h.nod y hy2).2⟩
  have hii : (i : Int) < (n : Int) := by omega
  have hni : (n : Int) ≤ 1000 := by omega
  have hnc : (n : Int) ≤ (cap : Int) := by omega
  have hic : i ≤ cap := by omega
  have hi1c : i + 1 ≤ cap := by omega
  have hi1n : i + 1 ≤ n := by omega
  have hw1 : IntKind.i64.wrap ((i : Int) + 1) = ((i + 1 : Nat) : Int) := by rw [IntKind.wrap_i64]; omega
  have hi1i : (i : Int) + 1 ≤ (n : Int) := by omega
  have hi10 : (0 : Int) ≤ (i : Int) + 1 := by omega
  clear h hn hi hfew hb0 hN9
  go_enter Try.func32, Try.ntmps32
  refine wp_region_held_drew (S := (fun _ => True)) (by kernel_rfl) trivial (fun _ => ?_)
  refine wpAnyH_take (i := 0) (oi := ({ dst := Option.some 4, op := Go.Op.move (Go.Operand.tmp 0), type := 25, pos := "ref.go:49", after := #[], guard := Option.none } : Oper)) (v := ?v0x27) rfl (by kernel_rfl) (by kernel_rfl) (by kernel_rfl) (fun _ _ _ h => h) (Or.inl ⟨by rfl, ?hy0x27⟩) trivial ?rest0x27
  case hy0x27 =>
    intro W0 hSw
    (try dsimp only at hSw)
    go_simp
    first | done | with_reducible rfl
  try simp only [Act.put, List.setIfInBounds_toArray, List.set_cons_zero, List.set_cons_succ]
  refine wpAnyH_take (i := 2) (oi := ({ dst := Option.some 6, op := Go.Op.move (Go.Operand.tmp 0), type := 25, pos := "ref.go:49", after := #[], guard := Option.none } : Oper)) (v := ?v2x28) rfl (by kernel_rfl) (by kernel_rfl) (by kernel_rfl) (fun _ _ _ h => h) (Or.inl ⟨by rfl, ?hy2x28⟩) trivial ?rest2x28
  case hy2x28 =>
    intro W0 hSw
    (try dsimp only at hSw)
    go_simp
    first | done | with_reducible rfl
  try simp only [Act.put, List.setIfInBounds_toArray, List.set_cons_zero, List.set_cons_succ]
  refine wpAnyH_take (i := 3) (oi := ({ dst := Option.some 7, op := Go.Op.nilCheck (Go.Operand.tmp 6), type := 0, pos := "ref.go:49", after := #[{ on := 2, ground := Go.Ground.data }], guard := Option.none } : Oper)) (v := ?v3x29) rfl (by kernel_rfl) (by kernel_rfl) (by kernel_rfl) (fun _ _ _ h => h) (Or.inl ⟨by rfl, ?hy3x29⟩) trivial ?rest3x29
  case hy3x29 =>
    intro W0 hSw
    (try dsimp only at hSw)
    go_simp
    first | done | with_reducible rfl
  try simp only [Act.put, List.setIfInBounds_toArray, List.set_cons_zero, List.set_cons_succ]
  refine wpAnyH_take (i := 4) (oi := ({ dst := Option.some 8, op := Go.Op.fieldAddr 28 (Go.Operand.tmp 7) 0, type := 0, pos := "ref.go:49", after := #[{ on := 3, ground := Go.Ground.data }], guard := Option.none } : Oper)) (v := ?v4x30) rfl (by kernel_rfl) (by kernel_rfl) (by kernel_rfl) (fun _ _ _ h => h) (Or.inl ⟨by rfl, ?hy4x30⟩) trivial ?rest4x30
  case hy4x30 =>
    intro W0 hSw
    (try dsimp only at hSw)
    go_simp
    first | done | with_reducible rfl
  try simp only [Act.put, List.setIfInBounds_toArray, List.set_cons_zero, List.set_cons_succ]
  refine wpAnyH_take (i := 6) (oi := ({ dst := Option.some 10, op := Go.Op.move (Go.Operand.tmp 1), type := 3, pos := "ref.go:49", after := #[], guard := Option.none } : Oper)) (v := ?v6x31) rfl (by kernel_rfl) (by kernel_rfl) (by kernel_rfl) (fun _ _ _ h => h) (Or.inl ⟨by rfl, ?hy6x31⟩) trivial ?rest6x31
  case hy6x31 =>
    intro W0 hSw
    (try dsimp only at hSw)
    go_simp
    first | done | with_reducible rfl
  try simp only [Act.put, List.setIfInBounds_toArray, List.set_cons_zero, List.set_cons_succ]
  refine wpAnyH_take (i := 9) (oi := ({ dst := Option.some 13, op := Go.Op.move (Go.Operand.tmp 0), type := 25, pos := "ref.go:49", after := #[], guard := Option.none } : Oper)) (v := ?v9x32) rfl (by kernel_rfl) (by kernel_rfl) (by kernel_rfl) (fun _ _ _ h => h) (Or.inl ⟨by rfl, ?hy9x32⟩) trivial ?rest9x32
  case hy9x32 =>
    intro W0 hSw
    (try dsimp only at hSw)
    go_simp
    first | done | with_reducible rfl
  try simp only [Act.put, List.setIfInBounds_toArray, List.set_cons_zero, List.set_cons_succ]
  refine wpAnyH_take (i := 10) (oi := ({ dst := Option.some 14, op := Go.Op.nilCheck (Go.Operand.tmp 13), type := 0, pos := "ref.go:49", after := #[{ on := 9, ground := Go.Ground.data }], guard := Option.none } : Oper)) (v := ?v10x33) rfl (by kernel_rfl) (by kernel_rfl) (by kernel_rfl) (fun _ _ _ h => h) (Or.inl ⟨by rfl, ?hy10x33⟩) trivial ?rest10x33
  case hy10x33 =>
    intro W0 hSw
    (try dsimp only at hSw)
    go_simp
    first | done | with_reducible rfl
  try simp only [Act.put, List.setIfInBounds_toArray, List.set_cons_zero, List.set_cons_succ]
  refine wpAnyH_take (i := 11) (oi := ({ dst := Option.some 15, op := Go.Op.fieldAddr 28 (Go.Operand.tmp 14) 0, type := 0, pos := "ref.go:49", after := #[{ on := 10, ground := Go.Ground.data }], guard := Option.none } : Oper)) (v := ?v11x34) rfl (by kernel_rfl) (by kernel_rfl) (by kernel_rfl) (fun _ _ _ h => h) (Or.inl ⟨by rfl, ?hy11x34⟩) trivial ?rest11x34
  case hy11x34 =>
    intro W0 hSw
    (try dsimp only at hSw)
    go_simp
    first | done | with_reducible rfl
  try simp only [Act.put, List.setIfInBounds_toArray, List.set_cons_zero, List.set_cons_succ]
  refine wpAnyH_take (i := 13) (oi := ({ dst := Option.some 17, op := Go.Op.move (Go.Operand.tmp 1), type := 3, pos := "ref.go:49", after := #[], guard := Option.none } : Oper)) (v := ?v13x35) rfl (by kernel_rfl) (by kernel_rfl) (by kernel_rfl) (fun _ _ _ h => h) (Or.inl ⟨by rfl, ?hy13x35⟩) trivial ?rest13x35
  case hy13x35 =>
    intro W0 hSw
    (try dsimp only at hSw)
    go_simp
    first | done | with_reducible rfl
  try simp only [Act.put, List.setIfInBounds_toArray, List.set_cons_zero, List.set_cons_succ]
  refine wpAnyH_take (i := 14) (oi := ({ dst := Option.some 18, op := Go.Op.binOp Go.BinOp.add 3 (Go.Operand.tmp 17) (Go.Operand.const (Go.Value.int Go.IntKind.i64 1)) 3, type := 3, pos := "ref.go:49", after := #[{ on := 13, ground := Go.Ground.data }], guard := Option.none } : Oper)) (v := ?v14x36) rfl (by kernel_rfl) (by kernel_rfl) (by kernel_rfl) (fun _ _ _ h => h) (Or.inl ⟨by rfl, ?hy14x36⟩) trivial ?rest14x36
  case hy14x36 =>
    intro W0 hSw
    (try dsimp only at hSw)
    go_simp
    first | done | with_reducible rfl
  try simp only [Act.put, List.setIfInBounds_toArray, List.set_cons_zero, List.set_cons_succ]
  refine wpAnyH_ready (rs := [1, 5, 12]) (by kernel_rfl) (by simp) ?_
  refine AllReadyH.cons (o := ({ dst := Option.some 5, op := Go.Op.buildSlice 26 0 #[], type := 26, pos := "ref.go:49", after := #[], guard := Option.none } : Oper)) rfl (fun K0 hK0 => ?_) (AllReadyH.cons (o := ({ dst := Option.some 9, op := Go.Op.load 26 (Go.Operand.tmp 8), type := 26, pos := "ref.go:49", after := #[{ on := 4, ground := Go.Ground.data }], guard := Option.none } : Oper)) rfl (fun K0 hK0 => ?_) (AllReadyH.cons (o := ({ dst := Option.some 16, op := Go.Op.load 26 (Go.Operand.tmp 15), type := 26, pos := "ref.go:49", after := #[{ on := 11, ground := Go.Ground.data }], guard := Option.none } : Oper)) rfl (fun K0 hK0 => ?_) AllReadyH.nil))
  · go_simp
    refine hK0.out _ _ trivial (fun _ => ?_)
    clear hK0 K0
    try simp only [Act.put, List.setIfInBounds_toArray, List.set_cons_zero, List.set_cons_succ]
    refine wpAnyH_ready (rs := [5, 12]) (by kernel_rfl) (by simp) ?_
    refine AllReadyH.cons (o := ({ dst := Option.some 9, op := Go.Op.load 26 (Go.Operand.tmp 8), type := 26, pos := "ref.go:49", after := #[{ on := 4, ground := Go.Ground.data }], guard := Option.none } : Oper)) rfl (fun K0 hK0 => ?_) (AllReadyH.cons (o := ({ dst := Option.some 16, op := Go.Op.load 26 (Go.Operand.tmp 15), type := 26, pos := "ref.go:49", after := #[{ on := 11, ground := Go.Ground.data }], guard := Option.none } : Oper)) rfl (fun K0 hK0 => ?_) AllReadyH.nil)
    · go_simp
      refine hK0.out _ _ trivial (fun _ => ?_)
      clear hK0 K0
      try simp only [Act.put, List.setIfInBounds_toArray, List.set_cons_zero, List.set_cons_succ]
      refine wpAnyH_take (i := 7) (oi := ({ dst := Option.some 11, op := Go.Op.slice 26 (Go.Operand.tmp 9) Option.none (Option.some (Go.Operand.tmp 10)) Option.none, type := 26, pos := "ref.go:49", after := #[{ on := 5, ground := Go.Ground.data }, { on := 6, ground := Go.Ground.data }], guard := Option.none } : Oper)) (v := ?v7x37) rfl (by kernel_rfl) (by kernel_rfl) (by kernel_rfl) (fun _ _ _ h => h) (Or.inl ⟨by rfl, ?hy7x37⟩) trivial ?rest7x37
      case hy7x37 =>
        intro W0 hSw
        (try dsimp only at hSw)
        go_simp
        first | done | with_reducible rfl
      try simp only [Act.put, List.setIfInBounds_toArray, List.set_cons_zero, List.set_cons_succ]
      refine wpAnyH_ready (rs := [8, 12]) (by kernel_rfl) (by simp) ?_
      refine AllReadyH.cons (o := ({ dst := Option.some 12, op := Go.Op.call { callee := Go.Callee.builtin Go.Builtin.append, args := #[Go.Operand.tmp 5, Go.Operand.tmp 11], argTypes := #[26, 26] }, type := 26, pos := "ref.go:49", after := #[{ on := 1, ground := Go.Ground.data }, { on := 7, ground := Go.Ground.data }], guard := Option.none } : Oper)) rfl (fun K0 hK0 => ?_) (AllReadyH.cons (o := ({ dst := Option.some 16, op := Go.Op.load 26 (Go.Operand.tmp 15), type := 26, pos := "ref.go:49", after := #[{ on := 11, ground := Go.Ground.data }], guard := Option.none } : Oper)) rfl (fun K0 hK0 => ?_) AllReadyH.nil)
      · refine step_appY (xs := []) (ys := ws.take i) (B := w.heap.size) rfl _ _ 26 rfl Try.underlying26 rfl HE0.out rfl HLT.out HR1.out (by have := HF1.out; simp; omega) HZ0.out ?_
        intro v8 w8 ho8 hg8
        obtain ⟨g8, cap8, hv8, hB8⟩ := ho8.2
        rw [show (([] : List Wy) ++ ws.take i).length = i from HLT.out] at hv8
        subst hv8
        have hb8 := HG8.out w8 hg8
        have c8 := HC8.out w8 hb8
        have HR8 := Lib.hid (HR2.out w8 hb8)
        have HO8 := Lib.hid ho8
        have HB8 := Lib.hid hb8
        refine hK0.out _ _ trivial (fun _ => ?_)
        clear ho8 hg8 hb8
        clear hK0 K0
        try simp only [Act.put, List.setIfInBounds_toArray, List.set_cons_zero, List.set_cons_succ]
        refine wpAnyH_ready (rs := [12]) (by kernel_rfl) (by simp) ?_
        refine AllReadyH.cons (o := ({ dst := Option.some 16, op := Go.Op.load 26 (Go.Operand.tmp 15), type := 26, pos := "ref.go:49", after := #[{ on := 11, ground := Go.Ground.data }], guard := Option.none } : Oper)) rfl (fun K0 hK0 => ?_) AllReadyH.nil
        go_simp
        refine hK0.out _ _ trivial (fun _ => ?_)
        clear hK0 K0
        try simp only [Act.put, List.setIfInBounds_toArray, List.set_cons_zero, List.set_cons_succ]
        refine wpAnyH_take (i := 15) (oi := ({ dst := Option.some 19, op := Go.Op.slice 26 (Go.Operand.tmp 16) (Option.some (Go.Operand.tmp 18)) Option.none Option.none, type := 26, pos := "ref.go:49", after := #[{ on := 12, ground := Go.Ground.data }, { on := 14, ground := Go.Ground.data }], guard := Option.none } : Oper)) (v := ?v15x38) rfl (by kernel_rfl) (by kernel_rfl) (by kernel_rfl) (fun _ _ _ h => h) (Or.inl ⟨by rfl, ?hy15x38⟩) trivial ?rest15x38
        case hy15x38 =>
          intro W0 hSw
          (try dsimp only at hSw)
          go_simp
          first | done | with_reducible rfl
        try simp only [Act.put, List.setIfInBounds_toArray, List.set_cons_zero, List.set_cons_succ]
        refine wpAnyH_ready (rs := [16]) (by kernel_rfl) (by simp) ?_
        refine AllReadyH.cons (o := ({ dst := Option.some 20, op := Go.Op.call { callee := Go.Callee.builtin Go.Builtin.append, args := #[Go.Operand.tmp 12, Go.Operand.tmp 19], argTypes := #[26, 26] }, type := 26, pos := "ref.go:49", after := #[{ on := 8, ground := Go.Ground.data }, { on := 15, ground := Go.Ground.data }, { on := 8, ground := Go.Ground.chain }], guard := Option.none } : Oper)) rfl (fun K0 hK0 => ?_) AllReadyH.nil
        refine step_appY (xs := [] ++ ws.take i) (ys := ws.drop (i + 1)) (B := w.heap.size) rfl _ _ 26 rfl Try.underlying26 rfl HO8.out rfl HLD.out HR8.out (by have := HF1.out; simp; omega) (by have := HZ0.out; have := HB8.out.size; omega) ?_
        intro v9 w9 ho9 hg9
        obtain ⟨g9, cap9, hv9, hB9⟩ := ho9.2
        rw [HN9.out] at hv9
        subst hv9
        have hb9 : Below w.heap.size w w9 := HB8.out.trans (grown_below' hg9 hB8 HB8.out.size)
        have c9 := HC8.out w9 hb9
        have z9 := HF8.out w9 hb9
        have HO9 := Lib.hid ho9
        have HB9 := Lib.hid hb9
        refine hK0.out _ _ trivial (fun _ => ?_)
        clear ho9 hg9 hB9 hb9
        clear hK0 K0
        try simp only [Act.put, List.setIfInBounds_toArray, List.set_cons_zero, List.set_cons_succ]
        refine wpAnyH_take (i := 17) (oi := ({ dst := Option.some 21, op := Go.Op.nilCheck (Go.Operand.tmp 4), type := 0, pos := "ref.go:49", after := #[{ on := 0, ground := Go.Ground.data }, { on := 0, ground := Go.Ground.phase }, { on := 1, ground := Go.Ground.phase }, { on := 2, ground := Go.Ground.phase }, { on := 3, ground := Go.Ground.phase }, { on := 4, ground := Go.Ground.phase }, { on := 5, ground := Go.Ground.phase }, { on := 6, ground := Go.Ground.phase }, { on := 7, ground := Go.Ground.phase }, { on := 8, ground := Go.Ground.phase }, { on := 9, ground := Go.Ground.phase }, { on := 10, ground := Go.Ground.phase }, { on := 11, ground := Go.Ground.phase }, { on := 12, ground := Go.Ground.phase }, { on := 13, ground := Go.Ground.phase }, { on := 14, ground := Go.Ground.phase }, { on := 15, ground := Go.Ground.phase }, { on := 16, ground := Go.Ground.phase }], guard := Option.none } : Oper)) (v := ?v17x39) rfl (by kernel_rfl) (by kernel_rfl) (by kernel_rfl) (fun _ _ _ h => h) (Or.inl ⟨by rfl, ?hy17x39⟩) trivial ?rest17x39
        case hy17x39 =>
          intro W0 hSw
          (try dsimp only at hSw)
          go_simp
          first | done | with_reducible rfl
        try simp only [Act.put, List.setIfInBounds_toArray, List.set_cons_zero, List.set_cons_succ]
        refine wpAnyH_take (i := 18) (oi := ({ dst := Option.some 22, op := Go.Op.fieldAddr 28 (Go.Operand.tmp 21) 0, type := 0, pos := "ref.go:49", after := #[{ on := 17, ground := Go.Ground.data }, { on := 0, ground := Go.Ground.phase }, { on := 1, ground := Go.Ground.phase }, { on := 2, ground := Go.Ground.phase }, { on := 3, ground := Go.Ground.phase }, { on := 4, ground := Go.Ground.phase }, { on := 5, ground := Go.Ground.phase }, { on := 6, ground := Go.Ground.phase }, { on := 7, ground := Go.Ground.phase }, { on := 8, ground := Go.Ground.phase }, { on := 9, ground := Go.Ground.phase }, { on := 10, ground := Go.Ground.phase }, { on := 11, ground := Go.Ground.phase }, { on := 12, ground := Go.Ground.phase }, { on := 13, ground := Go.Ground.phase }, { on := 14, ground := Go.Ground.phase }, { on := 15, ground := Go.Ground.phase }, { on := 16, ground := Go.Ground.phase }], guard := Option.none } : Oper)) (v := ?v18x40) rfl (by kernel_rfl) (by kernel_rfl) (by kernel_rfl) (fun _ _ _ h => h) (Or.inl ⟨by rfl, ?hy18x40⟩) trivial ?rest18x40
        case hy18x40 =>
          intro W0 hSw
          (try dsimp only at hSw)
          go_simp
          first | done | with_reducible rfl
        try simp only [Act.put, List.setIfInBounds_toArray, List.set_cons_zero, List.set_cons_succ]
        refine wpAnyH_ready (rs := [19]) (by kernel_rfl) (by simp) ?_
        refine AllReadyH.cons (o := ({ dst := Option.none, op := Go.Op.store 26 (Go.Operand.tmp 22) (Go.Operand.tmp 20), type := 0, pos := "ref.go:49", after := #[{ on := 18, ground := Go.Ground.data }, { on := 16, ground := Go.Ground.data }, { on := 16, ground := Go.Ground.chain }, { on := 0, ground := Go.Ground.phase }, { on := 1, ground := Go.Ground.phase }, { on := 2, ground := Go.Ground.phase }, { on := 3, ground := Go.Ground.phase }, { on := 4, ground := Go.Ground.phase }, { on := 5, ground := Go.Ground.phase }, { on := 6, ground := Go.Ground.phase }, { on := 7, ground := Go.Ground.phase }, { on := 8, ground := Go.Ground.phase }, { on := 9, ground := Go.Ground.phase }, { on := 10, ground := Go.Ground.phase }, { on := 11, ground := Go.Ground.phase }, { on := 12, ground := Go.Ground.phase }, { on := 13, ground := Go.Ground.phase }, { on := 14, ground := Go.Ground.phase }, { on := 15, ground := Go.Ground.phase }, { on := 16, ground := Go.Ground.phase }], guard := Option.none } : Oper)) rfl (fun K0 hK0 => ?_) AllReadyH.nil
        go_simp
        refine hK0.out _ _ trivial (fun _ => ?_)
        clear hK0 K0
        try simp only [Act.put, List.setIfInBounds_toArray, List.set_cons_zero, List.set_cons_succ]
        refine wpAnyH_done (by kernel_rfl) ?_ _
        refine bodyPost_end (v := .tuple #[]) (by simp [results, Try.results32, go_sem]) rfl ?_
        exact ⟨rfl, HEND.out _ _ _ HB9.out HO9.out⟩
      · go_simp
        refine hK0.out _ _ trivial (fun _ => ?_)
        clear hK0 K0
        try simp only [Act.put, List.setIfInBounds_toArray, List.set_cons_zero, List.set_cons_succ]
        refine wpAnyH_take (i := 15) (oi := ({ dst := Option.some 19, op := Go.Op.slice 26 (Go.Operand.tmp 16) (Option.some (Go.Operand.tmp 18)) Option.none Option.none, type := 26, pos := "ref.go:49", after := #[{ on := 12, ground := Go.Ground.data }, { on := 14, ground := Go.Ground.data }], guard := Option.none } : Oper)) (v := ?v15x41) rfl (by kernel_rfl) (by kernel_rfl) (by kernel_rfl) (fun _ _ _ h => h) (Or.inl ⟨by rfl, ?hy15x41⟩) trivial ?rest15x41
        case hy15x41 =>
          intro W0 hSw
          (try dsimp only at hSw)
          go_simp
          first | done | with_reducible rfl
        try simp only [Act.put, List.setIfInBounds_toArray, List.set_cons_zero, List.set_cons_succ]
        refine wpAnyH_ready (rs := [8]) (by kernel_rfl) (by simp) ?_
        refine AllReadyH.cons (o := ({ dst := Option.some 12, op := Go.Op.call { callee := Go.Callee.builtin Go.Builtin.append, args := #[Go.Operand.tmp 5, Go.Operand.tmp 11], argTypes := #[26, 26] }, type := 26, pos := "ref.go:49", after := #[{ on := 1, ground := Go.Ground.data }, { on := 7, ground := Go.Ground.data }], guard := Option.none } : Oper)) rfl (fun K0 hK0 => ?_) AllReadyH.nil
        refine step_appY (xs := []) (ys := ws.take i) (B := w.heap.size) rfl _ _ 26 rfl Try.underlying26 rfl HE0.out rfl HLT.out HR1.out (by have := HF1.out; simp; omega) HZ0.out ?_
        intro v8 w8 ho8 hg8
        obtain ⟨g8, cap8, hv8, hB8⟩ := ho8.2
        rw [show (([] : List Wy) ++ ws.take i).length = i from HLT.out] at hv8
        subst hv8
        have hb8 := HG8.out w8 hg8
        have c8 := HC8.out w8 hb8
        have HR8 := Lib.hid (HR2.out w8 hb8)
        have HO8 := Lib.hid ho8
        have HB8 := Lib.hid hb8
        refine hK0.out _ _ trivial (fun _ => ?_)
        clear ho8 hg8 hb8
        clear hK0 K0
        try simp only [Act.put, List.setIfInBounds_toArray, List.set_cons_zero, List.set_cons_succ]
        refine wpAnyH_ready (rs := [16]) (by kernel_rfl) (by simp) ?_
        refine AllReadyH.cons (o := ({ dst := Option.some 20, op := Go.Op.call { callee := Go.Callee.builtin Go.Builtin.append, args := #[Go.Operand.tmp 12, Go.Operand.tmp 19], argTypes := #[26, 26] }, type := 26, pos := "ref.go:49", after := #[{ on := 8, ground := Go.Ground.data }, { on := 15, ground := Go.Ground.data }, { on := 8, ground := Go.Ground.chain }], guard := Option.none } : Oper)) rfl (fun K0 hK0 => ?_) AllReadyH.nil
        refine step_appY (xs := [] ++ ws.take i) (ys := ws.drop (i + 1)) (B := w.heap.size) rfl _ _ 26 rfl Try.underlying26 rfl HO8.out rfl HLD.out HR8.out (by have := HF1.out; simp; omega) (by have := HZ0.out; have := HB8.out.size; omega) ?_
        intro v9 w9 ho9 hg9
        obtain ⟨g9, cap9, hv9, hB9⟩ := ho9.2
        rw [HN9.out] at hv9
        subst hv9
        have hb9 : Below w.heap.size w w9 := HB8.out.trans (grown_below' hg9 hB8 HB8.out.size)
        have c9 := HC8.out w9 hb9
        have z9 := HF8.out w9 hb9
        have HO9 := Lib.hid ho9
        have HB9 := Lib.hid hb9
        refine hK0.out _ _ trivial (fun _ => ?_)
        clear ho9 hg9 hB9 hb9
        clear hK0 K0
        try simp only [Act.put, List.setIfInBounds_toArray, List.set_cons_zero, List.set_cons_succ]
        refine wpAnyH_take (i := 17) (oi := ({ dst := Option.some 21, op := Go.Op.nilCheck (Go.Operand.tmp 4), type := 0, pos := "ref.go:49", after := #[{ on := 0, ground := Go.Ground.data }, { on := 0, ground := Go.Ground.phase }, { on := 1, ground := Go.Ground.phase }, { on := 2, ground := Go.Ground.phase }, { on := 3, ground := Go.Ground.phase }, { on := 4, ground := Go.Ground.phase }, { on := 5, ground := Go.Ground.phase }, { on := 6, ground := Go.Ground.phase }, { on := 7, ground := Go.Ground.phase }, { on := 8, ground := Go.Ground.phase }, { on := 9, ground := Go.Ground.phase }, { on := 10, ground := Go.Ground.phase }, { on := 11, ground := Go.Ground.phase }, { on := 12, ground := Go.Ground.phase }, { on := 13, ground := Go.Ground.phase }, { on := 14, ground := Go.Ground.phase }, { on := 15, ground := Go.Ground.phase }, { on := 16, ground := Go.Ground.phase }], guard := Option.none } : Oper)) (v := ?v17x42) rfl (by kernel_rfl) (by kernel_rfl) (by kernel_rfl) (fun _ _ _ h => h) (Or.inl ⟨by rfl, ?hy17x42⟩) trivial ?rest17x42
        case hy17x42 =>
          intro W0 hSw
          (try dsimp only at hSw)
          go_simp
          first | done | with_reducible rfl
        try simp only [Act.put, List.setIfInBounds_toArray, List.set_cons_zero, List.set_cons_succ]
        refine wpAnyH_take (i := 18) (oi := ({ dst := Option.some 22, op := Go.Op.fieldAddr 28 (Go.Operand.tmp 21) 0, type := 0, pos := "ref.go:49", after := #[{ on := 17, ground := Go.Ground.data }, { on := 0, ground := Go.Ground.phase }, { on := 1, ground := Go.Ground.phase }, { on := 2, ground := Go.Ground.phase }, { on := 3, ground := Go.Ground.phase }, { on := 4, ground := Go.Ground.phase }, { on := 5, ground := Go.Ground.phase }, { on := 6, ground := Go.Ground.phase }, { on := 7, ground := Go.Ground.phase }, { on := 8, ground := Go.Ground.phase }, { on := 9, ground := Go.Ground.phase }, { on := 10, ground := Go.Ground.phase }, { on := 11, ground := Go.Ground.phase }, { on := 12, ground := Go.Ground.phase }, { on := 13, ground := Go.Ground.phase }, { on := 14, ground := Go.Ground.phase }, { on := 15, ground := Go.Ground.phase }, { on := 16, ground := Go.Ground.phase }], guard := Option.none } : Oper)) (v := ?v18x43) rfl (by kernel_rfl) (by kernel_rfl) (by kernel_rfl) (fun _ _ _ h => h) (Or.inl ⟨by rfl, ?hy18x43⟩) trivial ?rest18x43
        case hy18x43 =>
          intro W0 hSw
          (try dsimp only at hSw)
          go_simp
          first | done | with_reducible rfl
        try simp only [Act.put, List.setIfInBounds_toArray, List.set_cons_zero, List.set_cons_succ]
        refine wpAnyH_ready (rs := [19]) (by kernel_rfl) (by simp) ?_
        refine AllReadyH.cons (o := ({ dst := Option.none, op := Go.Op.store 26 (Go.Operand.tmp 22) (Go.Operand.tmp 20), type := 0, pos := "ref.go:49", after := #[{ on := 18, ground := Go.Ground.data }, { on := 16, ground := Go.Ground.data }, { on := 16, ground := Go.Ground.chain }, { on := 0, ground := Go.Ground.phase }, { on := 1, ground := Go.Ground.phase }, { on := 2, ground := Go.Ground.phase }, { on := 3, ground := Go.Ground.phase }, { on := 4, ground := Go.Ground.phase }, { on := 5, ground := Go.Ground.phase }, { on := 6, ground := Go.Ground.phase }, { on := 7, ground := Go.Ground.phase }, { on := 8, ground := Go.Ground.phase }, { on := 9, ground := Go.Ground.phase }, { on := 10, ground := Go.Ground.phase }, { on := 11, ground := Go.Ground.phase }, { on := 12, ground := Go.Ground.phase }, { on := 13, ground := Go.Ground.phase }, { on := 14, ground := Go.Ground.phase }, { on := 15, ground := Go.Ground.phase }, { on := 16, ground := Go.Ground.phase }], guard := Option.none } : Oper)) rfl (fun K0 hK0 => ?_) AllReadyH.nil
        go_simp
        refine hK0.out _ _ trivial (fun _ => ?_)
        clear hK0 K0
        try simp only [Act.put, List.setIfInBounds_toArray, List.set_cons_zero, List.set_cons_succ]
        refine wpAnyH_done (by kernel_rfl) ?_ _
        refine bodyPost_end (v := .tuple #[]) (by simp [results, Try.results32, go_sem]) rfl ?_
        exact ⟨rfl, HEND.out _ _ _ HB9.out HO9.out⟩
    · go_simp
      refine hK0.out _ _ trivial (fun _ => ?_)
      clear hK0 K0
      try simp only [Act.put, List.setIfInBounds_toArray, List.set_cons_zero, List.set_cons_succ]
      refine wpAnyH_take (i := 15) (oi := ({ dst := Option.some 19, op := Go.Op.slice 26 (Go.Operand.tmp 16) (Option.some (Go.Operand.tmp 18)) Option.none Option.none, type := 26, pos := "ref.go:49", after := #[{ on := 12, ground := Go.Ground.data }, { on := 14, ground := Go.Ground.data }], guard := Option.none } : Oper)) (v := ?v15x44) rfl (by kernel_rfl) (by kernel_rfl) (by kernel_rfl) (fun _ _ _ h => h) (Or.inl ⟨by rfl, ?hy15x44⟩) trivial ?rest15x44
      case hy15x44 =>
        intro W0 hSw
        (try dsimp only at hSw)
        go_simp
        first | done | with_reducible rfl
      try simp only [Act.put, List.setIfInBounds_toArray, List.set_cons_zero, List.set_cons_succ]
      refine wpAnyH_ready (rs := [5]) (by kernel_rfl) (by simp) ?_
      refine AllReadyH.cons (o := ({ dst := Option.some 9, op := Go.Op.load 26 (Go.Operand.tmp 8), type := 26, pos := "ref.go:49", after := #[{ on := 4, ground := Go.Ground.data }], guard := Option.none } : Oper)) rfl (fun K0 hK0 => ?_) AllReadyH.nil
      go_simp
      refine hK0.out _ _ trivial (fun _ => ?_)
      clear hK0 K0
      try simp only [Act.put, List.setIfInBounds_toArray, List.set_cons_zero, List.set_cons_succ]
      refine wpAnyH_take (i := 7) (oi := ({ dst := Option.some 11, op := Go.Op.slice 26 (Go.Operand.tmp 9) Option.none (Option.some (Go.Operand.tmp 10)) Option.none, type := 26, pos := "ref.go:49", after := #[{ on := 5, ground := Go.Ground.data }, { on := 6, ground := Go.Ground.data }], guard := Option.none } : Oper)) (v := ?v7x45) rfl (by kernel_rfl) (by kernel_rfl) (by kernel_rfl) (fun _ _ _ h => h) (Or.inl ⟨by rfl, ?hy7x45⟩) trivial ?rest7x45
      case hy7x45 =>
        intro W0 hSw
        (try dsimp only at hSw)
        go_simp
        first | done | with_reducible rfl
      try simp only [Act.put, List.setIfInBounds_toArray, List.set_cons_zero, List.set_cons_succ]
      refine wpAnyH_ready (rs := [8]) (by kernel_rfl) (by simp) ?_
      refine AllReadyH.cons (o := ({ dst := Option.some 12, op := Go.Op.call { callee := Go.Callee.builtin Go.Builtin.append, args := #[Go.Operand.tmp 5, Go.Operand.tmp 11], argTypes := #[26, 26] }, type := 26, pos := "ref.go:49", after := #[{ on := 1, ground := Go.Ground.data }, { on := 7, ground := Go.Ground.data }], guard := Option.none } : Oper)) rfl (fun K0 hK0 => ?_) AllReadyH.nil
      refine step_appY (xs := []) (ys := ws.take i) (B := w.heap.size) rfl _ _ 26 rfl Try.underlying26 rfl HE0.out rfl HLT.out HR1.out (by have := HF1.out; simp; omega) HZ0.out ?_
      intro v8 w8 ho8 hg8
      obtain ⟨g8, cap8, hv8, hB8⟩ := ho8.2
      rw [show (([] : List Wy) ++ ws.take i).length = i from HLT.out] at hv8
      subst hv8
      have hb8 := HG8.out w8 hg8
      have c8 := HC8.out w8 hb8
      have HR8 := Lib.hid (HR2.out w8 hb8)
      have HO8 := Lib.hid ho8
      have HB8 := Lib.hid hb8
      refine hK0.out _ _ trivial (fun _ => ?_)
      clear ho8 hg8 hb8
      clear hK0 K0
      try simp only [Act.put, List.setIfInBounds_toArray, List.set_cons_zero, List.set_cons_succ]
      refine wpAnyH_ready (rs := [16]) (by kernel_rfl) (by simp) ?_
      refine AllReadyH.cons (o := ({ dst := Option.some 20, op := Go.Op.call { callee := Go.Callee.builtin Go.Builtin.append, args := #[Go.Operand.tmp 12, Go.Operand.tmp 19], argTypes := #[26, 26] }, type := 26, pos := "ref.go:49", after := #[{ on := 8, ground := Go.Ground.data }, { on := 15, ground := Go.Ground.data }, { on := 8, ground := Go.Ground.chain }], guard := Option.none } : Oper)) rfl (fun K0 hK0 => ?_) AllReadyH.nil
      refine step_appY (xs := [] ++ ws.take i) (ys := ws.drop (i + 1)) (B := w.heap.size) rfl _ _ 26 rfl Try.underlying26 rfl HO8.out rfl HLD.out HR8.out (by have := HF1.out; simp; omega) (by have := HZ0.out; have := HB8.out.size; omega) ?_
      intro v9 w9 ho9 hg9
      obtain ⟨g9, cap9, hv9, hB9⟩ := ho9.2
      rw [HN9.out] at hv9
      subst hv9
      have hb9 : Below w.heap.size w w9 := HB8.out.trans (grown_below' hg9 hB8 HB8.out.size)
      have c9 := HC8.out w9 hb9
      have z9 := HF8.out w9 hb9
      have HO9 := Lib.hid ho9
      have HB9 := Lib.hid hb9
      refine hK0.out _ _ trivial (fun _ => ?_)
      clear ho9 hg9 hB9 hb9
      clear hK0 K0
      try simp only [Act.put, List.setIfInBounds_toArray, List.set_cons_zero, List.set_cons_succ]
      refine wpAnyH_take (i := 17) (oi := ({ dst := Option.some 21, op := Go.Op.nilCheck (Go.Operand.tmp 4), type := 0, pos := "ref.go:49", after := #[{ on := 0, ground := Go.Ground.data }, { on := 0, ground := Go.Ground.phase }, { on := 1, ground := Go.Ground.phase }, { on := 2, ground := Go.Ground.phase }, { on := 3, ground := Go.Ground.phase }, { on := 4, ground := Go.Ground.phase }, { on := 5, ground := Go.Ground.phase }, { on := 6, ground := Go.Ground.phase }, { on := 7, ground := Go.Ground.phase }, { on := 8, ground := Go.Ground.phase }, { on := 9, ground := Go.Ground.phase }, { on := 10, ground := Go.Ground.phase }, { on := 11, ground := Go.Ground.phase }, { on := 12, ground := Go.Ground.phase }, { on := 13, ground := Go.Ground.phase }, { on := 14, ground := Go.Ground.phase }, { on := 15, ground := Go.Ground.phase }, { on := 16, ground := Go.Ground.phase }], guard := Option.none } : Oper)) (v := ?v17x46) rfl (by kernel_rfl) (by kernel_rfl) (by kernel_rfl) (fun _ _ _ h => h) (Or.inl ⟨by rfl, ?hy17x46⟩) trivial ?rest17x46
      case hy17x46 =>
        intro W0 hSw
        (try dsimp only at hSw)
        go_simp
        first | done | with_reducible rfl
      try simp only [Act.put, List.setIfInBounds_toArray, List.set_cons_zero, List.set_cons_succ]
      refine wpAnyH_take (i := 18) (oi := ({ dst := Option.some 22, op := Go.Op.fieldAddr 28 (Go.Operand.tmp 21) 0, type := 0, pos := "ref.go:49", after := #[{ on := 17, ground := Go.Ground.data }, { on := 0, ground := Go.Ground.phase }, { on := 1, ground := Go.Ground.phase }, { on := 2, ground := Go.Ground.phase }, { on := 3, ground := Go.Ground.phase }, { on := 4, ground := Go.Ground.phase }, { on := 5, ground := Go.Ground.phase }, { on := 6, ground := Go.Ground.phase }, { on := 7, ground := Go.Ground.phase }, { on := 8, ground := Go.Ground.phase }, { on := 9, ground := Go.Ground.phase }, { on := 10, ground := Go.Ground.phase }, { on := 11, ground := Go.Ground.phase }, { on := 12, ground := Go.Ground.phase }, { on := 13, ground := Go.Ground.phase }, { on := 14, ground := Go.Ground.phase }, { on := 15, ground := Go.Ground.phase }, { on := 16, ground := Go.Ground.phase }], guard := Option.none } : Oper)) (v := ?v18x47) rfl (by kernel_rfl) (by kernel_rfl) (by kernel_rfl) (fun _ _ _ h => h) (Or.inl ⟨by rfl, ?hy18x47⟩) trivial ?rest18x47
      case hy18x47 =>
        intro W0 hSw
        (try dsimp only at hSw)
        go_simp
        first | done | with_reducible rfl
      try simp only [Act.put, List.setIfInBounds_toArray, List.set_cons_zero, List.set_cons_succ]
      refine wpAnyH_ready (rs := [19]) (by kernel_rfl) (by simp) ?_
      refine AllReadyH.cons (o := ({ dst := Option.none, op := Go.Op.store 26 (Go.Operand.tmp 22) (Go.Operand.tmp 20), type := 0, pos := "ref.go:49", after := #[{ on := 18, ground := Go.Ground.data }, { on := 16, ground := Go.Ground.data }, { on := 16, ground := Go.Ground.chain }, { on := 0, ground := Go.Ground.phase }, { on := 1, ground := Go.Ground.phase }, { on := 2, ground := Go.Ground.phase }, { on := 3, ground := Go.Ground.phase }, { on := 4, ground := Go.Ground.phase }, { on := 5, ground := Go.Ground.phase }, { on := 6, ground := Go.Ground.phase }, { on := 7, ground := Go.Ground.phase }, { on := 8, ground := Go.Ground.phase }, { on := 9, ground := Go.Ground.phase }, { on := 10, ground := Go.Ground.phase }, { on := 11, ground := Go.Ground.phase }, { on := 12, ground := Go.Ground.phase }, { on := 13, ground := Go.Ground.phase }, { on := 14, ground := Go.Ground.phase }, { on := 15, ground := Go.Ground.phase }, { on := 16, ground := Go.Ground.phase }], guard := Option.none } : Oper)) rfl (fun K0 hK0 => ?_) AllReadyH.nil
      go_simp
      refine hK0.out _ _ trivial (fun _ => ?_)
      clear hK0 K0
      try simp only [Act.put, List.setIfInBounds_toArray, List.set_cons_zero, List.set_cons_succ]
      refine wpAnyH_done (by kernel_rfl) ?_ _
      refine bodyPost_end (v := .tuple #[]) (by simp [results, Try.results32, go_sem]) rfl ?_
      exact ⟨rfl, HEND.out _ _ _ HB9.out HO9.out⟩
  · go_simp
    refine hK0.out _ _ trivial (fun _ => ?_)
    clear hK0 K0
    try simp only [Act.put, List.setIfInBounds_toArray, List.set_cons_zero, List.set_cons_succ]
    refine wpAnyH_take (i := 7) (oi := ({ dst := Option.some 11, op := Go.Op.slice 26 (Go.Operand.tmp 9) Option.none (Option.some (Go.Operand.tmp 10)) Option.none, type := 26, pos := "ref.go:49", after := #[{ on := 5, ground := Go.Ground.data }, { on := 6, ground := Go.Ground.data }], guard := Option.none } : Oper)) (v := ?v7x48) rfl (by kernel_rfl) (by kernel_rfl) (by kernel_rfl) (fun _ _ _ h => h) (Or.inl ⟨by rfl, ?hy7x48⟩) trivial ?rest7x48
    case hy7x48 =>
      intro W0 hSw
      (try dsimp only at hSw)
      go_simp
      first | done | with_reducible rfl
    try simp only [Act.put, List.setIfInBounds_toArray, List.set_cons_zero, List.set_cons_succ]
    refine wpAnyH_ready (rs := [1, 12]) (by kernel_rfl) (by simp) ?_
    refine AllReadyH.cons (o := ({ dst := Option.some 5, op := Go.Op.buildSlice 26 0 #[], type := 26, pos := "ref.go:49", after := #[], guard := Option.none } : Oper)) rfl (fun K0 hK0 => ?_) (AllReadyH.cons (o := ({ dst := Option.some 16, op := Go.Op.load 26 (Go.Operand.tmp 15), type := 26, pos := "ref.go:49", after := #[{ on := 11, ground := Go.Ground.data }], guard := Option.none } : Oper)) rfl (fun K0 hK0 => ?_) AllReadyH.nil)
    · go_simp
      refine hK0.out _ _ trivial (fun _ => ?_)
      clear hK0 K0
      try simp only [Act.put, List.setIfInBounds_toArray, List.set_cons_zero, List.set_cons_succ]
      refine wpAnyH_ready (rs := [8, 12]) (by kernel_rfl) (by simp) ?_
      refine AllReadyH.cons (o := ({ dst := Option.some 12, op := Go.Op.call { callee := Go.Callee.builtin Go.Builtin.append, args := #[Go.Operand.tmp 5, Go.Operand.tmp 11], argTypes := #[26, 26] }, type := 26, pos := "ref.go:49", after := #[{ on := 1, ground := Go.Ground.data }, { on := 7, ground := Go.Ground.data }], guard := Option.none } : Oper)) rfl (fun K0 hK0 => ?_) (AllReadyH.cons (o := ({ dst := Option.some 16, op := Go.Op.load 26 (Go.Operand.tmp 15), type := 26, pos := "ref.go:49", after := #[{ on := 11, ground := Go.Ground.data }], guard := Option.none } : Oper)) rfl (fun K0 hK0 => ?_) AllReadyH.nil)
      · refine step_appY (xs := []) (ys := ws.take i) (B := w.heap.size) rfl _ _ 26 rfl Try.underlying26 rfl HE0.out rfl HLT.out HR1.out (by have := HF1.out; simp; omega) HZ0.out ?_
        intro v8 w8 ho8 hg8
        obtain ⟨g8, cap8, hv8, hB8⟩ := ho8.2
        rw [show (([] : List Wy) ++ ws.take i).length = i from HLT.out] at hv8
        subst hv8
        have hb8 := HG8.out w8 hg8
        have c8 := HC8.out w8 hb8
        have HR8 := Lib.hid (HR2.out w8 hb8)
        have HO8 := Lib.hid ho8
        have HB8 := Lib.hid hb8
        refine hK0.out _ _ trivial (fun _ => ?_)
        clear ho8 hg8 hb8
        clear hK0 K0
        try simp only [Act.put, List.setIfInBounds_toArray, List.set_cons_zero, List.set_cons_succ]
        refine wpAnyH_ready (rs := [12]) (by kernel_rfl) (by simp) ?_
        refine AllReadyH.cons (o := ({ dst := Option.some 16, op := Go.Op.load 26 (Go.Operand.tmp 15), type := 26, pos := "ref.go:49", after := #[{ on := 11, ground := Go.Ground.data }], guard := Option.none } : Oper)) rfl (fun K0 hK0 => ?_) AllReadyH.nil
        go_simp
        refine hK0.out _ _ trivial (fun _ => ?_)
        clear hK0 K0
        try simp only [Act.put, List.setIfInBounds_toArray, List.set_cons_zero, List.set_cons_succ]
        refine wpAnyH_take (i := 15) (oi := ({ dst := Option.some 19, op := Go.Op.slice 26 (Go.Operand.tmp 16) (Option.some (Go.Operand.tmp 18)) Option.none Option.none, type := 26, pos := "ref.go:49", after := #[{ on := 12, ground := Go.Ground.data }, { on := 14, ground := Go.Ground.data }], guard := Option.none } : Oper)) (v := ?v15x49) rfl (by kernel_rfl) (by kernel_rfl) (by kernel_rfl) (fun _ _ _ h => h) (Or.inl ⟨by rfl, ?hy15x49⟩) trivial ?rest15x49
        case hy15x49 =>
          intro W0 hSw
          (try dsimp only at hSw)
          go_simp
          first | done | with_reducible rfl
        try simp only [Act.put, List.setIfInBounds_toArray, List.set_cons_zero, List.set_cons_succ]
        refine wpAnyH_ready (rs := [16]) (by kernel_rfl) (by simp) ?_
        refine AllReadyH.cons (o := ({ dst := Option.some 20, op := Go.Op.call { callee := Go.Callee.builtin Go.Builtin.append, args := #[Go.Operand.tmp 12, Go.Operand.tmp 19], argTypes := #[26, 26] }, type := 26, pos := "ref.go:49", after := #[{ on := 8, ground := Go.Ground.data }, { on := 15, ground := Go.Ground.data }, { on := 8, ground := Go.Ground.chain }], guard := Option.none } : Oper)) rfl (fun K0 hK0 => ?_) AllReadyH.nil
        refine step_appY (xs := [] ++ ws.take i) (ys := ws.drop (i + 1)) (B := w.heap.size) rfl _ _ 26 rfl Try.underlying26 rfl HO8.out rfl HLD.out HR8.out (by have := HF1.out; simp; omega) (by have := HZ0.out; have := HB8.out.size; omega) ?_
        intro v9 w9 ho9 hg9
        obtain ⟨g9, cap9, hv9, hB9⟩ := ho9.2
        rw [HN9.out] at hv9
        subst hv9
        have hb9 : Below w.heap.size w w9 := HB8.out.trans (grown_below' hg9 hB8 HB8.out.size)
        have c9 := HC8.out w9 hb9
        have z9 := HF8.out w9 hb9
        have HO9 := Lib.hid ho9
        have HB9 := Lib.hid hb9
        refine hK0.out _ _ trivial (fun _ => ?_)
        clear ho9 hg9 hB9 hb9
        clear hK0 K0
        try simp only [Act.put, List.setIfInBounds_toArray, List.set_cons_zero, List.set_cons_succ]
        refine wpAnyH_take (i := 17) (oi := ({ dst := Option.some 21, op := Go.Op.nilCheck (Go.Operand.tmp 4), type := 0, pos := "ref.go:49", after := #[{ on := 0, ground := Go.Ground.data }, { on := 0, ground := Go.Ground.phase }, { on := 1, ground := Go.Ground.phase }, { on := 2, ground := Go.Ground.phase }, { on := 3, ground := Go.Ground.phase }, { on := 4, ground := Go.Ground.phase }, { on := 5, ground := Go.Ground.phase }, { on := 6, ground := Go.Ground.phase }, { on := 7, ground := Go.Ground.phase }, { on := 8, ground := Go.Ground.phase }, { on := 9, ground := Go.Ground.phase }, { on := 10, ground := Go.Ground.phase }, { on := 11, ground := Go.Ground.phase }, { on := 12, ground := Go.Ground.phase }, { on := 13, ground := Go.Ground.phase }, { on := 14, ground := Go.Ground.phase }, { on := 15, ground := Go.Ground.phase }, { on := 16, ground := Go.Ground.phase }], guard := Option.none } : Oper)) (v := ?v17x50) rfl (by kernel_rfl) (by kernel_rfl) (by kernel_rfl) (fun _ _ _ h => h) (Or.inl ⟨by rfl, ?hy17x50⟩) trivial ?rest17x50
        case hy17x50 =>
          intro W0 hSw
          (try dsimp only at hSw)
          go_simp
          first | done | with_reducible rfl
        try simp only [Act.put, List.setIfInBounds_toArray, List.set_cons_zero, List.set_cons_succ]
        refine wpAnyH_take (i := 18) (oi := ({ dst := Option.some 22, op := Go.Op.fieldAddr 28 (Go.Operand.tmp 21) 0, type := 0, pos := "ref.go:49", after := #[{ on := 17, ground := Go.Ground.data }, { on := 0, ground := Go.Ground.phase }, { on := 1, ground := Go.Ground.phase }, { on := 2, ground := Go.Ground.phase }, { on := 3, ground := Go.Ground.phase }, { on := 4, ground := Go.Ground.phase }, { on := 5, ground := Go.Ground.phase }, { on := 6, ground := Go.Ground.phase }, { on := 7, ground := Go.Ground.phase }, { on := 8, ground := Go.Ground.phase }, { on := 9, ground := Go.Ground.phase }, { on := 10, ground := Go.Ground.phase }, { on := 11, ground := Go.Ground.phase }, { on := 12, ground := Go.Ground.phase }, { on := 13, ground := Go.Ground.phase }, { on := 14, ground := Go.Ground.phase }, { on := 15, ground := Go.Ground.phase }, { on := 16, ground := Go.Ground.phase }], guard := Option.none } : Oper)) (v := ?v18x51) rfl (by kernel_rfl) (by kernel_rfl) (by kernel_rfl) (fun _ _ _ h => h) (Or.inl ⟨by rfl, ?hy18x51⟩) trivial ?rest18x51
        case hy18x51 =>
          intro W0 hSw
          (try dsimp only at hSw)
          go_simp
          first | done | with_reducible rfl
        try simp only [Act.put, List.setIfInBounds_toArray, List.set_cons_zero, List.set_cons_succ]
        refine wpAnyH_ready (rs := [19]) (by kernel_rfl) (by simp) ?_
        refine AllReadyH.cons (o := ({ dst := Option.none, op := Go.Op.store 26 (Go.Operand.tmp 22) (Go.Operand.tmp 20), type := 0, pos := "ref.go:49", after := #[{ on := 18, ground := Go.Ground.data }, { on := 16, ground := Go.Ground.data }, { on := 16, ground := Go.Ground.chain }, { on := 0, ground := Go.Ground.phase }, { on := 1, ground := Go.Ground.phase }, { on := 2, ground := Go.Ground.phase }, { on := 3, ground := Go.Ground.phase }, { on := 4, ground := Go.Ground.phase }, { on := 5, ground := Go.Ground.phase }, { on := 6, ground := Go.Ground.phase }, { on := 7, ground := Go.Ground.phase }, { on := 8, ground := Go.Ground.phase }, { on := 9, ground := Go.Ground.phase }, { on := 10, ground := Go.Ground.phase }, { on := 11, ground := Go.Ground.phase }, { on := 12, ground := Go.Ground.phase }, { on := 13, ground := Go.Ground.phase }, { on := 14, ground := Go.Ground.phase }, { on := 15, ground := Go.Ground.phase }, { on := 16, ground := Go.Ground.phase }], guard := Option.none } : Oper)) rfl (fun K0 hK0 => ?_) AllReadyH.nil
        go_simp
        refine hK0.out _ _ trivial (fun _ => ?_)
        clear hK0 K0
        try simp only [Act.put, List.setIfInBounds_toArray, List.set_cons_zero, List.set_cons_succ]
        refine wpAnyH_done (by kernel_rfl) ?_ _
        refine bodyPost_end (v := .tuple #[]) (by simp [results, Try.results32, go_sem]) rfl ?_
        exact ⟨rfl, HEND.out _ _ _ HB9.out HO9.out⟩
      · go_simp
        refine hK0.out _ _ trivial (fun _ => ?_)
        clear hK0 K0
        try simp only [Act.put, List.setIfInBounds_toArray, List.set_cons_zero, List.set_cons_succ]
        refine wpAnyH_take (i := 15) (oi := ({ dst := Option.some 19, op := Go.Op.slice 26 (Go.Operand.tmp 16) (Option.some (Go.Operand.tmp 18)) Option.none Option.none, type := 26, pos := "ref.go:49", after := #[{ on := 12, ground := Go.Ground.data }, { on := 14, ground := Go.Ground.data }], guard := Option.none } : Oper)) (v := ?v15x52) rfl (by kernel_rfl) (by kernel_rfl) (by kernel_rfl) (fun _ _ _ h => h) (Or.inl ⟨by rfl, ?hy15x52⟩) trivial ?rest15x52
        case hy15x52 =>
          intro W0 hSw
          (try dsimp only at hSw)
          go_simp
          first | done | with_reducible rfl
        try simp only [Act.put, List.setIfInBounds_toArray, List.set_cons_zero, List.set_cons_succ]
        refine wpAnyH_ready (rs := [8]) (by kernel_rfl) (by simp) ?_
        refine AllReadyH.cons (o := ({ dst := Option.some 12, op := Go.Op.call { callee := Go.Callee.builtin Go.Builtin.append, args := #[Go.Operand.tmp 5, Go.Operand.tmp 11], argTypes := #[26, 26] }, type := 26, pos := "ref.go:49", after := #[{ on := 1, ground := Go.Ground.data }, { on := 7, ground := Go.Ground.data }], guard := Option.none } : Oper)) rfl (fun K0 hK0 => ?_) AllReadyH.nil
        refine step_appY (xs := []) (ys := ws.take i) (B := w.heap.size) rfl _ _ 26 rfl Try.underlying26 rfl HE0.out rfl HLT.out HR1.out (by have := HF1.out; simp; omega) HZ0.out ?_
        intro v8 w8 ho8 hg8
        obtain ⟨g8, cap8, hv8, hB8⟩ := ho8.2
        rw [show (([] : List Wy) ++ ws.take i).length = i from HLT.out] at hv8
        subst hv8
        have hb8 := HG8.out w8 hg8
        have c8 := HC8.out w8 hb8
        have HR8 := Lib.hid (HR2.out w8 hb8)
        have HO8 := Lib.hid ho8
        have HB8 := Lib.hid hb8
        refine hK0.out _ _ trivial (fun _ => ?_)
        clear ho8 hg8 hb8
        clear hK0 K0
        try simp only [Act.put, List.setIfInBounds_toArray, List.set_cons_zero, List.set_cons_succ]
        refine wpAnyH_ready (rs := [16]) (by kernel_rfl) (by simp) ?_
        refine AllReadyH.cons (o := ({ dst := Option.some 20, op := Go.Op.call { callee := Go.Callee.builtin Go.Builtin.append, args := #[Go.Operand.tmp 12, Go.Operand.tmp 19], argTypes := #[26, 26] }, type := 26, pos := "ref.go:49", after := #[{ on := 8, ground := Go.Ground.data }, { on := 15, ground := Go.Ground.data }, { on := 8, ground := Go.Ground.chain }], guard := Option.none } : Oper)) rfl (fun K0 hK0 => ?_) AllReadyH.nil
        refine step_appY (xs := [] ++ ws.take i) (ys := ws.drop (i + 1)) (B := w.heap.size) rfl _ _ 26 rfl Try.underlying26 rfl HO8.out rfl HLD.out HR8.out (by have := HF1.out; simp; omega) (by have := HZ0.out; have := HB8.out.size; omega) ?_
        intro v9 w9 ho9 hg9
        obtain ⟨g9, cap9, hv9, hB9⟩ := ho9.2
        rw [HN9.out] at hv9
        subst hv9
        have hb9 : Below w.heap.size w w9 := HB8.out.trans (grown_below' hg9 hB8 HB8.out.size)
        have c9 := HC8.out w9 hb9
        have z9 := HF8.out w9 hb9
        have HO9 := Lib.hid ho9
        have HB9 := Lib.hid hb9
        refine hK0.out _ _ trivial (fun _ => ?_)
        clear ho9 hg9 hB9 hb9
        clear hK0 K0
        try simp only [Act.put, List.setIfInBounds_toArray, List.set_cons_zero, List.set_cons_succ]
        refine wpAnyH_take (i := 17) (oi := ({ dst := Option.some 21, op := Go.Op.nilCheck (Go.Operand.tmp 4), type := 0, pos := "ref.go:49", after := #[{ on := 0, ground := Go.Ground.data }, { on := 0, ground := Go.Ground.phase }, { on := 1, ground := Go.Ground.phase }, { on := 2, ground := Go.Ground.phase }, { on := 3, ground := Go.Ground.phase }, { on := 4, ground := Go.Ground.phase }, { on := 5, ground := Go.Ground.phase }, { on := 6, ground := Go.Ground.phase }, { on := 7, ground := Go.Ground.phase }, { on := 8, ground := Go.Ground.phase }, { on := 9, ground := Go.Ground.phase }, { on := 10, ground := Go.Ground.phase }, { on := 11, ground := Go.Ground.phase }, { on := 12, ground := Go.Ground.phase }, { on := 13, ground := Go.Ground.phase }, { on := 14, ground := Go.Ground.phase }, { on := 15, ground := Go.Ground.phase }, { on := 16, ground := Go.Ground.phase }], guard := Option.none } : Oper)) (v := ?v17x53) rfl (by kernel_rfl) (by kernel_rfl) (by kernel_rfl) (fun _ _ _ h => h) (Or.inl ⟨by rfl, ?hy17x53⟩) trivial ?rest17x53
        case hy17x53 =>
          intro W0 hSw
          (try dsimp only at hSw)
          go_simp
          first | done | with_reducible rfl
        try simp only [Act.put, List.setIfInBounds_toArray, List.set_cons_zero, List.set_cons_succ]
        refine wpAnyH_take (i := 18) (oi := ({ dst := Option.some 22, op := Go.Op.fieldAddr 28 (Go.Operand.tmp 21) 0, type := 0, pos := "ref.go:49", after := #[{ on := 17, ground := Go.Ground.data }, { on := 0, ground := Go.Ground.phase }, { on := 1, ground := Go.Ground.phase }, { on := 2, ground := Go.Ground.phase }, { on := 3, ground := Go.Ground.phase }, { on := 4, ground := Go.Ground.phase }, { on := 5, ground := Go.Ground.phase }, { on := 6, ground := Go.Ground.phase }, { on := 7, ground := Go.Ground.phase }, { on := 8, ground := Go.Ground.phase }, { on := 9, ground := Go.Ground.phase }, { on := 10, ground := Go.Ground.phase }, { on := 11, ground := Go.Ground.phase }, { on := 12, ground := Go.Ground.phase }, { on := 13, ground := Go.Ground.phase }, { on := 14, ground := Go.Ground.phase }, { on := 15, ground := Go.Ground.phase }, { on := 16, ground := Go.Ground.phase }], guard := Option.none } : Oper)) (v := ?v18x54) rfl (by kernel_rfl) (by kernel_rfl) (by kernel_rfl) (fun _ _ _ h => h) (Or.inl ⟨by rfl, ?hy18x54⟩) trivial ?rest18x54
        case hy18x54 =>
          intro W0 hSw
          (try dsimp only at hSw)
          go_simp
          first | done | with_reducible rfl
        try simp only [Act.put, List.setIfInBounds_toArray, List.set_cons_zero, List.set_cons_succ]
        refine wpAnyH_ready (rs := [19]) (by kernel_rfl) (by simp) ?_
        refine AllReadyH.cons (o := ({ dst := Option.none, op := Go.Op.store 26 (Go.Operand.tmp 22) (Go.Operand.tmp 20), type := 0, pos := "ref.go:49", after := #[{ on := 18, ground := Go.Ground.data }, { on := 16, ground := Go.Ground.data }, { on := 16, ground := Go.Ground.chain }, { on := 0, ground := Go.Ground.phase }, { on := 1, ground := Go.Ground.phase }, { on := 2, ground := Go.Ground.phase }, { on := 3, ground := Go.Ground.phase }, { on := 4, ground := Go.Ground.phase }, { on := 5, ground := Go.Ground.phase }, { on := 6, ground := Go.Ground.phase }, { on := 7, ground := Go.Ground.phase }, { on := 8, ground := Go.Ground.phase }, { on := 9, ground := Go.Ground.phase }, { on := 10, ground := Go.Ground.phase }, { on := 11, ground := Go.Ground.phase }, { on := 12, ground := Go.Ground.phase }, { on := 13, ground := Go.Ground.phase }, { on := 14, ground := Go.Ground.phase }, { on := 15, ground := Go.Ground.phase }, { on := 16, ground := Go.Ground.phase }], guard := Option.none } : Oper)) rfl (fun K0 hK0 => ?_) AllReadyH.nil
        go_simp
        refine hK0.out _ _ trivial (fun _ => ?_)
        clear hK0 K0
        try simp only [Act.put, List.setIfInBounds_toArray, List.set_cons_zero, List.set_cons_succ]
        refine wpAnyH_done (by kernel_rfl) ?_ _
        refine bodyPost_end (v := .tuple #[]) (by simp [results, Try.results32, go_sem]) rfl ?_
        exact ⟨rfl, HEND.out _ _ _ HB9.out HO9.out⟩
    · go_simp
      refine hK0.out _ _ trivial (fun _ => ?_)
      clear hK0 K0
      try simp only [Act.put, List.setIfInBounds_toArray, List.set_cons_zero, List.set_cons_succ]
      refine wpAnyH_take (i := 15) (oi := ({ dst := Option.some 19, op := Go.Op.slice 26 (Go.Operand.tmp 16) (Option.some (Go.Operand.tmp 18)) Option.none Option.none, type := 26, pos := "ref.go:49", after := #[{ on := 12, ground := Go.Ground.data }, { on := 14, ground := Go.Ground.data }], guard := Option.none } : Oper)) (v := ?v15x55) rfl (by kernel_rfl) (by kernel_rfl) (by kernel_rfl) (fun _ _ _ h => h) (Or.inl ⟨by rfl, ?hy15x55⟩) trivial ?rest15x55
      case hy15x55 =>
        intro W0 hSw
        (try dsimp only at hSw)
        go_simp
        first | done | with_reducible rfl
      try simp only [Act.put, List.setIfInBounds_toArray, List.set_cons_zero, List.set_cons_succ]
      refine wpAnyH_ready (rs := [1]) (by kernel_rfl) (by simp) ?_
      refine AllReadyH.cons (o := ({ dst := Option.some 5, op := Go.Op.buildSlice 26 0 #[], type := 26, pos := "ref.go:49", after := #[], guard := Option.none } : Oper)) rfl (fun K0 hK0 => ?_) AllReadyH.nil
      go_simp
      refine hK0.out _ _ trivial (fun _ => ?_)
      clear hK0 K0
      try simp only [Act.put, List.setIfInBounds_toArray, List.set_cons_zero, List.set_cons_succ]
      refine wpAnyH_ready (rs := [8]) (by kernel_rfl) (by simp) ?_
      refine AllReadyH.cons (o := ({ dst := Option.some 12, op := Go.Op.call { callee := Go.Callee.builtin Go.Builtin.append, args := #[Go.Operand.tmp 5, Go.Operand.tmp 11], argTypes := #[26, 26] }, type := 26, pos := "ref.go:49", after := #[{ on := 1, ground := Go.Ground.data }, { on := 7, ground := Go.Ground.data }], guard := Option.none } : Oper)) rfl (fun K0 hK0 => ?_) AllReadyH.nil
      refine step_appY (xs := []) (ys := ws.take i) (B := w.heap.size) rfl _ _ 26 rfl Try.underlying26 rfl HE0.out rfl HLT.out HR1.out (by have := HF1.out; simp; omega) HZ0.out ?_
      intro v8 w8 ho8 hg8
      obtain ⟨g8, cap8, hv8, hB8⟩ := ho8.2
      rw [show (([] : List Wy) ++ ws.take i).length = i from HLT.out] at hv8
      subst hv8
      have hb8 := HG8.out w8 hg8
      have c8 := HC8.out w8 hb8
      have HR8 := Lib.hid (HR2.out w8 hb8)
      have HO8 := Lib.hid ho8
      have HB8 := Lib.hid hb8
      refine hK0.out _ _ trivial (fun _ => ?_)
      clear ho8 hg8 hb8
      clear hK0 K0
      try simp only [Act.put, List.setIfInBounds_toArray, List.set_cons_zero, List.set_cons_succ]
      refine wpAnyH_ready (rs := [16]) (by kernel_rfl) (by simp) ?_
      refine AllReadyH.cons (o := ({ dst := Option.some 20, op := Go.Op.call { callee := Go.Callee.builtin Go.Builtin.append, args := #[Go.Operand.tmp 12, Go.Operand.tmp 19], argTypes := #[26, 26] }, type := 26, pos := "ref.go:49", after := #[{ on := 8, ground := Go.Ground.data }, { on := 15, ground := Go.Ground.data }, { on := 8, ground := Go.Ground.chain }], guard := Option.none } : Oper)) rfl (fun K0 hK0 => ?_) AllReadyH.nil
      refine step_appY (xs := [] ++ ws.take i) (ys := ws.drop (i + 1)) (B := w.heap.size) rfl _ _ 26 rfl Try.underlying26 rfl HO8.out rfl HLD.out HR8.out (by have := HF1.out; simp; omega) (by have := HZ0.out; have := HB8.out.size; omega) ?_
      intro v9 w9 ho9 hg9
      obtain ⟨g9, cap9, hv9, hB9⟩ := ho9.2
      rw [HN9.out] at hv9
      subst hv9
      have hb9 : Below w.heap.size w w9 := HB8.out.trans (grown_below' hg9 hB8 HB8.out.size)
      have c9 := HC8.out w9 hb9
      have z9 := HF8.out w9 hb9
      have HO9 := Lib.hid ho9
      have HB9 := Lib.hid hb9
      refine hK0.out _ _ trivial (fun _ => ?_)
      clear ho9 hg9 hB9 hb9
      clear hK0 K0
      try simp only [Act.put, List.setIfInBounds_toArray, List.set_cons_zero, List.set_cons_succ]
      refine wpAnyH_take (i := 17) (oi := ({ dst := Option.some 21, op := Go.Op.nilCheck (Go.Operand.tmp 4), type := 0, pos := "ref.go:49", after := #[{ on := 0, ground := Go.Ground.data }, { on := 0, ground := Go.Ground.phase }, { on := 1, ground := Go.Ground.phase }, { on := 2, ground := Go.Ground.phase }, { on := 3, ground := Go.Ground.phase }, { on := 4, ground := Go.Ground.phase }, { on := 5, ground := Go.Ground.phase }, { on := 6, ground := Go.Ground.phase }, { on := 7, ground := Go.Ground.phase }, { on := 8, ground := Go.Ground.phase }, { on := 9, ground := Go.Ground.phase }, { on := 10, ground := Go.Ground.phase }, { on := 11, ground := Go.Ground.phase }, { on := 12, ground := Go.Ground.phase }, { on := 13, ground := Go.Ground.phase }, { on := 14, ground := Go.Ground.phase }, { on := 15, ground := Go.Ground.phase }, { on := 16, ground := Go.Ground.phase }], guard := Option.none } : Oper)) (v := ?v17x56) rfl (by kernel_rfl) (by kernel_rfl) (by kernel_rfl) (fun _ _ _ h => h) (Or.inl ⟨by rfl, ?hy17x56⟩) trivial ?rest17x56
      case hy17x56 =>
        intro W0 hSw
        (try dsimp only at hSw)
        go_simp
        first | done | with_reducible rfl
      try simp only [Act.put, List.setIfInBounds_toArray, List.set_cons_zero, List.set_cons_succ]
      refine wpAnyH_take (i := 18) (oi := ({ dst := Option.some 22, op := Go.Op.fieldAddr 28 (Go.Operand.tmp 21) 0, type := 0, pos := "ref.go:49", after := #[{ on := 17, ground := Go.Ground.data }, { on := 0, ground := Go.Ground.phase }, { on := 1, ground := Go.Ground.phase }, { on := 2, ground := Go.Ground.phase }, { on := 3, ground := Go.Ground.phase }, { on := 4, ground := Go.Ground.phase }, { on := 5, ground := Go.Ground.phase }, { on := 6, ground := Go.Ground.phase }, { on := 7, ground := Go.Ground.phase }, { on := 8, ground := Go.Ground.phase }, { on := 9, ground := Go.Ground.phase }, { on := 10, ground := Go.Ground.phase }, { on := 11, ground := Go.Ground.phase }, { on := 12, ground := Go.Ground.phase }, { on := 13, ground := Go.Ground.phase }, { on := 14, ground := Go.Ground.phase }, { on := 15, ground := Go.Ground.phase }, { on := 16, ground := Go.Ground.phase }], guard := Option.none } : Oper)) (v := ?v18x57) rfl (by kernel_rfl) (by kernel_rfl) (by kernel_rfl) (fun _ _ _ h => h) (Or.inl ⟨by rfl, ?hy18x57⟩) trivial ?rest18x57
      case hy18x57 =>
        intro W0 hSw
        (try dsimp only at hSw)
        go_simp
        first | done | with_reducible rfl
      try simp only [Act.put, List.setIfInBounds_toArray, List.set_cons_zero, List.set_cons_succ]
      refine wpAnyH_ready (rs := [19]) (by kernel_rfl) (by simp) ?_
      refine AllReadyH.cons (o := ({ dst := Option.none, op := Go.Op.store 26 (Go.Operand.tmp 22) (Go.Operand.tmp 20), type := 0, pos := "ref.go:49", after := #[{ on := 18, ground := Go.Ground.data }, { on := 16, ground := Go.Ground.data }, { on := 16, ground := Go.Ground.chain }, { on := 0, ground := Go.Ground.phase }, { on := 1, ground := Go.Ground.phase }, { on := 2, ground := Go.Ground.phase }, { on := 3, ground := Go.Ground.phase }, { on := 4, ground := Go.Ground.phase }, { on := 5, ground := Go.Ground.phase }, { on := 6, ground := Go.Ground.phase }, { on := 7, ground := Go.Ground.phase }, { on := 8, ground := Go.Ground.phase }, { on := 9, ground := Go.Ground.phase }, { on := 10, ground := Go.Ground.phase }, { on := 11, ground := Go.Ground.phase }, { on := 12, ground := Go.Ground.phase }, { on := 13, ground := Go.Ground.phase }, { on := 14, ground := Go.Ground.phase }, { on := 15, ground := Go.Ground.phase }, { on := 16, ground := Go.Ground.phase }], guard := Option.none } : Oper)) rfl (fun K0 hK0 => ?_) AllReadyH.nil
      go_simp
      refine hK0.out _ _ trivial (fun _ => ?_)
      clear hK0 K0
      try simp only [Act.put, List.setIfInBounds_toArray, List.set_cons_zero, List.set_cons_succ]
      refine wpAnyH_done (by kernel_rfl) ?_ _
      refine bodyPost_end (v := .tuple #[]) (by simp [results, Try.results32, go_sem]) rfl ?_
      exact ⟨rfl, HEND.out _ _ _ HB9.out HO9.out⟩
  · go_simp
    refine hK0.out _ _ trivial (fun _ => ?_)
    clear hK0 K0
    try simp only [Act.put, List.setIfInBounds_toArray, List.set_cons_zero, List.set_cons_succ]
    refine wpAnyH_take (i := 15) (oi := ({ dst := Option.some 19, op := Go.Op.slice 26 (Go.Operand.tmp 16) (Option.some (Go.Operand.tmp 18)) Option.none Option.none, type := 26, pos := "ref.go:49", after := #[{ on := 12, ground := Go.Ground.data }, { on := 14, ground := Go.Ground.data }], guard := Option.none } : Oper)) (v := ?v15x58) rfl (by kernel_rfl) (by kernel_rfl) (by kernel_rfl) (fun _ _ _ h => h) (Or.inl ⟨by rfl, ?hy15x58⟩) trivial ?rest15x58
    case hy15x58 =>
      intro W0 hSw
      (try dsimp only at hSw)
      go_simp
      first | done | with_reducible rfl
    try simp only [Act.put, List.setIfInBounds_toArray, List.set_cons_zero, List.set_cons_succ]
    refine wpAnyH_ready (rs := [1, 5]) (by kernel_rfl) (by simp) ?_
    refine AllReadyH.cons (o := ({ dst := Option.some 5, op := Go.Op.buildSlice 26 0 #[], type := 26, pos := "ref.go:49", after := #[], guard := Option.none } : Oper)) rfl (fun K0 hK0 => ?_) (AllReadyH.cons (o := ({ dst := Option.some 9, op := Go.Op.load 26 (Go.Operand.tmp 8), type := 26, pos := "ref.go:49", after := #[{ on := 4, ground := Go.Ground.data }], guard := Option.none } : Oper)) rfl (fun K0 hK0 => ?_) AllReadyH.nil)
    · go_simp
      refine hK0.out _ _ trivial (fun _ => ?_)
      clear hK0 K0
      try simp only [Act.put, List.setIfInBounds_toArray, List.set_cons_zero, List.set_cons_succ]
      refine wpAnyH_ready (rs := [5]) (by kernel_rfl) (by simp) ?_
      refine AllReadyH.cons (o := ({ dst := Option.some 9, op := Go.Op.load 26 (Go.Operand.tmp 8), type := 26, pos := "ref.go:49", after := #[{ on := 4, ground := Go.Ground.data }], guard := Option.none } : Oper)) rfl (fun K0 hK0 => ?_) AllReadyH.nil
      go_simp
      refine hK0.out _ _ trivial (fun _ => ?_)
      clear hK0 K0
      try simp only [Act.put, List.setIfInBounds_toArray, List.set_cons_zero, List.set_cons_succ]
      refine wpAnyH_take (i := 7) (oi := ({ dst := Option.some 11, op := Go.Op.slice 26 (Go.Operand.tmp 9) Option.none (Option.some (Go.Operand.tmp 10)) Option.none, type := 26, pos := "ref.go:49", after := #[{ on := 5, ground := Go.Ground.data }, { on := 6, ground := Go.Ground.data }], guard := Option.none } : Oper)) (v := ?v7x59) rfl (by kernel_rfl) (by kernel_rfl) (by kernel_rfl) (fun _ _ _ h => h) (Or.inl ⟨by rfl, ?hy7x59⟩) trivial ?rest7x59
      case hy7x59 =>
        intro W0 hSw
        (try dsimp only at hSw)
        go_simp
        first | done | with_reducible rfl
      try simp only [Act.put, List.setIfInBounds_toArray, List.set_cons_zero, List.set_cons_succ]
      refine wpAnyH_ready (rs := [8]) (by kernel_rfl) (by simp) ?_
      refine AllReadyH.cons (o := ({ dst := Option.some 12, op := Go.Op.call { callee := Go.Callee.builtin Go.Builtin.append, args := #[Go.Operand.tmp 5, Go.Operand.tmp 11], argTypes := #[26, 26] }, type := 26, pos := "ref.go:49", after := #[{ on := 1, ground := Go.Ground.data }, { on := 7, ground := Go.Ground.data }], guard := Option.none } : Oper)) rfl (fun K0 hK0 => ?_) AllReadyH.nil
      refine step_appY (xs := []) (ys := ws.take i) (B := w.heap.size) rfl _ _ 26 rfl Try.underlying26 rfl HE0.out rfl HLT.out HR1.out (by have := HF1.out; simp; omega) HZ0.out ?_
      intro v8 w8 ho8 hg8
      obtain ⟨g8, cap8, hv8, hB8⟩ := ho8.2
      rw [show (([] : List Wy) ++ ws.take i).length = i from HLT.out] at hv8
      subst hv8
      have hb8 := HG8.out w8 hg8
      have c8 := HC8.out w8 hb8
      have HR8 := Lib.hid (HR2.out w8 hb8)
      have HO8 := Lib.hid ho8
      have HB8 := Lib.hid hb8
      refine hK0.out _ _ trivial (fun _ => ?_)
      clear ho8 hg8 hb8
      clear hK0 K0
      try simp only [Act.put, List.setIfInBounds_toArray, List.set_cons_zero, List.set_cons_succ]
      refine wpAnyH_ready (rs := [16]) (by kernel_rfl) (by simp) ?_
      refine AllReadyH.cons (o := ({ dst := Option.some 20, op := Go.Op.call { callee := Go.Callee.builtin Go.Builtin.append, args := #[Go.Operand.tmp 12, Go.Operand.tmp 19], argTypes := #[26, 26] }, type := 26, pos := "ref.go:49", after := #[{ on := 8, ground := Go.Ground.data }, { on := 15, ground := Go.Ground.data }, { on := 8, ground := Go.Ground.chain }], guard := Option.none } : Oper)) rfl (fun K0 hK0 => ?_) AllReadyH.nil
      refine step_appY (xs := [] ++ ws.take i) (ys := ws.drop (i + 1)) (B := w.heap.size) rfl _ _ 26 rfl Try.underlying26 rfl HO8.out rfl HLD.out HR8.out (by have := HF1.out; simp; omega) (by have := HZ0.out; have := HB8.out.size; omega) ?_
      intro v9 w9 ho9 hg9
      obtain ⟨g9, cap9, hv9, hB9⟩ := ho9.2
      rw [HN9.out] at hv9
      subst hv9
      have hb9 : Below w.heap.size w w9 := HB8.out.trans (grown_below' hg9 hB8 HB8.out.size)
      have c9 := HC8.out w9 hb9
      have z9 := HF8.out w9 hb9
      have HO9 := Lib.hid ho9
      have HB9 := Lib.hid hb9
      refine hK0.out _ _ trivial (fun _ => ?_)
      clear ho9 hg9 hB9 hb9
      clear hK0 K0
      try simp only [Act.put, List.setIfInBounds_toArray, List.set_cons_zero, List.set_cons_succ]
      refine wpAnyH_take (i := 17) (oi := ({ dst := Option.some 21, op := Go.Op.nilCheck (Go.Operand.tmp 4), type := 0, pos := "ref.go:49", after := #[{ on := 0, ground := Go.Ground.data }, { on := 0, ground := Go.Ground.phase }, { on := 1, ground := Go.Ground.phase }, { on := 2, ground := Go.Ground.phase }, { on := 3, ground := Go.Ground.phase }, { on := 4, ground := Go.Ground.phase }, { on := 5, ground := Go.Ground.phase }, { on := 6, ground := Go.Ground.phase }, { on := 7, ground := Go.Ground.phase }, { on := 8, ground := Go.Ground.phase }, { on := 9, ground := Go.Ground.phase }, { on := 10, ground := Go.Ground.phase }, { on := 11, ground := Go.Ground.phase }, { on := 12, ground := Go.Ground.phase }, { on := 13, ground := Go.Ground.phase }, { on := 14, ground := Go.Ground.phase }, { on := 15, ground := Go.Ground.phase }, { on := 16, ground := Go.Ground.phase }], guard := Option.none } : Oper)) (v := ?v17x60) rfl (by kernel_rfl) (by kernel_rfl) (by kernel_rfl) (fun _ _ _ h => h) (Or.inl ⟨by rfl, ?hy17x60⟩) trivial ?rest17x60
      case hy17x60 =>
        intro W0 hSw
        (try dsimp only at hSw)
        go_simp
        first | done | with_reducible rfl
      try simp only [Act.put, List.setIfInBounds_toArray, List.set_cons_zero, List.set_cons_succ]
      refine wpAnyH_take (i := 18) (oi := ({ dst := Option.some 22, op := Go.Op.fieldAddr 28 (Go.Operand.tmp 21) 0, type := 0, pos := "ref.go:49", after := #[{ on := 17, ground := Go.Ground.data }, { on := 0, ground := Go.Ground.phase }, { on := 1, ground := Go.Ground.phase }, { on := 2, ground := Go.Ground.phase }, { on := 3, ground := Go.Ground.phase }, { on := 4, ground := Go.Ground.phase }, { on := 5, ground := Go.Ground.phase }, { on := 6, ground := Go.Ground.phase }, { on := 7, ground := Go.Ground.phase }, { on := 8, ground := Go.Ground.phase }, { on := 9, ground := Go.Ground.phase }, { on := 10, ground := Go.Ground.phase }, { on := 11, ground := Go.Ground.phase }, { on := 12, ground := Go.Ground.phase }, { on := 13, ground := Go.Ground.phase }, { on := 14, ground := Go.Ground.phase }, { on := 15, ground := Go.Ground.phase }, { on := 16, ground := Go.Ground.phase }], guard := Option.none } : Oper)) (v := ?v18x61) rfl (by kernel_rfl) (by kernel_rfl) (by kernel_rfl) (fun _ _ _ h => h) (Or.inl ⟨by rfl, ?hy18x61⟩) trivial ?rest18x61
      case hy18x61 =>
        intro W0 hSw
        (try dsimp only at hSw)
        go_simp
        first | done | with_reducible rfl
      try simp only [Act.put, List.setIfInBounds_toArray, List.set_cons_zero, List.set_cons_succ]
      refine wpAnyH_ready (rs := [19]) (by kernel_rfl) (by simp) ?_
      refine AllReadyH.cons (o := ({ dst := Option.none, op := Go.Op.store 26 (Go.Operand.tmp 22) (Go.Operand.tmp 20), type := 0, pos := "ref.go:49", after := #[{ on := 18, ground := Go.Ground.data }, { on := 16, ground := Go.Ground.data }, { on := 16, ground := Go.Ground.chain }, { on := 0, ground := Go.Ground.phase }, { on := 1, ground := Go.Ground.phase }, { on := 2, ground := Go.Ground.phase }, { on := 3, ground := Go.Ground.phase }, { on := 4, ground := Go.Ground.phase }, { on := 5, ground := Go.Ground.phase }, { on := 6, ground := Go.Ground.phase }, { on := 7, ground := Go.Ground.phase }, { on := 8, ground := Go.Ground.phase }, { on := 9, ground := Go.Ground.phase }, { on := 10, ground := Go.Ground.phase }, { on := 11, ground := Go.Ground.phase }, { on := 12, ground := Go.Ground.phase }, { on := 13, ground := Go.Ground.phase }, { on := 14, ground := Go.Ground.phase }, { on := 15, ground := Go.Ground.phase }, { on := 16, ground := Go.Ground.phase }], guard := Option.none } : Oper)) rfl (fun K0 hK0 => ?_) AllReadyH.nil
      go_simp
      refine hK0.out _ _ trivial (fun _ => ?_)
      clear hK0 K0
      try simp only [Act.put, List.setIfInBounds_toArray, List.set_cons_zero, List.set_cons_succ]
      refine wpAnyH_done (by kernel_rfl) ?_ _
      refine bodyPost_end (v := .tuple #[]) (by simp [results, Try.results32, go_sem]) rfl ?_
      exact ⟨rfl, HEND.out _ _ _ HB9.out HO9.out⟩
    · go_simp
      refine hK0.out _ _ trivial (fun _ => ?_)
      clear hK0 K0
      try simp only [Act.put, List.setIfInBounds_toArray, List.set_cons_zero, List.set_cons_succ]
      refine wpAnyH_take (i := 7) (oi := ({ dst := Option.some 11, op := Go.Op.slice 26 (Go.Operand.tmp 9) Option.none (Option.some (Go.Operand.tmp 10)) Option.none, type := 26, pos := "ref.go:49", after := #[{ on := 5, ground := Go.Ground.data }, { on := 6, ground := Go.Ground.data }], guard := Option.none } : Oper)) (v := ?v7x62) rfl (by kernel_rfl) (by kernel_rfl) (by kernel_rfl) (fun _ _ _ h => h) (Or.inl ⟨by rfl, ?hy7x62⟩) trivial ?rest7x62
      case hy7x62 =>
        intro W0 hSw
        (try dsimp only at hSw)
        go_simp
        first | done | with_reducible rfl
      try simp only [Act.put, List.setIfInBounds_toArray, List.set_cons_zero, List.set_cons_succ]
      refine wpAnyH_ready (rs := [1]) (by kernel_rfl) (by simp) ?_
      refine AllReadyH.cons (o := ({ dst := Option.some 5, op := Go.Op.buildSlice 26 0 #[], type := 26, pos := "ref.go:49", after := #[], guard := Option.none } : Oper)) rfl (fun K0 hK0 => ?_) AllReadyH.nil
      go_simp
      refine hK0.out _ _ trivial (fun _ => ?_)
      clear hK0 K0
      try simp only [Act.put, List.setIfInBounds_toArray, List.set_cons_zero, List.set_cons_succ]
      refine wpAnyH_ready (rs := [8]) (by kernel_rfl) (by simp) ?_
      refine AllReadyH.cons (o := ({ dst := Option.some 12, op := Go.Op.call { callee := Go.Callee.builtin Go.Builtin.append, args := #[Go.Operand.tmp 5, Go.Operand.tmp 11], argTypes := #[26, 26] }, type := 26, pos := "ref.go:49", after := #[{ on := 1, ground := Go.Ground.data }, { on := 7, ground := Go.Ground.data }], guard := Option.none } : Oper)) rfl (fun K0 hK0 => ?_) AllReadyH.nil
      refine step_appY (xs := []) (ys := ws.take i) (B := w.heap.size) rfl _ _ 26 rfl Try.underlying26 rfl HE0.out rfl HLT.out HR1.out (by have := HF1.out; simp; omega) HZ0.out ?_
      intro v8 w8 ho8 hg8
      obtain ⟨g8, cap8, hv8, hB8⟩ := ho8.2
      rw [show (([] : List Wy) ++ ws.take i).length = i from HLT.out] at hv8
      subst hv8
      have hb8 := HG8.out w8 hg8
      have c8 := HC8.out w8 hb8
      have HR8 := Lib.hid (HR2.out w8 hb8)
      have HO8 := Lib.hid ho8
      have HB8 := Lib.hid hb8
      refine hK0.out _ _ trivial (fun _ => ?_)
      clear ho8 hg8 hb8
      clear hK0 K0
      try simp only [Act.put, List.setIfInBounds_toArray, List.set_cons_zero, List.set_cons_succ]
      refine wpAnyH_ready (rs := [16]) (by kernel_rfl) (by simp) ?_
      refine AllReadyH.cons (o := ({ dst := Option.some 20, op := Go.Op.call { callee := Go.Callee.builtin Go.Builtin.append, args := #[Go.Operand.tmp 12, Go.Operand.tmp 19], argTypes := #[26, 26] }, type := 26, pos := "ref.go:49", after := #[{ on := 8, ground := Go.Ground.data }, { on := 15, ground := Go.Ground.data }, { on := 8, ground := Go.Ground.chain }], guard := Option.none } : Oper)) rfl (fun K0 hK0 => ?_) AllReadyH.nil
      refine step_appY (xs := [] ++ ws.take i) (ys := ws.drop (i + 1)) (B := w.heap.size) rfl _ _ 26 rfl Try.underlying26 rfl HO8.out rfl HLD.out HR8.out (by have := HF1.out; simp; omega) (by have := HZ0.out; have := HB8.out.size; omega) ?_
      intro v9 w9 ho9 hg9
      obtain ⟨g9, cap9, hv9, hB9⟩ := ho9.2
      rw [HN9.out] at hv9
      subst hv9
      have hb9 : Below w.heap.size w w9 := HB8.out.trans (grown_below' hg9 hB8 HB8.out.size)
      have c9 := HC8.out w9 hb9
      have z9 := HF8.out w9 hb9
      have HO9 := Lib.hid ho9
      have HB9 := Lib.hid hb9
      refine hK0.out _ _ trivial (fun _ => ?_)
      clear ho9 hg9 hB9 hb9
      clear hK0 K0
      try simp only [Act.put, List.setIfInBounds_toArray, List.set_cons_zero, List.set_cons_succ]
      refine wpAnyH_take (i := 17) (oi := ({ dst := Option.some 21, op := Go.Op.nilCheck (Go.Operand.tmp 4), type := 0, pos := "ref.go:49", after := #[{ on := 0, ground := Go.Ground.data }, { on := 0, ground := Go.Ground.phase }, { on := 1, ground := Go.Ground.phase }, { on := 2, ground := Go.Ground.phase }, { on := 3, ground := Go.Ground.phase }, { on := 4, ground := Go.Ground.phase }, { on := 5, ground := Go.Ground.phase }, { on := 6, ground := Go.Ground.phase }, { on := 7, ground := Go.Ground.phase }, { on := 8, ground := Go.Ground.phase }, { on := 9, ground := Go.Ground.phase }, { on := 10, ground := Go.Ground.phase }, { on := 11, ground := Go.Ground.phase }, { on := 12, ground := Go.Ground.phase }, { on := 13, ground := Go.Ground.phase }, { on := 14, ground := Go.Ground.phase }, { on := 15, ground := Go.Ground.phase }, { on := 16, ground := Go.Ground.phase }], guard := Option.none } : Oper)) (v := ?v17x63) rfl (by kernel_rfl) (by kernel_rfl) (by kernel_rfl) (fun _ _ _ h => h) (Or.inl ⟨by rfl, ?hy17x63⟩) trivial ?rest17x63
      case hy17x63 =>
        intro W0 hSw
        (try dsimp only at hSw)
        go_simp
        first | done | with_reducible rfl
      try simp only [Act.put, List.setIfInBounds_toArray, List.set_cons_zero, List.set_cons_succ]
      refine wpAnyH_take (i := 18) (oi := ({ dst := Option.some 22, op := Go.Op.fieldAddr 28 (Go.Operand.tmp 21) 0, type := 0, pos := "ref.go:49", after := #[{ on := 17, ground := Go.Ground.data }, { on := 0, ground := Go.Ground.phase }, { on := 1, ground := Go.Ground.phase }, { on := 2, ground := Go.Ground.phase }, { on := 3, ground := Go.Ground.phase }, { on := 4, ground := Go.Ground.phase }, { on := 5, ground := Go.Ground.phase }, { on := 6, ground := Go.Ground.phase }, { on := 7, ground := Go.Ground.phase }, { on := 8, ground := Go.Ground.phase }, { on := 9, ground := Go.Ground.phase }, { on := 10, ground := Go.Ground.phase }, { on := 11, ground := Go.Ground.phase }, { on := 12, ground := Go.Ground.phase }, { on := 13, ground := Go.Ground.phase }, { on := 14, ground := Go.Ground.phase }, { on := 15, ground := Go.Ground.phase }, { on := 16, ground := Go.Ground.phase }], guard := Option.none } : Oper)) (v := ?v18x64) rfl (by kernel_rfl) (by kernel_rfl) (by kernel_rfl) (fun _ _ _ h => h) (Or.inl ⟨by rfl, ?hy18x64⟩) trivial ?rest18x64
      case hy18x64 =>
        intro W0 hSw
        (try dsimp only at hSw)
        go_simp
        first | done | with_reducible rfl
      try simp only [Act.put, List.setIfInBounds_toArray, List.set_cons_zero, List.set_cons_succ]
      refine wpAnyH_ready (rs := [19]) (by kernel_rfl) (by simp) ?_
      refine AllReadyH.cons (o := ({ dst := Option.none, op := Go.Op.store 26 (Go.Operand.tmp 22) (Go.Operand.tmp 20), type := 0, pos := "ref.go:49", after := #[{ on := 18, ground := Go.Ground.data }, { on := 16, ground := Go.Ground.data }, { on := 16, ground := Go.Ground.chain }, { on := 0, ground := Go.Ground.phase }, { on := 1, ground := Go.Ground.phase }, { on := 2, ground := Go.Ground.phase }, { on := 3, ground := Go.Ground.phase }, { on := 4, ground := Go.Ground.phase }, { on := 5, ground := Go.Ground.phase }, { on := 6, ground := Go.Ground.phase }, { on := 7, ground := Go.Ground.phase }, { on := 8, ground := Go.Ground.phase }, { on := 9, ground := Go.Ground.phase }, { on := 10, ground := Go.Ground.phase }, { on := 11, ground := Go.Ground.phase }, { on := 12, ground := Go.Ground.phase }, { on := 13, ground := Go.Ground.phase }, { on := 14, ground := Go.Ground.phase }, { on := 15, ground := Go.Ground.phase }, { on := 16, ground := Go.Ground.phase }], guard := Option.none } : Oper)) rfl (fun K0 hK0 => ?_) AllReadyH.nil
      go_simp
      refine hK0.out _ _ trivial (fun _ => ?_)
      clear hK0 K0
      try simp only [Act.put, List.setIfInBounds_toArray, List.set_cons_zero, List.set_cons_succ]
      refine wpAnyH_done (by kernel_rfl) ?_ _
      refine bodyPost_end (v := .tuple #[]) (by simp [results, Try.results32, go_sem]) rfl ?_
      exact ⟨rfl, HEND.out _ _ _ HB9.out HO9.out⟩
theorem plus_one {s X : Nat} (h : s + 1 = X) (hs : s ≤ 1000) : wrap64 ((s : Int) + 1) = (X : Int) ∧ (s : Int) + 1 = (X : Int) ∧ ((X : Int) != (s : Int) + 1) = false := by
  refine ⟨by unfold wrap64; omega, by omega, ?_⟩
  simp; omega
theorem OwnI.empty_ (w : World) : OwnI (w.alloc (.cells #[] 3)) w.heap.size (.slice (some ⟨w.heap.size, 0, none⟩) 0 0) [] :=
  ⟨⟨rfl, .inr ⟨_, 0, #[], rfl, Nat.le_refl _, heap_alloc_new w _, Nat.le_refl _, by unfold maxLen; omega, rfl, rfl⟩⟩, _, _, rfl, Nat.le_refl _⟩
theorem OwnI.empty_at (w : World) {g : Nat} (hg : g = w.heap.size) : OwnI (w.alloc (.cells #[] 3)) g (.slice (some ⟨g, 0, none⟩) 0 0) [] := by
  subst hg; exact OwnI.empty_ w
theorem OwnI.rd0 {w : World} {B n cap : Nat} {A : Option Addr} {l : List Int} (h : OwnI w B (.slice A n cap) l) : Rd0 w A (intsZ l) := by
  rcases h.1.2 with ⟨e, h0⟩ | ⟨g, cap', cur, e, hB, hh, hnc, hm, hsz, htk⟩
  · have : l = [] := List.length_eq_zero_iff.1 h0
    subst this
    exact Rd0.nil _ _
  · injection e with e1 e2 e3
    subst e1
    refine fun _ => ⟨g, rfl, (Array.getElem?_eq_some_iff.1 hh).1, fun j u hu => ?_⟩
    rw [cell_of_row w g j cur _ (0, 0) hh]
    rw [← htk, List.getElem?_take] at hu
    split at hu
    · rw [← Array.getElem?_toList]; exact hu
    · cases hu
theorem rd_oneY (w : World) (y : Wy) : RdWs (w.alloc (.cells #[.int .i64 (y.n : Int), .int .i64 y.x.l.k, .int .i64 y.x.l.f, .int .i64 y.x.l.t, .int .i64 y.x.l.x, .slice y.x.A y.x.l.ns.length y.x.cap] 40)) (some ⟨w.heap.size, 0, none⟩) [y] := fun _ => by
  have hh : (w.alloc (.cells #[.int .i64 (y.n : Int), .int .i64 y.x.l.k, .int .i64 y.x.l.f, .int .i64 y.x.l.t, .int .i64 y.x.l.x, .slice y.x.A y.x.l.ns.length y.x.cap] 40)).heap[w.heap.size]? = _ := heap_alloc_new w _
  refine ⟨_, 0, rfl, by simp, fun j u hu => ?_⟩
  rw [cell_of_row _ _ _ _ _ (0, 0) hh, ← Array.getElem?_toList, Nat.zero_add]
  exact hu
theorem rsend_wrong {b : Nat} (l : Ltr) (hR : l.right = false) (A : Option Addr) (n cap : Nat) (hn : l.ns.length = n) (hn2 : n ≤ 1000000) (w : World) (hr : RdI w w.heap.size A l.ns) : Calls Try.prog 11 #[.pointer (some ⟨b, 0, none⟩), .agg #[.int .i64 l.k, .int .i64 l.f, .int .i64 l.t, .int .i64 l.x, .slice A n cap]] w (NoT w (.tuple #[.int .i64 0, .int .i64 111])) := by
  obtain ⟨w0, hw0⟩ : ∃ w0, w0 = w.alloc (.cells #[.int .i64 l.k, .int .i64 l.f, .int .i64 l.t, .int .i64 l.x, .slice A n cap] 32) := ⟨_, rfl⟩
  have hb : Below w.heap.size w w0 := by rw [hw0]; exact alloc_below w _
  have HB := Lib.hid hb
  have hbx : w0.heap[w.heap.size]? = some (.cells #[.int .i64 l.k, .int .i64 l.f, .int .i64 l.t, .int .i64 l.x, .slice A n cap] 32 (0, 0)) := by rw [hw0]; exact heap_alloc_new w _
  obtain ⟨x0, x1, x2, x3, x4⟩ := box5 hbx
  have HE := Lib.hid (refRgt_any l.k l.f l.t l.x l.ns A n cap hn hn2 w0 ((hr.below hb (Nat.le_refl _)).more hb.size))
  rw [hw0] at x0 x1 x2 x3 x4 HE HB
  clear hb hw0 hbx hn hr
  obtain ⟨k, f, t, x, ns⟩ := l
  simp only at *
  rw [hR] at HE
  go_enter Try.func11, Try.ntmps11
  go_wp2_with (go_at_call 29; refine HE.out.mono ?_; rintro e w2 ⟨rfl, hb⟩
               have HB2 := Lib.hid (HB.out.trans (hb.mono HB.out.size))
               clear hb)
  refine bodyPost_ret (v := .tuple #[.int .i64 0, .int .i64 111]) (by simp [results, Try.results11, go_sem]) rfl ?_
  exact ⟨rfl, HB2.out⟩
/-- what its Send leaves -/
def RsR (w : World) (b : Nat) (ws : List Wy) (s t lo : Nat) (l : Ltr) (w' : World) : Prop := ∃ A' cap' A3 c3, RfAt w' b A' cap' (ws ++ [⟨s, ⟨l, A3, c3⟩⟩]) (s + 1) t lo ∧ Only (· = b) w w' ∧ (∀ g, A' = some ⟨g, 0, none⟩ → w.heap.size ≤ g) ∧ (∀ g, A3 = some ⟨g, 0, none⟩ → w.heap.size ≤ g)
theorem rsend_end {w w9 : World} {b : Nat} {A : Option Addr} {cap : Nat} {ws : List Wy} {s t lo : Nat} (h : RfAt w b A cap ws s t lo) (hb : Below w.heap.size w w9) {l : Ltr} (hR : l.right = true) {A3 : Option Addr} {c3 : Nat} (h3 : Rd0 w9 A3 (intsZ l.ns)) (hA3 : ∀ g, A3 = some ⟨g, 0, none⟩ → w.heap.size ≤ g) (hlen : ws.length < 900) (hs : s < 900) {g9 n9 cap9 : Nat} (ho : OwnY w9 w.heap.size (.slice (some ⟨g9, 0, none⟩) n9 cap9) (([] ++ ws) ++ [⟨s, ⟨l, A3, c3⟩⟩])) :
    RsR w b ws s t lo l ((w9.setCell ⟨b, 0, none⟩ (.slice (some ⟨g9, 0, none⟩) n9 cap9)).setCell ⟨b, 1, none⟩ (.int .i64 ((s + 1 : Nat) : Int))) := by
  have h9 := h.below hb
  have hO := Only.set w9 b 0 (.slice (some ⟨g9, 0, none⟩) n9 cap9)
  have hO2 := Only.set (w9.setCell ⟨b, 0, none⟩ (.slice (some ⟨g9, 0, none⟩) n9 cap9)) b 1 (.int .i64 ((s + 1 : Nat) : Int))
  have hOO : Only (· = b) w9 _ := hO.trans hO2 fun _ _ h => h
  obtain ⟨h1, h2, h4⟩ := ho.rd
  have hb1 := (box4_set h9.box (.slice (some ⟨g9, 0, none⟩) n9 cap9)).1
  refine ⟨some ⟨g9, 0, none⟩, cap9, A3, c3, ⟨?_, ?_, ?_, fun y hy => ?_, ?_, by omega⟩, (Only.of_below hb).trans hOO fun _ _ h => h, fun g e => ?_, hA3⟩
  · have := (box4_set hb1 (.int .i64 ((s + 1 : Nat) : Int))).2.1
    rw [List.nil_append] at h2
    rw [h2]
    exact this
  · rw [List.nil_append] at h2; omega
  · rw [List.nil_append] at h1
    exact h1.only (cellsY_head _) hOO fun k hk => by rw [hk]; exact h9.notI
  · rw [List.mem_append, List.mem_singleton] at hy
    rcases hy with hy | rfl
    · exact ⟨((h9.nod y hy).1).only (intsZ_head _) hOO fun k hk => by rw [hk]; exact h9.notI, (h9.nod y hy).2⟩
    · exact ⟨h3.only (intsZ_head _) hOO fun k hk => by rw [hk]; exact h9.notI, hR⟩
  · rw [List.length_append]; simp; omega
  · obtain ⟨g', c, e', hB⟩ := ho.2
    injection e' with e1
    injection e1 with e1
    injection e1 with e1
    injection e with e
    injection e with e
    rw [← e, e1]; exact hB
theorem OwnY.low {w : World} {B C : Nat} {v : Value} {ws : List Wy} (h : OwnY w B v ws) (hC : C ≤ B) : OwnY w C v ws := by
  obtain ⟨⟨h1, h2⟩, g, cap, e, hB⟩ := h
  refine ⟨⟨h1, ?_⟩, g, cap, e, Nat.le_trans hC hB⟩
  rcases h2 with h3 | ⟨g', cap', cur, e', hB', hr⟩
  · exact .inl h3
  · exact .inr ⟨g', cap', cur, e', Nat.le_trans hC hB', hr⟩
theorem OwnY.empty_at (w : World) {g B : Nat} (hg : g = w.heap.size) (hB : B ≤ g) : OwnY (w.alloc (.cells #[] 40)) B (.slice (some ⟨g, 0, none⟩) 0 0) [] := by
  subst hg; exact (OwnY.empty w).low hB
theorem rd_oneY_at (w : World) {g : Nat} (hg : g = w.heap.size) (y : Wy) : RdWs (w.alloc (.cells #[.int .i64 (y.n : Int), .int .i64 y.x.l.k, .int .i64 y.x.l.f, .int .i64 y.x.l.t, .int .i64 y.x.l.x, .slice y.x.A y.x.l.ns.length y.x.cap] 40)) (some ⟨g, 0, none⟩) [y] := by
  subst hg; exact rd_oneY w y
theorem RdWs.grown {w w' : World} {g o g1 : Nat} {ws : List Wy} (h : RdWs w (some ⟨g, o, none⟩) ws) (hg : w.grownBy w' (some g1)) (hne : g ≠ g1) : RdWs w' (some ⟨g, o, none⟩) ws := fun hn => by
  obtain ⟨b, p, e, hb, hc⟩ := h hn
  injection e with e
  injection e with e1 e2
  subst e1 e2
  exact ⟨_, _, rfl, Nat.lt_of_lt_of_le hb hg.size, fun j u hu => (World.cell?_of_block (hg.block _ hb (fun e => hne (by injection e)))).trans (hc j u hu)⟩
/-- a letter's box of its own, and what lies below -/
theorem own5_set {w : World} {p : Nat} {x y z u v : Value} {t : TypeId} {fr : Nat × Nat} (h : w.heap[p]? = some (.cells #[x, y, z, u, v] t fr)) (v' : Value) : (w.setCell ⟨p, 4, none⟩ v').heap[p]? = some (.cells #[x, y, z, u, v'] t fr) := by
  simp [World.setCell, Array.getElem?_modify, h]
set_option maxRecDepth 100000 in
set_option maxHeartbeats 32000000 in
theorem rsend_yes {w : World} {b : Nat} {A0 : Option Addr} {cap0 : Nat} {ws : List Wy} {s t' lo : Nat} (h : RfAt w b A0 cap0 ws s t' lo) (hlen : ws.length < 900) (hs : s < 900) (l : Ltr) (hR : l.right = true) (A : Option Addr) (cap : Nat) (hn2 : l.ns.length ≤ 1000000) (hr : RdI w w.heap.size A l.ns) :
    Calls Try.prog 11 #[.pointer (some ⟨b, 0, none⟩), .agg #[.int .i64 l.k, .int .i64 l.f, .int .i64 l.t, .int .i64 l.x, .slice A l.ns.length cap]] w (fun e w' => e = .returned (.tuple #[.int .i64 (s : Int), .int .i64 0]) ∧ RsR w b ws s t' lo l w') := by
  have HRF : Hid (∀ W, Below w.heap.size w W → RfAt W b A0 cap0 ws s t' lo) := Lib.hid fun W hW => h.below hW
  have hlb := h.lt
  have HEND : Hid (∀ w9 A3 c3 g9 n9 cap9, Below w.heap.size w w9 → Rd0 w9 A3 (intsZ l.ns) → (∀ g, A3 = some ⟨g, 0, none⟩ → w.heap.size ≤ g) → OwnY w9 w.heap.size (.slice (some ⟨g9, 0, none⟩) n9 cap9) (([] ++ ws) ++ [⟨s, ⟨l, A3, c3⟩⟩]) → RsR w b ws s t' lo l ((w9.setCell ⟨b, 0, none⟩ (.slice (some ⟨g9, 0, none⟩) n9 cap9)).setCell ⟨b, 1, none⟩ (.int .i64 ((s + 1 : Nat) : Int)))) := Lib.hid fun w9 A3 c3 g9 n9 cap9 hb h3 hA ho => rsend_end h hb hR h3 hA hlen hs ho
  obtain ⟨hwc, hs1', _⟩ := plus_one (X := s + 1) rfl (by omega)
  have hws : wrap64 (((s + 1 : Nat) : Int) - 1) = (s : Int) := by unfold wrap64; omega
  obtain ⟨SX, hSX⟩ : ∃ SX : Int, SX = ((s + 1 : Nat) : Int) := ⟨_, rfl⟩
  rw [← hSX] at HEND hwc hws
  obtain ⟨N, hN⟩ : ∃ N, ws.length = N := ⟨_, rfl⟩
  have HN := Lib.hid hN
  have hNi : (N : Int) < 900 := by omega
  have HN9 := Lib.hid hlen
  obtain ⟨w0, hw0⟩ : ∃ w0, w0 = w.alloc (.cells #[.int .i64 l.k, .int .i64 l.f, .int .i64 l.t, .int .i64 l.x, .slice A l.ns.length cap] 32) := ⟨_, rfl⟩
  have hb0 : Below w.heap.size w w0 := by rw [hw0]; exact alloc_below w _
  have hbx : w0.heap[w.heap.size]? = some (.cells #[.int .i64 l.k, .int .i64 l.f, .int .i64 l.t, .int .i64 l.x, .slice A l.ns.length cap] 32 (0, 0)) := by rw [hw0]; exact heap_alloc_new w _
  have HBX := Lib.hid hbx
  obtain ⟨x0, x1, x2, x3, x4⟩ := box5 hbx
  have HE := Lib.hid (refRgt_any l.k l.f l.t l.x l.ns A l.ns.length cap rfl hn2 w0 ((hr.below hb0 (Nat.le_refl _)).more hb0.size))
  rw [show Ltr.right ⟨l.k, l.f, l.t, l.x, l.ns⟩ = true from hR] at HE
  have HRD : Hid (∀ W, Below w.heap.size w W → RdI W W.heap.size A l.ns) := Lib.hid fun W hW => (hr.below hW (Nat.le_refl _)).more hW.size
  have HB0 := Lib.hid hb0
  have HN2 := Lib.hid hn2
  rw [hw0] at x0 x1 x2 x3 x4 HE HB0 HBX
  clear h hlen hs hR hr hN hw0 hbx hb0 hn2 hSX hs1'
  obtain ⟨k, f, t, x, ns⟩ := l
  simp only at *
  go_enter Try.func11, Try.ntmps11
  go_upto_region 8 with (first
    | (go_at_call 29; refine HE.out.mono ?_; rintro e w1 ⟨rfl, hb1⟩
       have hB1 := HB0.out.trans (hb1.mono HB0.out.size)
       have HB1 := Lib.hid hB1
       have hbx1 := (hb1.block _ (Array.getElem?_eq_some_iff.1 HBX.out).1).trans HBX.out
       obtain ⟨x0, x1, x2, x3, x4⟩ := box5 hbx1
       have hlx := (Array.getElem?_eq_some_iff.1 hbx1).1
       have cb := (box4_ (HRF.out w1 hB1).box).1
       rw [HN.out] at cb
       have hlb1 := (HRF.out w1 hB1).lt
       clear hB1 hb1 hbx1)
    | (refine wpList_appI (xs := []) (ys := ns) (B := w1.heap.size + 1) rfl _ _ 30 rfl Try.underlying30 rfl (OwnI.empty_at _ (by simp)) rfl rfl (HRD.out _ (HB1.out.trans ((alloc2_below w1 _ _).mono HB1.out.size))) (by have := HN2.out; simp; omega) (by simp) ?_
       intro v4 w4 ho4 hg4
       rw [List.nil_append] at ho4
       obtain ⟨A3, c3, hv4, hc3⟩ := ho4.2
       subst hv4
       have hbo2 : ((w1.alloc (.cells #[.int .i64 k, .int .i64 f, .int .i64 t, .int .i64 x, .slice A ns.length cap] 32)).alloc (.cells #[] 3)).heap[w1.heap.size]? = _ := ((alloc_below (w1.alloc _) (.cells #[] 3)).block _ (by simp)).trans (heap_alloc_new w1 (.cells #[.int .i64 k, .int .i64 f, .int .i64 t, .int .i64 x, .slice A ns.length cap] 32))
       have hbo4 := (hg4.by_.block w1.heap.size (Array.getElem?_eq_some_iff.1 hbo2).1 (fun e => by injection e with e; simp at e)).trans hbo2
       have hB4 : Below w.heap.size w w4 := (HB1.out.trans ((alloc2_below w1 _ _).mono HB1.out.size)).trans (grown_below' hg4.by_ (by have := HB1.out.size; show w.heap.size ≤ w1.heap.size + 1; omega) (by have := HB1.out.size; simp; omega))
       obtain ⟨o0, o1, o2, o3, o4⟩ := box5 hbo4
       have z4 := frozen_of hbo4 4
       have HBO4 := Lib.hid hbo4
       have HB4 := Lib.hid hB4
       have HO4 := Lib.hid ho4
       clear ho4 hg4 hc3 hbo2 hbo4 hB4))
  obtain ⟨W3, hW3⟩ : ∃ W3, Hid (W3 = w4.setCell ⟨w1.heap.size, 4, none⟩ (.slice A3 ns.length c3)) := ⟨_, Lib.hid rfl⟩
  rw [← hW3.out]
  have hB3 : Below w.heap.size w W3 := by rw [hW3.out]; exact HB4.out.setCell (by exact HB1.out.size) _
  have hbo3 : W3.heap[w1.heap.size]? = some (.cells #[.int .i64 k, .int .i64 f, .int .i64 t, .int .i64 x, .slice A3 ns.length c3] 32 (0, 0)) := by rw [hW3.out]; exact own5_set HBO4.out _
  have hrd3 : Rd0 W3 A3 (intsZ ns) := by
    rw [hW3.out]
    exact (HO4.out.kept (grown_set w4 w1.heap.size 4 _) (fun e => by have := HO4.out.ge _ e; omega)).rd0
  have HL : Hid (∀ W, Below W3.heap.size W3 W → Below w.heap.size w W) := Lib.hid fun W hW => hB3.trans (hW.mono hB3.size)
  have HR3 : Hid (∀ W, Below W3.heap.size W3 W → Rd0 W A3 (intsZ ns)) := Lib.hid fun W hW => hrd3.only (Q := fun _ => False) (intsZ_head _) (Only.of_below hW) fun _ h => h.elim
  have HA3 : Hid (∀ g, A3 = some ⟨g, 0, none⟩ → w.heap.size ≤ g) := Lib.hid fun g e => by
    have h1 := HO4.out.ge g (by rw [e]; rfl)
    have h2 := HB1.out.size
    omega
  have HS3 : Hid (w.heap.size ≤ W3.heap.size) := Lib.hid hB3.size
  have HOX : Hid (∀ W, Below W3.heap.size W3 W → W.cell? ⟨w1.heap.size, 0, none⟩ = some (.int .i64 k) ∧ W.cell? ⟨w1.heap.size, 1, none⟩ = some (.int .i64 f) ∧ W.cell? ⟨w1.heap.size, 2, none⟩ = some (.int .i64 t) ∧ W.cell? ⟨w1.heap.size, 3, none⟩ = some (.int .i64 x) ∧ W.cell? ⟨w1.heap.size, 4, none⟩ = some (.slice A3 ns.length c3)) := Lib.hid fun W hW => box5 ((hW.block _ (Array.getElem?_eq_some_iff.1 hbo3).1).trans hbo3)
  have HSS : Hid (∀ W, Below W3.heap.size W3 W → (fun W => W.cell? ⟨w1.heap.size, 0, none⟩ = some (.int .i64 k) ∧ W.cell? ⟨w1.heap.size, 1, none⟩ = some (.int .i64 f) ∧ W.cell? ⟨w1.heap.size, 2, none⟩ = some (.int .i64 t) ∧ W.cell? ⟨w1.heap.size, 3, none⟩ = some (.int .i64 x) ∧ W.cell? ⟨w1.heap.size, 4, none⟩ = some (.slice A3 ns.length c3) ∧ W.cell? ⟨b, 1, none⟩ = some (.int .i64 (s : Int))) W) := Lib.hid fun W hW => by
    obtain ⟨y0, y1, y2, y3, y4⟩ := HOX.out W hW
    exact ⟨y0, y1, y2, y3, y4, (box4_ (HRF.out W (HL.out W hW)).box).2.1⟩
  have HSE : Hid (∀ W v, Below W3.heap.size W3 W → (fun W => W.cell? ⟨w1.heap.size, 0, none⟩ = some (.int .i64 k) ∧ W.cell? ⟨w1.heap.size, 1, none⟩ = some (.int .i64 f) ∧ W.cell? ⟨w1.heap.size, 2, none⟩ = some (.int .i64 t) ∧ W.cell? ⟨w1.heap.size, 3, none⟩ = some (.int .i64 x) ∧ W.cell? ⟨w1.heap.size, 4, none⟩ = some (.slice A3 ns.length c3) ∧ W.cell? ⟨b, 1, none⟩ = some (.int .i64 (s : Int))) (W.setCell ⟨b, 0, none⟩ v)) := Lib.hid fun W v hW => by
    have hne : w1.heap.size ≠ b := fun e => by
      have h1 := (HOX.out W hW).1
      have h2 := (HRF.out W (HL.out W hW)).notI
      rw [e] at h1
      exact h2 _ h1
    have hx : (W.setCell ⟨b, 0, none⟩ v).heap[w1.heap.size]? = W.heap[w1.heap.size]? := Below.heap_setCell _ _ _ _ hne
    obtain ⟨y0, y1, y2, y3, y4⟩ := HOX.out W hW
    refine ⟨(World.cell?_of_block (a := ⟨w1.heap.size, 0, none⟩) hx).trans y0, (World.cell?_of_block (a := ⟨w1.heap.size, 1, none⟩) hx).trans y1, (World.cell?_of_block (a := ⟨w1.heap.size, 2, none⟩) hx).trans y2, (World.cell?_of_block (a := ⟨w1.heap.size, 3, none⟩) hx).trans y3, (World.cell?_of_block (a := ⟨w1.heap.size, 4, none⟩) hx).trans y4, ?_⟩
    exact (box4_ (box4_set (HRF.out W (HL.out W hW)).box v).1).2.1
  have HC0 : Hid (∀ W, Below W3.heap.size W3 W → W.cell? ⟨b, 0, none⟩ = some (.slice A0 N cap0) ∧ W.cell? ⟨b, 1, none⟩ = some (.int .i64 (s : Int)) ∧ W.frozen? ⟨b, 0, none⟩ = false ∧ W.frozen? ⟨b, 1, none⟩ = false) := Lib.hid fun W hW => by
    have h1 := (HRF.out W (HL.out W hW)).box
    rw [HN.out] at h1
    exact ⟨(box4_ h1).1, (box4_ h1).2.1, frozen_of h1 0, frozen_of h1 1⟩
  have HRW : Hid (∀ W, Below W3.heap.size W3 W → RdWs W A0 ws) := Lib.hid fun W hW => (HRF.out W (HL.out W hW)).row.ways
  have HB30 : Hid (Below W3.heap.size W3 W3.drew) := Lib.hid (Below.refl _ W3).drew
  have hSS := HSS.out _ HB30.out
  have hlb3 : b < W3.heap.size := (HRF.out _ hB3).lt
  have HEN3 : Hid (∀ w9 g9 n9 cap9, Below W3.heap.size W3 w9 → OwnY w9 W3.heap.size (.slice (some ⟨g9, 0, none⟩) n9 cap9) (([] ++ ws) ++ [(⟨s, ⟨⟨k, f, t, x, ns⟩, A3, c3⟩⟩ : Wy)]) → RsR w b ws s t' lo ⟨k, f, t, x, ns⟩ ((w9.setCell ⟨b, 0, none⟩ (.slice (some ⟨g9, 0, none⟩) n9 cap9)).setCell ⟨b, 1, none⟩ (.int .i64 SX))) := Lib.hid fun w9 g9 n9 cap9 hb ho => HEND.out w9 A3 c3 g9 n9 cap9 (HL.out _ hb) (HR3.out _ hb) HA3.out (ho.low HS3.out)
  clear hB3 hbo3 hrd3 x0 x1 x2 x3 x4 o0 o1 o2 o3 o4 z4 cb
  refine wp_region_held_drew (S := (fun W => W.cell? ⟨w1.heap.size, 0, none⟩ = some (.int .i64 k) ∧ W.cell? ⟨w1.heap.size, 1, none⟩ = some (.int .i64 f) ∧ W.cell? ⟨w1.heap.size, 2, none⟩ = some (.int .i64 t) ∧ W.cell? ⟨w1.heap.size, 3, none⟩ = some (.int .i64 x) ∧ W.cell? ⟨w1.heap.size, 4, none⟩ = some (.slice A3 ns.length c3) ∧ W.cell? ⟨b, 1, none⟩ = some (.int .i64 (s : Int)))) (by kernel_rfl) hSS (fun _ => ?_)
  refine wpAnyH_take (i := 0) (oi := ({ dst := Option.some 24, op := Go.Op.move (Go.Operand.tmp 0), type := 25, pos := "ref.go:42", after := #[], guard := Option.none } : Oper)) (v := ?v0x1) rfl (by kernel_rfl) (by kernel_rfl) (by kernel_rfl) (fun _ _ _ h => h) (Or.inl ⟨by rfl, ?hy0x1⟩) hSS ?rest0x1
  case hy0x1 =>
    intro W0 hSw
    obtain ⟨s0, s1, s2, s3, s4, s5⟩ := hSw
    go_simp
    first | done | with_reducible rfl
  try simp only [Act.put, List.setIfInBounds_toArray, List.set_cons_zero, List.set_cons_succ]
  refine wpAnyH_take (i := 2) (oi := ({ dst := Option.some 26, op := Go.Op.move (Go.Operand.tmp 0), type := 25, pos := "ref.go:42", after := #[], guard := Option.none } : Oper)) (v := ?v2x2) rfl (by kernel_rfl) (by kernel_rfl) (by kernel_rfl) (fun _ _ _ h => h) (Or.inl ⟨by rfl, ?hy2x2⟩) hSS ?rest2x2
  case hy2x2 =>
    intro W0 hSw
    obtain ⟨s0, s1, s2, s3, s4, s5⟩ := hSw
    go_simp
    first | done | with_reducible rfl
  try simp only [Act.put, List.setIfInBounds_toArray, List.set_cons_zero, List.set_cons_succ]
  refine wpAnyH_take (i := 3) (oi := ({ dst := Option.some 27, op := Go.Op.nilCheck (Go.Operand.tmp 26), type := 0, pos := "ref.go:42", after := #[{ on := 2, ground := Go.Ground.data }], guard := Option.none } : Oper)) (v := ?v3x3) rfl (by kernel_rfl) (by kernel_rfl) (by kernel_rfl) (fun _ _ _ h => h) (Or.inl ⟨by rfl, ?hy3x3⟩) hSS ?rest3x3
  case hy3x3 =>
    intro W0 hSw
    obtain ⟨s0, s1, s2, s3, s4, s5⟩ := hSw
    go_simp
    first | done | with_reducible rfl
  try simp only [Act.put, List.setIfInBounds_toArray, List.set_cons_zero, List.set_cons_succ]
  refine wpAnyH_take (i := 4) (oi := ({ dst := Option.some 28, op := Go.Op.fieldAddr 28 (Go.Operand.tmp 27) 0, type := 0, pos := "ref.go:42", after := #[{ on := 3, ground := Go.Ground.data }], guard := Option.none } : Oper)) (v := ?v4x4) rfl (by kernel_rfl) (by kernel_rfl) (by kernel_rfl) (fun _ _ _ h => h) (Or.inl ⟨by rfl, ?hy4x4⟩) hSS ?rest4x4
  case hy4x4 =>
    intro W0 hSw
    obtain ⟨s0, s1, s2, s3, s4, s5⟩ := hSw
    go_simp
    first | done | with_reducible rfl
  try simp only [Act.put, List.setIfInBounds_toArray, List.set_cons_zero, List.set_cons_succ]
  refine wpAnyH_take (i := 7) (oi := ({ dst := Option.some 31, op := Go.Op.move (Go.Operand.tmp 0), type := 25, pos := "ref.go:42", after := #[], guard := Option.none } : Oper)) (v := ?v7x5) rfl (by kernel_rfl) (by kernel_rfl) (by kernel_rfl) (fun _ _ _ h => h) (Or.inl ⟨by rfl, ?hy7x5⟩) hSS ?rest7x5
  case hy7x5 =>
    intro W0 hSw
    obtain ⟨s0, s1, s2, s3, s4, s5⟩ := hSw
    go_simp
    first | done | with_reducible rfl
  try simp only [Act.put, List.setIfInBounds_toArray, List.set_cons_zero, List.set_cons_succ]
  refine wpAnyH_take (i := 8) (oi := ({ dst := Option.some 32, op := Go.Op.nilCheck (Go.Operand.tmp 31), type := 0, pos := "ref.go:42", after := #[{ on := 7, ground := Go.Ground.data }], guard := Option.none } : Oper)) (v := ?v8x6) rfl (by kernel_rfl) (by kernel_rfl) (by kernel_rfl) (fun _ _ _ h => h) (Or.inl ⟨by rfl, ?hy8x6⟩) hSS ?rest8x6
  case hy8x6 =>
    intro W0 hSw
    obtain ⟨s0, s1, s2, s3, s4, s5⟩ := hSw
    go_simp
    first | done | with_reducible rfl
  try simp only [Act.put, List.setIfInBounds_toArray, List.set_cons_zero, List.set_cons_succ]
  refine wpAnyH_take (i := 9) (oi := ({ dst := Option.some 33, op := Go.Op.fieldAddr 28 (Go.Operand.tmp 32) 1, type := 0, pos := "ref.go:42", after := #[{ on := 8, ground := Go.Ground.data }], guard := Option.none } : Oper)) (v := ?v9x7) rfl (by kernel_rfl) (by kernel_rfl) (by kernel_rfl) (fun _ _ _ h => h) (Or.inl ⟨by rfl, ?hy9x7⟩) hSS ?rest9x7
  case hy9x7 =>
    intro W0 hSw
    obtain ⟨s0, s1, s2, s3, s4, s5⟩ := hSw
    go_simp
    first | done | with_reducible rfl
  try simp only [Act.put, List.setIfInBounds_toArray, List.set_cons_zero, List.set_cons_succ]
  refine wpAnyH_take (i := 10) (oi := ({ dst := Option.some 34, op := Go.Op.load 3 (Go.Operand.tmp 33), type := 3, pos := "ref.go:42", after := #[{ on := 9, ground := Go.Ground.data }], guard := Option.none } : Oper)) (v := ?v10x8) rfl (by kernel_rfl) (by kernel_rfl) (by kernel_rfl) (fun _ _ _ h => h) (Or.inl ⟨by rfl, ?hy10x8⟩) hSS ?rest10x8
  case hy10x8 =>
    intro W0 hSw
    obtain ⟨s0, s1, s2, s3, s4, s5⟩ := hSw
    go_simp
    first | done | with_reducible rfl
  try simp only [Act.put, List.setIfInBounds_toArray, List.set_cons_zero, List.set_cons_succ]
  refine wpAnyH_take (i := 11) (oi := ({ dst := Option.some 35, op := Go.Op.load 32 (Go.Operand.tmp 7), type := 32, pos := "ref.go:42", after := #[], guard := Option.none } : Oper)) (v := ?v11x9) rfl (by kernel_rfl) (by kernel_rfl) (by kernel_rfl) (fun _ _ _ h => h) (Or.inl ⟨by rfl, ?hy11x9⟩) hSS ?rest11x9
  case hy11x9 =>
    intro W0 hSw
    obtain ⟨s0, s1, s2, s3, s4, s5⟩ := hSw
    go_simp
    first | done | with_reducible rfl
  try simp only [Act.put, List.setIfInBounds_toArray, List.set_cons_zero, List.set_cons_succ]
  refine wpAnyH_take (i := 12) (oi := ({ dst := Option.some 36, op := Go.Op.build 40 #[(0, Go.Operand.tmp 34), (1, Go.Operand.tmp 35)], type := 40, pos := "ref.go:42", after := #[{ on := 10, ground := Go.Ground.data }, { on := 11, ground := Go.Ground.data }], guard := Option.none } : Oper)) (v := ?v12x10) rfl (by kernel_rfl) (by kernel_rfl) (by kernel_rfl) (fun _ _ _ h => h) (Or.inl ⟨by rfl, ?hy12x10⟩) hSS ?rest12x10
  case hy12x10 =>
    intro W0 hSw
    obtain ⟨s0, s1, s2, s3, s4, s5⟩ := hSw
    go_simp
    first | done | with_reducible rfl
  try simp only [Act.put, List.setIfInBounds_toArray, List.set_cons_zero, List.set_cons_succ]
  refine wpAnyH_ready (rs := [1, 5, 13]) (by kernel_rfl) (by simp) ?_
  refine AllReadyH.cons (o := ({ dst := Option.some 25, op := Go.Op.buildSlice 26 0 #[], type := 26, pos := "ref.go:42", after := #[], guard := Option.none } : Oper)) rfl (fun K0 hK0 => ?_) (AllReadyH.cons (o := ({ dst := Option.some 29, op := Go.Op.load 26 (Go.Operand.tmp 28), type := 26, pos := "ref.go:42", after := #[{ on := 4, ground := Go.Ground.data }], guard := Option.none } : Oper)) rfl (fun K0 hK0 => ?_) (AllReadyH.cons (o := ({ dst := Option.some 37, op := Go.Op.buildSlice 26 1 #[(0, Go.Operand.tmp 36)], type := 26, pos := "ref.go:42", after := #[{ on := 12, ground := Go.Ground.data }], guard := Option.none } : Oper)) rfl (fun K0 hK0 => ?_) AllReadyH.nil))
  · go_simp
    have HB31 : Hid (Below W3.heap.size W3 (W3.drew.alloc (.cells #[] 40))) := Lib.hid (HB30.out.trans ((alloc_below W3.drew _).mono HB30.out.size))
    have HE31 : Hid (OwnY (W3.drew.alloc (.cells #[] 40)) W3.heap.size (.slice (some ⟨W3.heap.size, 0, none⟩) 0 0) []) := Lib.hid (OwnY.empty_at _ (by simp) (by omega))
    have hSS := HSS.out _ HB31.out
    refine hK0.out _ _ hSS (fun _ => ?_)
    clear hK0 K0
    try simp only [Act.put, List.setIfInBounds_toArray, List.set_cons_zero, List.set_cons_succ]
    refine wpAnyH_ready (rs := [5, 13]) (by kernel_rfl) (by simp) ?_
    refine AllReadyH.cons (o := ({ dst := Option.some 29, op := Go.Op.load 26 (Go.Operand.tmp 28), type := 26, pos := "ref.go:42", after := #[{ on := 4, ground := Go.Ground.data }], guard := Option.none } : Oper)) rfl (fun K0 hK0 => ?_) (AllReadyH.cons (o := ({ dst := Option.some 37, op := Go.Op.buildSlice 26 1 #[(0, Go.Operand.tmp 36)], type := 26, pos := "ref.go:42", after := #[{ on := 12, ground := Go.Ground.data }], guard := Option.none } : Oper)) rfl (fun K0 hK0 => ?_) AllReadyH.nil)
    · have cb := (HC0.out _ HB31.out).1
      have cb0 := (HC0.out W3 (Below.refl _ _)).1
      go_simp
      refine hK0.out _ _ hSS (fun _ => ?_)
      clear cb cb0
      clear hK0 K0
      try simp only [Act.put, List.setIfInBounds_toArray, List.set_cons_zero, List.set_cons_succ]
      refine wpAnyH_ready (rs := [6, 13]) (by kernel_rfl) (by simp) ?_
      refine AllReadyH.cons (o := ({ dst := Option.some 30, op := Go.Op.call { callee := Go.Callee.builtin Go.Builtin.append, args := #[Go.Operand.tmp 25, Go.Operand.tmp 29], argTypes := #[26, 26] }, type := 26, pos := "ref.go:42", after := #[{ on := 1, ground := Go.Ground.data }, { on := 5, ground := Go.Ground.data }], guard := Option.none } : Oper)) rfl (fun K0 hK0 => ?_) (AllReadyH.cons (o := ({ dst := Option.some 37, op := Go.Op.buildSlice 26 1 #[(0, Go.Operand.tmp 36)], type := 26, pos := "ref.go:42", after := #[{ on := 12, ground := Go.Ground.data }], guard := Option.none } : Oper)) rfl (fun K0 hK0 => ?_) AllReadyH.nil)
      · refine step_appY (xs := []) (ys := ws) (B := W3.heap.size) rfl _ _ 26 rfl Try.underlying26 rfl HE31.out rfl HN.out (HRW.out _ HB31.out) (by have := HN9.out; simp; omega) HB31.out.size ?_
        intro v6 W6 ho6 hg6
        obtain ⟨g6, cap6, hv6, hB6⟩ := ho6.2
        rw [show (([] : List Wy) ++ ws).length = N from HN.out] at hv6
        subst hv6
        have HB33 : Hid (Below W3.heap.size W3 W6) := Lib.hid (HB31.out.trans (grown_below' hg6 (show W3.heap.size ≤ W3.heap.size by omega) HB31.out.size))
        have HE33 := Lib.hid ho6
        have hSS := HSS.out _ HB33.out
        have HB6 := Lib.hid hB6
        refine hK0.out _ _ hSS (fun _ => ?_)
        clear ho6 hg6 hB6
        clear hK0 K0
        try simp only [Act.put, List.setIfInBounds_toArray, List.set_cons_zero, List.set_cons_succ]
        refine wpAnyH_ready (rs := [13]) (by kernel_rfl) (by simp) ?_
        refine AllReadyH.cons (o := ({ dst := Option.some 37, op := Go.Op.buildSlice 26 1 #[(0, Go.Operand.tmp 36)], type := 26, pos := "ref.go:42", after := #[{ on := 12, ground := Go.Ground.data }], guard := Option.none } : Oper)) rfl (fun K0 hK0 => ?_) AllReadyH.nil
        go_simp
        have HB34 : Hid (Below W3.heap.size W3 (W6.alloc (.cells #[.int .i64 (s : Int), .int .i64 k, .int .i64 f, .int .i64 t, .int .i64 x, .slice A3 ns.length c3] 40))) := Lib.hid (HB33.out.trans ((alloc_below W6 _).mono HB33.out.size))
        have HY34 : Hid (RdWs (W6.alloc (.cells #[.int .i64 (s : Int), .int .i64 k, .int .i64 f, .int .i64 t, .int .i64 x, .slice A3 ns.length c3] 40)) (some ⟨W6.heap.size, 0, none⟩) [(⟨s, ⟨⟨k, f, t, x, ns⟩, A3, c3⟩⟩ : Wy)]) := Lib.hid (rd_oneY_at _ (by simp) (⟨s, ⟨⟨k, f, t, x, ns⟩, A3, c3⟩⟩ : Wy))
        have HE34 := Lib.hid (HE33.out.below (alloc_below W6 (.cells #[.int .i64 (s : Int), .int .i64 k, .int .i64 f, .int .i64 t, .int .i64 x, .slice A3 ns.length c3] 40)))
        have hSS := HSS.out _ HB34.out
        refine hK0.out _ _ hSS (fun _ => ?_)
        clear hK0 K0
        try simp only [Act.put, List.setIfInBounds_toArray, List.set_cons_zero, List.set_cons_succ]
        refine wpAnyH_ready (rs := [14]) (by kernel_rfl) (by simp) ?_
        refine AllReadyH.cons (o := ({ dst := Option.some 38, op := Go.Op.call { callee := Go.Callee.builtin Go.Builtin.append, args := #[Go.Operand.tmp 30, Go.Operand.tmp 37], argTypes := #[26, 26] }, type := 26, pos := "ref.go:42", after := #[{ on := 6, ground := Go.Ground.data }, { on := 13, ground := Go.Ground.data }, { on := 6, ground := Go.Ground.chain }], guard := Option.none } : Oper)) rfl (fun K0 hK0 => ?_) AllReadyH.nil
        refine step_appY (xs := [] ++ ws) (ys := [(⟨s, ⟨⟨k, f, t, x, ns⟩, A3, c3⟩⟩ : Wy)]) (B := W3.heap.size) rfl _ _ 26 rfl Try.underlying26 rfl HE34.out rfl rfl HY34.out (by have := HN9.out; simp; omega) HB34.out.size ?_
        intro v9 W9 ho9 hg9
        obtain ⟨g9, cap9, hv9, hB9⟩ := ho9.2
        rw [show ((([] : List Wy) ++ ws) ++ [(⟨s, ⟨⟨k, f, t, x, ns⟩, A3, c3⟩⟩ : Wy)]).length = N + 1 by rw [List.nil_append, List.length_append, HN.out]; rfl] at hv9
        subst hv9
        have HB35 : Hid (Below W3.heap.size W3 W9) := Lib.hid (HB34.out.trans (grown_below' hg9 HB6.out HB34.out.size))
        have HE35 := Lib.hid ho9
        have hSS := HSS.out _ HB35.out
        obtain ⟨c90, c91, z90, z91⟩ := HC0.out _ HB35.out
        refine hK0.out _ _ hSS (fun _ => ?_)
        clear ho9 hg9 hB9
        clear hK0 K0
        try simp only [Act.put, List.setIfInBounds_toArray, List.set_cons_zero, List.set_cons_succ]
        refine wpAnyH_take (i := 15) (oi := ({ dst := Option.some 39, op := Go.Op.nilCheck (Go.Operand.tmp 24), type := 0, pos := "ref.go:42", after := #[{ on := 0, ground := Go.Ground.data }, { on := 0, ground := Go.Ground.phase }, { on := 1, ground := Go.Ground.phase }, { on := 2, ground := Go.Ground.phase }, { on := 3, ground := Go.Ground.phase }, { on := 4, ground := Go.Ground.phase }, { on := 5, ground := Go.Ground.phase }, { on := 6, ground := Go.Ground.phase }, { on := 7, ground := Go.Ground.phase }, { on := 8, ground := Go.Ground.phase }, { on := 9, ground := Go.Ground.phase }, { on := 10, ground := Go.Ground.phase }, { on := 11, ground := Go.Ground.phase }, { on := 12, ground := Go.Ground.phase }, { on := 13, ground := Go.Ground.phase }, { on := 14, ground := Go.Ground.phase }], guard := Option.none } : Oper)) (v := ?v15x11) rfl (by kernel_rfl) (by kernel_rfl) (by kernel_rfl) (fun _ _ _ h => h) (Or.inl ⟨by rfl, ?hy15x11⟩) hSS ?rest15x11
        case hy15x11 =>
          intro W0 hSw
          obtain ⟨s0, s1, s2, s3, s4, s5⟩ := hSw
          go_simp
          first | done | with_reducible rfl
        try simp only [Act.put, List.setIfInBounds_toArray, List.set_cons_zero, List.set_cons_succ]
        refine wpAnyH_take (i := 16) (oi := ({ dst := Option.some 40, op := Go.Op.fieldAddr 28 (Go.Operand.tmp 39) 0, type := 0, pos := "ref.go:42", after := #[{ on := 15, ground := Go.Ground.data }, { on := 0, ground := Go.Ground.phase }, { on := 1, ground := Go.Ground.phase }, { on := 2, ground := Go.Ground.phase }, { on := 3, ground := Go.Ground.phase }, { on := 4, ground := Go.Ground.phase }, { on := 5, ground := Go.Ground.phase }, { on := 6, ground := Go.Ground.phase }, { on := 7, ground := Go.Ground.phase }, { on := 8, ground := Go.Ground.phase }, { on := 9, ground := Go.Ground.phase }, { on := 10, ground := Go.Ground.phase }, { on := 11, ground := Go.Ground.phase }, { on := 12, ground := Go.Ground.phase }, { on := 13, ground := Go.Ground.phase }, { on := 14, ground := Go.Ground.phase }], guard := Option.none } : Oper)) (v := ?v16x12) rfl (by kernel_rfl) (by kernel_rfl) (by kernel_rfl) (fun _ _ _ h => h) (Or.inl ⟨by rfl, ?hy16x12⟩) hSS ?rest16x12
        case hy16x12 =>
          intro W0 hSw
          obtain ⟨s0, s1, s2, s3, s4, s5⟩ := hSw
          go_simp
          first | done | with_reducible rfl
        try simp only [Act.put, List.setIfInBounds_toArray, List.set_cons_zero, List.set_cons_succ]
        refine wpAnyH_ready (rs := [17]) (by kernel_rfl) (by simp) ?_
        refine AllReadyH.cons (o := ({ dst := Option.none, op := Go.Op.store 26 (Go.Operand.tmp 40) (Go.Operand.tmp 38), type := 0, pos := "ref.go:42", after := #[{ on := 16, ground := Go.Ground.data }, { on := 14, ground := Go.Ground.data }, { on := 14, ground := Go.Ground.chain }, { on := 0, ground := Go.Ground.phase }, { on := 1, ground := Go.Ground.phase }, { on := 2, ground := Go.Ground.phase }, { on := 3, ground := Go.Ground.phase }, { on := 4, ground := Go.Ground.phase }, { on := 5, ground := Go.Ground.phase }, { on := 6, ground := Go.Ground.phase }, { on := 7, ground := Go.Ground.phase }, { on := 8, ground := Go.Ground.phase }, { on := 9, ground := Go.Ground.phase }, { on := 10, ground := Go.Ground.phase }, { on := 11, ground := Go.Ground.phase }, { on := 12, ground := Go.Ground.phase }, { on := 13, ground := Go.Ground.phase }, { on := 14, ground := Go.Ground.phase }], guard := Option.none } : Oper)) rfl (fun K0 hK0 => ?_) AllReadyH.nil
        go_simp
        have HXE := Lib.hid (HEN3.out _ _ _ _ HB35.out HE35.out)
        refine hK0.out _ _ (HSE.out _ _ HB35.out) (fun _ => ?_)
        clear hK0 K0
        try simp only [Act.put, List.setIfInBounds_toArray, List.set_cons_zero, List.set_cons_succ]
        refine wpAnyH_done (by kernel_rfl) ?_ _
        go_wp2_with fail
        refine bodyPost_ret (v := .tuple #[.int .i64 (s : Int), .int .i64 0]) (by simp [results, Try.results11, go_sem]) rfl ?_
        exact ⟨rfl, HXE.out⟩
      · go_simp
        have HB33 : Hid (Below W3.heap.size W3 ((W3.drew.alloc (.cells #[] 40)).alloc (.cells #[.int .i64 (s : Int), .int .i64 k, .int .i64 f, .int .i64 t, .int .i64 x, .slice A3 ns.length c3] 40))) := Lib.hid (HB31.out.trans ((alloc_below (W3.drew.alloc (.cells #[] 40)) _).mono HB31.out.size))
        have HY33 : Hid (RdWs ((W3.drew.alloc (.cells #[] 40)).alloc (.cells #[.int .i64 (s : Int), .int .i64 k, .int .i64 f, .int .i64 t, .int .i64 x, .slice A3 ns.length c3] 40)) (some ⟨(W3.heap.size + 1), 0, none⟩) [(⟨s, ⟨⟨k, f, t, x, ns⟩, A3, c3⟩⟩ : Wy)]) := Lib.hid (rd_oneY_at _ (by simp) (⟨s, ⟨⟨k, f, t, x, ns⟩, A3, c3⟩⟩ : Wy))
        have HE33 := Lib.hid (HE31.out.below (alloc_below (W3.drew.alloc (.cells #[] 40)) (.cells #[.int .i64 (s : Int), .int .i64 k, .int .i64 f, .int .i64 t, .int .i64 x, .slice A3 ns.length c3] 40)))
        have hSS := HSS.out _ HB33.out
        refine hK0.out _ _ hSS (fun _ => ?_)
        clear hK0 K0
        try simp only [Act.put, List.setIfInBounds_toArray, List.set_cons_zero, List.set_cons_succ]
        refine wpAnyH_ready (rs := [6]) (by kernel_rfl) (by simp) ?_
        refine AllReadyH.cons (o := ({ dst := Option.some 30, op := Go.Op.call { callee := Go.Callee.builtin Go.Builtin.append, args := #[Go.Operand.tmp 25, Go.Operand.tmp 29], argTypes := #[26, 26] }, type := 26, pos := "ref.go:42", after := #[{ on := 1, ground := Go.Ground.data }, { on := 5, ground := Go.Ground.data }], guard := Option.none } : Oper)) rfl (fun K0 hK0 => ?_) AllReadyH.nil
        refine step_appY (xs := []) (ys := ws) (B := W3.heap.size) rfl _ _ 26 rfl Try.underlying26 rfl HE33.out rfl HN.out (HRW.out _ HB33.out) (by have := HN9.out; simp; omega) HB33.out.size ?_
        intro v6 W6 ho6 hg6
        obtain ⟨g6, cap6, hv6, hB6⟩ := ho6.2
        rw [show (([] : List Wy) ++ ws).length = N from HN.out] at hv6
        subst hv6
        have HB34 : Hid (Below W3.heap.size W3 W6) := Lib.hid (HB33.out.trans (grown_below' hg6 (show W3.heap.size ≤ W3.heap.size by omega) HB33.out.size))
        have HE34 := Lib.hid ho6
        have HY34 := Lib.hid (HY33.out.grown hg6 (show (W3.heap.size + 1) ≠ W3.heap.size by omega))
        have hSS := HSS.out _ HB34.out
        have HB6 := Lib.hid hB6
        refine hK0.out _ _ hSS (fun _ => ?_)
        clear ho6 hg6 hB6
        clear hK0 K0
        try simp only [Act.put, List.setIfInBounds_toArray, List.set_cons_zero, List.set_cons_succ]
        refine wpAnyH_ready (rs := [14]) (by kernel_rfl) (by simp) ?_
        refine AllReadyH.cons (o := ({ dst := Option.some 38, op := Go.Op.call { callee := Go.Callee.builtin Go.Builtin.append, args := #[Go.Operand.tmp 30, Go.Operand.tmp 37], argTypes := #[26, 26] }, type := 26, pos := "ref.go:42", after := #[{ on := 6, ground := Go.Ground.data }, { on := 13, ground := Go.Ground.data }, { on := 6, ground := Go.Ground.chain }], guard := Option.none } : Oper)) rfl (fun K0 hK0 => ?_) AllReadyH.nil
        refine step_appY (xs := [] ++ ws) (ys := [(⟨s, ⟨⟨k, f, t, x, ns⟩, A3, c3⟩⟩ : Wy)]) (B := W3.heap.size) rfl _ _ 26 rfl Try.underlying26 rfl HE34.out rfl rfl HY34.out (by have := HN9.out; simp; omega) HB34.out.size ?_
        intro v9 W9 ho9 hg9
        obtain ⟨g9, cap9, hv9, hB9⟩ := ho9.2
        rw [show ((([] : List Wy) ++ ws) ++ [(⟨s, ⟨⟨k, f, t, x, ns⟩, A3, c3⟩⟩ : Wy)]).length = N + 1 by rw [List.nil_append, List.length_append, HN.out]; rfl] at hv9
        subst hv9
        have HB35 : Hid (Below W3.heap.size W3 W9) := Lib.hid (HB34.out.trans (grown_below' hg9 HB6.out HB34.out.size))
        have HE35 := Lib.hid ho9
        have hSS := HSS.out _ HB35.out
        obtain ⟨c90, c91, z90, z91⟩ := HC0.out _ HB35.out
        refine hK0.out _ _ hSS (fun _ => ?_)
        clear ho9 hg9 hB9
        clear hK0 K0
        try simp only [Act.put, List.setIfInBounds_toArray, List.set_cons_zero, List.set_cons_succ]
        refine wpAnyH_take (i := 15) (oi := ({ dst := Option.some 39, op := Go.Op.nilCheck (Go.Operand.tmp 24), type := 0, pos := "ref.go:42", after := #[{ on := 0, ground := Go.Ground.data }, { on := 0, ground := Go.Ground.phase }, { on := 1, ground := Go.Ground.phase }, { on := 2, ground := Go.Ground.phase }, { on := 3, ground := Go.Ground.phase }, { on := 4, ground := Go.Ground.phase }, { on := 5, ground := Go.Ground.phase }, { on := 6, ground := Go.Ground.phase }, { on := 7, ground := Go.Ground.phase }, { on := 8, ground := Go.Ground.phase }, { on := 9, ground := Go.Ground.phase }, { on := 10, ground := Go.Ground.phase }, { on := 11, ground := Go.Ground.phase }, { on := 12, ground := Go.Ground.phase }, { on := 13, ground := Go.Ground.phase }, { on := 14, ground := Go.Ground.phase }], guard := Option.none } : Oper)) (v := ?v15x13) rfl (by kernel_rfl) (by kernel_rfl) (by kernel_rfl) (fun _ _ _ h => h) (Or.inl ⟨by rfl, ?hy15x13⟩) hSS ?rest15x13
        case hy15x13 =>
          intro W0 hSw
          obtain ⟨s0, s1, s2, s3, s4, s5⟩ := hSw
          go_simp
          first | done | with_reducible rfl
        try simp only [Act.put, List.setIfInBounds_toArray, List.set_cons_zero, List.set_cons_succ]
        refine wpAnyH_take (i := 16) (oi := ({ dst := Option.some 40, op := Go.Op.fieldAddr 28 (Go.Operand.tmp 39) 0, type := 0, pos := "ref.go:42", after := #[{ on := 15, ground := Go.Ground.data }, { on := 0, ground := Go.Ground.phase }, { on := 1, ground := Go.Ground.phase }, { on := 2, ground := Go.Ground.phase }, { on := 3, ground := Go.Ground.phase }, { on := 4, ground := Go.Ground.phase }, { on := 5, ground := Go.Ground.phase }, { on := 6, ground := Go.Ground.phase }, { on := 7, ground := Go.Ground.phase }, { on := 8, ground := Go.Ground.phase }, { on := 9, ground := Go.Ground.phase }, { on := 10, ground := Go.Ground.phase }, { on := 11, ground := Go.Ground.phase }, { on := 12, ground := Go.Ground.phase }, { on := 13, ground := Go.Ground.phase }, { on := 14, ground := Go.Ground.phase }], guard := Option.none } : Oper)) (v := ?v16x14) rfl (by kernel_rfl) (by kernel_rfl) (by kernel_rfl) (fun _ _ _ h => h) (Or.inl ⟨by rfl, ?hy16x14⟩) hSS ?rest16x14
        case hy16x14 =>
          intro W0 hSw
          obtain ⟨s0, s1, s2, s3, s4, s5⟩ := hSw
          go_simp
          first | done | with_reducible rfl
        try simp only [Act.put, List.setIfInBounds_toArray, List.set_cons_zero, List.set_cons_succ]
        refine wpAnyH_ready (rs := [17]) (by kernel_rfl) (by simp) ?_
        refine AllReadyH.cons (o := ({ dst := Option.none, op := Go.Op.store 26 (Go.Operand.tmp 40) (Go.Operand.tmp 38), type := 0, pos := "ref.go:42", after := #[{ on := 16, ground := Go.Ground.data }, { on := 14, ground := Go.Ground.data }, { on := 14, ground := Go.Ground.chain }, { on := 0, ground := Go.Ground.phase }, { on := 1, ground := Go.Ground.phase }, { on := 2, ground := Go.Ground.phase }, { on := 3, ground := Go.Ground.phase }, { on := 4, ground := Go.Ground.phase }, { on := 5, ground := Go.Ground.phase }, { on := 6, ground := Go.Ground.phase }, { on := 7, ground := Go.Ground.phase }, { on := 8, ground := Go.Ground.phase }, { on := 9, ground := Go.Ground.phase }, { on := 10, ground := Go.Ground.phase }, { on := 11, ground := Go.Ground.phase }, { on := 12, ground := Go.Ground.phase }, { on := 13, ground := Go.Ground.phase }, { on := 14, ground := Go.Ground.phase }], guard := Option.none } : Oper)) rfl (fun K0 hK0 => ?_) AllReadyH.nil
        go_simp
        have HXE := Lib.hid (HEN3.out _ _ _ _ HB35.out HE35.out)
        refine hK0.out _ _ (HSE.out _ _ HB35.out) (fun _ => ?_)
        clear hK0 K0
        try simp only [Act.put, List.setIfInBounds_toArray, List.set_cons_zero, List.set_cons_succ]
        refine wpAnyH_done (by kernel_rfl) ?_ _
        go_wp2_with fail
        refine bodyPost_ret (v := .tuple #[.int .i64 (s : Int), .int .i64 0]) (by simp [results, Try.results11, go_sem]) rfl ?_
        exact ⟨rfl, HXE.out⟩
    · go_simp
      have HB32 : Hid (Below W3.heap.size W3 ((W3.drew.alloc (.cells #[] 40)).alloc (.cells #[.int .i64 (s : Int), .int .i64 k, .int .i64 f, .int .i64 t, .int .i64 x, .slice A3 ns.length c3] 40))) := Lib.hid (HB31.out.trans ((alloc_below (W3.drew.alloc (.cells #[] 40)) _).mono HB31.out.size))
      have HY32 : Hid (RdWs ((W3.drew.alloc (.cells #[] 40)).alloc (.cells #[.int .i64 (s : Int), .int .i64 k, .int .i64 f, .int .i64 t, .int .i64 x, .slice A3 ns.length c3] 40)) (some ⟨(W3.heap.size + 1), 0, none⟩) [(⟨s, ⟨⟨k, f, t, x, ns⟩, A3, c3⟩⟩ : Wy)]) := Lib.hid (rd_oneY_at _ (by simp) (⟨s, ⟨⟨k, f, t, x, ns⟩, A3, c3⟩⟩ : Wy))
      have HE32 := Lib.hid (HE31.out.below (alloc_below (W3.drew.alloc (.cells #[] 40)) (.cells #[.int .i64 (s : Int), .int .i64 k, .int .i64 f, .int .i64 t, .int .i64 x, .slice A3 ns.length c3] 40)))
      have hSS := HSS.out _ HB32.out
      refine hK0.out _ _ hSS (fun _ => ?_)
      clear hK0 K0
      try simp only [Act.put, List.setIfInBounds_toArray, List.set_cons_zero, List.set_cons_succ]
      refine wpAnyH_ready (rs := [5]) (by kernel_rfl) (by simp) ?_
      refine AllReadyH.cons (o := ({ dst := Option.some 29, op := Go.Op.load 26 (Go.Operand.tmp 28), type := 26, pos := "ref.go:42", after := #[{ on := 4, ground := Go.Ground.data }], guard := Option.none } : Oper)) rfl (fun K0 hK0 => ?_) AllReadyH.nil
      have cb := (HC0.out _ HB32.out).1
      have cb0 := (HC0.out W3 (Below.refl _ _)).1
      go_simp
      refine hK0.out _ _ hSS (fun _ => ?_)
      clear cb cb0
      clear hK0 K0
      try simp only [Act.put, List.setIfInBounds_toArray, List.set_cons_zero, List.set_cons_succ]
      refine wpAnyH_ready (rs := [6]) (by kernel_rfl) (by simp) ?_
      refine AllReadyH.cons (o := ({ dst := Option.some 30, op := Go.Op.call { callee := Go.Callee.builtin Go.Builtin.append, args := #[Go.Operand.tmp 25, Go.Operand.tmp 29], argTypes := #[26, 26] }, type := 26, pos := "ref.go:42", after := #[{ on := 1, ground := Go.Ground.data }, { on := 5, ground := Go.Ground.data }], guard := Option.none } : Oper)) rfl (fun K0 hK0 => ?_) AllReadyH.nil
      refine step_appY (xs := []) (ys := ws) (B := W3.heap.size) rfl _ _ 26 rfl Try.underlying26 rfl HE32.out rfl HN.out (HRW.out _ HB32.out) (by have := HN9.out; simp; omega) HB32.out.size ?_
      intro v6 W6 ho6 hg6
      obtain ⟨g6, cap6, hv6, hB6⟩ := ho6.2
      rw [show (([] : List Wy) ++ ws).length = N from HN.out] at hv6
      subst hv6
      have HB34 : Hid (Below W3.heap.size W3 W6) := Lib.hid (HB32.out.trans (grown_below' hg6 (show W3.heap.size ≤ W3.heap.size by omega) HB32.out.size))
      have HE34 := Lib.hid ho6
      have HY34 := Lib.hid (HY32.out.grown hg6 (show (W3.heap.size + 1) ≠ W3.heap.size by omega))
      have hSS := HSS.out _ HB34.out
      have HB6 := Lib.hid hB6
      refine hK0.out _ _ hSS (fun _ => ?_)
      clear ho6 hg6 hB6
      clear hK0 K0
      try simp only [Act.put, List.setIfInBounds_toArray, List.set_cons_zero, List.set_cons_succ]
      refine wpAnyH_ready (rs := [14]) (by kernel_rfl) (by simp) ?_
      refine AllReadyH.cons (o := ({ dst := Option.some 38, op := Go.Op.call { callee := Go.Callee.builtin Go.Builtin.append, args := #[Go.Operand.tmp 30, Go.Operand.tmp 37], argTypes := #[26, 26] }, type := 26, pos := "ref.go:42", after := #[{ on := 6, ground := Go.Ground.data }, { on := 13, ground := Go.Ground.data }, { on := 6, ground := Go.Ground.chain }], guard := Option.none } : Oper)) rfl (fun K0 hK0 => ?_) AllReadyH.nil
      refine step_appY (xs := [] ++ ws) (ys := [(⟨s, ⟨⟨k, f, t, x, ns⟩, A3, c3⟩⟩ : Wy)]) (B := W3.heap.size) rfl _ _ 26 rfl Try.underlying26 rfl HE34.out rfl rfl HY34.out (by have := HN9.out; simp; omega) HB34.out.size ?_
      intro v9 W9 ho9 hg9
      obtain ⟨g9, cap9, hv9, hB9⟩ := ho9.2
      rw [show ((([] : List Wy) ++ ws) ++ [(⟨s, ⟨⟨k, f, t, x, ns⟩, A3, c3⟩⟩ : Wy)]).length = N + 1 by rw [List.nil_append, List.length_append, HN.out]; rfl] at hv9
      subst hv9
      have HB35 : Hid (Below W3.heap.size W3 W9) := Lib.hid (HB34.out.trans (grown_below' hg9 HB6.out HB34.out.size))
      have HE35 := Lib.hid ho9
      have hSS := HSS.out _ HB35.out
      obtain ⟨c90, c91, z90, z91⟩ := HC0.out _ HB35.out
      refine hK0.out _ _ hSS (fun _ => ?_)
      clear ho9 hg9 hB9
      clear hK0 K0
      try simp only [Act.put, List.setIfInBounds_toArray, List.set_cons_zero, List.set_cons_succ]
      refine wpAnyH_take (i := 15) (oi := ({ dst := Option.some 39, op := Go.Op.nilCheck (Go.Operand.tmp 24), type := 0, pos := "ref.go:42", after := #[{ on := 0, ground := Go.Ground.data }, { on := 0, ground := Go.Ground.phase }, { on := 1, ground := Go.Ground.phase }, { on := 2, ground := Go.Ground.phase }, { on := 3, ground := Go.Ground.phase }, { on := 4, ground := Go.Ground.phase }, { on := 5, ground := Go.Ground.phase }, { on := 6, ground := Go.Ground.phase }, { on := 7, ground := Go.Ground.phase }, { on := 8, ground := Go.Ground.phase }, { on := 9, ground := Go.Ground.phase }, { on := 10, ground := Go.Ground.phase }, { on := 11, ground := Go.Ground.phase }, { on := 12, ground := Go.Ground.phase }, { on := 13, ground := Go.Ground.phase }, { on := 14, ground := Go.Ground.phase }], guard := Option.none } : Oper)) (v := ?v15x15) rfl (by kernel_rfl) (by kernel_rfl) (by kernel_rfl) (fun _ _ _ h => h) (Or.inl ⟨by rfl, ?hy15x15⟩) hSS ?rest15x15
      case hy15x15 =>
        intro W0 hSw
        obtain ⟨s0, s1, s2, s3, s4, s5⟩ := hSw
        go_simp
        first | done | with_reducible rfl
      try simp only [Act.put, List.setIfInBounds_toArray, List.set_cons_zero, List.set_cons_succ]
      refine wpAnyH_take (i := 16) (oi := ({ dst := Option.some 40, op := Go.Op.fieldAddr 28 (Go.Operand.tmp 39) 0, type := 0, pos := "ref.go:42", after := #[{ on := 15, ground := Go.Ground.data }, { on := 0, ground := Go.Ground.phase }, { on := 1, ground := Go.Ground.phase }, { on := 2, ground := Go.Ground.phase }, { on := 3, ground := Go.Ground.phase }, { on := 4, ground := Go.Ground.phase }, { on := 5, ground := Go.Ground.phase }, { on := 6, ground := Go.Ground.phase }, { on := 7, ground := Go.Ground.phase }, { on := 8, ground := Go.Ground.phase }, { on := 9, ground := Go.Ground.phase }, { on := 10, ground := Go.Ground.phase }, { on := 11, ground := Go.Ground.phase }, { on := 12, ground := Go.Ground.phase }, { on := 13, ground := Go.Ground.phase }, { on := 14, ground := Go.Ground.phase }], guard := Option.none } : Oper)) (v := ?v16x16) rfl (by kernel_rfl) (by kernel_rfl) (by kernel_rfl) (fun _ _ _ h => h) (Or.inl ⟨by rfl, ?hy16x16⟩) hSS ?rest16x16
      case hy16x16 =>
        intro W0 hSw
        obtain ⟨s0, s1, s2, s3, s4, s5⟩ := hSw
        go_simp
        first | done | with_reducible rfl
      try simp only [Act.put, List.setIfInBounds_toArray, List.set_cons_zero, List.set_cons_succ]
      refine wpAnyH_ready (rs := [17]) (by kernel_rfl) (by simp) ?_
      refine AllReadyH.cons (o := ({ dst := Option.none, op := Go.Op.store 26 (Go.Operand.tmp 40) (Go.Operand.tmp 38), type := 0, pos := "ref.go:42", after := #[{ on := 16, ground := Go.Ground.data }, { on := 14, ground := Go.Ground.data }, { on := 14, ground := Go.Ground.chain }, { on := 0, ground := Go.Ground.phase }, { on := 1, ground := Go.Ground.phase }, { on := 2, ground := Go.Ground.phase }, { on := 3, ground := Go.Ground.phase }, { on := 4, ground := Go.Ground.phase }, { on := 5, ground := Go.Ground.phase }, { on := 6, ground := Go.Ground.phase }, { on := 7, ground := Go.Ground.phase }, { on := 8, ground := Go.Ground.phase }, { on := 9, ground := Go.Ground.phase }, { on := 10, ground := Go.Ground.phase }, { on := 11, ground := Go.Ground.phase }, { on := 12, ground := Go.Ground.phase }, { on := 13, ground := Go.Ground.phase }, { on := 14, ground := Go.Ground.phase }], guard := Option.none } : Oper)) rfl (fun K0 hK0 => ?_) AllReadyH.nil
      go_simp
      have HXE := Lib.hid (HEN3.out _ _ _ _ HB35.out HE35.out)
      refine hK0.out _ _ (HSE.out _ _ HB35.out) (fun _ => ?_)
      clear hK0 K0
      try simp only [Act.put, List.setIfInBounds_toArray, List.set_cons_zero, List.set_cons_succ]
      refine wpAnyH_done (by kernel_rfl) ?_ _
      go_wp2_with fail
      refine bodyPost_ret (v := .tuple #[.int .i64 (s : Int), .int .i64 0]) (by simp [results, Try.results11, go_sem]) rfl ?_
      exact ⟨rfl, HXE.out⟩
  · have cb := (HC0.out _ HB30.out).1
    have cb0 := (HC0.out W3 (Below.refl _ _)).1
    go_simp
    refine hK0.out _ _ hSS (fun _ => ?_)
    clear cb cb0
    clear hK0 K0
    try simp only [Act.put, List.setIfInBounds_toArray, List.set_cons_zero, List.set_cons_succ]
    refine wpAnyH_ready (rs := [1, 13]) (by kernel_rfl) (by simp) ?_
    refine AllReadyH.cons (o := ({ dst := Option.some 25, op := Go.Op.buildSlice 26 0 #[], type := 26, pos := "ref.go:42", after := #[], guard := Option.none } : Oper)) rfl (fun K0 hK0 => ?_) (AllReadyH.cons (o := ({ dst := Option.some 37, op := Go.Op.buildSlice 26 1 #[(0, Go.Operand.tmp 36)], type := 26, pos := "ref.go:42", after := #[{ on := 12, ground := Go.Ground.data }], guard := Option.none } : Oper)) rfl (fun K0 hK0 => ?_) AllReadyH.nil)
    · go_simp
      have HB32 : Hid (Below W3.heap.size W3 (W3.drew.alloc (.cells #[] 40))) := Lib.hid (HB30.out.trans ((alloc_below W3.drew _).mono HB30.out.size))
      have HE32 : Hid (OwnY (W3.drew.alloc (.cells #[] 40)) W3.heap.size (.slice (some ⟨W3.heap.size, 0, none⟩) 0 0) []) := Lib.hid (OwnY.empty_at _ (by simp) (by omega))
      have hSS := HSS.out _ HB32.out
      refine hK0.out _ _ hSS (fun _ => ?_)
      clear hK0 K0
      try simp only [Act.put, List.setIfInBounds_toArray, List.set_cons_zero, List.set_cons_succ]
      refine wpAnyH_ready (rs := [6, 13]) (by kernel_rfl) (by simp) ?_
      refine AllReadyH.cons (o := ({ dst := Option.some 30, op := Go.Op.call { callee := Go.Callee.builtin Go.Builtin.append, args := #[Go.Operand.tmp 25, Go.Operand.tmp 29], argTypes := #[26, 26] }, type := 26, pos := "ref.go:42", after := #[{ on := 1, ground := Go.Ground.data }, { on := 5, ground := Go.Ground.data }], guard := Option.none } : Oper)) rfl (fun K0 hK0 => ?_) (AllReadyH.cons (o := ({ dst := Option.some 37, op := Go.Op.buildSlice 26 1 #[(0, Go.Operand.tmp 36)], type := 26, pos := "ref.go:42", after := #[{ on := 12, ground := Go.Ground.data }], guard := Option.none } : Oper)) rfl (fun K0 hK0 => ?_) AllReadyH.nil)
      · refine step_appY (xs := []) (ys := ws) (B := W3.heap.size) rfl _ _ 26 rfl Try.underlying26 rfl HE32.out rfl HN.out (HRW.out _ HB32.out) (by have := HN9.out; simp; omega) HB32.out.size ?_
        intro v6 W6 ho6 hg6
        obtain ⟨g6, cap6, hv6, hB6⟩ := ho6.2
        rw [show (([] : List Wy) ++ ws).length = N from HN.out] at hv6
        subst hv6
        have HB33 : Hid (Below W3.heap.size W3 W6) := Lib.hid (HB32.out.trans (grown_below' hg6 (show W3.heap.size ≤ W3.heap.size by omega) HB32.out.size))
        have HE33 := Lib.hid ho6
        have hSS := HSS.out _ HB33.out
        have HB6 := Lib.hid hB6
        refine hK0.out _ _ hSS (fun _ => ?_)
        clear ho6 hg6 hB6
        clear hK0 K0
        try simp only [Act.put, List.setIfInBounds_toArray, List.set_cons_zero, List.set_cons_succ]
        refine wpAnyH_ready (rs := [13]) (by kernel_rfl) (by simp) ?_
        refine AllReadyH.cons (o := ({ dst := Option.some 37, op := Go.Op.buildSlice 26 1 #[(0, Go.Operand.tmp 36)], type := 26, pos := "ref.go:42", after := #[{ on := 12, ground := Go.Ground.data }], guard := Option.none } : Oper)) rfl (fun K0 hK0 => ?_) AllReadyH.nil
        go_simp
        have HB34 : Hid (Below W3.heap.size W3 (W6.alloc (.cells #[.int .i64 (s : Int), .int .i64 k, .int .i64 f, .int .i64 t, .int .i64 x, .slice A3 ns.length c3] 40))) := Lib.hid (HB33.out.trans ((alloc_below W6 _).mono HB33.out.size))
        have HY34 : Hid (RdWs (W6.alloc (.cells #[.int .i64 (s : Int), .int .i64 k, .int .i64 f, .int .i64 t, .int .i64 x, .slice A3 ns.length c3] 40)) (some ⟨W6.heap.size, 0, none⟩) [(⟨s, ⟨⟨k, f, t, x, ns⟩, A3, c3⟩⟩ : Wy)]) := Lib.hid (rd_oneY_at _ (by simp) (⟨s, ⟨⟨k, f, t, x, ns⟩, A3, c3⟩⟩ : Wy))
        have HE34 := Lib.hid (HE33.out.below (alloc_below W6 (.cells #[.int .i64 (s : Int), .int .i64 k, .int .i64 f, .int .i64 t, .int .i64 x, .slice A3 ns.length c3] 40)))
        have hSS := HSS.out _ HB34.out
        refine hK0.out _ _ hSS (fun _ => ?_)
        clear hK0 K0
        try simp only [Act.put, List.setIfInBounds_toArray, List.set_cons_zero, List.set_cons_succ]
        refine wpAnyH_ready (rs := [14]) (by kernel_rfl) (by simp) ?_
        refine AllReadyH.cons (o := ({ dst := Option.some 38, op := Go.Op.call { callee := Go.Callee.builtin Go.Builtin.append, args := #[Go.Operand.tmp 30, Go.Operand.tmp 37], argTypes := #[26, 26] }, type := 26, pos := "ref.go:42", after := #[{ on := 6, ground := Go.Ground.data }, { on := 13, ground := Go.Ground.data }, { on := 6, ground := Go.Ground.chain }], guard := Option.none } : Oper)) rfl (fun K0 hK0 => ?_) AllReadyH.nil
        refine step_appY (xs := [] ++ ws) (ys := [(⟨s, ⟨⟨k, f, t, x, ns⟩, A3, c3⟩⟩ : Wy)]) (B := W3.heap.size) rfl _ _ 26 rfl Try.underlying26 rfl HE34.out rfl rfl HY34.out (by have := HN9.out; simp; omega) HB34.out.size ?_
        intro v9 W9 ho9 hg9
        obtain ⟨g9, cap9, hv9, hB9⟩ := ho9.2
        rw [show ((([] : List Wy) ++ ws) ++ [(⟨s, ⟨⟨k, f, t, x, ns⟩, A3, c3⟩⟩ : Wy)]).length = N + 1 by rw [List.nil_append, List.length_append, HN.out]; rfl] at hv9
        subst hv9
        have HB35 : Hid (Below W3.heap.size W3 W9) := Lib.hid (HB34.out.trans (grown_below' hg9 HB6.out HB34.out.size))
        have HE35 := Lib.hid ho9
        have hSS := HSS.out _ HB35.out
        obtain ⟨c90, c91, z90, z91⟩ := HC0.out _ HB35.out
        refine hK0.out _ _ hSS (fun _ => ?_)
        clear ho9 hg9 hB9
        clear hK0 K0
        try simp only [Act.put, List.setIfInBounds_toArray, List.set_cons_zero, List.set_cons_succ]
        refine wpAnyH_take (i := 15) (oi := ({ dst := Option.some 39, op := Go.Op.nilCheck (Go.Operand.tmp 24), type := 0, pos := "ref.go:42", after := #[{ on := 0, ground := Go.Ground.data }, { on := 0, ground := Go.Ground.phase }, { on := 1, ground := Go.Ground.phase }, { on := 2, ground := Go.Ground.phase }, { on := 3, ground := Go.Ground.phase }, { on := 4, ground := Go.Ground.phase }, { on := 5, ground := Go.Ground.phase }, { on := 6, ground := Go.Ground.phase }, { on := 7, ground := Go.Ground.phase }, { on := 8, ground := Go.Ground.phase }, { on := 9, ground := Go.Ground.phase }, { on := 10, ground := Go.Ground.phase }, { on := 11, ground := Go.Ground.phase }, { on := 12, ground := Go.Ground.phase }, { on := 13, ground := Go.Ground.phase }, { on := 14, ground := Go.Ground.phase }], guard := Option.none } : Oper)) (v := ?v15x17) rfl (by kernel_rfl) (by kernel_rfl) (by kernel_rfl) (fun _ _ _ h => h) (Or.inl ⟨by rfl, ?hy15x17⟩) hSS ?rest15x17
        case hy15x17 =>
          intro W0 hSw
          obtain ⟨s0, s1, s2, s3, s4, s5⟩ := hSw
          go_simp
          first | done | with_reducible rfl
        try simp only [Act.put, List.setIfInBounds_toArray, List.set_cons_zero, List.set_cons_succ]
        refine wpAnyH_take (i := 16) (oi := ({ dst := Option.some 40, op := Go.Op.fieldAddr 28 (Go.Operand.tmp 39) 0, type := 0, pos := "ref.go:42", after := #[{ on := 15, ground := Go.Ground.data }, { on := 0, ground := Go.Ground.phase }, { on := 1, ground := Go.Ground.phase }, { on := 2, ground := Go.Ground.phase }, { on := 3, ground := Go.Ground.phase }, { on := 4, ground := Go.Ground.phase }, { on := 5, ground := Go.Ground.phase }, { on := 6, ground := Go.Ground.phase }, { on := 7, ground := Go.Ground.phase }, { on := 8, ground := Go.Ground.phase }, { on := 9, ground := Go.Ground.phase }, { on := 10, ground := Go.Ground.phase }, { on := 11, ground := Go.Ground.phase }, { on := 12, ground := Go.Ground.phase }, { on := 13, ground := Go.Ground.phase }, { on := 14, ground := Go.Ground.phase }], guard := Option.none } : Oper)) (v := ?v16x18) rfl (by kernel_rfl) (by kernel_rfl) (by kernel_rfl) (fun _ _ _ h => h) (Or.inl ⟨by rfl, ?hy16x18⟩) hSS ?rest16x18
        case hy16x18 =>
          intro W0 hSw
          obtain ⟨s0, s1, s2, s3, s4, s5⟩ := hSw
          go_simp
          first | done | with_reducible rfl
        try simp only [Act.put, List.setIfInBounds_toArray, List.set_cons_zero, List.set_cons_succ]
        refine wpAnyH_ready (rs := [17]) (by kernel_rfl) (by simp) ?_
        refine AllReadyH.cons (o := ({ dst := Option.none, op := Go.Op.store 26 (Go.Operand.tmp 40) (Go.Operand.tmp 38), type := 0, pos := "ref.go:42", after := #[{ on := 16, ground := Go.Ground.data }, { on := 14, ground := Go.Ground.data }, { on := 14, ground := Go.Ground.chain }, { on := 0, ground := Go.Ground.phase }, { on := 1, ground := Go.Ground.phase }, { on := 2, ground := Go.Ground.phase }, { on := 3, ground := Go.Ground.phase }, { on := 4, ground := Go.Ground.phase }, { on := 5, ground := Go.Ground.phase }, { on := 6, ground := Go.Ground.phase }, { on := 7, ground := Go.Ground.phase }, { on := 8, ground := Go.Ground.phase }, { on := 9, ground := Go.Ground.phase }, { on := 10, ground := Go.Ground.phase }, { on := 11, ground := Go.Ground.phase }, { on := 12, ground := Go.Ground.phase }, { on := 13, ground := Go.Ground.phase }, { on := 14, ground := Go.Ground.phase }], guard := Option.none } : Oper)) rfl (fun K0 hK0 => ?_) AllReadyH.nil
        go_simp
        have HXE := Lib.hid (HEN3.out _ _ _ _ HB35.out HE35.out)
        refine hK0.out _ _ (HSE.out _ _ HB35.out) (fun _ => ?_)
        clear hK0 K0
        try simp only [Act.put, List.setIfInBounds_toArray, List.set_cons_zero, List.set_cons_succ]
        refine wpAnyH_done (by kernel_rfl) ?_ _
        go_wp2_with fail
        refine bodyPost_ret (v := .tuple #[.int .i64 (s : Int), .int .i64 0]) (by simp [results, Try.results11, go_sem]) rfl ?_
        exact ⟨rfl, HXE.out⟩
      · go_simp
        have HB33 : Hid (Below W3.heap.size W3 ((W3.drew.alloc (.cells #[] 40)).alloc (.cells #[.int .i64 (s : Int), .int .i64 k, .int .i64 f, .int .i64 t, .int .i64 x, .slice A3 ns.length c3] 40))) := Lib.hid (HB32.out.trans ((alloc_below (W3.drew.alloc (.cells #[] 40)) _).mono HB32.out.size))
        have HY33 : Hid (RdWs ((W3.drew.alloc (.cells #[] 40)).alloc (.cells #[.int .i64 (s : Int), .int .i64 k, .int .i64 f, .int .i64 t, .int .i64 x, .slice A3 ns.length c3] 40)) (some ⟨(W3.heap.size + 1), 0, none⟩) [(⟨s, ⟨⟨k, f, t, x, ns⟩, A3, c3⟩⟩ : Wy)]) := Lib.hid (rd_oneY_at _ (by simp) (⟨s, ⟨⟨k, f, t, x, ns⟩, A3, c3⟩⟩ : Wy))
        have HE33 := Lib.hid (HE32.out.below (alloc_below (W3.drew.alloc (.cells #[] 40)) (.cells #[.int .i64 (s : Int), .int .i64 k, .int .i64 f, .int .i64 t, .int .i64 x, .slice A3 ns.length c3] 40)))
        have hSS := HSS.out _ HB33.out
        refine hK0.out _ _ hSS (fun _ => ?_)
        clear hK0 K0
        try simp only [Act.put, List.setIfInBounds_toArray, List.set_cons_zero, List.set_cons_succ]
        refine wpAnyH_ready (rs := [6]) (by kernel_rfl) (by simp) ?_
        refine AllReadyH.cons (o := ({ dst := Option.some 30, op := Go.Op.call { callee := Go.Callee.builtin Go.Builtin.append, args := #[Go.Operand.tmp 25, Go.Operand.tmp 29], argTypes := #[26, 26] }, type := 26, pos := "ref.go:42", after := #[{ on := 1, ground := Go.Ground.data }, { on := 5, ground := Go.Ground.data }], guard := Option.none } : Oper)) rfl (fun K0 hK0 => ?_) AllReadyH.nil
        refine step_appY (xs := []) (ys := ws) (B := W3.heap.size) rfl _ _ 26 rfl Try.underlying26 rfl HE33.out rfl HN.out (HRW.out _ HB33.out) (by have := HN9.out; simp; omega) HB33.out.size ?_
        intro v6 W6 ho6 hg6
        obtain ⟨g6, cap6, hv6, hB6⟩ := ho6.2
        rw [show (([] : List Wy) ++ ws).length = N from HN.out] at hv6
        subst hv6
        have HB34 : Hid (Below W3.heap.size W3 W6) := Lib.hid (HB33.out.trans (grown_below' hg6 (show W3.heap.size ≤ W3.heap.size by omega) HB33.out.size))
        have HE34 := Lib.hid ho6
        have HY34 := Lib.hid (HY33.out.grown hg6 (show (W3.heap.size + 1) ≠ W3.heap.size by omega))
        have hSS := HSS.out _ HB34.out
        have HB6 := Lib.hid hB6
        refine hK0.out _ _ hSS (fun _ => ?_)
        clear ho6 hg6 hB6
        clear hK0 K0
        try simp only [Act.put, List.setIfInBounds_toArray, List.set_cons_zero, List.set_cons_succ]
        refine wpAnyH_ready (rs := [14]) (by kernel_rfl) (by simp) ?_
        refine AllReadyH.cons (o := ({ dst := Option.some 38, op := Go.Op.call { callee := Go.Callee.builtin Go.Builtin.append, args := #[Go.Operand.tmp 30, Go.Operand.tmp 37], argTypes := #[26, 26] }, type := 26, pos := "ref.go:42", after := #[{ on := 6, ground := Go.Ground.data }, { on := 13, ground := Go.Ground.data }, { on := 6, ground := Go.Ground.chain }], guard := Option.none } : Oper)) rfl (fun K0 hK0 => ?_) AllReadyH.nil
        refine step_appY (xs := [] ++ ws) (ys := [(⟨s, ⟨⟨k, f, t, x, ns⟩, A3, c3⟩⟩ : Wy)]) (B := W3.heap.size) rfl _ _ 26 rfl Try.underlying26 rfl HE34.out rfl rfl HY34.out (by have := HN9.out; simp; omega) HB34.out.size ?_
        intro v9 W9 ho9 hg9
        obtain ⟨g9, cap9, hv9, hB9⟩ := ho9.2
        rw [show ((([] : List Wy) ++ ws) ++ [(⟨s, ⟨⟨k, f, t, x, ns⟩, A3, c3⟩⟩ : Wy)]).length = N + 1 by rw [List.nil_append, List.length_append, HN.out]; rfl] at hv9
        subst hv9
        have HB35 : Hid (Below W3.heap.size W3 W9) := Lib.hid (HB34.out.trans (grown_below' hg9 HB6.out HB34.out.size))
        have HE35 := Lib.hid ho9
        have hSS := HSS.out _ HB35.out
        obtain ⟨c90, c91, z90, z91⟩ := HC0.out _ HB35.out
        refine hK0.out _ _ hSS (fun _ => ?_)
        clear ho9 hg9 hB9
        clear hK0 K0
        try simp only [Act.put, List.setIfInBounds_toArray, List.set_cons_zero, List.set_cons_succ]
        refine wpAnyH_take (i := 15) (oi := ({ dst := Option.some 39, op := Go.Op.nilCheck (Go.Operand.tmp 24), type := 0, pos := "ref.go:42", after := #[{ on := 0, ground := Go.Ground.data }, { on := 0, ground := Go.Ground.phase }, { on := 1, ground := Go.Ground.phase }, { on := 2, ground := Go.Ground.phase }, { on := 3, ground := Go.Ground.phase }, { on := 4, ground := Go.Ground.phase }, { on := 5, ground := Go.Ground.phase }, { on := 6, ground := Go.Ground.phase }, { on := 7, ground := Go.Ground.phase }, { on := 8, ground := Go.Ground.phase }, { on := 9, ground := Go.Ground.phase }, { on := 10, ground := Go.Ground.phase }, { on := 11, ground := Go.Ground.phase }, { on := 12, ground := Go.Ground.phase }, { on := 13, ground := Go.Ground.phase }, { on := 14, ground := Go.Ground.phase }], guard := Option.none } : Oper)) (v := ?v15x19) rfl (by kernel_rfl) (by kernel_rfl) (by kernel_rfl) (fun _ _ _ h => h) (Or.inl ⟨by rfl, ?hy15x19⟩) hSS ?rest15x19
        case hy15x19 =>
          intro W0 hSw
          obtain ⟨s0, s1, s2, s3, s4, s5⟩ := hSw
          go_simp
          first | done | with_reducible rfl
        try simp only [Act.put, List.setIfInBounds_toArray, List.set_cons_zero, List.set_cons_succ]
        refine wpAnyH_take (i := 16) (oi := ({ dst := Option.some 40, op := Go.Op.fieldAddr 28 (Go.Operand.tmp 39) 0, type := 0, pos := "ref.go:42", after := #[{ on := 15, ground := Go.Ground.data }, { on := 0, ground := Go.Ground.phase }, { on := 1, ground := Go.Ground.phase }, { on := 2, ground := Go.Ground.phase }, { on := 3, ground := Go.Ground.phase }, { on := 4, ground := Go.Ground.phase }, { on := 5, ground := Go.Ground.phase }, { on := 6, ground := Go.Ground.phase }, { on := 7, ground := Go.Ground.phase }, { on := 8, ground := Go.Ground.phase }, { on := 9, ground := Go.Ground.phase }, { on := 10, ground := Go.Ground.phase }, { on := 11, ground := Go.Ground.phase }, { on := 12, ground := Go.Ground.phase }, { on := 13, ground := Go.Ground.phase }, { on := 14, ground := Go.Ground.phase }], guard := Option.none } : Oper)) (v := ?v16x20) rfl (by kernel_rfl) (by kernel_rfl) (by kernel_rfl) (fun _ _ _ h => h) (Or.inl ⟨by rfl, ?hy16x20⟩) hSS ?rest16x20
        case hy16x20 =>
          intro W0 hSw
          obtain ⟨s0, s1, s2, s3, s4, s5⟩ := hSw
          go_simp
          first | done | with_reducible rfl
        try simp only [Act.put, List.setIfInBounds_toArray, List.set_cons_zero, List.set_cons_succ]
        refine wpAnyH_ready (rs := [17]) (by kernel_rfl) (by simp) ?_
        refine AllReadyH.cons (o := ({ dst := Option.none, op := Go.Op.store 26 (Go.Operand.tmp 40) (Go.Operand.tmp 38), type := 0, pos := "ref.go:42", after := #[{ on := 16, ground := Go.Ground.data }, { on := 14, ground := Go.Ground.data }, { on := 14, ground := Go.Ground.chain }, { on := 0, ground := Go.Ground.phase }, { on := 1, ground := Go.Ground.phase }, { on := 2, ground := Go.Ground.phase }, { on := 3, ground := Go.Ground.phase }, { on := 4, ground := Go.Ground.phase }, { on := 5, ground := Go.Ground.phase }, { on := 6, ground := Go.Ground.phase }, { on := 7, ground := Go.Ground.phase }, { on := 8, ground := Go.Ground.phase }, { on := 9, ground := Go.Ground.phase }, { on := 10, ground := Go.Ground.phase }, { on := 11, ground := Go.Ground.phase }, { on := 12, ground := Go.Ground.phase }, { on := 13, ground := Go.Ground.phase }, { on := 14, ground := Go.Ground.phase }], guard := Option.none } : Oper)) rfl (fun K0 hK0 => ?_) AllReadyH.nil
        go_simp
        have HXE := Lib.hid (HEN3.out _ _ _ _ HB35.out HE35.out)
        refine hK0.out _ _ (HSE.out _ _ HB35.out) (fun _ => ?_)
        clear hK0 K0
        try simp only [Act.put, List.setIfInBounds_toArray, List.set_cons_zero, List.set_cons_succ]
        refine wpAnyH_done (by kernel_rfl) ?_ _
        go_wp2_with fail
        refine bodyPost_ret (v := .tuple #[.int .i64 (s : Int), .int .i64 0]) (by simp [results, Try.results11, go_sem]) rfl ?_
        exact ⟨rfl, HXE.out⟩
    · go_simp
      have HB32 : Hid (Below W3.heap.size W3 (W3.drew.alloc (.cells #[.int .i64 (s : Int), .int .i64 k, .int .i64 f, .int .i64 t, .int .i64 x, .slice A3 ns.length c3] 40))) := Lib.hid (HB30.out.trans ((alloc_below W3.drew _).mono HB30.out.size))
      have HY32 : Hid (RdWs (W3.drew.alloc (.cells #[.int .i64 (s : Int), .int .i64 k, .int .i64 f, .int .i64 t, .int .i64 x, .slice A3 ns.length c3] 40)) (some ⟨W3.heap.size, 0, none⟩) [(⟨s, ⟨⟨k, f, t, x, ns⟩, A3, c3⟩⟩ : Wy)]) := Lib.hid (rd_oneY_at _ (by simp) (⟨s, ⟨⟨k, f, t, x, ns⟩, A3, c3⟩⟩ : Wy))
      have hSS := HSS.out _ HB32.out
      refine hK0.out _ _ hSS (fun _ => ?_)
      clear hK0 K0
      try simp only [Act.put, List.setIfInBounds_toArray, List.set_cons_zero, List.set_cons_succ]
      refine wpAnyH_ready (rs := [1]) (by kernel_rfl) (by simp) ?_
      refine AllReadyH.cons (o := ({ dst := Option.some 25, op := Go.Op.buildSlice 26 0 #[], type := 26, pos := "ref.go:42", after := #[], guard := Option.none } : Oper)) rfl (fun K0 hK0 => ?_) AllReadyH.nil
      go_simp
      have HB33 : Hid (Below W3.heap.size W3 ((W3.drew.alloc (.cells #[.int .i64 (s : Int), .int .i64 k, .int .i64 f, .int .i64 t, .int .i64 x, .slice A3 ns.length c3] 40)).alloc (.cells #[] 40))) := Lib.hid (HB32.out.trans ((alloc_below (W3.drew.alloc (.cells #[.int .i64 (s : Int), .int .i64 k, .int .i64 f, .int .i64 t, .int .i64 x, .slice A3 ns.length c3] 40)) _).mono HB32.out.size))
      have HE33 : Hid (OwnY ((W3.drew.alloc (.cells #[.int .i64 (s : Int), .int .i64 k, .int .i64 f, .int .i64 t, .int .i64 x, .slice A3 ns.length c3] 40)).alloc (.cells #[] 40)) W3.heap.size (.slice (some ⟨(W3.heap.size + 1), 0, none⟩) 0 0) []) := Lib.hid (OwnY.empty_at _ (by simp) (by omega))
      have HY33 := Lib.hid (HY32.out.below (alloc_below (W3.drew.alloc (.cells #[.int .i64 (s : Int), .int .i64 k, .int .i64 f, .int .i64 t, .int .i64 x, .slice A3 ns.length c3] 40)) (.cells #[] 40)))
      have hSS := HSS.out _ HB33.out
      refine hK0.out _ _ hSS (fun _ => ?_)
      clear hK0 K0
      try simp only [Act.put, List.setIfInBounds_toArray, List.set_cons_zero, List.set_cons_succ]
      refine wpAnyH_ready (rs := [6]) (by kernel_rfl) (by simp) ?_
      refine AllReadyH.cons (o := ({ dst := Option.some 30, op := Go.Op.call { callee := Go.Callee.builtin Go.Builtin.append, args := #[Go.Operand.tmp 25, Go.Operand.tmp 29], argTypes := #[26, 26] }, type := 26, pos := "ref.go:42", after := #[{ on := 1, ground := Go.Ground.data }, { on := 5, ground := Go.Ground.data }], guard := Option.none } : Oper)) rfl (fun K0 hK0 => ?_) AllReadyH.nil
      refine step_appY (xs := []) (ys := ws) (B := W3.heap.size) rfl _ _ 26 rfl Try.underlying26 rfl HE33.out rfl HN.out (HRW.out _ HB33.out) (by have := HN9.out; simp; omega) HB33.out.size ?_
      intro v6 W6 ho6 hg6
      obtain ⟨g6, cap6, hv6, hB6⟩ := ho6.2
      rw [show (([] : List Wy) ++ ws).length = N from HN.out] at hv6
      subst hv6
      have HB34 : Hid (Below W3.heap.size W3 W6) := Lib.hid (HB33.out.trans (grown_below' hg6 (show W3.heap.size ≤ (W3.heap.size + 1) by omega) HB33.out.size))
      have HE34 := Lib.hid ho6
      have HY34 := Lib.hid (HY33.out.grown hg6 (show W3.heap.size ≠ (W3.heap.size + 1) by omega))
      have hSS := HSS.out _ HB34.out
      have HB6 := Lib.hid hB6
      refine hK0.out _ _ hSS (fun _ => ?_)
      clear ho6 hg6 hB6
      clear hK0 K0
      try simp only [Act.put, List.setIfInBounds_toArray, List.set_cons_zero, List.set_cons_succ]
      refine wpAnyH_ready (rs := [14]) (by kernel_rfl) (by simp) ?_
      refine AllReadyH.cons (o := ({ dst := Option.some 38, op := Go.Op.call { callee := Go.Callee.builtin Go.Builtin.append, args := #[Go.Operand.tmp 30, Go.Operand.tmp 37], argTypes := #[26, 26] }, type := 26, pos := "ref.go:42", after := #[{ on := 6, ground := Go.Ground.data }, { on := 13, ground := Go.Ground.data }, { on := 6, ground := Go.Ground.chain }], guard := Option.none } : Oper)) rfl (fun K0 hK0 => ?_) AllReadyH.nil
      refine step_appY (xs := [] ++ ws) (ys := [(⟨s, ⟨⟨k, f, t, x, ns⟩, A3, c3⟩⟩ : Wy)]) (B := W3.heap.size) rfl _ _ 26 rfl Try.underlying26 rfl HE34.out rfl rfl HY34.out (by have := HN9.out; simp; omega) HB34.out.size ?_
      intro v9 W9 ho9 hg9
      obtain ⟨g9, cap9, hv9, hB9⟩ := ho9.2
      rw [show ((([] : List Wy) ++ ws) ++ [(⟨s, ⟨⟨k, f, t, x, ns⟩, A3, c3⟩⟩ : Wy)]).length = N + 1 by rw [List.nil_append, List.length_append, HN.out]; rfl] at hv9
      subst hv9
      have HB35 : Hid (Below W3.heap.size W3 W9) := Lib.hid (HB34.out.trans (grown_below' hg9 HB6.out HB34.out.size))
      have HE35 := Lib.hid ho9
      have hSS := HSS.out _ HB35.out
      obtain ⟨c90, c91, z90, z91⟩ := HC0.out _ HB35.out
      refine hK0.out _ _ hSS (fun _ => ?_)
      clear ho9 hg9 hB9
      clear hK0 K0
      try simp only [Act.put, List.setIfInBounds_toArray, List.set_cons_zero, List.set_cons_succ]
      refine wpAnyH_take (i := 15) (oi := ({ dst := Option.some 39, op := Go.Op.nilCheck (Go.Operand.tmp 24), type := 0, pos := "ref.go:42", after := #[{ on := 0, ground := Go.Ground.data }, { on := 0, ground := Go.Ground.phase }, { on := 1, ground := Go.Ground.phase }, { on := 2, ground := Go.Ground.phase }, { on := 3, ground := Go.Ground.phase }, { on := 4, ground := Go.Ground.phase }, { on := 5, ground := Go.Ground.phase }, { on := 6, ground := Go.Ground.phase }, { on := 7, ground := Go.Ground.phase }, { on := 8, ground := Go.Ground.phase }, { on := 9, ground := Go.Ground.phase }, { on := 10, ground := Go.Ground.phase }, { on := 11, ground := Go.Ground.phase }, { on := 12, ground := Go.Ground.phase }, { on := 13, ground := Go.Ground.phase }, { on := 14, ground := Go.Ground.phase }], guard := Option.none } : Oper)) (v := ?v15x21) rfl (by kernel_rfl) (by kernel_rfl) (by kernel_rfl) (fun _ _ _ h => h) (Or.inl ⟨by rfl, ?hy15x21⟩) hSS ?rest15x21
      case hy15x21 =>
        intro W0 hSw
        obtain ⟨s0, s1, s2, s3, s4, s5⟩ := hSw
        go_simp
        first | done | with_reducible rfl
      try simp only [Act.put, List.setIfInBounds_toArray, List.set_cons_zero, List.set_cons_succ]
      refine wpAnyH_take (i := 16) (oi := ({ dst := Option.some 40, op := Go.Op.fieldAddr 28 (Go.Operand.tmp 39) 0, type := 0, pos := "ref.go:42", after := #[{ on := 15, ground := Go.Ground.data }, { on := 0, ground := Go.Ground.phase }, { on := 1, ground := Go.Ground.phase }, { on := 2, ground := Go.Ground.phase }, { on := 3, ground := Go.Ground.phase }, { on := 4, ground := Go.Ground.phase }, { on := 5, ground := Go.Ground.phase }, { on := 6, ground := Go.Ground.phase }, { on := 7, ground := Go.Ground.phase }, { on := 8, ground := Go.Ground.phase }, { on := 9, ground := Go.Ground.phase }, { on := 10, ground := Go.Ground.phase }, { on := 11, ground := Go.Ground.phase }, { on := 12, ground := Go.Ground.phase }, { on := 13, ground := Go.Ground.phase }, { on := 14, ground := Go.Ground.phase }], guard := Option.none } : Oper)) (v := ?v16x22) rfl (by kernel_rfl) (by kernel_rfl) (by kernel_rfl) (fun _ _ _ h => h) (Or.inl ⟨by rfl, ?hy16x22⟩) hSS ?rest16x22
      case hy16x22 =>
        intro W0 hSw
        obtain ⟨s0, s1, s2, s3, s4, s5⟩ := hSw
        go_simp
        first | done | with_reducible rfl
      try simp only [Act.put, List.setIfInBounds_toArray, List.set_cons_zero, List.set_cons_succ]
      refine wpAnyH_ready (rs := [17]) (by kernel_rfl) (by simp) ?_
      refine AllReadyH.cons (o := ({ dst := Option.none, op := Go.Op.store 26 (Go.Operand.tmp 40) (Go.Operand.tmp 38), type := 0, pos := "ref.go:42", after := #[{ on := 16, ground := Go.Ground.data }, { on := 14, ground := Go.Ground.data }, { on := 14, ground := Go.Ground.chain }, { on := 0, ground := Go.Ground.phase }, { on := 1, ground := Go.Ground.phase }, { on := 2, ground := Go.Ground.phase }, { on := 3, ground := Go.Ground.phase }, { on := 4, ground := Go.Ground.phase }, { on := 5, ground := Go.Ground.phase }, { on := 6, ground := Go.Ground.phase }, { on := 7, ground := Go.Ground.phase }, { on := 8, ground := Go.Ground.phase }, { on := 9, ground := Go.Ground.phase }, { on := 10, ground := Go.Ground.phase }, { on := 11, ground := Go.Ground.phase }, { on := 12, ground := Go.Ground.phase }, { on := 13, ground := Go.Ground.phase }, { on := 14, ground := Go.Ground.phase }], guard := Option.none } : Oper)) rfl (fun K0 hK0 => ?_) AllReadyH.nil
      go_simp
      have HXE := Lib.hid (HEN3.out _ _ _ _ HB35.out HE35.out)
      refine hK0.out _ _ (HSE.out _ _ HB35.out) (fun _ => ?_)
      clear hK0 K0
      try simp only [Act.put, List.setIfInBounds_toArray, List.set_cons_zero, List.set_cons_succ]
      refine wpAnyH_done (by kernel_rfl) ?_ _
      go_wp2_with fail
      refine bodyPost_ret (v := .tuple #[.int .i64 (s : Int), .int .i64 0]) (by simp [results, Try.results11, go_sem]) rfl ?_
      exact ⟨rfl, HXE.out⟩
  · go_simp
    have HB31 : Hid (Below W3.heap.size W3 (W3.drew.alloc (.cells #[.int .i64 (s : Int), .int .i64 k, .int .i64 f, .int .i64 t, .int .i64 x, .slice A3 ns.length c3] 40))) := Lib.hid (HB30.out.trans ((alloc_below W3.drew _).mono HB30.out.size))
    have HY31 : Hid (RdWs (W3.drew.alloc (.cells #[.int .i64 (s : Int), .int .i64 k, .int .i64 f, .int .i64 t, .int .i64 x, .slice A3 ns.length c3] 40)) (some ⟨W3.heap.size, 0, none⟩) [(⟨s, ⟨⟨k, f, t, x, ns⟩, A3, c3⟩⟩ : Wy)]) := Lib.hid (rd_oneY_at _ (by simp) (⟨s, ⟨⟨k, f, t, x, ns⟩, A3, c3⟩⟩ : Wy))
    have hSS := HSS.out _ HB31.out
    refine hK0.out _ _ hSS (fun _ => ?_)
    clear hK0 K0
    try simp only [Act.put, List.setIfInBounds_toArray, List.set_cons_zero, List.set_cons_succ]
    refine wpAnyH_ready (rs := [1, 5]) (by kernel_rfl) (by simp) ?_
    refine AllReadyH.cons (o := ({ dst := Option.some 25, op := Go.Op.buildSlice 26 0 #[], type := 26, pos := "ref.go:42", after := #[], guard := Option.none } : Oper)) rfl (fun K0 hK0 => ?_) (AllReadyH.cons (o := ({ dst := Option.some 29, op := Go.Op.load 26 (Go.Operand.tmp 28), type := 26, pos := "ref.go:42", after := #[{ on := 4, ground := Go.Ground.data }], guard := Option.none } : Oper)) rfl (fun K0 hK0 => ?_) AllReadyH.nil)
    · go_simp
      have HB32 : Hid (Below W3.heap.size W3 ((W3.drew.alloc (.cells #[.int .i64 (s : Int), .int .i64 k, .int .i64 f, .int .i64 t, .int .i64 x, .slice A3 ns.length c3] 40)).alloc (.cells #[] 40))) := Lib.hid (HB31.out.trans ((alloc_below (W3.drew.alloc (.cells #[.int .i64 (s : Int), .int .i64 k, .int .i64 f, .int .i64 t, .int .i64 x, .slice A3 ns.length c3] 40)) _).mono HB31.out.size))
      have HE32 : Hid (OwnY ((W3.drew.alloc (.cells #[.int .i64 (s : Int), .int .i64 k, .int .i64 f, .int .i64 t, .int .i64 x, .slice A3 ns.length c3] 40)).alloc (.cells #[] 40)) W3.heap.size (.slice (some ⟨(W3.heap.size + 1), 0, none⟩) 0 0) []) := Lib.hid (OwnY.empty_at _ (by simp) (by omega))
      have HY32 := Lib.hid (HY31.out.below (alloc_below (W3.drew.alloc (.cells #[.int .i64 (s : Int), .int .i64 k, .int .i64 f, .int .i64 t, .int .i64 x, .slice A3 ns.length c3] 40)) (.cells #[] 40)))
      have hSS := HSS.out _ HB32.out
      refine hK0.out _ _ hSS (fun _ => ?_)
      clear hK0 K0
      try simp only [Act.put, List.setIfInBounds_toArray, List.set_cons_zero, List.set_cons_succ]
      refine wpAnyH_ready (rs := [5]) (by kernel_rfl) (by simp) ?_
      refine AllReadyH.cons (o := ({ dst := Option.some 29, op := Go.Op.load 26 (Go.Operand.tmp 28), type := 26, pos := "ref.go:42", after := #[{ on := 4, ground := Go.Ground.data }], guard := Option.none } : Oper)) rfl (fun K0 hK0 => ?_) AllReadyH.nil
      have cb := (HC0.out _ HB32.out).1
      have cb0 := (HC0.out W3 (Below.refl _ _)).1
      go_simp
      refine hK0.out _ _ hSS (fun _ => ?_)
      clear cb cb0
      clear hK0 K0
      try simp only [Act.put, List.setIfInBounds_toArray, List.set_cons_zero, List.set_cons_succ]
      refine wpAnyH_ready (rs := [6]) (by kernel_rfl) (by simp) ?_
      refine AllReadyH.cons (o := ({ dst := Option.some 30, op := Go.Op.call { callee := Go.Callee.builtin Go.Builtin.append, args := #[Go.Operand.tmp 25, Go.Operand.tmp 29], argTypes := #[26, 26] }, type := 26, pos := "ref.go:42", after := #[{ on := 1, ground := Go.Ground.data }, { on := 5, ground := Go.Ground.data }], guard := Option.none } : Oper)) rfl (fun K0 hK0 => ?_) AllReadyH.nil
      refine step_appY (xs := []) (ys := ws) (B := W3.heap.size) rfl _ _ 26 rfl Try.underlying26 rfl HE32.out rfl HN.out (HRW.out _ HB32.out) (by have := HN9.out; simp; omega) HB32.out.size ?_
      intro v6 W6 ho6 hg6
      obtain ⟨g6, cap6, hv6, hB6⟩ := ho6.2
      rw [show (([] : List Wy) ++ ws).length = N from HN.out] at hv6
      subst hv6
      have HB34 : Hid (Below W3.heap.size W3 W6) := Lib.hid (HB32.out.trans (grown_below' hg6 (show W3.heap.size ≤ (W3.heap.size + 1) by omega) HB32.out.size))
      have HE34 := Lib.hid ho6
      have HY34 := Lib.hid (HY32.out.grown hg6 (show W3.heap.size ≠ (W3.heap.size + 1) by omega))
      have hSS := HSS.out _ HB34.out
      have HB6 := Lib.hid hB6
      refine hK0.out _ _ hSS (fun _ => ?_)
      clear ho6 hg6 hB6
      clear hK0 K0
      try simp only [Act.put, List.setIfInBounds_toArray, List.set_cons_zero, List.set_cons_succ]
      refine wpAnyH_ready (rs := [14]) (by kernel_rfl) (by simp) ?_
      refine AllReadyH.cons (o := ({ dst := Option.some 38, op := Go.Op.call { callee := Go.Callee.builtin Go.Builtin.append, args := #[Go.Operand.tmp 30, Go.Operand.tmp 37], argTypes := #[26, 26] }, type := 26, pos := "ref.go:42", after := #[{ on := 6, ground := Go.Ground.data }, { on := 13, ground := Go.Ground.data }, { on := 6, ground := Go.Ground.chain }], guard := Option.none } : Oper)) rfl (fun K0 hK0 => ?_) AllReadyH.nil
      refine step_appY (xs := [] ++ ws) (ys := [(⟨s, ⟨⟨k, f, t, x, ns⟩, A3, c3⟩⟩ : Wy)]) (B := W3.heap.size) rfl _ _ 26 rfl Try.underlying26 rfl HE34.out rfl rfl HY34.out (by have := HN9.out; simp; omega) HB34.out.size ?_
      intro v9 W9 ho9 hg9
      obtain ⟨g9, cap9, hv9, hB9⟩ := ho9.2
      rw [show ((([] : List Wy) ++ ws) ++ [(⟨s, ⟨⟨k, f, t, x, ns⟩, A3, c3⟩⟩ : Wy)]).length = N + 1 by rw [List.nil_append, List.length_append, HN.out]; rfl] at hv9
      subst hv9
      have HB35 : Hid (Below W3.heap.size W3 W9) := Lib.hid (HB34.out.trans (grown_below' hg9 HB6.out HB34.out.size))
      have HE35 := Lib.hid ho9
      have hSS := HSS.out _ HB35.out
      obtain ⟨c90, c91, z90, z91⟩ := HC0.out _ HB35.out
      refine hK0.out _ _ hSS (fun _ => ?_)
      clear ho9 hg9 hB9
      clear hK0 K0
      try simp only [Act.put, List.setIfInBounds_toArray, List.set_cons_zero, List.set_cons_succ]
      refine wpAnyH_take (i := 15) (oi := ({ dst := Option.some 39, op := Go.Op.nilCheck (Go.Operand.tmp 24), type := 0, pos := "ref.go:42", after := #[{ on := 0, ground := Go.Ground.data }, { on := 0, ground := Go.Ground.phase }, { on := 1, ground := Go.Ground.phase }, { on := 2, ground := Go.Ground.phase }, { on := 3, ground := Go.Ground.phase }, { on := 4, ground := Go.Ground.phase }, { on := 5, ground := Go.Ground.phase }, { on := 6, ground := Go.Ground.phase }, { on := 7, ground := Go.Ground.phase }, { on := 8, ground := Go.Ground.phase }, { on := 9, ground := Go.Ground.phase }, { on := 10, ground := Go.Ground.phase }, { on := 11, ground := Go.Ground.phase }, { on := 12, ground := Go.Ground.phase }, { on := 13, ground := Go.Ground.phase }, { on := 14, ground := Go.Ground.phase }], guard := Option.none } : Oper)) (v := ?v15x23) rfl (by kernel_rfl) (by kernel_rfl) (by kernel_rfl) (fun _ _ _ h => h) (Or.inl ⟨by rfl, ?hy15x23⟩) hSS ?rest15x23
      case hy15x23 =>
        intro W0 hSw
        obtain ⟨s0, s1, s2, s3, s4, s5⟩ := hSw
        go_simp
        first | done | with_reducible rfl
      try simp only [Act.put, List.setIfInBounds_toArray, List.set_cons_zero, List.set_cons_succ]
      refine wpAnyH_take (i := 16) (oi := ({ dst := Option.some 40, op := Go.Op.fieldAddr 28 (Go.Operand.tmp 39) 0, type := 0, pos := "ref.go:42", after := #[{ on := 15, ground := Go.Ground.data }, { on := 0, ground := Go.Ground.phase }, { on := 1, ground := Go.Ground.phase }, { on := 2, ground := Go.Ground.phase }, { on := 3, ground := Go.Ground.phase }, { on := 4, ground := Go.Ground.phase }, { on := 5, ground := Go.Ground.phase }, { on := 6, ground := Go.Ground.phase }, { on := 7, ground := Go.Ground.phase }, { on := 8, ground := Go.Ground.phase }, { on := 9, ground := Go.Ground.phase }, { on := 10, ground := Go.Ground.phase }, { on := 11, ground := Go.Ground.phase }, { on := 12, ground := Go.Ground.phase }, { on := 13, ground := Go.Ground.phase }, { on := 14, ground := Go.Ground.phase }], guard := Option.none } : Oper)) (v := ?v16x24) rfl (by kernel_rfl) (by kernel_rfl) (by kernel_rfl) (fun _ _ _ h => h) (Or.inl ⟨by rfl, ?hy16x24⟩) hSS ?rest16x24
      case hy16x24 =>
        intro W0 hSw
        obtain ⟨s0, s1, s2, s3, s4, s5⟩ := hSw
        go_simp
        first | done | with_reducible rfl
      try simp only [Act.put, List.setIfInBounds_toArray, List.set_cons_zero, List.set_cons_succ]
      refine wpAnyH_ready (rs := [17]) (by kernel_rfl) (by simp) ?_
      refine AllReadyH.cons (o := ({ dst := Option.none, op := Go.Op.store 26 (Go.Operand.tmp 40) (Go.Operand.tmp 38), type := 0, pos := "ref.go:42", after := #[{ on := 16, ground := Go.Ground.data }, { on := 14, ground := Go.Ground.data }, { on := 14, ground := Go.Ground.chain }, { on := 0, ground := Go.Ground.phase }, { on := 1, ground := Go.Ground.phase }, { on := 2, ground := Go.Ground.phase }, { on := 3, ground := Go.Ground.phase }, { on := 4, ground := Go.Ground.phase }, { on := 5, ground := Go.Ground.phase }, { on := 6, ground := Go.Ground.phase }, { on := 7, ground := Go.Ground.phase }, { on := 8, ground := Go.Ground.phase }, { on := 9, ground := Go.Ground.phase }, { on := 10, ground := Go.Ground.phase }, { on := 11, ground := Go.Ground.phase }, { on := 12, ground := Go.Ground.phase }, { on := 13, ground := Go.Ground.phase }, { on := 14, ground := Go.Ground.phase }], guard := Option.none } : Oper)) rfl (fun K0 hK0 => ?_) AllReadyH.nil
      go_simp
      have HXE := Lib.hid (HEN3.out _ _ _ _ HB35.out HE35.out)
      refine hK0.out _ _ (HSE.out _ _ HB35.out) (fun _ => ?_)
      clear hK0 K0
      try simp only [Act.put, List.setIfInBounds_toArray, List.set_cons_zero, List.set_cons_succ]
      refine wpAnyH_done (by kernel_rfl) ?_ _
      go_wp2_with fail
      refine bodyPost_ret (v := .tuple #[.int .i64 (s : Int), .int .i64 0]) (by simp [results, Try.results11, go_sem]) rfl ?_
      exact ⟨rfl, HXE.out⟩
    · have cb := (HC0.out _ HB31.out).1
      have cb0 := (HC0.out W3 (Below.refl _ _)).1
      go_simp
      refine hK0.out _ _ hSS (fun _ => ?_)
      clear cb cb0
      clear hK0 K0
      try simp only [Act.put, List.setIfInBounds_toArray, List.set_cons_zero, List.set_cons_succ]
      refine wpAnyH_ready (rs := [1]) (by kernel_rfl) (by simp) ?_
      refine AllReadyH.cons (o := ({ dst := Option.some 25, op := Go.Op.buildSlice 26 0 #[], type := 26, pos := "ref.go:42", after := #[], guard := Option.none } : Oper)) rfl (fun K0 hK0 => ?_) AllReadyH.nil
      go_simp
      have HB33 : Hid (Below W3.heap.size W3 ((W3.drew.alloc (.cells #[.int .i64 (s : Int), .int .i64 k, .int .i64 f, .int .i64 t, .int .i64 x, .slice A3 ns.length c3] 40)).alloc (.cells #[] 40))) := Lib.hid (HB31.out.trans ((alloc_below (W3.drew.alloc (.cells #[.int .i64 (s : Int), .int .i64 k, .int .i64 f, .int .i64 t, .int .i64 x, .slice A3 ns.length c3] 40)) _).mono HB31.out.size))
      have HE33 : Hid (OwnY ((W3.drew.alloc (.cells #[.int .i64 (s : Int), .int .i64 k, .int .i64 f, .int .i64 t, .int .i64 x, .slice A3 ns.length c3] 40)).alloc (.cells #[] 40)) W3.heap.size (.slice (some ⟨(W3.heap.size + 1), 0, none⟩) 0 0) []) := Lib.hid (OwnY.empty_at _ (by simp) (by omega))
      have HY33 := Lib.hid (HY31.out.below (alloc_below (W3.drew.alloc (.cells #[.int .i64 (s : Int), .int .i64 k, .int .i64 f, .int .i64 t, .int .i64 x, .slice A3 ns.length c3] 40)) (.cells #[] 40)))
      have hSS := HSS.out _ HB33.out
      refine hK0.out _ _ hSS (fun _ => ?_)
      clear hK0 K0
      try simp only [Act.put, List.setIfInBounds_toArray, List.set_cons_zero, List.set_cons_succ]
      refine wpAnyH_ready (rs := [6]) (by kernel_rfl) (by simp) ?_
      refine AllReadyH.cons (o := ({ dst := Option.some 30, op := Go.Op.call { callee := Go.Callee.builtin Go.Builtin.append, args := #[Go.Operand.tmp 25, Go.Operand.tmp 29], argTypes := #[26, 26] }, type := 26, pos := "ref.go:42", after := #[{ on := 1, ground := Go.Ground.data }, { on := 5, ground := Go.Ground.data }], guard := Option.none } : Oper)) rfl (fun K0 hK0 => ?_) AllReadyH.nil
      refine step_appY (xs := []) (ys := ws) (B := W3.heap.size) rfl _ _ 26 rfl Try.underlying26 rfl HE33.out rfl HN.out (HRW.out _ HB33.out) (by have := HN9.out; simp; omega) HB33.out.size ?_
      intro v6 W6 ho6 hg6
      obtain ⟨g6, cap6, hv6, hB6⟩ := ho6.2
      rw [show (([] : List Wy) ++ ws).length = N from HN.out] at hv6
      subst hv6
      have HB34 : Hid (Below W3.heap.size W3 W6) := Lib.hid (HB33.out.trans (grown_below' hg6 (show W3.heap.size ≤ (W3.heap.size + 1) by omega) HB33.out.size))
      have HE34 := Lib.hid ho6
      have HY34 := Lib.hid (HY33.out.grown hg6 (show W3.heap.size ≠ (W3.heap.size + 1) by omega))
      have hSS := HSS.out _ HB34.out
      have HB6 := Lib.hid hB6
      refine hK0.out _ _ hSS (fun _ => ?_)
      clear ho6 hg6 hB6
      clear hK0 K0
      try simp only [Act.put, List.setIfInBounds_toArray, List.set_cons_zero, List.set_cons_succ]
      refine wpAnyH_ready (rs := [14]) (by kernel_rfl) (by simp) ?_
      refine AllReadyH.cons (o := ({ dst := Option.some 38, op := Go.Op.call { callee := Go.Callee.builtin Go.Builtin.append, args := #[Go.Operand.tmp 30, Go.Operand.tmp 37], argTypes := #[26, 26] }, type := 26, pos := "ref.go:42", after := #[{ on := 6, ground := Go.Ground.data }, { on := 13, ground := Go.Ground.data }, { on := 6, ground := Go.Ground.chain }], guard := Option.none } : Oper)) rfl (fun K0 hK0 => ?_) AllReadyH.nil
      refine step_appY (xs := [] ++ ws) (ys := [(⟨s, ⟨⟨k, f, t, x, ns⟩, A3, c3⟩⟩ : Wy)]) (B := W3.heap.size) rfl _ _ 26 rfl Try.underlying26 rfl HE34.out rfl rfl HY34.out (by have := HN9.out; simp; omega) HB34.out.size ?_
      intro v9 W9 ho9 hg9
      obtain ⟨g9, cap9, hv9, hB9⟩ := ho9.2
      rw [show ((([] : List Wy) ++ ws) ++ [(⟨s, ⟨⟨k, f, t, x, ns⟩, A3, c3⟩⟩ : Wy)]).length = N + 1 by rw [List.nil_append, List.length_append, HN.out]; rfl] at hv9
      subst hv9
      have HB35 : Hid (Below W3.heap.size W3 W9) := Lib.hid (HB34.out.trans (grown_below' hg9 HB6.out HB34.out.size))
      have HE35 := Lib.hid ho9
      have hSS := HSS.out _ HB35.out
      obtain ⟨c90, c91, z90, z91⟩ := HC0.out _ HB35.out
      refine hK0.out _ _ hSS (fun _ => ?_)
      clear ho9 hg9 hB9
      clear hK0 K0
      try simp only [Act.put, List.setIfInBounds_toArray, List.set_cons_zero, List.set_cons_succ]
      refine wpAnyH_take (i := 15) (oi := ({ dst := Option.some 39, op := Go.Op.nilCheck (Go.Operand.tmp 24), type := 0, pos := "ref.go:42", after := #[{ on := 0, ground := Go.Ground.data }, { on := 0, ground := Go.Ground.phase }, { on := 1, ground := Go.Ground.phase }, { on := 2, ground := Go.Ground.phase }, { on := 3, ground := Go.Ground.phase }, { on := 4, ground := Go.Ground.phase }, { on := 5, ground := Go.Ground.phase }, { on := 6, ground := Go.Ground.phase }, { on := 7, ground := Go.Ground.phase }, { on := 8, ground := Go.Ground.phase }, { on := 9, ground := Go.Ground.phase }, { on := 10, ground := Go.Ground.phase }, { on := 11, ground := Go.Ground.phase }, { on := 12, ground := Go.Ground.phase }, { on := 13, ground := Go.Ground.phase }, { on := 14, ground := Go.Ground.phase }], guard := Option.none } : Oper)) (v := ?v15x25) rfl (by kernel_rfl) (by kernel_rfl) (by kernel_rfl) (fun _ _ _ h => h) (Or.inl ⟨by rfl, ?hy15x25⟩) hSS ?rest15x25
      case hy15x25 =>
        intro W0 hSw
        obtain ⟨s0, s1, s2, s3, s4, s5⟩ := hSw
        go_simp
        first | done | with_reducible rfl
      try simp only [Act.put, List.setIfInBounds_toArray, List.set_cons_zero, List.set_cons_succ]
      refine wpAnyH_take (i := 16) (oi := ({ dst := Option.some 40, op := Go.Op.fieldAddr 28 (Go.Operand.tmp 39) 0, type := 0, pos := "ref.go:42", after := #[{ on := 15, ground := Go.Ground.data }, { on := 0, ground := Go.Ground.phase }, { on := 1, ground := Go.Ground.phase }, { on := 2, ground := Go.Ground.phase }, { on := 3, ground := Go.Ground.phase }, { on := 4, ground := Go.Ground.phase }, { on := 5, ground := Go.Ground.phase }, { on := 6, ground := Go.Ground.phase }, { on := 7, ground := Go.Ground.phase }, { on := 8, ground := Go.Ground.phase }, { on := 9, ground := Go.Ground.phase }, { on := 10, ground := Go.Ground.phase }, { on := 11, ground := Go.Ground.phase }, { on := 12, ground := Go.Ground.phase }, { on := 13, ground := Go.Ground.phase }, { on := 14, ground := Go.Ground.phase }], guard := Option.none } : Oper)) (v := ?v16x26) rfl (by kernel_rfl) (by kernel_rfl) (by kernel_rfl) (fun _ _ _ h => h) (Or.inl ⟨by rfl, ?hy16x26⟩) hSS ?rest16x26
      case hy16x26 =>
        intro W0 hSw
        obtain ⟨s0, s1, s2, s3, s4, s5⟩ := hSw
        go_simp
        first | done | with_reducible rfl
      try simp only [Act.put, List.setIfInBounds_toArray, List.set_cons_zero, List.set_cons_succ]
      refine wpAnyH_ready (rs := [17]) (by kernel_rfl) (by simp) ?_
      refine AllReadyH.cons (o := ({ dst := Option.none, op := Go.Op.store 26 (Go.Operand.tmp 40) (Go.Operand.tmp 38), type := 0, pos := "ref.go:42", after := #[{ on := 16, ground := Go.Ground.data }, { on := 14, ground := Go.Ground.data }, { on := 14, ground := Go.Ground.chain }, { on := 0, ground := Go.Ground.phase }, { on := 1, ground := Go.Ground.phase }, { on := 2, ground := Go.Ground.phase }, { on := 3, ground := Go.Ground.phase }, { on := 4, ground := Go.Ground.phase }, { on := 5, ground := Go.Ground.phase }, { on := 6, ground := Go.Ground.phase }, { on := 7, ground := Go.Ground.phase }, { on := 8, ground := Go.Ground.phase }, { on := 9, ground := Go.Ground.phase }, { on := 10, ground := Go.Ground.phase }, { on := 11, ground := Go.Ground.phase }, { on := 12, ground := Go.Ground.phase }, { on := 13, ground := Go.Ground.phase }, { on := 14, ground := Go.Ground.phase }], guard := Option.none } : Oper)) rfl (fun K0 hK0 => ?_) AllReadyH.nil
      go_simp
      have HXE := Lib.hid (HEN3.out _ _ _ _ HB35.out HE35.out)
      refine hK0.out _ _ (HSE.out _ _ HB35.out) (fun _ => ?_)
      clear hK0 K0
      try simp only [Act.put, List.setIfInBounds_toArray, List.set_cons_zero, List.set_cons_succ]
      refine wpAnyH_done (by kernel_rfl) ?_ _
      go_wp2_with fail
      refine bodyPost_ret (v := .tuple #[.int .i64 (s : Int), .int .i64 0]) (by simp [results, Try.results11, go_sem]) rfl ?_
      exact ⟨rfl, HXE.out⟩
theorem told_r {w : World} {p : Nat} {m : Option Nat} {L : List En} {s t : Nat} (h : NetAt w p m L s t) : Calls Try.prog 21 #[.pointer (some ⟨p, 0, none⟩)] w (fun e w' => ∃ r Z : Nat, Hid (L.length = Z) ∧ s = t + r + Z ∧ e = .returned (.tuple #[.int .i64 (s : Int), .int .i64 (t : Int), .int .i64 (r : Int)]) ∧ Below w.heap.size w w') := by
  refine (told_any h).mono ?_
  rintro e w' ⟨rfl, n, rfl⟩
  have := h.sum
  refine ⟨s - t - L.length, L.length, Lib.hid rfl, by omega, ?_, drewN_below _ _⟩
  rw [show ((s - t - L.length : Nat) : Int) = (s : Int) - t - L.length by omega]
theorem find_drop (L : List En) (x : Int) : findN (dropN L x) x = none := by
  unfold findN dropN
  rw [List.find?_eq_none]
  intro e he
  have := (List.mem_filter.1 he).2
  simpa using this
theorem box7 {w : World} {b : Nat} {x0 x1 x2 x3 x4 x5 x6 : Value} {t : TypeId} {fr : Nat × Nat} (h : w.heap[b]? = some (.cells #[x0, x1, x2, x3, x4, x5, x6] t fr)) : w.cell? ⟨b, 0, none⟩ = some x0 ∧ w.cell? ⟨b, 1, none⟩ = some x1 ∧ w.cell? ⟨b, 2, none⟩ = some x2 ∧ w.cell? ⟨b, 3, none⟩ = some x3 ∧ w.cell? ⟨b, 4, none⟩ = some x4 ∧ w.cell? ⟨b, 5, none⟩ = some x5 ∧ w.cell? ⟨b, 6, none⟩ = some x6 := by
  simp [World.cell?, h]
theorem told_sum {S T R Z : Nat} (h : S = T + R + Z) (hm : S ≤ 100000) : wrap64 ((T : Int) + (R : Int)) = (T : Int) + (R : Int) ∧ wrap64 ((T : Int) + (R : Int) + (Z : Int)) = (S : Int) := by
  constructor <;> (unfold wrap64; omega)
end Go.Proofs.Ythdhifnafgidaaa

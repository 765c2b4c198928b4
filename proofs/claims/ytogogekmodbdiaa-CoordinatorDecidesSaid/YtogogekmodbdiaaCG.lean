/- The coordinator's log: records, and what they tell. -/
import Derived.Test.YtogogekmodbdiaaCX
import Derived.Test.YtogogekmodbdiaaWDX
namespace Go.Proofs.Ytogogekmodbdiaa
open Go.RowKit

/-- a record of the log: an opening, a decision, a forgetting -/
inductive Rk where
  | op (i : Nat)
  | de (x y : Nat)
  | fo (x : Nat)
def Rk.l : Rk → List Int
  | .op i => [0, (i : Int)]
  | .de x y => [1, (x : Int), (y : Int)]
  | .fo x => [2, (x : Int)]
def Rk.b (r : Rk) : List UInt8 := rowB (r.l.map intV)
def Rk.ok : Rk → Prop
  | .op i => i ≤ 1099511627776
  | .de x y => x ≤ 1099511627776 ∧ 0 < y ∧ y < 65536
  | .fo x => x ≤ 1099511627776
theorem Rk.len {r : Rk} : 2 ≤ r.l.length ∧ r.l.length ≤ 3 := by cases r <;> simp [Rk.l]
theorem Rk.okL {r : Rk} (h : r.ok) : ∀ x ∈ r.l, 0 ≤ x ∧ x ≤ 1099511627776 := by
  intro x hx
  cases r with
  | op i => simp only [Rk.ok, Rk.l] at h hx; simp at hx; rcases hx with rfl | rfl <;> omega
  | de a y => simp only [Rk.ok, Rk.l] at h hx; simp at hx; rcases hx with rfl | rfl | rfl <;> omega
  | fo a => simp only [Rk.ok, Rk.l] at h hx; simp at hx; rcases hx with rfl | rfl <;> omega
theorem Rk.b_len {r : Rk} (h : r.ok) : 1 ≤ r.b.length ∧ r.b.length ≤ 900 := by
  have h2 := Rk.okL h
  have h3 := r.len
  unfold Rk.b
  generalize r.l = l at h2 h3 ⊢
  match l, h3 with
  | k :: ns, h3 =>
    have h4 := recV_len (k := k) (ns := ns) (by have := h2 k (by simp); unfold i64ok; omega) (fun x hx => by have := h2 x (by simp [hx]); unfold i64ok; omega) (by simp at h3; omega)
    exact h4
/-- what a record turns: how many openings there were, and the transactions -/
def redo1 (p : Nat × List Te) : Rk → Nat × List Te
  | .op _ => (p.1 + 1, p.2)
  | .de x y => (p.1, putT p.2 ⟨x, 3, 0, y, 0, 0⟩)
  | .fo x => (p.1, dropT p.2 x)
def redoA (rs : List Rk) : Nat × List Te := rs.foldl redo1 (0, [])
theorem redoA_snoc {rs : List Rk} {i : Nat} {r : Rk} (h : rs[i]? = some r) : redoA (rs.take (i + 1)) = redo1 (redoA (rs.take i)) r := by
  unfold redoA
  rw [List.take_add_one, h, List.foldl_append]
  rfl
theorem redoA_app (rs : List Rk) (r : Rk) : redoA (rs ++ [r]) = redo1 (redoA rs) r := by
  unfold redoA
  rw [List.foldl_append]
  rfl
theorem RdI.three {w : World} {B : Nat} {A : Option Addr} {k x y : Int} (h : RdI w B A [k, x, y]) : ∃ b o, A = some ⟨b, o, none⟩ ∧ b < B ∧ w.cell? ⟨b, o, none⟩ = some (.int .i64 k) ∧ w.cell? ⟨b, o + 1, none⟩ = some (.int .i64 x) ∧ w.cell? ⟨b, o + 2, none⟩ = some (.int .i64 y) := by
  obtain ⟨b, o, e, hb, hc⟩ := h (by simp)
  exact ⟨b, o, e, hb, hc 0 k rfl, hc 1 x rfl, hc 2 y rfl⟩
theorem RdI.two {w : World} {B : Nat} {A : Option Addr} {k x : Int} (h : RdI w B A [k, x]) : ∃ b o, A = some ⟨b, o, none⟩ ∧ b < B ∧ w.cell? ⟨b, o, none⟩ = some (.int .i64 k) ∧ w.cell? ⟨b, o + 1, none⟩ = some (.int .i64 x) := by
  obtain ⟨b, o, e, hb, hc⟩ := h (by simp)
  exact ⟨b, o, e, hb, hc 0 k rfl, hc 1 x rfl⟩
set_option maxRecDepth 100000 in
set_option maxHeartbeats 4000000 in
theorem right13_any (r : Rk) (hr : r.ok) (A : Option Addr) (n cap : Nat) (hn : r.l.length = n) (hnc : n ≤ cap) (w : World) (h : RdI w w.heap.size A r.l) :
    Calls Try.prog 62 #[.slice A n cap] w (LooksL (.bool true) w) := by
  cases r with
  | op i =>
    simp only [Rk.l, List.length_cons, List.length_nil] at hn h
    obtain ⟨b, o, rfl, _, c0, c1⟩ := h.two
    subst hn
    have hcap : (2 : Int) ≤ (cap : Int) := by omega
    clear h hr hnc
    go_enter Try.func62, Try.ntmps62
    go_wp2_with fail
    go_ret
    exact ⟨rfl, rfl⟩
  | de x y =>
    simp only [Rk.l, List.length_cons, List.length_nil] at hn h
    simp only [Rk.ok] at hr
    obtain ⟨b, o, rfl, _, c0, c1, c2⟩ := h.three
    subst hn
    have hcap : (3 : Int) ≤ (cap : Int) := by omega
    obtain ⟨Y, hY⟩ : ∃ Y : Int, Y = (y : Int) := ⟨_, rfl⟩
    rw [← hY] at c2
    have hy0 : (0 : Int) < Y := by omega
    have hy1 : decide (Y < 65536) = true := by simp; omega
    clear h hr hnc hY
    go_enter Try.func62, Try.ntmps62
    go_wp2_with fail
    go_ret
    exact ⟨rfl, rfl⟩
  | fo x =>
    simp only [Rk.l, List.length_cons, List.length_nil] at hn h
    obtain ⟨b, o, rfl, _, c0, c1⟩ := h.two
    subst hn
    have hcap : (2 : Int) ≤ (cap : Int) := by omega
    clear h hr hnc
    go_enter Try.func62, Try.ntmps62
    go_wp2_with fail
    go_ret
    exact ⟨rfl, rfl⟩
theorem box7_set2 {w : World} {p : Nat} {x0 x1 x2 x3 x4 x5 x6 : Value} {t : TypeId} {fr : Nat × Nat} (h : w.heap[p]? = some (.cells #[x0, x1, x2, x3, x4, x5, x6] t fr)) (v : Value) :
    (w.setCell ⟨p, 2, none⟩ v).heap[p]? = some (.cells #[x0, x1, v, x3, x4, x5, x6] t fr) := by
  simp [World.setCell, Array.getElem?_modify, h]
/-- what redo leaves -/
def RdoT (w : World) (B : Nat) (S : CoS) (r : Rk) (e : Ending) (w' : World) : Prop := e = .returned (.tuple #[]) ∧ Co w' B { S with inc := (redo1 (S.inc, S.T) r).1, T := (redo1 (S.inc, S.T) r).2 } ∧ Only (fun j => j = S.c ∨ j = S.m) w w'
set_option maxRecDepth 100000 in
set_option maxHeartbeats 8000000 in
theorem redo_any {w : World} {B : Nat} {S : CoS} (h : Co w B S) (hi : S.inc ≤ 65536) (hT : S.T.length < 1000) (r : Rk) (hr : r.ok) (A : Option Addr) (n cap : Nat) (hn : r.l.length = n) (hnc : n ≤ cap) (hrd : RdI w w.heap.size A r.l) (hsep : ∀ a, A = some a → a.block ≠ S.c ∧ a.block ≠ S.m) :
    Calls Try.prog 41 #[.pointer (some ⟨S.c, 0, none⟩), .slice A n cap] w (RdoT w B S r) := by
  obtain ⟨_, _, c2, _, _, c5, _⟩ := box7_ h.box
  cases r with
  | op i =>
    simp only [Rk.l, List.length_cons, List.length_nil] at hn hrd
    obtain ⟨b, o, rfl, _, y0, y1⟩ := hrd.two
    subst hn
    have hcap : (2 : Int) ≤ (cap : Int) := by omega
    have f2 := frozen_of h.box 2
    have hii : (S.inc : Int) ≤ 65536 := by omega
    have hinc : (S.inc : Int) + 1 = ((S.inc + 1 : Nat) : Int) := by omega
    have hO := Only.set w S.c 2 (.int .i64 ((S.inc : Int) + 1))
    have HE : Hid (RdoT w B S (.op i) (.returned (.tuple #[])) (w.setCell ⟨S.c, 2, none⟩ (.int .i64 ((S.inc : Int) + 1)))) := Lib.hid ⟨rfl, h.boxed hO { S with inc := S.inc + 1 } (by rw [hinc]; exact box7_set2 h.box _) ⟨rfl, rfl, rfl, rfl, rfl, rfl, rfl, rfl, rfl, rfl, rfl, rfl⟩ (h.out_kept hO) h.no, hO.more fun j _ hj => .inl hj⟩
    clear h hrd hr hnc hO hinc hsep hT hi
    go_enter Try.func41, Try.ntmps41
    go_wp2_with fail
    refine bodyPost_end (v := .tuple #[]) (by simp [results, Try.results41, go_sem]) rfl ?_
    exact HE.out
  | de x y =>
    simp only [Rk.l, List.length_cons, List.length_nil] at hn hrd
    simp only [Rk.ok] at hr
    obtain ⟨b, o, rfl, hbl, y0, y1, y2⟩ := hrd.three
    subst hn
    obtain ⟨hs1, hs2⟩ := hsep _ rfl
    have hcap : (3 : Int) ≤ (cap : Int) := by omega
    have hxi : i64ok (x : Int) := by unfold i64ok; omega
    have hcd := h.below (drew_below w)
    obtain ⟨w2, hrun, hm2, hO2⟩ := hcd.map.store hT hxi 3 0 y 0 0 (.agg #[.int .i64 3, .int .i64 0, .int .i64 (y : Int), .int .i64 0, .int .i64 0]) rfl
    have hco2 := hcd.mapped hO2 hm2
    obtain ⟨X, hX⟩ : ∃ X : Int, X = (x : Int) := ⟨_, rfl⟩
    obtain ⟨Y, hY⟩ : ∃ Y : Int, Y = (y : Int) := ⟨_, rfl⟩
    rw [← hX, ← hY] at hrun
    rw [← hX] at y1
    rw [← hY] at y2
    have hcell : ∀ k, w2.cell? ⟨b, k, none⟩ = w.cell? ⟨b, k, none⟩ := fun k => World.cell?_of_block (a := ⟨b, k, none⟩) (hO2.block b hbl (fun e => hs2 e))
    have hSS : (fun W : World => W.cell? ⟨S.c, 5, none⟩ = some (.map (some S.m)) ∧ W.cell? ⟨b, o + 1, none⟩ = some (.int .i64 X) ∧ W.cell? ⟨b, o + 2, none⟩ = some (.int .i64 Y)) w.drew := ⟨c5, y1, y2⟩
    have hS2 : Hid ((fun W : World => W.cell? ⟨S.c, 5, none⟩ = some (.map (some S.m)) ∧ W.cell? ⟨b, o + 1, none⟩ = some (.int .i64 X) ∧ W.cell? ⟨b, o + 2, none⟩ = some (.int .i64 Y)) w2) := Lib.hid ⟨(box7_ hco2.box).2.2.2.2.2.1, (hcell _).trans y1, (hcell _).trans y2⟩
    have HE : Hid (RdoT w B S (.de x y) (.returned (.tuple #[])) w2) := Lib.hid ⟨rfl, hco2, ((Only.of_below (drew_below w)).trans hO2 fun j _ hj => hj).more fun j _ hj => .inr hj⟩
    clear h hrd hr hnc hsep hT hi hcd hm2 hO2 hco2 hX hY hcell hxi hs1 hs2 hbl
    go_enter Try.func41, Try.ntmps41
    go_upto_region 4 with fail
    refine wp_region_held_drew (S := (fun W : World => W.cell? ⟨S.c, 5, none⟩ = some (.map (some S.m)) ∧ W.cell? ⟨b, o + 1, none⟩ = some (.int .i64 X) ∧ W.cell? ⟨b, o + 2, none⟩ = some (.int .i64 Y))) (by kernel_rfl) hSS (fun _ => ?_)
    refine wpAnyH_take (i := 0) (oi := ({ dst := Option.some 18, op := Go.Op.move (Go.Operand.tmp 0), type := 28, pos := "log.go:48", after := #[], guard := Option.none } : Oper)) (v := ?v0x1) rfl (by kernel_rfl) (by kernel_rfl) (by kernel_rfl) (fun _ _ _ h => h) (Or.inl ⟨by rfl, ?hy0x1⟩) hSS ?rest0x1
    case hy0x1 =>
      intro W0 hSw
      obtain ⟨s0, s1, s2⟩ := hSw
      go_simp
      first | done | with_reducible rfl
    try simp only [Act.put, List.setIfInBounds_toArray, List.set_cons_zero, List.set_cons_succ]
    refine wpAnyH_take (i := 1) (oi := ({ dst := Option.some 19, op := Go.Op.nilCheck (Go.Operand.tmp 18), type := 0, pos := "log.go:48", after := #[{ on := 0, ground := Go.Ground.data }], guard := Option.none } : Oper)) (v := ?v1x2) rfl (by kernel_rfl) (by kernel_rfl) (by kernel_rfl) (fun _ _ _ h => h) (Or.inl ⟨by rfl, ?hy1x2⟩) hSS ?rest1x2
    case hy1x2 =>
      intro W0 hSw
      obtain ⟨s0, s1, s2⟩ := hSw
      go_simp
      first | done | with_reducible rfl
    try simp only [Act.put, List.setIfInBounds_toArray, List.set_cons_zero, List.set_cons_succ]
    refine wpAnyH_take (i := 2) (oi := ({ dst := Option.some 20, op := Go.Op.fieldAddr 63 (Go.Operand.tmp 19) 5, type := 0, pos := "log.go:48", after := #[{ on := 1, ground := Go.Ground.data }], guard := Option.none } : Oper)) (v := ?v2x3) rfl (by kernel_rfl) (by kernel_rfl) (by kernel_rfl) (fun _ _ _ h => h) (Or.inl ⟨by rfl, ?hy2x3⟩) hSS ?rest2x3
    case hy2x3 =>
      intro W0 hSw
      obtain ⟨s0, s1, s2⟩ := hSw
      go_simp
      first | done | with_reducible rfl
    try simp only [Act.put, List.setIfInBounds_toArray, List.set_cons_zero, List.set_cons_succ]
    refine wpAnyH_take (i := 3) (oi := ({ dst := Option.some 21, op := Go.Op.load 61 (Go.Operand.tmp 20), type := 61, pos := "log.go:48", after := #[{ on := 2, ground := Go.Ground.data }], guard := Option.none } : Oper)) (v := ?v3x4) rfl (by kernel_rfl) (by kernel_rfl) (by kernel_rfl) (fun _ _ _ h => h) (Or.inl ⟨by rfl, ?hy3x4⟩) hSS ?rest3x4
    case hy3x4 =>
      intro W0 hSw
      obtain ⟨s0, s1, s2⟩ := hSw
      go_simp
      first | done | with_reducible rfl
    try simp only [Act.put, List.setIfInBounds_toArray, List.set_cons_zero, List.set_cons_succ]
    refine wpAnyH_take (i := 4) (oi := ({ dst := Option.some 22, op := Go.Op.move (Go.Operand.tmp 1), type := 22, pos := "log.go:48", after := #[], guard := Option.none } : Oper)) (v := ?v4x5) rfl (by kernel_rfl) (by kernel_rfl) (by kernel_rfl) (fun _ _ _ h => h) (Or.inl ⟨by rfl, ?hy4x5⟩) hSS ?rest4x5
    case hy4x5 =>
      intro W0 hSw
      obtain ⟨s0, s1, s2⟩ := hSw
      go_simp
      first | done | with_reducible rfl
    try simp only [Act.put, List.setIfInBounds_toArray, List.set_cons_zero, List.set_cons_succ]
    refine wpAnyH_take (i := 5) (oi := ({ dst := Option.some 23, op := Go.Op.indexAddr 22 (Go.Operand.tmp 22) (Go.Operand.const (Go.Value.int Go.IntKind.i64 1)), type := 0, pos := "log.go:48", after := #[{ on := 4, ground := Go.Ground.data }], guard := Option.none } : Oper)) (v := ?v5x6) rfl (by kernel_rfl) (by kernel_rfl) (by kernel_rfl) (fun _ _ _ h => h) (Or.inl ⟨by rfl, ?hy5x6⟩) hSS ?rest5x6
    case hy5x6 =>
      intro W0 hSw
      obtain ⟨s0, s1, s2⟩ := hSw
      go_simp
      first | done | with_reducible rfl
    try simp only [Act.put, List.setIfInBounds_toArray, List.set_cons_zero, List.set_cons_succ]
    refine wpAnyH_take (i := 6) (oi := ({ dst := Option.some 24, op := Go.Op.load 3 (Go.Operand.tmp 23), type := 3, pos := "log.go:48", after := #[{ on := 5, ground := Go.Ground.data }], guard := Option.none } : Oper)) (v := ?v6x7) rfl (by kernel_rfl) (by kernel_rfl) (by kernel_rfl) (fun _ _ _ h => h) (Or.inl ⟨by rfl, ?hy6x7⟩) hSS ?rest6x7
    case hy6x7 =>
      intro W0 hSw
      obtain ⟨s0, s1, s2⟩ := hSw
      go_simp
      first | done | with_reducible rfl
    try simp only [Act.put, List.setIfInBounds_toArray, List.set_cons_zero, List.set_cons_succ]
    refine wpAnyH_take (i := 7) (oi := ({ dst := Option.some 25, op := Go.Op.move (Go.Operand.tmp 1), type := 22, pos := "log.go:48", after := #[], guard := Option.none } : Oper)) (v := ?v7x8) rfl (by kernel_rfl) (by kernel_rfl) (by kernel_rfl) (fun _ _ _ h => h) (Or.inl ⟨by rfl, ?hy7x8⟩) hSS ?rest7x8
    case hy7x8 =>
      intro W0 hSw
      obtain ⟨s0, s1, s2⟩ := hSw
      go_simp
      first | done | with_reducible rfl
    try simp only [Act.put, List.setIfInBounds_toArray, List.set_cons_zero, List.set_cons_succ]
    refine wpAnyH_take (i := 8) (oi := ({ dst := Option.some 26, op := Go.Op.indexAddr 22 (Go.Operand.tmp 25) (Go.Operand.const (Go.Value.int Go.IntKind.i64 2)), type := 0, pos := "log.go:48", after := #[{ on := 7, ground := Go.Ground.data }], guard := Option.none } : Oper)) (v := ?v8x9) rfl (by kernel_rfl) (by kernel_rfl) (by kernel_rfl) (fun _ _ _ h => h) (Or.inl ⟨by rfl, ?hy8x9⟩) hSS ?rest8x9
    case hy8x9 =>
      intro W0 hSw
      obtain ⟨s0, s1, s2⟩ := hSw
      go_simp
      first | done | with_reducible rfl
    try simp only [Act.put, List.setIfInBounds_toArray, List.set_cons_zero, List.set_cons_succ]
    refine wpAnyH_take (i := 9) (oi := ({ dst := Option.some 27, op := Go.Op.load 3 (Go.Operand.tmp 26), type := 3, pos := "log.go:48", after := #[{ on := 8, ground := Go.Ground.data }], guard := Option.none } : Oper)) (v := ?v9x10) rfl (by kernel_rfl) (by kernel_rfl) (by kernel_rfl) (fun _ _ _ h => h) (Or.inl ⟨by rfl, ?hy9x10⟩) hSS ?rest9x10
    case hy9x10 =>
      intro W0 hSw
      obtain ⟨s0, s1, s2⟩ := hSw
      go_simp
      first | done | with_reducible rfl
    try simp only [Act.put, List.setIfInBounds_toArray, List.set_cons_zero, List.set_cons_succ]
    refine wpAnyH_take (i := 10) (oi := ({ dst := Option.some 28, op := Go.Op.build 67 #[(0, Go.Operand.const (Go.Value.int Go.IntKind.i64 3)), (2, Go.Operand.tmp 27)], type := 67, pos := "log.go:48", after := #[{ on := 9, ground := Go.Ground.data }], guard := Option.none } : Oper)) (v := ?v10x11) rfl (by kernel_rfl) (by kernel_rfl) (by kernel_rfl) (fun _ _ _ h => h) (Or.inl ⟨by rfl, ?hy10x11⟩) hSS ?rest10x11
    case hy10x11 =>
      intro W0 hSw
      obtain ⟨s0, s1, s2⟩ := hSw
      go_simp
      first | done | with_reducible rfl
    try simp only [Act.put, List.setIfInBounds_toArray, List.set_cons_zero, List.set_cons_succ]
    refine wpAnyH_ready (rs := [11]) (by kernel_rfl) (by simp) ?_
    refine AllReadyH.cons (o := ({ dst := Option.none, op := Go.Op.mapUpdate 61 (Go.Operand.tmp 21) (Go.Operand.tmp 24) (Go.Operand.tmp 28), type := 0, pos := "log.go:48", after := #[{ on := 3, ground := Go.Ground.data }, { on := 6, ground := Go.Ground.data }, { on := 10, ground := Go.Ground.data }, { on := 0, ground := Go.Ground.phase }, { on := 1, ground := Go.Ground.phase }, { on := 2, ground := Go.Ground.phase }, { on := 3, ground := Go.Ground.phase }, { on := 4, ground := Go.Ground.phase }, { on := 5, ground := Go.Ground.phase }, { on := 6, ground := Go.Ground.phase }, { on := 7, ground := Go.Ground.phase }, { on := 8, ground := Go.Ground.phase }, { on := 9, ground := Go.Ground.phase }, { on := 10, ground := Go.Ground.phase }], guard := Option.none } : Oper)) rfl (fun K0 hK0 => ?_) AllReadyH.nil
    go_simp
    refine hK0.out _ _ hS2.out (fun _ => ?_)
    clear hK0 K0
    try simp only [Act.put, List.setIfInBounds_toArray, List.set_cons_zero, List.set_cons_succ]
    refine wpAnyH_done (by kernel_rfl) ?_ _
    go_wp2_with fail
    refine bodyPost_end (v := .tuple #[]) (by simp [results, Try.results41, go_sem]) rfl ?_
    exact HE.out
  | fo x =>
    simp only [Rk.l, List.length_cons, List.length_nil] at hn hrd
    simp only [Rk.ok] at hr
    obtain ⟨b, o, rfl, hbl, y0, y1⟩ := hrd.two
    subst hn
    obtain ⟨hs1, hs2⟩ := hsep _ rfl
    have hcap : (2 : Int) ≤ (cap : Int) := by omega
    have hxi : i64ok (x : Int) := by unfold i64ok; omega
    have hcd := h.below (drew_below w)
    obtain ⟨w2, hrun, hm2, hO2⟩ := hcd.map.drop hxi
    have hco2 := hcd.mapped hO2 hm2
    obtain ⟨X, hX⟩ : ∃ X : Int, X = (x : Int) := ⟨_, rfl⟩
    rw [← hX] at hrun y1
    have hcell : ∀ k, w2.cell? ⟨b, k, none⟩ = w.cell? ⟨b, k, none⟩ := fun k => World.cell?_of_block (a := ⟨b, k, none⟩) (hO2.block b hbl (fun e => hs2 e))
    have hSS : (fun W : World => W.cell? ⟨S.c, 5, none⟩ = some (.map (some S.m)) ∧ W.cell? ⟨b, o + 1, none⟩ = some (.int .i64 X)) w.drew := ⟨c5, y1⟩
    have hS2 : Hid ((fun W : World => W.cell? ⟨S.c, 5, none⟩ = some (.map (some S.m)) ∧ W.cell? ⟨b, o + 1, none⟩ = some (.int .i64 X)) w2) := Lib.hid ⟨(box7_ hco2.box).2.2.2.2.2.1, (hcell _).trans y1⟩
    have HE : Hid (RdoT w B S (.fo x) (.returned (.tuple #[])) w2) := Lib.hid ⟨rfl, hco2, ((Only.of_below (drew_below w)).trans hO2 fun j _ hj => hj).more fun j _ hj => .inr hj⟩
    clear h hrd hr hnc hsep hT hi hcd hm2 hO2 hco2 hX hcell hxi hs1 hs2 hbl
    go_enter Try.func41, Try.ntmps41
    go_upto_region 6 with fail
    refine wp_region_held_drew (S := (fun W : World => W.cell? ⟨S.c, 5, none⟩ = some (.map (some S.m)) ∧ W.cell? ⟨b, o + 1, none⟩ = some (.int .i64 X))) (by kernel_rfl) hSS (fun _ => ?_)
    refine wpAnyH_take (i := 0) (oi := ({ dst := Option.some 31, op := Go.Op.move (Go.Operand.tmp 0), type := 28, pos := "log.go:50", after := #[], guard := Option.none } : Oper)) (v := ?v0x12) rfl (by kernel_rfl) (by kernel_rfl) (by kernel_rfl) (fun _ _ _ h => h) (Or.inl ⟨by rfl, ?hy0x12⟩) hSS ?rest0x12
    case hy0x12 =>
      intro W0 hSw
      obtain ⟨s0, s1⟩ := hSw
      go_simp
      first | done | with_reducible rfl
    try simp only [Act.put, List.setIfInBounds_toArray, List.set_cons_zero, List.set_cons_succ]
    refine wpAnyH_take (i := 1) (oi := ({ dst := Option.some 32, op := Go.Op.nilCheck (Go.Operand.tmp 31), type := 0, pos := "log.go:50", after := #[{ on := 0, ground := Go.Ground.data }], guard := Option.none } : Oper)) (v := ?v1x13) rfl (by kernel_rfl) (by kernel_rfl) (by kernel_rfl) (fun _ _ _ h => h) (Or.inl ⟨by rfl, ?hy1x13⟩) hSS ?rest1x13
    case hy1x13 =>
      intro W0 hSw
      obtain ⟨s0, s1⟩ := hSw
      go_simp
      first | done | with_reducible rfl
    try simp only [Act.put, List.setIfInBounds_toArray, List.set_cons_zero, List.set_cons_succ]
    refine wpAnyH_take (i := 2) (oi := ({ dst := Option.some 33, op := Go.Op.fieldAddr 63 (Go.Operand.tmp 32) 5, type := 0, pos := "log.go:50", after := #[{ on := 1, ground := Go.Ground.data }], guard := Option.none } : Oper)) (v := ?v2x14) rfl (by kernel_rfl) (by kernel_rfl) (by kernel_rfl) (fun _ _ _ h => h) (Or.inl ⟨by rfl, ?hy2x14⟩) hSS ?rest2x14
    case hy2x14 =>
      intro W0 hSw
      obtain ⟨s0, s1⟩ := hSw
      go_simp
      first | done | with_reducible rfl
    try simp only [Act.put, List.setIfInBounds_toArray, List.set_cons_zero, List.set_cons_succ]
    refine wpAnyH_take (i := 3) (oi := ({ dst := Option.some 34, op := Go.Op.load 61 (Go.Operand.tmp 33), type := 61, pos := "log.go:50", after := #[{ on := 2, ground := Go.Ground.data }], guard := Option.none } : Oper)) (v := ?v3x15) rfl (by kernel_rfl) (by kernel_rfl) (by kernel_rfl) (fun _ _ _ h => h) (Or.inl ⟨by rfl, ?hy3x15⟩) hSS ?rest3x15
    case hy3x15 =>
      intro W0 hSw
      obtain ⟨s0, s1⟩ := hSw
      go_simp
      first | done | with_reducible rfl
    try simp only [Act.put, List.setIfInBounds_toArray, List.set_cons_zero, List.set_cons_succ]
    refine wpAnyH_take (i := 4) (oi := ({ dst := Option.some 35, op := Go.Op.move (Go.Operand.tmp 1), type := 22, pos := "log.go:50", after := #[], guard := Option.none } : Oper)) (v := ?v4x16) rfl (by kernel_rfl) (by kernel_rfl) (by kernel_rfl) (fun _ _ _ h => h) (Or.inl ⟨by rfl, ?hy4x16⟩) hSS ?rest4x16
    case hy4x16 =>
      intro W0 hSw
      obtain ⟨s0, s1⟩ := hSw
      go_simp
      first | done | with_reducible rfl
    try simp only [Act.put, List.setIfInBounds_toArray, List.set_cons_zero, List.set_cons_succ]
    refine wpAnyH_take (i := 5) (oi := ({ dst := Option.some 36, op := Go.Op.indexAddr 22 (Go.Operand.tmp 35) (Go.Operand.const (Go.Value.int Go.IntKind.i64 1)), type := 0, pos := "log.go:50", after := #[{ on := 4, ground := Go.Ground.data }], guard := Option.none } : Oper)) (v := ?v5x17) rfl (by kernel_rfl) (by kernel_rfl) (by kernel_rfl) (fun _ _ _ h => h) (Or.inl ⟨by rfl, ?hy5x17⟩) hSS ?rest5x17
    case hy5x17 =>
      intro W0 hSw
      obtain ⟨s0, s1⟩ := hSw
      go_simp
      first | done | with_reducible rfl
    try simp only [Act.put, List.setIfInBounds_toArray, List.set_cons_zero, List.set_cons_succ]
    refine wpAnyH_take (i := 6) (oi := ({ dst := Option.some 37, op := Go.Op.load 3 (Go.Operand.tmp 36), type := 3, pos := "log.go:50", after := #[{ on := 5, ground := Go.Ground.data }], guard := Option.none } : Oper)) (v := ?v6x18) rfl (by kernel_rfl) (by kernel_rfl) (by kernel_rfl) (fun _ _ _ h => h) (Or.inl ⟨by rfl, ?hy6x18⟩) hSS ?rest6x18
    case hy6x18 =>
      intro W0 hSw
      obtain ⟨s0, s1⟩ := hSw
      go_simp
      first | done | with_reducible rfl
    try simp only [Act.put, List.setIfInBounds_toArray, List.set_cons_zero, List.set_cons_succ]
    refine wpAnyH_ready (rs := [7]) (by kernel_rfl) (by simp) ?_
    refine AllReadyH.cons (o := ({ dst := Option.none, op := Go.Op.call { callee := Go.Callee.builtin Go.Builtin.delete, args := #[Go.Operand.tmp 34, Go.Operand.tmp 37], argTypes := #[61, 3] }, type := 0, pos := "log.go:50", after := #[{ on := 3, ground := Go.Ground.data }, { on := 6, ground := Go.Ground.data }], guard := Option.none } : Oper)) rfl (fun K0 hK0 => ?_) AllReadyH.nil
    go_simp
    refine hK0.out _ _ hS2.out (fun _ => ?_)
    clear hK0 K0
    try simp only [Act.put, List.setIfInBounds_toArray, List.set_cons_zero, List.set_cons_succ]
    refine wpAnyH_done (by kernel_rfl) ?_ _
    go_wp2_with fail
    refine bodyPost_end (v := .tuple #[]) (by simp [results, Try.results41, go_sem]) rfl ?_
    exact HE.out
/-- what read answers -/
def RedT (w : World) (r : Rk) (e : Ending) (w' : World) : Prop := ∃ v, e = .returned (.tuple #[v, .bool true]) ∧ OwnI w' w.heap.size v r.l ∧ Below w.heap.size w w'
def RedL (w1 : World) (ls : List Int) (v6 v18 : Value) (wr : World) : Prop := ∃ (i : Nat) (y : Value), y = v6 ∧ v18 = .int .i64 (i : Int) ∧ i ≤ ls.length ∧ OwnI wr w1.heap.size y (ls.take i) ∧ Below w1.heap.size w1 wr
theorem rd_oneAt (w : World) (n : Int) {g : Nat} (hg : g = w.heap.size) : RdI (w.alloc (.cells #[.int .i64 n] 3)) (g + 1) (some ⟨g, 0, none⟩) [n] := by subst hg; exact rd_oneI w n
set_option maxRecDepth 100000 in
set_option maxHeartbeats 8000000 in
theorem read13_yes (r : Rk) (hr : r.ok) (A : Option Addr) (n cap : Nat) (hn : n = r.b.length) (hnc : n ≤ cap) (w : World) (hrd : RdB w w.heap.size A r.b) :
    Calls Try.prog 40 #[.slice A n cap] w (RedT w r) := by
  have hok := Rk.okL hr
  have hlen := r.len
  have HDC := Lib.hid (decodeR_yes r.b (r.l.map intV) (fun x hx => by
    obtain ⟨y, hy, rfl⟩ := List.mem_map.1 hx
    have := hok y hy
    exact intV_R (by unfold i64ok; omega)) (by rw [List.length_map]; omega) rfl A n cap hn w (by omega) hrd)
  obtain ⟨ls, hls⟩ : ∃ ls, r.l = ls := ⟨_, rfl⟩
  have HRT : Hid (∀ (A : Option Addr) (n cap : Nat), ls.length = n → n ≤ cap → ∀ W : World, RdI W W.heap.size A ls → Calls Try.prog 62 #[.slice A n cap] W (LooksL (.bool true) W)) := Lib.hid fun A n cap h1 h2 W h3 => right13_any r hr A n cap (by rw [hls]; exact h1) h2 W (by rw [hls]; exact h3)
  have HRE : Hid (∀ e w', (∃ v, e = .returned (.tuple #[v, .bool true]) ∧ OwnI w' w.heap.size v ls ∧ Below w.heap.size w w') → RedT w r e w') := Lib.hid fun e w' h => by unfold RedT; rw [hls]; exact h
  rw [hls] at HDC hok hlen
  obtain ⟨N, hN⟩ : ∃ N, ls.length = N := ⟨_, rfl⟩
  have HOK := Lib.hid hok
  have HN := Lib.hid hN
  have hNi : (N : Int) ≤ 3 := by omega
  clear hr hn hnc hrd hok hlen hls hN
  go_enter Try.func40, Try.ntmps40
  go_wp2_with (go_at_call 61; refine HDC.out.mono ?_; rintro e w1 ⟨v1, rfl, ho1, hb1⟩
               obtain ⟨A1, c1, rfl, hc1⟩ := id ho1.2
               rw [List.length_map, HN.out] at ho1 hc1 ⊢
               have HO1 := Lib.hid ho1
               have HB1 := Lib.hid hb1
               have hc1i : (N : Int) ≤ (c1 : Int) := by omega
               clear ho1 hb1 hc1)
  go_loopw [6, 18] (fun v6 v18 wr => RedL w1 ls v6 v18 wr) (fun _ v18 _ => N - (intOf v18).toNat)
  case atStart => exact ⟨0, _, rfl, rfl, Nat.zero_le _, OwnI.nil _ _, Below.refl _ _⟩
  case round =>
    obtain ⟨i, y, rfl, rfl, hi, ho, hb⟩ := hrel
    rw [HN.out] at hi
    have HO := Lib.hid ho
    have HB := Lib.hid hb
    by_cases hlt : i < N
    · have hlti : (i : Int) < (N : Int) := by omega
      obtain ⟨x, hx⟩ : ∃ x, ls[i]? = some x := ⟨_, List.getElem?_eq_getElem (by rw [HN.out]; exact hlt)⟩
      obtain ⟨b, o, hA, y0, y1, y2⟩ := HO1.out.rd.at_ (k := i) (x := intV x) (by rw [List.getElem?_map, hx]; rfl) hb (Nat.le_refl _)
      subst hA
      simp only [intV] at y0 y1 y2
      have hxk := HOK.out x (List.mem_of_getElem? hx)
      have hx0 : ¬ x < 0 := by omega
      have hx1 : decide (1099511627776 < x) = false := by simp; omega
      obtain ⟨BX, hBX⟩ : ∃ BX, BX = Obj.cells #[.int .i64 2, .int .i64 x, .string ⟨#[]⟩] 110 := ⟨_, rfl⟩
      have hb2 := alloc_below wr BX
      have hbx := heap_alloc_new wr BX
      have hb3 := hb2.trans ((alloc_below (wr.alloc BX) (.cells #[.int .i64 x] 3)).mono hb2.size)
      have HB3 := Lib.hid (hb.trans (hb3.mono (Below.size hb)))
      have HO3 := Lib.hid (ho.below hb3)
      have HRD : Hid (RdI ((wr.alloc BX).alloc (.cells #[.int .i64 x] 3)) (wr.heap.size + 1 + 1) (some ⟨wr.heap.size + 1, 0, none⟩) [x]) := Lib.hid (rd_oneAt (wr.alloc BX) x (by simp))
      have HM : Hid ((ls.take i).length + [x].length ≤ 1000000) := Lib.hid (by have := HN.out; simp; omega)
      have HBZ : Hid (w1.heap.size ≤ ((wr.alloc BX).alloc (.cells #[.int .i64 x] 3)).heap.size) := Lib.hid (Nat.le_trans (Below.size hb) hb3.size)
      rw [hBX] at hbx HB3 HO3 HRD HBZ
      obtain ⟨z0, z1, z2⟩ := box3_ hbx
      have HN2 : Hid (∀ v6 w6 v18, v18 = .int .i64 ((i + 1 : Nat) : Int) → OwnI w6 w1.heap.size v6 (ls.take i ++ [x]) → Below w1.heap.size w1 w6 → RedL w1 ls v6 v18 w6) := Lib.hid fun v6 w6 v18 h18 ho6 hb6 => ⟨i + 1, v6, rfl, h18, by rw [HN.out]; exact hlt, by rw [List.take_add_one, hx, Option.toList_some]; exact ho6, hb6⟩
      clear hx hxk hb2 hbx hb3 hBX hi ho hb hlt
      go_wp2_with (refine wpList_appI (xs := ls.take i) (ys := [x]) (B := w1.heap.size) rfl _ _ 22 rfl Try.underlying22 rfl HO3.out rfl rfl HRD.out HM.out HBZ.out ?_
                   intro v6 w6 ho6 hg6
                   have hb6 : Below w1.heap.size w1 w6 := HB3.out.trans (hg6.toBelow HBZ.out HO3.out.ge)
                   have HY := Lib.hid (fun v18 h18 => HN2.out v6 w6 v18 h18 ho6 hb6)
                   clear ho6 hg6 hb6)
      go_roundw
      case rel => first | exact HY.out _ (by go_num) | ((repeat apply Exists.intro); exact ⟨HY.out _ (by go_num), rfl⟩)
      case measure => simp [intOf]; omega
    · have hie : i = N := by omega
      have hlti : ¬ (i : Int) < (N : Int) := by omega
      have htk : ls.take i = ls := List.take_of_length_le (by rw [HN.out]; omega)
      rw [htk] at ho
      obtain ⟨Ay, cy, rfl, hcy⟩ := id ho.2
      rw [HN.out] at ho hcy ⊢
      have HRR := Lib.hid (HRT.out Ay N cy HN.out hcy wr ho.rd)
      have HE : Hid (RedT w r (.returned (.tuple #[.slice Ay N cy, .bool true])) wr) := Lib.hid (HRE.out _ _ ⟨_, rfl, ho.low HB1.out.size, HB1.out.trans (hb.mono HB1.out.size)⟩)
      clear hlt hi hie htk ho hb HO hcy
      go_wp2_with (go_at_call 62; refine HRR.out.mono ?_; rintro e w3 ⟨rfl, rfl⟩)
      refine bodyPost_ret (v := .tuple #[.slice Ay N cy, .bool true]) (by simp [results, Try.results40, go_sem]) rfl ?_
      exact HE.out
end Go.Proofs.Ytogogekmodbdiaa

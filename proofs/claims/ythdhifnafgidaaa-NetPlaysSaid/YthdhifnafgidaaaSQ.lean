/- The document's net: its block, its ways; Find. -/
import Derived.Test.YthdhifnafgidaaaSN
import Derived.Test.YthdhifnafgidaaaZR
import Derived.Test.YthdhifnafgidaaaZG
namespace Go.Proofs.Ythdhifnafgidaaa
open Go.RowKit Go.Maps

/-- cells from a block's beginning -/
def Rd0 (w : World) (A : Option Addr) (cs : List Value) : Prop := cs ≠ [] → ∃ g, A = some ⟨g, 0, none⟩ ∧ g < w.heap.size ∧ ∀ j u, cs[j]? = some u → w.cell? ⟨g, j, none⟩ = some u
/-- no block of numbers -/
def NotI (w : World) (k : Nat) : Prop := ∀ n, w.cell? ⟨k, 0, none⟩ ≠ some (.int .i64 n)
def HeadI (cs : List Value) : Prop := cs ≠ [] → ∃ n, cs[0]? = some (.int .i64 n)
theorem Rd0.only {Q : Nat → Prop} {w w' : World} {A : Option Addr} {cs : List Value} (h : Rd0 w A cs) (hh : HeadI cs) (hO : Only Q w w') (hQ : ∀ k, Q k → NotI w k) : Rd0 w' A cs := fun hn => by
  obtain ⟨g, e, hg, hc⟩ := h hn
  obtain ⟨n, h0⟩ := hh hn
  have hnq : ¬ Q g := fun hq => hQ g hq n (hc 0 _ h0)
  exact ⟨g, e, Nat.lt_of_lt_of_le hg hO.size, fun j u hu => (World.cell?_of_block (hO.block g hg hnq)).trans (hc j u hu)⟩
theorem Rd0.nil (w : World) (A : Option Addr) : Rd0 w A [] := fun h => absurd rfl h
/-- a letter under way, as the document has it -/
structure Wy where
  n : Nat
  x : LtrA
def Wy.cells (y : Wy) : List Value := [.int .i64 (y.n : Int), .int .i64 y.x.l.k, .int .i64 y.x.l.f, .int .i64 y.x.l.t, .int .i64 y.x.l.x, .slice y.x.A y.x.l.ns.length y.x.cap]
def cellsY (ws : List Wy) : List Value := ws.flatMap Wy.cells
theorem cellsY_len (ws : List Wy) : (cellsY ws).length = ws.length * 6 := by
  induction ws with
  | nil => rfl
  | cons a K ih =>
    unfold cellsY at ih ⊢
    rw [List.flatMap_cons, List.length_append, ih, List.length_cons]
    simp only [Wy.cells, List.length_cons, List.length_nil]
    omega
theorem cellsY_app (a b : List Wy) : cellsY (a ++ b) = cellsY a ++ cellsY b := by simp [cellsY]
theorem cellsY_one (ws : List Wy) : ∀ u ∈ cellsY ws, u.oneCell' = true := by
  intro u hu
  simp only [cellsY, Wy.cells, List.mem_flatMap, List.mem_cons, List.not_mem_nil, or_false] at hu
  obtain ⟨a, _, rfl | rfl | rfl | rfl | rfl | rfl⟩ := hu <;> rfl
theorem cellsY_at {ws : List Wy} {j : Nat} {y : Wy} (h : ws[j]? = some y) : (cellsY ws)[j * 6]? = some (.int .i64 (y.n : Int)) ∧ (cellsY ws)[j * 6 + 1]? = some (.int .i64 y.x.l.k) ∧ (cellsY ws)[j * 6 + 2]? = some (.int .i64 y.x.l.f) ∧ (cellsY ws)[j * 6 + 3]? = some (.int .i64 y.x.l.t) ∧ (cellsY ws)[j * 6 + 4]? = some (.int .i64 y.x.l.x) ∧ (cellsY ws)[j * 6 + 5]? = some (.slice y.x.A y.x.l.ns.length y.x.cap) := by
  obtain ⟨h1, h2⟩ := List.getElem?_eq_some_iff.1 h
  have e : ws = ws.take j ++ y :: ws.drop (j + 1) := by rw [← h2, ← List.drop_eq_getElem_cons h1, List.take_append_drop]
  have hl : (cellsY (ws.take j)).length = j * 6 := by rw [cellsY_len, List.length_take]; omega
  rw [e, cellsY_app]
  have hc : cellsY (y :: ws.drop (j + 1)) = .int .i64 (y.n : Int) :: .int .i64 y.x.l.k :: .int .i64 y.x.l.f :: .int .i64 y.x.l.t :: .int .i64 y.x.l.x :: .slice y.x.A y.x.l.ns.length y.x.cap :: cellsY (ws.drop (j + 1)) := rfl
  rw [hc]
  refine ⟨?_, ?_, ?_, ?_, ?_, ?_⟩ <;> (rw [List.getElem?_append_right (by omega), hl]; simp)
theorem cellsY_head (ws : List Wy) : HeadI (cellsY ws) := fun hn => by
  cases ws with
  | nil => exact absurd rfl hn
  | cons y ws => exact ⟨_, rfl⟩
theorem intsZ_head (l : List Int) : HeadI (intsZ l) := fun hn => by
  cases l with
  | nil => exact absurd rfl hn
  | cons y ws => exact ⟨_, rfl⟩
theorem Rd0.ints {w : World} {A : Option Addr} {l : List Int} (h : Rd0 w A (intsZ l)) : RdI w w.heap.size A l := fun hn => by
  obtain ⟨g, e, hg, hc⟩ := h (by cases l with | nil => exact absurd rfl hn | cons y l => simp [intsZ])
  exact ⟨g, 0, e, hg, fun j x hx => by rw [Nat.zero_add]; exact hc j _ (by simp [intsZ, hx])⟩
/-- the document's net in block b -/
structure RfAt (w : World) (b : Nat) (A : Option Addr) (cap : Nat) (ws : List Wy) (s t lo : Nat) : Prop where
  box : w.heap[b]? = some (.cells #[.slice A ws.length cap, .int .i64 (s : Int), .int .i64 (t : Int), .int .i64 (lo : Int)] 28 (0, 0))
  cap : ws.length ≤ cap
  row : Rd0 w A (cellsY ws)
  nod : ∀ y ∈ ws, Rd0 w y.x.A (intsZ y.x.l.ns) ∧ y.x.l.right = true
  few : ws.length ≤ 1000
  most : s ≤ 1000
theorem box4_ {w : World} {b : Nat} {x y z u : Value} {t : TypeId} {fr : Nat × Nat} (h : w.heap[b]? = some (.cells #[x, y, z, u] t fr)) : w.cell? ⟨b, 0, none⟩ = some x ∧ w.cell? ⟨b, 1, none⟩ = some y ∧ w.cell? ⟨b, 2, none⟩ = some z ∧ w.cell? ⟨b, 3, none⟩ = some u := by
  simp [World.cell?, h]
theorem box4_set {w : World} {p : Nat} {x y z u : Value} {t : TypeId} {fr : Nat × Nat} (h : w.heap[p]? = some (.cells #[x, y, z, u] t fr)) (v : Value) :
    (w.setCell ⟨p, 0, none⟩ v).heap[p]? = some (.cells #[v, y, z, u] t fr) ∧ (w.setCell ⟨p, 1, none⟩ v).heap[p]? = some (.cells #[x, v, z, u] t fr) ∧ (w.setCell ⟨p, 2, none⟩ v).heap[p]? = some (.cells #[x, y, v, u] t fr) ∧ (w.setCell ⟨p, 3, none⟩ v).heap[p]? = some (.cells #[x, y, z, v] t fr) := by
  refine ⟨?_, ?_, ?_, ?_⟩ <;> simp [World.setCell, Array.getElem?_modify, h]
theorem RfAt.lt {w : World} {b : Nat} {A : Option Addr} {cap : Nat} {ws : List Wy} {s t lo : Nat} (h : RfAt w b A cap ws s t lo) : b < w.heap.size := (Array.getElem?_eq_some_iff.1 h.box).1
theorem RfAt.notI {w : World} {b : Nat} {A : Option Addr} {cap : Nat} {ws : List Wy} {s t lo : Nat} (h : RfAt w b A cap ws s t lo) : NotI w b := fun n e => by
  rw [(box4_ h.box).1] at e
  cases e
theorem RfAt.only {Q : Nat → Prop} {w w' : World} {b : Nat} {A : Option Addr} {cap : Nat} {ws : List Wy} {s t lo : Nat} (h : RfAt w b A cap ws s t lo) (hO : Only Q w w') (hQ : ∀ k, Q k → NotI w k) (hb : ¬ Q b) : RfAt w' b A cap ws s t lo :=
  ⟨(hO.block b h.lt hb).trans h.box, h.cap, h.row.only (cellsY_head ws) hO hQ, fun y hy => ⟨(h.nod y hy).1.only (intsZ_head _) hO hQ, (h.nod y hy).2⟩, h.few, h.most⟩
theorem RfAt.below {w w' : World} {b : Nat} {A : Option Addr} {cap : Nat} {ws : List Wy} {s t lo : Nat} (h : RfAt w b A cap ws s t lo) (hb : Below w.heap.size w w') : RfAt w' b A cap ws s t lo :=
  h.only (Q := fun _ => False) (Only.of_below hb) (fun _ h => h.elim) fun h => h
/-- the net's blocks hold no numbers at their beginning -/
theorem NetAt.notI {w : World} {p : Nat} {m : Option Nat} {L : List En} {s t : Nat} (h : NetAt w p m L s t) : ∀ k, NK p m k → NotI w k := fun k hk n e => by
  rcases hk with rfl | hk
  · rw [h.cells.1] at e; cases e
  · rcases h.map with ⟨h1, _⟩ | ⟨q, D, h1, h2, _⟩
    · rw [h1] at hk; cases hk
    · rw [h1] at hk
      injection hk with hk
      obtain ⟨es, cl, hb, _⟩ := h2
      rw [hk] at e
      simp [World.cell?, hb] at e
/-- the document's block is none of the net's -/
theorem RfAt.off {w : World} {b : Nat} {A : Option Addr} {cap : Nat} {ws : List Wy} {s t lo : Nat} (h : RfAt w b A cap ws s t lo) {p : Nat} {m : Option Nat} {L : List En} {s' t' : Nat} (hN : NetAt w p m L s' t') : ¬ NK p m b ∧ ∀ e ∈ L, e.g ≠ b := by
  have c0 := (box4_ h.box).1
  refine ⟨fun hk => ?_, fun e he hx => ?_⟩
  · rcases hk with rfl | hk
    · rw [hN.cells.1] at c0; cases c0
    · rcases hN.map with ⟨h1, _⟩ | ⟨q, D, h1, h2, _⟩
      · rw [h1] at hk; cases hk
      · rw [h1] at hk
        injection hk with hk
        obtain ⟨es, cl, hb, _⟩ := h2
        rw [hk] at c0
        simp [World.cell?, hb] at c0
  · have hp := (Ltr.bytes_len (hN.right e he)).2
    obtain ⟨c, r, hcr⟩ : ∃ c r, e.l.bytes = c :: r := by
      cases hb : e.l.bytes with
      | nil => rw [hb] at hp; simp at hp
      | cons c r => exact ⟨c, r, rfl⟩
    obtain ⟨ad, h1, h2, h3⟩ := (hN.code e he).1 (by rw [hcr]; simp)
    injection h1 with h1
    subst h1
    have h4 := h3 0 c (by rw [hcr]; rfl)
    rw [Addr.add_lit, Nat.zero_add, hx, c0] at h4
    cases h4
/-- the place of a number -/
def idxW (ws : List Wy) (x : Int) : Option Nat := ws.findIdx? fun y => decide ((y.n : Int) = x)
def idxV (ws : List Wy) (x : Int) : Int := (idxW ws x).elim (-1) fun i => (i : Int)
/-- at the head of Find's loop -/
def FdL (w : World) (ws : List Wy) (x : Int) (v5 : Value) (wr : World) : Prop := ∃ i : Nat, v5 = .int .i64 (i : Int) ∧ i ≤ ws.length ∧ (∀ j y, j < i → ws[j]? = some y → (y.n : Int) ≠ x) ∧ wr = w
theorem idxW_at {ws : List Wy} {x : Int} {i : Nat} {y : Wy} (h : ws[i]? = some y) (hx : (y.n : Int) = x) (hb : ∀ j y, j < i → ws[j]? = some y → (y.n : Int) ≠ x) : idxW ws x = some i := by
  unfold idxW
  obtain ⟨h1, h2⟩ := List.getElem?_eq_some_iff.1 h
  rw [List.findIdx?_eq_some_iff_getElem]
  refine ⟨h1, by rw [h2]; simpa using hx, fun j hj => ?_⟩
  have := hb j ws[j] hj (List.getElem?_eq_getElem (by omega))
  simpa using this
theorem idxW_none {ws : List Wy} {x : Int} (hb : ∀ j y, j < ws.length → ws[j]? = some y → (y.n : Int) ≠ x) : idxW ws x = none := by
  unfold idxW
  rw [List.findIdx?_eq_none_iff]
  intro y hy
  obtain ⟨j, hj⟩ := List.mem_iff_getElem?.1 hy
  have := hb j y (List.getElem?_eq_some_iff.1 hj).1 hj
  simpa using this
set_option maxRecDepth 100000 in
set_option maxHeartbeats 4000000 in
theorem rfind_any {w : World} {b : Nat} {A : Option Addr} {cap : Nat} {ws : List Wy} {s t lo : Nat} (h : RfAt w b A cap ws s t lo) (x : Int) : Calls Try.prog 12 #[.pointer (some ⟨b, 0, none⟩), .int .i64 x] w (LooksL (.int .i64 (idxV ws x)) w) := by
  obtain ⟨c0, _⟩ := box4_ h.box
  have HR := Lib.hid h.row
  have hfew := h.few
  obtain ⟨n, hn⟩ : ∃ n, ws.length = n := ⟨_, rfl⟩
  have HN := Lib.hid hn
  rw [hn] at c0 hfew
  have hni : (n : Int) ≤ 1000 := by omega
  have HST : Hid (FdL w ws x (.int .i64 0) w) := Lib.hid ⟨0, rfl, Nat.zero_le _, fun j y hj => by omega, rfl⟩
  clear h hn
  go_enter Try.func12, Try.ntmps12
  go_wp2_with fail
  go_loopw [5] (fun v5 wr => FdL w ws x v5 wr) (fun v5 _ => n - (intOf v5).toNat)
  case atStart => exact HST.out
  case round =>
    obtain ⟨i, rfl, hi, hu, rfl⟩ := hrel
    rw [HN.out] at hi
    have HU := Lib.hid hu
    have hii : (i : Int) ≤ 1000 := by omega
    clear hu
    by_cases hlt : i < n
    · have hlti : (i : Int) < (n : Int) := by omega
      obtain ⟨y, hy⟩ : ∃ y, ws[i]? = some y := ⟨_, List.getElem?_eq_getElem (by rw [HN.out]; exact hlt)⟩
      have HY := Lib.hid hy
      obtain ⟨g, hA, _, hc⟩ := HR.out (fun e => by have := (cellsY_at hy).1; rw [e] at this; simp at this)
      subst hA
      have hcell := hc _ _ (cellsY_at hy).1
      clear hy hc
      cases hx : ((y.n : Int) == x)
      · have HZ : Hid (∀ v5, v5 = .int .i64 ((i + 1 : Nat) : Int) → FdL wr ws x v5 wr) := Lib.hid fun v5 h5 => ⟨i + 1, h5, by rw [HN.out]; exact hlt, fun j z hj hz => by
          by_cases hji : j = i
          · subst hji
            rw [HY.out] at hz
            injection hz with hz
            subst hz
            simpa using hx
          · exact HU.out j z (by omega) hz, rfl⟩
        go_wp2_with fail
        go_roundw
        case rel => first | exact HZ.out _ (by go_num) | ((repeat apply Exists.intro); exact ⟨HZ.out _ (by go_num), rfl⟩)
        case measure => simp [intOf]; omega
      · have HZ : Hid (idxV ws x = (i : Int)) := Lib.hid (by unfold idxV; rw [idxW_at HY.out (by simpa using hx) HU.out]; rfl)
        have hxe : (y.n : Int) = x := by simpa using hx
        subst hxe
        go_wp2_with fail
        go_ret
        exact ⟨by rw [HZ.out]; rfl, rfl⟩
    · have hie : i = n := by omega
      subst hie
      have hlti : ¬ (i : Int) < (i : Int) := by omega
      have HZ : Hid (idxV ws x = -1) := Lib.hid (by unfold idxV; rw [idxW_none fun j y hj hy => HU.out j y (by rw [← HN.out]; exact hj) hy]; rfl)
      go_wp2_with fail
      go_ret
      exact ⟨by rw [HZ.out]; rfl, rfl⟩
end Go.Proofs.Ythdhifnafgidaaa

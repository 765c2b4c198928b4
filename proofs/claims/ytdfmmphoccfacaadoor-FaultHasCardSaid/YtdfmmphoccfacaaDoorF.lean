/- The methods Is of a fault and of joined errors: a search through shared joined errors goes into each once. -/
import Derived.Test.YtdfmmphoccfacaaDoorE
namespace Go.Proofs.YtdfmmphoccfacaaDoor
open Go.RowKit Go.Extern.Stop Go.Stop Go.Extern

theorem to65_65 (v : Value) (x : TypeId) (w : World) : (Instr.typeAssert (.iface 65 v) x 65 true).run Tryd.prog w = .ok (.tuple #[v, .bool true]) w := by kernel_rfl

theorem fIs (b q : Nat) (c k : Int) (w : World) (h1 : w.cell? ⟨b, 0, none⟩ = some (.int .i64 c)) (h2 : w.cell? ⟨q, 0, none⟩ = some (.int .i64 k)) :
    Calls Tryd.prog 59 #[.pointer (some ⟨b, 0, none⟩), .iface 65 (.pointer (some ⟨q, 0, none⟩))] w fun e w' => e = .returned (.bool (decide (k = c))) ∧ ∃ n, w' = w.drewN n := by
  have ha := to65_65
  go_enter Tryd.func59, Tryd.ntmps59
  go_wp2
  go_quiet (fail)
  go_wp2
  go_ret
  exact ⟨rfl, _, rfl⟩

/-! ### joined errors inside a tree -/
def Tree.subs : Tree → List Tree
  | .nil => []
  | .fault _ _ _ u => u.subs
  | .join b l r => .join b l r :: (l.subs ++ r.subs)
def Tree.blk : Tree → Nat
  | .nil => 0
  | .fault b _ _ _ => b
  | .join b _ _ => b
theorem Tree.subs_join : ∀ {x y : Tree}, y ∈ x.subs → ∃ b l r, y = .join b l r
  | .nil, _, h => by simp [Tree.subs] at h
  | .fault _ _ _ u, y, h => Tree.subs_join (x := u) h
  | .join b l r, y, h => by
    simp only [Tree.subs, List.mem_cons, List.mem_append] at h
    rcases h with rfl | h | h
    · exact ⟨b, l, r, rfl⟩
    · exact Tree.subs_join h
    · exact Tree.subs_join h
theorem Tree.subs_codes : ∀ {x y : Tree}, y ∈ x.subs → ∀ c ∈ y.codes, c ∈ x.codes
  | .nil, _, h => by simp [Tree.subs] at h
  | .fault _ _ _ u, y, h => fun c hc => List.mem_cons_of_mem _ (Tree.subs_codes (x := u) h c hc)
  | .join b l r, y, h => fun c hc => by
    simp only [Tree.subs, List.mem_cons, List.mem_append] at h
    rcases h with rfl | h | h
    · exact hc
    · exact List.mem_append.2 (.inl (Tree.subs_codes h c hc))
    · exact List.mem_append.2 (.inr (Tree.subs_codes h c hc))
theorem Rep.subs {w : World} : ∀ {x y : Tree}, Rep w x → y ∈ x.subs → Rep w y
  | .nil, _, _, h => by simp [Tree.subs] at h
  | .fault _ _ _ u, y, hR, h => Rep.subs (x := u) hR.2.2.2.2.2 h
  | .join b l r, y, hR, h => by
    simp only [Tree.subs, List.mem_cons, List.mem_append] at h
    rcases h with rfl | h | h
    · exact hR
    · exact Rep.subs hR.2.2.2.2.2.1 h
    · exact Rep.subs hR.2.2.2.2.2.2 h
theorem Rep.subs_lt {w : World} : ∀ {x y : Tree}, Rep w x → y ∈ x.subs → y.blk < x.bound
  | .nil, _, _, h => by simp [Tree.subs] at h
  | .fault b _ _ u, y, hR, h => by
    have := Rep.subs_lt (x := u) hR.2.2.2.2.2 h
    have := hR.2.2.2.2.1
    simp only [Tree.bound]; omega
  | .join b l r, y, hR, h => by
    obtain ⟨h1, h2, h3, h4, h5, h6, h7⟩ := hR
    simp only [Tree.subs, List.mem_cons, List.mem_append] at h
    rcases h with rfl | h | h
    · exact Nat.lt_succ_self _
    · have := Rep.subs_lt h6 h; simp only [Tree.bound]; omega
    · have := Rep.subs_lt h7 h; simp only [Tree.bound]; omega
theorem Rep.det {w : World} : ∀ {x y : Tree}, Rep w x → Rep w y → x.val = y.val → x = y
  | .nil, .nil, _, _, _ => rfl
  | .nil, .fault _ _ _ _, _, _, h => by simp [Tree.val] at h
  | .nil, .join _ _ _, _, _, h => by simp [Tree.val] at h
  | .fault _ _ _ _, .nil, _, _, h => by simp [Tree.val] at h
  | .fault _ _ _ _, .join _ _ _, _, _, h => by simp [Tree.val] at h
  | .join _ _ _, .nil, _, _, h => by simp [Tree.val] at h
  | .join _ _ _, .fault _ _ _ _, _, _, h => by simp [Tree.val] at h
  | .fault b c p u, .fault b' c' p' u', hx, hy, h => by
    simp [Tree.val] at h
    subst h
    obtain ⟨h1, _, _, _, _, h6⟩ := hx
    obtain ⟨k1, _, _, _, _, k6⟩ := hy
    rw [h1] at k1
    simp at k1
    obtain ⟨e1, e2, e3, _⟩ := k1
    rw [e1, e2, Rep.det h6 k6 e3]
  | .join b l r, .join b' l' r', hx, hy, h => by
    simp [Tree.val] at h
    subst h
    obtain ⟨h1, _, _, _, _, h6, h7⟩ := hx
    obtain ⟨k1, _, _, _, _, k6, k7⟩ := hy
    rw [h1] at k1
    simp at k1
    obtain ⟨e1, e2, _⟩ := k1
    rw [Rep.det h6 k6 e1, Rep.det h7 k7 e2]
theorem Rep.kept {w w' : World} (hk : ∀ (b : Nat) (c : Array Value) (t : TypeId), w.heap[b]? = some (.cells c t (0, 0)) → w'.heap[b]? = w.heap[b]?) : ∀ {x : Tree}, Rep w x → Rep w' x
  | .nil, _ => trivial
  | .fault b _ _ _, ⟨h1, h2, h3, h4, h5, h6⟩ => ⟨(hk b _ _ h1).trans h1, h2, h3, h4, h5, Rep.kept hk h6⟩
  | .join b _ _, ⟨h1, h2, h3, h4, h5, h6, h7⟩ => ⟨(hk b _ _ h1).trans h1, h2, h3, h4, h5, Rep.kept hk h6, Rep.kept hk h7⟩

/-- what was visited does not hold the code -/
def Clear (S : List Nat) (k : Int) (x : Tree) : Prop := ∀ y ∈ x.subs, y.blk ∈ S → k ∉ y.codes

theorem Clear.grow {w : World} {S : List Nat} {k : Int} {l : Tree} {b : Nat} (h : Clear S k l) (hR : Rep w l) (hb : l.bound ≤ b) : Clear (S ++ [b]) k l := by
  intro y hy hm
  rcases List.mem_append.1 hm with hm | hm
  · exact h y hy hm
  · have := hR.subs_lt hy
    simp at hm; omega

theorem Clear.next {w : World} {S S2 : List Nat} {k : Int} {l r : Tree} {b : Nat} (hr : Clear S k r) (hL : Rep w l) (hR : Rep w r) (hb : r.bound ≤ b) (hk : k ∉ l.codes)
    (hS : ∀ c ∈ S2, c ∈ S ++ [b] ∨ c ∈ l.subs.map Tree.blk) : Clear S2 k r := by
  intro y hy hm
  rcases hS _ hm with hm | hm
  · exact hr.grow hR hb y hy hm
  · obtain ⟨z, hz, he⟩ := List.mem_map.1 hm
    obtain ⟨b1, l1, r1, rfl⟩ := Tree.subs_join hy
    obtain ⟨b2, l2, r2, rfl⟩ := Tree.subs_join hz
    simp only [Tree.blk] at he
    subst he
    have := Rep.det (hL.subs hz) (hR.subs hy) rfl
    rw [← this]
    exact fun hc => hk (Tree.subs_codes hz k hc)

/-- WHAT A SEARCH LEAVES -/
def Sought (w : World) (m : Nat) (k : Int) (S : List Nat) (x : Tree) (r : Bool) (w' : World) : Prop :=
  ∃ S', (r = true ↔ k ∈ x.codes) ∧ PtrMap w' m S' ∧ w.grownBy w' (some m) ∧ (r = false → ∀ c ∈ S', c ∈ S ∨ c ∈ x.subs.map Tree.blk)

/-- WHAT A SEARCH NEEDS -/
structure Seeks (w : World) (q m : Nat) (k : Int) (S : List Nat) (x : Tree) : Prop where
  rep : Rep w x
  nn : x ≠ .nil
  code : w.cell? ⟨q, 0, none⟩ = some (.int .i64 k)
  been : w.cell? ⟨q, 1, none⟩ = some (.map (some m))
  set : PtrMap w m S
  clear : Clear S k x
  query : ∃ c t, w.heap[q]? = some (.cells c t (0, 0))

theorem grown_cells {w w' : World} {m : Nat} {S : List Nat} (hm : PtrMap w m S) (hg : w.grownBy w' (some m)) {b : Nat} {c : Array Value} {t : TypeId} (h : w.heap[b]? = some (.cells c t (0, 0))) : w'.heap[b]? = w.heap[b]? := by
  obtain ⟨es, clock, hm, _⟩ := hm
  exact hg.block b (Array.getElem?_eq_some_iff.1 h).1 (fun e => by injection e with e; rw [e, hm] at h; simp at h)

theorem Seeks.later {w w' : World} {q m : Nat} {k : Int} {S S' : List Nat} {x y : Tree} (h : Seeks w q m k S x) (hg : w.grownBy w' (some m)) (hm : PtrMap w' m S') (hy : Rep w y) (hn : y ≠ .nil) (hc : Clear S' k y) : Seeks w' q m k S' y := by
  obtain ⟨c, t, hq⟩ := h.query
  have e := grown_cells h.set hg hq
  refine ⟨hy.kept fun b c t hb => grown_cells h.set hg hb, hn, ?_, ?_, hm, hc, c, t, e.trans hq⟩
  · rw [World.cell?_of_block (w := w) e]; exact h.code
  · rw [World.cell?_of_block (w := w) e]; exact h.been

/-! ### (*joined).Is -/
theorem jIs_old (b q : Nat) (w w1 : World)
    (HE : Hid (Calls Tryd.prog 68 #[.pointer (some ⟨q, 0, none⟩), .pointer (some ⟨b, 0, none⟩)] w fun e w' => e = .returned (.bool false) ∧ w' = w1)) :
    Calls Tryd.prog 65 #[.pointer (some ⟨b, 0, none⟩), .iface 65 (.pointer (some ⟨q, 0, none⟩))] w fun e w' => e = .returned (.bool false) ∧ w' = w1 := by
  have ha := to65_65
  go_enter Tryd.func65, Tryd.ntmps65
  go_wp2_with (go_at_call 68; refine HE.out.mono ?_; rintro e w' ⟨rfl, rfl⟩)
  go_ret
  exact ⟨rfl, rfl⟩

theorem jIs_new (b q : Nat) (l r : Value) (w w1 : World) (R : Bool → World → Prop) (M : World → Prop)
    (HE : Hid (Calls Tryd.prog 68 #[.pointer (some ⟨q, 0, none⟩), .pointer (some ⟨b, 0, none⟩)] w fun e w' => e = .returned (.bool true) ∧ w' = w1))
    (h0 : w1.cell? ⟨b, 0, none⟩ = some l)
    (H1 : Hid (Calls Tryd.prog 31 #[l, .iface 65 (.pointer (some ⟨q, 0, none⟩))] w1 fun e w2 => (e = .returned (.bool true) ∧ R true w2) ∨ (e = .returned (.bool false) ∧ M w2)))
    (H2 : Hid (∀ w2, M w2 → w2.cell? ⟨b, 1, none⟩ = some r ∧ Calls Tryd.prog 31 #[r, .iface 65 (.pointer (some ⟨q, 0, none⟩))] w2 fun e w3 => ∃ x, e = .returned (.bool x) ∧ R x w3)) :
    Calls Tryd.prog 65 #[.pointer (some ⟨b, 0, none⟩), .iface 65 (.pointer (some ⟨q, 0, none⟩))] w fun e w' => ∃ x, e = .returned (.bool x) ∧ R x w' := by
  have ha := to65_65
  have HQ : Hid (∀ x w', R x w' → Hid (∃ y, Ending.returned (.bool x) = .returned (.bool y) ∧ R y w')) := fun x w' h => ⟨x, rfl, h⟩
  go_enter Tryd.func65, Tryd.ntmps65
  go_wp2_with (first | (go_at_call 68; refine HE.out.mono ?_; rintro e w' ⟨rfl, rfl⟩))
  refine H1.out.mono ?_
  rintro e w2 (⟨rfl, h⟩ | ⟨rfl, h⟩)
  · have HW := HQ.out _ _ h
    clear h H1 H2
    go_wp2_with fail
    go_ret
    exact HW.out
  · obtain ⟨h1, h2⟩ := H2.out _ h
    have HC := Lib.hid h2
    clear h h2 H1 H2
    go_wp2_with (go_at_call 31; refine HC.out.mono ?_; rintro e w3 ⟨x, rfl, h⟩; have HW := HQ.out _ _ h; clear h)
    go_ret
    exact HW.out
end Go.Proofs.YtdfmmphoccfacaaDoor

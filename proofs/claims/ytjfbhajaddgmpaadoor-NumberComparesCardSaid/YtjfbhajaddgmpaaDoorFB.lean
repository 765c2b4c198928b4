/- Codes and Places answer a tree's codes and places in order, in new memory, for every tree that lies in memory (at most 1000000 codes). -/
import Derived.Test.YtjfbhajaddgmpaaDoorFA
import Derived.Deep.RegionHeld3
import Derived.Deep.AppendLies
import Derived.Deep.RegionLaw
namespace Go.Proofs.YtjfbhajaddgmpaaDoor
open Go.RowKit Go.Extern.Stop Go.Stop Go.Extern

theorem info23 : (Tryd.prog.info? 31).map (fun i => (i.zero, i.size, i.bytes)) = some (some (.int .i64 0), 1, 8) := by kernel_rfl

/-- behind one step of a visit -/
def Emitted (ts te : TypeId) (B c n : Nat) (xs : List Value) (w : World) : Ending → World → Prop := fun e w' =>
  e = .returned (.tuple #[]) ∧ ∃ v, w'.heap[c]? = some (.cells #[v] ts (0, 0)) ∧ w'.ownsRow B te 1 v n xs ∧ v.ownBlock ≠ some c ∧ Below B w w'

theorem heap_setCell_own {w : World} {c : Nat} {v : Value} {t : TypeId} (h : w.heap[c]? = some (.cells #[v] t (0, 0))) (u : Value) : (w.setCell ⟨c, 0, none⟩ u).heap[c]? = some (.cells #[u] t (0, 0)) := by
  simp [World.setCell, Array.getElem?_modify, h]

theorem grownBy_setCellF (w : World) (a : Addr) (u : Value) : w.grownBy (w.setCell a u) (some a.block) :=
  ⟨rfl, rfl, rfl, by simp [World.setCell], fun k _ hne => Below.heap_setCell _ _ _ _ (fun e => hne (by rw [e]))⟩

theorem emitted_of {ts te : TypeId} {B c n : Nat} {v : Value} {xs news : List Value} {w w1 : World} {o : Obj} {gg cap : Nat} (hc : w.heap[c]? = some (.cells #[v] ts (0, 0))) (hB : B ≤ w.heap.size) (hcB : B ≤ c)
    (hown : w.ownsRow B te 1 v n xs) (hne : v.ownBlock ≠ some c)
    (hown1 : w1.ownsRow B te 1 (.slice (some ⟨gg, 0, none⟩) (n + 1) cap) (n + 1) (xs ++ news)) (hgrow : (w.alloc o).drew.grownBy w1 v.ownBlock) (hat : v.ownBlock = some gg ∨ gg = w.heap.size + 1) :
    Emitted ts te B c (n + 1) (xs ++ news) w (.returned (.tuple #[])) (w1.setCell ⟨c, 0, none⟩ (.slice (some ⟨gg, 0, none⟩) (n + 1) cap)) := by
  have lc : c < w.heap.size := (Array.getElem?_eq_some_iff.1 hc).1
  have hg : gg ≠ c := by
    rcases hat with h | h
    · rw [h] at hne; simpa using hne
    · omega
  have hb1 : w1.heap[c]? = some (.cells #[v] ts (0, 0)) := by
    rw [hgrow.block c (by show c < (w.alloc o).heap.size; simp; omega) (Ne.symm hne)]
    show (w.alloc o).heap[c]? = _
    rw [Below.heap_alloc _ _ _ lc]; exact hc
  refine ⟨rfl, _, heap_setCell_own hb1 _, hown1.kept (grownBy_setCellF _ _ _) (.inr (by simpa [Value.ownBlock] using hg)), by simpa [Value.ownBlock] using hg, ?_⟩
  refine (Below.grown (w := (w.alloc o).drew) ((Below.refl B w).alloc hB o).drew hgrow (by show B ≤ (w.alloc o).heap.size; simp; omega) (fun k hk => (hown.lt k hk).1)).setCell hcB _

set_option maxHeartbeats 1000000 in
theorem codes1 (b : Nat) (code p d : Int) (u : Value) (c B n : Nat) (v : Value) (xs : List Value) (w : World)
    (hb : w.heap[b]? = some (.cells #[.int .i64 code, .int .i64 p, u, .int .i64 d] 74 (0, 0))) (hc : w.heap[c]? = some (.cells #[v] 62 (0, 0))) (hB : B ≤ w.heap.size) (hbB : b < B) (hcB : B ≤ c)
    (hown : w.ownsRow B 31 1 v n xs) (hne : v.ownBlock ≠ some c) (hn : n < 1000000) :
    Calls Tryd.prog 46 #[.pointer (some ⟨b, 0, none⟩), .pointer (some ⟨c, 0, none⟩)] w (Emitted 62 31 B c (n + 1) (xs ++ [.int .i64 code]) w) := by
  obtain ⟨i0, hi0, hz0, hz1, hz2⟩ := info_parts info23
  have lb : b < w.heap.size := by omega
  have lc : c < w.heap.size := (Array.getElem?_eq_some_iff.1 hc).1
  have h1 : w.cell? ⟨b, 0, none⟩ = some (.int .i64 code) := by simp [World.cell?, hb]
  have h2 : w.cell? ⟨c, 0, none⟩ = some v := by simp [World.cell?, hc]
  have h3 : w.frozen? ⟨c, 0, none⟩ = false := by simp [World.frozen?, hc]
  have h4 : (w.alloc (.cells #[.int .i64 code] 31)).frozen? ⟨c, 0, none⟩ = false := by rw [World.frozen?_alloc_old _ _ _ (by simp; omega)]; exact h3
  have h5 : (w.alloc (.cells #[.int .i64 code] 31)).cell? ⟨c, 0, none⟩ = some v := by rw [World.cell?_alloc_past _ _ _ (by simpa using lc)]; exact h2
  have HC := Lib.hid hc
  have hbo : v.ownBlock ≠ some b := fun e => by have := hown.lt b e; omega
  clear hb hc
  go_enter Tryd.func46, Tryd.ntmps46
  go_wp2_with fail
  go_region_law
    ((refine step_append_lies _ (by rfl) _ _ _ (by rfl) B 31 i0 _ 1 8 Tryd.underlying62 hi0 hz0 hz1 hz2 rfl (by omega) v n xs (by rfl) ((hown.alloc _).drew)
        ⟨w.heap.size, 0, none⟩ 1 1 [.int .i64 code] (by rfl) (by rfl) (World.news_of_block (cs := #[.int .i64 code]) (t := 31) (fr := (0, 0)) (heap_alloc_new w _)) (by simp [Value.oneCell'])
        (by omega) (by unfold maxLen; omega) (by omega) (by simp; omega) (w.heap.size + 1) (by simp) ?_; intro gg cap w1 hown1 hgrow hat hlt; have q1 : w1.cell? ⟨c, 0, none⟩ = some v := by rw [hgrow.cell_far _ (by simp; omega) (Ne.symm hne)]; exact h5
      have q2 : w1.frozen? ⟨c, 0, none⟩ = false := by rw [hgrow.frozen_far _ (by simp; omega) (Ne.symm hne)]; exact h4))
  all_goals
    go_end0
    exact emitted_of HC.out hB hcB hown hne hown1 hgrow hat

theorem Emitted.step {ts te : TypeId} {B c n m : Nat} {xs ys : List Value} {w w1 w2 : World} {e1 e2 : Ending} (h1 : Emitted ts te B c n xs w e1 w1) (h2 : Emitted ts te B c m ys w1 e2 w2) : Emitted ts te B c m ys w e2 w2 := by
  obtain ⟨_, v1, _, _, _, b1⟩ := h1
  obtain ⟨r, v2, a2, o2, n2, b2⟩ := h2
  exact ⟨r, v2, a2, o2, n2, b1.trans b2⟩

theorem to55_nil (x : TypeId) (w : World) : (Instr.typeAssert .nilIface x 69 true).run Tryd.prog w = .ok (.tuple #[.pointer none, .bool false]) w := by kernel_rfl
theorem to69_nil (x : TypeId) (w : World) : (Instr.typeAssert .nilIface x 90 true).run Tryd.prog w = .ok (.tuple #[.pointer none, .bool false]) w := by kernel_rfl
theorem visit_nil (f : Value) (w : World) : Calls Tryd.prog 45 #[.nilIface, f] w fun e w' => e = .returned (.tuple #[]) ∧ w = w' := by
  have h1 := to55_nil
  have h2 := to69_nil
  go_enter Tryd.func45, Tryd.ntmps45
  go_wp2_with fail
  go_end0
  exact ⟨rfl, rfl⟩
theorem to55_55 (v : Value) (x : TypeId) (w : World) : (Instr.typeAssert (.iface 69 v) x 69 true).run Tryd.prog w = .ok (.tuple #[v, .bool true]) w := by kernel_rfl
theorem to55_69 (v : Value) (x : TypeId) (w : World) : (Instr.typeAssert (.iface 90 v) x 69 true).run Tryd.prog w = .ok (.tuple #[.pointer none, .bool false]) w := by kernel_rfl
theorem to69_69 (v : Value) (x : TypeId) (w : World) : (Instr.typeAssert (.iface 90 v) x 90 true).run Tryd.prog w = .ok (.tuple #[v, .bool true]) w := by kernel_rfl

theorem visit_fault_core26 (b c : Nat) (u : Value) (w : World) (R1 R2 : Ending → World → Prop)
    (HC : Hid (Calls Tryd.prog 46 #[.pointer (some ⟨b, 0, none⟩), .pointer (some ⟨c, 0, none⟩)] w R1))
    (HV : Hid (∀ e w1, R1 e w1 → e = .returned (.tuple #[]) ∧ w1.cell? ⟨b, 2, none⟩ = some u ∧ Calls Tryd.prog 45 #[u, .func (.func 46) #[] #[.pointer (some ⟨c, 0, none⟩)]] w1 fun e w2 => e = .returned (.tuple #[]) ∧ R2 e w2)) :
    Calls Tryd.prog 45 #[.iface 69 (.pointer (some ⟨b, 0, none⟩)), .func (.func 46) #[] #[.pointer (some ⟨c, 0, none⟩)]] w R2 := by
  have h1 := to55_55
  go_enter Tryd.func45, Tryd.ntmps45
  go_wp2_with (first
    | (go_at_call 46; refine HC.out.mono ?_; intro e w1 hr; obtain ⟨he, hcell, hv⟩ := HV.out _ _ hr; subst he; have HW := Lib.hid hv; clear hv hr)
    | (go_at_call 45; refine HW.out.mono ?_; intro e w2 hr; obtain ⟨he, hr2⟩ := hr; subst he; have HZ := Lib.hid hr2; clear hr2))
  go_end0
  exact HZ.out

theorem visit_join_core (K b c : Nat) (l r : Value) (w : World) (R1 R2 : Ending → World → Prop) (hl : w.cell? ⟨b, 0, none⟩ = some l)
    (HC : Hid (Calls Tryd.prog 45 #[l, .func (.func K) #[] #[.pointer (some ⟨c, 0, none⟩)]] w R1))
    (HV : Hid (∀ e w1, R1 e w1 → e = .returned (.tuple #[]) ∧ w1.cell? ⟨b, 1, none⟩ = some r ∧ Calls Tryd.prog 45 #[r, .func (.func K) #[] #[.pointer (some ⟨c, 0, none⟩)]] w1 fun e w2 => e = .returned (.tuple #[]) ∧ R2 e w2)) :
    Calls Tryd.prog 45 #[.iface 90 (.pointer (some ⟨b, 0, none⟩)), .func (.func K) #[] #[.pointer (some ⟨c, 0, none⟩)]] w R2 := by
  have h1 := to55_69
  have h2 := to69_69
  go_enter Tryd.func45, Tryd.ntmps45
  go_wp2_with (first
    | (go_at_call 45; refine HC.out.mono ?_; intro e w1 hr; obtain ⟨he, hcell, hv⟩ := HV.out _ _ hr; subst he; have HW := Lib.hid hv; clear hv hr HC)
    | (go_at_call 45; refine HW.out.mono ?_; intro e w2 hr; obtain ⟨he, hr2⟩ := hr; subst he; have HZ := Lib.hid hr2; clear hr2))
  go_end0
  exact HZ.out

def vals (l : List Int) : List Value := l.map (Value.int .i64)

set_option maxHeartbeats 1000000 in
theorem visit_codes (B c : Nat) (hcB : B ≤ c) : ∀ (t : Tree) (n : Nat) (v : Value) (xs : List Value) (w : World), Rep w t → t.bound ≤ B → B ≤ w.heap.size → w.heap[c]? = some (.cells #[v] 62 (0, 0)) → w.ownsRow B 31 1 v n xs → v.ownBlock ≠ some c → n + t.codes.length ≤ 1000000 →
    Calls Tryd.prog 45 #[t.val, .func (.func 46) #[] #[.pointer (some ⟨c, 0, none⟩)]] w (Emitted 62 31 B c (n + t.codes.length) (xs ++ vals t.codes) w)
  | .nil, n, v, xs, w, _, _, hB, hc, hown, hne, _ => by
    refine (visit_nil _ _).mono ?_
    rintro e w' ⟨rfl, rfl⟩
    exact ⟨rfl, v, hc, by simpa [vals, Tree.codes] using hown, hne, Below.refl _ _⟩
  | .fault b code p u, n, v, xs, w, hR, hb, hB, hc, hown, hne, hn => by
    obtain ⟨h1, _, _, _, h5, h6⟩ := hR
    simp only [Tree.codes, List.length_cons] at hn
    have hbb : b + 1 ≤ B := hb
    refine visit_fault_core26 b c u.val w _ _ (codes1 b code p _ _ c B n v xs w h1 hc hB hb hcB hown hne (by omega)) ?_
    rintro e w1 hr
    have hr' := hr
    obtain ⟨rfl, v1, hc1, hown1, hne1, hb1⟩ := hr
    refine ⟨rfl, ?_, ?_⟩
    · rw [hb1.cell (p := ⟨b, 2, none⟩) hb]; simp [World.cell?, h1]
    · refine (visit_codes B c hcB u (n + 1) v1 _ w1 (h6.keep hb1.block (by omega)) (by omega) (Nat.le_trans hB hb1.size) hc1 hown1 hne1 (by omega)).mono ?_
      intro e w2 h2
      refine ⟨h2.1, ?_⟩
      have := hr'.step h2
      simpa [Tree.codes, vals, Nat.add_assoc, Nat.add_comm] using this
  | .join b l r, n, v, xs, w, hR, hb, hB, hc, hown, hne, hn => by
    obtain ⟨h1, _, _, h4, h5, h6, h7⟩ := hR
    simp only [Tree.codes, List.length_append] at hn
    have hbb : b + 1 ≤ B := hb
    refine visit_join_core 46 b c l.val r.val w _ _ (by simp [World.cell?, h1]) (visit_codes B c hcB l n v xs w h6 (by omega) hB hc hown hne (by omega)) ?_
    rintro e w1 hr
    have hr' := hr
    obtain ⟨rfl, v1, hc1, hown1, hne1, hb1⟩ := hr
    refine ⟨rfl, ?_, ?_⟩
    · rw [hb1.cell (p := ⟨b, 1, none⟩) hb]; simp [World.cell?, h1]
    · refine (visit_codes B c hcB r _ v1 _ w1 (h7.keep hb1.block (by omega)) (by omega) (Nat.le_trans hB hb1.size) hc1 hown1 hne1 (by omega)).mono ?_
      intro e w2 h2
      refine ⟨h2.1, ?_⟩
      have := hr'.step h2
      simpa [Tree.codes, vals, Nat.add_assoc] using this

/-- a new list: all that was there is as it was -/
def Listed (te : TypeId) (xs : List Value) (w : World) : Ending → World → Prop := fun e w' => ∃ v, e = .returned v ∧ Below w.heap.size w w' ∧ w'.ownsRow w.heap.size te 1 v xs.length xs

theorem codes_core (t : Value) (w : World) (R1 : Ending → World → Prop) (R : Value → World → Prop)
    (HC : Hid (Calls Tryd.prog 45 #[t, .func (.func 46) #[] #[.pointer (some ⟨w.heap.size, 0, none⟩)]] (w.alloc (.cells #[.slice none 0 0] 62)) R1))
    (HV : Hid (∀ e w1, R1 e w1 → e = .returned (.tuple #[]) ∧ ∃ v, w1.cell? ⟨w.heap.size, 0, none⟩ = some v ∧ R v w1)) :
    Calls Tryd.prog 31 #[t] w fun e w' => ∃ v, e = .returned v ∧ R v w' := by
  have hmf : ∀ (fn : Fn) (first cap : Array Value) (w : World), (Instr.makeFunc fn first cap).run Tryd.prog w = .ok (.func fn first cap) w := fun _ _ _ _ => rfl
  have HQ : ∀ v w', R v w' → Hid (∃ u, Ending.returned v = .returned u ∧ R u w') := fun v w' h => ⟨v, rfl, h⟩
  have HQ2 := Lib.hid HQ
  clear HQ
  go_enter Tryd.func31, Tryd.ntmps31
  go_wp2_with (go_at_call 45; refine HC.out.mono ?_; intro e w1 hr; obtain ⟨he, v, hcell, hv⟩ := HV.out _ _ hr; subst he; have HW := HQ2.out _ _ hv; clear hv hr)
  go_ret
  exact HW.out

theorem codes_any (t : Tree) (w : World) (hR : Rep w t) (hn : t.codes.length ≤ 1000000) : Calls Tryd.prog 31 #[t.val] w (Listed 31 (vals t.codes) w) := by
  have hb := (Below.refl w.heap.size w).alloc (Nat.le_refl _) (.cells #[.slice none 0 0] 62)
  refine codes_core t.val w _ (fun v w' => Below w.heap.size w w' ∧ w'.ownsRow w.heap.size 31 1 v (vals t.codes).length (vals t.codes))
    (visit_codes w.heap.size w.heap.size (Nat.le_refl _) t 0 (.slice none 0 0) [] (w.alloc (.cells #[.slice none 0 0] 62)) (hR.below hb) hR.lt (by simp) (heap_new _ _) (World.ownsRow_nil _ _ _ _) (by simp [Value.ownBlock]) (by omega)) ?_
  rintro e w1 ⟨he, v, h1, h2, _, h4⟩
  exact ⟨he, v, by simp [World.cell?, h1], hb.trans h4, by simpa [vals] using h2⟩

end Go.Proofs.YtjfbhajaddgmpaaDoor

/- A map keyed by pointers to joined errors: look-up, update, and the query's method enter, where all its keys are blocks of joined errors. -/
import Derived.Test.YtdfmmphoccfacaaDoorD
import Derived.Maps.Own
import Derived.LaidEqlPtr
namespace Go.Proofs.YtdfmmphoccfacaaDoor
open Go.RowKit Go.Extern.Stop Go.Stop Go.Extern
open Go.ChangeMaps (setBlock)

theorem info71 : (Tryd.prog.info? 71).map (fun i => i.size) = some 3 := by kernel_rfl
def ptr (b : Nat) : Value := .pointer (some ⟨b, 0, none⟩)
/-- block b holds cells of joined errors -/
def IsJoin (w : World) (b : Nat) : Prop := ∃ c, w.heap[b]? = some (.cells c 71 (0, 0))
/-- A SET OF POINTERS, by block numbers -/
def PtrMap (w : World) (m : Nat) (S : List Nat) : Prop :=
  ∃ es clock, w.heap[m]? = some (.map es clock) ∧ es.toList.map (·.key) = S.map ptr ∧ (∀ e ∈ es.toList, e.val = .agg #[]) ∧ ∀ k ∈ S, IsJoin w k

theorem run_equal_ptr {w : World} {a b : Nat} (ha : IsJoin w a) (hb : IsJoin w b) : (Op.equal 69 (ptr a) (ptr b)).run Tryd.prog w = .ok (decide (a = b)) w := by
  obtain ⟨j, hj, hs⟩ := Option.map_eq_some_iff.1 info71
  obtain ⟨ca, ha⟩ := ha
  obtain ⟨cb, hb⟩ := hb
  have hu : Tryd.prog.underlying 69 = some (.pointer 71) := Tryd.underlying69
  by_cases h : a = b
  · subst h
    have h : ∀ d : Nat, (Op.equalIn (d + 1) 69 (ptr a) (ptr a)).run Tryd.prog w = .ok true w := fun d => by
      simp [Op.equalIn, ptr, run_underlying hu, sizeOf, typeInfo, hj, run_sameAddr_same]
    simp [Op.equal, Op.maxDepth, h 9999]
  · have hne : (⟨a, 0, none⟩ : Addr) ≠ ⟨b, 0, none⟩ := fun e => h (by injection e)
    have h' : ∀ d : Nat, (Op.equalIn (d + 1) 69 (ptr a) (ptr b)).run Tryd.prog w = .ok false w := fun d => by
      simp [Op.equalIn, ptr, run_underlying hu, sizeOf, typeInfo, hj, hs, run_sameAddr_other w hne ha hb]
    simp [Op.equal, Op.maxDepth, h' 9999, h]

theorem run_findAsking_ptr {w : World} {b : Nat} (hb : IsJoin w b) : ∀ (es : List MapEntry) (S : List Nat) (i : Nat), es.map (·.key) = S.map ptr → (∀ e ∈ es, e.val = .agg #[]) → (∀ k ∈ S, IsJoin w k) →
    (b ∈ S → ∃ j, (Instr.findAsking 69 (ptr b) es i).run Tryd.prog w = .ok (some (j, .agg #[])) w) ∧ (b ∉ S → (Instr.findAsking 69 (ptr b) es i).run Tryd.prog w = .ok none w)
  | [], [], i, _, _, _ => ⟨fun h => by simp at h, fun _ => by simp [Instr.findAsking]⟩
  | [], _ :: _, _, h, _, _ => by simp at h
  | _ :: _, [], _, h, _, _ => by simp at h
  | e :: es, s :: S, i, h, hv, hj => by
    simp only [List.map_cons, List.cons.injEq] at h
    obtain ⟨hk, hr⟩ := h
    have ih := run_findAsking_ptr hb es S (i + 1) hr (fun x hx => hv x (List.mem_cons_of_mem _ hx)) (fun x hx => hj x (List.mem_cons_of_mem _ hx))
    have he := run_equal_ptr hb (hj s (by simp))
    rw [← hk] at he
    by_cases hbs : b = s
    · subst hbs
      refine ⟨fun _ => ⟨i, ?_⟩, fun h => absurd (by simp) h⟩
      simp [Instr.findAsking, he, hv e (by simp)]
    · have hne : (decide (b = s)) = false := by simpa using hbs
      rw [hne] at he
      refine ⟨fun hm => ?_, fun hm => ?_⟩
      · obtain ⟨j, hj⟩ := ih.1 (by simpa [hbs] using hm)
        exact ⟨j, by simp [Instr.findAsking, he, hj]⟩
      · have := ih.2 (by simpa [hbs] using hm)
        simp [Instr.findAsking, he, this]

theorem findNow_ptr (b : Nat) : ∀ (es : List MapEntry) (i : Nat), es ≠ [] → Instr.findNow (.pointer 71) (ptr b) es i = none
  | [], _, h => absurd rfl h
  | e :: es, i, _ => by simp [Instr.findNow, Instr.sameNow]

theorem run_findKey_ptr {w : World} {b : Nat} (hb : IsJoin w b) (es : List MapEntry) (S : List Nat) (hk : es.map (·.key) = S.map ptr) (hv : ∀ e ∈ es, e.val = .agg #[]) (hj : ∀ k ∈ S, IsJoin w k) :
    (b ∈ S → ∃ j, (Instr.findKey 69 (ptr b) es).run Tryd.prog w = .ok (some (j, .agg #[])) w) ∧ (b ∉ S → (Instr.findKey 69 (ptr b) es).run Tryd.prog w = .ok none w) := by
  have hu : Tryd.prog.underlying 69 = some (.pointer 71) := Tryd.underlying69
  have hf := run_findAsking_ptr hb es S 0 hk hv hj
  cases es with
  | nil =>
    cases S with
    | nil => exact ⟨fun h => by simp at h, fun _ => by simp [Instr.findKey, run_underlying hu, Instr.findNow]⟩
    | cons s S => simp at hk
  | cons e es =>
    have hn := findNow_ptr b (e :: es) 0 (by simp)
    refine ⟨fun h => ?_, fun h => ?_⟩
    · obtain ⟨j, hj⟩ := hf.1 h
      exact ⟨j, by simp [Instr.findKey, run_underlying hu, hn, hj]⟩
    · have := hf.2 h
      simp [Instr.findKey, run_underlying hu, hn, this]

theorem run_checkKey_ptr (em : Bool) (n b : Nat) (w : World) : (Instr.checkKey em (n + 1) 69 (ptr b)).run Tryd.prog w = .ok () w := by
  have hu : Tryd.prog.underlying 69 = some (.pointer 71) := Tryd.underlying69
  simp [Instr.checkKey, run_underlying hu, ptr]

theorem zero122 (w : World) : (zeroValue 122).run Tryd.prog w = .ok (.agg #[]) w := by kernel_rfl

theorem run_lookup_ptr {w : World} {m b : Nat} {S : List Nat} (h : PtrMap w m S) (hb : IsJoin w b) : (Instr.lookup 66 (.map (some m)) (.pointer (some ⟨b, 0, none⟩)) true).run Tryd.prog w = .ok (.tuple #[.agg #[], .bool (decide (b ∈ S))]) w := by
  obtain ⟨es, clock, hm, hk, hv, hj⟩ := h
  have hu : Tryd.prog.underlying 66 = some (.map 69 122) := Tryd.underlying66
  have hg := MapKept.run_getObj_map (P := Tryd.prog) hm
  have hf := run_findKey_ptr hb es.toList S hk hv hj
  have hc := fun em => run_checkKey_ptr em 9999 b w
  show (Instr.lookup 66 (.map (some m)) (ptr b) true).run Tryd.prog w = _
  by_cases hbs : b ∈ S
  · obtain ⟨j, hj⟩ := hf.1 hbs
    simp [Instr.lookup, run_underlying hu, hg, hc, hj, hbs]
  · have hj := hf.2 hbs
    simp [Instr.lookup, run_underlying hu, hg, hc, hj, hbs, zero122 w]

theorem run_update_ptr {w : World} {m b : Nat} {S : List Nat} (h : PtrMap w m S) (hb : IsJoin w b) (hbs : b ∉ S) :
    ∃ w', (Instr.mapUpdate 66 (.map (some m)) (.pointer (some ⟨b, 0, none⟩)) (.agg #[])).run Tryd.prog w = .ok () w' ∧ PtrMap w' m (S ++ [b]) ∧ w.grownBy w' (some m) := by
  obtain ⟨es, clock, hm, hk, hv, hj⟩ := h
  have hu : Tryd.prog.underlying 66 = some (.map 69 122) := Tryd.underlying66
  have hg := MapKept.run_getObj_map (P := Tryd.prog) hm
  have hf := (run_findKey_ptr hb es.toList S hk hv hj).2 hbs
  have hc := run_checkKey_ptr false 9999 b w
  have hs := MapKept.run_setObj_map (P := Tryd.prog) (.map (es.push { key := ptr b, val := .agg #[], born := clock }) (clock + 1)) hm
  have hot : ∀ k, k ≠ m → (setBlock w m (.map (es.push { key := ptr b, val := .agg #[], born := clock }) (clock + 1))).heap[k]? = w.heap[k]? := fun k hk => ChangeMaps.heap_setBlock_other hm _ hk
  have hmm : ∀ k, IsJoin w k → k ≠ m := fun k hk e => by
    obtain ⟨c, hc⟩ := hk
    rw [e, hm] at hc; simp at hc
  refine ⟨setBlock w m (.map (es.push { key := ptr b, val := .agg #[], born := clock }) (clock + 1)), ?_, ⟨_, _, ChangeMaps.heap_setBlock_same hm _, by simp [hk], ?_, ?_⟩, ⟨rfl, rfl, rfl, by simp [setBlock], fun i _ hi => hot i (fun e => hi (by rw [e]))⟩⟩
  · show (Instr.mapUpdate 66 (.map (some m)) (ptr b) (.agg #[])).run Tryd.prog w = _
    simp [Instr.mapUpdate, run_underlying hu, hg, hc, hf, hs, setBlock]
  · intro e he
    simp only [Array.toList_push, List.mem_append, List.mem_singleton] at he
    rcases he with he | rfl
    · exact hv e he
    · rfl
  · intro k hk
    have hjk : IsJoin w k := by
      rcases List.mem_append.1 hk with h | h
      · exact hj k h
      · simp at h; subst h; exact hb
    obtain ⟨c, hc⟩ := hjk
    exact ⟨c, by rw [hot k (hmm k ⟨c, hc⟩)]; exact hc⟩

theorem PtrMap.kept {w w' : World} {m : Nat} {S : List Nat} {row : Option Nat} (h : PtrMap w m S) (hg : w.grownBy w' row) (hr : row ≠ some m) (hS : ∀ k ∈ S, row ≠ some k) : PtrMap w' m S := by
  obtain ⟨es, clock, hm, hk, hv, hj⟩ := h
  refine ⟨es, clock, ?_, hk, hv, fun k hk => ?_⟩
  · rw [hg.block m (Array.getElem?_eq_some_iff.1 hm).1 (Ne.symm hr)]; exact hm
  · obtain ⟨c, hc⟩ := hj k hk
    exact ⟨c, by rw [hg.block k (Array.getElem?_eq_some_iff.1 hc).1 (Ne.symm (hS k hk))]; exact hc⟩

theorem enter_old (q m b : Nat) (w : World) (h1 : w.cell? ⟨q, 1, none⟩ = some (.map (some m)))
    (hl : (Instr.lookup 66 (.map (some m)) (.pointer (some ⟨b, 0, none⟩)) true).run Tryd.prog w = .ok (.tuple #[.agg #[], .bool true]) w) :
    Calls Tryd.prog 68 #[.pointer (some ⟨q, 0, none⟩), .pointer (some ⟨b, 0, none⟩)] w fun e w' => e = .returned (.bool false) ∧ w' = w.alloc (.cells #[] 122) := by
  go_enter Tryd.func68, Tryd.ntmps68
  go_wp2

  go_ret
  exact ⟨rfl, rfl⟩

theorem enter_new (q m b : Nat) (w w1 : World) (h1 : w.cell? ⟨q, 1, none⟩ = some (.map (some m)))
    (hl : (Instr.lookup 66 (.map (some m)) (.pointer (some ⟨b, 0, none⟩)) true).run Tryd.prog w = .ok (.tuple #[.agg #[], .bool false]) w)
    (hu : (Instr.mapUpdate 66 (.map (some m)) (.pointer (some ⟨b, 0, none⟩)) (.agg #[])).run Tryd.prog (w.alloc (.cells #[] 122)) = .ok () w1) :
    Calls Tryd.prog 68 #[.pointer (some ⟨q, 0, none⟩), .pointer (some ⟨b, 0, none⟩)] w fun e w' => e = .returned (.bool true) ∧ w' = w1 := by
  have h2 : (w.alloc (.cells #[] 122)).cell? ⟨q, 1, none⟩ = some (.map (some m)) := by rw [World.cell?_alloc_past _ _ _ (World.block_lt_of_cell? w _ h1)]; exact h1
  go_enter Tryd.func68, Tryd.ntmps68
  go_wp2

  go_ret
  exact ⟨rfl, rfl⟩
end Go.Proofs.YtdfmmphoccfacaaDoor

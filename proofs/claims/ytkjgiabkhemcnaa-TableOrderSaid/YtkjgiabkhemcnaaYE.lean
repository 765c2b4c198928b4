/- TableLast: words. -/
import Derived.Test.YtkjgiabkhemcnaaYD
namespace Go.Proofs.Ytkjgiabkhemcnaa
open Go.RowKit

theorem getK_mem : ∀ {l : List (List UInt8 × List UInt8)} {k r : List UInt8}, (l.Pairwise fun a b => cmpB a.1 b.1 < 0) → (k, r) ∈ l → getK l k = some r
  | [], _, _, _, h => by simp at h
  | x :: l, k, r, hp, h => by
    obtain ⟨h1, h2⟩ := List.pairwise_cons.1 hp
    rw [List.mem_cons] at h
    simp only [getK]
    rcases h with rfl | h
    · simp [cmpB_self]
    · have h3 := h1 _ h
      simp only at h3
      have h4 := getK_mem h2 h
      rw [if_neg (by omega)]
      exact h4
theorem rise_pair {L : List Ent} (h : Rise L) : (kv L).Pairwise fun a b => cmpB a.1 b.1 < 0 := by
  unfold kv; rw [List.pairwise_map]; exact h
/-- the last of all -/
theorem last_nil {w : World} {G D : Nat → Prop} {q P : Nat} {ps : List Pg} (h : Tbl w G D q P ps) : Calls Try.prog 25 #[.pointer (some ⟨q, 0, none⟩), .slice none 0 0] w (LastT w (kv (flat ps))) := by
  by_cases hps : ps = []
  · have := last_none h none 0 hps
    subst hps
    exact this
  · have hpl := List.length_pos_iff.2 hps
    obtain ⟨i, hi⟩ : ∃ i, ps.length = i + 1 := ⟨ps.length - 1, by omega⟩
    obtain ⟨p, hp⟩ : ∃ p, ps[i]? = some p := ⟨_, List.getElem?_eq_getElem (by omega)⟩
    have hne := (h.pg p (List.mem_of_getElem? hp)).1
    have hel := List.length_pos_iff.2 hne
    obtain ⟨j, hj⟩ : ∃ j, p.es.length = j + 1 := ⟨p.es.length - 1, by omega⟩
    obtain ⟨e, he⟩ : ∃ e, p.es[j]? = some e := ⟨_, List.getElem?_eq_getElem (by omega)⟩
    have hfl := flat_at hp
    rw [List.drop_eq_nil_of_le (by omega)] at hfl
    have hl : (flat ps)[(flat ps).length - 1]? = some e := by
      rw [hfl]
      have e0 : flat ([] : List Pg) = [] := rfl
      rw [e0, List.append_nil, List.length_append, hj, List.getElem?_append_right (by omega), show (flat (ps.take i)).length + (j + 1) - 1 - (flat (ps.take i)).length = j by omega]
      exact he
    have hk := kv_last (L := flat ps) (m := (flat ps).length) (by have := (List.getElem?_eq_some_iff.1 hl).1; omega) hl
    rw [List.take_length] at hk
    exact last_all h none 0 hi hp hj he _ hk
/-- what Last answers, where there is one, and where there is none -/
def LaY (w : World) (k r : List UInt8) (kn rn : Nat) (e : Ending) (w' : World) : Prop := ∃ kA kc rA rc, e = .returned (.tuple #[.agg #[.slice kA kn kc, .slice rA rn rc], .bool true]) ∧ OwnB w' w.heap.size (.slice kA kn kc) k ∧ OwnB w' w.heap.size (.slice rA rn rc) r ∧ Below w.heap.size w w'
def LaN (w : World) (e : Ending) (w' : World) : Prop := e = .returned (.tuple #[.agg #[.slice none 0 0, .slice none 0 0], .bool false]) ∧ Below w.heap.size w w'
theorem last_y {w : World} {R : List (List UInt8 × List UInt8)} {k r : List UInt8} {kn rn : Nat} (hR : R.getLast? = some (k, r)) (hk : k.length = kn) (hr : r.length = rn) {f : Nat} {a : Array Value} (H : Calls Try.prog f a w (LastT w R)) : Calls Try.prog f a w (LaY w k r kn rn) := H.mono fun e w' ⟨hb, h⟩ => by
  subst hk hr
  rcases h with ⟨h0, _⟩ | ⟨e', h1, he, ho1, ho2⟩
  · rw [h0] at hR; cases hR
  · rw [hR] at h1
    injection h1 with h1
    injection h1 with h1 h2
    rw [← h1] at he ho1
    rw [← h2] at he ho2
    exact ⟨_, _, _, _, he, ho1, ho2, hb⟩
theorem last_n {w : World} {R : List (List UInt8 × List UInt8)} (hR : R = []) {f : Nat} {a : Array Value} (H : Calls Try.prog f a w (LastT w R)) : Calls Try.prog f a w (LaN w) := H.mono fun e w' ⟨hb, h⟩ => by
  rcases h with ⟨_, he⟩ | ⟨e', h1, _⟩
  · exact ⟨he, hb⟩
  · rw [hR] at h1; cases h1
/-- what Range answers -/
def RgY (w : World) (m : Nat) (k r : List UInt8) (kn rn : Nat) (e : Ending) (w' : World) : Prop := ∃ g o cap kA kc rA rc, e = .returned (.slice (some ⟨g, o, none⟩) (m + 1) cap) ∧ m + 1 ≤ cap ∧ w'.cell? ⟨g, o + m * 2, none⟩ = some (.slice kA kn kc) ∧ w'.cell? ⟨g, o + m * 2 + 1, none⟩ = some (.slice rA rn rc) ∧ OwnB w' w.heap.size (.slice kA kn kc) k ∧ OwnB w' w.heap.size (.slice rA rn rc) r ∧ g < w'.heap.size ∧ Below w.heap.size w w'
def RgN (w : World) (e : Ending) (w' : World) : Prop := ∃ A cap, e = .returned (.slice A 0 cap) ∧ Below w.heap.size w w'
theorem range_y {w : World} {R : List (List UInt8 × List UInt8)} {m kn rn : Nat} {k r : List UInt8} (hm : R.length = m + 1) (hR : R.getLast? = some (k, r)) (hk : k.length = kn) (hr : r.length = rn) {f : Nat} {a : Array Value} (H : Calls Try.prog f a w (RgT w R)) : Calls Try.prog f a w (RgY w m k r kn rn) := H.mono fun e w' h => by
  subst hk hr
  obtain ⟨b, g, v, es, he, hrow, _, _, hown, hkv, hb⟩ := h
  have hlen : es.length = m + 1 := by rw [← hm, ← hkv]; simp [kv]
  obtain ⟨x, hx⟩ : ∃ x, es[m]? = some x := ⟨_, List.getElem?_eq_getElem (by omega)⟩
  have hlast : (x.k, x.r) = (k, r) := by
    rw [← hkv] at hR
    have h1 : (kv es).getLast? = some (x.k, x.r) := by
      have := kv_last (L := es) (m := es.length) (by omega) (by rw [hlen]; exact hx)
      rw [List.take_length] at this
      exact this
    rw [h1] at hR
    injection hR
  injection hlast with h1 h2
  have ho := hown x (List.mem_of_getElem? hx)
  rcases hrow with ⟨_, h0, _⟩ | ⟨_, o, cap, rfl, hc⟩
  · omega
  · obtain ⟨c1, c2⟩ := entV_at hx
    have d1 := hc.cell _ _ c1
    have d2 := hc.cell _ _ c2
    rw [h1] at d1
    rw [h2] at d2
    rw [h1, h2] at ho
    rw [hlen] at he
    refine ⟨g, o, cap, _, _, _, _, he, by have := hc.room; omega, d1, by rw [Nat.add_assoc]; exact d2, ho.1, ho.2, cell_lt d1, hb⟩
theorem range_n {w : World} {R : List (List UInt8 × List UInt8)} (hR : R = []) {f : Nat} {a : Array Value} (H : Calls Try.prog f a w (RgT w R)) : Calls Try.prog f a w (RgN w) := H.mono fun e w' h => by
  subst hR
  obtain ⟨b, g, v, es, he, hrow, _, _, _, hkv, hb⟩ := h
  have h0 : es.length = 0 := by have := congrArg List.length hkv; simpa [kv] using this
  rcases hrow with ⟨rfl, _⟩ | ⟨_, o, cap, rfl, _⟩
  · exact ⟨none, 0, by rw [he], hb⟩
  · rw [h0] at he; exact ⟨_, _, he, hb⟩
theorem wpAnyH_mono {P : Program} {md : Region.Mode} {ops : Array Oper} {Q : Exit → Act → World → Prop} {S S' : World → Prop} (hSS : ∀ w, S' w → S w) : ∀ {fuel : Nat} {listed : Array Bool} {a : Act} {w : World}, wpAnyH P md ops Q S' fuel listed a w → wpAnyH P md ops Q S fuel listed a w
  | 0, _, _, _, h => h
  | _ + 1, _, _, _, h => ⟨h.1, fun i hi => wpOp_mono (fun _ w' h' => ⟨hSS w' h'.1, wpAnyH_mono hSS h'.2⟩) (h.2 i hi)⟩
set_option maxRecDepth 100000 in
set_option maxHeartbeats 40000000 in
theorem kv_take_all {L : List Ent} {n : Nat} (h : L.length ≤ n) : kv (L.take n) = kv L := by rw [List.take_of_length_le h]
theorem heap_new2Y (w : World) (o : Obj) (C : Array Value) : ((w.alloc o).alloc (.cells C 46)).heap[w.heap.size + 1]? = some (.cells C 46 (0, 0)) := by
  have h := heap_alloc_new (w.alloc o) (.cells C 46)
  rw [show (w.alloc o).heap.size = w.heap.size + 1 by simp] at h
  exact h
theorem range_le (f t : List UInt8) (L : List Ent) : (rangeL f t L).length ≤ L.length := List.length_filter_le _ _
theorem range_mem {f t : List UInt8} {L : List Ent} {x : List UInt8 × List UInt8} (h : x ∈ kv (rangeL f t L)) : x ∈ kv L := by
  unfold kv rangeL at *
  obtain ⟨e, he, rfl⟩ := List.mem_map.1 h
  exact List.mem_map.2 ⟨e, (List.mem_filter.1 he).1, rfl⟩
end Go.Proofs.Ytkjgiabkhemcnaa

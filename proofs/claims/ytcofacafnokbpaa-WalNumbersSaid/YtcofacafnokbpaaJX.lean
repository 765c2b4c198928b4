/- Words for WalNumbers: a log, and beside it a row of numbers and a row of strings. -/
import Derived.Test.YtcofacafnokbpaaJW
namespace Go.Proofs.Ytcofacafnokbpaa
open Go.RowKit

theorem RdC.val {w : World} {B k b o : Nat} {vs : List Value} {u : Value} (h : RdC w B (some ⟨b, o, none⟩) vs) (hu : vs[k]? = some u) : w.cell? ⟨b, o + k, none⟩ = some u := by
  obtain ⟨b', o', e, _, hc⟩ := h (fun e => by subst e; simp at hu)
  injection e with e
  injection e with e1 e2
  subst e1 e2
  exact hc k u hu
def strV (r : List UInt8) : Value := .string ⟨r.toArray⟩
def strsV (l : List (List UInt8)) : List Value := l.map strV
theorem strsV_get {l : List (List UInt8)} {k : Nat} {x : List UInt8} (h : l[k]? = some x) : (strsV l)[k]? = some (strV x) := by
  unfold strsV
  rw [List.getElem?_map, h]
  rfl
theorem infoStr : (Try.prog.info? 9).map (fun i => (i.zero, i.size, i.bytes)) = some (some (.string ⟨#[]⟩), 1, 16) := by kernel_rfl
/-- a log, and beside it numbers and records of the law's own -/
structure WN (w wr : World) (q p g d gn gr b s : Nat) (pre : List (Nat × Nat)) (rs : List (List UInt8)) (N : List Nat) (R : List (List UInt8)) (v6 v7 : Value) : Prop where
  wl : Wl wr w.heap.size q p g d b s pre rs
  nums : HeldC wr q gn 1 v6 N.length (intsV N)
  recs : HeldC wr q gr 1 v7 R.length (strsV R)
  sepn : gn = q ∨ (gn ≠ p ∧ gn ≠ g ∧ gn ≠ d)
  sepr : gr = q ∨ (gr ≠ p ∧ gr ≠ g ∧ gr ≠ d ∧ gr ≠ gn)
  ge : w.heap.size ≤ gn ∧ w.heap.size ≤ gr
  bel : Below w.heap.size w wr
theorem WN.below {w wr wz : World} {q p g d gn gr b s : Nat} {pre : List (Nat × Nat)} {rs : List (List UInt8)} {N : List Nat} {R : List (List UInt8)} {v6 v7 : Value} (h : WN w wr q p g d gn gr b s pre rs N R v6 v7) (hb : Below wr.heap.size wr wz) : WN w wz q p g d gn gr b s pre rs N R v6 v7 :=
  ⟨h.wl.below hb, h.nums.only (Only.of_below (K := fun _ => False) hb) (fun _ => id), h.recs.only (Only.of_below (K := fun _ => False) hb) (fun _ => id), h.sepn, h.sepr, h.ge, belowM h.bel (Nat.le_refl _) hb⟩
theorem WN.lt {w wr : World} {q p g d gn gr b s : Nat} {pre : List (Nat × Nat)} {rs : List (List UInt8)} {N : List Nat} {R : List (List UInt8)} {v6 v7 : Value} (h : WN w wr q p g d gn gr b s pre rs N R v6 v7) : q < wr.heap.size ∧ p < wr.heap.size ∧ g < wr.heap.size ∧ d < wr.heap.size ∧ gn < wr.heap.size ∧ gr < wr.heap.size :=
  ⟨h.wl.lt, h.wl.disk.lt, h.wl.disk.dlt, h.wl.dlt, h.nums.lt h.wl.lt, h.recs.lt h.wl.lt⟩
theorem WN.wal {w wr wz : World} {q p g d g' d' gn gr b s b' s' : Nat} {pre pre' : List (Nat × Nat)} {rs rs' : List (List UInt8)} {N : List Nat} {R : List (List UInt8)} {v6 v7 : Value} (h : WN w wr q p g d gn gr b s pre rs N R v6 v7) (hw : Wl wz w.heap.size q p g' d' b' s' pre' rs') (hO : Only (fun k => k = q ∨ k = p ∨ k = g ∨ k = d) wr wz) (hg : g' = g ∨ wr.heap.size ≤ g') (hd : d' = d ∨ wr.heap.size ≤ d') : WN w wz q p g' d' gn gr b' s' pre' rs' N R v6 v7 := by
  obtain ⟨h1, h2, h3, h4, h5, h6⟩ := h.lt
  have hn := h.sepn
  have hr := h.sepr
  have hge := h.ge
  refine ⟨hw, h.nums.only hO (fun hne e => ?_), h.recs.only hO (fun hne e => ?_), ?_, ?_, h.ge, h.bel.trans (hO.wl h.bel.size h.wl.ge.1 h.wl.disk.ge.1 h.wl.disk.ge.2 h.wl.ge.2)⟩
  · omega
  · omega
  · omega
  · omega
theorem WN.num {w wr wz : World} {q p g d gn gn' gr b s n : Nat} {pre : List (Nat × Nat)} {rs : List (List UInt8)} {N : List Nat} {R : List (List UInt8)} {v6 v6' v7 : Value} (h : WN w wr q p g d gn gr b s pre rs N R v6 v7) (h6 : HeldC wz q gn' 1 v6' (N.length + 1) (intsV N ++ [.int .i64 (n : Int)])) (hO : Only (fun k => k = gn ∧ k ≠ q) wr wz) (hg : gn' = gn ∨ wr.heap.size ≤ gn') : WN w wz q p g d gn' gr b s pre rs (N ++ [n]) R v6' v7 := by
  obtain ⟨h1, h2, h3, h4, h5, h7⟩ := h.lt
  have hn := h.sepn
  have hr := h.sepr
  have hge := h.ge
  have hsz := h.bel.size
  have hqp := h.wl.ne
  refine ⟨h.wl.only hO (fun e => e.2 rfl) (fun e => by omega) (fun e => by omega) (fun e => by omega), ?_, h.recs.only hO (fun hne e => by omega), by omega, by omega, by omega, h.bel.trans (hO.below h.bel.size (fun j e => by omega))⟩
  rw [List.length_append, List.length_singleton]
  have e : intsV (N ++ [n]) = intsV N ++ [.int .i64 (n : Int)] := by unfold intsV; rw [List.map_append]; rfl
  rw [e]
  exact h6
theorem WN.str {w wr wz : World} {q p g d gn gr gr' b s : Nat} {pre : List (Nat × Nat)} {rs : List (List UInt8)} {N : List Nat} {R : List (List UInt8)} {r : List UInt8} {v6 v7 v7' : Value} (h : WN w wr q p g d gn gr b s pre rs N R v6 v7) (h6 : HeldC wz q gr' 1 v7' (R.length + 1) (strsV R ++ [strV r])) (hO : Only (fun k => k = gr ∧ k ≠ q) wr wz) (hg : gr' = gr ∨ wr.heap.size ≤ gr') : WN w wz q p g d gn gr' b s pre rs N (R ++ [r]) v6 v7' := by
  obtain ⟨h1, h2, h3, h4, h5, h7⟩ := h.lt
  have hn := h.sepn
  have hr := h.sepr
  have hge := h.ge
  have hsz := h.bel.size
  have hqp := h.wl.ne
  refine ⟨h.wl.only hO (fun e => e.2 rfl) (fun e => by omega) (fun e => by omega) (fun e => by omega), h.nums.only hO (fun hne e => by omega), ?_, by omega, by omega, by omega, h.bel.trans (hO.below h.bel.size (fun j e => by omega))⟩
  rw [List.length_append, List.length_singleton]
  have e : strsV (R ++ [r]) = strsV R ++ [strV r] := by unfold strsV; rw [List.map_append]; rfl
  rw [e]
  exact h6
theorem numbersOf_app (b : Nat) (rs : List (List UInt8)) (r : List UInt8) : numbersOf b (rs ++ [r]) = numbersOf b rs ++ [b + (bytesOf rs).length] := by
  unfold numbersOf
  rw [placesOf_app, List.map_append]
  rfl
theorem numbersOf_drop (b : Nat) (rs : List (List UInt8)) (k : Nat) : numbersOf (startOf b rs k) (rs.drop k) = (numbersOf b rs).drop k := by
  unfold numbersOf
  rw [← placesOf_drop, List.map_drop]
/-- what holds behind k acts -/
def WnS (w : World) (q p K : Nat) (v6 v7 v8 : Value) (wr : World) : Prop := ∃ g d gn gr b s pre rs N R f, v8 = .int .i64 ((f : Nat) : Int) ∧ WN w wr q p g d gn gr b s pre rs N R v6 v7 ∧ N.length = R.length ∧ f ≤ N.length ∧ N.drop f = numbersOf b rs ∧ R.drop f = rs ∧ (∀ i x, N[i]? = some x → i < f → x < b) ∧ b + (bytesOf rs).length ≤ 305 * K ∧ N.length ≤ K
def WnL (w : World) (q p : Nat) (acts : List Act6) (v6 v7 v8 v9 : Value) (wr : World) : Prop := ∃ k, v9 = .int .i64 ((k : Nat) : Int) ∧ k ≤ acts.length ∧ k ≤ 40 ∧ WnS w q p k v6 v7 v8 wr
theorem WnS.below {w wr wz : World} {q p K : Nat} {v6 v7 v8 : Value} (h : WnS w q p K v6 v7 v8 wr) (hb : Below wr.heap.size wr wz) : WnS w q p K v6 v7 v8 wz := by
  obtain ⟨g, d, gn, gr, b, s, pre, rs, N, R, f, h1, h2, h3⟩ := h
  exact ⟨g, d, gn, gr, b, s, pre, rs, N, R, f, h1, h2.below hb, h3⟩
theorem WnS.more {w wr : World} {q p K : Nat} {v6 v7 v8 : Value} (h : WnS w q p K v6 v7 v8 wr) : WnS w q p (K + 1) v6 v7 v8 wr := by
  obtain ⟨g, d, gn, gr, b, s, pre, rs, N, R, f, h1, h2, h3, h4, h5, h6, h7, h8, h9⟩ := h
  exact ⟨g, d, gn, gr, b, s, pre, rs, N, R, f, h1, h2, h3, h4, h5, h6, h7, by omega, by omega⟩
/-- each number is below the end -/
theorem nums_lt {b f : Nat} {rs : List (List UInt8)} {N : List Nat} (hN : N.drop f = numbersOf b rs) (hf : ∀ i x, N[i]? = some x → i < f → x < b) {i x : Nat} (hx : N[i]? = some x) : x < b + (bytesOf rs).length ∧ (f ≤ i → i - f < rs.length ∧ x = startOf b rs (i - f)) := by
  have key : f ≤ i → i - f < rs.length ∧ x = startOf b rs (i - f) := by
    intro hfi
    have h1 : (N.drop f)[i - f]? = some x := by rw [List.getElem?_drop, show f + (i - f) = i by omega]; exact hx
    rw [hN] at h1
    have h2 := (List.getElem?_eq_some_iff.1 h1).1
    rw [numbersOf_len] at h2
    rw [numbersOf_get b rs h2] at h1
    injection h1 with h1
    exact ⟨h2, h1.symm⟩
  refine ⟨?_, key⟩
  rcases Nat.lt_or_ge i f with h | h
  · have := hf i x hx h; omega
  · obtain ⟨h1, h2⟩ := key h
    have h3 := startOf_lt b rs (Nat.le_refl _) h1
    rw [startOf_end b rs (Nat.le_refl _)] at h3
    omega
end Go.Proofs.Ytcofacafnokbpaa

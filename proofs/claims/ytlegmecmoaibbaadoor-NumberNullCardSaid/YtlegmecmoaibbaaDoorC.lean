/- digits answers two hexadecimal digits a byte. -/
import Derived.Test.YtlegmecmoaibbaaDoorT
namespace Go.Proofs.YtlegmecmoaibbaaDoor
open Go.RowKit

def hexd (n : Nat) : UInt8 := if n < 10 then UInt8.ofNat (48 + n) else UInt8.ofNat (87 + n)
def hexL (l : List UInt8) : List UInt8 := l.flatMap fun c => [hexd (c.toNat / 16), hexd (c.toNat % 16)]
theorem hexL_len (l : List UInt8) : (hexL l).length = 2 * l.length := by
  induction l with
  | nil => rfl
  | cons c l ih => simp only [hexL, List.flatMap_cons, List.length_append] at ih ⊢; simp at ih ⊢; omega
theorem hexL_snoc (l : List UInt8) (c : UInt8) : hexL (l ++ [c]) = hexL l ++ [hexd (c.toNat / 16), hexd (c.toNat % 16)] := by simp [hexL]
theorem hexAt (q : Nat) (h : q < (⟨#[48, 49, 50, 51, 52, 53, 54, 55, 56, 57, 97, 98, 99, 100, 101, 102]⟩ : ByteArray).size) : (⟨#[48, 49, 50, 51, 52, 53, 54, 55, 56, 57, 97, 98, 99, 100, 101, 102]⟩ : ByteArray)[q] = hexd q := by
  have h16 : q < 16 := h
  have hq : q = 0 ∨ q = 1 ∨ q = 2 ∨ q = 3 ∨ q = 4 ∨ q = 5 ∨ q = 6 ∨ q = 7 ∨ q = 8 ∨ q = 9 ∨ q = 10 ∨ q = 11 ∨ q = 12 ∨ q = 13 ∨ q = 14 ∨ q = 15 := by omega
  rcases hq with rfl | rfl | rfl | rfl | rfl | rfl | rfl | rfl | rfl | rfl | rfl | rfl | rfl | rfl | rfl | rfl <;> rfl
theorem and15 (c : Nat) (h : c < 256) : bits BinOp.and IntKind.u8 (c : Int) 15 = ((c % 16 : Nat) : Int) := by
  have : ∀ c : Fin 256, bits BinOp.and IntKind.u8 ((c.val : Nat) : Int) 15 = ((c.val % 16 : Nat) : Int) := by decide +kernel
  exact this ⟨c, h⟩
theorem conv_bytes (s : ByteArray) (w : World) : ∃ W2 cap, (convert 9 112 (.string s)).run Tryd.prog w = .ok (.slice (some ⟨w.heap.size, 0, none⟩) s.size cap) W2 ∧
    (∀ j c, s.data.toList[j]? = some c → W2.cell? ⟨w.heap.size, j, none⟩ = some (.int .u8 (c.toNat : Int))) ∧ Below w.heap.size w W2 ∧ s.size ≤ cap ∧ ∃ C fr, W2.heap[w.heap.size]? = some (.cells C 5 fr) ∧ fr ≠ (0, 0) := by
  refine ⟨_, _, run_bytes_of_string w 9 112 5 s Tryd.underlying9 Tryd.underlying112 Tryd.underlying5, fun j c hj => ?_, ?_, grownCap_ge _ _ _ _, _, _, heap_alloc_new w.drew _, by simp⟩
  · have hl : j < s.data.size := by
      have := (List.getElem?_eq_some_iff.1 hj).1
      simpa using this
    have hc : c = s.data[j] := by
      have := (List.getElem?_eq_some_iff.1 hj).2
      rw [← this]; simp
    have hh : (w.drew.alloc (.cells (bytesRow s (grownCap w s.size 0 5)) 5 ((bytesRow s (grownCap w s.size 0 5)).size, (bytesRow s (grownCap w s.size 0 5)).size + 1))).heap[w.heap.size]? = some (.cells (bytesRow s (grownCap w s.size 0 5)) 5 ((bytesRow s (grownCap w s.size 0 5)).size, (bytesRow s (grownCap w s.size 0 5)).size + 1)) := heap_alloc_new w.drew _
    simp only [World.cell?, hh]
    rw [hc]
    simpa using bytesRow_at s _ j hl
  · exact (drew_below w).trans (alloc_below w.drew _)
theorem own_ne_fr {w : World} {B g n s : Nat} {v : Value} {xs : List Value} {e e' : TypeId} {c : Array Value} {fr : Nat × Nat} (h : w.ownsRow B e s v n xs) (hg : w.heap[g]? = some (.cells c e' fr)) (hf : fr ≠ (0, 0)) : v.ownBlock ≠ some g := by
  rcases h.2 with ⟨rfl, _⟩ | ⟨g', cap, cur, rfl, _, hh, _⟩
  · simp [Value.ownBlock]
  · intro h
    simp [Value.ownBlock] at h
    subst h
    rw [hh] at hg
    simp at hg
    exact hf hg.2.2.symm
theorem conv_back {w : World} {B n : Nat} {v : Value} {l : List UInt8} (h : w.ownsRow B 5 1 v n (bytesV l)) : (convert 112 9 v).run Tryd.prog w = .ok (.string ⟨l.toArray⟩) w := by
  have hl := h.1
  rw [bytesV_len] at hl
  rcases h.2 with ⟨rfl, h0⟩ | ⟨g, cap, cur, rfl, _, hh, _⟩
  · have : l = [] := List.length_eq_zero_iff.1 (by omega)
    subst this
    exact run_convert_bytes_nil w _ _ Tryd.underlying112 Tryd.underlying5 _ _ _ Tryd.underlying9
  · have hn : n = l.length := by omega
    subst hn
    refine run_convert_bytes_back (P := Tryd.prog) w 112 9 5 ⟨g, 0, none⟩ cap l Tryd.underlying112 Tryd.underlying5 Tryd.underlying9 (fun j hj => ?_)
    exact h.cells rfl j _ (by simp [bytesV, hj])
/-- at the head of digits' loop -/
def DG (w0 W2 : World) (cb : Nat) (s : ByteArray) (v3 v13 : Value) (wr : World) : Prop := ∃ k : Nat, v13 = .int .i64 k ∧ k ≤ s.size ∧ wr.ownsRow w0.heap.size 5 1 v3 (2 * k) (bytesV (hexL (s.data.toList.take k))) ∧ (∃ pa cap, v3 = .slice pa (2 * k) cap) ∧ Below w0.heap.size w0 wr ∧
  wr.heap[cb]? = W2.heap[cb]?
set_option maxRecDepth 100000 in
set_option maxHeartbeats 4000000 in
theorem digits_any (s : ByteArray) (hs : s.size ≤ 1000) (w : World) : Calls Tryd.prog 40 #[.string s] w (Ans (.string ⟨(hexL s.data.toList).toArray⟩) w) := by
  obtain ⟨i0, hi, hz0, hz1, hz2⟩ := info_parts info8
  have hsi : (s.size : Int) ≤ 1000 := by omega
  go_enter Tryd.func40, Tryd.ntmps40
  go_wp2_with (at_make; refine wpList_make_own _ rfl _ _ 112 rfl w.heap.size 5 i0 (.int .u8 0) 1 Tryd.underlying112 hi hz0 hz1 _ _ _ (2 * s.size) rfl rfl (by omega) ?b2 ?b3 (Nat.le_refl _) ?_)
  case b2 => rw [hz2]; omega
  case b3 => unfold maxLen; omega
  intro w0 hown0 hgrow0
  obtain ⟨W2, cap2, hcv, hcells, hb2, hcap2, C, fr, hC, hfr⟩ := conv_bytes s w0
  go_wp2_with fail
  have hb0 : Below w.heap.size w w0 := (Below.refl _ _).grown hgrow0 (Nat.le_refl _) (fun k h => by cases h)
  have hlt0 : w.heap.size < w0.heap.size := (hown0.lt w.heap.size rfl).2
  go_loopw [3, 13] (fun v3 v13 wr => DG w W2 w0.heap.size s v3 v13 wr) (fun _ v13 _ => s.size - (intOf v13).toNat)
  case atStart => exact ⟨0, rfl, Nat.zero_le _, own_below hown0 hb2, ⟨_, _, rfl⟩, hb0.trans (hb2.mono hb0.size), rfl⟩
  case round =>
    obtain ⟨k, rfl, hk, hown, ⟨pa, cap, rfl⟩, hb, hg⟩ := hrel
    have hk0 : (0 : Int) ≤ (k : Int) := Int.natCast_nonneg _
    by_cases hlt : k < s.size
    · obtain ⟨c, hc⟩ : ∃ c, s.data.toList[k]? = some c := ⟨_, List.getElem?_eq_getElem (by simpa using hlt)⟩
      have hcell : wr.cell? ⟨w0.heap.size, k, none⟩ = some (.int .u8 (c.toNat : Int)) := by
        have h1 := hcells k c hc
        rw [← h1]
        exact World.cell?_of_block hg
      have hki : (k : Int) < (s.size : Int) := by omega
      have hc0 : (0 : Int) ≤ (c.toNat : Int) := Int.natCast_nonneg _
      have hc1 : (c.toNat : Int) < 256 := by have := c.toNat_lt; omega
      obtain ⟨q, hq⟩ : ∃ q, q = c.toNat / 16 := ⟨_, rfl⟩
      obtain ⟨r, hr⟩ : ∃ r, r = c.toNat % 16 := ⟨_, rfl⟩
      have hqi : (c.toNat : Int) / 16 = (q : Int) := by omega
      have hri : bits BinOp.and IntKind.u8 (c.toNat : Int) 15 = (r : Int) := by rw [and15 _ (by omega), hr]
      have q0 : (0 : Int) ≤ (q : Int) := by omega
      have q1 : (q : Int) < 16 := by omega
      have r0 : (0 : Int) ≤ (r : Int) := by omega
      have r1 : (r : Int) < 16 := by omega
      have hx := hexAt
      have HQ := Lib.hid hq
      have HRR := Lib.hid hr
      clear hq hr
      have hls : (s.data.toList.take k).length = k := by rw [List.length_take]; simp; omega
      have HN : Hid (∀ pa' l' c' w', w'.ownsRow w.heap.size 5 1 (.slice pa' l' c') (2 * k + 2) (bytesV (hexL (s.data.toList.take k)) ++ [.int .u8 ((hexd q).toNat : Int), .int .u8 ((hexd r).toNat : Int)]) → (wr.alloc (.cells #[.int .u8 ((hexd q).toNat : Int), .int .u8 ((hexd r).toNat : Int)] 5)).drew.grownBy w' (Value.slice pa (2 * k) cap).ownBlock → DG w W2 w0.heap.size s (.slice pa' l' c') (.int .i64 ((k : Int) + 1)) w') := by
        refine Lib.hid fun pa' l' c' w' ho hg' => ?_
        have hl' : l' = 2 * (k + 1) := by
          rcases ho.2 with ⟨e, h0⟩ | ⟨g, cp, cur, e, _⟩
          · omega
          · injection e with _ e2
        subst hl'
        refine ⟨k + 1, rfl, by omega, ?_, ⟨_, _, rfl⟩, ?_, ?_⟩
        · rw [List.take_add_one, hc, Option.toList_some, hexL_snoc]
          simp only [bytesV, List.map_append, List.map_cons, List.map_nil] at ho ⊢
          rw [← HQ.out, ← HRR.out]
          exact ho
        · exact Below.grown (hb.trans (((alloc_below wr _).drew).mono hb.size)) hg' (by have := hb.size; simp; omega) (fun b hb' => (hown.lt b hb').1)
        · rw [hg'.block w0.heap.size (by have := (Array.getElem?_eq_some_iff.1 (hg.trans hC)).1; simp; omega) (fun e => own_ne_fr hown (hg.trans hC) hfr e.symm)]
          show (wr.heap.push _)[w0.heap.size]? = _
          rw [Array.getElem?_push, if_neg (by have := (Array.getElem?_eq_some_iff.1 (hg.trans hC)).1; omega)]
          exact hg
      have HO := Lib.hid hown
      have HBS := Lib.hid hb.size
      clear hcv hown
      go_wp2_with fail
      clear hcell
      go_region_law (first
        | (refine step_app (by rfl) _ _ 112 (by rfl) w.heap.size 5 (.int .u8 0) 1 Tryd.underlying112 info8 rfl _ (2 * k) (bytesV (hexL (s.data.toList.take k))) (by rfl) (by exact own_below HO.out ((alloc_below _ _).drew)) _ [.int .u8 ((hexd q).toNat : Int), .int .u8 ((hexd r).toNat : Int)] (by rfl) (by exact ⟨own_lit (heap_alloc_new _ _) (Nat.zero_le _) rfl (by omega), by simp [Value.oneCell']⟩) (by unfold maxLen; simp; omega) (by simp; omega) (by have := HBS.out; simp; omega) ?_; intro pa' l' c' w' ho hg'
           have HY := Lib.hid (HN.out _ _ _ _ (by simpa using ho) hg')
           clear ho hg'))
      all_goals
        go_wp2_with fail
        go_roundw
        case rel => exact HY.out
        case measure => simp only [intOf]; omega
    · have hk2 : k = s.size := by omega
      subst hk2
      have hnlt : ¬ ((s.size : Int) < (s.size : Int)) := by omega
      rw [List.take_of_length_le (by simp)] at hown
      have hback := conv_back hown
      have HB := Lib.hid hb
      clear hcv hg hown hb hlt hk
      go_wp2_with fail
      go_ret
      exact ⟨rfl, HB.out⟩
end Go.Proofs.YtlegmecmoaibbaaDoor

/- digits answers two hexadecimal digits a byte. -/
import Derived.Test.YtokkbipdkakenaaGreatDoorB
import Derived.Test.YtokkbipdkakenaaGreatDoorT
namespace Go.Proofs.YtokkbipdkakenaaGreatDoor
open Go.RowKit

def hexd (n : Nat) : UInt8 := if n < 10 then UInt8.ofNat (48 + n) else UInt8.ofNat (87 + n)
def hexL (l : List UInt8) : List UInt8 := l.flatMap fun c => [hexd (c.toNat / 16), hexd (c.toNat % 16)]
theorem hexL_len (l : List UInt8) : (hexL l).length = 2 * l.length := by
  induction l with
  | nil => rfl
  | cons c l ih => simp only [hexL, List.flatMap_cons, List.length_append] at ih ⊢; simp at ih ⊢; omega
theorem hexL_snoc (l : List UInt8) (c : UInt8) : hexL (l ++ [c]) = hexL l ++ [hexd (c.toNat / 16), hexd (c.toNat % 16)] := by simp [hexL]
theorem hexAt (q : Nat) (h : q < (⟨#[48, 49, 50, 51, 52, 53, 54, 55, 56, 57, 97, 98, 99, 100, 101, 102]⟩ : ByteArray).size) : (⟨#[48, 49, 50, 51, 52, 53, 54, 55, 56, 57, 97, 98, 99, 100, 101, 102]⟩ : ByteArray)[q] = hexd q := by
  have h16 : q < 16 := h
  have hq : q = 0 ∨ q = 1 ∨ q = 2 ∨ q = 3 ∨ q = 4 ∨ q = 5 ∨ q = 6 ∨ q = 7 ∨ q = 8 ∨ q = 9 ∨ q = 10 ∨ q = 11 ∨ q = 12 ∨ q = 13 ∨ q = 14 ∨ q = 15 := by omega
  rcases hq with rfl | rfl | rfl | rfl | rfl | rfl | rfl | rfl | rfl | rfl | rfl | rfl | rfl | rfl | rfl | rfl <;> rfl
theorem and15 (c : Nat) (h : c < 256) : bits BinOp.and IntKind.u8 (c : Int) 15 = ((c % 16 : Nat) : Int) := by
  have : ∀ c : Fin 256, bits BinOp.and IntKind.u8 ((c.val : Nat) : Int) 15 = ((c.val % 16 : Nat) : Int) := by decide +kernel
  exact this ⟨c, h⟩
/-- at the head of digits' loop -/
def DG (w0 W2 : World) (cb : Nat) (s : ByteArray) (v3 v13 : Value) (wr : World) : Prop := ∃ k : Nat, v13 = .int .i64 k ∧ k ≤ s.size ∧ wr.ownsRow w0.heap.size 5 1 v3 (2 * k) (bytesV (hexL (s.data.toList.take k))) ∧ (∃ pa cap, v3 = .slice pa (2 * k) cap) ∧ Below w0.heap.size w0 wr ∧
  wr.heap[cb]? = W2.heap[cb]?
set_option maxRecDepth 100000 in
set_option maxHeartbeats 4000000 in
theorem digits_any (s : ByteArray) (hs : s.size ≤ 1000) (w : World) : Calls Tryz.prog 15 #[.string s] w (Ans (.string ⟨(hexL s.data.toList).toArray⟩) w) := by
  obtain ⟨i0, hi, hz0, hz1, hz2⟩ := info_parts info8
  have hsi : (s.size : Int) ≤ 1000 := by omega
  go_enter Tryz.func15, Tryz.ntmps15
  go_wp2_with (at_make; refine wpList_make_own _ rfl _ _ 60 rfl w.heap.size 5 i0 (.int .u8 0) 1 Tryz.underlying60 hi hz0 hz1 _ _ _ (2 * s.size) rfl rfl (by omega) ?b2 ?b3 (Nat.le_refl _) ?_)
  case b2 => rw [hz2]; omega
  case b3 => unfold maxLen; omega
  intro w0 hown0 hgrow0
  obtain ⟨W2, cap2, hcv, hcells, hb2, hcap2, C, fr, hC, hfr⟩ := conv_bytes s w0
  go_wp2_with fail
  have hb0 : Below w.heap.size w w0 := (Below.refl _ _).grown hgrow0 (Nat.le_refl _) (fun k h => by cases h)
  have hlt0 : w.heap.size < w0.heap.size := (hown0.lt w.heap.size rfl).2
  go_loopw [3, 13] (fun v3 v13 wr => DG w W2 w0.heap.size s v3 v13 wr) (fun _ v13 _ => s.size - (intOf v13).toNat)
  case atStart => exact ⟨0, rfl, Nat.zero_le _, own_below hown0 hb2, ⟨_, _, rfl⟩, hb0.trans (hb2.mono hb0.size), rfl⟩
  case round =>
    obtain ⟨k, rfl, hk, hown, ⟨pa, cap, rfl⟩, hb, hg⟩ := hrel
    have hk0 : (0 : Int) ≤ (k : Int) := Int.natCast_nonneg _
    by_cases hlt : k < s.size
    · obtain ⟨c, hc⟩ : ∃ c, s.data.toList[k]? = some c := ⟨_, List.getElem?_eq_getElem (by simpa using hlt)⟩
      have hcell : wr.cell? ⟨w0.heap.size, k, none⟩ = some (.int .u8 (c.toNat : Int)) := by
        have h1 := hcells k c hc
        rw [← h1]
        exact World.cell?_of_block hg
      have hki : (k : Int) < (s.size : Int) := by omega
      have hc0 : (0 : Int) ≤ (c.toNat : Int) := Int.natCast_nonneg _
      have hc1 : (c.toNat : Int) < 256 := by have := c.toNat_lt; omega
      obtain ⟨q, hq⟩ : ∃ q, q = c.toNat / 16 := ⟨_, rfl⟩
      obtain ⟨r, hr⟩ : ∃ r, r = c.toNat % 16 := ⟨_, rfl⟩
      have hqi : (c.toNat : Int) / 16 = (q : Int) := by omega
      have hri : bits BinOp.and IntKind.u8 (c.toNat : Int) 15 = (r : Int) := by rw [and15 _ (by omega), hr]
      have q0 : (0 : Int) ≤ (q : Int) := by omega
      have q1 : (q : Int) < 16 := by omega
      have r0 : (0 : Int) ≤ (r : Int) := by omega
      have r1 : (r : Int) < 16 := by omega
      have hx := hexAt
      have HQ := Lib.hid hq
      have HRR := Lib.hid hr
      clear hq hr
      have hls : (s.data.toList.take k).length = k := by rw [List.length_take]; simp; omega
      have HN : Hid (∀ pa' l' c' w', w'.ownsRow w.heap.size 5 1 (.slice pa' l' c') (2 * k + 2) (bytesV (hexL (s.data.toList.take k)) ++ [.int .u8 ((hexd q).toNat : Int), .int .u8 ((hexd r).toNat : Int)]) → (wr.alloc (.cells #[.int .u8 ((hexd q).toNat : Int), .int .u8 ((hexd r).toNat : Int)] 5)).drew.grownBy w' (Value.slice pa (2 * k) cap).ownBlock → DG w W2 w0.heap.size s (.slice pa' l' c') (.int .i64 ((k : Int) + 1)) w') := by
        refine Lib.hid fun pa' l' c' w' ho hg' => ?_
        have hl' : l' = 2 * (k + 1) := by
          rcases ho.2 with ⟨e, h0⟩ | ⟨g, cp, cur, e, _⟩
          · omega
          · injection e with _ e2
        subst hl'
        refine ⟨k + 1, rfl, by omega, ?_, ⟨_, _, rfl⟩, ?_, ?_⟩
        · rw [List.take_add_one, hc, Option.toList_some, hexL_snoc]
          simp only [bytesV, List.map_append, List.map_cons, List.map_nil] at ho ⊢
          rw [← HQ.out, ← HRR.out]
          exact ho
        · exact Below.grown (hb.trans (((alloc_below wr _).drew).mono hb.size)) hg' (by have := hb.size; simp; omega) (fun b hb' => (hown.lt b hb').1)
        · rw [hg'.block w0.heap.size (by have := (Array.getElem?_eq_some_iff.1 (hg.trans hC)).1; simp; omega) (fun e => own_ne_fr hown (hg.trans hC) hfr e.symm)]
          show (wr.heap.push _)[w0.heap.size]? = _
          rw [Array.getElem?_push, if_neg (by have := (Array.getElem?_eq_some_iff.1 (hg.trans hC)).1; omega)]
          exact hg
      have HO := Lib.hid hown
      have HBS := Lib.hid hb.size
      clear hcv hown
      go_wp2_with fail
      clear hcell
      go_region_law (first
        | (refine step_app (by rfl) _ _ 60 (by rfl) w.heap.size 5 (.int .u8 0) 1 Tryz.underlying60 info8 rfl _ (2 * k) (bytesV (hexL (s.data.toList.take k))) (by rfl) (by exact own_below HO.out ((alloc_below _ _).drew)) _ [.int .u8 ((hexd q).toNat : Int), .int .u8 ((hexd r).toNat : Int)] (by rfl) (by exact ⟨own_lit (heap_alloc_new _ _) (Nat.zero_le _) rfl (by omega), by simp [Value.oneCell']⟩) (by unfold maxLen; simp; omega) (by simp; omega) (by have := HBS.out; simp; omega) ?_; intro pa' l' c' w' ho hg'
           have HY := Lib.hid (HN.out _ _ _ _ (by simpa using ho) hg')
           clear ho hg'))
      all_goals
        go_wp2_with fail
        go_roundw
        case rel => exact HY.out
        case measure => simp only [intOf]; omega
    · have hk2 : k = s.size := by omega
      subst hk2
      have hnlt : ¬ ((s.size : Int) < (s.size : Int)) := by omega
      rw [List.take_of_length_le (by simp)] at hown
      have hback := conv_back hown
      have HB := Lib.hid hb
      clear hcv hg hown hb hlt hk
      go_wp2_with fail
      go_ret
      exact ⟨rfl, HB.out⟩
end Go.Proofs.YtokkbipdkakenaaGreatDoor

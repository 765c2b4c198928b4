/- Package shard: number, blob; slices.Chunk and its closure. -/
import Derived.Test.YtkohppalfcalbaaGreatWY1
import Derived.Test.YtkohppalfcalbaaGreatPU
import Derived.Sort.QuietTacIn
namespace Go.Proofs.YtkohppalfcalbaaGreat
open Go.RowKit

theorem snumber_any (n : Int) (w : World) : Calls Tryz.prog 130 #[.int .i64 n] w (Ans (.agg #[.int .i64 2, .int .i64 n, .string ⟨#[]⟩]) w) := by
  go_enter Tryz.func130, Tryz.ntmps130
  go_wp2
  exact bodyPost_ret (v := .agg #[.int .i64 2, .int .i64 n, .string ⟨#[]⟩]) (by simp [results, Tryz.results130, go_sem]) rfl ⟨rfl, alloc_below _ _⟩
theorem sblob_any (l : List UInt8) (A : Option Addr) (n cap : Nat) (hn : l.length = n) (w : World) (hr : RdB w w.heap.size A l) : Calls Tryz.prog 132 #[.slice A n cap] w (Ans (.agg #[.int .i64 5, .int .i64 0, .string (strB l)]) w) := by
  subst hn
  have hb := alloc_below w (.cells #[.int .i64 0, .int .i64 0, .string ⟨#[]⟩] 184)
  have cv := conv_rd (cap := cap) ((hr.below hb (Nat.le_refl _)).more hb.size) rfl (strB l) (strB_list l)
  generalize strB l = sb at cv ⊢
  generalize l.length = n at cv ⊢
  clear hr hb
  go_enter Tryz.func132, Tryz.ntmps132
  go_wp2
  exact bodyPost_ret (v := .agg #[.int .i64 5, .int .i64 0, .string sb]) (by simp [results, Tryz.results132, go_sem]) rfl ⟨rfl, alloc_below _ _⟩
/-- what Chunk answers -/
def ChkT (w : World) (A : Option Addr) (n c : Nat) (en : Ending) (w' : World) : Prop := en = .returned (.func (.func 170) #[] #[.pointer (some ⟨w.heap.size, 0, none⟩), .pointer (some ⟨w.heap.size + 1, 0, none⟩)]) ∧
  w'.heap[w.heap.size]? = some (.cells #[.slice A n c] 22 (0, 0)) ∧ w'.heap[w.heap.size + 1]? = some (.cells #[.int .i64 200] 3 (0, 0)) ∧ Below w.heap.size w w' ∧ w'.heap.size = w.heap.size + 2
set_option maxRecDepth 100000 in
theorem chunk_any (w : World) (A : Option Addr) (n c : Nat) : Calls Tryz.prog 131 #[.slice A n c, .int .i64 200] w (ChkT w A n c) := by
  have HY : Hid (ChkT w A n c (.returned (.func (.func 170) #[] #[.pointer (some ⟨w.heap.size, 0, none⟩), .pointer (some ⟨w.heap.size + 1, 0, none⟩)])) ((w.alloc (.cells #[.slice A n c] 22)).alloc (.cells #[.int .i64 200] 3))) := Lib.hid (by
    have e1 : (w.alloc (.cells #[.slice A n c] 22)).heap.size = w.heap.size + 1 := by simp
    refine ⟨rfl, ?_, ?_, (alloc_below w _).trans ((alloc_below _ _).mono (by simp)), by simp⟩
    · rw [Below.heap_alloc _ _ _ (by simp)]
      exact heap_alloc_new w _
    · have h := heap_alloc_new (w.alloc (.cells #[.slice A n c] 22)) (.cells #[.int .i64 200] 3)
      rw [e1] at h
      exact h)
  go_enter Tryz.func131, Tryz.ntmps131
  go_wp2_with fail
  go_ret
  exact HY.out
/-- the k-th piece of a row that lies at A -/
def chunkV (A : Option Addr) (n k : Nat) : Value := .slice (A.map fun x => x.add (200 * k)) (min 200 (n - 200 * k)) (min 200 (n - 200 * k))
attribute [local go_sem] Oper.semAt_some
set_option maxRecDepth 100000 in
set_option maxHeartbeats 8000000 in
theorem chunk_stops (n : Nat) {w : World} {b1 b2 n1 bl : Nat} {A : Option Addr} {rn rc : Nat} (hrc : rn ≤ rc) (hA : rn ≠ 0 → ∃ ad, A = some ad) (hx1 : w.heap[b1]? = some (.cells #[.slice A rn rc] 22 (0, 0))) (hx2 : w.heap[b2]? = some (.cells #[.int .i64 200] 3 (0, 0))) (h1 : b1 < n1 ∧ b1 ≠ bl) (h2 : b2 < n1 ∧ b2 ≠ bl) (hrn : rn ≤ 2000) :
    SeqStopsK Fence.wide n Tryz.prog 170 #[.pointer (some ⟨b1, 0, none⟩), .pointer (some ⟨b2, 0, none⟩)] (fun x : {k : Nat // k < (rn + 199) / 200} => #[chunkV A rn x.1]) (KpR n1 bl) (fun xs => xs.map (·.1) = List.range ((rn + 199) / 200)) (fun _ => True) ((rn + 199) / 200) w := fun l J Jx W hW hJ hJx hY h0 => by
  have HAb : Hid (∀ pre W1 W2, J pre W1 → Below W1.heap.size W1 W2 → J pre W2) := Lib.hid fun pre W1 W2 hj hb => hJ pre W1 W2 none hj (grownBy_below hb) (fun r e => by cases e)
  have hw1 := (hW.block b1 (Array.getElem?_eq_some_iff.1 hx1).1).trans hx1
  have hw2 := (hW.block b2 (Array.getElem?_eq_some_iff.1 hx2).1).trans hx2
  have HX : Hid (∀ W2, Only (fun j => j = bl ∨ n1 ≤ j) W W2 → W2.cell? ⟨b1, 0, none⟩ = some (.slice A rn rc) ∧ W2.cell? ⟨b2, 0, none⟩ = some (.int .i64 200)) := Lib.hid fun W2 hO =>
    ⟨by simp [World.cell?, (hO.block b1 (Array.getElem?_eq_some_iff.1 hw1).1 (by omega)).trans hw1], by simp [World.cell?, (hO.block b2 (Array.getElem?_eq_some_iff.1 hw2).1 (by omega)).trans hw2]⟩
  have H00 := Lib.hid h0
  clear hx1 hx2 hw1 hw2 h1 h2 hW hJ hJx h0
  show CallsIn Fence.wide n Tryz.prog 170 #[.func (.yield l) #[] #[], .pointer (some ⟨b1, 0, none⟩), .pointer (some ⟨b2, 0, none⟩)] W (fun e W' => (∃ v, e = .returned v) ∧ ((∃ xs : List {k : Nat // k < (rn + 199) / 200}, xs.map (·.1) = List.range ((rn + 199) / 200) ∧ J xs W') ∨ (∃ pre, True ∧ Jx pre W')))
  refine callsIn_of_wp Tryz.func170 rfl trivial ?_ rfl
  simp only [Tryz.ntmps170, List.size_toArray, List.length_cons, List.length_nil, Nat.reduceAdd, Nat.reduceSub, Array.replicate_succ, Array.replicate_zero, List.push_toArray, List.append_toArray, List.nil_append, List.cons_append]
  gi_wp2
  gi_loopw [4] (fun v wr => ∃ k i : Nat, i = 200 * k ∧ k ≤ (rn + 199) / 200 ∧ v = .int .i64 (i : Int) ∧ ∃ pre : List {k : Nat // k < (rn + 199) / 200}, pre.map (·.1) = List.range k ∧ J pre wr ∧ Only (fun j => j = bl ∨ n1 ≤ j) W wr) (fun v _ => rn + 200 - (intOf v).toNat)
  case atStart => exact ⟨0, 0, rfl, Nat.zero_le _, rfl, [], rfl, H00.out, Only.refl _ _⟩
  case round =>
    obtain ⟨k, i, hik, hkm, rfl, pre, hpre, hJp, hO⟩ := hrel
    obtain ⟨x1, x2⟩ := HX.out wr hO
    have hrni : (rn : Int) ≤ 2000 := by omega
    have hi0 : 0 ≤ (i : Int) := by omega
    rcases Nat.lt_or_ge i rn with hlt | hge
    · have hlti : (i : Int) < (rn : Int) := by omega
      obtain ⟨ad, rfl⟩ := hA (by omega)
      have hci : ¬ rc = i := by omega
      have hkm2 : k < (rn + 199) / 200 := by omega
      have hpl : pre.length < (rn + 199) / 200 := by
        have h6 := congrArg List.length hpre
        rw [List.length_map, List.length_range] at h6
        omega
      obtain ⟨m, hm⟩ : ∃ m, rn = i + m := ⟨rn - i, by omega⟩
      have hii : (i : Int) ≤ (rn : Int) := by omega
      have hrci : (rn : Int) ≤ (rc : Int) := by omega
      have hirc : i ≤ rc := by omega
      have hirn : i ≤ rn := by omega
      have HIK := Lib.hid hik
      have HM := Lib.hid hm
      have HHY := Lib.hid hY
      clear hik hm hY hA hkm
      gi_wp2
      gi_quiet_th (fail)
      have hE : (if ((rn - i : Nat) : Int) < 200 then ((rn - i : Nat) : Int) else 200) = ((min 200 (rn - i) : Nat) : Int) := by split <;> omega
      rw [hE]
      obtain ⟨E, hEe⟩ : ∃ E, min 200 (rn - i) = E := ⟨_, rfl⟩
      obtain ⟨fn9, tmps9, assign9, body9, hy, hR9⟩ := HHY.out pre ⟨k, hkm2⟩ (wr.drewN nq) (HAb.out _ _ _ hJp (drewN_below _ _)) hpl
      dsimp only [chunkV, Option.map_some] at hy
      rw [← HIK.out, hEe] at hy
      rw [hEe]
      have hE0 : 0 ≤ (E : Int) := by omega
      have hE1 : (i : Int) + (E : Int) ≤ (rn : Int) := by have := HM.out; omega
      have hE2 : i + E ≤ rn := by omega
      have hE3 : i + E ≤ rc := by omega
      have hE4 : (i : Int) ≤ (i : Int) + (E : Int) := by omega
      have hE5 : (i : Int) + (E : Int) ≤ (rc : Int) := by omega
      have hE6 : ¬ E = 0 := by have := HM.out; omega
      have hE7 : 0 < (E : Int) := by omega
      have HMX : Hid (∀ v : Value, v = .int .i64 ((i : Int) + 200) → intOf v = ((i + 200 : Nat) : Int)) := Lib.hid fun v hv => by rw [hv]; simp [intOf]
      have HE9 := Lib.hid hEe
      have HKP : Hid (∀ w3, J (pre ++ [⟨k, hkm2⟩]) w3 → KpR n1 bl (wr.drewN nq) w3 → ∃ pre2 : List {k : Nat // k < (rn + 199) / 200}, pre2.map (·.1) = List.range (k + 1) ∧ J pre2 w3 ∧ Only (fun j => j = bl ∨ n1 ≤ j) W w3) := Lib.hid fun w3 hj hk3 => ⟨_, by rw [List.map_append, hpre, List.range_succ]; rfl, hj, (hO.trans (Only.of_below (K := fun _ => False) (drewN_below _ _)) (fun _ _ e => e.elim)).trans hk3 (fun _ _ e => e)⟩
      have HKM := Lib.hid hkm2
      clear hE hEe hpre hJp hO hpl
      gi_wp2
      refine ⟨(fun h => (by cases h)), ?_⟩
      refine hR9.mono ?_
      rintro e9 w3 (⟨rfl, hJ3, hk3⟩ | ⟨rfl, hJx3⟩)
      · have HR9 := Lib.hid (HKP.out _ hJ3 hk3)
        obtain ⟨x1, x2⟩ := HX.out w3 (by obtain ⟨_, _, _, h⟩ := HR9.out; exact h)
        clear hJ3 hk3
        gi_wp2
        go_roundw
        case rel => exact ⟨k + 1, i + 200, by have := HIK.out; omega, by have := HKM.out; omega, by go_num, HR9.out⟩
        case measure => simp [intOf]; omega
      · have HR9 := Lib.hid hJx3
        clear hJx3
        gi_wp2
        refine bodyPost_ret (results_none rfl _ _ _) rfl ?_
        exact ⟨⟨_, rfl⟩, .inr ⟨_, trivial, HR9.out⟩⟩
    · have hlti : ¬ (i : Int) < (rn : Int) := by omega
      have HE : Hid (∃ xs : List {k : Nat // k < (rn + 199) / 200}, xs.map (·.1) = List.range ((rn + 199) / 200) ∧ J xs wr) := Lib.hid ⟨pre, by rw [hpre]; congr 1; omega, hJp⟩
      clear hpre hJp hO hY hik hkm
      gi_wp2
      go_end0
      exact ⟨⟨_, rfl⟩, .inl HE.out⟩
end Go.Proofs.YtkohppalfcalbaaGreat

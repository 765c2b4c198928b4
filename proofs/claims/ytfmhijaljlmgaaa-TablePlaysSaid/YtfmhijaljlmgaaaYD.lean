/- Package table's laws: what a script builds. -/
import Derived.Test.YtfmhijaljlmgaaaYC
import Derived.Test.YtfmhijaljlmgaaaPZ
import Derived.Test.YtfmhijaljlmgaaaPS
namespace Go.Proofs.Ytfmhijaljlmgaaa
open Go.RowKit

/-- what Drop leaves -/
def TaDrop (w0 : World) (q : Nat) (l : List (List UInt8 × List UInt8)) (key : List UInt8) (e : Ending) (w' : World) : Prop := ∃ (G D : Nat → Prop) (P : Nat) (ps : List Pg) (A : Option Addr) (n c : Nat), e = .returned (.tuple #[.slice A n c, .bool (getK l key).isSome]) ∧ TaW w0 w' G D q P ps (dropK l key) ∧ RdB w' w'.heap.size A ((getK l key).getD []) ∧ ((getK l key).getD []).length = n
theorem TaW.drop {w0 W : World} {G D : Nat → Prop} {q P : Nat} {ps : List Pg} {l : List (List UInt8 × List UInt8)} (h : TaW w0 W G D q P ps l) (key : List UInt8) (K : Option Addr) (kn kc : Nat) (hkn : key.length = kn) (hk : RdB W W.heap.size K key) :
    Calls Try.prog 10 #[.pointer (some ⟨q, 0, none⟩), .slice K kn kc] W (TaDrop w0 q l key) := by
  have hkv := h.kv
  subst hkv
  refine (drop_any h.tb key K kn kc hkn hk).mono ?_
  rintro e w' ⟨G', P', ps', A', n, c, rfl, h1, h2, h3, h4, h5, h6⟩
  exact ⟨G', D, P', ps', A', n, c, rfl, ⟨h1, h2, fun j hj => by
    rcases hj with hj | hj
    · rcases h3 j hj with h7 | h7
      · exact h.ge j (.inl h7)
      · exact Nat.le_trans h.bel.size h7
    · exact h.ge j (.inr hj), h.bel.trans (h4.below h.bel.size (fun j hj => h.ge j (.inl hj)))⟩, h5, h6⟩
theorem TaW.put2 {w0 W : World} {G D : Nat → Prop} {q P : Nat} {ps : List Pg} {l : List (List UInt8 × List UInt8)} (h : TaW w0 W G D q P ps l) (hl : l.length ≤ 899) (key row : List UInt8) (K A : Option Addr) (kn kc rn rc : Nat) (hkn : key.length = kn) (hrn : row.length = rn) (hkl : key.length ≤ 100000) (hrl : row.length ≤ 100000) (hk : RdB W W.heap.size K key) (hr : RdB W W.heap.size A row) :
    Calls Try.prog 8 #[.pointer (some ⟨q, 0, none⟩), .slice K kn kc, .slice A rn rc] W (fun e w' => TaPut w0 q l key row e w' ∧ Only G W w') := by
  have hkv := h.kv
  subst hkv
  refine (put_any h.tb (by simpa [Go.Proofs.Ytfmhijaljlmgaaa.kv] using hl) key row K A kn kc rn rc hkn hrn hkl hrl hk hr).mono ?_
  rintro e w' ⟨G', D', P', ps', A', n, c, rfl, h1, h2, h3, h4, h5, h6⟩
  exact ⟨⟨G', D', P', ps', A', n, c, rfl, ⟨h1, h2, fun j hj => by
    rcases h3 j hj with h7 | h7 | h7
    · exact h.ge j (.inl h7)
    · exact h.ge j (.inr h7)
    · exact Nat.le_trans h.bel.size h7, h.bel.trans (h4.below h.bel.size (fun j hj => h.ge j (.inl hj)))⟩, h5, h6⟩, h4⟩
theorem putK_len : ∀ (l : List (List UInt8 × List UInt8)) (k r : List UInt8), (putK l k r).length ≤ l.length + 1
  | [], _, _ => by simp [putK]
  | x :: l, k, r => by
    have := putK_len l k r
    simp only [putK]
    split
    · simp; omega
    · split
      · simp
      · simp
theorem dropK_len : ∀ (l : List (List UInt8 × List UInt8)) (k : List UInt8), (dropK l k).length ≤ l.length
  | [], _ => by simp [dropK]
  | x :: l, k => by
    have := dropK_len l k
    simp only [dropK]
    split <;> simp <;> omega
/-- acts that lie at A, below block B -/
def RdA8 (w : World) (B : Nat) (A : Option Addr) (l : List Act8) : Prop := l ≠ [] → ∃ b o, A = some ⟨b, o, none⟩ ∧ b < B ∧ ∀ j x, l[j]? = some x → w.cell? ⟨b, o + j * 3, none⟩ = some (.int .i64 x.k) ∧ w.cell? ⟨b, o + j * 3 + 1, none⟩ = some (.slice x.A x.l.length x.ac) ∧ w.cell? ⟨b, o + j * 3 + 2, none⟩ = some (.slice x.B x.m.length x.bc)
theorem RdA8.at_ {w w' : World} {B C k : Nat} {A : Option Addr} {l : List Act8} {x : Act8} (h : RdA8 w B A l) (hx : l[k]? = some x) (hb : Below C w w') (hC : B ≤ C) : ∃ b o, A = some ⟨b, o, none⟩ ∧ w'.cell? ⟨b, o + k * 3, none⟩ = some (.int .i64 x.k) ∧ w'.cell? ⟨b, o + k * 3 + 1, none⟩ = some (.slice x.A x.l.length x.ac) ∧ w'.cell? ⟨b, o + k * 3 + 2, none⟩ = some (.slice x.B x.m.length x.bc) := by
  obtain ⟨b, o, e, hlt, hc⟩ := h (fun e => by subst e; simp at hx)
  have hcell : ∀ j, w'.cell? ⟨b, j, none⟩ = w.cell? ⟨b, j, none⟩ := fun j => World.cell?_of_block (hb.block b (by omega))
  refine ⟨b, o, e, ?_⟩
  rw [hcell, hcell, hcell]
  exact hc k x hx
theorem box3Y {w : World} {b : Nat} {x y z : Value} {t : TypeId} {fr : Nat × Nat} (h : w.heap[b]? = some (.cells #[x, y, z] t fr)) : w.cell? ⟨b, 0, none⟩ = some x ∧ w.cell? ⟨b, 1, none⟩ = some y ∧ w.cell? ⟨b, 2, none⟩ = some z := by
  simp [World.cell?, h]
set_option maxRecDepth 100000 in
theorem fits8_any (k : Int) (A B : Option Addr) (an ac bn bc : Nat) (w : World) (ha : an ≤ maxLen) (hb : bn ≤ maxLen) : Calls Try.prog 6 #[.agg #[.int .i64 k, .slice A an ac, .slice B bn bc]] w (Ans (.bool (decide (an ≤ 40) && decide (bn ≤ 40))) w) := by
  have HB := Lib.hid (alloc_below w (.cells #[.int .i64 k, .slice A an ac, .slice B bn bc] 31))
  obtain ⟨x0, x1, x2⟩ := box3Y (heap_alloc_new w (.cells #[.int .i64 k, .slice A an ac, .slice B bn bc] 31))
  have ha' : (an : Int) ≤ 9223372036854775807 := by unfold maxLen at ha; omega
  have hb' : (bn : Int) ≤ 9223372036854775807 := by unfold maxLen at hb; omega
  have HAI : Hid ((an : Int) ≤ 9223372036854775807 ∧ (bn : Int) ≤ 9223372036854775807) := Lib.hid ⟨ha', hb'⟩
  clear ha hb ha' hb'
  by_cases h1 : an ≤ 40
  · have h1i : (an : Int) ≤ 40 := by omega
    by_cases h2 : bn ≤ 40
    · have h2i : (bn : Int) ≤ 40 := by omega
      rw [decide_eq_true h1, decide_eq_true h2]
      clear h1 h2
      go_enter Try.func6, Try.ntmps6
      go_wp2_with fail
      go_ret
      exact ⟨rfl, HB.out⟩
    · have h2i : ¬ (bn : Int) ≤ 40 := by omega
      rw [decide_eq_true h1, decide_eq_false h2]
      clear h1 h2
      go_enter Try.func6, Try.ntmps6
      go_wp2_with fail
      go_ret
      exact ⟨rfl, HB.out⟩
  · have h1i : ¬ (an : Int) ≤ 40 := by omega
    rw [decide_eq_false h1]
    clear h1
    go_enter Try.func6, Try.ntmps6
    go_wp2_with fail
    go_ret
    exact ⟨rfl, HB.out⟩
end Go.Proofs.Ytfmhijaljlmgaaa

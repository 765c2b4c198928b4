/- The document's Same. -/
import Derived.Test.YtjnjolhokcmmhaaKW
namespace Go.Proofs.Ytjnjolhokcmmhaa
open Go.RowKit

/-- are two lists one? -/
def sameL : List Val → List Val → Bool
  | [], [] => true
  | x :: a, y :: b => eqB x.k x.n x.s y.k y.n y.s && sameL a b
  | _, _ => false
theorem eqB_iff (x y : Val) : eqB x.k x.n x.s y.k y.n y.s = true ↔ x = y := by
  unfold eqB
  rw [decide_eq_true_iff]
  constructor
  · rintro ⟨a, b, c⟩; exact Val.ext' a b c
  · rintro rfl; exact ⟨rfl, rfl, rfl⟩
theorem sameL_iff (a b : List Val) : sameL a b = true ↔ a = b := by
  induction a generalizing b with
  | nil => cases b with
    | nil => simp [sameL]
    | cons y b => simp [sameL]
  | cons x a ih => cases b with
    | nil => simp [sameL]
    | cons y b =>
      simp only [sameL, Bool.and_eq_true, eqB_iff, ih, List.cons.injEq]
theorem sameL_self (a : List Val) : sameL a a = true := (sameL_iff a a).2 rfl
theorem sameL_len {a b : List Val} (h : a.length ≠ b.length) : sameL a b = false := by
  rw [Bool.eq_false_iff]
  intro h1
  exact h (by rw [(sameL_iff a b).1 h1])
theorem neV (a b d e : Int) (c f : ByteArray) (w : World) : (binOp .neq 68 (.agg #[.int .i64 a, .int .i64 b, .string c]) (.agg #[.int .i64 d, .int .i64 e, .string f])).run Try.prog w = .ok (.bool (!eqB a b c d e f)) w := by
  have h := eqV a b d e c f w
  rw [run_eql_struct] at h
  rw [run_neq_struct]
  generalize (Op.equalIn 10000 68 (.agg #[.int .i64 a, .int .i64 b, .string c]) (.agg #[.int .i64 d, .int .i64 e, .string f])).run Try.prog w = r at h ⊢
  cases r <;> simp [Result.andThen] at h ⊢
  exact h
theorem same_step {a b : List Val} {k : Nat} {x y : Val} (hx : a[k]? = some x) (hy : b[k]? = some y) : sameL (a.drop k) (b.drop k) = (eqB x.k x.n x.s y.k y.n y.s && sameL (a.drop (k + 1)) (b.drop (k + 1))) := by
  have h1 := (List.getElem?_eq_some_iff.1 hx)
  have h2 := (List.getElem?_eq_some_iff.1 hy)
  rw [List.drop_eq_getElem_cons h1.1, List.drop_eq_getElem_cons h2.1, h1.2, h2.2]
  rfl
/-- at the head of its loop -/
def SML (w : World) (a b : List Val) (v5 : Value) (wr : World) : Prop := ∃ k : Nat, v5 = .int .i64 k ∧ k ≤ a.length ∧ sameL a b = sameL (a.drop k) (b.drop k) ∧ Below w.heap.size w wr
attribute [local go_sem ↓] neV
set_option maxRecDepth 100000 in
set_option maxHeartbeats 8000000 in
theorem same_any (a b : List Val) (A C : Option Addr) (cap1 cap2 : Nat) (w : World) (hla : a.length ≤ 1000) (_hlb : b.length ≤ 1000) (hr : RdV w w.heap.size A a) (hs : RdV w w.heap.size C b) :
    Calls Try.prog 15 #[.slice A a.length cap1, .slice C b.length cap2] w (Ans (.bool (sameL a b)) w) := by
  by_cases hab : a.length = b.length
  · have HR := Lib.hid hr
    have HT := Lib.hid hs
    have HS : Hid (SML w a b (.int .i64 0) w) := Lib.hid ⟨0, rfl, Nat.zero_le _, rfl, Below.refl _ _⟩
    obtain ⟨res, hres⟩ : ∃ res, Hid (res = sameL a b) := ⟨_, Lib.hid rfl⟩
    rw [← hres.out]
    have HAB := Lib.hid hab
    rw [← hab]
    have hai : (a.length : Int) ≤ 1000 := by omega
    clear hr hs hla hab
    go_enter Try.func15, Try.ntmps15
    go_wp2_with fail
    go_loopw [5] (fun v5 wr => SML w a b v5 wr) (fun v5 _ => a.length - (intOf v5).toNat)
    case atStart => exact HS.out
    case round =>
      obtain ⟨k, rfl, hk, he, hb⟩ := hrel
      have HE := Lib.hid he
      have HB := Lib.hid hb
      clear he hb
      by_cases hlt : k < a.length
      · have hki : (k : Int) < (a.length : Int) := by omega
        have hkd : decide (k < a.length) = true := decide_eq_true hlt
        obtain ⟨x, hx⟩ : ∃ x, a[k]? = some x := ⟨_, List.getElem?_eq_getElem hlt⟩
        obtain ⟨y, hy⟩ : ∃ y, b[k]? = some y := ⟨_, List.getElem?_eq_getElem (by rw [← HAB.out]; exact hlt)⟩
        obtain ⟨b0, o0, hA, c0, c1, c2⟩ := HR.out.at_ hx HB.out (Nat.le_refl _)
        obtain ⟨b1, o1, hC, d0, d1, d2⟩ := HT.out.at_ hy HB.out (Nat.le_refl _)
        subst hA hC
        have HST := Lib.hid (same_step hx hy)
        have HBQ := Lib.hid (fun q => HB.out.trans ((drewN_below wr q).mono HB.out.size))
        cases h0 : eqB x.k x.n x.s y.k y.n y.s with
        | true =>
          have HN : Hid (∀ v5 q, v5 = .int .i64 ((k + 1 : Nat) : Int) → SML w a b v5 (wr.drewN q)) := Lib.hid fun v5 q h5 => ⟨k + 1, h5, hlt, by rw [HE.out, HST.out, h0]; rfl, HBQ.out q⟩
          clear hx hy hk
          go_wp2_with fail
          go_quiet (fail)
          go_wp2_with fail
          go_roundw
          case rel => first | exact HN.out _ _ (by go_num) | ((repeat apply Exists.intro); exact ⟨HN.out _ _ (by go_num), rfl⟩)
          case measure => simp [intOf]; omega
        | false =>
          have HRE : Hid (res = false) := Lib.hid (by rw [hres.out, HE.out, HST.out, h0]; rfl)
          clear hx hy hk
          go_wp2_with fail
          go_quiet (fail)
          go_wp2_with fail
          go_ret
          exact ⟨(by rw [HRE.out]; rfl), HBQ.out _⟩
      · have hkl : k = a.length := by omega
        have HRE : Hid (res = true) := Lib.hid (by
          rw [hres.out, HE.out, hkl, List.drop_length, HAB.out, List.drop_length]
          rfl)
        subst hkl
        have hnlt : ¬ ((a.length : Int) < (a.length : Int)) := by omega
        clear hlt hk
        go_wp2_with fail
        go_ret
        exact ⟨(by rw [HRE.out]; rfl), HB.out⟩
  · have HF := Lib.hid (sameL_len hab)
    have hn : ((a.length : Int) == (b.length : Int)) = false := beq_false_of_ne (by omega)
    have hn2 : ((a.length : Int) != (b.length : Int)) = true := by rw [bne, hn]; rfl
    clear hab hr hs
    go_enter Try.func15, Try.ntmps15
    go_wp2_with fail
    go_ret
    exact ⟨(by rw [HF.out]; rfl), Below.refl _ _⟩
end Go.Proofs.Ytjnjolhokcmmhaa

/- Package value: truth, isTruth, Right, magnitude, sign answer what the document says, for every value. -/
import Derived.Test.YtkohppalfcalbaaGreatRows
import Derived.WalkKit
import Derived.WalkSpells
import Derived.WalkLawsBesides
import Derived.RowKitTokens
import Derived.IntWalk
import Derived.Lib.Hide
import Derived.Deep.QuietTactic
import Derived.BigQuiet
import Derived.Deep.RegionHeld3
import Derived.Deep.RegionLaw
import Derived.Deep.DeepCutAuto
import Derived.Handy
namespace Go.Proofs.YtkohppalfcalbaaGreat
open Go.RowKit

def i64ok (n : Int) : Prop := -9223372036854775808 ≤ n ∧ n ≤ 9223372036854775807
/-- A VALUE: its kind, its number, its text. -/
structure Val where
  k : Int
  n : Int
  s : ByteArray
def Val.v (x : Val) : Value := .agg #[.int .i64 x.k, .int .i64 x.n, .string x.s]
def Val.ok (x : Val) : Prop := i64ok x.k ∧ i64ok x.n
def none_ : ByteArray := ⟨#[]⟩
def truthV (b : Bool) : Val := ⟨1, if b then 1 else 0, none_⟩
def Ans (v : Value) (w : World) : Ending → World → Prop := fun e w' => e = .returned v ∧ Below w.heap.size w w'
theorem alloc_below (w : World) (o : Obj) : Below w.heap.size w (w.alloc o) := (Below.refl _ _).alloc (Nat.le_refl _) o
theorem alloc2_below (w : World) (o p : Obj) : Below w.heap.size w ((w.alloc o).alloc p) := (alloc_below w o).alloc (by simp) p
theorem drew_below (w : World) : Below w.heap.size w w.drew := ⟨rfl, rfl, rfl, Nat.le_refl _, fun _ _ => rfl⟩
theorem drewN_below (w : World) (k : Nat) : Below w.heap.size w (w.drewN k) := ⟨rfl, rfl, rfl, Nat.le_refl _, fun _ _ => rfl⟩

theorem truth_any (b : Bool) (w : World) : Calls Tryz.prog 188 #[.bool b] w (Ans (truthV b).v w) := by
  cases b
  all_goals
    go_enter Tryz.func188, Tryz.ntmps188
    go_wp2
    exact bodyPost_ret (v := (truthV _).v) (by simp [results, Tryz.results188, go_sem, truthV, Val.v, none_]) rfl ⟨rfl, alloc_below _ _⟩
theorem bytes_inj (c f : ByteArray) : c.toList = f.toList ↔ c = f := by
  rw [ByteArray.toList_eq, ByteArray.toList_eq]
  exact ⟨fun h => ByteArray.ext (Array.toList_inj.mp h), fun h => by rw [h]⟩
/-- are two values one? -/
def eqB (a b : Int) (c : ByteArray) (d e : Int) (f : ByteArray) : Bool := decide (a = d ∧ b = e ∧ c = f)
theorem eqV (a b d e : Int) (c f : ByteArray) (w : World) : (binOp .eql 184 (.agg #[.int .i64 a, .int .i64 b, .string c]) (.agg #[.int .i64 d, .int .i64 e, .string f])).run Tryz.prog w = .ok (.bool (eqB a b c d e f)) w := by
  rw [run_eql_struct]
  unfold eqB
  by_cases h1 : a = d
  · by_cases h2 : b = e
    · by_cases h3 : c = f
      · subst h1 h2 h3; simp; go_simp
      · subst h1 h2
        have h4 : ¬ c.toList = f.toList := fun h => h3 ((bytes_inj c f).1 h)
        simp [h3]; go_simp
    · subst h1
      have h4 : (b == e) = false := by simpa using h2
      simp [h2]; go_simp
  · have h4 : (a == d) = false := by simpa using h1
    simp [h1]; go_simp
attribute [local go_sem ↓] eqV
theorem box3 {w : World} {b : Nat} {x y z : Value} {t : TypeId} {fr : Nat × Nat} (h : w.heap[b]? = some (.cells #[x, y, z] t fr)) : w.cell? ⟨b, 0, none⟩ = some x ∧ w.cell? ⟨b, 1, none⟩ = some y ∧ w.cell? ⟨b, 2, none⟩ = some z := by
  simp [World.cell?, h]
/-- the three values that are truths -/
def isT (x : Val) : Bool := eqB x.k x.n x.s 0 0 ⟨#[]⟩ || eqB x.k x.n x.s 1 0 ⟨#[]⟩ || eqB x.k x.n x.s 1 1 ⟨#[]⟩
theorem truth_no (w : World) : Calls Tryz.prog 188 #[.bool false] w (Ans (.agg #[.int .i64 1, .int .i64 0, .string ⟨#[]⟩]) w) := truth_any false w
theorem truth_yes (w : World) : Calls Tryz.prog 188 #[.bool true] w (Ans (.agg #[.int .i64 1, .int .i64 1, .string ⟨#[]⟩]) w) := truth_any true w
set_option maxRecDepth 100000 in
set_option maxHeartbeats 2000000 in
theorem isTruth_any (x : Val) (w : World) : Calls Tryz.prog 168 #[x.v] w (Ans (.bool (isT x)) w) := by
  obtain ⟨k, n, s⟩ := x
  unfold Val.v isT
  have HB := Lib.hid (alloc_below w (.cells #[.int .i64 k, .int .i64 n, .string s] 184)).drew
  have HX := Lib.hid (show (w.alloc (.cells #[.int .i64 k, .int .i64 n, .string s] 184)).drew.heap[w.heap.size]? = some (.cells #[.int .i64 k, .int .i64 n, .string s] 184 (0, 0)) from heap_alloc_new _ _)
  cases h1 : eqB k n s 0 0 ⟨#[]⟩
  · cases h2 : eqB k n s 1 0 ⟨#[]⟩
    · cases h3 : eqB k n s 1 1 ⟨#[]⟩
      all_goals
        go_enter Tryz.func168, Tryz.ntmps168
        go_wp2
        go_region_held3 (fun w' => w'.cell? ⟨w.heap.size, 0, none⟩ = some (.int .i64 k) ∧ w'.cell? ⟨w.heap.size, 1, none⟩ = some (.int .i64 n) ∧ w'.cell? ⟨w.heap.size, 2, none⟩ = some (.string s))
          (first | exact box3 HX.out | go_keep)
          (first
            | (go_at_call 188; first | ((with_reducible refine (truth_no _).mono ?_); rintro e w' ⟨rfl, hb⟩) | ((with_reducible refine (truth_yes _).mono ?_); rintro e w' ⟨rfl, hb⟩)
               have HX := Lib.hid ((hb.block _ (Array.getElem?_eq_some_iff.1 HX.out).1).trans HX.out)
               have HB := Lib.hid (HB.out.trans (hb.mono HB.out.size))))
        go_wp2_with fail
        go_ret
        exact ⟨rfl, HB.out⟩
    · go_enter Tryz.func168, Tryz.ntmps168
      go_wp2
      go_region_law (first
          | (go_simp; go_at_call 188; refine (truth_no _).mono ?_; rintro e w' ⟨rfl, hb⟩
             have HX := box3 ((hb.block _ (Array.getElem?_eq_some_iff.1 HX.out).1).trans HX.out)
             obtain ⟨x0, x1, x2⟩ := HX
             have HB := Lib.hid (HB.out.trans (hb.mono HB.out.size))))
      all_goals
        go_wp2_with fail
        go_ret
        exact ⟨rfl, HB.out⟩
  · go_enter Tryz.func168, Tryz.ntmps168
    go_wp2
    go_quiet (fail)
    go_wp2_with fail
    go_ret
    exact ⟨rfl, (alloc_below _ _).trans ((drewN_below _ _).mono (alloc_below _ _).size)⟩

/-- V1: is a value valid? -/
def rightB (x : Val) : Bool := if x.k = 0 ∨ x.k = 1 then isT x else if x.k = 2 ∨ x.k = 3 then decide (x.s = ⟨#[]⟩) else if x.k = 4 ∨ x.k = 5 then decide (x.n = 0 ∧ x.s.size ≤ 200) else false
theorem nonempty_bytes {s : ByteArray} (h : s ≠ ⟨#[]⟩) : ¬ s.toList = [] := fun e => h ((bytes_inj s ⟨#[]⟩).1 (by rw [e, ByteArray.toList_eq]))
set_option maxRecDepth 100000 in
set_option maxHeartbeats 2000000 in
theorem right_any (x : Val) (hl : x.s.size ≤ 9223372036854775807) (w : World) : Calls Tryz.prog 128 #[x.v] w (Ans (.bool (rightB x)) w) := by
  obtain ⟨k, n, s⟩ := x
  have HT : Hid (∀ w, Calls Tryz.prog 168 #[.agg #[.int .i64 k, .int .i64 n, .string s]] w (Ans (.bool (isT ⟨k, n, s⟩)) w)) := fun w => isTruth_any ⟨k, n, s⟩ w
  have HB := Lib.hid (alloc_below w (.cells #[.int .i64 k, .int .i64 n, .string s] 184))
  unfold Val.v
  by_cases h01 : k = 0 ∨ k = 1
  · have HE : Hid (rightB ⟨k, n, s⟩ = isT ⟨k, n, s⟩) := Lib.hid (by unfold rightB; rw [if_pos h01])
    rw [HE.out]
    clear HE
    generalize isT ⟨k, n, s⟩ = b at HT
    rcases h01 with rfl | rfl
    all_goals
      go_enter Tryz.func128, Tryz.ntmps128
      go_wp2_with (go_at_call 168; refine (HT.out _).mono ?_; rintro e w' ⟨rfl, hb⟩; have HB := Lib.hid (HB.out.trans (hb.mono HB.out.size)); clear hb)
      go_ret
      exact ⟨rfl, HB.out⟩
  · by_cases h23 : k = 2 ∨ k = 3
    · by_cases hs : s = ⟨#[]⟩
      · have HE : Hid (rightB ⟨k, n, s⟩ = true) := Lib.hid (by unfold rightB; rw [if_neg h01, if_pos h23]; simp [hs])
        rw [HE.out]
        subst hs
        clear HE h01
        rcases h23 with rfl | rfl
        all_goals
          go_enter Tryz.func128, Tryz.ntmps128
          go_wp2_with fail
          go_ret
          exact ⟨rfl, HB.out⟩
      · have HE : Hid (rightB ⟨k, n, s⟩ = false) := Lib.hid (by unfold rightB; rw [if_neg h01, if_pos h23]; simp [hs])
        rw [HE.out]
        have hs2 : s.toList.isEmpty = false := by have := nonempty_bytes hs; simpa using this
        clear HE h01 hs
        rcases h23 with rfl | rfl
        all_goals
          go_enter Tryz.func128, Tryz.ntmps128
          go_wp2_with fail
          go_ret
          exact ⟨rfl, HB.out⟩
    · by_cases h45 : k = 4 ∨ k = 5
      · have HE : Hid (rightB ⟨k, n, s⟩ = decide (n = 0 ∧ s.size ≤ 200)) := Lib.hid (by unfold rightB; rw [if_neg h01, if_neg h23, if_pos h45])
        rw [HE.out]
        clear HE h01 h23
        by_cases hn : n = 0
        · subst hn
          by_cases hs : s.size ≤ 200
          · have HR : Hid (decide ((0 : Int) = 0 ∧ s.size ≤ 200) = true) := Lib.hid (by simp [hs])
            rw [HR.out]
            have hsi : (s.size : Int) ≤ 200 := by omega
            clear HR hs
            rcases h45 with rfl | rfl
            all_goals
              go_enter Tryz.func128, Tryz.ntmps128
              go_wp2_with fail
              go_ret
              exact ⟨rfl, HB.out⟩
          · have HR : Hid (decide ((0 : Int) = 0 ∧ s.size ≤ 200) = false) := Lib.hid (by simp [hs])
            rw [HR.out]
            have hsi : ¬ (s.size : Int) ≤ 200 := by omega
            clear HR hs
            rcases h45 with rfl | rfl
            all_goals
              go_enter Tryz.func128, Tryz.ntmps128
              go_wp2_with fail
              go_ret
              exact ⟨rfl, HB.out⟩
        · have HR : Hid (decide (n = 0 ∧ s.size ≤ 200) = false) := Lib.hid (by simp [hn])
          rw [HR.out]
          have hni : (n == 0) = false := by simpa using hn
          clear HR hn
          rcases h45 with rfl | rfl
          all_goals
            go_enter Tryz.func128, Tryz.ntmps128
            go_wp2_with fail
            go_ret
            exact ⟨rfl, HB.out⟩
      · have HE : Hid (rightB ⟨k, n, s⟩ = false) := Lib.hid (by unfold rightB; rw [if_neg h01, if_neg h23, if_neg h45])
        rw [HE.out]
        have k0 : (k == 0) = false := by simp; omega
        have k1 : (k == 1) = false := by simp; omega
        have k2 : (k == 2) = false := by simp; omega
        have k3 : (k == 3) = false := by simp; omega
        have k4 : (k == 4) = false := by simp; omega
        have k5 : (k == 5) = false := by simp; omega
        clear HE h01 h23 h45
        go_enter Tryz.func128, Tryz.ntmps128
        go_wp2_with fail
        go_ret
        exact ⟨rfl, HB.out⟩
end Go.Proofs.YtkohppalfcalbaaGreat

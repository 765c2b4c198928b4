/- Package wal: find: a record's place, by halves. -/
import Derived.Test.YtknolgcbaoppcaaJD
namespace Go.Proofs.Ytknolgcbaoppcaa
open Go.RowKit

/-- where frames begin and end: they lie at A, below block B -/
def RdP (w : World) (B : Nat) (A : Option Addr) (l : List (Nat × Nat)) : Prop := l ≠ [] → ∃ b o, A = some ⟨b, o, none⟩ ∧ b < B ∧ ∀ j x, l[j]? = some x → w.cell? ⟨b, o + j * 2, none⟩ = some (.int .i64 (x.1 : Int)) ∧ w.cell? ⟨b, o + j * 2 + 1, none⟩ = some (.int .i64 (x.2 : Int))
theorem RdP.keep {w w' : World} {B : Nat} {A : Option Addr} {l : List (Nat × Nat)} (h : RdP w B A l) (hk : ∀ k, k < B → w'.heap[k]? = w.heap[k]?) : RdP w' B A l := fun hn => by
  obtain ⟨b, o, e, hb, hc⟩ := h hn
  have hcell : ∀ j, w'.cell? ⟨b, j, none⟩ = w.cell? ⟨b, j, none⟩ := fun j => World.cell?_of_block (hk b hb)
  exact ⟨b, o, e, hb, fun j c hj => by rw [hcell, hcell]; exact hc j c hj⟩
theorem RdP.below {w w' : World} {B C : Nat} {A : Option Addr} {l : List (Nat × Nat)} (h : RdP w B A l) (hb : Below C w w') (hC : B ≤ C) : RdP w' B A l := h.keep fun k hk => hb.block k (by omega)
theorem RdP.heap {w w' : World} {B : Nat} {A : Option Addr} {l : List (Nat × Nat)} (h : RdP w B A l) (e : w'.heap = w.heap) : RdP w' B A l := h.keep fun k _ => by rw [e]
theorem RdP.nil (w : World) (B : Nat) (A : Option Addr) : RdP w B A [] := fun h => absurd rfl h
theorem RdP.more {w : World} {B C : Nat} {A : Option Addr} {l : List (Nat × Nat)} (h : RdP w B A l) (hC : B ≤ C) : RdP w C A l := fun hn => by
  obtain ⟨b, o, e, hb, hc⟩ := h hn
  exact ⟨b, o, e, by omega, hc⟩
theorem RdP.at_ {w w' : World} {B C k : Nat} {A : Option Addr} {l : List (Nat × Nat)} {x : Nat × Nat} (h : RdP w B A l) (hx : l[k]? = some x) (hb : Below C w w') (hC : B ≤ C) : ∃ b o, A = some ⟨b, o, none⟩ ∧ w'.cell? ⟨b, o + k * 2, none⟩ = some (.int .i64 (x.1 : Int)) ∧ w'.cell? ⟨b, o + k * 2 + 1, none⟩ = some (.int .i64 (x.2 : Int)) := by
  obtain ⟨b, o, e, _, hc⟩ := (h.below hb hC) (fun e => by subst e; simp at hx)
  obtain ⟨c0, c1⟩ := hc k x hx
  exact ⟨b, o, e, c0, c1⟩
/-- which number comes first -/
def cmpZ (a b : Int) : Int := if a < b then -1 else if b < a then 1 else 0
set_option maxRecDepth 100000 in
theorem isNaN_any (a : Int) (w : World) : Calls Try.prog 100 #[.int .i64 a] w (Looks (.bool false) w) := by
  go_enter Try.func100, Try.ntmps100
  go_wp2_with fail
  go_ret
  exact ⟨by simp, rfl⟩
set_option maxRecDepth 100000 in
theorem compareZ_any (a b : Int) (w : World) : Calls Try.prog 77 #[.int .i64 a, .int .i64 b] w (Looks (.int .i64 (cmpZ a b)) w) := by
  unfold cmpZ
  go_enter Try.func77, Try.ntmps77
  go_wp2_with (go_at_call 100; refine (isNaN_any _ _).mono ?_; rintro e w2 ⟨rfl, rfl⟩)
  all_goals
    go_ret
    exact ⟨by simp [*] <;> omega, rfl⟩
set_option maxRecDepth 100000 in
theorem find1_any (x y n : Int) (w : World) : Calls Try.prog 76 #[.agg #[.int .i64 x, .int .i64 y], .int .i64 n] w (Ans (.int .i64 (cmpZ x n)) w) := by
  have HB := Lib.hid (alloc_below w (.cells #[.int .i64 x, .int .i64 y] 100))
  go_enter Try.func76, Try.ntmps76
  go_wp2_with (go_at_call 77; refine (compareZ_any _ _ _).mono ?_; rintro e w2 ⟨rfl, rfl⟩)
  go_ret
  exact ⟨rfl, HB.out⟩
/-- is the one at m the one that is sought? -/
def foundAt (ps : List (Nat × Nat)) (m : Nat) (n : Int) : Bool := match ps[m]? with
  | some x => decide ((x.1 : Int) = n)
  | none => false
/-- the first so many are below the number -/
structure SplitN (ps : List (Nat × Nat)) (n : Int) (m : Nat) : Prop where
  le : m ≤ ps.length
  lo : ∀ j x, ps[j]? = some x → j < m → (x.1 : Int) < n
  hi : ∀ j x, ps[j]? = some x → m ≤ j → n ≤ (x.1 : Int)
def BSL (w : World) (L m : Nat) (v9 v10 : Value) (wr : World) : Prop := ∃ i j : Nat, v9 = .int .i64 i ∧ v10 = .int .i64 j ∧ i ≤ m ∧ m ≤ j ∧ j ≤ L ∧ Below w.heap.size w wr
set_option maxRecDepth 100000 in
set_option maxHeartbeats 4000000 in
theorem search_any (ps : List (Nat × Nat)) (n : Int) (m : Nat) (hs : SplitN ps n m) (A : Option Addr) (cap : Nat) (w : World) (hl : ps.length ≤ 1000000) (hr : RdP w w.heap.size A ps) :
    Calls Try.prog 75 #[.slice A ps.length cap, .int .i64 n, .func (.func 76) #[] #[]] w (Ans (.tuple #[.int .i64 (m : Int), .bool (foundAt ps m n)]) w) := by
  have HR := Lib.hid hr
  have HS := Lib.hid hs
  have hli : (ps.length : Int) ≤ 1000000 := by omega
  have HL := Lib.hid hl
  have HST : Hid (BSL w ps.length m (.int .i64 0) (.int .i64 (ps.length : Int)) w) := Lib.hid ⟨0, _, rfl, rfl, Nat.zero_le _, hs.le, Nat.le_refl _, Below.refl _ _⟩
  obtain ⟨f, hf⟩ : ∃ f, Hid (f = foundAt ps m n) := ⟨_, Lib.hid rfl⟩
  rw [← hf.out]
  clear hr hs hl
  go_enter Try.func75, Try.ntmps75
  go_wp2_with fail
  go_loopw [9, 10] (fun v9 v10 wr => BSL w ps.length m v9 v10 wr) (fun v9 v10 _ => (intOf v10).toNat - (intOf v9).toNat)
  case atStart => exact HST.out
  case round =>
    obtain ⟨i, j, rfl, rfl, hi, hj, hjl, hb⟩ := hrel
    have HB := Lib.hid hb
    have hii : (i : Int) ≤ 1000000 := by omega
    have hji : (j : Int) ≤ 1000000 := by omega
    clear hb
    by_cases hlt : i < j
    · have hlti : (i : Int) < j := by omega
      obtain ⟨h, hh⟩ : ∃ h, h = (i + j) / 2 := ⟨_, rfl⟩
      have hhi : ((i : Int) + (j : Int)) / 2 = (h : Int) := by omega
      have h1 : i ≤ h := by omega
      have h2 : h < j := by omega
      have h3 : (h : Int) < (ps.length : Int) := by omega
      obtain ⟨x, hx⟩ : ∃ x, ps[h]? = some x := ⟨_, List.getElem?_eq_getElem (by omega)⟩
      obtain ⟨b0, o0, hA, c0, c1⟩ := HR.out.at_ hx HB.out (Nat.le_refl _)
      subst hA
      by_cases hxn : (x.1 : Int) < n
      · have hhm : h < m := by
          rcases Nat.lt_or_ge h m with h4 | h4
          · exact h4
          · have := HS.out.hi h x hx h4; omega
        have HN : Hid (∀ v9 w2, v9 = .int .i64 ((h + 1 : Nat) : Int) → Below wr.heap.size wr w2 → BSL w ps.length m v9 (.int .i64 (j : Int)) w2) := Lib.hid fun v9 w2 h9 hb2 => ⟨h + 1, j, h9, rfl, hhm, hj, hjl, HB.out.trans (hb2.mono HB.out.size)⟩
        have HF := Lib.hid (find1_any (x.1 : Int) (x.2 : Int) n)
        have hcz : cmpZ (x.1 : Int) n = -1 := by unfold cmpZ; rw [if_pos hxn]
        rw [hcz] at HF
        clear hcz hh hx hi hj hjl hxn hhm
        go_wp2_with (go_at_call 76; refine (HF.out _).mono ?_; rintro e w2 ⟨rfl, hb2⟩; have HY := Lib.hid (fun v9 h9 => HN.out v9 _ h9 hb2); clear hb2)
        go_roundw
        case rel => first | exact HY.out _ (by go_num) | ((repeat apply Exists.intro); exact ⟨HY.out _ (by go_num), rfl⟩)
        case measure => simp [intOf]; omega
      · have hhm : m ≤ h := by
          rcases Nat.lt_or_ge h m with h4 | h4
          · have := HS.out.lo h x hx h4; omega
          · exact h4
        have HN : Hid (∀ w2, Below wr.heap.size wr w2 → BSL w ps.length m (.int .i64 (i : Int)) (.int .i64 (h : Int)) w2) := Lib.hid fun w2 hb2 => ⟨i, h, rfl, rfl, hi, hhm, by omega, HB.out.trans (hb2.mono HB.out.size)⟩
        have HF := Lib.hid (find1_any (x.1 : Int) (x.2 : Int) n)
        obtain ⟨c, hc⟩ : ∃ c, c = cmpZ (x.1 : Int) n := ⟨_, rfl⟩
        have hcz : ¬ c < 0 := by rw [hc]; unfold cmpZ; rw [if_neg hxn]; split <;> omega
        rw [← hc] at HF
        clear hc hh hx hi hj hjl hxn hhm
        go_wp2_with (go_at_call 76; refine (HF.out _).mono ?_; rintro e w2 ⟨rfl, hb2⟩; have HY := Lib.hid (HN.out _ hb2); clear hb2)
        go_roundw
        case rel => first | exact HY.out | ((repeat apply Exists.intro); exact ⟨HY.out, rfl⟩)
        case measure => simp [intOf]; omega
    · have him : i = m := by omega
      subst him
      have hlti : ¬ (i : Int) < j := by omega
      by_cases hil : i < ps.length
      · have hili : (i : Int) < (ps.length : Int) := by omega
        obtain ⟨x, hx⟩ : ∃ x, ps[i]? = some x := ⟨_, List.getElem?_eq_getElem hil⟩
        obtain ⟨b0, o0, hA, c0, c1⟩ := HR.out.at_ hx HB.out (Nat.le_refl _)
        subst hA
        have HF := Lib.hid (find1_any (x.1 : Int) (x.2 : Int) n)
        obtain ⟨c, hc⟩ : ∃ c, c = cmpZ (x.1 : Int) n := ⟨_, rfl⟩
        have hcz : Hid (f = (c == 0)) := Lib.hid (by
          have := HS.out.hi i x hx (Nat.le_refl _)
          rw [hf.out, hc]; unfold cmpZ foundAt; rw [hx, if_neg (by omega)]
          by_cases h5 : n < (x.1 : Int)
          · rw [if_pos h5]; simp; omega
          · rw [if_neg h5]; simp; omega)
        rw [← hc] at HF
        clear hc hx hi hj hjl
        go_wp2_with (go_at_call 76; refine (HF.out _).mono ?_; rintro e w2 ⟨rfl, hb2⟩; have HY := Lib.hid (HB.out.trans (hb2.mono HB.out.size)); clear hb2)
        go_ret2
        exact ⟨by rw [hcz.out]; rfl, HY.out⟩
      · have hili : ¬ (i : Int) < (ps.length : Int) := by omega
        have hcz : Hid (f = false) := Lib.hid (by rw [hf.out]; unfold foundAt; rw [List.getElem?_eq_none (by omega)])
        clear hi hj hjl
        go_wp2_with fail
        go_ret2
        exact ⟨by rw [hcz.out]; rfl, HB.out⟩
set_option maxRecDepth 100000 in
theorem find_any (ps : List (Nat × Nat)) (n : Int) (m : Nat) (hs : SplitN ps n m) (A : Option Addr) (k cap : Nat) (hk : ps.length = k) (w : World) (hl : ps.length ≤ 1000000) (hr : RdP w w.heap.size A ps) :
    Calls Try.prog 60 #[.slice A k cap, .int .i64 n] w (Ans (.tuple #[.int .i64 (m : Int), .bool (foundAt ps m n)]) w) := by
  subst hk
  have HS := Lib.hid (search_any ps n m hs A cap w hl hr)
  clear hs hl hr
  go_enter Try.func60, Try.ntmps60
  go_wp2_with (go_at_call 75; refine HS.out.mono ?_; rintro e w2 ⟨rfl, hb⟩; have HY := Lib.hid hb; clear hb)
  go_ret2
  exact ⟨rfl, HY.out⟩
end Go.Proofs.Ytknolgcbaoppcaa

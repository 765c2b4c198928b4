/- Package wal: find: a record's place, by halves. -/
import Derived.Test.YtkohppalfcalbaaGreatJX
import Derived.Test.YtkohppalfcalbaaGreatDY
namespace Go.Proofs.YtkohppalfcalbaaGreat
section
open Go.RowKit

/-- where frames begin and end: they lie at A, below block B -/
def RdP (w : World) (B : Nat) (A : Option Addr) (l : List (Nat × Nat)) : Prop := l ≠ [] → ∃ b o, A = some ⟨b, o, none⟩ ∧ b < B ∧ ∀ j x, l[j]? = some x → w.cell? ⟨b, o + j * 2, none⟩ = some (.int .i64 (x.1 : Int)) ∧ w.cell? ⟨b, o + j * 2 + 1, none⟩ = some (.int .i64 (x.2 : Int))
theorem RdP.keep {w w' : World} {B : Nat} {A : Option Addr} {l : List (Nat × Nat)} (h : RdP w B A l) (hk : ∀ k, k < B → w'.heap[k]? = w.heap[k]?) : RdP w' B A l := fun hn => by
  obtain ⟨b, o, e, hb, hc⟩ := h hn
  have hcell : ∀ j, w'.cell? ⟨b, j, none⟩ = w.cell? ⟨b, j, none⟩ := fun j => World.cell?_of_block (hk b hb)
  exact ⟨b, o, e, hb, fun j c hj => by rw [hcell, hcell]; exact hc j c hj⟩
theorem RdP.below {w w' : World} {B C : Nat} {A : Option Addr} {l : List (Nat × Nat)} (h : RdP w B A l) (hb : Below C w w') (hC : B ≤ C) : RdP w' B A l := h.keep fun k hk => hb.block k (by omega)
theorem RdP.heap {w w' : World} {B : Nat} {A : Option Addr} {l : List (Nat × Nat)} (h : RdP w B A l) (e : w'.heap = w.heap) : RdP w' B A l := h.keep fun k _ => by rw [e]
theorem RdP.nil (w : World) (B : Nat) (A : Option Addr) : RdP w B A [] := fun h => absurd rfl h
theorem RdP.more {w : World} {B C : Nat} {A : Option Addr} {l : List (Nat × Nat)} (h : RdP w B A l) (hC : B ≤ C) : RdP w C A l := fun hn => by
  obtain ⟨b, o, e, hb, hc⟩ := h hn
  exact ⟨b, o, e, by omega, hc⟩
theorem RdP.at_ {w w' : World} {B C k : Nat} {A : Option Addr} {l : List (Nat × Nat)} {x : Nat × Nat} (h : RdP w B A l) (hx : l[k]? = some x) (hb : Below C w w') (hC : B ≤ C) : ∃ b o, A = some ⟨b, o, none⟩ ∧ w'.cell? ⟨b, o + k * 2, none⟩ = some (.int .i64 (x.1 : Int)) ∧ w'.cell? ⟨b, o + k * 2 + 1, none⟩ = some (.int .i64 (x.2 : Int)) := by
  obtain ⟨b, o, e, _, hc⟩ := (h.below hb hC) (fun e => by subst e; simp at hx)
  obtain ⟨c0, c1⟩ := hc k x hx
  exact ⟨b, o, e, c0, c1⟩
/-- which number comes first -/
def cmpZ (a b : Int) : Int := if a < b then -1 else if b < a then 1 else 0
set_option maxRecDepth 100000 in
theorem isNaN_any (a : Int) (w : World) : Calls Tryz.prog 173 #[.int .i64 a] w (Looks (.bool false) w) := by
  go_enter Tryz.func173, Tryz.ntmps173
  go_wp2_with fail
  go_ret
  exact ⟨by simp, rfl⟩
set_option maxRecDepth 100000 in
theorem compareZ_any (a b : Int) (w : World) : Calls Tryz.prog 140 #[.int .i64 a, .int .i64 b] w (Looks (.int .i64 (cmpZ a b)) w) := by
  unfold cmpZ
  go_enter Tryz.func140, Tryz.ntmps140
  go_wp2_with (go_at_call 173; refine (isNaN_any _ _).mono ?_; rintro e w2 ⟨rfl, rfl⟩)
  all_goals
    go_ret
    exact ⟨by simp [*] <;> omega, rfl⟩
set_option maxRecDepth 100000 in
theorem find1_any (x y n : Int) (w : World) : Calls Tryz.prog 139 #[.agg #[.int .i64 x, .int .i64 y], .int .i64 n] w (Ans (.int .i64 (cmpZ x n)) w) := by
  have HB := Lib.hid (alloc_below w (.cells #[.int .i64 x, .int .i64 y] 134))
  go_enter Tryz.func139, Tryz.ntmps139
  go_wp2_with (go_at_call 140; refine (compareZ_any _ _ _).mono ?_; rintro e w2 ⟨rfl, rfl⟩)
  go_ret
  exact ⟨rfl, HB.out⟩
/-- is the one at m the one that is sought? -/
def foundAt (ps : List (Nat × Nat)) (m : Nat) (n : Int) : Bool := match ps[m]? with
  | some x => decide ((x.1 : Int) = n)
  | none => false
/-- the first so many are below the number -/
structure SplitN (ps : List (Nat × Nat)) (n : Int) (m : Nat) : Prop where
  le : m ≤ ps.length
  lo : ∀ j x, ps[j]? = some x → j < m → (x.1 : Int) < n
  hi : ∀ j x, ps[j]? = some x → m ≤ j → n ≤ (x.1 : Int)
def BSL (w : World) (L m : Nat) (v9 v10 : Value) (wr : World) : Prop := ∃ i j : Nat, v9 = .int .i64 i ∧ v10 = .int .i64 j ∧ i ≤ m ∧ m ≤ j ∧ j ≤ L ∧ Below w.heap.size w wr
set_option maxRecDepth 100000 in
set_option maxHeartbeats 4000000 in
theorem search_any (ps : List (Nat × Nat)) (n : Int) (m : Nat) (hs : SplitN ps n m) (A : Option Addr) (cap : Nat) (w : World) (hl : ps.length ≤ 1000000) (hr : RdP w w.heap.size A ps) :
    Calls Tryz.prog 138 #[.slice A ps.length cap, .int .i64 n, .func (.func 139) #[] #[]] w (Ans (.tuple #[.int .i64 (m : Int), .bool (foundAt ps m n)]) w) := by
  have HR := Lib.hid hr
  have HS := Lib.hid hs
  have hli : (ps.length : Int) ≤ 1000000 := by omega
  have HL := Lib.hid hl
  have HST : Hid (BSL w ps.length m (.int .i64 0) (.int .i64 (ps.length : Int)) w) := Lib.hid ⟨0, _, rfl, rfl, Nat.zero_le _, hs.le, Nat.le_refl _, Below.refl _ _⟩
  obtain ⟨f, hf⟩ : ∃ f, Hid (f = foundAt ps m n) := ⟨_, Lib.hid rfl⟩
  rw [← hf.out]
  clear hr hs hl
  go_enter Tryz.func138, Tryz.ntmps138
  go_wp2_with fail
  go_loopw [9, 10] (fun v9 v10 wr => BSL w ps.length m v9 v10 wr) (fun v9 v10 _ => (intOf v10).toNat - (intOf v9).toNat)
  case atStart => exact HST.out
  case round =>
    obtain ⟨i, j, rfl, rfl, hi, hj, hjl, hb⟩ := hrel
    have HB := Lib.hid hb
    have hii : (i : Int) ≤ 1000000 := by omega
    have hji : (j : Int) ≤ 1000000 := by omega
    clear hb
    by_cases hlt : i < j
    · have hlti : (i : Int) < j := by omega
      obtain ⟨h, hh⟩ : ∃ h, h = (i + j) / 2 := ⟨_, rfl⟩
      have hhi : ((i : Int) + (j : Int)) / 2 = (h : Int) := by omega
      have h1 : i ≤ h := by omega
      have h2 : h < j := by omega
      have h3 : (h : Int) < (ps.length : Int) := by omega
      obtain ⟨x, hx⟩ : ∃ x, ps[h]? = some x := ⟨_, List.getElem?_eq_getElem (by omega)⟩
      obtain ⟨b0, o0, hA, c0, c1⟩ := HR.out.at_ hx HB.out (Nat.le_refl _)
      subst hA
      by_cases hxn : (x.1 : Int) < n
      · have hhm : h < m := by
          rcases Nat.lt_or_ge h m with h4 | h4
          · exact h4
          · have := HS.out.hi h x hx h4; omega
        have HN : Hid (∀ v9 w2, v9 = .int .i64 ((h + 1 : Nat) : Int) → Below wr.heap.size wr w2 → BSL w ps.length m v9 (.int .i64 (j : Int)) w2) := Lib.hid fun v9 w2 h9 hb2 => ⟨h + 1, j, h9, rfl, hhm, hj, hjl, HB.out.trans (hb2.mono HB.out.size)⟩
        have HF := Lib.hid (find1_any (x.1 : Int) (x.2 : Int) n)
        have hcz : cmpZ (x.1 : Int) n = -1 := by unfold cmpZ; rw [if_pos hxn]
        rw [hcz] at HF
        clear hcz hh hx hi hj hjl hxn hhm
        go_wp2_with (go_at_call 139; refine (HF.out _).mono ?_; rintro e w2 ⟨rfl, hb2⟩; have HY := Lib.hid (fun v9 h9 => HN.out v9 _ h9 hb2); clear hb2)
        go_roundw
        case rel => first | exact HY.out _ (by go_num) | ((repeat apply Exists.intro); exact ⟨HY.out _ (by go_num), rfl⟩)
        case measure => simp [intOf]; omega
      · have hhm : m ≤ h := by
          rcases Nat.lt_or_ge h m with h4 | h4
          · have := HS.out.lo h x hx h4; omega
          · exact h4
        have HN : Hid (∀ w2, Below wr.heap.size wr w2 → BSL w ps.length m (.int .i64 (i : Int)) (.int .i64 (h : Int)) w2) := Lib.hid fun w2 hb2 => ⟨i, h, rfl, rfl, hi, hhm, by omega, HB.out.trans (hb2.mono HB.out.size)⟩
        have HF := Lib.hid (find1_any (x.1 : Int) (x.2 : Int) n)
        obtain ⟨c, hc⟩ : ∃ c, c = cmpZ (x.1 : Int) n := ⟨_, rfl⟩
        have hcz : ¬ c < 0 := by rw [hc]; unfold cmpZ; rw [if_neg hxn]; split <;> omega
        rw [← hc] at HF
        clear hc hh hx hi hj hjl hxn hhm
        go_wp2_with (go_at_call 139; refine (HF.out _).mono ?_; rintro e w2 ⟨rfl, hb2⟩; have HY := Lib.hid (HN.out _ hb2); clear hb2)
        go_roundw
        case rel => first | exact HY.out | ((repeat apply Exists.intro); exact ⟨HY.out, rfl⟩)
        case measure => simp [intOf]; omega
    · have him : i = m := by omega
      subst him
      have hlti : ¬ (i : Int) < j := by omega
      by_cases hil : i < ps.length
      · have hili : (i : Int) < (ps.length : Int) := by omega
        obtain ⟨x, hx⟩ : ∃ x, ps[i]? = some x := ⟨_, List.getElem?_eq_getElem hil⟩
        obtain ⟨b0, o0, hA, c0, c1⟩ := HR.out.at_ hx HB.out (Nat.le_refl _)
        subst hA
        have HF := Lib.hid (find1_any (x.1 : Int) (x.2 : Int) n)
        obtain ⟨c, hc⟩ : ∃ c, c = cmpZ (x.1 : Int) n := ⟨_, rfl⟩
        have hcz : Hid (f = (c == 0)) := Lib.hid (by
          have := HS.out.hi i x hx (Nat.le_refl _)
          rw [hf.out, hc]; unfold cmpZ foundAt; rw [hx, if_neg (by omega)]
          by_cases h5 : n < (x.1 : Int)
          · rw [if_pos h5]; simp; omega
          · rw [if_neg h5]; simp; omega)
        rw [← hc] at HF
        clear hc hx hi hj hjl
        go_wp2_with (go_at_call 139; refine (HF.out _).mono ?_; rintro e w2 ⟨rfl, hb2⟩; have HY := Lib.hid (HB.out.trans (hb2.mono HB.out.size)); clear hb2)
        go_ret2
        exact ⟨by rw [hcz.out]; rfl, HY.out⟩
      · have hili : ¬ (i : Int) < (ps.length : Int) := by omega
        have hcz : Hid (f = false) := Lib.hid (by rw [hf.out]; unfold foundAt; rw [List.getElem?_eq_none (by omega)])
        clear hi hj hjl
        go_wp2_with fail
        go_ret2
        exact ⟨by rw [hcz.out]; rfl, HB.out⟩
set_option maxRecDepth 100000 in
theorem find_any (ps : List (Nat × Nat)) (n : Int) (m : Nat) (hs : SplitN ps n m) (A : Option Addr) (k cap : Nat) (hk : ps.length = k) (w : World) (hl : ps.length ≤ 1000000) (hr : RdP w w.heap.size A ps) :
    Calls Tryz.prog 97 #[.slice A k cap, .int .i64 n] w (Ans (.tuple #[.int .i64 (m : Int), .bool (foundAt ps m n)]) w) := by
  subst hk
  have HS := Lib.hid (search_any ps n m hs A cap w hl hr)
  clear hs hl hr
  go_enter Tryz.func97, Tryz.ntmps97
  go_wp2_with (go_at_call 138; refine HS.out.mono ?_; rintro e w2 ⟨rfl, hb⟩; have HY := Lib.hid hb; clear hb)
  go_ret2
  exact ⟨rfl, HY.out⟩
end

section
open Go.RowKit

theorem heap_two (w : World) (o p : Obj) : ((w.alloc o).alloc p).heap[w.heap.size + 1]? = some p := by
  have h := heap_alloc_new (w.alloc o) p
  have e : (w.alloc o).heap.size = w.heap.size + 1 := by simp
  rw [e] at h
  exact h
theorem heap_one (w : World) (o p : Obj) : ((w.alloc o).alloc p).heap[w.heap.size]? = some o := by
  have h := (alloc_below (w.alloc o) p).block w.heap.size (by simp)
  exact h.trans (heap_alloc_new w o)
theorem box1 {w : World} {b : Nat} {x : Value} {t : TypeId} {fr : Nat × Nat} (h : w.heap[b]? = some (.cells #[x] t fr)) : w.cell? ⟨b, 0, none⟩ = some x := by simp [World.cell?, h]
set_option maxRecDepth 100000 in
theorem ending1_any {w : World} {g1 g2 b o : Nat} {L cap : Nat} {off : Int} (i x : Nat) (hi : i < L) (hL : L ≤ 1000000) (h1 : w.cell? ⟨g1, 0, none⟩ = some (.slice (some ⟨b, o, none⟩) L cap)) (h2 : w.cell? ⟨g2, 0, none⟩ = some (.int .i64 off)) (h3 : w.cell? ⟨b, o + i * 2 + 1, none⟩ = some (.int .i64 (x : Int))) :
    Calls Tryz.prog 175 #[.int .i64 (i : Int), .pointer (some ⟨g1, 0, none⟩), .pointer (some ⟨g2, 0, none⟩)] w (LooksN (.bool (decide (off < (x : Int)))) w) := by
  have hii : (i : Int) < (L : Int) := by omega
  have hli : (L : Int) ≤ 1000000 := by omega
  clear hi hL
  go_enter Tryz.func175, Tryz.ntmps175
  go_wp2_with fail
  go_quiet (fail)
  go_wp2_with fail
  go_ret
  exact ⟨rfl, _, rfl⟩
/-- the first so many end at the offset or ahead of it -/
structure SplitE (ps : List (Nat × Nat)) (off : Int) (m : Nat) : Prop where
  le : m ≤ ps.length
  lo : ∀ j x, ps[j]? = some x → j < m → (x.2 : Int) ≤ off
  hi : ∀ j x, ps[j]? = some x → m ≤ j → off < (x.2 : Int)
def SSL (w : World) (L m : Nat) (v5 v6 : Value) (wr : World) : Prop := ∃ i j n : Nat, v5 = .int .i64 i ∧ v6 = .int .i64 j ∧ i ≤ m ∧ m ≤ j ∧ j ≤ L ∧ wr = w.drewN n
set_option maxRecDepth 100000 in
set_option maxHeartbeats 4000000 in
theorem sortSearch_any (ps : List (Nat × Nat)) (off : Int) (m : Nat) (hs : SplitE ps off m) (A : Option Addr) (cap g1 g2 : Nat) (w : World) (hl : ps.length ≤ 1000000) (hr : RdP w w.heap.size A ps) (h1 : w.cell? ⟨g1, 0, none⟩ = some (.slice A ps.length cap)) (h2 : w.cell? ⟨g2, 0, none⟩ = some (.int .i64 off)) :
    Calls Tryz.prog 174 #[.int .i64 (ps.length : Int), .func (.func 175) #[] #[.pointer (some ⟨g1, 0, none⟩), .pointer (some ⟨g2, 0, none⟩)]] w (LooksN (.int .i64 (m : Int)) w) := by
  have HR := Lib.hid hr
  have HS := Lib.hid hs
  have H1 := Lib.hid h1
  have H2 := Lib.hid h2
  have hli : (ps.length : Int) ≤ 1000000 := by omega
  have HL := Lib.hid hl
  have HST : Hid (SSL w ps.length m (.int .i64 0) (.int .i64 (ps.length : Int)) w) := Lib.hid ⟨0, _, 0, rfl, rfl, Nat.zero_le _, hs.le, Nat.le_refl _, rfl⟩
  clear hr hs hl h1 h2
  go_enter Tryz.func174, Tryz.ntmps174
  go_wp2_with fail
  go_loopw [5, 6] (fun v5 v6 wr => SSL w ps.length m v5 v6 wr) (fun v5 v6 _ => (intOf v6).toNat - (intOf v5).toNat)
  case atStart => exact HST.out
  case round =>
    obtain ⟨i, j, n, rfl, rfl, hi, hj, hjl, hw⟩ := hrel
    have HW := Lib.hid hw
    have hii : (i : Int) ≤ 1000000 := by omega
    have hji : (j : Int) ≤ 1000000 := by omega
    clear hw
    by_cases hlt : i < j
    · have hlti : (i : Int) < j := by omega
      obtain ⟨h, hh⟩ : ∃ h, h = (i + j) / 2 := ⟨_, rfl⟩
      have hhi : ((i : Int) + (j : Int)) / 2 = (h : Int) := by omega
      have h1 : i ≤ h := by omega
      have h2 : h < j := by omega
      have h3 : (h : Int) < (ps.length : Int) := by omega
      obtain ⟨x, hx⟩ : ∃ x, ps[h]? = some x := ⟨_, List.getElem?_eq_getElem (by omega)⟩
      obtain ⟨b0, o0, hA, c0, c1⟩ := HR.out.at_ hx (Below.refl w.heap.size w) (Nat.le_refl _)
      have HF : Hid (Calls Tryz.prog 175 #[.int .i64 (h : Int), .pointer (some ⟨g1, 0, none⟩), .pointer (some ⟨g2, 0, none⟩)] wr (LooksN (.bool (decide (off < (x.2 : Int)))) wr)) := Lib.hid (by
        have e1 := H1.out
        have e2 := H2.out
        rw [hA] at e1
        rw [HW.out]
        exact ending1_any h x.2 (by omega) HL.out (w := w.drewN n) e1 e2 c1)
      by_cases hxn : off < (x.2 : Int)
      · have hhm : m ≤ h := by
          rcases Nat.lt_or_ge h m with h4 | h4
          · have := HS.out.lo h x hx h4; omega
          · exact h4
        have HN : Hid (∀ k, SSL w ps.length m (.int .i64 (i : Int)) (.int .i64 (h : Int)) (wr.drewN k)) := Lib.hid fun k => ⟨i, h, _, rfl, rfl, hi, hhm, by omega, by rw [HW.out, World.drewN_drewN]⟩
        rw [decide_eq_true hxn] at HF
        clear hh hx hi hj hjl hxn hhm c0 c1 hA
        go_wp2_with (go_at_call 175; refine HF.out.mono ?_; rintro e w2 ⟨rfl, k, hk⟩; have HY := HN.out k; rw [← hk] at HY; have HZ := Lib.hid HY; clear HY hk)
        go_roundw
        case rel => first | exact HZ.out | ((repeat apply Exists.intro); exact ⟨HZ.out, rfl⟩)
        case measure => simp [intOf]; omega
      · have hhm : h < m := by
          rcases Nat.lt_or_ge h m with h4 | h4
          · exact h4
          · have := HS.out.hi h x hx h4; omega
        have HN : Hid (∀ v5 k, v5 = .int .i64 ((h + 1 : Nat) : Int) → SSL w ps.length m v5 (.int .i64 (j : Int)) (wr.drewN k)) := Lib.hid fun v5 k h5 => ⟨h + 1, j, _, h5, rfl, hhm, hj, hjl, by rw [HW.out, World.drewN_drewN]⟩
        rw [decide_eq_false hxn] at HF
        clear hh hx hi hj hjl hxn hhm c0 c1 hA
        go_wp2_with (go_at_call 175; refine HF.out.mono ?_; rintro e w2 ⟨rfl, k, hk⟩; have HY := fun v5 => HN.out v5 k; rw [← hk] at HY; have HZ := Lib.hid HY; clear HY hk)
        go_roundw
        case rel => first | exact HZ.out _ (by go_num) | ((repeat apply Exists.intro); exact ⟨HZ.out _ (by go_num), rfl⟩)
        case measure => simp [intOf]; omega
    · have him : i = m := by omega
      subst him
      have hlti : ¬ (i : Int) < j := by omega
      clear hi hj hjl
      go_wp2_with fail
      go_ret
      exact ⟨rfl, _, HW.out⟩
set_option maxRecDepth 100000 in
set_option maxHeartbeats 1000000 in
theorem ending_any (ps : List (Nat × Nat)) (off : Int) (m : Nat) (hs : SplitE ps off m) (A : Option Addr) (k cap : Nat) (hk : ps.length = k) (w : World) (hl : ps.length ≤ 1000000) (hr : RdP w w.heap.size A ps) :
    Calls Tryz.prog 141 #[.slice A k cap, .int .i64 off] w (Ans (.int .i64 (m : Int)) w) := by
  subst hk
  have hmf : ∀ (fn : Fn) (first cap : Array Value) (w : World), (Instr.makeFunc fn first cap).run Tryz.prog w = .ok (.func fn first cap) w := fun _ _ _ _ => rfl
  have HB := Lib.hid (alloc2_below w (.cells #[.slice A ps.length cap] 128) (.cells #[.int .i64 off] 3))
  have HX1 : Hid (((w.alloc (.cells #[.slice A ps.length cap] 128)).alloc (.cells #[.int .i64 off] 3)).cell? ⟨w.heap.size, 0, none⟩ = some (.slice A ps.length cap)) := Lib.hid (box1 (heap_one w _ _))
  have HX2 : Hid (((w.alloc (.cells #[.slice A ps.length cap] 128)).alloc (.cells #[.int .i64 off] 3)).cell? ⟨w.heap.size + 1, 0, none⟩ = some (.int .i64 off)) := Lib.hid (box1 (heap_two w _ _))
  have HF := Lib.hid (sortSearch_any ps off m hs A cap w.heap.size (w.heap.size + 1) _ hl ((hr.below HB.out (Nat.le_refl _)).more HB.out.size) HX1.out HX2.out)
  clear hs hl hr
  go_enter Tryz.func141, Tryz.ntmps141
  go_wp2_with (go_at_call 174; refine HF.out.mono ?_; rintro e w2 ⟨rfl, k, hk⟩; have HY : Hid (Below w.heap.size w w2) := Lib.hid (by rw [hk]; exact HB.out.trans ((drewN_below _ k).mono HB.out.size)); clear hk)
  go_ret
  exact ⟨rfl, HY.out⟩
end

section
open Go.RowKit

/-- records as they stand on a disk -/
def bytesOf (rs : List (List UInt8)) : List UInt8 := rs.flatMap frameL
theorem bytesOf_nil : bytesOf [] = [] := rfl
theorem bytesOf_cons (r : List UInt8) (rs : List (List UInt8)) : bytesOf (r :: rs) = frameL r ++ bytesOf rs := rfl
theorem bytesOf_app (a b : List (List UInt8)) : bytesOf (a ++ b) = bytesOf a ++ bytesOf b := List.flatMap_append
theorem bytesOf_one (r : List UInt8) : bytesOf [r] = frameL r := by rw [bytesOf_cons, bytesOf_nil, List.append_nil]
theorem bytesOf_len (rs : List (List UInt8)) : rs.length * 5 ≤ (bytesOf rs).length := by
  induction rs with
  | nil => exact Nat.le_refl _
  | cons r rs ih => rw [bytesOf_cons, List.length_append, frameL_len, List.length_cons]; omega
/-- where their frames begin and end -/
def placesOf : Nat → List (List UInt8) → List (Nat × Nat)
  | _, [] => []
  | b, r :: rs => (b, b + (r.length + 5)) :: placesOf (b + (r.length + 5)) rs
theorem placesOf_len (b : Nat) (rs : List (List UInt8)) : (placesOf b rs).length = rs.length := by
  induction rs generalizing b with
  | nil => rfl
  | cons r rs ih => simp only [placesOf, List.length_cons, ih]
/-- where the j-th begins -/
def startOf (b : Nat) (rs : List (List UInt8)) (j : Nat) : Nat := b + (bytesOf (rs.take j)).length
theorem placesOf_get (b : Nat) (rs : List (List UInt8)) (j : Nat) (x : Nat × Nat) (h : (placesOf b rs)[j]? = some x) : j < rs.length ∧ x = (startOf b rs j, startOf b rs (j + 1)) := by
  induction rs generalizing b j with
  | nil => simp [placesOf] at h
  | cons r rs ih => cases j with
    | zero =>
      simp only [placesOf, List.getElem?_cons_zero, Option.some.injEq] at h
      refine ⟨by simp, ?_⟩
      rw [← h]
      simp only [startOf, List.take_zero, bytesOf_nil, List.length_nil, Nat.add_zero, List.take_succ_cons, bytesOf_one, frameL_len]
    | succ j =>
      simp only [placesOf, List.getElem?_cons_succ] at h
      obtain ⟨h1, h2⟩ := ih _ j h
      refine ⟨by simp; exact h1, ?_⟩
      rw [h2]
      simp only [startOf, List.take_succ_cons, bytesOf_cons, List.length_append, frameL_len]
      congr 1 <;> omega
theorem placesOf_some (b : Nat) (rs : List (List UInt8)) {j : Nat} (h : j < rs.length) : (placesOf b rs)[j]? = some (startOf b rs j, startOf b rs (j + 1)) := by
  obtain ⟨x, hx⟩ : ∃ x, (placesOf b rs)[j]? = some x := ⟨_, List.getElem?_eq_getElem (by rw [placesOf_len]; exact h)⟩
  rw [hx, (placesOf_get b rs j x hx).2]
theorem startOf_le (b : Nat) (rs : List (List UInt8)) {i j : Nat} (h : i ≤ j) : startOf b rs i ≤ startOf b rs j := by
  have e : rs.take j = rs.take i ++ (rs.drop i).take (j - i) := by
    rw [← List.take_add]
    congr 1
    omega
  unfold startOf
  rw [e, bytesOf_app, List.length_append]
  omega
theorem startOf_zero (b : Nat) (rs : List (List UInt8)) : startOf b rs 0 = b := rfl
theorem startOf_end (b : Nat) (rs : List (List UInt8)) {j : Nat} (h : rs.length ≤ j) : startOf b rs j = b + (bytesOf rs).length := by
  unfold startOf
  rw [List.take_of_length_le h]
theorem startOf_succ (b : Nat) (rs : List (List UInt8)) {j : Nat} {r : List UInt8} (h : rs[j]? = some r) : startOf b rs (j + 1) = startOf b rs j + (r.length + 5) := by
  have h1 := List.getElem?_eq_some_iff.1 h
  unfold startOf
  rw [List.take_succ_eq_append_getElem h1.1, h1.2, bytesOf_app, List.length_append, bytesOf_one, frameL_len]
  omega
theorem placesOf_app (b : Nat) (xs cs : List (List UInt8)) : placesOf b (xs ++ cs) = placesOf b xs ++ placesOf (b + (bytesOf xs).length) cs := by
  induction xs generalizing b with
  | nil => rfl
  | cons r xs ih =>
    simp only [List.cons_append, placesOf, ih, bytesOf_cons, List.length_append, frameL_len]
    congr 3
    omega
/-- those that are gone, ahead of the others: which of all are below the first one that is there -/
theorem splitN_pre {b : Nat} {pre : List (Nat × Nat)} (rs : List (List UInt8)) (h : ∀ x ∈ pre, x.1 < b) : SplitN (pre ++ placesOf b rs) (b : Int) pre.length := by
  refine ⟨by rw [List.length_append]; omega, fun j x hx hj => ?_, fun j x hx hj => ?_⟩
  · rw [List.getElem?_append_left hj] at hx
    have := h x (List.mem_of_getElem? hx)
    omega
  · rw [List.getElem?_append_right hj] at hx
    have h2 := (placesOf_get b rs _ x hx).2
    have h3 := startOf_le b rs (Nat.zero_le (j - pre.length))
    rw [startOf_zero] at h3
    rw [h2]
    show (b : Int) ≤ ((startOf b rs (j - pre.length) : Nat) : Int)
    omega
theorem splitE_all {b : Nat} {pre : List (Nat × Nat)} (rs : List (List UInt8)) (h : ∀ x ∈ pre, x.2 ≤ b) : SplitE (pre ++ placesOf b rs) ((b + (bytesOf rs).length : Nat) : Int) (pre.length + rs.length) := by
  refine ⟨by rw [List.length_append, placesOf_len]; omega, fun j x hx _ => ?_, fun j x hx hj => ?_⟩
  · by_cases hj : j < pre.length
    · rw [List.getElem?_append_left hj] at hx
      have := h x (List.mem_of_getElem? hx)
      omega
    · rw [List.getElem?_append_right (by omega)] at hx
      obtain ⟨h1, h2⟩ := placesOf_get b rs _ x hx
      have h3 := startOf_le b rs (i := j - pre.length + 1) (j := rs.length) (by omega)
      rw [startOf_end b rs (Nat.le_refl _)] at h3
      rw [h2]
      show ((startOf b rs (j - pre.length + 1) : Nat) : Int) ≤ _
      omega
  · rw [List.getElem?_eq_none (by rw [List.length_append, placesOf_len]; omega)] at hx
    cases hx
/-- places as cells -/
def placeV : List (Nat × Nat) → List Value
  | [] => []
  | x :: l => .int .i64 (x.1 : Int) :: .int .i64 (x.2 : Int) :: placeV l
theorem placeV_app (a b : List (Nat × Nat)) : placeV (a ++ b) = placeV a ++ placeV b := by
  induction a with
  | nil => rfl
  | cons x a ih => simp only [List.cons_append, placeV, ih]
theorem placeV_drop (l : List (Nat × Nat)) (k : Nat) : (placeV l).drop (k * 2) = placeV (l.drop k) := by
  induction l generalizing k with
  | nil => simp [placeV]
  | cons x l ih => cases k with
    | zero => rfl
    | succ k =>
      rw [show (k + 1) * 2 = k * 2 + 1 + 1 by omega]
      simp only [placeV, List.drop_succ_cons, ih]
theorem placeV_get {l : List (Nat × Nat)} {i : Nat} {x : Nat × Nat} (h : l[i]? = some x) : (placeV l)[i * 2]? = some (.int .i64 (x.1 : Int)) ∧ (placeV l)[i * 2 + 1]? = some (.int .i64 (x.2 : Int)) := by
  induction l generalizing i with
  | nil => simp at h
  | cons y l ih => cases i with
    | zero => simp at h; subst h; exact ⟨rfl, rfl⟩
    | succ i =>
      simp only [List.getElem?_cons_succ] at h
      obtain ⟨a, b⟩ := ih h
      rw [show (i + 1) * 2 = i * 2 + 1 + 1 by omega]
      simp only [placeV, List.getElem?_cons_succ]
      exact ⟨a, b⟩
theorem RdC.places {w : World} {B : Nat} {A : Option Addr} {l : List (Nat × Nat)} (h : RdC w B A (placeV l)) : RdP w B A l := fun hn => by
  obtain ⟨b, o, e, hb, hc⟩ := h (by cases l with
    | nil => exact absurd rfl hn
    | cons x l => simp [placeV])
  refine ⟨b, o, e, hb, fun j x hj => ?_⟩
  obtain ⟨h1, h2⟩ := placeV_get hj
  exact ⟨hc _ _ h1, by rw [Nat.add_assoc]; exact hc _ _ h2⟩
end
end Go.Proofs.YtkohppalfcalbaaGreat

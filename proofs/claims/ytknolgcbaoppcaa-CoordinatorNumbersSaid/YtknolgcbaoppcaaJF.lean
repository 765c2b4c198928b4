/- Package wal: ending: how many frames end at an offset or ahead of it, by halves. -/
import Derived.Test.YtknolgcbaoppcaaJE
namespace Go.Proofs.Ytknolgcbaoppcaa
open Go.RowKit

theorem heap_two (w : World) (o p : Obj) : ((w.alloc o).alloc p).heap[w.heap.size + 1]? = some p := by
  have h := heap_alloc_new (w.alloc o) p
  have e : (w.alloc o).heap.size = w.heap.size + 1 := by simp
  rw [e] at h
  exact h
theorem heap_one (w : World) (o p : Obj) : ((w.alloc o).alloc p).heap[w.heap.size]? = some o := by
  have h := (alloc_below (w.alloc o) p).block w.heap.size (by simp)
  exact h.trans (heap_alloc_new w o)
theorem box1 {w : World} {b : Nat} {x : Value} {t : TypeId} {fr : Nat × Nat} (h : w.heap[b]? = some (.cells #[x] t fr)) : w.cell? ⟨b, 0, none⟩ = some x := by simp [World.cell?, h]
set_option maxRecDepth 100000 in
theorem ending1_any {w : World} {g1 g2 b o : Nat} {L cap : Nat} {off : Int} (i x : Nat) (hi : i < L) (hL : L ≤ 1000000) (h1 : w.cell? ⟨g1, 0, none⟩ = some (.slice (some ⟨b, o, none⟩) L cap)) (h2 : w.cell? ⟨g2, 0, none⟩ = some (.int .i64 off)) (h3 : w.cell? ⟨b, o + i * 2 + 1, none⟩ = some (.int .i64 (x : Int))) :
    Calls Try.prog 99 #[.int .i64 (i : Int), .pointer (some ⟨g1, 0, none⟩), .pointer (some ⟨g2, 0, none⟩)] w (LooksN (.bool (decide (off < (x : Int)))) w) := by
  have hii : (i : Int) < (L : Int) := by omega
  have hli : (L : Int) ≤ 1000000 := by omega
  clear hi hL
  go_enter Try.func99, Try.ntmps99
  go_wp2_with fail
  go_quiet (fail)
  go_wp2_with fail
  go_ret
  exact ⟨rfl, _, rfl⟩
/-- the first so many end at the offset or ahead of it -/
structure SplitE (ps : List (Nat × Nat)) (off : Int) (m : Nat) : Prop where
  le : m ≤ ps.length
  lo : ∀ j x, ps[j]? = some x → j < m → (x.2 : Int) ≤ off
  hi : ∀ j x, ps[j]? = some x → m ≤ j → off < (x.2 : Int)
def SSL (w : World) (L m : Nat) (v5 v6 : Value) (wr : World) : Prop := ∃ i j n : Nat, v5 = .int .i64 i ∧ v6 = .int .i64 j ∧ i ≤ m ∧ m ≤ j ∧ j ≤ L ∧ wr = w.drewN n
set_option maxRecDepth 100000 in
set_option maxHeartbeats 4000000 in
theorem sortSearch_any (ps : List (Nat × Nat)) (off : Int) (m : Nat) (hs : SplitE ps off m) (A : Option Addr) (cap g1 g2 : Nat) (w : World) (hl : ps.length ≤ 1000000) (hr : RdP w w.heap.size A ps) (h1 : w.cell? ⟨g1, 0, none⟩ = some (.slice A ps.length cap)) (h2 : w.cell? ⟨g2, 0, none⟩ = some (.int .i64 off)) :
    Calls Try.prog 98 #[.int .i64 (ps.length : Int), .func (.func 99) #[] #[.pointer (some ⟨g1, 0, none⟩), .pointer (some ⟨g2, 0, none⟩)]] w (LooksN (.int .i64 (m : Int)) w) := by
  have HR := Lib.hid hr
  have HS := Lib.hid hs
  have H1 := Lib.hid h1
  have H2 := Lib.hid h2
  have hli : (ps.length : Int) ≤ 1000000 := by omega
  have HL := Lib.hid hl
  have HST : Hid (SSL w ps.length m (.int .i64 0) (.int .i64 (ps.length : Int)) w) := Lib.hid ⟨0, _, 0, rfl, rfl, Nat.zero_le _, hs.le, Nat.le_refl _, rfl⟩
  clear hr hs hl h1 h2
  go_enter Try.func98, Try.ntmps98
  go_wp2_with fail
  go_loopw [5, 6] (fun v5 v6 wr => SSL w ps.length m v5 v6 wr) (fun v5 v6 _ => (intOf v6).toNat - (intOf v5).toNat)
  case atStart => exact HST.out
  case round =>
    obtain ⟨i, j, n, rfl, rfl, hi, hj, hjl, hw⟩ := hrel
    have HW := Lib.hid hw
    have hii : (i : Int) ≤ 1000000 := by omega
    have hji : (j : Int) ≤ 1000000 := by omega
    clear hw
    by_cases hlt : i < j
    · have hlti : (i : Int) < j := by omega
      obtain ⟨h, hh⟩ : ∃ h, h = (i + j) / 2 := ⟨_, rfl⟩
      have hhi : ((i : Int) + (j : Int)) / 2 = (h : Int) := by omega
      have h1 : i ≤ h := by omega
      have h2 : h < j := by omega
      have h3 : (h : Int) < (ps.length : Int) := by omega
      obtain ⟨x, hx⟩ : ∃ x, ps[h]? = some x := ⟨_, List.getElem?_eq_getElem (by omega)⟩
      obtain ⟨b0, o0, hA, c0, c1⟩ := HR.out.at_ hx (Below.refl w.heap.size w) (Nat.le_refl _)
      have HF : Hid (Calls Try.prog 99 #[.int .i64 (h : Int), .pointer (some ⟨g1, 0, none⟩), .pointer (some ⟨g2, 0, none⟩)] wr (LooksN (.bool (decide (off < (x.2 : Int)))) wr)) := Lib.hid (by
        have e1 := H1.out
        have e2 := H2.out
        rw [hA] at e1
        rw [HW.out]
        exact ending1_any h x.2 (by omega) HL.out (w := w.drewN n) e1 e2 c1)
      by_cases hxn : off < (x.2 : Int)
      · have hhm : m ≤ h := by
          rcases Nat.lt_or_ge h m with h4 | h4
          · have := HS.out.lo h x hx h4; omega
          · exact h4
        have HN : Hid (∀ k, SSL w ps.length m (.int .i64 (i : Int)) (.int .i64 (h : Int)) (wr.drewN k)) := Lib.hid fun k => ⟨i, h, _, rfl, rfl, hi, hhm, by omega, by rw [HW.out, World.drewN_drewN]⟩
        rw [decide_eq_true hxn] at HF
        clear hh hx hi hj hjl hxn hhm c0 c1 hA
        go_wp2_with (go_at_call 99; refine HF.out.mono ?_; rintro e w2 ⟨rfl, k, hk⟩; have HY := HN.out k; rw [← hk] at HY; have HZ := Lib.hid HY; clear HY hk)
        go_roundw
        case rel => first | exact HZ.out | ((repeat apply Exists.intro); exact ⟨HZ.out, rfl⟩)
        case measure => simp [intOf]; omega
      · have hhm : h < m := by
          rcases Nat.lt_or_ge h m with h4 | h4
          · exact h4
          · have := HS.out.hi h x hx h4; omega
        have HN : Hid (∀ v5 k, v5 = .int .i64 ((h + 1 : Nat) : Int) → SSL w ps.length m v5 (.int .i64 (j : Int)) (wr.drewN k)) := Lib.hid fun v5 k h5 => ⟨h + 1, j, _, h5, rfl, hhm, hj, hjl, by rw [HW.out, World.drewN_drewN]⟩
        rw [decide_eq_false hxn] at HF
        clear hh hx hi hj hjl hxn hhm c0 c1 hA
        go_wp2_with (go_at_call 99; refine HF.out.mono ?_; rintro e w2 ⟨rfl, k, hk⟩; have HY := fun v5 => HN.out v5 k; rw [← hk] at HY; have HZ := Lib.hid HY; clear HY hk)
        go_roundw
        case rel => first | exact HZ.out _ (by go_num) | ((repeat apply Exists.intro); exact ⟨HZ.out _ (by go_num), rfl⟩)
        case measure => simp [intOf]; omega
    · have him : i = m := by omega
      subst him
      have hlti : ¬ (i : Int) < j := by omega
      clear hi hj hjl
      go_wp2_with fail
      go_ret
      exact ⟨rfl, _, HW.out⟩
set_option maxRecDepth 100000 in
set_option maxHeartbeats 1000000 in
theorem ending_any (ps : List (Nat × Nat)) (off : Int) (m : Nat) (hs : SplitE ps off m) (A : Option Addr) (k cap : Nat) (hk : ps.length = k) (w : World) (hl : ps.length ≤ 1000000) (hr : RdP w w.heap.size A ps) :
    Calls Try.prog 74 #[.slice A k cap, .int .i64 off] w (Ans (.int .i64 (m : Int)) w) := by
  subst hk
  have hmf : ∀ (fn : Fn) (first cap : Array Value) (w : World), (Instr.makeFunc fn first cap).run Try.prog w = .ok (.func fn first cap) w := fun _ _ _ _ => rfl
  have HB := Lib.hid (alloc2_below w (.cells #[.slice A ps.length cap] 94) (.cells #[.int .i64 off] 3))
  have HX1 : Hid (((w.alloc (.cells #[.slice A ps.length cap] 94)).alloc (.cells #[.int .i64 off] 3)).cell? ⟨w.heap.size, 0, none⟩ = some (.slice A ps.length cap)) := Lib.hid (box1 (heap_one w _ _))
  have HX2 : Hid (((w.alloc (.cells #[.slice A ps.length cap] 94)).alloc (.cells #[.int .i64 off] 3)).cell? ⟨w.heap.size + 1, 0, none⟩ = some (.int .i64 off)) := Lib.hid (box1 (heap_two w _ _))
  have HF := Lib.hid (sortSearch_any ps off m hs A cap w.heap.size (w.heap.size + 1) _ hl ((hr.below HB.out (Nat.le_refl _)).more HB.out.size) HX1.out HX2.out)
  clear hs hl hr
  go_enter Try.func74, Try.ntmps74
  go_wp2_with (go_at_call 98; refine HF.out.mono ?_; rintro e w2 ⟨rfl, k, hk⟩; have HY : Hid (Below w.heap.size w w2) := Lib.hid (by rw [hk]; exact HB.out.trans ((drewN_below _ k).mono HB.out.size)); clear hk)
  go_ret
  exact ⟨rfl, HY.out⟩
end Go.Proofs.Ytknolgcbaoppcaa

/- LetterSame: the law's own body answers true. -/
import Derived.Test.YtbbhddpfclgohaaZG
namespace Go.Proofs.Ytbbhddpfclgohaa
open Go.RowKit

/-- two boxes that a law laid, later -/
structure LS (w W : World) (o0 o1 : Obj) : Prop where
  bel : Below w.heap.size w W
  x : W.heap[w.heap.size]? = some o0
  y : W.heap[w.heap.size + 1]? = some o1
theorem LS.next {w W W' : World} {o0 o1 : Obj} (h : LS w W o0 o1) (hb : Below W.heap.size W W') : LS w W' o0 o1 :=
  ⟨h.bel.trans (hb.mono h.bel.size), (hb.block _ (Array.getElem?_eq_some_iff.1 h.x).1).trans h.x, (hb.block _ (Array.getElem?_eq_some_iff.1 h.y).1).trans h.y⟩
theorem LS.start (w : World) (o0 o1 : Obj) : LS w ((w.alloc o0).alloc o1) o0 o1 :=
  ⟨alloc2_below w o0 o1, ((alloc_below (w.alloc o0) o1).block _ (by simp)).trans (heap_alloc_new w o0), by
    have h := heap_alloc_new (w.alloc o0) o1
    rw [show (w.alloc o0).heap.size = w.heap.size + 1 by simp] at h
    exact h⟩
theorem sameL_comm (a b : Ltr) : sameL b a = sameL a b := by
  rw [Bool.eq_iff_iff, sameL_eq, sameL_eq]
  exact ⟨fun h => h.symm, fun h => h.symm⟩
theorem sameL_self (a : Ltr) : sameL a a = true := (sameL_eq a a).2 rfl
/-- the letters' strings -/
theorem sameL_bytes {a b : Ltr} (ha : a.right = true) (hb : b.right = true) (s t : ByteArray) (hs : s.data.toList = a.bytes) (ht : t.data.toList = b.bytes) : (s.toList == t.toList) = sameL a b := by
  rw [Bool.eq_iff_iff, sameL_eq, beq_iff_eq, ByteArray.toList_eq, ByteArray.toList_eq, hs, ht]
  constructor
  · intro h
    exact (Ltr.inj (u := []) (v := []) ha hb (by rw [h])).1
  · rintro rfl; rfl
def lv (l : Ltr) (A : Option Addr) (n cap : Nat) : Obj := .cells #[.int .i64 l.k, .int .i64 l.f, .int .i64 l.t, .int .i64 l.x, .slice A n cap] 25
set_option maxRecDepth 100000 in
set_option maxHeartbeats 8000000 in
theorem letterSame_law (a b : Ltr) (A B : Option Addr) (c d : Nat) (w : World) (ha : a.ns.length ≤ maxLen) (hb : b.ns.length ≤ maxLen) (hr : RdI w w.heap.size A a.ns) (hs : RdI w w.heap.size B b.ns) :
    Calls Try.prog 5 #[.agg #[.int .i64 a.k, .int .i64 a.f, .int .i64 a.t, .int .i64 a.x, .slice A a.ns.length c], .agg #[.int .i64 b.k, .int .i64 b.f, .int .i64 b.t, .int .i64 b.x, .slice B b.ns.length d]] w (Ans (.bool true) w) := by
  obtain ⟨n, hn⟩ : ∃ n, a.ns.length = n := ⟨_, rfl⟩
  obtain ⟨m, hm⟩ : ∃ m, b.ns.length = m := ⟨_, rfl⟩
  rw [hn] at ha ⊢
  rw [hm] at hb ⊢
  have HB : Hid (LS w ((w.alloc (lv a A n c)).alloc (lv b B m d)) (lv a A n c) (lv b B m d)) := Lib.hid (LS.start w _ _)
  have HR : Hid (∀ W, Below w.heap.size w W → RdI W W.heap.size A a.ns) := Lib.hid fun W hb => (hr.below hb (Nat.le_refl _)).more hb.size
  have HS : Hid (∀ W, Below w.heap.size w W → RdI W W.heap.size B b.ns) := Lib.hid fun W hb => (hs.below hb (Nat.le_refl _)).more hb.size
  obtain ⟨x0, x1, x2, x3, x4⟩ := box5 HB.out.x
  obtain ⟨y0, y1, y2, y3, y4⟩ := box5 HB.out.y
  have HL := Lib.hid aliveZ_any
  unfold lv at x0 x1 x2 x3 x4 y0 y1 y2 y3 y4
  have hni : (n : Int) ≤ 9223372036854775807 := by unfold maxLen at ha; omega
  have hmi : (m : Int) ≤ 9223372036854775807 := by unfold maxLen at hb; omega
  clear hr hs
  by_cases h1 : n ≤ 300
  · by_cases h2 : m ≤ 300
    · have h1i : ¬ (300 : Int) < (n : Int) := by omega
      have h2i : ¬ (300 : Int) < (m : Int) := by omega
      have HAB := Lib.hid (fun W hW => sameL_any a b A B n m c d hn hm (by omega) (by omega) W (HR.out W hW) (HS.out W hW))
      have HBA := Lib.hid (fun W hW => sameL_any b a B A m n d c hm hn (by omega) (by omega) W (HS.out W hW) (HR.out W hW))
      have HAA := Lib.hid (fun W hW => sameL_any a a A A n n c c hn hn (by omega) (by omega) W (HR.out W hW) (HR.out W hW))
      have HRF := Lib.hid (fun W hW => refSameL_any a b A B n m c d hn hm (by omega) (by omega) W (HR.out W hW) (HS.out W hW))
      have HEA := Lib.hid (fun W hW => encodeL_any a A n c hn (by omega) W (HR.out W hW))
      have HEB := Lib.hid (fun W hW => encodeL_any b B m d hm (by omega) W (HS.out W hW))
      rw [sameL_comm a b] at HBA
      rw [sameL_self a] at HAA
      obtain ⟨s, hs⟩ : ∃ s, s = sameL a b := ⟨_, rfl⟩
      have HST : Hid (∀ (S T : ByteArray), a.right = true → b.right = true → S.data.toList = a.bytes → T.data.toList = b.bytes → (S.toList == T.toList) = s) := Lib.hid fun S T h1 h2 h3 h4 => (sameL_bytes h1 h2 S T h3 h4).trans hs.symm
      rw [← hs] at HAB HBA HRF
      clear h1 h2 hn hm ha hb hs
      have hss : (s != s) = false := by cases s <;> rfl
      have hse : (s == s) = true := by cases s <;> rfl
      obtain ⟨S, hS⟩ := ba_of a.bytes
      obtain ⟨T, hT⟩ := ba_of b.bytes
      have HS2 := Lib.hid hS
      have HT2 := Lib.hid hT
      clear hS hT
      cases hRa : a.right <;> cases hRb : b.right
      · have HEA := Lib.hid (fun W hW => encL_no hRa (HEA.out W hW))
        have HEB := Lib.hid (fun W hW => encL_no hRb (HEB.out W hW))
        clear hRa hRb HST
        obtain ⟨k, f, t, x, ns⟩ := a
        obtain ⟨k', f', t', x', ms⟩ := b
        unfold lv at HB
        simp only at *
        go_enter Try.func5, Try.ntmps5
        go_wp2_with (first
          | (go_at_call 15; first | ((with_reducible refine (HAB.out _ HB.out.bel).mono ?_); rintro e w2 ⟨rfl, hb⟩) | ((with_reducible refine (HBA.out _ HB.out.bel).mono ?_); rintro e w2 ⟨rfl, hb⟩) | ((with_reducible refine (HAA.out _ HB.out.bel).mono ?_); rintro e w2 ⟨rfl, hb⟩)
             have HB := Lib.hid (HB.out.next hb)
             clear x0 x1 x2 x3 x4 y0 y1 y2 y3 y4 hb
             obtain ⟨x0, x1, x2, x3, x4⟩ := box5 HB.out.x
             obtain ⟨y0, y1, y2, y3, y4⟩ := box5 HB.out.y)
          | (go_at_call 12; refine (HRF.out _ HB.out.bel).mono ?_; rintro e w3 ⟨rfl, hb⟩
             have HB := Lib.hid (HB.out.next hb)
             clear x0 x1 x2 x3 x4 y0 y1 y2 y3 y4 hb
             obtain ⟨x0, x1, x2, x3, x4⟩ := box5 HB.out.x
             obtain ⟨y0, y1, y2, y3, y4⟩ := box5 HB.out.y)
          | (go_at_call 8; (with_reducible refine (HEA.out _ HB.out.bel).mono ?_); rintro e w4 ⟨rfl, hb⟩
             have HB := Lib.hid (HB.out.next hb)
             clear x0 x1 x2 x3 x4 y0 y1 y2 y3 y4 hb
             obtain ⟨x0, x1, x2, x3, x4⟩ := box5 HB.out.x
             obtain ⟨y0, y1, y2, y3, y4⟩ := box5 HB.out.y)
          | (go_at_call 8; (with_reducible refine (HEB.out _ HB.out.bel).mono ?_); rintro e w5 ⟨rfl, hb⟩
             have HB := Lib.hid (HB.out.next hb)
             clear x0 x1 x2 x3 x4 y0 y1 y2 y3 y4 hb)
          | (go_at_call 7; refine (HL.out _).mono ?_; rintro e w6 ⟨rfl, hb⟩
             have HB := Lib.hid (HB.out.next hb)
             clear hb))
        go_ret
        exact ⟨rfl, HB.out.bel⟩
      · have HEA := Lib.hid (fun W hW => encL_no hRa (HEA.out W hW))
        have HEB := Lib.hid (fun W hW => encL_yes hRb (HEB.out W hW))
        clear hRa hRb HST
        obtain ⟨k, f, t, x, ns⟩ := a
        obtain ⟨k', f', t', x', ms⟩ := b
        unfold lv at HB
        simp only at *
        go_enter Try.func5, Try.ntmps5
        go_wp2_with (first
          | (go_at_call 15; first | ((with_reducible refine (HAB.out _ HB.out.bel).mono ?_); rintro e w2 ⟨rfl, hb⟩) | ((with_reducible refine (HBA.out _ HB.out.bel).mono ?_); rintro e w2 ⟨rfl, hb⟩) | ((with_reducible refine (HAA.out _ HB.out.bel).mono ?_); rintro e w2 ⟨rfl, hb⟩)
             have HB := Lib.hid (HB.out.next hb)
             clear x0 x1 x2 x3 x4 y0 y1 y2 y3 y4 hb
             obtain ⟨x0, x1, x2, x3, x4⟩ := box5 HB.out.x
             obtain ⟨y0, y1, y2, y3, y4⟩ := box5 HB.out.y)
          | (go_at_call 12; refine (HRF.out _ HB.out.bel).mono ?_; rintro e w3 ⟨rfl, hb⟩
             have HB := Lib.hid (HB.out.next hb)
             clear x0 x1 x2 x3 x4 y0 y1 y2 y3 y4 hb
             obtain ⟨x0, x1, x2, x3, x4⟩ := box5 HB.out.x
             obtain ⟨y0, y1, y2, y3, y4⟩ := box5 HB.out.y)
          | (go_at_call 8; (with_reducible refine (HEA.out _ HB.out.bel).mono ?_); rintro e w4 ⟨rfl, hb⟩
             have HB := Lib.hid (HB.out.next hb)
             clear x0 x1 x2 x3 x4 y0 y1 y2 y3 y4 hb
             obtain ⟨x0, x1, x2, x3, x4⟩ := box5 HB.out.x
             obtain ⟨y0, y1, y2, y3, y4⟩ := box5 HB.out.y)
          | (go_at_call 8; (with_reducible refine (HEB.out _ HB.out.bel).mono ?_); rintro e w5 ⟨v5, rfl, ho5, hb⟩
             have HB := Lib.hid (HB.out.next hb)
             have HOB := Lib.hid ho5
             clear ho5
             clear x0 x1 x2 x3 x4 y0 y1 y2 y3 y4 hb)
          | (go_at_call 7; refine (HL.out _).mono ?_; rintro e w6 ⟨rfl, hb⟩
             have HB := Lib.hid (HB.out.next hb)
             clear hb))
        go_ret
        exact ⟨rfl, HB.out.bel⟩
      · have HEA := Lib.hid (fun W hW => encL_yes hRa (HEA.out W hW))
        have HEB := Lib.hid (fun W hW => encL_no hRb (HEB.out W hW))
        clear hRa hRb HST
        obtain ⟨k, f, t, x, ns⟩ := a
        obtain ⟨k', f', t', x', ms⟩ := b
        unfold lv at HB
        simp only at *
        go_enter Try.func5, Try.ntmps5
        go_wp2_with (first
          | (go_at_call 15; first | ((with_reducible refine (HAB.out _ HB.out.bel).mono ?_); rintro e w2 ⟨rfl, hb⟩) | ((with_reducible refine (HBA.out _ HB.out.bel).mono ?_); rintro e w2 ⟨rfl, hb⟩) | ((with_reducible refine (HAA.out _ HB.out.bel).mono ?_); rintro e w2 ⟨rfl, hb⟩)
             have HB := Lib.hid (HB.out.next hb)
             clear x0 x1 x2 x3 x4 y0 y1 y2 y3 y4 hb
             obtain ⟨x0, x1, x2, x3, x4⟩ := box5 HB.out.x
             obtain ⟨y0, y1, y2, y3, y4⟩ := box5 HB.out.y)
          | (go_at_call 12; refine (HRF.out _ HB.out.bel).mono ?_; rintro e w3 ⟨rfl, hb⟩
             have HB := Lib.hid (HB.out.next hb)
             clear x0 x1 x2 x3 x4 y0 y1 y2 y3 y4 hb
             obtain ⟨x0, x1, x2, x3, x4⟩ := box5 HB.out.x
             obtain ⟨y0, y1, y2, y3, y4⟩ := box5 HB.out.y)
          | (go_at_call 8; (with_reducible refine (HEA.out _ HB.out.bel).mono ?_); rintro e w4 ⟨v, rfl, ho, hb⟩
             have HB := Lib.hid (HB.out.next hb)
             have HOA := Lib.hid ho
             clear ho
             clear x0 x1 x2 x3 x4 y0 y1 y2 y3 y4 hb
             obtain ⟨x0, x1, x2, x3, x4⟩ := box5 HB.out.x
             obtain ⟨y0, y1, y2, y3, y4⟩ := box5 HB.out.y)
          | (go_at_call 8; (with_reducible refine (HEB.out _ HB.out.bel).mono ?_); rintro e w5 ⟨rfl, hb⟩
             have HB := Lib.hid (HB.out.next hb)
             have HOA := Lib.hid (HOA.out.below hb)
             clear x0 x1 x2 x3 x4 y0 y1 y2 y3 y4 hb)
          | (go_at_call 7; refine (HL.out _).mono ?_; rintro e w6 ⟨rfl, hb⟩
             have HB := Lib.hid (HB.out.next hb)
             clear hb))
        go_ret
        exact ⟨rfl, HB.out.bel⟩
      · have HEA := Lib.hid (fun W hW => encL_yes hRa (HEA.out W hW))
        have HEB := Lib.hid (fun W hW => encL_yes hRb (HEB.out W hW))
        have hST := HST.out S T hRa hRb HS2.out HT2.out
        clear hRa hRb HST
        obtain ⟨k, f, t, x, ns⟩ := a
        obtain ⟨k', f', t', x', ms⟩ := b
        unfold lv at HB
        simp only at *
        go_enter Try.func5, Try.ntmps5
        go_wp2_with (first
          | (go_at_call 15; first | ((with_reducible refine (HAB.out _ HB.out.bel).mono ?_); rintro e w2 ⟨rfl, hb⟩) | ((with_reducible refine (HBA.out _ HB.out.bel).mono ?_); rintro e w2 ⟨rfl, hb⟩) | ((with_reducible refine (HAA.out _ HB.out.bel).mono ?_); rintro e w2 ⟨rfl, hb⟩)
             have HB := Lib.hid (HB.out.next hb)
             clear x0 x1 x2 x3 x4 y0 y1 y2 y3 y4 hb
             obtain ⟨x0, x1, x2, x3, x4⟩ := box5 HB.out.x
             obtain ⟨y0, y1, y2, y3, y4⟩ := box5 HB.out.y)
          | (go_at_call 12; refine (HRF.out _ HB.out.bel).mono ?_; rintro e w3 ⟨rfl, hb⟩
             have HB := Lib.hid (HB.out.next hb)
             clear x0 x1 x2 x3 x4 y0 y1 y2 y3 y4 hb
             obtain ⟨x0, x1, x2, x3, x4⟩ := box5 HB.out.x
             obtain ⟨y0, y1, y2, y3, y4⟩ := box5 HB.out.y)
          | (go_at_call 8; (with_reducible refine (HEA.out _ HB.out.bel).mono ?_); rintro e w4 ⟨v, rfl, ho, hb⟩
             have HB := Lib.hid (HB.out.next hb)
             have HOA := Lib.hid ho
             clear ho
             clear x0 x1 x2 x3 x4 y0 y1 y2 y3 y4 hb
             obtain ⟨x0, x1, x2, x3, x4⟩ := box5 HB.out.x
             obtain ⟨y0, y1, y2, y3, y4⟩ := box5 HB.out.y)
          | (go_at_call 8; (with_reducible refine (HEB.out _ HB.out.bel).mono ?_); rintro e w5 ⟨v5, rfl, ho5, hb⟩
             have HB := Lib.hid (HB.out.next hb)
             have HOA := Lib.hid (HOA.out.below hb)
             have HOB := Lib.hid ho5
             clear ho5
             clear x0 x1 x2 x3 x4 y0 y1 y2 y3 y4 hb)
          | (go_at_call 7; refine (HL.out _).mono ?_; rintro e w6 ⟨rfl, hb⟩
             have HB := Lib.hid (HB.out.next hb)
             have hcA := conv_ownS (HOA.out.below hb) S HS2.out
             have hcB := conv_ownS (HOB.out.below hb) T HT2.out
             clear hb))
        go_ret
        exact ⟨rfl, HB.out.bel⟩
    · have h2i : (300 : Int) < (m : Int) := by omega
      clear h1 h2 hn hm ha hb
      obtain ⟨k, f, t, x, ns⟩ := a
      obtain ⟨k', f', t', x', ms⟩ := b
      unfold lv at HB
      simp only at *
      by_cases h3 : (300 : Int) < (n : Int)
      · go_enter Try.func5, Try.ntmps5
        go_wp2_with (go_at_call 7; refine (HL.out _).mono ?_; rintro e w6 ⟨rfl, hb⟩; have HB := Lib.hid (HB.out.next hb); clear hb)
        go_ret
        exact ⟨rfl, HB.out.bel⟩
      · go_enter Try.func5, Try.ntmps5
        go_wp2_with (go_at_call 7; refine (HL.out _).mono ?_; rintro e w6 ⟨rfl, hb⟩; have HB := Lib.hid (HB.out.next hb); clear hb)
        go_ret
        exact ⟨rfl, HB.out.bel⟩
  · have h1i : (300 : Int) < (n : Int) := by omega
    clear h1 hn hm ha hb
    obtain ⟨k, f, t, x, ns⟩ := a
    obtain ⟨k', f', t', x', ms⟩ := b
    unfold lv at HB
    simp only at *
    go_enter Try.func5, Try.ntmps5
    go_wp2_with (go_at_call 7; refine (HL.out _).mono ?_; rintro e w6 ⟨rfl, hb⟩; have HB := Lib.hid (HB.out.next hb); clear hb)
    go_ret
    exact ⟨rfl, HB.out.bel⟩
#print axioms letterSame_law
end Go.Proofs.Ytbbhddpfclgohaa

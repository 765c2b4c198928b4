/- NetOnce: the law's own body answers true. -/
import Derived.Test.YthapjoghnhfkdaaSS
import Derived.Test.YthapjoghnhfkdaaZG
import Derived.Test.YthapjoghnhfkdaaZH
namespace Go.Proofs.Ythapjoghnhfkdaa
open Go.RowKit Go.Maps

/-- a letter in a box of the law's, and a net behind it -/
theorem law_box (w : World) (l : Ltr) (A : Option Addr) (n cap : Nat) (hr : RdI w w.heap.size A l.ns) : ∀ W, Below (w.alloc (lv l A n cap)).heap.size (w.alloc (lv l A n cap)) W → W.heap[w.heap.size]? = some (lv l A n cap) ∧ RdI W W.heap.size A l.ns ∧ Below w.heap.size w W := fun W hb => by
  have hbx : (w.alloc (lv l A n cap)).heap[w.heap.size]? = some (lv l A n cap) := heap_alloc_new w _
  have h0 := alloc_below w (lv l A n cap)
  have h1 : Below w.heap.size w W := h0.trans (hb.mono h0.size)
  exact ⟨(hb.block _ (Array.getElem?_eq_some_iff.1 hbx).1).trans hbx, (hr.below h1 (Nat.le_refl _)).more h1.size, h1⟩
theorem NetW.new_box (w : World) (l : Ltr) (A : Option Addr) (n cap : Nat) : NetW (w.alloc (lv l A n cap)) ((w.alloc (lv l A n cap)).alloc (netO none 0 0)) (w.heap.size + 1) none [] 0 0 := by
  have h := NetW.new (w.alloc (lv l A n cap))
  rwa [show (w.alloc (lv l A n cap)).heap.size = w.heap.size + 1 by simp] at h
set_option maxRecDepth 100000 in
set_option maxHeartbeats 8000000 in
theorem once_big (l : Ltr) (A : Option Addr) (n cap : Nat) (hn : (80 : Int) < (n : Int)) (_ : (n : Int) ≤ 9223372036854775807) (b : Bool) (w : World) :
    Calls Try.prog 8 #[.agg #[.int .i64 l.k, .int .i64 l.f, .int .i64 l.t, .int .i64 l.x, .slice A n cap], .bool b] w (Ans (.bool true) w) := by
  obtain ⟨k, f, t, x, ns⟩ := l
  have HB := Lib.hid (alloc2_below w (.cells #[.int .i64 k, .int .i64 f, .int .i64 t, .int .i64 x, .slice A n cap] 32) (netO none 0 0))
  unfold netO at HB
  go_enter Try.func8, Try.ntmps8
  go_wp2_with (go_at_call 9; refine (new_any _).mono ?_; unfold netO; rintro e w1 ⟨rfl, rfl⟩)
  go_ret
  exact ⟨rfl, HB.out⟩
set_option maxRecDepth 100000 in
set_option maxHeartbeats 8000000 in
theorem once_wrong (l : Ltr) (hR : l.right = false) (A : Option Addr) (n cap : Nat) (hn : l.ns.length = n) (hn2 : ¬ (80 : Int) < (n : Int)) (b : Bool) (w : World) (hr : RdI w w.heap.size A l.ns) :
    Calls Try.prog 8 #[.agg #[.int .i64 l.k, .int .i64 l.f, .int .i64 l.t, .int .i64 l.x, .slice A n cap], .bool b] w (Ans (.bool true) w) := by
  have HX := Lib.hid (law_box w l A n cap hr)
  have H1 := Lib.hid (NetW.new_box w l A n cap)
  have hx := HX.out _ H1.out.bel
  obtain ⟨x0, x1, x2, x3, x4⟩ := box5 hx.1
  have HS := Lib.hid (fun W p (hW : RdI W W.heap.size A l.ns) => send_wrong (p := p) l hR A n cap hn (by omega) W hW)
  have HR1 := Lib.hid hx.2.1
  clear hx hr hn hR
  unfold lv netO at x0 x1 x2 x3 x4 HR1 H1
  unfold lv at HX
  obtain ⟨k, f, t, x, ns⟩ := l
  simp only at *
  go_enter Try.func8, Try.ntmps8
  go_wp2_with (first
    | (go_at_call 9; refine (new_any _).mono ?_; unfold netO; rintro e w1 ⟨rfl, rfl⟩)
    | (go_at_call 10; refine (HS.out _ _ HR1.out).mono ?_; rintro e w2 ⟨rfl, hb⟩
       have H2 := Lib.hid (H1.out.below hb)
       clear hb)
    | (go_at_call 26; refine (aliveN_any _).mono ?_; rintro e w3 ⟨rfl, hb⟩
       have H3 := Lib.hid (H2.out.below hb)
       clear hb)
    | (go_at_call 23; refine (numbers_any H3.out.net).mono ?_; rintro e w5 ⟨v, rfl, hn, hb⟩
       obtain ⟨A5, cap5, rfl, _⟩ := hn.2
       have HB := Lib.hid (HX.out _ (H3.out.below hb).bel).2.2
       clear hn hb))
  go_ret
  exact ⟨rfl, HB.out⟩
theorem drop01 {w0 W : World} {p s t : Nat} {m : Option Nat} {l l' : Ltr} {g g' c c' : Nat} (h : NetW w0 W p m (dropN (([] ++ [⟨0, l, g, c⟩]) ++ [⟨0 + 1, l', g', c'⟩]) 0) s t) : NetW w0 W p m [⟨1, l', g', c'⟩] s t := h
theorem drop1 {w0 W : World} {p s t : Nat} {m : Option Nat} {l' : Ltr} {g' c' : Nat} (h : NetW w0 W p m (dropN [⟨1, l', g', c'⟩] 1) s t) : NetW w0 W p m [] s t := h
set_option maxRecDepth 100000 in
set_option maxHeartbeats 16000000 in
theorem once_lose (l : Ltr) (hR : l.right = true) (A : Option Addr) (n cap : Nat) (hn : l.ns.length = n) (hn2 : ¬ (80 : Int) < (n : Int)) (w : World) (hr : RdI w w.heap.size A l.ns) :
    Calls Try.prog 8 #[.agg #[.int .i64 l.k, .int .i64 l.f, .int .i64 l.t, .int .i64 l.x, .slice A n cap], .bool true] w (Ans (.bool true) w) := by
  have HX := Lib.hid (law_box w l A n cap hr)
  have H1 := Lib.hid (NetW.new_box w l A n cap)
  have hx := HX.out _ H1.out.bel
  obtain ⟨x0, x1, x2, x3, x4⟩ := box5 hx.1
  have HS : Hid (∀ W p m, NetAt W p m [] 0 0 → RdI W W.heap.size A l.ns → Calls Try.prog 10 #[.pointer (some ⟨p, 0, none⟩), .agg #[.int .i64 l.k, .int .i64 l.f, .int .i64 l.t, .int .i64 l.x, .slice A n cap]] W (PutT W p m [] 0 0 l)) := Lib.hid (fun W p m hN hW => send_yes hN (by simp) (by omega) l hR A n cap hn (by omega) hW)
  have HSM : Hid (∀ W B d, RdI W W.heap.size A l.ns → RdI W W.heap.size B l.ns → Calls Try.prog 14 #[.agg #[.int .i64 l.k, .int .i64 l.f, .int .i64 l.t, .int .i64 l.x, .slice B l.ns.length d], .agg #[.int .i64 l.k, .int .i64 l.f, .int .i64 l.t, .int .i64 l.x, .slice A n cap]] W (Ans (.bool true) W)) := Lib.hid fun W B d hA hB => by
    have h := refSameL_any l l B A l.ns.length n d cap rfl hn (by omega) (by omega) W hB hA
    rw [sameL_self l] at h
    exact h
  have HR1 := Lib.hid hx.2.1
  clear hx hr hn hR
  unfold lv netO at x0 x1 x2 x3 x4 HR1 H1
  unfold lv at HX
  unfold PutT at HS
  obtain ⟨k, f, t, x, ns⟩ := l
  simp only at *
  go_enter Try.func8, Try.ntmps8
  go_wp2_with (first
    | (go_at_call 9; refine (new_any _).mono ?_; unfold netO; rintro e w1 ⟨rfl, rfl⟩)
    | (go_at_call 10; refine (HS.out _ _ _ H1.out.net HR1.out).mono ?_; rintro e w2 ⟨rfl, hp⟩
       obtain ⟨m2, g2, c2, h2⟩ := H1.out.put hp
       have H2 := Lib.hid h2
       clear hp h2 H1 HR1 x0 x1 x2 x3 x4)
    | (go_at_call 17; have _t := H2; refine (twice_yes H2.out.net (by simp) (by omega) (x := 0) (by unfold i64ok; omega) (e := ⟨0, ⟨k, f, t, x, ns⟩, g2, c2⟩) rfl).mono ?_; unfold PutT; rintro e w3 ⟨rfl, hp⟩
       obtain ⟨m3, g3, c3, h3⟩ := H2.out.put hp
       have H3 := Lib.hid h3
       clear hp h3 H2 _t)
    | (go_at_call 19; have _t := H3; refine (lose_yes H3.out.net (x := 0) (by unfold i64ok; omega) (en := ⟨0, ⟨k, f, t, x, ns⟩, g2, c2⟩) rfl).mono ?_; rintro e w4 ⟨rfl, hp⟩
       have H4 := Lib.hid (drop01 (H3.out.lose hp))
       clear hp H3 _t)
    | (go_at_call 15; have _t := H4; refine (take_no H4.out.net (x := 0) (by unfold i64ok; omega) rfl).mono ?_; unfold zeroL; rintro e w5 ⟨rfl, hb⟩
       have h5 := H4.out.below hb
       have H5 := Lib.hid (h5.below (alloc_below w5 (.cells #[.int .i64 0, .int .i64 0, .int .i64 0, .int .i64 0, .slice none 0 0] 32)))
       clear hb h5 H4 _t)
    | (go_at_call 17; have _t := H5; refine (twice_no H5.out.net (x := 0) (by unfold i64ok; omega) rfl).mono ?_; rintro e w6 ⟨rfl, rfl⟩
       clear _t)
    | (go_at_call 13; have _t := H5; refine (lookN_no H5.out.net (x := 0) (by unfold i64ok; omega) rfl).mono ?_; unfold zeroL; rintro e w7 ⟨rfl, hb⟩
       have h7 := H5.out.below hb
       have H7 := Lib.hid (h7.below (alloc_below w7 (.cells #[.int .i64 0, .int .i64 0, .int .i64 0, .int .i64 0, .slice none 0 0] 32)))
       clear hb h7 H5 _t)
    | (go_at_call 19; have _t := H7; refine (lose_no H7.out.net (x := 0) (by unfold i64ok; omega) rfl).mono ?_; rintro e w8 ⟨rfl, rfl⟩
       clear _t)
    | (go_at_call 15; have _t := H7; refine (take_yes H7.out.net (x := 1) (by unfold i64ok; omega) (en := ⟨1, ⟨k, f, t, x, ns⟩, g3, c3⟩) rfl).mono ?_; unfold TakeT; rintro e w9 ⟨A9, cap9, rfl, hp⟩
       have hal := alloc_below w9 (.cells #[.int .i64 k, .int .i64 f, .int .i64 t, .int .i64 x, .slice A9 ns.length cap9] 32)
       have H9 := Lib.hid ((drop1 (H7.out.take hp)).below hal)
       have HO := Lib.hid (hp.1.below hal)
       obtain ⟨x0, x1, x2, x3, x4⟩ := box5 (HX.out _ H9.out.bel).1
       obtain ⟨y0, y1, y2, y3, y4⟩ := box5 (heap_alloc_new w9 (.cells #[.int .i64 k, .int .i64 f, .int .i64 t, .int .i64 x, .slice A9 ns.length cap9] 32))
       clear hp hal H7 _t)
    | (go_at_call 14; refine (HSM.out _ _ _ (HX.out _ H9.out.bel).2.1 HO.out.rd).mono ?_; rintro e wa ⟨rfl, hb⟩
       have HA := Lib.hid (H9.out.below hb)
       clear hb)
    | (go_at_call 26; refine (aliveN_any _).mono ?_; rintro e wb ⟨rfl, hb⟩
       have HB := Lib.hid (HA.out.below hb)
       clear hb)
    | (go_at_call 23; refine (numbers_any HB.out.net).mono ?_; rintro e wc ⟨v, rfl, hn, hb⟩
       obtain ⟨A5, cap5, rfl, _⟩ := hn.2
       have HC := Lib.hid (HX.out _ (HB.out.below hb).bel).2.2
       clear hn hb))
  go_ret
  exact ⟨rfl, HC.out⟩
set_option maxRecDepth 100000 in
set_option maxHeartbeats 16000000 in
theorem once_take (l : Ltr) (hR : l.right = true) (A : Option Addr) (n cap : Nat) (hn : l.ns.length = n) (hn2 : ¬ (80 : Int) < (n : Int)) (w : World) (hr : RdI w w.heap.size A l.ns) :
    Calls Try.prog 8 #[.agg #[.int .i64 l.k, .int .i64 l.f, .int .i64 l.t, .int .i64 l.x, .slice A n cap], .bool false] w (Ans (.bool true) w) := by
  have HX := Lib.hid (law_box w l A n cap hr)
  have H1 := Lib.hid (NetW.new_box w l A n cap)
  have hx := HX.out _ H1.out.bel
  obtain ⟨x0, x1, x2, x3, x4⟩ := box5 hx.1
  have HS : Hid (∀ W p m, NetAt W p m [] 0 0 → RdI W W.heap.size A l.ns → Calls Try.prog 10 #[.pointer (some ⟨p, 0, none⟩), .agg #[.int .i64 l.k, .int .i64 l.f, .int .i64 l.t, .int .i64 l.x, .slice A n cap]] W (PutT W p m [] 0 0 l)) := Lib.hid (fun W p m hN hW => send_yes hN (by simp) (by omega) l hR A n cap hn (by omega) hW)
  have HSM : Hid (∀ W B d, RdI W W.heap.size A l.ns → RdI W W.heap.size B l.ns → Calls Try.prog 14 #[.agg #[.int .i64 l.k, .int .i64 l.f, .int .i64 l.t, .int .i64 l.x, .slice B l.ns.length d], .agg #[.int .i64 l.k, .int .i64 l.f, .int .i64 l.t, .int .i64 l.x, .slice A n cap]] W (Ans (.bool true) W)) := Lib.hid fun W B d hA hB => by
    have h := refSameL_any l l B A l.ns.length n d cap rfl hn (by omega) (by omega) W hB hA
    rw [sameL_self l] at h
    exact h
  have HR1 := Lib.hid hx.2.1
  clear hx hr hn hR
  unfold lv netO at x0 x1 x2 x3 x4 HR1 H1
  unfold lv at HX
  unfold PutT at HS
  obtain ⟨k, f, t, x, ns⟩ := l
  simp only at *
  go_enter Try.func8, Try.ntmps8
  go_wp2_with (first
    | (go_at_call 9; refine (new_any _).mono ?_; unfold netO; rintro e w1 ⟨rfl, rfl⟩)
    | (go_at_call 10; refine (HS.out _ _ _ H1.out.net HR1.out).mono ?_; rintro e w2 ⟨rfl, hp⟩
       obtain ⟨m2, g2, c2, h2⟩ := H1.out.put hp
       have H2 := Lib.hid h2
       clear hp h2 H1 HR1 x0 x1 x2 x3 x4)
    | (go_at_call 17; have _t := H2; refine (twice_yes H2.out.net (by simp) (by omega) (x := 0) (by unfold i64ok; omega) (e := ⟨0, ⟨k, f, t, x, ns⟩, g2, c2⟩) rfl).mono ?_; unfold PutT; rintro e w3 ⟨rfl, hp⟩
       obtain ⟨m3, g3, c3, h3⟩ := H2.out.put hp
       have H3 := Lib.hid h3
       clear hp h3 H2 _t)
    | (go_at_call 15; have _t := H3; refine (take_yes H3.out.net (x := 0) (by unfold i64ok; omega) (en := ⟨0, ⟨k, f, t, x, ns⟩, g2, c2⟩) rfl).mono ?_; unfold TakeT; rintro e w4 ⟨A4, cap4, rfl, hp⟩
       have H4 := Lib.hid (drop01 (H3.out.take hp))
       clear hp H3 _t)
    | (go_at_call 15; have _t := H4; refine (take_no H4.out.net (x := 0) (by unfold i64ok; omega) rfl).mono ?_; unfold zeroL; rintro e w5 ⟨rfl, hb⟩
       have h5 := H4.out.below hb
       have H5 := Lib.hid (h5.below (alloc_below w5 (.cells #[.int .i64 0, .int .i64 0, .int .i64 0, .int .i64 0, .slice none 0 0] 32)))
       clear hb h5 H4 _t)
    | (go_at_call 17; have _t := H5; refine (twice_no H5.out.net (x := 0) (by unfold i64ok; omega) rfl).mono ?_; rintro e w6 ⟨rfl, rfl⟩
       clear _t)
    | (go_at_call 13; have _t := H5; refine (lookN_no H5.out.net (x := 0) (by unfold i64ok; omega) rfl).mono ?_; unfold zeroL; rintro e w7 ⟨rfl, hb⟩
       have h7 := H5.out.below hb
       have H7 := Lib.hid (h7.below (alloc_below w7 (.cells #[.int .i64 0, .int .i64 0, .int .i64 0, .int .i64 0, .slice none 0 0] 32)))
       clear hb h7 H5 _t)
    | (go_at_call 19; have _t := H7; refine (lose_no H7.out.net (x := 0) (by unfold i64ok; omega) rfl).mono ?_; rintro e w8 ⟨rfl, rfl⟩
       clear _t)
    | (go_at_call 15; have _t := H7; refine (take_yes H7.out.net (x := 1) (by unfold i64ok; omega) (en := ⟨1, ⟨k, f, t, x, ns⟩, g3, c3⟩) rfl).mono ?_; unfold TakeT; rintro e w9 ⟨A9, cap9, rfl, hp⟩
       have hal := alloc_below w9 (.cells #[.int .i64 k, .int .i64 f, .int .i64 t, .int .i64 x, .slice A9 ns.length cap9] 32)
       have H9 := Lib.hid ((drop1 (H7.out.take hp)).below hal)
       have HO := Lib.hid (hp.1.below hal)
       obtain ⟨x0, x1, x2, x3, x4⟩ := box5 (HX.out _ H9.out.bel).1
       obtain ⟨y0, y1, y2, y3, y4⟩ := box5 (heap_alloc_new w9 (.cells #[.int .i64 k, .int .i64 f, .int .i64 t, .int .i64 x, .slice A9 ns.length cap9] 32))
       clear hp hal H7 _t)
    | (go_at_call 14; refine (HSM.out _ _ _ (HX.out _ H9.out.bel).2.1 HO.out.rd).mono ?_; rintro e wa ⟨rfl, hb⟩
       have HA := Lib.hid (H9.out.below hb)
       clear hb)
    | (go_at_call 26; refine (aliveN_any _).mono ?_; rintro e wb ⟨rfl, hb⟩
       have HB := Lib.hid (HA.out.below hb)
       clear hb)
    | (go_at_call 23; refine (numbers_any HB.out.net).mono ?_; rintro e wc ⟨v, rfl, hn, hb⟩
       obtain ⟨A5, cap5, rfl, _⟩ := hn.2
       have HC := Lib.hid (HX.out _ (HB.out.below hb).bel).2.2
       clear hn hb))
  go_ret
  exact ⟨rfl, HC.out⟩
theorem netOnce_law (l : Ltr) (A : Option Addr) (cap : Nat) (b : Bool) (w : World) (hm : l.ns.length ≤ maxLen) (hr : RdI w w.heap.size A l.ns) :
    Calls Try.prog 8 #[.agg #[.int .i64 l.k, .int .i64 l.f, .int .i64 l.t, .int .i64 l.x, .slice A l.ns.length cap], .bool b] w (Ans (.bool true) w) := by
  by_cases h1 : (80 : Int) < (l.ns.length : Int)
  · exact once_big l A _ cap h1 (by unfold maxLen at hm; omega) b w
  · cases hR : l.right
    · exact once_wrong l hR A _ cap rfl h1 b w hr
    · cases b
      · exact once_take l hR A _ cap rfl h1 w hr
      · exact once_lose l hR A _ cap rfl h1 w hr
end Go.Proofs.Ythapjoghnhfkdaa

/- Package letter: Decode. -/
import Derived.Test.YthdhifnafgidaaaZM
import Derived.Test.YthdhifnafgidaaaZC
import Derived.Test.YthdhifnafgidaaaWR
namespace Go.Proofs.Ythdhifnafgidaaa
open Go.RowKit

/-- what Decode answers -/
def DcY (w : World) (l : Ltr) (e : Ending) (w' : World) : Prop := ∃ A cap, e = .returned (.tuple #[.agg #[.int .i64 l.k, .int .i64 l.f, .int .i64 l.t, .int .i64 l.x, .slice A l.ns.length cap], .int .i64 0]) ∧ OwnI w' w.heap.size (.slice A l.ns.length cap) l.ns ∧ Below w.heap.size w w'
def DcN (w : World) (e : Ending) (w' : World) : Prop := e = .returned (.tuple #[zeroL, .int .i64 111]) ∧ Below w.heap.size w w'
/-- row.Decode, by what the bytes are -/
def RdY (w : World) (m : List Val) (e : Ending) (w' : World) : Prop := ∃ A cap, e = .returned (.tuple #[.slice A m.length cap, .int .i64 0]) ∧ RdV w' w'.heap.size A m ∧ Below w.heap.size w w'
def RdN (w : World) (e : Ending) (w' : World) : Prop := e = .returned (.tuple #[.slice none 0 0, .int .i64 51]) ∧ Below w.heap.size w w'
theorem OwnV.sl {w : World} {B : Nat} {l : List Val} {v : Value} (h : OwnV w B v l) : ∃ A cap, v = .slice A l.length cap ∧ RdV w w.heap.size A l ∧ l.length ≤ cap := by
  obtain ⟨A, cap, rfl, hc⟩ := h.2
  exact ⟨A, cap, rfl, h.rd, hc⟩
theorem rdec_yes {m : List Val} (hm : ∀ x ∈ m, x.R) (h16 : m.length ≤ 16) {A : Option Addr} {n cap : Nat} {w : World} (hn : (rowB m).length = n) (hcap : n ≤ cap) (hr : RdB w w.heap.size A (rowB m)) : Calls Try.prog 40 #[.slice A n cap] w (RdY w m) := by
  subst hn
  refine (decodeR_any (rowB m) A cap w hcap hr).mono fun e w' ⟨hb, h⟩ => ?_
  rcases h with ⟨l, v, he, hl, hl16, hlm, ho⟩ | ⟨_, hno⟩
  · obtain ⟨rfl, _⟩ := rowB_inj (u := []) (v := []) hl hm hl16 h16 (by rw [hlm])
    obtain ⟨A', cap', rfl, hv, _⟩ := OwnV.sl ho
    exact ⟨A', cap', he, hv, hb⟩
  · exact absurd rfl (hno m hm h16)
theorem rdec_no {bs : List UInt8} (h : ∀ m : List Val, (∀ x ∈ m, x.R) → m.length ≤ 16 → bs ≠ rowB m) {A : Option Addr} {n cap : Nat} {w : World} (hn : bs.length = n) (hcap : n ≤ cap) (hr : RdB w w.heap.size A bs) : Calls Try.prog 40 #[.slice A n cap] w (RdN w) := by
  subst hn
  refine (decodeR_any bs A cap w hcap hr).mono fun e w' ⟨hb, k⟩ => ?_
  rcases k with ⟨l, v, he, hl, hl16, hlm, ho⟩ | ⟨he, _⟩
  · exact absurd hlm (h l hl hl16)
  · exact ⟨he, hb⟩
def WhY (w : World) (l : Ltr) (e : Ending) (w' : World) : Prop := ∃ A cap, e = .returned (.tuple #[.agg #[.int .i64 l.k, .int .i64 l.f, .int .i64 l.t, .int .i64 l.x, .slice A l.ns.length cap], .bool true]) ∧ OwnI w' w.heap.size (.slice A l.ns.length cap) l.ns ∧ Below w.heap.size w w'
def WhN (w : World) (e : Ending) (w' : World) : Prop := e = .returned (.tuple #[zeroL, .bool false]) ∧ Below w.heap.size w w'
theorem whole_yes {k f t x b : Int} (hb : 0 ≤ b ∧ b < 65536) (hR : ∀ y ∈ [intV k, intV f, intV t, intV x, intV b], y.R) (A : Option Addr) (cap : Nat) (w : World) (hr : RdV w w.heap.size A [intV k, intV f, intV t, intV x, intV b]) : Calls Try.prog 41 #[.slice A 5 cap] w (WhY w (ofNums k f t x b)) := by
  refine (whole_any _ hR A 5 cap rfl (by omega) w hr).mono fun e w' ⟨hbw, h⟩ => ?_
  rcases h with ⟨k', f', t', x', b', v, hl, hb', he, ho⟩ | ⟨hno, _⟩
  · simp only [intV, List.cons.injEq, Val.mk.injEq, and_true, true_and] at hl
    obtain ⟨rfl, rfl, rfl, rfl, rfl⟩ := hl
    obtain ⟨A', cap', rfl, _⟩ := ho.2
    exact ⟨A', cap', he, ho, hbw⟩
  · exact absurd rfl (hno k f t x b hb)
theorem whole_no {m : List Val} (hR : ∀ y ∈ m, y.R) (hno : ∀ k f t x b, 0 ≤ b ∧ b < 65536 → m ≠ [intV k, intV f, intV t, intV x, intV b]) (A : Option Addr) (n cap : Nat) (hn : m.length = n) (h16 : n ≤ 16) (w : World) (hr : RdV w w.heap.size A m) : Calls Try.prog 41 #[.slice A n cap] w (WhN w) := by
  refine (whole_any m hR A n cap hn (by omega) w hr).mono fun e w' ⟨hbw, h⟩ => ?_
  rcases h with ⟨k', f', t', x', b', v, hl, hb', he, ho⟩ | ⟨_, he⟩
  · exact absurd hl (hno k' f' t' x' b' hb')
  · exact ⟨he, hbw⟩
/-- the head of each way -/
theorem dec_box {w w0 : World} (hw0 : w0 = w.alloc (.cells #[.int .i64 0, .int .i64 0, .int .i64 0, .int .i64 0, .slice none 0 0] 32)) : (∀ W, Below w0.heap.size w0 W → W.heap[w.heap.size]? = some (.cells #[.int .i64 0, .int .i64 0, .int .i64 0, .int .i64 0, .slice none 0 0] 32 (0, 0))) ∧ (∀ W a b c d e, Below w0.heap.size w0 W → Below w.heap.size w (((((W.setCell ⟨w.heap.size, 0, none⟩ a).setCell ⟨w.heap.size, 1, none⟩ b).setCell ⟨w.heap.size, 2, none⟩ c).setCell ⟨w.heap.size, 3, none⟩ d).setCell ⟨w.heap.size, 4, none⟩ e) ∧ W.grownBy (((((W.setCell ⟨w.heap.size, 0, none⟩ a).setCell ⟨w.heap.size, 1, none⟩ b).setCell ⟨w.heap.size, 2, none⟩ c).setCell ⟨w.heap.size, 3, none⟩ d).setCell ⟨w.heap.size, 4, none⟩ e) (some w.heap.size)) := by
  have hb0 : Below w.heap.size w w0 := by rw [hw0]; exact alloc_below w _
  have hs0 : w0.heap.size = w.heap.size + 1 := by rw [hw0]; simp
  have hbx : w0.heap[w.heap.size]? = some (.cells #[.int .i64 0, .int .i64 0, .int .i64 0, .int .i64 0, .slice none 0 0] 32 (0, 0)) := by rw [hw0]; exact heap_alloc_new w _
  refine ⟨fun W hb => (hb.block _ (by omega)).trans hbx, fun W a b c d e hb => ?_⟩
  have g := grown_trans (grown_trans (grown_trans (grown_trans (grown_set W w.heap.size 0 a) (grown_set _ w.heap.size 1 b)) (grown_set _ w.heap.size 2 c)) (grown_set _ w.heap.size 3 d)) (grown_set _ w.heap.size 4 e)
  have hb2 := hb0.trans (hb.mono hb0.size)
  exact ⟨hb2.trans (grown_below' g (Nat.le_refl _) hb2.size), g⟩
set_option maxRecDepth 100000 in
set_option maxHeartbeats 8000000 in
/-- .. of no row -/
theorem decL_none {bs : List UInt8} (h : ∀ m : List Val, (∀ x ∈ m, x.R) → m.length ≤ 16 → bs ≠ rowB m) {A : Option Addr} {n cap : Nat} {w : World} (hn : bs.length = n) (hcap : n ≤ cap) (hr : RdB w w.heap.size A bs) : Calls Try.prog 31 #[.slice A n cap] w (DcN w) := by
  obtain ⟨w0, hw0⟩ : ∃ w0, w0 = w.alloc (.cells #[.int .i64 0, .int .i64 0, .int .i64 0, .int .i64 0, .slice none 0 0] 32) := ⟨_, rfl⟩
  have hb0 : Below w.heap.size w w0 := by rw [hw0]; exact alloc_below w _
  obtain ⟨hX, hZ⟩ := dec_box hw0
  have HX := Lib.hid hX
  have HZ := Lib.hid hZ
  have HD := Lib.hid (rdec_no h hn hcap ((hr.below hb0 (Nat.le_refl _)).more hb0.size) (w := w0))
  clear hX hZ hr hn h hcap hb0
  subst hw0
  go_enter Try.func31, Try.ntmps31
  go_wp2_with (go_at_call 40; refine HD.out.mono ?_; rintro e w1 ⟨rfl, hb⟩
               have h1 := HX.out w1 hb
               obtain ⟨y0, y1, y2, y3, y4⟩ := box5 h1
               have z0 := frozen_of h1 0
               have z1 := frozen_of h1 1
               have z2 := frozen_of h1 2
               have z3 := frozen_of h1 3
               have z4 := frozen_of h1 4
               have HQ := Lib.hid (HZ.out w1 (.int .i64 0) (.int .i64 0) (.int .i64 0) (.int .i64 0) (.slice none 0 0) hb)
               clear h1 hb)
  refine bodyPost_ret (v := .tuple #[.agg #[.int .i64 0, .int .i64 0, .int .i64 0, .int .i64 0, .slice none 0 0], .int .i64 111]) (by simp [results, Try.results31, go_sem, y0, y1, y2, y3, y4]) rfl ?_
  exact ⟨rfl, HQ.out.1⟩
set_option maxRecDepth 100000 in
set_option maxHeartbeats 8000000 in
/-- .. of another row -/
theorem decL_other {m : List Val} (hm : ∀ x ∈ m, x.R) (h16 : m.length ≤ 16) (hno : ∀ k f t x b, 0 ≤ b ∧ b < 65536 → m ≠ [intV k, intV f, intV t, intV x, intV b]) {A : Option Addr} {n cap : Nat} {w : World} (hn : (rowB m).length = n) (hcap : n ≤ cap) (hr : RdB w w.heap.size A (rowB m)) : Calls Try.prog 31 #[.slice A n cap] w (DcN w) := by
  obtain ⟨w0, hw0⟩ : ∃ w0, w0 = w.alloc (.cells #[.int .i64 0, .int .i64 0, .int .i64 0, .int .i64 0, .slice none 0 0] 32) := ⟨_, rfl⟩
  have hb0 : Below w.heap.size w w0 := by rw [hw0]; exact alloc_below w _
  obtain ⟨hX, hZ⟩ := dec_box hw0
  have HX := Lib.hid hX
  have HZ := Lib.hid hZ
  have HD := Lib.hid (rdec_yes hm h16 hn hcap ((hr.below hb0 (Nat.le_refl _)).more hb0.size) (w := w0))
  have HW := Lib.hid (fun W A cap hv => whole_no hm hno A m.length cap rfl h16 W hv)
  clear hX hZ hr hn hm h16 hno hcap hb0
  subst hw0
  go_enter Try.func31, Try.ntmps31
  go_wp2_with (first
    | (go_at_call 40; refine HD.out.mono ?_; rintro e w1 ⟨A1, cap1, rfl, hv, hb⟩
       have HV := Lib.hid hv
       have HB1 := Lib.hid hb
       clear hv hb)
    | (go_at_call 41; refine (HW.out _ _ _ HV.out).mono ?_; rintro e w2 ⟨rfl, hb⟩
       unfold zeroL
       have h3 := HB1.out.trans ((hb.trans ((alloc_below w2 (.cells #[.int .i64 0, .int .i64 0, .int .i64 0, .int .i64 0, .slice none 0 0] 32)).mono hb.size)).mono HB1.out.size)
       have h1 := HX.out _ h3
       obtain ⟨y0, y1, y2, y3, y4⟩ := box5 h1
       have z0 := frozen_of h1 0
       have z1 := frozen_of h1 1
       have z2 := frozen_of h1 2
       have z3 := frozen_of h1 3
       have z4 := frozen_of h1 4
       have HQ := Lib.hid (HZ.out _ (.int .i64 0) (.int .i64 0) (.int .i64 0) (.int .i64 0) (.slice none 0 0) h3)
       clear h1 h3 hb))
  refine bodyPost_ret (v := .tuple #[.agg #[.int .i64 0, .int .i64 0, .int .i64 0, .int .i64 0, .slice none 0 0], .int .i64 111]) (by simp [results, Try.results31, go_sem, y0, y1, y2, y3, y4]) rfl ?_
  exact ⟨rfl, HQ.out.1⟩
end Go.Proofs.Ythdhifnafgidaaa

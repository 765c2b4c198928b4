/- Package letter: nodes that increase; Right. -/
import Derived.Test.YtkohppalfcalbaaGreatZA
import Derived.Test.YtkohppalfcalbaaGreatWH
namespace Go.Proofs.YtkohppalfcalbaaGreat
open Go.RowKit

def LooksL (v : Value) (w : World) : Ending → World → Prop := fun e w' => e = .returned v ∧ w = w'
/-- numbers can be read -/
def RdI (w : World) (B : Nat) (A : Option Addr) (l : List Int) : Prop := l ≠ [] → ∃ b o, A = some ⟨b, o, none⟩ ∧ b < B ∧ ∀ j x, l[j]? = some x → w.cell? ⟨b, o + j, none⟩ = some (.int .i64 x)
theorem RdI.at_ {w : World} {B : Nat} {A : Option Addr} {l : List Int} (h : RdI w B A l) {j : Nat} {x : Int} (hj : l[j]? = some x) : ∃ b o, A = some ⟨b, o, none⟩ ∧ b < B ∧ w.cell? ⟨b, o + j, none⟩ = some (.int .i64 x) := by
  obtain ⟨b, o, e, hlt, hc⟩ := h (by rintro rfl; simp at hj)
  exact ⟨b, o, e, hlt, hc j x hj⟩
theorem RdI.keep {w w' : World} {B : Nat} {A : Option Addr} {l : List Int} (h : RdI w B A l) (hk : ∀ k, k < B → w'.heap[k]? = w.heap[k]?) : RdI w' B A l := fun hn => by
  obtain ⟨b, o, e, hb, hc⟩ := h hn
  exact ⟨b, o, e, hb, fun j c hj => (World.cell?_of_block (hk b hb)).trans (hc j c hj)⟩
theorem RdI.below {w w' : World} {B C : Nat} {A : Option Addr} {l : List Int} (h : RdI w B A l) (hb : Below C w w') (hC : B ≤ C) : RdI w' B A l := h.keep fun k hk => hb.block k (by omega)
theorem RdI.more {w : World} {B C : Nat} {A : Option Addr} {l : List Int} (h : RdI w B A l) (hC : B ≤ C) : RdI w C A l := fun hn => by
  obtain ⟨b, o, e, hb, hc⟩ := h hn
  exact ⟨b, o, e, by omega, hc⟩
theorem RdI.nil (w : World) (B : Nat) (A : Option Addr) : RdI w B A [] := fun h => absurd rfl h
def nodeB (n : Int) : Bool := decide (0 ≤ n) && decide (n < 16)
def wrongB (a n : Int) : Bool := decide (n ≤ a) || !nodeB n
theorem wrongB_no {a n : Int} (_ : -1 ≤ a) (h : a < n ∧ n < 16) : wrongB a n = false := by
  unfold wrongB nodeB
  rw [decide_eq_false (by omega), decide_eq_true (by omega), decide_eq_true h.2]; rfl
theorem wrongB_yes {a n : Int} (_ : -1 ≤ a) (h : ¬ (a < n ∧ n < 16)) : wrongB a n = true := by
  unfold wrongB nodeB
  by_cases h1 : n ≤ a
  · rw [decide_eq_true h1]; rfl
  · rw [decide_eq_false h1, decide_eq_false (by omega : ¬ n < 16), Bool.and_false]; rfl
theorem isNode_any (n : Int) (w : World) : Calls Tryz.prog 103 #[.int .i64 n] w (LooksL (.bool (nodeB n)) w) := by
  unfold nodeB
  go_enter Tryz.func103, Tryz.ntmps103
  go_wp2_with fail
  all_goals
    go_ret
    exact ⟨by simp [*] <;> omega, rfl⟩
/-- the box of the last node -/
def LastB (W : World) (g : Nat) (a : Int) : Prop := W.heap[g]? = some (.cells #[.int .i64 a] 3 (0, 0))
theorem LastB.set {W : World} {g : Nat} {a : Int} (h : LastB W g a) (n : Int) : LastB (W.setCell ⟨g, 0, none⟩ (.int .i64 n)) g n := by
  unfold LastB at h ⊢
  simp [World.setCell, Array.getElem?_modify, h]
set_option maxRecDepth 100000 in
theorem inc1_any (n a : Int) (g : Nat) (W : World) (h : LastB W g a) : Calls Tryz.prog 153 #[.int .i64 n, .pointer (some ⟨g, 0, none⟩)] W (fun e W' => e = .returned (.bool (wrongB a n)) ∧ LastB W' g n ∧ W.grownBy W' (some g)) := by
  have hv := cell_of_one h
  have hf := free_of_one h
  have HS := Lib.hid (h.set n)
  have HG := Lib.hid (grown_set W g 0 (.int .i64 n))
  obtain ⟨b, hb⟩ : ∃ b, Hid (b = nodeB n) := ⟨_, Lib.hid rfl⟩
  have HN := Lib.hid (isNode_any n)
  unfold wrongB
  rw [← hb.out] at HN ⊢
  clear h hb
  go_enter Tryz.func153, Tryz.ntmps153
  go_wp2_with (go_at_call 103; refine (HN.out _).mono ?_; rintro e w2 ⟨rfl, rfl⟩)
  all_goals
    go_ret
    exact ⟨by simp [*], HS.out, HG.out⟩
def IXL (W : World) (g : Nat) (a : Int) (ns : List Int) (v8 : Value) (wr : World) : Prop := ∃ (i : Nat) (a' : Int), v8 = .int .i64 i ∧ i ≤ ns.length ∧ LastB wr g a' ∧ upN a ns = upN a' (ns.drop i) ∧ -1 ≤ a' ∧ W.grownBy wr (some g)
def IxT (W : World) (g : Nat) (a : Int) (ns : List Int) (e : Ending) (W' : World) : Prop := ∃ r : Int, e = .returned (.int .i64 r) ∧ decide (0 ≤ r) = !upN a ns ∧ W.grownBy W' (some g)
set_option maxRecDepth 100000 in
set_option maxHeartbeats 4000000 in
theorem index1_any (ns : List Int) (a : Int) (g : Nat) (A : Option Addr) (n cap : Nat) (hn : ns.length = n) (hn2 : n ≤ 1000000) (W : World) (h : LastB W g a) (ha : -1 ≤ a) (hr : RdI W g A ns) :
    Calls Tryz.prog 181 #[.slice A n cap, .func (.func 153) #[] #[.pointer (some ⟨g, 0, none⟩)]] W (IxT W g a ns) := by
  have HR := Lib.hid hr
  have HN := Lib.hid hn
  have hni : (n : Int) ≤ 1000000 := by omega
  have HST : Hid (IXL W g a ns (.int .i64 0) W) := Lib.hid ⟨0, a, rfl, Nat.zero_le _, h, rfl, ha, grown_refl _ _⟩
  have HGL : Hid (g < W.heap.size) := Lib.hid (Array.getElem?_eq_some_iff.1 h).1
  clear h ha hr hn hn2
  go_enter Tryz.func181, Tryz.ntmps181
  go_wp2_with fail
  go_loopw [8] (fun v8 wr => IXL W g a ns v8 wr) (fun v8 _ => n - (intOf v8).toNat)
  case atStart => exact HST.out
  case round =>
    obtain ⟨i, a', rfl, hi, hl, hu, ha, hg⟩ := hrel
    have HL := Lib.hid hl
    have HU := Lib.hid hu
    have HG := Lib.hid hg
    have hi' : i ≤ n := by rw [← HN.out]; exact hi
    have hii : (i : Int) ≤ 1000000 := by omega
    clear hl hu hg hi
    by_cases hlt : i < n
    · obtain ⟨x, hx⟩ : ∃ x, ns[i]? = some x := ⟨_, List.getElem?_eq_getElem (by rw [HN.out]; exact hlt)⟩
      obtain ⟨b, o, hA, hbg, hc⟩ := HR.out.at_ hx
      subst hA
      have hc' : wr.cell? ⟨b, o + i, none⟩ = some (.int .i64 x) := (World.cell?_of_block (HG.out.block b (Nat.lt_trans hbg HGL.out) (fun e => by injection e with e; omega))).trans hc
      have HD : Hid (ns.drop i = x :: ns.drop (i + 1)) := Lib.hid (by
        obtain ⟨h1, h2⟩ := List.getElem?_eq_some_iff.1 hx
        rw [← h2]; exact List.drop_eq_getElem_cons h1)
      have hlti : (i : Int) < (n : Int) := by omega
      by_cases hw : a' < x ∧ x < 16
      · have HC := Lib.hid (inc1_any x a' g wr HL.out)
        rw [wrongB_no ha hw] at HC
        have HY : Hid (∀ v8 w2, v8 = .int .i64 ((i + 1 : Nat) : Int) → LastB w2 g x → wr.grownBy w2 (some g) → IXL W g a ns v8 w2) := Lib.hid fun v8 w2 h8 hl hg => ⟨i + 1, x, h8, by rw [HN.out]; exact hlt, hl, by rw [HU.out, HD.out]; exact (congrArg (· && upN x (ns.drop (i + 1))) (decide_eq_true hw)).trans (Bool.true_and _), by omega, grown_trans HG.out hg⟩
        clear hc hx hw hbg ha
        go_wp2_with (go_at_call 153; refine HC.out.mono ?_; rintro e w2 ⟨rfl, hl, hg⟩; have HZ := Lib.hid (fun v8 h8 => HY.out v8 _ h8 hl hg); clear hl hg)
        go_roundw
        case rel => first | exact HZ.out _ (by go_num) | ((repeat apply Exists.intro); exact ⟨HZ.out _ (by go_num), rfl⟩)
        case measure => simp [intOf]; omega
      · have HC := Lib.hid (inc1_any x a' g wr HL.out)
        rw [wrongB_yes ha hw] at HC
        have HY : Hid (∀ w2, wr.grownBy w2 (some g) → IxT W g a ns (.returned (.int .i64 (i : Int))) w2) := Lib.hid fun w2 hg => ⟨_, rfl, by rw [HU.out, HD.out]; rw [decide_eq_true (by omega), show upN a' (x :: ns.drop (i + 1)) = (decide (a' < x ∧ x < 16) && upN x (ns.drop (i + 1))) from rfl, decide_eq_false hw]; rfl, grown_trans HG.out hg⟩
        clear hc hx hw hbg ha
        go_wp2_with (go_at_call 153; refine HC.out.mono ?_; rintro e w2 ⟨rfl, hl, hg⟩; have HZ := Lib.hid (HY.out _ hg); clear hl hg)
        go_ret
        exact HZ.out
    · have hie : i = n := by omega
      subst hie
      have hlti : ¬ (i : Int) < (i : Int) := by omega
      have HY : Hid (IxT W g a ns (.returned (.int .i64 (-1))) wr) := Lib.hid ⟨-1, rfl, by rw [HU.out, List.drop_of_length_le (by rw [HN.out]; exact Nat.le_refl _)]; rfl, HG.out⟩
      clear hlt hi' ha
      go_wp2_with fail
      go_ret
      exact HY.out
set_option maxRecDepth 100000 in
theorem contains1_any (ns : List Int) (a : Int) (g : Nat) (A : Option Addr) (n cap : Nat) (hn : ns.length = n) (hn2 : n ≤ 1000000) (W : World) (h : LastB W g a) (ha : -1 ≤ a) (hr : RdI W g A ns) :
    Calls Tryz.prog 154 #[.slice A n cap, .func (.func 153) #[] #[.pointer (some ⟨g, 0, none⟩)]] W (fun e W' => e = .returned (.bool (!upN a ns)) ∧ W.grownBy W' (some g)) := by
  have HX := Lib.hid (index1_any ns a g A n cap hn hn2 W h ha hr)
  clear hn hn2 h ha hr
  go_enter Tryz.func154, Tryz.ntmps154
  go_wp2_with (go_at_call 181; refine HX.out.mono ?_; rintro e w2 ⟨r, rfl, hr, hg⟩; have HR := Lib.hid hr; have HG := Lib.hid hg; clear hr hg)
  go_ret
  exact ⟨by rw [← HR.out]; rfl, HG.out⟩
set_option maxRecDepth 100000 in
theorem increasing_any (ns : List Int) (A : Option Addr) (n cap : Nat) (hn : ns.length = n) (hn2 : n ≤ 1000000) (w : World) (hr : RdI w w.heap.size A ns) :
    Calls Tryz.prog 104 #[.slice A n cap] w (Ans (.bool (upN (-1) ns)) w) := by
  have hbx : LastB (w.alloc (.cells #[.int .i64 (-1)] 3)) w.heap.size (-1) := heap_alloc_new w _
  have HB := Lib.hid (alloc_below w (.cells #[.int .i64 (-1)] 3))
  have HC := Lib.hid (contains1_any ns (-1) w.heap.size A n cap hn hn2 _ hbx (by omega) (hr.below HB.out (Nat.le_refl _)))
  have hmf : ∀ (fn : Fn) (first cap : Array Value) (w : World), (Instr.makeFunc fn first cap).run Tryz.prog w = .ok (.func fn first cap) w := fun _ _ _ _ => rfl
  clear hr hn hn2 hbx
  go_enter Tryz.func104, Tryz.ntmps104
  go_wp2_with (go_at_call 154; refine HC.out.mono ?_; rintro e w2 ⟨rfl, hg⟩; have HG := Lib.hid hg; clear hg)
  go_ret
  exact ⟨by simp, HB.out.trans (grown_below' HG.out (Nat.le_refl _) HB.out.size)⟩
end Go.Proofs.YtkohppalfcalbaaGreat

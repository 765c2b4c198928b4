/- NetWhole: the law's own body answers true. -/
import Derived.Test.YthapjoghnhfkdaaSN
import Derived.Test.YthapjoghnhfkdaaZG
import Derived.Test.YthapjoghnhfkdaaZH
namespace Go.Proofs.Ythapjoghnhfkdaa
open Go.RowKit Go.Maps

/-- letters in a row of the law's own -/
def cellsT (K : List LtrA) : List Value := K.flatMap fun a => [.int .i64 a.l.k, .int .i64 a.l.f, .int .i64 a.l.t, .int .i64 a.l.x, .slice a.A a.l.ns.length a.cap]
theorem cellsT_len (K : List LtrA) : (cellsT K).length = K.length * 5 := by
  induction K with
  | nil => rfl
  | cons a K ih =>
    unfold cellsT at ih ⊢
    rw [List.flatMap_cons, List.length_append, ih, List.length_cons]
    simp only [List.length_cons, List.length_nil]
    omega
theorem cellsT_one (K : List LtrA) : ∀ u ∈ cellsT K, u.oneCell' = true := by
  intro u hu
  simp only [cellsT, List.mem_flatMap, List.mem_cons, List.not_mem_nil, or_false] at hu
  obtain ⟨a, _, rfl | rfl | rfl | rfl | rfl⟩ := hu <;> rfl
theorem cellsT_app (a b : List LtrA) : cellsT (a ++ b) = cellsT a ++ cellsT b := by simp [cellsT]
theorem cellsT_at {K : List LtrA} {j : Nat} {a : LtrA} (h : K[j]? = some a) : (cellsT K)[j * 5]? = some (.int .i64 a.l.k) ∧ (cellsT K)[j * 5 + 1]? = some (.int .i64 a.l.f) ∧ (cellsT K)[j * 5 + 2]? = some (.int .i64 a.l.t) ∧ (cellsT K)[j * 5 + 3]? = some (.int .i64 a.l.x) ∧ (cellsT K)[j * 5 + 4]? = some (.slice a.A a.l.ns.length a.cap) := by
  obtain ⟨h1, h2⟩ := List.getElem?_eq_some_iff.1 h
  have e : K = K.take j ++ a :: K.drop (j + 1) := by rw [← h2, ← List.drop_eq_getElem_cons h1, List.take_append_drop]
  have hl : (cellsT (K.take j)).length = j * 5 := by rw [cellsT_len, List.length_take]; omega
  rw [e, cellsT_app]
  have hc : cellsT (a :: K.drop (j + 1)) = .int .i64 a.l.k :: .int .i64 a.l.f :: .int .i64 a.l.t :: .int .i64 a.l.x :: .slice a.A a.l.ns.length a.cap :: cellsT (K.drop (j + 1)) := rfl
  rw [hc]
  refine ⟨?_, ?_, ?_, ?_, ?_⟩ <;> (rw [List.getElem?_append_right (by omega), hl]; simp)
def OwnT (w : World) (B : Nat) (v : Value) (K : List LtrA) : Prop := w.ownsRow B 32 5 v K.length (cellsT K) ∧ (K = [] → v = .slice none 0 0)
theorem OwnT.nil (w : World) (B : Nat) : OwnT w B (.slice none 0 0) [] := ⟨⟨rfl, .inl ⟨rfl, rfl⟩⟩, fun _ => rfl⟩
theorem OwnT.sl {w : World} {B : Nat} {v : Value} {K : List LtrA} (h : OwnT w B v K) : ∃ A cap, v = .slice A K.length cap := by
  rcases h.1.2 with ⟨rfl, h0⟩ | ⟨g, cap, cur, rfl, _⟩
  · exact ⟨none, 0, by rw [h0]⟩
  · exact ⟨_, _, rfl⟩
theorem OwnT.row {w : World} {B : Nat} {v : Value} {K : List LtrA} {j : Nat} {a : LtrA} (h : OwnT w B v K) (hj : K[j]? = some a) : ∃ g cap, v = .slice (some ⟨g, 0, none⟩) K.length cap ∧ B ≤ g ∧ g < w.heap.size ∧ ∀ W : World, W.heap[g]? = w.heap[g]? →
    W.cell? ⟨g, j * 5, none⟩ = some (.int .i64 a.l.k) ∧ W.cell? ⟨g, j * 5 + 1, none⟩ = some (.int .i64 a.l.f) ∧ W.cell? ⟨g, j * 5 + 2, none⟩ = some (.int .i64 a.l.t) ∧ W.cell? ⟨g, j * 5 + 3, none⟩ = some (.int .i64 a.l.x) ∧ W.cell? ⟨g, j * 5 + 4, none⟩ = some (.slice a.A a.l.ns.length a.cap) := by
  have hlt := (List.getElem?_eq_some_iff.1 hj).1
  rcases h.1.2 with ⟨rfl, h0⟩ | ⟨g, cap, cur, rfl, hB, hh, hnc, hm, hs, ht⟩
  · omega
  · refine ⟨g, cap, rfl, hB, (Array.getElem?_eq_some_iff.1 hh).1, fun W hW => ?_⟩
    have key : ∀ i u, (cellsT K)[i]? = Option.some u → W.cell? ⟨g, i, none⟩ = Option.some u := fun i u hu => by
      rw [cell_of_row W g i cur _ (0, 0) (hW.trans hh)]
      rw [← ht, List.getElem?_take] at hu
      split at hu
      · rw [← Array.getElem?_toList]; exact hu
      · cases hu
    obtain ⟨c0, c1, c2, c3, c4⟩ := cellsT_at hj
    exact ⟨key _ _ c0, key _ _ c1, key _ _ c2, key _ _ c3, key _ _ c4⟩
theorem OwnT.only {Q : Nat → Prop} {w w' : World} {B : Nat} {v : Value} {K : List LtrA} (h : OwnT w B v K) (hO : Only Q w w') (hK : ∀ k, v.ownBlock = some k → ¬ Q k) : OwnT w' B v K := by
  refine ⟨⟨h.1.1, ?_⟩, h.2⟩
  rcases h.1.2 with h1 | ⟨g, cap, cur, e, hB, hh, hr⟩
  · exact .inl h1
  · exact .inr ⟨g, cap, cur, e, hB, (hO.block g (Array.getElem?_eq_some_iff.1 hh).1 (hK g (by rw [e]; rfl))).trans hh, hr⟩
theorem OwnT.below {w w' : World} {B : Nat} {v : Value} {K : List LtrA} (h : OwnT w B v K) (hb : Below w.heap.size w w') : OwnT w' B v K := h.only (Q := fun _ => False) (Only.of_below hb) fun _ _ h => h
/-- it lies off the net -/
theorem OwnT.off {w : World} {B : Nat} {v : Value} {K : List LtrA} (h : OwnT w B v K) {p : Nat} {m : Option Nat} {L : List En} {s t : Nat} (hN : NetAt w p m L s t) : ∀ k, v.ownBlock = some k → ¬ NK p m k ∧ (∀ e ∈ L, e.g ≠ k) ∧ B ≤ k := by
  intro k hk
  cases K with
  | nil => rw [h.2 rfl] at hk; cases hk
  | cons a K =>
    obtain ⟨g, cap, rfl, hB, hlt, hc⟩ := h.row (j := 0) (a := a) rfl
    injection hk with hk
    subst hk
    have c0 := (hc w rfl).1
    rw [Nat.zero_mul] at c0
    refine ⟨fun hx => ?_, fun e he hx => ?_, hB⟩
    · rcases hx with hx | hx
      · simp only at hx
        rw [hx, hN.cells.1] at c0
        cases c0
      · simp only at hx
        rcases hN.map with ⟨h5, _⟩ | ⟨q', D, h5, h6, _⟩
        · rw [h5] at hx; cases hx
        · rw [h5] at hx
          injection hx with hx
          obtain ⟨es, cl, hb, _⟩ := h6
          simp [World.cell?, hx, hb] at c0
    · simp only at hx
      have hp := (Ltr.bytes_len (hN.right e he)).2
      obtain ⟨c, r, hcr⟩ : ∃ c r, e.l.bytes = c :: r := by
        cases hb : e.l.bytes with
        | nil => rw [hb] at hp; simp at hp
        | cons c r => exact ⟨c, r, rfl⟩
      obtain ⟨ad, h1, h2, h3⟩ := (hN.code e he).1 (by rw [hcr]; simp)
      injection h1 with h1
      subst h1
      have h4 := h3 0 c (by rw [hcr]; rfl)
      rw [Addr.add_lit, Nat.zero_add, hx, c0] at h4
      cases h4
/-- append of one letter -/
theorem infoT : (Try.prog.info? 32).map (fun i => (i.zero, i.size, i.bytes)) = some (some (.agg #[.int .i64 0, .int .i64 0, .int .i64 0, .int .i64 0, .slice none 0 0]), 5, 56) := by kernel_rfl
theorem box_cells (w : World) (a : LtrA) : ∀ j u, (cellsT [a])[j]? = some u → (w.alloc (.cells #[.int .i64 a.l.k, .int .i64 a.l.f, .int .i64 a.l.t, .int .i64 a.l.x, .slice a.A a.l.ns.length a.cap] 32)).cell? ((⟨w.heap.size, 0, none⟩ : Addr).add j) = some u := by
  intro j u hu
  have hh : (w.alloc (.cells #[.int .i64 a.l.k, .int .i64 a.l.f, .int .i64 a.l.t, .int .i64 a.l.x, .slice a.A a.l.ns.length a.cap] 32)).heap[w.heap.size]? = _ := heap_alloc_new w _
  rw [Addr.add_lit, cell_of_row _ _ _ _ _ (0, 0) hh, ← Array.getElem?_toList, Nat.zero_add]
  exact hu
/-- the law's own: the net, and the letters that were sent -/
structure WhW (w W : World) (p : Nat) (m : Option Nat) (L : List En) (s t : Nat) (v : Value) (K : List LtrA) : Prop where
  net : NetW w W p m L s t
  own : OwnT W w.heap.size v K
  okK : ∀ a ∈ K, RdI w w.heap.size a.A a.l.ns ∧ a.l.ns.length ≤ 80
  all : ∀ e ∈ L, ∃ a ∈ K, a.l = e.l
  few : K.length ≤ 80
theorem WhW.below {w W W' : World} {p : Nat} {m : Option Nat} {L : List En} {s t : Nat} {v : Value} {K : List LtrA} (h : WhW w W p m L s t v K) (hb : Below W.heap.size W W') : WhW w W' p m L s t v K := ⟨h.net.below hb, h.own.below hb, h.okK, h.all, h.few⟩
theorem WhW.keep {w W W' : World} {p : Nat} {m : Option Nat} {L : List En} {s t : Nat} {v : Value} {K : List LtrA} (h : WhW w W p m L s t v K) (hO : Only (NK p m) W W') : OwnT W' w.heap.size v K := h.own.only hO fun k hk => (h.own.off h.net.net k hk).1
theorem WhW.put {w W W' : World} {p : Nat} {m : Option Nat} {L : List En} {s t : Nat} {v : Value} {K : List LtrA} {e : En} (h : WhW w W p m L s t v K) (he : e ∈ L) (k : PutR W p m L s t e.l W') : ∃ m' L', WhW w W' p m' L' (s + 1) t v K := by
  obtain ⟨m', g, c, h1⟩ := h.net.put k
  obtain ⟨_, _, _, _, hO, _⟩ := k
  refine ⟨m', _, h1, h.keep hO, h.okK, fun u hu => ?_, h.few⟩
  rw [List.mem_append, List.mem_singleton] at hu
  rcases hu with hu | rfl
  · exact h.all u hu
  · exact h.all e he
theorem WhW.lose {w W W' : World} {p : Nat} {m : Option Nat} {L : List En} {s t : Nat} {v : Value} {K : List LtrA} {x : Int} (h : WhW w W p m L s t v K) (k : LoseR W p m L s t x W') : WhW w W' p m (dropN L x) s t v K :=
  ⟨h.net.lose k, h.keep k.2, h.okK, fun u hu => h.all u (List.mem_filter.1 hu).1, h.few⟩
theorem WhW.take {w W W' : World} {p : Nat} {m : Option Nat} {L : List En} {s t : Nat} {v : Value} {K : List LtrA} {x : Int} {l : Ltr} {A : Option Addr} {c : Nat} (h : WhW w W p m L s t v K) (k : TakeR W p m L s t x l A c W') : WhW w W' p m (dropN L x) s (t + 1) v K :=
  ⟨h.net.take k, h.keep k.2.2, h.okK, fun u hu => h.all u (List.mem_filter.1 hu).1, h.few⟩
theorem WhW.send {w W W1 W2 : World} {p : Nat} {m m' : Option Nat} {L : List En} {s t s' g c : Nat} {v v' : Value} {K : List LtrA} {a : LtrA} (h : WhW w W p m L s t v K) (hN : NetW w W1 p m' (L ++ [⟨s, a.l, g, c⟩]) s' t) (ho : OwnT W1 w.heap.size v K) (hK : K.length < 80) (ha : RdI w w.heap.size a.A a.l.ns ∧ a.l.ns.length ≤ 80)
    (hrow : W2.ownsRow w.heap.size 32 5 v' (K.length + 1) (cellsT K ++ cellsT [a])) (hg : W1.grownBy W2 v.ownBlock) : WhW w W2 p m' (L ++ [⟨s, a.l, g, c⟩]) s' t v' (K ++ [a]) := by
  have hoff := ho.off hN.net
  have hO : Only (fun k => some k = v.ownBlock) W1 W2 := Only.of_grown hg
  refine ⟨⟨hN.net.only hO (fun e => (hoff _ e.symm).1 (.inl rfl)) (fun q hq e => (hoff _ e.symm).1 (.inr hq.symm)) fun u hu e => (hoff _ e.symm).2.1 u hu rfl, hN.bel.trans (hO.below hN.bel.size fun j e => (hoff j e.symm).2.2), hN.gp, hN.gm⟩, ⟨?_, fun e => by simp at e⟩, fun b hb => ?_, fun u hu => ?_, by rw [List.length_append]; simp; omega⟩
  · rw [List.length_append, cellsT_app]; exact hrow
  · rw [List.mem_append, List.mem_singleton] at hb
    rcases hb with hb | rfl
    · exact h.okK b hb
    · exact ha
  · rw [List.mem_append, List.mem_singleton] at hu
    rcases hu with hu | rfl
    · obtain ⟨b, hb, e⟩ := h.all u hu
      exact ⟨b, by simp [hb], e⟩
    · exact ⟨a, by simp, rfl⟩
/-- Told, by how many were lost -/
theorem told_r {w : World} {p : Nat} {m : Option Nat} {L : List En} {s t : Nat} (h : NetAt w p m L s t) : Calls Try.prog 21 #[.pointer (some ⟨p, 0, none⟩)] w (fun e w' => ∃ r Z : Nat, Hid (L.length = Z) ∧ s = t + r + Z ∧ e = .returned (.tuple #[.int .i64 (s : Int), .int .i64 (t : Int), .int .i64 (r : Int)]) ∧ Below w.heap.size w w') := by
  refine (told_any h).mono ?_
  rintro e w' ⟨rfl, n, rfl⟩
  have := h.sum
  refine ⟨s - t - L.length, L.length, Lib.hid rfl, by omega, ?_, drewN_below _ _⟩
  rw [show ((s - t - L.length : Nat) : Int) = (s : Int) - t - L.length by omega]
/-- at the law's loop's head -/
def NwL (w : World) (n : Nat) (v4 v5 v6 : Value) (wr : World) : Prop := ∃ (i s t : Nat) (m : Option Nat) (L : List En) (K : List LtrA), v5 = .int .i64 (s : Int) ∧ v6 = .int .i64 (i : Int) ∧ i ≤ n ∧ i ≤ 80 ∧ s ≤ i ∧ K.length ≤ i ∧ WhW w wr w.heap.size m L s t v4 K
/-- at the head of the loop over those that were sent -/
def NwI (w : World) (K : List LtrA) (l : Ltr) (b0 : Bool) (v14 v15 : Value) (wr : World) : Prop := ∃ j : Nat, v14 = .bool (b0 || (K.take j).any fun a => sameL l a.l) ∧ v15 = .int .i64 (j : Int) ∧ j ≤ K.length ∧ Below w.heap.size w wr
theorem any_next {K : List LtrA} {j : Nat} {a : LtrA} (h : K[j]? = some a) (l : Ltr) (b0 : Bool) : (b0 || (K.take (j + 1)).any fun a => sameL l a.l) = ((b0 || (K.take j).any fun a => sameL l a.l) || sameL l a.l) := by
  rw [List.take_add_one, h, List.any_append]
  simp [Bool.or_assoc]
theorem find_drop (L : List En) (x : Int) : findN (dropN L x) x = none := by
  unfold findN dropN
  rw [List.find?_eq_none]
  intro e he
  have := (List.mem_filter.1 he).2
  simpa using this
/-- an act in a box of the law's -/
def aObj (k n : Int) (a : LtrA) : Obj := .cells #[.int .i64 k, .int .i64 n, .int .i64 a.l.k, .int .i64 a.l.f, .int .i64 a.l.t, .int .i64 a.l.x, .slice a.A a.l.ns.length a.cap] 34
theorem box7 {w : World} {b : Nat} {x0 x1 x2 x3 x4 x5 x6 : Value} {t : TypeId} {fr : Nat × Nat} (h : w.heap[b]? = some (.cells #[x0, x1, x2, x3, x4, x5, x6] t fr)) : w.cell? ⟨b, 0, none⟩ = some x0 ∧ w.cell? ⟨b, 1, none⟩ = some x1 ∧ w.cell? ⟨b, 2, none⟩ = some x2 ∧ w.cell? ⟨b, 3, none⟩ = some x3 ∧ w.cell? ⟨b, 4, none⟩ = some x4 ∧ w.cell? ⟨b, 5, none⟩ = some x5 ∧ w.cell? ⟨b, 6, none⟩ = some x6 := by
  simp [World.cell?, h]
theorem known_all {K : List LtrA} {L : List En} (h : ∀ e ∈ L, ∃ a ∈ K, a.l = e.l) {x : Int} {e : En} (hf : findN L x = some e) : (false || (K.take K.length).any fun a => sameL e.l a.l) = true := by
  obtain ⟨a, ha, he⟩ := h e (findN_some hf).1
  rw [List.take_length, Bool.false_or, List.any_eq_true]
  exact ⟨a, ha, by rw [he]; exact sameL_self _⟩
theorem told_sum {S T R Z : Nat} (h : S = T + R + Z) (hm : S ≤ 100000) : wrap64 ((T : Int) + (R : Int)) = (T : Int) + (R : Int) ∧ wrap64 ((T : Int) + (R : Int) + (Z : Int)) = (S : Int) := by
  constructor <;> (unfold wrap64; omega)
theorem plus_one {s X : Nat} (h : s + 1 = X) (hs : s ≤ 1000) : wrap64 ((s : Int) + 1) = (X : Int) ∧ (s : Int) + 1 = (X : Int) ∧ ((X : Int) != (s : Int) + 1) = false := by
  refine ⟨by unfold wrap64; omega, by omega, ?_⟩
  simp; omega
set_option maxRecDepth 100000 in
set_option maxHeartbeats 32000000 in
theorem netWhole_law (l : List ActN) (A : Option Addr) (cap : Nat) (w : World) (hm : l.length ≤ maxLen) (hr : RdActs w w.heap.size A l) (hok : ∀ x ∈ l, x.ok w w.heap.size) :
    Calls Try.prog 4 #[.slice A l.length cap] w (Ans (.bool true) w) := by
  obtain ⟨n, hn⟩ : ∃ n, l.length = n := ⟨_, rfl⟩
  rw [hn] at hm ⊢
  have hni : (n : Int) ≤ 9223372036854775807 := by unfold maxLen at hm; omega
  have HR := Lib.hid hr
  have HN0 := Lib.hid hn
  have HOK := Lib.hid hok
  have HST : Hid (NwL w n (.slice none 0 0) (.int .i64 0) (.int .i64 0) (w.alloc (netO none 0 0))) := Lib.hid ⟨0, 0, 0, none, [], [], rfl, rfl, Nat.zero_le _, by omega, Nat.le_refl _, Nat.le_refl _, NetW.new w, OwnT.nil _ _, fun a ha => by simp at ha, fun e he => by simp at he, by simp⟩
  unfold netO at HST
  clear hr hn hm hok
  go_enter Try.func4, Try.ntmps4
  go_wp2_with (go_at_call 9; refine (new_any _).mono ?_; unfold netO; rintro e w1 ⟨rfl, rfl⟩)
  go_loopw [4, 5, 6] (fun v4 v5 v6 wr => NwL w n v4 v5 v6 wr) (fun _ _ v6 _ => n - (intOf v6).toNat)
  case atStart => exact HST.out
  case round =>
    obtain ⟨i, s, t, m, L, K, rfl, rfl, hi1, hi2, hs1, hK, hW⟩ := hrel
    have hii : (i : Int) ≤ 80 := by omega
    by_cases hx : i < n ∧ i < 80
    · obtain ⟨h1, h2⟩ := hx
      have h1i : (i : Int) < (n : Int) := by omega
      have h2i : (i : Int) < 80 := by omega
      obtain ⟨x, hx⟩ : ∃ x, l[i]? = some x := ⟨_, List.getElem?_eq_getElem (by rw [HN0.out]; exact h1)⟩
      have hxo := HOK.out x (List.mem_of_getElem? hx)
      obtain ⟨b, o, hA, hcs⟩ := HR.out.at_ hx
      subst hA
      obtain ⟨q0, q1, q2, q3, q4, q5, q6⟩ := hcs wr fun k hk => hW.net.bel.block k hk
      obtain ⟨A4, cap4, rfl⟩ := hW.own.sl
      have HRD : Hid (∀ W, Below wr.heap.size wr W → RdI W W.heap.size x.a.A x.a.l.ns) := Lib.hid fun W hb => (hxo.a.rd.below (hW.net.bel.trans (hb.mono hW.net.bel.size)) (Nat.le_refl _)).more (hW.net.bel.trans (hb.mono hW.net.bel.size)).size
      have hrd0 := hxo.a.rd
      have HX64 := Lib.hid hxo.n
      obtain ⟨xk, xn, ⟨⟨lk, lf, lt, lx, lns⟩, xA, xcap⟩⟩ := x
      have hlen : (lns.length : Int) ≤ 9223372036854775807 := by have := hxo.a.cap; have := hxo.a.most; simp only at *; unfold maxLen at *; omega
      simp only at q0 q1 q2 q3 q4 q5 q6 HRD hrd0 HX64
      obtain ⟨N, hNN⟩ : ∃ N, lns.length = N := ⟨_, rfl⟩
      have HNN := Lib.hid hNN
      rw [hNN] at q6 hlen
      have HW1 := Lib.hid (hW.below (alloc_below wr (.cells #[.int .i64 xk, .int .i64 xn, .int .i64 lk, .int .i64 lf, .int .i64 lt, .int .i64 lx, .slice xA N xcap] 34)))
      have HKL := Lib.hid hK
      have HB7 : Hid (∀ W, Only (NK w.heap.size m) (wr.alloc (.cells #[.int .i64 xk, .int .i64 xn, .int .i64 lk, .int .i64 lf, .int .i64 lt, .int .i64 lx, .slice xA N xcap] 34)) W → W.heap[wr.heap.size]? = some (.cells #[.int .i64 xk, .int .i64 xn, .int .i64 lk, .int .i64 lf, .int .i64 lt, .int .i64 lx, .slice xA N xcap] 34)) := Lib.hid fun W hO => (hO.block _ (by simp) (fun h => by
        rcases h with h | h
        · have := hW.net.net.lt_p; omega
        · have h1 := hW.net.net
          rw [← h] at h1
          have := (h1.map_lt).1
          omega)).trans (heap_alloc_new wr _)
      have HZ : Hid (∀ (S' T' : Nat) m' L' K' v4' v5 v6 W, S' ≤ i + 1 → K'.length ≤ i + 1 → v5 = .int .i64 (S' : Int) → v6 = .int .i64 ((i + 1 : Nat) : Int) → WhW w W w.heap.size m' L' S' T' v4' K' → NwL w n v4' v5 v6 W) := Lib.hid fun S' T' m' L' K' v4' v5 v6 W h1' h2' h3' h4' h5' => ⟨i + 1, S', T', m', L', K', h3', h4', h1, h2, h1', h2', h5'⟩
      clear hx hxo hcs hW hK hNN
      by_cases hs : (80 : Int) < (N : Int)
      · have HSX : Hid (s ≤ i + 1) := Lib.hid (by omega)
        have HKX : Hid (K.length ≤ i + 1) := Lib.hid (by have := HKL.out; omega)
        have HF := HW1
        clear hi1 hi2 h1 h2 hrd0
        go_wp2_with fail
        go_roundw
        case rel => first | exact HZ.out _ _ _ _ _ _ _ _ _ HSX.out HKX.out (by first | rfl | exact congrArg (Value.int .i64) HS1.out) (by go_num) HF.out | ((repeat apply Exists.intro); exact ⟨HZ.out _ _ _ _ _ _ _ _ _ HSX.out HKX.out (by first | rfl | exact congrArg (Value.int .i64) HS1.out) (by go_num) HF.out, rfl⟩)
        case measure => simp [intOf]; omega
      · have HOKA : Hid (RdI w w.heap.size xA lns ∧ lns.length ≤ 80) := Lib.hid ⟨hrd0, by rw [HNN.out]; omega⟩
        clear hi1 hi2 hrd0
        by_cases e1 : xk = 1
        · subst e1
          cases hR : Ltr.right ⟨lk, lf, lt, lx, lns⟩
          · have HSX : Hid (s ≤ i + 1) := Lib.hid (by omega)
            have HKX : Hid (K.length ≤ i + 1) := Lib.hid (by have := HKL.out; omega)
            have hss : ((s : Int) != (s : Int)) = false := by simp
            have HS := Lib.hid (send_wrong (p := w.heap.size) ⟨lk, lf, lt, lx, lns⟩ hR xA N xcap HNN.out (by omega) (wr.alloc (.cells #[.int .i64 1, .int .i64 xn, .int .i64 lk, .int .i64 lf, .int .i64 lt, .int .i64 lx, .slice xA N xcap] 34)) (HRD.out _ (alloc_below wr _)))
            clear hR
            go_wp2_with (first
              | (go_at_call 10; refine HS.out.mono ?_; rintro e w2 ⟨rfl, hb⟩
                 have HE := Lib.hid (HW1.out.below hb)
                 clear hb)
              | (go_at_call 21; refine (told_r HE.out.net.net).mono ?_; rintro e wt ⟨r, Z, hZ, hr, rfl, hb⟩
                 have hmo := HE.out.net.net.most
                 obtain ⟨hwa, hwb⟩ := told_sum hr hmo
                 have HT := Lib.hid (HE.out.below hb)
                 clear hr hb hmo)
              | (go_at_call 23; refine (numbers_any HT.out.net.net).mono ?_; rintro e wn ⟨vn, rfl, hn, hb⟩
                 obtain ⟨An, cn, rfl, _⟩ := hn.2
                 have HF := Lib.hid (HT.out.below hb)
                 rw [nums_len, hZ.out]
                 clear hn hb))
            go_roundw
            case rel => first | exact HZ.out _ _ _ _ _ _ _ _ _ HSX.out HKX.out (by first | rfl | exact congrArg (Value.int .i64) HS1.out) (by go_num) HF.out | ((repeat apply Exists.intro); exact ⟨HZ.out _ _ _ _ _ _ _ _ _ HSX.out HKX.out (by first | rfl | exact congrArg (Value.int .i64) HS1.out) (by go_num) HF.out, rfl⟩)
            case measure => simp [intOf]; omega
          · obtain ⟨SX, hSX⟩ : ∃ SX, Hid (s + 1 = SX) := ⟨_, Lib.hid rfl⟩
            have HSX : Hid (SX ≤ i + 1) := Lib.hid (by have := hSX.out; omega)
            have hss : ((s : Int) != (s : Int)) = false := by simp
            have hSS : ((SX : Int) != (SX : Int)) = false := by simp
            obtain ⟨hwc, hs1', hS2⟩ := plus_one hSX.out (by omega)
            have HS1 := Lib.hid hs1'
            clear hs1'
            have HKX : Hid ((K ++ [(⟨⟨lk, lf, lt, lx, lns⟩, xA, xcap⟩ : LtrA)]).length ≤ i + 1) := Lib.hid (by have := HKL.out; rw [List.length_append, List.length_cons, List.length_nil]; omega)
            have HS := Lib.hid (send_yes HW1.out.net.net (by have := HW1.out.net.net.sum; omega) (by omega) ⟨lk, lf, lt, lx, lns⟩ hR xA N xcap HNN.out (by omega) (HRD.out _ (alloc_below wr _)))
            unfold PutT at HS
            obtain ⟨i0, hi0, hz0, hz1, hz2⟩ := info_parts infoT
            clear hR
            go_wp2_with (first
              | (go_at_call 10; refine HS.out.mono ?_; rintro e w2 ⟨rfl, hp⟩
                 obtain ⟨m2, g2, c2, h2⟩ := HW1.out.net.put hp
                 have ho2 := HW1.out.keep hp.choose_spec.choose_spec.choose_spec.2.1
                 obtain ⟨z0, z1, z2, z3, z4, z5, z6⟩ := box7 (HB7.out w2 hp.choose_spec.choose_spec.choose_spec.2.1)
                 have H2 := Lib.hid h2
                 have HO2 := Lib.hid ho2
                 clear hp h2 ho2)
              | (at_builtin; refine wpList_append_own _ rfl _ _ 53 rfl w.heap.size 32 i0 _ 5 56 Try.underlying53 hi0 hz0 hz1 hz2 rfl (by omega) _ _ _ rfl (HO2.out.below (alloc_below w2 _)).1 ⟨w2.heap.size, 0, none⟩ 1 1 (cellsT [(⟨⟨lk, lf, lt, lx, lns⟩, xA, xcap⟩ : LtrA)]) rfl rfl (by rw [← HNN.out]; exact box_cells w2 ⟨⟨lk, lf, lt, lx, lns⟩, xA, xcap⟩) (cellsT_one _) (by have := HW1.out.few; unfold maxLen; omega) (by have := HW1.out.few; omega) (by have := H2.out.bel.size; simp; omega) ?_
                 intro v3 w3 hrow3 hg3 _
                 have HE := Lib.hid (WhW.send (a := ⟨⟨lk, lf, lt, lx, lns⟩, xA, xcap⟩) HW1.out (H2.out.below (alloc_below w2 _)) (HO2.out.below (alloc_below w2 _)) (by have := HKL.out; omega) HOKA.out hrow3 hg3)
                 rw [hSX.out] at HE
                 clear hrow3 hg3)
              | (go_at_call 21; refine (told_r HE.out.net.net).mono ?_; rintro e wt ⟨r, Z, hZ, hr, rfl, hb⟩
                 have hmo := HE.out.net.net.most
                 obtain ⟨hwa, hwb⟩ := told_sum hr hmo
                 have HT := Lib.hid (HE.out.below hb)
                 clear hr hb hmo)
              | (go_at_call 23; refine (numbers_any HT.out.net.net).mono ?_; rintro e wn ⟨vn, rfl, hn, hb⟩
                 obtain ⟨An, cn, rfl, _⟩ := hn.2
                 have HF := Lib.hid (HT.out.below hb)
                 rw [nums_len, hZ.out]
                 clear hn hb))
            go_roundw
            case rel => first | exact HZ.out _ _ _ _ _ _ _ _ _ HSX.out HKX.out (by first | rfl | exact congrArg (Value.int .i64) HS1.out) (by go_num) HF.out | ((repeat apply Exists.intro); exact ⟨HZ.out _ _ _ _ _ _ _ _ _ HSX.out HKX.out (by first | rfl | exact congrArg (Value.int .i64) HS1.out) (by go_num) HF.out, rfl⟩)
            case measure => simp [intOf]; omega
        · by_cases e2 : xk = 2
          · subst e2
            cases hf : findN L xn with
            | none =>
              have HSX : Hid (s ≤ i + 1) := Lib.hid (by omega)
              have HKX : Hid (K.length ≤ i + 1) := Lib.hid (by have := HKL.out; omega)
              have hss : ((s : Int) != (s : Int)) = false := by simp
              have hx64 : i64ok xn := HX64.out
              have HS := Lib.hid (take_no HW1.out.net.net hx64 hf)
              have HFN := Lib.hid hf
              unfold zeroL at HS
              clear hf
              go_wp2_with (first
                | (go_at_call 15; have _t := HS; refine HS.out.mono ?_; rintro e w2 ⟨rfl, hb⟩
                   have hal := hb.trans ((alloc_below w2 (.cells #[.int .i64 0, .int .i64 0, .int .i64 0, .int .i64 0, .slice none 0 0] 32)).mono hb.size)
                   have HW3 := Lib.hid (HW1.out.below hal)
                   have HBX := Lib.hid (heap_alloc_new w2 (.cells #[.int .i64 0, .int .i64 0, .int .i64 0, .int .i64 0, .slice none 0 0] 32))
                   obtain ⟨z0, z1, z2, z3, z4, z5, z6⟩ := box7 (HB7.out _ (Only.of_below hal))
                   clear hb hal HS _t)
                | (go_at_call 15; have _t := HW3; refine (take_no HW3.out.net.net hx64 HFN.out).mono ?_; unfold zeroL; rintro e w4 ⟨rfl, hb⟩
                   have hal := hb.trans ((alloc_below w4 (.cells #[.int .i64 0, .int .i64 0, .int .i64 0, .int .i64 0, .slice none 0 0] 32)).mono hb.size)
                   have HE5 := Lib.hid (HW3.out.below hal)
                   have HY : Hid (∀ W, Below (w4.alloc (.cells #[.int .i64 0, .int .i64 0, .int .i64 0, .int .i64 0, .slice none 0 0] 32)).heap.size (w4.alloc (.cells #[.int .i64 0, .int .i64 0, .int .i64 0, .int .i64 0, .slice none 0 0] 32)) W → W.heap[w2.heap.size]? = some (.cells #[.int .i64 0, .int .i64 0, .int .i64 0, .int .i64 0, .slice none 0 0] 32)) := Lib.hid fun W hW => ((hal.trans (hW.mono hal.size)).block _ (Array.getElem?_eq_some_iff.1 HBX.out).1).trans HBX.out
                   have HNE2 : Hid (0 ≤ 80) := Lib.hid (by omega)
                   have HRY : Hid (∀ W, Below (w4.alloc (.cells #[.int .i64 0, .int .i64 0, .int .i64 0, .int .i64 0, .slice none 0 0] 32)).heap.size (w4.alloc (.cells #[.int .i64 0, .int .i64 0, .int .i64 0, .int .i64 0, .slice none 0 0] 32)) W → RdI W W.heap.size none ([] : List Int)) := Lib.hid fun W _ => RdI.nil _ _ _
                   have HKN : Hid ((true || (K.take K.length).any fun a => sameL ⟨0, 0, 0, 0, []⟩ a.l) = true) := Lib.hid rfl
                   clear hb hal HW3 _t)
                | fail)
              have HST : Hid (NwI (w4.alloc (.cells #[.int .i64 0, .int .i64 0, .int .i64 0, .int .i64 0, .slice none 0 0] 32)) K ⟨0, 0, 0, 0, []⟩ true (.bool true) (.int .i64 0) (w4.alloc (.cells #[.int .i64 0, .int .i64 0, .int .i64 0, .int .i64 0, .slice none 0 0] 32))) := Lib.hid ⟨0, by simp, rfl, Nat.zero_le _, Below.refl _ _⟩
              go_loopw [14, 15] (fun v14 v15 wr => NwI (w4.alloc (.cells #[.int .i64 0, .int .i64 0, .int .i64 0, .int .i64 0, .slice none 0 0] 32)) K ⟨0, 0, 0, 0, []⟩ true v14 v15 wr) (fun _ v15 _ => K.length - (intOf v15).toNat)
              case atStart => exact HST.out
              case round =>
                obtain ⟨j, rfl, rfl, hj, hbj⟩ := hrel
                have HBJ := Lib.hid hbj
                obtain ⟨y0, y1, y2, y3, y4⟩ := box5 (HY.out wr hbj)
                have hji : (j : Int) ≤ 80 := by have := HE5.out.few; omega
                clear hbj
                by_cases hjl : j < K.length
                · have hjli : (j : Int) < (K.length : Int) := by omega
                  obtain ⟨a, ha⟩ : ∃ a, K[j]? = some a := ⟨_, List.getElem?_eq_getElem hjl⟩
                  obtain ⟨g4, cp4, hv4, _, hg4, hc4⟩ := HE5.out.own.row ha
                  injection hv4 with e1 e2 e3
                  subst e1 e3
                  obtain ⟨r0, r1, r2, r3, r4⟩ := hc4 wr (HBJ.out.block g4 hg4)
                  have hoa := HE5.out.okK a (List.mem_of_getElem? ha)
                  obtain ⟨b, hb⟩ : ∃ b, Hid (b = (true || (K.take j).any fun a => sameL ⟨0, 0, 0, 0, []⟩ a.l)) := ⟨_, Lib.hid rfl⟩
                  have HSM : Hid (∀ W, Below (w4.alloc (.cells #[.int .i64 0, .int .i64 0, .int .i64 0, .int .i64 0, .slice none 0 0] 32)).heap.size (w4.alloc (.cells #[.int .i64 0, .int .i64 0, .int .i64 0, .int .i64 0, .slice none 0 0] 32)) W → Calls Try.prog 14 #[.agg #[.int .i64 0, .int .i64 0, .int .i64 0, .int .i64 0, .slice none 0 0], .agg #[.int .i64 a.l.k, .int .i64 a.l.f, .int .i64 a.l.t, .int .i64 a.l.x, .slice a.A a.l.ns.length a.cap]] W (Ans (.bool (sameL ⟨0, 0, 0, 0, []⟩ a.l)) W)) := Lib.hid fun W hW => refSameL_any ⟨0, 0, 0, 0, []⟩ a.l none a.A 0 a.l.ns.length 0 a.cap rfl rfl (by have := HNE2.out; omega) (by have := hoa.2; omega) W (HRY.out W hW) ((hoa.1.below (HE5.out.net.bel.trans (hW.mono HE5.out.net.bel.size)) (Nat.le_refl _)).more (HE5.out.net.bel.trans (hW.mono HE5.out.net.bel.size)).size)
                  obtain ⟨sm, hsm⟩ : ∃ sm, sm = sameL ⟨0, 0, 0, 0, []⟩ a.l := ⟨_, rfl⟩
                  have HNX : Hid (∀ v14 v15 W, v14 = .bool (b || sm) → v15 = .int .i64 ((j + 1 : Nat) : Int) → Below wr.heap.size wr W → NwI (w4.alloc (.cells #[.int .i64 0, .int .i64 0, .int .i64 0, .int .i64 0, .slice none 0 0] 32)) K ⟨0, 0, 0, 0, []⟩ true v14 v15 W) := Lib.hid fun v14 v15 W h14 h15 hW => ⟨j + 1, by rw [h14, any_next ha, ← hb.out, hsm], h15, hjl, HBJ.out.trans (hW.mono HBJ.out.size)⟩
                  rw [← hsm] at HSM
                  rw [← hb.out]
                  clear ha hc4 hoa hsm hb hjl hj
                  obtain ⟨⟨ak, af, at', ax, ans⟩, aA, acap⟩ := a
                  simp only at *
                  cases b
                  all_goals
                    go_wp2_with fail
                    go_region_law (first
                      | (go_simp; go_at_call 14; refine (HSM.out _ HBJ.out.drew).mono ?_; rintro e ws ⟨rfl, hb⟩
                         have HBS : Hid (Below wr.heap.size wr ws) := Lib.hid ((Below.refl _ wr).drew.trans hb)
                         clear hb))
                    all_goals
                      go_wp2_with fail
                      go_roundw
                      case rel => first | exact HNX.out _ _ _ rfl (by go_num) HBS.out | ((repeat apply Exists.intro); exact ⟨HNX.out _ _ _ rfl (by go_num) HBS.out, rfl⟩)
                      case measure => simp [intOf]; omega
                · have hje : j = K.length := by omega
                  subst hje
                  rw [HKN.out]
                  have hjli : ¬ (K.length : Int) < (K.length : Int) := by omega
                  have HE := Lib.hid (HE5.out.below HBJ.out)
                  clear hjl hj
                  go_wp2_with (first
                    | (go_at_call 21; refine (told_r HE.out.net.net).mono ?_; rintro e wt ⟨r, Z, hZ, hr, rfl, hb⟩
                       have hmo := HE.out.net.net.most
                       obtain ⟨hwa, hwb⟩ := told_sum hr hmo
                       have HT := Lib.hid (HE.out.below hb)
                       clear hr hb hmo)
                    | (go_at_call 23; refine (numbers_any HT.out.net.net).mono ?_; rintro e wn ⟨vn, rfl, hn, hb⟩
                       obtain ⟨An, cn, rfl, _⟩ := hn.2
                       have HF := Lib.hid (HT.out.below hb)
                       rw [nums_len, hZ.out]
                       clear hn hb))
                  go_roundw
                  case rel => first | exact HZ.out _ _ _ _ _ _ _ _ _ HSX.out HKX.out (by first | rfl | exact congrArg (Value.int .i64) HS1.out) (by go_num) HF.out | ((repeat apply Exists.intro); exact ⟨HZ.out _ _ _ _ _ _ _ _ _ HSX.out HKX.out (by first | rfl | exact congrArg (Value.int .i64) HS1.out) (by go_num) HF.out, rfl⟩)
                  case measure => simp [intOf]; omega
            | some e0 =>
              have HSX : Hid (s ≤ i + 1) := Lib.hid (by omega)
              have HKX : Hid (K.length ≤ i + 1) := Lib.hid (by have := HKL.out; omega)
              have hss : ((s : Int) != (s : Int)) = false := by simp
              have hx64 : i64ok xn := HX64.out
              have HS := Lib.hid (take_yes HW1.out.net.net hx64 hf)
              have HKN0 := Lib.hid (known_all HW1.out.all hf)
              obtain ⟨TX, hTX⟩ : ∃ TX, Hid (t + 1 = TX) := ⟨_, Lib.hid rfl⟩
              have HNE2 : Hid (e0.l.ns.length ≤ 80) := Lib.hid (by have := up_len (by omega) (by omega) (Ltr.up (HW1.out.net.net.right e0 (findN_some hf).1)); omega)
              unfold TakeT at HS
              obtain ⟨en, ⟨ek, ef, et, ex, ens⟩, eg, ec⟩ := e0
              simp only at HS HKN0 HNE2
              clear hf
              go_wp2_with (first
                | (go_at_call 15; have _t := HS; refine HS.out.mono ?_; rintro e w2 ⟨A2, c2, rfl, hp⟩
                   have hal := (alloc_below w2 (.cells #[.int .i64 ek, .int .i64 ef, .int .i64 et, .int .i64 ex, .slice A2 ens.length c2] 32))
                   have h3 := (HW1.out.take hp).below hal
                   rw [hTX.out] at h3
                   have HW3 := Lib.hid h3
                   have HO3 := Lib.hid (hp.1.below hal)
                   have HBX := Lib.hid (heap_alloc_new w2 (.cells #[.int .i64 ek, .int .i64 ef, .int .i64 et, .int .i64 ex, .slice A2 ens.length c2] 32))
                   obtain ⟨z0, z1, z2, z3, z4, z5, z6⟩ := box7 (HB7.out _ (hp.2.2.trans (Only.of_below (K := NK w.heap.size m) hal) fun _ _ h => h))
                   clear hp hal h3 HS _t)
                | (go_at_call 15; have _t := HW3; refine (take_no HW3.out.net.net hx64 (find_drop L xn)).mono ?_; unfold zeroL; rintro e w4 ⟨rfl, hb⟩
                   have hal := hb.trans ((alloc_below w4 (.cells #[.int .i64 0, .int .i64 0, .int .i64 0, .int .i64 0, .slice none 0 0] 32)).mono hb.size)
                   have HE5 := Lib.hid (HW3.out.below hal)
                   have HY : Hid (∀ W, Below (w4.alloc (.cells #[.int .i64 0, .int .i64 0, .int .i64 0, .int .i64 0, .slice none 0 0] 32)).heap.size (w4.alloc (.cells #[.int .i64 0, .int .i64 0, .int .i64 0, .int .i64 0, .slice none 0 0] 32)) W → W.heap[w2.heap.size]? = some (.cells #[.int .i64 ek, .int .i64 ef, .int .i64 et, .int .i64 ex, .slice A2 ens.length c2] 32)) := Lib.hid fun W hW => ((hal.trans (hW.mono hal.size)).block _ (Array.getElem?_eq_some_iff.1 HBX.out).1).trans HBX.out
                   have HRY : Hid (∀ W, Below (w4.alloc (.cells #[.int .i64 0, .int .i64 0, .int .i64 0, .int .i64 0, .slice none 0 0] 32)).heap.size (w4.alloc (.cells #[.int .i64 0, .int .i64 0, .int .i64 0, .int .i64 0, .slice none 0 0] 32)) W → RdI W W.heap.size A2 ens) := Lib.hid fun W hW => (HO3.out.below (hal.trans (hW.mono hal.size))).rd
                   have HKN := HKN0
                   clear hb hal HW3 HO3 _t)
                | fail)
              have HST : Hid (NwI (w4.alloc (.cells #[.int .i64 0, .int .i64 0, .int .i64 0, .int .i64 0, .slice none 0 0] 32)) K ⟨ek, ef, et, ex, ens⟩ false (.bool false) (.int .i64 0) (w4.alloc (.cells #[.int .i64 0, .int .i64 0, .int .i64 0, .int .i64 0, .slice none 0 0] 32))) := Lib.hid ⟨0, by simp, rfl, Nat.zero_le _, Below.refl _ _⟩
              go_loopw [14, 15] (fun v14 v15 wr => NwI (w4.alloc (.cells #[.int .i64 0, .int .i64 0, .int .i64 0, .int .i64 0, .slice none 0 0] 32)) K ⟨ek, ef, et, ex, ens⟩ false v14 v15 wr) (fun _ v15 _ => K.length - (intOf v15).toNat)
              case atStart => exact HST.out
              case round =>
                obtain ⟨j, rfl, rfl, hj, hbj⟩ := hrel
                have HBJ := Lib.hid hbj
                obtain ⟨y0, y1, y2, y3, y4⟩ := box5 (HY.out wr hbj)
                have hji : (j : Int) ≤ 80 := by have := HE5.out.few; omega
                clear hbj
                by_cases hjl : j < K.length
                · have hjli : (j : Int) < (K.length : Int) := by omega
                  obtain ⟨a, ha⟩ : ∃ a, K[j]? = some a := ⟨_, List.getElem?_eq_getElem hjl⟩
                  obtain ⟨g4, cp4, hv4, _, hg4, hc4⟩ := HE5.out.own.row ha
                  injection hv4 with e1 e2 e3
                  subst e1 e3
                  obtain ⟨r0, r1, r2, r3, r4⟩ := hc4 wr (HBJ.out.block g4 hg4)
                  have hoa := HE5.out.okK a (List.mem_of_getElem? ha)
                  obtain ⟨b, hb⟩ : ∃ b, Hid (b = (false || (K.take j).any fun a => sameL ⟨ek, ef, et, ex, ens⟩ a.l)) := ⟨_, Lib.hid rfl⟩
                  have HSM : Hid (∀ W, Below (w4.alloc (.cells #[.int .i64 0, .int .i64 0, .int .i64 0, .int .i64 0, .slice none 0 0] 32)).heap.size (w4.alloc (.cells #[.int .i64 0, .int .i64 0, .int .i64 0, .int .i64 0, .slice none 0 0] 32)) W → Calls Try.prog 14 #[.agg #[.int .i64 ek, .int .i64 ef, .int .i64 et, .int .i64 ex, .slice A2 ens.length c2], .agg #[.int .i64 a.l.k, .int .i64 a.l.f, .int .i64 a.l.t, .int .i64 a.l.x, .slice a.A a.l.ns.length a.cap]] W (Ans (.bool (sameL ⟨ek, ef, et, ex, ens⟩ a.l)) W)) := Lib.hid fun W hW => refSameL_any ⟨ek, ef, et, ex, ens⟩ a.l A2 a.A ens.length a.l.ns.length c2 a.cap rfl rfl (by have := HNE2.out; omega) (by have := hoa.2; omega) W (HRY.out W hW) ((hoa.1.below (HE5.out.net.bel.trans (hW.mono HE5.out.net.bel.size)) (Nat.le_refl _)).more (HE5.out.net.bel.trans (hW.mono HE5.out.net.bel.size)).size)
                  obtain ⟨sm, hsm⟩ : ∃ sm, sm = sameL ⟨ek, ef, et, ex, ens⟩ a.l := ⟨_, rfl⟩
                  have HNX : Hid (∀ v14 v15 W, v14 = .bool (b || sm) → v15 = .int .i64 ((j + 1 : Nat) : Int) → Below wr.heap.size wr W → NwI (w4.alloc (.cells #[.int .i64 0, .int .i64 0, .int .i64 0, .int .i64 0, .slice none 0 0] 32)) K ⟨ek, ef, et, ex, ens⟩ false v14 v15 W) := Lib.hid fun v14 v15 W h14 h15 hW => ⟨j + 1, by rw [h14, any_next ha, ← hb.out, hsm], h15, hjl, HBJ.out.trans (hW.mono HBJ.out.size)⟩
                  rw [← hsm] at HSM
                  rw [← hb.out]
                  clear ha hc4 hoa hsm hb hjl hj
                  obtain ⟨⟨ak, af, at', ax, ans⟩, aA, acap⟩ := a
                  simp only at *
                  cases b
                  all_goals
                    go_wp2_with fail
                    go_region_law (first
                      | (go_simp; go_at_call 14; refine (HSM.out _ HBJ.out.drew).mono ?_; rintro e ws ⟨rfl, hb⟩
                         have HBS : Hid (Below wr.heap.size wr ws) := Lib.hid ((Below.refl _ wr).drew.trans hb)
                         clear hb))
                    all_goals
                      go_wp2_with fail
                      go_roundw
                      case rel => first | exact HNX.out _ _ _ rfl (by go_num) HBS.out | ((repeat apply Exists.intro); exact ⟨HNX.out _ _ _ rfl (by go_num) HBS.out, rfl⟩)
                      case measure => simp [intOf]; omega
                · have hje : j = K.length := by omega
                  subst hje
                  rw [HKN.out]
                  have hjli : ¬ (K.length : Int) < (K.length : Int) := by omega
                  have HE := Lib.hid (HE5.out.below HBJ.out)
                  clear hjl hj
                  go_wp2_with (first
                    | (go_at_call 21; refine (told_r HE.out.net.net).mono ?_; rintro e wt ⟨r, Z, hZ, hr, rfl, hb⟩
                       have hmo := HE.out.net.net.most
                       obtain ⟨hwa, hwb⟩ := told_sum hr hmo
                       have HT := Lib.hid (HE.out.below hb)
                       clear hr hb hmo)
                    | (go_at_call 23; refine (numbers_any HT.out.net.net).mono ?_; rintro e wn ⟨vn, rfl, hn, hb⟩
                       obtain ⟨An, cn, rfl, _⟩ := hn.2
                       have HF := Lib.hid (HT.out.below hb)
                       rw [nums_len, hZ.out]
                       clear hn hb))
                  go_roundw
                  case rel => first | exact HZ.out _ _ _ _ _ _ _ _ _ HSX.out HKX.out (by first | rfl | exact congrArg (Value.int .i64) HS1.out) (by go_num) HF.out | ((repeat apply Exists.intro); exact ⟨HZ.out _ _ _ _ _ _ _ _ _ HSX.out HKX.out (by first | rfl | exact congrArg (Value.int .i64) HS1.out) (by go_num) HF.out, rfl⟩)
                  case measure => simp [intOf]; omega
          · by_cases e3 : xk = 3
            · subst e3
              cases hf : findN L xn with
              | none =>
                have HSX : Hid (s ≤ i + 1) := Lib.hid (by omega)
                have HKX : Hid (K.length ≤ i + 1) := Lib.hid (by have := HKL.out; omega)
                have hss : ((s : Int) != (s : Int)) = false := by simp
                have hx64 : i64ok xn := HX64.out
                have HS := Lib.hid (twice_no HW1.out.net.net hx64 hf)
                clear hf
                go_wp2_with (first
                  | (go_at_call 17; refine HS.out.mono ?_; rintro e w2 ⟨rfl, rfl⟩
                     have HE := HW1)
                  | (go_at_call 21; refine (told_r HE.out.net.net).mono ?_; rintro e wt ⟨r, Z, hZ, hr, rfl, hb⟩
                     have hmo := HE.out.net.net.most
                     obtain ⟨hwa, hwb⟩ := told_sum hr hmo
                     have HT := Lib.hid (HE.out.below hb)
                     clear hr hb hmo)
                  | (go_at_call 23; refine (numbers_any HT.out.net.net).mono ?_; rintro e wn ⟨vn, rfl, hn, hb⟩
                     obtain ⟨An, cn, rfl, _⟩ := hn.2
                     have HF := Lib.hid (HT.out.below hb)
                     rw [nums_len, hZ.out]
                     clear hn hb))
                go_roundw
                case rel => first | exact HZ.out _ _ _ _ _ _ _ _ _ HSX.out HKX.out (by first | rfl | exact congrArg (Value.int .i64) HS1.out) (by go_num) HF.out | ((repeat apply Exists.intro); exact ⟨HZ.out _ _ _ _ _ _ _ _ _ HSX.out HKX.out (by first | rfl | exact congrArg (Value.int .i64) HS1.out) (by go_num) HF.out, rfl⟩)
                case measure => simp [intOf]; omega
              | some e0 =>
                obtain ⟨SX, hSX⟩ : ∃ SX, Hid (s + 1 = SX) := ⟨_, Lib.hid rfl⟩
                have HSX : Hid (SX ≤ i + 1) := Lib.hid (by have := hSX.out; omega)
                have hss : ((s : Int) != (s : Int)) = false := by simp
                have hSS : ((SX : Int) != (SX : Int)) = false := by simp
                obtain ⟨hwc, hs1', hS2⟩ := plus_one hSX.out (by omega)
                have HS1 := Lib.hid hs1'
                clear hs1'
                have hx64 : i64ok xn := HX64.out
                have HKX : Hid (K.length ≤ i + 1) := Lib.hid (by have := HKL.out; omega)
                have HS := Lib.hid (twice_yes HW1.out.net.net (by have := HW1.out.net.net.sum; omega) (by omega) hx64 hf)
                have HEM := Lib.hid (findN_some hf).1
                unfold PutT at HS
                clear hf
                go_wp2_with (first
                  | (go_at_call 17; refine HS.out.mono ?_; rintro e w2 ⟨rfl, hp⟩
                     obtain ⟨m2, L2, h2⟩ := HW1.out.put HEM.out hp
                     rw [hSX.out] at h2
                     have HE := Lib.hid h2
                     clear hp h2)
                  | (go_at_call 21; refine (told_r HE.out.net.net).mono ?_; rintro e wt ⟨r, Z, hZ, hr, rfl, hb⟩
                     have hmo := HE.out.net.net.most
                     obtain ⟨hwa, hwb⟩ := told_sum hr hmo
                     have HT := Lib.hid (HE.out.below hb)
                     clear hr hb hmo)
                  | (go_at_call 23; refine (numbers_any HT.out.net.net).mono ?_; rintro e wn ⟨vn, rfl, hn, hb⟩
                     obtain ⟨An, cn, rfl, _⟩ := hn.2
                     have HF := Lib.hid (HT.out.below hb)
                     rw [nums_len, hZ.out]
                     clear hn hb))
                go_roundw
                case rel => first | exact HZ.out _ _ _ _ _ _ _ _ _ HSX.out HKX.out (by first | rfl | exact congrArg (Value.int .i64) HS1.out) (by go_num) HF.out | ((repeat apply Exists.intro); exact ⟨HZ.out _ _ _ _ _ _ _ _ _ HSX.out HKX.out (by first | rfl | exact congrArg (Value.int .i64) HS1.out) (by go_num) HF.out, rfl⟩)
                case measure => simp [intOf]; omega
            · by_cases e4 : xk = 4
              · subst e4
                cases hf : findN L xn with
                | none =>
                  have HSX : Hid (s ≤ i + 1) := Lib.hid (by omega)
                  have HKX : Hid (K.length ≤ i + 1) := Lib.hid (by have := HKL.out; omega)
                  have hss : ((s : Int) != (s : Int)) = false := by simp
                  have hx64 : i64ok xn := HX64.out
                  have HS := Lib.hid (lose_no HW1.out.net.net hx64 hf)
                  clear hf
                  go_wp2_with (first
                    | (go_at_call 19; refine HS.out.mono ?_; rintro e w2 ⟨rfl, rfl⟩
                       have HE := HW1)
                    | (go_at_call 21; refine (told_r HE.out.net.net).mono ?_; rintro e wt ⟨r, Z, hZ, hr, rfl, hb⟩
                       have hmo := HE.out.net.net.most
                       obtain ⟨hwa, hwb⟩ := told_sum hr hmo
                       have HT := Lib.hid (HE.out.below hb)
                       clear hr hb hmo)
                    | (go_at_call 23; refine (numbers_any HT.out.net.net).mono ?_; rintro e wn ⟨vn, rfl, hn, hb⟩
                       obtain ⟨An, cn, rfl, _⟩ := hn.2
                       have HF := Lib.hid (HT.out.below hb)
                       rw [nums_len, hZ.out]
                       clear hn hb))
                  go_roundw
                  case rel => first | exact HZ.out _ _ _ _ _ _ _ _ _ HSX.out HKX.out (by first | rfl | exact congrArg (Value.int .i64) HS1.out) (by go_num) HF.out | ((repeat apply Exists.intro); exact ⟨HZ.out _ _ _ _ _ _ _ _ _ HSX.out HKX.out (by first | rfl | exact congrArg (Value.int .i64) HS1.out) (by go_num) HF.out, rfl⟩)
                  case measure => simp [intOf]; omega
                | some e0 =>
                  have HSX : Hid (s ≤ i + 1) := Lib.hid (by omega)
                  have HKX : Hid (K.length ≤ i + 1) := Lib.hid (by have := HKL.out; omega)
                  have hss : ((s : Int) != (s : Int)) = false := by simp
                  have hx64 : i64ok xn := HX64.out
                  have HS := Lib.hid (lose_yes HW1.out.net.net hx64 hf)
                  clear hf
                  go_wp2_with (first
                    | (go_at_call 19; refine HS.out.mono ?_; rintro e w2 ⟨rfl, hp⟩
                       have HE := Lib.hid (HW1.out.lose hp)
                       clear hp)
                    | (go_at_call 21; refine (told_r HE.out.net.net).mono ?_; rintro e wt ⟨r, Z, hZ, hr, rfl, hb⟩
                       have hmo := HE.out.net.net.most
                       obtain ⟨hwa, hwb⟩ := told_sum hr hmo
                       have HT := Lib.hid (HE.out.below hb)
                       clear hr hb hmo)
                    | (go_at_call 23; refine (numbers_any HT.out.net.net).mono ?_; rintro e wn ⟨vn, rfl, hn, hb⟩
                       obtain ⟨An, cn, rfl, _⟩ := hn.2
                       have HF := Lib.hid (HT.out.below hb)
                       rw [nums_len, hZ.out]
                       clear hn hb))
                  go_roundw
                  case rel => first | exact HZ.out _ _ _ _ _ _ _ _ _ HSX.out HKX.out (by first | rfl | exact congrArg (Value.int .i64) HS1.out) (by go_num) HF.out | ((repeat apply Exists.intro); exact ⟨HZ.out _ _ _ _ _ _ _ _ _ HSX.out HKX.out (by first | rfl | exact congrArg (Value.int .i64) HS1.out) (by go_num) HF.out, rfl⟩)
                  case measure => simp [intOf]; omega
              · have n1 : (xk == 1) = false := by simpa using e1
                have n2 : (xk == 2) = false := by simpa using e2
                have n3 : (xk == 3) = false := by simpa using e3
                have n4 : (xk == 4) = false := by simpa using e4
                clear e1 e2 e3 e4
                have HSX : Hid (s ≤ i + 1) := Lib.hid (by omega)
                have HKX : Hid (K.length ≤ i + 1) := Lib.hid (by have := HKL.out; omega)
                have hss : ((s : Int) != (s : Int)) = false := by simp
                go_wp2_with (first
                  | (go_at_call 21; refine (told_r HW1.out.net.net).mono ?_; rintro e wt ⟨r, Z, hZ, hr, rfl, hb⟩
                     have hmo := HW1.out.net.net.most
                     obtain ⟨hwa, hwb⟩ := told_sum hr hmo
                     have HT := Lib.hid (HW1.out.below hb)
                     clear hr hb hmo)
                  | (go_at_call 23; refine (numbers_any HT.out.net.net).mono ?_; rintro e wn ⟨vn, rfl, hn, hb⟩
                     obtain ⟨An, cn, rfl, _⟩ := hn.2
                     have HF := Lib.hid (HT.out.below hb)
                     rw [nums_len, hZ.out]
                     clear hn hb))
                go_roundw
                case rel => first | exact HZ.out _ _ _ _ _ _ _ _ _ HSX.out HKX.out (by first | rfl | exact congrArg (Value.int .i64) HS1.out) (by go_num) HF.out | ((repeat apply Exists.intro); exact ⟨HZ.out _ _ _ _ _ _ _ _ _ HSX.out HKX.out (by first | rfl | exact congrArg (Value.int .i64) HS1.out) (by go_num) HF.out, rfl⟩)
                case measure => simp [intOf]; omega
    · have hx2 : (¬ (i : Int) < (n : Int)) ∨ ((i : Int) < (n : Int) ∧ ¬ (i : Int) < 80) := by omega
      have HW := Lib.hid hW.net
      clear hx hW hi1 hi2 hK hs1
      rcases hx2 with hx3 | ⟨hx3, hx4⟩
      all_goals
        go_wp2_with (go_at_call 26; refine (aliveN_any _).mono ?_; rintro e wz ⟨rfl, hb⟩
                     have HE := Lib.hid (HW.out.below hb).bel
                     clear hb)
        go_ret
        exact ⟨rfl, HE.out⟩
end Go.Proofs.Ythapjoghnhfkdaa

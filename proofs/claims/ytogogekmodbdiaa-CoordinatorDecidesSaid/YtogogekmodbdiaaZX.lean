/- Package letter: nodes that increase; Right. -/
import Derived.Test.YtogogekmodbdiaaZA
import Derived.Test.YtogogekmodbdiaaWH
namespace Go.Proofs.Ytogogekmodbdiaa
section
open Go.RowKit

def LooksL (v : Value) (w : World) : Ending → World → Prop := fun e w' => e = .returned v ∧ w = w'
/-- numbers can be read -/
def RdI (w : World) (B : Nat) (A : Option Addr) (l : List Int) : Prop := l ≠ [] → ∃ b o, A = some ⟨b, o, none⟩ ∧ b < B ∧ ∀ j x, l[j]? = some x → w.cell? ⟨b, o + j, none⟩ = some (.int .i64 x)
theorem RdI.at_ {w : World} {B : Nat} {A : Option Addr} {l : List Int} (h : RdI w B A l) {j : Nat} {x : Int} (hj : l[j]? = some x) : ∃ b o, A = some ⟨b, o, none⟩ ∧ b < B ∧ w.cell? ⟨b, o + j, none⟩ = some (.int .i64 x) := by
  obtain ⟨b, o, e, hlt, hc⟩ := h (by rintro rfl; simp at hj)
  exact ⟨b, o, e, hlt, hc j x hj⟩
theorem RdI.keep {w w' : World} {B : Nat} {A : Option Addr} {l : List Int} (h : RdI w B A l) (hk : ∀ k, k < B → w'.heap[k]? = w.heap[k]?) : RdI w' B A l := fun hn => by
  obtain ⟨b, o, e, hb, hc⟩ := h hn
  exact ⟨b, o, e, hb, fun j c hj => (World.cell?_of_block (hk b hb)).trans (hc j c hj)⟩
theorem RdI.below {w w' : World} {B C : Nat} {A : Option Addr} {l : List Int} (h : RdI w B A l) (hb : Below C w w') (hC : B ≤ C) : RdI w' B A l := h.keep fun k hk => hb.block k (by omega)
theorem RdI.more {w : World} {B C : Nat} {A : Option Addr} {l : List Int} (h : RdI w B A l) (hC : B ≤ C) : RdI w C A l := fun hn => by
  obtain ⟨b, o, e, hb, hc⟩ := h hn
  exact ⟨b, o, e, by omega, hc⟩
theorem RdI.nil (w : World) (B : Nat) (A : Option Addr) : RdI w B A [] := fun h => absurd rfl h
theorem box5 {w : World} {b : Nat} {x y z u v : Value} {t : TypeId} {fr : Nat × Nat} (h : w.heap[b]? = some (.cells #[x, y, z, u, v] t fr)) : w.cell? ⟨b, 0, none⟩ = some x ∧ w.cell? ⟨b, 1, none⟩ = some y ∧ w.cell? ⟨b, 2, none⟩ = some z ∧ w.cell? ⟨b, 3, none⟩ = some u ∧ w.cell? ⟨b, 4, none⟩ = some v := by
  simp [World.cell?, h]
def nodeB (n : Int) : Bool := decide (0 ≤ n) && decide (n < 16)
def wrongB (a n : Int) : Bool := decide (n ≤ a) || !nodeB n
theorem wrongB_no {a n : Int} (_ : -1 ≤ a) (h : a < n ∧ n < 16) : wrongB a n = false := by
  unfold wrongB nodeB
  rw [decide_eq_false (by omega), decide_eq_true (by omega), decide_eq_true h.2]; rfl
theorem wrongB_yes {a n : Int} (_ : -1 ≤ a) (h : ¬ (a < n ∧ n < 16)) : wrongB a n = true := by
  unfold wrongB nodeB
  by_cases h1 : n ≤ a
  · rw [decide_eq_true h1]; rfl
  · rw [decide_eq_false h1, decide_eq_false (by omega : ¬ n < 16), Bool.and_false]; rfl
theorem isNode_any (n : Int) (w : World) : Calls Try.prog 43 #[.int .i64 n] w (LooksL (.bool (nodeB n)) w) := by
  unfold nodeB
  go_enter Try.func43, Try.ntmps43
  go_wp2_with fail
  all_goals
    go_ret
    exact ⟨by simp [*] <;> omega, rfl⟩
/-- the box of the last node -/
def LastB (W : World) (g : Nat) (a : Int) : Prop := W.heap[g]? = some (.cells #[.int .i64 a] 3 (0, 0))
theorem LastB.set {W : World} {g : Nat} {a : Int} (h : LastB W g a) (n : Int) : LastB (W.setCell ⟨g, 0, none⟩ (.int .i64 n)) g n := by
  unfold LastB at h ⊢
  simp [World.setCell, Array.getElem?_modify, h]
set_option maxRecDepth 100000 in
theorem inc1_any (n a : Int) (g : Nat) (W : World) (h : LastB W g a) : Calls Try.prog 64 #[.int .i64 n, .pointer (some ⟨g, 0, none⟩)] W (fun e W' => e = .returned (.bool (wrongB a n)) ∧ LastB W' g n ∧ W.grownBy W' (some g)) := by
  have hv := cell_of_one h
  have hf := free_of_one h
  have HS := Lib.hid (h.set n)
  have HG := Lib.hid (grown_set W g 0 (.int .i64 n))
  obtain ⟨b, hb⟩ : ∃ b, Hid (b = nodeB n) := ⟨_, Lib.hid rfl⟩
  have HN := Lib.hid (isNode_any n)
  unfold wrongB
  rw [← hb.out] at HN ⊢
  clear h hb
  go_enter Try.func64, Try.ntmps64
  go_wp2_with (go_at_call 43; refine (HN.out _).mono ?_; rintro e w2 ⟨rfl, rfl⟩)
  all_goals
    go_ret
    exact ⟨by simp [*], HS.out, HG.out⟩
def IXL (W : World) (g : Nat) (a : Int) (ns : List Int) (v8 : Value) (wr : World) : Prop := ∃ (i : Nat) (a' : Int), v8 = .int .i64 i ∧ i ≤ ns.length ∧ LastB wr g a' ∧ upN a ns = upN a' (ns.drop i) ∧ -1 ≤ a' ∧ W.grownBy wr (some g)
def IxT (W : World) (g : Nat) (a : Int) (ns : List Int) (e : Ending) (W' : World) : Prop := ∃ r : Int, e = .returned (.int .i64 r) ∧ decide (0 ≤ r) = !upN a ns ∧ W.grownBy W' (some g)
set_option maxRecDepth 100000 in
set_option maxHeartbeats 4000000 in
theorem index1_any (ns : List Int) (a : Int) (g : Nat) (A : Option Addr) (n cap : Nat) (hn : ns.length = n) (hn2 : n ≤ 1000000) (W : World) (h : LastB W g a) (ha : -1 ≤ a) (hr : RdI W g A ns) :
    Calls Try.prog 80 #[.slice A n cap, .func (.func 64) #[] #[.pointer (some ⟨g, 0, none⟩)]] W (IxT W g a ns) := by
  have HR := Lib.hid hr
  have HN := Lib.hid hn
  have hni : (n : Int) ≤ 1000000 := by omega
  have HST : Hid (IXL W g a ns (.int .i64 0) W) := Lib.hid ⟨0, a, rfl, Nat.zero_le _, h, rfl, ha, grown_refl _ _⟩
  have HGL : Hid (g < W.heap.size) := Lib.hid (Array.getElem?_eq_some_iff.1 h).1
  clear h ha hr hn hn2
  go_enter Try.func80, Try.ntmps80
  go_wp2_with fail
  go_loopw [8] (fun v8 wr => IXL W g a ns v8 wr) (fun v8 _ => n - (intOf v8).toNat)
  case atStart => exact HST.out
  case round =>
    obtain ⟨i, a', rfl, hi, hl, hu, ha, hg⟩ := hrel
    have HL := Lib.hid hl
    have HU := Lib.hid hu
    have HG := Lib.hid hg
    have hi' : i ≤ n := by rw [← HN.out]; exact hi
    have hii : (i : Int) ≤ 1000000 := by omega
    clear hl hu hg hi
    by_cases hlt : i < n
    · obtain ⟨x, hx⟩ : ∃ x, ns[i]? = some x := ⟨_, List.getElem?_eq_getElem (by rw [HN.out]; exact hlt)⟩
      obtain ⟨b, o, hA, hbg, hc⟩ := HR.out.at_ hx
      subst hA
      have hc' : wr.cell? ⟨b, o + i, none⟩ = some (.int .i64 x) := (World.cell?_of_block (HG.out.block b (Nat.lt_trans hbg HGL.out) (fun e => by injection e with e; omega))).trans hc
      have HD : Hid (ns.drop i = x :: ns.drop (i + 1)) := Lib.hid (by
        obtain ⟨h1, h2⟩ := List.getElem?_eq_some_iff.1 hx
        rw [← h2]; exact List.drop_eq_getElem_cons h1)
      have hlti : (i : Int) < (n : Int) := by omega
      by_cases hw : a' < x ∧ x < 16
      · have HC := Lib.hid (inc1_any x a' g wr HL.out)
        rw [wrongB_no ha hw] at HC
        have HY : Hid (∀ v8 w2, v8 = .int .i64 ((i + 1 : Nat) : Int) → LastB w2 g x → wr.grownBy w2 (some g) → IXL W g a ns v8 w2) := Lib.hid fun v8 w2 h8 hl hg => ⟨i + 1, x, h8, by rw [HN.out]; exact hlt, hl, by rw [HU.out, HD.out]; exact (congrArg (· && upN x (ns.drop (i + 1))) (decide_eq_true hw)).trans (Bool.true_and _), by omega, grown_trans HG.out hg⟩
        clear hc hx hw hbg ha
        go_wp2_with (go_at_call 64; refine HC.out.mono ?_; rintro e w2 ⟨rfl, hl, hg⟩; have HZ := Lib.hid (fun v8 h8 => HY.out v8 _ h8 hl hg); clear hl hg)
        go_roundw
        case rel => first | exact HZ.out _ (by go_num) | ((repeat apply Exists.intro); exact ⟨HZ.out _ (by go_num), rfl⟩)
        case measure => simp [intOf]; omega
      · have HC := Lib.hid (inc1_any x a' g wr HL.out)
        rw [wrongB_yes ha hw] at HC
        have HY : Hid (∀ w2, wr.grownBy w2 (some g) → IxT W g a ns (.returned (.int .i64 (i : Int))) w2) := Lib.hid fun w2 hg => ⟨_, rfl, by rw [HU.out, HD.out]; rw [decide_eq_true (by omega), show upN a' (x :: ns.drop (i + 1)) = (decide (a' < x ∧ x < 16) && upN x (ns.drop (i + 1))) from rfl, decide_eq_false hw]; rfl, grown_trans HG.out hg⟩
        clear hc hx hw hbg ha
        go_wp2_with (go_at_call 64; refine HC.out.mono ?_; rintro e w2 ⟨rfl, hl, hg⟩; have HZ := Lib.hid (HY.out _ hg); clear hl hg)
        go_ret
        exact HZ.out
    · have hie : i = n := by omega
      subst hie
      have hlti : ¬ (i : Int) < (i : Int) := by omega
      have HY : Hid (IxT W g a ns (.returned (.int .i64 (-1))) wr) := Lib.hid ⟨-1, rfl, by rw [HU.out, List.drop_of_length_le (by rw [HN.out]; exact Nat.le_refl _)]; rfl, HG.out⟩
      clear hlt hi' ha
      go_wp2_with fail
      go_ret
      exact HY.out
set_option maxRecDepth 100000 in
theorem contains1_any (ns : List Int) (a : Int) (g : Nat) (A : Option Addr) (n cap : Nat) (hn : ns.length = n) (hn2 : n ≤ 1000000) (W : World) (h : LastB W g a) (ha : -1 ≤ a) (hr : RdI W g A ns) :
    Calls Try.prog 65 #[.slice A n cap, .func (.func 64) #[] #[.pointer (some ⟨g, 0, none⟩)]] W (fun e W' => e = .returned (.bool (!upN a ns)) ∧ W.grownBy W' (some g)) := by
  have HX := Lib.hid (index1_any ns a g A n cap hn hn2 W h ha hr)
  clear hn hn2 h ha hr
  go_enter Try.func65, Try.ntmps65
  go_wp2_with (go_at_call 80; refine HX.out.mono ?_; rintro e w2 ⟨r, rfl, hr, hg⟩; have HR := Lib.hid hr; have HG := Lib.hid hg; clear hr hg)
  go_ret
  exact ⟨by rw [← HR.out]; rfl, HG.out⟩
set_option maxRecDepth 100000 in
theorem increasing_any (ns : List Int) (A : Option Addr) (n cap : Nat) (hn : ns.length = n) (hn2 : n ≤ 1000000) (w : World) (hr : RdI w w.heap.size A ns) :
    Calls Try.prog 44 #[.slice A n cap] w (Ans (.bool (upN (-1) ns)) w) := by
  have hbx : LastB (w.alloc (.cells #[.int .i64 (-1)] 3)) w.heap.size (-1) := heap_alloc_new w _
  have HB := Lib.hid (alloc_below w (.cells #[.int .i64 (-1)] 3))
  have HC := Lib.hid (contains1_any ns (-1) w.heap.size A n cap hn hn2 _ hbx (by omega) (hr.below HB.out (Nat.le_refl _)))
  have hmf : ∀ (fn : Fn) (first cap : Array Value) (w : World), (Instr.makeFunc fn first cap).run Try.prog w = .ok (.func fn first cap) w := fun _ _ _ _ => rfl
  clear hr hn hn2 hbx
  go_enter Try.func44, Try.ntmps44
  go_wp2_with (go_at_call 65; refine HC.out.mono ?_; rintro e w2 ⟨rfl, hg⟩; have HG := Lib.hid hg; clear hg)
  go_ret
  exact ⟨by simp, HB.out.trans (grown_below' HG.out (Nat.le_refl _) HB.out.size)⟩
end

section
open Go.RowKit

def intsZ (l : List Int) : List Value := l.map fun n => .int .i64 n
def OwnI (w : World) (B : Nat) (v : Value) (l : List Int) : Prop := w.ownsRow B 3 1 v l.length (intsZ l) ∧ ∃ A cap, v = .slice A l.length cap ∧ l.length ≤ cap
theorem intsZ_len (l : List Int) : (intsZ l).length = l.length := by simp [intsZ]
theorem intsZ_app (a b : List Int) : intsZ (a ++ b) = intsZ a ++ intsZ b := by simp [intsZ]
theorem intsZ_one (l : List Int) : ∀ u ∈ intsZ l, u.oneCell' = true := by
  intro u hu
  simp only [intsZ, List.mem_map] at hu
  obtain ⟨b, _, rfl⟩ := hu
  rfl
theorem OwnI.of_row {w : World} {B n : Nat} {v : Value} {l : List Int} (h : w.ownsRow B 3 1 v n (intsZ l)) : OwnI w B v l := by
  obtain ⟨hl, hc⟩ := h
  have hn : n = l.length := by rw [intsZ_len] at hl; omega
  subst hn
  refine ⟨⟨hl, hc⟩, ?_⟩
  rcases hc with ⟨rfl, h0⟩ | ⟨g, cap, cur, rfl, _, _, hnc, _⟩
  · exact ⟨none, 0, by rw [h0], by omega⟩
  · exact ⟨_, _, rfl, hnc⟩
theorem OwnI.nil (w : World) (B : Nat) : OwnI w B (.slice none 0 0) [] := OwnI.of_row (n := 0) ⟨by simp [intsZ], .inl ⟨rfl, rfl⟩⟩
theorem OwnI.below {w w' : World} {B : Nat} {v : Value} {l : List Int} (h : OwnI w B v l) (hb : Below w.heap.size w w') : OwnI w' B v l := ⟨own_below h.1 hb, h.2⟩
theorem OwnI.low {w : World} {B C : Nat} {v : Value} {l : List Int} (h : OwnI w B v l) (hC : C ≤ B) : OwnI w C v l := by
  refine ⟨⟨h.1.1, ?_⟩, h.2⟩
  rcases h.1.2 with h1 | ⟨g, cap, cur, e, hb, hr⟩
  · exact .inl h1
  · exact .inr ⟨g, cap, cur, e, Nat.le_trans hC hb, hr⟩
theorem OwnI.ge {w : World} {B : Nat} {v : Value} {l : List Int} (h : OwnI w B v l) : ∀ k, v.ownBlock = some k → B ≤ k := by
  intro k hk
  rcases h.1.2 with ⟨rfl, _⟩ | ⟨g, cap, cur, rfl, hB, _⟩
  · simp [Value.ownBlock] at hk
  · simp [Value.ownBlock] at hk; omega
theorem OwnI.rd {w : World} {B : Nat} {A : Option Addr} {n cap : Nat} {l : List Int} (h : OwnI w B (.slice A n cap) l) : RdI w w.heap.size A l := fun hn => by
  rcases h.1.2 with ⟨e, h0⟩ | ⟨g, cap', cur, e, hB, hh, hnc, hc, hsz, htk⟩
  · exact absurd (List.length_eq_zero_iff.1 (by rw [← h0])) hn
  · injection e with e1 e2 e3
    subst e1
    refine ⟨g, 0, rfl, (Array.getElem?_eq_some_iff.1 hh).1, fun j x hj => ?_⟩
    rw [cell_of_row w g _ cur _ (0, 0) hh]
    have hu : (intsZ l)[j]? = some (.int .i64 x) := by simp [intsZ, List.getElem?_map, hj]
    rw [← htk, List.getElem?_take] at hu
    split at hu
    · simpa using hu
    · cases hu
theorem infoZ : (Try.prog.info? 3).map (fun i => (i.zero, i.size, i.bytes)) = some (some (.int .i64 0), 1, 8) := by kernel_rfl
set_option maxRecDepth 100000 in
/-- append, whatever the source -/
theorem run_appendI {w : World} (t ty : TypeId) {B : Nat} (ht : Try.prog.underlying t = some (.slice 3))
    {v : Value} {xs : List Int} (hown : OwnI w B v xs) {A : Option Addr} {C c : Nat} {ys : List Int} (hr : RdI w C A ys) (h63 : xs.length + ys.length ≤ 1000000) (hbase : B ≤ w.heap.size) :
    ∃ v' w', (Builtin.append_ #[t, t] ty #[v, .slice A ys.length c]).run Try.prog w = .ok v' w' ∧ OwnI w' B v' (xs ++ ys) ∧ Grew w v w' v' := by
  obtain ⟨i0, hi, hz, hs, hb⟩ := info_parts infoZ
  rcases A with _ | ad
  · have hy : ys = [] := by
      rcases ys with _ | ⟨y, ys⟩
      · rfl
      · obtain ⟨_, _, h, _⟩ := hr (by simp); cases h
    subst hy
    have hrun : (Builtin.append_ #[t, t] ty #[v, .slice none 0 c]).run Try.prog w = .ok v w := by
      rcases hown.1.2 with ⟨rfl, _⟩ | ⟨g, cap, cur, rfl, _, _, hnc, _⟩
      · simp [Builtin.append_, run_underlying ht, sizeOf, typeInfo, hi, Builtin.lenOf, Builtin.firstCells]
      · simp [Builtin.append_, run_underlying ht, sizeOf, typeInfo, hi, Builtin.lenOf, Builtin.firstCells, hnc, storeCells]
    exact ⟨v, w, hrun, by simpa using hown, Grew.refl w v⟩
  · have hcells : ∀ j u, (intsZ ys)[j]? = some u → w.cell? (ad.add j) = some u := by
      intro j u hu
      have hn : ys ≠ [] := fun e => by subst e; simp [intsZ] at hu
      obtain ⟨b, o, h, _, hc⟩ := hr hn
      injection h with h
      subst h
      simp only [intsZ, List.getElem?_map, Option.map_eq_some_iff] at hu
      obtain ⟨b, hb1, rfl⟩ := hu
      rw [Addr.add_lit]
      exact hc j b hb1
    obtain ⟨v', w', hrun, h2, h3, _, h5⟩ := run_append_own_at (P := Try.prog) w B t ty 3 i0 (.int .i64 0) 1 8 ht hi hz hs hb rfl (by omega) v xs.length (intsZ xs) hown.1 ad ys.length c (intsZ ys) (by simp [intsZ]) hcells (intsZ_one ys) (by unfold maxLen; omega) (by omega) hbase
    rw [← intsZ_app] at h2
    exact ⟨v', w', hrun, OwnI.of_row h2, grew_of h3 h5⟩
theorem wpList_appI {w : World} {ops : Array Oper} {rest : List Oper} {o : Oper} {a : Act} {Q : Exit → Act → World → Prop} (hgd : o.guard = none) (s x : Operand) (t : TypeId) (ho : o.op = .call { callee := .builtin .append, args := #[s, x], argTypes := #[t, t] })
    {B : Nat} (ht : Try.prog.underlying t = some (.slice 3))
    {v : Value} {xs : List Int} (hv : a.eval s = v) (hown : OwnI w B v xs) {A : Option Addr} {C c n : Nat} {ys : List Int} (hx : a.eval x = .slice A n c) (hn : ys.length = n) (hr : RdI w C A ys) (h63 : xs.length + ys.length ≤ 1000000) (hbase : B ≤ w.heap.size)
    (h : ∀ v' w', OwnI w' B v' (xs ++ ys) → Grew w v w' v' → wpList Try.prog ops Q rest (a.put o.dst v') w') : wpList Try.prog ops Q (o :: rest) a w := by
  refine wpList_plain hgd fun _ hK => ?_
  subst hn
  obtain ⟨v', w', hrun, h2, h3⟩ := run_appendI t o.type ht hown (c := c) hr h63 hbase
  unfold Oper.wp execOp
  simp only [ho, resolve, invoke, builtin, Sem.run_bind, Sem.run_pure, Result.andThen_ok, List.map_toArray, List.map_cons, List.map_nil, hv, hx, hrun]
  exact hK _ _ (h v' w' h2 h3)
theorem rd_oneI (w : World) (n : Int) : RdI (w.alloc (.cells #[.int .i64 n] 3)) (w.heap.size + 1) (some ⟨w.heap.size, 0, none⟩) [n] := fun _ => ⟨_, _, rfl, Nat.lt_succ_self _, fun j d hj => by
  have hh : (w.alloc (.cells #[.int .i64 n] 3)).heap[w.heap.size]? = _ := heap_alloc_new w _
  rw [cell_of_row _ _ _ _ _ (0, 0) hh]
  cases j with
  | zero => simp at hj; subst hj; rfl
  | succ j => simp at hj⟩
end

section
open Go.RowKit

def nodesTo (b i : Nat) : List Int := ((List.range i).filter b.testBit).map Int.ofNat
theorem nodesTo_yes {b i : Nat} (h : b.testBit i = true) : nodesTo b (i + 1) = nodesTo b i ++ [(i : Int)] := by
  unfold nodesTo
  rw [List.range_succ, List.filter_append, List.map_append]
  simp [h]
theorem nodesTo_no {b i : Nat} (h : b.testBit i = false) : nodesTo b (i + 1) = nodesTo b i := by
  unfold nodesTo
  rw [List.range_succ, List.filter_append, List.map_append]
  simp [h]
theorem nodesTo_len (b i : Nat) : (nodesTo b i).length ≤ i := by
  unfold nodesTo
  rw [List.length_map]
  exact Nat.le_trans (List.length_filter_le _ _) (by simp)
theorem and1 {b i : Nat} (hb : b < 65536) : bits .and .i64 ((b : Int) / 2 ^ i) 1 = if b.testBit i = true then 1 else 0 := by
  have e : ((b : Int) / 2 ^ i) = ((b / 2 ^ i : Nat) : Int) := by simp
  have hle : b / 2 ^ i ≤ b := Nat.div_le_self _ _
  rw [e, Nat.testBit_eq_decide_div_mod_eq]
  generalize b / 2 ^ i = a at *
  have h1 : (BitVec.ofInt 64 (a : Int)).toNat = a := by rw [BitVec.toNat_ofInt]; simp; omega
  show IntKind.i64.wrap (((BitVec.ofInt 64 (a : Int)) &&& (BitVec.ofInt 64 1)).toNat : Int) = _
  rw [BitVec.toNat_and, h1, show (BitVec.ofInt 64 1).toNat = 1 by decide, Nat.and_one_is_mod, IntKind.wrap_i64]
  by_cases h : a % 2 = 1
  · simp [h]
  · simp [h]; omega
def NdT (w : World) (l : List Int) (e : Ending) (w' : World) : Prop := ∃ v, e = .returned v ∧ OwnI w' w.heap.size v l ∧ Below w.heap.size w w'
def NdL (w : World) (b : Nat) (v3 v5 : Value) (wr : World) : Prop := ∃ (i : Nat) (y : Value), y = v3 ∧ v5 = .int .i64 i ∧ i ≤ 16 ∧ OwnI wr w.heap.size y (nodesTo b i) ∧ Below w.heap.size w wr
end

section
open Go.RowKit

theorem right_bad {l : Ltr} (h : headOk l.k l.f l.t l.x = false) : l.right = false := by unfold Ltr.right; rw [h]; rfl
theorem head_k {k f t x : Int} (h : ¬ (1 ≤ k ∧ k ≤ 8)) : headOk k f t x = false := by unfold headOk; rw [decide_eq_false h]; rfl
theorem head_ft {k f t x : Int} (h : ¬ ((0 ≤ f ∧ f < 16) ∧ 0 ≤ t ∧ t < 16)) : headOk k f t x = false := by unfold headOk; rw [decide_eq_false h, Bool.and_false]; rfl
theorem head_x {k f t x : Int} (h : ¬ (0 ≤ x ∧ x ≤ 1099511627776)) : headOk k f t x = false := by unfold headOk; rw [decide_eq_false h, Bool.and_false]
theorem nodeB_yes {n : Int} (h : 0 ≤ n ∧ n < 16) : nodeB n = true := by unfold nodeB; rw [decide_eq_true h.1, decide_eq_true h.2]; rfl
theorem nodeB_no {n : Int} (h : ¬ (0 ≤ n ∧ n < 16)) : nodeB n = false := by
  unfold nodeB
  by_cases h1 : 0 ≤ n
  · rw [decide_eq_false (by omega : ¬ n < 16), Bool.and_false]
  · rw [decide_eq_false h1]; rfl
theorem head_ok {k f t x : Int} (h1 : 1 ≤ k ∧ k ≤ 8) (h2 : (0 ≤ f ∧ f < 16) ∧ 0 ≤ t ∧ t < 16) (h3 : 0 ≤ x ∧ x ≤ 1099511627776) : headOk k f t x = true := by unfold headOk; rw [decide_eq_true h1, decide_eq_true h2, decide_eq_true h3]; rfl
set_option maxRecDepth 100000 in
set_option maxHeartbeats 4000000 in
theorem rightL_any (k f t x : Int) (ns : List Int) (A : Option Addr) (n cap : Nat) (hn : ns.length = n) (hn2 : n ≤ 1000000) (w : World) (hr : RdI w w.heap.size A ns) :
    Calls Try.prog 25 #[.agg #[.int .i64 k, .int .i64 f, .int .i64 t, .int .i64 x, .slice A n cap]] w (Ans (.bool (Ltr.right ⟨k, f, t, x, ns⟩)) w) := by
  obtain ⟨w0, hw0⟩ : ∃ w0, w0 = w.alloc (.cells #[.int .i64 k, .int .i64 f, .int .i64 t, .int .i64 x, .slice A n cap] 46) := ⟨_, rfl⟩
  have HB : Hid (Below w.heap.size w w0) := Lib.hid (by rw [hw0]; exact alloc_below w _)
  have hbx : w0.heap[w.heap.size]? = some (.cells #[.int .i64 k, .int .i64 f, .int .i64 t, .int .i64 x, .slice A n cap] 46 (0, 0)) := by rw [hw0]; exact heap_alloc_new w _
  have HI := Lib.hid (increasing_any ns A n cap hn hn2 w0 ((hr.below HB.out (Nat.le_refl _)).more HB.out.size))
  obtain ⟨x0, x1, x2, x3, x4⟩ := box5 hbx
  have HF := Lib.hid (isNode_any f w0)
  have HT := Lib.hid (isNode_any t w0)
  obtain ⟨r, hr'⟩ : ∃ r, Hid (r = Ltr.right ⟨k, f, t, x, ns⟩) := ⟨_, Lib.hid rfl⟩
  rw [← hr'.out]
  have HN := Lib.hid hn
  clear hr hbx hn hn2
  subst hw0
  go_enter Try.func25, Try.ntmps25
  by_cases h1 : 1 ≤ k ∧ k ≤ 8
  · by_cases h2 : 0 ≤ f ∧ f < 16
    · rw [nodeB_yes h2] at HF
      by_cases h3 : 0 ≤ t ∧ t < 16
      · rw [nodeB_yes h3] at HT
        by_cases h4 : 0 ≤ x ∧ x ≤ 1099511627776
        · have HO := Lib.hid (head_ok h1 ⟨h2, h3⟩ h4)
          have k1 : ¬ k < 1 := by omega
          have k2 : ¬ 8 < k := by omega
          have e1 : ¬ x < 0 := by omega
          have e2 : ¬ 1099511627776 < x := by omega
          by_cases hk : k = 1
          · have hk1 : (k != 1) = false := by rw [hk]; rfl
            have HY : Hid (r = upN (-1) ns) := Lib.hid (by rw [hr'.out]; unfold Ltr.right; rw [HO.out, if_pos hk, Bool.true_and])
            clear h1 h2 h3 h4 hk
            go_wp2_with (first
              | (go_at_call 43; refine HF.out.mono ?_; rintro e w2 ⟨rfl, rfl⟩)
              | (go_at_call 43; refine HT.out.mono ?_; rintro e w2 ⟨rfl, rfl⟩)
              | (go_at_call 44; refine HI.out.mono ?_; rintro e w2 ⟨rfl, hb⟩; have HZ := Lib.hid (HB.out.trans (hb.mono HB.out.size)); clear hb))
            go_ret
            exact ⟨by rw [HY.out]; rfl, HZ.out⟩
          · have hk1 : (k != 1) = true := by simpa using hk
            have HY : Hid (r = decide (ns = [])) := Lib.hid (by rw [hr'.out]; unfold Ltr.right; rw [HO.out, if_neg hk, Bool.true_and])
            have HQ : Hid (decide (ns = []) = ((n : Int) == 0)) := Lib.hid (by
              rw [← HN.out, Bool.eq_iff_iff, decide_eq_true_eq, beq_iff_eq]
              constructor
              · rintro rfl; rfl
              · intro h; exact List.length_eq_zero_iff.1 (by omega))
            clear h1 h2 h3 h4 hk
            go_wp2_with (first
              | (go_at_call 43; refine HF.out.mono ?_; rintro e w2 ⟨rfl, rfl⟩)
              | (go_at_call 43; refine HT.out.mono ?_; rintro e w2 ⟨rfl, rfl⟩))
            go_ret
            exact ⟨by rw [HY.out, HQ.out]; rfl, HB.out⟩
        · have HY : Hid (r = false) := Lib.hid (by rw [hr'.out]; exact right_bad (head_x h4))
          have k1 : ¬ k < 1 := by omega
          have k2 : ¬ 8 < k := by omega
          have e1 : decide (x < 0) = true ∨ (decide (x < 0) = false ∧ decide (1099511627776 < x) = true) := by
            by_cases h : x < 0
            · exact .inl (decide_eq_true h)
            · exact .inr ⟨decide_eq_false h, decide_eq_true (by omega)⟩
          clear h1 h2 h3 h4
          rcases e1 with e1 | ⟨e1, e2⟩ <;> simp only [decide_eq_true_eq, decide_eq_false_iff_not] at *
          all_goals
            go_wp2_with (first
              | (go_at_call 43; refine HF.out.mono ?_; rintro e w2 ⟨rfl, rfl⟩)
              | (go_at_call 43; refine HT.out.mono ?_; rintro e w2 ⟨rfl, rfl⟩))
            go_ret
            exact ⟨by rw [HY.out]; rfl, HB.out⟩
      · rw [nodeB_no h3] at HT
        have HY : Hid (r = false) := Lib.hid (by rw [hr'.out]; exact right_bad (head_ft fun h => h3 h.2))
        have k1 : ¬ k < 1 := by omega
        have k2 : ¬ 8 < k := by omega
        clear h1 h2 h3
        go_wp2_with (first
          | (go_at_call 43; refine HF.out.mono ?_; rintro e w2 ⟨rfl, rfl⟩)
          | (go_at_call 43; refine HT.out.mono ?_; rintro e w2 ⟨rfl, rfl⟩))
        go_ret
        exact ⟨by rw [HY.out]; rfl, HB.out⟩
    · rw [nodeB_no h2] at HF
      have HY : Hid (r = false) := Lib.hid (by rw [hr'.out]; exact right_bad (head_ft fun h => h2 h.1))
      have k1 : ¬ k < 1 := by omega
      have k2 : ¬ 8 < k := by omega
      clear h1 h2
      go_wp2_with (go_at_call 43; refine HF.out.mono ?_; rintro e w2 ⟨rfl, rfl⟩)
      go_ret
      exact ⟨by rw [HY.out]; rfl, HB.out⟩
  · have HY : Hid (r = false) := Lib.hid (by rw [hr'.out]; exact right_bad (head_k h1))
    by_cases k1 : k < 1
    · clear h1
      go_wp2_with fail
      go_ret
      exact ⟨by rw [HY.out]; rfl, HB.out⟩
    · have k3 : 8 < k := by omega
      clear h1
      go_wp2_with fail
      go_ret
      exact ⟨by rw [HY.out]; rfl, HB.out⟩
end

section
open Go.RowKit

theorem box3_ {w : World} {b : Nat} {x y z : Value} {t : TypeId} {fr : Nat × Nat} (h : w.heap[b]? = some (.cells #[x, y, z] t fr)) : w.cell? ⟨b, 0, none⟩ = some x ∧ w.cell? ⟨b, 1, none⟩ = some y ∧ w.cell? ⟨b, 2, none⟩ = some z := by
  simp [World.cell?, h]
theorem frozen_of {w : World} {b : Nat} {cs : Array Value} {t : TypeId} (h : w.heap[b]? = some (.cells cs t (0, 0))) (i : Nat) : w.frozen? ⟨b, i, none⟩ = false := by
  unfold World.frozen?
  rw [show (⟨b, i, none⟩ : Addr).block = b from rfl, h]
  simp
theorem or64 {a b : Nat} (ha : a < 65536) (hb : b < 65536) : bits .or .i64 (a : Int) (b : Int) = ((a ||| b : Nat) : Int) := by
  have h1 : (BitVec.ofInt 64 (a : Int)).toNat = a := by rw [BitVec.toNat_ofInt]; simp; omega
  have h2 : (BitVec.ofInt 64 (b : Int)).toNat = b := by rw [BitVec.toNat_ofInt]; simp; omega
  have h3 : a ||| b < 65536 := Nat.or_lt_two_pow (n := 16) ha hb
  show IntKind.i64.wrap (((BitVec.ofInt 64 (a : Int)) ||| (BitVec.ofInt 64 (b : Int))).toNat : Int) = _
  rw [BitVec.toNat_or, h1, h2, IntKind.wrap_i64]
  omega
theorem take_up {a : Int} : ∀ {ns : List Int} {i : Nat}, upN a ns = true → upN a (ns.take i) = true := fun {ns i} h =>
  up_of_sorted ((up_sorted h).sublist (List.take_sublist i ns)) fun n hn => up_mem h n (List.mem_of_mem_take hn)
end
end Go.Proofs.Ytogogekmodbdiaa

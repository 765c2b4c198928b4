/- CoordinatorEnds: the law's own body answers true. -/
import Derived.Test.YtknolgcbaoppcaaGreatOUX
import Derived.Test.YtknolgcbaoppcaaGreatCX
namespace Go.Proofs.YtknolgcbaoppcaaGreat
open Go.RowKit

theorem putT_1 (x s a o y t s' a' o' y' t' : Nat) : putT [⟨x, s, a, o, y, t⟩] ⟨x, s', a', o', y', t'⟩ = [⟨x, s', a', o', y', t'⟩] := by simp [putT, dropT]
theorem dropT_1 (x s a o y t : Nat) : dropT [⟨x, s, a, o, y, t⟩] x = [] := by simp [dropT]
theorem findT_1 (x s a o y t : Nat) : findT [⟨x, s, a, o, y, t⟩] x = some ⟨x, s, a, o, y, t⟩ := by simp [findT]
theorem nums_nil : numsT [] = [] := by simp [numsT]
theorem nums_one (e : Te) : numsT [e] = [(e.n : Int)] := by simp [numsT]
theorem tk_nil (node k : Nat) : tkF node k [] (numsT []) = ([], []) := by rw [nums_nil]; rfl
theorem tk_one (node k x a o y t : Nat) (hd : t + 5 ≤ k) : tkF node k [⟨x, 2, a, o, y, t⟩] (numsT [⟨x, 2, a, o, y, t⟩]) = ([⟨x, 2, a, o, y, k⟩], coreL 1 node x (nodesI a).length (nodesI o)) := by
  rw [nums_one]
  have h1 : (Te.due k ⟨x, 2, a, o, y, t⟩) = true := by simp [Te.due, hd]
  simp [tkF, tk1, findT, h1, putT, dropT, Te.ask, Te.nn]
theorem tk_one_no (node k x a o y t : Nat) (hd : ¬ t + 5 ≤ k) : tkF node k [⟨x, 2, a, o, y, t⟩] (numsT [⟨x, 2, a, o, y, t⟩]) = ([⟨x, 2, a, o, y, t⟩], []) := by
  rw [nums_one]
  have h1 : (Te.due k ⟨x, 2, a, o, y, t⟩) = false := by simp [Te.due, hd]
  simp [tkF, tk1, findT, h1]
theorem up_drop {ns : List Int} (hu : upN (-1) ns = true) (i : Nat) : upN (-1) (ns.drop i) = true :=
  up_of_sorted ((up_sorted hu).sublist (List.drop_sublist i ns)) fun n hn => up_mem hu n (List.mem_of_mem_drop hn)
/-- the one transaction behind i votes, asked at tick t -/
def tkV (nd : Nat) (ns : List Int) (i t : Nat) : List Te := if i < ns.length then [⟨nd, 2, orB 0 ns, orB 0 (ns.drop i), 0, t⟩] else []
theorem tkV_tick {nd : Nat} {ns : List Int} (hu : upN (-1) ns = true) (k i j : Nat) (hj : j + 1 = i) : tkF nd i (tkV nd ns k (j / 5 * 5)) (numsT (tkV nd ns k (j / 5 * 5))) = (tkV nd ns k (i / 5 * 5), if i % 5 = 0 then coreL 1 nd nd ns.length (ns.drop k) else []) := by
  unfold tkV
  by_cases hk : k < ns.length
  · simp only [hk, if_true]
    by_cases h5 : i % 5 = 0
    · have e1 : j / 5 * 5 + 5 ≤ i := by omega
      have e2 : i / 5 * 5 = i := by omega
      rw [tk_one _ _ _ _ _ _ _ e1, nodes_or hu, nodes_or (up_drop hu k), e2, if_pos h5]
    · have e1 : ¬ j / 5 * 5 + 5 ≤ i := by omega
      have e2 : i / 5 * 5 = j / 5 * 5 := by omega
      rw [tk_one_no _ _ _ _ _ _ _ e1, e2, if_neg h5]
  · have hd : ns.drop k = [] := List.drop_eq_nil_of_le (by omega)
    simp only [hk, if_false]
    rw [tk_nil, hd]
    simp [coreL]
theorem tkV_ok {nd : Nat} (hnd : nd < 16) {ns : List Int} (hu : upN (-1) ns = true) (k t i : Nat) (ht : t ≤ i) : TkOk i (tkV nd ns k t) := by
  intro e he
  unfold tkV at he
  by_cases hk : k < ns.length
  · simp only [hk, if_true, List.mem_singleton] at he
    subst he
    exact ⟨.inr (.inl rfl), or_lt (by omega) hu (by decide), or_lt (by omega) (up_drop hu k) (by decide), by show nd < _; omega, ht⟩
  · simp only [hk, if_false] at he
    simp at he
theorem tkV_len (nd : Nat) (ns : List Int) (k t : Nat) : (tkV nd ns k t).length < 1000 := by
  unfold tkV
  split <;> simp
/-- at the head of the votes' loop -/
def TvL (w : World) (c nd : Nat) (ns : List Int) (k : Nat) (v : Value) (wr : World) : Prop := ∃ (i : Nat) (S : CoS), v = .int .i64 (i : Int) ∧ i ≤ k ∧ Co wr w.heap.size S ∧ S.c = c ∧ S.node = nd ∧ S.tks = 0 ∧ S.T = tkV nd ns i 0 ∧ S.os = [] ∧ Below w.heap.size w wr
/-- at the head of the ticks' loop -/
def TtL (w : World) (c nd : Nat) (ns : List Int) (k : Nat) (v : Value) (wr : World) : Prop := ∃ (i j : Nat) (S : CoS), v = .int .i64 (i : Int) ∧ j + 1 = i ∧ i ≤ 16 ∧ Co wr w.heap.size S ∧ S.c = c ∧ S.node = nd ∧ S.tks = j ∧ S.T = tkV nd ns k (j / 5 * 5) ∧ S.os = [] ∧ Below w.heap.size w wr
/-- at the head of the last loop -/
def TzL (w : World) (c nd : Nat) (v : Value) (wr : World) : Prop := ∃ (i : Nat) (S : CoS), v = .int .i64 (i : Int) ∧ i ≤ 10 ∧ Co wr w.heap.size S ∧ S.c = c ∧ S.node = nd ∧ S.tks = 15 + i ∧ S.T = [] ∧ S.os = [] ∧ Below w.heap.size w wr
def TjL (n : Nat) (we : World) (v : Value) (wr : World) : Prop := ∃ j : Nat, v = .int .i64 (j : Int) ∧ j ≤ n ∧ Below we.heap.size we wr
theorem vote_step {ns : List Int} {i f : Nat} (hf : ns[i]? = some (f : Int)) : ns.drop i = (f : Int) :: ns.drop (i + 1) := by
  obtain ⟨h1, h2⟩ := List.getElem?_eq_some_iff.1 hf
  rw [List.drop_eq_getElem_cons h1, h2]
theorem or_none {ns : List Int} (hu : upN (-1) ns = true) (h : orB 0 ns = 0) : ns = [] := by
  have h2 := nodes_or hu
  rw [h] at h2
  rw [← h2]
  decide

/-- the one transaction behind i votes of Yes -/
def tyV (nd : Nat) (ns : List Int) (i : Nat) : List Te := if i < ns.length then [⟨nd, 2, orB 0 ns, orB 0 (ns.drop i), orB 0 (ns.take i), 0⟩] else [⟨nd, 3, 0, orB 0 ns, 0, 0⟩]
/-- the committed transaction of which some are still to be told -/
def tdV (nd : Nat) (ls : List Int) (t : Nat) : List Te := if ls = [] then [] else [⟨nd, 3, 0, orB 0 ls, 0, t⟩]
theorem tdV_ne {nd t : Nat} {ls : List Int} (h : ls ≠ []) : tdV nd ls t = [⟨nd, 3, 0, orB 0 ls, 0, t⟩] := by unfold tdV; rw [if_neg h]
theorem td_yes (node k x o t : Nat) (hd : t + 5 ≤ k) : tkF node k [⟨x, 3, 0, o, 0, t⟩] (numsT [⟨x, 3, 0, o, 0, t⟩]) = ([⟨x, 3, 0, o, 0, k⟩], coreL 5 node x 0 (nodesI o)) := by
  rw [nums_one]
  have h1 : (Te.due k ⟨x, 3, 0, o, 0, t⟩) = true := by simp [Te.due, hd]
  simp [tkF, tk1, findT, h1, putT, dropT, Te.ask, Te.nn]
theorem td_no (node k x o t : Nat) (hd : ¬ t + 5 ≤ k) : tkF node k [⟨x, 3, 0, o, 0, t⟩] (numsT [⟨x, 3, 0, o, 0, t⟩]) = ([⟨x, 3, 0, o, 0, t⟩], []) := by
  rw [nums_one]
  have h1 : (Te.due k ⟨x, 3, 0, o, 0, t⟩) = false := by simp [Te.due, hd]
  simp [tkF, tk1, findT, h1]
theorem up_era {ls : List Int} (hu : upN (-1) ls = true) (k : Nat) : upN (-1) (ls.eraseIdx k) = true :=
  up_of_sorted ((up_sorted hu).sublist (List.eraseIdx_sublist ls k)) fun n hn => up_mem hu n (List.mem_of_mem_eraseIdx hn)
theorem woB_era {ls : List Int} {k f : Nat} (hu : upN (-1) ls = true) (hk : ls[k]? = some (f : Int)) : woB (orB 0 ls) f = orB 0 (ls.eraseIdx k) := by
  obtain ⟨hkl, hkf⟩ := List.getElem?_eq_some_iff.1 hk
  have hs := up_sorted hu
  apply Nat.eq_of_testBit_eq
  intro i
  rw [woB_test, orB_test, orB_test, Bool.eq_iff_iff]
  simp only [Nat.zero_testBit, Bool.false_or, Bool.and_eq_true, List.any_eq_true, decide_eq_true_eq]
  constructor
  · rintro ⟨⟨n, hn, hi⟩, hf⟩
    refine ⟨n, ?_, hi⟩
    obtain ⟨j, hj, hjn⟩ := List.getElem_of_mem hn
    rw [List.mem_eraseIdx_iff_getElem]
    refine ⟨j, hj, fun e => ?_, hjn⟩
    subst e
    rw [hkf] at hjn
    omega
  · rintro ⟨n, hn, hi⟩
    rw [List.mem_eraseIdx_iff_getElem] at hn
    obtain ⟨j, hj, hne, hjn⟩ := hn
    have hm := up_mem hu n (by rw [← hjn]; exact List.getElem_mem hj)
    refine ⟨⟨n, by rw [← hjn]; exact List.getElem_mem hj, hi⟩, fun e => ?_⟩
    rw [List.pairwise_iff_getElem] at hs
    rcases Nat.lt_or_gt_of_ne hne with h1 | h1
    · have := hs j k hj hkl h1
      omega
    · have := hs k j hkl hj h1
      omega
theorem or_take {ns : List Int} {i f : Nat} (hf : ns[i]? = some (f : Int)) : orB 0 (ns.take i) ||| 2 ^ f = orB 0 (ns.take (i + 1)) := by
  rw [List.take_add_one, hf, Option.toList_some, orB_snoc]
  rfl
theorem Co.hi {w : World} {B : Nat} {S : CoS} (h : Co w B S) : ∀ j, CoK S j → j < w.heap.size := fun j hj => by
  have l1 := h.log.lt
  have l2 := h.log.disk.lt
  have l3 := h.log.disk.glt
  have l4 := h.log.dlt
  have l5 := h.map.lt
  have l6 := h.lt
  rcases hj with hj | hj | hj | hj | hj | hj | hj
  all_goals first | omega | (obtain ⟨cs, hh⟩ := h.out.blk j hj; exact lt_of_heap hh)
theorem OwnI.lt {w : World} {B : Nat} {v : Value} {l : List Int} (h : OwnI w B v l) : ∀ k, v.ownBlock = some k → k < w.heap.size := by
  intro k hk
  rcases h.1.2 with ⟨rfl, _⟩ | ⟨g, cap, cur, rfl, hB, hh, _⟩
  · simp [Value.ownBlock] at hk
  · simp [Value.ownBlock] at hk; subst hk; exact lt_of_heap hh
theorem OwnI.kept {w w' : World} {B : Nat} {v : Value} {l : List Int} (h : OwnI w B v l) (hb : ∀ k, v.ownBlock = some k → w'.heap[k]? = w.heap[k]?) : OwnI w' B v l := by
  refine ⟨⟨h.1.1, ?_⟩, h.2⟩
  rcases h.1.2 with h1 | ⟨g, cap, cur, rfl, h2, h3, h4⟩
  · exact .inl h1
  · exact .inr ⟨g, cap, cur, rfl, h2, (hb g rfl).trans h3, h4⟩
/-- a coordinator, and a row of numbers beside it -/
structure EnW (w0 wr : World) (S : CoS) (lv : Value) (ls : List Int) : Prop where
  co : Co wr w0.heap.size S
  own : OwnI wr w0.heap.size lv ls
  sep : ∀ g, lv.ownBlock = some g → ¬ CoK S g
  bel : Below w0.heap.size w0 wr
theorem EnW.step {w0 wr w' : World} {S S' : CoS} {lv : Value} {ls : List Int} (h : EnW w0 wr S lv ls) (hc : Co w' w0.heap.size S') (hO : Only (CoK S) wr w') (hK : ∀ j, CoK S' j → CoK S j ∨ wr.heap.size ≤ j) : EnW w0 w' S' lv ls :=
  ⟨hc, h.own.kept fun k hk => hO.block k (h.own.lt k hk) (h.sep k hk), fun g hg hk => by
    rcases hK g hk with h1 | h1
    · exact h.sep g hg h1
    · have := h.own.lt g hg; omega, h.bel.trans (hO.below h.co.size h.co.low)⟩
theorem FrA.ck {S S' : CoS} {w w' : World} {v : Value} {g' d' : Nat} (h : FrA S w w' v g' d') (he : S'.c = S.c ∧ S'.m = S.m ∧ S'.q = S.q ∧ S'.p = S.p ∧ S'.g = g' ∧ S'.d = d' ∧ S'.ov = v) : ∀ j, CoK S' j → CoK S j ∨ w.heap.size ≤ j := fun j hj => by
  obtain ⟨_, h1, h2, h3⟩ := h
  obtain ⟨e1, e2, e3, e4, e5, e6, e7⟩ := he
  unfold CoK at hj ⊢
  rw [e1, e2, e3, e4, e5, e6, e7] at hj
  rcases hj with hj | hj | hj | hj | hj | hj | hj
  · exact .inl (.inl hj)
  · exact .inl (.inr (.inl hj))
  · exact .inl (.inr (.inr (.inl hj)))
  · exact .inl (.inr (.inr (.inr (.inl hj))))
  · rcases h2 with h2 | h2
    · exact .inl (.inr (.inr (.inr (.inr (.inl (hj.trans h2))))))
    · exact .inr (by omega)
  · rcases h3 with h3 | h3
    · exact .inl (.inr (.inr (.inr (.inr (.inr (.inl (hj.trans h3)))))))
    · exact .inr (by omega)
  · rcases h1 j hj with h1 | h1
    · exact .inl (.inr (.inr (.inr (.inr (.inr (.inr h1))))))
    · exact .inr h1
theorem EnW.below {w0 wr w' : World} {S : CoS} {lv : Value} {ls : List Int} (h : EnW w0 wr S lv ls) (hb : Below wr.heap.size wr w') : EnW w0 w' S lv ls := ⟨h.co.below hb, h.own.below hb, h.sep, h.bel.trans (hb.mono (Below.size h.bel))⟩
/-- Out, beside a row -/
theorem EnW.out {w0 wr : World} {S : CoS} {lv : Value} {ls : List Int} (h : EnW w0 wr S lv ls) : Calls Tryz.prog 13 #[.pointer (some ⟨S.c, 0, none⟩)] wr (fun e w' => e = .returned S.ov ∧ EnW w0 w' { S with ov := .slice none 0 0, os := [] } lv ls ∧ OwnO w' w0.heap.size S.ov S.os) :=
  (out_any h.co).mono fun _ _ ⟨h1, h2, h3, h4⟩ => ⟨h1, h.step h2 (h4.more fun j _ hj => .inl hj) (fun j hj => by
    unfold CoK at hj ⊢
    simp only [Value.ownBlock] at hj
    rcases hj with hj | hj | hj | hj | hj | hj | hj
    all_goals first | (left; omega) | simp at hj), h3⟩
/-- a tick, beside a row -/
theorem EnW.tick {w0 wr : World} {S : CoS} {lv : Value} {ls : List Int} (h : EnW w0 wr S lv ls) (hk : S.tks < 4000000000000) (hok : TkOk (S.tks + 1) S.T) (hT : S.T.length < 1000) (hos : S.os.length ≤ 30000) :
    Calls Tryz.prog 14 #[.pointer (some ⟨S.c, 0, none⟩)] wr (fun e w' => e = .returned (.int .i64 0) ∧ ∃ v os1, EnW w0 w' { S with tks := S.tks + 1, T := (tkF S.node (S.tks + 1) S.T (numsT S.T)).1, ov := v, os := S.os ++ os1 } lv ls ∧ os1.map Le.core = (tkF S.node (S.tks + 1) S.T (numsT S.T)).2) :=
  (tick_any h.co hk hok hT hos).mono fun _ _ ⟨h1, v, os1, h2, h3, h4⟩ => ⟨h1, v, os1, h.step h2 h4.all.1 (h4.all.ck ⟨rfl, rfl, rfl, rfl, rfl, rfl, rfl⟩), h3⟩
/-- Done of one that is still to be told, beside a row -/
theorem EnW.done {w0 wr : World} {S : CoS} {lv : Value} {ls : List Int} (h : EnW w0 wr S lv ls) {k f t : Nat} (hf : ls[k]? = some (f : Int)) (hu : upN (-1) ls = true) (hT : S.T = tdV S.node ls t) (hroom : S.b + (bytesOf S.rs).length + 905 ≤ 100000) :
    Calls Tryz.prog 11 #[.pointer (some ⟨S.c, 0, none⟩), .agg #[.int .i64 7, .int .i64 (f : Int), .int .i64 (S.node : Int), .int .i64 (S.node : Int), .slice none 0 0]] wr (fun e w' => e = .returned (.int .i64 0) ∧ ∃ S', EnW w0 w' S' lv ls ∧ S'.c = S.c ∧ S'.node = S.node ∧ S'.tks = S.tks ∧ S'.T = tdV S.node (ls.eraseIdx k) t ∧ S'.os = S.os ∧ (ls.eraseIdx k ≠ [] → S'.b = S.b ∧ S'.rs = S.rs)) := by
  have hne : ls ≠ [] := by intro e; subst e; simp at hf
  have hm := up_mem hu f (List.mem_of_getElem? hf)
  have hnd := h.co.nod
  have hT1 := hT
  rw [tdV_ne hne] at hT1
  have he : findT S.T S.node = some ⟨S.node, 3, 0, orB 0 ls, 0, t⟩ := by rw [hT1]; exact findT_1 _ _ _ _ _ _
  have hlt : orB 0 ls < 65536 := or_lt (by omega) hu (by decide)
  have hwo := woB_era hu hf
  by_cases hz : ls.eraseIdx k = []
  · have hw0 : woB (orB 0 ls) f = 0 := by rw [hwo, hz]; rfl
    refine (hear_dol h.co (f := f) (x := S.node) (by omega) (by omega) (by omega) he rfl hlt hw0 hroom).mono ?_
    rintro e w' ⟨h1, g', d', h2, h3⟩
    refine ⟨h1, _, h.step h2 h3.1 (h3.ck ⟨rfl, rfl, rfl, rfl, rfl, rfl, rfl⟩), rfl, rfl, rfl, ?_, rfl, fun hh => absurd hz hh⟩
    show dropT S.T S.node = _
    rw [hT1, dropT_1, hz]
    rfl
  · have hw0 : woB (orB 0 ls) f ≠ 0 := by rw [hwo]; exact fun h0 => hz (or_none (up_era hu k) h0)
    refine (hear_dom h.co (f := f) (x := S.node) (by omega) (by omega) (by omega) he rfl hlt hw0 (by rw [hT1]; show 1 < 1000; omega)).mono ?_
    rintro e w' ⟨h1, v, os1, h2, h3, h4⟩
    have hos : os1 = [] := by cases os1 with | nil => rfl | cons => simp at h3
    subst hos
    refine ⟨h1, _, h.step h2 h4.all.1 (h4.all.ck ⟨rfl, rfl, rfl, rfl, rfl, rfl, rfl⟩), rfl, rfl, rfl, ?_, List.append_nil _, fun _ => ⟨rfl, rfl⟩⟩
    show putT S.T ⟨S.node, 3, 0, woB (orB 0 ls) f, 0, t⟩ = _
    rw [hT1, putT_1, hwo, tdV_ne hz]
/-- at the head of the votes' loop -/
def TyL (w : World) (c nd : Nat) (ns : List Int) (v : Value) (wr : World) : Prop := ∃ (i : Nat) (S : CoS), v = .int .i64 (i : Int) ∧ i ≤ ns.length ∧ Co wr w.heap.size S ∧ S.c = c ∧ S.node = nd ∧ S.tks = 0 ∧ S.T = tyV nd ns i ∧ S.os.length ≤ 16 + (if i < ns.length then 0 else 16) ∧ S.b + (bytesOf S.rs).length ≤ (if i < ns.length then 10000 else 20000) ∧ Below w.heap.size w wr
/-- at the head of the rounds' loop -/
def TrL (w : World) (c nd nn : Nat) (v12 v13 : Value) (wr : World) : Prop := ∃ (r : Nat) (S : CoS) (ls : List Int), v13 = .int .i64 (r : Int) ∧ EnW w wr S v12 ls ∧ S.c = c ∧ S.node = nd ∧ S.tks = 5 * r ∧ S.T = tdV nd ls (5 * r) ∧ S.os.length ≤ 32 ∧ upN (-1) ls = true ∧ r + ls.length = nn ∧ (ls ≠ [] → S.b + (bytesOf S.rs).length ≤ 20000)
/-- at the head of the ticks' loop -/
def TtE (w : World) (c nd r b : Nat) (rs : List (List UInt8)) (lv : Value) (ls : List Int) (v14 : Value) (wr : World) : Prop := ∃ (j : Nat) (S : CoS), v14 = .int .i64 (j : Int) ∧ j ≤ 5 ∧ EnW w wr S lv ls ∧ S.c = c ∧ S.node = nd ∧ S.tks = 5 * r + j ∧ S.T = [⟨nd, 3, 0, orB 0 ls, 0, if j = 5 then 5 * (r + 1) else 5 * r⟩] ∧ S.os.map Le.core = (if j = 5 then coreL 5 nd nd 0 ls else []) ∧ S.b = b ∧ S.rs = rs
theorem tdE_tick {nd r j : Nat} {ls : List Int} (hu : upN (-1) ls = true) (hj : j < 5) : tkF nd (5 * r + j + 1) [⟨nd, 3, 0, orB 0 ls, 0, if j = 5 then 5 * (r + 1) else 5 * r⟩] (numsT [⟨nd, 3, 0, orB 0 ls, 0, if j = 5 then 5 * (r + 1) else 5 * r⟩]) = ([⟨nd, 3, 0, orB 0 ls, 0, if j + 1 = 5 then 5 * (r + 1) else 5 * r⟩], if j + 1 = 5 then coreL 5 nd nd 0 ls else []) := by
  rw [if_neg (by omega)]
  by_cases h4 : j + 1 = 5
  · rw [td_yes _ _ _ _ _ (by omega), if_pos h4, if_pos h4, nodes_or hu]
    rw [show 5 * r + j + 1 = 5 * (r + 1) by omega]
  · rw [td_no _ _ _ _ _ (by omega), if_neg h4, if_neg h4]
theorem tdE_ok {nd r t : Nat} {ls : List Int} (hnd : nd < 16) (hu : upN (-1) ls = true) (ht : t ≤ r) : TkOk r [⟨nd, 3, 0, orB 0 ls, 0, t⟩] := by
  intro e he
  rw [List.mem_singleton] at he
  subst he
  exact ⟨.inr (.inr rfl), by show 0 < 65536; omega, or_lt (by omega) hu (by decide), by show nd < _; omega, ht⟩
theorem OwnI.empty_at2 (w : World) {g : Nat} (hg : g = w.heap.size) : OwnI (w.alloc (.cells #[] 3)) g (.slice (some ⟨g, 0, none⟩) 0 0) [] := by
  subst hg; exact OwnI.of_row (n := 0) ⟨by simp [intsZ], .inr ⟨_, 0, _, rfl, Nat.le_refl _, heap_alloc_new w _, Nat.le_refl _, by unfold maxLen; omega, rfl, rfl⟩⟩
theorem RdI.take_ {w : World} {B : Nat} {A : Option Addr} {l : List Int} (h : RdI w B A l) (k : Nat) : RdI w B A (l.take k) := fun hn => by
  obtain ⟨b, o, e, hb, hc⟩ := h (fun e => hn (by rw [e]; simp))
  refine ⟨b, o, e, hb, fun j x hj => hc j x ?_⟩
  rw [List.getElem?_take] at hj
  split at hj
  · exact hj
  · cases hj
theorem RdI.drop_ {w : World} {B g o : Nat} {l : List Int} (h : RdI w B (some ⟨g, o, none⟩) l) (k : Nat) : RdI w B (some ⟨g, o + k, none⟩) (l.drop k) := fun hn => by
  obtain ⟨b, o', e, hb, hc⟩ := h (fun e => hn (by rw [e]; simp))
  injection e with e
  injection e with e1 e2
  subst e1 e2
  refine ⟨g, o + k, rfl, hb, fun j x hj => ?_⟩
  rw [List.getElem?_drop] at hj
  rw [Nat.add_assoc]
  exact hc _ x hj
/-- behind the choice of whom to hear -/
def CkL (w : World) (S : CoS) (lv : Value) (ls : List Int) (ll : Nat) (v17 : Value) (wx : World) : Prop := ∃ kk : Nat, v17 = .int .i64 (kk : Int) ∧ kk < ll ∧ EnW w wx S lv ls
theorem CkL.world {w wx : World} {S : CoS} {lv v17 : Value} {ls : List Int} {ll : Nat} (h : CkL w S lv ls ll v17 wx) : ∃ W, W = wx ∧ CkL w S lv ls ll v17 W := ⟨_, rfl, h⟩
set_option maxRecDepth 100000 in
set_option maxHeartbeats 16000000 in
theorem ends_bad (node : Int) (hbad : node < 0 ∨ 16 ≤ node) (NA : Option Addr) (nn nc : Nat) (OA : Option Addr) (no oc : Nat) (w : World) :
    Calls Tryz.prog 3 #[.int .i64 node, .slice NA nn nc, .slice OA no oc] w (Ans (.bool true) w) := by
  have hnil : ∀ (w : World) (a : Option Addr), (binOp .eql 23 (.pointer a) (.pointer none)).run Tryz.prog w = .ok (.bool a.isNone) w := fun w a => by cases a <;> rfl
  have HBAD := Lib.hid hbad
  clear hbad
  go_enter Tryz.func3, Tryz.ntmps3
  go_wp2_with (first
    | (go_at_call 7; refine (new_any _).mono ?_; rintro e w1 ⟨p, rfl, hd, hb⟩
       have HD := Lib.hid hd
       have HB1 := Lib.hid hb
       clear hd hb)
    | (go_at_call 6; refine (Open_bad p node HBAD.out _).mono ?_; unfold OpN; rintro e w2 ⟨rfl, rfl⟩)
    | (go_at_call 8; refine (alive13_any _).mono ?_; rintro e wz ⟨rfl, hb⟩
       have HE := Lib.hid (HB1.out.trans (hb.mono (Below.size HB1.out)))
       clear hb))
  go_ret
  exact ⟨rfl, HE.out⟩
set_option maxRecDepth 100000 in
set_option maxHeartbeats 16000000 in
theorem ends_long {nd : Nat} (hnd : nd < 16) (NA : Option Addr) (nn nc : Nat) (OA : Option Addr) (no oc : Nat) (w : World) (hlong : 60 < nn) (hnm : nn ≤ maxLen) :
    Calls Tryz.prog 3 #[.int .i64 (nd : Int), .slice NA nn nc, .slice OA no oc] w (Ans (.bool true) w) := by
  have hnil : ∀ (w : World) (a : Option Addr), (binOp .eql 23 (.pointer a) (.pointer none)).run Tryz.prog w = .ok (.bool a.isNone) w := fun w a => by cases a <;> rfl
  have HND := Lib.hid hnd
  have hl : (60 : Int) < (nn : Int) := by omega
  have hni : (nn : Int) ≤ 9223372036854775807 := by unfold maxLen at hnm; omega
  clear hnd hlong hnm
  go_enter Tryz.func3, Tryz.ntmps3
  go_wp2_with (first
    | (go_at_call 7; refine (new_any _).mono ?_; rintro e w1 ⟨p, rfl, hd, hb⟩
       have HD := Lib.hid hd
       have HB1 := Lib.hid hb
       clear hd hb)
    | (go_at_call 6; refine (Open_fresh HD.out (Below.size HB1.out) HND.out).mono ?_; rintro e w2 ⟨S, rfl, hc, hn, hi, hcn, ht, hT, hv, hos, _, _, _, hO⟩
       obtain ⟨c, node, inc, cnt, tks, q, p', g, d, b, s, pre, rs, m, T, ov, os⟩ := S
       simp only at hn hi hcn ht hT hv hos
       have hn2 := hn.symm
       clear hn
       subst hn2 hi hcn ht hT hv hos
       have HC := Lib.hid hc
       have HB2 := Lib.hid (HD.out.belPG hO HB1.out)
       clear hc hO)
    | (go_at_call 8; refine (alive13_any _).mono ?_; rintro e wz ⟨rfl, hb⟩
       have HE := Lib.hid (HB2.out.trans (hb.mono (Below.size HB2.out)))
       clear hb))
  go_ret
  exact ⟨rfl, HE.out⟩
set_option maxRecDepth 100000 in
set_option maxHeartbeats 16000000 in
theorem ends_arg {nd : Nat} (hnd : nd < 16) (ns : List Int) (NA : Option Addr) (nn nc : Nat) (OA : Option Addr) (no oc : Nat) (w : World) (hnn : nn ≤ 60) (hn : ns.length = nn) (hu : upN (-1) ns = false ∨ ns = []) (hr : RdI w w.heap.size NA ns) :
    Calls Tryz.prog 3 #[.int .i64 (nd : Int), .slice NA nn nc, .slice OA no oc] w (Ans (.bool true) w) := by
  have hnil : ∀ (w : World) (a : Option Addr), (binOp .eql 23 (.pointer a) (.pointer none)).run Tryz.prog w = .ok (.bool a.isNone) w := fun w a => by cases a <;> rfl
  have HND := Lib.hid hnd
  have HU := Lib.hid hu
  have HN := Lib.hid hn
  have HNN := Lib.hid hnn
  have hl : ¬ (60 : Int) < (nn : Int) := by omega
  have hni : (nn : Int) ≤ 60 := by omega
  have HR : Hid (∀ W, Below w.heap.size w W → RdI W W.heap.size NA ns) := Lib.hid fun W hb => (hr.below hb (Nat.le_refl _)).more hb.size
  clear hnd hu hn hnn hr
  go_enter Tryz.func3, Tryz.ntmps3
  go_wp2_with (first
    | (go_at_call 7; refine (new_any _).mono ?_; rintro e w1 ⟨p, rfl, hd, hb⟩
       have HD := Lib.hid hd
       have HB1 := Lib.hid hb
       clear hd hb)
    | (go_at_call 6; refine (Open_fresh HD.out (Below.size HB1.out) HND.out).mono ?_; rintro e w2 ⟨S, rfl, hc, hn, hi, hcn, ht, hT, hv, hos, _, _, _, hO⟩
       obtain ⟨c, node, inc, cnt, tks, q, p', g, d, b, s, pre, rs, m, T, ov, os⟩ := S
       simp only at hn hi hcn ht hT hv hos
       have hn2 := hn.symm
       clear hn
       subst hn2 hi hcn ht hT hv hos
       have HC := Lib.hid hc
       have HB2 := Lib.hid (HD.out.belPG hO HB1.out)
       clear hc hO)
    | (go_at_call 9; refine (begin_fresh HC.out rfl rfl rfl).mono ?_; rintro e w3 ⟨rfl, hc3, hO3⟩
       have HC3 := Lib.hid hc3
       have HB3 := Lib.hid (HC.out.belCM hO3 HB2.out)
       clear hc3 hO3)
    | (go_at_call 10; refine (ask_arg HC3.out (x := nd) (by have := HND.out; unfold i64ok; omega) (findT_1 nd 1 0 0 0 0) rfl ns HU.out NA nn nc HN.out (by have := HNN.out; omega) (HR.out _ HB3.out)).mono ?_; rintro e w4 ⟨rfl, hb⟩
       have HB4 := Lib.hid (HB3.out.trans (hb.mono HB3.out.size))
       clear hb)
    | (go_at_call 8; refine (alive13_any _).mono ?_; rintro e wz ⟨rfl, hb⟩
       have HE := Lib.hid (HB4.out.trans (hb.mono (Below.size HB4.out)))
       clear hb))
  go_ret
  exact ⟨rfl, HE.out⟩
attribute [-go_sem] Builtin.append_
set_option maxRecDepth 100000 in
set_option maxHeartbeats 64000000 in
theorem ends_main {nd : Nat} (hnd : nd < 16) (ns xs : List Int) (NA : Option Addr) (nn nc : Nat) (OA : Option Addr) (no oc : Nat) (w : World) (hnn : nn ≤ 60) (hn : ns.length = nn) (hu : upN (-1) ns = true) (hne : ns ≠ []) (hr : RdI w w.heap.size NA ns) (hxn : xs.length = no) (hnm : no ≤ maxLen) (hxo : ∀ x ∈ xs, i64ok x) (hrx : RdI w w.heap.size OA xs) :
    Calls Tryz.prog 3 #[.int .i64 (nd : Int), .slice NA nn nc, .slice OA no oc] w (Ans (.bool true) w) := by
  have hnil : ∀ (w : World) (a : Option Addr), (binOp .eql 23 (.pointer a) (.pointer none)).run Tryz.prog w = .ok (.bool a.isNone) w := fun w a => by cases a <;> rfl
  have HND := Lib.hid hnd
  have HU := Lib.hid hu
  have HN := Lib.hid hn
  have HNE := Lib.hid hne
  have HXN := Lib.hid hxn
  have HXO := Lib.hid hxo
  have hl : ¬ (60 : Int) < (nn : Int) := by omega
  have hni : (nn : Int) ≤ 60 := by omega
  have hno : (no : Int) ≤ 9223372036854775807 := by unfold maxLen at hnm; omega
  have hneq : ∀ z : Int, (z != z) = false := fun z => by simp
  have HR : Hid (∀ W, Below w.heap.size w W → RdI W W.heap.size NA ns) := Lib.hid fun W hb => (hr.below hb (Nat.le_refl _)).more hb.size
  have HRC : Hid (∀ W, Below w.heap.size w W → ∀ j x, ns[j]? = some x → ∃ b o, NA = some ⟨b, o, none⟩ ∧ W.cell? ⟨b, o + j, none⟩ = some (.int .i64 x)) := Lib.hid fun W hb j x hj => by
    obtain ⟨b, o, h1, _, h3⟩ := (hr.below hb (Nat.le_refl _)).at_ hj
    exact ⟨b, o, h1, h3⟩
  have HRX : Hid (∀ W, Below w.heap.size w W → ∀ j x, xs[j]? = some x → ∃ b o, OA = some ⟨b, o, none⟩ ∧ W.cell? ⟨b, o + j, none⟩ = some (.int .i64 x)) := Lib.hid fun W hb j x hj => by
    obtain ⟨b, o, h1, _, h3⟩ := (hrx.below hb (Nat.le_refl _)).at_ hj
    exact ⟨b, o, h1, h3⟩
  have HN16 : Hid (nn ≤ 16) := Lib.hid (by have := up_len (by omega) (by omega) hu; omega)
  have HN1 : Hid (0 < nn) := Lib.hid (by have := List.length_pos_iff.2 hne; omega)
  clear hnd hu hn hne hnn hr hxn hnm hxo hrx
  go_enter Tryz.func3, Tryz.ntmps3
  go_wp2_with (first
    | (go_at_call 7; refine (new_any _).mono ?_; rintro e w1 ⟨p, rfl, hd, hb⟩
       have HD := Lib.hid hd
       have HB1 := Lib.hid hb
       clear hd hb)
    | (go_at_call 6; refine (Open_fresh HD.out (Below.size HB1.out) HND.out).mono ?_; rintro e w2 ⟨S, rfl, hc, hn, hi, hcn, ht, hT, hv, hos, _, hSb, hSr, hO⟩
       obtain ⟨c, node, inc, cnt, tks, q, p', g, d, b, s, pre, rs, m, T, ov, os⟩ := S
       simp only at hn hi hcn ht hT hv hos
       have hn2 := hn.symm
       clear hn
       subst hn2 hi hcn ht hT hv hos
       have HC := Lib.hid hc
       have HRM : Hid (b + (bytesOf rs).length ≤ 10000) := Lib.hid (by
         simp only at hSb hSr
         rw [hSb, hSr, bytesOf_one, frameL_len]
         have h9 := (recV_len (k := 0) (ns := [0]) (by unfold i64ok; omega) (by intro z hz; simp at hz; subst hz; unfold i64ok; omega) (by decide)).2
         unfold rec0
         omega)
       have HB2 := Lib.hid (HD.out.belPG hO HB1.out)
       clear hc hO hSb hSr)
    | (go_at_call 9; refine (begin_fresh HC.out rfl rfl rfl).mono ?_; rintro e w3 ⟨rfl, hc3, hO3⟩
       have HC3 := Lib.hid hc3
       have HB3 := Lib.hid (HC.out.belCM hO3 HB2.out)
       clear hc3 hO3)
    | (go_at_call 10; refine (ask_yes HC3.out (x := nd) (by have := HND.out; unfold i64ok; omega) (findT_1 nd 1 0 0 0 0) rfl ns HU.out HNE.out NA nn nc HN.out (HR.out _ HB3.out) (by show 1 < 1000; omega) (by simp)).mono ?_; rintro e w4 ⟨rfl, v4, os4, hc4, hcr4, hfr4⟩
       simp only [putT_1] at hc4
       have HB4 := Lib.hid (hfr4.below HC3.out HB3.out)
       have HC4 := Lib.hid hc4
       have HO4 : Hid (os4.length ≤ 16) := Lib.hid (by
         have h9 := congrArg List.length hcr4
         have := HN.out
         have := HN16.out
         simp only [List.length_map] at h9
         omega)
       clear hc4 hcr4 hfr4))
  go_loopw [11] (fun v11 wr => TyL w c nd ns v11 wr) (fun v11 _ => nn - (intOf v11).toNat)
  case atStart =>
    have h1 := HN1.out
    have h2 := HN.out
    have h3 := HO4.out
    have h4 := HRM.out
    exact ⟨0, _, rfl, Nat.zero_le _, HC4.out, rfl, rfl, rfl, (by unfold tyV; rw [if_pos (by omega)]; rfl), (by rw [if_pos (by omega)]; simpa using h3), (by rw [if_pos (by omega)]; exact h4), HB4.out⟩
  case round =>
    obtain ⟨i, S, rfl, hi, hco, hSc, hSn, hSk, hST, hSo, hSr, hbb⟩ := hrel
    obtain ⟨c9, node9, inc9, cnt9, tks9, q9, p9, g9, d9, b9, s9, pre9, rs9, m9, T9, ov9, os9⟩ := S
    simp only at hSc hSn hSk hST hSo hSr
    have h1 := hSc.symm
    have h2 := hSn.symm
    clear hSc hSn
    subst h1 h2 hSk hST
    have HCR := Lib.hid hco
    have HBB := Lib.hid hbb
    have HSO := Lib.hid hSo
    have HSR := Lib.hid hSr
    by_cases hx : i < nn
    · have hxi : (i : Int) < (nn : Int) := by omega
      have hin : i < ns.length := by have := HN.out; omega
      obtain ⟨x, hx2⟩ : ∃ x, ns[i]? = some x := ⟨_, List.getElem?_eq_getElem hin⟩
      have hxm := up_mem HU.out x (List.mem_of_getElem? hx2)
      obtain ⟨f, rfl⟩ : ∃ f : Nat, x = (f : Int) := ⟨x.toNat, by omega⟩
      obtain ⟨b, o, hA, y0⟩ := HRC.out _ hbb i _ hx2
      subst hA
      have hcur : tyV nd ns i = [⟨nd, 2, orB 0 ns, orB 0 ((f : Int) :: ns.drop (i + 1)), orB 0 (ns.take i), 0⟩] := by unfold tyV; rw [if_pos hin, vote_step hx2]
      have hup : upN (-1) ((f : Int) :: ns.drop (i + 1)) = true := by rw [← vote_step hx2]; exact up_drop HU.out i
      have hyl : orB 0 (ns.take i) < 65536 := or_lt (by omega) (take_up HU.out) (by decide)
      have HH : Hid (∀ W, Below wr.heap.size wr W → Calls Tryz.prog 11 #[.pointer (some ⟨c, 0, none⟩), .agg #[.int .i64 2, .int .i64 (f : Int), .int .i64 (nd : Int), .int .i64 (nd : Int), .slice none 0 0]] W (fun e1 w' => e1 = .returned (.int .i64 0) ∧ ∀ v11, v11 = .int .i64 ((i + 1 : Nat) : Int) → TyL w c nd ns v11 w')) := Lib.hid fun W hW => by
        have hc := HCR.out.below hW
        have hnd := HND.out
        have hbw := HBB.out.trans (hW.mono (Below.size HBB.out))
        have h6 := HSO.out
        have h7 := HSR.out
        rw [if_pos hin] at h6 h7
        rw [hcur] at hc
        by_cases hl : i + 1 < ns.length
        · have h9 := hear_yem hc (f := f) (x := nd) (by omega) (by omega) (by show nd % 16 = nd; omega) (findT_1 nd 2 _ _ _ 0) rfl (or_lt (by omega) hup (by decide)) hyl head_bit (by
            show woB (orB 0 ((f : Int) :: ns.drop (i + 1))) f ≠ 0
            rw [woB_head hup]
            intro h0
            have := or_none (up_drop HU.out (i + 1)) h0
            have := congrArg List.length this
            simp at this
            omega) (by show 1 < 1000; omega)
          refine h9.mono fun e1 w' h => ⟨h.1, fun v11 h11 => ?_⟩
          have hbl := h.2.bel hc hbw
          obtain ⟨v, os1, h3, h4, h5⟩ := h.2
          have hosd : os1 = [] := by cases os1 with | nil => rfl | cons => simp at h4
          subst hosd
          simp only [putT_1, woB_head hup, List.append_nil, or_take hx2] at h3
          exact ⟨i + 1, _, h11, by omega, h3, rfl, rfl, rfl, (by unfold tyV; rw [if_pos hl]), (by rw [if_pos hl]; exact h6), (by rw [if_pos hl]; exact h7), hbl⟩
        · have hd : ns.drop (i + 1) = [] := List.drop_eq_nil_of_le (by omega)
          have h9 := hear_yel hc (f := f) (x := nd) (by omega) (by omega) (by show nd % 16 = nd; omega) (findT_1 nd 2 _ _ _ 0) rfl (or_lt (by omega) hup (by decide)) hyl head_bit (by
            show woB (orB 0 ((f : Int) :: ns.drop (i + 1))) f = 0
            rw [woB_head hup, hd]
            rfl) (by show 1 < 1000; omega) (by show b9 + (bytesOf rs9).length + 905 ≤ 100000; omega) (by show os9.length ≤ 50000; omega)
          refine h9.mono fun e1 w' h => ⟨h.1, fun v11 h11 => ?_⟩
          obtain ⟨v, os1, g', d', h3, h4, h5⟩ := h.2
          have htk : ns.take (i + 1) = ns := List.take_of_length_le (by omega)
          simp only [putT_1, or_take hx2, htk] at h3 h4
          have hos : os1.length ≤ 16 := by
            have h8 := congrArg List.length h4
            simp only [coreL, List.length_map] at h8
            have := nodesI_len (orB 0 ns)
            omega
          refine ⟨i + 1, _, h11, by omega, h3, rfl, rfl, rfl, (by unfold tyV; rw [if_neg hl]), (by rw [if_neg hl]; show (os9 ++ os1).length ≤ _; rw [List.length_append]; omega), ?_, h5.below hc hbw⟩
          rw [if_neg hl]
          show b9 + (bytesOf (rs9 ++ [decR nd (orB 0 ns)])).length ≤ 20000
          rw [bytesOf_app, List.length_append, bytesOf_one, frameL_len]
          have h10 := (recV_len (k := 1) (ns := [(nd : Int), ((orB 0 ns : Nat) : Int)]) (by unfold i64ok; omega) (by intro z hz; simp at hz; have := or_lt (b := 0) (by omega) HU.out (by decide); rcases hz with rfl | rfl <;> unfold i64ok <;> omega) (by simp)).2
          unfold decR
          omega
      clear hx hx2 hxm hcur hup hin hi hco hbb hSo hSr hyl
      go_wp2_with (go_at_call 11; refine (HH.out _ (Below.refl _ _)).mono ?_; rintro e wd ⟨rfl, hl⟩
                   have HL := Lib.hid hl
                   clear hl)
      go_roundw
      case rel => first | exact HL.out _ (by go_num) | ((repeat apply Exists.intro); exact ⟨HL.out _ (by go_num), rfl⟩)
      case measure => simp [intOf]; omega
    · have hik : i = nn := by have := HN.out; omega
      subst hik
      have hxi : ¬ (i : Int) < (i : Int) := by omega
      have hin : ¬ i < ns.length := by have := HN.out; omega
      rw [if_neg hin] at HSO HSR
      have hcur : tyV nd ns i = [⟨nd, 3, 0, orB 0 ns, 0, 0⟩] := by unfold tyV; rw [if_neg hin]
      rw [hcur] at HCR
      have HST : Hid (∀ W, Below wr.heap.size wr W → Calls Tryz.prog 12 #[.pointer (some ⟨c, 0, none⟩), .int .i64 (nd : Int)] W (LooksL (.int .i64 2) W)) := Lib.hid fun W hW => by
        have h9 := state_any (HCR.out.below hW) (x := nd) (by have := HND.out; unfold i64ok; omega)
        simp only [stN, findT_1] at h9
        exact h9
      clear hx hi hco hbb hSo hSr hcur hin
      go_wp2_with (first
        | (go_at_call 12; refine (HST.out _ (Below.refl _ _)).mono ?_; rintro e ws ⟨rfl, rfl⟩)
        | (refine wpList_appI (xs := []) (ys := ns) (B := wr.heap.size) rfl _ _ 22 rfl Tryz.underlying22 rfl (OwnI.empty_at2 _ rfl) rfl HN.out (HR.out _ (HBB.out.trans ((alloc_below wr _).mono (Below.size HBB.out)))) (by have := HN.out; have := HN16.out; simp; omega) (by simp) ?_
           intro v4 w4 ho4 hg4
           rw [List.nil_append] at ho4
           have hbl := grew_below (alloc_below wr _) (OwnI.empty_at2 wr rfl).ge hg4
           have HEN : Hid (EnW w w4 ⟨c, nd, inc9, cnt9, 0, q9, p9, g9, d9, b9, s9, pre9, rs9, m9, [⟨nd, 3, 0, orB 0 ns, 0, 0⟩], ov9, os9⟩ v4 ns) := Lib.hid ⟨HCR.out.below hbl, ho4.low (Below.size HBB.out), fun g hg hk => by
             have h1 := HCR.out.hi g hk
             have h2 := ho4.ge g hg
             omega, HBB.out.trans (hbl.mono (Below.size HBB.out))⟩
           obtain ⟨A4, c4, hv4, hc4⟩ := ho4.2
           rw [HN.out] at hv4
           subst hv4
           clear ho4 hg4 hbl hc4))
      go_loopw [12, 13] (fun v12 v13 wr => TrL w c nd i v12 v13 wr) (fun _ v13 _ => i - (intOf v13).toNat)
      case atStart => exact ⟨0, _, ns, rfl, HEN.out, rfl, rfl, rfl, (by rw [tdV_ne HNE.out]), HSO.out, HU.out, (by have := HN.out; omega), fun _ => HSR.out⟩
      case round =>
        obtain ⟨r, S, ls, rfl, hen, hSc, hSn, hSk, hST, hSo, hul, hrl, hrm⟩ := hrel
        obtain ⟨c2, node2, inc2, cnt2, tks2, q2, p2, g2, d2, b2, s2, pre2, rs2, m2, T2, ov2, os2⟩ := S
        simp only at hSc hSn hSk hST hSo hrm
        have h1 := hSc.symm
        have h2 := hSn.symm
        clear hSc hSn
        subst h1 h2 hSk hST
        obtain ⟨AL, cL, rfl, hcL⟩ := id hen.own.2
        obtain ⟨ll, hll⟩ : ∃ ll, ls.length = ll := ⟨_, rfl⟩
        rw [hll] at hen hcL hrl ⊢
        have HEN2 := Lib.hid hen
        have HUL := Lib.hid hul
        have HLL := Lib.hid hll
        have HRL := Lib.hid hrl
        have HSO2 := Lib.hid hSo
        have HRM := Lib.hid hrm
        by_cases hz : 0 < ll
        · have hzi : 0 < (ll : Int) := by omega
          have hl16 : (ll : Int) ≤ 60 := by omega
          have hri : (r : Int) ≤ 60 := by omega
          have hri2 : (r : Int) < (i : Int) := by omega
          have hne2 : ls ≠ [] := by intro e; rw [e] at hll; simp at hll; omega
          have HNE2 := Lib.hid hne2
          have hroom := hrm hne2
          have HROOM := Lib.hid hroom
          rw [tdV_ne hne2] at HEN2
          clear hen hul hll hrl hSo hrm hz hne2 hroom
          go_wp2_with (go_at_call 13; refine (EnW.out HEN2.out).mono ?_; rintro e wo ⟨_, he1, _⟩
                       have HE1 := Lib.hid he1
                       clear he1)
          go_loopw [14] (fun v14 wr => TtE w c nd r b2 rs2 (.slice AL ll cL) ls v14 wr) (fun v14 _ => 5 - (intOf v14).toNat)
          case atStart => exact ⟨0, _, rfl, Nat.zero_le _, HE1.out, rfl, rfl, rfl, (by rw [if_neg (by omega)]), (by rw [if_neg (by omega)]; rfl), rfl, rfl⟩
          case round =>
            obtain ⟨j, S, rfl, hj, hen, hSc, hSn, hSk, hST, hSos, hSb, hSrs⟩ := hrel
            obtain ⟨c5, node5, inc5, cnt5, tks5, q5, p5, g5, d5, b5, s5, pre5, rs5, m5, T5, ov5, os5⟩ := S
            simp only at hSc hSn hSk hST hSos hSb hSrs
            have h1 := hSc.symm
            have h2 := hSn.symm
            clear hSc hSn
            subst h1 h2 hSk hST hSb hSrs
            by_cases hx : j < 5
            · have hxi : (j : Int) < 5 := by omega
              rw [if_neg (by omega)] at hSos
              have ho5 : os5 = [] := by cases os5 with | nil => rfl | cons => simp at hSos
              subst ho5
              have HEN5 := Lib.hid hen
              have HJ := Lib.hid hx
              have HTK : Hid (∀ W, Below wr.heap.size wr W → Calls Tryz.prog 14 #[.pointer (some ⟨c, 0, none⟩)] W (fun e w' => e = .returned (.int .i64 0) ∧ ∀ v14, v14 = .int .i64 ((j + 1 : Nat) : Int) → TtE w c nd r b5 rs5 (.slice AL ll cL) ls v14 w')) := Lib.hid fun W hW => by
                have hj5 := HJ.out
                have hr5 := HRL.out
                refine (EnW.tick (HEN5.out.below hW) (by show 5 * r + j < _; omega) (by show TkOk (5 * r + j + 1) _; exact tdE_ok HND.out HUL.out (by rw [if_neg (by omega)]; omega)) (by simp) (by simp)).mono ?_
                rintro e w' ⟨h1, v, os1, h2, h3⟩
                simp only [tdE_tick HUL.out hj5, List.nil_append] at h2 h3
                exact ⟨h1, fun v14 h14 => ⟨j + 1, _, h14, by omega, h2, rfl, rfl, rfl, rfl, h3, rfl, rfl⟩⟩
              clear hx hj hen hSos
              go_wp2_with (go_at_call 14; refine (HTK.out _ (Below.refl _ _)).mono ?_; rintro e wt ⟨rfl, hl⟩
                           have HL := Lib.hid hl
                           clear hl)
              go_roundw
              case rel => first | exact HL.out _ (by go_num) | ((repeat apply Exists.intro); exact ⟨HL.out _ (by go_num), rfl⟩)
              case measure => simp [intOf]; omega
            · have hj5 : j = 5 := by omega
              have hxi : ¬ (j : Int) < 5 := by omega
              subst hj5
              rw [if_pos rfl] at hSos
              rw [if_pos rfl] at hen
              have HEN5 := Lib.hid hen
              have HCRA := Lib.hid hSos
              clear hx hj hen hSos
              go_wp2_with (first
                | (go_at_call 13; refine (EnW.out HEN5.out).mono ?_; rintro e wq ⟨rfl, he1, hob⟩
                   obtain ⟨AVb, cVb, hvb, hlb⟩ := id hob.2
                   have hlo : os5.length = ll := by
                     have h9 := congrArg List.length HCRA.out
                     have := HLL.out
                     simp only [coreL, List.length_map] at h9
                     omega
                   simp only at hvb hob
                   rw [hlo] at hvb hlb
                   have hlbi : (ll : Int) ≤ (cVb : Int) := by omega
                   subst hvb
                   have HOB := Lib.hid hob
                   have HEQ := Lib.hid he1
                   have HSQ : Hid (Calls Tryz.prog 12 #[.pointer (some ⟨c, 0, none⟩), .int .i64 (nd : Int)] wq (LooksL (.int .i64 2) wq)) := Lib.hid (by
                     have h9 := state_any he1.co (x := nd) (by have := HND.out; unfold i64ok; omega)
                     simp only [stN, findT_1] at h9
                     exact h9)
                   clear he1 hob hlb hlo)
                | (go_at_call 12; refine HSQ.out.mono ?_; rintro e ws ⟨rfl, rfl⟩))
              go_loopw [16] (fun v16 wr => TjL ll wq v16 wr) (fun v16 _ => ll - (intOf v16).toNat)
              case atStart => exact ⟨0, rfl, Nat.zero_le _, Below.refl _ _⟩
              case round =>
                obtain ⟨j3, rfl, hj3, hbw⟩ := hrel
                have HBW := Lib.hid hbw
                have HEX := Lib.hid (HEQ.out.below hbw)
                by_cases hl3 : j3 < ll
                · have hl3i : (j3 : Int) < (ll : Int) := by omega
                  obtain ⟨z, hz⟩ : ∃ z, ls[j3]? = some z := ⟨_, List.getElem?_eq_getElem (by have := HLL.out; omega)⟩
                  obtain ⟨e1, he1, hk1, _, ht1, _, _⟩ := core_at HCRA.out (j := j3) (k := 5) (f := (nd : Int)) (t := z) (x := (nd : Int)) (n := 0) (by simp [coreL, hz])
                  obtain ⟨ge, hAe, hgl, _, _, hcell⟩ := HOB.out.at_ (j := j3) (e := e1) he1
                  obtain ⟨u0, _, u2, _, _⟩ := hcell wr (hbw.block ge hgl)
                  rw [hk1] at u0
                  rw [ht1] at u2
                  subst hAe
                  obtain ⟨gL, oL, hA, _, y0⟩ := HEX.out.own.rd.at_ hz
                  subst hA
                  have hlc : (ll : Int) ≤ (cL : Int) := by omega
                  have hzz : (z != z) = false := by simp
                  have HZ : Hid (∀ v16 W, v16 = .int .i64 ((j3 + 1 : Nat) : Int) → Below wr.heap.size wr W → TjL ll wq v16 W) := Lib.hid fun v16 W h9 hW => ⟨j3 + 1, h9, hl3, HBW.out.trans (hW.mono (Below.size HBW.out))⟩
                  clear he1 hk1 ht1 hcell hz hj3 hl3 hgl hbw
                  go_wp2_with fail
                  go_quiet (fail)
                  go_wp2_with fail
                  go_roundw
                  case rel => first | exact HZ.out _ _ (by go_num) (drewN_below _ _) | ((repeat apply Exists.intro); exact ⟨HZ.out _ _ (by go_num) (drewN_below _ _), rfl⟩)
                  case measure => simp [intOf]; omega
                · have hl3i : ¬ (j3 : Int) < (ll : Int) := by omega
                  clear hj3 hl3 hbw
                  go_upto_if 132 with fail
                  go_cut [17] (fun v17 wx => CkL w ⟨c, nd, inc5, cnt5, 5 * r + 5, q5, p5, g5, d5, b5, s5, pre5, rs5, m5, [⟨nd, 3, 0, orB 0 ls, 0, 5 * (r + 1)⟩], .slice none 0 0, []⟩ (.slice AL ll cL) ls ll v17 wx)
                  case first =>
                    by_cases ho : r < no
                    · have hroi : (r : Int) < (no : Int) := by omega
                      obtain ⟨x, hx⟩ : ∃ x, xs[r]? = some x := ⟨_, List.getElem?_eq_getElem (by rw [HXN.out]; exact ho)⟩
                      obtain ⟨bO, oO, hOA, y0⟩ := HRX.out _ HEX.out.bel r x hx
                      subst hOA
                      have HPK := Lib.hid (fun W => pick13_any x (HXO.out x (List.mem_of_getElem? hx)) ll (by omega) (by omega) W)
                      obtain ⟨kk, hkk⟩ : ∃ kk, pickZ x ll = kk := ⟨_, rfl⟩
                      have HKK : Hid (kk < ll) := Lib.hid (by rw [← hkk]; exact pickZ_lt x (by omega))
                      rw [hkk] at HPK
                      clear hkk hx ho
                      go_wp2_with (go_at_call 15; refine (HPK.out _).mono ?_; rintro e wp ⟨rfl, rfl⟩)
                      go_meet
                      exact ⟨kk, rfl, HKK.out, HEX.out⟩
                    · have hroi : ¬ (r : Int) < (no : Int) := by omega
                      clear ho
                      go_wp2_with fail
                      go_meet
                      exact ⟨0, rfl, by omega, HEX.out⟩
                  case rest =>
                    obtain ⟨W7, hW7, kk, rfl, hkk, hen7⟩ := CkL.world hcut
                    subst hW7
                    clear hcut
                    obtain ⟨z, hz⟩ : ∃ z, ls[kk]? = some z := ⟨_, List.getElem?_eq_getElem (by have := HLL.out; omega)⟩
                    have hzm := up_mem HUL.out z (List.mem_of_getElem? hz)
                    obtain ⟨f, rfl⟩ : ∃ f : Nat, z = (f : Int) := ⟨z.toNat, by omega⟩
                    obtain ⟨gL, oL, hA, _, y0⟩ := hen7.own.rd.at_ hz
                    subst hA
                    have hkki : (kk : Int) < (ll : Int) := by omega
                    have hlc : (ll : Int) ≤ (cL : Int) := by omega
                    have HEN7 := Lib.hid hen7
                    have HZ7 := Lib.hid hz
                    have HKK := Lib.hid hkk
                    have HH : Hid (∀ W, Below W7.heap.size W7 W → Calls Tryz.prog 11 #[.pointer (some ⟨c, 0, none⟩), .agg #[.int .i64 7, .int .i64 (f : Int), .int .i64 (nd : Int), .int .i64 (nd : Int), .slice none 0 0]] W (fun e w' => e = .returned (.int .i64 0) ∧ ∃ S', EnW w w' S' (.slice (some ⟨gL, oL, none⟩) ll cL) ls ∧ S'.c = c ∧ S'.node = nd ∧ S'.tks = 5 * r + 5 ∧ S'.T = tdV nd (ls.eraseIdx kk) (5 * (r + 1)) ∧ S'.os = [] ∧ (ls.eraseIdx kk ≠ [] → S'.b = b5 ∧ S'.rs = rs5))) := Lib.hid fun W hW => by
                      exact EnW.done (HEN7.out.below hW) (k := kk) (f := f) (t := 5 * (r + 1)) HZ7.out HUL.out (by rw [tdV_ne HNE2.out]) (by have := HROOM.out; show b5 + (bytesOf rs5).length + 905 ≤ 100000; omega)
                    clear hz hzm hen7 hkk
                    go_upto_region 34 with (go_at_call 11; refine (HH.out _ (Below.refl _ _)).mono ?_; rintro e w8 ⟨rfl, S8, he8, hc8, hn8, hk8, hT8, ho8, hr8⟩
                                            have HE8 := Lib.hid he8
                                            have HF8 := Lib.hid (And.intro hc8 (And.intro hn8 (And.intro hk8 (And.intro hT8 (And.intro ho8 hr8)))))
                                            clear he8 hc8 hn8 hk8 hT8 ho8 hr8)
                    have hkc : (kk : Int) ≤ (cL : Int) := by omega
                    have hk0 : 0 ≤ (kk : Int) := by omega
                    have hk1 : IntKind.i64.wrap ((kk : Int) + 1) = (kk : Int) + 1 := by rw [IntKind.wrap_i64]; omega
                    have hk2 : (kk : Int) + 1 ≤ (ll : Int) := by omega
                    have hk3 : 0 ≤ (kk : Int) + 1 := by omega
                    obtain ⟨A8, hA8⟩ : ∃ A8 : Option Addr, (if cL = kk + 1 then some ⟨gL, oL, none⟩ else some ⟨gL, oL + (kk + 1), none⟩) = A8 := ⟨_, rfl⟩
                    have hr8 : RdI w8 w8.heap.size A8 (ls.drop (kk + 1)) := by
                      rw [← hA8]
                      by_cases hcc : cL = kk + 1
                      · rw [if_pos hcc, List.drop_eq_nil_of_le (by have := HLL.out; omega)]
                        exact RdI.nil _ _ _
                      · rw [if_neg hcc]
                        exact HE8.out.own.rd.drop_ (kk + 1)
                    have hr7 := HE8.out.own.rd.take_ kk
                    have hb9 : Below w8.heap.size w8 (w8.alloc (.cells #[] 3)).drew := (alloc_below w8 _).trans ((drew_below _).mono (alloc_below w8 _).size)
                    have hE9 : OwnI (w8.alloc (.cells #[] 3)).drew w8.heap.size (.slice (some ⟨w8.heap.size, 0, none⟩) 0 0) [] := (OwnI.empty_at2 w8 rfl).below (drew_below _)
                    have hlt : (ls.take kk).length = kk := by rw [List.length_take]; have := HLL.out; omega
                    have hld : (ls.drop (kk + 1)).length = ll - (kk + 1) := by rw [List.length_drop, HLL.out]
                    have hl64 := HRL.out
                    have h16 := HN16.out
                    obtain ⟨v5, w5, hrun5, ho5, hg5⟩ := run_appendI 22 22 (B := w8.heap.size) Tryz.underlying22 hE9 (c := cL) (hr7.below hb9 (Nat.le_refl _)) (by rw [hlt]; simp; omega) (by simp)
                    have hb5 := grew_below hb9 hE9.ge hg5
                    rw [List.nil_append] at ho5
                    obtain ⟨v6, w6, hrun6, ho6, hg6⟩ := run_appendI 22 22 (B := w8.heap.size) Tryz.underlying22 ho5 (c := cL - (kk + 1)) (hr8.below hb5 (Nat.le_refl _)) (by rw [hlt, hld]; omega) hb5.size
                    have hb6 := grew_below hb5 ho5.ge hg6
                    rw [hlt] at hrun5
                    rw [hld] at hrun6
                    have hto : ls.take kk ++ ls.drop (kk + 1) = ls.eraseIdx kk := (List.eraseIdx_eq_take_drop_succ ls kk).symm
                    rw [hto] at ho6
                    have HNX : Hid (∀ v13, v13 = .int .i64 ((r + 1 : Nat) : Int) → TrL w c nd i v6 v13 w6) := Lib.hid fun v13 h13 => by
                      obtain ⟨hc8, hn8, hk8, hT8, hs8, hr8⟩ := HF8.out
                      refine ⟨r + 1, S8, ls.eraseIdx kk, h13, ⟨HE8.out.co.below hb6, ho6.low (Below.size HE8.out.bel), fun g hg hk => ?_, HE8.out.bel.trans (hb6.mono (Below.size HE8.out.bel))⟩, hc8, hn8, by rw [hk8]; omega, hT8, by rw [hs8]; simp, up_era HUL.out kk, ?_, fun hne => ?_⟩
                      · have h1 := HE8.out.co.hi g hk
                        have h2 := ho6.ge g hg
                        omega
                      · rw [List.length_eraseIdx]
                        have h1 := HLL.out
                        have h2 := HKK.out
                        rw [if_pos (by omega)]
                        omega
                      · obtain ⟨h1, h2⟩ := hr8 hne
                        rw [h1, h2]
                        exact HROOM.out
                    clear hr8 hr7 hb9 hE9 hlt hld hl64 h16 ho5 hg5 hb5 ho6 hg6 hb6 hto
                    refine wp_region_held_drew (S := fun _ => True) (by kernel_rfl) trivial (fun _ => ?_)
                    refine wpAnyH_take (i := 1) (oi := ({ dst := Option.some 150, op := Go.Op.move (Go.Operand.tmp 12), type := 22, pos := "law.go:287", after := #[], guard := Option.none } : Oper)) (v := ?v1x1) rfl (by kernel_rfl) (by kernel_rfl) (by kernel_rfl) (fun _ _ _ h => h) (Or.inl ⟨by rfl, ?hy1x1⟩) trivial ?rest1x1
                    case hy1x1 =>
                      intro W0 hSw
                      skip
                      go_simp
                      first | done | with_reducible rfl
                    try simp only [Act.put, List.setIfInBounds_toArray, List.set_cons_zero, List.set_cons_succ]
                    refine wpAnyH_take (i := 2) (oi := ({ dst := Option.some 151, op := Go.Op.move (Go.Operand.tmp 17), type := 3, pos := "law.go:287", after := #[], guard := Option.none } : Oper)) (v := ?v2x2) rfl (by kernel_rfl) (by kernel_rfl) (by kernel_rfl) (fun _ _ _ h => h) (Or.inl ⟨by rfl, ?hy2x2⟩) trivial ?rest2x2
                    case hy2x2 =>
                      intro W0 hSw
                      skip
                      go_simp
                      first | done | with_reducible rfl
                    try simp only [Act.put, List.setIfInBounds_toArray, List.set_cons_zero, List.set_cons_succ]
                    refine wpAnyH_take (i := 3) (oi := ({ dst := Option.some 152, op := Go.Op.slice 22 (Go.Operand.tmp 150) Option.none (Option.some (Go.Operand.tmp 151)) Option.none, type := 22, pos := "law.go:287", after := #[{ on := 1, ground := Go.Ground.data }, { on := 2, ground := Go.Ground.data }], guard := Option.none } : Oper)) (v := ?v3x3) rfl (by kernel_rfl) (by kernel_rfl) (by kernel_rfl) (fun _ _ _ h => h) (Or.inl ⟨by rfl, ?hy3x3⟩) trivial ?rest3x3
                    case hy3x3 =>
                      intro W0 hSw
                      skip
                      go_simp
                      first | done | with_reducible rfl
                    try simp only [Act.put, List.setIfInBounds_toArray, List.set_cons_zero, List.set_cons_succ]
                    refine wpAnyH_take (i := 5) (oi := ({ dst := Option.some 154, op := Go.Op.move (Go.Operand.tmp 12), type := 22, pos := "law.go:287", after := #[], guard := Option.none } : Oper)) (v := ?v5x4) rfl (by kernel_rfl) (by kernel_rfl) (by kernel_rfl) (fun _ _ _ h => h) (Or.inl ⟨by rfl, ?hy5x4⟩) trivial ?rest5x4
                    case hy5x4 =>
                      intro W0 hSw
                      skip
                      go_simp
                      first | done | with_reducible rfl
                    try simp only [Act.put, List.setIfInBounds_toArray, List.set_cons_zero, List.set_cons_succ]
                    refine wpAnyH_take (i := 6) (oi := ({ dst := Option.some 155, op := Go.Op.move (Go.Operand.tmp 17), type := 3, pos := "law.go:287", after := #[], guard := Option.none } : Oper)) (v := ?v6x5) rfl (by kernel_rfl) (by kernel_rfl) (by kernel_rfl) (fun _ _ _ h => h) (Or.inl ⟨by rfl, ?hy6x5⟩) trivial ?rest6x5
                    case hy6x5 =>
                      intro W0 hSw
                      skip
                      go_simp
                      first | done | with_reducible rfl
                    try simp only [Act.put, List.setIfInBounds_toArray, List.set_cons_zero, List.set_cons_succ]
                    refine wpAnyH_take (i := 7) (oi := ({ dst := Option.some 156, op := Go.Op.binOp Go.BinOp.add 3 (Go.Operand.tmp 155) (Go.Operand.const (Go.Value.int Go.IntKind.i64 1)) 3, type := 3, pos := "law.go:287", after := #[{ on := 6, ground := Go.Ground.data }], guard := Option.none } : Oper)) (v := ?v7x6) rfl (by kernel_rfl) (by kernel_rfl) (by kernel_rfl) (fun _ _ _ h => h) (Or.inl ⟨by rfl, ?hy7x6⟩) trivial ?rest7x6
                    case hy7x6 =>
                      intro W0 hSw
                      skip
                      go_simp
                      first | done | with_reducible rfl
                    try simp only [Act.put, List.setIfInBounds_toArray, List.set_cons_zero, List.set_cons_succ]
                    refine wpAnyH_take (i := 8) (oi := ({ dst := Option.some 157, op := Go.Op.slice 22 (Go.Operand.tmp 154) (Option.some (Go.Operand.tmp 156)) Option.none Option.none, type := 22, pos := "law.go:287", after := #[{ on := 5, ground := Go.Ground.data }, { on := 7, ground := Go.Ground.data }], guard := Option.none } : Oper)) (v := ?v8x7) rfl (by kernel_rfl) (by kernel_rfl) (by kernel_rfl) (fun _ _ _ h => h) (Or.inl ⟨by rfl, ?hy8x7⟩) trivial ?rest8x7
                    case hy8x7 =>
                      intro W0 hSw
                      skip
                      go_simp
                      first | done | with_reducible rfl
                    try simp only [Act.put, List.setIfInBounds_toArray, List.set_cons_zero, List.set_cons_succ]
                    refine wpAnyH_ready (rs := [0]) (by kernel_rfl) (by simp) ?_
                    refine AllReadyH.cons (o := ({ dst := Option.some 149, op := Go.Op.buildSlice 22 0 #[], type := 22, pos := "law.go:287", after := #[], guard := Option.none } : Oper)) rfl (fun K0 hK0 => ?_) AllReadyH.nil
                    go_simp
                    refine hK0.out _ _ trivial (fun _ => ?_)
                    clear hK0 K0
                    try simp only [Act.put, List.setIfInBounds_toArray, List.set_cons_zero, List.set_cons_succ]
                    refine wpAnyH_ready (rs := [4]) (by kernel_rfl) (by simp) ?_
                    refine AllReadyH.cons (o := ({ dst := Option.some 153, op := Go.Op.call { callee := Go.Callee.builtin Go.Builtin.append, args := #[Go.Operand.tmp 149, Go.Operand.tmp 152], argTypes := #[22, 22] }, type := 22, pos := "law.go:287", after := #[{ on := 0, ground := Go.Ground.data }, { on := 3, ground := Go.Ground.data }], guard := Option.none } : Oper)) rfl (fun K0 hK0 => ?_) AllReadyH.nil
                    go_simp
                    refine hK0.out _ _ trivial (fun _ => ?_)
                    clear hK0 K0
                    try simp only [Act.put, List.setIfInBounds_toArray, List.set_cons_zero, List.set_cons_succ]
                    refine wpAnyH_ready (rs := [9]) (by kernel_rfl) (by simp) ?_
                    refine AllReadyH.cons (o := ({ dst := Option.some 158, op := Go.Op.call { callee := Go.Callee.builtin Go.Builtin.append, args := #[Go.Operand.tmp 153, Go.Operand.tmp 157], argTypes := #[22, 22] }, type := 22, pos := "law.go:287", after := #[{ on := 4, ground := Go.Ground.data }, { on := 8, ground := Go.Ground.data }, { on := 4, ground := Go.Ground.chain }], guard := Option.none } : Oper)) rfl (fun K0 hK0 => ?_) AllReadyH.nil
                    go_simp
                    refine hK0.out _ _ trivial (fun _ => ?_)
                    clear hK0 K0
                    try simp only [Act.put, List.setIfInBounds_toArray, List.set_cons_zero, List.set_cons_succ]
                    refine wpAnyH_take (i := 10) (oi := ({ dst := Option.some 12, op := Go.Op.assign (Go.Operand.tmp 158), type := 22, pos := "law.go:287", after := #[{ on := 9, ground := Go.Ground.data }, { on := 9, ground := Go.Ground.chain }, { on := 0, ground := Go.Ground.phase }, { on := 1, ground := Go.Ground.phase }, { on := 2, ground := Go.Ground.phase }, { on := 3, ground := Go.Ground.phase }, { on := 4, ground := Go.Ground.phase }, { on := 5, ground := Go.Ground.phase }, { on := 6, ground := Go.Ground.phase }, { on := 7, ground := Go.Ground.phase }, { on := 8, ground := Go.Ground.phase }, { on := 9, ground := Go.Ground.phase }], guard := Option.none } : Oper)) (v := ?v10x8) rfl (by kernel_rfl) (by kernel_rfl) (by kernel_rfl) (fun _ _ _ h => h) (Or.inl ⟨by rfl, ?hy10x8⟩) trivial ?rest10x8
                    case hy10x8 =>
                      intro W0 hSw
                      skip
                      go_simp
                      first | done | with_reducible rfl
                    try simp only [Act.put, List.setIfInBounds_toArray, List.set_cons_zero, List.set_cons_succ]
                    refine wpAnyH_done (by kernel_rfl) ?_ _
                    go_wp2_with fail
                    go_roundw
                    case rel => first | exact HNX.out _ (by go_num) | ((repeat apply Exists.intro); exact ⟨HNX.out _ (by go_num), rfl⟩)
                    case measure => clear hk1 hk2 hk3 hA8; simp [intOf]; omega
        · have hzi : ¬ 0 < (ll : Int) := by omega
          have hl0 : ll = 0 := by omega
          have hne2 : ls = [] := List.length_eq_zero_iff.1 (by omega)
          subst hne2
          have hT0 : tdV nd [] (5 * r) = [] := by unfold tdV; rw [if_pos rfl]
          rw [hT0] at HEN2
          have hos2 := HSO2.out
          have HA0 := HN1.out
          obtain ⟨x, hx⟩ : ∃ x, ns[0]? = some x := ⟨_, List.getElem?_eq_getElem (by rw [HN.out]; exact HA0)⟩
          have hxm := up_mem HU.out x (List.mem_of_getElem? hx)
          obtain ⟨f, rfl⟩ : ∃ f : Nat, x = (f : Int) := ⟨x.toNat, by omega⟩
          have HF16 : Hid (f < 16) := Lib.hid (by omega)
          have HXX := Lib.hid hx
          have hi0 : 0 < (i : Int) := by omega
          clear hen hul hll hrl hSo hrm hz hT0 hos2 hx hxm HA0
          go_upto_region 38 with (first
            | (go_at_call 13; have _t := HE5; refine (EnW.out HE5.out).mono ?_; rintro e wo2 ⟨rfl, he1, hob⟩
               obtain ⟨AVb, cVb, hvb, hlb⟩ := id hob.2
               simp only at hvb hob
               rw [HL5.out] at hvb hlb
               have hlbi : (1 : Int) ≤ (cVb : Int) := by omega
               subst hvb
               have HOB := Lib.hid hob
               have HEQ := Lib.hid he1
               clear he1 hob hlb _t)
            | (go_at_call 11; refine (hear_ask HE4.out.co (f := f) (x := nd) HF16.out (by have := HND.out; omega) (by show nd % 16 = nd; have := HND.out; omega) rfl (by simp)).mono ?_; rintro e w5 ⟨rfl, v5, os5, h1, h2, h3⟩
               have HE5 := Lib.hid (EnW.step HE4.out h1 h3.all.1 (h3.all.ck ⟨rfl, rfl, rfl, rfl, rfl, rfl, rfl⟩))
               have HCRA := Lib.hid h2
               have HL5 : Hid (([] ++ os5 : List Le).length = 1) := Lib.hid (by have := congrArg List.length h2; simpa using this)
               clear h1 h2 h3)
            | (go_at_call 13; have _t := HEN2; refine (EnW.out HEN2.out).mono ?_; rintro e w4 ⟨_, he1, _⟩
               have HE4 := Lib.hid he1
               obtain ⟨bN, oN, hNA, y0⟩ := HRC.out _ he1.bel 0 _ HXX.out
               subst hNA
               rw [Nat.add_zero] at y0
               clear he1 _t))
          obtain ⟨e1, he1, hk1, _, ht1, _, _⟩ := core_at HCRA.out (j := 0) (k := 6) (f := (nd : Int)) (t := (f : Int)) (x := (nd : Int)) (n := 0) rfl
          obtain ⟨gb, hAb, hgl, _, _, hcell⟩ := HOB.out.at_ (j := 0) (e := e1) (by rw [List.nil_append]; exact he1)
          subst hAb
          have HS38 : Hid (∀ W, Below wo2.heap.size wo2 W → (fun W : World => W.cell? ⟨gb, 0, none⟩ = some (.int .i64 6) ∧ W.cell? ⟨gb, 2, none⟩ = some (.int .i64 (f : Int)) ∧ W.cell? ⟨bN, oN, none⟩ = some (.int .i64 (f : Int))) W) := Lib.hid fun W hW => by
            obtain ⟨u0, _, u2, _, _⟩ := hcell W (hW.block gb hgl)
            rw [hk1] at u0
            rw [ht1] at u2
            simp only [Nat.zero_mul, Nat.zero_add] at u0 u2
            obtain ⟨b', o', hN', y'⟩ := HRC.out _ (HEQ.out.bel.trans (hW.mono (Below.size HEQ.out.bel))) 0 _ HXX.out
            injection hN' with hN'
            injection hN' with e1 e2
            subst e1 e2
            rw [Nat.add_zero] at y'
            exact ⟨u0, u2, y'⟩
          have HSZ : Hid (∀ W, Below wo2.heap.size wo2 W → Calls Tryz.prog 12 #[.pointer (some ⟨c, 0, none⟩), .int .i64 (nd : Int)] W (LooksL (.int .i64 0) W)) := Lib.hid fun W hW => state_any (HEQ.out.below hW).co (x := nd) (by have := HND.out; unfold i64ok; omega)
          have hff : ((f : Int) == (f : Int)) = true := by simp
          have hiN : 0 < i := HN1.out
          clear he1 hk1 ht1 hcell hgl y0
          refine wp_region_held_drew (S := (fun W : World => W.cell? ⟨gb, 0, none⟩ = some (.int .i64 6) ∧ W.cell? ⟨gb, 2, none⟩ = some (.int .i64 (f : Int)) ∧ W.cell? ⟨bN, oN, none⟩ = some (.int .i64 (f : Int)))) (by kernel_rfl) (HS38.out _ (drew_below wo2)) (fun _ => ?_)
          refine wpAnyH_ready (rs := [0]) (by kernel_rfl) (by simp) ?_
          refine AllReadyH.cons (o := ({ dst := Option.some 171, op := Go.Op.call { callee := Go.Callee.value (Go.Operand.func 8), args := #[], argTypes := #[] }, type := 4, pos := "law.go:292", after := #[], guard := Option.none } : Oper)) rfl (fun K0 hK0 => ?_) AllReadyH.nil
          go_simp
          go_at_call 8
          refine (alive13_any _).mono ?_
          rintro e wz ⟨rfl, hb⟩
          have HBZ : Hid (Below wo2.heap.size wo2 wz) := Lib.hid ((drew_below wo2).trans (hb.mono (Nat.le_refl _)))
          clear hb
          try go_wp2_with fail
          refine hK0.out _ _ (HS38.out _ HBZ.out) (fun _ => ?_)
          clear hK0 K0
          try simp only [Act.put, List.setIfInBounds_toArray, List.set_cons_zero, List.set_cons_succ]
          refine wpAnyH_take (i := 1) (oi := ({ dst := Option.some 172, op := Go.Op.move (Go.Operand.tmp 171), type := 4, pos := "law.go:292", after := #[{ on := 0, ground := Go.Ground.data }, { on := 0, ground := Go.Ground.chain }], guard := Option.none } : Oper)) (v := ?v1x9) rfl (by kernel_rfl) (by kernel_rfl) (by kernel_rfl) (fun _ _ _ h => h) (Or.inl ⟨by rfl, ?hy1x9⟩) (by first | assumption | exact HS38.out _ HBZ.out) ?rest1x9
          case hy1x9 =>
            intro W0 hSw
            obtain ⟨s0, s1, s2⟩ := hSw
            go_simp
            first | done | with_reducible rfl
          try simp only [Act.put, List.setIfInBounds_toArray, List.set_cons_zero, List.set_cons_succ]
          refine wpAnyH_take (i := 2) (oi := ({ dst := Option.some 173, op := Go.Op.move (Go.Operand.tmp 7), type := 23, pos := "law.go:292", after := #[{ on := 1, ground := Go.Ground.guard }], guard := Option.some (1, Bool.true) } : Oper)) (v := ?v2x10) rfl (by kernel_rfl) (by kernel_rfl) (by kernel_rfl) (fun _ _ _ h => h) (Or.inl ⟨by rfl, ?hy2x10⟩) (by first | assumption | exact HS38.out _ HBZ.out) ?rest2x10
          case hy2x10 =>
            intro W0 hSw
            obtain ⟨s0, s1, s2⟩ := hSw
            go_simp
            first | done | with_reducible rfl
          try simp only [Act.put, List.setIfInBounds_toArray, List.set_cons_zero, List.set_cons_succ]
          refine wpAnyH_take (i := 3) (oi := ({ dst := Option.some 174, op := Go.Op.move (Go.Operand.tmp 9), type := 3, pos := "law.go:292", after := #[{ on := 1, ground := Go.Ground.guard }], guard := Option.some (1, Bool.true) } : Oper)) (v := ?v3x11) rfl (by kernel_rfl) (by kernel_rfl) (by kernel_rfl) (fun _ _ _ h => h) (Or.inl ⟨by rfl, ?hy3x11⟩) (by first | assumption | exact HS38.out _ HBZ.out) ?rest3x11
          case hy3x11 =>
            intro W0 hSw
            obtain ⟨s0, s1, s2⟩ := hSw
            go_simp
            first | done | with_reducible rfl
          try simp only [Act.put, List.setIfInBounds_toArray, List.set_cons_zero, List.set_cons_succ]
          refine wpAnyH_ready (rs := [4]) (by kernel_rfl) (by simp) ?_
          refine AllReadyH.cons (o := ({ dst := Option.some 175, op := Go.Op.call { callee := Go.Callee.value (Go.Operand.func 12), args := #[Go.Operand.tmp 173, Go.Operand.tmp 174], argTypes := #[23, 3] }, type := 3, pos := "law.go:292", after := #[{ on := 2, ground := Go.Ground.data }, { on := 3, ground := Go.Ground.data }, { on := 1, ground := Go.Ground.chain }, { on := 1, ground := Go.Ground.guard }], guard := Option.some (1, Bool.true) } : Oper)) rfl (fun K0 hK0 => ?_) AllReadyH.nil
          go_simp
          go_at_call 12
          refine (HSZ.out _ HBZ.out).mono ?_
          rintro e wy ⟨rfl, rfl⟩
          try go_wp2_with fail
          refine hK0.out _ _ (HS38.out _ HBZ.out) (fun _ => ?_)
          clear hK0 K0
          try simp only [Act.put, List.setIfInBounds_toArray, List.set_cons_zero, List.set_cons_succ]
          refine wpAnyH_take (i := 5) (oi := ({ dst := Option.some 176, op := Go.Op.binOp Go.BinOp.eql 3 (Go.Operand.tmp 175) (Go.Operand.const (Go.Value.int Go.IntKind.i64 0)) 3, type := 4, pos := "law.go:292", after := #[{ on := 4, ground := Go.Ground.data }, { on := 1, ground := Go.Ground.guard }], guard := Option.some (1, Bool.true) } : Oper)) (v := ?v5x12) rfl (by kernel_rfl) (by kernel_rfl) (by kernel_rfl) (fun _ _ _ h => h) (Or.inl ⟨by rfl, ?hy5x12⟩) (by first | assumption | exact HS38.out _ HBZ.out) ?rest5x12
          case hy5x12 =>
            intro W0 hSw
            obtain ⟨s0, s1, s2⟩ := hSw
            go_simp
            first | done | with_reducible rfl
          try simp only [Act.put, List.setIfInBounds_toArray, List.set_cons_zero, List.set_cons_succ]
          refine wpAnyH_take (i := 6) (oi := ({ dst := Option.some 177, op := Go.Op.pick (Go.Operand.tmp 172) (Go.Operand.tmp 176) (Go.Operand.const (Go.Value.bool Bool.false)), type := 4, pos := "law.go:292", after := #[{ on := 1, ground := Go.Ground.data }, { on := 5, ground := Go.Ground.data }], guard := Option.none } : Oper)) (v := ?v6x13) rfl (by kernel_rfl) (by kernel_rfl) (by kernel_rfl) (fun _ _ _ h => h) (Or.inl ⟨by rfl, ?hy6x13⟩) (by first | assumption | exact HS38.out _ HBZ.out) ?rest6x13
          case hy6x13 =>
            intro W0 hSw
            obtain ⟨s0, s1, s2⟩ := hSw
            go_simp
            first | done | with_reducible rfl
          try simp only [Act.put, List.setIfInBounds_toArray, List.set_cons_zero, List.set_cons_succ]
          refine wpAnyH_take (i := 7) (oi := ({ dst := Option.some 178, op := Go.Op.move (Go.Operand.tmp 177), type := 4, pos := "law.go:292", after := #[{ on := 6, ground := Go.Ground.data }, { on := 4, ground := Go.Ground.chain }], guard := Option.none } : Oper)) (v := ?v7x14) rfl (by kernel_rfl) (by kernel_rfl) (by kernel_rfl) (fun _ _ _ h => h) (Or.inl ⟨by rfl, ?hy7x14⟩) (by first | assumption | exact HS38.out _ HBZ.out) ?rest7x14
          case hy7x14 =>
            intro W0 hSw
            obtain ⟨s0, s1, s2⟩ := hSw
            go_simp
            first | done | with_reducible rfl
          try simp only [Act.put, List.setIfInBounds_toArray, List.set_cons_zero, List.set_cons_succ]
          refine wpAnyH_take (i := 8) (oi := ({ dst := Option.some 179, op := Go.Op.move (Go.Operand.tmp 18), type := 24, pos := "law.go:292", after := #[{ on := 7, ground := Go.Ground.guard }], guard := Option.some (7, Bool.true) } : Oper)) (v := ?v8x15) rfl (by kernel_rfl) (by kernel_rfl) (by kernel_rfl) (fun _ _ _ h => h) (Or.inl ⟨by rfl, ?hy8x15⟩) (by first | assumption | exact HS38.out _ HBZ.out) ?rest8x15
          case hy8x15 =>
            intro W0 hSw
            obtain ⟨s0, s1, s2⟩ := hSw
            go_simp
            first | done | with_reducible rfl
          try simp only [Act.put, List.setIfInBounds_toArray, List.set_cons_zero, List.set_cons_succ]
          refine wpAnyH_take (i := 9) (oi := ({ dst := Option.some 180, op := Go.Op.binOp Go.BinOp.eql 24 (Go.Operand.tmp 179) (Go.Operand.const (Go.Value.int Go.IntKind.i64 0)) 24, type := 4, pos := "law.go:292", after := #[{ on := 8, ground := Go.Ground.data }, { on := 7, ground := Go.Ground.guard }], guard := Option.some (7, Bool.true) } : Oper)) (v := ?v9x16) rfl (by kernel_rfl) (by kernel_rfl) (by kernel_rfl) (fun _ _ _ h => h) (Or.inl ⟨by rfl, ?hy9x16⟩) (by first | assumption | exact HS38.out _ HBZ.out) ?rest9x16
          case hy9x16 =>
            intro W0 hSw
            obtain ⟨s0, s1, s2⟩ := hSw
            go_simp
            first | done | with_reducible rfl
          try simp only [Act.put, List.setIfInBounds_toArray, List.set_cons_zero, List.set_cons_succ]
          refine wpAnyH_take (i := 10) (oi := ({ dst := Option.some 181, op := Go.Op.pick (Go.Operand.tmp 178) (Go.Operand.tmp 180) (Go.Operand.const (Go.Value.bool Bool.false)), type := 4, pos := "law.go:292", after := #[{ on := 7, ground := Go.Ground.data }, { on := 9, ground := Go.Ground.data }], guard := Option.none } : Oper)) (v := ?v10x17) rfl (by kernel_rfl) (by kernel_rfl) (by kernel_rfl) (fun _ _ _ h => h) (Or.inl ⟨by rfl, ?hy10x17⟩) (by first | assumption | exact HS38.out _ HBZ.out) ?rest10x17
          case hy10x17 =>
            intro W0 hSw
            obtain ⟨s0, s1, s2⟩ := hSw
            go_simp
            first | done | with_reducible rfl
          try simp only [Act.put, List.setIfInBounds_toArray, List.set_cons_zero, List.set_cons_succ]
          refine wpAnyH_take (i := 11) (oi := ({ dst := Option.some 182, op := Go.Op.move (Go.Operand.tmp 181), type := 4, pos := "law.go:292", after := #[{ on := 10, ground := Go.Ground.data }, { on := 7, ground := Go.Ground.chain }], guard := Option.none } : Oper)) (v := ?v11x18) rfl (by kernel_rfl) (by kernel_rfl) (by kernel_rfl) (fun _ _ _ h => h) (Or.inl ⟨by rfl, ?hy11x18⟩) (by first | assumption | exact HS38.out _ HBZ.out) ?rest11x18
          case hy11x18 =>
            intro W0 hSw
            obtain ⟨s0, s1, s2⟩ := hSw
            go_simp
            first | done | with_reducible rfl
          try simp only [Act.put, List.setIfInBounds_toArray, List.set_cons_zero, List.set_cons_succ]
          refine wpAnyH_take (i := 12) (oi := ({ dst := Option.some 183, op := Go.Op.move (Go.Operand.tmp 19), type := 38, pos := "law.go:292", after := #[{ on := 11, ground := Go.Ground.guard }], guard := Option.some (11, Bool.true) } : Oper)) (v := ?v12x19) rfl (by kernel_rfl) (by kernel_rfl) (by kernel_rfl) (fun _ _ _ h => h) (Or.inl ⟨by rfl, ?hy12x19⟩) (by first | assumption | exact HS38.out _ HBZ.out) ?rest12x19
          case hy12x19 =>
            intro W0 hSw
            obtain ⟨s0, s1, s2⟩ := hSw
            go_simp
            first | done | with_reducible rfl
          try simp only [Act.put, List.setIfInBounds_toArray, List.set_cons_zero, List.set_cons_succ]
          refine wpAnyH_take (i := 13) (oi := ({ dst := Option.some 184, op := Go.Op.call { callee := Go.Callee.builtin Go.Builtin.len, args := #[Go.Operand.tmp 183], argTypes := #[38] }, type := 3, pos := "law.go:292", after := #[{ on := 12, ground := Go.Ground.data }, { on := 11, ground := Go.Ground.guard }], guard := Option.some (11, Bool.true) } : Oper)) (v := ?v13x20) rfl (by kernel_rfl) (by kernel_rfl) (by kernel_rfl) (fun _ _ _ h => h) (Or.inl ⟨by rfl, ?hy13x20⟩) (by first | assumption | exact HS38.out _ HBZ.out) ?rest13x20
          case hy13x20 =>
            intro W0 hSw
            obtain ⟨s0, s1, s2⟩ := hSw
            go_simp
            first | done | with_reducible rfl
          try simp only [Act.put, List.setIfInBounds_toArray, List.set_cons_zero, List.set_cons_succ]
          refine wpAnyH_take (i := 14) (oi := ({ dst := Option.some 185, op := Go.Op.binOp Go.BinOp.eql 3 (Go.Operand.tmp 184) (Go.Operand.const (Go.Value.int Go.IntKind.i64 1)) 3, type := 4, pos := "law.go:292", after := #[{ on := 13, ground := Go.Ground.data }, { on := 11, ground := Go.Ground.guard }], guard := Option.some (11, Bool.true) } : Oper)) (v := ?v14x21) rfl (by kernel_rfl) (by kernel_rfl) (by kernel_rfl) (fun _ _ _ h => h) (Or.inl ⟨by rfl, ?hy14x21⟩) (by first | assumption | exact HS38.out _ HBZ.out) ?rest14x21
          case hy14x21 =>
            intro W0 hSw
            obtain ⟨s0, s1, s2⟩ := hSw
            go_simp
            first | done | with_reducible rfl
          try simp only [Act.put, List.setIfInBounds_toArray, List.set_cons_zero, List.set_cons_succ]
          refine wpAnyH_take (i := 15) (oi := ({ dst := Option.some 186, op := Go.Op.pick (Go.Operand.tmp 182) (Go.Operand.tmp 185) (Go.Operand.const (Go.Value.bool Bool.false)), type := 4, pos := "law.go:292", after := #[{ on := 11, ground := Go.Ground.data }, { on := 14, ground := Go.Ground.data }], guard := Option.none } : Oper)) (v := ?v15x22) rfl (by kernel_rfl) (by kernel_rfl) (by kernel_rfl) (fun _ _ _ h => h) (Or.inl ⟨by rfl, ?hy15x22⟩) (by first | assumption | exact HS38.out _ HBZ.out) ?rest15x22
          case hy15x22 =>
            intro W0 hSw
            obtain ⟨s0, s1, s2⟩ := hSw
            go_simp
            first | done | with_reducible rfl
          try simp only [Act.put, List.setIfInBounds_toArray, List.set_cons_zero, List.set_cons_succ]
          refine wpAnyH_take (i := 16) (oi := ({ dst := Option.some 187, op := Go.Op.move (Go.Operand.tmp 186), type := 4, pos := "law.go:292", after := #[{ on := 15, ground := Go.Ground.data }, { on := 11, ground := Go.Ground.chain }], guard := Option.none } : Oper)) (v := ?v16x23) rfl (by kernel_rfl) (by kernel_rfl) (by kernel_rfl) (fun _ _ _ h => h) (Or.inl ⟨by rfl, ?hy16x23⟩) (by first | assumption | exact HS38.out _ HBZ.out) ?rest16x23
          case hy16x23 =>
            intro W0 hSw
            obtain ⟨s0, s1, s2⟩ := hSw
            go_simp
            first | done | with_reducible rfl
          try simp only [Act.put, List.setIfInBounds_toArray, List.set_cons_zero, List.set_cons_succ]
          refine wpAnyH_take (i := 17) (oi := ({ dst := Option.some 188, op := Go.Op.move (Go.Operand.tmp 19), type := 38, pos := "law.go:292", after := #[{ on := 16, ground := Go.Ground.guard }], guard := Option.some (16, Bool.true) } : Oper)) (v := ?v17x24) rfl (by kernel_rfl) (by kernel_rfl) (by kernel_rfl) (fun _ _ _ h => h) (Or.inl ⟨by rfl, ?hy17x24⟩) (by first | assumption | exact HS38.out _ HBZ.out) ?rest17x24
          case hy17x24 =>
            intro W0 hSw
            obtain ⟨s0, s1, s2⟩ := hSw
            go_simp
            first | done | with_reducible rfl
          try simp only [Act.put, List.setIfInBounds_toArray, List.set_cons_zero, List.set_cons_succ]
          refine wpAnyH_take (i := 18) (oi := ({ dst := Option.some 189, op := Go.Op.indexAddr 38 (Go.Operand.tmp 188) (Go.Operand.const (Go.Value.int Go.IntKind.i64 0)), type := 0, pos := "law.go:292", after := #[{ on := 17, ground := Go.Ground.data }, { on := 16, ground := Go.Ground.guard }], guard := Option.some (16, Bool.true) } : Oper)) (v := ?v18x25) rfl (by kernel_rfl) (by kernel_rfl) (by kernel_rfl) (fun _ _ _ h => h) (Or.inl ⟨by rfl, ?hy18x25⟩) (by first | assumption | exact HS38.out _ HBZ.out) ?rest18x25
          case hy18x25 =>
            intro W0 hSw
            obtain ⟨s0, s1, s2⟩ := hSw
            go_simp
            first | done | with_reducible rfl
          try simp only [Act.put, List.setIfInBounds_toArray, List.set_cons_zero, List.set_cons_succ]
          refine wpAnyH_take (i := 19) (oi := ({ dst := Option.some 190, op := Go.Op.fieldAddr 36 (Go.Operand.tmp 189) 0, type := 0, pos := "law.go:292", after := #[{ on := 18, ground := Go.Ground.data }, { on := 16, ground := Go.Ground.guard }], guard := Option.some (16, Bool.true) } : Oper)) (v := ?v19x26) rfl (by kernel_rfl) (by kernel_rfl) (by kernel_rfl) (fun _ _ _ h => h) (Or.inl ⟨by rfl, ?hy19x26⟩) (by first | assumption | exact HS38.out _ HBZ.out) ?rest19x26
          case hy19x26 =>
            intro W0 hSw
            obtain ⟨s0, s1, s2⟩ := hSw
            go_simp
            first | done | with_reducible rfl
          try simp only [Act.put, List.setIfInBounds_toArray, List.set_cons_zero, List.set_cons_succ]
          refine wpAnyH_take (i := 20) (oi := ({ dst := Option.some 191, op := Go.Op.load 34 (Go.Operand.tmp 190), type := 34, pos := "law.go:292", after := #[{ on := 19, ground := Go.Ground.data }, { on := 16, ground := Go.Ground.guard }], guard := Option.some (16, Bool.true) } : Oper)) (v := ?v20x27) rfl (by kernel_rfl) (by kernel_rfl) (by kernel_rfl) (fun _ _ _ h => h) (Or.inl ⟨by rfl, ?hy20x27⟩) (by first | assumption | exact HS38.out _ HBZ.out) ?rest20x27
          case hy20x27 =>
            intro W0 hSw
            obtain ⟨s0, s1, s2⟩ := hSw
            go_simp
            first | done | with_reducible rfl
          try simp only [Act.put, List.setIfInBounds_toArray, List.set_cons_zero, List.set_cons_succ]
          refine wpAnyH_take (i := 21) (oi := ({ dst := Option.some 192, op := Go.Op.binOp Go.BinOp.eql 34 (Go.Operand.tmp 191) (Go.Operand.const (Go.Value.int Go.IntKind.i64 6)) 34, type := 4, pos := "law.go:292", after := #[{ on := 20, ground := Go.Ground.data }, { on := 16, ground := Go.Ground.guard }], guard := Option.some (16, Bool.true) } : Oper)) (v := ?v21x28) rfl (by kernel_rfl) (by kernel_rfl) (by kernel_rfl) (fun _ _ _ h => h) (Or.inl ⟨by rfl, ?hy21x28⟩) (by first | assumption | exact HS38.out _ HBZ.out) ?rest21x28
          case hy21x28 =>
            intro W0 hSw
            obtain ⟨s0, s1, s2⟩ := hSw
            go_simp
            first | done | with_reducible rfl
          try simp only [Act.put, List.setIfInBounds_toArray, List.set_cons_zero, List.set_cons_succ]
          refine wpAnyH_take (i := 22) (oi := ({ dst := Option.some 193, op := Go.Op.pick (Go.Operand.tmp 187) (Go.Operand.tmp 192) (Go.Operand.const (Go.Value.bool Bool.false)), type := 4, pos := "law.go:292", after := #[{ on := 16, ground := Go.Ground.data }, { on := 21, ground := Go.Ground.data }], guard := Option.none } : Oper)) (v := ?v22x29) rfl (by kernel_rfl) (by kernel_rfl) (by kernel_rfl) (fun _ _ _ h => h) (Or.inl ⟨by rfl, ?hy22x29⟩) (by first | assumption | exact HS38.out _ HBZ.out) ?rest22x29
          case hy22x29 =>
            intro W0 hSw
            obtain ⟨s0, s1, s2⟩ := hSw
            go_simp
            first | done | with_reducible rfl
          try simp only [Act.put, List.setIfInBounds_toArray, List.set_cons_zero, List.set_cons_succ]
          refine wpAnyH_take (i := 23) (oi := ({ dst := Option.some 194, op := Go.Op.move (Go.Operand.tmp 193), type := 4, pos := "law.go:292", after := #[{ on := 22, ground := Go.Ground.data }, { on := 16, ground := Go.Ground.chain }], guard := Option.none } : Oper)) (v := ?v23x30) rfl (by kernel_rfl) (by kernel_rfl) (by kernel_rfl) (fun _ _ _ h => h) (Or.inl ⟨by rfl, ?hy23x30⟩) (by first | assumption | exact HS38.out _ HBZ.out) ?rest23x30
          case hy23x30 =>
            intro W0 hSw
            obtain ⟨s0, s1, s2⟩ := hSw
            go_simp
            first | done | with_reducible rfl
          try simp only [Act.put, List.setIfInBounds_toArray, List.set_cons_zero, List.set_cons_succ]
          refine wpAnyH_take (i := 24) (oi := ({ dst := Option.some 195, op := Go.Op.move (Go.Operand.tmp 19), type := 38, pos := "law.go:292", after := #[{ on := 23, ground := Go.Ground.guard }], guard := Option.some (23, Bool.true) } : Oper)) (v := ?v24x31) rfl (by kernel_rfl) (by kernel_rfl) (by kernel_rfl) (fun _ _ _ h => h) (Or.inl ⟨by rfl, ?hy24x31⟩) (by first | assumption | exact HS38.out _ HBZ.out) ?rest24x31
          case hy24x31 =>
            intro W0 hSw
            obtain ⟨s0, s1, s2⟩ := hSw
            go_simp
            first | done | with_reducible rfl
          try simp only [Act.put, List.setIfInBounds_toArray, List.set_cons_zero, List.set_cons_succ]
          refine wpAnyH_take (i := 25) (oi := ({ dst := Option.some 196, op := Go.Op.indexAddr 38 (Go.Operand.tmp 195) (Go.Operand.const (Go.Value.int Go.IntKind.i64 0)), type := 0, pos := "law.go:292", after := #[{ on := 24, ground := Go.Ground.data }, { on := 23, ground := Go.Ground.guard }], guard := Option.some (23, Bool.true) } : Oper)) (v := ?v25x32) rfl (by kernel_rfl) (by kernel_rfl) (by kernel_rfl) (fun _ _ _ h => h) (Or.inl ⟨by rfl, ?hy25x32⟩) (by first | assumption | exact HS38.out _ HBZ.out) ?rest25x32
          case hy25x32 =>
            intro W0 hSw
            obtain ⟨s0, s1, s2⟩ := hSw
            go_simp
            first | done | with_reducible rfl
          try simp only [Act.put, List.setIfInBounds_toArray, List.set_cons_zero, List.set_cons_succ]
          refine wpAnyH_take (i := 26) (oi := ({ dst := Option.some 197, op := Go.Op.fieldAddr 36 (Go.Operand.tmp 196) 2, type := 0, pos := "law.go:292", after := #[{ on := 25, ground := Go.Ground.data }, { on := 23, ground := Go.Ground.guard }], guard := Option.some (23, Bool.true) } : Oper)) (v := ?v26x33) rfl (by kernel_rfl) (by kernel_rfl) (by kernel_rfl) (fun _ _ _ h => h) (Or.inl ⟨by rfl, ?hy26x33⟩) (by first | assumption | exact HS38.out _ HBZ.out) ?rest26x33
          case hy26x33 =>
            intro W0 hSw
            obtain ⟨s0, s1, s2⟩ := hSw
            go_simp
            first | done | with_reducible rfl
          try simp only [Act.put, List.setIfInBounds_toArray, List.set_cons_zero, List.set_cons_succ]
          refine wpAnyH_take (i := 27) (oi := ({ dst := Option.some 198, op := Go.Op.load 3 (Go.Operand.tmp 197), type := 3, pos := "law.go:292", after := #[{ on := 26, ground := Go.Ground.data }, { on := 23, ground := Go.Ground.guard }], guard := Option.some (23, Bool.true) } : Oper)) (v := ?v27x34) rfl (by kernel_rfl) (by kernel_rfl) (by kernel_rfl) (fun _ _ _ h => h) (Or.inl ⟨by rfl, ?hy27x34⟩) (by first | assumption | exact HS38.out _ HBZ.out) ?rest27x34
          case hy27x34 =>
            intro W0 hSw
            obtain ⟨s0, s1, s2⟩ := hSw
            go_simp
            first | done | with_reducible rfl
          try simp only [Act.put, List.setIfInBounds_toArray, List.set_cons_zero, List.set_cons_succ]
          refine wpAnyH_take (i := 28) (oi := ({ dst := Option.some 199, op := Go.Op.move (Go.Operand.tmp 1), type := 22, pos := "law.go:292", after := #[{ on := 23, ground := Go.Ground.guard }], guard := Option.some (23, Bool.true) } : Oper)) (v := ?v28x35) rfl (by kernel_rfl) (by kernel_rfl) (by kernel_rfl) (fun _ _ _ h => h) (Or.inl ⟨by rfl, ?hy28x35⟩) (by first | assumption | exact HS38.out _ HBZ.out) ?rest28x35
          case hy28x35 =>
            intro W0 hSw
            obtain ⟨s0, s1, s2⟩ := hSw
            go_simp
            first | done | with_reducible rfl
          try simp only [Act.put, List.setIfInBounds_toArray, List.set_cons_zero, List.set_cons_succ]
          refine wpAnyH_take (i := 29) (oi := ({ dst := Option.some 200, op := Go.Op.indexAddr 22 (Go.Operand.tmp 199) (Go.Operand.const (Go.Value.int Go.IntKind.i64 0)), type := 0, pos := "law.go:292", after := #[{ on := 28, ground := Go.Ground.data }, { on := 23, ground := Go.Ground.guard }], guard := Option.some (23, Bool.true) } : Oper)) (v := ?v29x36) rfl (by kernel_rfl) (by kernel_rfl) (by kernel_rfl) (fun _ _ _ h => h) (Or.inl ⟨by rfl, ?hy29x36⟩) (by first | assumption | exact HS38.out _ HBZ.out) ?rest29x36
          case hy29x36 =>
            intro W0 hSw
            obtain ⟨s0, s1, s2⟩ := hSw
            go_simp
            first | done | with_reducible rfl
          try simp only [Act.put, List.setIfInBounds_toArray, List.set_cons_zero, List.set_cons_succ]
          refine wpAnyH_take (i := 30) (oi := ({ dst := Option.some 201, op := Go.Op.load 3 (Go.Operand.tmp 200), type := 3, pos := "law.go:292", after := #[{ on := 29, ground := Go.Ground.data }, { on := 23, ground := Go.Ground.guard }], guard := Option.some (23, Bool.true) } : Oper)) (v := ?v30x37) rfl (by kernel_rfl) (by kernel_rfl) (by kernel_rfl) (fun _ _ _ h => h) (Or.inl ⟨by rfl, ?hy30x37⟩) (by first | assumption | exact HS38.out _ HBZ.out) ?rest30x37
          case hy30x37 =>
            intro W0 hSw
            obtain ⟨s0, s1, s2⟩ := hSw
            go_simp
            first | done | with_reducible rfl
          try simp only [Act.put, List.setIfInBounds_toArray, List.set_cons_zero, List.set_cons_succ]
          refine wpAnyH_take (i := 31) (oi := ({ dst := Option.some 202, op := Go.Op.binOp Go.BinOp.eql 3 (Go.Operand.tmp 198) (Go.Operand.tmp 201) 3, type := 4, pos := "law.go:292", after := #[{ on := 27, ground := Go.Ground.data }, { on := 30, ground := Go.Ground.data }, { on := 23, ground := Go.Ground.guard }], guard := Option.some (23, Bool.true) } : Oper)) (v := ?v31x38) rfl (by kernel_rfl) (by kernel_rfl) (by kernel_rfl) (fun _ _ _ h => h) (Or.inl ⟨by rfl, ?hy31x38⟩) (by first | assumption | exact HS38.out _ HBZ.out) ?rest31x38
          case hy31x38 =>
            intro W0 hSw
            obtain ⟨s0, s1, s2⟩ := hSw
            go_simp
            first | done | with_reducible rfl
          try simp only [Act.put, List.setIfInBounds_toArray, List.set_cons_zero, List.set_cons_succ]
          refine wpAnyH_take (i := 32) (oi := ({ dst := Option.some 203, op := Go.Op.pick (Go.Operand.tmp 194) (Go.Operand.tmp 202) (Go.Operand.const (Go.Value.bool Bool.false)), type := 4, pos := "law.go:292", after := #[{ on := 23, ground := Go.Ground.data }, { on := 31, ground := Go.Ground.data }], guard := Option.none } : Oper)) (v := ?v32x39) rfl (by kernel_rfl) (by kernel_rfl) (by kernel_rfl) (fun _ _ _ h => h) (Or.inl ⟨by rfl, ?hy32x39⟩) (by first | assumption | exact HS38.out _ HBZ.out) ?rest32x39
          case hy32x39 =>
            intro W0 hSw
            obtain ⟨s0, s1, s2⟩ := hSw
            go_simp
            first | done | with_reducible rfl
          try simp only [Act.put, List.setIfInBounds_toArray, List.set_cons_zero, List.set_cons_succ]
          refine wpAnyH_take (i := 33) (oi := ({ dst := Option.some 6, op := Go.Op.assign (Go.Operand.tmp 203), type := 4, pos := "law.go:292", after := #[{ on := 32, ground := Go.Ground.data }, { on := 23, ground := Go.Ground.chain }, { on := 0, ground := Go.Ground.phase }, { on := 1, ground := Go.Ground.phase }, { on := 2, ground := Go.Ground.phase }, { on := 3, ground := Go.Ground.phase }, { on := 4, ground := Go.Ground.phase }, { on := 5, ground := Go.Ground.phase }, { on := 6, ground := Go.Ground.phase }, { on := 7, ground := Go.Ground.phase }, { on := 8, ground := Go.Ground.phase }, { on := 9, ground := Go.Ground.phase }, { on := 10, ground := Go.Ground.phase }, { on := 11, ground := Go.Ground.phase }, { on := 12, ground := Go.Ground.phase }, { on := 13, ground := Go.Ground.phase }, { on := 14, ground := Go.Ground.phase }, { on := 15, ground := Go.Ground.phase }, { on := 16, ground := Go.Ground.phase }, { on := 17, ground := Go.Ground.phase }, { on := 18, ground := Go.Ground.phase }, { on := 19, ground := Go.Ground.phase }, { on := 20, ground := Go.Ground.phase }, { on := 21, ground := Go.Ground.phase }, { on := 22, ground := Go.Ground.phase }, { on := 23, ground := Go.Ground.phase }, { on := 24, ground := Go.Ground.phase }, { on := 25, ground := Go.Ground.phase }, { on := 26, ground := Go.Ground.phase }, { on := 27, ground := Go.Ground.phase }, { on := 28, ground := Go.Ground.phase }, { on := 29, ground := Go.Ground.phase }, { on := 30, ground := Go.Ground.phase }, { on := 31, ground := Go.Ground.phase }, { on := 32, ground := Go.Ground.phase }], guard := Option.none } : Oper)) (v := ?v33x40) rfl (by kernel_rfl) (by kernel_rfl) (by kernel_rfl) (fun _ _ _ h => h) (Or.inl ⟨by rfl, ?hy33x40⟩) (by first | assumption | exact HS38.out _ HBZ.out) ?rest33x40
          case hy33x40 =>
            intro W0 hSw
            obtain ⟨s0, s1, s2⟩ := hSw
            go_simp
            first | done | with_reducible rfl
          try simp only [Act.put, List.setIfInBounds_toArray, List.set_cons_zero, List.set_cons_succ]
          refine wpAnyH_done (by kernel_rfl) ?_ _
          go_wp2_with fail
          go_ret
          exact ⟨rfl, HEQ.out.bel.trans (HBZ.out.mono (Below.size HEQ.out.bel))⟩
/-- the law, whatever the arguments -/
theorem coordinatorEnds_law (node : Int) (ns xs : List Int) (NA : Option Addr) (nn nc : Nat) (OA : Option Addr) (no oc : Nat) (w : World) (hn : ns.length = nn) (hnm : nn ≤ maxLen) (hr : RdI w w.heap.size NA ns) (hxn : xs.length = no) (hxm : no ≤ maxLen) (hxo : ∀ x ∈ xs, i64ok x) (hrx : RdI w w.heap.size OA xs) :
    Calls Tryz.prog 3 #[.int .i64 node, .slice NA nn nc, .slice OA no oc] w (Ans (.bool true) w) := by
  by_cases hb : node < 0 ∨ 16 ≤ node
  · exact ends_bad node hb NA nn nc OA no oc w
  obtain ⟨nd, rfl⟩ : ∃ nd : Nat, node = (nd : Int) := ⟨node.toNat, by omega⟩
  have hnd : nd < 16 := by omega
  by_cases hl : 60 < nn
  · exact ends_long hnd NA nn nc OA no oc w hl hnm
  by_cases hne : ns = []
  · exact ends_arg hnd ns NA nn nc OA no oc w (by omega) hn (.inr hne) hr
  cases hu : upN (-1) ns
  · exact ends_arg hnd ns NA nn nc OA no oc w (by omega) hn (.inl hu) hr
  · exact ends_main hnd ns xs NA nn nc OA no oc w (by omega) hn hu hne hr hxn hxm hxo hrx
end Go.Proofs.YtknolgcbaoppcaaGreat

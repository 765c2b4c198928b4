/- CoordinatorNumbers: the law's own body answers true. -/
import Derived.Test.YtknolgcbaoppcaaCH
namespace Go.Proofs.Ytknolgcbaoppcaa
open Go.RowKit


theorem putT_1 (x s a o y t s' a' o' y' t' : Nat) : putT [⟨x, s, a, o, y, t⟩] ⟨x, s', a', o', y', t'⟩ = [⟨x, s', a', o', y', t'⟩] := by simp [putT, dropT]
theorem dropT_1 (x s a o y t : Nat) : dropT [⟨x, s, a, o, y, t⟩] x = [] := by simp [dropT]
theorem findT_1 (x s a o y t : Nat) : findT [⟨x, s, a, o, y, t⟩] x = some ⟨x, s, a, o, y, t⟩ := by simp [findT]
theorem nums_nil : numsT [] = [] := by simp [numsT]
theorem nums_one (e : Te) : numsT [e] = [(e.n : Int)] := by simp [numsT]
theorem tk_nil (node k : Nat) : tkF node k [] (numsT []) = ([], []) := by rw [nums_nil]; rfl
theorem tk_one (node k x a o y t : Nat) (hd : t + 5 ≤ k) : tkF node k [⟨x, 2, a, o, y, t⟩] (numsT [⟨x, 2, a, o, y, t⟩]) = ([⟨x, 2, a, o, y, k⟩], coreL 1 node x (nodesI a).length (nodesI o)) := by
  rw [nums_one]
  have h1 : (Te.due k ⟨x, 2, a, o, y, t⟩) = true := by simp [Te.due, hd]
  simp [tkF, tk1, findT, h1, putT, dropT, Te.ask, Te.nn]
theorem tk_one_no (node k x a o y t : Nat) (hd : ¬ t + 5 ≤ k) : tkF node k [⟨x, 2, a, o, y, t⟩] (numsT [⟨x, 2, a, o, y, t⟩]) = ([⟨x, 2, a, o, y, t⟩], []) := by
  rw [nums_one]
  have h1 : (Te.due k ⟨x, 2, a, o, y, t⟩) = false := by simp [Te.due, hd]
  simp [tkF, tk1, findT, h1]
theorem up_drop {ns : List Int} (hu : upN (-1) ns = true) (i : Nat) : upN (-1) (ns.drop i) = true :=
  up_of_sorted ((up_sorted hu).sublist (List.drop_sublist i ns)) fun n hn => up_mem hu n (List.mem_of_mem_drop hn)
/-- the one transaction behind i votes, asked at tick t -/
def tkV (nd : Nat) (ns : List Int) (i t : Nat) : List Te := if i < ns.length then [⟨nd, 2, orB 0 ns, orB 0 (ns.drop i), 0, t⟩] else []
theorem tkV_tick {nd : Nat} {ns : List Int} (hu : upN (-1) ns = true) (k i j : Nat) (hj : j + 1 = i) : tkF nd i (tkV nd ns k (j / 5 * 5)) (numsT (tkV nd ns k (j / 5 * 5))) = (tkV nd ns k (i / 5 * 5), if i % 5 = 0 then coreL 1 nd nd ns.length (ns.drop k) else []) := by
  unfold tkV
  by_cases hk : k < ns.length
  · simp only [hk, if_true]
    by_cases h5 : i % 5 = 0
    · have e1 : j / 5 * 5 + 5 ≤ i := by omega
      have e2 : i / 5 * 5 = i := by omega
      rw [tk_one _ _ _ _ _ _ _ e1, nodes_or hu, nodes_or (up_drop hu k), e2, if_pos h5]
    · have e1 : ¬ j / 5 * 5 + 5 ≤ i := by omega
      have e2 : i / 5 * 5 = j / 5 * 5 := by omega
      rw [tk_one_no _ _ _ _ _ _ _ e1, e2, if_neg h5]
  · have hd : ns.drop k = [] := List.drop_eq_nil_of_le (by omega)
    simp only [hk, if_false]
    rw [tk_nil, hd]
    simp [coreL]
theorem tkV_ok {nd : Nat} (hnd : nd < 16) {ns : List Int} (hu : upN (-1) ns = true) (k t i : Nat) (ht : t ≤ i) : TkOk i (tkV nd ns k t) := by
  intro e he
  unfold tkV at he
  by_cases hk : k < ns.length
  · simp only [hk, if_true, List.mem_singleton] at he
    subst he
    exact ⟨.inr (.inl rfl), or_lt (by omega) hu (by decide), or_lt (by omega) (up_drop hu k) (by decide), by show nd < _; omega, ht⟩
  · simp only [hk, if_false] at he
    simp at he
theorem tkV_len (nd : Nat) (ns : List Int) (k t : Nat) : (tkV nd ns k t).length < 1000 := by
  unfold tkV
  split <;> simp
/-- at the head of the votes' loop -/
def TvL (w : World) (c nd : Nat) (ns : List Int) (k : Nat) (v : Value) (wr : World) : Prop := ∃ (i : Nat) (S : CoS), v = .int .i64 (i : Int) ∧ i ≤ k ∧ Co wr w.heap.size S ∧ S.c = c ∧ S.node = nd ∧ S.tks = 0 ∧ S.T = tkV nd ns i 0 ∧ S.os = [] ∧ Below w.heap.size w wr
/-- at the head of the ticks' loop -/
def TtL (w : World) (c nd : Nat) (ns : List Int) (k : Nat) (v : Value) (wr : World) : Prop := ∃ (i j : Nat) (S : CoS), v = .int .i64 (i : Int) ∧ j + 1 = i ∧ i ≤ 16 ∧ Co wr w.heap.size S ∧ S.c = c ∧ S.node = nd ∧ S.tks = j ∧ S.T = tkV nd ns k (j / 5 * 5) ∧ S.os = [] ∧ Below w.heap.size w wr
/-- at the head of the last loop -/
def TzL (w : World) (c nd : Nat) (v : Value) (wr : World) : Prop := ∃ (i : Nat) (S : CoS), v = .int .i64 (i : Int) ∧ i ≤ 10 ∧ Co wr w.heap.size S ∧ S.c = c ∧ S.node = nd ∧ S.tks = 15 + i ∧ S.T = [] ∧ S.os = [] ∧ Below w.heap.size w wr
def TjL (n : Nat) (we : World) (v : Value) (wr : World) : Prop := ∃ j : Nat, v = .int .i64 (j : Int) ∧ j ≤ n ∧ Below we.heap.size we wr
theorem vote_step {ns : List Int} {i f : Nat} (hf : ns[i]? = some (f : Int)) : ns.drop i = (f : Int) :: ns.drop (i + 1) := by
  obtain ⟨h1, h2⟩ := List.getElem?_eq_some_iff.1 hf
  rw [List.drop_eq_getElem_cons h1, h2]
theorem or_none {ns : List Int} (hu : upN (-1) ns = true) (h : orB 0 ns = 0) : ns = [] := by
  have h2 := nodes_or hu
  rw [h] at h2
  rw [← h2]
  decide

/-- the one transaction behind i votes of Yes -/
def tyV (nd : Nat) (ns : List Int) (i : Nat) : List Te := if i < ns.length then [⟨nd, 2, orB 0 ns, orB 0 (ns.drop i), orB 0 (ns.take i), 0⟩] else [⟨nd, 3, 0, orB 0 ns, 0, 0⟩]
/-- the committed transaction of which some are still to be told -/
def tdV (nd : Nat) (ls : List Int) (t : Nat) : List Te := if ls = [] then [] else [⟨nd, 3, 0, orB 0 ls, 0, t⟩]
theorem tdV_ne {nd t : Nat} {ls : List Int} (h : ls ≠ []) : tdV nd ls t = [⟨nd, 3, 0, orB 0 ls, 0, t⟩] := by unfold tdV; rw [if_neg h]
theorem td_yes (node k x o t : Nat) (hd : t + 5 ≤ k) : tkF node k [⟨x, 3, 0, o, 0, t⟩] (numsT [⟨x, 3, 0, o, 0, t⟩]) = ([⟨x, 3, 0, o, 0, k⟩], coreL 5 node x 0 (nodesI o)) := by
  rw [nums_one]
  have h1 : (Te.due k ⟨x, 3, 0, o, 0, t⟩) = true := by simp [Te.due, hd]
  simp [tkF, tk1, findT, h1, putT, dropT, Te.ask, Te.nn]
theorem td_no (node k x o t : Nat) (hd : ¬ t + 5 ≤ k) : tkF node k [⟨x, 3, 0, o, 0, t⟩] (numsT [⟨x, 3, 0, o, 0, t⟩]) = ([⟨x, 3, 0, o, 0, t⟩], []) := by
  rw [nums_one]
  have h1 : (Te.due k ⟨x, 3, 0, o, 0, t⟩) = false := by simp [Te.due, hd]
  simp [tkF, tk1, findT, h1]
theorem up_era {ls : List Int} (hu : upN (-1) ls = true) (k : Nat) : upN (-1) (ls.eraseIdx k) = true :=
  up_of_sorted ((up_sorted hu).sublist (List.eraseIdx_sublist ls k)) fun n hn => up_mem hu n (List.mem_of_mem_eraseIdx hn)
theorem woB_era {ls : List Int} {k f : Nat} (hu : upN (-1) ls = true) (hk : ls[k]? = some (f : Int)) : woB (orB 0 ls) f = orB 0 (ls.eraseIdx k) := by
  obtain ⟨hkl, hkf⟩ := List.getElem?_eq_some_iff.1 hk
  have hs := up_sorted hu
  apply Nat.eq_of_testBit_eq
  intro i
  rw [woB_test, orB_test, orB_test, Bool.eq_iff_iff]
  simp only [Nat.zero_testBit, Bool.false_or, Bool.and_eq_true, List.any_eq_true, decide_eq_true_eq]
  constructor
  · rintro ⟨⟨n, hn, hi⟩, hf⟩
    refine ⟨n, ?_, hi⟩
    obtain ⟨j, hj, hjn⟩ := List.getElem_of_mem hn
    rw [List.mem_eraseIdx_iff_getElem]
    refine ⟨j, hj, fun e => ?_, hjn⟩
    subst e
    rw [hkf] at hjn
    omega
  · rintro ⟨n, hn, hi⟩
    rw [List.mem_eraseIdx_iff_getElem] at hn
    obtain ⟨j, hj, hne, hjn⟩ := hn
    have hm := up_mem hu n (by rw [← hjn]; exact List.getElem_mem hj)
    refine ⟨⟨n, by rw [← hjn]; exact List.getElem_mem hj, hi⟩, fun e => ?_⟩
    rw [List.pairwise_iff_getElem] at hs
    rcases Nat.lt_or_gt_of_ne hne with h1 | h1
    · have := hs j k hj hkl h1
      omega
    · have := hs k j hkl hj h1
      omega
theorem or_take {ns : List Int} {i f : Nat} (hf : ns[i]? = some (f : Int)) : orB 0 (ns.take i) ||| 2 ^ f = orB 0 (ns.take (i + 1)) := by
  rw [List.take_add_one, hf, Option.toList_some, orB_snoc]
  rfl
theorem Co.hi {w : World} {B : Nat} {S : CoS} (h : Co w B S) : ∀ j, CoK S j → j < w.heap.size := fun j hj => by
  have l1 := h.log.lt
  have l2 := h.log.disk.lt
  have l3 := h.log.disk.glt
  have l4 := h.log.dlt
  have l5 := h.map.lt
  have l6 := h.lt
  rcases hj with hj | hj | hj | hj | hj | hj | hj
  all_goals first | omega | (obtain ⟨cs, hh⟩ := h.out.blk j hj; exact lt_of_heap hh)
theorem OwnI.lt {w : World} {B : Nat} {v : Value} {l : List Int} (h : OwnI w B v l) : ∀ k, v.ownBlock = some k → k < w.heap.size := by
  intro k hk
  rcases h.1.2 with ⟨rfl, _⟩ | ⟨g, cap, cur, rfl, hB, hh, _⟩
  · simp [Value.ownBlock] at hk
  · simp [Value.ownBlock] at hk; subst hk; exact lt_of_heap hh
theorem OwnI.kept {w w' : World} {B : Nat} {v : Value} {l : List Int} (h : OwnI w B v l) (hb : ∀ k, v.ownBlock = some k → w'.heap[k]? = w.heap[k]?) : OwnI w' B v l := by
  refine ⟨⟨h.1.1, ?_⟩, h.2⟩
  rcases h.1.2 with h1 | ⟨g, cap, cur, rfl, h2, h3, h4⟩
  · exact .inl h1
  · exact .inr ⟨g, cap, cur, rfl, h2, (hb g rfl).trans h3, h4⟩
/-- a coordinator, and a row of numbers beside it -/
structure EnW (w0 wr : World) (S : CoS) (lv : Value) (ls : List Int) : Prop where
  co : Co wr w0.heap.size S
  own : OwnI wr w0.heap.size lv ls
  sep : ∀ g, lv.ownBlock = some g → ¬ CoK S g
  bel : Below w0.heap.size w0 wr
theorem EnW.step {w0 wr w' : World} {S S' : CoS} {lv : Value} {ls : List Int} (h : EnW w0 wr S lv ls) (hc : Co w' w0.heap.size S') (hO : Only (CoK S) wr w') (hK : ∀ j, CoK S' j → CoK S j ∨ wr.heap.size ≤ j) : EnW w0 w' S' lv ls :=
  ⟨hc, h.own.kept fun k hk => hO.block k (h.own.lt k hk) (h.sep k hk), fun g hg hk => by
    rcases hK g hk with h1 | h1
    · exact h.sep g hg h1
    · have := h.own.lt g hg; omega, h.bel.trans (hO.below h.co.size h.co.low)⟩
theorem FrA.ck {S S' : CoS} {w w' : World} {v : Value} {g' d' : Nat} (h : FrA S w w' v g' d') (he : S'.c = S.c ∧ S'.m = S.m ∧ S'.q = S.q ∧ S'.p = S.p ∧ S'.g = g' ∧ S'.d = d' ∧ S'.ov = v) : ∀ j, CoK S' j → CoK S j ∨ w.heap.size ≤ j := fun j hj => by
  obtain ⟨_, h1, h2, h3⟩ := h
  obtain ⟨e1, e2, e3, e4, e5, e6, e7⟩ := he
  unfold CoK at hj ⊢
  rw [e1, e2, e3, e4, e5, e6, e7] at hj
  rcases hj with hj | hj | hj | hj | hj | hj | hj
  · exact .inl (.inl hj)
  · exact .inl (.inr (.inl hj))
  · exact .inl (.inr (.inr (.inl hj)))
  · exact .inl (.inr (.inr (.inr (.inl hj))))
  · rcases h2 with h2 | h2
    · exact .inl (.inr (.inr (.inr (.inr (.inl (hj.trans h2))))))
    · exact .inr (by omega)
  · rcases h3 with h3 | h3
    · exact .inl (.inr (.inr (.inr (.inr (.inr (.inl (hj.trans h3)))))))
    · exact .inr (by omega)
  · rcases h1 j hj with h1 | h1
    · exact .inl (.inr (.inr (.inr (.inr (.inr (.inr h1))))))
    · exact .inr h1
theorem EnW.below {w0 wr w' : World} {S : CoS} {lv : Value} {ls : List Int} (h : EnW w0 wr S lv ls) (hb : Below wr.heap.size wr w') : EnW w0 w' S lv ls := ⟨h.co.below hb, h.own.below hb, h.sep, h.bel.trans (hb.mono (Below.size h.bel))⟩
/-- Out, beside a row -/
theorem EnW.out {w0 wr : World} {S : CoS} {lv : Value} {ls : List Int} (h : EnW w0 wr S lv ls) : Calls Try.prog 12 #[.pointer (some ⟨S.c, 0, none⟩)] wr (fun e w' => e = .returned S.ov ∧ EnW w0 w' { S with ov := .slice none 0 0, os := [] } lv ls ∧ OwnO w' w0.heap.size S.ov S.os) :=
  (out_any h.co).mono fun _ _ ⟨h1, h2, h3, h4⟩ => ⟨h1, h.step h2 (h4.more fun j _ hj => .inl hj) (fun j hj => by
    unfold CoK at hj ⊢
    simp only [Value.ownBlock] at hj
    rcases hj with hj | hj | hj | hj | hj | hj | hj
    all_goals first | (left; omega) | simp at hj), h3⟩
/-- Done of one that is still to be told, beside a row -/
theorem EnW.done {w0 wr : World} {S : CoS} {lv : Value} {ls : List Int} (h : EnW w0 wr S lv ls) {k f t : Nat} (hf : ls[k]? = some (f : Int)) (hu : upN (-1) ls = true) (hT : S.T = tdV S.node ls t) (hroom : S.b + (bytesOf S.rs).length + 905 ≤ 100000) :
    Calls Try.prog 14 #[.pointer (some ⟨S.c, 0, none⟩), .agg #[.int .i64 7, .int .i64 (f : Int), .int .i64 (S.node : Int), .int .i64 (S.node : Int), .slice none 0 0]] wr (fun e w' => e = .returned (.int .i64 0) ∧ ∃ S', EnW w0 w' S' lv ls ∧ S'.c = S.c ∧ S'.node = S.node ∧ S'.tks = S.tks ∧ S'.T = tdV S.node (ls.eraseIdx k) t ∧ S'.os = S.os ∧ (ls.eraseIdx k ≠ [] → S'.b = S.b ∧ S'.rs = S.rs)) := by
  have hne : ls ≠ [] := by intro e; subst e; simp at hf
  have hm := up_mem hu f (List.mem_of_getElem? hf)
  have hnd := h.co.nod
  have hT1 := hT
  rw [tdV_ne hne] at hT1
  have he : findT S.T S.node = some ⟨S.node, 3, 0, orB 0 ls, 0, t⟩ := by rw [hT1]; exact findT_1 _ _ _ _ _ _
  have hlt : orB 0 ls < 65536 := or_lt (by omega) hu (by decide)
  have hwo := woB_era hu hf
  by_cases hz : ls.eraseIdx k = []
  · have hw0 : woB (orB 0 ls) f = 0 := by rw [hwo, hz]; rfl
    refine (hear_dol h.co (f := f) (x := S.node) (by omega) (by omega) (by omega) he rfl hlt hw0 hroom).mono ?_
    rintro e w' ⟨h1, g', d', h2, h3⟩
    refine ⟨h1, _, h.step h2 h3.1 (h3.ck ⟨rfl, rfl, rfl, rfl, rfl, rfl, rfl⟩), rfl, rfl, rfl, ?_, rfl, fun hh => absurd hz hh⟩
    show dropT S.T S.node = _
    rw [hT1, dropT_1, hz]
    rfl
  · have hw0 : woB (orB 0 ls) f ≠ 0 := by rw [hwo]; exact fun h0 => hz (or_none (up_era hu k) h0)
    refine (hear_dom h.co (f := f) (x := S.node) (by omega) (by omega) (by omega) he rfl hlt hw0 (by rw [hT1]; show 1 < 1000; omega)).mono ?_
    rintro e w' ⟨h1, v, os1, h2, h3, h4⟩
    have hos : os1 = [] := by cases os1 with | nil => rfl | cons => simp at h3
    subst hos
    refine ⟨h1, _, h.step h2 h4.all.1 (h4.all.ck ⟨rfl, rfl, rfl, rfl, rfl, rfl, rfl⟩), rfl, rfl, rfl, ?_, List.append_nil _, fun _ => ⟨rfl, rfl⟩⟩
    show putT S.T ⟨S.node, 3, 0, woB (orB 0 ls) f, 0, t⟩ = _
    rw [hT1, putT_1, hwo, tdV_ne hz]
/-- at the head of the votes' loop -/
def TyL (w : World) (c nd : Nat) (ns : List Int) (v : Value) (wr : World) : Prop := ∃ (i : Nat) (S : CoS), v = .int .i64 (i : Int) ∧ i ≤ ns.length ∧ Co wr w.heap.size S ∧ S.c = c ∧ S.node = nd ∧ S.tks = 0 ∧ S.T = tyV nd ns i ∧ S.os.length ≤ 16 + (if i < ns.length then 0 else 16) ∧ S.b + (bytesOf S.rs).length ≤ (if i < ns.length then 10000 else 20000) ∧ Below w.heap.size w wr
/-- at the head of the rounds' loop -/
def TrL (w : World) (c nd nn : Nat) (v12 v13 : Value) (wr : World) : Prop := ∃ (r : Nat) (S : CoS) (ls : List Int), v13 = .int .i64 (r : Int) ∧ EnW w wr S v12 ls ∧ S.c = c ∧ S.node = nd ∧ S.tks = 5 * r ∧ S.T = tdV nd ls (5 * r) ∧ S.os.length ≤ 32 ∧ upN (-1) ls = true ∧ r + ls.length = nn ∧ (ls ≠ [] → S.b + (bytesOf S.rs).length ≤ 20000)
/-- at the head of the ticks' loop -/
def TtE (w : World) (c nd r b : Nat) (rs : List (List UInt8)) (lv : Value) (ls : List Int) (v14 : Value) (wr : World) : Prop := ∃ (j : Nat) (S : CoS), v14 = .int .i64 (j : Int) ∧ j ≤ 5 ∧ EnW w wr S lv ls ∧ S.c = c ∧ S.node = nd ∧ S.tks = 5 * r + j ∧ S.T = [⟨nd, 3, 0, orB 0 ls, 0, if j = 5 then 5 * (r + 1) else 5 * r⟩] ∧ S.os.map Le.core = (if j = 5 then coreL 5 nd nd 0 ls else []) ∧ S.b = b ∧ S.rs = rs
theorem tdE_tick {nd r j : Nat} {ls : List Int} (hu : upN (-1) ls = true) (hj : j < 5) : tkF nd (5 * r + j + 1) [⟨nd, 3, 0, orB 0 ls, 0, if j = 5 then 5 * (r + 1) else 5 * r⟩] (numsT [⟨nd, 3, 0, orB 0 ls, 0, if j = 5 then 5 * (r + 1) else 5 * r⟩]) = ([⟨nd, 3, 0, orB 0 ls, 0, if j + 1 = 5 then 5 * (r + 1) else 5 * r⟩], if j + 1 = 5 then coreL 5 nd nd 0 ls else []) := by
  rw [if_neg (by omega)]
  by_cases h4 : j + 1 = 5
  · rw [td_yes _ _ _ _ _ (by omega), if_pos h4, if_pos h4, nodes_or hu]
    rw [show 5 * r + j + 1 = 5 * (r + 1) by omega]
  · rw [td_no _ _ _ _ _ (by omega), if_neg h4, if_neg h4]
theorem tdE_ok {nd r t : Nat} {ls : List Int} (hnd : nd < 16) (hu : upN (-1) ls = true) (ht : t ≤ r) : TkOk r [⟨nd, 3, 0, orB 0 ls, 0, t⟩] := by
  intro e he
  rw [List.mem_singleton] at he
  subst he
  exact ⟨.inr (.inr rfl), by show 0 < 65536; omega, or_lt (by omega) hu (by decide), by show nd < _; omega, ht⟩
theorem OwnI.empty_at2 (w : World) {g : Nat} (hg : g = w.heap.size) : OwnI (w.alloc (.cells #[] 3)) g (.slice (some ⟨g, 0, none⟩) 0 0) [] := by
  subst hg; exact OwnI.of_row (n := 0) ⟨by simp [intsZ], .inr ⟨_, 0, _, rfl, Nat.le_refl _, heap_alloc_new w _, Nat.le_refl _, by unfold maxLen; omega, rfl, rfl⟩⟩
theorem RdI.take_ {w : World} {B : Nat} {A : Option Addr} {l : List Int} (h : RdI w B A l) (k : Nat) : RdI w B A (l.take k) := fun hn => by
  obtain ⟨b, o, e, hb, hc⟩ := h (fun e => hn (by rw [e]; simp))
  refine ⟨b, o, e, hb, fun j x hj => hc j x ?_⟩
  rw [List.getElem?_take] at hj
  split at hj
  · exact hj
  · cases hj
theorem RdI.drop_ {w : World} {B g o : Nat} {l : List Int} (h : RdI w B (some ⟨g, o, none⟩) l) (k : Nat) : RdI w B (some ⟨g, o + k, none⟩) (l.drop k) := fun hn => by
  obtain ⟨b, o', e, hb, hc⟩ := h (fun e => hn (by rw [e]; simp))
  injection e with e
  injection e with e1 e2
  subst e1 e2
  refine ⟨g, o + k, rfl, hb, fun j x hj => ?_⟩
  rw [List.getElem?_drop] at hj
  rw [Nat.add_assoc]
  exact hc _ x hj
/-- behind the choice of whom to hear -/
def CkL (w : World) (S : CoS) (lv : Value) (ls : List Int) (ll : Nat) (v17 : Value) (wx : World) : Prop := ∃ kk : Nat, v17 = .int .i64 (kk : Int) ∧ kk < ll ∧ EnW w wx S lv ls
theorem CkL.world {w wx : World} {S : CoS} {lv v17 : Value} {ls : List Int} {ll : Nat} (h : CkL w S lv ls ll v17 wx) : ∃ W, W = wx ∧ CkL w S lv ls ll v17 W := ⟨_, rfl, h⟩
theorem Co.lower {w : World} {B C : Nat} {S : CoS} (h : Co w B S) (hC : C ≤ B) : Co w C S := by
  obtain ⟨h1, h2, h3, h4, h5, h6, h7, h8, h9⟩ := h
  refine ⟨h1, ⟨h2.box, { h2.disk with ge := ⟨Nat.le_trans hC h2.disk.ge.1, Nat.le_trans hC h2.disk.ge.2⟩ }, ⟨Nat.le_trans hC h2.ge.1, Nat.le_trans hC h2.ge.2⟩, h2.ne, h2.gone, h2.recs, h2.few⟩, h3, ⟨⟨h4.1.1, ?_⟩, h4.2⟩, ⟨Nat.le_trans hC h5.1, Nat.le_trans hC h5.2⟩, h6, h7, h8, h9⟩
  rcases h4.1.2 with h | ⟨g, cap, cur, e, hB, hr⟩
  · exact .inl h
  · exact .inr ⟨g, cap, cur, e, Nat.le_trans hC hB, hr⟩
theorem EnW.app {w0 wr w' : World} {S : CoS} {lv v' : Value} {ls ls' : List Int} (h : EnW w0 wr S lv ls) (hg : Grew wr lv w' v') (ho : OwnI w' w0.heap.size v' ls') : EnW w0 w' S v' ls' := by
  have hO : Only (fun j => lv.ownBlock = some j) wr w' := (Only.of_grown hg.by_).more fun j _ hj => hj.symm
  refine ⟨h.co.only hO (fun j hj hk => h.sep j hk hj), ho, fun g hg2 hk => ?_, h.bel.trans (hO.below h.co.size fun j hj => h.own.ge j hj)⟩
  rcases hg.at_ with h1 | h1
  · rw [h1] at hg2
    exact h.sep g hg2 hk
  · have := h1 g hg2
    have := h.co.hi g hk
    omega
/-- what is known of a coordinator whose transactions only begin -/
structure NuS (S : CoS) (ks : List Rk) (all : List Int) (i : Nat) : Prop where
  b : S.b = 0
  rs : S.rs = ks.map Rk.b
  ok : ∀ r ∈ ks, r.ok
  few : ks.length ≤ i + 1
  red : redoA ks = (S.inc + 1, [])
  s : S.s = S.b + (bytesOf S.rs).length
  cnt : S.cnt ≤ i
  inc : S.inc ≤ i
  len : S.T.length ≤ i
  txs : ∀ e ∈ S.T, ∃ k, k < S.cnt ∧ e.n = 16 * (65536 * S.inc + k) + S.node
  nums : ∀ n ∈ all, ∃ j k : Nat, n = ((16 * (65536 * j + k) + S.node : Nat) : Int) ∧ k < 65536 ∧ (j < S.inc ∨ j = S.inc ∧ k < S.cnt)
  alen : all.length ≤ i
theorem NuS.fresh {S : CoS} {ks : List Rk} {all : List Int} {i : Nat} (h : NuS S ks all i) : findT S.T (txN S) = none := by
  unfold findT
  rw [List.find?_eq_none]
  intro e he
  obtain ⟨k, hk, hn⟩ := h.txs e he
  simp only [decide_eq_true_eq]
  unfold txN
  omega
theorem NuS.new {S : CoS} {ks : List Rk} {all : List Int} {i : Nat} (h : NuS S ks all i) (hi : i ≤ 60) : ∀ n ∈ all, n ≠ ((txN S : Nat) : Int) := by
  intro n hn e
  obtain ⟨j, k, h1, h2, h3⟩ := h.nums n hn
  have hc := h.cnt
  unfold txN at e
  omega
theorem NuS.next {S : CoS} {ks : List Rk} {all : List Int} {i : Nat} (h : NuS S ks all i) (hi : i < 60) (t : Te) (ht : t.n = txN S) : NuS { S with cnt := S.cnt + 1, T := putT S.T t } ks (all ++ [((txN S : Nat) : Int)]) (i + 1) := by
  have hc := h.cnt
  refine ⟨h.b, h.rs, h.ok, Nat.le_succ_of_le h.few, h.red, h.s, by show S.cnt + 1 ≤ i + 1; omega, Nat.le_succ_of_le h.inc, ?_, fun e he => ?_, fun n hn => ?_, ?_⟩
  · show (putT S.T t).length ≤ i + 1
    unfold putT
    rw [List.length_append]
    have := dropT_len_le S.T t.n
    have := h.len
    simp only [List.length_cons, List.length_nil]
    omega
  · have he : e ∈ putT S.T t := he
    unfold putT at he
    rcases List.mem_append.1 he with h1 | h1
    · obtain ⟨k, hk, hn⟩ := h.txs e (dropT_mem h1)
      exact ⟨k, Nat.lt_succ_of_lt hk, hn⟩
    · rw [List.mem_singleton] at h1
      subst h1
      exact ⟨S.cnt, Nat.lt_succ_self _, ht⟩
  · rcases List.mem_append.1 hn with h1 | h1
    · obtain ⟨j, k, e1, e2, e3⟩ := h.nums n h1
      exact ⟨j, k, e1, e2, e3.imp id fun ⟨a, b⟩ => ⟨a, Nat.lt_succ_of_lt b⟩⟩
    · rw [List.mem_singleton] at h1
      exact ⟨S.inc, S.cnt, h1, by omega, .inr ⟨rfl, Nat.lt_succ_self _⟩⟩
  · rw [List.length_append]
    have := h.alen
    simp only [List.length_cons, List.length_nil]
    omega
theorem NuS.opened {S S' : CoS} {ks : List Rk} {all : List Int} {i : Nat} (h : NuS S ks all i) (hi : i ≤ 60) (h1 : S'.node = S.node) (h2 : S'.inc = (redoA ks).1) (h3 : S'.cnt = 0) (h4 : S'.T = (redoA ks).2) (h5 : S'.b = 0) (h6 : S'.rs = (ks ++ [Rk.op (redoA ks).1]).map Rk.b) (h7 : S'.s = S'.b + (bytesOf S'.rs).length) (hj : ks.length ≤ i) (hii : S.inc + 1 ≤ i) : NuS S' (ks ++ [Rk.op (redoA ks).1]) all i := by
  rw [h.red] at h2 h4
  refine ⟨h5, h6, fun r hr => ?_, by rw [List.length_append]; simp only [List.length_cons, List.length_nil]; omega, ?_, h7, by omega, by rw [h2]; exact hii, by rw [h4]; exact Nat.zero_le _, fun e he => ?_, fun n hn => ?_, h.alen⟩
  · rcases List.mem_append.1 hr with h8 | h8
    · exact h.ok r h8
    · rw [List.mem_singleton] at h8
      subst h8
      show (redoA ks).1 ≤ _
      rw [h.red]
      show S.inc + 1 ≤ _
      omega
  · rw [redoA_app, h.red, h2]
    rfl
  · rw [h4] at he
    simp at he
  · obtain ⟨j, k, e1, e2, e3⟩ := h.nums n hn
    exact ⟨j, k, by rw [h1]; exact e1, e2, .inl (by rw [h2]; show j < S.inc + 1; omega)⟩
/-- a row of bools as it lies -/
def RdBl (w : World) (B : Nat) (A : Option Addr) (l : List Bool) : Prop := l ≠ [] → ∃ b o, A = some ⟨b, o, none⟩ ∧ b < B ∧ ∀ j x, l[j]? = some x → w.cell? ⟨b, o + j, none⟩ = some (.bool x)
theorem stN_put (T : List Te) (x : Nat) : stN (putT T ⟨x, 1, 0, 0, 0, 0⟩) x = 1 := by
  unfold stN
  rw [findT_put T ⟨x, 1, 0, 0, 0, 0⟩]
  rfl
/-- at the head of Has' loop -/
def HsL (l : List Int) (w : World) (v : Value) (wr : World) : Prop := ∃ i : Nat, v = .int .i64 (i : Int) ∧ i ≤ l.length ∧ wr = w
set_option maxRecDepth 100000 in
set_option maxHeartbeats 4000000 in
theorem has_no (l : List Int) (x : Int) (hx : ∀ n ∈ l, n ≠ x) (A : Option Addr) (n cap : Nat) (hn : l.length = n) (hn2 : n ≤ 1000) (hnc : n ≤ cap) (w : World) (hr : RdI w w.heap.size A l) :
    Calls Try.prog 16 #[.slice A n cap, .int .i64 x] w (LooksL (.bool false) w) := by
  have HX := Lib.hid hx
  have HN := Lib.hid hn
  have HR := Lib.hid hr
  have hni : (n : Int) ≤ 1000 := by omega
  have hnci : (n : Int) ≤ (cap : Int) := by omega
  clear hx hn hn2 hnc hr
  go_enter Try.func16, Try.ntmps16
  go_wp2_with fail
  go_loopw [5] (fun v6 wr => HsL l w v6 wr) (fun v6 _ => n - (intOf v6).toNat)
  case atStart => exact ⟨0, rfl, Nat.zero_le _, rfl⟩
  case round =>
    obtain ⟨i, rfl, hi, rfl⟩ := hrel
    rw [HN.out] at hi
    by_cases hlt : i < n
    · have hlti : (i : Int) < (n : Int) := by omega
      obtain ⟨y, hy⟩ : ∃ y, l[i]? = some y := ⟨_, List.getElem?_eq_getElem (by rw [HN.out]; exact hlt)⟩
      obtain ⟨b, o, hA, _, y0⟩ := HR.out.at_ hy
      subst hA
      have hyx : (y == x) = false := by have := HX.out y (List.mem_of_getElem? hy); simpa using this
      have HZ : Hid (∀ v6, v6 = .int .i64 ((i + 1 : Nat) : Int) → HsL l wr v6 wr) := Lib.hid fun v6 h6 => ⟨i + 1, h6, by rw [HN.out]; exact hlt, rfl⟩
      clear hy hlt hi
      go_wp2_with fail
      go_roundw
      case rel => first | exact HZ.out _ (by go_num) | ((repeat apply Exists.intro); exact ⟨HZ.out _ (by go_num), rfl⟩)
      case measure => simp [intOf]; omega
    · have hlti : ¬ (i : Int) < (n : Int) := by omega
      clear hlt hi
      go_wp2_with fail
      go_ret
      exact ⟨rfl, rfl⟩
/-- at the head of the law's loop -/
def NuL (w : World) (nd : Nat) (v7 v8 v9 v10 v11 : Value) (wr : World) : Prop := ∃ (i : Nat) (S : CoS) (ks : List Rk) (all : List Int), v11 = .int .i64 (i : Int) ∧ i ≤ 60 ∧ v7 = .pointer (some ⟨S.p, 0, none⟩) ∧ v8 = .pointer (some ⟨S.c, 0, none⟩) ∧ v9 = .int .i64 0 ∧ EnW w wr S v10 all ∧ S.node = nd ∧ NuS S ks all i
set_option maxRecDepth 100000 in
set_option maxHeartbeats 16000000 in
theorem numbers_bad (node : Int) (hbad : node < 0 ∨ 16 ≤ node) (PA : Option Addr) (pn pc : Nat) (keep : Int) (w : World) :
    Calls Try.prog 4 #[.int .i64 node, .slice PA pn pc, .int .i64 keep] w (Ans (.bool true) w) := by
  have hnil : ∀ (w : World) (a : Option Addr), (binOp .eql 28 (.pointer a) (.pointer none)).run Try.prog w = .ok (.bool a.isNone) w := fun w a => by cases a <;> rfl
  have HBAD := Lib.hid hbad
  clear hbad
  go_enter Try.func4, Try.ntmps4
  go_wp2_with (first
    | (go_at_call 6; refine (new_any _).mono ?_; rintro e w1 ⟨p, rfl, hd, hb⟩
       have HD := Lib.hid hd
       have HB1 := Lib.hid hb
       clear hd hb)
    | (go_at_call 7; refine (Open_bad p node HBAD.out _).mono ?_; unfold OpN; rintro e w2 ⟨rfl, rfl⟩)
    | (go_at_call 8; refine (alive13_any _).mono ?_; rintro e wz ⟨rfl, hb⟩
       have HE := Lib.hid (HB1.out.trans (hb.mono (Below.size HB1.out)))
       clear hb))
  go_ret
  exact ⟨rfl, HE.out⟩
set_option maxRecDepth 100000 in
set_option maxHeartbeats 64000000 in
theorem numbers_main {nd : Nat} (hnd : nd < 16) (bs : List Bool) (PA : Option Addr) (pn pc : Nat) (keep : Int) (hk : i64ok keep) (w : World) (hn : bs.length = pn) (hnm : pn ≤ maxLen) (hr : RdBl w w.heap.size PA bs) :
    Calls Try.prog 4 #[.int .i64 (nd : Int), .slice PA pn pc, .int .i64 keep] w (Ans (.bool true) w) := by
  have hnil : ∀ (w : World) (a : Option Addr), (binOp .eql 28 (.pointer a) (.pointer none)).run Try.prog w = .ok (.bool a.isNone) w := fun w a => by cases a <;> rfl
  have HND := Lib.hid hnd
  have HN := Lib.hid hn
  have HKP := Lib.hid hk
  have hpi : (pn : Int) ≤ 9223372036854775807 := by unfold maxLen at hnm; omega
  have hnn : ((nd : Int) != (nd : Int)) = false := by simp
  have HRB : Hid (∀ W, Below w.heap.size w W → ∀ j x, bs[j]? = some x → ∃ b o, PA = some ⟨b, o, none⟩ ∧ W.cell? ⟨b, o + j, none⟩ = some (.bool x)) := Lib.hid fun W hb j x hj => by
    obtain ⟨b, o, e, hbl, hc⟩ := hr (fun e => by rw [e] at hj; simp at hj)
    exact ⟨b, o, e, (World.cell?_of_block (a := ⟨b, o + j, none⟩) (hb.block b hbl)).trans (hc j x hj)⟩
  clear hnd hn hk hnm hr
  go_enter Try.func4, Try.ntmps4
  go_wp2_with (first
    | (go_at_call 6; refine (new_any _).mono ?_; rintro e w1 ⟨p, rfl, hd, hb⟩
       have HD := Lib.hid hd
       have HB1 := Lib.hid hb
       clear hd hb)
    | (go_at_call 7; refine (Open13_any (ks := []) (b := 0) (E := 0) HD.out rfl (Below.size HB1.out) (by simp) (by simp) (by omega) HND.out).mono ?_; rintro e w2 ⟨S, rfl, hc, hn, hi, hcn, ht, hT, hv, hos, hp, hb, hrs, hs, hO⟩
       have HEN : Hid (EnW w w2 S (.slice none 0 0) []) := Lib.hid ⟨hc, OwnI.nil _ _, fun g hg => by simp [Value.ownBlock] at hg, HD.out.belPG hO HB1.out⟩
       have HNU : Hid (NuS S [Rk.op 0] [] 0) := Lib.hid ⟨hb, hrs, (by intro r hr; rw [List.mem_singleton] at hr; subst hr; exact Nat.zero_le _), Nat.le_refl _, (by rw [hi]; rfl), hs, (by omega), (by rw [hi]; exact Nat.le_refl _), (by rw [hT]; exact Nat.le_refl _), (by rw [hT]; intro e he; simp [redoA] at he), (by simp), Nat.le_refl _⟩
       have HNP := Lib.hid (And.intro hn hp)
       clear hc hn hi hcn ht hT hv hos hp hb hrs hs hO))
  go_loopw [7, 8, 9, 10, 11] (fun v7 v8 v9 v10 v11 wr => NuL w nd v7 v8 v9 v10 v11 wr) (fun _ _ _ _ v11 _ => pn - (intOf v11).toNat)
  case atStart => exact ⟨0, S, [Rk.op 0], [], rfl, Nat.zero_le _, by rw [HNP.out.2], rfl, rfl, HEN.out, HNP.out.1, HNU.out⟩
  case round =>
    obtain ⟨i, S9, ks, all, rfl, hi, rfl, rfl, rfl, hen, hSn, hnu⟩ := hrel
    obtain ⟨c9, node9, inc9, cnt9, tks9, q9, p9, g9, d9, b9, s9, pre9, rs9, m9, T9, ov9, os9⟩ := S9
    simp only at hSn
    have h2 := hSn.symm
    clear hSn
    subst h2
    obtain ⟨A10, c10, rfl, hc10⟩ := id hen.own.2
    obtain ⟨al, hal⟩ : ∃ al, all.length = al := ⟨_, rfl⟩
    rw [hal] at hen hc10 ⊢
    have HEN9 := Lib.hid hen
    have HNU9 := Lib.hid hnu
    have HAL := Lib.hid (And.intro hal hc10)
    simp only
    by_cases hx : i < pn ∧ i < 60
    · obtain ⟨h1, h2⟩ := hx
      have h1i : (i : Int) < (pn : Int) := by omega
      have h2i : (i : Int) < 60 := by omega
      obtain ⟨x, hx⟩ : ∃ x, bs[i]? = some x := ⟨_, List.getElem?_eq_getElem (by rw [HN.out]; exact h1)⟩
      have HX := Lib.hid hx
      have HI := Lib.hid (And.intro h1 h2)
      have hcn := hnu.cnt
      have hin := hnu.inc
      have htl := hnu.len
      have hfw := hnu.few
      have hafw := hnu.alen
      simp only at hcn hin htl
      obtain ⟨X, hX⟩ : ∃ X : Nat, X = txN ⟨c9, nd, inc9, cnt9, tks9, q9, p9, g9, d9, b9, s9, pre9, rs9, m9, T9, ov9, os9⟩ := ⟨_, rfl⟩
      have HXX := Lib.hid hX
      have hXe : X = 16 * (65536 * inc9 + cnt9) + nd := hX
      have hX16 : (X : Int) % 16 = (nd : Int) := by have := HND.out; omega
      have hX17 : (X : Int).tmod 16 = (nd : Int) := by rw [Int.tmod_eq_emod_of_nonneg (by omega)]; exact hX16
      have hXi : i64ok (X : Int) := by unfold i64ok; have := HND.out; omega
      have HBG : Hid (Calls Try.prog 9 #[.pointer (some ⟨c9, 0, none⟩)] wr (fun e w' => e = .returned (.tuple #[.int .i64 (X : Int), .int .i64 0]) ∧ EnW w w' ⟨c9, nd, inc9, cnt9 + 1, tks9, q9, p9, g9, d9, b9, s9, pre9, rs9, m9, putT T9 ⟨X, 1, 0, 0, 0, 0⟩, ov9, os9⟩ (.slice A10 al c10) all)) := Lib.hid (by
        refine (cbegin_any HEN9.out.co (by show cnt9 < 65536; omega) (by show inc9 ≤ 65536; omega) (by show T9.length < 1000; omega) (HNU9.out.fresh)).mono ?_
        rintro e w' ⟨h3, h4, h5⟩
        rw [← hX] at h3 h4
        refine ⟨h3, HEN9.out.step h4 (h5.more fun j _ hj => ?_) (fun j hj => .inl hj)⟩
        rcases hj with hj | hj
        · exact .inl hj
        · exact .inr (.inl hj))
      have HHS : Hid (∀ W, RdI W W.heap.size A10 all → Calls Try.prog 16 #[.slice A10 al c10, .int .i64 (X : Int)] W (LooksL (.bool false) W)) := Lib.hid fun W h3 => has_no all (X : Int) (by have h4 := HNU9.out.new hi; rw [← hX] at h4; exact h4) A10 al c10 hal (by omega) hc10 W h3
      have HNUN : Hid (NuS ⟨c9, nd, inc9, cnt9 + 1, tks9, q9, p9, g9, d9, b9, s9, pre9, rs9, m9, putT T9 ⟨X, 1, 0, 0, 0, 0⟩, ov9, os9⟩ ks (all ++ [(X : Int)]) (i + 1)) := Lib.hid (by
        have h4 := HNU9.out.next h2 ⟨X, 1, 0, 0, 0, 0⟩ hX
        rw [← hX] at h4
        exact h4)
      have hb9 := hnu.b
      have hrs9 := hnu.rs
      have hs9 := hnu.s
      simp only at hb9 hrs9 hs9
      rw [hrs9, hb9] at hs9
      have HSE := Lib.hid hs9
      have HKL : Hid (ks.length ≤ 100) := Lib.hid (by omega)
      have HKF : Hid (ks.length ≤ i + 1 ∧ inc9 + 1 ≤ i + 1) := Lib.hid (by omega)
      have HPW : Hid (∀ W v l, EnW w W ⟨c9, nd, inc9, cnt9 + 1, tks9, q9, p9, g9, d9, b9, s9, pre9, rs9, m9, putT T9 ⟨X, 1, 0, 0, 0, 0⟩, ov9, os9⟩ v l → Calls Try.prog 18 #[.pointer (some ⟨p9, 0, none⟩), .int .i64 keep] W (PwS W 0 s9 (bytesOf (ks.map Rk.b)))) := Lib.hid fun W v l h3 => by
        have h4 := h3.co.log.disk
        simp only at h4
        rw [hrs9, hb9] at h4
        exact power_at h4 keep HKP.out 0 s9 (by rw [show 0 + (bytesOf (ks.map Rk.b)).length - s9 + 1 = 1 by omega, pickZ_one]) (Nat.add_zero _).symm _ (by rw [List.take_of_length_le (by omega)])
      clear hb9 hrs9 hs9
      have HXI := Lib.hid hXi
      have HS1 : Hid (∀ W v l, EnW w W ⟨c9, nd, inc9, cnt9 + 1, tks9, q9, p9, g9, d9, b9, s9, pre9, rs9, m9, putT T9 ⟨X, 1, 0, 0, 0, 0⟩, ov9, os9⟩ v l → Calls Try.prog 11 #[.pointer (some ⟨c9, 0, none⟩), .int .i64 (X : Int)] W (LooksL (.int .i64 1) W)) := Lib.hid fun W v l h3 => by
        have h4 := state_any h3.co (x := X) HXI.out
        simp only [stN_put] at h4
        exact h4
      have HM : Hid (all.length + [(X : Int)].length ≤ 1000000) := Lib.hid (by simp; omega)
      have HNX : Hid (∀ (S' : CoS) (ks' : List Rk) v10 v11 W, v11 = .int .i64 ((i + 1 : Nat) : Int) → EnW w W S' v10 (all ++ [(X : Int)]) → S'.node = nd → NuS S' ks' (all ++ [(X : Int)]) (i + 1) → NuL w nd (.pointer (some ⟨S'.p, 0, none⟩)) (.pointer (some ⟨S'.c, 0, none⟩)) (.int .i64 0) v10 v11 W) := Lib.hid fun S' ks' v10 v11 W h3 h4 h5 h6 => ⟨i + 1, S', ks', _, h3, HI.out.2, rfl, rfl, rfl, h4, h5, h6⟩
      clear hx h1 h2 hcn hin htl hfw hafw hX hXe hXi hi hen hnu hal hc10
      cases x
      · go_wp2_with (first
          | (go_at_call 9; refine HBG.out.mono ?_; rintro e w3 ⟨rfl, he3⟩
             have HE3 := Lib.hid he3
             clear he3)
          | (go_at_call 16; refine (HHS.out _ HE3.out.own.rd).mono ?_; rintro e wh ⟨rfl, rfl⟩)
          | (go_at_call 11; refine (HS1.out _ _ _ HE3.out).mono ?_; rintro e ws ⟨rfl, rfl⟩
             have HO3 := Lib.hid (HE3.out.below (alloc_below w3 (.cells #[.int .i64 (X : Int)] 3)))
             have HRD := Lib.hid (rd_oneAt w3 (X : Int) rfl))
          | (refine wpList_appI (xs := all) (ys := [(X : Int)]) (B := w.heap.size) rfl _ _ 22 rfl Try.underlying22 rfl HO3.out.own rfl rfl HRD.out HM.out HO3.out.bel.size ?_
             intro v4 w4 ho4 hg4
             have HE4 := Lib.hid (HO3.out.app hg4 ho4)
             obtain ⟨bP, oP, hPA, y0⟩ := HRB.out _ HE4.out.bel i _ HX.out
             subst hPA
             clear ho4 hg4))
        go_roundw
        case rel => first | exact HNX.out _ _ _ _ _ (by go_num) HE4.out rfl HNUN.out | ((repeat apply Exists.intro); exact ⟨HNX.out _ _ _ _ _ (by go_num) HE4.out rfl HNUN.out, rfl⟩)
        case measure => simp [intOf]; omega
      · go_wp2_with (first
          | (go_at_call 19; refine HPD.out.mono ?_; rintro e w8 ⟨v8, rfl, ho8, hb8⟩
             rw [nums_nil] at ho8
             obtain ⟨A8, c8, hv8, _⟩ := id ho8.2
             rw [List.length_nil] at hv8
             subst hv8
             have HE8 := Lib.hid (HE6.out.below hb8)
             clear ho8 hb8)
          | (go_at_call 11; refine HSZ.out.mono ?_; rintro e w7 ⟨rfl, rfl⟩)
          | (go_at_call 7; refine (Open13_any (ks := ks) (b := 0) (E := s9) HD5.out HSE.out HB5.out.size HNU9.out.ok HKL.out (by omega) HND.out).mono ?_; rintro e w6 ⟨S6, rfl, hc6, hn6, hi6, hcn6, ht6, hT6, hv6, hos6, hp6, hb6, hrs6, hs6, hO6⟩
             obtain ⟨c6, node6, inc6, cnt6, tks6, q6, p6, g6, d6, b6, s6, pre6, rs6, m6, T6, ov6, os6⟩ := S6
             simp only at hn6 hi6 hcn6 ht6 hT6 hv6 hos6 hp6 hb6 hrs6 hs6
             have hn7 := hn6.symm
             clear hn6
             have hT0 : T6 = [] := by rw [hT6, HNU9.out.red]
             clear hT6
             have hp7 := hp6.symm
             clear hp6
             subst hn7 hp7 hT0
             have hge := HD5.out.ge
             have HE6 : Hid (EnW w w6 ⟨c6, nd, inc6, cnt6, tks6, q6, p5, g6, d6, b6, s6, pre6, rs6, m6, [], ov6, os6⟩ v4 (all ++ [(X : Int)])) := Lib.hid ⟨hc6.lower HE4.out.bel.size, (HE4.out.own.below HB5.out).kept (fun g hg => hO6.block g (Nat.lt_of_lt_of_le (HE4.out.own.lt g hg) HB5.out.size) (fun e => by have := HE4.out.own.lt g hg; omega)), fun g hg hk => by
               have h3 := hc6.low g hk
               have h4 := HE4.out.own.lt g hg
               omega, HE4.out.bel.trans ((HB5.out.trans (hO6.below HB5.out.size (fun j hj => by omega))).mono HE4.out.bel.size)⟩
             have HNU6 : Hid (NuS ⟨c6, nd, inc6, cnt6, tks6, q6, p5, g6, d6, b6, s6, pre6, rs6, m6, [], ov6, os6⟩ (ks ++ [Rk.op (redoA ks).1]) (all ++ [(X : Int)]) (i + 1)) := Lib.hid (HNUN.out.opened HI.out.2 rfl hi6 hcn6 (by show [] = (redoA ks).2; rw [HNU9.out.red]) hb6 hrs6 hs6 HKF.out.1 HKF.out.2)
             have HSZ : Hid (Calls Try.prog 11 #[.pointer (some ⟨c6, 0, none⟩), .int .i64 (X : Int)] w6 (LooksL (.int .i64 0) w6)) := Lib.hid (state_any HE6.out.co (x := X) HXI.out)
             have HPD := Lib.hid (pending_any HE6.out.co (by show 0 < 1000; omega))
             clear hc6 hi6 hcn6 ht6 hv6 hos6 hb6 hrs6 hs6 hO6 hge)
          | (go_at_call 18; refine (HPW.out _ _ _ HE4.out).mono ?_; rintro e w5 ⟨p5, g5, rfl, hd5, hb5⟩
             have HD5 := Lib.hid hd5
             have HB5 := Lib.hid hb5
             clear hd5 hb5)
          | (go_at_call 9; refine HBG.out.mono ?_; rintro e w3 ⟨rfl, he3⟩
             have HE3 := Lib.hid he3
             clear he3)
          | (go_at_call 16; refine (HHS.out _ HE3.out.own.rd).mono ?_; rintro e wh ⟨rfl, rfl⟩)
          | (go_at_call 11; refine (HS1.out _ _ _ HE3.out).mono ?_; rintro e ws ⟨rfl, rfl⟩
             have HO3 := Lib.hid (HE3.out.below (alloc_below w3 (.cells #[.int .i64 (X : Int)] 3)))
             have HRD := Lib.hid (rd_oneAt w3 (X : Int) rfl))
          | (refine wpList_appI (xs := all) (ys := [(X : Int)]) (B := w.heap.size) rfl _ _ 22 rfl Try.underlying22 rfl HO3.out.own rfl rfl HRD.out HM.out HO3.out.bel.size ?_
             intro v4 w4 ho4 hg4
             have HE4 := Lib.hid (HO3.out.app hg4 ho4)
             obtain ⟨bP, oP, hPA, y0⟩ := HRB.out _ HE4.out.bel i _ HX.out
             subst hPA
             clear ho4 hg4))
        go_roundw
        case rel => first | exact HNX.out _ _ _ _ _ (by go_num) HE8.out rfl HNU6.out | ((repeat apply Exists.intro); exact ⟨HNX.out _ _ _ _ _ (by go_num) HE8.out rfl HNU6.out, rfl⟩)
        case measure => simp [intOf]; omega
    · have hx2 : (¬ (i : Int) < (pn : Int)) ∨ ((i : Int) < (pn : Int) ∧ ¬ (i : Int) < 60) := by omega
      clear hx hi hen hnu hal hc10
      rcases hx2 with hx3 | ⟨hx3, hx4⟩
      all_goals
        go_wp2_with (go_at_call 8; refine (alive13_any _).mono ?_; rintro e wz ⟨rfl, hb⟩
                     have HE := Lib.hid (HEN9.out.bel.trans (hb.mono (Below.size HEN9.out.bel)))
                     clear hb)
        go_ret
        exact ⟨rfl, HE.out⟩
/-- the law, whatever the arguments -/
theorem coordinatorNumbers_law (node : Int) (bs : List Bool) (PA : Option Addr) (pn pc : Nat) (keep : Int) (hk : i64ok keep) (w : World) (hn : bs.length = pn) (hnm : pn ≤ maxLen) (hr : RdBl w w.heap.size PA bs) :
    Calls Try.prog 4 #[.int .i64 node, .slice PA pn pc, .int .i64 keep] w (Ans (.bool true) w) := by
  by_cases hb : node < 0 ∨ 16 ≤ node
  · exact numbers_bad node hb PA pn pc keep w
  obtain ⟨nd, rfl⟩ : ∃ nd : Nat, node = (nd : Int) := ⟨node.toNat, by omega⟩
  exact numbers_main (by omega) bs PA pn pc keep hk w hn hnm hr
end Go.Proofs.Ytknolgcbaoppcaa

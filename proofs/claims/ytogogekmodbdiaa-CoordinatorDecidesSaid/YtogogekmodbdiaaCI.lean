/- CoordinatorNumbers: the law's own body answers true. -/
import Derived.Test.YtogogekmodbdiaaCH
namespace Go.Proofs.Ytogogekmodbdiaa
open Go.RowKit


theorem putT_1 (x s a o y t s' a' o' y' t' : Nat) : putT [⟨x, s, a, o, y, t⟩] ⟨x, s', a', o', y', t'⟩ = [⟨x, s', a', o', y', t'⟩] := by simp [putT, dropT]
theorem dropT_1 (x s a o y t : Nat) : dropT [⟨x, s, a, o, y, t⟩] x = [] := by simp [dropT]
theorem findT_1 (x s a o y t : Nat) : findT [⟨x, s, a, o, y, t⟩] x = some ⟨x, s, a, o, y, t⟩ := by simp [findT]
theorem or_none {ns : List Int} (hu : upN (-1) ns = true) (h : orB 0 ns = 0) : ns = [] := by
  have h2 := nodes_or hu
  rw [h] at h2
  rw [← h2]
  decide

/-- the committed transaction of which some are still to be told -/
def tdV (nd : Nat) (ls : List Int) (t : Nat) : List Te := if ls = [] then [] else [⟨nd, 3, 0, orB 0 ls, 0, t⟩]
theorem tdV_ne {nd t : Nat} {ls : List Int} (h : ls ≠ []) : tdV nd ls t = [⟨nd, 3, 0, orB 0 ls, 0, t⟩] := by unfold tdV; rw [if_neg h]
theorem up_era {ls : List Int} (hu : upN (-1) ls = true) (k : Nat) : upN (-1) (ls.eraseIdx k) = true :=
  up_of_sorted ((up_sorted hu).sublist (List.eraseIdx_sublist ls k)) fun n hn => up_mem hu n (List.mem_of_mem_eraseIdx hn)
theorem woB_era {ls : List Int} {k f : Nat} (hu : upN (-1) ls = true) (hk : ls[k]? = some (f : Int)) : woB (orB 0 ls) f = orB 0 (ls.eraseIdx k) := by
  obtain ⟨hkl, hkf⟩ := List.getElem?_eq_some_iff.1 hk
  have hs := up_sorted hu
  apply Nat.eq_of_testBit_eq
  intro i
  rw [woB_test, orB_test, orB_test, Bool.eq_iff_iff]
  simp only [Nat.zero_testBit, Bool.false_or, Bool.and_eq_true, List.any_eq_true, decide_eq_true_eq]
  constructor
  · rintro ⟨⟨n, hn, hi⟩, hf⟩
    refine ⟨n, ?_, hi⟩
    obtain ⟨j, hj, hjn⟩ := List.getElem_of_mem hn
    rw [List.mem_eraseIdx_iff_getElem]
    refine ⟨j, hj, fun e => ?_, hjn⟩
    subst e
    rw [hkf] at hjn
    omega
  · rintro ⟨n, hn, hi⟩
    rw [List.mem_eraseIdx_iff_getElem] at hn
    obtain ⟨j, hj, hne, hjn⟩ := hn
    have hm := up_mem hu n (by rw [← hjn]; exact List.getElem_mem hj)
    refine ⟨⟨n, by rw [← hjn]; exact List.getElem_mem hj, hi⟩, fun e => ?_⟩
    rw [List.pairwise_iff_getElem] at hs
    rcases Nat.lt_or_gt_of_ne hne with h1 | h1
    · have := hs j k hj hkl h1
      omega
    · have := hs k j hkl hj h1
      omega
theorem Co.hi {w : World} {B : Nat} {S : CoS} (h : Co w B S) : ∀ j, CoK S j → j < w.heap.size := fun j hj => by
  have l1 := h.log.lt
  have l2 := h.log.disk.lt
  have l3 := h.log.disk.glt
  have l4 := h.log.dlt
  have l5 := h.map.lt
  have l6 := h.lt
  rcases hj with hj | hj | hj | hj | hj | hj | hj
  all_goals first | omega | (obtain ⟨cs, hh⟩ := h.out.blk j hj; exact lt_of_heap hh)
theorem OwnI.lt {w : World} {B : Nat} {v : Value} {l : List Int} (h : OwnI w B v l) : ∀ k, v.ownBlock = some k → k < w.heap.size := by
  intro k hk
  rcases h.1.2 with ⟨rfl, _⟩ | ⟨g, cap, cur, rfl, hB, hh, _⟩
  · simp [Value.ownBlock] at hk
  · simp [Value.ownBlock] at hk; subst hk; exact lt_of_heap hh
theorem OwnI.kept {w w' : World} {B : Nat} {v : Value} {l : List Int} (h : OwnI w B v l) (hb : ∀ k, v.ownBlock = some k → w'.heap[k]? = w.heap[k]?) : OwnI w' B v l := by
  refine ⟨⟨h.1.1, ?_⟩, h.2⟩
  rcases h.1.2 with h1 | ⟨g, cap, cur, rfl, h2, h3, h4⟩
  · exact .inl h1
  · exact .inr ⟨g, cap, cur, rfl, h2, (hb g rfl).trans h3, h4⟩
/-- a coordinator, and a row of numbers beside it -/
structure EnW (w0 wr : World) (S : CoS) (lv : Value) (ls : List Int) : Prop where
  co : Co wr w0.heap.size S
  own : OwnI wr w0.heap.size lv ls
  sep : ∀ g, lv.ownBlock = some g → ¬ CoK S g
  bel : Below w0.heap.size w0 wr
theorem EnW.step {w0 wr w' : World} {S S' : CoS} {lv : Value} {ls : List Int} (h : EnW w0 wr S lv ls) (hc : Co w' w0.heap.size S') (hO : Only (CoK S) wr w') (hK : ∀ j, CoK S' j → CoK S j ∨ wr.heap.size ≤ j) : EnW w0 w' S' lv ls :=
  ⟨hc, h.own.kept fun k hk => hO.block k (h.own.lt k hk) (h.sep k hk), fun g hg hk => by
    rcases hK g hk with h1 | h1
    · exact h.sep g hg h1
    · have := h.own.lt g hg; omega, h.bel.trans (hO.below h.co.size h.co.low)⟩
theorem FrA.ck {S S' : CoS} {w w' : World} {v : Value} {g' d' : Nat} (h : FrA S w w' v g' d') (he : S'.c = S.c ∧ S'.m = S.m ∧ S'.q = S.q ∧ S'.p = S.p ∧ S'.g = g' ∧ S'.d = d' ∧ S'.ov = v) : ∀ j, CoK S' j → CoK S j ∨ w.heap.size ≤ j := fun j hj => by
  obtain ⟨_, h1, h2, h3⟩ := h
  obtain ⟨e1, e2, e3, e4, e5, e6, e7⟩ := he
  unfold CoK at hj ⊢
  rw [e1, e2, e3, e4, e5, e6, e7] at hj
  rcases hj with hj | hj | hj | hj | hj | hj | hj
  · exact .inl (.inl hj)
  · exact .inl (.inr (.inl hj))
  · exact .inl (.inr (.inr (.inl hj)))
  · exact .inl (.inr (.inr (.inr (.inl hj))))
  · rcases h2 with h2 | h2
    · exact .inl (.inr (.inr (.inr (.inr (.inl (hj.trans h2))))))
    · exact .inr (by omega)
  · rcases h3 with h3 | h3
    · exact .inl (.inr (.inr (.inr (.inr (.inr (.inl (hj.trans h3)))))))
    · exact .inr (by omega)
  · rcases h1 j hj with h1 | h1
    · exact .inl (.inr (.inr (.inr (.inr (.inr (.inr h1))))))
    · exact .inr h1
theorem EnW.below {w0 wr w' : World} {S : CoS} {lv : Value} {ls : List Int} (h : EnW w0 wr S lv ls) (hb : Below wr.heap.size wr w') : EnW w0 w' S lv ls := ⟨h.co.below hb, h.own.below hb, h.sep, h.bel.trans (hb.mono (Below.size h.bel))⟩
/-- Out, beside a row -/
theorem EnW.out {w0 wr : World} {S : CoS} {lv : Value} {ls : List Int} (h : EnW w0 wr S lv ls) : Calls Try.prog 12 #[.pointer (some ⟨S.c, 0, none⟩)] wr (fun e w' => e = .returned S.ov ∧ EnW w0 w' { S with ov := .slice none 0 0, os := [] } lv ls ∧ OwnO w' w0.heap.size S.ov S.os) :=
  (out_any h.co).mono fun _ _ ⟨h1, h2, h3, h4⟩ => ⟨h1, h.step h2 (h4.more fun j _ hj => .inl hj) (fun j hj => by
    unfold CoK at hj ⊢
    simp only [Value.ownBlock] at hj
    rcases hj with hj | hj | hj | hj | hj | hj | hj
    all_goals first | (left; omega) | simp at hj), h3⟩
/-- Done of one that is still to be told, beside a row -/
theorem EnW.done {w0 wr : World} {S : CoS} {lv : Value} {ls : List Int} (h : EnW w0 wr S lv ls) {k f t : Nat} (hf : ls[k]? = some (f : Int)) (hu : upN (-1) ls = true) (hT : S.T = tdV S.node ls t) (hroom : S.b + (bytesOf S.rs).length + 905 ≤ 100000) :
    Calls Try.prog 14 #[.pointer (some ⟨S.c, 0, none⟩), .agg #[.int .i64 7, .int .i64 (f : Int), .int .i64 (S.node : Int), .int .i64 (S.node : Int), .slice none 0 0]] wr (fun e w' => e = .returned (.int .i64 0) ∧ ∃ S', EnW w0 w' S' lv ls ∧ S'.c = S.c ∧ S'.node = S.node ∧ S'.tks = S.tks ∧ S'.T = tdV S.node (ls.eraseIdx k) t ∧ S'.os = S.os ∧ (ls.eraseIdx k ≠ [] → S'.b = S.b ∧ S'.rs = S.rs)) := by
  have hne : ls ≠ [] := by intro e; subst e; simp at hf
  have hm := up_mem hu f (List.mem_of_getElem? hf)
  have hnd := h.co.nod
  have hT1 := hT
  rw [tdV_ne hne] at hT1
  have he : findT S.T S.node = some ⟨S.node, 3, 0, orB 0 ls, 0, t⟩ := by rw [hT1]; exact findT_1 _ _ _ _ _ _
  have hlt : orB 0 ls < 65536 := or_lt (by omega) hu (by decide)
  have hwo := woB_era hu hf
  by_cases hz : ls.eraseIdx k = []
  · have hw0 : woB (orB 0 ls) f = 0 := by rw [hwo, hz]; rfl
    refine (hear_dol h.co (f := f) (x := S.node) (by omega) (by omega) (by omega) he rfl hlt hw0 hroom).mono ?_
    rintro e w' ⟨h1, g', d', h2, h3⟩
    refine ⟨h1, _, h.step h2 h3.1 (h3.ck ⟨rfl, rfl, rfl, rfl, rfl, rfl, rfl⟩), rfl, rfl, rfl, ?_, rfl, fun hh => absurd hz hh⟩
    show dropT S.T S.node = _
    rw [hT1, dropT_1, hz]
    rfl
  · have hw0 : woB (orB 0 ls) f ≠ 0 := by rw [hwo]; exact fun h0 => hz (or_none (up_era hu k) h0)
    refine (hear_dom h.co (f := f) (x := S.node) (by omega) (by omega) (by omega) he rfl hlt hw0 (by rw [hT1]; show 1 < 1000; omega)).mono ?_
    rintro e w' ⟨h1, v, os1, h2, h3, h4⟩
    have hos : os1 = [] := by cases os1 with | nil => rfl | cons => simp at h3
    subst hos
    refine ⟨h1, _, h.step h2 h4.all.1 (h4.all.ck ⟨rfl, rfl, rfl, rfl, rfl, rfl, rfl⟩), rfl, rfl, rfl, ?_, List.append_nil _, fun _ => ⟨rfl, rfl⟩⟩
    show putT S.T ⟨S.node, 3, 0, woB (orB 0 ls) f, 0, t⟩ = _
    rw [hT1, putT_1, hwo, tdV_ne hz]
/-- behind the choice of whom to hear -/
def CkL (w : World) (S : CoS) (lv : Value) (ls : List Int) (ll : Nat) (v17 : Value) (wx : World) : Prop := ∃ kk : Nat, v17 = .int .i64 (kk : Int) ∧ kk < ll ∧ EnW w wx S lv ls
theorem CkL.world {w wx : World} {S : CoS} {lv v17 : Value} {ls : List Int} {ll : Nat} (h : CkL w S lv ls ll v17 wx) : ∃ W, W = wx ∧ CkL w S lv ls ll v17 W := ⟨_, rfl, h⟩
theorem Co.lower {w : World} {B C : Nat} {S : CoS} (h : Co w B S) (hC : C ≤ B) : Co w C S := by
  obtain ⟨h1, h2, h3, h4, h5, h6, h7, h8, h9⟩ := h
  refine ⟨h1, ⟨h2.box, { h2.disk with ge := ⟨Nat.le_trans hC h2.disk.ge.1, Nat.le_trans hC h2.disk.ge.2⟩ }, ⟨Nat.le_trans hC h2.ge.1, Nat.le_trans hC h2.ge.2⟩, h2.ne, h2.gone, h2.recs, h2.few⟩, h3, ⟨⟨h4.1.1, ?_⟩, h4.2⟩, ⟨Nat.le_trans hC h5.1, Nat.le_trans hC h5.2⟩, h6, h7, h8, h9⟩
  rcases h4.1.2 with h | ⟨g, cap, cur, e, hB, hr⟩
  · exact .inl h
  · exact .inr ⟨g, cap, cur, e, Nat.le_trans hC hB, hr⟩
theorem EnW.app {w0 wr w' : World} {S : CoS} {lv v' : Value} {ls ls' : List Int} (h : EnW w0 wr S lv ls) (hg : Grew wr lv w' v') (ho : OwnI w' w0.heap.size v' ls') : EnW w0 w' S v' ls' := by
  have hO : Only (fun j => lv.ownBlock = some j) wr w' := (Only.of_grown hg.by_).more fun j _ hj => hj.symm
  refine ⟨h.co.only hO (fun j hj hk => h.sep j hk hj), ho, fun g hg2 hk => ?_, h.bel.trans (hO.below h.co.size fun j hj => h.own.ge j hj)⟩
  rcases hg.at_ with h1 | h1
  · rw [h1] at hg2
    exact h.sep g hg2 hk
  · have := h1 g hg2
    have := h.co.hi g hk
    omega
/-- what is known of a coordinator whose transactions only begin -/
structure NuS (S : CoS) (ks : List Rk) (all : List Int) (i : Nat) : Prop where
  b : S.b = 0
  rs : S.rs = ks.map Rk.b
  ok : ∀ r ∈ ks, r.ok
  few : ks.length ≤ i + 1
  red : redoA ks = (S.inc + 1, [])
  s : S.s = S.b + (bytesOf S.rs).length
  cnt : S.cnt ≤ i
  inc : S.inc ≤ i
  len : S.T.length ≤ i
  txs : ∀ e ∈ S.T, ∃ k, k < S.cnt ∧ e.n = 16 * (65536 * S.inc + k) + S.node
  nums : ∀ n ∈ all, ∃ j k : Nat, n = ((16 * (65536 * j + k) + S.node : Nat) : Int) ∧ k < 65536 ∧ (j < S.inc ∨ j = S.inc ∧ k < S.cnt)
  alen : all.length ≤ i
theorem NuS.fresh {S : CoS} {ks : List Rk} {all : List Int} {i : Nat} (h : NuS S ks all i) : findT S.T (txN S) = none := by
  unfold findT
  rw [List.find?_eq_none]
  intro e he
  obtain ⟨k, hk, hn⟩ := h.txs e he
  simp only [decide_eq_true_eq]
  unfold txN
  omega
theorem NuS.new {S : CoS} {ks : List Rk} {all : List Int} {i : Nat} (h : NuS S ks all i) (hi : i ≤ 60) : ∀ n ∈ all, n ≠ ((txN S : Nat) : Int) := by
  intro n hn e
  obtain ⟨j, k, h1, h2, h3⟩ := h.nums n hn
  have hc := h.cnt
  unfold txN at e
  omega
theorem NuS.next {S : CoS} {ks : List Rk} {all : List Int} {i : Nat} (h : NuS S ks all i) (hi : i < 60) (t : Te) (ht : t.n = txN S) : NuS { S with cnt := S.cnt + 1, T := putT S.T t } ks (all ++ [((txN S : Nat) : Int)]) (i + 1) := by
  have hc := h.cnt
  refine ⟨h.b, h.rs, h.ok, Nat.le_succ_of_le h.few, h.red, h.s, by show S.cnt + 1 ≤ i + 1; omega, Nat.le_succ_of_le h.inc, ?_, fun e he => ?_, fun n hn => ?_, ?_⟩
  · show (putT S.T t).length ≤ i + 1
    unfold putT
    rw [List.length_append]
    have := dropT_len_le S.T t.n
    have := h.len
    simp only [List.length_cons, List.length_nil]
    omega
  · have he : e ∈ putT S.T t := he
    unfold putT at he
    rcases List.mem_append.1 he with h1 | h1
    · obtain ⟨k, hk, hn⟩ := h.txs e (dropT_mem h1)
      exact ⟨k, Nat.lt_succ_of_lt hk, hn⟩
    · rw [List.mem_singleton] at h1
      subst h1
      exact ⟨S.cnt, Nat.lt_succ_self _, ht⟩
  · rcases List.mem_append.1 hn with h1 | h1
    · obtain ⟨j, k, e1, e2, e3⟩ := h.nums n h1
      exact ⟨j, k, e1, e2, e3.imp id fun ⟨a, b⟩ => ⟨a, Nat.lt_succ_of_lt b⟩⟩
    · rw [List.mem_singleton] at h1
      exact ⟨S.inc, S.cnt, h1, by omega, .inr ⟨rfl, Nat.lt_succ_self _⟩⟩
  · rw [List.length_append]
    have := h.alen
    simp only [List.length_cons, List.length_nil]
    omega
theorem NuS.opened {S S' : CoS} {ks : List Rk} {all : List Int} {i : Nat} (h : NuS S ks all i) (hi : i ≤ 60) (h1 : S'.node = S.node) (h2 : S'.inc = (redoA ks).1) (h3 : S'.cnt = 0) (h4 : S'.T = (redoA ks).2) (h5 : S'.b = 0) (h6 : S'.rs = (ks ++ [Rk.op (redoA ks).1]).map Rk.b) (h7 : S'.s = S'.b + (bytesOf S'.rs).length) (hj : ks.length ≤ i) (hii : S.inc + 1 ≤ i) : NuS S' (ks ++ [Rk.op (redoA ks).1]) all i := by
  rw [h.red] at h2 h4
  refine ⟨h5, h6, fun r hr => ?_, by rw [List.length_append]; simp only [List.length_cons, List.length_nil]; omega, ?_, h7, by omega, by rw [h2]; exact hii, by rw [h4]; exact Nat.zero_le _, fun e he => ?_, fun n hn => ?_, h.alen⟩
  · rcases List.mem_append.1 hr with h8 | h8
    · exact h.ok r h8
    · rw [List.mem_singleton] at h8
      subst h8
      show (redoA ks).1 ≤ _
      rw [h.red]
      show S.inc + 1 ≤ _
      omega
  · rw [redoA_app, h.red, h2]
    rfl
  · rw [h4] at he
    simp at he
  · obtain ⟨j, k, e1, e2, e3⟩ := h.nums n hn
    exact ⟨j, k, by rw [h1]; exact e1, e2, .inl (by rw [h2]; show j < S.inc + 1; omega)⟩
/-- at the head of Has' loop -/
def HsL (l : List Int) (w : World) (v : Value) (wr : World) : Prop := ∃ i : Nat, v = .int .i64 (i : Int) ∧ i ≤ l.length ∧ wr = w
set_option maxRecDepth 100000 in
set_option maxHeartbeats 4000000 in
theorem has_no (l : List Int) (x : Int) (hx : ∀ n ∈ l, n ≠ x) (A : Option Addr) (n cap : Nat) (hn : l.length = n) (hn2 : n ≤ 1000) (hnc : n ≤ cap) (w : World) (hr : RdI w w.heap.size A l) :
    Calls Try.prog 16 #[.slice A n cap, .int .i64 x] w (LooksL (.bool false) w) := by
  have HX := Lib.hid hx
  have HN := Lib.hid hn
  have HR := Lib.hid hr
  have hni : (n : Int) ≤ 1000 := by omega
  have hnci : (n : Int) ≤ (cap : Int) := by omega
  clear hx hn hn2 hnc hr
  go_enter Try.func16, Try.ntmps16
  go_wp2_with fail
  go_loopw [5] (fun v6 wr => HsL l w v6 wr) (fun v6 _ => n - (intOf v6).toNat)
  case atStart => exact ⟨0, rfl, Nat.zero_le _, rfl⟩
  case round =>
    obtain ⟨i, rfl, hi, rfl⟩ := hrel
    rw [HN.out] at hi
    by_cases hlt : i < n
    · have hlti : (i : Int) < (n : Int) := by omega
      obtain ⟨y, hy⟩ : ∃ y, l[i]? = some y := ⟨_, List.getElem?_eq_getElem (by rw [HN.out]; exact hlt)⟩
      obtain ⟨b, o, hA, _, y0⟩ := HR.out.at_ hy
      subst hA
      have hyx : (y == x) = false := by have := HX.out y (List.mem_of_getElem? hy); simpa using this
      have HZ : Hid (∀ v6, v6 = .int .i64 ((i + 1 : Nat) : Int) → HsL l wr v6 wr) := Lib.hid fun v6 h6 => ⟨i + 1, h6, by rw [HN.out]; exact hlt, rfl⟩
      clear hy hlt hi
      go_wp2_with fail
      go_roundw
      case rel => first | exact HZ.out _ (by go_num) | ((repeat apply Exists.intro); exact ⟨HZ.out _ (by go_num), rfl⟩)
      case measure => simp [intOf]; omega
    · have hlti : ¬ (i : Int) < (n : Int) := by omega
      clear hlt hi
      go_wp2_with fail
      go_ret
      exact ⟨rfl, rfl⟩
end Go.Proofs.Ytogogekmodbdiaa

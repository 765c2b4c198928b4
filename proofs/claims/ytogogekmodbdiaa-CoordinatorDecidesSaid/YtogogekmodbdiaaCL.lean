/- CoordinatorDecides: whom letters of a kind go to; Has; a coordinator with some rows of numbers beside it. -/
import Derived.Test.YtogogekmodbdiaaCI
import Derived.Test.YtogogekmodbdiaaCK
namespace Go.Proofs.Ytogogekmodbdiaa
open Go.RowKit

/-- whom the letters of a kind go to -/
def toL (os : List Le) (k : Int) : List Int := (os.filter fun e => decide (e.k = k)).map Le.t
theorem toL_snoc {os : List Le} {i : Nat} {e : Le} {k : Int} (h : os[i]? = some e) : toL (os.take (i + 1)) k = toL (os.take i) k ++ (if e.k = k then [e.t] else []) := by
  unfold toL
  rw [List.take_add_one, h, Option.toList_some, List.filter_append, List.map_append]
  by_cases hk : e.k = k <;> simp [hk]
theorem toL_len (os : List Le) (k : Int) : (toL os k).length ≤ os.length := by
  unfold toL
  rw [List.length_map]
  exact List.length_filter_le _ _
/-- at the head of its loop -/
def ToLp (os : List Le) (k : Int) (w : World) (v5 v6 : Value) (wr : World) : Prop := ∃ (i : Nat) (y : Value), y = v5 ∧ v6 = .int .i64 (i : Int) ∧ i ≤ os.length ∧ OwnI wr w.heap.size y (toL (os.take i) k) ∧ Below w.heap.size w wr
/-- what it answers -/
def ToAns (os : List Le) (k : Int) (w : World) (e : Ending) (w' : World) : Prop := ∃ v, e = .returned v ∧ OwnI w' w.heap.size v (toL os k) ∧ Below w.heap.size w w'
set_option maxRecDepth 100000 in
set_option maxHeartbeats 8000000 in
theorem to_any {w : World} {B : Nat} {os : List Le} {A : Option Addr} {n c : Nat} (hn : os.length = n) (hn2 : n ≤ 1000) (k : Int) (ho : OwnO w B (.slice A n c) os) :
    Calls Try.prog 17 #[.slice A n c, .int .i64 k] w (ToAns os k w) := by
  have HO := Lib.hid ho
  have HN := Lib.hid hn
  have HN2 := Lib.hid hn2
  have hni : (n : Int) ≤ 1000 := by omega
  clear hn hn2 ho
  go_enter Try.func17, Try.ntmps17
  go_wp2_with fail
  go_loopw [5, 6] (fun v5 v6 wr => ToLp os k w v5 v6 wr) (fun _ v6 _ => n - (intOf v6).toNat)
  case atStart => exact ⟨0, _, rfl, rfl, Nat.zero_le _, OwnI.nil _ _, Below.refl _ _⟩
  case round =>
    obtain ⟨i, y, rfl, rfl, hi, hoy, hb⟩ := hrel
    rw [HN.out] at hi
    have HY := Lib.hid hoy
    have HB := Lib.hid hb
    by_cases hlt : i < n
    · have hlti : (i : Int) < (n : Int) := by omega
      obtain ⟨e, he⟩ : ∃ e, os[i]? = some e := ⟨_, List.getElem?_eq_getElem (by rw [HN.out]; exact hlt)⟩
      obtain ⟨g, hA, hgl, _, hnc, hcell⟩ := HO.out.at_ he
      subst hA
      have hnci : (n : Int) ≤ (c : Int) := by omega
      obtain ⟨ek, hek⟩ : ∃ ek, ek = e.k := ⟨_, rfl⟩
      obtain ⟨et, het⟩ : ∃ et, et = e.t := ⟨_, rfl⟩
      have hcw : ∀ W, Below w.heap.size w W → W.cell? ⟨g, i * 5, none⟩ = some (.int .i64 ek) ∧ W.cell? ⟨g, i * 5 + 2, none⟩ = some (.int .i64 et) := fun W hW => by
        obtain ⟨u0, _, u2, _, _⟩ := hcell W (hW.block g hgl)
        rw [← hek] at u0
        rw [← het] at u2
        exact ⟨u0, u2⟩
      obtain ⟨u0, u2⟩ := hcw wr hb
      by_cases hk : ek = k
      · subst hk
        have hkk : (ek == ek) = true := by simp
        have HN3 : Hid (∀ v5 w5 v6, v6 = .int .i64 ((i + 1 : Nat) : Int) → OwnI w5 w.heap.size v5 (toL (os.take i) ek ++ [et]) → Below w.heap.size w w5 → ToLp os ek w v5 v6 w5) := Lib.hid fun v5 w5 v6 h6 h7 h8 => ⟨i + 1, v5, rfl, h6, by rw [HN.out]; exact hlt, by rw [toL_snoc he, if_pos hek.symm, ← het]; exact h7, h8⟩
        have hb2 := alloc_below wr (.cells #[.int .i64 et] 3)
        have HO2 := Lib.hid (hoy.below hb2)
        have HB2 := Lib.hid (hb.trans (hb2.mono (Below.size hb)))
        have HRD := Lib.hid (rd_oneAt wr et rfl)
        have HM : Hid ((toL (os.take i) ek).length + [et].length ≤ 1000000) := Lib.hid (by have := toL_len (os.take i) ek; have := HN.out; have := HN2.out; rw [List.length_take] at *; simp; omega)
        clear he hgl hnc hcell hcw hek het hoy hb hlt hi hb2
        go_wp2_with (refine wpList_appI (xs := toL (os.take i) ek) (ys := [et]) (B := w.heap.size) rfl _ _ 22 rfl Try.underlying22 rfl HO2.out rfl rfl HRD.out HM.out HB2.out.size ?_
                     intro v5 w5 ho5 hg5
                     have HZ := Lib.hid (fun v6 h6 => HN3.out v5 w5 v6 h6 ho5 (HB2.out.trans (hg5.toBelow HB2.out.size HO2.out.ge)))
                     clear ho5 hg5)
        go_roundw
        case rel => first | exact HZ.out _ (by go_num) | ((repeat apply Exists.intro); exact ⟨HZ.out _ (by go_num), rfl⟩)
        case measure => simp [intOf]; omega
      · have hkk : (ek == k) = false := by simpa using hk
        have HN3 : Hid (∀ v6, v6 = .int .i64 ((i + 1 : Nat) : Int) → ToLp os k w y v6 wr) := Lib.hid fun v6 h6 => ⟨i + 1, y, rfl, h6, by rw [HN.out]; exact hlt, by rw [toL_snoc he, if_neg (by rw [← hek]; exact hk), List.append_nil]; exact HY.out, HB.out⟩
        clear he hgl hnc hcell hcw hek het hoy hb hlt hi hk
        go_wp2_with fail
        go_roundw
        case rel => first | exact HN3.out _ (by go_num) | ((repeat apply Exists.intro); exact ⟨HN3.out _ (by go_num), rfl⟩)
        case measure => simp [intOf]; omega
    · have hin : i = n := by omega
      have hlti : ¬ (i : Int) < (n : Int) := by omega
      have htk : os.take i = os := List.take_of_length_le (by rw [HN.out]; omega)
      rw [htk] at HY
      clear hlt hi hin htk hoy hb
      go_wp2_with fail
      go_ret
      exact ⟨_, rfl, HY.out, HB.out⟩
def HyL (j0 : Nat) (w : World) (v : Value) (wr : World) : Prop := ∃ i : Nat, v = .int .i64 (i : Int) ∧ i ≤ j0 ∧ wr = w
set_option maxRecDepth 100000 in
set_option maxHeartbeats 4000000 in
theorem has_yes (l : List Int) (x : Int) (hx : x ∈ l) (A : Option Addr) (n cap : Nat) (hn : l.length = n) (hn2 : n ≤ 1000) (hnc : n ≤ cap) (w : World) (hr : RdI w w.heap.size A l) :
    Calls Try.prog 16 #[.slice A n cap, .int .i64 x] w (LooksL (.bool true) w) := by
  obtain ⟨j0, hj0⟩ := List.getElem?_of_mem hx
  have HJ := Lib.hid hj0
  have hjn : j0 < n := by rw [← hn]; exact (List.getElem?_eq_some_iff.1 hj0).1
  have HN := Lib.hid hn
  have HR := Lib.hid hr
  have hni : (n : Int) ≤ 1000 := by omega
  have hnci : (n : Int) ≤ (cap : Int) := by omega
  have HJN := Lib.hid hjn
  clear hx hn hn2 hnc hr hj0 hjn
  go_enter Try.func16, Try.ntmps16
  go_wp2_with fail
  go_loopw [5] (fun v6 wr => HyL j0 w v6 wr) (fun v6 _ => n - (intOf v6).toNat)
  case atStart => exact ⟨0, rfl, Nat.zero_le _, rfl⟩
  case round =>
    obtain ⟨i, rfl, hi, rfl⟩ := hrel
    have hlt : i < n := Nat.lt_of_le_of_lt hi HJN.out
    have hlti : (i : Int) < (n : Int) := by omega
    obtain ⟨y, hy⟩ : ∃ y, l[i]? = some y := ⟨_, List.getElem?_eq_getElem (by rw [HN.out]; exact hlt)⟩
    obtain ⟨b, o, hA, _, y0⟩ := HR.out.at_ hy
    subst hA
    by_cases hyx : y = x
    · subst hyx
      have hyy : (y == y) = true := by simp
      clear hy hlt hi
      go_wp2_with fail
      go_ret
      exact ⟨rfl, rfl⟩
    · have hyx2 : (y == x) = false := by simpa using hyx
      have hne : i ≠ j0 := fun e => hyx (by rw [e] at hy; rw [HJ.out] at hy; injection hy with hy; exact hy.symm)
      have HZ : Hid (∀ v6, v6 = .int .i64 ((i + 1 : Nat) : Int) → HyL j0 wr v6 wr) := Lib.hid fun v6 h6 => ⟨i + 1, h6, by omega, rfl⟩
      clear hy hlt hi hyx hne
      go_wp2_with fail
      go_roundw
      case rel => first | exact HZ.out _ (by go_num) | ((repeat apply Exists.intro); exact ⟨HZ.out _ (by go_num), rfl⟩)
      case measure => simp [intOf]; omega
/-- a coordinator, some rows of numbers beside it, and some other blocks -/
structure EnX (w0 wr : World) (S : CoS) (rows : List (Value × List Int)) (exts : List (Nat × Obj)) : Prop where
  co : Co wr w0.heap.size S
  own : ∀ r ∈ rows, OwnI wr w0.heap.size r.1 r.2
  sep : ∀ r ∈ rows, ∀ g, r.1.ownBlock = some g → ¬ CoK S g
  apart : rows.Pairwise fun a b => ∀ g, a.1.ownBlock = some g → b.1.ownBlock ≠ some g
  bel : Below w0.heap.size w0 wr
  ext : ∀ p ∈ exts, wr.heap[p.1]? = some p.2 ∧ ¬ CoK S p.1 ∧ ∀ r ∈ rows, r.1.ownBlock ≠ some p.1
theorem EnX.step {w0 wr w' : World} {S S' : CoS} {rows : List (Value × List Int)} {exts : List (Nat × Obj)} (h : EnX w0 wr S rows exts) (hc : Co w' w0.heap.size S') (hO : Only (CoK S) wr w') (hK : ∀ j, CoK S' j → CoK S j ∨ wr.heap.size ≤ j) : EnX w0 w' S' rows exts :=
  ⟨hc, fun r hr => (h.own r hr).kept fun k hk => hO.block k ((h.own r hr).lt k hk) (h.sep r hr k hk), fun r hr g hg hk => by
    rcases hK g hk with h1 | h1
    · exact h.sep r hr g hg h1
    · have := (h.own r hr).lt g hg; omega, h.apart, h.bel.trans (hO.below h.co.size h.co.low), fun p hp => by
    obtain ⟨h1, h2, h3⟩ := h.ext p hp
    refine ⟨(hO.block p.1 (lt_of_heap h1) h2).trans h1, fun hk => ?_, h3⟩
    rcases hK p.1 hk with h4 | h4
    · exact h2 h4
    · have := lt_of_heap h1; omega⟩
theorem EnX.below {w0 wr w' : World} {S : CoS} {rows : List (Value × List Int)} {exts : List (Nat × Obj)} (h : EnX w0 wr S rows exts) (hb : Below wr.heap.size wr w') : EnX w0 w' S rows exts := ⟨h.co.below hb, fun r hr => (h.own r hr).below hb, h.sep, h.apart, h.bel.trans (hb.mono (Below.size h.bel)), fun p hp => by
  obtain ⟨h1, h2, h3⟩ := h.ext p hp
  exact ⟨(hb.block p.1 (lt_of_heap h1)).trans h1, h2, h3⟩⟩
/-- a new block beside it -/
theorem EnX.ext1 {w0 wr w' : World} {S : CoS} {rows : List (Value × List Int)} (h : EnX w0 wr S rows []) (hb : Below wr.heap.size wr w') {g : Nat} {o : Obj} (hg : wr.heap.size ≤ g) (ho : w'.heap[g]? = some o) : EnX w0 w' S rows [(g, o)] := by
  have h2 := h.below hb
  refine ⟨h2.co, h2.own, h2.sep, h2.apart, h2.bel, fun p hp => ?_⟩
  rw [List.mem_singleton] at hp
  subst hp
  refine ⟨ho, fun hk => ?_, fun r hr e => ?_⟩
  · have := h.co.hi g hk; omega
  · have := (h.own r hr).lt g e; omega
/-- a row grows -/
theorem EnX.app {w0 wr w' : World} {S : CoS} {exts : List (Nat × Obj)} (pre : List (Value × List Int)) {post : List (Value × List Int)} {v v' : Value} {ls ls' : List Int} (h : EnX w0 wr S (pre ++ (v, ls) :: post) exts) (hg : Grew wr v w' v') (ho : OwnI w' w0.heap.size v' ls') : EnX w0 w' S (pre ++ (v', ls') :: post) exts := by
  have hv : (v, ls) ∈ pre ++ (v, ls) :: post := by simp
  have hO : Only (fun j => v.ownBlock = some j) wr w' := (Only.of_grown hg.by_).more fun j _ hj => hj.symm
  have hap := List.pairwise_append.1 h.apart
  have hap2 := List.pairwise_cons.1 hap.2.1
  have hat : ∀ g, v'.ownBlock = some g → v.ownBlock = some g ∨ wr.heap.size ≤ g := fun g hg2 => by
    rcases hg.at_ with h1 | h1
    · rw [h1] at hg2; exact .inl hg2
    · exact .inr (h1 g hg2)
  refine ⟨h.co.only hO (fun j hj hk => h.sep _ hv j hk hj), fun r hr => ?_, fun r hr g hg2 hk => ?_, ?_, h.bel.trans (hO.below h.co.size fun j hj => (h.own _ hv).ge j hj), fun p hp => ?_⟩
  · rcases List.mem_append.1 hr with h1 | h1
    · have hr1 : r ∈ pre ++ (v, ls) :: post := by simp [h1]
      exact (h.own r hr1).kept fun k hk => hO.block k ((h.own r hr1).lt k hk) (fun e => hap.2.2 r h1 (v, ls) (by simp) k hk e)
    · rcases List.mem_cons.1 h1 with h2 | h2
      · subst h2; exact ho
      · have hr1 : r ∈ pre ++ (v, ls) :: post := by simp [h2]
        exact (h.own r hr1).kept fun k hk => hO.block k ((h.own r hr1).lt k hk) (fun e => hap2.1 r h2 k e hk)
  · rcases List.mem_append.1 hr with h1 | h1
    · exact h.sep r (by simp [h1]) g hg2 hk
    · rcases List.mem_cons.1 h1 with h2 | h2
      · subst h2
        rcases hat g hg2 with h3 | h3
        · exact h.sep _ hv g h3 hk
        · have := h.co.hi g hk; omega
      · exact h.sep r (by simp [h2]) g hg2 hk
  · rw [List.pairwise_append, List.pairwise_cons]
    refine ⟨hap.1, ⟨fun r hr g hg2 e => ?_, hap2.2⟩, fun a ha b hb => ?_⟩
    · rcases hat g hg2 with h3 | h3
      · exact hap2.1 r hr g h3 e
      · have := (h.own r (by simp [hr])).lt g e; omega
    · rcases List.mem_cons.1 hb with h2 | h2
      · subst h2
        intro g hg2 e
        rcases hat g e with h3 | h3
        · exact hap.2.2 a ha (v, ls) (by simp) g hg2 h3
        · have := (h.own a (by simp [ha])).lt g hg2; omega
      · exact hap.2.2 a ha b (by simp [h2])
  · obtain ⟨h1, h2, h3⟩ := h.ext p hp
    refine ⟨(hO.block p.1 (lt_of_heap h1) (fun e => h3 _ hv e)).trans h1, h2, fun r hr e => ?_⟩
    rcases List.mem_append.1 hr with h4 | h4
    · exact h3 r (by simp [h4]) e
    · rcases List.mem_cons.1 h4 with h5 | h5
      · subst h5
        rcases hat _ e with h6 | h6
        · exact h3 _ hv h6
        · have := lt_of_heap h1; omega
      · exact h3 r (by simp [h5]) e
end Go.Proofs.Ytogogekmodbdiaa

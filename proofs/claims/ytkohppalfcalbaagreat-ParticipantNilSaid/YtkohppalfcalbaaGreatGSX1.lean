/- Package shard: a change's copy. -/
import Derived.Test.YtkohppalfcalbaaGreatGSB
import Derived.Test.YtkohppalfcalbaaGreatPD
import Derived.Shelf.RegionOpen
namespace Go.Proofs.YtkohppalfcalbaaGreat
section
open Go.RowKit

/-- what a copy of a change is -/
def CcT (w : World) (c : Ch) (en : Ending) (w' : World) : Prop := ∃ (kA' : Option Addr) (kc' : Nat) (rA' : Option Addr) (rc' : Nat), en = .returned (Ch.v ⟨c.s, kA', c.k, kc', rA', c.r, rc', c.d⟩) ∧ OwnB w' w.heap.size (.slice kA' c.k.length kc') c.k ∧ OwnB w' w.heap.size (.slice rA' c.r.length rc') c.r ∧ Below w.heap.size w w'
/-- the two boxes of a copy -/
structure CcB (w W : World) (sb : ByteArray) (kA rA : Option Addr) (kn kc rn rc : Nat) (d : Bool) : Prop where
  bel : Below w.heap.size w W
  size : w.heap.size + 2 ≤ W.heap.size
  a : W.heap[w.heap.size]? = some (.cells #[.string sb, .slice kA kn kc, .slice rA rn rc, .bool d] 62 (0, 0))
  b : W.heap[w.heap.size + 1]? = some (.cells #[.string ⟨#[]⟩, .slice none 0 0, .slice none 0 0, .bool false] 62 (0, 0))
theorem CcB.next {w W W2 : World} {sb : ByteArray} {kA rA : Option Addr} {kn kc rn rc : Nat} {d : Bool} (h : CcB w W sb kA rA kn kc rn rc d) (hb : Below W.heap.size W W2) : CcB w W2 sb kA rA kn kc rn rc d :=
  ⟨h.bel.trans (hb.mono h.bel.size), Nat.le_trans h.size hb.size, (hb.block _ (by have := h.size; omega)).trans h.a, (hb.block _ (by have := h.size; omega)).trans h.b⟩
theorem CcB.new (w : World) (sb : ByteArray) (kA rA : Option Addr) (kn kc rn rc : Nat) (d : Bool) : CcB w ((w.alloc (.cells #[.string sb, .slice kA kn kc, .slice rA rn rc, .bool d] 62)).alloc (.cells #[.string ⟨#[]⟩, .slice none 0 0, .slice none 0 0, .bool false] 62)) sb kA rA kn kc rn rc d := by
  have e1 : (w.alloc (.cells #[.string sb, .slice kA kn kc, .slice rA rn rc, .bool d] 62)).heap.size = w.heap.size + 1 := by simp
  refine ⟨(alloc_below w _).trans ((alloc_below _ _).mono (by simp)), by simp, ?_, ?_⟩
  · rw [Below.heap_alloc _ _ _ (by simp)]
    exact heap_alloc_new w _
  · have h := heap_alloc_new (w.alloc (.cells #[.string sb, .slice kA kn kc, .slice rA rn rc, .bool d] 62)) (.cells #[.string ⟨#[]⟩, .slice none 0 0, .slice none 0 0, .bool false] 62)
    rw [e1] at h
    exact h
theorem OwnB.keptC {K : Nat → Prop} {w w' : World} {B : Nat} {v : Value} {l : List UInt8} (h : OwnB w B v l) (hO : Only K w w') (hK : ∀ b, v.ownBlock = some b → ¬ K b) : OwnB w' B v l := by
  refine ⟨⟨h.1.1, ?_⟩, h.2⟩
  rcases h.1.2 with h1 | ⟨g, cap, cur, h1, h2, h3, h4⟩
  · exact .inl h1
  · exact .inr ⟨g, cap, cur, h1, h2, (hO.block g (Array.getElem?_eq_some_iff.1 h3).1 (hK g (by rw [h1]; rfl))).trans h3, h4⟩
theorem Only.setB {K : Nat → Prop} {w v : World} (h : Only K w v) {b : Nat} (hb : K b) (i : Nat) (u : Value) : Only K w (v.setCell ⟨b, i, none⟩ u) := h.trans ((Only.set v b i u).more (fun j _ e => by rw [e]; exact hb)) (fun _ _ e => e)
theorem frz {w : World} {b : Nat} {cs : Array Value} {t : TypeId} (h : w.heap[b]? = some (.cells cs t (0, 0))) (i : Nat) : w.frozen? ⟨b, i, none⟩ = false := frozen_of h i
/-- behind both stores, and the copy into the answer's box -/
theorem CcB.ends {w W : World} {sb : ByteArray} {kA rA kA' rA' : Option Addr} {kn kc rn rc kc' rc' : Nat} {d : Bool} {s k r : List UInt8} (h : CcB w W sb kA rA kn kc rn rc d) (hs : sb = strB s) (hkn : kn = k.length) (hrn : rn = r.length) (hk : OwnB W (w.heap.size + 2) (.slice kA' kn kc') k) (hr : OwnB W (w.heap.size + 2) (.slice rA' rn rc') r) (V : World)
    (hO : Only (fun j => j = w.heap.size ∨ j = w.heap.size + 1) W V) : CcT w ⟨s, kA, k, kc, rA, r, rc, d⟩ (.returned (.agg #[.string sb, .slice kA' kn kc', .slice rA' rn rc', .bool d])) V := by
  subst hs hkn hrn
  exact ⟨kA', kc', rA', rc', rfl, (hk.keptC hO (fun b hb e => by have := hk.ge b hb; omega)).down (by omega), (hr.keptC hO (fun b hb e => by have := hr.ge b hb; omega)).down (by omega), h.bel.trans (hO.below h.bel.size (fun j e => by omega))⟩
set_option maxRecDepth 100000 in
set_option maxHeartbeats 8000000 in
theorem chCopied_any (c : Ch) (w : World) (hk : RdB w w.heap.size c.kA c.k) (hr : RdB w w.heap.size c.rA c.r) (hkl : c.k.length ≤ 100000) (hrl : c.r.length ≤ 100000) :
    Calls Tryz.prog 52 #[c.v] w (CcT w c) := by
  obtain ⟨s, kA, k, kc, rA, r, rc, d⟩ := c
  simp only [Ch.v] at hk hr hkl hrl ⊢
  obtain ⟨sb, hsb⟩ : ∃ sb, strB s = sb := ⟨_, rfl⟩
  obtain ⟨kn, hkn⟩ : ∃ m, k.length = m := ⟨_, rfl⟩
  obtain ⟨rn, hrn⟩ : ∃ m, r.length = m := ⟨_, rfl⟩
  have HX := Lib.hid (CcB.new w sb kA rA kn kc rn rc d)
  have HK : Hid (∀ W, Below w.heap.size w W → Calls Tryz.prog 71 #[.slice kA kn kc] W (CloneTo W k)) := Lib.hid fun W hb => cloneA_any k kA _ _ hkn W hkl ((hk.below hb (Nat.le_refl _)).more hb.size)
  have HR : Hid (∀ W, Below w.heap.size w W → Calls Tryz.prog 71 #[.slice rA rn rc] W (CloneTo W r)) := Lib.hid fun W hb => cloneA_any r rA _ _ hrn W hrl ((hr.below hb (Nat.le_refl _)).more hb.size)
  rw [hsb, hkn, hrn]
  have HN := Lib.hid (And.intro hsb (And.intro hkn hrn))
  clear hk hr hkl hrl hsb hkn hrn
  go_enter Tryz.func52, Tryz.ntmps52
  go_upto_region 1 with fail
  obtain ⟨w0, hw0⟩ : ∃ w0, w0 = (w.alloc (.cells #[.string sb, .slice kA kn kc, .slice rA rn rc, .bool d] 62)).alloc (.cells #[.string ⟨#[]⟩, .slice none 0 0, .slice none 0 0, .bool false] 62) := ⟨_, rfl⟩
  rw [← hw0] at HX ⊢
  clear hw0
  obtain ⟨x0, x1, x2, x3⟩ := box4S HX.out.a
  go_region_law (first
    | (go_simp; go_at_call 71; (with_reducible refine (HK.out _ (by first | exact HX.out.bel | exact HX.out.bel.trans ((drew_below _).mono HX.out.bel.size) | exact HX.out.bel.trans ((drewN_below _ _).mono HX.out.bel.size))).mono ?_); rintro e w2 ⟨v, rfl, ho, hb⟩
       obtain ⟨A', c', rfl⟩ := ho.new
       rw [HN.out.2.1] at ho ⊢
       have HOK := Lib.hid (CpO.of (B := w.heap.size + 2) ho (by have := HX.out.size; first | exact this | exact Nat.le_trans this (drew_below _).size | exact Nat.le_trans this (drewN_below _ _).size))
       have HX := Lib.hid (by first | exact HX.out.next hb | exact HX.out.next (below_drew hb) | exact (HX.out.next (drewN_below _ _)).next hb)
       obtain ⟨x0, x1, x2, x3⟩ := box4S HX.out.a
       try (have HOR := Lib.hid (by first | exact HOR.out.next hb | exact HOR.out.next (below_drew hb) | exact (HOR.out.next (drewN_below _ _)).next hb))
       have z1 := frz HX.out.a 1
       have z2 := frz HX.out.a 2
       clear ho hb)
    | (go_simp; go_at_call 71; (with_reducible refine (HR.out _ (by first | exact HX.out.bel | exact HX.out.bel.trans ((drew_below _).mono HX.out.bel.size) | exact HX.out.bel.trans ((drewN_below _ _).mono HX.out.bel.size))).mono ?_); rintro e w2 ⟨v, rfl, ho, hb⟩
       obtain ⟨A', c', rfl⟩ := ho.new
       rw [HN.out.2.2] at ho ⊢
       have HOR := Lib.hid (CpO.of (B := w.heap.size + 2) ho (by have := HX.out.size; first | exact this | exact Nat.le_trans this (drew_below _).size | exact Nat.le_trans this (drewN_below _ _).size))
       have HX := Lib.hid (by first | exact HX.out.next hb | exact HX.out.next (below_drew hb) | exact (HX.out.next (drewN_below _ _)).next hb)
       obtain ⟨x0, x1, x2, x3⟩ := box4S HX.out.a
       try (have HOK := Lib.hid (by first | exact HOK.out.next hb | exact HOK.out.next (below_drew hb) | exact (HOK.out.next (drewN_below _ _)).next hb))
       have z1 := frz HX.out.a 1
       have z2 := frz HX.out.a 2
       clear ho hb))
  all_goals
    have HZ : Hid (∀ V, Only (fun j => j = w.heap.size ∨ j = w.heap.size + 1) w2 V → CcT w ⟨s, kA, k, kc, rA, r, rc, d⟩ (.returned (.agg #[.string sb, .slice _ kn _, .slice _ rn _, .bool d])) V) := Lib.hid fun V hO => HX.out.ends HN.out.1.symm HN.out.2.1.symm HN.out.2.2.symm HOK.out.own HOR.out.own V hO
    obtain ⟨y0, y1, y2, y3⟩ := box4S HX.out.b
    have q0 := frz HX.out.b 0
    have q1 := frz HX.out.b 1
    have q2 := frz HX.out.b 2
    have q3 := frz HX.out.b 3
    go_wp2_with fail
    refine bodyPost_ret (v := Value.agg #[_, _, _, _]) (by simp [results, Tryz.results52, go_sem, y0, y1, y2, y3]; exact ⟨rfl, rfl, rfl, rfl⟩) rfl ?_
    exact HZ.out _ (((((((Only.of_below (K := fun j => j = w.heap.size ∨ j = w.heap.size + 1) (Below.refl w2.heap.size w2)).setB (.inl rfl) _ _).setB (.inl rfl) _ _).setB (.inr rfl) _ _).setB (.inr rfl) _ _).setB (.inr rfl) _ _).setB (.inr rfl) _ _)
end

section
open Go.RowKit

theorem infoC : (Tryz.prog.info? 62).map (fun i => (i.zero, i.size, i.bytes)) = some (some (.agg #[.string ⟨#[]⟩, .slice none 0 0, .slice none 0 0, .bool false]), 4, 72) := by kernel_rfl
theorem box3S {w : World} {b : Nat} {x0 x1 x2 : Value} {t : TypeId} {fr : Nat × Nat} (h : w.heap[b]? = some (.cells #[x0, x1, x2] t fr)) : w.cell? ⟨b, 0, none⟩ = some x0 ∧ w.cell? ⟨b, 1, none⟩ = some x1 ∧ w.cell? ⟨b, 2, none⟩ = some x2 := by
  simp [World.cell?, h]
theorem putM_len {K V : Type} [DecidableEq K] (T : List (K × V)) (x : K) (v : V) : (putM T x v).length ≤ T.length + 1 := by
  unfold putM dropM
  rw [List.length_append, List.length_singleton]
  have := List.length_filter_le (fun e : K × V => decide (e.1 ≠ x)) T
  omega
theorem lastL_len (cs : List Ch) : (lastL cs).length ≤ cs.length := by
  unfold lastL
  have : ∀ (l : List (Ch × Nat)) (T : List (Plc × Int)), (l.foldl (fun T x => putM T (plcOf x.1.s x.1.k) (x.2 : Int)) T).length ≤ T.length + l.length := by
    intro l
    induction l with
    | nil => intro T; exact Nat.le_refl _
    | cons a l ih =>
      intro T
      rw [List.foldl_cons, List.length_cons]
      have h1 := ih (putM T (plcOf a.1.s a.1.k) (a.2 : Int))
      have h2 := putM_len T (plcOf a.1.s a.1.k) (a.2 : Int)
      omega
  have h := this cs.zipIdx []
  rw [List.length_zipIdx] at h
  simpa using h
/-- what add leaves -/
def AdT (w : World) (ℓ : Nat → Nat) (L : Nat) (t : Tr) (c : Ch) (e : Ending) (w' : World) : Prop := e = .returned (.tuple #[]) ∧ ∃ g' v', (g' = t.g ∨ w.heap.size ≤ g') ∧ g' < w'.heap.size ∧ Only (fun k => k = t.b ∨ k = t.g ∨ k = t.m) w w' ∧ ∀ ℓ', (∀ k, k < w.heap.size → ℓ' k = ℓ k) → ℓ' g' = L → TrOk w' ℓ' L ⟨t.b, g', t.m, v', t.cs ++ [c], t.p⟩
theorem ad_end {w w2 w3 w4 w5 : World} {ℓ : Nat → Nat} {L g' : Nat} {t : Tr} {c : Ch} {v5 : Value} (h : TrOk w ℓ L t) (hc : ChOk w ℓ c) (hL : L ≠ 0) (hf : t.cs.length < 1000) (hb2 : Below w.heap.size w w2) (hm : MapM lastW w3 t.m (putM (lastL t.cs) (plcOf c.s c.k) (t.cs.length : Int))) (hO3 : Only (· = t.m) w2 w3) (hb4 : Below w3.heap.size w3 w4)
    (h5 : HeldC w5 t.b g' 4 v5 (t.cs.length + 1) (chV t.cs ++ c.cells)) (hO5 : Only (fun k => k = t.g ∧ k ≠ t.b) w4 w5) (hg : g' = t.g ∨ w4.heap.size ≤ g') : AdT w ℓ L t c (.returned (.tuple #[])) (w5.setCell ⟨t.b, 0, none⟩ v5) := by
  have hbl := (Array.getElem?_eq_some_iff.1 h.box).1
  have hml := h.map.lt
  have hgl := h.row.ltL hbl
  have s2 := hb2.size
  have s3 := hO3.size
  have s4 := hb4.size
  have s5 := hO5.size
  have hmb : t.b ≠ t.m := h.map.noCells h.box
  have hS := Only.set w5 t.b 0 v5
  have hmg := h.ne
  have hgb : g' ≠ t.b := by
    rcases h5 with ⟨_, h0, _⟩ | ⟨hne, _⟩
    · omega
    · exact hne
  have hg5 : g' < w5.heap.size := by
    rcases h5 with ⟨_, h0, _⟩ | ⟨_, o, cap, _, ho⟩
    · omega
    · exact ho.lt
  have s6 := hS.size
  have hO6 : Only (fun k => k = t.b ∨ k = t.g ∨ k = t.m) w (w5.setCell ⟨t.b, 0, none⟩ v5) :=
    ((((Only.of_below (K := fun k => k = t.b ∨ k = t.g ∨ k = t.m) hb2).trans (hO3.more (fun j _ e => .inr (.inr e))) (fun _ _ e => e)).trans (Only.of_below (K := fun k => k = t.b ∨ k = t.g ∨ k = t.m) hb4) (fun _ _ e => e)).trans (hO5.more (fun j _ e => .inr (.inl e.1))) (fun _ _ e => e)).trans (hS.more (fun j _ e => .inl e)) (fun _ _ e => e)
  have hbx : w5.heap[t.b]? = some (.cells #[t.v, .map (some t.m), .bool t.p] 96 (0, 0)) := (hO5.block t.b (by omega) (fun e => e.2 rfl)).trans ((hb4.block t.b (by omega)).trans ((hO3.block t.b (by omega) hmb).trans ((hb2.block t.b hbl).trans h.box)))
  have hm5 : MapM lastW w5 t.m (putM (lastL t.cs) (plcOf c.s c.k) (t.cs.length : Int)) := (hm.below hb4).kept (hO5.block t.m (by omega) (fun e => hmg e.1.symm))
  refine ⟨rfl, g', v5, by omega, by omega, hO6, fun ℓ' he hl => ⟨?_, ?_, ?_, fun x hx => ?_, ⟨by rw [he _ hbl]; exact h.lb.1, hl, by rw [he _ hml]; exact h.lb.2.2⟩, by rw [List.length_append, List.length_singleton]; omega, by show g' ≠ t.m; omega⟩⟩
  · simp [World.setCell, Array.getElem?_modify, hbx]
  · show HeldC _ t.b g' 4 v5 (t.cs ++ [c]).length (chV (t.cs ++ [c]))
    rw [List.length_append, List.length_singleton, chV_app]
    have e : chV [c] = c.cells := by simp [chV]
    rw [e]
    exact h5.only hS (fun _ e => hgb e)
  · show MapM lastW _ t.m (lastL (t.cs ++ [c]))
    rw [lastL_app]
    exact hm5.kept (hS.block t.m (by omega) (fun e => hmb e.symm))
  · have h0 : ∀ k, ℓ' k = 0 → ¬ (k = t.b ∨ k = t.g ∨ k = t.m) := fun k hk e => by
      rcases e with e | e | e
      · rw [e, he _ hbl, h.lb.1] at hk; exact hL hk
      · rw [e, he _ hgl, h.lb.2.1] at hk; exact hL hk
      · rw [e, he _ hml, h.lb.2.2] at hk; exact hL hk
    have hx2 : ChOk w ℓ x := by
      rcases List.mem_append.1 hx with hx | hx
      · exact h.ok x hx
      · rw [List.mem_singleton.1 hx]; exact hc
    exact (hx2.relabel he).only hO6 h0
/-- behind the place's store -/
def AdM (w1 : World) (t : Tr) (T : List (Plc × Int)) (W : World) : Prop := ∃ w2, Below w1.heap.size w1 w2 ∧ MapM lastW W t.m T ∧ Only (· = t.m) w2 W
attribute [-go_sem] Builtin.append_
set_option maxRecDepth 100000 in
set_option maxHeartbeats 8000000 in
theorem add_any {w : World} {ℓ : Nat → Nat} {L : Nat} {t : Tr} (h : TrOk w ℓ L t) (c : Ch) (hc : ChOk w ℓ c) (hL : L ≠ 0) (hf : t.cs.length < 1000) : Calls Tryz.prog 51 #[.pointer (some ⟨t.b, 0, none⟩), c.v] w (AdT w ℓ L t c) := by
  obtain ⟨s, kA, k, kc, rA, r, rc, d⟩ := c
  simp only [Ch.v]
  obtain ⟨A, cap, hv, hcap, _⟩ := h.row.slice
  obtain ⟨n, hn⟩ : ∃ n, t.cs.length = n := ⟨_, rfl⟩
  rw [hn] at hv hcap
  have HT := Lib.hid h
  have HC := Lib.hid hc
  have HN := Lib.hid hn
  have HV := Lib.hid hv
  have HHC := Lib.hid (And.intro hc (And.intro hL hf))
  have hni : (n : Int) ≤ 1000 := by omega
  obtain ⟨w1, hw1⟩ : ∃ w1, w1 = w.alloc (.cells #[.string (strB s), .slice kA k.length kc, .slice rA r.length rc, .bool d] 62) := ⟨_, rfl⟩
  have hb1 : Below w.heap.size w w1 := by rw [hw1]; exact alloc_below _ _
  have hs1 : w1.heap.size = w.heap.size + 1 := by rw [hw1]; simp
  have hx1 : w1.heap[w.heap.size]? = some (.cells #[.string (strB s), .slice kA k.length kc, .slice rA r.length rc, .bool d] 62 (0, 0)) := by rw [hw1]; exact heap_alloc_new w _
  have HW1 := Lib.hid hw1
  have HB1 := Lib.hid hb1
  have HS1 := Lib.hid hs1
  have HX1 := Lib.hid hx1
  have hbl := (Array.getElem?_eq_some_iff.1 h.box).1
  have HBX : Hid (∀ W, Below w1.heap.size w1 W → W.cell? ⟨t.b, 0, none⟩ = some (.slice A n cap) ∧ W.cell? ⟨t.b, 1, none⟩ = some (.map (some t.m)) ∧ W.cell? ⟨w.heap.size, 0, none⟩ = some (.string (strB s)) ∧ W.cell? ⟨w.heap.size, 1, none⟩ = some (.slice kA k.length kc) ∧ W.cell? ⟨w.heap.size, 2, none⟩ = some (.slice rA r.length rc) ∧ W.cell? ⟨w.heap.size, 3, none⟩ = some (.bool d)) := Lib.hid fun W hb => by
    obtain ⟨e1, e2, _⟩ := box3S ((hb.block _ (by omega)).trans ((hb1.block _ hbl).trans h.box))
    rw [hv] at e1
    obtain ⟨f0, f1, f2, f3⟩ := box4S ((hb.block _ (by omega)).trans hx1)
    exact ⟨e1, e2, f0, f1, f2, f3⟩
  have HPL : Hid (∀ W, Below w1.heap.size w1 W → Calls Tryz.prog 53 #[.agg #[.string (strB s), .slice kA k.length kc, .slice rA r.length rc, .bool d]] W (Ans (.agg #[.string (strB s), .string (strB k)]) W)) := Lib.hid fun W hb => place_any ⟨s, kA, k, kc, rA, r, rc, d⟩ W (((hc.key.below hb1 (Nat.le_refl _)).below hb (by omega)).more (Nat.le_trans hb1.size hb.size))
  have HST : Hid (∀ W, Below w1.heap.size w1 W → ∃ w3, (Instr.mapUpdate 94 (.map (some t.m)) (.agg #[.string (strB s), .string (strB k)]) (.int .i64 (n : Int))).run Tryz.prog W = .ok () w3 ∧ MapM lastW w3 t.m (putM (lastL t.cs) (plcOf s k) (t.cs.length : Int)) ∧ Only (· = t.m) W w3) := Lib.hid fun W hb => by
    have hm := (h.map.below hb1).below hb
    obtain ⟨w3, h1, h2, h3⟩ := hm.store last_good (by have := lastL_len t.cs; omega) (x := plcOf s k) trivial (t.cs.length : Int)
    refine ⟨w3, ?_, h2, h3⟩
    have l1 : s.length ≤ 32 := hc.len.1
    have l2 : k.length ≤ 200 := hc.len.2.1
    rw [← plcOf_v (by unfold maxLen; omega) (by unfold maxLen; omega), ← hn]
    exact h1
  obtain ⟨x0, x1, x2, x3, x4, x5⟩ := HBX.out w1 (Below.refl _ _)
  obtain ⟨sb, hsb⟩ : ∃ sb, strB s = sb := ⟨_, rfl⟩
  obtain ⟨kb, hkb⟩ : ∃ kb, strB k = kb := ⟨_, rfl⟩
  obtain ⟨kn, hkn⟩ : ∃ m, k.length = m := ⟨_, rfl⟩
  obtain ⟨rn, hrn⟩ : ∃ m, r.length = m := ⟨_, rfl⟩
  rw [hsb, hkn, hrn] at HBX HPL HW1 HX1
  rw [hsb] at HST x2
  rw [hkb] at HPL HST
  rw [hkn] at x3
  rw [hrn] at x4
  rw [hsb, hkn, hrn]
  have HSB := Lib.hid (And.intro hsb (And.intro hkn hrn))
  clear h hc hv hcap hn hw1 hb1 hs1 hx1 hbl hkn hrn hkb hsb
  go_enter Tryz.func51, Tryz.ntmps51
  go_upto_region 1 with fail
  rw [← HW1.out]
  go_cut [3] (fun v3 W => v3 = .pointer (some ⟨w.heap.size, 0, none⟩) ∧ AdM w1 t (putM (lastL t.cs) (plcOf s k) (t.cs.length : Int)) W)
  case first =>
    go_region_law (first
      | (go_simp; go_at_call 53; refine (HPL.out _ (by first | exact drew_below _ | exact Below.refl _ _ | exact drewN_below _ _)).mono ?_; rintro e w2 ⟨rfl, hb⟩
         have HB2 := Lib.hid (by first | exact below_drew hb | exact (drewN_below _ _).trans (hb.mono (drewN_below _ _).size) | exact hb)
         obtain ⟨w3, hrun, hm3, hO3⟩ := HST.out w2 HB2.out
         have HM3 := Lib.hid hm3
         have HO3 := Lib.hid hO3
         obtain ⟨x0, x1, x2, x3, x4, x5⟩ := HBX.out w2 HB2.out
         clear hb hm3 hO3))
    all_goals
      go_wp2_with fail
      go_meet
      exact ⟨rfl, w2, HB2.out, HM3.out, HO3.out⟩
  case rest =>
    obtain ⟨rfl, w2, hb2, hm3, hO3⟩ := hcut
    clear x0 x1 x2 x3 x4 x5
    have hbt := (Array.getElem?_eq_some_iff.1 HT.out.box).1
    have hmt := HT.out.map.lt
    have hmb : t.b ≠ t.m := HT.out.map.noCells HT.out.box
    have s1 := HS1.out
    have s2 := hb2.size
    have h3b : wc.heap[t.b]? = _ := (hO3.block t.b (by omega) hmb).trans ((hb2.block t.b (by omega)).trans ((HB1.out.block t.b hbt).trans HT.out.box))
    have h3c : wc.heap[w.heap.size]? = _ := (hO3.block w.heap.size (by omega) (by omega)).trans ((hb2.block w.heap.size (by omega)).trans HX1.out)
    obtain ⟨W3, hW3⟩ : ∃ W, W = wc := ⟨_, rfl⟩
    subst hW3
    obtain ⟨x0, x1, _⟩ := box3S h3b
    rw [HV.out] at x0
    obtain ⟨x2, x3, x4, x5⟩ := box4S h3c
    have hgt := HT.out.row.ltL hbt
    have hs3 := hO3.size
    have hb4 := alloc_below W3 (.cells #[.string sb, .slice kA kn kc, .slice rA rn rc, .bool d] 62)
    have hrow4 := (((HT.out.row.only (Only.of_below (K := fun _ => False) (HB1.out.trans (hb2.mono HB1.out.size))) (fun _ => id)).only hO3 (fun _ e => HT.out.ne e)).only (Only.of_below (K := fun _ => False) hb4) (fun _ => id))
    obtain ⟨i0, hi, hz0, hz1, hz2⟩ := info_parts infoC
    have hb5 : Below W3.heap.size W3 (W3.alloc (.cells #[.string sb, .slice kA kn kc, .slice rA rn rc, .bool d] 62)).drew := hb4.trans ((drew_below _).mono hb4.size)
    have hAP : ∃ A5 c5 w5, (Builtin.append_ #[43, 43] 43 #[.slice A n cap, .slice (some ⟨W3.heap.size, 0, none⟩) 1 1]).run Tryz.prog (W3.alloc (.cells #[.string sb, .slice kA kn kc, .slice rA rn rc, .bool d] 62)).drew = .ok (.slice A5 (n + 1) c5) w5 ∧ w5.cell? ⟨t.b, 0, none⟩ = some (.slice A n cap) ∧ w5.frozen? ⟨t.b, 0, none⟩ = false ∧ AdT w ℓ L t ⟨s, kA, k, kc, rA, r, rc, d⟩ (.returned (.tuple #[])) (w5.setCell ⟨t.b, 0, none⟩ (.slice A5 (n + 1) c5)) := by
      obtain ⟨V, hV⟩ : ∃ V, V = (W3.alloc (.cells #[.string sb, .slice kA kn kc, .slice rA rn rc, .bool d] 62)).drew := ⟨_, rfl⟩
      have hn4 : V.heap[W3.heap.size]? = some (.cells #[.string sb, .slice kA kn kc, .slice rA rn rc, .bool d] 62 (0, 0)) := by rw [hV]; exact ((drew_below _).block _ (by simp)).trans (heap_alloc_new W3 _)
      rw [← hV] at hb5 ⊢
      have hrow5 := ((HT.out.row.only (Only.of_below (K := fun _ => False) (HB1.out.trans (hb2.mono HB1.out.size))) (fun _ => id)).only hO3 (fun _ e => HT.out.ne e)).only (Only.of_below (K := fun _ => False) hb5) (fun _ => id)
      rw [HV.out, HN.out] at hrow5
      obtain ⟨n1, n2, n3, n4⟩ := box4S hn4
      have hsr : ∀ j u, [Value.string sb, Value.slice kA kn kc, Value.slice rA rn rc, Value.bool d][j]? = some u → V.cell? ((⟨W3.heap.size, 0, none⟩ : Addr).add j) = some u := fun j u hj => by
        rw [Addr.add_lit, Nat.zero_add]
        match j with
        | 0 => simp at hj; subst hj; exact n1
        | 1 => simp at hj; subst hj; exact n2
        | 2 => simp at hj; subst hj; exact n3
        | 3 => simp at hj; subst hj; exact n4
        | j + 4 => simp at hj
      obtain ⟨g5, v5, w5, hrun, hrow, hO, hg5⟩ := run_appHC (P := Tryz.prog) 43 43 62 Tryz.underlying43 hi hz0 hz1 hz2 (by simp [Value.cells]) (by decide) hrow5 (by have := hb5.size; omega) (a := ⟨W3.heap.size, 0, none⟩) (m := 1) (c := 1) (ys := [.string sb, .slice kA kn kc, .slice rA rn rc, .bool d]) rfl hsr (by simp [Value.oneCell']) (by omega) (by omega)
      obtain ⟨A5, c5, hv5, _, _⟩ := hrow.slice
      subst hv5
      have hbx5 : w5.heap[t.b]? = _ := (hO.block t.b (by have := hb5.size; omega) (fun e => e.2 rfl)).trans ((hb5.block t.b (by omega)).trans h3b)
      have hc5 := (box3S hbx5).1
      rw [HV.out] at hc5
      obtain ⟨hc0, hL0, hf0⟩ := HHC.out
      refine ⟨A5, c5, w5, hrun, hc5, frz hbx5 0, ?_⟩
      have e1 : (Ch.cells ⟨s, kA, k, kc, rA, r, rc, d⟩) = [.string sb, .slice kA kn kc, .slice rA rn rc, .bool d] := by rw [← HSB.out.1, ← HSB.out.2.1, ← HSB.out.2.2]; rfl
      refine ad_end HT.out hc0 hL0 hf0 (HB1.out.trans (hb2.mono HB1.out.size)) hm3 hO3 hb5 ?_ hO hg5
      rw [HN.out, e1]
      exact hrow
    obtain ⟨A5, c5, w5, hrun, hc5, hf5, had⟩ := hAP
    have HAD := Lib.hid had
    have x0a := (box3S ((hb4.block t.b (by omega)).trans h3b)).1
    rw [HV.out] at x0a
    clear hb2 hm3 hO3 hbt hmt hmb s1 s2 h3b h3c hgt hs3 hb4 hrow4 hb5 had hi hz0 hz1 hz2
    go_wp2_with fail
    go_region_law (fail)
    all_goals
      go_wp2_with fail
      refine bodyPost_end (v := .tuple #[]) (by simp [results, Tryz.results51, go_sem]) rfl ?_
      exact HAD.out
end

section
open Go.RowKit

/-- a transaction that is known: its number, its label, itself -/
structure ShT where
  n : Int
  L : Nat
  t : Tr
def knT (T : List ShT) : List (Int × Option Nat) := T.map fun x => (x.n, some x.t.b)
def fndT (T : List ShT) (n : Int) : Option ShT := T.find? fun x => decide (x.n = n)
theorem fndT_some {T : List ShT} {n : Int} {x : ShT} (h : fndT T n = some x) : x ∈ T ∧ x.n = n := ⟨List.mem_of_find?_eq_some h, by simpa using List.find?_some h⟩
theorem at_kn (T : List ShT) (n : Int) : atM knownW (knT T) n = (fndT T n).map (·.t.b) := by
  have h : findM (knT T) n = (fndT T n).map fun x => (x.n, some x.t.b) := by
    unfold findM knT fndT
    rw [List.find?_map]
    rfl
  unfold atM
  rw [h]
  cases fndT T n <;> rfl
/-- the transactions of a shard: its box c, of disk p, log q, tables' map sm; their map km -/
structure Kn (w : World) (ℓ : Nat → Nat) (c p q sm km : Nat) (T : List ShT) : Prop where
  box : w.heap[c]? = some (.cells #[.pointer (some ⟨p, 0, none⟩), .pointer (some ⟨q, 0, none⟩), .map (some sm), .map (some km)] 77 (0, 0))
  map : MapM knownW w km (knT T)
  tr : ∀ x ∈ T, TrOk w ℓ x.L x.t
  num : ∀ x ∈ T, 0 ≤ x.n ∧ x.n ≤ 1099511627776
  lb : ℓ c = 1 ∧ ℓ km = 1
  own : ∀ x ∈ T, 2 ≤ x.L
  apart : T.Pairwise fun a b => a.L ≠ b.L
theorem Kn.look {w : World} {ℓ : Nat → Nat} {c p q sm km : Nat} {T : List ShT} (h : Kn w ℓ c p q sm km T) {n : Int} (hn : i64ok n) : (Instr.lookup 75 (.map (some km)) (.int .i64 n) false).run Tryz.prog w = .ok (ptrV ((fndT T n).map (·.t.b))) w := by
  have h1 := h.map.look known_good (x := n) hn
  rw [at_kn] at h1
  exact h1
set_option maxRecDepth 100000 in
theorem sClosed_any {w : World} {ℓ : Nat → Nat} {c p q sm km : Nat} {T : List ShT} (h : Kn w ℓ c p q sm km T) : Calls Tryz.prog 46 #[.pointer (some ⟨c, 0, none⟩)] w (Looks (.bool false) w) := by
  obtain ⟨_, c1, _, _⟩ := box4S h.box
  have hnil : ∀ (w : World) (a : Option Addr), (binOp .eql 71 (.pointer a) (.pointer none)).run Tryz.prog w = .ok (.bool a.isNone) w := fun w a => by cases a <;> rfl
  clear h
  go_enter Tryz.func46, Tryz.ntmps46
  go_wp2_with fail
  go_ret
  exact ⟨rfl, rfl⟩
/-- what find answers -/
def fdV (T : List ShT) (n : Int) : Value := match fndT T n with | some x => .tuple #[.pointer (some ⟨x.t.b, 0, none⟩), .int .i64 0] | none => .tuple #[.pointer none, .int .i64 101]
set_option maxRecDepth 100000 in
theorem find_tx {w : World} {ℓ : Nat → Nat} {c p q sm km : Nat} {T : List ShT} (h : Kn w ℓ c p q sm km T) {n : Int} (hn : i64ok n) : Calls Tryz.prog 40 #[.pointer (some ⟨c, 0, none⟩), .int .i64 n] w (Looks (fdV T n) w) := by
  have HC := Lib.hid (sClosed_any h)
  obtain ⟨_, _, _, c3⟩ := box4S h.box
  have hlk := h.look hn
  have hnil : ∀ (w : World) (a : Option Addr), (binOp .eql 81 (.pointer a) (.pointer none)).run Tryz.prog w = .ok (.bool a.isNone) w := fun w a => by cases a <;> rfl
  clear h
  unfold fdV
  cases hf : fndT T n with
  | none =>
    rw [hf] at hlk
    simp only [Option.map_none, ptrV] at hlk
    clear hf
    go_enter Tryz.func40, Tryz.ntmps40
    go_wp2_with (go_at_call 46; refine HC.out.mono ?_; rintro e w1 ⟨rfl, rfl⟩)
    go_ret2
    exact ⟨rfl, rfl⟩
  | some x =>
    rw [hf] at hlk
    simp only [Option.map_some, ptrV] at hlk
    clear hf
    go_enter Tryz.func40, Tryz.ntmps40
    go_wp2_with (go_at_call 46; refine HC.out.mono ?_; rintro e w1 ⟨rfl, rfl⟩)
    go_ret2
    exact ⟨rfl, rfl⟩
/-- what active answers -/
def acV (T : List ShT) (n : Int) : Value := match fndT T n with | some x => if x.t.p then .tuple #[.pointer none, .int .i64 102] else .tuple #[.pointer (some ⟨x.t.b, 0, none⟩), .int .i64 0] | none => .tuple #[.pointer none, .int .i64 101]
set_option maxRecDepth 100000 in
theorem active_tx {w : World} {ℓ : Nat → Nat} {c p q sm km : Nat} {T : List ShT} (h : Kn w ℓ c p q sm km T) {n : Int} (hn : i64ok n) : Calls Tryz.prog 49 #[.pointer (some ⟨c, 0, none⟩), .int .i64 n] w (Looks (acV T n) w) := by
  have HF := Lib.hid (find_tx h hn)
  cases hf : fndT T n with
  | none =>
    unfold acV
    rw [fdV, hf] at HF
    rw [hf]
    simp only at HF ⊢
    clear hf h
    go_enter Tryz.func49, Tryz.ntmps49
    go_wp2_with (go_at_call 40; refine HF.out.mono ?_; rintro e w1 ⟨rfl, rfl⟩)
    go_ret2
    exact ⟨rfl, rfl⟩
  | some x =>
    obtain ⟨hx, _⟩ := fndT_some hf
    obtain ⟨_, _, x2⟩ := box3S (h.tr x hx).box
    obtain ⟨xn, xL, b, g, m, v, cs, pr⟩ := x
    unfold acV
    rw [fdV, hf] at HF
    rw [hf]
    simp only at HF x2 ⊢
    clear hf hx h
    cases pr
    · simp only [Bool.false_eq_true, if_false]
      go_enter Tryz.func49, Tryz.ntmps49
      go_wp2_with (go_at_call 40; refine HF.out.mono ?_; rintro e w1 ⟨rfl, rfl⟩)
      go_ret2
      exact ⟨rfl, rfl⟩
    · simp only [if_true]
      go_enter Tryz.func49, Tryz.ntmps49
      go_wp2_with (go_at_call 40; refine HF.out.mono ?_; rintro e w1 ⟨rfl, rfl⟩)
      go_ret2
      exact ⟨rfl, rfl⟩
/-- what Mark answers -/
def mkN (T : List ShT) (n : Int) : Nat := match fndT T n with | some x => x.t.cs.length | none => 0
theorem HeldC.lens {w : World} {q g sz n : Nat} {v : Value} {vs : List Value} (h : HeldC w q g sz v n vs) : ∃ A cap, v = .slice A n cap := by
  rcases h with ⟨h1, h2, _, _⟩ | ⟨_, o, cap, h1, _⟩
  · exact ⟨none, 0, by rw [h2]; exact h1⟩
  · exact ⟨_, _, h1⟩
set_option maxRecDepth 100000 in
theorem mark_tx {w : World} {ℓ : Nat → Nat} {c p q sm km : Nat} {T : List ShT} (h : Kn w ℓ c p q sm km T) {n : Int} (hn : i64ok n) : Calls Tryz.prog 21 #[.pointer (some ⟨c, 0, none⟩), .int .i64 n] w (Looks (.int .i64 (mkN T n : Int)) w) := by
  have HF := Lib.hid (find_tx h hn)
  cases hf : fndT T n with
  | none =>
    unfold mkN
    rw [fdV, hf] at HF
    rw [hf]
    simp only at HF ⊢
    clear hf h
    go_enter Tryz.func21, Tryz.ntmps21
    go_wp2_with (go_at_call 40; refine HF.out.mono ?_; rintro e w1 ⟨rfl, rfl⟩)
    go_ret
    exact ⟨rfl, rfl⟩
  | some x =>
    obtain ⟨hx, _⟩ := fndT_some hf
    obtain ⟨x0, _, _⟩ := box3S (h.tr x hx).box
    obtain ⟨A, cap, hv⟩ := (h.tr x hx).row.lens
    rw [hv] at x0
    have hle : (x.t.cs.length : Int) ≤ 9223372036854775807 := by have := (h.tr x hx).few; omega
    obtain ⟨xn, xL, b, g, m, v, cs, pr⟩ := x
    unfold mkN
    rw [fdV, hf] at HF
    rw [hf]
    simp only at HF x0 hle ⊢
    clear hf hx h hv
    go_enter Tryz.func21, Tryz.ntmps21
    go_wp2_with (go_at_call 40; refine HF.out.mono ?_; rintro e w1 ⟨rfl, rfl⟩)
    go_ret
    exact ⟨rfl, rfl⟩
set_option maxRecDepth 100000 in
theorem valid_tx (n : Int) (w : World) : Calls Tryz.prog 47 #[.int .i64 n] w (Looks (.bool (decide (0 ≤ n) && decide (n ≤ 1099511627776))) w) := by
  by_cases h0 : 0 ≤ n
  · by_cases h1 : n ≤ 1099511627776
    · rw [decide_eq_true h0, decide_eq_true h1]
      go_enter Tryz.func47, Tryz.ntmps47
      go_wp2_with fail
      go_ret
      exact ⟨rfl, rfl⟩
    · rw [decide_eq_true h0, decide_eq_false h1]
      go_enter Tryz.func47, Tryz.ntmps47
      go_wp2_with fail
      go_ret
      exact ⟨rfl, rfl⟩
  · rw [decide_eq_false h0]
    go_enter Tryz.func47, Tryz.ntmps47
    go_wp2_with fail
    go_ret
    exact ⟨rfl, rfl⟩
/-- by a turn that keeps what it is made of -/
theorem Kn.only {K : Nat → Prop} {w w' : World} {ℓ : Nat → Nat} {c p q sm km : Nat} {T : List ShT} (h : Kn w ℓ c p q sm km T) (hO : Only K w w') (hc : ¬ K c) (hm : ¬ K km) (h0 : ∀ k, ℓ k = 0 → ¬ K k) (h2 : ∀ k, 2 ≤ ℓ k → ¬ K k) : Kn w' ℓ c p q sm km T :=
  ⟨(hO.block c (Array.getElem?_eq_some_iff.1 h.box).1 hc).trans h.box, h.map.kept (hO.block km h.map.lt hm), fun x hx => (h.tr x hx).only hO h0 fun k e => h2 k (by rw [e]; exact h.own x hx), h.num, h.lb, h.own, h.apart⟩
theorem Kn.below {w w' : World} {ℓ : Nat → Nat} {c p q sm km : Nat} {T : List ShT} (h : Kn w ℓ c p q sm km T) (hb : Below w.heap.size w w') : Kn w' ℓ c p q sm km T := h.only (Only.of_below (K := fun _ => False) hb) id id (fun _ _ => id) (fun _ _ => id)
theorem Kn.relabel {w : World} {ℓ ℓ' : Nat → Nat} {c p q sm km : Nat} {T : List ShT} (h : Kn w ℓ c p q sm km T) (he : ∀ k, k < w.heap.size → ℓ' k = ℓ k) : Kn w ℓ' c p q sm km T :=
  ⟨h.box, h.map, fun x hx => (h.tr x hx).relabel he, h.num, ⟨by rw [he _ (Array.getElem?_eq_some_iff.1 h.box).1]; exact h.lb.1, by rw [he _ h.map.lt]; exact h.lb.2⟩, h.own, h.apart⟩
end

section
open Go.RowKit

theorem fnd_dropM {T : List ShT} {n : Int} (h : fndT T n = none) (v : Option Nat) : putM (knT T) n v = knT T ++ [(n, v)] := by
  unfold putM
  rw [dropM_none]
  unfold findM knT
  rw [List.find?_map]
  unfold fndT at h
  rw [show ((fun e : Int × Option Nat => decide (e.1 = n)) ∘ fun x : ShT => (x.n, some x.t.b)) = fun x : ShT => decide (x.n = n) from rfl, h]
  rfl
/-- the transaction that Begin makes in a world -/
def newT (w : World) : Tr := ⟨w.heap.size + 1, w.heap.size + 1, w.heap.size, .slice none 0 0, [], false⟩
/-- what Begin leaves -/
def BnT (w : World) (ℓ : Nat → Nat) (c p q sm km : Nat) (T : List ShT) (n : Int) (e : Ending) (w' : World) : Prop := e = .returned (.int .i64 0) ∧ Only (· = km) w w' ∧ ∀ ℓ' L, (∀ k, k < w.heap.size → ℓ' k = ℓ k) → ℓ' w.heap.size = L → ℓ' (w.heap.size + 1) = L → 2 ≤ L → (∀ x ∈ T, x.L ≠ L) → Kn w' ℓ' c p q sm km (T ++ [⟨n, L, newT w⟩])
theorem bn_end {w w2 w3 : World} {ℓ : Nat → Nat} {c p q sm km : Nat} {T : List ShT} {n : Int} (h : Kn w ℓ c p q sm km T) (hf : fndT T n = none) (hn : 0 ≤ n ∧ n ≤ 1099511627776) (hb : Below w.heap.size w w2) (ht : ∀ ℓ L, ℓ w.heap.size = L → ℓ (w.heap.size + 1) = L → TrOk w2 ℓ L (newT w))
    (hm : MapM knownW w3 km (putM (knT T) n (some (w.heap.size + 1)))) (hO : Only (· = km) w2 w3) : BnT w ℓ c p q sm km T n (.returned (.int .i64 0)) w3 := by
  have hkm := h.map.lt
  have hOn : Only (· = km) w w3 := (Only.of_below (K := (· = km)) hb).trans hO fun _ _ e => e
  refine ⟨rfl, hOn, fun ℓ' L he e1 e2 hL hd => ?_⟩
  have h' := h.relabel he
  have hck : c ≠ km := h.map.noCells h.box
  have hb1 := h'.lb
  have hx : ∀ k, ℓ' k = 0 → ¬ k = km := fun k e e3 => by rw [e3, hb1.2] at e; cases e
  have hy : ∀ k, 2 ≤ ℓ' k → ¬ k = km := fun k e e3 => by rw [e3, hb1.2] at e; omega
  refine ⟨(hOn.block c (Array.getElem?_eq_some_iff.1 h.box).1 hck).trans h.box, ?_, fun x hx2 => ?_, fun x hx2 => ?_, hb1, fun x hx2 => ?_, ?_⟩
  · rw [fnd_dropM hf] at hm
    unfold knT at hm ⊢
    rw [List.map_append]
    exact hm
  · rcases List.mem_append.1 hx2 with hx2 | hx2
    · exact (h'.tr x hx2).only hOn hx fun k e => hy k (by rw [e]; exact h.own x hx2)
    · rw [List.mem_singleton.1 hx2]
      exact (ht ℓ' L e1 e2).only hO hx fun k e => hy k (by rw [e]; exact hL)
  · rcases List.mem_append.1 hx2 with hx2 | hx2
    · exact h.num x hx2
    · rw [List.mem_singleton.1 hx2]; exact hn
  · rcases List.mem_append.1 hx2 with hx2 | hx2
    · exact h.own x hx2
    · rw [List.mem_singleton.1 hx2]; exact hL
  · rw [List.pairwise_append]
    exact ⟨h.apart, by simp, fun a ha b hb2 => by rw [List.mem_singleton.1 hb2]; exact hd a ha⟩
set_option maxRecDepth 100000 in
theorem begin_yes {w : World} {ℓ : Nat → Nat} {c p q sm km : Nat} {T : List ShT} (h : Kn w ℓ c p q sm km T) {n : Int} (h0 : 0 ≤ n) (h1 : n ≤ 1099511627776) (hf : fndT T n = none) (hl : T.length < 10000) : Calls Tryz.prog 12 #[.pointer (some ⟨c, 0, none⟩), .int .i64 n] w (BnT w ℓ c p q sm km T n) := by
  have hn : i64ok n := by unfold i64ok; omega
  have HC := Lib.hid (sClosed_any h)
  have HV := Lib.hid (valid_tx n w)
  rw [decide_eq_true h0, decide_eq_true h1] at HV
  have HBX : Hid (∀ W, Below w.heap.size w W → W.cell? ⟨c, 3, none⟩ = some (.map (some km))) := Lib.hid fun W hb => (box4S ((hb.block _ (Array.getElem?_eq_some_iff.1 h.box).1).trans h.box)).2.2.2
  have c3 := HBX.out w (Below.refl _ _)
  have hlk := h.look hn
  rw [hf] at hlk
  simp only [Option.map_none, ptrV] at hlk
  have hnil : ∀ (w : World) (a : Option Addr), (binOp .neq 81 (.pointer a) (.pointer none)).run Tryz.prog w = .ok (.bool (!a.isNone)) w := fun w a => by cases a <;> rfl
  have HBG : Hid (∀ W, Below w.heap.size w W → W.heap.size = w.heap.size → Calls Tryz.prog 48 #[] W (fun e w' => e = .returned (.pointer (some ⟨w.heap.size + 1, 0, none⟩)) ∧ Below w.heap.size w w' ∧ ∀ ℓ L, ℓ w.heap.size = L → ℓ (w.heap.size + 1) = L → TrOk w' ℓ L (newT w))) := Lib.hid fun W hb hs => (tbegin_any W).mono fun e w' hh => by
    obtain ⟨e1, e2, _, e4⟩ := hh
    rw [hs] at e1 e2 e4
    exact ⟨e1, hb.trans (e2.mono (Nat.le_refl _)), e4⟩
  have HST : Hid (∀ W, Below w.heap.size w W → ∃ w3, (Instr.mapUpdate 75 (.map (some km)) (.int .i64 n) (.pointer (some ⟨w.heap.size + 1, 0, none⟩))).run Tryz.prog W = .ok () w3 ∧ MapM knownW w3 km (putM (knT T) n (some (w.heap.size + 1))) ∧ Only (· = km) W w3) := Lib.hid fun W hb =>
    (h.map.below hb).store known_good (by unfold knT; rw [List.length_map]; omega) (x := n) hn (some (w.heap.size + 1))
  have HE := Lib.hid (fun (w2 w3 : World) hb ht hm hO => bn_end (w2 := w2) (w3 := w3) h hf ⟨h0, h1⟩ hb ht hm hO)
  clear h hf hn hl h0 h1
  go_enter Tryz.func12, Tryz.ntmps12
  go_upto_region 7 with (first | (go_at_call 46; refine HC.out.mono ?_; rintro e w1 ⟨rfl, rfl⟩) | (go_at_call 47; refine HV.out.mono ?_; rintro e w1 ⟨rfl, rfl⟩))
  go_region_law (first
    | (go_simp; go_at_call 48; refine (HBG.out _ (by first | exact drew_below _ | exact Below.refl _ _ | exact drewN_below _ _) (by rfl)).mono ?_; rintro e w2 ⟨rfl, hb, ht⟩
       have HB2 := Lib.hid hb
       have HT2 := Lib.hid ht
       obtain ⟨w3, hrun, hm3, hO3⟩ := HST.out w2 hb
       have HM3 := Lib.hid hm3
       have HO3 := Lib.hid hO3
       have c3 := HBX.out w2 hb
       clear hb ht hm3 hO3))
  all_goals
    go_wp2_with fail
    go_ret
    exact HE.out _ _ HB2.out HT2.out HM3.out HO3.out
end

section
open Go.RowKit

/-- with another transaction at a number -/
def setT (T : List ShT) (n : Int) (t : Tr) : List ShT := T.map fun x => if x.n = n then ⟨x.n, x.L, t⟩ else x
theorem pw_inj {α β : Type} (f : α → β) {l : List α} (h : l.Pairwise fun a b => f a ≠ f b) {x y : α} (hx : x ∈ l) (hy : y ∈ l) (e : f x = f y) : x = y := by
  induction l with
  | nil => cases hx
  | cons a l ih =>
    rw [List.pairwise_cons] at h
    rcases List.mem_cons.1 hx with ex | hx2
    · rcases List.mem_cons.1 hy with ey | hy2
      · rw [ex, ey]
      · exact absurd (by rw [← ex]; exact e) (h.1 y hy2)
    · rcases List.mem_cons.1 hy with ey | hy2
      · exact absurd (by rw [← ey]; exact e.symm) (h.1 x hx2)
      · exact ih h.2 hx2 hy2
theorem Kn.nums {w : World} {ℓ : Nat → Nat} {c p q sm km : Nat} {T : List ShT} (h : Kn w ℓ c p q sm km T) : T.Pairwise fun a b => a.n ≠ b.n := by
  have h1 := h.map.one
  unfold knT at h1
  rw [List.pairwise_map] at h1
  exact h1
theorem Kn.set {K : Nat → Prop} {w w' : World} {ℓ ℓ' : Nat → Nat} {c p q sm km : Nat} {T : List ShT} {n : Int} {x : ShT} {t : Tr} (h : Kn w ℓ c p q sm km T) (hf : fndT T n = some x) (hO : Only K w w') (hK : ∀ k, K k → ℓ k = x.L) (he : ∀ k, k < w.heap.size → ℓ' k = ℓ k) (hlt : ∀ k, K k → k < w.heap.size) (ht : TrOk w' ℓ' x.L t) (hb : t.b = x.t.b) : Kn w' ℓ' c p q sm km (setT T n t) := by
  obtain ⟨hx, hxn⟩ := fndT_some hf
  have h2 := h.relabel he
  have hL := h.own x hx
  have h0 : ∀ k, ℓ' k = 0 → ¬ K k := fun k e hk => by rw [he k (hlt k hk), hK k hk] at e; omega
  have h1 : ∀ k, ℓ' k = 1 → ¬ K k := fun k e hk => by rw [he k (hlt k hk), hK k hk] at e; omega
  have hone : ∀ y ∈ T, y.n = n → y = x := fun y hy e => pw_inj (·.n) h.nums hy hx (e.trans hxn.symm)
  have hkn : knT (setT T n t) = knT T := by
    unfold knT setT
    rw [List.map_map]
    apply List.map_congr_left
    intro y hy
    show ((if y.n = n then (⟨y.n, y.L, t⟩ : ShT) else y).n, some (if y.n = n then (⟨y.n, y.L, t⟩ : ShT) else y).t.b) = (y.n, some y.t.b)
    by_cases e : y.n = n
    · rw [if_pos e, hone y hy e]
      show (x.n, some t.b) = _
      rw [hb]
    · rw [if_neg e]
  have hmem : ∀ z ∈ setT T n t, ∃ y ∈ T, (y = x ∧ z = ⟨x.n, x.L, t⟩) ∨ (y ≠ x ∧ z = y) := fun z hz => by
    unfold setT at hz
    obtain ⟨y, hy, e⟩ := List.mem_map.1 hz
    by_cases e2 : y.n = n
    · rw [if_pos e2] at e
      have := hone y hy e2
      exact ⟨y, hy, .inl ⟨this, by rw [← e, this]⟩⟩
    · rw [if_neg e2] at e
      exact ⟨y, hy, .inr ⟨fun e3 => e2 (by rw [e3]; exact hxn), e.symm⟩⟩
  refine ⟨(hO.block c (Array.getElem?_eq_some_iff.1 h.box).1 (h1 c h2.lb.1)).trans h.box, ?_, fun z hz => ?_, fun z hz => ?_, h2.lb, fun z hz => ?_, ?_⟩
  · rw [hkn]
    exact h.map.kept (hO.block km h.map.lt (h1 km h2.lb.2))
  · obtain ⟨y, hy, ⟨_, e⟩ | ⟨hne, e⟩⟩ := hmem z hz
    · rw [e]; exact ht
    · rw [e]
      have hyL : y.L ≠ x.L := fun e2 => hne (pw_inj (·.L) h.apart hy hx e2)
      exact (h2.tr y hy).only hO h0 fun k e2 hk => hyL (by rw [he k (hlt k hk), hK k hk] at e2; exact e2.symm)
  · obtain ⟨y, hy, ⟨_, e⟩ | ⟨_, e⟩⟩ := hmem z hz
    · rw [e]; exact h.num x hx
    · rw [e]; exact h.num y hy
  · obtain ⟨y, hy, ⟨_, e⟩ | ⟨_, e⟩⟩ := hmem z hz
    · rw [e]; exact hL
    · rw [e]; exact h.own y hy
  · unfold setT
    rw [List.pairwise_map]
    refine h.apart.imp fun {a b} hab => ?_
    have e : ∀ y : ShT, (if y.n = n then (⟨y.n, y.L, t⟩ : ShT) else y).L = y.L := fun y => by split <;> rfl
    rw [e, e]
    exact hab
/-- whose blocks: the elder as before, those of a turn a's -/
def labs (ℓ : Nat → Nat) (m a : Nat) (k : Nat) : Nat := if k < m then ℓ k else a
theorem labs_lt {ℓ : Nat → Nat} {m a k : Nat} (h : k < m) : labs ℓ m a k = ℓ k := if_pos h
theorem labs_ge {ℓ : Nat → Nat} {m a k : Nat} (h : m ≤ k) : labs ℓ m a k = a := if_neg (by omega)
/-- a copy is a change of nobody's -/
theorem ChOk.copied {w1 w2 : World} {ℓ : Nat → Nat} {s k r : List UInt8} {kA rA : Option Addr} {kc rc : Nat} {d : Bool} (hk : OwnB w2 w1.heap.size (.slice kA k.length kc) k) (hr : OwnB w2 w1.heap.size (.slice rA r.length rc) r) (hl : s.length ≤ 32 ∧ k.length ≤ 200 ∧ r.length ≤ 2000) : ChOk w2 (labs ℓ w1.heap.size 0) ⟨s, kA, k, kc, rA, r, rc, d⟩ :=
  ⟨hk.rd, hr.rd, fun _ ad e => labs_ge (hk.ge ad.block (by rw [show kA = some ad from e]; rfl)), fun _ ad e => labs_ge (hr.ge ad.block (by rw [show rA = some ad from e]; rfl)), hl, by obtain ⟨A2, c2, e2, e3⟩ := hr.2; injection e2 with _ _ e2; show r.length ≤ rc; rw [e2]; exact e3⟩
/-- what Put and Drop leave: one change more -/
def PtT (w : World) (ℓ : Nat → Nat) (c p q sm km : Nat) (T : List ShT) (n : Int) (x : ShT) (s k r : List UInt8) (d : Bool) (e : Ending) (w' : World) : Prop := e = .returned (.int .i64 0) ∧ Only (fun j => j = x.t.b ∨ j = x.t.g ∨ j = x.t.m) w w' ∧ ∃ ℓ' g v kA kc rA rc, (∀ j, j < w.heap.size → ℓ' j = ℓ j) ∧ Kn w' ℓ' c p q sm km (setT T n ⟨x.t.b, g, x.t.m, v, x.t.cs ++ [⟨s, kA, k, kc, rA, r, rc, d⟩], x.t.p⟩)
theorem pt_end {w w1 w2 w3 : World} {ℓ : Nat → Nat} {c p q sm km : Nat} {T : List ShT} {n : Int} {x : ShT} {s k r : List UInt8} {d : Bool} {kA rA : Option Addr} {kc rc : Nat} (h : Kn w ℓ c p q sm km T) (hf : fndT T n = some x) (hb1 : Below w.heap.size w w1) (hb2 : Below w1.heap.size w1 w2) (e : Ending)
    (ha : AdT w2 (labs ℓ w1.heap.size 0) x.L x.t ⟨s, kA, k, kc, rA, r, rc, d⟩ e w3) : PtT w ℓ c p q sm km T n x s k r d (.returned (.int .i64 0)) w3 := by
  obtain ⟨_, g', v', hg, hg5, hO, hT⟩ := ha
  obtain ⟨hx, _⟩ := fndT_some hf
  have s1 := hb1.size
  have s2 := hb2.size
  have s3 := hO.size
  have ho := h.tr x hx
  have hbl := (Array.getElem?_eq_some_iff.1 ho.box).1
  have hgl := ho.row.ltL hbl
  have hml := ho.map.lt
  have hb := hb1.trans (hb2.mono s1)
  have hOn : Only (fun j => j = x.t.b ∨ j = x.t.g ∨ j = x.t.m) w w3 := (Only.of_below hb).trans hO fun _ _ e => e
  have he : ∀ j, j < w.heap.size → labs (labs ℓ w1.heap.size 0) w2.heap.size x.L j = ℓ j := fun j hj => by rw [labs_lt (by omega), labs_lt (by omega)]
  refine ⟨rfl, hOn, labs (labs ℓ w1.heap.size 0) w2.heap.size x.L, g', v', kA, kc, rA, rc, he, h.set hf hOn (fun j hj => ?_) he (fun j hj => ?_) (hT _ (fun j hj => labs_lt hj) ?_) rfl⟩
  · rcases hj with rfl | rfl | rfl
    · exact ho.lb.1
    · exact ho.lb.2.1
    · exact ho.lb.2.2
  · rcases hj with rfl | rfl | rfl <;> assumption
  · rcases hg with rfl | hg
    · rw [he _ hgl]; exact ho.lb.2.1
    · exact labs_ge hg
end

section
open Go.RowKit

theorem OwnB.lowS {w : World} {B C : Nat} {v : Value} {l : List UInt8} (h : OwnB w B v l) (hC : C ≤ B) : OwnB w C v l := by
  refine ⟨⟨h.1.1, ?_⟩, h.2⟩
  rcases h.1.2 with h1 | ⟨g, cap, cur, e, hb, hr⟩
  · exact .inl h1
  · exact .inr ⟨g, cap, cur, e, Nat.le_trans hC hb, hr⟩
/-- the box of a change -/
def chB (w : World) (c : Ch) : World := w.alloc (.cells #[.string (strB c.s), .slice c.kA c.k.length c.kc, .slice c.rA c.r.length c.rc, .bool c.d] 62)
theorem chB_below (w : World) (c : Ch) : Below w.heap.size w (chB w c) := alloc_below w _
theorem chB_at (w : World) (c : Ch) : (chB w c).heap[w.heap.size]? = some (.cells #[.string (strB c.s), .slice c.kA c.k.length c.kc, .slice c.rA c.r.length c.rc, .bool c.d] 62 (0, 0)) := heap_alloc_new w _
/-- what active answers where nothing may be changed -/
def acE (T : List ShT) (n : Int) : Int := match fndT T n with | some x => if x.t.p then 102 else 0 | none => 101
theorem acV_no {T : List ShT} {n : Int} (h : acE T n ≠ 0) : acV T n = .tuple #[.pointer none, .int .i64 (acE T n)] := by
  unfold acV
  unfold acE at h ⊢
  cases hf : fndT T n with
  | none => rfl
  | some x =>
    rw [hf] at h
    cases hp : x.t.p with
    | true => simp [hp]
    | false => simp [hp] at h
set_option maxRecDepth 100000 in
theorem put_yes {w : World} {ℓ : Nat → Nat} {c p q sm km : Nat} {T : List ShT} (h : Kn w ℓ c p q sm km T) {n : Int} (hn : i64ok n) (s k r : List UInt8) (kA rA : Option Addr) (kc rc : Nat) (x : ShT) (hx : fndT T n = some x) (hp : x.t.p = false) (hs : s.length ≤ 32) (hk : k.length ≤ 200) (hr : r.length ≤ 2000) (hkr : RdB w w.heap.size kA k) (hrr : RdB w w.heap.size rA r) (hfew : x.t.cs.length < 1000) : Calls Tryz.prog 13 #[.pointer (some ⟨c, 0, none⟩), .int .i64 n, .string (strB s), .slice kA k.length kc, .slice rA r.length rc] w (PtT w ℓ c p q sm km T n x s k r false) := by
  obtain ⟨w1, hw1⟩ : ∃ w1, chB w ⟨s, kA, k, kc, rA, r, rc, false⟩ = w1 := ⟨_, rfl⟩
  have hb1 := chB_below w ⟨s, kA, k, kc, rA, r, rc, false⟩
  have hat := chB_at w ⟨s, kA, k, kc, rA, r, rc, false⟩
  rw [hw1] at hb1 hat
  have HB := Lib.hid hb1
  have HA := Lib.hid (active_tx (h.below hb1) hn)
  have hfit : fitsC ⟨s, kA, k, kc, rA, r, rc, false⟩ = true := by
    show (decide (s.length ≤ 32) && decide (k.length ≤ 200) && decide (r.length ≤ 2000)) = true
    rw [decide_eq_true hs, decide_eq_true hk, decide_eq_true hr]; rfl
  have HF := Lib.hid (fits_any ⟨s, kA, k, kc, rA, r, rc, false⟩ (by show k.length ≤ maxLen; unfold maxLen; omega) (by show r.length ≤ maxLen; unfold maxLen; omega) (by show s.length ≤ maxLen; unfold maxLen; omega) w1)
  rw [hfit] at HF
  have hz : acV T n = .tuple #[.pointer (some ⟨x.t.b, 0, none⟩), .int .i64 0] := by unfold acV; rw [hx]; simp [hp]
  rw [hz] at HA
  have HX : Hid (∀ W, Below w1.heap.size w1 W → W.cell? ⟨w.heap.size, 0, none⟩ = some (.string (strB s)) ∧ W.cell? ⟨w.heap.size, 1, none⟩ = some (.slice kA k.length kc) ∧ W.cell? ⟨w.heap.size, 2, none⟩ = some (.slice rA r.length rc) ∧ W.cell? ⟨w.heap.size, 3, none⟩ = some (.bool false)) := Lib.hid fun W hb =>
    box4S ((hb.block w.heap.size (Array.getElem?_eq_some_iff.1 hat).1).trans hat)
  have HCP : Hid (∀ W, Below w1.heap.size w1 W → Calls Tryz.prog 52 #[.agg #[.string (strB s), .slice kA k.length kc, .slice rA r.length rc, .bool false]] W (fun e w' => ∃ kA' kc' rA' rc', e = .returned (.agg #[.string (strB s), .slice kA' k.length kc', .slice rA' r.length rc', .bool false]) ∧ Below w1.heap.size w1 w' ∧ Calls Tryz.prog 51 #[.pointer (some ⟨x.t.b, 0, none⟩), .agg #[.string (strB s), .slice kA' k.length kc', .slice rA' r.length rc', .bool false]] w' (fun e3 w3 => e3 = .returned (.tuple #[]) ∧ PtT w ℓ c p q sm km T n x s k r false (.returned (.int .i64 0)) w3))) := Lib.hid fun W hb => by
    have s1 := hb1.size
    have s2 := hb.size
    refine (chCopied_any ⟨s, kA, k, kc, rA, r, rc, false⟩ W (((hkr.below hb1 (Nat.le_refl _)).below hb (by omega)).more (by omega)) (((hrr.below hb1 (Nat.le_refl _)).below hb (by omega)).more (by omega)) (by show k.length ≤ 100000; omega) (by show r.length ≤ 100000; omega)).mono ?_
    rintro e w2 ⟨kA', kc', rA', rc', e1, hok, hor, hb2⟩
    have hb3 : Below w1.heap.size w1 w2 := hb.trans (hb2.mono s2)
    refine ⟨kA', kc', rA', rc', e1, hb3, ?_⟩
    have hxm := (fndT_some hx).1
    have hL := h.own x hxm
    have ht : TrOk w2 (labs ℓ w1.heap.size 0) x.L x.t := (((h.tr x hxm).below hb1).relabel fun j hj => labs_lt hj).below hb3
    exact (add_any ht ⟨s, kA', k, kc', rA', r, rc', false⟩ (ChOk.copied (hok.lowS s2) (hor.lowS s2) ⟨hs, hk, hr⟩) (by omega) hfew).mono fun e w3 ha => ⟨ha.1, pt_end h hx hb1 hb3 e ha⟩
  obtain ⟨sb, hsb⟩ : ∃ sb, strB s = sb := ⟨_, rfl⟩
  obtain ⟨kn, hkn⟩ : ∃ m, k.length = m := ⟨_, rfl⟩
  obtain ⟨rn, hrn⟩ : ∃ m, r.length = m := ⟨_, rfl⟩
  obtain ⟨b, hbb⟩ : ∃ b, x.t.b = b := ⟨_, rfl⟩
  simp only [chB, Ch.v] at hw1 HF
  rw [hsb, hkn, hrn] at hw1 HF HX HCP
  rw [hbb] at HCP HA
  rw [hsb, hkn, hrn]
  obtain ⟨x0, x1, x2, x3⟩ := HX.out w1 (Below.refl _ _)
  have HW := Lib.hid hw1
  clear h hn hx hp hs hk hr hkr hrr hfew hb1 hat hfit hz hsb hkn hrn hbb hw1
  go_enter Tryz.func13, Tryz.ntmps13
  go_upto_region 2 with fail
  rw [HW.out]
  go_wp2_with (first
    | (go_at_call 49; refine HA.out.mono ?_; rintro e w2 ⟨rfl, rfl⟩)
    | (go_at_call 50; refine HF.out.mono ?_; rintro e w2 ⟨rfl, hb2⟩
       have HB2 := Lib.hid hb2
       obtain ⟨y0, y1, y2, y3⟩ := HX.out w2 hb2
       clear x0 x1 x2 x3 hb2)
    | (go_at_call 52; refine (HCP.out _ HB2.out).mono ?_; rintro e w3 ⟨kA', kc', rA', rc', rfl, hb3, had⟩
       have HAD := Lib.hid had
       clear hb3 had)
    | (go_at_call 51; refine HAD.out.mono ?_; rintro e w4 ⟨rfl, hpt⟩
       have HPT := Lib.hid hpt
       clear hpt))
  go_ret
  exact HPT.out
end

section
open Go.RowKit

/-- without a number's transaction -/
def offT (T : List ShT) (n : Int) : List ShT := T.filter fun x => decide (x.n ≠ n)
theorem knT_off (T : List ShT) (n : Int) : knT (offT T n) = dropM (knT T) n := by
  unfold knT offT dropM
  rw [List.filter_map]
  rfl
/-- what is left of the known ones when one is struck from the map -/
theorem Kn.off {w w' : World} {ℓ : Nat → Nat} {c p q sm km : Nat} {T : List ShT} {n : Int} (h : Kn w ℓ c p q sm km T) (hm : MapM knownW w' km (dropM (knT T) n)) (hO : Only (· = km) w w') : Kn w' ℓ c p q sm km (offT T n) := by
  have hck : c ≠ km := h.map.noCells h.box
  have hsub : ∀ x ∈ offT T n, x ∈ T := fun x hx => (List.mem_filter.1 hx).1
  refine ⟨(hO.block c (Array.getElem?_eq_some_iff.1 h.box).1 hck).trans h.box, by rw [knT_off]; exact hm, fun x hx => (h.tr x (hsub x hx)).only hO (fun k e e3 => ?_) (fun k e e3 => ?_), fun x hx => h.num x (hsub x hx), h.lb, fun x hx => h.own x (hsub x hx), List.Pairwise.filter _ h.apart⟩
  · have := h.lb.2
    rw [← e3, e] at this
    cases this
  · have := h.lb.2
    have h2 := h.own x (hsub x hx)
    rw [← e3, e] at this
    omega
end

section
open Go.RowKit

theorem chV_at : ∀ (cs : List Ch) (i : Nat) (c : Ch), cs[i]? = some c → ∀ (j : Nat) (u : Value), c.cells[j]? = some u → (chV cs)[i * 4 + j]? = some u
  | [], i, c, h, _, _, _ => by simp at h
  | x :: l, 0, c, h, j, u, hj => by
    simp only [List.getElem?_cons_zero, Option.some.injEq] at h
    subst h
    have hlt : j < x.cells.length := (List.getElem?_eq_some_iff.1 hj).1
    show (x.cells ++ chV l)[0 * 4 + j]? = some u
    rw [Nat.zero_mul, Nat.zero_add, List.getElem?_append_left hlt]
    exact hj
  | x :: l, i + 1, c, h, j, u, hj => by
    rw [List.getElem?_cons_succ] at h
    show (x.cells ++ chV l)[(i + 1) * 4 + j]? = some u
    have e : x.cells.length = 4 := rfl
    rw [List.getElem?_append_right (by rw [e]; omega), e, show (i + 1) * 4 + j - 4 = i * 4 + j by omega]
    exact chV_at l i c h j u hj
end
end Go.Proofs.YtkohppalfcalbaaGreat

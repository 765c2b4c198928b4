/- Package shard: values of a record whose row is told. -/
import Derived.Test.YtkohppalfcalbaaGreatKT1
import Derived.Test.YtkohppalfcalbaaGreatPV
namespace Go.Proofs.YtkohppalfcalbaaGreat
open Go.RowKit

attribute [local go_sem] Oper.semAt_some
/-- between two rounds: the pieces l so far -/
structure PcI (w5 W : World) (p n1 : Nat) (l : List Val) (g : Nat) (v : Value) : Prop where
  box : W.heap[p]? = some (.cells #[v] 159 (0, 0))
  row : HeldC W p g 3 v l.length (valsV l)
  new : g = p ∨ n1 ≤ g
  gc : ∃ c e fr, W.heap[g]? = some (.cells c e fr)
  only : Only (fun j => j = p ∨ n1 ≤ j) w5 W
theorem PcI.grow {w5 W W' : World} {p n1 g : Nat} {l : List Val} {v : Value} {row : Option Nat} (h : PcI w5 W p n1 l g v) (hg : W.grownBy W' row) (hr : ∀ r, row = some r → n1 ≤ r ∧ ∃ o : Obj, W.heap[r]? = some o ∧ o.isCells = false) : PcI w5 W' p n1 l g v := by
  have hO := Only.of_grown hg
  have hnc : ∀ k c e fr, W.heap[k]? = some (.cells c e fr) → ¬ (some k = row) := fun k c e fr hk e2 => by
    obtain ⟨_, o, ho, hc⟩ := hr k e2.symm
    rw [hk] at ho
    injection ho with ho
    subst ho
    cases hc
  obtain ⟨c, e, fr, hg2⟩ := h.gc
  exact ⟨(hO.block p (Array.getElem?_eq_some_iff.1 h.box).1 (hnc _ _ _ _ h.box)).trans h.box, h.row.only hO (fun _ => hnc _ _ _ _ hg2), h.new, ⟨c, e, fr, (hO.block g (Array.getElem?_eq_some_iff.1 hg2).1 (hnc _ _ _ _ hg2)).trans hg2⟩, h.only.trans hO (fun j _ e => .inr ((hr j e.symm).1))⟩
theorem one_val0 {w : World} {x : Val} : ∀ j u, (valsV [x])[j]? = some u → (w.alloc (.cells #[.int .i64 x.k, .int .i64 x.n, .string x.s] 184)).cell? ((⟨w.heap.size, 0, none⟩ : Addr).add j) = some u := fun j u hj => by
  rw [add_plain, cell_of_row _ _ j _ _ (0, 0) (heap_alloc_new w _)]
  simpa [valsV] using hj
theorem PcI.app {w5 W w3 : World} {p n1 g cap : Nat} {A : Option Addr} {l : List Val} (h : PcI w5 W p n1 l g (.slice A l.length cap)) (hp : p < n1) (hn1 : n1 ≤ w5.heap.size) (hb : Below W.heap.size W w3) (s : ByteArray) (hl : l.length ≤ 1000) : ∃ A' c' w6, w3.cell? ⟨p, 0, none⟩ = some (.slice A l.length cap) ∧ (w3.alloc (.cells #[.int .i64 5, .int .i64 0, .string s] 184)).cell? ⟨p, 0, none⟩ = some (.slice A l.length cap) ∧
    (Builtin.append_ #[159, 159] 159 #[.slice A l.length cap, .slice (some ⟨w3.heap.size, 0, none⟩) 1 1]).run Tryz.prog (w3.alloc (.cells #[.int .i64 5, .int .i64 0, .string s] 184)) = .ok (.slice A' (l.length + 1) c') w6 ∧ w6.cell? ⟨p, 0, none⟩ = some (.slice A l.length cap) ∧ w6.frozen? ⟨p, 0, none⟩ = false ∧
    Hid ((∀ B, KeepsFrom B W (w6.setCell ⟨p, 0, none⟩ (.slice A' (l.length + 1) c'))) ∧ KpR n1 p W (w6.setCell ⟨p, 0, none⟩ (.slice A' (l.length + 1) c')) ∧ ∃ g', PcI w5 (w6.setCell ⟨p, 0, none⟩ (.slice A' (l.length + 1) c')) p n1 (l ++ [⟨5, 0, s⟩]) g' (.slice A' (l.length + 1) c')) := by
  obtain ⟨i0, hi, hz0, hz1, hz2⟩ := info_parts infoV
  have hpW := (Array.getElem?_eq_some_iff.1 h.box).1
  have hs1 := hb.size
  have hs0 := h.only.size
  obtain ⟨w4, hw4⟩ : ∃ w4, w4 = w3.alloc (.cells #[.int .i64 5, .int .i64 0, .string s] 184) := ⟨_, rfl⟩
  have hb4 : Below w3.heap.size w3 w4 := by rw [hw4]; exact alloc_below _ _
  have hsr : ∀ j u, (valsV [⟨5, 0, s⟩])[j]? = some u → w4.cell? ((⟨w3.heap.size, 0, none⟩ : Addr).add j) = some u := by rw [hw4]; exact one_val0 (x := ⟨5, 0, s⟩)
  rw [← hw4]
  have hbW4 : Below W.heap.size W w4 := hb.trans (hb4.mono hs1)
  obtain ⟨c0, e0, fr0, hgc⟩ := h.gc
  have hgl := (Array.getElem?_eq_some_iff.1 hgc).1
  have hown4 := h.row.only (Only.of_below (K := fun _ => False) hbW4) (fun _ => id)
  obtain ⟨g', v', w6, hrun, hrow, hO, hg'⟩ := run_appHC (P := Tryz.prog) 159 159 184 Tryz.underlying159 hi hz0 hz1 hz2 (by rfl) (by decide) hown4 (by have := hbW4.size; omega) (m := 1) (c := 1) (ys := valsV [⟨5, 0, s⟩]) rfl hsr valsV_one (by omega) (by omega)
  obtain ⟨A', c', rfl, _, _⟩ := hrow.slice
  have hs4 := hbW4.size
  have hs6 := hO.size
  have hbx3 := (hb.block _ hpW).trans h.box
  have hbx4 := (hbW4.block _ hpW).trans h.box
  have hbx6 := (hO.block p (by omega) (fun e => e.2 rfl)).trans hbx4
  have hO6 : Only (fun j => j = g ∧ j ≠ p) W w6 := (Only.of_below (K := fun j => j = g ∧ j ≠ p) hbW4).trans hO (fun _ _ e => e)
  have hSt := Only.set w6 p 0 (.slice A' (l.length + 1) c')
  have hO7 : Only (fun j => j = p ∨ j = g) W (w6.setCell ⟨p, 0, none⟩ (.slice A' (l.length + 1) c')) := (hO6.more (fun j _ e => .inr e.1)).trans hSt (fun j _ e => .inl e)
  have hnew := h.new
  have hnp : g' ≠ p := by
    rcases hrow with ⟨_, h0, _⟩ | ⟨hne, _⟩
    · omega
    · exact hne
  have hrow7 := hrow.only hSt (fun _ => hnp)
  refine ⟨A', c', w6, by simp [World.cell?, hbx3], by simp [World.cell?, hbx4], hrun, by simp [World.cell?, hbx6], frozen_of hbx6 0, Lib.hid ⟨fun B => keepsFrom_only B hO7 (fun k e => ?_), hO7.more (fun j _ e => ?_), g', ?_, ?_, ?_, ?_, ?_⟩⟩
  · rcases e with rfl | rfl
    · exact ⟨_, _, _, h.box⟩
    · exact ⟨_, _, _, hgc⟩
  · rcases e with rfl | rfl
    · exact .inl rfl
    · rcases hnew with e | e
      · exact .inl e
      · exact .inr e
  · simp [World.setCell, Array.getElem?_modify, hbx6]
  · rw [List.length_append, List.length_singleton, valsV_app]
    exact hrow7
  · rcases hg' with rfl | hg'
    · exact hnew
    · exact .inr (by omega)
  · rcases hrow7 with ⟨_, h0, _⟩ | ⟨_, o, cap2, _, ho⟩
    · omega
    · have := ho.room
      exact cells_of_own ho (by omega)
  · exact h.only.trans hO7 (fun j _ e => by rcases e with e | e <;> omega)
theorem rd_chunk {w : World} {B : Nat} {A : Option Addr} {r : List UInt8} (h : RdB w B A r) (a b : Nat) : RdB w B (A.map fun x => x.add a) ((r.drop a).take b) := fun hn => by
  have hr : r ≠ [] := fun e => by subst e; simp at hn
  obtain ⟨ad, rfl, hlt, hc⟩ := h hr
  refine ⟨ad.add a, rfl, by rw [addr_add_block]; exact hlt, fun j c hj => ?_⟩
  rw [List.getElem?_take] at hj
  split at hj
  · rw [List.getElem?_drop] at hj
    have := hc _ c hj
    rw [Addr.add_add]
    exact this
  · cases hj
/-- what the loop has told so far -/
def PcJ (w5 : World) (p n1 : Nat) (r : List UInt8) {m : Nat} (pre : List {k : Nat // k < m}) (W : World) : Prop := ∃ g v, PcI w5 W p n1 (pre.map fun x => blobV ((r.drop (200 * x.1)).take 200)) g v ∧ pre.length ≤ m
theorem PcJ.own (w5 : World) (p n1 : Nat) (r : List UInt8) (m : Nat) : OwnFrom n1 (PcJ w5 p n1 r (m := m)) := fun pre W W' row h hg hr => by
  obtain ⟨g, v, h1, h2⟩ := h
  exact ⟨g, v, h1.grow hg hr, h2⟩
attribute [-go_sem] Builtin.append_
set_option maxRecDepth 100000 in
set_option maxHeartbeats 8000000 in
theorem values_row1 (n : Int) (sb : ByteArray) (key r : List UInt8) (kA rA : Option Addr) (kn kc rn rc : Nat) (d : Bool) (hkn : key.length = kn) (hrn : r.length = rn) (hrc : rn ≤ rc) (hr2 : rn ≤ 2000) (w : World) (hk : RdB w w.heap.size kA key) (hr : RdB w w.heap.size rA r) : Calls Tryz.prog 93 #[.agg #[.int .i64 1, .int .i64 n, .string sb, .slice kA kn kc, .slice rA rn rc, .bool d]] w (VlT w ([numV 1, numV n, ⟨4, 0, sb⟩, blobV key] ++ (chunksOf r).map blobV)) := by
  have HX := Lib.hid (BxR.new w 1 n sb kA rA kn kc rn rc d)
  obtain ⟨w1, hw1⟩ : ∃ w1, w1 = w.alloc (.cells #[.int .i64 1, .int .i64 n, .string sb, .slice kA kn kc, .slice rA rn rc, .bool d] 108) := ⟨_, rfl⟩
  rw [← hw1] at HX
  have HW1 := Lib.hid hw1
  obtain ⟨x0, x1, x2, x3, x4⟩ := HX.out.cells
  obtain ⟨i0, hi, hz0, hz1, hz2⟩ := info_parts infoV
  have HI := Lib.hid (And.intro hi (And.intro hz0 (And.intro hz1 hz2)))
  clear hw1
  have HBK : Hid (∀ W, Below w.heap.size w W → Calls Tryz.prog 132 #[.slice kA kn kc] W (Ans (.agg #[.int .i64 5, .int .i64 0, .string (strB key)]) W)) := Lib.hid fun W hb => sblob_any key kA kn kc hkn W ((hk.below hb (Nat.le_refl _)).more hb.size)
  show Calls _ _ _ _ (VlT w ([numV 1, numV n, ⟨4, 0, sb⟩, ⟨5, 0, strB key⟩] ++ (chunksOf r).map blobV))
  generalize strB key = kb at HBK ⊢
  have HR := Lib.hid hr
  have hmx : Tryz.prog.follows .mixedOrders = true := by kernel_rfl
  clear hk hkn hr
  refine (callsIn_wide (n := 3)).1 ?_
  refine callsIn_of_wp_marks Tryz.func93 rfl trivial ?_ rfl
  simp only [Tryz.ntmps93, List.size_toArray, List.length_cons, List.length_nil, Nat.reduceAdd, Nat.reduceSub, Array.replicate_succ, Array.replicate_zero, List.push_toArray, List.append_toArray, List.nil_append, List.cons_append]
  gi_wp2_with fail
  rw [← HW1.out]
  refine wpIn_wide.2 (wp_cutN (fun a' w' => ∃ w2, BxR w w2 1 n sb kA rA kn kc rn rc d ∧ a' = { tmps := #[.agg #[.int .i64 1, .int .i64 n, .string sb, .slice kA kn kc, .slice rA rn rc, .bool d], .pointer (some ⟨w.heap.size, 0, none⟩), .slice none 0 0, .slice (some ⟨w2.heap.size, 0, none⟩) 2 2, undef, undef, .pointer (some ⟨w.heap.size, 0, none⟩), .int .i64 1, .agg #[.int .i64 2, .int .i64 1, .string ⟨#[]⟩], .pointer (some ⟨w.heap.size, 1, none⟩), .int .i64 n, .agg #[.int .i64 2, .int .i64 n, .string ⟨#[]⟩], .slice (some ⟨w2.heap.size, 0, none⟩) 2 2, undef, undef, undef, undef, undef, undef, undef, undef, undef, undef, undef, undef, undef, undef, undef, undef, undef, undef, undef, undef, undef, undef, undef, undef, undef, undef, undef, undef, undef, undef, undef, undef], defers := [] } ∧ w' = w2.alloc (.cells #[.int .i64 2, .int .i64 1, .string ⟨#[]⟩, .int .i64 2, .int .i64 n, .string ⟨#[]⟩] 184)) ?reg ?hq)
  case reg =>
    go_region_law (first
    | (go_simp; go_at_call 130; refine (snumber_any _ _).mono ?_; rintro e w2 ⟨rfl, hb⟩
       have HX := Lib.hid (by first | exact HX.out.next hb | exact HX.out.next (below_drew hb) | exact (HX.out.next (drewN_below _ _)).next hb)
       obtain ⟨x0, x1, x2, x3, x4⟩ := HX.out.cells
       clear hb))
    all_goals exact ⟨w2, HX.out, rfl, rfl⟩
  case hq =>
    rintro a' w' ⟨w2, hx2, rfl, rfl⟩
    have HX := Lib.hid hx2
    clear hx2
    have HV := Lib.hid (VlB.new HX.out)
    obtain ⟨w4, hw4⟩ : ∃ w4, w4 = (w2.alloc (.cells #[.int .i64 2, .int .i64 1, .string ⟨#[]⟩, .int .i64 2, .int .i64 n, .string ⟨#[]⟩] 184)).alloc (.cells #[.slice none 0 0] 159) := ⟨_, rfl⟩
    obtain ⟨x0, x1, x2, x3, x4⟩ := HV.out.bx.cells
    rw [← hw4] at HV
    have HW4 := Lib.hid hw4
    clear hw4
    have HBL : Hid (∀ W, Below w4.heap.size w4 W → Calls Tryz.prog 132 #[.slice kA kn kc] W (Ans (.agg #[.int .i64 5, .int .i64 0, .string kb]) W)) := Lib.hid fun W hb => HBK.out W (HV.out.bx.bel.trans (hb.mono HV.out.bx.bel.size))
    have HCK := Lib.hid (chunk_any w4 rA rn rc)
    gi_wp2_with (refine ⟨trivial, ?_⟩; gi_at_call 131; rw [← HW4.out]; refine (callsIn_wide.2 HCK.out).mono ?_; rintro e w5 ⟨rfl, hx1, hx2, hb5, hsz⟩
                 have HX1 := Lib.hid hx1
                 have HX2 := Lib.hid hx2
                 have HB5 := Lib.hid hb5
                 have HSZ := Lib.hid hsz
                 clear hx1 hx2 hb5 hsz)
    have hs4 : w4.heap.size = w2.heap.size + 2 := by rw [HW4.out]; simp
    have hs5 : w5.heap.size = w4.heap.size + 2 := HSZ.out
    have hV5 := HV.out.below HB5.out
    have hstart : PcJ w5 (w2.heap.size + 1) w5.heap.size r (m := (rn + 199) / 200) [] w5 := ⟨w2.heap.size + 1, .slice none 0 0, ⟨hV5.pcs, .inl ⟨rfl, rfl, rfl, rfl⟩, .inl rfl, ⟨_, _, _, hV5.pcs⟩, Only.refl _ _⟩, Nat.zero_le _⟩
    have hA : rn ≠ 0 → ∃ ad, rA = some ad := fun hn => by
      obtain ⟨ad, e, _⟩ := HR.out (fun e => by rw [e] at hrn; exact hn hrn.symm)
      exact ⟨ad, e⟩
    have hseq := chunk_stops 2 (n1 := w5.heap.size) (bl := w2.heap.size + 1) hrc hA HX1.out HX2.out (by omega) (by omega) hr2
    have hIo := PcJ.own w5 (w2.heap.size + 1) w5.heap.size r ((rn + 199) / 200)
    have HS4 := Lib.hid hs4
    have HS5 := Lib.hid hs5
    have HV5 := Lib.hid hV5
    clear hs4 hs5 hV5
    refine wpIn_rangeFunc_ownH (n := 3) rfl (by decide) (gf := 170) (lb := #[.pointer (some ⟨w4.heap.size, 0, none⟩), .pointer (some ⟨w4.heap.size + 1, 0, none⟩)]) rfl trivial (enters_of Tryz.func170 (by kernel_rfl) rfl) hseq
      (fun {A B C} h k => Only.trans h k (fun _ _ e => e))
      (fun W l o o' hl ho hc hw => (Only.of_grown (grownBy_putObj' W l o')).more (fun k _ e => .inr (by cases e; exact hl)))
      (Below.refl _ _) (fun _ => rfl)
      (PcJ w5 (w2.heap.size + 1) w5.heap.size r)
      (fun c pre W => False)
      hIo (fun c pre W W' row h hg hr => h.elim) hstart
      (fun x a' W => a' = { tmps := #[.agg #[.int .i64 1, .int .i64 n, .string sb, .slice kA kn kc, .slice rA rn rc, .bool d], .pointer (some ⟨w.heap.size, 0, none⟩), .slice none 0 0, .slice (some ⟨w2.heap.size, 0, none⟩) 2 2, .pointer (some ⟨w2.heap.size + 1, 0, none⟩), chunkV rA rn x.1, .pointer (some ⟨w.heap.size, 0, none⟩), .int .i64 1, .agg #[.int .i64 2, .int .i64 1, .string ⟨#[]⟩], .pointer (some ⟨w.heap.size, 1, none⟩), .int .i64 n, .agg #[.int .i64 2, .int .i64 n, .string ⟨#[]⟩], .slice (some ⟨w2.heap.size, 0, none⟩) 2 2, .pointer (some ⟨w.heap.size, 0, none⟩), .int .i64 1, .bool false, .bool false, .bool true, .bool true, undef, undef, .pointer (some ⟨w.heap.size, 2, none⟩), .pointer (some ⟨w.heap.size, 4, none⟩), .slice rA rn rc, .func (.func 170) #[] #[.pointer (some ⟨w4.heap.size, 0, none⟩), .pointer (some ⟨w4.heap.size + 1, 0, none⟩)], chunkV rA rn x.1, undef, undef, undef, undef, undef, undef, undef, undef, undef, undef, undef, undef, undef, undef, undef, undef, undef, undef, undef], defers := [] })
      (fun x a' _ W W' row hs hg hr => hs) ?assign ?body ?done ?stop
    case assign =>
      rintro l pre x W K hi hK
      gi_wp2
      exact hK _ _ (KeepsFrom.refl _ _) (Only.refl _ _) hi rfl
    case body =>
      rintro l pre x a' W hlw hloop ⟨g, v, hP, hpl⟩ rfl hpl2
      obtain ⟨A, cap, rfl, _, _⟩ := hP.row.slice
      have x0 : W.cell? ⟨w2.heap.size + 1, 0, none⟩ = some (.slice A (pre.map fun x => blobV ((r.drop (200 * x.1)).take 200)).length cap) := by simp [World.cell?, hP.box]
      have hll : (pre.map fun x => blobV ((r.drop (200 * x.1)).take 200)).length ≤ 1000 := by rw [List.length_map]; omega
      have hbW : Below w.heap.size w W := HV5.out.bx.bel.trans (hP.only.below HV5.out.bx.bel.size (fun j e => by have := HV5.out.ge; have := HS4.out; have := HS5.out; omega))
      have HC : Hid (∀ W', Below W.heap.size W W' → Calls Tryz.prog 132 #[chunkV rA rn x.1] W' (Ans (.agg #[.int .i64 5, .int .i64 0, .string (strB ((r.drop (200 * x.1)).take 200))]) W')) := Lib.hid fun W' hb => sblob_any _ _ _ _ (by rw [List.length_take, List.length_drop, hrn]) W' (((rd_chunk HR.out (200 * x.1) 200).below (hbW.trans (hb.mono hbW.size)) (Nat.le_refl _)).more (Nat.le_trans hbW.size hb.size))
      have HAP := Lib.hid (fun w3 hb => hP.app (w3 := w3) (by have := HS4.out; have := HS5.out; omega) (Nat.le_refl _) hb (strB ((r.drop (200 * x.1)).take 200)) hll)
      have HJ : Hid (∀ W9 g' v', PcI w5 W9 (w2.heap.size + 1) w5.heap.size ((pre.map fun x => blobV ((r.drop (200 * x.1)).take 200)) ++ [⟨5, 0, strB ((r.drop (200 * x.1)).take 200)⟩]) g' v' → PcJ w5 (w2.heap.size + 1) w5.heap.size r (pre ++ [x]) W9) := Lib.hid fun W9 g' v' hp9 => ⟨g', v', by rw [List.map_append]; exact hp9, by rw [List.length_append, List.length_singleton]; omega⟩
      generalize strB ((r.drop (200 * x.1)).take 200) = cb at HC HAP HJ
      generalize (pre.map fun x => blobV ((r.drop (200 * x.1)).take 200)) = L at x0 HAP HJ
      clear hP hpl hpl2 hll hbW
      dsimp only [chunkV] at HC ⊢
      gi_wp2_with fail
      gi_region_with_o (refine ⟨trivial, ?_⟩; gi_at_call 132; refine (CallsIn.inRound l (callsIn_wide.2 (HC.out _ (by first | exact Below.refl _ _ | exact drew_below _)))).mono ?_; rintro e w3 ⟨rfl, hb⟩
                        obtain ⟨A', c', w6, hc3, hc4, hrun, hc6, hf6, HN⟩ := HAP.out w3 (below_drew hb)
                        clear hb)
      all_goals gi_wp2
      all_goals exact ⟨HN.out.1 _, HN.out.2.1, by obtain ⟨g9, h9⟩ := HN.out.2.2; exact HJ.out _ _ _ h9⟩
    case done =>
      rintro D xs W hD hS ⟨g, v, hP, hpl⟩ hK
      have hV := HV5.out
      have s4 := HS4.out
      have s5 := HS5.out
      have hge := hV.ge
      have hb1 : W.heap[w.heap.size]? = some (.cells #[.int .i64 1, .int .i64 n, .string sb, .slice kA kn kc, .slice rA rn rc, .bool d] 108 (0, 0)) := (hP.only.block _ hV.bx.lt (by omega)).trans hV.bx.box
      have hbW : Below w.heap.size w W := hV.bx.bel.trans (hP.only.below hV.bx.bel.size (fun j e => by omega))
      have hX : BxR w W 1 n sb kA rA kn kc rn rc d := ⟨hbW, hb1⟩
      have hrow : HeldC W w.heap.size w2.heap.size 3 (.slice (some ⟨w2.heap.size, 0, none⟩) 2 2) 2 (valsV [numV 1, numV n]) := hV.row.only hP.only (fun _ => by omega)
      have hlt2 : w2.heap.size < W.heap.size := by have := hP.only.size; omega
      have hnD : D ≠ w2.heap.size := fun e => by
        obtain ⟨c0, e0, f0, h0⟩ := cells_of_own (w := W) (g := w2.heap.size) (o := 0) (cap := 2) (sz := 3) (n := 2) (vs := valsV [numV 1, numV n]) (by
          rcases hrow with ⟨h0, _⟩ | ⟨_, o9, c9, h0, h1⟩
          · cases h0
          · injection h0 with h0 _ h2
            injection h0 with h0
            injection h0 with _ h0 _
            rw [← h0, ← h2] at h1
            exact h1) (by decide)
        rw [e, h0] at hK
        cases hK
      obtain ⟨x0, x1, x2, x3, x4⟩ := hX.cells
      have HBL2 : Hid (∀ W', Below W.heap.size W W' → Calls Tryz.prog 132 #[.slice kA kn kc] W' (Ans (.agg #[.int .i64 5, .int .i64 0, .string kb]) W')) := Lib.hid fun W' hb => HBK.out W' (hbW.trans (hb.mono hbW.size))
      have hxs : (xs.map fun x => blobV ((r.drop (200 * x.1)).take 200)) = (chunksOf r).map blobV := by
        unfold chunksOf
        rw [hrn, ← hS, List.map_map, List.map_map]
        rfl
      rw [hxs] at hP
      obtain ⟨A9, c9, rfl, hc9, _⟩ := hP.row.slice
      have hcl : ((chunksOf r).map blobV).length ≤ 10 := by rw [List.length_map, chunksOf_len, hrn]; omega
      obtain ⟨PL, hPL⟩ : ∃ PL, (chunksOf r).map blobV = PL := ⟨_, rfl⟩
      have HPL := Lib.hid hPL
      rw [hPL] at hP hcl
      have HB3 : Hid (∀ w3, Below W.heap.size W w3 → w3.cell? ⟨w.heap.size, 2, none⟩ = some (.string sb) ∧ w3.cell? ⟨w.heap.size, 3, none⟩ = some (.slice kA kn kc) ∧ ∃ A5 c5 w6 A7 c7 w7, (Builtin.append_ #[159, 159] 159 #[.slice (some ⟨w2.heap.size, 0, none⟩) 2 2, .slice (some ⟨w3.heap.size, 0, none⟩) 2 2]).run Tryz.prog (w3.alloc (.cells #[.int .i64 4, .int .i64 0, .string sb, .int .i64 5, .int .i64 0, .string kb] 184)) = .ok (.slice A5 4 c5) w6 ∧ w6.cell? ⟨w2.heap.size + 1, 0, none⟩ = some (.slice A9 PL.length c9) ∧
          (Builtin.append_ #[159, 159] 159 #[.slice A5 4 c5, .slice A9 PL.length c9]).run Tryz.prog w6 = .ok (.slice A7 (4 + PL.length) c7) w7 ∧ w7.heap[D]? = W.heap[D]? ∧ Hid (VlT w ([numV 1, numV n, ⟨4, 0, sb⟩, ⟨5, 0, kb⟩] ++ PL) (.returned (.slice A7 (4 + PL.length) c7)) (w7.putObj D (.deferred none)))) := Lib.hid fun w3 hb => by
        obtain ⟨i0, hi, hz0, hz1, hz2⟩ := info_parts infoV
        have hX3 := hX.next hb
        have s3 := hb.size
        have sP := hP.only.size
        obtain ⟨A5, c5, w6, hrun, HN⟩ := vl_app (sb := sb) (hrow.only (Only.of_below (K := fun _ => False) hb) (fun _ => id)) hge (by omega) kb
        obtain ⟨g5, hr5, hg5, hO5, hg5b⟩ := HN.out
        have s6 := hO5.size
        have hpW := (Array.getElem?_eq_some_iff.1 hP.box).1
        have hp6 : w6.heap[w2.heap.size + 1]? = some (.cells #[.slice A9 PL.length c9] 159 (0, 0)) := (hO5.block _ (by omega) (by omega)).trans ((hb.block _ hpW).trans hP.box)
        have hgw2 : g ≠ w2.heap.size := by have := hP.new; omega
        have hrow6 := (hP.row.only (Only.of_below (K := fun _ => False) hb) (fun _ => id)).only hO5 (fun _ => hgw2)
        obtain ⟨g7, v7, w7, hrun7, hrow7, hO7, hg7⟩ := run_appHCn (P := Tryz.prog) 159 159 184 Tryz.underlying159 hi hz0 hz1 hz2 (by rfl) (by decide) hr5 (by omega) (m := PL.length) (c := c9) (ys := valsV PL) (valsV_len PL) hrow6.rd.1 valsV_one (by omega) (by omega)
        obtain ⟨A7, c7, rfl, _, _⟩ := hrow7.slice
        have hDl : D < W.heap.size := (Array.getElem?_eq_some_iff.1 hK).1
        have hg5l : g5 = w2.heap.size ∨ W.heap.size ≤ g5 := by omega
        have hD7 : w7.heap[D]? = W.heap[D]? := (hO7.block D (by omega) (fun e => by have := e.1; omega)).trans ((hO5.block D (by omega) hnD).trans (hb.block D hDl))
        obtain ⟨y0, y1, y2, y3, y4⟩ := hX3.cells
        refine ⟨y2, y3, A5, c5, w6, A7, c7, w7, hrun, by simp [World.cell?, hp6], hrun7, hD7, Lib.hid ?_⟩
        have hg9 := grownBy_putObj' w7 D (.deferred none)
        have hO9 := Only.of_grown hg9
        have hg7D : g7 ≠ D := fun e => by
          obtain ⟨c0, e0, f0, h0⟩ : ∃ c e fr, w7.heap[g7]? = some (.cells c e fr) := by
            rcases hrow7 with ⟨_, h0, _⟩ | ⟨_, o, cap2, _, ho⟩
            · omega
            · have := ho.room
              exact cells_of_own ho (by omega)
          rw [e, hD7, hK] at h0
          cases h0
        have hrow9 := hrow7.only hO9 (fun _ e => by injection e with e; exact hg7D e)
        have hl9 : 4 + PL.length = ([numV 1, numV n, ⟨4, 0, sb⟩, ⟨5, 0, kb⟩] ++ PL).length := by simp; omega
        have hv9 : valsV [numV 1, numV n, ⟨4, 0, sb⟩, ⟨5, 0, kb⟩] ++ valsV PL = valsV ([numV 1, numV n, ⟨4, 0, sb⟩, ⟨5, 0, kb⟩] ++ PL) := (valsV_app _ _).symm
        rw [hv9, hl9] at hrow9
        refine ⟨A7, c7, by rw [← hl9], hrow9.rdV.2, ?_⟩
        have hb3 : Below w.heap.size w w3 := hbW.trans (hb.mono hbW.size)
        have hb6 : Below w.heap.size w w6 := hb3.trans (hO5.below hb3.size (fun j e => by omega))
        have hb7 : Below w.heap.size w w7 := hb6.trans (hO7.below hb6.size (fun j e => by omega))
        exact hb7.trans (hO9.below hb7.size (fun j e => by injection e with e; omega))
      have HK := Lib.hid hK
      clear hV s4 s5 hge hb1 hbW hrow hlt2 hnD hxs hP hc9 hcl hPL hS hpl hX hK
      gi_wp2_with fail
      refine wpIn_wide.2 (wp_cutA (fun (a a' : Act) (w' : World) => ∃ (w3 : World) (A5 : Option Addr) (c5 : Nat) (A7 : Option Addr) (c7 : Nat) (w7 : World), w'.cell? ⟨w2.heap.size + 1, 0, none⟩ = some (.slice A9 PL.length c9) ∧ (Builtin.append_ #[159, 159] 159 #[.slice A5 4 c5, .slice A9 PL.length c9]).run Tryz.prog w' = .ok (.slice A7 (4 + PL.length) c7) w7 ∧ w7.heap[D]? = W.heap[D]? ∧ Hid (VlT w ([numV 1, numV n, ⟨4, 0, sb⟩, ⟨5, 0, kb⟩] ++ PL) (.returned (.slice A7 (4 + PL.length) c7)) (w7.putObj D (.deferred none))) ∧ a' = { tmps := #[.agg #[.int .i64 1, .int .i64 n, .string sb, .slice kA kn kc, .slice rA rn rc, .bool d], .pointer (some ⟨w.heap.size, 0, none⟩), .slice none 0 0, .slice A5 4 c5, .pointer (some ⟨w2.heap.size + 1, 0, none⟩), undef, .pointer (some ⟨w.heap.size, 0, none⟩), .int .i64 1, .agg #[.int .i64 2, .int .i64 1, .string ⟨#[]⟩], .pointer (some ⟨w.heap.size, 1, none⟩), .int .i64 n, .agg #[.int .i64 2, .int .i64 n, .string ⟨#[]⟩], .slice (some ⟨w2.heap.size, 0, none⟩) 2 2, .pointer (some ⟨w.heap.size, 0, none⟩), .int .i64 1, .bool false, .bool false, .bool true, .bool true, undef, undef, .pointer (some ⟨w.heap.size, 2, none⟩), .pointer (some ⟨w.heap.size, 4, none⟩), .slice rA rn rc, .func (.func 170) #[] #[.pointer (some ⟨w4.heap.size, 0, none⟩), .pointer (some ⟨w4.heap.size + 1, 0, none⟩)], undef, undef, undef, undef, undef, undef, .slice (some ⟨w2.heap.size, 0, none⟩) 2 2, .pointer (some ⟨w.heap.size, 2, none⟩), .pointer (some ⟨w.heap.size, 2, none⟩), .string sb, .agg #[.int .i64 4, .int .i64 0, .string sb], .pointer (some ⟨w.heap.size, 2, none⟩), .pointer (some ⟨w.heap.size, 3, none⟩), .slice kA kn kc, .agg #[.int .i64 5, .int .i64 0, .string kb], .slice (some ⟨w3.heap.size, 0, none⟩) 2 2, .slice A5 4 c5, undef, undef, undef], defers := a.defers }) ?reg2 ?hq2)
      case reg2 =>
        go_region_law (first
          | (go_simp; go_at_call 132; refine (HBL2.out _ (by first | exact Below.refl _ _ | exact drew_below _ | exact drewN_below _ _)).mono ?_; rintro e w3 ⟨rfl, hb⟩
             obtain ⟨y2, y3, A5, c5, w6, A7, c7, w7, hrun, hp6, hrun7, hD7, HT⟩ := HB3.out w3 (by first | exact hb | exact below_drew hb | exact (drewN_below _ _).trans (hb.mono (drewN_below _ _).size))
             clear hb))
        all_goals exact ⟨w3, A5, c5, A7, c7, w7, hp6, hrun7, hD7, HT, rfl⟩
      case hq2 =>
        rintro a' w6 ⟨w3, A5, c5, A7, c7, w7, hp6, hrun7, hD7, HT, rfl⟩
        gi_wp2
        refine ⟨by simp, .inl ⟨_, _, rfl, run_takeDeferred (hD7.trans HK.out), ?_⟩⟩
        refine ⟨_, results_tmp rfl _ _ _, ?_⟩
        rw [HPL.out]
        exact HT.out
    case stop =>
      rintro D c pre W hD hS hF hK
      exact hF.elim
set_option maxRecDepth 100000 in
set_option maxHeartbeats 8000000 in
theorem values_row7 (n : Int) (sb : ByteArray) (key r : List UInt8) (kA rA : Option Addr) (kn kc rn rc : Nat) (d : Bool) (hkn : key.length = kn) (hrn : r.length = rn) (hrc : rn ≤ rc) (hr2 : rn ≤ 2000) (w : World) (hk : RdB w w.heap.size kA key) (hr : RdB w w.heap.size rA r) : Calls Tryz.prog 93 #[.agg #[.int .i64 7, .int .i64 n, .string sb, .slice kA kn kc, .slice rA rn rc, .bool d]] w (VlT w ([numV 7, numV n, ⟨4, 0, sb⟩, blobV key] ++ (chunksOf r).map blobV)) := by
  have HX := Lib.hid (BxR.new w 7 n sb kA rA kn kc rn rc d)
  obtain ⟨w1, hw1⟩ : ∃ w1, w1 = w.alloc (.cells #[.int .i64 7, .int .i64 n, .string sb, .slice kA kn kc, .slice rA rn rc, .bool d] 108) := ⟨_, rfl⟩
  rw [← hw1] at HX
  have HW1 := Lib.hid hw1
  obtain ⟨x0, x1, x2, x3, x4⟩ := HX.out.cells
  obtain ⟨i0, hi, hz0, hz1, hz2⟩ := info_parts infoV
  have HI := Lib.hid (And.intro hi (And.intro hz0 (And.intro hz1 hz2)))
  clear hw1
  have HBK : Hid (∀ W, Below w.heap.size w W → Calls Tryz.prog 132 #[.slice kA kn kc] W (Ans (.agg #[.int .i64 5, .int .i64 0, .string (strB key)]) W)) := Lib.hid fun W hb => sblob_any key kA kn kc hkn W ((hk.below hb (Nat.le_refl _)).more hb.size)
  show Calls _ _ _ _ (VlT w ([numV 7, numV n, ⟨4, 0, sb⟩, ⟨5, 0, strB key⟩] ++ (chunksOf r).map blobV))
  generalize strB key = kb at HBK ⊢
  have HR := Lib.hid hr
  have hmx : Tryz.prog.follows .mixedOrders = true := by kernel_rfl
  clear hk hkn hr
  refine (callsIn_wide (n := 3)).1 ?_
  refine callsIn_of_wp_marks Tryz.func93 rfl trivial ?_ rfl
  simp only [Tryz.ntmps93, List.size_toArray, List.length_cons, List.length_nil, Nat.reduceAdd, Nat.reduceSub, Array.replicate_succ, Array.replicate_zero, List.push_toArray, List.append_toArray, List.nil_append, List.cons_append]
  gi_wp2_with fail
  rw [← HW1.out]
  refine wpIn_wide.2 (wp_cutN (fun a' w' => ∃ w2, BxR w w2 7 n sb kA rA kn kc rn rc d ∧ a' = { tmps := #[.agg #[.int .i64 7, .int .i64 n, .string sb, .slice kA kn kc, .slice rA rn rc, .bool d], .pointer (some ⟨w.heap.size, 0, none⟩), .slice none 0 0, .slice (some ⟨w2.heap.size, 0, none⟩) 2 2, undef, undef, .pointer (some ⟨w.heap.size, 0, none⟩), .int .i64 7, .agg #[.int .i64 2, .int .i64 7, .string ⟨#[]⟩], .pointer (some ⟨w.heap.size, 1, none⟩), .int .i64 n, .agg #[.int .i64 2, .int .i64 n, .string ⟨#[]⟩], .slice (some ⟨w2.heap.size, 0, none⟩) 2 2, undef, undef, undef, undef, undef, undef, undef, undef, undef, undef, undef, undef, undef, undef, undef, undef, undef, undef, undef, undef, undef, undef, undef, undef, undef, undef, undef, undef, undef, undef, undef, undef], defers := [] } ∧ w' = w2.alloc (.cells #[.int .i64 2, .int .i64 7, .string ⟨#[]⟩, .int .i64 2, .int .i64 n, .string ⟨#[]⟩] 184)) ?reg ?hq)
  case reg =>
    go_region_law (first
    | (go_simp; go_at_call 130; refine (snumber_any _ _).mono ?_; rintro e w2 ⟨rfl, hb⟩
       have HX := Lib.hid (by first | exact HX.out.next hb | exact HX.out.next (below_drew hb) | exact (HX.out.next (drewN_below _ _)).next hb)
       obtain ⟨x0, x1, x2, x3, x4⟩ := HX.out.cells
       clear hb))
    all_goals exact ⟨w2, HX.out, rfl, rfl⟩
  case hq =>
    rintro a' w' ⟨w2, hx2, rfl, rfl⟩
    have HX := Lib.hid hx2
    clear hx2
    have HV := Lib.hid (VlB.new HX.out)
    obtain ⟨w4, hw4⟩ : ∃ w4, w4 = (w2.alloc (.cells #[.int .i64 2, .int .i64 7, .string ⟨#[]⟩, .int .i64 2, .int .i64 n, .string ⟨#[]⟩] 184)).alloc (.cells #[.slice none 0 0] 159) := ⟨_, rfl⟩
    obtain ⟨x0, x1, x2, x3, x4⟩ := HV.out.bx.cells
    rw [← hw4] at HV
    have HW4 := Lib.hid hw4
    clear hw4
    have HBL : Hid (∀ W, Below w4.heap.size w4 W → Calls Tryz.prog 132 #[.slice kA kn kc] W (Ans (.agg #[.int .i64 5, .int .i64 0, .string kb]) W)) := Lib.hid fun W hb => HBK.out W (HV.out.bx.bel.trans (hb.mono HV.out.bx.bel.size))
    have HCK := Lib.hid (chunk_any w4 rA rn rc)
    gi_wp2_with (refine ⟨trivial, ?_⟩; gi_at_call 131; rw [← HW4.out]; refine (callsIn_wide.2 HCK.out).mono ?_; rintro e w5 ⟨rfl, hx1, hx2, hb5, hsz⟩
                 have HX1 := Lib.hid hx1
                 have HX2 := Lib.hid hx2
                 have HB5 := Lib.hid hb5
                 have HSZ := Lib.hid hsz
                 clear hx1 hx2 hb5 hsz)
    have hs4 : w4.heap.size = w2.heap.size + 2 := by rw [HW4.out]; simp
    have hs5 : w5.heap.size = w4.heap.size + 2 := HSZ.out
    have hV5 := HV.out.below HB5.out
    have hstart : PcJ w5 (w2.heap.size + 1) w5.heap.size r (m := (rn + 199) / 200) [] w5 := ⟨w2.heap.size + 1, .slice none 0 0, ⟨hV5.pcs, .inl ⟨rfl, rfl, rfl, rfl⟩, .inl rfl, ⟨_, _, _, hV5.pcs⟩, Only.refl _ _⟩, Nat.zero_le _⟩
    have hA : rn ≠ 0 → ∃ ad, rA = some ad := fun hn => by
      obtain ⟨ad, e, _⟩ := HR.out (fun e => by rw [e] at hrn; exact hn hrn.symm)
      exact ⟨ad, e⟩
    have hseq := chunk_stops 2 (n1 := w5.heap.size) (bl := w2.heap.size + 1) hrc hA HX1.out HX2.out (by omega) (by omega) hr2
    have hIo := PcJ.own w5 (w2.heap.size + 1) w5.heap.size r ((rn + 199) / 200)
    have HS4 := Lib.hid hs4
    have HS5 := Lib.hid hs5
    have HV5 := Lib.hid hV5
    clear hs4 hs5 hV5
    refine wpIn_rangeFunc_ownH (n := 3) rfl (by decide) (gf := 170) (lb := #[.pointer (some ⟨w4.heap.size, 0, none⟩), .pointer (some ⟨w4.heap.size + 1, 0, none⟩)]) rfl trivial (enters_of Tryz.func170 (by kernel_rfl) rfl) hseq
      (fun {A B C} h k => Only.trans h k (fun _ _ e => e))
      (fun W l o o' hl ho hc hw => (Only.of_grown (grownBy_putObj' W l o')).more (fun k _ e => .inr (by cases e; exact hl)))
      (Below.refl _ _) (fun _ => rfl)
      (PcJ w5 (w2.heap.size + 1) w5.heap.size r)
      (fun c pre W => False)
      hIo (fun c pre W W' row h hg hr => h.elim) hstart
      (fun x a' W => a' = { tmps := #[.agg #[.int .i64 7, .int .i64 n, .string sb, .slice kA kn kc, .slice rA rn rc, .bool d], .pointer (some ⟨w.heap.size, 0, none⟩), .slice none 0 0, .slice (some ⟨w2.heap.size, 0, none⟩) 2 2, .pointer (some ⟨w2.heap.size + 1, 0, none⟩), chunkV rA rn x.1, .pointer (some ⟨w.heap.size, 0, none⟩), .int .i64 7, .agg #[.int .i64 2, .int .i64 7, .string ⟨#[]⟩], .pointer (some ⟨w.heap.size, 1, none⟩), .int .i64 n, .agg #[.int .i64 2, .int .i64 n, .string ⟨#[]⟩], .slice (some ⟨w2.heap.size, 0, none⟩) 2 2, .pointer (some ⟨w.heap.size, 0, none⟩), .int .i64 7, .bool true, .bool true, undef, undef, undef, undef, .pointer (some ⟨w.heap.size, 2, none⟩), .pointer (some ⟨w.heap.size, 4, none⟩), .slice rA rn rc, .func (.func 170) #[] #[.pointer (some ⟨w4.heap.size, 0, none⟩), .pointer (some ⟨w4.heap.size + 1, 0, none⟩)], chunkV rA rn x.1, undef, undef, undef, undef, undef, undef, undef, undef, undef, undef, undef, undef, undef, undef, undef, undef, undef, undef, undef], defers := [] })
      (fun x a' _ W W' row hs hg hr => hs) ?assign ?body ?done ?stop
    case assign =>
      rintro l pre x W K hi hK
      gi_wp2
      exact hK _ _ (KeepsFrom.refl _ _) (Only.refl _ _) hi rfl
    case body =>
      rintro l pre x a' W hlw hloop ⟨g, v, hP, hpl⟩ rfl hpl2
      obtain ⟨A, cap, rfl, _, _⟩ := hP.row.slice
      have x0 : W.cell? ⟨w2.heap.size + 1, 0, none⟩ = some (.slice A (pre.map fun x => blobV ((r.drop (200 * x.1)).take 200)).length cap) := by simp [World.cell?, hP.box]
      have hll : (pre.map fun x => blobV ((r.drop (200 * x.1)).take 200)).length ≤ 1000 := by rw [List.length_map]; omega
      have hbW : Below w.heap.size w W := HV5.out.bx.bel.trans (hP.only.below HV5.out.bx.bel.size (fun j e => by have := HV5.out.ge; have := HS4.out; have := HS5.out; omega))
      have HC : Hid (∀ W', Below W.heap.size W W' → Calls Tryz.prog 132 #[chunkV rA rn x.1] W' (Ans (.agg #[.int .i64 5, .int .i64 0, .string (strB ((r.drop (200 * x.1)).take 200))]) W')) := Lib.hid fun W' hb => sblob_any _ _ _ _ (by rw [List.length_take, List.length_drop, hrn]) W' (((rd_chunk HR.out (200 * x.1) 200).below (hbW.trans (hb.mono hbW.size)) (Nat.le_refl _)).more (Nat.le_trans hbW.size hb.size))
      have HAP := Lib.hid (fun w3 hb => hP.app (w3 := w3) (by have := HS4.out; have := HS5.out; omega) (Nat.le_refl _) hb (strB ((r.drop (200 * x.1)).take 200)) hll)
      have HJ : Hid (∀ W9 g' v', PcI w5 W9 (w2.heap.size + 1) w5.heap.size ((pre.map fun x => blobV ((r.drop (200 * x.1)).take 200)) ++ [⟨5, 0, strB ((r.drop (200 * x.1)).take 200)⟩]) g' v' → PcJ w5 (w2.heap.size + 1) w5.heap.size r (pre ++ [x]) W9) := Lib.hid fun W9 g' v' hp9 => ⟨g', v', by rw [List.map_append]; exact hp9, by rw [List.length_append, List.length_singleton]; omega⟩
      generalize strB ((r.drop (200 * x.1)).take 200) = cb at HC HAP HJ
      generalize (pre.map fun x => blobV ((r.drop (200 * x.1)).take 200)) = L at x0 HAP HJ
      clear hP hpl hpl2 hll hbW
      dsimp only [chunkV] at HC ⊢
      gi_wp2_with fail
      gi_region_with_o (refine ⟨trivial, ?_⟩; gi_at_call 132; refine (CallsIn.inRound l (callsIn_wide.2 (HC.out _ (by first | exact Below.refl _ _ | exact drew_below _)))).mono ?_; rintro e w3 ⟨rfl, hb⟩
                        obtain ⟨A', c', w6, hc3, hc4, hrun, hc6, hf6, HN⟩ := HAP.out w3 (below_drew hb)
                        clear hb)
      all_goals gi_wp2
      all_goals exact ⟨HN.out.1 _, HN.out.2.1, by obtain ⟨g9, h9⟩ := HN.out.2.2; exact HJ.out _ _ _ h9⟩
    case done =>
      rintro D xs W hD hS ⟨g, v, hP, hpl⟩ hK
      have hV := HV5.out
      have s4 := HS4.out
      have s5 := HS5.out
      have hge := hV.ge
      have hb1 : W.heap[w.heap.size]? = some (.cells #[.int .i64 7, .int .i64 n, .string sb, .slice kA kn kc, .slice rA rn rc, .bool d] 108 (0, 0)) := (hP.only.block _ hV.bx.lt (by omega)).trans hV.bx.box
      have hbW : Below w.heap.size w W := hV.bx.bel.trans (hP.only.below hV.bx.bel.size (fun j e => by omega))
      have hX : BxR w W 7 n sb kA rA kn kc rn rc d := ⟨hbW, hb1⟩
      have hrow : HeldC W w.heap.size w2.heap.size 3 (.slice (some ⟨w2.heap.size, 0, none⟩) 2 2) 2 (valsV [numV 7, numV n]) := hV.row.only hP.only (fun _ => by omega)
      have hlt2 : w2.heap.size < W.heap.size := by have := hP.only.size; omega
      have hnD : D ≠ w2.heap.size := fun e => by
        obtain ⟨c0, e0, f0, h0⟩ := cells_of_own (w := W) (g := w2.heap.size) (o := 0) (cap := 2) (sz := 3) (n := 2) (vs := valsV [numV 7, numV n]) (by
          rcases hrow with ⟨h0, _⟩ | ⟨_, o9, c9, h0, h1⟩
          · cases h0
          · injection h0 with h0 _ h2
            injection h0 with h0
            injection h0 with _ h0 _
            rw [← h0, ← h2] at h1
            exact h1) (by decide)
        rw [e, h0] at hK
        cases hK
      obtain ⟨x0, x1, x2, x3, x4⟩ := hX.cells
      have HBL2 : Hid (∀ W', Below W.heap.size W W' → Calls Tryz.prog 132 #[.slice kA kn kc] W' (Ans (.agg #[.int .i64 5, .int .i64 0, .string kb]) W')) := Lib.hid fun W' hb => HBK.out W' (hbW.trans (hb.mono hbW.size))
      have hxs : (xs.map fun x => blobV ((r.drop (200 * x.1)).take 200)) = (chunksOf r).map blobV := by
        unfold chunksOf
        rw [hrn, ← hS, List.map_map, List.map_map]
        rfl
      rw [hxs] at hP
      obtain ⟨A9, c9, rfl, hc9, _⟩ := hP.row.slice
      have hcl : ((chunksOf r).map blobV).length ≤ 10 := by rw [List.length_map, chunksOf_len, hrn]; omega
      obtain ⟨PL, hPL⟩ : ∃ PL, (chunksOf r).map blobV = PL := ⟨_, rfl⟩
      have HPL := Lib.hid hPL
      rw [hPL] at hP hcl
      have HB3 : Hid (∀ w3, Below W.heap.size W w3 → w3.cell? ⟨w.heap.size, 2, none⟩ = some (.string sb) ∧ w3.cell? ⟨w.heap.size, 3, none⟩ = some (.slice kA kn kc) ∧ ∃ A5 c5 w6 A7 c7 w7, (Builtin.append_ #[159, 159] 159 #[.slice (some ⟨w2.heap.size, 0, none⟩) 2 2, .slice (some ⟨w3.heap.size, 0, none⟩) 2 2]).run Tryz.prog (w3.alloc (.cells #[.int .i64 4, .int .i64 0, .string sb, .int .i64 5, .int .i64 0, .string kb] 184)) = .ok (.slice A5 4 c5) w6 ∧ w6.cell? ⟨w2.heap.size + 1, 0, none⟩ = some (.slice A9 PL.length c9) ∧
          (Builtin.append_ #[159, 159] 159 #[.slice A5 4 c5, .slice A9 PL.length c9]).run Tryz.prog w6 = .ok (.slice A7 (4 + PL.length) c7) w7 ∧ w7.heap[D]? = W.heap[D]? ∧ Hid (VlT w ([numV 7, numV n, ⟨4, 0, sb⟩, ⟨5, 0, kb⟩] ++ PL) (.returned (.slice A7 (4 + PL.length) c7)) (w7.putObj D (.deferred none)))) := Lib.hid fun w3 hb => by
        obtain ⟨i0, hi, hz0, hz1, hz2⟩ := info_parts infoV
        have hX3 := hX.next hb
        have s3 := hb.size
        have sP := hP.only.size
        obtain ⟨A5, c5, w6, hrun, HN⟩ := vl_app (sb := sb) (hrow.only (Only.of_below (K := fun _ => False) hb) (fun _ => id)) hge (by omega) kb
        obtain ⟨g5, hr5, hg5, hO5, hg5b⟩ := HN.out
        have s6 := hO5.size
        have hpW := (Array.getElem?_eq_some_iff.1 hP.box).1
        have hp6 : w6.heap[w2.heap.size + 1]? = some (.cells #[.slice A9 PL.length c9] 159 (0, 0)) := (hO5.block _ (by omega) (by omega)).trans ((hb.block _ hpW).trans hP.box)
        have hgw2 : g ≠ w2.heap.size := by have := hP.new; omega
        have hrow6 := (hP.row.only (Only.of_below (K := fun _ => False) hb) (fun _ => id)).only hO5 (fun _ => hgw2)
        obtain ⟨g7, v7, w7, hrun7, hrow7, hO7, hg7⟩ := run_appHCn (P := Tryz.prog) 159 159 184 Tryz.underlying159 hi hz0 hz1 hz2 (by rfl) (by decide) hr5 (by omega) (m := PL.length) (c := c9) (ys := valsV PL) (valsV_len PL) hrow6.rd.1 valsV_one (by omega) (by omega)
        obtain ⟨A7, c7, rfl, _, _⟩ := hrow7.slice
        have hDl : D < W.heap.size := (Array.getElem?_eq_some_iff.1 hK).1
        have hg5l : g5 = w2.heap.size ∨ W.heap.size ≤ g5 := by omega
        have hD7 : w7.heap[D]? = W.heap[D]? := (hO7.block D (by omega) (fun e => by have := e.1; omega)).trans ((hO5.block D (by omega) hnD).trans (hb.block D hDl))
        obtain ⟨y0, y1, y2, y3, y4⟩ := hX3.cells
        refine ⟨y2, y3, A5, c5, w6, A7, c7, w7, hrun, by simp [World.cell?, hp6], hrun7, hD7, Lib.hid ?_⟩
        have hg9 := grownBy_putObj' w7 D (.deferred none)
        have hO9 := Only.of_grown hg9
        have hg7D : g7 ≠ D := fun e => by
          obtain ⟨c0, e0, f0, h0⟩ : ∃ c e fr, w7.heap[g7]? = some (.cells c e fr) := by
            rcases hrow7 with ⟨_, h0, _⟩ | ⟨_, o, cap2, _, ho⟩
            · omega
            · have := ho.room
              exact cells_of_own ho (by omega)
          rw [e, hD7, hK] at h0
          cases h0
        have hrow9 := hrow7.only hO9 (fun _ e => by injection e with e; exact hg7D e)
        have hl9 : 4 + PL.length = ([numV 7, numV n, ⟨4, 0, sb⟩, ⟨5, 0, kb⟩] ++ PL).length := by simp; omega
        have hv9 : valsV [numV 7, numV n, ⟨4, 0, sb⟩, ⟨5, 0, kb⟩] ++ valsV PL = valsV ([numV 7, numV n, ⟨4, 0, sb⟩, ⟨5, 0, kb⟩] ++ PL) := (valsV_app _ _).symm
        rw [hv9, hl9] at hrow9
        refine ⟨A7, c7, by rw [← hl9], hrow9.rdV.2, ?_⟩
        have hb3 : Below w.heap.size w w3 := hbW.trans (hb.mono hbW.size)
        have hb6 : Below w.heap.size w w6 := hb3.trans (hO5.below hb3.size (fun j e => by omega))
        have hb7 : Below w.heap.size w w7 := hb6.trans (hO7.below hb6.size (fun j e => by omega))
        exact hb7.trans (hO9.below hb7.size (fun j e => by injection e with e; omega))
      have HK := Lib.hid hK
      clear hV s4 s5 hge hb1 hbW hrow hlt2 hnD hxs hP hc9 hcl hPL hS hpl hX hK
      gi_wp2_with fail
      refine wpIn_wide.2 (wp_cutA (fun (a a' : Act) (w' : World) => ∃ (w3 : World) (A5 : Option Addr) (c5 : Nat) (A7 : Option Addr) (c7 : Nat) (w7 : World), w'.cell? ⟨w2.heap.size + 1, 0, none⟩ = some (.slice A9 PL.length c9) ∧ (Builtin.append_ #[159, 159] 159 #[.slice A5 4 c5, .slice A9 PL.length c9]).run Tryz.prog w' = .ok (.slice A7 (4 + PL.length) c7) w7 ∧ w7.heap[D]? = W.heap[D]? ∧ Hid (VlT w ([numV 7, numV n, ⟨4, 0, sb⟩, ⟨5, 0, kb⟩] ++ PL) (.returned (.slice A7 (4 + PL.length) c7)) (w7.putObj D (.deferred none))) ∧ a' = { tmps := #[.agg #[.int .i64 7, .int .i64 n, .string sb, .slice kA kn kc, .slice rA rn rc, .bool d], .pointer (some ⟨w.heap.size, 0, none⟩), .slice none 0 0, .slice A5 4 c5, .pointer (some ⟨w2.heap.size + 1, 0, none⟩), undef, .pointer (some ⟨w.heap.size, 0, none⟩), .int .i64 7, .agg #[.int .i64 2, .int .i64 7, .string ⟨#[]⟩], .pointer (some ⟨w.heap.size, 1, none⟩), .int .i64 n, .agg #[.int .i64 2, .int .i64 n, .string ⟨#[]⟩], .slice (some ⟨w2.heap.size, 0, none⟩) 2 2, .pointer (some ⟨w.heap.size, 0, none⟩), .int .i64 7, .bool true, .bool true, undef, undef, undef, undef, .pointer (some ⟨w.heap.size, 2, none⟩), .pointer (some ⟨w.heap.size, 4, none⟩), .slice rA rn rc, .func (.func 170) #[] #[.pointer (some ⟨w4.heap.size, 0, none⟩), .pointer (some ⟨w4.heap.size + 1, 0, none⟩)], undef, undef, undef, undef, undef, undef, .slice (some ⟨w2.heap.size, 0, none⟩) 2 2, .pointer (some ⟨w.heap.size, 2, none⟩), .pointer (some ⟨w.heap.size, 2, none⟩), .string sb, .agg #[.int .i64 4, .int .i64 0, .string sb], .pointer (some ⟨w.heap.size, 2, none⟩), .pointer (some ⟨w.heap.size, 3, none⟩), .slice kA kn kc, .agg #[.int .i64 5, .int .i64 0, .string kb], .slice (some ⟨w3.heap.size, 0, none⟩) 2 2, .slice A5 4 c5, undef, undef, undef], defers := a.defers }) ?reg2 ?hq2)
      case reg2 =>
        go_region_law (first
          | (go_simp; go_at_call 132; refine (HBL2.out _ (by first | exact Below.refl _ _ | exact drew_below _ | exact drewN_below _ _)).mono ?_; rintro e w3 ⟨rfl, hb⟩
             obtain ⟨y2, y3, A5, c5, w6, A7, c7, w7, hrun, hp6, hrun7, hD7, HT⟩ := HB3.out w3 (by first | exact hb | exact below_drew hb | exact (drewN_below _ _).trans (hb.mono (drewN_below _ _).size))
             clear hb))
        all_goals exact ⟨w3, A5, c5, A7, c7, w7, hp6, hrun7, hD7, HT, rfl⟩
      case hq2 =>
        rintro a' w6 ⟨w3, A5, c5, A7, c7, w7, hp6, hrun7, hD7, HT, rfl⟩
        gi_wp2
        refine ⟨by simp, .inl ⟨_, _, rfl, run_takeDeferred (hD7.trans HK.out), ?_⟩⟩
        refine ⟨_, results_tmp rfl _ _ _, ?_⟩
        rw [HPL.out]
        exact HT.out
    case stop =>
      rintro D c pre W hD hS hF hK
      exact hF.elim
/-- any record's values -/
theorem values_any (x : Rc) (hok : x.Ok) (w : World) (hk : RdB w w.heap.size x.c.kA x.c.k) (hr : RdB w w.heap.size x.c.rA x.c.r) (hc : x.c.r.length ≤ x.c.rc) : Calls Tryz.prog 93 #[x.v] w (VlT w x.vals) := by
  obtain ⟨k, n, ⟨s, kA, kl, kc, rA, r, rc, d⟩⟩ := x
  have h3 := hok.len.2.2
  simp only at hk hr hc h3
  by_cases h1 : k = 1
  · subst h1
    exact values_row1 n (strB s) kl r kA rA _ kc _ rc d rfl rfl hc h3 w hk hr
  · by_cases h7 : k = 7
    · subst h7
      exact values_row7 n (strB s) kl r kA rA _ kc _ rc d rfl rfl hc h3 w hk hr
    · by_cases h2 : k = 2
      · subst h2
        exact values_drop n (strB s) kl kA rA _ kc _ rc d rfl w hk
      · have e : (⟨k, n, ⟨s, kA, kl, kc, rA, r, rc, d⟩⟩ : Rc).vals = [numV k, numV n] := by simp [Rc.vals, Rc.keyed, Rc.rowed, h1, h2, h7]
        rw [e]
        exact values_plain k n (strB s) kA rA _ kc _ rc d h1 h2 h7 w
end Go.Proofs.YtkohppalfcalbaaGreat

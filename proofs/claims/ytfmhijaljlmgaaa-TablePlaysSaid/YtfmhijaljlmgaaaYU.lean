/- Package table: Range, once more: what it hands out lies apart. -/
import Derived.Test.YtfmhijaljlmgaaaYR
import Derived.Test.YtfmhijaljlmgaaaYST
import Derived.Shelf.RegionOpen
namespace Go.Proofs.Ytfmhijaljlmgaaa
open Go.RowKit

attribute [local go_sem] Oper.semAt_some
/-- what Range answers: its row, its entries, all its own, none of their bytes in the row's block -/
def RgS (w : World) (L : List (List UInt8 × List UInt8)) (en : Ending) (w' : World) : Prop := ∃ b g v es, en = .returned v ∧ HeldC w' b g 2 v es.length (entV es) ∧ (g = b ∨ w.heap.size ≤ g) ∧ w.heap.size ≤ b ∧ OwnEs w' w.heap.size es ∧ kv es = L ∧ Below w.heap.size w w' ∧ SepE g es
attribute [-go_sem] Builtin.append_
set_option maxRecDepth 100000 in
set_option maxHeartbeats 8000000 in
theorem range_sep {w : World} {G D : Nat → Prop} {q P : Nat} {ps : List Pg} (h : Tbl w G D q P ps) (F T : Option Addr) (f t : List UInt8) (fn fc tn tc : Nat) (most : Int) (hfn : f.length = fn) (htn : t.length = tn) (hf : RdB w w.heap.size F f) (ht : RdB w w.heap.size T t) :
    Calls Try.prog 13 #[.pointer (some ⟨q, 0, none⟩), .slice F fn fc, .slice T tn tc, .int .i64 most] w (RgS w (kv ((rangeL f t (flat ps)).take most.toNat))) := by
  have hnil : ∀ (w : World) (a : Option Addr), (binOp .eql 26 (.pointer a) (.pointer none)).run Try.prog w = .ok (.bool a.isNone) w := fun w a => by cases a <;> rfl
  obtain ⟨w1, hw1⟩ : ∃ w1, w1 = (w.alloc (.cells #[.int .i64 most] 3)).alloc (.cells #[.slice none 0 0] 40) := ⟨_, rfl⟩
  have hs1 : w1.heap.size = w.heap.size + 2 := by rw [hw1]; simp
  have hb1 : Below w.heap.size w w1 := by rw [hw1]; exact (alloc_below w _).trans ((alloc_below _ _).mono (by simp))
  have hm1 : w1.heap[w.heap.size]? = some (.cells #[.int .i64 most] 3 (0, 0)) := by rw [hw1, Below.heap_alloc _ _ _ (by simp)]; exact heap_alloc_new w _
  have hl1 : w1.heap[w.heap.size + 1]? = some (.cells #[.slice none 0 0] 40 (0, 0)) := by
    rw [hw1]
    have h5 := heap_alloc_new (w.alloc (.cells #[.int .i64 most] 3)) (.cells #[.slice none 0 0] 40)
    rw [show (w.alloc (.cells #[.int .i64 most] 3)).heap.size = w.heap.size + 1 by simp] at h5
    exact h5
  have HBT := Lib.hid (between_any w1 q F T fn fc tn tc)
  have HW1 := Lib.hid hw1
  clear hw1
  refine (callsIn_wide (n := 3)).1 ?_
  refine callsIn_of_wp_marks Try.func13 rfl trivial ?_ rfl
  simp only [Try.ntmps13, List.size_toArray, List.length_cons, List.length_nil, Nat.reduceAdd, Nat.reduceSub, Array.replicate_succ, Array.replicate_zero, List.push_toArray, List.append_toArray, List.nil_append, List.cons_append]
  gi_wp2_with (refine ⟨trivial, ?_⟩; gi_at_call 24; rw [← HW1.out]; refine (callsIn_wide.2 HBT.out).mono ?_; rintro e w2 ⟨rfl, hx1, hx2, hx3, hb2, hsz⟩
               have HX1 := Lib.hid hx1
               have HX2 := Lib.hid hx2
               have HX3 := Lib.hid hx3
               have HB2 := Lib.hid hb2
               have HSZ := Lib.hid hsz
               clear hx1 hx2 hx3 hb2 hsz)
  have hs2 : w2.heap.size = w.heap.size + 5 := by have := HSZ.out; omega
  have hbw2 : Below w.heap.size w w2 := hb1.trans (HB2.out.mono hb1.size)
  have hGS : ∀ j, G j → j < w.heap.size := h.t.glt
  have hDS : ∀ j, D j → j < w.heap.size := h.t.dlt
  have hFS : f ≠ [] → ∀ ad, F = some ad → ad.block < w.heap.size := fun hn ad ha => by
    obtain ⟨ad2, e1, e2, _⟩ := hf hn
    rw [ha] at e1
    injection e1 with e1
    rw [e1]; exact e2
  have hTS : t ≠ [] → ∀ ad, T = some ad → ad.block < w.heap.size := fun hn ad ha => by
    obtain ⟨ad2, e1, e2, _⟩ := ht hn
    rw [ha] at e1
    injection e1 with e1
    rw [e1]; exact e2
  have hBtw : Btw w2 G D q P ps (w.heap.size + 2) (w.heap.size + 2 + 1) (w.heap.size + 2 + 1 + 1) F T f t fn fc tn tc := by rw [← hs1]; exact ⟨h.below hbw2, HX1.out, HX2.out, HX3.out, (hf.below hbw2 (Nat.le_refl _)).more hbw2.size, (ht.below hbw2 (Nat.le_refl _)).more hbw2.size, hfn, htn⟩
  have hstart : RgI w (w.heap.size + 1) w.heap.size most G D q P (w.heap.size + 2) (w.heap.size + 2 + 1) (w.heap.size + 2 + 1 + 1) F T f t fn fc tn tc ([] : List {x : Ent // x ∈ flat ps}) w2 := ⟨w.heap.size + 1, .slice none 0 0, [], ⟨(HB2.out.block _ (by omega)).trans hl1, .inl ⟨rfl, rfl, rfl, rfl⟩, .inl rfl, fun e he => by simp at he, ⟨_, _, _, (HB2.out.block _ (by omega)).trans hl1⟩, fun e he => by simp at he, (HB2.out.block _ (by omega)).trans hm1, hBtw⟩, rfl, hbw2, by omega, Nat.zero_le _⟩
  have hseq := closure_stops 2 (n1 := w2.heap.size) (bl := w.heap.size + 1) hBtw (Nat.le_refl _) (fun j hj => by have := hGS j hj; omega) (fun j hj => by have := hDS j hj; omega) (by omega) (by omega) (by omega) (fun hn ad ha => by have := hFS hn ad ha; omega) (fun hn ad ha => by have := hTS hn ad ha; omega)
  have hIo := RgI.own (ps := ps) w (w.heap.size + 1) w.heap.size w2.heap.size most G D q P (w.heap.size + 2) (w.heap.size + 2 + 1) (w.heap.size + 2 + 1 + 1) F T f t fn fc tn tc (by omega) (fun j hj => by have := hGS j hj; omega) (fun j hj => by have := hDS j hj; omega) (fun hn ad ha => by have := hFS hn ad ha; omega) (fun hn ad ha => by have := hTS hn ad ha; omega)
  have hXo := RgX.own (ps := ps) w (w.heap.size + 1) w.heap.size w2.heap.size most G D q P (w.heap.size + 2) (w.heap.size + 2 + 1) (w.heap.size + 2 + 1 + 1) F T f t fn fc tn tc (by omega) (fun j hj => by have := hGS j hj; omega) (fun j hj => by have := hDS j hj; omega) (fun hn ad ha => by have := hFS hn ad ha; omega) (fun hn ad ha => by have := hTS hn ad ha; omega)
  refine wpIn_rangeFunc_ownH (n := 3) rfl (by decide) (gf := 38) (lb := #[.pointer (some ⟨w.heap.size + 2, 0, none⟩), .pointer (some ⟨w.heap.size + 2 + 1, 0, none⟩), .pointer (some ⟨w.heap.size + 2 + 1 + 1, 0, none⟩)]) rfl trivial (enters_of Try.func38 (by kernel_rfl) rfl) hseq
    (fun {A B C} h k => Only.trans h k (fun _ _ e => e))
    (fun W l o o' hl ho hc hw => (Only.of_grown (grownBy_putObj' W l o')).more (fun k _ e => .inr (by cases e; exact hl)))
    (Below.refl _ _) (fun _ => rfl)
    (RgI w (w.heap.size + 1) w.heap.size most G D q P (w.heap.size + 2) (w.heap.size + 2 + 1) (w.heap.size + 2 + 1 + 1) F T f t fn fc tn tc)
    (fun c pre W => c = .exit 0 ∧ RgX w (w.heap.size + 1) w.heap.size most G D q P (w.heap.size + 2) (w.heap.size + 2 + 1) (w.heap.size + 2 + 1 + 1) F T f t fn fc tn tc pre W)
    hIo (fun c pre W W' row h hg hr => ⟨h.1, hXo pre W W' row h.2 hg hr⟩) hstart
    (fun x a' W => ∃ Bx, w2.heap.size ≤ Bx ∧ W.heap[Bx]? = some (.cells #[.slice x.1.kA x.1.k.length x.1.kc, .slice x.1.rA x.1.r.length x.1.rc] 46 (0, 0)) ∧ a' = { tmps := #[.pointer (some ⟨q, 0, none⟩), .slice F fn fc, .slice T tn tc, .int .i64 most, undef, undef, undef, .pointer (some ⟨w.heap.size, 0, none⟩), .slice none 0 0, .pointer (some ⟨w.heap.size + 1, 0, none⟩), .pointer (some ⟨Bx, 0, none⟩), .pointer (some ⟨q, 0, none⟩), .bool false, .pointer (some ⟨q, 0, none⟩), .slice F fn fc, .slice T tn tc, .func (.func 38) #[] #[.pointer (some ⟨w.heap.size + 2, 0, none⟩), .pointer (some ⟨w.heap.size + 2 + 1, 0, none⟩), .pointer (some ⟨w.heap.size + 2 + 1 + 1, 0, none⟩)], x.1.v, undef, undef, undef, undef, undef, undef, undef, undef, undef, undef], defers := [] })
    (fun x a' _ W W' row hs hg hr => by
      obtain ⟨Bx, e1, e2, e3⟩ := hs
      refine ⟨Bx, e1, ((Only.of_grown hg).block Bx (Array.getElem?_eq_some_iff.1 e2).1 (fun e4 => ?_)).trans e2, e3⟩
      obtain ⟨_, o, ho, hc⟩ := hr Bx e4.symm
      rw [e2] at ho
      injection ho with ho
      subst ho
      cases hc) ?assign ?body ?done ?stop
  case assign =>
    rintro l pre ⟨⟨kA, k, kc, rA, r, rc⟩, hmem⟩ W K hi hK
    dsimp only [Ent.v] at hK ⊢
    gi_wp2
    have hg9 := (World.grownBy_alloc W (.cells #[.slice kA k.length kc, .slice rA r.length rc] 46) none)
    refine hK _ _ (KeepsFrom.of_grownBy hg9 (fun j e => by cases e)) ((Only.of_grown hg9).more (fun j _ e => by cases e)) (hIo _ _ _ _ hi hg9 (fun j e => by cases e)) ⟨W.heap.size, ?_, heap_alloc_new W _, rfl⟩
    obtain ⟨g, v, es, h1, h2, h3, h4, h5⟩ := hi
    omega
  case body =>
    rintro l pre ⟨⟨kA, k, kc, rA, r, rc⟩, hmem⟩ a' W hlw hloop ⟨g, v, es, hR, hkv, hbl, hsz, hpm⟩ ⟨Bx, hBx, hbx, rfl⟩ hpl
    dsimp only [Ent.v] at hbx ⊢
    obtain ⟨A, cap, rfl, hcl, _⟩ := hR.row.slice
    have x0 : W.cell? ⟨w.heap.size + 1, 0, none⟩ = some (.slice A es.length cap) := by simp [World.cell?, hR.box]
    have x1 : W.cell? ⟨w.heap.size, 0, none⟩ = some (.int .i64 most) := by simp [World.cell?, hR.m]
    obtain ⟨x2, x3⟩ := box2 hbx
    have hkl : es.length = pre.length := by
      have h6 := congrArg List.length hkv
      simp only [kv, List.length_map] at h6
      exact h6
    rcases Decidable.em (most ≤ (es.length : Int)) with hm | hm
    · have HKL := Lib.hid hkl
      clear hkl
      gi_wp2
      have hkl := HKL.out
      exact ⟨KeepsFrom.refl _ _, rfl, pre, _, rfl, ⟨g, _, es, hR, hkv, hbl, hsz, hpm⟩, by omega⟩
    · have hmx : Try.prog.follows .mixedOrders = true := by kernel_rfl
      have hfew : es.length ≤ 900 := by
        have h6 : (rangeL f t (flat ps)).length ≤ (flat ps).length := List.length_filter_le _ _
        have h7 := h.few
        omega
      obtain ⟨p0, hp0, he0⟩ := List.mem_flatMap.1 hmem
      have hE := hR.b.tb.t.ents p0 hp0 _ he0
      have HC : Hid (∀ W', Below W.heap.size W W' → Calls Try.prog 25 #[.agg #[.slice kA k.length kc, .slice rA r.length rc]] W' (CopT W' ⟨kA, k, kc, rA, r, rc⟩)) := Lib.hid fun W' hb => entCopied_any kA rA k r kc rc _ _ rfl rfl W' ((hE.key.below hb (Nat.le_refl _)).more hb.size) ((hE.row.below hb (Nat.le_refl _)).more hb.size) hE.kl hE.rl
      have HAP : Hid (∀ (w3 : World) (e' : Ent), e'.k = k → e'.r = r → Below W.heap.size W w3 → OwnB w3 W.heap.size (.slice e'.kA e'.k.length e'.kc) e'.k → OwnB w3 W.heap.size (.slice e'.rA e'.r.length e'.rc) e'.r → ∃ A' c' w5, w3.cell? ⟨w.heap.size + 1, 0, none⟩ = some (.slice A es.length cap) ∧ (w3.alloc (.cells #[.slice e'.kA e'.k.length e'.kc, .slice e'.rA e'.r.length e'.rc] 46)).cell? ⟨w.heap.size + 1, 0, none⟩ = some (.slice A es.length cap) ∧ (Builtin.append_ #[40, 40] 40 #[.slice A es.length cap, .slice (some ⟨w3.heap.size, 0, none⟩) 1 1]).run Try.prog (w3.alloc (.cells #[.slice e'.kA e'.k.length e'.kc, .slice e'.rA e'.r.length e'.rc] 46)) = .ok (.slice A' (es.length + 1) c') w5 ∧ w5.cell? ⟨w.heap.size + 1, 0, none⟩ = some (.slice A es.length cap) ∧ w5.frozen? ⟨w.heap.size + 1, 0, none⟩ = false ∧
          Hid ((∀ B, KeepsFrom B W (w5.setCell ⟨w.heap.size + 1, 0, none⟩ (.slice A' (es.length + 1) c'))) ∧ KpR (w.heap.size + 5) (w.heap.size + 1) W (w5.setCell ⟨w.heap.size + 1, 0, none⟩ (.slice A' (es.length + 1) c')) ∧ RgI w (w.heap.size + 1) w.heap.size most G D q P (w.heap.size + 2) (w.heap.size + 2 + 1) (w.heap.size + 2 + 1 + 1) F T f t fn fc tn tc (pre ++ [⟨⟨kA, k, kc, rA, r, rc⟩, hmem⟩]) (w5.setCell ⟨w.heap.size + 1, 0, none⟩ (.slice A' (es.length + 1) c')))) := Lib.hid fun w3 e' hek her hb3 hk hr => by
        obtain ⟨i0, hi, hz0, hz1, hz2⟩ := info_parts infoE
        obtain ⟨w4, hw4⟩ : ∃ w4, w4 = w3.alloc (.cells #[.slice e'.kA e'.k.length e'.kc, .slice e'.rA e'.r.length e'.rc] 46) := ⟨_, rfl⟩
        have hb4 : Below w3.heap.size w3 w4 := by rw [hw4]; exact alloc_below _ _
        have hn4 : w4.heap[w3.heap.size]? = some (.cells #[.slice e'.kA e'.k.length e'.kc, .slice e'.rA e'.r.length e'.rc] 46 (0, 0)) := by rw [hw4]; exact heap_alloc_new _ _
        rw [← hw4]
        have hbW4 : Below W.heap.size W w4 := hb3.trans (hb4.mono hb3.size)
        have hgl : g < W.heap.size := by
          obtain ⟨c, e, fr, h1⟩ := hR.gc
          exact (Array.getElem?_eq_some_iff.1 h1).1
        have hown4 := hR.row.only (Only.of_below (K := fun _ => False) hbW4) (fun _ => id)
        have hsr : ∀ j u, [Value.slice e'.kA e'.k.length e'.kc, Value.slice e'.rA e'.r.length e'.rc][j]? = some u → w4.cell? ((⟨w3.heap.size, 0, none⟩ : Addr).add j) = some u := fun j u hj => by rw [add_plain, cell_of_row _ _ j _ _ (0, 0) hn4]; simpa using hj
        obtain ⟨g', v', w5, hrun, hrow, hO, hg'⟩ := run_appHC (P := Try.prog) 40 40 46 Try.underlying40 hi hz0 hz1 hz2 (by simp [Value.cells]) (by decide) hown4 (by have := hbW4.size; omega) (m := 1) (c := 1) rfl hsr (by simp [Value.oneCell']) (by omega) (by omega)
        obtain ⟨A', c', rfl, _, _⟩ := hrow.slice
        obtain ⟨hn1, hn2, hn3, hn5⟩ := hR.took (e' := e') hsz hGS hDS hFS hTS hb3 hk hr hb4 hrow hO hg'
        have hbx5 : w5.heap[w.heap.size + 1]? = some (.cells #[.slice A es.length cap] 40 (0, 0)) := (hO.block _ (by have := hbW4.size; omega) (fun e => e.2 rfl)).trans ((hbW4.block _ (by omega)).trans hR.box)
        have hbx3 := (hb3.block _ (by omega)).trans hR.box
        have hbx4 := (hbW4.block _ (by omega)).trans hR.box
        refine ⟨A', c', w5, by simp [World.cell?, hbx3], by simp [World.cell?, hbx4], hrun, by simp [World.cell?, hbx5], frozen_of hbx5 0, Lib.hid ⟨hn5, hn3, g', _, _, hn1, ?_, hbl.trans hn2, Nat.le_trans hsz hn3.size, ?_⟩⟩
        · unfold kv at hkv ⊢
          rw [List.map_append, hkv, List.map_append, List.map_append]
          simp [hek, her]
        · rw [List.length_append, List.length_singleton]
          omega
      clear hE he0 hp0 hkl
      gi_wp2_with fail
      gi_region_with_o (refine ⟨trivial, ?_⟩; gi_at_call 25; refine (CallsIn.inRound l (callsIn_wide.2 (HC.out _ (by first | exact Below.refl _ _ | exact drew_below _)))).mono ?_; rintro e w3 ⟨⟨kA', k', kc', rA', r', rc'⟩, rfl, hek, her, hk', hr', hb⟩
                        obtain ⟨A', c', w5, hc3, hc4, hrun, hc5, hf5, HN⟩ := HAP.out w3 _ hek her (below_drew hb) hk' hr'
                        dsimp only [Ent.v] at hrun hc4 ⊢
                        clear hek her hk' hr' hb)
      all_goals gi_wp2
      all_goals exact ⟨HN.out.1 _, by rw [hs2]; exact HN.out.2.1, HN.out.2.2⟩
  case done =>
    rintro D xs W hD hS ⟨g, v, es, hR, hkv, hbl, hsz, hpm⟩ hK
    have x0 : W.cell? ⟨w.heap.size + 1, 0, none⟩ = some v := by simp [World.cell?, hR.box]
    have HT : Hid (RgS w (kv (List.take most.toNat (rangeL f t (flat ps)))) (.returned v) (W.putObj D (.deferred none))) := Lib.hid (by
      have hg9 := grownBy_putObj' W D (.deferred none)
      have hR' := hR.grow (S := w.heap.size + 5) hg9 (fun r e => by cases e; exact ⟨by omega, _, hK, rfl⟩) (fun j hj => by have := hGS j hj; omega) (fun j hj => by have := hDS j hj; omega) (fun hn ad ha => by have := hFS hn ad ha; omega) (fun hn ad ha => by have := hTS hn ad ha; omega)
      have hne := hR'.new
      refine ⟨_, g, v, es, rfl, hR'.row, by omega, by omega, hR'.own, ?_, hbl.trans ((Only.of_grown hg9).below hbl.size (fun j e => by cases e; omega)), fun e he => ⟨fun b hb => ((hR'.sep e he).1 b hb).1, fun b hb => ((hR'.sep e he).2 b hb).1⟩⟩
      rw [hkv, hS, List.take_of_length_le (by rw [← hS, List.length_map]; exact hpm)])
    clear hkv hS
    gi_wp2
    refine ⟨by simp, .inl ⟨_, _, rfl, run_takeDeferred hK, ?_⟩⟩
    refine ⟨_, results_tmp rfl _ _ _, ?_⟩
    exact HT.out
  case stop =>
    rintro D c pre W hD hS ⟨rfl, pre0, x, rfl, ⟨g, v, es, hR, hkv, hbl, hsz, hpm⟩, hlt⟩ hK
    have x0 : W.cell? ⟨w.heap.size + 1, 0, none⟩ = some v := by simp [World.cell?, hR.box]
    have HT : Hid (RgS w (kv (List.take most.toNat (rangeL f t (flat ps)))) (.returned v) (W.putObj D (.deferred none))) := Lib.hid (by
      have hg9 := grownBy_putObj' W D (.deferred none)
      have hR' := hR.grow (S := w.heap.size + 5) hg9 (fun r e => by cases e; exact ⟨by omega, _, hK, rfl⟩) (fun j hj => by have := hGS j hj; omega) (fun j hj => by have := hDS j hj; omega) (fun hn ad ha => by have := hFS hn ad ha; omega) (fun hn ad ha => by have := hTS hn ad ha; omega)
      have hne := hR'.new
      refine ⟨_, g, v, es, rfl, hR'.row, by omega, by omega, hR'.own, ?_, hbl.trans ((Only.of_grown hg9).below hbl.size (fun j e => by cases e; omega)), fun e he => ⟨fun b hb => ((hR'.sep e he).1 b hb).1, fun b hb => ((hR'.sep e he).2 b hb).1⟩⟩
      obtain ⟨r, hr⟩ := hS
      rw [hkv, ← hr, List.map_append, List.append_assoc, List.take_left' (by rw [List.length_map]; omega)])
    clear hkv hS
    gi_wp2
    refine ⟨by simp, .inl ⟨_, _, rfl, run_takeDeferred hK, ?_⟩⟩
    refine ⟨_, results_tmp rfl _ _ _, ?_⟩
    exact HT.out
/-- a place and what stands there, in a list of pairs -/
theorem fnd_cons (x : List UInt8 × List UInt8) (l : List (List UInt8 × List UInt8)) (k : List UInt8) : (x :: l).findIdx? (fun y => y.1 == k) = if x.1 = k then some 0 else (l.findIdx? (fun y => y.1 == k)).map (· + 1) := by
  rw [List.findIdx?_cons]
  by_cases h : x.1 = k
  · rw [if_pos h]; simp [h]
  · rw [if_neg h]
    have : (x.1 == k) = false := by simpa using h
    rw [this]; rfl
theorem fnd_spec (k : List UInt8) : ∀ l : List (List UInt8 × List UInt8), (fndZ l k = -1 ∧ getK l k = none) ∨ ∃ (i : Nat) (x : List UInt8 × List UInt8), fndZ l k = (i : Int) ∧ l[i]? = some x ∧ getK l k = some x.2
  | [] => .inl ⟨rfl, rfl⟩
  | x :: l => by
    by_cases h : x.1 = k
    · refine .inr ⟨0, x, ?_, rfl, ?_⟩
      · unfold fndZ; rw [fnd_cons, if_pos h]
      · unfold getK; rw [if_pos (show cmpB x.1 k = 0 by rw [h]; exact cmpB_self k)]
    · have hc : ¬ cmpB x.1 k = 0 := fun e => h (cmpB_zero e)
      rcases fnd_spec k l with ⟨h1, h2⟩ | ⟨i, y, h1, h2, h3⟩
      · refine .inl ⟨?_, ?_⟩
        · unfold fndZ at h1 ⊢
          rw [fnd_cons, if_neg h]
          cases hf : l.findIdx? (fun y => y.1 == k) with
          | none => rfl
          | some i => rw [hf] at h1; (simp at h1 <;> omega)
        · unfold getK; rw [if_neg hc]; exact h2
      · refine .inr ⟨i + 1, y, ?_, by simpa using h2, ?_⟩
        · unfold fndZ at h1 ⊢
          rw [fnd_cons, if_neg h]
          cases hf : l.findIdx? (fun y => y.1 == k) with
          | none => rw [hf] at h1; (simp at h1 <;> omega)
          | some j => rw [hf] at h1; (simp at h1 ⊢ <;> omega)
        · unfold getK; rw [if_neg hc]; exact h3
theorem fnd_is (l : List (List UInt8 × List UInt8)) (k : List UInt8) : (getK l k).isSome = decide (0 ≤ fndZ l k) := by
  rcases fnd_spec k l with ⟨h1, h2⟩ | ⟨i, x, h1, _, h3⟩
  · rw [h1, h2]; rfl
  · rw [h1, h3]; simp
/-- the last entry ahead of a key, whatever the key -/
theorem last_every {w : World} {G D : Nat → Prop} {q P : Nat} {ps : List Pg} (h : Tbl w G D q P ps) (t : List UInt8) (T : Option Addr) (tn tc : Nat) (htn : t.length = tn) (ht : RdB w w.heap.size T t) : Calls Try.prog 27 #[.pointer (some ⟨q, 0, none⟩), .slice T tn tc] w (LastT w (kv (rangeL [] t (flat ps)))) := by
  by_cases ht0 : t = []
  · subst ht0
    have : tn = 0 := htn.symm
    subst this
    rw [rangeL_all]
    by_cases hps : ps = []
    · have h1 := last_none h T tc hps
      rw [hps]
      exact h1
    · obtain ⟨i, hi⟩ : ∃ i, ps.length = i + 1 := ⟨ps.length - 1, by have := List.length_pos_iff.2 hps; omega⟩
      obtain ⟨p, hp⟩ : ∃ p, ps[i]? = some p := ⟨_, List.getElem?_eq_getElem (by omega)⟩
      have hne := (h.pg p (List.mem_of_getElem? hp)).1
      obtain ⟨j, hj⟩ : ∃ j, p.es.length = j + 1 := ⟨p.es.length - 1, by have := List.length_pos_iff.2 hne; omega⟩
      obtain ⟨e, he⟩ : ∃ e, p.es[j]? = some e := ⟨_, List.getElem?_eq_getElem (by omega)⟩
      refine last_all h T tc hi hp hj he _ ?_
      have hsp : ps = ps.take i ++ [p] := by
        conv => lhs; rw [← List.take_append_drop i ps, List.drop_eq_getElem_cons (by omega), List.drop_of_length_le (by omega)]
        rw [(List.getElem?_eq_some_iff.1 hp).2]
      have hes : p.es = p.es.take j ++ [e] := by
        conv => lhs; rw [← List.take_append_drop j p.es, List.drop_eq_getElem_cons (by omega), List.drop_of_length_le (by omega)]
        rw [(List.getElem?_eq_some_iff.1 he).2]
      rw [hsp, flat_app, flat_one, hes, ← List.append_assoc, kv_app]
      simp [kv]
  · exact last_till h t ht0 T tn tc htn ht
end Go.Proofs.Ytfmhijaljlmgaaa

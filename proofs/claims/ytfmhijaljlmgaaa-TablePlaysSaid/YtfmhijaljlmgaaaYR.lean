/- Package table: Copy. -/
import Derived.Test.YtfmhijaljlmgaaaYN
namespace Go.Proofs.Ytfmhijaljlmgaaa
open Go.RowKit

theorem kv_len {a b : List Ent} (h : kv a = kv b) : a.length = b.length := by
  have := congrArg List.length h
  simpa [kv] using this
theorem kv_mem {a b : List Ent} (h : kv a = kv b) {e : Ent} (he : e ∈ a) : ∃ x ∈ b, x.k = e.k ∧ x.r = e.r := by
  have h1 : (e.k, e.r) ∈ kv b := by rw [← h]; exact List.mem_map.2 ⟨e, he, rfl⟩
  obtain ⟨x, hx, hxe⟩ := List.mem_map.1 h1
  injection hxe with h2 h3
  exact ⟨x, hx, h2, h3⟩
theorem kv_app (a b : List Ent) : kv (a ++ b) = kv a ++ kv b := by simp [kv]
theorem flat_one (p : Pg) : flat [p] = p.es := by simp [flat]
theorem own_at {w : World} {B C : Nat} {A : Option Addr} {n c : Nat} {l : List UInt8} (h : OwnB w B (.slice A n c) l) (hC : C ≤ B) (hn : l ≠ []) : ∀ ad, A = some ad → C ≤ ad.block ∧ ad.block < w.heap.size ∧ (Value.slice A n c).ownBlock = some ad.block := fun ad ha => by
  obtain ⟨ad2, e1, e2, _⟩ := h.rd hn
  rw [ha] at e1
  injection e1 with e1
  subst e1
  obtain ⟨g', cap', e3, e4⟩ := h.head (List.length_pos_iff.2 hn)
  injection e3 with e3
  rw [ha] at e3
  injection e3 with e3
  subst e3
  exact ⟨Nat.le_trans hC e4, e2, by rw [ha]; rfl⟩
/-- a page more -/
theorem Tb0.push {W w3 w4 w5 : World} {G D : Nat → Prop} {c P P' cnt g : Nat} {ps' : List Pg} {v v5 : Value} {es' : List Ent} (h : Tb0 W G D c P cnt ps') (h3 : HeldC w3 c g 2 v es'.length (entV es')) (hg : W.heap.size ≤ g) (hgl : g < w3.heap.size) (hown : OwnEs w3 W.heap.size es') (hsep : SepE g es') (hlen : ∀ e ∈ es', e.k.length ≤ 100000 ∧ e.r.length ≤ 100000)
    (hb3 : Below W.heap.size W w3) (hb4 : Below w3.heap.size w3 w4) (h5 : HeldC w5 c P' 1 v5 (ps'.length + 1) (pagesV ps' ++ [v])) (hO : Only (fun k => k = P ∧ k ≠ c) w4 w5) (hP : P' = P ∨ w4.heap.size ≤ P') :
    Tb0 (w5.setCell ⟨c, 0, none⟩ v5) (fun j => G j ∨ j = g ∨ j = P') (fun j => D j ∨ (W.heap.size ≤ j ∧ j < w3.heap.size ∧ j ≠ g)) c P' cnt (ps' ++ [⟨g, v, es'⟩]) ∧ Only (fun k => k = P ∨ k = c) W (w5.setCell ⟨c, 0, none⟩ v5) := by
  have s3 := hb3.size
  have s4 := hb4.size
  have s5 := hO.size
  have hS := Only.set w5 c 0 v5
  have s6 := hS.size
  have hcl := h.glt c h.gq
  have hPl := h.glt P h.gP
  have hO3 : Only (fun k => k = P ∨ k = c) w3 (w5.setCell ⟨c, 0, none⟩ v5) := ((Only.of_below (K := fun k => k = P ∨ k = c) hb4).trans (hO.more (fun j _ e => .inl e.1)) (fun _ _ e => e)).trans (hS.more (fun j _ e => .inr e)) (fun _ _ e => e)
  have hOW : Only (fun k => k = P ∨ k = c) W (w5.setCell ⟨c, 0, none⟩ v5) := (Only.of_below (K := fun k => k = P ∨ k = c) hb3).trans hO3 (fun _ _ e => e)
  have hPc : P' ≠ c := by
    rcases h5 with ⟨_, h0, _⟩ | ⟨hne, _⟩
    · omega
    · exact hne
  obtain ⟨vo, hbx, hhd⟩ := h.box
  have hbx5 : w5.heap[c]? = some (.cells #[vo, .int .i64 (cnt : Int)] 52 (0, 0)) := (hO.block c (by omega) (fun e => e.2 rfl)).trans ((hb4.block c (by omega)).trans ((hb3.block c hcl).trans hbx))
  have hDK : ∀ k, D k → ¬ (k = P ∨ k = c) := fun k hk e => by
    rcases e with e | e
    · exact h.dis P h.gP (e ▸ hk)
    · exact h.dis c h.gq (e ▸ hk)
  refine ⟨⟨⟨v5, by simp [World.setCell, Array.getElem?_modify, hbx5], ?_⟩, fun p hp => ?_, ?_, fun p hp e he => ?_, .inl h.gq, .inr (.inr rfl), fun j hj hd => ?_, fun j hj => ?_, fun j hj => ?_⟩, hOW⟩
  · rw [List.length_append, List.length_singleton]
    have e : pagesV (ps' ++ [⟨g, v, es'⟩]) = pagesV ps' ++ [v] := by simp [pagesV]
    rw [e]
    exact h5.only hS (fun _ e => hPc e)
  · rcases List.mem_append.1 hp with hp | hp
    · obtain ⟨h6, h7, h8⟩ := h.page p hp
      have h9 := h.glt _ h8
      refine ⟨h6.only hOW (fun hne e => by rcases e with e | e; exact h7 e; exact hne e), ?_, .inl h8⟩
      rcases hP with e | e
      · rw [e]; exact h7
      · omega
    · rcases List.mem_singleton.1 hp with rfl
      refine ⟨h3.only hO3 (fun hne e => by
        have e : g = P ∨ g = c := e
        rcases e with e | e
        · omega
        · exact hne e), ?_, .inr (.inl rfl)⟩
      show g ≠ P'
      omega
  · rw [List.map_append]
    refine List.nodup_append.2 ⟨h.apart, by simp, fun a ha b hb => ?_⟩
    simp only [List.map_cons, List.map_nil, List.mem_singleton] at hb
    rw [hb]
    obtain ⟨p, hp, rfl⟩ := List.mem_map.1 ha
    have := h.glt _ (h.page p hp).2.2
    show p.g ≠ g
    omega
  · rcases List.mem_append.1 hp with hp | hp
    · have h6 := (h.ents p hp e he).only hOW hDK
      exact ⟨h6.key, h6.row, fun hn ad ha => .inl (h6.kd hn ad ha), fun hn ad ha => .inl (h6.rd hn ad ha), h6.kl, h6.rl⟩
    · rcases List.mem_singleton.1 hp with rfl
      simp only at he
      obtain ⟨h6, h7⟩ := hown e he
      obtain ⟨h8, h9⟩ := hsep e he
      obtain ⟨l1, l2⟩ := hlen e he
      have k6 := h6.kept hO3 (fun b hb e2 => by have := h6.ge b hb; rcases e2 with e2 | e2 <;> omega)
      have k7 := h7.kept hO3 (fun b hb e2 => by have := h7.ge b hb; rcases e2 with e2 | e2 <;> omega)
      exact ⟨k6.rd, k7.rd, fun hn ad ha => by
        obtain ⟨a1, a2, a3⟩ := own_at h6 (Nat.le_refl _) hn ad ha
        exact .inr ⟨a1, a2, h8 _ a3⟩, fun hn ad ha => by
        obtain ⟨a1, a2, a3⟩ := own_at h7 (Nat.le_refl _) hn ad ha
        exact .inr ⟨a1, a2, h9 _ a3⟩, l1, l2⟩
  · rcases hj with hj | hj | hj
    · rcases hd with hd | hd
      · exact h.dis j hj hd
      · have := h.glt j hj; omega
    · rcases hd with hd | hd
      · have := h.dlt j hd; omega
      · exact hd.2.2 hj
    · rcases hP with e | e
      · rcases hd with hd | hd
        · exact h.dis P h.gP (by rw [← e, ← hj]; exact hd)
        · omega
      · rcases hd with hd | hd
        · have := h.dlt j hd; omega
        · omega
  · rcases hj with hj | hj | hj
    · have := h.glt j hj; omega
    · omega
    · rcases hP with e | e
      · omega
      · have h6 : P' < w5.heap.size := by
          rcases h5 with ⟨_, h0, _⟩ | ⟨_, o, cap, _, ho⟩
          · omega
          · exact ho.lt
        omega
  · rcases hj with hj | hj
    · have := h.dlt j hj; omega
    · omega
/-- what Copy answers -/
def CoT (w : World) (l : List (List UInt8 × List UInt8)) (en : Ending) (w' : World) : Prop := ∃ (G' D' : Nat → Prop) (c P' : Nat) (ps' : List Pg), en = .returned (.pointer (some ⟨c, 0, none⟩)) ∧ Tbl w' G' D' c P' ps' ∧ kv (flat ps') = l ∧ (∀ j, G' j ∨ D' j → w.heap.size ≤ j) ∧ Below w.heap.size w w'
/-- between two rounds -/
def CyL (w : World) (cnt : Nat) (ps : List Pg) (v19 : Value) (W : World) : Prop := ∃ (i : Nat) (G' D' : Nat → Prop) (P' : Nat) (ps' : List Pg), v19 = .int .i64 (i : Int) ∧ i ≤ ps.length ∧ ps'.length = i ∧ Tb0 W G' D' w.heap.size P' cnt ps' ∧ (∀ j, G' j ∨ D' j → w.heap.size ≤ j) ∧ kv (flat ps') = kv (flat (ps.take i)) ∧ (∀ p ∈ ps', p.es ≠ [] ∧ p.es.length ≤ 128) ∧ Below w.heap.size w W
theorem CyL.next {w W w3 w4 w5 : World} {cnt i : Nat} {ps : List Pg} {G' D' : Nat → Prop} {P' P5 : Nat} {ps' : List Pg} {p : Pg} (hx : ps[i]? = some p) (hpok : p.es ≠ [] ∧ p.es.length ≤ 128) (hpl : ∀ e ∈ p.es, e.k.length ≤ 100000 ∧ e.r.length ≤ 100000) (hi : ps'.length = i) (ht : Tb0 W G' D' w.heap.size P' cnt ps') (hge : ∀ j, G' j ∨ D' j → w.heap.size ≤ j) (hkv : kv (flat ps') = kv (flat (ps.take i))) (hok : ∀ p ∈ ps', p.es ≠ [] ∧ p.es.length ≤ 128) (hbl : Below w.heap.size w W)
    {g : Nat} {v v5 : Value} {es' : List Ent} (h3 : HeldC w3 w.heap.size g 2 v es'.length (entV es')) (hg : W.heap.size ≤ g) (hgl : g < w3.heap.size) (hown : OwnEs w3 W.heap.size es') (hsep : SepE g es') (hke : kv es' = kv p.es) (hb3 : Below W.heap.size W w3) (hb4 : Below w3.heap.size w3 w4)
    (h5 : HeldC w5 w.heap.size P5 1 v5 (ps'.length + 1) (pagesV ps' ++ [v])) (hO : Only (fun k => k = P' ∧ k ≠ w.heap.size) w4 w5) (hP : P5 = P' ∨ w4.heap.size ≤ P5) (v19 : Value) (h19 : v19 = .int .i64 ((i + 1 : Nat) : Int)) : CyL w cnt ps v19 (w5.setCell ⟨w.heap.size, 0, none⟩ v5) := by
  obtain ⟨h6, h7⟩ := ht.push h3 hg hgl hown hsep (fun e he => by
    obtain ⟨x, hx, e1, e2⟩ := kv_mem hke he
    rw [← e1, ← e2]
    exact hpl x hx) hb3 hb4 h5 hO hP
  have hs := hbl.size
  have hP0 := hge P' (.inl ht.gP)
  refine ⟨i + 1, _, _, P5, _, h19, (List.getElem?_eq_some_iff.1 hx).1, by rw [List.length_append, List.length_singleton, hi], h6, fun j hj => ?_, ?_, fun q hq => ?_, hbl.trans (h7.below hs (fun j e => by rcases e with e | e <;> omega))⟩
  · rcases hj with (hj | hj | hj) | (hj | hj)
    · exact hge j (.inl hj)
    · omega
    · have := hb3.size
      have := hb4.size
      omega
    · exact hge j (.inr hj)
    · omega
  · rw [List.take_add_one, hx, Option.toList_some, flat_app, flat_app, kv_app, kv_app, hkv, flat_one, flat_one, hke]
  · rcases List.mem_append.1 hq with hq | hq
    · exact hok q hq
    · rcases List.mem_singleton.1 hq with rfl
      have hl := kv_len hke
      refine ⟨fun e => hpok.1 (List.length_eq_zero_iff.1 ?_), ?_⟩
      · rw [← hl]; simp only at e; rw [e]; rfl
      · show es'.length ≤ 128
        rw [hl]; exact hpok.2
attribute [-go_sem] Builtin.append_
set_option maxRecDepth 100000 in
set_option maxHeartbeats 8000000 in
theorem copy_any {w : World} {G D : Nat → Prop} {q P : Nat} {ps : List Pg} (h : Tbl w G D q P ps) : Calls Try.prog 12 #[.pointer (some ⟨q, 0, none⟩)] w (CoT w (kv (flat ps))) := by
  have hnil : ∀ (w : World) (a : Option Addr), (binOp .eql 26 (.pointer a) (.pointer none)).run Try.prog w = .ok (.bool a.isNone) w := fun w a => by cases a <;> rfl
  obtain ⟨A, cap, hbox, hrd⟩ := h.t.rds (fun p hp => ⟨(h.pg p hp).1, by have := (h.pg p hp).2; omega⟩)
  obtain ⟨n, hn⟩ : ∃ n, ps.length = n := ⟨_, rfl⟩
  obtain ⟨cnt, hcnt⟩ : ∃ n, (flat ps).length = n := ⟨_, rfl⟩
  rw [hn, hcnt] at hbox
  obtain ⟨x0, x1⟩ := box2 hbox
  have HT := Lib.hid h
  have HRD := Lib.hid hrd
  have HN := Lib.hid hn
  have HC := Lib.hid hcnt
  have hni : (n : Int) ≤ 1000 := by have := h.len; omega
  have hbA : Below w.heap.size w (w.alloc (.cells #[.slice none 0 0, .int .i64 (cnt : Int)] 52)) := alloc_below _ _
  obtain ⟨z0, z1⟩ := box2 ((hbA.block q (Array.getElem?_eq_some_iff.1 hbox).1).trans hbox)
  have HST : Hid (CyL w cnt ps (.int .i64 0) (w.alloc (.cells #[.slice none 0 0, .int .i64 (cnt : Int)] 52))) := Lib.hid ⟨0, (· = w.heap.size), fun _ => False, w.heap.size, [], rfl, Nat.zero_le _, rfl, ⟨⟨_, heap_alloc_new _ _, .inl ⟨rfl, rfl, rfl, rfl⟩⟩, fun p hp => by simp at hp, by simp, fun p hp => by simp at hp, rfl, rfl, fun _ _ h => h, fun j hj => by rw [hj, alloc_sz_]; omega, fun _ h => h.elim⟩, fun j hj => hj.elim (fun e => Nat.le_of_eq e.symm) False.elim, rfl, fun p hp => by simp at hp, hbA⟩
  clear h hrd hn hcnt hbox hbA
  go_enter Try.func12, Try.ntmps12
  go_wp2_with fail
  go_loopw [19] (fun v19 wr => CyL w cnt ps v19 wr) (fun v19 _ => n - (intOf v19).toNat)
  case atStart => exact HST.out
  case round =>
    obtain ⟨i, G', D', P', ps', rfl, hi, hi', ht, hge, hkv, hok, hbl⟩ := hrel
    rw [HN.out] at hi
    by_cases hlt : i < n
    · have hlti : (i : Int) < (n : Int) := by omega
      have hi00 : 0 ≤ (i : Int) := by omega
      obtain ⟨p, hp⟩ : ∃ p, ps[i]? = some p := ⟨_, List.getElem?_eq_getElem (by rw [HN.out]; exact hlt)⟩
      have hpm := List.mem_of_getElem? hp
      obtain ⟨b, o, Ap, cp, hA, y0, hre, hpv⟩ := (HRD.out.below hbl).at_ hp
      subst hA
      have hpok := HT.out.pg p hpm
      obtain ⟨pn, hpn⟩ : ∃ pn, p.es.length = pn := ⟨_, rfl⟩
      have hpl : ∀ e ∈ p.es, e.k.length ≤ 100000 ∧ e.r.length ≤ 100000 := fun e he => ⟨((HT.out.t.ents p hpm e he)).kl, (HT.out.t.ents p hpm e he).rl⟩
      have hrl : RdL wr Ap p.es := by
        have hT2 := HT.out.below hbl
        obtain ⟨h6, _, _⟩ := hT2.t.page p hpm
        rw [hpv] at h6
        exact ⟨h6.rd.1, fun e he => (hT2.t.ents p hpm e he).key, fun e he => (hT2.t.ents p hpm e he).row⟩
      have hcl : w.heap.size < wr.heap.size := ht.glt _ ht.gq
      have HPC : Hid (∀ W, Below wr.heap.size wr W → Calls Try.prog 23 #[.slice Ap pn cp] W (PcT W w.heap.size p.es)) := Lib.hid fun W hb => pageCopied_any p.es Ap pn cp w.heap.size W hpn (by have := hpok.2; omega) (hrl.below hb) hpl (by have := hb.size; omega)
      rw [hpn] at y0
      obtain ⟨vo, hbx, hhd⟩ := ht.box
      obtain ⟨A1, c1, rfl, hc1, _⟩ := hhd.slice
      have hxm := HT.out.len
      have HAP : Hid (∀ (W3 w3 : World) (g : Nat) (v : Value) (es' : List Ent), Below wr.heap.size wr W3 → HeldC w3 w.heap.size g 2 v es'.length (entV es') → W3.heap.size ≤ g → g < w3.heap.size → OwnEs w3 W3.heap.size es' → SepE g es' → kv es' = kv p.es → Below W3.heap.size W3 w3 → ∃ Av nv cv A' c' w5, v = .slice Av nv cv ∧ w3.cell? ⟨w.heap.size, 0, none⟩ = some (.slice A1 i c1) ∧ (w3.alloc (.cells #[v] 58)).cell? ⟨w.heap.size, 0, none⟩ = some (.slice A1 i c1) ∧ (Builtin.append_ #[50, 50] 50 #[.slice A1 i c1, .slice (some ⟨w3.heap.size, 0, none⟩) 1 1]).run Try.prog (w3.alloc (.cells #[v] 58)) = .ok (.slice A' (i + 1) c') w5 ∧ w5.cell? ⟨w.heap.size, 0, none⟩ = some (.slice A1 i c1) ∧ w5.frozen? ⟨w.heap.size, 0, none⟩ = false ∧
          Hid (∀ v19, v19 = .int .i64 ((i + 1 : Nat) : Int) → CyL w cnt ps v19 (w5.setCell ⟨w.heap.size, 0, none⟩ (.slice A' (i + 1) c')))) := Lib.hid fun W3 w3 g v es' hb0 h3 hg hgl hown hsep hke hb => by
        obtain ⟨i0, hi0, hz0, hz1, hz2⟩ := info_parts infoP
        have hb3 : Below wr.heap.size wr w3 := hb0.trans (hb.mono hb0.size)
        obtain ⟨Av, cv, rfl, _, _⟩ := h3.slice
        have hbA : Below w3.heap.size w3 (w3.alloc (.cells #[.slice Av es'.length cv] 58)) := alloc_below _ _
        have hbW := hb3.trans (hbA.mono hb3.size)
        have hh4 := hhd.only (Only.of_below (K := fun _ => False) hbW) (fun _ => id)
        obtain ⟨P5, v5, w5, hrun, hrow, hO, hP5⟩ := run_appHC (P := Try.prog) 50 50 58 Try.underlying50 hi0 hz0 hz1 hz2 (by simp [Value.cells]) (by decide) hh4 (by have := hbW.size; omega) (a := ⟨w3.heap.size, 0, none⟩) (m := 1) (c := 1) (ys := [.slice Av es'.length cv]) rfl (fun j u hj => by
          match j with
          | 0 =>
            simp at hj
            subst hj
            rw [add_plain, cell_of_row _ _ _ _ _ (0, 0) (heap_alloc_new w3 _)]
            rfl
          | j + 1 => simp at hj) (by simp [Value.oneCell']) (by omega) (by omega)
        obtain ⟨A', c', rfl, _, _⟩ := hrow.slice
        have hbx3 := (hb3.block _ hcl).trans hbx
        have hbx4 := (hbW.block _ hcl).trans hbx
        have hbx5 : w5.heap[w.heap.size]? = _ := (hO.block _ (by have := hbW.size; omega) (fun e => e.2 rfl)).trans hbx4
        rw [hi'] at hbx3 hbx4 hbx5 hrun
        refine ⟨Av, _, cv, A', c', w5, rfl, (box2 hbx3).1, (box2 hbx4).1, hrun, (box2 hbx5).1, frozen_of hbx5 0, Lib.hid (fun v19 h19 => ?_)⟩
        rw [← hi'] at *
        exact CyL.next hp hpok hpl rfl ht hge hkv hok hbl h3 (Nat.le_trans hb0.size hg) hgl (fun e he => ⟨(hown e he).1.down hb0.size, (hown e he).2.down hb0.size⟩) hsep hke hb3 hbA hrow hO hP5 v19 h19
      have HI := Lib.hid hlt
      rw [hi'] at hbx
      have x0r := (box2 hbx).1
      have x0d : ∀ k, (wr.drewN k).cell? ⟨w.heap.size, 0, none⟩ = some (.slice A1 i c1) := fun k => x0r
      clear hp hpm hre hpv hpok hpl hrl hcl hbx hhd hc1 hxm hi hi' ht hge hkv hok hbl hlt hpn
      go_wp2_with fail
      go_region_law (first
        | (go_simp; go_at_call 23; refine (HPC.out _ (by first | exact drew_below _ | exact Below.refl _ _ | exact drewN_below _ _)).mono ?_; rintro e w3 ⟨g, v, es', rfl, h3, hg, hgl, hown, hsep, hke, hb⟩
           obtain ⟨Av, nv, cv, A', c', w5, rfl, hc3, hc4, hrun, hc5, hf5, HZ⟩ := HAP.out _ w3 g _ es' (by first | exact drew_below _ | exact Below.refl _ _ | exact drewN_below _ _) h3 hg hgl hown hsep hke hb
           clear h3 hg hgl hown hsep hke hb))
      all_goals
        go_wp2_with fail
        go_roundw
        case rel => first | exact HZ.out _ (by go_num) | ((repeat apply Exists.intro); exact ⟨HZ.out _ (by go_num), rfl⟩)
        case measure => have := HI.out; simp [intOf]; omega
    · have hie : i = n := by omega
      subst hie
      have hlti : ¬ (i : Int) < (i : Int) := by omega
      have HZ : Hid (CoT w (kv (flat ps)) (.returned (.pointer (some ⟨w.heap.size, 0, none⟩))) wr) := Lib.hid (by
        rw [List.take_of_length_le (by rw [HN.out]; exact Nat.le_refl _)] at hkv
        have hl := kv_len hkv
        rw [← HC.out, ← hl] at ht
        exact ⟨G', D', _, P', ps', rfl, ⟨ht, hok, rise_kv hkv.symm HT.out.rise, by have := HT.out.few; omega⟩, hkv, hge, hbl⟩)
      clear hi hi' ht hge hkv hok hbl hlt
      go_wp2_with fail
      go_ret
      exact HZ.out
end Go.Proofs.Ytfmhijaljlmgaaa

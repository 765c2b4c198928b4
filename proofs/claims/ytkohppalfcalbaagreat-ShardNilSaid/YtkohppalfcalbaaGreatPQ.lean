/- Package table: join. -/
import Derived.Test.YtkohppalfcalbaaGreatPM1
import Derived.Deep.QuietTactic
import Derived.BigQuiet
namespace Go.Proofs.YtkohppalfcalbaaGreat
open Go.RowKit

/-- what join and remove answer -/
def JoT (w : World) (G D : Nat → Prop) (q c : Nat) (L : List Ent) (k : Nat) (e : Ending) (w' : World) : Prop := e = .returned (.tuple #[]) ∧ ∃ G' P' ps', Tb0 w' G' D q P' c ps' ∧ flat ps' = L ∧ (∀ p ∈ ps', p.es ≠ [] ∧ p.es.length ≤ 128) ∧ k ≤ ps'.length ∧ (∀ j, G' j → G j ∨ w.heap.size ≤ j) ∧ Only G w w'
set_option maxRecDepth 100000 in
set_option maxHeartbeats 4000000 in
theorem joinNeg_any {w : World} {G D : Nat → Prop} {q P c : Nat} {ps : List Pg} (h : Tb0 w G D q P c ps) (hf : ∀ p ∈ ps, p.es ≠ [] ∧ p.es.length ≤ 128) : Calls Tryz.prog 167 #[.pointer (some ⟨q, 0, none⟩), .int .i64 (-1)] w (JoT w G D q c (flat ps) 0) := by
  have HY : Hid (∀ n, JoT w G D q c (flat ps) 0 (.returned (.tuple #[])) (w.drewN n)) := Lib.hid fun n => ⟨rfl, G, P, ps, h.heap rfl, rfl, hf, Nat.zero_le _, fun j hj => .inl hj, Only.of_below (drewN_below w n)⟩
  clear h hf
  go_enter Tryz.func167, Tryz.ntmps167
  go_wp2_with fail
  go_quiet (fail)
  go_wp2_with fail
  refine bodyPost_ret (results_none rfl _ _ _) rfl ?_
  exact HY.out _
set_option maxRecDepth 100000 in
set_option maxHeartbeats 4000000 in
theorem joinEnd_any {w : World} {G D : Nat → Prop} {q P c i : Nat} {ps : List Pg} (h : Tb0 w G D q P c ps) (hf : ∀ p ∈ ps, p.es ≠ [] ∧ p.es.length ≤ 128) (hi : i + 1 = ps.length) (hn : ps.length ≤ 1000) : Calls Tryz.prog 167 #[.pointer (some ⟨q, 0, none⟩), .int .i64 (i : Int)] w (JoT w G D q c (flat ps) ps.length) := by
  have HY : Hid (∀ n, JoT w G D q c (flat ps) ps.length (.returned (.tuple #[])) (w.drewN n)) := Lib.hid fun n => ⟨rfl, G, P, ps, h.heap rfl, rfl, hf, Nat.le_refl _, fun j hj => .inl hj, Only.of_below (drewN_below w n)⟩
  obtain ⟨p, hp⟩ : ∃ p, ps[i]? = some p := ⟨_, List.getElem?_eq_getElem (by omega)⟩
  obtain ⟨o, cap, hbx, ho, hPq⟩ := h.cap hp
  obtain ⟨x0, x1⟩ := box2 hbx
  have hi0 : decide ((i : Int) < 0) = false := by simp
  have hw : IntKind.i64.wrap ((i : Int) + 1) = (i : Int) + 1 := by rw [IntKind.wrap_i64]; omega
  have he : ((i : Int) + 1 == (ps.length : Int)) = true := by simp; omega
  clear h hf hp hbx ho hPq hi hn
  go_enter Tryz.func167, Tryz.ntmps167
  go_wp2_with fail
  go_quiet (fail)
  go_wp2_with fail
  refine bodyPost_ret (results_none rfl _ _ _) rfl ?_
  exact HY.out _
/-- two pages side by side: where they lie -/
structure TwoPg (W : World) (q P o cap i n : Nat) (A1 A2 : Option Addr) (n1 c1 n2 c2 : Nat) : Prop where
  x0 : W.cell? ⟨q, 0, none⟩ = some (.slice (some ⟨P, o, none⟩) n cap)
  x1 : W.cell? ⟨P, o + i, none⟩ = some (.slice A1 n1 c1)
  x2 : W.cell? ⟨P, o + (i + 1), none⟩ = some (.slice A2 n2 c2)
theorem Tb0.two {w : World} {G D : Nat → Prop} {q P c i : Nat} {p1 p2 : Pg} {ps : List Pg} (h : Tb0 w G D q P c ps) (h1 : ps[i]? = some p1) (h2 : ps[i + 1]? = some p2) : ∃ o cap A1 c1 A2 c2, p1.v = .slice A1 p1.es.length c1 ∧ p2.v = .slice A2 p2.es.length c2 ∧ w.heap[q]? = some (.cells #[.slice (some ⟨P, o, none⟩) ps.length cap, .int .i64 (c : Int)] 147 (0, 0)) ∧ OwnC w P o cap 1 ps.length (pagesV ps) ∧ P ≠ q ∧ TwoPg w q P o cap i ps.length A1 A2 p1.es.length c1 p2.es.length c2 := by
  obtain ⟨o, cap, h3, h4, h5⟩ := h.cap h1
  obtain ⟨A1, c1, h6, _⟩ := (h.page p1 (List.mem_of_getElem? h1)).1.slice
  obtain ⟨A2, c2, h7, _⟩ := (h.page p2 (List.mem_of_getElem? h2)).1.slice
  refine ⟨o, cap, A1, c1, A2, c2, h6, h7, h3, h4, h5, (box2 h3).1, ?_, ?_⟩
  · rw [← h6]; exact h4.cell i _ (by unfold pagesV; rw [List.getElem?_map, h1]; rfl)
  · rw [← h7]; exact h4.cell (i + 1) _ (by unfold pagesV; rw [List.getElem?_map, h2]; rfl)
set_option maxRecDepth 100000 in
set_option maxHeartbeats 4000000 in
theorem joinNo_any {w : World} {G D : Nat → Prop} {q P c i : Nat} {p1 p2 : Pg} {ps : List Pg} (h : Tb0 w G D q P c ps) (hf : ∀ p ∈ ps, p.es ≠ [] ∧ p.es.length ≤ 128) (h1 : ps[i]? = some p1) (h2 : ps[i + 1]? = some p2) (hn : ps.length ≤ 1000) (hs : 64 < p1.es.length + p2.es.length) : Calls Tryz.prog 167 #[.pointer (some ⟨q, 0, none⟩), .int .i64 (i : Int)] w (JoT w G D q c (flat ps) (i + 1)) := by
  have hl2 := (List.getElem?_eq_some_iff.1 h2).1
  have HY : Hid (∀ n, JoT w G D q c (flat ps) (i + 1) (.returned (.tuple #[])) (w.drewN n)) := Lib.hid fun n => ⟨rfl, G, P, ps, h.heap rfl, rfl, hf, by omega, fun j hj => .inl hj, Only.of_below (drewN_below w n)⟩
  obtain ⟨o, cap, A1, c1, A2, c2, _, _, _, _, _, x0, x1, x2⟩ := h.two h1 h2
  have hl1 := (hf p1 (List.mem_of_getElem? h1)).2
  have hl3 := (hf p2 (List.mem_of_getElem? h2)).2
  have hi0 : decide ((i : Int) < 0) = false := by simp
  have hii : (i : Int) < (ps.length : Int) := by omega
  have hii1 : (i : Int) + 1 < (ps.length : Int) := by omega
  have hni : (ps.length : Int) ≤ 1000 := by omega
  have he : ((i : Int) + 1 == (ps.length : Int)) = false := by simp; omega
  have hd : decide ((64 : Int) < (p1.es.length : Int) + (p2.es.length : Int)) = true := by simp; omega
  have hw2 : IntKind.i64.wrap ((p1.es.length : Int) + (p2.es.length : Int)) = (p1.es.length : Int) + (p2.es.length : Int) := by rw [IntKind.wrap_i64]; omega
  have hw : IntKind.i64.wrap ((i : Int) + 1) = (i : Int) + 1 := by rw [IntKind.wrap_i64]; omega
  have hw3 : (0 : Int) ≤ (i : Int) + 1 := by omega
  have hw4 : ((i : Int) + 1).toNat = i + 1 := by omega
  clear h hf h1 h2 hs hl1 hl2 hl3 hn
  go_enter Tryz.func167, Tryz.ntmps167
  go_wp2_with fail
  go_quiet (fail)
  go_wp2_with fail
  refine bodyPost_ret (results_none rfl _ _ _) rfl ?_
  exact HY.out _
theorem flat_join {ps : List Pg} {i : Nat} {p1 p2 m : Pg} (h1 : ps[i]? = some p1) (h2 : ps[i + 1]? = some p2) (hm : m.es = p1.es ++ p2.es) : flat ((ps.set i m).take (i + 1) ++ (ps.set i m).drop (i + 2)) = flat ps := by
  have hl := (List.getElem?_eq_some_iff.1 h1).1
  have hl2 := (List.getElem?_eq_some_iff.1 h2)
  have key : ∀ (A B : List Pg), A.length = i → (A ++ m :: B).take (i + 1) ++ (A ++ m :: B).drop (i + 2) = A ++ (m :: B.drop 1) := fun A B hA => by
    subst hA
    rw [List.take_length_add_append, List.drop_length_add_append]
    simp
  have e : (ps.set i m).take (i + 1) ++ (ps.set i m).drop (i + 2) = ps.take i ++ (m :: ps.drop (i + 2)) := by
    rw [List.set_eq_take_append_cons_drop, if_pos hl, key _ _ (by rw [List.length_take]; omega), List.drop_drop]
  rw [e, flat_app, flat_cons, flat_at h1, hm]
  have e2 : ps.drop (i + 1) = p2 :: ps.drop (i + 2) := by rw [List.drop_eq_getElem_cons hl2.1, hl2.2]
  rw [e2, flat_cons, List.append_assoc]
/-- the world behind the append: page i has both -/
def JnR (w : World) (G D : Nat → Prop) (q c i : Nat) (m : List Ent) (ps : List Pg) (wx : World) : Prop := ∃ G1 P o cap g v, Tb0 wx G1 D q P c (ps.set i ⟨g, v, m⟩) ∧ wx.heap[q]? = some (.cells #[.slice (some ⟨P, o, none⟩) ps.length cap, .int .i64 (c : Int)] 147 (0, 0)) ∧ (∀ j, G1 j → G j ∨ w.heap.size ≤ j) ∧ Only G w wx
set_option maxRecDepth 100000 in
set_option maxHeartbeats 8000000 in
theorem joinYes_any {w : World} {G D : Nat → Prop} {q P c i : Nat} {p1 p2 : Pg} {ps : List Pg} (h : Tb0 w G D q P c ps) (hf : ∀ p ∈ ps, p.es ≠ [] ∧ p.es.length ≤ 128) (h1 : ps[i]? = some p1) (h2 : ps[i + 1]? = some p2) (hn : ps.length ≤ 1000) (hs : p1.es.length + p2.es.length ≤ 64) : Calls Tryz.prog 167 #[.pointer (some ⟨q, 0, none⟩), .int .i64 (i : Int)] w (JoT w G D q c (flat ps) (i + 1)) := by
  obtain ⟨i0, hi, hz0, hz1, hz2⟩ := info_parts infoE
  have hl2 := (List.getElem?_eq_some_iff.1 h2).1
  obtain ⟨o, cap, A1, c1, A2, c2, hv1, hv2, hbx, ho, hPq, hT⟩ := h.two h1 h2
  obtain ⟨x0, x1, x2⟩ := hT
  have hp1 := h.page p1 (List.mem_of_getElem? h1)
  have hp2 := h.page p2 (List.mem_of_getElem? h2)
  have hH1 := hp1.1
  have hH2 := hp2.1
  rw [hv1] at hH1
  rw [hv2] at hH2
  have hne12 : p2.g ≠ p1.g := h.other h1 h2 (by omega)
  obtain ⟨hrd2, _⟩ := hH2.rd
  have hp2n : p2.es ≠ [] := (hf p2 (List.mem_of_getElem? h2)).1
  have hp1n : p1.es ≠ [] := (hf p1 (List.mem_of_getElem? h1)).1
  obtain ⟨b2, o2, rfl, _, hrc2⟩ := hrd2 (fun e => by have e2 := congrArg List.length e; rw [entV_len] at e2; exact hp2n (List.length_eq_zero_iff.1 (by simp only [List.length_nil] at e2; omega)))
  have HR2 : Hid (∀ j u, (entV p2.es)[j]? = some u → w.cell? ((⟨b2, o2, none⟩ : Addr).add j) = some u) := Lib.hid fun j u hj => by rw [Addr.add_lit]; exact hrc2 j u hj
  have HH1 := Lib.hid hH1
  have HQ := Lib.hid h.lt
  have hfr : w.frozen? ⟨P, o + i, none⟩ = false := (ho.free i (by have := ho.room; omega)).2
  have HJ : Hid (∀ W w5 g' v', Below w.heap.size w W → HeldC w5 q g' 2 v' (p1.es.length + p2.es.length) (entV p1.es ++ entV p2.es) → Only (fun k => k = p1.g ∧ k ≠ q) W w5 → (g' = p1.g ∨ W.heap.size ≤ g') → JnR w G D q c i (p1.es ++ p2.es) ps (w5.setCell ⟨P, o + i, none⟩ v') ∧ TwoPg w5 q P o cap i ps.length A1 (some ⟨b2, o2, none⟩) p1.es.length c1 p2.es.length c2 ∧ w5.frozen? ⟨P, o + i, none⟩ = false) := Lib.hid fun W w5 g' v' hbW hv hO hg => by
    have hO := (Only.of_below hbW).trans hO (fun _ _ e => e)
    have hg : g' = p1.g ∨ w.heap.size ≤ g' := hg.imp id (fun e => Nat.le_trans hbW.size e)
    have h3 := h.setPage h1 hbx hO (g' := g') (v' := v') (es' := p1.es ++ p2.es) (by rw [List.length_append, entV_app]; exact hv) hg (fun e he => by
      rcases List.mem_append.1 he with he | he
      · exact h.ents p1 (List.mem_of_getElem? h1) e he
      · exact h.ents p2 (List.mem_of_getElem? h2) e he)
    have hG : ∀ k, (k = p1.g ∧ k ≠ q) ∨ k = P → G k := by
      rintro k (⟨e, _⟩ | e)
      · rw [e]; exact hp1.2.2
      · rw [e]; exact h.gP
    have hP5 : w5.heap[P]? = w.heap[P]? := hO.block P (h.glt P h.gP) (fun e => hp1.2.1 e.1.symm)
    have hq5 : w5.heap[q]? = w.heap[q]? := hO.block q h.lt (fun e => e.2 rfl)
    have hq6 := ((Only.set w5 P (o + i) v').block q (Nat.lt_of_lt_of_le h.lt hO.size) (fun e => hPq e.symm)).trans (hq5.trans hbx)
    refine ⟨⟨_, P, o, cap, g', v', h3.1, hq6, fun j hj => ?_, h3.2.more (fun k _ e => hG k e)⟩, ⟨(World.cell?_of_block hq5).trans x0, (World.cell?_of_block hP5).trans x1, (World.cell?_of_block hP5).trans x2⟩, (World.frozen?_of_block hP5).trans hfr⟩
    rcases hj with hj | rfl
    · exact .inl hj
    · rcases hg with e | e
      · rw [e]; exact .inl hp1.2.2
      · exact .inr e
  have HF : Hid (∀ wx w7 G1 P1 o1 cap1 g v, Tb0 wx G1 D q P1 c (ps.set i ⟨g, v, p1.es ++ p2.es⟩) → wx.heap[q]? = some (.cells #[.slice (some ⟨P1, o1, none⟩) ps.length cap1, .int .i64 (c : Int)] 147 (0, 0)) → (∀ j, G1 j → G j ∨ w.heap.size ≤ j) → Only G w wx → OwnC w7 P1 o1 cap1 1 (ps.length - 1) (pagesV ((ps.set i ⟨g, v, p1.es ++ p2.es⟩).take (i + 1) ++ (ps.set i ⟨g, v, p1.es ++ p2.es⟩).drop (i + 2))) → Only (· = P1) wx w7 → P1 ≠ q →
      JoT w G D q c (flat ps) (i + 1) (.returned (.tuple #[])) (w7.setCell ⟨q, 0, none⟩ (.slice (some ⟨P1, o1, none⟩) (ps.length - 1) cap1))) := Lib.hid fun wx w7 G1 P1 o1 cap1 g v ht hb hg hO0 ho7 hO7 hP1 => by
    have hlen : ((ps.set i ⟨g, v, p1.es ++ p2.es⟩).take (i + 1) ++ (ps.set i ⟨g, v, p1.es ++ p2.es⟩).drop (i + 2)).length = ps.length - 1 := by
      rw [List.length_append, List.length_take, List.length_drop, List.length_set]; omega
    obtain ⟨G4, h5, h6, h7⟩ := ht.setRow hb (hO7.more (fun k _ e => ⟨e, by rw [e]; exact hP1⟩)) (P' := P1) (v' := .slice (some ⟨P1, o1, none⟩) (ps.length - 1) cap1) (.inr ⟨hP1, o1, cap1, rfl, ho7⟩) hlen.symm (.inl rfl) (fun x hx => by
      rcases List.mem_append.1 hx with hx | hx
      · exact .inl (List.mem_of_mem_take hx)
      · exact .inl (List.mem_of_mem_drop hx)) (by
      have h8 := ht.apart
      rw [List.map_append]
      have e1 : (ps.set i ⟨g, v, p1.es ++ p2.es⟩).map Pg.g = ((ps.set i ⟨g, v, p1.es ++ p2.es⟩).take (i + 1)).map Pg.g ++ ((ps.set i ⟨g, v, p1.es ++ p2.es⟩).drop (i + 1)).map Pg.g := by rw [← List.map_append, List.take_append_drop]
      rw [e1] at h8
      rw [List.nodup_append] at h8 ⊢
      have hsub : ∀ a ∈ ((ps.set i ⟨g, v, p1.es ++ p2.es⟩).drop (i + 2)).map Pg.g, a ∈ ((ps.set i ⟨g, v, p1.es ++ p2.es⟩).drop (i + 1)).map Pg.g := fun a ha => by
        obtain ⟨x, hx, e⟩ := List.mem_map.1 ha
        exact List.mem_map.2 ⟨x, by rw [show i + 2 = i + 1 + 1 by omega, ← List.drop_drop] at hx; exact List.mem_of_mem_drop hx, e⟩
      refine ⟨h8.1, ?_, fun a ha b hb2 => h8.2.2 a ha b (hsub b hb2)⟩
      have h9 := h8.2.1
      rw [show i + 2 = i + 1 + 1 by omega, ← List.drop_drop, List.map_drop]
      exact h9.sublist (List.drop_sublist 1 _))
    refine ⟨rfl, G4, P1, _, h5, flat_join h1 h2 rfl, fun x hx => ?_, by rw [hlen]; omega, fun j hj => ?_, hO0.trans h7 (fun k hk e => ?_)⟩
    · have hx2 : x ∈ ps.set i ⟨g, v, p1.es ++ p2.es⟩ := by
        rcases List.mem_append.1 hx with hx | hx
        · exact List.mem_of_mem_take hx
        · exact List.mem_of_mem_drop hx
      rcases List.mem_or_eq_of_mem_set hx2 with hx3 | rfl
      · exact hf x hx3
      · exact ⟨fun e => hp1n (List.append_eq_nil_iff.1 e).1, by show (p1.es ++ p2.es).length ≤ 128; rw [List.length_append]; omega⟩
    · rcases h6 j hj with e | rfl | ⟨x, hx, rfl⟩
      · exact hg j e
      · exact hg _ ht.gP
      · refine hg _ (ht.page x ?_).2.2
        rcases List.mem_append.1 hx with hx | hx
        · exact List.mem_of_mem_take hx
        · exact List.mem_of_mem_drop hx
    · rcases e with rfl | rfl
      · exact (hg _ ht.gP).resolve_right (by omega)
      · exact (hg _ ht.gq).resolve_right (by omega)
  have HE1 : Hid ((entV p2.es).length = p2.es.length * 2) := Lib.hid (entV_len _)
  have HE2 := Lib.hid (entV_one p2.es)
  have HS : Hid (p1.es.length + p2.es.length ≤ 64) := Lib.hid hs
  have hi0 : decide ((i : Int) < 0) = false := by simp
  have hii : (i : Int) < (ps.length : Int) := by omega
  have hii1 : (i : Int) + 1 < (ps.length : Int) := by omega
  have hni : (ps.length : Int) ≤ 1000 := by omega
  have he : ((i : Int) + 1 == (ps.length : Int)) = false := by simp; omega
  have hd : decide ((64 : Int) < (p1.es.length : Int) + (p2.es.length : Int)) = false := by simp; omega
  have hw2 : IntKind.i64.wrap ((p1.es.length : Int) + (p2.es.length : Int)) = (p1.es.length : Int) + (p2.es.length : Int) := by rw [IntKind.wrap_i64]; omega
  have hw : IntKind.i64.wrap ((i : Int) + 1) = (i : Int) + 1 := by rw [IntKind.wrap_i64]; omega
  have hw3 : (0 : Int) ≤ (i : Int) + 1 := by omega
  have hw4 : ((i : Int) + 1).toNat = i + 1 := by omega
  have HL2 := Lib.hid hl2
  clear h hf h1 h2 hs hl2 hn hv1 hv2 hbx ho hPq hp1 hp2 hH1 hH2 hne12 hrd2 hp2n hp1n hrc2
  go_enter Tryz.func167, Tryz.ntmps167
  go_wp2_with fail
  go_quiet (fail)
  go_upto_region 1 with (fail)
  go_cut [] (fun wx => JnR w G D q c i (p1.es ++ p2.es) ps wx)
  case first =>
    go_region_law (refine step_of_wp rfl (wp_appHC _ _ 156 92 rfl Tryz.underlying156 hi hz0 hz1 hz2 (by simp [Value.cells]) (by decide) (by simp [Act.eval]) (HH1.out.heap rfl) (by exact HQ.out) (A := ⟨b2, o2, none⟩) (m := p2.es.length) (c := c2) (by simp [Act.eval]) HE1.out HR2.out HE2.out (by have := HS.out; omega) (by have := HS.out; omega) ?_)
                   intro g' v' w5 hv hO hg
                   obtain ⟨A', cap', rfl, _, _⟩ := hv.slice
                   obtain ⟨hJ, hT, hz⟩ := HJ.out _ _ _ _ (by exact drewN_below w _) hv hO hg
                   obtain ⟨y0, y1, y2⟩ := hT
                   have HJ5 := Lib.hid hJ
                   clear hv hO hg hJ)
    all_goals
      go_wp2_with fail
      go_meet
      exact HJ5.out
  case rest =>
    obtain ⟨G1, P1, o1, cap1, g, v, ht, hb, hg, hO0⟩ := hcut
    have hl3 := HL2.out
    obtain ⟨o', cap', hb2, hown, hP1⟩ := ht.cap (i := i) (p := ⟨g, v, p1.es ++ p2.es⟩) (by rw [List.getElem?_set, if_pos rfl, if_pos (by omega)])
    rw [List.length_set] at hb2 hown
    rw [hb] at hb2
    have e1 : o1 = o' ∧ cap1 = cap' := by simp at hb2; exact hb2
    obtain ⟨rfl, rfl⟩ := e1
    have hdp := deleteP_any hown ht.one (i + 1) (i + 2) (ps.length - 1) (by omega) (by omega) (by omega) (by omega)
    have epv : (pagesV (ps.set i ⟨g, v, p1.es ++ p2.es⟩)).take (i + 1) ++ (pagesV (ps.set i ⟨g, v, p1.es ++ p2.es⟩)).drop (i + 2) = pagesV ((ps.set i ⟨g, v, p1.es ++ p2.es⟩).take (i + 1) ++ (ps.set i ⟨g, v, p1.es ++ p2.es⟩).drop (i + 2)) := by simp [pagesV]
    rw [epv] at hdp
    push_cast at hdp
    have HDP := Lib.hid hdp
    have HFX := Lib.hid (fun w7 ho7 hO7 => HF.out wc w7 G1 P1 o1 cap1 g v ht hb hg hO0 ho7 hO7 hP1)
    have HQ7 : Hid (∀ w7 : World, Only (· = P1) wc w7 → w7.cell? ⟨q, 0, none⟩ = some (.slice (some ⟨P1, o1, none⟩) ps.length cap1) ∧ w7.frozen? ⟨q, 0, none⟩ = false) := Lib.hid fun w7 hO => by
      have h9 := (hO.block q ht.lt (fun e => hP1 e.symm)).trans hb
      exact ⟨(box2 h9).1, frozen_of h9 0⟩
    obtain ⟨y0, _⟩ := HQ7.out wc (Only.refl _ _)
    clear ht hb hg hO0 hb2 hown hP1 hdp epv HF HJ HR2 hl3 hw hw3 hw4 hw2 hd he
    go_wp2_with (go_at_call 166; refine HDP.out.mono ?_; rintro e w7 ⟨rfl, ho, hO⟩
                 obtain ⟨z0, z1⟩ := HQ7.out _ hO
                 have HZ := Lib.hid (HFX.out _ ho hO)
                 clear ho hO)
    go_end0
    exact HZ.out
end Go.Proofs.YtkohppalfcalbaaGreat

/- Package participant: send; slices.Clone of numbers; doubt. -/
import Derived.Test.YtkohppalfcalbaaGreatGUB
namespace Go.Proofs.YtkohppalfcalbaaGreat
open Go.RowKit Go.Maps

theorem infoLo : (Tryz.prog.info? 56).map (fun i => (i.zero, i.size, i.bytes)) = some (some (.agg #[.int .i64 0, .int .i64 0, .int .i64 0, .int .i64 0, .slice none 0 0]), 5, 56) := by kernel_rfl
theorem infoIn : (Tryz.prog.info? 3).map (fun i => (i.zero, i.size, i.bytes)) = some (some (.int .i64 0), 1, 8) := by kernel_rfl
/-- a letter more -/
theorem Pt.sent {w W V W5 : World} {p : PtS} {g' : Nat} {v' : Value} {l : Lo} (h : Pt w W p) (hb : Below W.heap.size W V) (hh : HeldC W5 p.pb g' 5 v' (p.ou.length + 1) (loV p.ou ++ l.cells)) (hO : Only (fun k => k = p.ug ∧ k ≠ p.pb) V W5) (hg : g' = p.ug ∨ V.heap.size ≤ g') :
    Pt w (W5.setCell ⟨p.pb, 6, none⟩ v') { p with ug := g', ou := p.ou ++ [l], vu := v' } := by
  have hV := h.below hb
  have hS := Only.set W5 p.pb 6 v'
  have hq := h.pbq
  have hK : Only (fun k => k = p.pb ∨ (k = p.ug ∧ k ≠ p.pb)) V (W5.setCell ⟨p.pb, 6, none⟩ v') := (hO.more fun k _ hk => Or.inr hk).trans hS fun k _ hk => Or.inl hk
  have hb5 := hS.size
  have hpl := hV.lt _ (.inl rfl)
  have hgl : g' = p.ug ∨ (V.heap.size ≤ g' ∧ g' < (W5.setCell ⟨p.pb, 6, none⟩ v').heap.size) := by
    rcases hg with e | e
    · exact .inl e
    · rcases hh with ⟨_, _, _, e2⟩ | ⟨_, o, cap, _, ho⟩
      · omega
      · exact .inr ⟨e, Nat.lt_of_lt_of_le ho.lt hb5⟩
  have hlt : ∀ k, p.F k → k < V.heap.size := hV.lt
  refine ⟨(hV.at_.turn hK fun k hk => ?_).fewer fun k hk => ?_, ?_, hV.md.kept (hK.block _ hV.md.lt fun e => ?_), hV.me.kept (hK.block _ hV.me.lt fun e => ?_), hV.ro.only hK fun hn e => ?_, ?_, h.ne, h.go, ?_, ?_, fun k hk => ?_, fun e he => (hV.dk e he).keep (fun k hk => hK.block k (hlt k (.inr (.inr (.inr (.inr (.inr hk)))))) ?_) fun _ => id⟩
  · rcases hk with hk | hk
    · exact .inl hk
    · exact .inr (.inr (.inr (.inr (.inl hk.1))))
  · rcases hk with e | e | e | e | e | e
    · exact .inl (.inl e)
    · exact .inl (.inr (.inl e))
    · exact .inl (.inr (.inr (.inl e)))
    · exact .inl (.inr (.inr (.inr (.inl e))))
    · have e2 : k = g' := e
      rcases hgl with h9 | h9
      · exact .inl (.inr (.inr (.inr (.inr (.inl (e2.trans h9))))))
      · rw [e2]; exact .inr h9
    · exact .inl (.inr (.inr (.inr (.inr (.inr e)))))
  · have hb9 : W5.heap[p.pb]? = _ := (hO.block p.pb hpl fun e => e.2 rfl).trans hV.box
    simp [World.setCell, Array.getElem?_modify, hb9]
  · rcases e with e | e
    · exact hq.1 e.symm
    · exact h.gu.1 e.1.symm
  · rcases e with e | e
    · exact hq.2 e.symm
    · exact h.gu.2 e.1.symm
  · rcases e with e | e
    · exact hn e
    · exact hn (h.gg e.1)
  · have h9 := hh.only hS fun hn e => hn e
    have e1 : loV (p.ou ++ [l]) = loV p.ou ++ l.cells := by simp [loV]
    show HeldC _ p.pb g' 5 v' (p.ou ++ [l]).length (loV (p.ou ++ [l]))
    rw [e1, List.length_append, List.length_singleton]
    exact h9
  · show g' ≠ p.dm ∧ g' ≠ p.em
    have a1 := hV.md.lt
    have a2 := hV.me.lt
    rcases hg with e | e
    · rw [e]; exact h.gu
    · omega
  · intro e
    have e2 : p.og = g' := e
    rcases hg with e3 | e3
    · exact h.gg (e2.trans e3)
    · have := hlt p.og (.inr (.inr (.inr (.inl rfl))))
      omega
  · have a1 := h.nq k hk
    have a2 := hlt k (.inr (.inr (.inr (.inr (.inr hk)))))
    refine ⟨a1.1, a1.2.1, a1.2.2.1, a1.2.2.2.1, ?_⟩
    show k ≠ g'
    rcases hg with e3 | e3
    · rw [e3]; exact a1.2.2.2.2
    · omega
  · intro e
    have a1 := h.nq k hk
    rcases e with e | e
    · exact a1.1 e
    · exact a1.2.2.2.2 e.1
attribute [-go_sem] Builtin.append_
/-- what send leaves -/
def SdT (w W : World) (p : PtS) (l : Lo) (e : Ending) (W' : World) : Prop := e = .returned (.tuple #[]) ∧ (∃ g' v', Pt w W' { p with ug := g', ou := p.ou ++ [l], vu := v' }) ∧ Kp p W W'
set_option maxRecDepth 100000 in
set_option maxHeartbeats 4000000 in
theorem send_any {w W : World} {p : PtS} (h : Pt w W p) (k x t : Int) (hl : p.ou.length < 100000) : Calls Tryz.prog 108 #[.pointer (some ⟨p.pb, 0, none⟩), .int .i64 k, .int .i64 x, .int .i64 t] W (SdT w W p ⟨k, p.node, t, x⟩) := by
  obtain ⟨A, cap, hv, hcap, _⟩ := h.ru.slice
  obtain ⟨n, hn⟩ : ∃ n, p.ou.length = n := ⟨_, rfl⟩
  rw [hn] at hv hcap hl
  obtain ⟨c0, c1, c2, c3, c4, c5, c6⟩ := box7P h.box
  rw [hv] at c6
  have hpl := h.lt _ (.inl rfl)
  obtain ⟨i0, hi, hz0, hz1, hz2⟩ := info_parts infoLo
  obtain ⟨node, hnode⟩ : ∃ z, p.node = z := ⟨_, rfl⟩
  rw [hnode] at c1
  have hni : (n : Int) ≤ 100000 := by omega
  have HAP : Hid (∀ V, Below W.heap.size W V → V.heap = (W.alloc (.cells #[.int .i64 k, .int .i64 node, .int .i64 t, .int .i64 x, .slice none 0 0] 56)).heap → ∃ A5 c5 w5, (Builtin.append_ #[63, 63] 63 #[.slice A n cap, .slice (some ⟨W.heap.size, 0, none⟩) 1 1]).run Tryz.prog V = .ok (.slice A5 (n + 1) c5) w5 ∧ w5.cell? ⟨p.pb, 6, none⟩ = some (.slice A n cap) ∧ w5.frozen? ⟨p.pb, 6, none⟩ = false ∧ SdT w W p ⟨k, node, t, x⟩ (.returned (.tuple #[])) (w5.setCell ⟨p.pb, 6, none⟩ (.slice A5 (n + 1) c5))) := Lib.hid fun V hbV hVh => by
    have hn4 : V.heap[W.heap.size]? = some (.cells #[.int .i64 k, .int .i64 node, .int .i64 t, .int .i64 x, .slice none 0 0] 56 (0, 0)) := by rw [hVh]; exact heap_alloc_new W _
    have hrow5 := (h.below hbV).ru
    rw [hv, hn] at hrow5
    have hsr : ∀ j u, (Lo.cells ⟨k, node, t, x⟩)[j]? = some u → V.cell? ((⟨W.heap.size, 0, none⟩ : Addr).add j) = some u := fun j u hj => by
      rw [Addr.add_lit, Nat.zero_add, cell_of_row V _ j _ _ (0, 0) hn4]
      have e1 : (#[.int .i64 k, .int .i64 node, .int .i64 t, .int .i64 x, .slice none 0 0] : Array Value)[j]? = (Lo.cells ⟨k, node, t, x⟩)[j]? := by simp [Lo.cells]
      rw [e1]; exact hj
    obtain ⟨g5, v5, w5, hrun, hrow, hO, hg5⟩ := run_appHC (P := Tryz.prog) 63 63 56 Tryz.underlying63 hi hz0 hz1 hz2 (by simp [Value.cells]) (by decide) hrow5 (by have := hbV.size; omega) (a := ⟨W.heap.size, 0, none⟩) (m := 1) (c := 1) (ys := Lo.cells ⟨k, node, t, x⟩) rfl hsr (by simp [Value.oneCell', Lo.cells]) (by omega) (by omega)
    obtain ⟨A5, c5, hv5, _, _⟩ := hrow.slice
    subst hv5
    have hbx5 : w5.heap[p.pb]? = _ := (hO.block p.pb (by have := hbV.size; omega) (fun e => e.2 rfl)).trans ((hbV.block p.pb hpl).trans h.box)
    have hc5 := (box7P hbx5).2.2.2.2.2.2
    rw [hv] at hc5
    refine ⟨A5, c5, w5, hrun, hc5, frz hbx5 6, rfl, ⟨g5, .slice A5 (n + 1) c5, ?_⟩, fun k hk => ?_⟩
    · exact h.sent (l := ⟨k, node, t, x⟩) hbV (by rw [hn]; exact hrow) hO hg5
    · have a1 := h.nq k hk
      have a2 := h.qlt hk
      have a3 := hbV.size
      have a4 := hO.size
      exact ((Only.set w5 p.pb 6 (.slice A5 (n + 1) c5)).block k (by omega) a1.1).trans ((hO.block k (by omega) fun e => a1.2.2.2.2 e.1).trans (hbV.block k a2))
  have hb4 := alloc_below W (.cells #[.int .i64 k, .int .i64 node, .int .i64 t, .int .i64 x, .slice none 0 0] 56)
  have hAP := HAP.out (W.alloc (.cells #[.int .i64 k, .int .i64 node, .int .i64 t, .int .i64 x, .slice none 0 0] 56)).drew (hb4.trans ((drew_below _).mono hb4.size)) rfl
  obtain ⟨A5, c5', w5, hrun, hc5, hf5, had⟩ := hAP
  have HAD := Lib.hid had
  have x6 := (box7P ((hb4.block p.pb hpl).trans h.box)).2.2.2.2.2.2
  rw [hv] at x6
  rw [hnode]
  clear h hv hcap hi hz0 hz1 hz2 c0 c2 c3 c4 c5 hnode hn hpl had hb4 HAP
  go_enter Tryz.func108, Tryz.ntmps108
  go_wp2_with fail
  go_region_law (fail)
  all_goals
    go_wp2_with fail
    refine bodyPost_end (v := .tuple #[]) (by simp [results, Tryz.results108, go_sem]) rfl ?_
    exact HAD.out
/-- what Clone of numbers answers -/
def ClI (w : World) (q n : Nat) (vs : List Value) (e : Ending) (w' : World) : Prop := ∃ g' v', e = .returned v' ∧ HeldC w' q g' 1 v' n vs ∧ Below w.heap.size w w' ∧ w.heap.size ≤ g'
set_option maxRecDepth 100000 in
set_option maxHeartbeats 4000000 in
theorem cloneI_any {w : World} {q g o n cap : Nat} {vs : List Value} (hq : q < w.heap.size) (hl : vs.length = n) (hn : n ≤ 1000) (hr : ∀ j u, vs[j]? = some u → w.cell? ((⟨g, o, none⟩ : Addr).add j) = some u) (hg : g < w.heap.size) (h1 : ∀ u ∈ vs, u.oneCell' = true) :
    Calls Tryz.prog 155 #[.slice (some ⟨g, o, none⟩) n cap] w (ClI w q n vs) := by
  have hnil : ∀ (w : World) (a : Option Addr) (n c n' c' : Nat), (binOp .eql 41 (.slice a n c) (.slice none n' c')).run Tryz.prog w = .ok (.bool a.isNone) w := fun w a n c n' c' => Lib.run_eql_slice_nil w _ _ a n c n' c' Tryz.underlying41
  obtain ⟨i0, hi, hz0, hz1, hz2⟩ := info_parts infoIn
  have hsz : (w.alloc (.cells #[] 3)).heap.size = w.heap.size + 1 := by simp
  obtain ⟨g', v', w', hrun, h2, h3, h4⟩ := run_appHC (P := Tryz.prog) (w := w.alloc (.cells #[] 3)) 41 41 3 Tryz.underlying41 hi hz0 hz1 hz2 (by simp [Value.cells]) (by decide) (held_new_ (t := 3) (sz := 1) hq) (by omega) (m := n) (c := cap) (by rw [hl, Nat.mul_one]) (fun j u hj => (World.cell?_of_block (by rw [addr_add_block]; exact Below.heap_alloc _ _ _ hg)).trans (hr j u hj)) h1 (by omega) (by omega)
  simp only [Nat.zero_add, List.nil_append] at hrun h2
  have HY : Hid (ClI w q n vs (.returned v') w') := Lib.hid ⟨g', v', rfl, h2, (alloc_below w _).trans (h3.below (by omega) (fun j e => by omega)), by omega⟩
  have HR := Lib.hid hrun
  clear hrun h2 h3 h4 hl hr h1 hsz
  go_enter Tryz.func155, Tryz.ntmps155
  go_wp2_with (at_builtin; refine Lib.wpList_append_run _ rfl _ _ _ _ rfl _ _ rfl rfl _ _ HR.out ?_)
  go_ret
  exact HY.out
end Go.Proofs.YtkohppalfcalbaaGreat

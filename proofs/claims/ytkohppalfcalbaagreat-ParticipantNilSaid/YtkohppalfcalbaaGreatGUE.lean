/- Package participant: prepare of an active transaction that has changes. -/
import Derived.Test.YtkohppalfcalbaaGreatGUD
namespace Go.Proofs.YtkohppalfcalbaaGreat
open Go.RowKit Go.Maps

/-- a doubt is stored -/
theorem Pt.knows {w W V V' : World} {p : PtS} {x : Int} {d : Db} {ns : List Int} {Q' : Nat → Prop} (h : Pt w W p) (hb : Below W.heap.size W V) (hQ1 : ∀ k, p.Q k → Q' k) (hQ2 : ∀ k, Q' k → p.Q k ∨ (W.heap.size ≤ k ∧ k < V.heap.size)) (hm : MapM doubtW V' p.dm (putM p.D x d)) (hO : Only (· = p.dm) V V') (hd : DbOk V Q' d ns) :
    Pt w V' { p with D := putM p.D x d, N := upd p.N x ns, Q := Q' } := by
  have hV := h.below hb
  have hq := h.pbq
  have hlt := h.lt
  have a1 := h.md.lt
  have hat := (h.at_.foreign hb).turn hO fun k hk => .inl (.inr (.inl hk))
  refine ⟨hat.fewer fun k hk => ?_, (hO.block _ (hV.lt _ (.inl rfl)) hq.1).trans hV.box, hm, hV.me.kept (hO.block _ hV.me.lt fun e => h.ne e.symm), hV.ro.only hO fun _ e => h.go.1 e, hV.ru.only hO fun _ e => h.gu.1 e, h.ne, h.go, h.gu, h.gg, fun k hk => ?_, fun e he => ?_⟩
  · rcases hk with e | e | e | e | e | e
    · exact .inl (.inl (.inl e))
    · exact .inl (.inl (.inr (.inl e)))
    · exact .inl (.inl (.inr (.inr (.inl e))))
    · exact .inl (.inl (.inr (.inr (.inr (.inl e)))))
    · exact .inl (.inl (.inr (.inr (.inr (.inr (.inl e))))))
    · rcases hQ2 k e with e | e
      · exact .inl (.inl (.inr (.inr (.inr (.inr (.inr e))))))
      · exact .inl (.inr e)
  · rcases hQ2 k hk with e | e
    · exact h.nq k e
    · have b1 := hlt p.pb (.inl rfl)
      have b2 := hlt p.em (.inr (.inr (.inl rfl)))
      have b3 := hlt p.og (.inr (.inr (.inr (.inl rfl))))
      have b4 := hlt p.ug (.inr (.inr (.inr (.inr (.inl rfl)))))
      show k ≠ p.pb ∧ k ≠ p.dm ∧ k ≠ p.em ∧ k ≠ p.og ∧ k ≠ p.ug
      omega
  · have hdm : ∀ k, Q' k → k ≠ p.dm ∧ k < V.heap.size := fun k hk => by
      rcases hQ2 k hk with e | e
      · exact ⟨(h.nq k e).2.1, hV.lt k (.inr (.inr (.inr (.inr (.inr e)))))⟩
      · exact ⟨by omega, e.2⟩
    have hk9 : ∀ k, Q' k → V'.heap[k]? = V.heap[k]? := fun k hk => hO.block k (hdm k hk).2 (hdm k hk).1
    have he2 : e ∈ dropM p.D x ++ [(x, d)] := he
    show DbOk V' Q' e.2 (upd p.N x ns e.1)
    rcases List.mem_append.1 he2 with h1 | h1
    · obtain ⟨h2, h3⟩ := List.mem_filter.1 h1
      have h4 : e.1 ≠ x := by simpa using h3
      have e1 : upd p.N x ns e.1 = p.N e.1 := if_neg h4
      rw [e1]
      exact (hV.dk e h2).keep (fun k hk => hk9 k (hQ1 k hk)) hQ1
    · have h5 : e = (x, d) := by simpa using h1
      subst h5
      have e1 : upd p.N x ns x = ns := if_pos rfl
      rw [e1]
      exact hd.keep hk9 fun _ => id
/-- what prepare leaves -/
def PpP (p : PtS) (n : Int) (cs : List ChC) : PtS := { p with v := ⟨upd p.v.tx n (some (cs, true)), p.v.V, p.v.nT, p.v.nS, p.v.nb + (cs.length + 2) * 3005⟩, D := putM p.D n ⟨none, 0, 0, p.ticks⟩, N := upd p.N n [] }
set_option maxRecDepth 100000 in
set_option maxHeartbeats 4000000 in
theorem prepare_any {w W : World} {p : PtS} (h : Pt w W p) {n : Int} (hn : i64ok n) {cs : List ChC} (hx : p.v.tx n = some (cs, false)) (hc : cs ≠ []) (hroom : p.v.nb + (cs.length + 2) * 3005 ≤ 100000) (hD : p.D.length < 10000) :
    Calls Tryz.prog 105 #[.pointer (some ⟨p.pb, 0, none⟩), .int .i64 n] W (fun e W' => e = .returned (.tuple #[]) ∧ Pt w W' (PpP p n cs) ∧ Kp p W W') := by
  obtain ⟨c0, c1, c2, c3, c4, c5, c6⟩ := box7P h.box
  have HMK := Lib.hid (at_mark h.at_ hn)
  have hmk : mkV p.v n = cs.length := by unfold mkV; rw [hx]
  rw [hmk] at HMK
  have hc9 : 0 < cs.length := List.length_pos_iff.2 hc
  obtain ⟨N, hN⟩ : ∃ N, cs.length = N := ⟨_, rfl⟩
  have HPR : Hid (Calls Tryz.prog 16 #[.pointer (some ⟨p.c, 0, none⟩), .int .i64 n] W (fun e V => e = .returned (.int .i64 0) ∧ Hid (V.cell? ⟨p.pb, 2, none⟩ = some (.int .i64 p.ticks) ∧ V.cell? ⟨p.pb, 3, none⟩ = some (.map (some p.dm)) ∧ ∃ V', (Instr.mapUpdate 115 (.map (some p.dm)) (.int .i64 n) (.agg #[.slice none 0 0, .int .i64 p.ticks])).run Tryz.prog V.drew = .ok () V' ∧ Pt w V' (PpP p n cs) ∧ Kp p W V'))) := Lib.hid ((at_prepare h.at_ hn hx hroom).mono fun e V ht => by
    refine ⟨ht.1, Lib.hid ?_⟩
    have h2 := h.shard ht
    obtain ⟨b0, b1, b2, b3, _⟩ := box7P h2.box
    have h3 := h2.below (drew_below V)
    obtain ⟨V', hrun, hm, hO⟩ := h3.md.store doubt_good (by show p.D.length < 100000; omega) (x := n) hn ⟨none, 0, 0, p.ticks⟩
    refine ⟨b2, b3, V', hrun, h3.knows (Below.refl _ _) (fun _ => id) (fun _ => .inl) hm hO ⟨rfl, Nat.le_refl _, fun e => absurd rfl e⟩, fun k hk => ?_⟩
    have a1 := h.nq k hk
    have a2 := h.qlt hk
    exact (hO.block k (by have := ht.2.2.size; have e1 : V.drew.heap.size = V.heap.size := rfl; omega) a1.2.1).trans (ht.2.2.block k a2 fun e => e.2 (.inr (.inr (.inr (.inr (.inr hk)))))))
  rw [hN] at HMK hc9
  have hNi : (0 : Int) < (N : Int) := by omega
  generalize hP : PpP p n cs = P' at HPR ⊢
  clear h hn hx hc hroom hD hmk hN hP c1 c4 c5 c6
  generalize p.pb = pb at *
  generalize p.dm = dm at *
  generalize p.c = c at *
  generalize p.ticks = tk at *
  go_enter Tryz.func105, Tryz.ntmps105
  go_wp2_with (first
    | (go_at_call 21; refine HMK.out.mono ?_; rintro e w9 ⟨rfl, rfl⟩)
    | (go_at_call 16; refine HPR.out.mono ?_; rintro e V ⟨rfl, hh⟩
       obtain ⟨c2, c3, V', hrun, hpt⟩ := hh.out
       have HPT := Lib.hid hpt
       clear hh hpt))
  go_region_law (fail)
  all_goals
    go_wp2_with fail
    refine bodyPost_end (v := .tuple #[]) (by simp [results, Tryz.results105, go_sem]) rfl ?_
    exact ⟨rfl, HPT.out⟩
end Go.Proofs.YtkohppalfcalbaaGreat

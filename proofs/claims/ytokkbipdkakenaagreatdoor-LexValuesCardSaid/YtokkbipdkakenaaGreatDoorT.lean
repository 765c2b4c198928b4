/- Words for memory: rows of the call's own, appends. -/
import Derived.Test.YtokkbipdkakenaaGreatDoorA
import Derived.Deep.AppendLies
import Derived.Deep.RegionLaw
import Derived.Laws.AppendOwnNone
import Derived.StillTailTactics
import Derived.OwnWalk
namespace Go.Proofs.YtokkbipdkakenaaGreatDoor
open Go.RowKit

theorem grownBy_below {w w' : World} {row : Option Nat} (h : Below w.heap.size w w') : w.grownBy w' row := ⟨h.os, h.tape, h.output, h.size, fun k hk _ => h.block k hk⟩
def Lst (w : World) (te : TypeId) (v : Value) (xs : List Value) : Prop := w.ownsRow 0 te 1 v xs.length xs ∧ ∀ x ∈ xs, x.oneCell' = true

theorem add_plain (g j : Nat) : (⟨g, 0, none⟩ : Addr).add j = ⟨g, j, none⟩ := by unfold Addr.add; split <;> simp_all
theorem run_append_any {P : Program} {w : World} (t ty : TypeId) (base : Nat) (e : TypeId) (z : Value) (bytes : Nat) (ht : P.underlying t = some (.slice e))
    (hinfo : (P.info? e).map (fun i => (i.zero, i.size, i.bytes)) = some (some z, 1, bytes)) (hz1 : z.cells.size = 1)
    (v : Value) (n : Nat) (xs : List Value) (hown : w.ownsRow base e 1 v n xs) (u : Value) (news : List Value) (hu : Lst w e u news)
    (h63 : n + news.length ≤ maxLen) (hbytes : (n + news.length) * bytes ≤ 140737488355328) (hbase : base ≤ w.heap.size) :
    ∃ v' w', (Builtin.append_ #[t, t] ty #[v, u]).run P w = .ok v' w' ∧ w'.ownsRow base e 1 v' (n + news.length) (xs ++ news) ∧ w.grownBy w' v.ownBlock := by
  obtain ⟨i0, hi0, hz0, hs1, hs2⟩ := info_parts hinfo
  obtain ⟨⟨_, hcase⟩, h1⟩ := hu
  rcases hcase with ⟨rfl, hn⟩ | ⟨g, cap, cur, rfl, hg, hh, hl, hc, hsz, htk⟩
  · have : news = [] := List.length_eq_zero_iff.1 hn
    subst this
    have hrun := run_append_owned_none (P := P) (w := w) base t ty e i0 1 ht hi0 v n xs hown
    exact ⟨v, w, hrun, by simpa using hown, rfl, rfl, rfl, Nat.le_refl _, fun _ _ _ => rfl⟩
  · obtain ⟨v', w', a1, a2, a3, _⟩ := run_append_own (P := P) w base t ty e i0 z 1 bytes ht hi0 hz0 hs1 hs2 hz1 (by omega) v n xs hown ⟨g, 0, none⟩ news.length cap news (by simp)
      (fun j x hx => by
        rw [add_plain, cell_of_row w g j cur e (0, 0) hh]
        rw [← htk, List.getElem?_take] at hx
        split at hx
        · simpa using hx
        · cases hx) h1 h63 hbytes hbase
    exact ⟨v', w', a1, a2, a3⟩

theorem owned_slice {w : World} {base n s : Nat} {e : TypeId} {v : Value} {xs : List Value} (h : w.ownsRow base e s v n xs) : ∃ pa l c, v = .slice pa l c := by
  rcases h.2 with ⟨rfl, _⟩ | ⟨g, cap, cur, rfl, _⟩
  · exact ⟨_, _, _, rfl⟩
  · exact ⟨_, _, _, rfl⟩
theorem step_app {P : Program} {ops : Array Oper} {o : Oper} {a : Act} {w : World} {K : Act → World → Prop} {Q : Exit → Act → World → Prop} {E : Prop} (hgd : o.guard = none) (s x : Operand) (t : TypeId)
    (ho : o.op = .call { callee := .builtin .append, args := #[s, x], argTypes := #[t, t] })
    (base : Nat) (e : TypeId) (z : Value) (bytes : Nat) (ht : P.underlying t = some (.slice e))
    (hinfo : (P.info? e).map (fun i => (i.zero, i.size, i.bytes)) = some (some z, 1, bytes)) (hz1 : z.cells.size = 1)
    (v : Value) (n : Nat) (xs : List Value) (hs : a.eval s = v) (hown : w.ownsRow base e 1 v n xs) (u : Value) (news : List Value) (hx : a.eval x = u) (hu : Lst w e u news)
    (h63 : n + news.length ≤ maxLen) (hbytes : (n + news.length) * bytes ≤ 140737488355328) (hbase : base ≤ w.heap.size)
    (h : ∀ pa l c w', w'.ownsRow base e 1 (.slice pa l c) (n + news.length) (xs ++ news) → w.grownBy w' v.ownBlock → K (a.put o.dst (.slice pa l c)) w') :
    if Region.wanted o (yielded ops a.tmps) = true then Oper.wp P o a w K Q else E := by
  have hw : Region.wanted o (yielded ops a.tmps) = true := by simp [Region.wanted, hgd]
  rw [if_pos hw]
  obtain ⟨v', w', hrun, h1, h2⟩ := run_append_any (P := P) t o.type base e z bytes ht hinfo hz1 v n xs hown u news hu h63 hbytes hbase
  unfold Oper.wp
  simp [execOp, ho, resolve, invoke, builtin, hs, hx, hrun, Result.andThen]
  obtain ⟨pa, l, c, rfl⟩ := owned_slice h1
  exact h _ _ _ _ h1 h2

theorem own_lit {w : World} {B g k : Nat} {cs : Array Value} {e : TypeId} (h : w.heap[g]? = some (.cells cs e (0, 0))) (hB : B ≤ g) (hk : cs.size = k) (hm : k ≤ 1000000) : w.ownsRow B e 1 (.slice (some ⟨g, 0, none⟩) k k) k cs.toList :=
  ⟨by simp [hk], .inr ⟨g, k, cs, rfl, hB, h, Nat.le_refl _, by unfold maxLen; omega, by omega, List.take_of_length_le (by simp [hk])⟩⟩
theorem own_ne {w : World} {B g n s : Nat} {v : Value} {xs : List Value} {e e' : TypeId} {c : Array Value} {fr : Nat × Nat} (h : w.ownsRow B e s v n xs) (hg : w.heap[g]? = some (.cells c e' fr)) (he : e ≠ e') : v.ownBlock ≠ some g := by
  rcases h.2 with ⟨rfl, _⟩ | ⟨g', cap, cur, rfl, _, hh, _⟩
  · simp [Value.ownBlock]
  · intro h
    simp [Value.ownBlock] at h
    subst h
    rw [hh] at hg
    simp at hg
    exact he hg.2.1
theorem Lst.kept {w w' : World} {te : TypeId} {v : Value} {xs : List Value} {row : Option Nat} (h : Lst w te v xs) (hg : w.grownBy w' row) (hne : v.ownBlock = none ∨ v.ownBlock ≠ row) : Lst w' te v xs := ⟨h.1.kept hg hne, h.2⟩
theorem Lst.below {w w' : World} {te : TypeId} {v : Value} {xs : List Value} (h : Lst w te v xs) (hb : Below w.heap.size w w') : Lst w' te v xs := h.kept (grownBy_below (row := none) hb) (by cases hv : v.ownBlock <;> simp)

theorem own_below {w w' : World} {B n s : Nat} {e : TypeId} {v : Value} {xs : List Value} (h : w.ownsRow B e s v n xs) (hb : Below w.heap.size w w') : w'.ownsRow B e s v n xs := h.kept (grownBy_below (row := none) hb) (by cases hv : v.ownBlock <;> simp)
theorem info8 : (Tryz.prog.info? 5).map (fun i => (i.zero, i.size, i.bytes)) = some (some (.int .u8 0), 1, 1) := by kernel_rfl
def bytesV (l : List UInt8) : List Value := l.map fun b => .int .u8 (b.toNat : Int)
theorem bytesV_len (l : List UInt8) : (bytesV l).length = l.length := by simp [bytesV]
theorem conv_bytes (s : ByteArray) (w : World) : ∃ W2 cap, (convert 9 60 (.string s)).run Tryz.prog w = .ok (.slice (some ⟨w.heap.size, 0, none⟩) s.size cap) W2 ∧
    (∀ j c, s.data.toList[j]? = some c → W2.cell? ⟨w.heap.size, j, none⟩ = some (.int .u8 (c.toNat : Int))) ∧ Below w.heap.size w W2 ∧ s.size ≤ cap ∧ ∃ C fr, W2.heap[w.heap.size]? = some (.cells C 5 fr) ∧ fr ≠ (0, 0) := by
  refine ⟨_, _, run_bytes_of_string w 9 60 5 s Tryz.underlying9 Tryz.underlying60 Tryz.underlying5, fun j c hj => ?_, ?_, grownCap_ge _ _ _ _, _, _, heap_alloc_new w.drew _, by simp⟩
  · have hl : j < s.data.size := by
      have := (List.getElem?_eq_some_iff.1 hj).1
      simpa using this
    have hc : c = s.data[j] := by
      have := (List.getElem?_eq_some_iff.1 hj).2
      rw [← this]; simp
    have hh : (w.drew.alloc (.cells (bytesRow s (grownCap w s.size 0 5)) 5 ((bytesRow s (grownCap w s.size 0 5)).size, (bytesRow s (grownCap w s.size 0 5)).size + 1))).heap[w.heap.size]? = some (.cells (bytesRow s (grownCap w s.size 0 5)) 5 ((bytesRow s (grownCap w s.size 0 5)).size, (bytesRow s (grownCap w s.size 0 5)).size + 1)) := heap_alloc_new w.drew _
    simp only [World.cell?, hh]
    rw [hc]
    simpa using bytesRow_at s _ j hl
  · exact (drew_below w).trans (alloc_below w.drew _)
theorem own_ne_fr {w : World} {B g n s : Nat} {v : Value} {xs : List Value} {e e' : TypeId} {c : Array Value} {fr : Nat × Nat} (h : w.ownsRow B e s v n xs) (hg : w.heap[g]? = some (.cells c e' fr)) (hf : fr ≠ (0, 0)) : v.ownBlock ≠ some g := by
  rcases h.2 with ⟨rfl, _⟩ | ⟨g', cap, cur, rfl, _, hh, _⟩
  · simp [Value.ownBlock]
  · intro h
    simp [Value.ownBlock] at h
    subst h
    rw [hh] at hg
    simp at hg
    exact hf hg.2.2.symm
theorem conv_back {w : World} {B n : Nat} {v : Value} {l : List UInt8} (h : w.ownsRow B 5 1 v n (bytesV l)) : (convert 60 9 v).run Tryz.prog w = .ok (.string ⟨l.toArray⟩) w := by
  have hl := h.1
  rw [bytesV_len] at hl
  rcases h.2 with ⟨rfl, h0⟩ | ⟨g, cap, cur, rfl, _, hh, _⟩
  · have : l = [] := List.length_eq_zero_iff.1 (by omega)
    subst this
    exact run_convert_bytes_nil w _ _ Tryz.underlying60 Tryz.underlying5 _ _ _ Tryz.underlying9
  · have hn : n = l.length := by omega
    subst hn
    refine run_convert_bytes_back (P := Tryz.prog) w 60 9 5 ⟨g, 0, none⟩ cap l Tryz.underlying60 Tryz.underlying5 Tryz.underlying9 (fun j hj => ?_)
    exact h.cells rfl j _ (by simp [bytesV, hj])
end Go.Proofs.YtokkbipdkakenaaGreatDoor

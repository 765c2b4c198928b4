/- Layer 8: told. -/
import Derived.Test.YtfmhijaljlmgaaaYE
namespace Go.Proofs.Ytfmhijaljlmgaaa
open Go.RowKit

def sB (l : List UInt8) : ByteArray := ⟨l.toArray⟩
theorem sB_list (l : List UInt8) : (sB l).data.toList = l := by simp [sB]
def strS (l : List (List UInt8 × List UInt8)) : List Value := l.flatMap fun x => [.string (sB x.1), .string (sB x.2)]
theorem strS_len (l : List (List UInt8 × List UInt8)) : (strS l).length = l.length * 2 := by
  induction l with
  | nil => rfl
  | cons x l ih => simp [strS] at ih ⊢; omega
theorem strS_app (a b : List (List UInt8 × List UInt8)) : strS (a ++ b) = strS a ++ strS b := by simp [strS]
theorem strS_one (l : List (List UInt8 × List UInt8)) : ∀ u ∈ strS l, u.oneCell' = true := by
  intro u hu
  simp only [strS, List.mem_flatMap] at hu
  obtain ⟨x, _, hx⟩ := hu
  simp at hx
  rcases hx with rfl | rfl <;> rfl
theorem strS_at {l : List (List UInt8 × List UInt8)} {j : Nat} {x : List UInt8 × List UInt8} (h : l[j]? = some x) : (strS l)[j * 2]? = some (.string (sB x.1)) ∧ (strS l)[j * 2 + 1]? = some (.string (sB x.2)) := by
  induction l generalizing j with
  | nil => simp at h
  | cons y l ih =>
    cases j with
    | zero => simp at h; subst h; exact ⟨rfl, rfl⟩
    | succ j =>
      simp at h
      obtain ⟨h1, h2⟩ := ih h
      rw [show (j + 1) * 2 = j * 2 + 2 by omega]
      exact ⟨h1, h2⟩
def OwnS (w : World) (B : Nat) (v : Value) (l : List (List UInt8 × List UInt8)) : Prop := w.ownsRow B 34 2 v l.length (strS l) ∧ ∃ A cap, v = .slice A l.length cap ∧ l.length ≤ cap
def RdS (w : World) (B : Nat) (A : Option Addr) (l : List (List UInt8 × List UInt8)) : Prop := l ≠ [] → ∃ b o, A = some ⟨b, o, none⟩ ∧ b < B ∧ ∀ j x, l[j]? = some x → w.cell? ⟨b, o + j * 2, none⟩ = some (.string (sB x.1)) ∧ w.cell? ⟨b, o + j * 2 + 1, none⟩ = some (.string (sB x.2))
theorem RdS.below {w w' : World} {B C : Nat} {A : Option Addr} {l : List (List UInt8 × List UInt8)} (h : RdS w B A l) (hb : Below C w w') (hC : B ≤ C) : RdS w' B A l := fun hn => by
  obtain ⟨b, o, e, hlt, hc⟩ := h hn
  have hcell : ∀ j, w'.cell? ⟨b, j, none⟩ = w.cell? ⟨b, j, none⟩ := fun j => World.cell?_of_block (hb.block b (by omega))
  refine ⟨b, o, e, hlt, fun j x hj => ?_⟩
  rw [hcell, hcell]
  exact hc j x hj
theorem RdS.more {w : World} {B C : Nat} {A : Option Addr} {l : List (List UInt8 × List UInt8)} (h : RdS w B A l) (hC : B ≤ C) : RdS w C A l := fun hn => by
  obtain ⟨b, o, e, hlt, hc⟩ := h hn
  exact ⟨b, o, e, by omega, hc⟩
theorem OwnS.below {w w' : World} {B : Nat} {v : Value} {l : List (List UInt8 × List UInt8)} (h : OwnS w B v l) (hb : Below w.heap.size w w') : OwnS w' B v l := ⟨own_below h.1 hb, h.2⟩
theorem OwnS.of_row {w : World} {B n : Nat} {v : Value} {l : List (List UInt8 × List UInt8)} (h : w.ownsRow B 34 2 v n (strS l)) : OwnS w B v l := by
  obtain ⟨hl, hc⟩ := h
  have hn : n = l.length := by rw [strS_len] at hl; omega
  subst hn
  refine ⟨⟨hl, hc⟩, ?_⟩
  rcases hc with ⟨rfl, h0⟩ | ⟨g, cap, cur, rfl, _, _, hnc, _⟩
  · exact ⟨none, 0, by rw [h0], by omega⟩
  · exact ⟨_, _, rfl, hnc⟩
theorem OwnS.nil (w : World) (B : Nat) : OwnS w B (.slice none 0 0) [] := OwnS.of_row (n := 0) ⟨by simp [strS], .inl ⟨rfl, rfl⟩⟩
theorem OwnS.ge {w : World} {B : Nat} {v : Value} {l : List (List UInt8 × List UInt8)} (h : OwnS w B v l) : ∀ k, v.ownBlock = some k → B ≤ k := by
  intro k hk
  rcases h.1.2 with ⟨rfl, _⟩ | ⟨g, cap, cur, rfl, hB, _⟩
  · simp [Value.ownBlock] at hk
  · simp [Value.ownBlock] at hk; omega
theorem OwnS.rd {w : World} {B : Nat} {A : Option Addr} {n cap : Nat} {l : List (List UInt8 × List UInt8)} (h : OwnS w B (.slice A n cap) l) : RdS w w.heap.size A l := fun hn => by
  rcases h.1.2 with ⟨e, h0⟩ | ⟨g, cap', cur, e, hB, hh, hnc, hc, hsz, htk⟩
  · exact absurd (List.length_eq_zero_iff.1 (by rw [← h0])) hn
  · injection e with e1 e2 e3
    subst e1
    have hcell : ∀ j u, (strS l)[j]? = some u → w.cell? ⟨g, 0 + j, none⟩ = some u := fun j u hu => by
      rw [cell_of_row w g _ cur _ (0, 0) hh]
      rw [← htk, List.getElem?_take] at hu
      split at hu
      · simpa using hu
      · cases hu
    refine ⟨g, 0, rfl, (Array.getElem?_eq_some_iff.1 hh).1, fun j x hj => ?_⟩
    obtain ⟨h1, h2⟩ := strS_at hj
    exact ⟨hcell _ _ h1, by rw [Nat.add_assoc]; exact hcell _ _ h2⟩
theorem infoS : (Try.prog.info? 34).map (fun i => (i.zero, i.size, i.bytes)) = some (some (.agg #[.string ⟨#[]⟩, .string ⟨#[]⟩]), 2, 32) := by kernel_rfl
/-- append of one entry that lies in a block of its own -/
theorem run_appendS {w : World} (t ty : TypeId) {B : Nat} (ht : Try.prog.underlying t = some (.slice 34))
    {v : Value} {xs : List (List UInt8 × List UInt8)} (hown : OwnS w B v xs) {b c : Nat} {x : List UInt8 × List UInt8} (h0 : w.cell? ⟨b, 0, none⟩ = some (.string (sB x.1))) (h1 : w.cell? ⟨b, 1, none⟩ = some (.string (sB x.2))) (h63 : xs.length ≤ 1000000) (hbase : B ≤ w.heap.size) :
    ∃ v' w', (Builtin.append_ #[t, t] ty #[v, .slice (some ⟨b, 0, none⟩) 1 c]).run Try.prog w = .ok v' w' ∧ OwnS w' B v' (xs ++ [x]) ∧ Grew w v w' v' := by
  obtain ⟨i0, hi, hz, hs, hb⟩ := info_parts infoS
  have hcells : ∀ j u, (strS [x])[j]? = some u → w.cell? ((⟨b, 0, none⟩ : Addr).add j) = some u := by
    intro j u hu
    rw [Addr.add_lit, Nat.zero_add]
    match j with
    | 0 => simp [strS] at hu; subst hu; exact h0
    | 1 => simp [strS] at hu; subst hu; exact h1
    | j + 2 => simp [strS] at hu
  obtain ⟨v', w', hrun, h2, h3, _, h5⟩ := run_append_own_at (P := Try.prog) w B t ty 34 i0 (.agg #[.string ⟨#[]⟩, .string ⟨#[]⟩]) 2 32 ht hi hz hs hb rfl (by omega) v xs.length (strS xs) hown.1 ⟨b, 0, none⟩ 1 c (strS [x]) (by simp [strS]) hcells (strS_one [x]) (by unfold maxLen; omega) (by omega) hbase
  rw [← strS_app] at h2
  exact ⟨v', w', hrun, OwnS.of_row h2, grew_of h3 h5⟩
theorem step_appS {w : World} {ops : Array Oper} {o : Oper} {a : Act} {K : Act → World → Prop} {Q : Exit → Act → World → Prop} {E : Prop} (hgd : o.guard = none) (s x : Operand) (t : TypeId) (ho : o.op = .call { callee := .builtin .append, args := #[s, x], argTypes := #[t, t] })
    {B : Nat} (ht : Try.prog.underlying t = some (.slice 34))
    {v : Value} {xs : List (List UInt8 × List UInt8)} (hv : a.eval s = v) (hown : OwnS w B v xs) {b c : Nat} {y : List UInt8 × List UInt8} (hx : a.eval x = .slice (some ⟨b, 0, none⟩) 1 c) (h0 : w.cell? ⟨b, 0, none⟩ = some (.string (sB y.1))) (h1 : w.cell? ⟨b, 1, none⟩ = some (.string (sB y.2))) (h63 : xs.length ≤ 1000000) (hbase : B ≤ w.heap.size)
    (h : ∀ v' w', OwnS w' B v' (xs ++ [y]) → Grew w v w' v' → K (a.put o.dst v') w') : if Region.wanted o (yielded ops a.tmps) = true then Oper.wp Try.prog o a w K Q else E := by
  have hw : Region.wanted o (yielded ops a.tmps) = true := by simp [Region.wanted, hgd]
  rw [if_pos hw]
  obtain ⟨v', w', hrun, h2, h3⟩ := run_appendS t o.type ht hown (c := c) h0 h1 h63 hbase
  unfold Oper.wp execOp
  simp only [ho, resolve, invoke, builtin, Sem.run_bind, Sem.run_pure, Result.andThen_ok, List.map_toArray, List.map_cons, List.map_nil, hv, hx, hrun]
  exact h v' w' h2 h3
/-- entries that can be read, their bytes too -/
structure RdL (W : World) (A : Option Addr) (es : List Ent) : Prop where
  cells : RdC W W.heap.size A (entV es)
  key : ∀ e ∈ es, RdB W W.heap.size e.kA e.k
  row : ∀ e ∈ es, RdB W W.heap.size e.rA e.r
theorem RdL.below {w w' : World} {A : Option Addr} {es : List Ent} (h : RdL w A es) (hb : Below w.heap.size w w') : RdL w' A es :=
  ⟨(h.cells.below hb (Nat.le_refl _)).more hb.size, fun e he => ((h.key e he).below hb (Nat.le_refl _)).more hb.size, fun e he => ((h.row e he).below hb (Nat.le_refl _)).more hb.size⟩
theorem RdL.at_ {W W' : World} {A : Option Addr} {es : List Ent} {i : Nat} {e : Ent} (h : RdL W A es) (he : es[i]? = some e) (hb : Below W.heap.size W W') : ∃ b o, A = some ⟨b, o, none⟩ ∧ W'.cell? ⟨b, o + i * 2, none⟩ = some (.slice e.kA e.k.length e.kc) ∧ W'.cell? ⟨b, o + i * 2 + 1, none⟩ = some (.slice e.rA e.r.length e.rc) := by
  obtain ⟨c1, c2⟩ := entV_at he
  obtain ⟨b, o, hA, hlt, hc⟩ := (h.below hb).cells (fun e0 => by rw [e0] at c1; simp at c1)
  exact ⟨b, o, hA, hc _ _ c1, by rw [Nat.add_assoc]; exact hc _ _ c2⟩
def ToT (w : World) (R : List (List UInt8 × List UInt8)) (e : Ending) (w' : World) : Prop := ∃ v, e = .returned v ∧ OwnS w' w.heap.size v R ∧ Below w.heap.size w w'
def ToL (w : World) (es : List Ent) (v3 v4 : Value) (wr : World) : Prop := ∃ (i : Nat) (y : Value), y = v3 ∧ v4 = .int .i64 i ∧ i ≤ es.length ∧ OwnS wr w.heap.size y (kv (es.take i)) ∧ Below w.heap.size w wr
set_option maxRecDepth 100000 in
set_option maxHeartbeats 8000000 in
theorem told_any (es : List Ent) (A : Option Addr) (n cap : Nat) (hn : es.length = n) (hn2 : n ≤ 1000) (w : World) (hr : RdL w A es) : Calls Try.prog 15 #[.slice A n cap] w (ToT w (kv es)) := by
  have HR := Lib.hid hr
  have HN := Lib.hid hn
  have hni : (n : Int) ≤ 1000 := by omega
  have HST : Hid (ToL w es (.slice none 0 0) (.int .i64 0) w) := Lib.hid ⟨0, _, rfl, rfl, Nat.zero_le _, OwnS.nil _ _, Below.refl _ _⟩
  clear hr hn
  go_enter Try.func15, Try.ntmps15
  go_wp2_with fail
  go_loopw [3, 4] (fun v3 v4 wr => ToL w es v3 v4 wr) (fun _ v4 _ => n - (intOf v4).toNat)
  case atStart => exact HST.out
  case round =>
    obtain ⟨i, y, rfl, rfl, hi, ho, hb⟩ := hrel
    have HO := Lib.hid ho
    have HB := Lib.hid hb
    have hi' : i ≤ n := by rw [← HN.out]; exact hi
    clear ho hb hi
    by_cases hlt : i < n
    · have hlti : (i : Int) < (n : Int) := by omega
      obtain ⟨x, hx⟩ : ∃ x, es[i]? = some x := ⟨_, List.getElem?_eq_getElem (by rw [HN.out]; exact hlt)⟩
      have hbd := HB.out.trans ((drew_below wr).mono HB.out.size)
      obtain ⟨b, o, hA, c0, c1⟩ := HR.out.at_ hx hbd
      subst hA
      have cv0 := conv_rd (n := x.k.length) (cap := x.kc) (((HR.out.below hbd).key x (List.mem_of_getElem? hx))) rfl (sB x.k) (sB_list _)
      have cv1 := conv_rd (n := x.r.length) (cap := x.rc) (((HR.out.below hbd).row x (List.mem_of_getElem? hx))) rfl (sB x.r) (sB_list _)
      have HM : Hid ((kv (es.take i)).length ≤ 1000000) := Lib.hid (by simp [kv]; omega)
      have HNX : Hid (∀ v6 w6, OwnS w6 w.heap.size v6 (kv (es.take i) ++ [(x.k, x.r)]) → Grew ((wr.alloc (.cells #[.string (sB x.k), .string (sB x.r)] 34)).drew) y w6 v6 → Below w.heap.size w w6 ∧ ∀ v4, v4 = .int .i64 ((i + 1 : Nat) : Int) → ToL w es v6 v4 w6) := Lib.hid fun v6 w6 ho hg => ⟨by
        have h1 := HB.out.trans (((alloc_below wr (.cells #[.string (sB x.k), .string (sB x.r)] 34)).trans ((drew_below _).mono (alloc_below wr _).size)).mono HB.out.size)
        exact h1.trans (hg.toBelow h1.size HO.out.ge), fun v4 h4 => ⟨i + 1, v6, rfl, h4, by rw [HN.out]; exact hlt, by
        have e : kv (es.take (i + 1)) = kv (es.take i) ++ [(x.k, x.r)] := by rw [List.take_add_one, hx, Option.toList_some]; simp [kv]
        rw [e]; exact ho, by
        have h1 := HB.out.trans (((alloc_below wr (.cells #[.string (sB x.k), .string (sB x.r)] 34)).trans ((drew_below _).mono (alloc_below wr _).size)).mono HB.out.size)
        exact h1.trans (hg.toBelow h1.size HO.out.ge)⟩⟩
      obtain ⟨kn, hkn⟩ : ∃ kn, x.k.length = kn := ⟨_, rfl⟩
      obtain ⟨rn, hrn⟩ : ∃ rn, x.r.length = rn := ⟨_, rfl⟩
      rw [hkn] at c0 cv0
      rw [hrn] at c1 cv1
      have hi0 : 0 ≤ (i : Int) := by omega
      have HSS : Hid (∀ W, Below w.heap.size w W → (fun W => W.cell? ⟨b, o + i * 2, none⟩ = some (.slice x.kA kn x.kc) ∧ W.cell? ⟨b, o + i * 2 + 1, none⟩ = some (.slice x.rA rn x.rc) ∧ (convert 23 9 (.slice x.kA kn x.kc)).run Try.prog W = .ok (.string (sB x.k)) W ∧ (convert 23 9 (.slice x.rA rn x.rc)).run Try.prog W = .ok (.string (sB x.r)) W) W) := Lib.hid fun W hbW => by
        obtain ⟨b2, o2, hA2, e0, e1⟩ := HR.out.at_ hx hbW
        injection hA2 with hA2
        injection hA2 with hA2 hA3
        subst hA2 hA3
        rw [hkn] at e0
        rw [hrn] at e1
        exact ⟨e0, e1, conv_rd ((HR.out.below hbW).key x (List.mem_of_getElem? hx)) hkn (sB x.k) (sB_list _), conv_rd ((HR.out.below hbW).row x (List.mem_of_getElem? hx)) hrn (sB x.r) (sB_list _)⟩
      have HBA : Hid (Below w.heap.size w ((wr.alloc (.cells #[.string (sB x.k), .string (sB x.r)] 34)).drew)) := Lib.hid (HB.out.trans (((alloc_below wr _).trans ((drew_below _).mono (alloc_below wr _).size)).mono HB.out.size))
      have HOA : Hid (OwnS ((wr.alloc (.cells #[.string (sB x.k), .string (sB x.r)] 34)).drew) w.heap.size y (kv (es.take i))) := Lib.hid (HO.out.below ((alloc_below wr _).trans ((drew_below _).mono (alloc_below wr _).size)))
      have HC0 : Hid (((wr.alloc (.cells #[.string (sB x.k), .string (sB x.r)] 34)).drew).cell? ⟨wr.heap.size, 0, none⟩ = some (.string (sB x.k))) := Lib.hid (box2 (((drew_below _).block _ (by simp)).trans (heap_alloc_new wr _))).1
      have HC1 : Hid (((wr.alloc (.cells #[.string (sB x.k), .string (sB x.r)] 34)).drew).cell? ⟨wr.heap.size, 1, none⟩ = some (.string (sB x.r))) := Lib.hid (box2 (((drew_below _).block _ (by simp)).trans (heap_alloc_new wr _))).2
      clear hx hlt hi' hkn hrn hbd
      go_wp2_with fail
      have hSS : (fun W => W.cell? ⟨b, o + i * 2, none⟩ = some (.slice x.kA kn x.kc) ∧ W.cell? ⟨b, o + i * 2 + 1, none⟩ = some (.slice x.rA rn x.rc) ∧ (convert 23 9 (.slice x.kA kn x.kc)).run Try.prog W = .ok (.string (sB x.k)) W ∧ (convert 23 9 (.slice x.rA rn x.rc)).run Try.prog W = .ok (.string (sB x.r)) W) wr.drew := ⟨c0, c1, cv0, cv1⟩
      refine wp_region_held_drew (S := (fun W => W.cell? ⟨b, o + i * 2, none⟩ = some (.slice x.kA kn x.kc) ∧ W.cell? ⟨b, o + i * 2 + 1, none⟩ = some (.slice x.rA rn x.rc) ∧ (convert 23 9 (.slice x.kA kn x.kc)).run Try.prog W = .ok (.string (sB x.k)) W ∧ (convert 23 9 (.slice x.rA rn x.rc)).run Try.prog W = .ok (.string (sB x.r)) W)) (by kernel_rfl) hSS (fun _ => ?_)
      refine wpAnyH_take (i := 0) (oi := ({ dst := some 11, op := Go.Op.move (Go.Operand.tmp 3), type := 29, pos := "law.go:38", after := #[], guard := none } : Oper)) (v := ?v0x1) rfl (by kernel_rfl) (by kernel_rfl) (by kernel_rfl) (fun _ _ _ h => h) (Or.inl ⟨by rfl, ?hy0x1⟩) hSS ?rest0x1
      case hy0x1 =>
        intro W0 hSw
        obtain ⟨s1, s2, s3, s4⟩ := hSw
        go_simp
        first | done | with_reducible rfl
      try simp only [Act.put, List.setIfInBounds_toArray, List.set_cons_zero, List.set_cons_succ]
      refine wpAnyH_take (i := 1) (oi := ({ dst := some 12, op := Go.Op.move (Go.Operand.tmp 0), type := 40, pos := "law.go:38", after := #[], guard := none } : Oper)) (v := ?v1x2) rfl (by kernel_rfl) (by kernel_rfl) (by kernel_rfl) (fun _ _ _ h => h) (Or.inl ⟨by rfl, ?hy1x2⟩) hSS ?rest1x2
      case hy1x2 =>
        intro W0 hSw
        obtain ⟨s1, s2, s3, s4⟩ := hSw
        go_simp
        first | done | with_reducible rfl
      try simp only [Act.put, List.setIfInBounds_toArray, List.set_cons_zero, List.set_cons_succ]
      refine wpAnyH_take (i := 2) (oi := ({ dst := some 13, op := Go.Op.move (Go.Operand.tmp 4), type := 3, pos := "law.go:38", after := #[], guard := none } : Oper)) (v := ?v2x3) rfl (by kernel_rfl) (by kernel_rfl) (by kernel_rfl) (fun _ _ _ h => h) (Or.inl ⟨by rfl, ?hy2x3⟩) hSS ?rest2x3
      case hy2x3 =>
        intro W0 hSw
        obtain ⟨s1, s2, s3, s4⟩ := hSw
        go_simp
        first | done | with_reducible rfl
      try simp only [Act.put, List.setIfInBounds_toArray, List.set_cons_zero, List.set_cons_succ]
      refine wpAnyH_take (i := 3) (oi := ({ dst := some 14, op := Go.Op.indexAddr 40 (Go.Operand.tmp 12) (Go.Operand.tmp 13), type := 0, pos := "law.go:38", after := #[{ on := 1, ground := Go.Ground.data }, { on := 2, ground := Go.Ground.data }], guard := none } : Oper)) (v := ?v3x4) rfl (by kernel_rfl) (by kernel_rfl) (by kernel_rfl) (fun _ _ _ h => h) (Or.inl ⟨by rfl, ?hy3x4⟩) hSS ?rest3x4
      case hy3x4 =>
        intro W0 hSw
        obtain ⟨s1, s2, s3, s4⟩ := hSw
        go_simp
        first | done | with_reducible rfl
      try simp only [Act.put, List.setIfInBounds_toArray, List.set_cons_zero, List.set_cons_succ]
      refine wpAnyH_take (i := 4) (oi := ({ dst := some 15, op := Go.Op.fieldAddr 46 (Go.Operand.tmp 14) 0, type := 0, pos := "law.go:38", after := #[{ on := 3, ground := Go.Ground.data }], guard := none } : Oper)) (v := ?v4x5) rfl (by kernel_rfl) (by kernel_rfl) (by kernel_rfl) (fun _ _ _ h => h) (Or.inl ⟨by rfl, ?hy4x5⟩) hSS ?rest4x5
      case hy4x5 =>
        intro W0 hSw
        obtain ⟨s1, s2, s3, s4⟩ := hSw
        go_simp
        first | done | with_reducible rfl
      try simp only [Act.put, List.setIfInBounds_toArray, List.set_cons_zero, List.set_cons_succ]
      refine wpAnyH_take (i := 5) (oi := ({ dst := some 16, op := Go.Op.load 23 (Go.Operand.tmp 15), type := 23, pos := "law.go:38", after := #[{ on := 4, ground := Go.Ground.data }], guard := none } : Oper)) (v := ?v5x6) rfl (by kernel_rfl) (by kernel_rfl) (by kernel_rfl) (fun _ _ _ h => h) (Or.inl ⟨by rfl, ?hy5x6⟩) hSS ?rest5x6
      case hy5x6 =>
        intro W0 hSw
        obtain ⟨s1, s2, s3, s4⟩ := hSw
        go_simp
        first | done | with_reducible rfl
      try simp only [Act.put, List.setIfInBounds_toArray, List.set_cons_zero, List.set_cons_succ]
      refine wpAnyH_take (i := 6) (oi := ({ dst := some 17, op := Go.Op.convert 23 9 (Go.Operand.tmp 16), type := 9, pos := "law.go:38", after := #[{ on := 5, ground := Go.Ground.data }], guard := none } : Oper)) (v := ?v6x7) rfl (by kernel_rfl) (by kernel_rfl) (by kernel_rfl) (fun _ _ _ h => h) (Or.inl ⟨by rfl, ?hy6x7⟩) hSS ?rest6x7
      case hy6x7 =>
        intro W0 hSw
        obtain ⟨s1, s2, s3, s4⟩ := hSw
        go_simp
        first | done | with_reducible rfl
      try simp only [Act.put, List.setIfInBounds_toArray, List.set_cons_zero, List.set_cons_succ]
      refine wpAnyH_take (i := 7) (oi := ({ dst := some 18, op := Go.Op.move (Go.Operand.tmp 0), type := 40, pos := "law.go:38", after := #[], guard := none } : Oper)) (v := ?v7x8) rfl (by kernel_rfl) (by kernel_rfl) (by kernel_rfl) (fun _ _ _ h => h) (Or.inl ⟨by rfl, ?hy7x8⟩) hSS ?rest7x8
      case hy7x8 =>
        intro W0 hSw
        obtain ⟨s1, s2, s3, s4⟩ := hSw
        go_simp
        first | done | with_reducible rfl
      try simp only [Act.put, List.setIfInBounds_toArray, List.set_cons_zero, List.set_cons_succ]
      refine wpAnyH_take (i := 8) (oi := ({ dst := some 19, op := Go.Op.move (Go.Operand.tmp 4), type := 3, pos := "law.go:38", after := #[], guard := none } : Oper)) (v := ?v8x9) rfl (by kernel_rfl) (by kernel_rfl) (by kernel_rfl) (fun _ _ _ h => h) (Or.inl ⟨by rfl, ?hy8x9⟩) hSS ?rest8x9
      case hy8x9 =>
        intro W0 hSw
        obtain ⟨s1, s2, s3, s4⟩ := hSw
        go_simp
        first | done | with_reducible rfl
      try simp only [Act.put, List.setIfInBounds_toArray, List.set_cons_zero, List.set_cons_succ]
      refine wpAnyH_take (i := 9) (oi := ({ dst := some 20, op := Go.Op.indexAddr 40 (Go.Operand.tmp 18) (Go.Operand.tmp 19), type := 0, pos := "law.go:38", after := #[{ on := 7, ground := Go.Ground.data }, { on := 8, ground := Go.Ground.data }], guard := none } : Oper)) (v := ?v9x10) rfl (by kernel_rfl) (by kernel_rfl) (by kernel_rfl) (fun _ _ _ h => h) (Or.inl ⟨by rfl, ?hy9x10⟩) hSS ?rest9x10
      case hy9x10 =>
        intro W0 hSw
        obtain ⟨s1, s2, s3, s4⟩ := hSw
        go_simp
        first | done | with_reducible rfl
      try simp only [Act.put, List.setIfInBounds_toArray, List.set_cons_zero, List.set_cons_succ]
      refine wpAnyH_take (i := 10) (oi := ({ dst := some 21, op := Go.Op.fieldAddr 46 (Go.Operand.tmp 20) 1, type := 0, pos := "law.go:38", after := #[{ on := 9, ground := Go.Ground.data }], guard := none } : Oper)) (v := ?v10x11) rfl (by kernel_rfl) (by kernel_rfl) (by kernel_rfl) (fun _ _ _ h => h) (Or.inl ⟨by rfl, ?hy10x11⟩) hSS ?rest10x11
      case hy10x11 =>
        intro W0 hSw
        obtain ⟨s1, s2, s3, s4⟩ := hSw
        go_simp
        first | done | with_reducible rfl
      try simp only [Act.put, List.setIfInBounds_toArray, List.set_cons_zero, List.set_cons_succ]
      refine wpAnyH_take (i := 11) (oi := ({ dst := some 22, op := Go.Op.load 23 (Go.Operand.tmp 21), type := 23, pos := "law.go:38", after := #[{ on := 10, ground := Go.Ground.data }], guard := none } : Oper)) (v := ?v11x12) rfl (by kernel_rfl) (by kernel_rfl) (by kernel_rfl) (fun _ _ _ h => h) (Or.inl ⟨by rfl, ?hy11x12⟩) hSS ?rest11x12
      case hy11x12 =>
        intro W0 hSw
        obtain ⟨s1, s2, s3, s4⟩ := hSw
        go_simp
        first | done | with_reducible rfl
      try simp only [Act.put, List.setIfInBounds_toArray, List.set_cons_zero, List.set_cons_succ]
      refine wpAnyH_take (i := 12) (oi := ({ dst := some 23, op := Go.Op.convert 23 9 (Go.Operand.tmp 22), type := 9, pos := "law.go:38", after := #[{ on := 11, ground := Go.Ground.data }], guard := none } : Oper)) (v := ?v12x13) rfl (by kernel_rfl) (by kernel_rfl) (by kernel_rfl) (fun _ _ _ h => h) (Or.inl ⟨by rfl, ?hy12x13⟩) hSS ?rest12x13
      case hy12x13 =>
        intro W0 hSw
        obtain ⟨s1, s2, s3, s4⟩ := hSw
        go_simp
        first | done | with_reducible rfl
      try simp only [Act.put, List.setIfInBounds_toArray, List.set_cons_zero, List.set_cons_succ]
      refine wpAnyH_take (i := 13) (oi := ({ dst := some 24, op := Go.Op.build 34 #[(0, Go.Operand.tmp 17), (1, Go.Operand.tmp 23)], type := 34, pos := "law.go:38", after := #[{ on := 6, ground := Go.Ground.data }, { on := 12, ground := Go.Ground.data }], guard := none } : Oper)) (v := ?v13x14) rfl (by kernel_rfl) (by kernel_rfl) (by kernel_rfl) (fun _ _ _ h => h) (Or.inl ⟨by rfl, ?hy13x14⟩) hSS ?rest13x14
      case hy13x14 =>
        intro W0 hSw
        obtain ⟨s1, s2, s3, s4⟩ := hSw
        go_simp
        first | done | with_reducible rfl
      try simp only [Act.put, List.setIfInBounds_toArray, List.set_cons_zero, List.set_cons_succ]
      refine wpAnyH_ready (rs := [14]) (by kernel_rfl) (by simp) ?_
      refine AllReadyH.cons (o := ({ dst := some 25, op := Go.Op.buildSlice 29 1 #[(0, Go.Operand.tmp 24)], type := 29, pos := "law.go:38", after := #[{ on := 13, ground := Go.Ground.data }], guard := none } : Oper)) rfl (fun K0 hK0 => ?_) AllReadyH.nil
      go_simp
      refine hK0.out _ _ (HSS.out _ HBA.out) (fun _ => ?_)
      clear hK0 K0
      try simp only [Act.put, List.setIfInBounds_toArray, List.set_cons_zero, List.set_cons_succ]
      refine wpAnyH_ready (rs := [15]) (by kernel_rfl) (by simp) ?_
      refine AllReadyH.cons (o := ({ dst := some 26, op := Go.Op.call { callee := Go.Callee.builtin Go.Builtin.append, args := #[Go.Operand.tmp 11, Go.Operand.tmp 25], argTypes := #[29, 29] }, type := 29, pos := "law.go:38", after := #[{ on := 0, ground := Go.Ground.data }, { on := 14, ground := Go.Ground.data }], guard := none } : Oper)) rfl (fun K0 hK0 => ?_) AllReadyH.nil
      refine step_appS (xs := kv (es.take i)) (y := (x.k, x.r)) (B := w.heap.size) rfl _ _ 29 rfl Try.underlying29 rfl HOA.out rfl HC0.out HC1.out HM.out HBA.out.size ?_
      intro v6 w6 ho6 hg6
      obtain ⟨hb6, hz6⟩ := HNX.out v6 w6 ho6 hg6
      have HZ := Lib.hid hz6
      refine hK0.out _ _ (HSS.out _ hb6) (fun _ => ?_)
      clear hK0 K0
      have hSS := HSS.out _ hb6
      clear ho6 hg6 hb6 hz6
      try simp only [Act.put, List.setIfInBounds_toArray, List.set_cons_zero, List.set_cons_succ]
      refine wpAnyH_take (i := 16) (oi := ({ dst := some 3, op := Go.Op.assign (Go.Operand.tmp 26), type := 29, pos := "law.go:38", after := #[{ on := 15, ground := Go.Ground.data }, { on := 15, ground := Go.Ground.chain }, { on := 0, ground := Go.Ground.phase }, { on := 1, ground := Go.Ground.phase }, { on := 2, ground := Go.Ground.phase }, { on := 3, ground := Go.Ground.phase }, { on := 4, ground := Go.Ground.phase }, { on := 5, ground := Go.Ground.phase }, { on := 6, ground := Go.Ground.phase }, { on := 7, ground := Go.Ground.phase }, { on := 8, ground := Go.Ground.phase }, { on := 9, ground := Go.Ground.phase }, { on := 10, ground := Go.Ground.phase }, { on := 11, ground := Go.Ground.phase }, { on := 12, ground := Go.Ground.phase }, { on := 13, ground := Go.Ground.phase }, { on := 14, ground := Go.Ground.phase }, { on := 15, ground := Go.Ground.phase }], guard := none } : Oper)) (v := ?v16x15) rfl (by kernel_rfl) (by kernel_rfl) (by kernel_rfl) (fun _ _ _ h => h) (Or.inl ⟨by rfl, ?hy16x15⟩) hSS ?rest16x15
      case hy16x15 =>
        intro W0 hSw
        obtain ⟨s1, s2, s3, s4⟩ := hSw
        go_simp
        first | done | with_reducible rfl
      try simp only [Act.put, List.setIfInBounds_toArray, List.set_cons_zero, List.set_cons_succ]
      refine wpAnyH_done (by kernel_rfl) ?_ _
      go_wp2_with fail
      go_roundw
      case rel => first | exact HZ.out _ (by go_num) | ((repeat apply Exists.intro); exact ⟨HZ.out _ (by go_num), rfl⟩)
      case measure => simp [intOf]; omega
    · have hie : i = n := by omega
      have HE : Hid (OwnS wr w.heap.size y (kv es)) := Lib.hid (by have h := HO.out; rw [List.take_of_length_le (by rw [HN.out]; omega)] at h; exact h)
      have hlti : ¬ (i : Int) < (n : Int) := by omega
      clear hlt hi' hie
      go_wp2_with fail
      go_ret
      exact ⟨_, rfl, HE.out, HB.out⟩
end Go.Proofs.Ytfmhijaljlmgaaa

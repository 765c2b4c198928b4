/- The document's Trim where it cuts; appends from whatever source. -/
import Derived.Test.YtgdofnbnahpedaaLI
namespace Go.Proofs.Ytgdofnbnahpedaa
open Go.RowKit

theorem RdB.only {K : Nat → Prop} {w w' : World} {A : Option Addr} {l : List UInt8} (h : RdB w w.heap.size A l) (hO : Only K w w') (hK : l ≠ [] → ∀ ad, A = some ad → ¬ K ad.block) : RdB w' w'.heap.size A l := fun hn => by
  obtain ⟨ad, e, hlt, hc⟩ := h hn
  have hs := hO.size
  refine ⟨ad, e, by omega, fun j c hj => ?_⟩
  exact (World.cell?_of_block (by rw [addr_add_block]; exact hO.block _ hlt (hK hn ad e))).trans (hc j c hj)
/-- an entry whose bytes lie in new blocks -/
def BEnt.fresh (x : BEnt) (n : Nat) : Prop := x.l ≠ [] → ∀ ad, x.A = some ad → n ≤ ad.block
theorem entsV_drop (l : List BEnt) (k : Nat) : entsV (l.drop k) = (entsV l).drop (k * 2) := by
  induction k generalizing l with
  | zero => simp
  | succ k ih => cases l with
    | nil => simp [entsV]
    | cons x l =>
      rw [show (k + 1) * 2 = k * 2 + 1 + 1 by omega]
      simp only [List.drop_succ_cons, entsV]
      exact ih l
theorem entsV_one (l : List BEnt) : ∀ u ∈ entsV l, u.oneCell' = true := by
  induction l with
  | nil => intro u hu; cases hu
  | cons x l ih =>
    intro u hu
    simp only [entsV, List.mem_cons] at hu
    rcases hu with rfl | rfl | hu
    · rfl
    · rfl
    · exact ih u hu
/-- what Trim answers where it cuts -/
def TrR (w : World) (B q p g d b e s : Nat) (X : List UInt8) (es : List BEnt) (en : Ending) (w' : World) : Prop := en = .returned (.int .i64 0) ∧ Rw w' B q p g d b e s X es ∧ Only (fun j => j = q ∨ j = p) w w'
theorem rw_cut {w w2 : World} {B q p g d b b' e s k cap : Nat} {A A' : Option Addr} {X : List UInt8} {es : List BEnt} (h : Rw w B q p g d b e s X es) (hk : k ≤ es.length) (hx : w.heap[q]? = some (.cells #[.pointer (some ⟨p, 0, none⟩), .slice A es.length cap] 58 (0, 0))) (hd : Mk w2 B p g b' e s X) (hO : Only (fun j => j = p) w w2) (hA : A' = if cap = k then A else A.map fun x => x.add (k * 2)) (n' c' : Nat) (hn : n' = es.length - k) (hc : c' = cap - k) :
    TrR w B q p g d b' e s X (es.drop k) (.returned (.int .i64 0)) (w2.setCell ⟨q, 1, none⟩ (.slice A' n' c')) := by
  subst hn hc
  have hne := h.ne
  have hlt := h.lt
  have hbox := h.box
  obtain ⟨A0, cap0, h1, h2⟩ := hbox
  rw [hx] at h1
  injection h1 with h1
  have e1 : A0 = A ∧ cap0 = cap := by
    simp at h1
    exact ⟨h1.1.symm, h1.2.symm⟩
  obtain ⟨rfl, rfl⟩ := e1
  have hq2 : w2.heap[q]? = some (.cells #[.pointer (some ⟨p, 0, none⟩), .slice A0 es.length cap0] 58 (0, 0)) := (hO.block q hlt hne.1).trans hx
  have hOs := Only.set w2 q 1 (.slice A' (es.length - k) (cap0 - k))
  have hO2 : Only (fun j => j = q ∨ j = p) w (w2.setCell ⟨q, 1, none⟩ (.slice A' (es.length - k) (cap0 - k))) := (hO.more (fun j _ e => .inr e)).trans (hOs.more (fun j _ e => .inl e)) (fun _ _ e => e)
  refine ⟨rfl, ⟨⟨A', cap0 - k, ?_, ?_⟩, hd.only hOs (fun e => hne.1 e.symm) (fun e => hne.2.1 e.symm), h.ge, h.ne, fun x hx2 => ?_⟩, hO2⟩
  · rw [List.length_drop]
    simp [World.setCell, Array.getElem?_modify, hq2]
  · rw [List.length_drop, entsV_drop, hA]
    exact (h2.dropped hk).only (by rw [← hA]; exact hO2) (fun hdq e => by rcases e with e | e; exact hdq e; exact hne.2.2.1 e)
  · obtain ⟨h3, h4⟩ := h.ents x (List.mem_of_mem_drop hx2)
    exact ⟨h3.only hO2 (fun hn ad e e2 => by have := h4 hn ad e; rcases e2 with e2 | e2 <;> omega), h4⟩
set_option maxRecDepth 100000 in
set_option maxHeartbeats 4000000 in
theorem rtrim_yes {w : World} {B q p g d b e s : Nat} {X : List UInt8} {es : List BEnt} (h : Rw w B q p g d b e s X es) (hl : es.length ≤ 1000000) (n k : Nat) (hk : trimAt es (e : Int) (n : Int) = (k : Int)) (hkl : k ≤ es.length) (hb : b ≤ n) (hs : n ≤ s) : Calls Try.prog 27 #[.pointer (some ⟨q, 0, none⟩), .int .i64 (n : Int)] w (TrR w B q p g d n e s X (es.drop k)) := by
  have HF := Lib.hid (rw_find h hl (n : Int))
  have HDY := Lib.hid (rdrop_yes h.disk n hb hs)
  have hne := h.ne
  have HQ := Lib.hid h.lt
  obtain ⟨A, cap, h1, h2⟩ := h.box
  have HZ := Lib.hid (fun w2 A' n' c' hd hO hA hn hc => rw_cut (w2 := w2) (A' := A') (b' := n) h hkl h1 hd hO hA n' c' hn hc)
  obtain ⟨_, _, e2, hcap, _⟩ := h2.slice
  injection e2 with e2 e3 e4
  subst e4
  have HX := Lib.hid h1
  obtain ⟨x0, x1⟩ := box2 h1
  obtain ⟨_, _, h3, _⟩ := h.disk.box
  obtain ⟨y0, y1, y2, y3⟩ := box4 h3
  obtain ⟨F, hF⟩ : ∃ F, F = findE es (n : Int) := ⟨_, rfl⟩
  unfold trimAt at hk
  rw [← hF] at HF hk
  have hli : (es.length : Int) ≤ 1000000 := by omega
  have hci : (es.length : Int) ≤ (cap : Int) := by omega
  have hkc : (k : Int) ≤ (es.length : Int) := by omega
  have hle : ¬ (es.length : Int) < 0 := by omega
  have HNE : Hid (q ≠ p) := Lib.hid hne.1
  clear hF h1 h2 h3 h y0 y1 y3 hl hne e2 e3 hb hs
  by_cases hf : F < 0
  · by_cases hne : (n : Int) = (e : Int)
    · rw [if_pos ⟨hf, hne⟩] at hk
      have hke : es.length = k := by omega
      subst hke
      obtain rfl : n = e := by omega
      clear hk hne hkl hkc
      by_cases hcc : cap = es.length
      · subst hcc
        go_enter Try.func27, Try.ntmps27
        go_wp2_with (first
          | (go_at_call 39; refine HF.out.mono ?_; rintro e w1 ⟨rfl, rfl⟩)
          | (go_at_call 78; refine HDY.out.mono ?_; rintro e w2 ⟨rfl, hd, hO⟩
             have hx2 := (hO.block q HQ.out HNE.out).trans HX.out
             obtain ⟨u0, u1⟩ := box2 hx2
             have z1 : w2.frozen? ⟨q, 1, none⟩ = false := by simp [World.frozen?, hx2]
             have HZ2 := Lib.hid (fun A' n' c' => HZ.out w2 A' n' c' hd hO)
             clear hd hO hx2))
        all_goals (go_ret; exact HZ2.out _ _ _ (by simp) (by simp) (by simp))
      · have hcci : ¬ (cap : Int) = (es.length : Int) := by omega
        go_enter Try.func27, Try.ntmps27
        go_wp2_with (first
          | (go_at_call 39; refine HF.out.mono ?_; rintro e w1 ⟨rfl, rfl⟩)
          | (go_at_call 78; refine HDY.out.mono ?_; rintro e w2 ⟨rfl, hd, hO⟩
             have hx2 := (hO.block q HQ.out HNE.out).trans HX.out
             obtain ⟨u0, u1⟩ := box2 hx2
             have z1 : w2.frozen? ⟨q, 1, none⟩ = false := by simp [World.frozen?, hx2]
             have HZ2 := Lib.hid (fun A' n' c' => HZ.out w2 A' n' c' hd hO)
             clear hd hO hx2))
        all_goals (go_ret; exact HZ2.out _ _ _ (by simp [hcc]) (by simp) (by simp))
    · rw [if_neg (fun hh => hne hh.2)] at hk
      omega
  · rw [if_neg (fun hh => hf hh.1)] at hk
    subst hk
    by_cases hcc : cap = k
    · subst hcc
      go_enter Try.func27, Try.ntmps27
      go_wp2_with (first
        | (go_at_call 39; refine HF.out.mono ?_; rintro e w1 ⟨rfl, rfl⟩)
        | (go_at_call 78; refine HDY.out.mono ?_; rintro e w2 ⟨rfl, hd, hO⟩
           have hx2 := (hO.block q HQ.out HNE.out).trans HX.out
           obtain ⟨u0, u1⟩ := box2 hx2
           have z1 : w2.frozen? ⟨q, 1, none⟩ = false := by simp [World.frozen?, hx2]
           have HZ2 := Lib.hid (fun A' n' c' => HZ.out w2 A' n' c' hd hO)
           clear hd hO hx2))
      all_goals (go_ret; exact HZ2.out _ _ _ (by simp) (by omega) (by simp))
    · have hcci : ¬ (cap : Int) = (k : Int) := by omega
      go_enter Try.func27, Try.ntmps27
      go_wp2_with (first
        | (go_at_call 39; refine HF.out.mono ?_; rintro e w1 ⟨rfl, rfl⟩)
        | (go_at_call 78; refine HDY.out.mono ?_; rintro e w2 ⟨rfl, hd, hO⟩
           have hx2 := (hO.block q HQ.out HNE.out).trans HX.out
           obtain ⟨u0, u1⟩ := box2 hx2
           have z1 : w2.frozen? ⟨q, 1, none⟩ = false := by simp [World.frozen?, hx2]
           have HZ2 := Lib.hid (fun A' n' c' => HZ.out w2 A' n' c' hd hO)
           clear hd hO hx2))
      all_goals (go_ret; exact HZ2.out _ _ _ (by rw [if_neg hcc]) (by omega) (by omega))
/-- an empty row in a block of its own -/
theorem held_new {w : World} {q sz : Nat} {t : TypeId} (hq : q < w.heap.size) : HeldC (w.alloc (.cells #[] t)) q w.heap.size sz (.slice (some ⟨w.heap.size, 0, none⟩) 0 0) 0 [] :=
  .inr ⟨by omega, 0, 0, rfl, ⟨by simp, by simp, Nat.le_refl _, fun j hj => by omega, fun j c hj => by simp at hj⟩⟩
/-- append to it, whatever the source -/
theorem run_appHCa {P : Program} {w : World} (t ty e : TypeId) {i0 : TypeInfo} {z : Value} {sz bytes : Nat} (ht : P.underlying t = some (.slice e)) (hi : P.info? e = some i0) (hz : i0.zero = some z) (hs : i0.size = sz) (hb : i0.bytes = bytes) (hzs : z.cells.size = sz) (hsp : 0 < sz)
    {q g n C : Nat} {v : Value} {xs : List Value} (hown : HeldC w q g sz v n xs) (hq : q < w.heap.size) {A : Option Addr} {m c : Nat} {ys : List Value} (hl : ys.length = m * sz) (hr : RdC w C A ys) (h1 : ∀ u ∈ ys, u.oneCell' = true) (h63 : n + m ≤ 1000000) (hby : (n + m) * bytes ≤ 140737488355328) :
    ∃ g' v' w', (Builtin.append_ #[t, t] ty #[v, .slice A m c]).run P w = .ok v' w' ∧ HeldC w' q g' sz v' (n + m) (xs ++ ys) ∧ Only (fun k => k = g ∧ k ≠ q) w w' ∧ (g' = g ∨ w.heap.size ≤ g') := by
  rcases A with _ | ad
  · have hy : ys = [] := by
      rcases ys with _ | ⟨y, ys⟩
      · rfl
      · obtain ⟨_, _, h, _⟩ := hr (by simp); cases h
    subst hy
    have hm : m = 0 := by
      rcases Nat.eq_zero_or_pos m with h | h
      · exact h
      · have := Nat.mul_pos h hsp
        simp at hl
        omega
    subst hm
    have hrun : (Builtin.append_ #[t, t] ty #[v, .slice none 0 c]).run P w = .ok v w := by
      rcases hown with ⟨rfl, _⟩ | ⟨_, o, cap, rfl, ho⟩
      · simp [Builtin.append_, run_underlying ht, sizeOf, typeInfo, hi, Builtin.lenOf, Builtin.firstCells]
      · have hnc := ho.room
        simp [Builtin.append_, run_underlying ht, sizeOf, typeInfo, hi, Builtin.lenOf, Builtin.firstCells, hnc, storeCells]
    exact ⟨g, v, w, hrun, by simpa using hown, Only.of_below (Below.refl _ _), .inl rfl⟩
  · exact run_appHC t ty e ht hi hz hs hb hzs hsp hown hq hl (fun j u hu => by
      obtain ⟨b, o, e1, _, hc⟩ := hr (fun e => by subst e; simp at hu)
      injection e1 with e1
      subst e1
      rw [Addr.add_lit]
      exact hc j u hu) h1 h63 hby
theorem wpList_appHCa {P : Program} {w : World} {ops : Array Oper} {rest : List Oper} {o : Oper} {a : Act} {Q : Exit → Act → World → Prop} (hgd : o.guard = none) (s x : Operand) (t e : TypeId) (ho : o.op = .call { callee := .builtin .append, args := #[s, x], argTypes := #[t, t] })
    {i0 : TypeInfo} {z : Value} {sz bytes : Nat} (ht : P.underlying t = some (.slice e)) (hi : P.info? e = some i0) (hz : i0.zero = some z) (hs : i0.size = sz) (hb : i0.bytes = bytes) (hzs : z.cells.size = sz) (hsp : 0 < sz)
    {q g n C : Nat} {v : Value} {xs : List Value} (hv : a.eval s = v) (hown : HeldC w q g sz v n xs) (hq : q < w.heap.size) {A : Option Addr} {m c : Nat} {ys : List Value} (hx : a.eval x = .slice A m c) (hl : ys.length = m * sz) (hr : RdC w C A ys) (h1 : ∀ u ∈ ys, u.oneCell' = true) (h63 : n + m ≤ 1000000) (hby : (n + m) * bytes ≤ 140737488355328)
    (h : ∀ g' v' w', HeldC w' q g' sz v' (n + m) (xs ++ ys) → Only (fun k => k = g ∧ k ≠ q) w w' → (g' = g ∨ w.heap.size ≤ g') → wpList P ops Q rest (a.put o.dst v') w') : wpList P ops Q (o :: rest) a w :=
  wpList_plain hgd fun _ hK => by
    obtain ⟨g', v', w', hrun, h2, h3, h4⟩ := run_appHCa (P := P) t o.type e ht hi hz hs hb hzs hsp hown hq (c := c) hl hr h1 h63 hby
    unfold Oper.wp execOp
    simp only [ho, resolve, invoke, builtin, Sem.run_bind, Sem.run_pure, Result.andThen_ok, List.map_toArray, List.map_cons, List.map_nil, hv, hx, hrun]
    exact hK _ _ (h g' v' w' h2 h3 h4)
end Go.Proofs.Ytgdofnbnahpedaa

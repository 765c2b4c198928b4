/- Package table: Drop. -/
import Derived.Test.YtfmhijaljlmgaaaPR
namespace Go.Proofs.Ytfmhijaljlmgaaa
open Go.RowKit

def dropK : List (List UInt8 × List UInt8) → List UInt8 → List (List UInt8 × List UInt8)
  | [], _ => []
  | x :: l, k => if cmpB x.1 k = 0 then l else x :: dropK l k
theorem dropK_none : ∀ {l : List (List UInt8 × List UInt8)} {k : List UInt8}, getK l k = none → dropK l k = l
  | [], _, _ => rfl
  | x :: l, k, h => by
    unfold getK at h
    unfold dropK
    split at h
    · cases h
    · rename_i hx
      rw [if_neg hx, dropK_none h]
theorem kv_era {L : List Ent} {k : List UInt8} : ∀ {m : Nat} {e : Ent}, SplitB L k m → L[m]? = some e → cmpB e.k k = 0 → kv (L.eraseIdx m) = dropK (kv L) k := by
  induction L with
  | nil => intro m e _ h; simp at h
  | cons x L ih =>
    intro m e h he h0
    cases m with
    | zero =>
      simp at he
      subst he
      simp only [kv, List.eraseIdx_cons_zero, List.map_cons, dropK]
      rw [if_pos h0]
    | succ m =>
      have h1 := h.lo 0 x rfl (by omega)
      have h2 : SplitB L k m := ⟨by have := h.le; simp at this; omega, fun j e hj hlt => h.lo (j + 1) e (by simpa using hj) (by omega), fun j e hj hle => h.hi (j + 1) e (by simpa using hj) (by omega)⟩
      have h3 := ih h2 (by simpa using he) h0
      simp only [kv, List.eraseIdx_cons_succ, List.map_cons, dropK]
      rw [if_neg (by omega)]
      simp only [kv] at h3
      rw [h3]
/-- what Drop answers -/
def DropT (w : World) (G D : Nat → Prop) (q : Nat) (l : List (List UInt8 × List UInt8)) (key : List UInt8) (en : Ending) (w' : World) : Prop := ∃ (G' : Nat → Prop) (P' : Nat) (ps' : List Pg) (A : Option Addr) (n c : Nat), en = .returned (.tuple #[.slice A n c, .bool (getK l key).isSome]) ∧ Tbl w' G' D q P' ps' ∧ kv (flat ps') = dropK l key ∧ (∀ j, G' j → G j ∨ w.heap.size ≤ j) ∧ Only G w w' ∧ RdB w' w'.heap.size A ((getK l key).getD []) ∧ ((getK l key).getD []).length = n
theorem DropT.old {w w1 w' : World} {G D : Nat → Prop} {q P m c : Nat} {ps : List Pg} {key : List UInt8} {e : Ent} {en : Ending} (h : Tbl w G D q P ps) (hs : SplitB (flat ps) key m) (he : (flat ps)[m]? = some e) (h0 : cmpB e.k key = 0) (hg : getK (kv (flat ps)) key = some e.r) (heo : EntOk w D e) (hb : Below w.heap.size w w1) (hc : (flat ps).length = c + 1)
    (hj : JoT w1 G D q c ((flat ps).eraseIdx m) 0 en w') : DropT w G D q (kv (flat ps)) key (.returned (.tuple #[.slice e.rA e.r.length e.rc, .bool true])) w' := by
  obtain ⟨_, G', P', ps', h1, h2, h3, _, h5, h6⟩ := hj
  have hm := (List.getElem?_eq_some_iff.1 he).1
  have hlen : (flat ps').length = c := by rw [h2, List.length_eraseIdx_of_lt hm]; omega
  have hO := (Only.of_below (K := G) hb).trans h6 (fun _ _ e => e)
  refine ⟨G', P', ps', e.rA, _, e.rc, by rw [hg]; rfl, ⟨by rw [hlen]; exact h1, h3, ?_, by rw [hlen]; have := h.few; omega⟩, by rw [h2]; exact kv_era hs he h0, fun j hj => ?_, hO, ?_, by rw [hg]; rfl⟩
  · rw [h2]
    exact List.Pairwise.sublist (List.eraseIdx_sublist _ _) h.rise
  · rcases h5 j hj with e1 | e1
    · exact .inl e1
    · have := hb.size; exact .inr (by omega)
  · rw [hg]
    exact heo.row.only' hO (fun hn ad ha hgk => h.t.dis _ hgk (heo.rd hn ad ha))
set_option maxRecDepth 100000 in
set_option maxHeartbeats 4000000 in
theorem drop_any {w : World} {G D : Nat → Prop} {q P : Nat} {ps : List Pg} (h : Tbl w G D q P ps) (key : List UInt8) (K : Option Addr) (kn kc : Nat) (hkn : key.length = kn) (hk : RdB w w.heap.size K key) :
    Calls Try.prog 10 #[.pointer (some ⟨q, 0, none⟩), .slice K kn kc] w (DropT w G D q (kv (flat ps)) key) := by
  obtain ⟨i, j, f, hF, hS, hf, hfind⟩ := h.find key
  have HFI := Lib.hid (hfind K kn kc hkn w (Below.refl _ _) hk)
  have hnil : ∀ (w : World) (a : Option Addr), (binOp .eql 26 (.pointer a) (.pointer none)).run Try.prog w = .ok (.bool a.isNone) w := fun w a => by cases a <;> rfl
  cases f with
  | false =>
    have HY : Hid (∀ w', Below w.heap.size w w' → DropT w G D q (kv (flat ps)) key (.returned (.tuple #[.slice none 0 0, .bool false])) w') := Lib.hid fun w' hb => by
      have hg : getK (kv (flat ps)) key = none := by rw [getK_at h.rise hS, ← hf]; rfl
      exact ⟨G, P, ps, none, 0, 0, by rw [hg]; rfl, h.below hb, (dropK_none hg).symm, fun j hj => .inl hj, Only.of_below hb, by rw [hg]; exact RdB.nil _ _ _, by rw [hg]; rfl⟩
    clear h hk hF hS hf hfind hkn
    go_enter Try.func10, Try.ntmps10
    go_wp2_with (go_at_call 19; refine HFI.out.mono ?_; rintro e w1 ⟨rfl, hb⟩; have HB1 := Lib.hid hb; clear hb)
    go_ret2
    exact HY.out _ HB1.out
  | true =>
    obtain ⟨p, e, o, pc, ro, rcap, hp, he, hpv, hi, hj, hpl, hg, heo, hfe, h0, hc⟩ := h.there hF hS hf
    have HC := Lib.hid hc
    obtain ⟨c, hcl⟩ : ∃ c, (flat ps).length = c + 1 := ⟨(flat ps).length - 1, by have := (List.getElem?_eq_some_iff.1 hfe).1; omega⟩
    have HR : Hid (∀ W, Below w.heap.size w W → Calls Try.prog 22 #[.pointer (some ⟨q, 0, none⟩), .int .i64 (i : Int), .int .i64 (j : Int)] W (JoT W G D q c ((flat ps).eraseIdx ((flat (ps.take i)).length + j)) 0)) := Lib.hid fun W hb => remove_any (h.below hb) hcl hp hj
    have HY : Hid (∀ w1 w' en, Below w.heap.size w w1 → JoT w1 G D q c ((flat ps).eraseIdx ((flat (ps.take i)).length + j)) 0 en w' → DropT w G D q (kv (flat ps)) key (.returned (.tuple #[.slice e.rA e.r.length e.rc, .bool true])) w') := Lib.hid fun w1 w' en hb hj => DropT.old h hS hfe h0 hg heo hb hcl hj
    have hlen := h.len
    have hii : (i : Int) < (ps.length : Int) := by omega
    have hji : (j : Int) < (p.es.length : Int) := by omega
    have hni : (ps.length : Int) ≤ 1000 := by omega
    have hpi : (p.es.length : Int) ≤ 128 := by omega
    clear h hk hF hS hf hfind hkn hp he hpv hi hj hpl hg heo hc hlen hfe h0 hcl
    go_enter Try.func10, Try.ntmps10
    go_wp2_with (first
      | (go_at_call 19; refine HFI.out.mono ?_; rintro e1 w1 ⟨rfl, hb⟩; have HB1 := Lib.hid hb
         obtain ⟨x0, x1, x2, x3⟩ := HC.out _ hb
         clear hb)
      | (go_at_call 22; refine (HR.out _ (by exact HB1.out)).mono ?_; rintro e2 w2 hj
         have HZ := Lib.hid (HY.out _ _ _ HB1.out hj)
         have he2 := hj.1
         subst he2
         clear hj))
    go_ret2
    exact HZ.out
end Go.Proofs.Ytfmhijaljlmgaaa

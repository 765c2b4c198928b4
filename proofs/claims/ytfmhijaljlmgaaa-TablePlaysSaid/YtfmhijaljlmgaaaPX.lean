/- Package table: layer 8's live question. -/
import Derived.Test.YtfmhijaljlmgaaaPV
import Derived.Test.YtfmhijaljlmgaaaDX
namespace Go.Proofs.Ytfmhijaljlmgaaa
open Go.RowKit

/-- a table that a call made, and what it holds -/
structure TaW (w0 W : World) (G D : Nat → Prop) (q P : Nat) (ps : List Pg) (l : List (List UInt8 × List UInt8)) : Prop where
  tb : Tbl W G D q P ps
  kv : kv (flat ps) = l
  ge : ∀ j, G j ∨ D j → w0.heap.size ≤ j
  bel : Below w0.heap.size w0 W
theorem TaW.below {w0 W W' : World} {G D : Nat → Prop} {q P : Nat} {ps : List Pg} {l : List (List UInt8 × List UInt8)} (h : TaW w0 W G D q P ps l) (hb : Below W.heap.size W W') : TaW w0 W' G D q P ps l :=
  ⟨h.tb.below hb, h.kv, h.ge, h.bel.trans (hb.mono h.bel.size)⟩
/-- what Put leaves -/
def TaPut (w0 : World) (q : Nat) (l : List (List UInt8 × List UInt8)) (key row : List UInt8) (e : Ending) (w' : World) : Prop := ∃ (G D : Nat → Prop) (P : Nat) (ps : List Pg) (A : Option Addr) (n c : Nat), e = .returned (.tuple #[.slice A n c, .bool (getK l key).isSome]) ∧ TaW w0 w' G D q P ps (putK l key row) ∧ RdB w' w'.heap.size A ((getK l key).getD []) ∧ ((getK l key).getD []).length = n
theorem TaW.put {w0 W : World} {G D : Nat → Prop} {q P : Nat} {ps : List Pg} {l : List (List UInt8 × List UInt8)} (h : TaW w0 W G D q P ps l) (hl : l.length ≤ 899) (key row : List UInt8) (K A : Option Addr) (kn kc rn rc : Nat) (hkn : key.length = kn) (hrn : row.length = rn) (hkl : key.length ≤ 100000) (hrl : row.length ≤ 100000) (hk : RdB W W.heap.size K key) (hr : RdB W W.heap.size A row) :
    Calls Try.prog 8 #[.pointer (some ⟨q, 0, none⟩), .slice K kn kc, .slice A rn rc] W (TaPut w0 q l key row) := by
  have hkv := h.kv
  subst hkv
  refine (put_any h.tb (by simpa [Go.Proofs.Ytfmhijaljlmgaaa.kv] using hl) key row K A kn kc rn rc hkn hrn hkl hrl hk hr).mono ?_
  rintro e w' ⟨G', D', P', ps', A', n, c, rfl, h1, h2, h3, h4, h5, h6⟩
  exact ⟨G', D', P', ps', A', n, c, rfl, ⟨h1, h2, fun j hj => by
    rcases h3 j hj with h7 | h7 | h7
    · exact h.ge j (.inl h7)
    · exact h.ge j (.inr h7)
    · exact Nat.le_trans h.bel.size h7, h.bel.trans (h4.below h.bel.size (fun j hj => h.ge j (.inl hj)))⟩, h5, h6⟩
/-- .. of constants -/
theorem TaW.putLit {w0 W : World} {G D : Nat → Prop} {q P : Nat} {ps : List Pg} {l : List (List UInt8 × List UInt8)} (h : TaW w0 W G D q P ps l) (hl : l.length ≤ 899) (key row : List UInt8) (hkl : key.length ≤ 100000) (hrl : row.length ≤ 100000) (o1 o2 : Array Value) (f1 f2 : Nat × Nat) (h1 : o1 = (bytesV key).toArray) (h2 : o2 = (bytesV row).toArray) (kn kc rn rc : Nat) (hkn : key.length = kn) (hrn : row.length = rn) :
    Calls Try.prog 8 #[.pointer (some ⟨q, 0, none⟩), .slice (some ⟨W.heap.size, 0, none⟩) kn kc, .slice (some ⟨W.heap.size + 1, 0, none⟩) rn rc] ((W.alloc (.cells o1 5 f1)).alloc (.cells o2 5 f2)) (TaPut w0 q l key row) := by
  have hb1 : Below W.heap.size W (W.alloc (.cells o1 5 f1)) := alloc_below _ _
  have hb2 : Below (W.alloc (.cells o1 5 f1)).heap.size (W.alloc (.cells o1 5 f1)) ((W.alloc (.cells o1 5 f1)).alloc (.cells o2 5 f2)) := alloc_below _ _
  have hs : (W.alloc (.cells o1 5 f1)).heap.size = W.heap.size + 1 := by simp
  have r1 := ((rd_lit W key o1 f1 h1).below hb2 (Nat.le_refl _)).more hb2.size
  have r2 := rd_lit (W.alloc (.cells o1 5 f1)) row o2 f2 h2
  rw [hs] at r2
  exact ((h.below hb1).below hb2).put hl key row _ _ kn kc rn rc hkn hrn hkl hrl r1 r2
theorem rangeL_all (L : List Ent) : rangeL [] [] L = L := List.filter_eq_self.2 fun e _ => by
  unfold inR
  cases e.k <;> rfl
/-- a range of two entries -/
theorem RgT.two {w w' : World} {k1 r1 k2 r2 : List UInt8} {en : Ending} (h : RgT w [(k1, r1), (k2, r2)] en w') : ∃ g o cap kA1 kc1 rA1 rc1 kA2 kc2 rA2 rc2, en = .returned (.slice (some ⟨g, o, none⟩) 2 cap) ∧ 2 ≤ cap ∧
    w'.cell? ⟨g, o, none⟩ = some (.slice kA1 k1.length kc1) ∧ w'.cell? ⟨g, o + 1, none⟩ = some (.slice rA1 r1.length rc1) ∧ w'.cell? ⟨g, o + 2, none⟩ = some (.slice kA2 k2.length kc2) ∧ w'.cell? ⟨g, o + 2 + 1, none⟩ = some (.slice rA2 r2.length rc2) ∧
    OwnB w' w.heap.size (.slice kA1 k1.length kc1) k1 ∧ OwnB w' w.heap.size (.slice rA1 r1.length rc1) r1 ∧ OwnB w' w.heap.size (.slice kA2 k2.length kc2) k2 ∧ OwnB w' w.heap.size (.slice rA2 r2.length rc2) r2 ∧ Below w.heap.size w w' := by
  obtain ⟨b, g, v, es, rfl, hrow, _, _, hown, hkv, hb⟩ := h
  obtain ⟨e1, e2, rfl⟩ : ∃ e1 e2, es = [e1, e2] := by
    match es, hkv with
    | [e1, e2], _ => exact ⟨e1, e2, rfl⟩
    | [], h => simp [kv] at h
    | [_], h => simp [kv] at h
    | _ :: _ :: _ :: _, h => simp [kv] at h
  simp only [kv, List.map_cons, List.map_nil, List.cons.injEq, Prod.mk.injEq, and_true] at hkv
  obtain ⟨⟨rfl, rfl⟩, rfl, rfl⟩ := hkv
  have o1 := hown e1 (by simp)
  have o2 := hown e2 (by simp)
  rcases hrow with ⟨_, h0, _⟩ | ⟨_, o, cap, rfl, ho⟩
  · cases h0
  · exact ⟨g, o, cap, _, _, _, _, _, _, _, _, rfl, ho.room, ho.cell 0 _ rfl, ho.cell 1 _ rfl, ho.cell 2 _ rfl, ho.cell 3 _ rfl, o1.1, o1.2, o2.1, o2.2, hb⟩
set_option maxRecDepth 100000 in
set_option maxHeartbeats 4000000 in
theorem alive_table (w : World) : Calls Try.prog 5 #[] w (Ans (.bool true) w) := by
  have kc := fun (w : World) (C : Array Value) (n c : Nat) => Lib.run_convert_bytes_const (P := Try.prog) w 23 5 C n c Try.underlying23 Try.underlying5
  have kc2 : ∀ (w : World) (o : Obj) (C : Array Value) (n c : Nat), (convert 23 23 (.slice (some ⟨w.heap.size + 1, 0, none⟩) n c)).run Try.prog ((w.alloc o).alloc (.cells C 5)) = .ok (.slice (some ⟨w.heap.size + 1, 0, none⟩) n c) ((w.alloc o).alloc (.cells C 5 (C.size, C.size + 1))) := fun w o C n c => by
    have h := kc (w.alloc o) C n c
    rw [show (w.alloc o).heap.size = w.heap.size + 1 by simp] at h
    exact h
  go_enter Try.func5, Try.ntmps5
  go_wp2_with (first
    | (go_at_call 4; refine (new_any _).mono ?_; rintro e w1 ⟨rfl, ht, hb⟩
       have HT : Hid (TaW w w1 _ _ _ _ _ []) := Lib.hid ⟨ht, rfl, fun j hj => hj.elim (fun e => Nat.le_of_eq e.symm) False.elim, hb⟩
       clear ht hb)
    | (go_at_call 8; refine (HT.out.putLit (by decide) [98] [50] (by decide) (by decide) _ _ _ _ rfl rfl _ _ _ _ rfl rfl).mono ?_; rintro e w2 ⟨G1, D1, P1, ps1, A1, n1, c1, rfl, ht, _, _⟩
       rw [show putK [] [98] [50] = [([98], [50])] by decide] at ht
       have HT := Lib.hid ht
       clear ht)
    | (go_at_call 8; refine (HT.out.putLit (by decide) [97] [49] (by decide) (by decide) _ _ _ _ rfl rfl _ _ _ _ rfl rfl).mono ?_; rintro e w3 ⟨G2, D2, P2, ps2, A2, n2, c2, rfl, ht, _, _⟩
       rw [show putK [([98], [50])] [97] [49] = [([97], [49]), ([98], [50])] by decide] at ht
       have HT := Lib.hid ht
       clear ht)
    | (go_at_call 8; refine (HT.out.putLit (by decide) [98] [51] (by decide) (by decide) _ _ _ _ rfl rfl _ _ _ _ rfl rfl).mono ?_; rintro e w4 ⟨G3, D3, P3, ps3, A3, n3, c3, rfl, ht, ho, hn⟩
       rw [show putK [([97], [49]), ([98], [50])] [98] [51] = [([97], [49]), ([98], [51])] by decide] at ht
       rw [show (getK [([97], [49]), ([98], [50])] [98]).getD [] = [50] by decide] at ho hn
       rw [show (getK [([97], [49]), ([98], [50])] [98]).isSome = true by decide]
       obtain rfl : n3 = 1 := hn.symm
       have HT := Lib.hid ht
       have HO := Lib.hid ho
       clear ht ho hn)
    | (go_at_call 13; refine (range_any HT.out.tb none none [] [] 0 0 0 0 9 rfl rfl (fun hn => absurd rfl hn) (fun hn => absurd rfl hn)).mono ?_; rintro e w5 hr
       rw [rangeL_all, show kv ((flat ps3).take (9 : Int).toNat) = [([97], [49]), ([98], [51])] by
         have h9 := HT.out.kv
         unfold kv at h9 ⊢
         rw [List.map_take, h9]; rfl] at hr
       obtain ⟨g, o, cap, kA1, kc1, rA1, rc1, kA2, kc2, rA2, rc2, rfl, hcap, y0, y1, y2, y3, h1, h2, h3, h4, hb⟩ := hr.two
       have HT := Lib.hid (HT.out.below hb)
       have hcv0 := conv_rd (n := 1) (cap := c3) ((HO.out.below hb (Nat.le_refl _)).more hb.size) rfl ⟨#[50]⟩ rfl
       have hcv1 := conv_ownS h1 ⟨#[97]⟩ rfl
       have hcv2 := conv_ownS h4 ⟨#[51]⟩ rfl
       simp only [List.length_cons, List.length_nil, Nat.reduceAdd] at y0 y1 y2 y3 hcv1 hcv2
       clear hr h1 h2 h3 h4 hb)
    | (go_at_call 17; refine (len_any HT.out.tb 2 (by rw [HT.out.kv]; rfl)).mono ?_; rintro e w6 ⟨rfl, rfl⟩))
  go_ret
  exact ⟨rfl, HT.out.bel⟩
end Go.Proofs.Ytfmhijaljlmgaaa

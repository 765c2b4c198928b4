/- Package table: Put. -/
import Derived.Test.YtfmhijaljlmgaaaPM
import Derived.Test.YtfmhijaljlmgaaaPL
namespace Go.Proofs.Ytfmhijaljlmgaaa
open Go.RowKit

def getK : List (List UInt8 × List UInt8) → List UInt8 → Option (List UInt8)
  | [], _ => none
  | x :: l, k => if cmpB x.1 k = 0 then some x.2 else getK l k
theorem getK_lt : ∀ {l : List (List UInt8 × List UInt8)} {k : List UInt8}, (∀ x ∈ l, 0 < cmpB x.1 k) → getK l k = none
  | [], _, _ => rfl
  | x :: l, k, h => by
    unfold getK
    rw [if_neg (by have := h x (List.mem_cons_self ..); omega)]
    exact getK_lt fun y hy => h y (List.mem_cons_of_mem _ hy)
theorem getK_at {L : List Ent} {k : List UInt8} (hr : Rise L) : ∀ {m : Nat}, SplitB L k m → getK (kv L) k = if hasAt L m k then (L[m]?).map Ent.r else none := by
  induction L with
  | nil => intro m h; simp [kv, getK, hasAt]
  | cons x L ih =>
    intro m h
    obtain ⟨h1, h2⟩ := List.pairwise_cons.1 hr
    cases m with
    | zero =>
      have h0 := h.hi 0 x rfl (Nat.le_refl _)
      show (if cmpB x.k k = 0 then some x.r else getK (kv L) k) = _
      by_cases hx : cmpB x.k k = 0
      · rw [if_pos hx]; simp [hasAt, hx]
      · rw [if_neg hx]
        have : getK (kv L) k = none := getK_lt fun y hy => by
          obtain ⟨e, he, rfl⟩ := List.mem_map.1 hy
          exact cmpB_up (h1 e he) h0
        rw [this]; simp [hasAt, hx]
    | succ m =>
      have h0 := h.lo 0 x rfl (by omega)
      have h3 : SplitB L k m := ⟨by have := h.le; simp at this; omega, fun j e hj hlt => h.lo (j + 1) e (by simpa using hj) (by omega), fun j e hj hle => h.hi (j + 1) e (by simpa using hj) (by omega)⟩
      show (if cmpB x.k k = 0 then some x.r else getK (kv L) k) = _
      rw [if_neg (by omega), ih h2 h3]
      have e1 : hasAt (x :: L) (m + 1) k = hasAt L m k := by unfold hasAt; rw [List.getElem?_cons_succ]
      rw [e1, List.getElem?_cons_succ]
/-- what Put answers -/
def PutT (w : World) (G D : Nat → Prop) (q : Nat) (l : List (List UInt8 × List UInt8)) (key row : List UInt8) (en : Ending) (w' : World) : Prop := ∃ (G' D' : Nat → Prop) (P' : Nat) (ps' : List Pg) (A : Option Addr) (n c : Nat), en = .returned (.tuple #[.slice A n c, .bool (getK l key).isSome]) ∧ Tbl w' G' D' q P' ps' ∧ kv (flat ps') = putK l key row ∧ (∀ j, G' j ∨ D' j → G j ∨ D j ∨ w.heap.size ≤ j) ∧ Only G w w' ∧ RdB w' w'.heap.size A ((getK l key).getD []) ∧ ((getK l key).getD []).length = n
/-- .. where the key is new -/
theorem PutT.new {w w3 w' : World} {G D : Nat → Prop} {q P m : Nat} {ps : List Pg} {key row : List UInt8} {X : Ent} (h : Tbl w G D q P ps) (hs : SplitB (flat ps) key m) (hh : hasAt (flat ps) m key = false) (hX : X.k = key ∧ X.r = row) (hf : (flat ps).length ≤ 899) (hb : Below w.heap.size w w3)
    (hi : InT w3 G (fun j => D j ∨ (w.heap.size ≤ j ∧ j < w3.heap.size)) q (flat ps).length (laidIn (flat ps) m X) (.returned (.tuple #[])) w') : PutT w G D q (kv (flat ps)) key row (.returned (.tuple #[.slice none 0 0, .bool false])) w' := by
  obtain ⟨_, G', P', ps', h1, h2, h3, h4, h5⟩ := hi
  obtain ⟨rfl, rfl⟩ := hX
  have hg : getK (kv (flat ps)) X.k = none := by rw [getK_at h.rise hs, hh]; rfl
  have hkv := kv_ins hs hh
  have hll : (laidIn (flat ps) m X).length = (flat ps).length + 1 := by
    unfold laidIn
    rw [List.length_append, List.length_cons, List.length_take, List.length_drop]
    have := hs.le
    omega
  rw [← h2] at hkv hll
  refine ⟨G', _, P', ps', none, 0, 0, by rw [hg]; rfl, ⟨by rw [hll]; exact h1, h3, ?_, by omega⟩, hkv, fun j hj => ?_, (Only.of_below (K := G) hb).trans h5 (fun _ _ e => e), by rw [hg]; exact RdB.nil _ _ _, by rw [hg]; rfl⟩
  · have h6 := (rise_put (k := X.k) (r := X.r) (l := kv (flat ps)) (by have := h.rise; unfold Rise at this; unfold kv; rw [List.pairwise_map]; exact this)).1
    rw [← hkv] at h6
    unfold kv at h6
    rw [List.pairwise_map] at h6
    exact h6
  · rcases hj with hj | hj | hj
    · rcases h4 j hj with h7 | h7
      · exact .inl h7
      · have := hb.size; exact .inr (.inr (by omega))
    · exact .inr (.inl hj)
    · exact .inr (.inr hj.1)
/-- .. where it is there -/
theorem PutT.old {w w1 w2 : World} {G D : Nat → Prop} {q P i j o pc : Nat} {ps : List Pg} {key row : List UInt8} {p : Pg} {e X : Ent} (h : Tbl w G D q P ps) (hp : ps[i]? = some p) (he : p.es[j]? = some e) (hv : p.v = .slice (some ⟨p.g, o, none⟩) p.es.length pc)
    (hs : SplitB (flat ps) key ((flat (ps.take i)).length + j)) (hh : hasAt (flat ps) ((flat (ps.take i)).length + j) key = true) (hb : Below w.heap.size w w1) (hb2 : Below w1.heap.size w1 w2) (hX : X.kA = e.kA ∧ X.k = e.k ∧ X.kc = e.kc ∧ X.r = row) (ho : OwnB w2 w1.heap.size (.slice X.rA X.r.length X.rc) X.r) (hrl : row.length ≤ 100000) :
    PutT w G D q (kv (flat ps)) key row (.returned (.tuple #[.slice e.rA e.r.length e.rc, .bool true])) (w2.setCell ⟨p.g, o + j * 2 + 1, none⟩ (.slice X.rA X.r.length X.rc)) := by
  have hbw := hb.trans (hb2.mono hb.size)
  have h2 := h.below hbw
  have hjl := (List.getElem?_eq_some_iff.1 he).1
  have hlt := (List.getElem?_eq_some_iff.1 hp).1
  have hrd := ho.rd
  have hfe : (flat ps)[(flat (ps.take i)).length + j]? = some e := by
    rw [flat_at hp, List.getElem?_append_right (by omega), Nat.add_sub_cancel_left, List.getElem?_append_left hjl, he]
  have hek : cmpB e.k key = 0 := by unfold hasAt at hh; rw [hfe] at hh; simpa using hh
  have hg : getK (kv (flat ps)) key = some e.r := by rw [getK_at h.rise hs, hh, hfe]; rfl
  have hGw : ∀ k, G k → k < w.heap.size := h.t.glt
  have hD := h2.t.moreD (D' := fun k => D k ∨ (w.heap.size ≤ k ∧ k < w2.heap.size)) (fun k hk => .inl hk) (fun k hk hd => by
    rcases hd with hd | hd
    · exact h2.t.dis k hk hd
    · have := hGw k hk; omega) (fun k hk => by
    rcases hk with hk | hk
    · exact h2.t.dlt k hk
    · exact hk.2)
  have heo := h2.t.ents p (List.mem_of_getElem? hp) e (List.mem_of_getElem? he)
  have hXO : EntOk w2 (fun k => D k ∨ (w.heap.size ≤ k ∧ k < w2.heap.size)) X := by
    obtain ⟨k1, k2, k3, k4⟩ := hX
    refine ⟨by rw [k1, k2]; exact heo.key, hrd, fun hn ad ha => .inl (heo.kd (by rw [← k2]; exact hn) ad (by rw [← k1]; exact ha)), fun hn ad ha => ?_, by rw [k2]; exact heo.kl, by rw [k4]; exact hrl⟩
    obtain ⟨ad2, e1, e2, _⟩ := hrd hn
    rw [ha] at e1
    injection e1 with e1
    subst e1
    obtain ⟨g', cap', e3, e4⟩ := ho.head (List.length_pos_iff.2 hn)
    injection e3 with e3
    rw [ha] at e3
    injection e3 with e3
    subst e3
    have := hb.size
    exact .inr ⟨by show w.heap.size ≤ g'; omega, e2⟩
  obtain ⟨h5, h6, h7⟩ := hD.setEnt hp he hv hXO ⟨hX.1, hX.2.1, hX.2.2.1⟩
  have hfs := flat_setEnt (X := X) hp hjl
  have hkv := kv_set (X := X) hs hfe hek hX.2.1
  rw [← hfs, hX.2.2.2] at hkv
  have hpg := (h2.t.page p (List.mem_of_getElem? hp)).2.2
  have hO : Only G w2 (w2.setCell ⟨p.g, o + j * 2 + 1, none⟩ (.slice X.rA X.r.length X.rc)) := h6.more (fun k _ e => by rw [e]; exact hpg)
  refine ⟨G, _, P, _, e.rA, _, e.rc, by rw [hg]; rfl, ⟨by rw [hfs, List.length_set]; exact h5, fun x hx => ?_, ?_, by rw [hfs, List.length_set]; exact h.few⟩, hkv, fun k hk => ?_, (Only.of_below (K := G) hbw).trans hO (fun _ _ e => e), ?_, by rw [hg]; rfl⟩
  · rcases List.mem_or_eq_of_mem_set hx with hx | rfl
    · exact h.pg x hx
    · have h8 := h.pg p (List.mem_of_getElem? hp)
      exact ⟨fun e2 => by have e3 := congrArg List.length e2; simp at e3; exact h8.1 e3, by show (p.es.set j X).length ≤ 128; rw [List.length_set]; exact h8.2⟩
  · have h9 := (rise_put (k := key) (r := row) (l := kv (flat ps)) (by have := h.rise; unfold Rise at this; unfold kv; rw [List.pairwise_map]; exact this)).1
    rw [← hkv] at h9
    unfold kv at h9
    rw [List.pairwise_map] at h9
    exact h9
  · rcases hk with hk | hk | hk
    · exact .inl hk
    · exact .inr (.inl hk)
    · exact .inr (.inr hk.1)
  · rw [hg]
    exact heo.row.only' hO (fun hn ad ha hgk => h2.t.dis _ hgk (heo.rd hn ad ha))
set_option maxRecDepth 100000 in
set_option maxHeartbeats 8000000 in
theorem put_any {w : World} {G D : Nat → Prop} {q P : Nat} {ps : List Pg} (h : Tbl w G D q P ps) (hfew : (flat ps).length ≤ 899) (key row : List UInt8) (K A : Option Addr) (kn kc rn rc : Nat) (hkn : key.length = kn) (hrn : row.length = rn) (hkl : key.length ≤ 100000) (hrl : row.length ≤ 100000) (hk : RdB w w.heap.size K key) (hr : RdB w w.heap.size A row) :
    Calls Try.prog 8 #[.pointer (some ⟨q, 0, none⟩), .slice K kn kc, .slice A rn rc] w (PutT w G D q (kv (flat ps)) key row) := by
  obtain ⟨i, j, f, hF, hS, hf, hfind⟩ := h.find key
  have HFI := Lib.hid (hfind K kn kc hkn w (Below.refl _ _) hk)
  have HK : Hid (∀ W, Below w.heap.size w W → Calls Try.prog 21 #[.slice K kn kc] W (CloneTo W key)) := Lib.hid fun W hb => cloneA_any key K kn kc hkn W hkl ((hk.below hb (Nat.le_refl _)).more hb.size)
  have HRW : Hid (∀ W, Below w.heap.size w W → Calls Try.prog 21 #[.slice A rn rc] W (CloneTo W row)) := Lib.hid fun W hb => cloneA_any row A rn rc hrn W hrl ((hr.below hb (Nat.le_refl _)).more hb.size)
  have hnil : ∀ (w : World) (a : Option Addr), (binOp .eql 26 (.pointer a) (.pointer none)).run Try.prog w = .ok (.bool a.isNone) w := fun w a => by cases a <;> rfl
  cases f with
  | false =>
    have HI : Hid (∀ W1 W2 W3 A2 c2 A3 c3, Below w.heap.size w W1 → OwnB W2 W1.heap.size (.slice A2 key.length c2) key → Below W1.heap.size W1 W2 → OwnB W3 W2.heap.size (.slice A3 row.length c3) row → Below W2.heap.size W2 W3 →
        Calls Try.prog 20 #[.pointer (some ⟨q, 0, none⟩), .int .i64 (i : Int), .int .i64 (j : Int), .agg #[.slice A2 key.length c2, .slice A3 row.length c3]] W3 (fun e w' => e = .returned (.tuple #[]) ∧ PutT w G D q (kv (flat ps)) key row (.returned (.tuple #[.slice none 0 0, .bool false])) w')) := Lib.hid fun W1 W2 W3 A2 c2 A3 c3 hb1 ho2 hb2 ho3 hb3 => by
      have hb12 := hb1.trans (hb2.mono hb1.size)
      have hbw := hb12.trans (hb3.mono hb12.size)
      have h3 := h.below hbw
      have s1 := hb1.size
      have s2 := hb2.size
      have hD := h3.t.moreD (D' := fun k => D k ∨ (w.heap.size ≤ k ∧ k < W3.heap.size)) (fun k hk => .inl hk) (fun k hk hd => by
        rcases hd with hd | hd
        · exact h3.t.dis k hk hd
        · have := h.t.glt k hk; omega) (fun k hk => by
        rcases hk with hk | hk
        · exact h3.t.dlt k hk
        · exact hk.2)
      have hown : ∀ {B C : Option Addr} {n c : Nat} {l : List UInt8} {b : Nat}, OwnB W3 b (.slice B n c) l → w.heap.size ≤ b → l ≠ [] → ∀ ad, B = some ad → D ad.block ∨ (w.heap.size ≤ ad.block ∧ ad.block < W3.heap.size) := fun {B C n c l b} ho hb hn ad ha => by
        obtain ⟨ad2, e1, e2, _⟩ := ho.rd hn
        rw [ha] at e1
        injection e1 with e1
        subst e1
        obtain ⟨g', cap', e3, e4⟩ := ho.head (List.length_pos_iff.2 hn)
        injection e3 with e3
        rw [ha] at e3
        injection e3 with e3
        subst e3
        exact .inr ⟨by show w.heap.size ≤ g'; omega, e2⟩
      have ho2' := ho2.below hb3
      have hX : EntOk W3 (fun k => D k ∨ (w.heap.size ≤ k ∧ k < W3.heap.size)) ⟨A2, key, c2, A3, row, c3⟩ := ⟨ho2'.rd, ho3.rd, hown (C := none) ho2' s1, hown (C := none) ho3 (by omega), hkl, hrl⟩
      have hins := insert_any hD h.pg h.len hF.page.le (fun p hp => ((hF.here p hp).1).le) (fun e => (hF.past e).1) (by omega) ⟨A2, key, c2, A3, row, c3⟩ hX
      refine hins.mono ?_
      intro e w' hi
      have he := hi.1
      subst he
      exact ⟨rfl, PutT.new h hS hf.symm ⟨rfl, rfl⟩ hfew hbw hi⟩
    clear h hfew hk hr hkl hrl hF hS hf hfind hkn hrn
    go_enter Try.func8, Try.ntmps8
    go_wp2_with (first
      | (go_at_call 19; refine HFI.out.mono ?_; rintro e w1 ⟨rfl, hb⟩; have HB1 := Lib.hid hb; clear hb)
      | (go_at_call 21; (with_reducible refine (HK.out _ (by exact HB1.out)).mono ?_); rintro e w2 ⟨v2, rfl, ho, hb⟩
         obtain ⟨A2, c2, rfl⟩ := ho.new
         have HO2 := Lib.hid ho
         have HB2 := Lib.hid hb
         clear ho hb)
      | (go_at_call 21; (with_reducible refine (HRW.out _ (by exact HB1.out.trans (HB2.out.mono HB1.out.size))).mono ?_); rintro e w3 ⟨v3, rfl, ho, hb⟩
         obtain ⟨A3, c3, rfl⟩ := ho.new
         have HO3 := Lib.hid ho
         have HB3 := Lib.hid hb
         clear ho hb)
      | (go_at_call 20; refine (HI.out _ _ _ _ _ _ _ HB1.out HO2.out HB2.out HO3.out HB3.out).mono ?_; rintro e w4 ⟨rfl, hp⟩; have HP := Lib.hid hp; clear hp))
    go_ret2
    exact HP.out
  | true =>
    obtain ⟨hi1, hj1⟩ : i < ps.length ∧ j = j := by
      refine ⟨?_, rfl⟩
      rcases Nat.lt_or_ge i ps.length with h1 | h1
      · exact h1
      · have := (hF.past (by have := hF.page.le; omega)).2
        cases this
    clear hj1
    obtain ⟨p, hp⟩ : ∃ p, ps[i]? = some p := ⟨_, List.getElem?_eq_getElem hi1⟩
    obtain ⟨hsp, hfp⟩ := hF.here p hp
    obtain ⟨e, he⟩ : ∃ e, p.es[j]? = some e := by
      unfold hasAt at hfp
      cases he : p.es[j]? with
      | some e => exact ⟨e, rfl⟩
      | none => rw [he] at hfp; cases hfp
    have hjl := (List.getElem?_eq_some_iff.1 he).1
    obtain ⟨o, pc, hpv⟩ : ∃ o pc, p.v = .slice (some ⟨p.g, o, none⟩) p.es.length pc := by
      rcases (h.t.page p (List.mem_of_getElem? hp)).1 with ⟨_, h0, _⟩ | ⟨_, o, pc, h1, _⟩
      · omega
      · exact ⟨o, pc, h1⟩
    obtain ⟨ro, rcap, hbx, hro, hPq⟩ := h.t.cap hp
    have hpe := (h.pg p (List.mem_of_getElem? hp)).2
    have hlen := h.len
    have HC : Hid (∀ W, Below w.heap.size w W → W.cell? ⟨q, 0, none⟩ = some (.slice (some ⟨P, ro, none⟩) ps.length rcap) ∧ W.cell? ⟨P, ro + i, none⟩ = some (.slice (some ⟨p.g, o, none⟩) p.es.length pc) ∧ W.cell? ⟨p.g, o + j * 2 + 1, none⟩ = some (.slice e.rA e.r.length e.rc) ∧ W.frozen? ⟨p.g, o + j * 2 + 1, none⟩ = false) := Lib.hid fun W hb => by
      have h2 := h.below hb
      obtain ⟨ro2, rcap2, hbx2, hro2, _⟩ := h2.t.cap hp
      have hbx3 := (hb.block q h.t.lt).trans hbx
      rw [hbx2] at hbx3
      have e1 : ro2 = ro ∧ rcap2 = rcap := by simp at hbx3; exact hbx3
      obtain ⟨rfl, rfl⟩ := e1
      have hc1 := hro2.cell i p.v (by unfold pagesV; rw [List.getElem?_map, hp]; rfl)
      rw [hpv] at hc1
      obtain ⟨hgq, ho⟩ : p.g ≠ q ∧ OwnC W p.g o pc 2 p.es.length (entV p.es) := by
        rcases (h2.t.page p (List.mem_of_getElem? hp)).1 with ⟨_, h0, _⟩ | ⟨hne, o', cap', e1, ho⟩
        · omega
        · rw [hpv] at e1
          injection e1 with e1 e2 e3
          injection e1 with e1
          injection e1 with e1 e4
          subst e4 e3
          exact ⟨hne, ho⟩
      have hr2 := ho.room
      refine ⟨(box2 hbx2).1, hc1, ?_, ?_⟩
      · rw [Nat.add_assoc]; exact ho.cell _ _ (entV_at he).2
      · rw [Nat.add_assoc]; exact (ho.free (j * 2 + 1) (by omega)).2
    have HP : Hid (∀ W1 W2 A2 c2, Below w.heap.size w W1 → Below W1.heap.size W1 W2 → OwnB W2 W1.heap.size (.slice A2 row.length c2) row → PutT w G D q (kv (flat ps)) key row (.returned (.tuple #[.slice e.rA e.r.length e.rc, .bool true])) (W2.setCell ⟨p.g, o + j * 2 + 1, none⟩ (.slice A2 row.length c2))) := Lib.hid fun W1 W2 A2 c2 hb1 hb2 ho =>
      PutT.old (X := ⟨e.kA, e.k, e.kc, A2, row, c2⟩) h hp he hpv hS hf.symm hb1 hb2 ⟨rfl, rfl, rfl, rfl⟩ ho hrl
    have hii : (i : Int) < (ps.length : Int) := by omega
    have hji : (j : Int) < (p.es.length : Int) := by omega
    have hni : (ps.length : Int) ≤ 1000 := by omega
    have hpi : (p.es.length : Int) ≤ 128 := by omega
    clear h hfew hk hr hkl hrl hF hS hf hfind hkn hrn hp hsp hfp he hjl hpv hbx hro hPq hpe hlen hi1 HK
    go_enter Try.func8, Try.ntmps8
    go_wp2_with (first
      | (go_at_call 19; refine HFI.out.mono ?_; rintro e1 w1 ⟨rfl, hb⟩; have HB1 := Lib.hid hb
         obtain ⟨x0, x1, x2, x3⟩ := HC.out _ hb
         clear hb)
      | (go_at_call 21; refine (HRW.out _ (by exact HB1.out)).mono ?_; rintro e2 w2 ⟨v2, rfl, ho, hb⟩
         obtain ⟨A2, c2, rfl⟩ := ho.new
         have HY := Lib.hid (HP.out _ _ _ _ HB1.out hb ho)
         obtain ⟨y0, y1, y2, y3⟩ := HC.out _ (HB1.out.trans (hb.mono HB1.out.size))
         clear ho hb))
    go_ret2
    exact HY.out
end Go.Proofs.Ytfmhijaljlmgaaa

/- TableAny: the law's own body answers true. -/
import Derived.Test.YtekipbcfgopmlaaYI
import Derived.Deep.QuietTactic
namespace Go.Proofs.Ytekipbcfgopmlaa
open Go.RowKit


theorem put_front {T : List (List UInt8 × List UInt8)} {k r : List UInt8} (h : ∀ x ∈ T, cmpB k x.1 < 0) : putK T k r = (k, r) :: T ∧ getK T k = none := by
  refine ⟨?_, getK_lt fun x hx => by have h1 := h x hx; have h2 := cmpB_neg k x.1; omega⟩
  cases T with
  | nil => rfl
  | cons x T =>
    have h1 := h x (by simp)
    have h2 := cmpB_neg k x.1
    simp only [putK]
    rw [if_neg (by omega), if_neg (by omega)]
theorem drop_front {T : List (List UInt8 × List UInt8)} {k r : List UInt8} : dropK ((k, r) :: T) k = T ∧ getK ((k, r) :: T) k = some r := by
  constructor
  · simp [dropK, cmpB_self]
  · simp [getK, cmpB_self]
theorem drop_cons {L : List (List UInt8 × List UInt8)} {j : Nat} {x : List UInt8 × List UInt8} (h : L[j]? = some x) : L.drop j = x :: L.drop (j + 1) := by
  obtain ⟨h1, h2⟩ := List.getElem?_eq_some_iff.1 h
  rw [← h2]; exact List.drop_eq_getElem_cons h1
theorem drop_less {L : List (List UInt8 × List UInt8)} (hp : L.Pairwise fun a b => cmpB a.1 b.1 < 0) {j : Nat} {x : List UInt8 × List UInt8} (h : L[j]? = some x) : ∀ y ∈ L.drop (j + 1), cmpB x.1 y.1 < 0 := by
  have h1 := hp.sublist (List.drop_sublist j L)
  rw [drop_cons h] at h1
  exact (List.pairwise_cons.1 h1).1
theorem TaW.rise {w0 W : World} {G D : Nat → Prop} {q P : Nat} {ps : List Pg} {l : List (List UInt8 × List UInt8)} (h : TaW w0 W G D q P ps l) : l.Pairwise fun a b => cmpB a.1 b.1 < 0 := by
  rw [← h.kv]; exact rise_pair h.tb.rise
theorem TaW.lens {w0 W : World} {G D : Nat → Prop} {q P : Nat} {ps : List Pg} {l : List (List UInt8 × List UInt8)} (h : TaW w0 W G D q P ps l) : ∀ x ∈ l, x.1.length ≤ 100000 ∧ x.2.length ≤ 100000 := by
  rw [← h.kv]
  intro x hx
  obtain ⟨e, he, rfl⟩ := List.mem_map.1 hx
  unfold flat at he
  obtain ⟨p, hp, he⟩ := List.mem_flatMap.1 he
  have h2 := h.tb.t.ents p hp e he
  exact ⟨h2.kl, h2.rl⟩
set_option maxRecDepth 100000 in
set_option maxHeartbeats 4000000 in
/-- Drop of a key that is not there changes nothing -/
theorem drop_miss {w : World} {G D : Nat → Prop} {q P : Nat} {ps : List Pg} (h : Tbl w G D q P ps) (key : List UInt8) (K : Option Addr) (kn kc : Nat) (hkn : key.length = kn) (hk : RdB w w.heap.size K key) (hno : getK (kv (flat ps)) key = none) :
    Calls Try.prog 14 #[.pointer (some ⟨q, 0, none⟩), .slice K kn kc] w (Ans (.tuple #[.slice none 0 0, .bool false]) w) := by
  obtain ⟨i, j, f, hF, hS, hf, hfind⟩ := h.find key
  have hff : f = false := by
    have h1 := getK_at h.rise hS
    rw [hno, ← hf] at h1
    cases f with
    | false => rfl
    | true =>
      rw [if_pos rfl] at h1
      have h2 : hasAt (flat ps) ((flat (ps.take i)).length + j) key = true := hf.symm
      unfold hasAt at h2
      cases hx : (flat ps)[(flat (ps.take i)).length + j]? with
      | none => rw [hx] at h2; simp at h2
      | some x => rw [hx] at h1; cases h1
  subst hff
  have HFI := Lib.hid (hfind K kn kc hkn w (Below.refl _ _) hk)
  have hnil : ∀ (w : World) (a : Option Addr), (binOp .eql 26 (.pointer a) (.pointer none)).run Try.prog w = .ok (.bool a.isNone) w := fun w a => by cases a <;> rfl
  clear h hk hF hS hf hfind hkn hno
  go_enter Try.func14, Try.ntmps14
  go_wp2_with (go_at_call 26; refine HFI.out.mono ?_; rintro e w1 ⟨rfl, hb⟩; have HB1 := Lib.hid hb; clear hb)
  go_ret2
  exact ⟨rfl, HB1.out⟩

def AyL (w2 : World) (L : List (List UInt8 × List UInt8)) (v6 : Value) (wr : World) : Prop := ∃ (j : Nat) (z : Int) (G D : Nat → Prop) (P : Nat) (ps : List Pg), v6 = .int .i64 z ∧ z = (j : Int) - 1 ∧ j ≤ L.length ∧ TaW w2 wr G D w2.heap.size P ps (L.drop j)
def AzL (w2 : World) (L : List (List UInt8 × List UInt8)) (v10 : Value) (wr : World) : Prop := ∃ (j : Nat) (G D : Nat → Prop) (P : Nat) (ps : List Pg), v10 = .int .i64 (j : Int) ∧ j ≤ L.length ∧ TaW w2 wr G D w2.heap.size P ps (L.drop j)
set_option maxRecDepth 100000 in
set_option maxHeartbeats 16000000 in
theorem tableAny_law (l : List Act8) (A : Option Addr) (cap : Nat) (w : World) (hl : l.length ≤ maxLen) (hr : RdA8 w w.heap.size A l) (hok : ∀ x ∈ l, x.ok w w.heap.size) :
    Calls Try.prog 5 #[.slice A l.length cap] w (Ans (.bool true) w) := by
  have hnil : ∀ (w : World) (a : Option Addr), (binOp .eql 26 (.pointer a) (.pointer none)).run Try.prog w = .ok (.bool a.isNone) w := fun w a => by cases a <;> rfl
  have AL := Lib.hid alive_table
  obtain ⟨ln, hln⟩ : ∃ n, l.length = n := ⟨_, rfl⟩
  have HBU := Lib.hid (built_any l A ln cap w hln (by omega) hr hok)
  rw [hln]
  obtain ⟨L, hL⟩ : ∃ L, L = bldTo l (min l.length 150) := ⟨_, rfl⟩
  obtain ⟨n, hn⟩ : ∃ n, L.length = n := ⟨_, rfl⟩
  have hn150 : n ≤ 150 := by rw [← hn, hL]; exact Nat.le_trans (bldTo_len _ _) (Nat.min_le_right _ _)
  have hni : (n : Int) ≤ 150 := by omega
  have HL := Lib.hid hL
  have HN := Lib.hid hn
  have H150 := Lib.hid hn150
  clear hl hr hok hln hL hn hn150
  go_enter Try.func5, Try.ntmps5
  go_wp2_with (first
    | (go_at_call 23; refine HBU.out.mono ?_; rintro e w1 ⟨rfl, G0, D0, P0, ps0, hT0⟩
       rw [← HL.out] at hT0
       have HRG := Lib.hid (range_l (range_any hT0.tb none none [] [] 0 0 0 0 150 rfl rfl (fun hn => absurd rfl hn) (fun hn => absurd rfl hn)))
       have hLK := hT0.kv
       have h1 := congrArg List.length hLK
       rw [rangeL_all, show (150 : Int).toNat = 150 from rfl, kv_take_all (by simp only [kv, List.length_map] at h1; have h2 := HN.out; have h3 := H150.out; omega), hLK] at HRG
       have HT0 := Lib.hid hT0
       clear hT0 hLK h1)
    | (go_at_call 17; refine HRG.out.mono ?_; rintro e w2 ⟨A2, cap2, es, rfl, hcp, hrl, hkv, hb⟩
       rw [HN.out] at hcp ⊢
       have HRL := Lib.hid hrl
       have HKV := Lib.hid hkv
       have HB2 := Lib.hid (HT0.out.bel.trans (hb.mono HT0.out.bel.size))
       have hcpi : (n : Int) ≤ (cap2 : Int) := by omega
       clear hcp hrl hkv hb)
    | (go_at_call 8; refine (new_any _).mono ?_; rintro e w3 ⟨rfl, ht, hb⟩
       have HST : Hid (AyL w2 L (.int .i64 ((n : Int) - 1)) w3) := Lib.hid ⟨n, _, _, _, _, _, rfl, rfl, Nat.le_of_eq HN.out.symm, ht, by rw [List.drop_of_length_le (Nat.le_of_eq HN.out)]; rfl, fun j hj => hj.elim (fun e => Nat.le_of_eq e.symm) False.elim, hb⟩
       clear ht hb)
    | fail)
  have HRISE := Lib.hid HT0.out.rise
  have HLENS := Lib.hid HT0.out.lens
  have HES : Hid (es.length = n) := Lib.hid (by have := congrArg List.length HKV.out; rw [HN.out] at this; simpa [kv] using this)
  have HEL : Hid (∀ (j : Nat) (x : Ent), es[j]? = some x → L[j]? = some (x.k, x.r)) := Lib.hid fun (j : Nat) (x : Ent) hx => by rw [← HKV.out]; unfold kv; rw [List.getElem?_map, hx]; rfl
  clear HT0 HRG HBU
  go_loopw [6] (fun v6 wr => AyL w2 L v6 wr) (fun v6 _ => (intOf v6 + 1).toNat)
  case atStart => exact HST.out
  case round =>
    obtain ⟨j1, z, G, D, P, ps, rfl, hz, hj, hT⟩ := hrel
    rw [HN.out] at hj
    have HT := Lib.hid hT
    clear hT
    rcases j1 with _ | j
    · obtain rfl : z = -1 := by omega
      rw [List.drop_zero] at HT
      clear hz hj
      have HRU := Lib.hid (range_l (range_any HT.out.tb none none [] [] 0 0 0 0 150 rfl rfl (fun hn => absurd rfl hn) (fun hn => absurd rfl hn)))
      have hLK := HT.out.kv
      have h1 := congrArg List.length hLK
      rw [rangeL_all, show (150 : Int).toNat = 150 from rfl, kv_take_all (by simp only [kv, List.length_map] at h1; have h2 := HN.out; have h3 := H150.out; omega), hLK] at HRU
      clear hLK h1
      go_wp2_with (first
        | (go_at_call 17; (with_reducible refine HRU.out.mono ?_); rintro e wA ⟨A3, cap3, es3, rfl, _, hrl, hkv, hb⟩
           rw [HN.out]
           have HRL3 := Lib.hid hrl
           have HKV3 := Lib.hid hkv
           have HBA := Lib.hid hb
           have HES3 : Hid (es3.length = n) := Lib.hid (by have := congrArg List.length hkv; rw [HN.out] at this; simpa [kv] using this)
           clear hrl hkv hb)
        | (go_at_call 19; (with_reducible refine (told_any es3 A3 n cap3 HES3.out (Nat.le_trans H150.out (by decide)) _ HRL3.out).mono ?_); rintro e wB ⟨vB, rfl, ho, hb⟩
           obtain ⟨XB, cB, rfl, _⟩ := ho.2
           rw [HKV3.out] at ho ⊢
           rw [HN.out] at ho ⊢
           have HOB := Lib.hid ho
           have HBB := Lib.hid (HBA.out.trans (hb.mono HBA.out.size))
           clear ho hb)
        | (go_at_call 19; refine (told_any es A2 n cap2 HES.out (Nat.le_trans H150.out (by decide)) _ (HRL.out.below (HT.out.bel.trans (HBB.out.mono HT.out.bel.size)))).mono ?_; rintro e wC ⟨vC, rfl, ho, hb⟩
           obtain ⟨XC, cC, rfl, _⟩ := ho.2
           rw [HKV.out] at ho ⊢
           rw [HN.out] at ho ⊢
           have HOC := Lib.hid ho
           have HOB := Lib.hid (HOB.out.below hb)
           have HBC := Lib.hid (HBB.out.trans (hb.mono HBB.out.size))
           clear ho hb)
        | (go_at_call 18; refine (sameE_any HOB.out.rd HOC.out.rd HN.out HN.out (by have := H150.out; omega) (by have := H150.out; omega)).mono ?_; rintro e wD ⟨rfl, k9, rfl⟩
           have HST2 : Hid (AzL w2 L (.int .i64 0) (wC.drewN k9)) := Lib.hid ⟨0, _, _, _, _, rfl, Nat.zero_le _, HT.out.below (HBC.out.trans ((drewN_below wC k9).mono HBC.out.size))⟩
           rw [decide_eq_true rfl])
        | fail)
      go_loopw [10] (fun v10 wr => AzL w2 L v10 wr) (fun v10 _ => n - (intOf v10).toNat)
      case atStart => exact HST2.out
      case round =>
        obtain ⟨j, G2, D2, P2, ps2, rfl, hj, hT⟩ := hrel
        rw [HN.out] at hj
        have HT2 := Lib.hid hT
        clear hT
        by_cases hlt : j < n
        · have hlti : (j : Int) < (n : Int) := by omega
          have hj0 : 0 ≤ (j : Int) := by omega
          obtain ⟨x, hx⟩ : ∃ x, es[j]? = some x := ⟨_, List.getElem?_eq_getElem (by rw [HES.out]; exact hlt)⟩
          have hxL := HEL.out j x hx
          obtain ⟨b, o, hA, c0, c1⟩ := HRL.out.at_ hx HT2.out.bel
          subst hA
          obtain ⟨kn, hkn⟩ : ∃ kn, x.k.length = kn := ⟨_, rfl⟩
          obtain ⟨rn, hrn⟩ : ∃ rn, x.r.length = rn := ⟨_, rfl⟩
          have HKN := Lib.hid hkn
          have HRN := Lib.hid hrn
          have HAT : Hid (∀ W, Below w2.heap.size w2 W → W.cell? ⟨b, o + j * 2, none⟩ = some (.slice x.kA kn x.kc) ∧ W.cell? ⟨b, o + j * 2 + 1, none⟩ = some (.slice x.rA rn x.rc)) := Lib.hid fun W hb => by
            obtain ⟨b', o', hA', d0, d1⟩ := HRL.out.at_ hx hb
            injection hA' with hA'
            injection hA' with hA1 hA2
            subst hA1 hA2
            rw [hkn] at d0
            rw [hrn] at d1
            exact ⟨d0, d1⟩
          have HKEY : Hid (∀ W, Below w2.heap.size w2 W → RdB W W.heap.size x.kA x.k) := Lib.hid fun W hb => (HRL.out.below hb).key x (List.mem_of_getElem? hx)
          have HROW : Hid (∀ W, Below w2.heap.size w2 W → RdB W W.heap.size x.rA x.r) := Lib.hid fun W hb => (HRL.out.below hb).row x (List.mem_of_getElem? hx)
          have HD1 := Lib.hid (HT2.out.drop x.k x.kA kn x.kc hkn (HKEY.out _ HT2.out.bel))
          rw [drop_cons hxL] at HD1
          have HGS : Hid (getK ((x.k, x.r) :: L.drop (j + 1)) x.k = some x.r ∧ dropK ((x.k, x.r) :: L.drop (j + 1)) x.k = L.drop (j + 1)) := Lib.hid ⟨drop_front.2, drop_front.1⟩
          have HMISS : Hid (getK (L.drop (j + 1)) x.k = none) := Lib.hid (put_front (r := []) (drop_less HRISE.out hxL)).2
          have HNX : Hid (∀ G' D' P' ps' W6, TaW w2 W6 G' D' w2.heap.size P' ps' (L.drop (j + 1)) → ∀ v10, v10 = .int .i64 ((j + 1 : Nat) : Int) → AzL w2 L v10 W6) := Lib.hid fun G' D' P' ps' W6 h v10 h10 => ⟨j + 1, G', D', P', ps', h10, by rw [HN.out]; exact hlt, h⟩
          have hsn : ((sB x.r).toList != (sB x.r).toList) = false := by simp
          rw [hkn] at c0
          rw [hrn] at c1
          clear hx hxL hkn hrn hj
          go_wp2_with (first
            | (go_at_call 14; (with_reducible refine HD1.out.mono ?_); rintro e w5 ⟨G5, D5, P5, ps5, A5, n5, c5, rfl, hT5, hr5, hn5⟩
               rw [HGS.out.1] at hr5 hn5 ⊢
               rw [HGS.out.2] at hT5
               have hn5' : rn = n5 := HRN.out.symm.trans hn5
               subst hn5'
               have HT5 := Lib.hid hT5
               have HR5 : Hid (RdB w5 w5.heap.size A5 x.r) := Lib.hid hr5
               clear c0 c1
               obtain ⟨c0, c1⟩ := HAT.out w5 hT5.bel
               have HD2 := Lib.hid (drop_miss hT5.tb x.k x.kA kn x.kc HKN.out (HKEY.out _ hT5.bel) (by rw [hT5.kv]; exact HMISS.out))
               clear hT5 hr5 hn5)
            | (go_at_call 14; (with_reducible refine HD2.out.mono ?_); rintro e w6 ⟨rfl, hb⟩
               have HR5 := Lib.hid ((HR5.out.below hb (Nat.le_refl _)).more hb.size)
               have HT6 := Lib.hid (HT5.out.below hb)
               have HB6 := Lib.hid HT6.out.bel
               clear hb)
            | fail)
          have hSS : (fun W => W.cell? ⟨b, o + j * 2 + 1, none⟩ = some (.slice x.rA rn x.rc) ∧ (convert 23 9 (.slice A5 rn c5)).run Try.prog W = .ok (.string (sB x.r)) W ∧ (convert 23 9 (.slice x.rA rn x.rc)).run Try.prog W = .ok (.string (sB x.r)) W) w6.drew := ⟨(HAT.out _ (HB6.out.trans ((drew_below w6).mono HB6.out.size))).2, conv_rd ((HR5.out.below (drew_below w6) (Nat.le_refl _)).more (drew_below w6).size) HRN.out (sB x.r) (sB_list _), conv_rd (HROW.out _ (HB6.out.trans ((drew_below w6).mono HB6.out.size))) HRN.out (sB x.r) (sB_list _)⟩
          refine wp_region_held_drew (S := (fun W => W.cell? ⟨b, o + j * 2 + 1, none⟩ = some (.slice x.rA rn x.rc) ∧ (convert 23 9 (.slice A5 rn c5)).run Try.prog W = .ok (.string (sB x.r)) W ∧ (convert 23 9 (.slice x.rA rn x.rc)).run Try.prog W = .ok (.string (sB x.r)) W)) (by kernel_rfl) hSS (fun _ => ?_)
          refine wpAnyH_take (i := 0) (oi := ({ dst := some 79, op := Go.Op.move (Go.Operand.tmp 12), type := 4, pos := "law.go:188", after := #[], guard := none } : Oper)) (v := ?v0x1) rfl (by kernel_rfl) (by kernel_rfl) (by kernel_rfl) (fun _ _ _ h => h) (Or.inl ⟨by rfl, ?hy0x1⟩) hSS ?rest0x1
          case hy0x1 =>
            intro W0 hSw
            obtain ⟨s1, s2, s3⟩ := hSw
            go_simp
            first | done | with_reducible rfl
          try simp only [Act.put, List.setIfInBounds_toArray, List.set_cons_zero, List.set_cons_succ]
          refine wpAnyH_take (i := 1) (oi := ({ dst := some 80, op := Go.Op.unOp Go.UnOp.not 4 (Go.Operand.tmp 79), type := 4, pos := "law.go:188", after := #[{ on := 0, ground := Go.Ground.data }], guard := none } : Oper)) (v := ?v1x2) rfl (by kernel_rfl) (by kernel_rfl) (by kernel_rfl) (fun _ _ _ h => h) (Or.inl ⟨by rfl, ?hy1x2⟩) hSS ?rest1x2
          case hy1x2 =>
            intro W0 hSw
            obtain ⟨s1, s2, s3⟩ := hSw
            go_simp
            first | done | with_reducible rfl
          try simp only [Act.put, List.setIfInBounds_toArray, List.set_cons_zero, List.set_cons_succ]
          refine wpAnyH_take (i := 2) (oi := ({ dst := some 81, op := Go.Op.move (Go.Operand.tmp 80), type := 4, pos := "law.go:188", after := #[{ on := 1, ground := Go.Ground.data }], guard := none } : Oper)) (v := ?v2x3) rfl (by kernel_rfl) (by kernel_rfl) (by kernel_rfl) (fun _ _ _ h => h) (Or.inl ⟨by rfl, ?hy2x3⟩) hSS ?rest2x3
          case hy2x3 =>
            intro W0 hSw
            obtain ⟨s1, s2, s3⟩ := hSw
            go_simp
            first | done | with_reducible rfl
          try simp only [Act.put, List.setIfInBounds_toArray, List.set_cons_zero, List.set_cons_succ]
          refine wpAnyH_take (i := 3) (oi := ({ dst := some 82, op := Go.Op.move (Go.Operand.tmp 14), type := 4, pos := "law.go:188", after := #[{ on := 2, ground := Go.Ground.guard }], guard := some (2, false) } : Oper)) (v := ?v3x4) rfl (by kernel_rfl) (by kernel_rfl) (by kernel_rfl) (fun _ _ _ h => h) (Or.inl ⟨by rfl, ?hy3x4⟩) hSS ?rest3x4
          case hy3x4 =>
            intro W0 hSw
            obtain ⟨s1, s2, s3⟩ := hSw
            go_simp
            first | done | with_reducible rfl
          try simp only [Act.put, List.setIfInBounds_toArray, List.set_cons_zero, List.set_cons_succ]
          refine wpAnyH_take (i := 4) (oi := ({ dst := some 83, op := Go.Op.pick (Go.Operand.tmp 81) (Go.Operand.const (Go.Value.bool true)) (Go.Operand.tmp 82), type := 4, pos := "law.go:188", after := #[{ on := 2, ground := Go.Ground.data }, { on := 3, ground := Go.Ground.data }], guard := none } : Oper)) (v := ?v4x5) rfl (by kernel_rfl) (by kernel_rfl) (by kernel_rfl) (fun _ _ _ h => h) (Or.inl ⟨by rfl, ?hy4x5⟩) hSS ?rest4x5
          case hy4x5 =>
            intro W0 hSw
            obtain ⟨s1, s2, s3⟩ := hSw
            go_simp
            first | done | with_reducible rfl
          try simp only [Act.put, List.setIfInBounds_toArray, List.set_cons_zero, List.set_cons_succ]
          refine wpAnyH_take (i := 5) (oi := ({ dst := some 84, op := Go.Op.move (Go.Operand.tmp 83), type := 4, pos := "law.go:188", after := #[{ on := 4, ground := Go.Ground.data }, { on := 2, ground := Go.Ground.chain }], guard := none } : Oper)) (v := ?v5x6) rfl (by kernel_rfl) (by kernel_rfl) (by kernel_rfl) (fun _ _ _ h => h) (Or.inl ⟨by rfl, ?hy5x6⟩) hSS ?rest5x6
          case hy5x6 =>
            intro W0 hSw
            obtain ⟨s1, s2, s3⟩ := hSw
            go_simp
            first | done | with_reducible rfl
          try simp only [Act.put, List.setIfInBounds_toArray, List.set_cons_zero, List.set_cons_succ]
          refine wpAnyH_take (i := 6) (oi := ({ dst := some 85, op := Go.Op.move (Go.Operand.tmp 11), type := 23, pos := "law.go:188", after := #[{ on := 5, ground := Go.Ground.guard }], guard := some (5, false) } : Oper)) (v := ?v6x7) rfl (by kernel_rfl) (by kernel_rfl) (by kernel_rfl) (fun _ _ _ h => h) (Or.inl ⟨by rfl, ?hy6x7⟩) hSS ?rest6x7
          case hy6x7 =>
            intro W0 hSw
            obtain ⟨s1, s2, s3⟩ := hSw
            go_simp
            first | done | with_reducible rfl
          try simp only [Act.put, List.setIfInBounds_toArray, List.set_cons_zero, List.set_cons_succ]
          refine wpAnyH_take (i := 7) (oi := ({ dst := some 86, op := Go.Op.convert 23 9 (Go.Operand.tmp 85), type := 9, pos := "law.go:188", after := #[{ on := 6, ground := Go.Ground.data }, { on := 5, ground := Go.Ground.guard }], guard := some (5, false) } : Oper)) (v := ?v7x8) rfl (by kernel_rfl) (by kernel_rfl) (by kernel_rfl) (fun _ _ _ h => h) (Or.inl ⟨by rfl, ?hy7x8⟩) hSS ?rest7x8
          case hy7x8 =>
            intro W0 hSw
            obtain ⟨s1, s2, s3⟩ := hSw
            go_simp
            first | done | with_reducible rfl
          try simp only [Act.put, List.setIfInBounds_toArray, List.set_cons_zero, List.set_cons_succ]
          refine wpAnyH_take (i := 8) (oi := ({ dst := some 87, op := Go.Op.move (Go.Operand.tmp 4), type := 40, pos := "law.go:188", after := #[{ on := 5, ground := Go.Ground.guard }], guard := some (5, false) } : Oper)) (v := ?v8x9) rfl (by kernel_rfl) (by kernel_rfl) (by kernel_rfl) (fun _ _ _ h => h) (Or.inl ⟨by rfl, ?hy8x9⟩) hSS ?rest8x9
          case hy8x9 =>
            intro W0 hSw
            obtain ⟨s1, s2, s3⟩ := hSw
            go_simp
            first | done | with_reducible rfl
          try simp only [Act.put, List.setIfInBounds_toArray, List.set_cons_zero, List.set_cons_succ]
          refine wpAnyH_take (i := 9) (oi := ({ dst := some 88, op := Go.Op.move (Go.Operand.tmp 10), type := 3, pos := "law.go:188", after := #[{ on := 5, ground := Go.Ground.guard }], guard := some (5, false) } : Oper)) (v := ?v9x10) rfl (by kernel_rfl) (by kernel_rfl) (by kernel_rfl) (fun _ _ _ h => h) (Or.inl ⟨by rfl, ?hy9x10⟩) hSS ?rest9x10
          case hy9x10 =>
            intro W0 hSw
            obtain ⟨s1, s2, s3⟩ := hSw
            go_simp
            first | done | with_reducible rfl
          try simp only [Act.put, List.setIfInBounds_toArray, List.set_cons_zero, List.set_cons_succ]
          refine wpAnyH_take (i := 10) (oi := ({ dst := some 89, op := Go.Op.indexAddr 40 (Go.Operand.tmp 87) (Go.Operand.tmp 88), type := 0, pos := "law.go:188", after := #[{ on := 8, ground := Go.Ground.data }, { on := 9, ground := Go.Ground.data }, { on := 5, ground := Go.Ground.guard }], guard := some (5, false) } : Oper)) (v := ?v10x11) rfl (by kernel_rfl) (by kernel_rfl) (by kernel_rfl) (fun _ _ _ h => h) (Or.inl ⟨by rfl, ?hy10x11⟩) hSS ?rest10x11
          case hy10x11 =>
            intro W0 hSw
            obtain ⟨s1, s2, s3⟩ := hSw
            go_simp
            first | done | with_reducible rfl
          try simp only [Act.put, List.setIfInBounds_toArray, List.set_cons_zero, List.set_cons_succ]
          refine wpAnyH_take (i := 11) (oi := ({ dst := some 90, op := Go.Op.fieldAddr 46 (Go.Operand.tmp 89) 1, type := 0, pos := "law.go:188", after := #[{ on := 10, ground := Go.Ground.data }, { on := 5, ground := Go.Ground.guard }], guard := some (5, false) } : Oper)) (v := ?v11x12) rfl (by kernel_rfl) (by kernel_rfl) (by kernel_rfl) (fun _ _ _ h => h) (Or.inl ⟨by rfl, ?hy11x12⟩) hSS ?rest11x12
          case hy11x12 =>
            intro W0 hSw
            obtain ⟨s1, s2, s3⟩ := hSw
            go_simp
            first | done | with_reducible rfl
          try simp only [Act.put, List.setIfInBounds_toArray, List.set_cons_zero, List.set_cons_succ]
          refine wpAnyH_take (i := 12) (oi := ({ dst := some 91, op := Go.Op.load 23 (Go.Operand.tmp 90), type := 23, pos := "law.go:188", after := #[{ on := 11, ground := Go.Ground.data }, { on := 5, ground := Go.Ground.guard }], guard := some (5, false) } : Oper)) (v := ?v12x13) rfl (by kernel_rfl) (by kernel_rfl) (by kernel_rfl) (fun _ _ _ h => h) (Or.inl ⟨by rfl, ?hy12x13⟩) hSS ?rest12x13
          case hy12x13 =>
            intro W0 hSw
            obtain ⟨s1, s2, s3⟩ := hSw
            go_simp
            first | done | with_reducible rfl
          try simp only [Act.put, List.setIfInBounds_toArray, List.set_cons_zero, List.set_cons_succ]
          refine wpAnyH_take (i := 13) (oi := ({ dst := some 92, op := Go.Op.convert 23 9 (Go.Operand.tmp 91), type := 9, pos := "law.go:188", after := #[{ on := 12, ground := Go.Ground.data }, { on := 5, ground := Go.Ground.guard }], guard := some (5, false) } : Oper)) (v := ?v13x14) rfl (by kernel_rfl) (by kernel_rfl) (by kernel_rfl) (fun _ _ _ h => h) (Or.inl ⟨by rfl, ?hy13x14⟩) hSS ?rest13x14
          case hy13x14 =>
            intro W0 hSw
            obtain ⟨s1, s2, s3⟩ := hSw
            go_simp
            first | done | with_reducible rfl
          try simp only [Act.put, List.setIfInBounds_toArray, List.set_cons_zero, List.set_cons_succ]
          refine wpAnyH_take (i := 14) (oi := ({ dst := some 93, op := Go.Op.binOp Go.BinOp.neq 9 (Go.Operand.tmp 86) (Go.Operand.tmp 92) 9, type := 4, pos := "law.go:188", after := #[{ on := 7, ground := Go.Ground.data }, { on := 13, ground := Go.Ground.data }, { on := 5, ground := Go.Ground.guard }], guard := some (5, false) } : Oper)) (v := ?v14x15) rfl (by kernel_rfl) (by kernel_rfl) (by kernel_rfl) (fun _ _ _ h => h) (Or.inl ⟨by rfl, ?hy14x15⟩) hSS ?rest14x15
          case hy14x15 =>
            intro W0 hSw
            obtain ⟨s1, s2, s3⟩ := hSw
            go_simp
            first | done | with_reducible rfl
          try simp only [Act.put, List.setIfInBounds_toArray, List.set_cons_zero, List.set_cons_succ]
          refine wpAnyH_take (i := 15) (oi := ({ dst := some 94, op := Go.Op.pick (Go.Operand.tmp 84) (Go.Operand.const (Go.Value.bool true)) (Go.Operand.tmp 93), type := 4, pos := "law.go:188", after := #[{ on := 5, ground := Go.Ground.data }, { on := 14, ground := Go.Ground.data }], guard := none } : Oper)) (v := ?v15x16) rfl (by kernel_rfl) (by kernel_rfl) (by kernel_rfl) (fun _ _ _ h => h) (Or.inl ⟨by rfl, ?hy15x16⟩) hSS ?rest15x16
          case hy15x16 =>
            intro W0 hSw
            obtain ⟨s1, s2, s3⟩ := hSw
            go_simp
            first | done | with_reducible rfl
          try simp only [Act.put, List.setIfInBounds_toArray, List.set_cons_zero, List.set_cons_succ]
          refine wpAnyH_done (by kernel_rfl) ?_ _
          have HZ := Lib.hid (HNX.out _ _ _ _ _ (HT6.out.below (drew_below w6)))
          go_wp2_with fail
          go_roundw
          case rel => first | exact HZ.out _ (by go_num) | ((repeat apply Exists.intro); exact ⟨HZ.out _ (by go_num), rfl⟩)
          case measure => simp [intOf]; omega
        · have hje : j = n := by omega
          have hlti : ¬ (j : Int) < (n : Int) := by omega
          rw [hje, List.drop_of_length_le (Nat.le_of_eq HN.out)] at HT2
          have HLA := Lib.hid (fun W (hb : Below wr.heap.size wr W) => last_n HT2.out.kv (last_nil (HT2.out.below hb).tb))
          have HLE : Hid (∀ W, Below wr.heap.size wr W → Calls Try.prog 21 #[.pointer (some ⟨w2.heap.size, 0, none⟩)] W (Looks (.int .i64 0) W)) := Lib.hid fun W hb => len_any (HT2.out.below hb).tb 0 (by rw [HT2.out.kv]; rfl)
          have HR9 : Hid (∀ W, Below wr.heap.size wr W → Calls Try.prog 17 #[.pointer (some ⟨w2.heap.size, 0, none⟩), .slice none 0 0, .slice none 0 0, .int .i64 9] W (RgN W)) := Lib.hid fun W hb => by
            have h := range_any (HT2.out.below hb).tb none none [] [] 0 0 0 0 9 rfl rfl (fun hn => absurd rfl hn) (fun hn => absurd rfl hn)
            have hk := HT2.out.kv
            have hk2 : kv ((rangeL [] [] (flat ps2)).take (9 : Int).toNat) = [] := by
              rw [rangeL_all]; unfold kv at hk ⊢; rw [List.map_take, hk]; rfl
            exact range_n hk2 h
          clear hlt hj hje
          go_wp2_with (first
            | (go_at_call 25; refine (HLA.out _ (Below.refl _ _)).mono ?_; rintro e w7 ⟨rfl, hb⟩
               have HB7 := Lib.hid (hb.trans ((alloc_below w7 (.cells #[.slice none 0 0, .slice none 0 0] 46)).mono hb.size))
               clear hb)
            | (go_at_call 9; refine (AL.out _).mono ?_; rintro e w8 ⟨rfl, hb⟩
               have HB8 := Lib.hid (HB7.out.trans (hb.mono HB7.out.size))
               clear hb)
            | (go_at_call 21; refine (HLE.out _ HB8.out).mono ?_; rintro e w9 ⟨rfl, rfl⟩)
            | (go_at_call 17; refine (HR9.out _ HB8.out).mono ?_; rintro e w9 ⟨A9, c9, rfl, hb⟩
               have HB9 := Lib.hid (HB8.out.trans (hb.mono HB8.out.size))
               clear hb)
            | fail)
          go_ret
          have hw2 := HB2.out
          have hwr := hw2.trans (HT2.out.bel.mono hw2.size)
          exact ⟨rfl, hwr.trans (HB9.out.mono hwr.size)⟩
    · obtain rfl : z = (j : Int) := by omega
      have hjn : j < n := by omega
      have hji : (j : Int) < (n : Int) := by omega
      have hj0 : 0 ≤ (j : Int) := by omega
      obtain ⟨x, hx⟩ : ∃ x, es[j]? = some x := ⟨_, List.getElem?_eq_getElem (by rw [HES.out]; exact hjn)⟩
      have hxL := HEL.out j x hx
      have hbd := HT.out.bel.trans ((drew_below wr).mono HT.out.bel.size)
      obtain ⟨b, o, hA, c0, c1⟩ := HRL.out.at_ hx hbd
      subst hA
      obtain ⟨kn, hkn⟩ : ∃ kn, x.k.length = kn := ⟨_, rfl⟩
      obtain ⟨rn, hrn⟩ : ∃ rn, x.r.length = rn := ⟨_, rfl⟩
      have HKN := Lib.hid hkn
      have HRN := Lib.hid hrn
      have HAT : Hid (∀ W, Below w2.heap.size w2 W → W.cell? ⟨b, o + j * 2, none⟩ = some (.slice x.kA kn x.kc) ∧ W.cell? ⟨b, o + j * 2 + 1, none⟩ = some (.slice x.rA rn x.rc)) := Lib.hid fun W hb => by
        obtain ⟨b', o', hA', d0, d1⟩ := HRL.out.at_ hx hb
        injection hA' with hA'
        injection hA' with hA1 hA2
        subst hA1 hA2
        rw [hkn] at d0
        rw [hrn] at d1
        exact ⟨d0, d1⟩
      have hpf := put_front (r := x.r) (drop_less HRISE.out hxL)
      have hlens := HLENS.out _ (List.mem_of_getElem? hxL)
      have HPU := Lib.hid ((HT.out.below (drew_below wr)).put (by rw [List.length_drop]; have := HN.out; have := H150.out; omega) x.k x.r x.kA x.rA kn x.kc rn x.rc hkn hrn hlens.1 hlens.2 ((HRL.out.below hbd).key x (List.mem_of_getElem? hx)) ((HRL.out.below hbd).row x (List.mem_of_getElem? hx)))
      unfold TaPut at HPU
      simp only [show getK (L.drop (j + 1)) x.k = none from hpf.2, show putK (L.drop (j + 1)) x.k x.r = L.drop j by rw [drop_cons hxL]; exact hpf.1] at HPU
      have HNX : Hid (∀ G' D' P' ps' W6, TaW w2 W6 G' D' w2.heap.size P' ps' (L.drop j) → ∀ v6, v6 = .int .i64 ((j : Int) - 1) → AyL w2 L v6 W6) := Lib.hid fun G' D' P' ps' W6 h v6 h6 => ⟨j, _, G', D', P', ps', h6, rfl, by rw [HN.out]; omega, h⟩
      rw [hkn] at c0
      rw [hrn] at c1
      clear hx hxL hkn hrn hj hbd hpf hlens hz
      go_wp2_with fail
      go_region_held3 (fun W => W.cell? ⟨b, o + j * 2, none⟩ = some (.slice x.kA kn x.kc) ∧ W.cell? ⟨b, o + j * 2 + 1, none⟩ = some (.slice x.rA rn x.rc))
        (first | exact ⟨c0, c1⟩ | (exact HKP.out) | go_keep)
        (first
          | (go_at_call 12; refine HPU.out.mono ?_; rintro e w6 ⟨G6, D6, P6, ps6, A6, n6, c6, rfl, hT6, _, _⟩
             have HZ := Lib.hid (HNX.out _ _ _ _ w6 hT6)
             have HKP := Lib.hid (HAT.out w6 hT6.bel)
             clear hT6)
          | fail)
      go_wp2_with fail
      go_roundw
      case rel => first | exact HZ.out _ (by go_num) | ((repeat apply Exists.intro); exact ⟨HZ.out _ (by go_num), rfl⟩)
      case measure => simp [intOf]
#print axioms tableAny_law
end Go.Proofs.Ytekipbcfgopmlaa

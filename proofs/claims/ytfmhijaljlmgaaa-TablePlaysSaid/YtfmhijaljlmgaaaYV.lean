/- Layer 8: what a table tells of single keys (ends). -/
import Derived.Test.YtfmhijaljlmgaaaYU
import Derived.Test.YtfmhijaljlmgaaaPZ
namespace Go.Proofs.Ytfmhijaljlmgaaa
open Go.RowKit

theorem getLast_at {R : List (List UInt8 × List UInt8)} (h : R ≠ []) : ∃ (m : Nat) (k r : List UInt8), R.length = m + 1 ∧ R[m]? = some (k, r) ∧ R.getLast? = some (k, r) := by
  have hl := List.length_pos_iff.2 h
  obtain ⟨m, hm⟩ : ∃ m, R.length = m + 1 := ⟨R.length - 1, by omega⟩
  obtain ⟨⟨k, r⟩, hx⟩ : ∃ x, R[m]? = some x := ⟨_, List.getElem?_eq_getElem (by omega)⟩
  exact ⟨m, k, r, hm, hx, by rw [List.getLast?_eq_getElem?, hm, Nat.add_sub_cancel, hx]⟩
theorem own_str {w0 W : World} {B n c : Nat} {A : Option Addr} {l : List (List UInt8 × List UInt8)} (h : OwnS w0 B (.slice A n c) l) (hb : Below w0.heap.size w0 W) {i : Nat} {k r : List UInt8} (hx : l[i]? = some (k, r)) : ∃ b o, A = some ⟨b, o, none⟩ ∧ W.cell? ⟨b, o + i * 2, none⟩ = some (.string (sB k)) ∧ W.cell? ⟨b, o + i * 2 + 1, none⟩ = some (.string (sB r)) :=
  ((h.below hb).rd).at_ hx
/-- behind Last -/
def EnR (w2 : World) (R : List (List UInt8 × List UInt8)) (v8 v9 : Value) (W : World) : Prop := Below w2.heap.size w2 W ∧ ∃ Bx, v8 = .pointer (some ⟨Bx, 0, none⟩) ∧ ((R = [] ∧ v9 = .bool false) ∨ ∃ (m : Nat) (k r : List UInt8) (kn rn : Nat) (kA : Option Addr) (kc : Nat) (rA : Option Addr) (rc : Nat), R.length = m + 1 ∧ R[m]? = some (k, r) ∧ k.length = kn ∧ r.length = rn ∧ v9 = .bool true ∧ W.heap[Bx]? = some (.cells #[.slice kA kn kc, .slice rA rn rc] 46 (0, 0)) ∧ OwnB W w2.heap.size (.slice kA kn kc) k ∧ OwnB W w2.heap.size (.slice rA rn rc) r)
set_option maxRecDepth 100000 in
set_option maxHeartbeats 16000000 in
theorem ends_any {w0 w : World} {G D : Nat → Prop} {q P : Nat} {ps : List Pg} {L : List (List UInt8 × List UInt8)} (h : TaW w0 w G D q P ps L) (hL : L.length ≤ 150) {A : Option Addr} {n cap : Nat} (hr : RdS w w.heap.size A L) (hn : L.length = n) (f t : List UInt8) (F T : Option Addr) (fn fc tn tc : Nat) (most : Int) (hfn : f.length = fn) (htn : t.length = tn) (hrf : RdB w w.heap.size F f) (hrt : RdB w w.heap.size T t) :
    Calls Try.prog 18 #[.pointer (some ⟨q, 0, none⟩), .slice A n cap, .agg #[.slice F fn fc, .slice T tn tc, .int .i64 most]] w (Ans (.bool true) w) := by
  obtain ⟨W1, hW1⟩ : ∃ W1, W1 = w.alloc (.cells #[.slice F fn fc, .slice T tn tc, .int .i64 most] 25) := ⟨_, rfl⟩
  have hb1 : Below w.heap.size w W1 := by rw [hW1]; exact alloc_below _ _
  have hs1 : W1.heap.size = w.heap.size + 1 := by rw [hW1]; simp
  have hbx1 : W1.heap[w.heap.size]? = some (.cells #[.slice F fn fc, .slice T tn tc, .int .i64 most] 25 (0, 0)) := by rw [hW1]; exact heap_alloc_new w _
  have HBX : Hid (∀ W, Below W1.heap.size W1 W → W.cell? ⟨w.heap.size, 0, none⟩ = some (.slice F fn fc) ∧ W.cell? ⟨w.heap.size, 1, none⟩ = some (.slice T tn tc) ∧ W.cell? ⟨w.heap.size, 2, none⟩ = some (.int .i64 most)) := Lib.hid fun W hb => box3Y ((hb.block _ (by omega)).trans hbx1)
  have HB1 := Lib.hid hb1
  have HS1 := Lib.hid hs1
  have HW1 := Lib.hid hW1
  have HCF : Hid (∀ W, Below w.heap.size w W → (convert 23 9 (.slice F fn fc)).run Try.prog W = .ok (.string (sB f)) W) := Lib.hid fun W hb => conv_rd ((hrf.below hb (Nat.le_refl _)).more hb.size) hfn (sB f) (sB_list f)
  have HCT : Hid (∀ W, Below w.heap.size w W → (convert 23 9 (.slice T tn tc)).run Try.prog W = .ok (.string (sB t)) W) := Lib.hid fun W hb => conv_rd ((hrt.below hb (Nat.le_refl _)).more hb.size) htn (sB t) (sB_list t)
  obtain ⟨R, hR⟩ : ∃ R, R = rangeK [] t L := ⟨_, rfl⟩
  have hRl : R.length ≤ 150 := by rw [hR]; exact Nat.le_trans (rangeK_len _ _ _) hL
  have HRR : Hid (Calls Try.prog 16 #[.slice A n cap, .string ⟨#[]⟩, .string (sB t), .int .i64 150] W1 (SnT W1 R)) := Lib.hid (by
    have h1 := refRange_any (cap := cap) [] t 150 ((hr.below hb1 (Nat.le_refl _)).more hb1.size) hn (by omega)
    rw [← hR, List.take_of_length_le (by show R.length ≤ (150 : Int).toNat; exact hRl)] at h1
    exact h1)
  have HLA : Hid (∀ W, Below w.heap.size w W → Calls Try.prog 27 #[.pointer (some ⟨q, 0, none⟩), .slice T tn tc] W (LastT W R)) := Lib.hid fun W hb => by
    have h1 := last_every (h.below hb).tb t T tn tc htn ((hrt.below hb (Nat.le_refl _)).more hb.size)
    rw [kv_range, (h.below hb).kv, ← hR] at h1
    exact h1
  have HGE : Hid (∀ W, Below w.heap.size w W → ∀ (key : List UInt8) (K : Option Addr) (kn kc : Nat), key.length = kn → RdB W W.heap.size K key → Calls Try.prog 28 #[.pointer (some ⟨q, 0, none⟩), .slice K kn kc] W (GetT W L key)) := Lib.hid fun W hb key K kn kc hkn hk => by
    have h1 := get_any (h.below hb).tb key K kn kc hkn hk
    rw [(h.below hb).kv] at h1
    exact h1
  have HFI : Hid (∀ W, Below w.heap.size w W → Calls Try.prog 7 #[.slice A n cap, .string (sB f)] W (Looks (.int .i64 (fndZ L f)) W)) := Lib.hid fun W hb => refFind_any f ((hr.below hb (Nat.le_refl _)).more hb.size) hn (by omega)
  have HRL : Hid (∀ W, Below w.heap.size w W → RdS W W.heap.size A L) := Lib.hid fun W hb => (hr.below hb (Nat.le_refl _)).more hb.size
  have HPAIR := Lib.hid h.pair
  have HN := Lib.hid hn
  have HFN := Lib.hid (And.intro hfn hrf)
  have hni : (n : Int) ≤ 150 := by omega
  have HRN := Lib.hid hRl
  obtain ⟨x0, x1, x2⟩ := HBX.out W1 (Below.refl _ _)
  have cvT := HCT.out W1 hb1
  obtain ⟨fz, hfz⟩ : ∃ z, fndZ L f = z := ⟨_, rfl⟩
  have hgf : (getK L f).isSome = decide (0 ≤ fz) := by rw [fnd_is, hfz]
  rw [hfz] at HFI
  have HGF := Lib.hid hgf
  clear h hL hr hn hfn htn hrf hrt hb1 hs1 hbx1 hR hRl hW1 hfz hgf
  go_enter Try.func18, Try.ntmps18
  go_upto_region 1 with fail
  rw [← HW1.out]
  go_upto_region 2 with (go_at_call 16; refine HRR.out.mono ?_; rintro e w2 ⟨v2, rfl, ho, hb⟩
                         obtain ⟨X, cX, rfl, _⟩ := ho.2
                         have HO2 := Lib.hid ho
                         have HB2 := Lib.hid hb
                         clear ho hb)
  have hb2 : Below w.heap.size w w2 := HB1.out.trans (HB2.out.mono HB1.out.size)
  have HBW2 := Lib.hid hb2
  have HLW := Lib.hid (HLA.out w2 hb2)
  obtain ⟨Rl, hRl⟩ : ∃ n, R.length = n := ⟨_, rfl⟩
  rw [hRl] at HO2 HRN ⊢
  have HRL2 := Lib.hid hRl
  clear hb2 x0 x1 x2 cvT hRl
  obtain ⟨x0, x1, x2⟩ := HBX.out w2 HB2.out
  go_cut [8, 9] (fun v8 v9 W => EnR w2 R v8 v9 W)
  case first =>
    by_cases hR : R = []
    · have HL := Lib.hid (last_n hR HLW.out)
      have HR0 := Lib.hid hR
      clear hR
      go_wp2_with (go_at_call 27; refine HL.out.mono ?_; rintro e w3 ⟨rfl, hb⟩
                   have HZ : Hid (∀ W, Below w3.heap.size w3 W → EnR w2 R (.pointer (some ⟨w3.heap.size, 0, none⟩)) (.bool false) W) := Lib.hid fun W hb4 => ⟨hb.trans (hb4.mono hb.size), _, rfl, .inl ⟨HR0.out, rfl⟩⟩
                   clear hb)
      go_meet
      exact HZ.out _ (alloc_below _ _)
    · obtain ⟨m, k, r, hm, hx, hgl⟩ := getLast_at hR
      obtain ⟨kn, hkn⟩ : ∃ n, k.length = n := ⟨_, rfl⟩
      obtain ⟨rn, hrn⟩ : ∃ n, r.length = n := ⟨_, rfl⟩
      have HL := Lib.hid (last_y hgl hkn hrn HLW.out)
      have HX := Lib.hid (And.intro hm (And.intro hx (And.intro hkn hrn)))
      clear hR hm hx hgl hkn hrn
      go_wp2_with (go_at_call 27; refine HL.out.mono ?_; rintro e w3 ⟨kA, kc, rA, rc, rfl, hok, hor, hb⟩
                   have HZ : Hid (∀ W, W = w3.alloc (.cells #[.slice kA kn kc, .slice rA rn rc] 46) → EnR w2 R (.pointer (some ⟨w3.heap.size, 0, none⟩)) (.bool true) W) := Lib.hid fun W hW => by
                     subst hW
                     have hb4 := alloc_below w3 (.cells #[.slice kA kn kc, .slice rA rn rc] 46)
                     exact ⟨hb.trans (hb4.mono hb.size), _, rfl, .inr ⟨m, k, r, kn, rn, kA, kc, rA, rc, HX.out.1, HX.out.2.1, HX.out.2.2.1, HX.out.2.2.2, rfl, heap_alloc_new _ _, hok.below hb4, hor.below hb4⟩⟩
                   clear hok hor hb)
      go_meet
      exact HZ.out _ rfl
  case rest =>
    obtain ⟨hb4, Bx, rfl, hcases⟩ := hcut
    clear x0 x1 x2
    obtain ⟨W4, hW4, hbw4⟩ : ∃ W, W = wc ∧ Below w2.heap.size w2 W := ⟨_, rfl, hb4⟩
    subst hW4
    have HB4 := Lib.hid (HB2.out.trans (hbw4.mono HB2.out.size))
    have HB24 := Lib.hid hbw4
    clear hb4 hbw4
    go_upto_region 3 with fail
    go_cut [60] (fun v60 W => v60 = .bool false ∧ Below W1.heap.size W1 W)
    case first =>
      rcases hcases with ⟨hR, rfl⟩ | ⟨m, k, r, kn, rn, kA, kc, rA, rc, hm, hx, hkn, hrn, rfl, hbx, hok, hor⟩
      · have hl0 : Rl = 0 := by rw [← HRL2.out, hR]; rfl
        subst hl0
        clear hR
        go_wp2_with fail
        go_quiet (fail)
        go_wp2_with fail
        go_meet
        exact ⟨rfl, HB4.out.trans ((drewN_below _ _).mono HB4.out.size)⟩
      · have hl0 : Rl = m + 1 := by rw [← HRL2.out, hm]
        subst hl0
        have hmi : (m : Int) + 1 ≤ 150 := by have := HRN.out; omega
        have HMM := Lib.hid hm
        obtain ⟨b, o, hA, _, _⟩ := own_str HO2.out HB24.out hx
        subst hA
        have y : ∀ j, (W4.drewN j).cell? ⟨b, o + m * 2, none⟩ = some (.string (sB k)) ∧ (W4.drewN j).cell? ⟨b, o + m * 2 + 1, none⟩ = some (.string (sB r)) := fun j => by
          obtain ⟨b', o', e1, e2, e3⟩ := own_str HO2.out (HB24.out.trans ((drewN_below W4 j).mono HB24.out.size)) hx
          injection e1 with e1
          injection e1 with e1 e4
          subst e1 e4
          exact ⟨e2, e3⟩
        have y0 := fun j => (y j).1
        have y1 := fun j => (y j).2
        have z0 : ∀ j, (W4.drewN j).cell? ⟨Bx, 0, none⟩ = some (.slice kA kn kc) := fun j => (box2 hbx).1
        have z1 : ∀ j, (W4.drewN j).cell? ⟨Bx, 1, none⟩ = some (.slice rA rn rc) := fun j => (box2 hbx).2
        have cv0 : ∀ j, (convert 23 9 (.slice kA kn kc)).run Try.prog (W4.drewN j) = .ok (.string (sB k)) (W4.drewN j) := fun j => conv_ownS (hok.below (drewN_below W4 j)) (sB k) (sB_list k)
        have cv1 : ∀ j, (convert 23 9 (.slice rA rn rc)).run Try.prog (W4.drewN j) = .ok (.string (sB r)) (W4.drewN j) := fun j => conv_ownS (hor.below (drewN_below W4 j)) (sB r) (sB_list r)
        have hwm : IntKind.i64.wrap (m : Int) = (m : Int) := by rw [IntKind.wrap_i64]; omega
        have hmm : m < m + 1 := Nat.lt_succ_self m
        obtain ⟨sk, hsk⟩ : ∃ s, s = sB k := ⟨_, rfl⟩
        obtain ⟨sr, hsr⟩ : ∃ s, s = sB r := ⟨_, rfl⟩
        rw [← hsk] at y0 cv0
        rw [← hsr] at y1 cv1
        clear hx hkn hrn hbx hok hor y hsk hsr hm
        go_wp2_with fail
        go_quiet (fail)
        go_wp2_with fail
        go_meet
        exact ⟨rfl, HB4.out.trans ((drewN_below _ _).mono HB4.out.size)⟩
    case rest =>
      obtain ⟨rfl, hb⟩ := hcut
      have HBC := Lib.hid hb
      clear hcases hb
      go_wp2_with fail
      go_loopw [10] (fun v10 wr => ∃ i : Nat, v10 = .int .i64 (i : Int) ∧ i ≤ n ∧ Below W1.heap.size W1 wr) (fun v10 _ => n - (intOf v10).toNat)
      case atStart => exact ⟨0, rfl, Nat.zero_le _, HBC.out⟩
      case round =>
        obtain ⟨i, rfl, hi, hb⟩ := hrel
        have HBR := Lib.hid hb
        have HBW : Hid (Below w.heap.size w wr) := Lib.hid (HB1.out.trans (hb.mono HB1.out.size))
        by_cases hlt : i < n
        · have hlti : (i : Int) < (n : Int) := by omega
          have hi0 : 0 ≤ (i : Int) := by omega
          obtain ⟨x, hx⟩ : ∃ x, L[i]? = some x := ⟨_, List.getElem?_eq_getElem (by rw [HN.out]; exact hlt)⟩
          obtain ⟨b, o, hA, c0, c1⟩ := (HRL.out _ HBW.out).at_ hx
          subst hA
          obtain ⟨W2, cap2, hcv, hcells, hb2, hcap2, _⟩ := conv_bytes (sB x.1) wr
          obtain ⟨sz, hsz⟩ : ∃ sz, (sB x.1).size = sz := ⟨_, rfl⟩
          rw [hsz] at hcv
          have hlen : x.1.length = sz := by rw [← hsz]; simp [sB, ByteArray.size]
          have hrd : RdB W2 W2.heap.size (some ⟨wr.heap.size, 0, none⟩) x.1 := fun hn => by
            have hc0 := fun j c h => hcells j c (by rw [sB_list]; exact h)
            obtain ⟨d, hd⟩ : ∃ d, x.1[0]? = some d := ⟨_, List.getElem?_eq_getElem (List.length_pos_iff.2 hn)⟩
            exact ⟨_, rfl, cell_lt (hc0 0 d hd), fun j c h => by rw [Addr.add_lit, Nat.zero_add]; exact hc0 j c h⟩
          have hbw2 : Below w.heap.size w W2 := HBW.out.trans (hb2.mono HBW.out.size)
          have HG := Lib.hid (HGE.out W2 hbw2 x.1 (some ⟨wr.heap.size, 0, none⟩) sz cap2 hlen hrd)
          have hgk : getK L x.1 = some x.2 := getK_mem HPAIR.out (List.mem_of_getElem? hx)
          unfold GetT at HG
          simp only [hgk, Option.getD_some, Option.isSome_some] at HG
          have HB2r : Hid (Below W1.heap.size W1 W2) := Lib.hid (hb.trans (hb2.mono hb.size))
          have HX := Lib.hid hx
          have HI := Lib.hid hlt
          have HCE : Hid (∀ W, Below w.heap.size w W → W.cell? ⟨b, o + i * 2 + 1, none⟩ = some (.string (sB x.2))) := Lib.hid fun W hW => by
            obtain ⟨b', o', hA', d0, d1⟩ := (HRL.out _ hW).at_ hx
            injection hA' with hA'
            injection hA' with e1 e2
            subst e1 e2
            exact d1
          clear hcells hb2 hcap2 hbw2 hlen hrd hgk hx hsz hb hlt hi
          go_upto_region 9 with (go_at_call 28; refine HG.out.mono ?_; rintro e w20 ⟨v, rfl, ho, hb20⟩
                                 obtain ⟨Av, cv, rfl, _⟩ := id ho.2
                                 have HB20 := Lib.hid (HB2r.out.trans (hb20.mono HB2r.out.size))
                                 have HBW20 : Hid (∀ j, Below w.heap.size w (w20.drewN j)) := Lib.hid fun j => HB1.out.trans ((HB20.out.trans ((drewN_below w20 j).mono HB20.out.size)).mono HB1.out.size)
                                 have hcvr : ∀ j, (convert 23 9 (.slice Av x.2.length cv)).run Try.prog (w20.drewN j) = .ok (.string (sB x.2)) (w20.drewN j) := fun j => conv_ownS (ho.below (drewN_below w20 j)) (sB x.2) (sB_list _)
                                 have hce : ∀ j, (w20.drewN j).cell? ⟨b, o + i * 2 + 1, none⟩ = some (.string (sB x.2)) := fun j => HCE.out _ (HBW20.out j)
                                 clear ho hb20)
          obtain ⟨s2, hs2⟩ : ∃ s, s = sB x.2 := ⟨_, rfl⟩
          obtain ⟨xn, hxn⟩ : ∃ m, x.2.length = m := ⟨_, rfl⟩
          rw [← hs2] at hce hcvr
          rw [hxn] at hcvr ⊢
          clear hs2 hxn
          go_quiet (fail)
          go_wp2_with fail
          have HZ : Hid (∀ j, Below W1.heap.size W1 (w20.drewN j)) := Lib.hid fun j => HB20.out.trans ((drewN_below w20 j).mono HB20.out.size)
          go_roundw
          case rel => first | exact ⟨i + 1, by go_num, HI.out, HZ.out _⟩ | ((repeat apply Exists.intro); exact ⟨⟨by go_num, HI.out, HZ.out _⟩, rfl⟩)
          case measure => have := HI.out; simp [intOf]; omega
        · have hie : i = n := by omega
          subst hie
          have hlti : ¬ (i : Int) < (i : Int) := by omega
          obtain ⟨x0, x1, x2⟩ := HBX.out wr HBR.out
          have HG := Lib.hid (HGE.out wr HBW.out f F fn fc HFN.out.1 ((HFN.out.2.below HBW.out (Nat.le_refl _)).more HBW.out.size))
          obtain ⟨gb, hgb⟩ : ∃ b, (getK L f).isSome = b := ⟨_, rfl⟩
          unfold GetT at HG
          rw [hgb] at HG
          have hge : decide (0 ≤ fz) = gb := by rw [← HGF.out, hgb]
          clear hb hi hlt hgb x0 x1 x2
          obtain ⟨x0, x1, x2⟩ := HBX.out wr HBR.out
          cases gb with
          | true =>
            have hfz : 0 ≤ fz := by simpa using hge
            go_wp2_with (first
              | (go_at_call 28; refine HG.out.mono ?_; rintro e w20 ⟨v, rfl, ho, hb20⟩
                 have HB20 := Lib.hid (HBR.out.trans (hb20.mono HBR.out.size))
                 have HBW20 := Lib.hid (HB1.out.trans (HB20.out.mono HB1.out.size))
                 clear x0 x1 x2
                 obtain ⟨x0, x1, x2⟩ := HBX.out w20 HB20.out
                 have cvF := HCF.out w20 HBW20.out
                 clear ho hb20)
              | (go_at_call 7; refine (HFI.out w20 HBW20.out).mono ?_; rintro e w21 ⟨rfl, rfl⟩)
              | fail)
            go_ret
            exact ⟨rfl, HBW20.out⟩
          | false =>
            have hfz : ¬ 0 ≤ fz := by simpa using hge
            go_wp2_with (first
              | (go_at_call 28; refine HG.out.mono ?_; rintro e w20 ⟨v, rfl, ho, hb20⟩
                 have HB20 := Lib.hid (HBR.out.trans (hb20.mono HBR.out.size))
                 have HBW20 := Lib.hid (HB1.out.trans (HB20.out.mono HB1.out.size))
                 clear x0 x1 x2
                 obtain ⟨x0, x1, x2⟩ := HBX.out w20 HB20.out
                 have cvF := HCF.out w20 HBW20.out
                 clear ho hb20)
              | (go_at_call 7; refine (HFI.out w20 HBW20.out).mono ?_; rintro e w21 ⟨rfl, rfl⟩)
              | fail)
            go_ret
            exact ⟨rfl, HBW20.out⟩
end Go.Proofs.Ytfmhijaljlmgaaa

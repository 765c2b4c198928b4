/- Package lex: bytes. -/
import Derived.Test.YtokkbipdkakenaaGreatDoorBF
import Derived.Test.YtokkbipdkakenaaGreatDoorG
namespace Go.Proofs.YtokkbipdkakenaaGreatDoor
open Go.RowKit

theorem apo_index : ∀ l : List UInt8, Lib.indexByte l 39 = (match apoL l with | some z => (z : Int) | none => -1)
  | [] => rfl
  | c :: r => by
    have ih := apo_index r
    unfold Lib.indexByte apoL
    by_cases h : c.toNat = 39
    · have hc : c = 39 := UInt8.toNat_inj.1 h
      subst hc
      rfl
    · have hc : (c == 39) = false := beq_false_of_ne fun e => h (by rw [e]; rfl)
      rw [hc, if_neg h]
      simp only [Bool.false_eq_true, if_false]
      rw [ih]
      cases apoL r with
      | none => rfl
      | some z =>
        simp only [Option.map_some]
        have hz : ((z : Int) == -1) = false := beq_false_of_ne (by omega)
        rw [hz]
        show (z : Int) + 1 = ((z + 1 : Nat) : Int)
        omega
theorem unhexL_none {a b : UInt8} {t : List UInt8} (h : hexN [a, b] = none) : unhexL (a :: b :: t) = none := by
  simp [unhexL, h]
theorem unhexL_some {a b : UInt8} {t : List UInt8} {n : Nat} (h : hexN [a, b] = some n) : unhexL (a :: b :: t) = (unhexL t).map (UInt8.ofNat n :: ·) := by
  simp only [unhexL, h]
  cases unhexL t <;> rfl
theorem hexN_lt' {a b : UInt8} {n : Nat} (h : hexN [a, b] = some n) : n < 256 := by
  unfold hexN at h
  cases ha : hexv a with
  | none => simp [ha] at h
  | some x =>
    cases hb : hexv b with
    | none => simp [ha, hb] at h
    | some y =>
      simp [ha, hb] at h
      have := hexv_lt ha
      have := hexv_lt hb
      omega
theorem drop2_any (s : ByteArray) (w : World) : Calls Tryz.prog 50 #[.string (s.extract 2 s.size), .int .u8 39] w fun e w' => e = .returned (.int .i64 (Lib.indexByte (s.data.toList.drop 2) 39)) ∧ w = w' := by
  refine (Tryz.strings_IndexByte (s.extract 2 s.size) 39 w).mono ?_
  rintro e w' ⟨rfl, rfl⟩
  refine ⟨?_, rfl⟩
  have h : (s.extract 2 s.size).data.toList = s.data.toList.drop 2 := by rw [ext_list, ← size_list' s, List.take_length]
  rw [h]
  rfl
/-- the figures' bytes, z of them from place 2 on -/
def TXB (w : World) (s : ByteArray) (z : Nat) (v6 : Value) (wr : World) : Prop := ∃ (j : Nat) (out : List UInt8), v6 = .int .i64 ((2 + j : Nat) : Int) ∧ j % 2 = 0 ∧ j ≤ z ∧ out.length ≤ j ∧
  unhexL ((s.data.toList.drop 2).take z) = (unhexL (((s.data.toList.drop 2).take z).drop j)).map (out ++ ·) ∧ TB w out wr
theorem map_out (o : Option (List UInt8)) (out : List UInt8) (c : UInt8) : (o.map (c :: ·)).map (out ++ ·) = o.map ((out ++ [c]) ++ ·) := by
  cases o with
  | none => rfl
  | some x => simp
theorem two_at (s : ByteArray) (z j : Nat) (h : 2 + z ≤ s.size) (hj : j + 1 < z) : ∃ a b, s.extract (2 + j) (2 + j + 2) = ⟨#[a, b]⟩ ∧ ((s.data.toList.drop 2).take z).drop j = a :: b :: ((s.data.toList.drop 2).take z).drop (j + 2) := by
  have hl := size_list' s
  have hM : ((s.data.toList.drop 2).take z).length = z := by simp; omega
  obtain ⟨M, hMd⟩ : ∃ M, M = (s.data.toList.drop 2).take z := ⟨_, rfl⟩
  rw [← hMd] at hM ⊢
  have h1 : M.drop j = M[j] :: M.drop (j + 1) := List.drop_eq_getElem_cons (by omega)
  have h2 : M.drop (j + 1) = M[j + 1] :: M.drop (j + 2) := List.drop_eq_getElem_cons (by omega)
  refine ⟨M[j], M[j + 1], ?_, by rw [h1, h2]⟩
  rw [ext_of]
  have e : (s.data.toList.take (2 + j + 2)).drop (2 + j) = (M.drop j).take 2 := by
    rw [hMd, List.drop_take, List.drop_take, List.take_take, List.drop_drop, show 2 + j + 2 - (2 + j) = min 2 (z - j) by omega]
  rw [e, h1, h2]
  rfl
def byT (l : List UInt8) (e : Nat) (out : List UInt8) : Tok := ⟨4, l.take e, (5, 0, out), 0⟩
theorem byT_val (s : ByteArray) (e : Nat) (out : List UInt8) : (byT s.data.toList e out).v = .agg #[.int .i64 4, .string (s.extract 0 e), .int .i64 5, .int .i64 0, .string ⟨out.toArray⟩, .int .i64 0] := by
  unfold byT Tok.v
  rw [ext_of s 0 e, List.drop_zero]
  rfl
set_option maxRecDepth 100000 in
set_option maxHeartbeats 4000000 in
theorem bytes_none (s : ByteArray) (h2 : 2 ≤ s.size) (x : Int) (hx : Lib.indexByte (s.data.toList.drop 2) 39 = x) (hbad : (x < 0) ∨ (0 ≤ x ∧ x % 2 = 1) ∨ (0 ≤ x ∧ x % 2 = 0 ∧ 400 < x)) (HN : Hid (bytesT s.data.toList = none)) (w : World) : Calls Tryz.prog 28 #[.string s] w (TkR (bytesT s.data.toList) w) := by
  have HX := Lib.hid (BX.first w #[.int .i64 0, .string ⟨#[]⟩, .int .i64 0, .int .i64 0, .string ⟨#[]⟩, .int .i64 0] 35)
  obtain ⟨r0, r1, r2, r3, r4, r5⟩ := box6 HX.out.box
  have z0 := frozen_b HX.out.box 0
  have z1 := frozen_b HX.out.box 1
  have z2 := frozen_b HX.out.box 2
  have z3 := frozen_b HX.out.box 3
  have z4 := frozen_b HX.out.box 4
  have z5 := frozen_b HX.out.box 5
  have HI := Lib.hid (fun W => drop2_any s W)
  rw [hx] at HI
  have h2i : (2 : Int) ≤ (s.size : Int) := by omega
  clear hx h2
  rcases hbad with hb | ⟨h0, hb⟩ | ⟨h0, hm, hb⟩
  · skip
    go_enter Tryz.func28, Tryz.ntmps28
    go_wp2_with (go_at_call 50; refine (HI.out _).mono ?_; rintro e w2 ⟨rfl, rfl⟩)
    exact bodyPost_ret (v := .tuple #[zeroT.v, .bool false]) (by simp [results, Tryz.results28, go_sem, r0, r1, r2, r3, r4, r5, zeroT, Tok.v, noV]) rfl (TkR.no HN.out rfl HX.out.bel)
  · have g0 : ¬ x < 0 := by omega
    have g1 : (x % 2 == 0) = false := beq_false_of_ne (by omega)
    have g2 : (x % 2 != 0) = true := by simp [bne, g1]
    clear h0 hb
    go_enter Tryz.func28, Tryz.ntmps28
    go_wp2_with (go_at_call 50; refine (HI.out _).mono ?_; rintro e w2 ⟨rfl, rfl⟩)
    exact bodyPost_ret (v := .tuple #[zeroT.v, .bool false]) (by simp [results, Tryz.results28, go_sem, r0, r1, r2, r3, r4, r5, zeroT, Tok.v, noV]) rfl (TkR.no HN.out rfl HX.out.bel)
  · have g0 : ¬ x < 0 := by omega
    have g1 : (x % 2 == 0) = true := by rw [hm]; rfl
    have g2 : (x % 2 != 0) = false := by simp [bne, g1]
    clear h0 hm
    go_enter Tryz.func28, Tryz.ntmps28
    go_wp2_with (go_at_call 50; refine (HI.out _).mono ?_; rintro e w2 ⟨rfl, rfl⟩)
    exact bodyPost_ret (v := .tuple #[zeroT.v, .bool false]) (by simp [results, Tryz.results28, go_sem, r0, r1, r2, r3, r4, r5, zeroT, Tok.v, noV]) rfl (TkR.no HN.out rfl HX.out.bel)
theorem bytesT_x (l : List UInt8) : (∀ z, apoL (l.drop 2) = some z → z % 2 ≠ 0 ∨ 400 < z) → bytesT l = none := by
  intro h
  unfold bytesT
  cases ha : apoL (l.drop 2) with
  | none => rfl
  | some z => simp only; rw [if_pos (h z ha)]
set_option maxRecDepth 100000 in
set_option maxHeartbeats 8000000 in
theorem bytes_some (s : ByteArray) (hs : s.size ≤ 1000) (z : Nat) (hz : apoL (s.data.toList.drop 2) = some z) (h2z : 2 + z + 1 ≤ s.size) (hm : z % 2 = 0) (h4 : z ≤ 400) (w : World) (hE : Env w) : Calls Tryz.prog 28 #[.string s] w (TkR (bytesT s.data.toList) w) := by
  have HE := Lib.hid hE
  have HI := Lib.hid (fun W => drop2_any s W)
  rw [apo_index, hz] at HI
  simp only at HI
  have HB : Hid (bytesT s.data.toList = match unhexL ((s.data.toList.drop 2).take z) with | some b => some (byT s.data.toList (2 + z + 1) b) | none => none) := Lib.hid (by
    unfold bytesT
    rw [hz]
    simp only
    rw [if_neg (by omega)]
    cases unhexL ((s.data.toList.drop 2).take z) <;> rfl)
  have HST : Hid (TXB w s z (.int .i64 2) ((w.alloc (.cells #[.int .i64 0, .string ⟨#[]⟩, .int .i64 0, .int .i64 0, .string ⟨#[]⟩, .int .i64 0] 35)).alloc (.cells #[.pointer none, .slice none 0 0] 72))) := Lib.hid ⟨0, [], rfl, rfl, Nat.zero_le _, Nat.le_refl _, by
    rw [List.drop_zero]; cases unhexL ((s.data.toList.drop 2).take z) <;> rfl, TB.start w⟩
  have HZ := Lib.hid (And.intro hs h2z)
  have HMZ := Lib.hid hm
  have h2i : (2 : Int) ≤ (s.size : Int) := by omega
  have hzi : ¬ (z : Int) < 0 := by omega
  have hz4 : ¬ (400 : Int) < (z : Int) := by omega
  have hz3 : (z : Int) ≤ 400 := by omega
  have hmod : ((z : Int) % 2 == 0) = true := by simp; omega
  have hmod2 : ((z : Int) % 2 != 0) = false := by simp; omega
  clear hE hz hm h4 hs h2z
  go_enter Tryz.func28, Tryz.ntmps28
  go_wp2_with (go_at_call 50; refine (HI.out _).mono ?_; rintro e w2 ⟨rfl, rfl⟩)
  go_loopw [6] (fun v6 wr => TXB w s z v6 wr) (fun v6 _ => 2 + z - (intOf v6).toNat)
  case atStart => exact HST.out
  case round =>
    obtain ⟨j, out, rfl, hev, hj, ho, hq, ht⟩ := hrel
    have HQ := Lib.hid hq
    have HTB := Lib.hid ht
    have HO := Lib.hid ho
    have HEV := Lib.hid hev
    clear hq ht ho hev
    by_cases hlt : j < z
    · have hj1 : j + 1 < z := by have h1 := HEV.out; have h2 := HMZ.out; omega
      obtain ⟨a, b, hab, hM⟩ := two_at s z j (by have := HZ.out; omega) hj1
      have HM := Lib.hid hM
      have hlti : (2 : Int) + (j : Int) < 2 + (z : Int) := by omega
      have hji : (j : Int) < (z : Int) := by omega
      have hj0 : (0 : Int) ≤ 2 + (j : Int) := by omega
      have hj2 : (2 : Int) + (j : Int) + 2 ≤ (s.size : Int) := by have := HZ.out; omega
      have HP := Lib.hid (fun W (h : Env W) => parse16p a b W h)
      have HL1 := Lib.hid (Nat.le_trans HO.out (by omega : j ≤ 100000))
      clear hM hj
      cases hx : hexN [a, b] with
      | none =>
        rw [hx] at HP
        have HN : Hid (bytesT s.data.toList = none) := Lib.hid (by rw [HB.out, HQ.out, HM.out, unhexL_none hx]; rfl)
        clear hx
        go_wp2_with fail
        rw [hab]
        go_wp2_with (go_at_call 51; refine (HP.out _ (HE.out.below HTB.out.bx.bel)).mono ?_; rintro e w2 ⟨hb, N, rfl⟩
                     have HTB := Lib.hid (HTB.out.next hb)
                     obtain ⟨r0, r1, r2, r3, r4, r5⟩ := box6 HTB.out.bx.box
                     have z0 := frozen_b HTB.out.bx.box 0
                     have z1 := frozen_b HTB.out.bx.box 1
                     have z2 := frozen_b HTB.out.bx.box 2
                     have z3 := frozen_b HTB.out.bx.box 3
                     have z4 := frozen_b HTB.out.bx.box 4
                     have z5 := frozen_b HTB.out.bx.box 5
                     clear hb)
        exact bodyPost_ret (v := .tuple #[zeroT.v, .bool false]) (by simp [results, Tryz.results28, go_sem, r0, r1, r2, r3, r4, r5, zeroT, Tok.v, noV]) rfl (TkR.no HN.out rfl (set6_below HTB.out.bx.bel (by omega) _ _ _ _ _ _))
      | some n =>
        rw [hx] at HP
        have hn := hexN_lt' hx
        have n0 : (0 : Int) ≤ (n : Int) := by omega
        have n1 : (n : Int) < 256 := by omega
        have hcn : ((UInt8.ofNat n).toNat : Int) = (n : Int) := by rw [UInt8.toNat_ofNat_of_lt' (by show n < 256; omega)]
        have HWB : Hid (∀ W, TB w out W → Calls Tryz.prog 52 #[.pointer (some ⟨w.heap.size + 1, 0, none⟩), .int .u8 (n : Int)] W fun e W' => e = .returned .nilIface ∧ TB w (out ++ [UInt8.ofNat n]) W') := Lib.hid fun W h => by
          have := writeByte_any w out (UInt8.ofNat n) W h HL1.out
          rwa [hcn] at this
        have HN : Hid (∀ v6 W, v6 = .int .i64 ((2 + (j + 2) : Nat) : Int) → TB w (out ++ [UInt8.ofNat n]) W → TXB w s z v6 W) := Lib.hid fun v6 W h6 hW => by
          refine ⟨j + 2, _, h6, by have := HEV.out; omega, by omega, by have := HO.out; simp; omega, ?_, hW⟩
          rw [HQ.out, HM.out, unhexL_some hx, map_out]
        clear hx hn hcn
        go_wp2_with fail
        rw [hab]
        go_wp2_with (first
          | (go_at_call 51; refine (HP.out _ (HE.out.below HTB.out.bx.bel)).mono ?_; rintro e w2 ⟨hb, rfl⟩
             have HTB := Lib.hid (HTB.out.next hb)
             clear hb)
          | (go_at_call 52; refine (HWB.out _ HTB.out).mono ?_; rintro e w2 ⟨rfl, ht⟩; have HTB := Lib.hid ht; clear ht))
        go_roundw
        case rel => first | exact HN.out _ _ (by go_num) HTB.out | ((repeat apply Exists.intro); exact ⟨HN.out _ _ (by go_num) HTB.out, rfl⟩)
        case measure => simp [intOf]; omega
    · obtain rfl : j = z := by omega
      have hnlt : ¬ (2 : Int) + (j : Int) < 2 + (j : Int) := by omega
      have HN : Hid (bytesT s.data.toList = some (byT s.data.toList (2 + j + 1) out)) := Lib.hid (by
        have hd : ((s.data.toList.drop 2).take j).drop j = [] := List.drop_eq_nil_of_le (by simp; omega)
        rw [HB.out, HQ.out, hd]
        simp [unhexL])
      obtain ⟨e, he⟩ : ∃ e : Nat, e = 2 + j + 1 := ⟨_, rfl⟩
      rw [← he] at HN
      have HT := Lib.hid (fun W => token_any 4 (s.extract 0 e) 5 0 ⟨out.toArray⟩ (by have := HZ.out; rw [ext_size _ _ _ (by omega)]; omega) W)
      have he1 : (e : Int) ≤ (s.size : Int) := by have := HZ.out; omega
      have hw1 : IntKind.i64.wrap (2 + (j : Int)) = 2 + (j : Int) := by rw [IntKind.wrap_i64]; omega
      have hw2 : IntKind.i64.wrap (2 + (j : Int) + 1) = (e : Int) := by rw [IntKind.wrap_i64]; omega
      clear hj hlt he
      go_wp2_with (go_at_call 42; refine (bString_any w out _ HTB.out).mono ?_; rintro e w2 ⟨rfl, ht⟩; have HTB := Lib.hid ht; clear ht)
      go_region_law (go_simp; go_at_call 53; refine (HT.out _).mono ?_; rintro e w3 ⟨rfl, hb⟩
                     have HTB := Lib.hid ((HTB.out.next (alloc_below _ _)).next_d hb)
                     obtain ⟨r0, r1, r2, r3, r4, r5⟩ := box6 HTB.out.bx.box
                     have z0 := frozen_b HTB.out.bx.box 0
                     have z1 := frozen_b HTB.out.bx.box 1
                     have z2 := frozen_b HTB.out.bx.box 2
                     have z3 := frozen_b HTB.out.bx.box 3
                     have z4 := frozen_b HTB.out.bx.box 4
                     have z5 := frozen_b HTB.out.bx.box 5
                     clear hb)
      all_goals
        go_wp2_with fail
        exact bodyPost_ret (v := .tuple #[.agg #[.int .i64 4, .string (s.extract 0 e), .int .i64 5, .int .i64 0, .string ⟨out.toArray⟩, .int .i64 0], .bool true]) (by simp [results, Tryz.results28, go_sem, r0, r1, r2, r3, r4, r5]) rfl (TkR.ok HN.out (byT_val s _ out) (set6_below HTB.out.bx.bel (by omega) _ _ _ _ _ _))
theorem takeBytes_any (s : ByteArray) (hs : s.size ≤ 1000) (h2 : 2 ≤ s.size) (w : World) (hE : Env w) : Calls Tryz.prog 28 #[.string s] w (TkR (bytesT s.data.toList) w) := by
  have hi := apo_index (s.data.toList.drop 2)
  cases hz : apoL (s.data.toList.drop 2) with
  | none =>
    rw [hz] at hi
    simp only at hi
    exact bytes_none s h2 _ hi (.inl (by omega)) (Lib.hid (bytesT_x _ fun z h => by rw [hz] at h; cases h)) w
  | some z =>
    rw [hz] at hi
    simp only at hi
    have hl := apoL_len _ _ hz
    rw [List.length_drop, size_list'] at hl
    by_cases hm : z % 2 = 0
    · by_cases h4 : 400 < z
      · exact bytes_none s h2 _ hi (.inr (.inr ⟨by omega, by omega, by omega⟩)) (Lib.hid (bytesT_x _ fun y h => by rw [hz] at h; injection h with h; subst h; exact .inr h4)) w
      · exact bytes_some s hs z hz (by omega) hm (by omega) w hE
    · exact bytes_none s h2 _ hi (.inr (.inl ⟨by omega, by omega⟩)) (Lib.hid (bytesT_x _ fun y h => by rw [hz] at h; injection h with h; subst h; exact .inl hm)) w
end Go.Proofs.YtokkbipdkakenaaGreatDoor

/- WalTail: the law's own body answers true. -/
import Derived.Test.YtcofacafnokbpaaJQ
import Derived.Test.YtcofacafnokbpaaJU
namespace Go.Proofs.Ytcofacafnokbpaa
open Go.RowKit

theorem splitE_end (b : Nat) (R : List (List UInt8)) : SplitE (placesOf b R) ((b + (bytesOf R).length : Nat) : Int) R.length := by
  have h9 := splitE_all (pre := []) (b := b) R (fun x hx => by cases hx)
  rw [List.nil_append, List.length_nil, Nat.zero_add R.length] at h9
  exact h9
/-- the records among rows of bytes -/
def recsOf (l : List BRow) : List (List UInt8) := (l.map (·.l)).filter (fun r => decide (1 ≤ r.length ∧ r.length ≤ 300))
theorem recsOf_snoc {l : List BRow} {k : Nat} {x : BRow} (h : l[k]? = some x) : recsOf (l.take (k + 1)) = if 1 ≤ x.l.length ∧ x.l.length ≤ 300 then recsOf (l.take k) ++ [x.l] else recsOf (l.take k) := by
  have h1 := List.getElem?_eq_some_iff.1 h
  unfold recsOf
  rw [List.take_succ_eq_append_getElem h1.1, h1.2, List.map_append, List.filter_append]
  by_cases hc : 1 ≤ x.l.length ∧ x.l.length ≤ 300
  · rw [if_pos hc]
    simp [hc]
  · rw [if_neg hc]
    simp [hc]
theorem recsOf_ok (l : List BRow) : ∀ r ∈ recsOf l, 1 ≤ r.length ∧ r.length ≤ 300 := by
  intro r hr
  unfold recsOf at hr
  have := (List.mem_filter.1 hr).2
  simpa using this
theorem bytesOf_most {m : Nat} : ∀ {rs : List (List UInt8)}, (∀ r ∈ rs, r.length ≤ m) → (bytesOf rs).length ≤ rs.length * (m + 5)
  | [], _ => Nat.zero_le _
  | r :: rs, h => by
    rw [bytesOf_cons, List.length_append, frameL_len, List.length_cons, Nat.add_mul]
    have h1 := h r (by simp)
    have h2 := bytesOf_most (rs := rs) (fun x hx => h x (by simp [hx]))
    omega
theorem recsOf_len (l : List BRow) : (recsOf l).length ≤ l.length := by
  unfold recsOf
  exact Nat.le_trans (List.length_filter_le _ _) (by rw [List.length_map]; exact Nat.le_refl _)
theorem recsOf_bytes (l : List BRow) : (bytesOf (recsOf l)).length ≤ l.length * 305 := by
  have h1 := bytesOf_most (m := 300) (fun r hr => (recsOf_ok l r hr).2)
  have h2 := recsOf_len l
  exact Nat.le_trans h1 (Nat.mul_le_mul_right _ h2)
/-- at the head of the loop -/
def JtL (w : World) (q p : Nat) (rows : List BRow) (v10 : Value) (wr : World) : Prop := ∃ k g d : Nat, v10 = .int .i64 (k : Int) ∧ k ≤ rows.length ∧ Wl wr w.heap.size q p g d 0 0 [] (recsOf (rows.take k)) ∧ Below w.heap.size w wr
set_option maxRecDepth 100000 in
set_option maxHeartbeats 8000000 in
theorem walTail_big (l0 : List BRow) (l1 l2 : List UInt8) (A0 A1 A2 : Option Addr) (cap0 cap1 cap2 : Nat) (w : World) (h : 20 < l0.length ∨ 300 < l1.length ∨ 300 < l2.length ∨ l2.length = 0) :
    Calls Try.prog 9 #[.slice A0 l0.length cap0, .slice A1 l1.length cap1, .slice A2 l2.length cap2] w (Ans (.bool true) w) := by
  have h0 : (20 : Int) < l0.length ∨ (300 : Int) < l1.length ∨ (300 : Int) < l2.length ∨ (l2.length : Int) = 0 := by omega
  clear h
  by_cases h1 : (20 : Int) < l0.length
  · clear h0
    go_enter Try.func9, Try.ntmps9
    go_wp2_with (first
      | (go_at_call 17; refine (new_any _).mono ?_; rintro e w1 ⟨p, rfl, hd, hb⟩
         have HD := Lib.hid hd
         have HB1 := Lib.hid hb
         clear hd hb)
      | (go_at_call 18; refine (open_any HD.out HB1.out.size [] [] rfl rfl (by intro r hr; cases hr)).mono ?_; rintro e w2 ⟨q, d, rfl, hw, hq, hdd, hO⟩
         have HB2 := Lib.hid (onlyP HB1.out (Nat.le_refl _) hO HD.out.ge.1)
         clear hw hq hdd hO HD)
      | (go_at_call 40; refine (alive_wal _).mono ?_; rintro e w3 ⟨rfl, hb⟩
         have HB3 := Lib.hid (belowM HB2.out (Nat.le_refl _) hb)
         clear hb))
    go_ret
    exact ⟨rfl, HB3.out⟩
  · by_cases h2 : (300 : Int) < l1.length
    · clear h0
      go_enter Try.func9, Try.ntmps9
      go_wp2_with (first
        | (go_at_call 17; refine (new_any _).mono ?_; rintro e w1 ⟨p, rfl, hd, hb⟩
           have HD := Lib.hid hd
           have HB1 := Lib.hid hb
           clear hd hb)
        | (go_at_call 18; refine (open_any HD.out HB1.out.size [] [] rfl rfl (by intro r hr; cases hr)).mono ?_; rintro e w2 ⟨q, d, rfl, hw, hq, hdd, hO⟩
           have HB2 := Lib.hid (onlyP HB1.out (Nat.le_refl _) hO HD.out.ge.1)
           clear hw hq hdd hO HD)
        | (go_at_call 40; refine (alive_wal _).mono ?_; rintro e w3 ⟨rfl, hb⟩
           have HB3 := Lib.hid (belowM HB2.out (Nat.le_refl _) hb)
           clear hb))
      go_ret
      exact ⟨rfl, HB3.out⟩
    · by_cases h3 : (300 : Int) < l2.length
      · clear h0
        go_enter Try.func9, Try.ntmps9
        go_wp2_with (first
          | (go_at_call 17; refine (new_any _).mono ?_; rintro e w1 ⟨p, rfl, hd, hb⟩
             have HD := Lib.hid hd
             have HB1 := Lib.hid hb
             clear hd hb)
          | (go_at_call 18; refine (open_any HD.out HB1.out.size [] [] rfl rfl (by intro r hr; cases hr)).mono ?_; rintro e w2 ⟨q, d, rfl, hw, hq, hdd, hO⟩
             have HB2 := Lib.hid (onlyP HB1.out (Nat.le_refl _) hO HD.out.ge.1)
             clear hw hq hdd hO HD)
          | (go_at_call 40; refine (alive_wal _).mono ?_; rintro e w3 ⟨rfl, hb⟩
             have HB3 := Lib.hid (belowM HB2.out (Nat.le_refl _) hb)
             clear hb))
        go_ret
        exact ⟨rfl, HB3.out⟩
      · have h4 : (l2.length : Int) = 0 := by omega
        clear h0
        go_enter Try.func9, Try.ntmps9
        go_wp2_with (first
          | (go_at_call 17; refine (new_any _).mono ?_; rintro e w1 ⟨p, rfl, hd, hb⟩
             have HD := Lib.hid hd
             have HB1 := Lib.hid hb
             clear hd hb)
          | (go_at_call 18; refine (open_any HD.out HB1.out.size [] [] rfl rfl (by intro r hr; cases hr)).mono ?_; rintro e w2 ⟨q, d, rfl, hw, hq, hdd, hO⟩
             have HB2 := Lib.hid (onlyP HB1.out (Nat.le_refl _) hO HD.out.ge.1)
             clear hw hq hdd hO HD)
          | (go_at_call 40; refine (alive_wal _).mono ?_; rintro e w3 ⟨rfl, hb⟩
             have HB3 := Lib.hid (belowM HB2.out (Nat.le_refl _) hb)
             clear hb))
        go_ret
        exact ⟨rfl, HB3.out⟩
set_option maxRecDepth 100000 in
set_option maxHeartbeats 8000000 in
theorem walTail_small (l0 : List BRow) (l1 l2 : List UInt8) (A0 A1 A2 : Option Addr) (cap0 cap1 cap2 : Nat) (w : World) (r0 : RdL w w.heap.size A0 l0) (o0 : ∀ x ∈ l0, x.ok w w.heap.size) (r1 : RdB w w.heap.size A1 l1) (r2 : RdB w w.heap.size A2 l2) (h : l0.length ≤ 20 ∧ l1.length ≤ 300 ∧ l2.length ≤ 300 ∧ 0 < l2.length) :
    Calls Try.prog 9 #[.slice A0 l0.length cap0, .slice A1 l1.length cap1, .slice A2 l2.length cap2] w (Ans (.bool true) w) := by
  obtain ⟨i0, hi, hz0, hz1, hz2⟩ := info_parts info8
  have HL := Lib.hid h
  have h1 : ¬ (20 : Int) < l0.length := by omega
  have h2 : ¬ (300 : Int) < l1.length := by omega
  have h3 : ¬ (300 : Int) < l2.length := by omega
  have h4 : ¬ (l2.length : Int) = 0 := by omega
  have h5 : ((l2.length : Int) == 0) = false := beq_false_of_ne h4
  have HR0 := Lib.hid r0
  have HO0 := Lib.hid o0
  have HR1 := Lib.hid r1
  have HR2 := Lib.hid r2
  clear h r0 o0 r1 r2
  go_enter Try.func9, Try.ntmps9
  go_wp2_with (first
    | (go_at_call 17; refine (new_any _).mono ?_; rintro e w1 ⟨p, rfl, hd, hb⟩
       have HD := Lib.hid hd
       have HB1 := Lib.hid hb
       clear hd hb)
    | (go_at_call 18; refine (open_any HD.out HB1.out.size [] [] rfl rfl (by intro r hr; cases hr)).mono ?_; rintro e w2 ⟨q, d, rfl, hw, hq, hdd, hO⟩
       have HB2 := Lib.hid (onlyP HB1.out (Nat.le_refl _) hO HD.out.ge.1)
       have HW2 := Lib.hid hw
       clear hw hq hdd hO HD)
    | (go_at_call 40; refine (alive_wal _).mono ?_; rintro e w3 ⟨rfl, hb⟩
       have HB3 := Lib.hid (belowM HB2.out (Nat.le_refl _) hb)
       have HW3 := Lib.hid (HW2.out.below hb)
       clear hb HW2))
  have HST : Hid (JtL w q p l0 (.int .i64 0) w3) := Lib.hid ⟨0, p, d, rfl, Nat.zero_le _, HW3.out, HB3.out⟩
  go_loopw [10] (fun v10 wr => JtL w q p l0 v10 wr) (fun v10 _ => l0.length - (intOf v10).toNat)
  case atStart => exact HST.out
  case round =>
    obtain ⟨k, g, d2, rfl, hk, hw, hb⟩ := hrel
    have HB := Lib.hid hb
    have HW := Lib.hid hw
    clear hb hw HST HB1 HB2 HW3
    by_cases hlt : k < l0.length
    · have hlti : (k : Int) < (l0.length : Int) := by omega
      obtain ⟨x, hx⟩ : ∃ x, l0[k]? = some x := ⟨_, List.getElem?_eq_getElem hlt⟩
      obtain ⟨b0, o0, hA, c0⟩ := HR0.out.at_ hx HB.out (Nat.le_refl _)
      subst hA
      have hxo := HO0.out x (List.mem_of_getElem? hx)
      have hsn := recsOf_snoc hx
      have hk5 : k + 1 ≤ l0.length := hlt
      by_cases hx3 : x.l.length ≤ 300
      · have hx3i : (x.l.length : Int) ≤ 300 := by omega
        by_cases hx1 : 1 ≤ x.l.length
        · rw [if_pos ⟨hx1, hx3⟩] at hsn
          have HSN := Lib.hid hsn
          have HAP := Lib.hid (wappend_yes HW.out HB.out.size x.l x.A _ x.cap rfl ⟨hx1, by omega⟩ ((hxo.rd.below HB.out (Nat.le_refl _)).more HB.out.size) (by
            have e1 := recsOf_bytes (l0.take k)
            have e2 : (l0.take k).length ≤ 20 := by rw [List.length_take]; have := HL.out.1; omega
            have e3 : (l0.take k).length * 305 ≤ 20 * 305 := Nat.mul_le_mul_right _ e2
            omega))
          have HN : Hid (∀ v10 wz, v10 = .int .i64 ((k + 1 : Nat) : Int) → ∀ g' d', Wl wz w.heap.size q p g' d' 0 0 [] (recsOf (l0.take k) ++ [x.l]) → Below w.heap.size w wz → JtL w q p l0 v10 wz) := Lib.hid fun v10 wz h10 g' d' h1 h2 => ⟨k + 1, g', d', h10, hk5, by rw [HSN.out]; exact h1, h2⟩
          clear hx hxo hsn hx1 hx3 hk hlt
          go_wp2_with (go_at_call 20; refine HAP.out.mono ?_; rintro e wz ⟨rfl, g', d', hw, hO, hg, hd3⟩
                       have HY := Lib.hid (fun v10 h10 => HN.out v10 wz h10 g' d' hw (HB.out.trans (hO.wl HB.out.size HW.out.ge.1 HW.out.disk.ge.1 HW.out.disk.ge.2 HW.out.ge.2)))
                       clear hw hO hg hd3)
          go_roundw
          case rel => first | exact HY.out _ (by go_num) | ((repeat apply Exists.intro); exact ⟨HY.out _ (by go_num), rfl⟩)
          case measure => simp [intOf]; omega
        · rw [if_neg (fun e => hx1 e.1)] at hsn
          have HN : Hid (∀ v10, v10 = .int .i64 ((k + 1 : Nat) : Int) → JtL w q p l0 v10 wr) := Lib.hid fun v10 h10 => ⟨k + 1, g, d2, h10, hk5, by rw [hsn]; exact HW.out, HB.out⟩
          have HAP : Hid (Calls Try.prog 20 #[.pointer (some ⟨q, 0, none⟩), .slice x.A x.l.length x.cap] wr (Looks (.tuple #[.int .i64 0, .int .i64 1]) wr)) := Lib.hid (wappend_no x.A x.l.length x.cap (.inl (by omega)))
          clear hx hxo hsn hx1 hx3 hk hlt
          go_wp2_with (go_at_call 20; refine HAP.out.mono ?_; rintro e wz ⟨rfl, rfl⟩)
          go_roundw
          case rel => first | exact HN.out _ (by go_num) | ((repeat apply Exists.intro); exact ⟨HN.out _ (by go_num), rfl⟩)
          case measure => simp [intOf]; omega
      · have hx3i : ¬ (x.l.length : Int) ≤ 300 := by omega
        rw [if_neg (fun e => hx3 e.2)] at hsn
        have HN : Hid (∀ v10, v10 = .int .i64 ((k + 1 : Nat) : Int) → JtL w q p l0 v10 wr) := Lib.hid fun v10 h10 => ⟨k + 1, g, d2, h10, hk5, by rw [hsn]; exact HW.out, HB.out⟩
        clear hx hxo hsn hx3 hk hlt
        go_wp2_with fail
        go_roundw
        case rel => first | exact HN.out _ (by go_num) | ((repeat apply Exists.intro); exact ⟨HN.out _ (by go_num), rfl⟩)
        case measure => simp [intOf]; omega
    · have hkl : k = l0.length := by omega
      subst hkl
      have hlti : ¬ (l0.length : Int) < (l0.length : Int) := by omega
      rw [List.take_length] at HW
      have hrl : (recsOf l0).length ≤ 20 := Nat.le_trans (recsOf_len l0) HL.out.1
      have hrb : (bytesOf (recsOf l0)).length ≤ 6100 := by
        have e1 := recsOf_bytes l0
        have e3 : l0.length * 305 ≤ 20 * 305 := Nat.mul_le_mul_right _ HL.out.1
        omega
      have hro := recsOf_ok l0
      obtain ⟨R, hR⟩ : ∃ R, R = recsOf l0 := ⟨_, rfl⟩
      rw [← hR] at HW hrl hrb hro
      obtain ⟨E, hE⟩ : ∃ E, E = (bytesOf R).length := ⟨_, rfl⟩
      have HRL := Lib.hid hrl
      have HRB := Lib.hid hrb
      have HRO : Hid (∀ r ∈ R, 1 ≤ r.length ∧ r.length ≤ 4096) := Lib.hid fun r hr => ⟨(hro r hr).1, by have := (hro r hr).2; omega⟩
      have HE := Lib.hid hE
      have hEi : (E : Int) ≤ 6100 := by omega
      have hRi : (R.length : Int) ≤ 20 := by omega
      obtain ⟨sm, hsm⟩ := ba_of l2
      have HSM := Lib.hid hsm
      clear hR hrl hrb hro hE hk hlt hsm
      go_wp2_with (first
        | (go_at_call_of 25 q; refine (numbers_any HW.out).mono ?_; rintro e w4 ⟨A4, cap4, rfl, _, _, hb⟩
           rw [numbersOf_len]
           have HB4 := Lib.hid (HB.out.trans (hb.mono HB.out.size))
           have HW4 := Lib.hid (HW.out.below hb)
           clear hb)
        | (go_at_call 36; refine (end_at HW4.out.disk (E : Int) (by rw [HE.out]; omega)).mono ?_; rintro e w5 ⟨rfl, n5, hn5⟩
           have HB5 : Hid (Below w.heap.size w w5) := Lib.hid (by rw [hn5]; exact HB4.out.trans ((drewN_below w4 n5).mono HB4.out.size))
           have HW5 : Hid (Dk w5 w.heap.size p g 0 0 (bytesOf R)) := Lib.hid (by rw [hn5]; exact HW4.out.disk.below (drewN_below w4 n5))
           have HX5 : Hid (OwnB (w5.alloc (.cells #[.int .u8 0] 5)) w5.heap.size (.slice (some ⟨w5.heap.size, 0, none⟩) 1 1) [0]) := Lib.hid (OwnB.of_row (n := 1) (l := [0]) (own_lit (cs := #[.int .u8 0]) (heap_alloc_new w5 _) (Nat.le_refl _) rfl (by omega)))
           have HY5 := Lib.hid (alloc_below w5 (.cells #[.int .u8 0] 5))
           have HT5 : Hid (RdB (w5.alloc (.cells #[.int .u8 0] 5)) w.heap.size A1 l1) := Lib.hid (HR1.out.below (HB5.out.trans (HY5.out.mono HB5.out.size)) (Nat.le_refl _))
           clear hn5)
        | (at_builtin
           refine wpList_appB (xs := [0]) (ys := l1) (B := w5.heap.size) rfl _ _ 23 rfl Try.underlying23 hi hz0 hz1 hz2 rfl HX5.out rfl rfl HT5.out (by have := HL.out; simp; omega) HY5.out.size ?_
           intro v6 w6 ho6 hg6
           have hb6 := grew_below HY5.out HX5.out.ge hg6
           obtain ⟨g6, cap6, hv6, _⟩ := ho6.head (by simp)
           subst hv6
           have HB6 := Lib.hid (HB5.out.trans (hb6.mono HB5.out.size))
           have HW6 := Lib.hid (HW5.out.below hb6)
           have HAP := Lib.hid (append_at HW6.out HB6.out.size ([0] ++ l1) (some ⟨g6, 0, none⟩) _ cap6 rfl ho6.rd (by have := HL.out; have := HRB.out; simp; omega) (E : Int) (by rw [HE.out]; omega) (bytesOf R ++ ([0] ++ l1)) rfl)
           clear ho6 hg6 hb6)
        | (go_at_call 30; refine HAP.out.mono ?_; rintro e w7 ⟨rfl, g7, hd7, hO7, _⟩
           have HB7 := Lib.hid (onlyPG HB6.out (Nat.le_refl _) hO7 HW6.out.ge.1 HW6.out.ge.2)
           have HD7 := Lib.hid hd7
           clear hd7 hO7)
        | (go_at_call 18; refine (open_any HD7.out HB7.out.size R ([0] ++ l1) rfl (firstL_zero (by decide) l1) HRO.out).mono ?_; rintro e w8 ⟨q2, d8, rfl, hw, _, _, hO⟩
           have HB8 := Lib.hid (onlyP HB7.out (Nat.le_refl _) hO HD7.out.ge.1)
           have HW8 := Lib.hid hw
           clear hw hO)
        | (go_at_call 36; refine (end_at HW8.out.disk (E : Int) (by rw [HE.out]; omega)).mono ?_; rintro e w9 ⟨rfl, n9, hn9⟩
           have HB9 : Hid (Below w.heap.size w w9) := Lib.hid (by rw [hn9]; exact HB8.out.trans ((drewN_below w8 n9).mono HB8.out.size))
           have HW9 : Hid (Wl w9 w.heap.size q2 p g7 d8 0 (0 + (bytesOf R).length) [] R) := Lib.hid (by rw [hn9]; exact HW8.out.below (drewN_below w8 n9))
           have hsf : Hid (Calls Try.prog 37 #[.pointer (some ⟨p, 0, none⟩)] w9 (Looks (.int .i64 (E : Int)) w9)) := Lib.hid (by have h9 := safe_any HW9.out.disk; rw [Nat.zero_add, ← HE.out] at h9; exact h9)
           clear hn9)
        | (go_at_call 37; refine hsf.out.mono ?_; rintro e wz ⟨rfl, rfl⟩)
        | (go_at_call 33; refine (wsafe_any HW9.out R.length (splitE_end 0 R)).mono ?_; rintro e w10 ⟨rfl, hb⟩
           have HB10 := Lib.hid (HB9.out.trans (hb.mono HB9.out.size))
           have HW10 := Lib.hid (HW9.out.below hb)
           clear hb)
        | (go_at_call_of 25 q2; refine (numbers_any HW10.out).mono ?_; rintro e w11 ⟨A11, cap11, rfl, _, _, hb⟩
           rw [numbersOf_len]
           have HB11 := Lib.hid (HB10.out.trans (hb.mono HB10.out.size))
           have HW11 := Lib.hid (HW10.out.below hb)
           clear hb)
        | (go_at_call 20; refine (wappend_yes HW11.out HB11.out.size l2 A2 _ cap2 rfl (by have := HL.out; omega) ((HR2.out.below HB11.out (Nat.le_refl _)).more HB11.out.size) (by have := HL.out; have := HRB.out; omega)).mono ?_; rintro e w12 ⟨he, g12, d12, hw, hO, _, _⟩
           have he2 : e = .returned (.tuple #[.int .i64 (E : Int), .int .i64 0]) := by rw [he, HE.out, Nat.zero_add]
           have HB12 := Lib.hid (HB11.out.trans (hO.wl HB11.out.size HW11.out.ge.1 HW11.out.disk.ge.1 HW11.out.disk.ge.2 HW11.out.ge.2))
           have HW12 := Lib.hid hw
           clear hw hO he
           subst he2)
        | (go_at_call 38; refine (wread_yes HW12.out (j := R.length) (r := l2) (by simp) (E : Int) (by unfold startOf; rw [List.take_left, HE.out, Nat.zero_add])).mono ?_; rintro e w13 ⟨v13, rfl, ho, hb⟩
           have hcv := conv_ownS ho sm HSM.out
           have HB13 := Lib.hid (HB12.out.trans (hb.mono HB12.out.size))
           have hcr := conv_rd (cap := cap2) (HR2.out.below HB13.out (Nat.le_refl _)) rfl sm HSM.out
           clear ho hb))
      go_ret
      exact ⟨rfl, HB13.out⟩
theorem walTail_law (l0 : List BRow) (l1 l2 : List UInt8) (A0 A1 A2 : Option Addr) (cap0 cap1 cap2 : Nat) (w : World) (r0 : RdL w w.heap.size A0 l0) (o0 : ∀ x ∈ l0, x.ok w w.heap.size) (r1 : RdB w w.heap.size A1 l1) (r2 : RdB w w.heap.size A2 l2) :
    Calls Try.prog 9 #[.slice A0 l0.length cap0, .slice A1 l1.length cap1, .slice A2 l2.length cap2] w (Ans (.bool true) w) := by
  by_cases h : l0.length ≤ 20 ∧ l1.length ≤ 300 ∧ l2.length ≤ 300 ∧ 0 < l2.length
  · exact walTail_small l0 l1 l2 A0 A1 A2 cap0 cap1 cap2 w r0 o0 r1 r2 h
  · exact walTail_big l0 l1 l2 A0 A1 A2 cap0 cap1 cap2 w (by omega)
#print axioms walTail_law
end Go.Proofs.Ytcofacafnokbpaa

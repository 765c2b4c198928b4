/- Package lex: numbers. -/
import Derived.Test.YtokkbipdkakenaaGreatDoorBC
import Derived.Test.YtokkbipdkakenaaGreatDoorG
import Derived.Lib.ParseIntBTie
namespace Go.Proofs.YtokkbipdkakenaaGreatDoor
open Go.RowKit

theorem drop_n (s : ByteArray) (n : Nat) : (s.extract n s.size).data.toList = s.data.toList.drop n := by
  rw [ext_list, ← size_list' s, List.take_length]
theorem cat_list (a b : ByteArray) : (a ++ b).data.toList = a.data.toList ++ b.data.toList := by
  rw [ByteArray.data_append, Array.toList_append]
/-- what ParseInt answers -/
def PIL (o : Option Int) (w : World) : Ending → World → Prop := fun e w' => Below w.heap.size w w' ∧ match o with
  | some v => e = .returned (.tuple #[.int .i64 v, .nilIface])
  | none => ∃ x N, e = .returned (.tuple #[.int .i64 x, .iface 147 (.pointer (some ⟨N, 0, none⟩))])
def okL : Lib.NumEnd Int → Option Int
  | .ok v => some v
  | _ => none
theorem bytesWorld_bel (w : World) (t : ByteArray) : Below w.heap.size w (Lib.bytesWorld w 5 t) :=
  ⟨rfl, rfl, rfl, by rw [Lib.bytesWorld_size]; omega, fun j hj => Lib.bytesWorld_at_old w 5 t j hj⟩
theorem parseInt_L (s : ByteArray) (hs : s.size ≤ 100000) (w : World) (hE : Env w) : Calls Tryz.prog 56 #[.string s, .int .i64 10, .int .i64 64] w (PIL (okL (Lib.parseIntB 64 s.data.toList)) w) := by
  rcases hx : Lib.parseIntB 64 s.data.toList with v | _ | _
  · skip
    refine (Tryz.strconv_ParseInt_10_at64_ok s (by omega) v hx w).mono ?_
    rintro e w' ⟨rfl, rfl | ⟨t, rfl⟩⟩
    · exact ⟨Below.refl _ _, rfl⟩
    · exact ⟨bytesWorld_bel _ _, rfl⟩
  · skip
    obtain ⟨tp, p, hv⟩ := hE.syn
    refine (Tryz.strconv_ParseInt_10_at64_syntax_var s (by omega) hx tp p w hv).mono ?_
    rintro e w' ⟨N, rfl, _, _, hb⟩
    exact ⟨hb, _, N, rfl⟩
  · skip
    obtain ⟨tp, p, hv⟩ := hE.rng
    refine (Tryz.strconv_ParseInt_10_at64_range_var s (by omega) hx tp p w hv).mono ?_
    rintro e w' ⟨N, rfl, _, _, hb⟩
    exact ⟨hb, _, N, rfl⟩
theorem repeat_one (m : Nat) : Lib.repeatL [48] m = List.replicate m 48 := by
  induction m with
  | zero => rfl
  | succ m ih => simp [Lib.repeatL, List.replicate_succ] at ih ⊢; try exact ih
theorem begins_n (s : ByteArray) (n : Nat) (w : World) : Calls Tryz.prog 27 #[.string (s.extract n s.size), .int .u8 46] w fun e w' => e = .returned (.bool (headIs 46 (s.data.toList.drop n))) ∧ w = w' := by
  have := begins_any (s.extract n s.size) 46 w
  rwa [drop_n] at this
theorem digit_n (s : ByteArray) (hs : s.size ≤ 1000) (n : Nat) (w : World) : Calls Tryz.prog 19 #[.string (s.extract n s.size), .func (.func 31) #[] #[]] w fun e w' => e = .returned (.int .i64 (runL digitB (s.data.toList.drop n) : Int)) ∧ w = w' := by
  have := run_isDigit (s.extract n s.size) (by rw [ext_size _ _ _ (Nat.le_refl _)]; omega) w
  rwa [drop_n] at this
theorem word_n (s : ByteArray) (hs : s.size ≤ 1000) (n : Nat) (w : World) : Calls Tryz.prog 19 #[.string (s.extract n s.size), .func (.func 54) #[] #[]] w fun e w' => e = .returned (.int .i64 (runL wordB (s.data.toList.drop n) : Int)) ∧ w = w' := by
  have := run_inWord (s.extract n s.size) (by rw [ext_size _ _ _ (Nat.le_refl _)]; omega) w
  rwa [drop_n] at this
def nuT (l : List UInt8) (e : Nat) (k v : Int) : Tok := ⟨2, l.take e, (k, v, []), 0⟩
theorem nuT_val (s : ByteArray) (e : Nat) (k v : Int) : (nuT s.data.toList e k v).v = .agg #[.int .i64 2, .string (s.extract 0 e), .int .i64 k, .int .i64 v, .string ⟨#[]⟩, .int .i64 0] := by
  unfold nuT Tok.v
  rw [ext_of s 0 e, List.drop_zero]
  rfl
def decD (s : ByteArray) (n f m : Nat) : ByteArray := s.extract 0 n ++ (s.extract (n + 1) (n + 1 + f) ++ ⟨(Lib.repeatL [48] m).toArray⟩)
theorem decD_list (s : ByteArray) (n f m : Nat) : (decD s n f m).data.toList = s.data.toList.take n ++ ((s.data.toList.drop (n + 1)).take f ++ List.replicate m 48) := by
  unfold decD
  rw [cat_list, cat_list, ext_list, ext_list, repeat_one, List.drop_zero, List.drop_take]
  congr 2
  congr 1; omega
theorem decD_size (s : ByteArray) (n f m : Nat) (h : n + 1 + f ≤ s.size) : (decD s n f m).size = n + (f + m) := by
  rw [← size_list', decD_list]
  have := size_list' s
  simp; omega
set_option maxRecDepth 100000 in
set_option maxHeartbeats 8000000 in
theorem num_A_wd (s : ByteArray) (hs : s.size ≤ 1000) (n : Nat) (hn : runL digitB s.data.toList = n) (hb0 : headIs 46 (s.data.toList.drop n) = false) (q : Nat) (hwe : runL wordB (s.data.toList.drop n) = q) (hq : 0 < q) (HN : Hid (numT s.data.toList = none)) (w : World) (hE : Env w) : Calls Tryz.prog 32 #[.string s] w (TkR (numT s.data.toList) w) := by
  have HE := Lib.hid hE
  have HX := Lib.hid (BX.first w #[.int .i64 0, .string ⟨#[]⟩, .int .i64 0, .int .i64 0, .string ⟨#[]⟩, .int .i64 0] 35)
  obtain ⟨r0, r1, r2, r3, r4, r5⟩ := box6 HX.out.box
  have z0 := frozen_b HX.out.box 0
  have z1 := frozen_b HX.out.box 1
  have z2 := frozen_b HX.out.box 2
  have z3 := frozen_b HX.out.box 3
  have z4 := frozen_b HX.out.box 4
  have z5 := frozen_b HX.out.box 5
  have HR := Lib.hid (fun W => run_isDigit s (by omega) W)
  have HB := Lib.hid (fun W => begins_n s n W)
  have hle : n ≤ s.size := by rw [← hn, ← size_list' s]; exact runL_le _ _
  have hlei : (n : Int) ≤ (s.size : Int) := by omega
  have hsi : (s.size : Int) ≤ 1000 := by omega
  rw [hn] at HR
  rw [hb0] at HB
  have HWE := Lib.hid (fun W => word_n s hs n W)
  rw [hwe] at HWE
  have hqi : (0 : Int) < (q : Int) := by omega
  clear hs hE hn hle hwe hq hb0
  go_enter Tryz.func32, Tryz.ntmps32
  go_wp2_with (first
    | (go_at_call 19; (with_reducible refine (HR.out _).mono ?_); rintro e w2 ⟨rfl, rfl⟩)
    | (go_at_call 27; (with_reducible refine (HB.out _).mono ?_); rintro e w2 ⟨rfl, rfl⟩)
    | (go_at_call 19; (with_reducible refine (HWE.out _).mono ?_); rintro e w2 ⟨rfl, rfl⟩))
  exact bodyPost_ret (v := .tuple #[zeroT.v, .bool false]) (by simp [results, Tryz.results32, go_sem, r0, r1, r2, r3, r4, r5, zeroT, Tok.v, noV]) rfl (TkR.no HN.out rfl HX.out.bel)
set_option maxRecDepth 100000 in
set_option maxHeartbeats 8000000 in
theorem num_A_no (s : ByteArray) (hs : s.size ≤ 1000) (n : Nat) (hn : runL digitB s.data.toList = n) (hb0 : headIs 46 (s.data.toList.drop n) = false) (q : Nat) (hwe : runL wordB (s.data.toList.drop n) = q) (hq : q = 0) (hpi : okL (Lib.parseIntB 64 (s.extract 0 n).data.toList) = none) (HN : Hid (numT s.data.toList = none)) (w : World) (hE : Env w) : Calls Tryz.prog 32 #[.string s] w (TkR (numT s.data.toList) w) := by
  have HE := Lib.hid hE
  have HX := Lib.hid (BX.first w #[.int .i64 0, .string ⟨#[]⟩, .int .i64 0, .int .i64 0, .string ⟨#[]⟩, .int .i64 0] 35)
  obtain ⟨r0, r1, r2, r3, r4, r5⟩ := box6 HX.out.box
  have z0 := frozen_b HX.out.box 0
  have z1 := frozen_b HX.out.box 1
  have z2 := frozen_b HX.out.box 2
  have z3 := frozen_b HX.out.box 3
  have z4 := frozen_b HX.out.box 4
  have z5 := frozen_b HX.out.box 5
  have HR := Lib.hid (fun W => run_isDigit s (by omega) W)
  have HB := Lib.hid (fun W => begins_n s n W)
  have hle : n ≤ s.size := by rw [← hn, ← size_list' s]; exact runL_le _ _
  have hlei : (n : Int) ≤ (s.size : Int) := by omega
  have hsi : (s.size : Int) ≤ 1000 := by omega
  rw [hn] at HR
  rw [hb0] at HB
  have HWE := Lib.hid (fun W => word_n s hs n W)
  rw [hwe] at HWE
  subst hq
  have HPI := Lib.hid (fun W (h : Env W) => parseInt_L (s.extract 0 n) (by rw [ext_size _ _ _ hle]; omega) W h)
  rw [hpi] at HPI
  clear hs hE hn hle hwe hpi hb0
  go_enter Tryz.func32, Tryz.ntmps32
  go_wp2_with (first
    | (go_at_call 19; (with_reducible refine (HR.out _).mono ?_); rintro e w2 ⟨rfl, rfl⟩)
    | (go_at_call 27; (with_reducible refine (HB.out _).mono ?_); rintro e w2 ⟨rfl, rfl⟩)
    | (go_at_call 19; (with_reducible refine (HWE.out _).mono ?_); rintro e w2 ⟨rfl, rfl⟩)
    | (go_at_call 56; refine (HPI.out _ (HE.out.below HX.out.bel)).mono ?_; rintro e w2 ⟨hb, xx, N, rfl⟩
       have HX := Lib.hid (HX.out.next hb)
       obtain ⟨r0, r1, r2, r3, r4, r5⟩ := box6 HX.out.box
       have z0 := frozen_b HX.out.box 0
       have z1 := frozen_b HX.out.box 1
       have z2 := frozen_b HX.out.box 2
       have z3 := frozen_b HX.out.box 3
       have z4 := frozen_b HX.out.box 4
       have z5 := frozen_b HX.out.box 5
       clear hb))
  exact bodyPost_ret (v := .tuple #[zeroT.v, .bool false]) (by simp [results, Tryz.results32, go_sem, r0, r1, r2, r3, r4, r5, zeroT, Tok.v, noV]) rfl (TkR.no HN.out rfl (set6_below HX.out.bel (by omega) _ _ _ _ _ _))
set_option maxRecDepth 100000 in
set_option maxHeartbeats 8000000 in
theorem num_A_ok (s : ByteArray) (hs : s.size ≤ 1000) (n : Nat) (hn : runL digitB s.data.toList = n) (hb0 : headIs 46 (s.data.toList.drop n) = false) (q : Nat) (hwe : runL wordB (s.data.toList.drop n) = q) (hq : q = 0) (v : Int) (hpi : okL (Lib.parseIntB 64 (s.extract 0 n).data.toList) = some v) (HN : Hid (numT s.data.toList = some (nuT s.data.toList n 2 v))) (w : World) (hE : Env w) : Calls Tryz.prog 32 #[.string s] w (TkR (numT s.data.toList) w) := by
  have HE := Lib.hid hE
  have HX := Lib.hid (BX.first w #[.int .i64 0, .string ⟨#[]⟩, .int .i64 0, .int .i64 0, .string ⟨#[]⟩, .int .i64 0] 35)
  obtain ⟨r0, r1, r2, r3, r4, r5⟩ := box6 HX.out.box
  have z0 := frozen_b HX.out.box 0
  have z1 := frozen_b HX.out.box 1
  have z2 := frozen_b HX.out.box 2
  have z3 := frozen_b HX.out.box 3
  have z4 := frozen_b HX.out.box 4
  have z5 := frozen_b HX.out.box 5
  have HR := Lib.hid (fun W => run_isDigit s (by omega) W)
  have HB := Lib.hid (fun W => begins_n s n W)
  have hle : n ≤ s.size := by rw [← hn, ← size_list' s]; exact runL_le _ _
  have hlei : (n : Int) ≤ (s.size : Int) := by omega
  have hsi : (s.size : Int) ≤ 1000 := by omega
  rw [hn] at HR
  rw [hb0] at HB
  have HWE := Lib.hid (fun W => word_n s hs n W)
  rw [hwe] at HWE
  subst hq
  have HPI := Lib.hid (fun W (h : Env W) => parseInt_L (s.extract 0 n) (by rw [ext_size _ _ _ hle]; omega) W h)
  rw [hpi] at HPI
  have HT := Lib.hid (fun W => token_any 2 (s.extract 0 n) 2 v ⟨#[]⟩ (by rw [ext_size _ _ _ (by omega)]; omega) W)
  clear hs hE hn hle hwe hpi hb0
  go_enter Tryz.func32, Tryz.ntmps32
  go_wp2_with (first
    | (go_at_call 19; (with_reducible refine (HR.out _).mono ?_); rintro e w2 ⟨rfl, rfl⟩)
    | (go_at_call 27; (with_reducible refine (HB.out _).mono ?_); rintro e w2 ⟨rfl, rfl⟩)
    | (go_at_call 19; (with_reducible refine (HWE.out _).mono ?_); rintro e w2 ⟨rfl, rfl⟩)
    | (go_at_call 56; refine (HPI.out _ (HE.out.below HX.out.bel)).mono ?_; rintro e w2 ⟨hb, rfl⟩
       have HX := Lib.hid (HX.out.next hb)
       obtain ⟨r0, r1, r2, r3, r4, r5⟩ := box6 HX.out.box
       have z0 := frozen_b HX.out.box 0
       have z1 := frozen_b HX.out.box 1
       have z2 := frozen_b HX.out.box 2
       have z3 := frozen_b HX.out.box 3
       have z4 := frozen_b HX.out.box 4
       have z5 := frozen_b HX.out.box 5
       clear hb)
    | (go_at_call 53; refine (HT.out _).mono ?_; rintro e w3 ⟨rfl, hb⟩
       have HX := Lib.hid (HX.out.next hb)
       obtain ⟨r0, r1, r2, r3, r4, r5⟩ := box6 HX.out.box
       have z0 := frozen_b HX.out.box 0
       have z1 := frozen_b HX.out.box 1
       have z2 := frozen_b HX.out.box 2
       have z3 := frozen_b HX.out.box 3
       have z4 := frozen_b HX.out.box 4
       have z5 := frozen_b HX.out.box 5
       clear hb))
  exact bodyPost_ret (v := .tuple #[.agg #[.int .i64 2, .string (s.extract 0 n), .int .i64 2, .int .i64 v, .string ⟨#[]⟩, .int .i64 0], .bool true]) (by simp [results, Tryz.results32, go_sem, r0, r1, r2, r3, r4, r5]) rfl (TkR.ok HN.out (nuT_val s _ 2 v) (set6_below HX.out.bel (by omega) _ _ _ _ _ _))
set_option maxRecDepth 100000 in
set_option maxHeartbeats 8000000 in
theorem num_B_pt (s : ByteArray) (hs : s.size ≤ 1000) (n : Nat) (hn : runL digitB s.data.toList = n) (hb0 : headIs 46 (s.data.toList.drop n) = true) (f : Nat) (hf : runL digitB (s.data.toList.drop (n + 1)) = f) (hf0 : f ≠ 0) (hf4 : f ≤ 4) (hbe : headIs 46 (s.data.toList.drop (n + (1 + f))) = true) (HN : Hid (numT s.data.toList = none)) (w : World) (hE : Env w) : Calls Tryz.prog 32 #[.string s] w (TkR (numT s.data.toList) w) := by
  have HE := Lib.hid hE
  have HX := Lib.hid (BX.first w #[.int .i64 0, .string ⟨#[]⟩, .int .i64 0, .int .i64 0, .string ⟨#[]⟩, .int .i64 0] 35)
  obtain ⟨r0, r1, r2, r3, r4, r5⟩ := box6 HX.out.box
  have z0 := frozen_b HX.out.box 0
  have z1 := frozen_b HX.out.box 1
  have z2 := frozen_b HX.out.box 2
  have z3 := frozen_b HX.out.box 3
  have z4 := frozen_b HX.out.box 4
  have z5 := frozen_b HX.out.box 5
  have HR := Lib.hid (fun W => run_isDigit s (by omega) W)
  have HB := Lib.hid (fun W => begins_n s n W)
  have hle : n ≤ s.size := by rw [← hn, ← size_list' s]; exact runL_le _ _
  have hlei : (n : Int) ≤ (s.size : Int) := by omega
  have hsi : (s.size : Int) ≤ 1000 := by omega
  rw [hn] at HR
  rw [hb0] at HB
  have h1 : n + 1 ≤ s.size := by have := headIs_drop _ _ _ hb0; rw [size_list'] at this; omega
  have h2 : n + 1 + f ≤ s.size := by have := runL_le digitB (s.data.toList.drop (n + 1)); rw [hf, List.length_drop, size_list'] at this; omega
  have h1i : (n : Int) + 1 ≤ (s.size : Int) := by omega
  have HF := Lib.hid (fun W => digit_n s hs (n + 1) W)
  rw [hf] at HF
  obtain ⟨m, hm⟩ : ∃ m : Nat, m = 4 - f := ⟨_, rfl⟩
  have hmi : IntKind.i64.wrap (4 - (f : Int)) = (m : Int) := by rw [IntKind.wrap_i64]; omega
  have hw1 : IntKind.i64.wrap ((n : Int) + 1) = (n : Int) + 1 := by rw [IntKind.wrap_i64]; omega
  obtain ⟨g, hg⟩ : ∃ g : Nat, g = n + 1 + f := ⟨_, rfl⟩
  have hw2 : IntKind.i64.wrap ((n : Int) + 1 + (f : Int)) = (g : Int) := by rw [IntKind.wrap_i64]; omega
  have hg0 : (0 : Int) ≤ (n : Int) + 1 := by omega
  have hg1 : (n : Int) + 1 ≤ (g : Int) := by omega
  have hg2 : (g : Int) ≤ (s.size : Int) := by omega
  have f0 : ((f : Int) == 0) = false := beq_false_of_ne (by omega)
  have f4 : ¬ (4 : Int) < (f : Int) := by omega
  have h3i : (n : Int) + (1 + (f : Int)) ≤ (s.size : Int) := by omega
  have HREP := Lib.hid (fun W => Tryz.strings_Repeat ⟨#[48]⟩ m W (by omega) (by show 1 * m ≤ _; omega))
  have HDS := decD_size s n f m h2
  have hrl : (Lib.repeatL [48] m).length = m := by rw [repeat_one]; simp
  have c1 : ¬ 9223372036854775807 < min g s.size - (n + 1) + (Lib.repeatL [48] m).length := by rw [hrl]; omega
  have c2 : ¬ 9223372036854775807 < min n s.size + (min g s.size - (n + 1) + (Lib.repeatL [48] m).length) := by rw [hrl]; omega
  have HBE := Lib.hid (fun W => begins_n s (n + (1 + f)) W)
  rw [hbe] at HBE
  clear hs hE hn hle h1 hf hf0 hf4 HDS h2 hrl hbe hb0 hm hg
  go_enter Tryz.func32, Tryz.ntmps32
  go_wp2_with (first
    | (go_at_call 19; (with_reducible refine (HR.out _).mono ?_); rintro e w2 ⟨rfl, rfl⟩)
    | (go_at_call 27; (with_reducible refine (HB.out _).mono ?_); rintro e w2 ⟨rfl, rfl⟩)
    | (go_at_call 19; (with_reducible refine (HF.out _).mono ?_); rintro e w2 ⟨rfl, rfl⟩))
  go_region_law (first
    | (go_simp; go_at_call 24; refine (HREP.out _).mono ?_; rintro e w2 ⟨rfl, hb⟩
       have HX := Lib.hid (HX.out.next_d hb)
       obtain ⟨r0, r1, r2, r3, r4, r5⟩ := box6 HX.out.box
       have z0 := frozen_b HX.out.box 0
       have z1 := frozen_b HX.out.box 1
       have z2 := frozen_b HX.out.box 2
       have z3 := frozen_b HX.out.box 3
       have z4 := frozen_b HX.out.box 4
       have z5 := frozen_b HX.out.box 5
       clear hb))
  all_goals
    go_wp2_with (first
      | (go_at_call 19; (with_reducible refine (HR.out _).mono ?_); rintro e w2 ⟨rfl, rfl⟩)
      | (go_at_call 27; (with_reducible refine (HB.out _).mono ?_); rintro e w2 ⟨rfl, rfl⟩)
      | (go_at_call 19; (with_reducible refine (HF.out _).mono ?_); rintro e w2 ⟨rfl, rfl⟩)
      | (go_at_call 27; (with_reducible refine (HBE.out _).mono ?_); rintro e w2 ⟨rfl, rfl⟩))
    exact bodyPost_ret (v := .tuple #[zeroT.v, .bool false]) (by simp [results, Tryz.results32, go_sem, r0, r1, r2, r3, r4, r5, zeroT, Tok.v, noV]) rfl (TkR.no HN.out rfl (set6_below HX.out.bel (by omega) _ _ _ _ _ _))
set_option maxRecDepth 100000 in
set_option maxHeartbeats 8000000 in
theorem num_B_wd (s : ByteArray) (hs : s.size ≤ 1000) (n : Nat) (hn : runL digitB s.data.toList = n) (hb0 : headIs 46 (s.data.toList.drop n) = true) (f : Nat) (hf : runL digitB (s.data.toList.drop (n + 1)) = f) (hf0 : f ≠ 0) (hf4 : f ≤ 4) (hbe : headIs 46 (s.data.toList.drop (n + (1 + f))) = false) (q : Nat) (hwe : runL wordB (s.data.toList.drop (n + (1 + f))) = q) (hq : 0 < q) (HN : Hid (numT s.data.toList = none)) (w : World) (hE : Env w) : Calls Tryz.prog 32 #[.string s] w (TkR (numT s.data.toList) w) := by
  have HE := Lib.hid hE
  have HX := Lib.hid (BX.first w #[.int .i64 0, .string ⟨#[]⟩, .int .i64 0, .int .i64 0, .string ⟨#[]⟩, .int .i64 0] 35)
  obtain ⟨r0, r1, r2, r3, r4, r5⟩ := box6 HX.out.box
  have z0 := frozen_b HX.out.box 0
  have z1 := frozen_b HX.out.box 1
  have z2 := frozen_b HX.out.box 2
  have z3 := frozen_b HX.out.box 3
  have z4 := frozen_b HX.out.box 4
  have z5 := frozen_b HX.out.box 5
  have HR := Lib.hid (fun W => run_isDigit s (by omega) W)
  have HB := Lib.hid (fun W => begins_n s n W)
  have hle : n ≤ s.size := by rw [← hn, ← size_list' s]; exact runL_le _ _
  have hlei : (n : Int) ≤ (s.size : Int) := by omega
  have hsi : (s.size : Int) ≤ 1000 := by omega
  rw [hn] at HR
  rw [hb0] at HB
  have h1 : n + 1 ≤ s.size := by have := headIs_drop _ _ _ hb0; rw [size_list'] at this; omega
  have h2 : n + 1 + f ≤ s.size := by have := runL_le digitB (s.data.toList.drop (n + 1)); rw [hf, List.length_drop, size_list'] at this; omega
  have h1i : (n : Int) + 1 ≤ (s.size : Int) := by omega
  have HF := Lib.hid (fun W => digit_n s hs (n + 1) W)
  rw [hf] at HF
  obtain ⟨m, hm⟩ : ∃ m : Nat, m = 4 - f := ⟨_, rfl⟩
  have hmi : IntKind.i64.wrap (4 - (f : Int)) = (m : Int) := by rw [IntKind.wrap_i64]; omega
  have hw1 : IntKind.i64.wrap ((n : Int) + 1) = (n : Int) + 1 := by rw [IntKind.wrap_i64]; omega
  obtain ⟨g, hg⟩ : ∃ g : Nat, g = n + 1 + f := ⟨_, rfl⟩
  have hw2 : IntKind.i64.wrap ((n : Int) + 1 + (f : Int)) = (g : Int) := by rw [IntKind.wrap_i64]; omega
  have hg0 : (0 : Int) ≤ (n : Int) + 1 := by omega
  have hg1 : (n : Int) + 1 ≤ (g : Int) := by omega
  have hg2 : (g : Int) ≤ (s.size : Int) := by omega
  have f0 : ((f : Int) == 0) = false := beq_false_of_ne (by omega)
  have f4 : ¬ (4 : Int) < (f : Int) := by omega
  have h3i : (n : Int) + (1 + (f : Int)) ≤ (s.size : Int) := by omega
  have HREP := Lib.hid (fun W => Tryz.strings_Repeat ⟨#[48]⟩ m W (by omega) (by show 1 * m ≤ _; omega))
  have HDS := decD_size s n f m h2
  have hrl : (Lib.repeatL [48] m).length = m := by rw [repeat_one]; simp
  have c1 : ¬ 9223372036854775807 < min g s.size - (n + 1) + (Lib.repeatL [48] m).length := by rw [hrl]; omega
  have c2 : ¬ 9223372036854775807 < min n s.size + (min g s.size - (n + 1) + (Lib.repeatL [48] m).length) := by rw [hrl]; omega
  have HBE := Lib.hid (fun W => begins_n s (n + (1 + f)) W)
  rw [hbe] at HBE
  have HWE := Lib.hid (fun W => word_n s hs (n + (1 + f)) W)
  rw [hwe] at HWE
  have hqi : (0 : Int) < (q : Int) := by omega
  clear hs hE hn hle h1 hf hf0 hf4 HDS h2 hrl hwe hq hbe hb0 hm hg
  go_enter Tryz.func32, Tryz.ntmps32
  go_wp2_with (first
    | (go_at_call 19; (with_reducible refine (HR.out _).mono ?_); rintro e w2 ⟨rfl, rfl⟩)
    | (go_at_call 27; (with_reducible refine (HB.out _).mono ?_); rintro e w2 ⟨rfl, rfl⟩)
    | (go_at_call 19; (with_reducible refine (HF.out _).mono ?_); rintro e w2 ⟨rfl, rfl⟩))
  go_region_law (first
    | (go_simp; go_at_call 24; refine (HREP.out _).mono ?_; rintro e w2 ⟨rfl, hb⟩
       have HX := Lib.hid (HX.out.next_d hb)
       obtain ⟨r0, r1, r2, r3, r4, r5⟩ := box6 HX.out.box
       have z0 := frozen_b HX.out.box 0
       have z1 := frozen_b HX.out.box 1
       have z2 := frozen_b HX.out.box 2
       have z3 := frozen_b HX.out.box 3
       have z4 := frozen_b HX.out.box 4
       have z5 := frozen_b HX.out.box 5
       clear hb))
  all_goals
    go_wp2_with (first
      | (go_at_call 19; (with_reducible refine (HR.out _).mono ?_); rintro e w2 ⟨rfl, rfl⟩)
      | (go_at_call 27; (with_reducible refine (HB.out _).mono ?_); rintro e w2 ⟨rfl, rfl⟩)
      | (go_at_call 19; (with_reducible refine (HF.out _).mono ?_); rintro e w2 ⟨rfl, rfl⟩)
      | (go_at_call 27; (with_reducible refine (HBE.out _).mono ?_); rintro e w2 ⟨rfl, rfl⟩)
      | (go_at_call 19; (with_reducible refine (HWE.out _).mono ?_); rintro e w2 ⟨rfl, rfl⟩))
    exact bodyPost_ret (v := .tuple #[zeroT.v, .bool false]) (by simp [results, Tryz.results32, go_sem, r0, r1, r2, r3, r4, r5, zeroT, Tok.v, noV]) rfl (TkR.no HN.out rfl (set6_below HX.out.bel (by omega) _ _ _ _ _ _))
set_option maxRecDepth 100000 in
set_option maxHeartbeats 8000000 in
theorem num_B_no (s : ByteArray) (hs : s.size ≤ 1000) (n : Nat) (hn : runL digitB s.data.toList = n) (hb0 : headIs 46 (s.data.toList.drop n) = true) (f : Nat) (hf : runL digitB (s.data.toList.drop (n + 1)) = f) (hf0 : f ≠ 0) (hf4 : f ≤ 4) (hbe : headIs 46 (s.data.toList.drop (n + (1 + f))) = false) (q : Nat) (hwe : runL wordB (s.data.toList.drop (n + (1 + f))) = q) (hq : q = 0) (hpi : okL (Lib.parseIntB 64 (decD s n f (4 - f)).data.toList) = none) (HN : Hid (numT s.data.toList = none)) (w : World) (hE : Env w) : Calls Tryz.prog 32 #[.string s] w (TkR (numT s.data.toList) w) := by
  have HE := Lib.hid hE
  have HX := Lib.hid (BX.first w #[.int .i64 0, .string ⟨#[]⟩, .int .i64 0, .int .i64 0, .string ⟨#[]⟩, .int .i64 0] 35)
  obtain ⟨r0, r1, r2, r3, r4, r5⟩ := box6 HX.out.box
  have z0 := frozen_b HX.out.box 0
  have z1 := frozen_b HX.out.box 1
  have z2 := frozen_b HX.out.box 2
  have z3 := frozen_b HX.out.box 3
  have z4 := frozen_b HX.out.box 4
  have z5 := frozen_b HX.out.box 5
  have HR := Lib.hid (fun W => run_isDigit s (by omega) W)
  have HB := Lib.hid (fun W => begins_n s n W)
  have hle : n ≤ s.size := by rw [← hn, ← size_list' s]; exact runL_le _ _
  have hlei : (n : Int) ≤ (s.size : Int) := by omega
  have hsi : (s.size : Int) ≤ 1000 := by omega
  rw [hn] at HR
  rw [hb0] at HB
  have h1 : n + 1 ≤ s.size := by have := headIs_drop _ _ _ hb0; rw [size_list'] at this; omega
  have h2 : n + 1 + f ≤ s.size := by have := runL_le digitB (s.data.toList.drop (n + 1)); rw [hf, List.length_drop, size_list'] at this; omega
  have h1i : (n : Int) + 1 ≤ (s.size : Int) := by omega
  have HF := Lib.hid (fun W => digit_n s hs (n + 1) W)
  rw [hf] at HF
  obtain ⟨m, hm⟩ : ∃ m : Nat, m = 4 - f := ⟨_, rfl⟩
  have hmi : IntKind.i64.wrap (4 - (f : Int)) = (m : Int) := by rw [IntKind.wrap_i64]; omega
  have hw1 : IntKind.i64.wrap ((n : Int) + 1) = (n : Int) + 1 := by rw [IntKind.wrap_i64]; omega
  obtain ⟨g, hg⟩ : ∃ g : Nat, g = n + 1 + f := ⟨_, rfl⟩
  have hw2 : IntKind.i64.wrap ((n : Int) + 1 + (f : Int)) = (g : Int) := by rw [IntKind.wrap_i64]; omega
  have hg0 : (0 : Int) ≤ (n : Int) + 1 := by omega
  have hg1 : (n : Int) + 1 ≤ (g : Int) := by omega
  have hg2 : (g : Int) ≤ (s.size : Int) := by omega
  have f0 : ((f : Int) == 0) = false := beq_false_of_ne (by omega)
  have f4 : ¬ (4 : Int) < (f : Int) := by omega
  have h3i : (n : Int) + (1 + (f : Int)) ≤ (s.size : Int) := by omega
  have HREP := Lib.hid (fun W => Tryz.strings_Repeat ⟨#[48]⟩ m W (by omega) (by show 1 * m ≤ _; omega))
  have HDS := decD_size s n f m h2
  have hrl : (Lib.repeatL [48] m).length = m := by rw [repeat_one]; simp
  have c1 : ¬ 9223372036854775807 < min g s.size - (n + 1) + (Lib.repeatL [48] m).length := by rw [hrl]; omega
  have c2 : ¬ 9223372036854775807 < min n s.size + (min g s.size - (n + 1) + (Lib.repeatL [48] m).length) := by rw [hrl]; omega
  have HBE := Lib.hid (fun W => begins_n s (n + (1 + f)) W)
  rw [hbe] at HBE
  have HWE := Lib.hid (fun W => word_n s hs (n + (1 + f)) W)
  rw [hwe] at HWE
  subst hq
  rw [← hm] at hpi
  have HPI := Lib.hid (fun W (h : Env W) => parseInt_L (decD s n f m) (by rw [HDS]; omega) W h)
  rw [hpi] at HPI
  unfold decD at HPI
  rw [← hg] at HPI
  clear hs hE hn hle h1 hf hf0 hf4 HDS h2 hrl hwe hpi hbe hb0 hm hg
  go_enter Tryz.func32, Tryz.ntmps32
  go_wp2_with (first
    | (go_at_call 19; (with_reducible refine (HR.out _).mono ?_); rintro e w2 ⟨rfl, rfl⟩)
    | (go_at_call 27; (with_reducible refine (HB.out _).mono ?_); rintro e w2 ⟨rfl, rfl⟩)
    | (go_at_call 19; (with_reducible refine (HF.out _).mono ?_); rintro e w2 ⟨rfl, rfl⟩))
  go_region_law (first
    | (go_simp; go_at_call 24; refine (HREP.out _).mono ?_; rintro e w2 ⟨rfl, hb⟩
       have HX := Lib.hid (HX.out.next_d hb)
       obtain ⟨r0, r1, r2, r3, r4, r5⟩ := box6 HX.out.box
       have z0 := frozen_b HX.out.box 0
       have z1 := frozen_b HX.out.box 1
       have z2 := frozen_b HX.out.box 2
       have z3 := frozen_b HX.out.box 3
       have z4 := frozen_b HX.out.box 4
       have z5 := frozen_b HX.out.box 5
       clear hb))
  all_goals
    go_wp2_with (first
      | (go_at_call 19; (with_reducible refine (HR.out _).mono ?_); rintro e w2 ⟨rfl, rfl⟩)
      | (go_at_call 27; (with_reducible refine (HB.out _).mono ?_); rintro e w2 ⟨rfl, rfl⟩)
      | (go_at_call 19; (with_reducible refine (HF.out _).mono ?_); rintro e w2 ⟨rfl, rfl⟩)
      | (go_at_call 27; (with_reducible refine (HBE.out _).mono ?_); rintro e w2 ⟨rfl, rfl⟩)
      | (go_at_call 19; (with_reducible refine (HWE.out _).mono ?_); rintro e w2 ⟨rfl, rfl⟩)
      | (go_at_call 56; refine (HPI.out _ (HE.out.below HX.out.bel)).mono ?_; rintro e w2 ⟨hb, xx, N, rfl⟩
         have HX := Lib.hid (HX.out.next hb)
         obtain ⟨r0, r1, r2, r3, r4, r5⟩ := box6 HX.out.box
         have z0 := frozen_b HX.out.box 0
         have z1 := frozen_b HX.out.box 1
         have z2 := frozen_b HX.out.box 2
         have z3 := frozen_b HX.out.box 3
         have z4 := frozen_b HX.out.box 4
         have z5 := frozen_b HX.out.box 5
         clear hb))
    exact bodyPost_ret (v := .tuple #[zeroT.v, .bool false]) (by simp [results, Tryz.results32, go_sem, r0, r1, r2, r3, r4, r5, zeroT, Tok.v, noV]) rfl (TkR.no HN.out rfl (set6_below HX.out.bel (by omega) _ _ _ _ _ _))
set_option maxRecDepth 100000 in
set_option maxHeartbeats 8000000 in
theorem num_B_ok (s : ByteArray) (hs : s.size ≤ 1000) (n : Nat) (hn : runL digitB s.data.toList = n) (hb0 : headIs 46 (s.data.toList.drop n) = true) (f : Nat) (hf : runL digitB (s.data.toList.drop (n + 1)) = f) (hf0 : f ≠ 0) (hf4 : f ≤ 4) (hbe : headIs 46 (s.data.toList.drop (n + (1 + f))) = false) (q : Nat) (hwe : runL wordB (s.data.toList.drop (n + (1 + f))) = q) (hq : q = 0) (v : Int) (hpi : okL (Lib.parseIntB 64 (decD s n f (4 - f)).data.toList) = some v) (HN : Hid (numT s.data.toList = some (nuT s.data.toList (n + (1 + f)) 3 v))) (w : World) (hE : Env w) : Calls Tryz.prog 32 #[.string s] w (TkR (numT s.data.toList) w) := by
  have HE := Lib.hid hE
  have HX := Lib.hid (BX.first w #[.int .i64 0, .string ⟨#[]⟩, .int .i64 0, .int .i64 0, .string ⟨#[]⟩, .int .i64 0] 35)
  obtain ⟨r0, r1, r2, r3, r4, r5⟩ := box6 HX.out.box
  have z0 := frozen_b HX.out.box 0
  have z1 := frozen_b HX.out.box 1
  have z2 := frozen_b HX.out.box 2
  have z3 := frozen_b HX.out.box 3
  have z4 := frozen_b HX.out.box 4
  have z5 := frozen_b HX.out.box 5
  have HR := Lib.hid (fun W => run_isDigit s (by omega) W)
  have HB := Lib.hid (fun W => begins_n s n W)
  have hle : n ≤ s.size := by rw [← hn, ← size_list' s]; exact runL_le _ _
  have hlei : (n : Int) ≤ (s.size : Int) := by omega
  have hsi : (s.size : Int) ≤ 1000 := by omega
  rw [hn] at HR
  rw [hb0] at HB
  have h1 : n + 1 ≤ s.size := by have := headIs_drop _ _ _ hb0; rw [size_list'] at this; omega
  have h2 : n + 1 + f ≤ s.size := by have := runL_le digitB (s.data.toList.drop (n + 1)); rw [hf, List.length_drop, size_list'] at this; omega
  have h1i : (n : Int) + 1 ≤ (s.size : Int) := by omega
  have HF := Lib.hid (fun W => digit_n s hs (n + 1) W)
  rw [hf] at HF
  obtain ⟨m, hm⟩ : ∃ m : Nat, m = 4 - f := ⟨_, rfl⟩
  have hmi : IntKind.i64.wrap (4 - (f : Int)) = (m : Int) := by rw [IntKind.wrap_i64]; omega
  have hw1 : IntKind.i64.wrap ((n : Int) + 1) = (n : Int) + 1 := by rw [IntKind.wrap_i64]; omega
  obtain ⟨g, hg⟩ : ∃ g : Nat, g = n + 1 + f := ⟨_, rfl⟩
  have hw2 : IntKind.i64.wrap ((n : Int) + 1 + (f : Int)) = (g : Int) := by rw [IntKind.wrap_i64]; omega
  have hg0 : (0 : Int) ≤ (n : Int) + 1 := by omega
  have hg1 : (n : Int) + 1 ≤ (g : Int) := by omega
  have hg2 : (g : Int) ≤ (s.size : Int) := by omega
  have f0 : ((f : Int) == 0) = false := beq_false_of_ne (by omega)
  have f4 : ¬ (4 : Int) < (f : Int) := by omega
  have h3i : (n : Int) + (1 + (f : Int)) ≤ (s.size : Int) := by omega
  have HREP := Lib.hid (fun W => Tryz.strings_Repeat ⟨#[48]⟩ m W (by omega) (by show 1 * m ≤ _; omega))
  have HDS := decD_size s n f m h2
  have hrl : (Lib.repeatL [48] m).length = m := by rw [repeat_one]; simp
  have c1 : ¬ 9223372036854775807 < min g s.size - (n + 1) + (Lib.repeatL [48] m).length := by rw [hrl]; omega
  have c2 : ¬ 9223372036854775807 < min n s.size + (min g s.size - (n + 1) + (Lib.repeatL [48] m).length) := by rw [hrl]; omega
  have HBE := Lib.hid (fun W => begins_n s (n + (1 + f)) W)
  rw [hbe] at HBE
  have HWE := Lib.hid (fun W => word_n s hs (n + (1 + f)) W)
  rw [hwe] at HWE
  subst hq
  rw [← hm] at hpi
  have HPI := Lib.hid (fun W (h : Env W) => parseInt_L (decD s n f m) (by rw [HDS]; omega) W h)
  rw [hpi] at HPI
  unfold decD at HPI
  rw [← hg] at HPI
  have HT := Lib.hid (fun W => token_any 2 (s.extract 0 (n + (1 + f))) 3 v ⟨#[]⟩ (by rw [ext_size _ _ _ (by omega)]; omega) W)
  clear hs hE hn hle h1 hf hf0 hf4 HDS h2 hrl hwe hpi hbe hb0 hm hg
  go_enter Tryz.func32, Tryz.ntmps32
  go_wp2_with (first
    | (go_at_call 19; (with_reducible refine (HR.out _).mono ?_); rintro e w2 ⟨rfl, rfl⟩)
    | (go_at_call 27; (with_reducible refine (HB.out _).mono ?_); rintro e w2 ⟨rfl, rfl⟩)
    | (go_at_call 19; (with_reducible refine (HF.out _).mono ?_); rintro e w2 ⟨rfl, rfl⟩))
  go_region_law (first
    | (go_simp; go_at_call 24; refine (HREP.out _).mono ?_; rintro e w2 ⟨rfl, hb⟩
       have HX := Lib.hid (HX.out.next_d hb)
       obtain ⟨r0, r1, r2, r3, r4, r5⟩ := box6 HX.out.box
       have z0 := frozen_b HX.out.box 0
       have z1 := frozen_b HX.out.box 1
       have z2 := frozen_b HX.out.box 2
       have z3 := frozen_b HX.out.box 3
       have z4 := frozen_b HX.out.box 4
       have z5 := frozen_b HX.out.box 5
       clear hb))
  all_goals
    go_wp2_with (first
      | (go_at_call 19; (with_reducible refine (HR.out _).mono ?_); rintro e w2 ⟨rfl, rfl⟩)
      | (go_at_call 27; (with_reducible refine (HB.out _).mono ?_); rintro e w2 ⟨rfl, rfl⟩)
      | (go_at_call 19; (with_reducible refine (HF.out _).mono ?_); rintro e w2 ⟨rfl, rfl⟩)
      | (go_at_call 27; (with_reducible refine (HBE.out _).mono ?_); rintro e w2 ⟨rfl, rfl⟩)
      | (go_at_call 19; (with_reducible refine (HWE.out _).mono ?_); rintro e w2 ⟨rfl, rfl⟩)
      | (go_at_call 56; refine (HPI.out _ (HE.out.below HX.out.bel)).mono ?_; rintro e w2 ⟨hb, rfl⟩
         have HX := Lib.hid (HX.out.next hb)
         obtain ⟨r0, r1, r2, r3, r4, r5⟩ := box6 HX.out.box
         have z0 := frozen_b HX.out.box 0
         have z1 := frozen_b HX.out.box 1
         have z2 := frozen_b HX.out.box 2
         have z3 := frozen_b HX.out.box 3
         have z4 := frozen_b HX.out.box 4
         have z5 := frozen_b HX.out.box 5
         clear hb)
      | (go_at_call 53; refine (HT.out _).mono ?_; rintro e w3 ⟨rfl, hb⟩
         have HX := Lib.hid (HX.out.next hb)
         obtain ⟨r0, r1, r2, r3, r4, r5⟩ := box6 HX.out.box
         have z0 := frozen_b HX.out.box 0
         have z1 := frozen_b HX.out.box 1
         have z2 := frozen_b HX.out.box 2
         have z3 := frozen_b HX.out.box 3
         have z4 := frozen_b HX.out.box 4
         have z5 := frozen_b HX.out.box 5
         clear hb))
    exact bodyPost_ret (v := .tuple #[.agg #[.int .i64 2, .string (s.extract 0 (n + (1 + f))), .int .i64 3, .int .i64 v, .string ⟨#[]⟩, .int .i64 0], .bool true]) (by simp [results, Tryz.results32, go_sem, r0, r1, r2, r3, r4, r5]) rfl (TkR.ok HN.out (nuT_val s _ 3 v) (set6_below HX.out.bel (by omega) _ _ _ _ _ _))
set_option maxRecDepth 100000 in
set_option maxHeartbeats 8000000 in
theorem num_Z (s : ByteArray) (hs : s.size ≤ 1000) (n : Nat) (hn : runL digitB s.data.toList = n) (hb0 : headIs 46 (s.data.toList.drop n) = true) (f : Nat) (hf : runL digitB (s.data.toList.drop (n + 1)) = f) (hf0 : f = 0) (HN : Hid (numT s.data.toList = none)) (w : World) (hE : Env w) : Calls Tryz.prog 32 #[.string s] w (TkR (numT s.data.toList) w) := by
  have HE := Lib.hid hE
  have HX := Lib.hid (BX.first w #[.int .i64 0, .string ⟨#[]⟩, .int .i64 0, .int .i64 0, .string ⟨#[]⟩, .int .i64 0] 35)
  obtain ⟨r0, r1, r2, r3, r4, r5⟩ := box6 HX.out.box
  have z0 := frozen_b HX.out.box 0
  have z1 := frozen_b HX.out.box 1
  have z2 := frozen_b HX.out.box 2
  have z3 := frozen_b HX.out.box 3
  have z4 := frozen_b HX.out.box 4
  have z5 := frozen_b HX.out.box 5
  have HR := Lib.hid (fun W => run_isDigit s (by omega) W)
  have HB := Lib.hid (fun W => begins_n s n W)
  have hle : n ≤ s.size := by rw [← hn, ← size_list' s]; exact runL_le _ _
  have hlei : (n : Int) ≤ (s.size : Int) := by omega
  have hsi : (s.size : Int) ≤ 1000 := by omega
  rw [hn] at HR
  rw [hb0] at HB
  have h1 : n + 1 ≤ s.size := by have := headIs_drop _ _ _ hb0; rw [size_list'] at this; omega
  have h2 : n + 1 + f ≤ s.size := by have := runL_le digitB (s.data.toList.drop (n + 1)); rw [hf, List.length_drop, size_list'] at this; omega
  have h1i : (n : Int) + 1 ≤ (s.size : Int) := by omega
  have HF := Lib.hid (fun W => digit_n s hs (n + 1) W)
  rw [hf] at HF
  have f0 : ((f : Int) == 0) = true := by rw [hf0]; rfl
  clear hs hE hn hle h1 hf hf0 h2 hb0
  go_enter Tryz.func32, Tryz.ntmps32
  go_wp2_with (first
    | (go_at_call 19; (with_reducible refine (HR.out _).mono ?_); rintro e w2 ⟨rfl, rfl⟩)
    | (go_at_call 27; (with_reducible refine (HB.out _).mono ?_); rintro e w2 ⟨rfl, rfl⟩)
    | (go_at_call 19; (with_reducible refine (HF.out _).mono ?_); rintro e w2 ⟨rfl, rfl⟩))
  exact bodyPost_ret (v := .tuple #[zeroT.v, .bool false]) (by simp [results, Tryz.results32, go_sem, r0, r1, r2, r3, r4, r5, zeroT, Tok.v, noV]) rfl (TkR.no HN.out rfl HX.out.bel)
set_option maxRecDepth 100000 in
set_option maxHeartbeats 8000000 in
theorem num_M (s : ByteArray) (hs : s.size ≤ 1000) (n : Nat) (hn : runL digitB s.data.toList = n) (hb0 : headIs 46 (s.data.toList.drop n) = true) (f : Nat) (hf : runL digitB (s.data.toList.drop (n + 1)) = f) (hf4 : 4 < f) (HN : Hid (numT s.data.toList = none)) (w : World) (hE : Env w) : Calls Tryz.prog 32 #[.string s] w (TkR (numT s.data.toList) w) := by
  have HE := Lib.hid hE
  have HX := Lib.hid (BX.first w #[.int .i64 0, .string ⟨#[]⟩, .int .i64 0, .int .i64 0, .string ⟨#[]⟩, .int .i64 0] 35)
  obtain ⟨r0, r1, r2, r3, r4, r5⟩ := box6 HX.out.box
  have z0 := frozen_b HX.out.box 0
  have z1 := frozen_b HX.out.box 1
  have z2 := frozen_b HX.out.box 2
  have z3 := frozen_b HX.out.box 3
  have z4 := frozen_b HX.out.box 4
  have z5 := frozen_b HX.out.box 5
  have HR := Lib.hid (fun W => run_isDigit s (by omega) W)
  have HB := Lib.hid (fun W => begins_n s n W)
  have hle : n ≤ s.size := by rw [← hn, ← size_list' s]; exact runL_le _ _
  have hlei : (n : Int) ≤ (s.size : Int) := by omega
  have hsi : (s.size : Int) ≤ 1000 := by omega
  rw [hn] at HR
  rw [hb0] at HB
  have h1 : n + 1 ≤ s.size := by have := headIs_drop _ _ _ hb0; rw [size_list'] at this; omega
  have h2 : n + 1 + f ≤ s.size := by have := runL_le digitB (s.data.toList.drop (n + 1)); rw [hf, List.length_drop, size_list'] at this; omega
  have h1i : (n : Int) + 1 ≤ (s.size : Int) := by omega
  have HF := Lib.hid (fun W => digit_n s hs (n + 1) W)
  rw [hf] at HF
  have f0 : ((f : Int) == 0) = false := beq_false_of_ne (by omega)
  have f4 : (4 : Int) < (f : Int) := by omega
  clear hs hE hn hle h1 hf hf4 h2 hb0
  go_enter Tryz.func32, Tryz.ntmps32
  go_wp2_with (first
    | (go_at_call 19; (with_reducible refine (HR.out _).mono ?_); rintro e w2 ⟨rfl, rfl⟩)
    | (go_at_call 27; (with_reducible refine (HB.out _).mono ?_); rintro e w2 ⟨rfl, rfl⟩)
    | (go_at_call 19; (with_reducible refine (HF.out _).mono ?_); rintro e w2 ⟨rfl, rfl⟩))
  exact bodyPost_ret (v := .tuple #[zeroT.v, .bool false]) (by simp [results, Tryz.results32, go_sem, r0, r1, r2, r3, r4, r5, zeroT, Tok.v, noV]) rfl (TkR.no HN.out rfl HX.out.bel)
theorem okL_some {x : Lib.NumEnd Int} {v : Int} (h : okL x = some v) : x = .ok v := by
  cases x <;> simp [okL] at h
  rw [h]
theorem numE_any (l ds : List UInt8) (k : Int) (e : Nat) : numE l ds k e = if headIs 46 (l.drop e) = true then none else if 0 < runL wordB (l.drop e) then none else (okL (Lib.parseIntB 64 ds)).map (nuT l e k) := by
  unfold numE
  cases headIs 46 (l.drop e) with
  | true => simp
  | false =>
    by_cases h : 0 < runL wordB (l.drop e)
    · simp [h]
    · simp only [h, Bool.false_or, decide_false, Bool.false_eq_true, if_false]
      cases Lib.parseIntB 64 ds <;> rfl
theorem takeNumber_any (s : ByteArray) (hs : s.size ≤ 1000) (w : World) (hE : Env w) : Calls Tryz.prog 32 #[.string s] w (TkR (numT s.data.toList) w) := by
  obtain ⟨n, hn⟩ : ∃ n, runL digitB s.data.toList = n := ⟨_, rfl⟩
  cases hb0 : headIs 46 (s.data.toList.drop n) with
  | false =>
    have hN : numT s.data.toList = numE s.data.toList (s.data.toList.take n) 2 n := by
      unfold numT; simp only [hn, hb0]; rfl
    rw [numE_any] at hN
    have hD : (s.extract 0 n).data.toList = s.data.toList.take n := by rw [ext_list, List.drop_zero]
    rw [← hD] at hN
    · rw [hb0] at hN
      obtain ⟨q, hwe⟩ : ∃ q, runL wordB (s.data.toList.drop n) = q := ⟨_, rfl⟩
      rw [hwe] at hN
      by_cases hq : 0 < q
      · exact num_A_wd s hs n hn hb0 q hwe hq (Lib.hid (by rw [hN, if_neg (by simp), if_pos hq])) w hE
      · rw [if_neg (by simp), if_neg hq] at hN
        cases hpi : okL (Lib.parseIntB 64 (s.extract 0 n).data.toList) with
        | none => exact num_A_no s hs n hn hb0 q hwe (by omega) hpi (Lib.hid (by rw [hN, hpi]; rfl)) w hE
        | some v => exact num_A_ok s hs n hn hb0 q hwe (by omega) v hpi (Lib.hid (by rw [hN, hpi]; rfl)) w hE
  | true =>
    obtain ⟨f, hf⟩ : ∃ f, runL digitB (s.data.toList.drop (n + 1)) = f := ⟨_, rfl⟩
    by_cases hf0 : f = 0
    · exact num_Z s hs n hn hb0 f hf hf0 (Lib.hid (by unfold numT; simp [hn, hb0, hf, hf0])) w hE
    · by_cases hf4 : 4 < f
      · exact num_M s hs n hn hb0 f hf hf4 (Lib.hid (by unfold numT; simp [hn, hb0, hf, hf4])) w hE
      · have hN : numT s.data.toList = numE s.data.toList (decD s n f (4 - f)).data.toList 3 (n + (1 + f)) := by
          rw [decD_list]
          unfold numT; simp only [hn, hb0, hf, if_true]; rw [if_neg (by omega)]
        rw [numE_any] at hN
        cases hbe : headIs 46 (s.data.toList.drop (n + (1 + f))) with
        | true => exact num_B_pt s hs n hn hb0 f hf hf0 (by omega) hbe (Lib.hid (by rw [hN, hbe, if_pos rfl])) w hE
        | false =>
          rw [hbe] at hN
          obtain ⟨q, hwe⟩ : ∃ q, runL wordB (s.data.toList.drop (n + (1 + f))) = q := ⟨_, rfl⟩
          rw [hwe] at hN
          by_cases hq : 0 < q
          · exact num_B_wd s hs n hn hb0 f hf hf0 (by omega) hbe q hwe hq (Lib.hid (by rw [hN, if_neg (by simp), if_pos hq])) w hE
          · rw [if_neg (by simp), if_neg hq] at hN
            cases hpi : okL (Lib.parseIntB 64 (decD s n f (4 - f)).data.toList) with
            | none => exact num_B_no s hs n hn hb0 f hf hf0 (by omega) hbe q hwe (by omega) hpi (Lib.hid (by rw [hN, hpi]; rfl)) w hE
            | some v => exact num_B_ok s hs n hn hb0 f hf hf0 (by omega) hbe q hwe (by omega) v hpi (Lib.hid (by rw [hN, hpi]; rfl)) w hE
end Go.Proofs.YtokkbipdkakenaaGreatDoor

/- Package lex: a token's text; words; signs. -/
import Derived.Test.YtokkbipdkakenaaGreatDoorBW
import Derived.Test.YtokkbipdkakenaaGreatDoorShelf
namespace Go.Proofs.YtokkbipdkakenaaGreatDoor
open Go.RowKit

theorem ext_list (s : ByteArray) (i j : Nat) : (s.extract i j).data.toList = (s.data.toList.take j).drop i := by
  rw [ByteArray.data_extract, Array.toList_extract]
  simp [List.extract, List.drop_take]
theorem of_list {s : ByteArray} {l : List UInt8} (h : s.data.toList = l) : s = ⟨l.toArray⟩ := by
  apply ByteArray.ext
  subst h
  simp
theorem ext_of (s : ByteArray) (i j : Nat) : s.extract i j = ⟨((s.data.toList.take j).drop i).toArray⟩ := of_list (ext_list s i j)
theorem size_of' (l : List UInt8) : (⟨l.toArray⟩ : ByteArray).size = l.length := by
  show l.toArray.size = l.length
  simp
theorem ext_size (s : ByteArray) (i j : Nat) (hj : j ≤ s.size) : (s.extract i j).size = j - i := by
  rw [ByteArray.size_extract, Nat.min_eq_left hj]
/-- what a call answers that takes a token -/
def TkR (o : Option Tok) (w : World) : Ending → World → Prop := fun e w' => Below w.heap.size w w' ∧ match o with
  | some t => e = .returned (.tuple #[t.v, .bool true])
  | none => ∃ t : Tok, e = .returned (.tuple #[t.v, .bool false])
theorem TkR.ok {o : Option Tok} {t : Tok} {v : Value} {w w' : World} (h : o = some t) (hv : t.v = v) (hb : Below w.heap.size w w') : TkR o w (.returned (.tuple #[v, .bool true])) w' := by
  subst h hv; exact ⟨hb, rfl⟩
theorem TkR.no {o : Option Tok} {t : Tok} {v : Value} {w w' : World} (h : o = none) (hv : t.v = v) (hb : Below w.heap.size w w') : TkR o w (.returned (.tuple #[v, .bool false])) w' := by
  subst h hv; exact ⟨hb, t, rfl⟩
def zeroT : Tok := ⟨0, [], noV, 0⟩
set_option maxRecDepth 100000 in
theorem clone_any (s : ByteArray) (hs : s.size ≤ 1000000) (w : World) : Calls Tryz.prog 78 #[.string s] w (Ans (.string s) w) := by
  have HC := Lib.hid (Tryz.stringslite_Clone s w (by omega))
  clear hs
  go_enter Tryz.func78, Tryz.ntmps78
  go_wp2_with (go_at_call 99; refine HC.out.mono ?_; rintro e w2 ⟨rfl, hb⟩; have HB := Lib.hid hb; clear hb)
  go_ret
  exact ⟨rfl, HB.out⟩
set_option maxRecDepth 100000 in
set_option maxHeartbeats 2000000 in
theorem token_any (k : Int) (s : ByteArray) (a b : Int) (c : ByteArray) (hs : s.size ≤ 1000000) (w : World) :
    Calls Tryz.prog 53 #[.int .i64 k, .string s, .agg #[.int .i64 a, .int .i64 b, .string c]] w (Ans (.agg #[.int .i64 k, .string s, .int .i64 a, .int .i64 b, .string c, .int .i64 0]) w) := by
  have HC := Lib.hid (fun W => clone_any s hs W)
  have HP := Lib.hid ((BX.two w #[.int .i64 a, .int .i64 b, .string c] #[.int .i64 0, .string ⟨#[]⟩, .int .i64 0, .int .i64 0, .string ⟨#[]⟩, .int .i64 0] 24 35).1)
  have HX := Lib.hid ((BX.two w #[.int .i64 a, .int .i64 b, .string c] #[.int .i64 0, .string ⟨#[]⟩, .int .i64 0, .int .i64 0, .string ⟨#[]⟩, .int .i64 0] 24 35).2)
  clear hs
  go_enter Tryz.func53, Tryz.ntmps53
  go_wp2_with fail
  go_region_law (first
    | (go_simp; go_at_call 78; refine (HC.out _).mono ?_; rintro e w2 ⟨rfl, hb⟩
       have HP := Lib.hid (HP.out.next_d hb)
       have HX := Lib.hid (HX.out.next_d hb)
       obtain ⟨p0, p1, p2⟩ := box3b HP.out.box
       obtain ⟨r0, r1, r2, r3, r4, r5⟩ := box6 HX.out.box
       have z0 := frozen_b HX.out.box 0
       have z1 := frozen_b HX.out.box 1
       have z2 := frozen_b HX.out.box 2
       have z3 := frozen_b HX.out.box 3
       have z4 := frozen_b HX.out.box 4
       have z5 := frozen_b HX.out.box 5
       clear hb))
  all_goals
    go_wp2_with fail
    exact bodyPost_ret (v := .agg #[.int .i64 k, .string s, .int .i64 a, .int .i64 b, .string c, .int .i64 0]) (by simp [results, Tryz.results53, go_sem, r0, r1, r2, r3, r4, r5]) rfl ⟨rfl, set6_below HX.out.bel (by omega) _ _ _ _ _ _⟩
theorem word_ascii (c : UInt8) (h : wordB c = true) : c.toNat < 128 := by
  unfold wordB letterB digitB at h
  simp at h
  omega
theorem all_takeWhile (p : UInt8 → Bool) (l : List UInt8) : ∀ c ∈ l.takeWhile p, p c = true := by
  induction l with
  | nil => intro c hc; simp at hc
  | cons d l ih =>
    intro c hc
    rw [List.takeWhile_cons] at hc
    split at hc
    · rcases List.mem_cons.1 hc with rfl | hc
      · assumption
      · exact ih c hc
    · simp at hc
set_option maxRecDepth 100000 in
set_option maxHeartbeats 2000000 in
theorem takeWord_any (s : ByteArray) (hs : s.size ≤ 1000) (w : World) : Calls Tryz.prog 30 #[.string s] w (TkR (some (wordT s.data.toList)) w) := by
  have HR := Lib.hid (fun W => run_inWord s (by omega) W)
  have HX := Lib.hid (BX.first w #[.int .i64 0, .string ⟨#[]⟩, .int .i64 0, .int .i64 0, .string ⟨#[]⟩, .int .i64 0] 35)
  obtain ⟨n, hn⟩ : ∃ n, n = runL wordB s.data.toList := ⟨_, rfl⟩
  rw [← hn] at HR
  have hle : n ≤ s.size := by rw [hn, ← size_list' s]; exact runL_le _ _
  have hlei : (n : Int) ≤ (s.size : Int) := by omega
  have hx := ext_list s 0 n
  rw [List.drop_zero, hn, run_take, ← hn] at hx
  have hsz : (s.extract 0 n).size = n := by rw [ext_size s 0 n hle]; omega
  have HL := Lib.hid (fun W => Tryz.strings_ToLower_ascii (s.extract 0 n) W (by rw [hsz]; omega) (fun j b hj => word_ascii b (by
    rw [hx] at hj
    exact all_takeWhile _ _ b (List.mem_of_getElem? hj))))
  rw [hx] at HL
  have HV : Hid ((wordT s.data.toList).v = .agg #[.int .i64 1, .string ⟨(Lib.toLowerA (List.takeWhile wordB s.data.toList)).toArray⟩, .int .i64 0, .int .i64 0, .string ⟨#[]⟩, .int .i64 0]) := Lib.hid (by
    unfold wordT Tok.v noV
    simp only [run_take]
    rfl)
  have HT := Lib.hid (fun W => token_any 1 ⟨(Lib.toLowerA (List.takeWhile wordB s.data.toList)).toArray⟩ 0 0 ⟨#[]⟩ (by
    rw [size_of']
    have := runL_le wordB s.data.toList
    have h2 := size_list' s
    unfold runL at this
    simp [Lib.toLowerA]; omega) W)
  clear hn hx hsz hle
  go_enter Tryz.func30, Tryz.ntmps30
  go_wp2_with (first
    | (go_at_call 19; refine (HR.out _).mono ?_; rintro e w2 ⟨rfl, rfl⟩)
    | (go_at_call 55; refine (HL.out _).mono ?_; rintro e w2 ⟨rfl, hb⟩; have HX := Lib.hid (HX.out.next hb); clear hb)
    | (go_at_call 53; refine (HT.out _).mono ?_; rintro e w3 ⟨rfl, hb⟩
       have HX := Lib.hid (HX.out.next hb)
       obtain ⟨r0, r1, r2, r3, r4, r5⟩ := box6 HX.out.box
       have z0 := frozen_b HX.out.box 0
       have z1 := frozen_b HX.out.box 1
       have z2 := frozen_b HX.out.box 2
       have z3 := frozen_b HX.out.box 3
       have z4 := frozen_b HX.out.box 4
       have z5 := frozen_b HX.out.box 5
       clear hb))
  exact bodyPost_ret (v := .tuple #[.agg #[.int .i64 1, .string ⟨(Lib.toLowerA (List.takeWhile wordB s.data.toList)).toArray⟩, .int .i64 0, .int .i64 0, .string ⟨#[]⟩, .int .i64 0], .bool true]) (by simp [results, Tryz.results30, go_sem, r0, r1, r2, r3, r4, r5]) rfl (TkR.ok rfl HV.out (set6_below HX.out.bel (by omega) _ _ _ _ _ _))
end Go.Proofs.YtokkbipdkakenaaGreatDoor

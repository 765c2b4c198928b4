/- The document's Read. -/
import Derived.Test.YtneppncnccangaaGreatDoorTH
namespace Go.Proofs.YtneppncnccangaaGreatDoor
open Go.RowKit

theorem text_len {x : Val} (hok : x.ok) (hr : rightB x = true) : (textS x).size ≤ 403 := by
  have hs : x.s.size ≤ 200 := by
    rcases Val.R.cases (x := x) ⟨hr, hok⟩ with ⟨_, _, h⟩ | ⟨_, _, h⟩ | ⟨_, h, _⟩ | ⟨_, _, h⟩
    · rw [h]; exact Nat.zero_le _
    · rw [h]; exact Nat.zero_le _
    · rw [h]; exact Nat.zero_le _
    · exact h
  have h := shape_of hok hr rfl
  rw [← list_size]
  have sg : ∀ n : Int, (signL n).length ≤ 1 := fun n => by unfold signL; split <;> simp
  rcases h with ⟨_, h⟩ | ⟨_, h⟩ | ⟨_, h⟩ | ⟨n, _, hn, h⟩ | ⟨n, _, hn, h⟩ | ⟨q, hv, h⟩ | ⟨q, hv, h⟩
  · rw [h]; decide
  · rw [h]; decide
  · rw [h]; decide
  · have h1 := sg n
    have h2 := dec_20 (u := n.natAbs) (by unfold i64ok at hn; omega)
    rw [h, List.length_append]
    omega
  · have h1 := sg n
    have h2 := dec_20 (u := n.natAbs / 10000) (by unfold i64ok at hn; omega)
    have h3 := padD_len (least := 4) (u := n.natAbs % 10000) (by omega) (by omega)
    rw [h, List.length_append, List.length_append, List.length_cons]
    omega
  · rw [hv] at hs
    have h1 := dbl_len2 q.data.toList
    rw [list_size] at h1
    have hs2 : q.size ≤ 200 := hs
    rw [h, List.length_cons, List.length_append, List.length_singleton]
    omega
  · rw [hv] at hs
    have h1 := hexL_len q.data.toList
    rw [list_size] at h1
    have hs2 : q.size ≤ 200 := hs
    rw [h, List.length_cons, List.length_cons, List.length_append, List.length_singleton]
    omega
/-- what a read value is, beside what guess tells -/
theorem read_ok {s : ByteArray} {x : Val} (h : readV s = some x) (hs : s.size ≤ 1000) : textS x = s ∧ rightB x = true ∧ x.ok := by
  obtain ⟨h1, h2⟩ := read_back h
  refine ⟨h1, h2, ?_⟩
  unfold readV at h
  cases hg : guessV s.data.toList with
  | none => rw [hg] at h; cases h
  | some y =>
    rw [hg] at h
    simp only at h
    split at h
    · injection h with h
      subst h
      exact (guessV_ok hs hg).1
    · cases h
theorem read_none_of {s : ByteArray} (hs : s.size ≤ 1000) (h : ∀ y : Val, y.ok → rightB y = true → textS y = s → False) : readV s = none := by
  cases hr : readV s with
  | none => rfl
  | some y =>
    obtain ⟨h1, h2, h3⟩ := read_ok hr hs
    exact absurd (h y h3 h2 h1) id
def RdT (w : World) (s : ByteArray) (e : Ending) (w' : World) : Prop := Below w.heap.size w w' ∧ match readV s with
  | some x => e = .returned (.tuple #[.agg #[.int .i64 x.k, .int .i64 x.n, .string x.s], .bool true])
  | none => e = .returned (.tuple #[.agg #[.int .i64 0, .int .i64 0, .string ⟨#[]⟩], .bool false])
theorem rdt_no {w W : World} {s : ByteArray} (hW : Below w.heap.size w W) (h : readV s = none) : RdT w s (.returned (.tuple #[.agg #[.int .i64 0, .int .i64 0, .string ⟨#[]⟩], .bool false])) W := ⟨hW, by rw [h]⟩
theorem rdt_yes {w W : World} {s : ByteArray} {x : Val} (hW : Below w.heap.size w W) (h : readV s = some x) : RdT w s (.returned (.tuple #[.agg #[.int .i64 x.k, .int .i64 x.n, .string x.s], .bool true])) W := ⟨hW, by rw [h]⟩
set_option maxRecDepth 100000 in
set_option maxHeartbeats 8000000 in
theorem refRead_any (s : ByteArray) (hs : s.size ≤ 1000) (w : World) : Calls Tryz.prog 17 #[.string s] w (RdT w s) := by
  have HR := Lib.hid (RZ.new w)
  by_cases hl : 403 < s.size
  · have hli : (403 : Int) < (s.size : Int) := by omega
    have HY : Hid (∀ W, Below w.heap.size w W → RdT w s (.returned (.tuple #[.agg #[.int .i64 0, .int .i64 0, .string ⟨#[]⟩], .bool false])) W) := Lib.hid fun W hW => rdt_no hW (read_none_of hs fun y hy hr e => by have := text_len hy hr; rw [e] at this; omega)
    clear hl hs
    go_enter Tryz.func17, Tryz.ntmps17
    go_wp2_with fail
    refine bodyPost_ret (v := .tuple #[.agg #[.int .i64 0, .int .i64 0, .string ⟨#[]⟩], .bool false]) (by simp [results, Tryz.results17, go_sem]) rfl ?_
    exact HY.out _ HR.out.bel
  · have hli : ¬ (403 : Int) < (s.size : Int) := by omega
    have GA := Lib.hid (refGuess_any s hs)
    have HSZ := Lib.hid hs
    clear hl hs
    go_enter Tryz.func17, Tryz.ntmps17
    go_upto_region 4 with (go_at_call 27; refine (GA.out _).mono ?_; rintro e w2 ⟨hb, ⟨k, n, t⟩, rfl, hok, hsz, hx⟩; have HG := Lib.hid (And.intro hok (And.intro hsz hx)); have HR := Lib.hid ((HR.out.next hb).next (alloc_below w2 (.cells #[.int .i64 k, .int .i64 n, .string t] 24))); have HX := Lib.hid (heap_alloc_new w2 (.cells #[.int .i64 k, .int .i64 n, .string t] 24)); clear hb hok hsz hx)
    have HT0 : Hid (t.size ≤ 1000) := Lib.hid HG.out.2.1
    have RR := Lib.hid (refRight_any ⟨k, n, t⟩ (by show t.size ≤ _; have := HT0.out; omega))
    simp only at RR
    have TX : Hid (∀ w, Calls Tryz.prog 19 #[.agg #[.int .i64 k, .int .i64 n, .string t]] w (Ans (.string (textS ⟨k, n, t⟩)) w)) := Lib.hid fun w => refText_any ⟨k, n, t⟩ HG.out.1 (by show t.size ≤ _; have := HT0.out; omega) w
    cases hr : rightB ⟨k, n, t⟩ with
    | false =>
      have HY : Hid (∀ W, Below w.heap.size w W → RdT w s (.returned (.tuple #[.agg #[.int .i64 0, .int .i64 0, .string ⟨#[]⟩], .bool false])) W) := Lib.hid fun W hW => rdt_no hW (read_none_of HSZ.out fun y hy ry e => by
        have h := HG.out.2.2 y hy ry e
        rw [← h, hr] at ry
        cases ry)
      rw [hr] at RR
      clear hr
      go_wp2_with (go_at_call 24; refine (RR.out _).mono ?_; rintro e w3 ⟨rfl, hb⟩
                   have HR := Lib.hid (HR.out.next hb)
                   obtain ⟨r0, r1, r2⟩ := box3 HR.out.r
                   have z0 := frozen3 HR.out.r 0
                   have z1 := frozen3 HR.out.r 1
                   have z2 := frozen3 HR.out.r 2
                   clear hb)
      refine bodyPost_ret (v := .tuple #[.agg #[.int .i64 0, .int .i64 0, .string ⟨#[]⟩], .bool false]) (by simp [results, Tryz.results17, go_sem, r0, r1, r2]) rfl ?_
      exact HY.out _ (HR.out.put _ _ _)
    | true =>
      rw [hr] at RR
      have HRR := Lib.hid hr
      clear hr
      by_cases he : textS ⟨k, n, t⟩ = s
      · have HY : Hid (∀ W, Below w.heap.size w W → RdT w s (.returned (.tuple #[.agg #[.int .i64 k, .int .i64 n, .string t], .bool true])) W) := Lib.hid fun W hW => rdt_yes (x := ⟨k, n, t⟩) hW (by rw [← he]; exact read_text _ HG.out.1 HRR.out)
        rw [he] at TX
        clear he
        go_wp2_with (first
          | (go_at_call 24; refine (RR.out _).mono ?_; rintro e w3 ⟨rfl, hb⟩
             have HR := Lib.hid (HR.out.next hb)
             have HX := Lib.hid ((hb.block _ (Array.getElem?_eq_some_iff.1 HX.out).1).trans HX.out)
             obtain ⟨x0, x1, x2⟩ := box3 HX.out
             clear hb)
          | (go_at_call 19; refine (TX.out _).mono ?_; rintro e w4 ⟨rfl, hb⟩
             have HR := Lib.hid (HR.out.next hb)
             obtain ⟨y0, y1, y2⟩ := box3 ((hb.block _ (Array.getElem?_eq_some_iff.1 HX.out).1).trans HX.out)
             obtain ⟨r0, r1, r2⟩ := box3 HR.out.r
             have z0 := frozen3 HR.out.r 0
             have z1 := frozen3 HR.out.r 1
             have z2 := frozen3 HR.out.r 2
             clear hb))
        refine bodyPost_ret (v := .tuple #[.agg #[.int .i64 k, .int .i64 n, .string t], .bool true]) (by simp [results, Tryz.results17, go_sem, r0, r1, r2]) rfl ?_
        exact HY.out _ (HR.out.put _ _ _)
      · have HY : Hid (∀ W, Below w.heap.size w W → RdT w s (.returned (.tuple #[.agg #[.int .i64 0, .int .i64 0, .string ⟨#[]⟩], .bool false])) W) := Lib.hid fun W hW => rdt_no hW (read_none_of HSZ.out fun y hy ry e => by
          have h := HG.out.2.2 y hy ry e
          rw [h] at he
          exact he e)
        have hne : ¬ (textS ⟨k, n, t⟩).toList = s.toList := fun e => he ((bytes_inj _ s).1 e)
        have hne2 : ((textS ⟨k, n, t⟩).toList == s.toList) = false := by simpa using hne
        clear he
        generalize textS ⟨k, n, t⟩ = u at TX hne hne2
        go_wp2_with (first
          | (go_at_call 24; refine (RR.out _).mono ?_; rintro e w3 ⟨rfl, hb⟩
             have HR := Lib.hid (HR.out.next hb)
             have HX := Lib.hid ((hb.block _ (Array.getElem?_eq_some_iff.1 HX.out).1).trans HX.out)
             obtain ⟨x0, x1, x2⟩ := box3 HX.out
             clear hb)
          | (go_at_call 19; refine (TX.out _).mono ?_; rintro e w4 ⟨rfl, hb⟩
             have HR := Lib.hid (HR.out.next hb)
             obtain ⟨r0, r1, r2⟩ := box3 HR.out.r
             have z0 := frozen3 HR.out.r 0
             have z1 := frozen3 HR.out.r 1
             have z2 := frozen3 HR.out.r 2
             clear hb))
        refine bodyPost_ret (v := .tuple #[.agg #[.int .i64 0, .int .i64 0, .string ⟨#[]⟩], .bool false]) (by simp [results, Tryz.results17, go_sem, r0, r1, r2]) rfl ?_
        exact HY.out _ (HR.out.put _ _ _)
end Go.Proofs.YtneppncnccangaaGreatDoor

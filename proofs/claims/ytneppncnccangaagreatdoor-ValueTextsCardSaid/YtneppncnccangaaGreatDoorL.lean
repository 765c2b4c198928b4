/- Read: the valid value that has exactly this text, or the fault. -/
import Derived.Test.YtneppncnccangaaGreatDoorNX
import Derived.Test.YtneppncnccangaaGreatDoorK
import Derived.Lib.ParseIntBTie
namespace Go.Proofs.YtneppncnccangaaGreatDoor
open Go.RowKit

def readV (s : ByteArray) : Option Val := match guessV s.data.toList with
  | some x => if textS x = s then some x else none
  | none => none
def RD (o : Option Val) (w : World) : Ending → World → Prop := fun e w' => Below w.heap.size w w' ∧ match o with
  | some x => e = .returned (.tuple #[x.v, .nilIface])
  | none => ∃ v, e = .returned (.tuple #[.agg #[.int .i64 0, .int .i64 0, .string ⟨#[]⟩], v]) ∧ FaultAt w' 23 0 v
theorem unhex_len : ∀ (m b : List UInt8), unhex m = some b → b.length ≤ m.length
  | [], b, h => by simp [unhex] at h; subst h; simp
  | [c], b, h => by simp [unhex] at h; subst h; simp
  | c :: d :: t, b, h => by
    cases hx : hexN [c, d] with
    | none => simp [unhex, hx] at h
    | some n =>
      cases hy : unhex t with
      | none => simp [unhex, hx, hy] at h
      | some l =>
        simp [unhex, hx, hy] at h
        subst h
        have := unhex_len t l hy
        simp; omega
theorem numV_ok {l : List UInt8} {v : Int} (h : numV l = some v) : i64ok v := by
  unfold numV okV at h
  split at h
  · rename_i u hu
    injection h with h
    subst h
    have := Lib.parseIntB_bounds hu
    unfold i64ok
    omega
  · cases h
theorem guessV_ok {s : ByteArray} {x : Val} (hs : s.size ≤ 1000) (h : guessV s.data.toList = some x) : x.ok ∧ x.s.size ≤ 1000 := by
  have hsl := size_list s
  unfold guessV at h
  split at h
  · injection h with h; subst h; exact ⟨⟨by unfold i64ok; simp, by unfold i64ok; simp⟩, by decide⟩
  · split at h
    · injection h with h; subst h; exact ⟨⟨by unfold i64ok; simp, by unfold i64ok; simp⟩, by decide⟩
    · split at h
      · injection h with h; subst h; exact ⟨⟨by unfold i64ok; simp, by unfold i64ok; simp⟩, by decide⟩
      · cases hb : betw s.data.toList [39] with
        | some m =>
          rw [hb] at h
          injection h with h; subst h
          have := betw_len hb
          have h2 := half_len m
          exact ⟨⟨by unfold i64ok; simp, by unfold i64ok; simp⟩, by rw [size_of]; omega⟩
        | none =>
          rw [hb] at h
          cases hc : betw s.data.toList [120, 39] with
          | some m =>
            rw [hc] at h
            cases hu : unhex m with
            | none => simp [hu] at h
            | some b =>
              simp [hu] at h
              subst h
              have := betw_len hc
              have h2 := unhex_len m b hu
              exact ⟨⟨by unfold i64ok; simp, by unfold i64ok; simp⟩, by rw [size_of]; omega⟩
          | none =>
            rw [hc] at h
            cases hn : numV s.data.toList with
            | none => simp [hn] at h
            | some v =>
              simp [hn] at h
              subst h
              have hb := numV_ok hn
              refine ⟨⟨?_, hb⟩, by show (0 : Nat) ≤ 1000; omega⟩
              show i64ok (numK _)
              unfold numK i64ok
              split <;> omega
set_option maxRecDepth 100000 in
set_option maxHeartbeats 8000000 in
theorem read_any (s : ByteArray) (hs : s.size ≤ 1000) (w : World) (hE : Env w) : Calls Tryz.prog 16 #[.string s] w (RD (readV s) w) := by
  have HG : Hid (GS w (w.alloc (.cells #[.int .i64 0, .int .i64 0, .string ⟨#[]⟩] 24))) := Lib.hid ⟨heap_alloc_new _ _, hE.below (alloc_below _ _), alloc_below _ _⟩
  have GA := Lib.hid (guess_any s hs)
  have NW := Lib.hid (new_any 23 0 rfl)
  clear hE
  cases hg : guessV s.data.toList with
  | none =>
    have HR : Hid (readV s = none) := Lib.hid (by unfold readV; rw [hg])
    rw [hg] at GA
    rw [HR.out]
    have GA' : Hid (∀ w, Env w → Calls Tryz.prog 26 #[.string s] w fun e w' => ∃ k n t, e = .returned (.tuple #[.agg #[.int .i64 k, .int .i64 n, .string t], .bool false]) ∧ Below w.heap.size w w') := Lib.hid fun w h => (GA.out w h).mono fun e w' ⟨a, x, b⟩ => ⟨x.k, x.n, x.s, b, a⟩
    clear GA hg HR
    go_enter Tryz.func16, Tryz.ntmps16
    go_wp2_with (first
      | (go_at_call 26; refine (GA'.out _ HG.out.env).mono ?_; rintro e w2 ⟨k, n, t, rfl, hb⟩; have HG := Lib.hid (HG.out.next hb); clear hb)
      | (go_at_call 23; refine (NW.out _).mono ?_; rintro e w3 ⟨v, rfl, hf, hb, N, rfl⟩
         have HG := Lib.hid (HG.out.next ((alloc_below _ _).trans (hb.mono (alloc_below _ _).size)))
         have HF := Lib.hid hf
         obtain ⟨r0, r1, r2⟩ := box3 HG.out.box
         have z0 := frozen3 HG.out.box 0
         have z1 := frozen3 HG.out.box 1
         have z2 := frozen3 HG.out.box 2
         have HB := Lib.hid HG.out.bel
         clear hb hf))
    exact bodyPost_ret (v := .tuple #[.agg #[.int .i64 0, .int .i64 0, .string ⟨#[]⟩], .iface 48 (.pointer (some ⟨N, 0, none⟩))]) (by simp [results, Tryz.results16, go_sem, r0, r1, r2]) rfl ⟨set3_below0 HB.out (Nat.le_refl _) _ _ _, _, rfl, HF.out.set3 HG.out.box _ _ _⟩
  | some x =>
    obtain ⟨hok, hxs⟩ := guessV_ok hs hg
    obtain ⟨k, n, t⟩ := x
    rw [hg] at GA
    have TX : Hid (∀ w, Env w → Calls Tryz.prog 18 #[.agg #[.int .i64 k, .int .i64 n, .string t]] w (Ans (.string (textS ⟨k, n, t⟩)) w)) := Lib.hid fun w h => text_any ⟨k, n, t⟩ hok (by have : t.size ≤ 1000 := hxs; show t.size ≤ _; omega) w h
    have GA' : Hid (∀ w, Env w → Calls Tryz.prog 26 #[.string s] w fun e w' => e = .returned (.tuple #[.agg #[.int .i64 k, .int .i64 n, .string t], .bool true]) ∧ Below w.heap.size w w') := Lib.hid fun w h => (GA.out w h).mono fun e w' ⟨a, b⟩ => ⟨b, a⟩
    have HR : Hid (readV s = if textS ⟨k, n, t⟩ = s then some ⟨k, n, t⟩ else none) := Lib.hid (by unfold readV; rw [hg])
    rw [HR.out]
    clear GA hg HR hok hxs
    generalize textS ⟨k, n, t⟩ = u at TX ⊢
    by_cases hu : u = s
    · subst hu
      rw [if_pos rfl]
      go_enter Tryz.func16, Tryz.ntmps16
      go_wp2_with (first
        | (go_at_call 26; refine (GA'.out _ HG.out.env).mono ?_; rintro e w2 ⟨rfl, hb⟩; have HG := Lib.hid ((HG.out.next hb).next (alloc_below _ (.cells #[.int .i64 k, .int .i64 n, .string t] 24)))
           have HX := Lib.hid (heap_alloc_new w2 (.cells #[.int .i64 k, .int .i64 n, .string t] 24)); clear hb)
        | (go_at_call 18; refine (TX.out _ HG.out.env).mono ?_; rintro e w3 ⟨rfl, hb⟩
           have HG := Lib.hid (HG.out.next hb)
           have HX := Lib.hid ((hb.block _ (Array.getElem?_eq_some_iff.1 HX.out).1).trans HX.out)
           obtain ⟨r0, r1, r2⟩ := box3 HG.out.box
           obtain ⟨q0, q1, q2⟩ := box3 HX.out
           have z0 := frozen3 HG.out.box 0
           have z1 := frozen3 HG.out.box 1
           have z2 := frozen3 HG.out.box 2
           have HB := Lib.hid HG.out.bel
           clear hb))
      exact bodyPost_ret (v := .tuple #[.agg #[.int .i64 k, .int .i64 n, .string t], .nilIface]) (by simp [results, Tryz.results16, go_sem, r0, r1, r2]) rfl ⟨set3_below0 HB.out (Nat.le_refl _) _ _ _, rfl⟩
    · rw [if_neg hu]
      have hne : ¬ u.toList = s.toList := fun e => hu ((bytes_inj u s).1 e)
      have hne2 : (u.toList == s.toList) = false := by simpa using hne
      go_enter Tryz.func16, Tryz.ntmps16
      go_wp2_with (first
        | (go_at_call 26; refine (GA'.out _ HG.out.env).mono ?_; rintro e w2 ⟨rfl, hb⟩; have HG := Lib.hid ((HG.out.next hb).next (alloc_below _ (.cells #[.int .i64 k, .int .i64 n, .string t] 24)))
           have HX := Lib.hid (heap_alloc_new w2 (.cells #[.int .i64 k, .int .i64 n, .string t] 24)); clear hb)
        | (go_at_call 18; refine (TX.out _ HG.out.env).mono ?_; rintro e w3 ⟨rfl, hb⟩
           have HG := Lib.hid (HG.out.next hb)
           have HX := Lib.hid ((hb.block _ (Array.getElem?_eq_some_iff.1 HX.out).1).trans HX.out)
           obtain ⟨r0, r1, r2⟩ := box3 HG.out.box
           obtain ⟨q0, q1, q2⟩ := box3 HX.out
           have z0 := frozen3 HG.out.box 0
           have z1 := frozen3 HG.out.box 1
           have z2 := frozen3 HG.out.box 2
           have HB := Lib.hid HG.out.bel
           clear hb)
        | (go_at_call 23; refine (NW.out _).mono ?_; rintro e w4 ⟨v, rfl, hf, hb, N, rfl⟩
           have HG := Lib.hid (HG.out.next hb)
           have HF := Lib.hid hf
           obtain ⟨r0, r1, r2⟩ := box3 HG.out.box
           have z0 := frozen3 HG.out.box 0
           have z1 := frozen3 HG.out.box 1
           have z2 := frozen3 HG.out.box 2
           have HB := Lib.hid HG.out.bel
           clear hb hf))
      exact bodyPost_ret (v := .tuple #[.agg #[.int .i64 0, .int .i64 0, .string ⟨#[]⟩], .iface 48 (.pointer (some ⟨N, 0, none⟩))]) (by simp [results, Tryz.results16, go_sem, r0, r1, r2]) rfl ⟨set3_below0 HB.out (Nat.le_refl _) _ _ _, _, rfl, HF.out.set3 HG.out.box _ _ _⟩
end Go.Proofs.YtneppncnccangaaGreatDoor

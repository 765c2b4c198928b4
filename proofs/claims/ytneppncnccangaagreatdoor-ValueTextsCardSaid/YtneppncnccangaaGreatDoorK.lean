/- guess: the only value that may have a text. -/
import Derived.Test.YtneppncnccangaaGreatDoorNX
import Derived.Test.YtneppncnccangaaGreatDoorJ
namespace Go.Proofs.YtneppncnccangaaGreatDoor
open Go.RowKit

def guessV (l : List UInt8) : Option Val :=
  if l = [110, 117, 108, 108] then some ⟨0, 0, ⟨#[]⟩⟩
  else if l = [102, 97, 108, 115, 101] then some ⟨1, 0, ⟨#[]⟩⟩
  else if l = [116, 114, 117, 101] then some ⟨1, 1, ⟨#[]⟩⟩
  else match betw l [39] with
    | some m => some ⟨4, 0, ⟨(half m).toArray⟩⟩
    | none => match betw l [120, 39] with
      | some m => (unhex m).map fun b => ⟨5, 0, ⟨b.toArray⟩⟩
      | none => (numV l).map fun v => ⟨numK l, v, ⟨#[]⟩⟩
def GU (o : Option Val) (w : World) : Ending → World → Prop := fun e w' => Below w.heap.size w w' ∧ match o with
  | some x => e = .returned (.tuple #[x.v, .bool true])
  | none => ∃ x : Val, e = .returned (.tuple #[x.v, .bool false])
theorem betw_len {l op m : List UInt8} (h : betw l op = some m) : m.length ≤ l.length := by
  unfold betw at h
  split at h
  · injection h with h
    rw [← h, List.length_take, List.length_drop]
    omega
  · cases h
theorem half_len : ∀ l : List UInt8, (half l).length ≤ l.length
  | [] => by simp [half]
  | [c] => by simp [half]
  | c :: d :: l => by
    have h1 := half_len l
    have h2 := half_len (d :: l)
    unfold half
    split <;> simp at * <;> omega
theorem countB_2 (s : ByteArray) : Lib.countB s ⟨#[39, 39]⟩ ≤ s.size := Lib.countB_le ⟨#[39, 39]⟩ (by decide) s.size s (Nat.le_refl _)
theorem halfS_any (m : List UInt8) (hs : m.length ≤ 2000) (w : World) (hE : Env w) : Calls Tryz.prog 35 #[.string ⟨m.toArray⟩, .string ⟨#[39, 39]⟩, .string ⟨#[39]⟩] w (Ans (.string ⟨(half m).toArray⟩) w) := by
  obtain ⟨mx, hm⟩ := hE.len
  have hsz := size_of m
  have := countB_2 ⟨m.toArray⟩
  have h := Tryz.strings_ReplaceAll ⟨m.toArray⟩ ⟨#[39, 39]⟩ ⟨#[39]⟩ mx w (by omega) hm (by decide) (by show _ + Lib.countB _ ⟨#[39, 39]⟩ * 1 ≤ _; omega)
  have e : Lib.replaceAll (⟨m.toArray⟩ : ByteArray).data.toList (⟨#[39, 39]⟩ : ByteArray).data.toList (⟨#[39]⟩ : ByteArray).data.toList = half m := by
    rw [show (⟨m.toArray⟩ : ByteArray).data.toList = m from by simp]; exact repl_half m
  rw [e] at h
  exact h
theorem clone_any (s : ByteArray) (hs : s.size ≤ 100000) (w : World) : Calls Tryz.prog 41 #[.string s] w (Ans (.string s) w) := by
  go_enter Tryz.func41, Tryz.ntmps41
  go_wp2_with (go_at_call 56; refine (Tryz.stringslite_Clone s _ (by omega)).mono ?_; rintro e w' ⟨rfl, hb⟩)
  go_ret
  exact ⟨rfl, hb⟩
theorem ne_toList {s : ByteArray} {l : List UInt8} (h : s.data.toList ≠ l) : (s.toList == l) = false := by
  rw [ByteArray.toList_eq]; simpa using h
set_option maxRecDepth 100000 in
set_option maxHeartbeats 4000000 in
theorem guess_words (w : World) : Calls Tryz.prog 26 #[.string ⟨#[110, 117, 108, 108]⟩] w (GU (some ⟨0, 0, ⟨#[]⟩⟩) w) ∧
    Calls Tryz.prog 26 #[.string ⟨#[102, 97, 108, 115, 101]⟩] w (GU (some ⟨1, 0, ⟨#[]⟩⟩) w) ∧ Calls Tryz.prog 26 #[.string ⟨#[116, 114, 117, 101]⟩] w (GU (some ⟨1, 1, ⟨#[]⟩⟩) w) := by
  refine ⟨?_, ?_, ?_⟩
  · go_enter Tryz.func26, Tryz.ntmps26
    go_wp2_with fail
    exact bodyPost_ret (v := .tuple #[.agg #[.int .i64 0, .int .i64 0, .string ⟨#[]⟩], .bool true]) (by simp [results, Tryz.results26, go_sem]) rfl ⟨alloc_below _ _, rfl⟩
  · go_enter Tryz.func26, Tryz.ntmps26
    go_wp2_with (go_at_call 21; refine (truth_no _).mono ?_; rintro e w3 ⟨rfl, hb⟩
                 have hblk : w3.heap[w.heap.size]? = some (.cells #[.int .i64 0, .int .i64 0, .string ⟨#[]⟩] 24 (0, 0)) := (hb.block _ (by simp)).trans (heap_alloc_new _ _)
                 obtain ⟨r0, r1, r2⟩ := box3 hblk
                 have z0 := frozen3 hblk 0
                 have z1 := frozen3 hblk 1
                 have z2 := frozen3 hblk 2
                 have HB := Lib.hid ((alloc_below w _).trans (hb.mono (alloc_below w _).size))
                 clear hb hblk)
    exact bodyPost_ret (v := .tuple #[.agg #[.int .i64 1, .int .i64 0, .string ⟨#[]⟩], .bool true]) (by simp [results, Tryz.results26, go_sem, r0, r1, r2]) rfl ⟨set3_below0 HB.out (Nat.le_refl _) _ _ _, rfl⟩
  · go_enter Tryz.func26, Tryz.ntmps26
    go_wp2_with (go_at_call 21; refine (truth_yes _).mono ?_; rintro e w3 ⟨rfl, hb⟩
                 have hblk : w3.heap[w.heap.size]? = some (.cells #[.int .i64 0, .int .i64 0, .string ⟨#[]⟩] 24 (0, 0)) := (hb.block _ (by simp)).trans (heap_alloc_new _ _)
                 obtain ⟨r0, r1, r2⟩ := box3 hblk
                 have z0 := frozen3 hblk 0
                 have z1 := frozen3 hblk 1
                 have z2 := frozen3 hblk 2
                 have HB := Lib.hid ((alloc_below w _).trans (hb.mono (alloc_below w _).size))
                 clear hb hblk)
    exact bodyPost_ret (v := .tuple #[.agg #[.int .i64 1, .int .i64 1, .string ⟨#[]⟩], .bool true]) (by simp [results, Tryz.results26, go_sem, r0, r1, r2]) rfl ⟨set3_below0 HB.out (Nat.le_refl _) _ _ _, rfl⟩
/-- in the midst of guess: the result's cell, the tables -/
structure GS (w0 W : World) : Prop where
  box : W.heap[w0.heap.size]? = some (.cells #[.int .i64 0, .int .i64 0, .string ⟨#[]⟩] 24 (0, 0))
  env : Env W
  bel : Below w0.heap.size w0 W
theorem GS.next {w0 W V : World} (h : GS w0 W) (hb : Below W.heap.size W V) : GS w0 V :=
  ⟨(hb.block _ (Array.getElem?_eq_some_iff.1 h.box).1).trans h.box, h.env.below hb, h.bel.trans (hb.mono h.bel.size)⟩
set_option maxRecDepth 100000 in
set_option maxHeartbeats 8000000 in
theorem guess_other (s : ByteArray) (hs : s.size ≤ 1000) (h1 : s.data.toList ≠ [110, 117, 108, 108]) (h2 : s.data.toList ≠ [102, 97, 108, 115, 101]) (h3 : s.data.toList ≠ [116, 114, 117, 101]) (w : World) (hE : Env w) :
    Calls Tryz.prog 26 #[.string s] w (GU (guessV s.data.toList) w) := by
  have hg : guessV s.data.toList = (match betw s.data.toList [39] with
    | some m => some ⟨4, 0, ⟨(half m).toArray⟩⟩
    | none => match betw s.data.toList [120, 39] with
      | some m => (unhex m).map fun b => ⟨5, 0, ⟨b.toArray⟩⟩
      | none => (numV s.data.toList).map fun v => ⟨numK s.data.toList, v, ⟨#[]⟩⟩) := by
    unfold guessV; rw [if_neg h1, if_neg h2, if_neg h3]
  have n1 := ne_toList h1
  have n2 := ne_toList h2
  have n3 := ne_toList h3
  have HG : Hid (GS w (w.alloc (.cells #[.int .i64 0, .int .i64 0, .string ⟨#[]⟩] 24))) := Lib.hid ⟨heap_alloc_new _ _, hE.below (alloc_below _ _), alloc_below _ _⟩
  have B1 := Lib.hid (between_any s ⟨#[39]⟩ hs)
  have B2 := Lib.hid (between_any s ⟨#[120, 39]⟩ hs)
  have NN := Lib.hid (number_any s hs)
  rw [show (⟨#[39]⟩ : ByteArray).data.toList = [39] from rfl] at B1
  rw [show (⟨#[120, 39]⟩ : ByteArray).data.toList = [120, 39] from rfl] at B2
  have hsl := size_list s
  rw [hg]
  clear hg h1 h2 h3 hE
  cases b1 : betw s.data.toList [39] with
  | some m =>
    have hm := betw_len b1
    have hh := half_len m
    have HL : Hid (m.length ≤ 1000 ∧ (half m).length ≤ 1000) := Lib.hid ⟨by omega, by omega⟩
    rw [b1] at B1
    have B1' : Hid (∀ w, Calls Tryz.prog 40 #[.string s, .string ⟨#[39]⟩] w fun e w' => e = .returned (.tuple #[.string ⟨m.toArray⟩, .bool true]) ∧ w = w') := Lib.hid fun w => (B1.out w).mono fun e w' h => ⟨h.2, h.1⟩
    clear B1 B2 NN hsl hm hh b1
    go_enter Tryz.func26, Tryz.ntmps26
    go_wp2_with (first
      | (go_at_call 40; refine (B1'.out _).mono ?_; rintro e w2 ⟨rfl, rfl⟩)
      | (go_at_call 35; refine (halfS_any m (by have := HL.out; omega) _ HG.out.env).mono ?_; rintro e w2 ⟨rfl, hb⟩; have HG := Lib.hid (HG.out.next hb); clear hb)
      | (go_at_call 41; refine (clone_any _ (by rw [size_of]; have := HL.out; omega) _).mono ?_; rintro e w3 ⟨rfl, hb⟩
         have HG := Lib.hid (HG.out.next hb)
         obtain ⟨r0, r1, r2⟩ := box3 HG.out.box
         have z0 := frozen3 HG.out.box 0
         have z1 := frozen3 HG.out.box 1
         have z2 := frozen3 HG.out.box 2
         have HB := Lib.hid HG.out.bel
         clear hb))
    exact bodyPost_ret (v := .tuple #[.agg #[.int .i64 4, .int .i64 0, .string ⟨(half m).toArray⟩], .bool true]) (by simp [results, Tryz.results26, go_sem, r0, r1, r2]) rfl ⟨set3_below0 HB.out (Nat.le_refl _) _ _ _, rfl⟩
  | none =>
    rw [b1] at B1
    have B1' : Hid (∀ w, Calls Tryz.prog 40 #[.string s, .string ⟨#[39]⟩] w fun e w' => ∃ x, e = .returned (.tuple #[.string x, .bool false]) ∧ w = w') := Lib.hid fun w => (B1.out w).mono fun e w' ⟨h, x, e⟩ => ⟨x, e, h⟩
    clear B1 b1
    cases b2 : betw s.data.toList [120, 39] with
    | some m =>
      have hm := betw_len b2
      rw [b2] at B2
      have B2' : Hid (∀ w, Calls Tryz.prog 40 #[.string s, .string ⟨#[120, 39]⟩] w fun e w' => e = .returned (.tuple #[.string ⟨m.toArray⟩, .bool true]) ∧ w = w') := Lib.hid fun w => (B2.out w).mono fun e w' h => ⟨h.2, h.1⟩
      have UD := Lib.hid (undigits_any m (by omega))
      clear B2 NN hsl hm b2
      cases hu : unhex m with
      | some b =>
        rw [hu] at UD
        have HU := Lib.hid hu
        clear hu
        go_enter Tryz.func26, Tryz.ntmps26
        go_wp2_with (first
          | (go_at_call 40; first
              | ((with_reducible refine (B1'.out _).mono ?_); rintro e w2 ⟨x, rfl, rfl⟩)
              | ((with_reducible refine (B2'.out _).mono ?_); rintro e w2 ⟨rfl, rfl⟩))
          | (go_at_call 42; refine (UD.out _ HG.out.env).mono ?_; rintro e w3 ⟨hb, rfl⟩
             have HG := Lib.hid (HG.out.next hb)
             obtain ⟨r0, r1, r2⟩ := box3 HG.out.box
             have z0 := frozen3 HG.out.box 0
             have z1 := frozen3 HG.out.box 1
             have z2 := frozen3 HG.out.box 2
             have HB := Lib.hid HG.out.bel
             clear hb))
        rw [HU.out]
        exact bodyPost_ret (v := .tuple #[.agg #[.int .i64 5, .int .i64 0, .string ⟨b.toArray⟩], .bool true]) (by simp [results, Tryz.results26, go_sem, r0, r1, r2]) rfl ⟨set3_below0 HB.out (Nat.le_refl _) _ _ _, rfl⟩
      | none =>
        rw [hu] at UD
        have HU := Lib.hid hu
        clear hu
        go_enter Tryz.func26, Tryz.ntmps26
        go_wp2_with (first
          | (go_at_call 40; first
              | ((with_reducible refine (B1'.out _).mono ?_); rintro e w2 ⟨x, rfl, rfl⟩)
              | ((with_reducible refine (B2'.out _).mono ?_); rintro e w2 ⟨rfl, rfl⟩))
          | (go_at_call 42; refine (UD.out _ HG.out.env).mono ?_; rintro e w3 ⟨hb, rfl⟩
             have HG := Lib.hid (HG.out.next hb)
             obtain ⟨r0, r1, r2⟩ := box3 HG.out.box
             have z0 := frozen3 HG.out.box 0
             have z1 := frozen3 HG.out.box 1
             have z2 := frozen3 HG.out.box 2
             have HB := Lib.hid HG.out.bel
             clear hb))
        rw [HU.out]
        exact bodyPost_ret (v := .tuple #[.agg #[.int .i64 5, .int .i64 0, .string ⟨#[]⟩], .bool false]) (by simp [results, Tryz.results26, go_sem, r0, r1, r2]) rfl ⟨set3_below0 HB.out (Nat.le_refl _) _ _ _, ⟨5, 0, ⟨#[]⟩⟩, rfl⟩
    | none =>
      rw [b2] at B2
      have B2' : Hid (∀ w, Calls Tryz.prog 40 #[.string s, .string ⟨#[120, 39]⟩] w fun e w' => ∃ x, e = .returned (.tuple #[.string x, .bool false]) ∧ w = w') := Lib.hid fun w => (B2.out w).mono fun e w' ⟨h, x, e⟩ => ⟨x, e, h⟩
      clear B2 hsl b2
      generalize numK s.data.toList = kk at NN ⊢
      generalize numV s.data.toList = vv at NN ⊢
      cases vv with
      | some v =>
        have NN' : Hid (∀ w, Env w → Calls Tryz.prog 43 #[.string s] w fun e w' => e = .returned (.tuple #[.agg #[.int .i64 kk, .int .i64 v, .string ⟨#[]⟩], .bool true]) ∧ Below w.heap.size w w') := Lib.hid fun w h => (NN.out w h).mono fun e w' ⟨a, b⟩ => ⟨b, a⟩
        clear NN
        go_enter Tryz.func26, Tryz.ntmps26
        go_wp2_with (first
          | (go_at_call 40; first
              | ((with_reducible refine (B1'.out _).mono ?_); rintro e w2 ⟨x, rfl, rfl⟩)
              | ((with_reducible refine (B2'.out _).mono ?_); rintro e w2 ⟨x, rfl, rfl⟩))
          | (go_at_call 43; refine (NN'.out _ HG.out.env).mono ?_; rintro e w3 ⟨rfl, hb⟩
             have HG := Lib.hid (HG.out.next hb)
             obtain ⟨r0, r1, r2⟩ := box3 HG.out.box
             have z0 := frozen3 HG.out.box 0
             have z1 := frozen3 HG.out.box 1
             have z2 := frozen3 HG.out.box 2
             have HB := Lib.hid HG.out.bel
             clear hb))
        exact bodyPost_ret (v := .tuple #[.agg #[.int .i64 kk, .int .i64 v, .string ⟨#[]⟩], .bool true]) (by simp [results, Tryz.results26, go_sem, r0, r1, r2]) rfl ⟨set3_below0 HB.out (Nat.le_refl _) _ _ _, rfl⟩
      | none =>
        have NN' : Hid (∀ w, Env w → Calls Tryz.prog 43 #[.string s] w fun e w' => ∃ z, e = .returned (.tuple #[.agg #[.int .i64 kk, .int .i64 z, .string ⟨#[]⟩], .bool false]) ∧ Below w.heap.size w w') := Lib.hid fun w h => (NN.out w h).mono fun e w' ⟨a, z, b⟩ => ⟨z, b, a⟩
        clear NN
        go_enter Tryz.func26, Tryz.ntmps26
        go_wp2_with (first
          | (go_at_call 40; first
              | ((with_reducible refine (B1'.out _).mono ?_); rintro e w2 ⟨x, rfl, rfl⟩)
              | ((with_reducible refine (B2'.out _).mono ?_); rintro e w2 ⟨x, rfl, rfl⟩))
          | (go_at_call 43; refine (NN'.out _ HG.out.env).mono ?_; rintro e w3 ⟨z, rfl, hb⟩
             have HG := Lib.hid (HG.out.next hb)
             obtain ⟨r0, r1, r2⟩ := box3 HG.out.box
             have z0 := frozen3 HG.out.box 0
             have z1 := frozen3 HG.out.box 1
             have z2 := frozen3 HG.out.box 2
             have HB := Lib.hid HG.out.bel
             clear hb))
        exact bodyPost_ret (v := .tuple #[.agg #[.int .i64 kk, .int .i64 z, .string ⟨#[]⟩], .bool false]) (by simp [results, Tryz.results26, go_sem, r0, r1, r2]) rfl ⟨set3_below0 HB.out (Nat.le_refl _) _ _ _, ⟨kk, z, ⟨#[]⟩⟩, rfl⟩
theorem guess_any (s : ByteArray) (hs : s.size ≤ 1000) (w : World) (hE : Env w) : Calls Tryz.prog 26 #[.string s] w (GU (guessV s.data.toList) w) := by
  have hof : ∀ l : List UInt8, s.data.toList = l → s = ⟨l.toArray⟩ := fun l h => by
    apply ByteArray.ext; apply Array.toList_inj.mp; simpa using h
  obtain ⟨g1, g2, g3⟩ := guess_words w
  by_cases h1 : s.data.toList = [110, 117, 108, 108]
  · have e : guessV s.data.toList = some ⟨0, 0, ⟨#[]⟩⟩ := by unfold guessV; rw [if_pos h1]
    rw [e, hof _ h1]; exact g1
  · by_cases h2 : s.data.toList = [102, 97, 108, 115, 101]
    · have e : guessV s.data.toList = some ⟨1, 0, ⟨#[]⟩⟩ := by unfold guessV; rw [if_neg h1, if_pos h2]
      rw [e, hof _ h2]; exact g2
    · by_cases h3 : s.data.toList = [116, 114, 117, 101]
      · have e : guessV s.data.toList = some ⟨1, 1, ⟨#[]⟩⟩ := by unfold guessV; rw [if_neg h1, if_neg h2, if_pos h3]
        rw [e, hof _ h3]; exact g3
      · exact guess_other s hs h1 h2 h3 w hE
end Go.Proofs.YtneppncnccangaaGreatDoor

/- The document's Encode of a key. -/
import Derived.Test.YtjnjolhokcmmhaaKPD
import Derived.Test.YtjnjolhokcmmhaaKH
import Derived.Test.YtjnjolhokcmmhaaRO
namespace Go.Proofs.Ytjnjolhokcmmhaa
open Go.RowKit

/-- at the head of its loop -/
def KFE (w : World) (l : List Val) (v4 v12 : Value) (wr : World) : Prop := ∃ (k : Nat) (y : Value), y = v4 ∧ k ≤ l.length ∧ v12 = .int .i64 k ∧ OwnB wr w.heap.size y (encL (l.take k)) ∧ Below w.heap.size w wr ∧ (∀ x ∈ l.take k, rightB x = true)
set_option maxRecDepth 100000 in
set_option maxHeartbeats 4000000 in
theorem refEncodeK_any (l : List Val) (A : Option Addr) (cap : Nat) (w : World) (hl : l.length ≤ 1000000) (hok : AllOk l) (hr : RdV w w.heap.size A l) :
    Calls Try.prog 12 #[.slice A l.length cap] w (EncPost w l) := by
  obtain ⟨i0, hi, hz0, hz1, hz2⟩ := info_parts info8
  have HR := Lib.hid hr
  have HK := Lib.hid hok
  clear hr hok
  by_cases h16 : l.length ≤ 16
  · have h16i : ¬ (16 : Int) < (l.length : Int) := by omega
    have HS : Hid (KFE w l (.slice none 0 0) (.int .i64 0) w) := Lib.hid ⟨0, _, rfl, Nat.zero_le _, rfl, by simpa [encL] using OwnB.nil w w.heap.size, Below.refl _ _, fun x hx => by simp at hx⟩
    go_enter Try.func12, Try.ntmps12
    go_wp2_with fail
    go_loopw [4, 5] (fun v4 v12 wr => KFE w l v4 v12 wr) (fun _ v12 _ => l.length - (intOf v12).toNat)
    case atStart => exact HS.out
    case round =>
      obtain ⟨k, y, rfl, hk, rfl, ho, hb, hright⟩ := hrel
      have HO := Lib.hid ho
      have HB := Lib.hid hb
      have HT := Lib.hid hright
      clear ho hb hright
      by_cases hlt : k < l.length
      · obtain ⟨x, hx⟩ : ∃ x, l[k]? = some x := ⟨_, List.getElem?_eq_getElem hlt⟩
        obtain ⟨b, o, hA, c0, c1, c2⟩ := HR.out.at_ hx HB.out (Nat.le_refl _)
        subst hA
        have hki : (k : Int) < (l.length : Int) := by omega
        have hxm : x ∈ l := List.mem_of_getElem? hx
        have RA := Lib.hid (refRight_any x (HK.out x hxm).2)
        have hok := (HK.out x hxm).1
        have HTK : Hid (l.take (k + 1) = l.take k ++ [x]) := Lib.hid (by rw [List.take_add_one, hx, Option.toList_some])
        have HL : Hid ((encL (l.take k)).length ≤ 9000) := Lib.hid (by
          have h := encL_len (l := l.take k) (fun z hz => ⟨HT.out z hz, (HK.out z (List.mem_of_mem_take hz)).1⟩)
          have h2 : (l.take k).length ≤ k := by rw [List.length_take]; omega
          omega)
        cases hrx : rightB x with
        | false =>
          rw [hrx] at RA
          have HN : Hid (¬ encOk l) := Lib.hid (fun h => by have := h.2 x hxm; rw [hrx] at this; cases this)
          clear hrx hx hok hxm hk
          go_wp2_with (go_at_call 36; refine (RA.out _).mono ?_; rintro e w2 ⟨rfl, hb2⟩; have HY : Hid (EncPost w l (.returned (.tuple #[.slice none 0 0, .int .i64 41])) w2) := Lib.hid ⟨HB.out.trans (hb2.mono HB.out.size), .inr ⟨HN.out, rfl⟩⟩; clear hb2)
          go_ret2
          exact HY.out
        | true =>
          rw [hrx] at RA
          have AV := Lib.hid (one_any x ⟨hrx, hok⟩)
          have HEL := Lib.hid (enc_len (x := x) ⟨hrx, hok⟩)
          have HTR : Hid (∀ z ∈ l.take (k + 1), rightB z = true) := Lib.hid (by
            intro z hz
            rw [HTK.out, List.mem_append] at hz
            rcases hz with hz | hz
            · exact HT.out z hz
            · rw [List.mem_singleton] at hz; rw [hz]; exact hrx)
          have HEE : Hid (encL (l.take (k + 1)) = encL (l.take k) ++ enc1 x) := Lib.hid (by rw [HTK.out, encL_app]; simp [encL])
          clear hrx hx hok hxm
          go_wp2_with (first
            | (go_at_call 36; refine (RA.out _).mono ?_; rintro e w2 ⟨rfl, hb2⟩
               have HB2 := Lib.hid hb2
               have d0 := (hb2.cell (World.block_lt_of_cell? _ _ c0)).trans c0
               have d1 := (hb2.cell (World.block_lt_of_cell? _ _ c1)).trans c1
               have d2 := (hb2.cell (World.block_lt_of_cell? _ _ c2)).trans c2
               clear hb2)
            | (go_at_call 37; refine (AV.out _).mono ?_; rintro e w5 ⟨v5, rfl, ho5, hb5⟩
               obtain ⟨A5, cap5, hv5, hcap5⟩ := ho5.2
               subst hv5
               have HO5 := Lib.hid ho5.rd
               have HB5 := Lib.hid (HB2.out.trans (hb5.mono HB2.out.size))
               clear ho5 hb5 hcap5)
            | (at_builtin
               refine wpList_appB (B := w.heap.size) rfl _ _ 23 rfl Try.underlying23 hi hz0 hz1 hz2 rfl (HO.out.below HB5.out) rfl rfl HO5.out (by have h1 := HL.out; have h2 := HEL.out; omega) (Nat.le_trans HB.out.size HB5.out.size) ?_
               intro v6 w6 ho6 hg6
               have HY : Hid (∀ v12, v12 = .int .i64 ((k + 1 : Nat) : Int) → KFE w l v6 v12 w6) := Lib.hid (fun v12 h12 => ⟨k + 1, _, rfl, hlt, h12, by rw [HEE.out]; exact ho6, (HB.out.trans (HB5.out.mono HB.out.size)).trans (hg6.toBelow (Nat.le_trans HB.out.size HB5.out.size) HO.out.ge), HTR.out⟩)
               clear ho6 hg6)
            | fail)
          go_roundw
          case rel => first | exact HY.out _ (by go_num) | ((repeat apply Exists.intro); exact ⟨HY.out _ (by go_num), rfl⟩)
          case measure => simp [intOf]; omega
      · have hkl : k = l.length := by omega
        subst hkl
        have HTL : Hid (l.take l.length = l) := Lib.hid (List.take_of_length_le (Nat.le_refl _))
        have HY : Hid (EncPost w l (.returned (.tuple #[y, .int .i64 0])) wr) := Lib.hid ⟨HB.out, .inl ⟨⟨h16, by have h := HT.out; rw [HTL.out] at h; exact h⟩, y, rfl, by have h := HO.out; rw [HTL.out] at h; exact h⟩⟩
        have hnlt : ¬ ((l.length : Int) < (l.length : Int)) := by omega
        clear hk hlt HO HT
        go_wp2_with fail
        go_ret2
        exact HY.out
  · have h16i : (16 : Int) < (l.length : Int) := by omega
    have HY : Hid (EncPost w l (.returned (.tuple #[.slice none 0 0, .int .i64 41])) w) := Lib.hid ⟨Below.refl _ _, .inr ⟨fun h => h16 h.1, rfl⟩⟩
    clear h16
    go_enter Try.func12, Try.ntmps12
    go_wp2_with fail
    go_ret2
    exact HY.out
end Go.Proofs.Ytjnjolhokcmmhaa

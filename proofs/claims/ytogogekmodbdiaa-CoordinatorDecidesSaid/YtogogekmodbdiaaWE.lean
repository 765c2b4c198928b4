/- Package row: Encode. -/
import Derived.Test.YtogogekmodbdiaaWD
namespace Go.Proofs.Ytogogekmodbdiaa
open Go.RowKit

theorem own_start {w : World} (x : Int) (c : UInt8) (hx : x = (c.toNat : Int)) : OwnB (w.alloc (.cells #[.int .u8 x] 5)) w.heap.size (.slice (some ⟨w.heap.size, 0, none⟩) 1 1) [c] := by
  subst hx
  exact OwnB.of_row (n := 1) (l := [c]) (own_lit (heap_alloc_new w _) (Nat.le_refl _) rfl (by omega))
/-- what Encode answers -/
def EncPR (w : World) (l : List Val) (e : Ending) (w' : World) : Prop := Below w.heap.size w w' ∧ ((encOk l ∧ ∃ v, e = .returned (.tuple #[v, .int .i64 0]) ∧ OwnB w' w.heap.size v (rowB l)) ∨ (¬ encOk l ∧ e = .returned (.tuple #[.slice none 0 0, .int .i64 51])))
/-- at the head of its loop -/
def ERL (w : World) (l : List Val) (v4 v16 : Value) (wr : World) : Prop := ∃ (k : Nat) (y : Value), y = v4 ∧ k ≤ l.length ∧ v16 = .int .i64 k ∧ OwnB wr w.heap.size y (UInt8.ofNat l.length :: rowL (l.take k)) ∧ Below w.heap.size w wr ∧ (∀ x ∈ l.take k, rightB x = true)
set_option maxRecDepth 100000 in
set_option maxHeartbeats 4000000 in
theorem encodeR_any (l : List Val) (A : Option Addr) (cap : Nat) (w : World) (hok : AllOk l) (hr : RdV w w.heap.size A l) :
    Calls Try.prog 67 #[.slice A l.length cap] w (EncPR w l) := by
  have HR := Lib.hid hr
  have HK := Lib.hid hok
  clear hr hok
  by_cases h16 : l.length ≤ 16
  · have h16i : ¬ (16 : Int) < (l.length : Int) := by omega
    have HC : Hid (∀ x : Int, x = (l.length : Int) ∨ x = IntKind.u8.wrap (l.length : Int) → x = ((UInt8.ofNat l.length).toNat : Int)) := Lib.hid fun x hx => by rw [ofNat_toNat (by omega)]; rcases hx with rfl | rfl; rfl; rw [IntKind.wrap_u8]; omega
    go_enter Try.func67, Try.ntmps67
    go_wp2_with fail
    go_loopw [4, 16] (fun v4 v16 wr => ERL w l v4 v16 wr) (fun _ v16 _ => l.length - (intOf v16).toNat)
    case atStart => exact ⟨0, _, rfl, Nat.zero_le _, rfl, own_start _ _ (HC.out _ (by first | exact .inl rfl | exact .inr rfl)), alloc_below _ _, fun x hx => by simp at hx⟩
    case round =>
      obtain ⟨k, y, rfl, hk, rfl, ho, hb, hright⟩ := hrel
      have HO := Lib.hid ho
      have HB := Lib.hid hb
      have HT := Lib.hid hright
      clear ho hb hright
      by_cases hlt : k < l.length
      · obtain ⟨x, hx⟩ : ∃ x, l[k]? = some x := ⟨_, List.getElem?_eq_getElem hlt⟩
        obtain ⟨b, o, hA, c0, c1, c2⟩ := HR.out.at_ hx HB.out (Nat.le_refl _)
        subst hA
        have hki : (k : Int) < (l.length : Int) := by omega
        have hxm : x ∈ l := List.mem_of_getElem? hx
        have RA := Lib.hid (right_at' x (HK.out x hxm).2)
        have hok := (HK.out x hxm).1
        have HTK : Hid (l.take (k + 1) = l.take k ++ [x]) := Lib.hid (by rw [List.take_add_one, hx, Option.toList_some])
        have HL : Hid ((UInt8.ofNat l.length :: rowL (l.take k)).length ≤ 9000) := Lib.hid (by
          have h := rowL_len (l := l.take k) (fun z hz => ⟨HT.out z hz, (HK.out z (List.mem_of_mem_take hz)).1⟩)
          have h2 : (l.take k).length ≤ k := by rw [List.length_take]; omega
          rw [List.length_cons]
          omega)
        have HBX : Hid ((wr.alloc (.cells #[.int .i64 x.k, .int .i64 x.n, .string x.s] 110)).heap[wr.heap.size]? = some (.cells #[.int .i64 x.k, .int .i64 x.n, .string x.s] 110 (0, 0))) := Lib.hid (heap_alloc_new _ _)
        have HBA := Lib.hid (alloc_below wr (.cells #[.int .i64 x.k, .int .i64 x.n, .string x.s] 110))
        cases hrx : rightB x with
        | false =>
          rw [hrx] at RA
          have HN : Hid (¬ encOk l) := Lib.hid (fun h => by have := h.2 x hxm; rw [hrx] at this; cases this)
          clear hrx hx hok hxm hk
          go_wp2_with (go_at_call 81; refine (RA.out _).mono ?_; rintro e w2 ⟨rfl, hb2⟩; have HY : Hid (EncPR w l (.returned (.tuple #[.slice none 0 0, .int .i64 51])) w2) := Lib.hid ⟨HB.out.trans ((HBA.out.trans (hb2.mono HBA.out.size)).mono HB.out.size), .inr ⟨HN.out, rfl⟩⟩; clear hb2)
          go_ret2
          exact HY.out
        | true =>
          rw [hrx] at RA
          have AV := Lib.hid (fun v' xs w' (ho : OwnB w' w.heap.size v' xs) hB hL => appendValueR_any w.heap.size v' xs x ⟨hrx, hok⟩ w' ho hB hL)
          have HTR : Hid (∀ z ∈ l.take (k + 1), rightB z = true) := Lib.hid (by
            intro z hz
            rw [HTK.out, List.mem_append] at hz
            rcases hz with hz | hz
            · exact HT.out z hz
            · rw [List.mem_singleton] at hz; rw [hz]; exact hrx)
          have HEE : Hid (UInt8.ofNat l.length :: rowL (l.take (k + 1)) = (UInt8.ofNat l.length :: rowL (l.take k)) ++ rowV x) := Lib.hid (by rw [HTK.out, rowL_snoc]; rfl)
          clear hrx hx hok hxm
          go_wp2_with (first
            | (go_at_call 81; refine (RA.out _).mono ?_; rintro e w2 ⟨rfl, hb2⟩
               have HB2 := Lib.hid (HBA.out.trans (hb2.mono HBA.out.size))
               obtain ⟨x0, x1, x2⟩ := box3 ((hb2.block _ (by simp)).trans HBX.out)
               clear hb2)
            | (go_at_call 82; refine (AV.out _ _ _ (HO.out.below HB2.out) (Nat.le_trans HB.out.size HB2.out.size) HL.out).mono ?_; rintro e w6 ⟨v6, rfl, ho6, hg6⟩
               have HY : Hid (∀ v16, v16 = .int .i64 ((k + 1 : Nat) : Int) → ERL w l v6 v16 w6) := Lib.hid (fun v16 h12 => ⟨k + 1, _, rfl, hlt, h12, by rw [HEE.out]; exact ho6, (HB.out.trans (HB2.out.mono HB.out.size)).trans (grown_below hg6 (Nat.le_trans HB.out.size HB2.out.size) HO.out.ge), HTR.out⟩)
               clear ho6 hg6))
          go_roundw
          case rel => first | exact HY.out _ (by go_num) | ((repeat apply Exists.intro); exact ⟨HY.out _ (by go_num), rfl⟩)
          case measure => simp [intOf]; omega
      · have hkl : k = l.length := by omega
        subst hkl
        have HTL : Hid (l.take l.length = l) := Lib.hid (List.take_of_length_le (Nat.le_refl _))
        have HY : Hid (EncPR w l (.returned (.tuple #[y, .int .i64 0])) wr) := Lib.hid ⟨HB.out, .inl ⟨⟨h16, by have h := HT.out; rw [HTL.out] at h; exact h⟩, y, rfl, by have h := HO.out; rw [HTL.out] at h; exact h⟩⟩
        have hnlt : ¬ ((l.length : Int) < (l.length : Int)) := by omega
        clear hk hlt HO HT
        go_wp2_with fail
        go_ret2
        exact HY.out
  · have h16i : (16 : Int) < (l.length : Int) := by omega
    have HY : Hid (EncPR w l (.returned (.tuple #[.slice none 0 0, .int .i64 51])) w) := Lib.hid ⟨Below.refl _ _, .inr ⟨fun h => h16 h.1, rfl⟩⟩
    clear h16
    go_enter Try.func67, Try.ntmps67
    go_wp2_with fail
    go_ret2
    exact HY.out
/-- Encode at right values -/
def EncR (w : World) (l : List Val) (e : Ending) (w' : World) : Prop := ∃ v, e = .returned (.tuple #[v, .int .i64 0]) ∧ OwnB w' w.heap.size v (rowB l) ∧ Below w.heap.size w w'
theorem encodeR_right (l : List Val) (A : Option Addr) (n cap : Nat) (hn : n = l.length) (w : World) (hl : l.length ≤ 16) (hok : AllOk l) (hR : ∀ x ∈ l, x.R) (hr : RdV w w.heap.size A l) :
    Calls Try.prog 67 #[.slice A n cap] w (EncR w l) := by
  subst hn
  refine (encodeR_any l A cap w hok hr).mono fun e w' ⟨hb, h⟩ => ?_
  rcases h with ⟨_, v, he, ho⟩ | ⟨hno, _⟩
  · exact ⟨v, he, ho, hb⟩
  · exact absurd ⟨hl, fun x hx => (hR x hx).1⟩ hno
end Go.Proofs.Ytogogekmodbdiaa

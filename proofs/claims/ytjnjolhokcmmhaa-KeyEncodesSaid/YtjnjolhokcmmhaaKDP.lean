/- Package key: Decode. -/
import Derived.Test.YtjnjolhokcmmhaaKDO
import Derived.Test.YtjnjolhokcmmhaaKT
namespace Go.Proofs.Ytjnjolhokcmmhaa
open Go.RowKit

/-- what Decode answers -/
def DecPost (w : World) (bs : List UInt8) (e : Ending) (w' : World) : Prop := Below w.heap.size w w' ∧ ((∃ l v, e = .returned (.tuple #[v, .int .i64 0]) ∧ (∀ x ∈ l, x.R) ∧ l.length ≤ 16 ∧ bs = encL l ∧ OwnV w' w.heap.size v l) ∨
  (e = .returned (.tuple #[.slice none 0 0, .int .i64 41]) ∧ ∀ l, (∀ x ∈ l, x.R) → l.length ≤ 16 → bs ≠ encL l))
/-- at the head of its loop -/
def DL (w : World) (bs : List UInt8) (v0 v4 : Value) (wr : World) : Prop := ∃ (l : List Val) (r : List UInt8) (A : Option Addr) (cap : Nat) (y : Value), y = v4 ∧ v0 = .slice A r.length cap ∧ bs = encL l ++ r ∧ (∀ x ∈ l, x.R) ∧ l.length ≤ 16 ∧ RdB wr w.heap.size A r ∧ r.length ≤ cap ∧ OwnV wr w.heap.size y l ∧ Below w.heap.size w wr
def sliceLen : Value → Nat
  | .slice _ n _ => n
  | _ => 0
theorem dec_more {l : List Val} {c : UInt8} {t bs : List UInt8} (hb : bs = encL l ++ c :: t) (hR : ∀ x ∈ l, x.R) {m : List Val} (hm : ∀ x ∈ m, x.R) (h : bs = encL m) : ∃ x k, m = l ++ x :: k ∧ x.R ∧ c :: t = enc1 x ++ encL k := by
  rw [hb] at h
  obtain ⟨k, rfl, h2⟩ := encL_begins hR hm h
  rcases k with _ | ⟨x, k⟩
  · simp [encL] at h2
  · exact ⟨x, k, rfl, hm x (by simp), by rw [h2, encL_cons]⟩
theorem rd_val_2 (w : World) (o : Obj) (x : Val) : RdV ((w.alloc o).alloc (.cells #[.int .i64 x.k, .int .i64 x.n, .string x.s] 68)) (w.heap.size + 1 + 1) (some ⟨w.heap.size + 1, 0, none⟩) [x] := by
  have h := rd_val (w := (w.alloc o).alloc (.cells #[.int .i64 x.k, .int .i64 x.n, .string x.s] 68)) (g := (w.alloc o).heap.size) (x := x) (heap_alloc_new _ _)
  have e : (w.alloc o).heap.size = w.heap.size + 1 := by simp
  rw [e] at h
  exact h
set_option maxRecDepth 100000 in
set_option maxHeartbeats 8000000 in
theorem decode_any (bs : List UInt8) (A : Option Addr) (cap : Nat) (w : World) (hl : bs.length ≤ 100000) (hcap : bs.length ≤ cap) (hr : RdB w w.heap.size A bs) :
    Calls Try.prog 13 #[.slice A bs.length cap] w (DecPost w bs) := by
  obtain ⟨i0, hi, hz0, hz1, hz2⟩ := info_parts infoV
  have HS : Hid (DL w bs (.slice A bs.length cap) (.slice none 0 0) w) := Lib.hid ⟨[], bs, A, cap, _, rfl, rfl, by simp [encL], fun x hx => by simp at hx, by simp, hr, hcap, OwnV.nil _ _, Below.refl _ _⟩
  have HL := Lib.hid hl
  clear hr hl hcap
  go_enter Try.func13, Try.ntmps13
  go_wp2_with fail
  go_loopw [0, 4] (fun v0 v4 wr => DL w bs v0 v4 wr) (fun v0 _ _ => sliceLen v0)
  case atStart => exact HS.out
  case round =>
    obtain ⟨l, r, A1, cap1, y, rfl, rfl, hbs, hR, h16, hrd, hcap1, ho, hb⟩ := hrel
    obtain ⟨A2, cap2, rfl, hcap2⟩ := ho.2
    have HBS := Lib.hid hbs
    have HR := Lib.hid hR
    have H16 := Lib.hid h16
    have HRD := Lib.hid hrd
    have HO := Lib.hid ho
    have HB := Lib.hid hb
    have HC := Lib.hid hcap1
    clear hbs hR hrd ho hb hcap1 h16
    rcases r with _ | ⟨c, t⟩
    · have HY : Hid (DecPost w bs (.returned (.tuple #[.slice A2 l.length cap2, .int .i64 0])) wr) := Lib.hid ⟨HB.out, .inl ⟨l, _, rfl, HR.out, H16.out, by rw [HBS.out, List.append_nil], HO.out⟩⟩
      clear hcap2
      go_wp2_with fail
      go_ret2
      exact HY.out
    · have hti : (0 : Int) < (t.length : Int) + 1 := by omega
      have CV := Lib.hid (cutValue_any c t A1 cap1 wr (by have h := HL.out; rw [HBS.out, List.length_append, List.length_cons] at h; omega) HC.out HB.out.size HRD.out)
      clear hcap2
      go_wp2_with fail
      refine CV.out.mono ?_
      rintro e w5 ⟨hb5, ⟨xk, xn, xs⟩, A', n, cap', ok, rfl, hcase⟩
      have HB5 := Lib.hid hb5
      have HS5 := Lib.hid (VB.new w5 xk xn xs)
      have HBT := Lib.hid (HB.out.trans ((HB5.out.mono HB.out.size).trans (HS5.out.2.mono (Nat.le_trans HB.out.size HB5.out.size))))
      clear hb5
      simp only [Val.v]
      rcases hcase with ⟨rfl, hxR, r, hr, rfl, hr', hc'⟩ | ⟨rfl, hno⟩
      · by_cases h16' : l.length = 16
        · have hd : ((l.length : Int) == 16) = true := by rw [h16']; rfl
          have HY : Hid (DecPost w bs (.returned (.tuple #[.slice none 0 0, .int .i64 41])) _) := Lib.hid ⟨HBT.out, .inr ⟨rfl, fun m hm hm16 e => by
            obtain ⟨x, k, rfl, _, _⟩ := dec_more HBS.out HR.out hm e
            rw [List.length_append, List.length_cons] at hm16
            omega⟩⟩
          clear h16' hr hr' hc'
          go_wp2_with fail
          go_ret2
          exact HY.out
        · have hd : ((l.length : Int) == 16) = false := beq_false_of_ne (by omega)
          have HM : Hid ((l.length + 1) * 32 ≤ 140737488355328) := Lib.hid (by have := H16.out; omega)
          have HBZ : Hid (∀ o p, w.heap.size ≤ ((w5.alloc o).alloc p).heap.size) := Lib.hid fun o p => Nat.le_trans HB.out.size (Nat.le_trans HB5.out.size (alloc2_below w5 o p).size)
          have HO5 := Lib.hid (HO.out.below HB5.out)
          have HN : Hid (∀ o p v5 w6, OwnV w6 w.heap.size v5 (l ++ [⟨xk, xn, xs⟩]) → Grew ((w5.alloc o).alloc p) (.slice A2 l.length cap2) w6 v5 → ∀ v0, v0 = .slice A' r.length cap' → DL w bs v0 v5 w6) := Lib.hid fun o p v5 w6 ho6 hg6 v0 h0 => by
            have hbb := HB.out.trans ((HB5.out.mono HB.out.size).trans (((alloc2_below w5 o p).mono (Nat.le_trans HB.out.size HB5.out.size)).trans (hg6.toBelow (HBZ.out o p) HO.out.ge)))
            have hbr : Below w.heap.size w5 w6 := (((alloc2_below w5 o p).mono (Nat.le_trans HB.out.size HB5.out.size)).trans (hg6.toBelow (HBZ.out o p) HO.out.ge))
            refine ⟨l ++ [⟨xk, xn, xs⟩], r, A', cap', v5, rfl, h0, by rw [HBS.out, hr, encL_app]; simp [encL], fun z hz => ?_, by have := H16.out; rw [List.length_append, List.length_singleton]; omega, hr'.below hbr (Nat.le_refl _), hc', ho6, hbb⟩
            rw [List.mem_append, List.mem_singleton] at hz
            rcases hz with hz | hz
            · exact HR.out z hz
            · rw [hz]; exact hxR
          have HLT : Hid (r.length < (c :: t).length) := Lib.hid (by rw [hr, List.length_append]; have := enc_pos ⟨xk, xn, xs⟩; omega)
          clear h16' hr hr' hc' hxR
          go_wp2_with (at_builtin
                       refine wpList_appV (xs := l) (ys := [⟨xk, xn, xs⟩]) (B := w.heap.size) rfl _ _ 22 rfl Try.underlying22 hi hz0 hz1 hz2 rfl (HO5.out.below (alloc2_below w5 _ _)) rfl rfl (rd_val_2 w5 _ ⟨xk, xn, xs⟩) HM.out (HBZ.out _ _) ?_
                       intro v6 w6 ho6 hg6
                       have HY := Lib.hid (HN.out _ _ v6 w6 ho6 hg6)
                       clear ho6 hg6)
          go_roundw
          case rel => first | exact HY.out _ rfl | ((repeat apply Exists.intro); exact ⟨HY.out _ rfl, rfl⟩)
          case measure => exact HLT.out
      · have HY : Hid (DecPost w bs (.returned (.tuple #[.slice none 0 0, .int .i64 41])) _) := Lib.hid ⟨HBT.out, .inr ⟨rfl, fun m hm _ e => by
          obtain ⟨x, k, _, hx, h2⟩ := dec_more HBS.out HR.out hm e
          exact hno x _ hx h2⟩⟩
        clear hno
        go_wp2_with fail
        go_ret2
        exact HY.out
end Go.Proofs.Ytjnjolhokcmmhaa

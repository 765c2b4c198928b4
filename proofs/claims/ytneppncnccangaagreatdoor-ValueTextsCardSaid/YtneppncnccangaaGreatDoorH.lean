/- undigits: the bytes of hexadecimal figures. -/
import Derived.Test.YtneppncnccangaaGreatDoorG
namespace Go.Proofs.YtneppncnccangaaGreatDoor
open Go.RowKit

/-- two figures a byte; one that is left over is passed over -/
def unhex : List UInt8 → Option (List UInt8)
  | a :: b :: t => match hexN [a, b], unhex t with
    | some n, some l => some (UInt8.ofNat n :: l)
    | _, _ => none
  | _ => some []
theorem hexN_lt {a b : UInt8} {n : Nat} (h : hexN [a, b] = some n) : n < 256 := by
  unfold hexN at h
  cases ha : hexv a with
  | none => simp [ha] at h
  | some x =>
    cases hb : hexv b with
    | none => simp [ha, hb] at h
    | some y =>
      simp [ha, hb] at h
      have := hexv_lt ha
      have := hexv_lt hb
      omega
/-- what undigits answers -/
def UD (o : Option (List UInt8)) (w : World) : Ending → World → Prop := fun e w' => Below w.heap.size w w' ∧ match o with
  | some l => e = .returned (.tuple #[.string ⟨l.toArray⟩, .bool true])
  | none => e = .returned (.tuple #[.string ⟨#[]⟩, .bool false])
def strLen : Value → Nat
  | .string s => s.size
  | _ => 0
/-- at the head of its loop -/
def UL (w0 : World) (s : List UInt8) (v0 v4 : Value) (wr : World) : Prop := ∃ (r out : List UInt8) (pa : Option Addr) (cap : Nat), v0 = .string ⟨r.toArray⟩ ∧ r.length ≤ 1000 ∧ out.length ≤ 1000 - r.length ∧ v4 = .slice pa out.length cap ∧ wr.ownsRow w0.heap.size 5 1 v4 out.length (bytesV out) ∧
  unhex s = (unhex r).map (out ++ ·) ∧ Below w0.heap.size w0 wr ∧ Env wr
theorem ex_two (a b : UInt8) (t : List UInt8) : (⟨(a :: b :: t).toArray⟩ : ByteArray).extract 0 2 = ⟨#[a, b]⟩ := by
  apply ByteArray.ext
  rw [ByteArray.data_extract]
  apply Array.toList_inj.mp
  simp
theorem ex_rest (a b : UInt8) (t : List UInt8) (n : Nat) (h : n = t.length + 2) : (⟨(a :: b :: t).toArray⟩ : ByteArray).extract 2 n = ⟨t.toArray⟩ := by
  apply ByteArray.ext
  rw [ByteArray.data_extract]
  apply Array.toList_inj.mp
  subst h
  simp
set_option maxRecDepth 100000 in
set_option maxHeartbeats 4000000 in
theorem undigits_any (s : List UInt8) (hs : s.length ≤ 1000) (w : World) (hE : Env w) : Calls Tryz.prog 42 #[.string ⟨s.toArray⟩] w (UD (unhex s) w) := by
  obtain ⟨i0, hi, hz0, hz1, hz2⟩ := info_parts info8
  have hsz : (⟨s.toArray⟩ : ByteArray).size = s.length := size_of s
  have HE := Lib.hid hE
  clear hE
  go_enter Tryz.func42, Tryz.ntmps42
  go_wp2_with (at_make; refine wpList_make_own _ rfl _ _ 72 rfl w.heap.size 5 i0 (.int .u8 0) 1 Tryz.underlying72 hi hz0 hz1 _ _ _ (s.length / 2) rfl rfl (by omega) ?b2 ?b3 (Nat.le_refl _) ?_)
  case b2 => rw [hz2]; omega
  case b3 => unfold maxLen; omega
  intro w0 hown0 hgrow0
  have hb0 : Below w.heap.size w w0 := (Below.refl _ _).grown hgrow0 (Nat.le_refl _) (fun k h => by cases h)
  have HS : Hid (UL w s (.string ⟨s.toArray⟩) (.slice (some ⟨w.heap.size, 0, none⟩) 0 (s.length / 2)) w0) := Lib.hid ⟨s, [], _, _, rfl, hs, by simp, rfl, hown0, by simp, hb0, HE.out.below hb0⟩
  clear hown0 hgrow0 hb0
  go_wp2_with fail
  go_loopw [0, 4] (fun v0 v4 wr => UL w s v0 v4 wr) (fun v0 _ _ => strLen v0)
  case atStart => exact HS.out
  case round =>
    obtain ⟨r, out, pa, cap, rfl, hr, ho, rfl, hown, hun, hb, hE⟩ := hrel
    have HB := Lib.hid hb
    have HE2 := Lib.hid hE
    have HO := Lib.hid hown
    have hol : (out.length : Int) ≤ 1000 := by omega
    clear hb hE hown
    match r, hr, ho, hun with
    | [], hr, ho, hun =>
      have hback := conv_back HO.out
      have HU : Hid (unhex s = some out) := Lib.hid (by rw [hun]; simp [unhex])
      have HR : Hid (UD (unhex s) w (.returned (.tuple #[.string ⟨out.toArray⟩, .bool true])) wr) := Lib.hid (by rw [HU.out]; exact ⟨HB.out, rfl⟩)
      clear hun hr ho
      go_wp2_with fail
      go_ret2
      exact HR.out
    | [c], hr, ho, hun =>
      have hback := conv_back HO.out
      have HU : Hid (unhex s = some out) := Lib.hid (by rw [hun]; simp [unhex])
      have HR : Hid (UD (unhex s) w (.returned (.tuple #[.string ⟨out.toArray⟩, .bool true])) wr) := Lib.hid (by rw [HU.out]; exact ⟨HB.out, rfl⟩)
      clear hun hr ho
      go_wp2_with fail
      go_ret2
      exact HR.out
    | a :: b :: t, hr, ho, hun =>
      have HP := Lib.hid (parse16p a b)
      cases hx : hexN [a, b] with
      | none =>
        rw [hx] at HP
        have HU : Hid (unhex s = none) := Lib.hid (by rw [hun]; simp [unhex, hx])
        have HR : Hid (∀ w', Below wr.heap.size wr w' → UD (unhex s) w (.returned (.tuple #[.string ⟨#[]⟩, .bool false])) w') := Lib.hid (fun w' hb' => by rw [HU.out]; exact ⟨HB.out.trans (hb'.mono HB.out.size), rfl⟩)
        clear hun hx
        have ht : (2 : Int) ≤ (t.length : Int) + 1 + 1 := by omega
        go_wp2_with fail
        rw [ex_two]
        go_wp2_with (go_at_call 57; refine (HP.out _ HE2.out).mono ?_; rintro e w2 ⟨hb, N, rfl⟩; have HY := Lib.hid (HR.out _ hb); clear hb)
        go_ret2
        exact HY.out
      | some n =>
        rw [hx] at HP
        have hn := hexN_lt hx
        have HX := Lib.hid hx
        have HUN := Lib.hid hun
        have HRO := Lib.hid (And.intro hr ho)
        have n0 : (0 : Int) ≤ (n : Int) := by omega
        have n1 : (n : Int) < 256 := by omega
        have ht : (2 : Int) ≤ (t.length : Int) + 1 + 1 := by omega
        have HM1 : Hid (out.length + 1 ≤ maxLen) := Lib.hid (by unfold maxLen; omega)
        have HM2 : Hid ((out.length + 1) * 1 ≤ 140737488355328) := Lib.hid (by omega)
        have HBZ : Hid (∀ W : World, Below w.heap.size w W → w.heap.size ≤ (W.alloc (.cells #[.int .u8 (n : Int)] 5)).heap.size) := Lib.hid fun W h => by have := h.size; simp; omega
        have HN : Hid (∀ (W : World) (v5 : Value) (w4 : World), W.ownsRow w.heap.size 5 1 (.slice pa out.length cap) out.length (bytesV out) → Below w.heap.size w W → Env W → w4.ownsRow w.heap.size 5 1 v5 (out.length + 1) (bytesV out ++ [.int .u8 (n : Int)]) →
            (W.alloc (.cells #[.int .u8 (n : Int)] 5)).grownBy w4 (Value.slice pa out.length cap).ownBlock → UL w s (.string ⟨t.toArray⟩) v5 w4) := Lib.hid fun W v5 w4 ho1 hb1 he1 ho5 hg5 => by
          have hb4 : Below w.heap.size w w4 := Below.grown (hb1.trans ((alloc_below W _).mono hb1.size)) hg5 (by have := hb1.size; simp; omega) (fun k hk => (ho1.lt k hk).1)
          have hbW : ∀ k, k < w.heap.size → True := fun _ _ => trivial
          have henv : Env w4 := HE.out.below hb4
          have hl : (out ++ [UInt8.ofNat n]).length = out.length + 1 := by simp
          have hv : bytesV (out ++ [UInt8.ofNat n]) = bytesV out ++ [.int .u8 (n : Int)] := by
            simp only [bytesV, List.map_append, List.map_cons, List.map_nil]
            rw [UInt8.toNat_ofNat_of_lt' (by show n < 256; omega)]
          have hform : ∃ pa' cap', v5 = .slice pa' (out.length + 1) cap' := by
            rcases ho5.2 with ⟨_, h0⟩ | ⟨g, cp, cur, e, _⟩
            · omega
            · exact ⟨_, _, e⟩
          obtain ⟨pa', cap', rfl⟩ := hform
          refine ⟨t, out ++ [UInt8.ofNat n], pa', cap', rfl, by simp at hr; omega, by simp at hr ho ⊢; omega, by rw [hl], by rw [hl, hv]; exact ho5, ?_, hb4, henv⟩
          rw [hun]
          simp only [unhex, hx]
          cases unhex t <;> simp
        clear hx hn hun hr ho
        go_wp2_with fail
        rw [ex_two]
        go_wp2_with (first
          | (go_at_call 57; refine (HP.out _ HE2.out).mono ?_; rintro e w2 ⟨hb, rfl⟩
             have HO := Lib.hid (own_below HO.out hb)
             have HE2 := Lib.hid (HE2.out.below hb)
             have HB := Lib.hid (HB.out.trans (hb.mono HB.out.size))
             clear hb)
          | (at_builtin; refine wpList_append_own _ rfl _ _ 72 rfl w.heap.size 5 i0 _ 1 1 Tryz.underlying72 hi hz0 hz1 hz2 rfl (by omega) _ _ _ rfl (own_below HO.out (alloc_below _ _)) ⟨_, 0, none⟩ 1 1 [.int .u8 (n : Int)] rfl rfl (World.news_of_block (cs := #[.int .u8 (n : Int)]) (heap_alloc_new _ _)) (by simp [Value.oneCell']) HM1.out HM2.out (HBZ.out _ HB.out) ?_; intro v5 w4 ho5 hg5 _
             have HY := Lib.hid (HN.out _ _ _ HO.out HB.out HE2.out ho5 hg5)
             clear ho5 hg5))
        rw [ex_rest a b t _ rfl]
        go_roundw
        case rel => exact HY.out
        case measure =>
          show (⟨t.toArray⟩ : ByteArray).size < (⟨(a :: b :: t).toArray⟩ : ByteArray).size
          rw [size_of, size_of]
          simp
          omega
end Go.Proofs.YtneppncnccangaaGreatDoor

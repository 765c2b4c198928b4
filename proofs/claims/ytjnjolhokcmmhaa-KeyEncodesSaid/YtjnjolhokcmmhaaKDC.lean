/- Package key: cutText. -/
import Derived.Test.YtjnjolhokcmmhaaKDB
namespace Go.Proofs.Ytjnjolhokcmmhaa
open Go.RowKit

/-- what cutText answers -/
def CTT (C : Nat) (w : World) (l : List UInt8) (e : Ending) (w' : World) : Prop := Below w.heap.size w w' ∧ ((∃ s r sb A' n cap', cutT l = some (s, r) ∧ sb = (⟨s.toArray⟩ : ByteArray) ∧ e = .returned (.tuple #[.string sb, .slice A' n cap', .bool true]) ∧ n = r.length ∧ RdB w' C A' r ∧ r.length ≤ cap') ∨
  (cutT l = none ∧ e = .returned (.tuple #[.string ⟨#[]⟩, .slice none 0 0, .bool false])))
/-- at the head of its loop -/
def CTL (w : World) (l : List UInt8) (v5 v6 : Value) (wr : World) : Prop := ∃ (i : Nat) (acc : List UInt8) (y : Value), y = v5 ∧ v6 = .int .i64 i ∧ i ≤ l.length ∧ acc.length ≤ i ∧ OwnB wr w.heap.size y acc ∧ cutT l = (cutT (l.drop i)).map (fun p => (acc ++ p.1, p.2)) ∧ Below w.heap.size w wr
set_option maxRecDepth 100000 in
set_option maxHeartbeats 8000000 in
theorem cutText_any (l : List UInt8) (A : Option Addr) (cap : Nat) (hl : l.length ≤ 100000) (hcap : l.length ≤ cap) (w : World) {C : Nat} (hC : C ≤ w.heap.size) (hr : RdB w C A l) :
    Calls Try.prog 52 #[.slice A l.length cap] w (CTT C w l) := by
  obtain ⟨i0, hi, hz0, hz1, hz2⟩ := info_parts info8
  have HR := Lib.hid hr
  have hli : (l.length : Int) ≤ 100000 := by omega
  have HS : Hid (CTL w l (.slice none 0 0) (.int .i64 0) w) := Lib.hid ⟨0, [], _, rfl, rfl, Nat.zero_le _, Nat.zero_le _, OwnB.nil _ _, by simp, Below.refl _ _⟩
  clear hr
  go_enter Try.func52, Try.ntmps52
  go_wp2_with fail
  go_loopw [5, 6] (fun v5 v6 wr => CTL w l v5 v6 wr) (fun _ v6 _ => l.length - (intOf v6).toNat)
  case atStart => exact HS.out
  case round =>
    obtain ⟨i, acc, y, rfl, rfl, hil, hacc, ho, hcut, hb⟩ := hrel
    have HO := Lib.hid ho
    have HB := Lib.hid hb
    have HCU := Lib.hid hcut
    clear ho hb hcut
    by_cases hlt : i + 1 < l.length
    · have hi1 : (i : Int) + 1 < (l.length : Int) := by omega
      have hi0 : (i : Int) < (l.length : Int) := by omega
      obtain ⟨c, hc⟩ : ∃ c, l[i]? = some c := ⟨_, List.getElem?_eq_getElem (by omega)⟩
      obtain ⟨d, hd⟩ : ∃ d, l[i + 1]? = some d := ⟨_, List.getElem?_eq_getElem hlt⟩
      have hdrop : l.drop i = c :: d :: l.drop (i + 2) := by
        rw [List.drop_eq_getElem_cons (by omega), List.drop_eq_getElem_cons hlt, (List.getElem?_eq_some_iff.1 hc).2, (List.getElem?_eq_some_iff.1 hd).2]
      have hdrop1 : l.drop (i + 1) = d :: l.drop (i + 2) := by
        rw [List.drop_eq_getElem_cons hlt, (List.getElem?_eq_some_iff.1 hd).2]
      obtain ⟨ad, hA, _, hcells⟩ := (HR.out.below HB.out hC) (fun e => by subst e; simp at hc)
      have x0 := hcells i c hc
      have x1 := hcells (i + 1) d hd
      rw [Addr.add_succ'] at x1
      subst hA
      have HM : Hid (acc.length + 1 ≤ 1000000) := Lib.hid (by omega)
      have HBZ : Hid (∀ o, w.heap.size ≤ (wr.alloc o).heap.size) := Lib.hid fun o => by have := HB.out.size; simp; omega
      have HD := Lib.hid hdrop
      have HD1 := Lib.hid hdrop1
      have HI := Lib.hid (And.intro hil (And.intro hacc hlt))
      have HG : Hid (∀ o v5 w5, Grew (wr.alloc o) y w5 v5 → Below w.heap.size w w5) := Lib.hid fun o v5 w5 hg => HB.out.trans (Below.trans ((alloc_below wr o).mono HB.out.size) (hg.toBelow (HBZ.out o) HO.out.ge))
      clear hcells hc hd hdrop hdrop1 hil hacc hlt
      by_cases h0 : c = 0
      · subst h0
        by_cases h255 : d = 255
        · subst h255
          go_wp2_with (at_builtin
                       refine wpList_appB rfl _ _ 23 rfl (B := w.heap.size) Try.underlying23 hi hz0 hz1 hz2 rfl (HO.out.below (alloc_below _ _)) rfl rfl (rd_one _ _ 0 rfl) HM.out (HBZ.out _) ?_
                       intro v7 w7 ho7 hg7
                       have HN : Hid (∀ v6, v6 = .int .i64 ((i + 2 : Nat) : Int) → CTL w l v7 v6 w7) := Lib.hid fun v6 h6 => ⟨i + 2, acc ++ [0], _, rfl, h6, by have := HI.out; omega, by have := HI.out; rw [List.length_append]; simp; omega, ho7, by
                         rw [HCU.out, HD.out, cutT_stuff, Option.map_map]
                         congr 1
                         funext q
                         simp, HG.out _ _ _ hg7⟩
                       clear ho7 hg7)
          go_roundw
          case rel => first | exact HN.out _ (by go_num) | ((repeat apply Exists.intro); exact ⟨HN.out _ (by go_num), rfl⟩)
          case measure => simp [intOf]; omega
        · have hz : ((d.toNat : Int) == 255) = false := by
            have h1 : d.toNat ≠ 255 := fun e => h255 (u8_ext e)
            exact beq_false_of_ne (by omega)
          by_cases h1 : d = 1
          · subst h1
            have hcv := fun q => conv_own (HO.out.below (drewN_below wr q))
            have HDR := HR.out.drop (k := i + 1 + 1) hcap
            have hi2 : i + 1 + 1 ≤ l.length := HI.out.2.2
            have hdl : (l.drop (i + 1 + 1)).length = l.length - (i + 1 + 1) := by rw [List.length_drop]
            have HT : Hid (cutT l = some (acc, l.drop (i + 1 + 1))) := Lib.hid (by rw [HCU.out, HD.out, cutT_end]; simp)
            by_cases hcq : cap = i + 1 + 1
            · have HY : Hid (∀ q, CTT C w l (.returned (.tuple #[.string ⟨acc.toArray⟩, .slice (some ad) 0 0, .bool true])) (wr.drewN q)) := Lib.hid fun q => ⟨HB.out.trans ((drewN_below wr q).mono HB.out.size), .inl ⟨acc, _, _, _, 0, 0, HT.out, rfl, rfl, by omega, by rw [if_pos hcq] at HDR; exact (HDR.below HB.out hC).below (drewN_below wr q) (Nat.le_trans hC HB.out.size), by omega⟩⟩
              subst hcq
              have hlen : l.length = i + 1 + 1 := by omega
              clear HDR hdl hi2 hcap hz h255
              go_wp2_with fail
              go_quiet (fail)
              go_wp2_with fail
              simp only [Nat.sub_self]
              go_ret3
              exact HY.out _
            · have HY : Hid (∀ q, CTT C w l (.returned (.tuple #[.string ⟨acc.toArray⟩, .slice (some (ad.add (i + 1 + 1))) (l.length - (i + 1 + 1)) (cap - (i + 1 + 1)), .bool true])) (wr.drewN q)) := Lib.hid fun q => ⟨HB.out.trans ((drewN_below wr q).mono HB.out.size), .inl ⟨acc, _, _, _, _, cap - (i + 1 + 1), HT.out, rfl, rfl, hdl.symm, by rw [if_neg hcq] at HDR; exact (HDR.below HB.out hC).below (drewN_below wr q) (Nat.le_trans hC HB.out.size), by omega⟩⟩
              clear HDR hdl hz h255
              go_wp2_with fail
              go_quiet (fail)
              go_wp2_with fail
              go_ret3
              exact HY.out _
          · have hz1' : ((d.toNat : Int) == 1) = false := by
              have h2 : d.toNat ≠ 1 := fun e => h1 (u8_ext e)
              exact beq_false_of_ne (by omega)
            have HY : Hid (CTT C w l (.returned (.tuple #[.string ⟨#[]⟩, .slice none 0 0, .bool false])) wr) := Lib.hid ⟨HB.out, .inr ⟨by rw [HCU.out, HD.out, cutT_bad h255 h1]; rfl, rfl⟩⟩
            clear h255 h1
            go_wp2_with fail
            go_ret3
            exact HY.out
      · have hz : ((c.toNat : Int) == 0) = false := by
          have := nz_pos h0
          have e0 : (0 : UInt8).toNat = 0 := rfl
          exact beq_false_of_ne (by omega)
        have hz2' : ((c.toNat : Int) != 0) = true := by rw [bne, hz]; rfl
        have HT : Hid (cutT (l.drop i) = (cutT (l.drop (i + 1))).map (fun p => (c :: p.1, p.2))) := Lib.hid (by rw [HD.out, HD1.out, cutT_nz h0])
        clear h0
        go_wp2_with (at_builtin
                     refine wpList_appB rfl _ _ 23 rfl (B := w.heap.size) Try.underlying23 hi hz0 hz1 hz2 rfl (HO.out.below (alloc_below _ _)) rfl rfl (rd_one _ _ c rfl) HM.out (HBZ.out _) ?_
                     intro v7 w7 ho7 hg7
                     have HN : Hid (∀ v6, v6 = .int .i64 ((i + 1 : Nat) : Int) → CTL w l v7 v6 w7) := Lib.hid fun v6 h6 => ⟨i + 1, acc ++ [c], _, rfl, h6, by have := HI.out; omega, by have := HI.out; rw [List.length_append]; simp; omega, ho7, by
                       rw [HCU.out, HT.out, Option.map_map]
                       congr 1
                       funext q
                       simp, HG.out _ _ _ hg7⟩
                     clear ho7 hg7)
        go_roundw
        case rel => first | exact HN.out _ (by go_num) | ((repeat apply Exists.intro); exact ⟨HN.out _ (by go_num), rfl⟩)
        case measure => simp [intOf]; omega
    · have hi1 : ¬ (i : Int) + 1 < (l.length : Int) := by omega
      have hi2 : (l.length : Int) ≤ (i : Int) + 1 := by omega
      have hi0 : (i : Int) ≤ 100000 := by omega
      have HY : Hid (CTT C w l (.returned (.tuple #[.string ⟨#[]⟩, .slice none 0 0, .bool false])) wr) := Lib.hid ⟨HB.out, .inr ⟨by
        rw [HCU.out]
        rcases Nat.lt_or_ge i l.length with h | h
        · rw [List.drop_eq_getElem_cons h, List.drop_eq_nil_of_le (by omega), cutT_one]; rfl
        · rw [List.drop_eq_nil_of_le h]; simp [cutT], rfl⟩⟩
      clear hlt hil hacc
      go_wp2_with fail
      go_ret3
      exact HY.out
end Go.Proofs.Ytjnjolhokcmmhaa

/- The document's take of a key's text; take whole. -/
import Derived.Test.YtjnjolhokcmmhaaKPF
import Derived.Test.YtjnjolhokcmmhaaKY
import Derived.Test.YtjnjolhokcmmhaaKDO
namespace Go.Proofs.Ytjnjolhokcmmhaa
open Go.RowKit

/-- so far the text is what has been read -/
def CInv (t : List UInt8) (i : Nat) (l : List UInt8) : Prop := ∀ a r, cutT t = some (a, r) → ∃ p, cutT (t.drop i) = some (p, r) ∧ a = l ++ p
theorem drop_at {t : List UInt8} {i : Nat} {c : UInt8} (hc : t[i]? = some c) : t.drop i = c :: t.drop (i + 1) := by
  obtain ⟨h, rfl⟩ := List.getElem?_eq_some_iff.1 hc
  exact List.drop_eq_getElem_cons h
theorem cinv_start (t : List UInt8) : CInv t 0 [] := fun a _ h => ⟨a, h, rfl⟩
theorem cinv_nz {t l : List UInt8} {i : Nat} {c : UInt8} (h : CInv t i l) (hc : t[i]? = some c) (h0 : ¬ c = 0) : CInv t (i + 1) (l ++ [c]) := fun a r e => by
  obtain ⟨p, h1, h2⟩ := h a r e
  rw [drop_at hc, cutT_nz h0, Option.map_eq_some_iff] at h1
  obtain ⟨⟨q, r2⟩, h3, h4⟩ := h1
  simp only [Prod.mk.injEq] at h4
  obtain ⟨rfl, rfl⟩ := h4
  exact ⟨q, h3, by rw [h2]; simp⟩
theorem cinv_stuff {t l : List UInt8} {i : Nat} {d : UInt8} (h : CInv t i l) (hc : t[i]? = some 0) (hd : t[i + 1]? = some d) (h1 : ¬ d = 1) : CInv t (i + 2) (l ++ [0]) := fun a r e => by
  obtain ⟨p, h2, h3⟩ := h a r e
  rw [drop_at hc, drop_at hd] at h2
  by_cases h5 : d = 255
  · subst h5
    rw [cutT_stuff, Option.map_eq_some_iff] at h2
    obtain ⟨⟨q, r2⟩, h6, h4⟩ := h2
    simp only [Prod.mk.injEq] at h4
    obtain ⟨rfl, rfl⟩ := h4
    exact ⟨q, h6, by rw [h3]; simp⟩
  · rw [cutT_bad h5 h1] at h2; cases h2
theorem cinv_last {t l : List UInt8} {i : Nat} (h : CInv t i l) (hc : t[i]? = some 0) (hl : t.length ≤ i + 1) : CInv t (i + 2) (l ++ [0]) := fun a r e => by
  obtain ⟨p, h2, h3⟩ := h a r e
  rw [drop_at hc, List.drop_of_length_le hl, cutT_one] at h2
  cases h2
theorem cinv_end {t l : List UInt8} {i : Nat} (h : CInv t i l) (hl : t.length ≤ i) : ∀ s r, cutT t = some (s, r) → 200 < s.length := fun s r e => by
  obtain ⟨p, h2, _⟩ := h s r e
  rw [List.drop_of_length_le hl] at h2
  simp [cutT] at h2
theorem text_body {c : UInt8} (hc : c.toNat = 4 ∨ c.toNat = 5) {y : Val} (hk : y.k = (c.toNat : Int)) : bodyL y.k y.n y.s.data.toList = stuffL y.s.data.toList ++ [0, 1] := by
  unfold bodyL
  rw [hk, if_neg (by omega), if_neg (by omega), if_pos (by omega)]
theorem tkK_text {w W : World} {c : UInt8} {t l : List UInt8} {i : Nat} {s : ByteArray} (hc : c.toNat = 4 ∨ c.toNat = 5) (h : CInv t i l) (hb : Below w.heap.size w W) (h0 : t[i]? = some 0) (h1 : t[i + 1]? = some 1) (hs : s.data.toList = l) (hz : s.size ≤ i) :
    TkK w (c :: t) (.returned (.tuple #[(⟨(c.toNat : Int), 0, s⟩ : Val).v, .int .i64 ((i + 3 : Nat) : Int)])) W := by
  have hlt : i + 1 < t.length := (List.getElem?_eq_some_iff.1 h1).1
  refine ⟨hb, ⟨(c.toNat : Int), 0, s⟩, i + 3, rfl, ⟨i64_byte c, i64_lit0⟩, by simp; omega, by simp; omega, fun y r hy e => ?_⟩
  obtain ⟨h2, h3⟩ := head_kind hy e
  rw [text_body hc h2] at h3
  have h4 : cutT t = some (y.s.data.toList, r) := (cutT_iff _ _ _).2 (by rw [h3]; simp)
  obtain ⟨p, h5, h6⟩ := h _ _ h4
  rw [drop_at h0, drop_at h1, cutT_end] at h5
  simp only [Option.some.injEq, Prod.mk.injEq] at h5
  obtain ⟨h5, h7⟩ := h5
  rw [← h5, List.append_nil] at h6
  have hn : y.n = 0 := by
    rcases hy.cases with ⟨k, _⟩ | ⟨k, _⟩ | ⟨k, _⟩ | ⟨_, n, _⟩
    · omega
    · omega
    · omega
    · exact n
  have h8 : t.length = (stuffL y.s.data.toList).length + 2 + r.length := by rw [h3]; simp; omega
  have h9 : r.length = t.length - (i + 2) := by rw [← h7, List.length_drop]
  refine ⟨Val.ext' h2.symm hn.symm (bytes_ext (by rw [hs, h6])), ?_⟩
  unfold enc1
  rw [List.length_cons, text_body hc h2, List.length_append]
  simp
  omega
/-- at the head of the text's loop -/
def KTL (w : World) (c : UInt8) (t : List UInt8) (v8 v9 : Value) (wr : World) : Prop := ∃ (i : Nat) (s : ByteArray), v8 = .string s ∧ v9 = .int .i64 ((i : Int) + 1) ∧ i ≤ t.length + 1 ∧ s.size ≤ i ∧ CInv t i s.data.toList ∧ TB w wr ⟨0, 0, ⟨#[]⟩⟩ ⟨(c.toNat : Int), 0, ⟨#[]⟩⟩
theorem push_list (s : ByteArray) (c : UInt8) : (s ++ (⟨#[c]⟩ : ByteArray)).data.toList = s.data.toList ++ [c] := by simp
theorem push_size (s : ByteArray) (c : UInt8) : (s ++ (⟨#[c]⟩ : ByteArray)).size = s.size + 1 := by
  rw [ByteArray.size_append]; rfl
set_option maxRecDepth 100000 in
set_option maxHeartbeats 8000000 in
theorem tkK_4 (t : List UInt8) (ht : t.length ≤ 100000) (ad : Addr) (cap : Nat) (w : World) (x0 : w.cell? ad = some (.int .u8 (4 : UInt8).toNat)) (hab : ad.block < w.heap.size) (hcells : ∀ j d, t[j]? = some d → w.cell? (ad.add (1 + j)) = some (.int .u8 (d.toNat : Int))) : Calls Try.prog 39 #[.slice (some ad) (t.length + 1) cap] w (TkK w (4 :: t)) := by
  obtain ⟨ab, ao, asp⟩ := ad
  have hsp : asp = none := World.cell?_spot x0
  subst hsp
  have hab' : ab < w.heap.size := hab
  have hti : (0 : Int) < (t.length : Int) + 1 := by omega
  have ht9 : (t.length : Int) ≤ 100000 := by omega
  have HC := Lib.hid hcells
  have HT0 := Lib.hid (TB.new w 0 0 ⟨#[]⟩ 4 0 ⟨#[]⟩)
  have HS : Hid (KTL w 4 t (.string ⟨#[]⟩) (.int .i64 1) ((w.alloc (.cells #[.int .i64 0, .int .i64 0, .string ⟨#[]⟩] 68)).alloc (.cells #[.int .i64 4, .int .i64 0, .string ⟨#[]⟩] 68))) := Lib.hid ⟨0, ⟨#[]⟩, rfl, rfl, Nat.zero_le _, Nat.le_refl _, cinv_start t, HT0.out⟩
  obtain ⟨f0, f1, f2⟩ := HT0.out.frozA
  obtain ⟨g0, g1, g2⟩ := HT0.out.frozB
  obtain ⟨y0, y1, y2⟩ := HT0.out.cells
  obtain ⟨r0, r1, r2⟩ := HT0.out.res
  clear hcells
  go_enter Try.func39, Try.ntmps39
  go_wp2_with fail
  clear f0 f1 f2 g0 g1 g2 y0 y1 y2 r0 r1 r2
  go_loopw [8, 9] (fun v8 v9 wr => KTL w 4 t v8 v9 wr) (fun _ v9 _ => t.length + 2 - (intOf v9).toNat)
  case atStart => exact HS.out
  case round =>
    obtain ⟨i, s, rfl, rfl, hi, hs, hinv, htb⟩ := hrel
    have HT := Lib.hid htb
    have HI := Lib.hid hinv
    obtain ⟨f0, f1, f2⟩ := HT.out.frozA
    obtain ⟨g0, g1, g2⟩ := HT.out.frozB
    obtain ⟨y0, y1, y2⟩ := HT.out.cells
    obtain ⟨r0, r1, r2⟩ := HT.out.res
    have hab2 : ab < wr.heap.size := Nat.lt_of_lt_of_le hab' HT.out.bel.size
    clear htb hinv
    by_cases hlt : i < t.length
    · have hki : (i : Int) + 1 < (t.length : Int) + 1 := by omega
      have hk0 : (0 : Int) ≤ (i : Int) + 1 := by omega
      have hss : ¬ 9223372036854775807 < s.size + 1 := by omega
      obtain ⟨c, hc⟩ : ∃ c, t[i]? = some c := ⟨_, List.getElem?_eq_getElem hlt⟩
      have hcell := (World.cell?_of_block (HT.out.bel.block _ (by rw [addr_add_block]; exact hab'))).trans (HC.out i c hc)
      rw [Addr.add_lit, Nat.add_comm 1 i] at hcell
      have HCC := Lib.hid hc
      have HSZ := Lib.hid hs
      have HIL := Lib.hid hlt
      have HTA : Hid (∀ x : Int, TB w (wr.alloc (.cells #[.int .u8 x] 5)) ⟨0, 0, ⟨#[]⟩⟩ ⟨4, 0, ⟨#[]⟩⟩) := Lib.hid fun x => HT.out.keep (alloc_below _ _)
      have HTN : Hid (∀ (n : Nat) (x : Int), TB w ((wr.drewN n).alloc (.cells #[.int .u8 x] 5)) ⟨0, 0, ⟨#[]⟩⟩ ⟨4, 0, ⟨#[]⟩⟩) := Lib.hid fun n x => (HT.out.keep (drewN_below wr n)).keep (alloc_below _ _)
      have KC := Lib.hid (fun (x : Int) (d : UInt8) (hx : x = (d.toNat : Int)) => conv_rd (n := 1) (cap := 1) (rd_one wr x d hx) rfl ⟨#[d]⟩ rfl)
      clear hc hi hs hlt
      by_cases h0 : c = 0
      · subst h0
        have kc := KC.out 0 0 rfl
        by_cases h1 : i + 1 < t.length
        · have hk1 : (i : Int) + 1 + 1 < (t.length : Int) + 1 := by omega
          have hk2 : (0 : Int) ≤ (i : Int) + 1 + 1 := by omega
          obtain ⟨d, hd⟩ : ∃ d, t[i + 1]? = some d := ⟨_, List.getElem?_eq_getElem h1⟩
          have hdell := (World.cell?_of_block (HT.out.bel.block _ (by rw [addr_add_block]; exact hab'))).trans (HC.out (i + 1) d hd)
          rw [Addr.add_lit, Nat.add_comm 1 (i + 1)] at hdell
          have HDD := Lib.hid hd
          clear hd
          by_cases hd1 : d = 1
          · subst hd1
            have HY : Hid (∀ W, Below w.heap.size w W → TkK w (4 :: t) (.returned (.tuple #[.agg #[.int .i64 4, .int .i64 0, .string s], .int .i64 ((i : Int) + 1 + 2)])) W) := Lib.hid fun W hW => by
              have h := tkK_text (c := 4) (by decide) HI.out hW HCC.out HDD.out rfl HSZ.out
              rw [show ((i + 3 : Nat) : Int) = (i : Int) + 1 + 2 by omega] at h
              exact h
            clear kc
            go_wp2_with fail
            obtain ⟨z0, z1, z2⟩ := ((HT.out.b2 s).put 4 0 s).res
            refine bodyPost_ret (v := .tuple #[.agg #[.int .i64 4, .int .i64 0, .string s], .int .i64 ((i : Int) + 1 + 2)]) (by simp [results, Try.results39, go_sem, z0, z1, z2]) rfl ?_
            exact HY.out _ ((HT.out.b2 s).put 4 0 s).bel
          · have hz : ((d.toNat : Int) == 1) = false := by
              refine beq_false_of_ne fun e => hd1 (UInt8.toNat_inj.1 ?_)
              have e1 : (1 : UInt8).toNat = 1 := rfl
              rw [e1]; omega
            have HNX : Hid (∀ (v8 v9 : Value) (W : World), v8 = .string (s ++ (⟨#[0]⟩ : ByteArray)) → v9 = .int .i64 (((i + 2 : Nat) : Int) + 1) → TB w W ⟨0, 0, ⟨#[]⟩⟩ ⟨4, 0, ⟨#[]⟩⟩ → KTL w 4 t v8 v9 W) := Lib.hid fun v8 v9 W e8 e9 hT => ⟨i + 2, _, e8, e9, by have := HIL.out; omega, by rw [push_size]; have := HSZ.out; omega, by rw [push_list]; exact cinv_stuff HI.out HCC.out HDD.out hd1, hT⟩
            go_wp2_with fail
            go_roundw
            case rel => first | exact HNX.out _ _ _ rfl (by go_num) (HTA.out _) | exact HNX.out _ _ _ rfl (by go_num) (HTN.out _ _) | fail
            case measure => simp [intOf]; have := HIL.out; omega
        · have hk1 : ¬ (i : Int) + 1 + 1 < (t.length : Int) + 1 := by omega
          have HNX : Hid (∀ (v8 v9 : Value) (W : World), v8 = .string (s ++ (⟨#[0]⟩ : ByteArray)) → v9 = .int .i64 (((i + 2 : Nat) : Int) + 1) → TB w W ⟨0, 0, ⟨#[]⟩⟩ ⟨4, 0, ⟨#[]⟩⟩ → KTL w 4 t v8 v9 W) := Lib.hid fun v8 v9 W e8 e9 hT => ⟨i + 2, _, e8, e9, by have := HIL.out; omega, by rw [push_size]; have := HSZ.out; omega, by rw [push_list]; exact cinv_last HI.out HCC.out (by omega), hT⟩
          go_wp2_with fail
          go_roundw
          case rel => first | exact HNX.out _ _ _ rfl (by go_num) (HTA.out _) | exact HNX.out _ _ _ rfl (by go_num) (HTN.out _ _) | fail
          case measure => simp [intOf]; have := HIL.out; omega
      · have hz : ((c.toNat : Int) == 0) = false := by
          have := nz_pos h0
          simp; omega
        have kc := KC.out _ c rfl
        have HNX : Hid (∀ (v8 v9 : Value) (W : World), v8 = .string (s ++ (⟨#[c]⟩ : ByteArray)) → v9 = .int .i64 (((i + 1 : Nat) : Int) + 1) → TB w W ⟨0, 0, ⟨#[]⟩⟩ ⟨4, 0, ⟨#[]⟩⟩ → KTL w 4 t v8 v9 W) := Lib.hid fun v8 v9 W e8 e9 hT => ⟨i + 1, _, e8, e9, by have := HIL.out; omega, by rw [push_size]; have := HSZ.out; omega, by rw [push_list]; exact cinv_nz HI.out HCC.out h0, hT⟩
        go_wp2_with fail
        go_roundw
        case rel => first | exact HNX.out _ _ _ rfl (by go_num) (HTA.out _) | exact HNX.out _ _ _ rfl (by go_num) (HTN.out _ _) | fail
        case measure => simp [intOf]; have := HIL.out; omega
    · have hki : ¬ (i : Int) + 1 < (t.length : Int) + 1 := by omega
      have HY : Hid (∀ W, Below w.heap.size w W → TkK w (4 :: t) (.returned (.tuple #[.agg #[.int .i64 4, .int .i64 0, .string ⟨#[]⟩], .int .i64 0])) W) := Lib.hid fun W hW => tkK_bad (x := ⟨4, 0, ⟨#[]⟩⟩) (n := 0) hW ⟨by unfold i64ok; decide, i64_lit0⟩ (Nat.zero_le _) (Nat.zero_le _) (no_text (c := 4) (by decide) (cinv_end HI.out (by omega)))
      go_wp2_with fail
      obtain ⟨z0, z1, z2⟩ := (HT.out.put 4 0 ⟨#[]⟩).res
      refine bodyPost_ret (v := .tuple #[.agg #[.int .i64 4, .int .i64 0, .string ⟨#[]⟩], .int .i64 0]) (by simp [results, Try.results39, go_sem, z0, z1, z2]) rfl ?_
      exact HY.out _ (HT.out.put 4 0 ⟨#[]⟩).bel
set_option maxRecDepth 100000 in
set_option maxHeartbeats 8000000 in
theorem tkK_5 (t : List UInt8) (ht : t.length ≤ 100000) (ad : Addr) (cap : Nat) (w : World) (x0 : w.cell? ad = some (.int .u8 (5 : UInt8).toNat)) (hab : ad.block < w.heap.size) (hcells : ∀ j d, t[j]? = some d → w.cell? (ad.add (1 + j)) = some (.int .u8 (d.toNat : Int))) : Calls Try.prog 39 #[.slice (some ad) (t.length + 1) cap] w (TkK w (5 :: t)) := by
  obtain ⟨ab, ao, asp⟩ := ad
  have hsp : asp = none := World.cell?_spot x0
  subst hsp
  have hab' : ab < w.heap.size := hab
  have hti : (0 : Int) < (t.length : Int) + 1 := by omega
  have ht9 : (t.length : Int) ≤ 100000 := by omega
  have HC := Lib.hid hcells
  have HT0 := Lib.hid (TB.new w 0 0 ⟨#[]⟩ 5 0 ⟨#[]⟩)
  have HS : Hid (KTL w 5 t (.string ⟨#[]⟩) (.int .i64 1) ((w.alloc (.cells #[.int .i64 0, .int .i64 0, .string ⟨#[]⟩] 68)).alloc (.cells #[.int .i64 5, .int .i64 0, .string ⟨#[]⟩] 68))) := Lib.hid ⟨0, ⟨#[]⟩, rfl, rfl, Nat.zero_le _, Nat.le_refl _, cinv_start t, HT0.out⟩
  obtain ⟨f0, f1, f2⟩ := HT0.out.frozA
  obtain ⟨g0, g1, g2⟩ := HT0.out.frozB
  obtain ⟨y0, y1, y2⟩ := HT0.out.cells
  obtain ⟨r0, r1, r2⟩ := HT0.out.res
  clear hcells
  go_enter Try.func39, Try.ntmps39
  go_wp2_with fail
  clear f0 f1 f2 g0 g1 g2 y0 y1 y2 r0 r1 r2
  go_loopw [8, 9] (fun v8 v9 wr => KTL w 5 t v8 v9 wr) (fun _ v9 _ => t.length + 2 - (intOf v9).toNat)
  case atStart => exact HS.out
  case round =>
    obtain ⟨i, s, rfl, rfl, hi, hs, hinv, htb⟩ := hrel
    have HT := Lib.hid htb
    have HI := Lib.hid hinv
    obtain ⟨f0, f1, f2⟩ := HT.out.frozA
    obtain ⟨g0, g1, g2⟩ := HT.out.frozB
    obtain ⟨y0, y1, y2⟩ := HT.out.cells
    obtain ⟨r0, r1, r2⟩ := HT.out.res
    have hab2 : ab < wr.heap.size := Nat.lt_of_lt_of_le hab' HT.out.bel.size
    clear htb hinv
    by_cases hlt : i < t.length
    · have hki : (i : Int) + 1 < (t.length : Int) + 1 := by omega
      have hk0 : (0 : Int) ≤ (i : Int) + 1 := by omega
      have hss : ¬ 9223372036854775807 < s.size + 1 := by omega
      obtain ⟨c, hc⟩ : ∃ c, t[i]? = some c := ⟨_, List.getElem?_eq_getElem hlt⟩
      have hcell := (World.cell?_of_block (HT.out.bel.block _ (by rw [addr_add_block]; exact hab'))).trans (HC.out i c hc)
      rw [Addr.add_lit, Nat.add_comm 1 i] at hcell
      have HCC := Lib.hid hc
      have HSZ := Lib.hid hs
      have HIL := Lib.hid hlt
      have HTA : Hid (∀ x : Int, TB w (wr.alloc (.cells #[.int .u8 x] 5)) ⟨0, 0, ⟨#[]⟩⟩ ⟨5, 0, ⟨#[]⟩⟩) := Lib.hid fun x => HT.out.keep (alloc_below _ _)
      have HTN : Hid (∀ (n : Nat) (x : Int), TB w ((wr.drewN n).alloc (.cells #[.int .u8 x] 5)) ⟨0, 0, ⟨#[]⟩⟩ ⟨5, 0, ⟨#[]⟩⟩) := Lib.hid fun n x => (HT.out.keep (drewN_below wr n)).keep (alloc_below _ _)
      have KC := Lib.hid (fun (x : Int) (d : UInt8) (hx : x = (d.toNat : Int)) => conv_rd (n := 1) (cap := 1) (rd_one wr x d hx) rfl ⟨#[d]⟩ rfl)
      clear hc hi hs hlt
      by_cases h0 : c = 0
      · subst h0
        have kc := KC.out 0 0 rfl
        by_cases h1 : i + 1 < t.length
        · have hk1 : (i : Int) + 1 + 1 < (t.length : Int) + 1 := by omega
          have hk2 : (0 : Int) ≤ (i : Int) + 1 + 1 := by omega
          obtain ⟨d, hd⟩ : ∃ d, t[i + 1]? = some d := ⟨_, List.getElem?_eq_getElem h1⟩
          have hdell := (World.cell?_of_block (HT.out.bel.block _ (by rw [addr_add_block]; exact hab'))).trans (HC.out (i + 1) d hd)
          rw [Addr.add_lit, Nat.add_comm 1 (i + 1)] at hdell
          have HDD := Lib.hid hd
          clear hd
          by_cases hd1 : d = 1
          · subst hd1
            have HY : Hid (∀ W, Below w.heap.size w W → TkK w (5 :: t) (.returned (.tuple #[.agg #[.int .i64 5, .int .i64 0, .string s], .int .i64 ((i : Int) + 1 + 2)])) W) := Lib.hid fun W hW => by
              have h := tkK_text (c := 5) (by decide) HI.out hW HCC.out HDD.out rfl HSZ.out
              rw [show ((i + 3 : Nat) : Int) = (i : Int) + 1 + 2 by omega] at h
              exact h
            clear kc
            go_wp2_with fail
            obtain ⟨z0, z1, z2⟩ := ((HT.out.b2 s).put 5 0 s).res
            refine bodyPost_ret (v := .tuple #[.agg #[.int .i64 5, .int .i64 0, .string s], .int .i64 ((i : Int) + 1 + 2)]) (by simp [results, Try.results39, go_sem, z0, z1, z2]) rfl ?_
            exact HY.out _ ((HT.out.b2 s).put 5 0 s).bel
          · have hz : ((d.toNat : Int) == 1) = false := by
              refine beq_false_of_ne fun e => hd1 (UInt8.toNat_inj.1 ?_)
              have e1 : (1 : UInt8).toNat = 1 := rfl
              rw [e1]; omega
            have HNX : Hid (∀ (v8 v9 : Value) (W : World), v8 = .string (s ++ (⟨#[0]⟩ : ByteArray)) → v9 = .int .i64 (((i + 2 : Nat) : Int) + 1) → TB w W ⟨0, 0, ⟨#[]⟩⟩ ⟨5, 0, ⟨#[]⟩⟩ → KTL w 5 t v8 v9 W) := Lib.hid fun v8 v9 W e8 e9 hT => ⟨i + 2, _, e8, e9, by have := HIL.out; omega, by rw [push_size]; have := HSZ.out; omega, by rw [push_list]; exact cinv_stuff HI.out HCC.out HDD.out hd1, hT⟩
            go_wp2_with fail
            go_roundw
            case rel => first | exact HNX.out _ _ _ rfl (by go_num) (HTA.out _) | exact HNX.out _ _ _ rfl (by go_num) (HTN.out _ _) | fail
            case measure => simp [intOf]; have := HIL.out; omega
        · have hk1 : ¬ (i : Int) + 1 + 1 < (t.length : Int) + 1 := by omega
          have HNX : Hid (∀ (v8 v9 : Value) (W : World), v8 = .string (s ++ (⟨#[0]⟩ : ByteArray)) → v9 = .int .i64 (((i + 2 : Nat) : Int) + 1) → TB w W ⟨0, 0, ⟨#[]⟩⟩ ⟨5, 0, ⟨#[]⟩⟩ → KTL w 5 t v8 v9 W) := Lib.hid fun v8 v9 W e8 e9 hT => ⟨i + 2, _, e8, e9, by have := HIL.out; omega, by rw [push_size]; have := HSZ.out; omega, by rw [push_list]; exact cinv_last HI.out HCC.out (by omega), hT⟩
          go_wp2_with fail
          go_roundw
          case rel => first | exact HNX.out _ _ _ rfl (by go_num) (HTA.out _) | exact HNX.out _ _ _ rfl (by go_num) (HTN.out _ _) | fail
          case measure => simp [intOf]; have := HIL.out; omega
      · have hz : ((c.toNat : Int) == 0) = false := by
          have := nz_pos h0
          simp; omega
        have kc := KC.out _ c rfl
        have HNX : Hid (∀ (v8 v9 : Value) (W : World), v8 = .string (s ++ (⟨#[c]⟩ : ByteArray)) → v9 = .int .i64 (((i + 1 : Nat) : Int) + 1) → TB w W ⟨0, 0, ⟨#[]⟩⟩ ⟨5, 0, ⟨#[]⟩⟩ → KTL w 5 t v8 v9 W) := Lib.hid fun v8 v9 W e8 e9 hT => ⟨i + 1, _, e8, e9, by have := HIL.out; omega, by rw [push_size]; have := HSZ.out; omega, by rw [push_list]; exact cinv_nz HI.out HCC.out h0, hT⟩
        go_wp2_with fail
        go_roundw
        case rel => first | exact HNX.out _ _ _ rfl (by go_num) (HTA.out _) | exact HNX.out _ _ _ rfl (by go_num) (HTN.out _ _) | fail
        case measure => simp [intOf]; have := HIL.out; omega
    · have hki : ¬ (i : Int) + 1 < (t.length : Int) + 1 := by omega
      have HY : Hid (∀ W, Below w.heap.size w W → TkK w (5 :: t) (.returned (.tuple #[.agg #[.int .i64 5, .int .i64 0, .string ⟨#[]⟩], .int .i64 0])) W) := Lib.hid fun W hW => tkK_bad (x := ⟨5, 0, ⟨#[]⟩⟩) (n := 0) hW ⟨by unfold i64ok; decide, i64_lit0⟩ (Nat.zero_le _) (Nat.zero_le _) (no_text (c := 5) (by decide) (cinv_end HI.out (by omega)))
      go_wp2_with fail
      obtain ⟨z0, z1, z2⟩ := (HT.out.put 5 0 ⟨#[]⟩).res
      refine bodyPost_ret (v := .tuple #[.agg #[.int .i64 5, .int .i64 0, .string ⟨#[]⟩], .int .i64 0]) (by simp [results, Try.results39, go_sem, z0, z1, z2]) rfl ?_
      exact HY.out _ (HT.out.put 5 0 ⟨#[]⟩).bel
set_option maxRecDepth 100000 in
set_option maxHeartbeats 8000000 in
theorem refTakeK_any (c : UInt8) (t : List UInt8) (A : Option Addr) (n cap : Nat) (hn : n = t.length + 1) (w : World) (hl : t.length ≤ 100000) (hr : RdB w w.heap.size A (c :: t)) : Calls Try.prog 39 #[.slice A n cap] w (TkK w (c :: t)) := by
  subst hn
  obtain ⟨ad, rfl, hab, hcells⟩ := hr (by simp)
  have x0 := hcells 0 c rfl
  rw [Addr.add_zero'] at x0
  have hcs : ∀ j d, t[j]? = some d → w.cell? (ad.add (1 + j)) = some (.int .u8 (d.toNat : Int)) := fun j d hd => by
    have := hcells (j + 1) d (by simpa using hd)
    rwa [Nat.add_comm] at this
  by_cases h5 : 5 < c.toNat
  · exact tkK_x c t ad cap w x0 hab h5
  · rcases six h5 with rfl | rfl | rfl | rfl | rfl | rfl
    · exact tkK_0 t ad cap w x0 hab
    · rcases t with _ | ⟨d, t⟩
      · exact tkK_1n ad cap w x0 hab
      · exact tkK_1c d t ad cap w x0 hab (by have := hcs 0 d rfl; exact this)
    · by_cases h8 : t.length < 8
      · exact tkK_2n t ad cap w x0 hab h8
      · exact tkK_2y t ad cap w x0 hab (by omega) hcs
    · by_cases h8 : t.length < 8
      · exact tkK_3n t ad cap w x0 hab h8
      · exact tkK_3y t ad cap w x0 hab (by omega) hcs
    · exact tkK_4 t hl ad cap w x0 hab hcs
    · exact tkK_5 t hl ad cap w x0 hab hcs
end Go.Proofs.Ytjnjolhokcmmhaa

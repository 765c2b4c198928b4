/- LexCases: the law's own body answers true. -/
import Derived.Test.YtokkbipdkakenaaDoorBS
import Derived.Test.YtokkbipdkakenaaDoorBQ
namespace Go.Proofs.YtokkbipdkakenaaDoor
open Go.RowKit

/-- two rows of bytes of the call's own -/
structure TR (w W : World) (v3 v4 : Value) (l3 l4 : List UInt8) : Prop where
  o3 : OwnB W w.heap.size v3 l3
  o4 : OwnB W w.heap.size v4 l4
  dis : ∀ k, v3.ownBlock = some k → v4.ownBlock ≠ some k
  bel : Below w.heap.size w W
section
variable {w W V : World} {v3 v4 : Value} {l3 l4 : List UInt8}
theorem TR.next (h : TR w W v3 v4 l3 l4) (hb : Below W.heap.size W V) : TR w V v3 v4 l3 l4 := ⟨h.o3.below hb, h.o4.below hb, h.dis, h.bel.trans (hb.mono h.bel.size)⟩
theorem TR.app3 (h : TR w W v3 v4 l3 l4) {v : Value} {l : List UInt8} (ho : OwnB V w.heap.size v l) (hg : Grew W v3 V v) : TR w V v v4 l l4 := by
  refine ⟨ho, ⟨h.o4.1.kept hg.by_ ?_, h.o4.2⟩, fun k hk => ?_, h.bel.trans (hg.toBelow h.bel.size h.o3.ge)⟩
  · cases h4 : v4.ownBlock with
    | none => exact .inl rfl
    | some k => exact .inr fun e => h.dis k e.symm h4
  · rcases hg.at_ with e | e
    · exact h.dis k (e ▸ hk)
    · intro h4
      have := e k hk
      have := (h.o4.1.lt k h4).2
      omega
theorem TR.swap (h : TR w W v3 v4 l3 l4) : TR w W v4 v3 l4 l3 := ⟨h.o4, h.o3, fun k hk e => h.dis k e hk, h.bel⟩
theorem TR.app4 (h : TR w W v3 v4 l3 l4) {v : Value} {l : List UInt8} (ho : OwnB V w.heap.size v l) (hg : Grew W v4 V v) : TR w V v3 v l3 l := (h.swap.app3 ho hg).swap
end
def prevB (l : List UInt8) : Nat → Bool
  | 0 => true
  | j + 1 => match l[j]? with
    | some c => c.toNat == 32
    | none => false
def CSL (w : World) (l : List UInt8) (v3 v4 v5 v6 : Value) (wr : World) : Prop := ∃ (i words : Nat) (A3 A4 : Option Addr) (c3 c4 : Nat), v3 = .slice A3 i c3 ∧ v4 = .slice A4 i c4 ∧ v5 = .int .i64 (words : Int) ∧ v6 = .int .i64 (i : Int) ∧ i ≤ l.length ∧ words ≤ i ∧
  TR w wr (.slice A3 i c3) (.slice A4 i c4) (l.take i) ((l.take i).map up1) ∧ words + cntC (prevB l i) (l.drop i) = cntC true l ∧ (okCs (prevB l i) (l.drop i) → okCs true l)
theorem CSL.next {w W : World} {l : List UInt8} {i words d : Nat} {c : UInt8} {v3 v4 v5 v6 : Value} (hc : l[i]? = some c) (hw : words ≤ i) (hcnt : words + cntC (prevB l i) (l.drop i) = cntC true l) (hok : okCs (prevB l i) (l.drop i) → okCs true l)
    (hcc : c.toNat = 32 ∨ (c.toNat = 95 ∧ prevB l i = false) ∨ (97 ≤ c.toNat ∧ c.toNat ≤ 122)) (hd : d = if c.toNat ≠ 32 ∧ prevB l i = true then 1 else 0)
    (h : TR w W v3 v4 (l.take i ++ [c]) ((l.take i).map up1 ++ [up1 c])) (h5 : v5 = .int .i64 ((words + d : Nat) : Int)) (h6 : v6 = .int .i64 ((i + 1 : Nat) : Int)) : CSL w l v3 v4 v5 v6 W := by
  obtain ⟨hi, hce⟩ := List.getElem?_eq_some_iff.1 hc
  have htk : l.take (i + 1) = l.take i ++ [c] := by rw [List.take_succ_eq_append_getElem hi, hce]
  have hdr : l.drop i = c :: l.drop (i + 1) := by rw [List.drop_eq_getElem_cons hi, hce]
  have hp : prevB l (i + 1) = (c.toNat == 32) := by show (match l[i]? with | some c => c.toNat == 32 | none => false) = _; rw [hc]
  obtain ⟨A3, c3, e3, _⟩ := h.o3.2
  obtain ⟨A4, c4, e4, _⟩ := h.o4.2
  have hl3 : (l.take i ++ [c]).length = i + 1 := by rw [← htk, List.length_take]; omega
  have hl4 : ((l.take i).map up1 ++ [up1 c]).length = i + 1 := by simp; omega
  rw [hl3] at e3
  rw [hl4] at e4
  subst e3 e4
  refine ⟨i + 1, words + d, A3, A4, c3, c4, rfl, rfl, h5, h6, hi, ?_, ?_, ?_, ?_⟩
  · rw [hd]; split <;> omega
  · rw [htk, List.map_append]
    exact h
  · rw [← hcnt, hdr, hp]
    show words + d + cntC (c.toNat == 32) (l.drop (i + 1)) = words + ((if c.toNat ≠ 32 ∧ prevB l i = true then 1 else 0) + cntC (c.toNat == 32) (l.drop (i + 1)))
    rw [hd]; omega
  · intro ho
    rw [hp] at ho
    refine hok ?_
    rw [hdr]
    exact ⟨hcc, ho⟩
def CSW (w6 : World) (n : Nat) (v : Value) (wr : World) : Prop := ∃ k : Nat, v = .int .i64 (k : Int) ∧ k ≤ n ∧ Below w6.heap.size w6 wr
theorem cases_long (s : ByteArray) (hb : 400 < s.size) (w : World) (hE : Env w) : Calls Tryd.prog 6 #[.string s] w (Ans (.bool true) w) := by
  have HAL := Lib.hid (alive16_any w hE)
  have hbi : (400 : Int) < (s.size : Int) := by omega
  clear hE hb
  go_enter Tryd.func6, Tryd.ntmps6
  go_wp2_with (go_at_call 8; refine HAL.out.mono ?_; rintro e w3 ⟨rfl, hb⟩; have HB := Lib.hid hb; clear hb)
  go_ret
  exact ⟨rfl, HB.out⟩
set_option maxRecDepth 100000 in
set_option maxHeartbeats 16000000 in
theorem cases_short (s : ByteArray) (hb : s.size ≤ 400) (w : World) (hE : Env w) : Calls Tryd.prog 6 #[.string s] w (Ans (.bool true) w) := by
  obtain ⟨i0, hif, hz0, hz1, hz2⟩ := info_parts info8
  have HE := Lib.hid hE
  have HAL := Lib.hid (fun W (h : Env W) => alive16_any W h)
  obtain ⟨l, hl⟩ : ∃ l, l = s.data.toList := ⟨_, rfl⟩
  have HAT : Hid (∀ (k : Nat) (hk : k < s.size), l[k]? = some (s[k]'hk)) := Lib.hid fun k hk => by rw [hl]; exact byte_at s k hk
  have hsl := size_list' s
  rw [← hl] at hsl
  have HSL := Lib.hid hsl
  have HS4 := Lib.hid hb
  have hsi : (s.size : Int) ≤ 400 := by omega
  have hbi : ¬ (400 : Int) < (s.size : Int) := by omega
  have HST : Hid (CSL w l (.slice none 0 0) (.slice none 0 0) (.int .i64 0) (.int .i64 0) w) := Lib.hid ⟨0, 0, none, none, 0, 0, rfl, rfl, rfl, rfl, Nat.zero_le _, Nat.le_refl _, ⟨OwnB.nil _ _, OwnB.nil _ _, fun k hk => by simp [Value.ownBlock] at hk, Below.refl _ _⟩, by rw [List.drop_zero, Nat.zero_add]; rfl, fun h => h⟩
  clear hl hsl hb hE
  go_enter Tryd.func6, Tryd.ntmps6
  go_wp2_with fail
  go_loopw [3, 4, 5, 6] (fun v3 v4 v5 v6 wr => CSL w l v3 v4 v5 v6 wr) (fun _ _ _ v6 _ => s.size - (intOf v6).toNat)
  case atStart => exact HST.out
  case round =>
    obtain ⟨i, words, A3, A4, c3, c4, rfl, rfl, rfl, rfl, hi, hw, htr, hcnt, hok⟩ := hrel
    have HTR := Lib.hid htr
    have HCN := Lib.hid hcnt
    have HOK := Lib.hid hok
    have HW := Lib.hid hw
    have HI := Lib.hid hi
    have hwi : (words : Int) ≤ 400 := by have := HSL.out; have := HS4.out; omega
    clear htr hcnt hok hi hw
    by_cases hlt : i < s.size
    · have hlti : (i : Int) < (s.size : Int) := by omega
      have HCI := Lib.hid (HAT.out i hlt)
      obtain ⟨x, hx⟩ : ∃ x : Nat, x = (s[i]'hlt).toNat := ⟨_, rfl⟩
      have HLL : Hid ((l.take i).length = i) := Lib.hid (by rw [List.length_take]; have := HI.out; omega)
      have HM3 : Hid ((l.take i).length + [s[i]'hlt].length ≤ 1000000) := Lib.hid (by rw [HLL.out]; have := HS4.out; simp; omega)
      have HM4 : Hid (((l.take i).map up1).length + [up1 (s[i]'hlt)].length ≤ 1000000) := Lib.hid (by rw [List.length_map, HLL.out]; have := HS4.out; simp; omega)
      have HBZ : Hid (∀ W o v3 v4 l3 l4, TR w W v3 v4 l3 l4 → w.heap.size ≤ (W.alloc o).heap.size) := Lib.hid fun W o _ _ _ _ h => Nat.le_trans h.bel.size (alloc_below W o).size
      have HF3 : Hid (∀ W v l4 v4, TR w W v v4 (l.take i ++ [s[i]'hlt]) l4 → ∃ A cap, v = .slice A (i + 1) cap) := Lib.hid fun W v l4 v4 h => by
        obtain ⟨A, cap, e, _⟩ := h.o3.2
        rw [show (l.take i ++ [s[i]'hlt]).length = i + 1 from by rw [List.length_append, HLL.out]; rfl] at e
        exact ⟨A, cap, e⟩
      have HF4 : Hid (∀ W v l3 v3, TR w W v3 v l3 ((l.take i).map up1 ++ [up1 (s[i]'hlt)]) → ∃ A cap, v = .slice A (i + 1) cap) := Lib.hid fun W v l3 v3 h => by
        obtain ⟨A, cap, e, _⟩ := h.o4.2
        rw [show ((l.take i).map up1 ++ [up1 (s[i]'hlt)]).length = i + 1 from by rw [List.length_append, List.length_map, HLL.out]; rfl] at e
        exact ⟨A, cap, e⟩
      by_cases hgood : x = 32 ∨ x = 95 ∨ (97 ≤ x ∧ x ≤ 122)
      · have HNX := Lib.hid (fun (d : Nat) (v3 v4 v5 v6 : Value) (W : World) (hcc : x = 32 ∨ (x = 95 ∧ prevB l i = false) ∨ (97 ≤ x ∧ x ≤ 122)) (hd : d = if x ≠ 32 ∧ prevB l i = true then 1 else 0) (h : TR w W v3 v4 (l.take i ++ [s[i]'hlt]) ((l.take i).map up1 ++ [up1 (s[i]'hlt)])) (h5 : v5 = .int .i64 ((words + d : Nat) : Int)) (h6 : v6 = .int .i64 ((i + 1 : Nat) : Int)) => CSL.next (d := d) (v5 := v5) (v6 := v6) HCI.out HW.out HCN.out HOK.out (by rw [← hx]; exact hcc) (by rw [← hx]; exact hd) h h5 h6)
        rcases hgood with h32 | h95 | hlet
        · have hxi : ((s[i]'hlt).toNat : Int) = 32 := by omega
          have hup : Hid (((up1 (s[i]'hlt)).toNat : Int) = 32) := Lib.hid (by unfold up1; rw [if_neg (by omega)]; omega)
          have HN : Hid (∀ v3 v4 v5 v6 W, TR w W v3 v4 (l.take i ++ [s[i]'hlt]) ((l.take i).map up1 ++ [up1 (s[i]'hlt)]) → v5 = .int .i64 (words : Int) → v6 = .int .i64 ((i + 1 : Nat) : Int) → CSL w l v3 v4 v5 v6 W) := Lib.hid fun v3 v4 v5 v6 W h h5 h6 => HNX.out 0 v3 v4 v5 v6 W (.inl h32) (by rw [if_neg (by simp [h32])]) h h5 h6
          clear hx h32
          go_wp2_with (first
            | (at_builtin
               refine wpList_appB (xs := (l.take i).map up1) (ys := [up1 (s[i]'hlt)]) (B := w.heap.size) rfl _ _ 37 rfl Tryd.underlying37 hif hz0 hz1 hz2 rfl (HT6.out.next (alloc_below _ _)).o4 rfl rfl (rd_one _ _ (up1 (s[i]'hlt)) hup.out.symm) HM4.out (HBZ.out _ _ _ _ _ _ HT6.out) ?_
               intro v8 w8 ho8 hg8
               have hT8 := (HT6.out.next (alloc_below _ _)).app4 ho8 hg8
               obtain ⟨A8, c8, rfl⟩ := HF4.out _ _ _ _ hT8
               have HT8 := Lib.hid hT8
               clear ho8 hg8 hT8)
            | (at_builtin
               refine wpList_appB (xs := l.take i) (ys := [s[i]'hlt]) (B := w.heap.size) rfl _ _ 37 rfl Tryd.underlying37 hif hz0 hz1 hz2 rfl (HTR.out.next (alloc_below _ _)).o3 rfl rfl (rd_one _ _ (s[i]'hlt) (by exact hxi.symm)) HM3.out (HBZ.out _ _ _ _ _ _ HTR.out) ?_
               intro v6 w6 ho6 hg6
               have hT6 := (HTR.out.next (alloc_below _ _)).app3 ho6 hg6
               obtain ⟨A6, c6, rfl⟩ := HF3.out _ _ _ _ hT6
               have HT6 := Lib.hid hT6
               clear ho6 hg6 hT6))
          go_roundw
          case rel => first | exact HN.out _ _ _ _ _ HT8.out rfl (by go_num) | ((repeat apply Exists.intro); exact ⟨HN.out _ _ _ _ _ HT8.out rfl (by go_num), rfl⟩)
          case measure => simp [intOf]; omega
        · by_cases hp : prevB l i = true
          · have hxi : ((s[i]'hlt).toNat : Int) = 95 := by omega
            rcases Nat.eq_zero_or_pos i with h0 | h0
            · have hi0 : ((i : Int) == 0) = true := by rw [h0]; rfl
              clear h0 hx h95 hp
              go_wp2_with (go_at_call 8; refine (HAL.out _ (HE.out.below HTR.out.bel)).mono ?_; rintro e w7 ⟨rfl, hb⟩; have HB7 := Lib.hid (HTR.out.bel.trans (hb.mono HTR.out.bel.size)); clear hb)
              go_ret
              exact ⟨rfl, HB7.out⟩
            · have hj : i - 1 < s.size := by omega
              have hpv : (((s[i - 1]'hj).toNat : Int) == 32) = true := by
                obtain ⟨j, rfl⟩ : ∃ j, i = j + 1 := ⟨i - 1, by omega⟩
                have h1 := HAT.out j (by omega)
                have hq : prevB l (j + 1) = ((s[j]'(by omega)).toNat == 32) := by show (match l[j]? with | some c => c.toNat == 32 | none => false) = _; rw [h1]
                rw [hq] at hp
                have h2 : (s[j]'(by omega)).toNat = 32 := by simpa using hp
                show (((s[j]'(by omega)).toNat : Int) == 32) = true
                rw [h2]; rfl
              have hi0 : ((i : Int) == 0) = false := beq_false_of_ne (by omega)
              have hi1 : (1 : Int) ≤ (i : Int) := by omega
              have hji : (i : Int) - 1 < (s.size : Int) := by omega
              clear hx h95 hp
              go_wp2_with (go_at_call 8; refine (HAL.out _ (HE.out.below HTR.out.bel)).mono ?_; rintro e w7 ⟨rfl, hb⟩; have HB7 := Lib.hid (HTR.out.bel.trans (hb.mono HTR.out.bel.size)); clear hb)
              go_ret
              exact ⟨rfl, HB7.out⟩
          · have hp' : prevB l i = false := by simpa using hp
            have hxi : ((s[i]'hlt).toNat : Int) = 95 := by omega
            have hup : Hid (((up1 (s[i]'hlt)).toNat : Int) = 95) := Lib.hid (by unfold up1; rw [if_neg (by omega)]; omega)
            have HN : Hid (∀ v3 v4 v5 v6 W, TR w W v3 v4 (l.take i ++ [s[i]'hlt]) ((l.take i).map up1 ++ [up1 (s[i]'hlt)]) → v5 = .int .i64 (words : Int) → v6 = .int .i64 ((i + 1 : Nat) : Int) → CSL w l v3 v4 v5 v6 W) := Lib.hid fun v3 v4 v5 v6 W h h5 h6 => HNX.out 0 v3 v4 v5 v6 W (.inr (.inl ⟨h95, hp'⟩)) (by rw [if_neg (by simp [hp'])]) h h5 h6
            have h0 : 0 < i := by
              rcases Nat.eq_zero_or_pos i with h0 | h0
              · subst h0; exact absurd rfl hp
              · exact h0
            have hj : i - 1 < s.size := by omega
            have hpv : (((s[i - 1]'hj).toNat : Int) == 32) = false := by
              obtain ⟨j, rfl⟩ : ∃ j, i = j + 1 := ⟨i - 1, by omega⟩
              have h1 := HAT.out j (by omega)
              have hq : prevB l (j + 1) = ((s[j]'(by omega)).toNat == 32) := by show (match l[j]? with | some c => c.toNat == 32 | none => false) = _; rw [h1]
              rw [hq] at hp'
              have h2 : (s[j]'(by omega)).toNat ≠ 32 := by simpa using hp'
              exact beq_false_of_ne (by show ((s[j]'(by omega)).toNat : Int) ≠ 32; omega)
            have hi0 : ((i : Int) == 0) = false := beq_false_of_ne (by omega)
            have hi1 : (1 : Int) ≤ (i : Int) := by omega
            have hji : (i : Int) - 1 < (s.size : Int) := by omega
            clear hx h95 hp hp'
            go_wp2_with (first
              | (at_builtin
                 refine wpList_appB (xs := (l.take i).map up1) (ys := [up1 (s[i]'hlt)]) (B := w.heap.size) rfl _ _ 37 rfl Tryd.underlying37 hif hz0 hz1 hz2 rfl (HT6.out.next (alloc_below _ _)).o4 rfl rfl (rd_one _ _ (up1 (s[i]'hlt)) hup.out.symm) HM4.out (HBZ.out _ _ _ _ _ _ HT6.out) ?_
                 intro v8 w8 ho8 hg8
                 have hT8 := (HT6.out.next (alloc_below _ _)).app4 ho8 hg8
                 obtain ⟨A8, c8, rfl⟩ := HF4.out _ _ _ _ hT8
                 have HT8 := Lib.hid hT8
                 clear ho8 hg8 hT8)
              | (at_builtin
                 refine wpList_appB (xs := l.take i) (ys := [s[i]'hlt]) (B := w.heap.size) rfl _ _ 37 rfl Tryd.underlying37 hif hz0 hz1 hz2 rfl (HTR.out.next (alloc_below _ _)).o3 rfl rfl (rd_one _ _ (s[i]'hlt) (by exact hxi.symm)) HM3.out (HBZ.out _ _ _ _ _ _ HTR.out) ?_
                 intro v6 w6 ho6 hg6
                 have hT6 := (HTR.out.next (alloc_below _ _)).app3 ho6 hg6
                 obtain ⟨A6, c6, rfl⟩ := HF3.out _ _ _ _ hT6
                 have HT6 := Lib.hid hT6
                 clear ho6 hg6 hT6))
            go_roundw
            case rel => first | exact HN.out _ _ _ _ _ HT8.out rfl (by go_num) | ((repeat apply Exists.intro); exact ⟨HN.out _ _ _ _ _ HT8.out rfl (by go_num), rfl⟩)
            case measure => simp [intOf]; omega
        · have g32 : (((s[i]'hlt).toNat : Int) == 32) = false := beq_false_of_ne (by omega)
          have g32n : (((s[i]'hlt).toNat : Int) != 32) = true := by simp [bne, g32]
          have g95 : (((s[i]'hlt).toNat : Int) == 95) = false := beq_false_of_ne (by omega)
          have g95n : (((s[i]'hlt).toNat : Int) != 95) = true := by simp [bne, g95]
          have g97 : (97 : Int) ≤ ((s[i]'hlt).toNat : Int) := by omega
          have g97n : ¬ ((s[i]'hlt).toNat : Int) < 97 := by omega
          have g122 : ((s[i]'hlt).toNat : Int) ≤ 122 := by omega
          have g122n : ¬ (122 : Int) < ((s[i]'hlt).toNat : Int) := by omega
          obtain ⟨y, hy⟩ : ∃ y : Nat, y = (up1 (s[i]'hlt)).toNat := ⟨_, rfl⟩
          have hyx : (y : Int) = (x : Int) - 32 := by
            rw [hy]
            unfold up1
            rw [if_pos (by omega), UInt8.toNat_sub_of_le _ _ (UInt8.le_iff_toNat_le.2 (by show 32 ≤ (s[i]'hlt).toNat; omega))]
            show (((s[i]'hlt).toNat - 32 : Nat) : Int) = _
            omega
          have hsub : ((s[i]'hlt).toNat : Int) - 32 = (y : Int) := by omega
          have hsubw : IntKind.u8.wrap (((s[i]'hlt).toNat : Int) - 32) = (y : Int) := by rw [IntKind.wrap_u8]; omega
          have hup : Hid (((up1 (s[i]'hlt)).toNat : Int) = (y : Int)) := Lib.hid (by rw [hy])
          by_cases hp : prevB l i = true
          · have HN : Hid (∀ v3 v4 v5 v6 W, TR w W v3 v4 (l.take i ++ [s[i]'hlt]) ((l.take i).map up1 ++ [up1 (s[i]'hlt)]) → v5 = .int .i64 ((words + 1 : Nat) : Int) → v6 = .int .i64 ((i + 1 : Nat) : Int) → CSL w l v3 v4 v5 v6 W) := Lib.hid fun v3 v4 v5 v6 W h h5 h6 => HNX.out 1 v3 v4 v5 v6 W (.inr (.inr hlet)) (by rw [if_pos ⟨by omega, hp⟩]) h h5 h6
            rcases Nat.eq_zero_or_pos i with h0 | h0
            · have hi0 : ((i : Int) == 0) = true := by rw [h0]; rfl
              clear h0 hx hlet hp hy hyx
              go_wp2_with (first
                | (at_builtin
                   refine wpList_appB (xs := (l.take i).map up1) (ys := [up1 (s[i]'hlt)]) (B := w.heap.size) rfl _ _ 37 rfl Tryd.underlying37 hif hz0 hz1 hz2 rfl (HT6.out.next (alloc_below _ _)).o4 rfl rfl (rd_one _ _ (up1 (s[i]'hlt)) hup.out.symm) HM4.out (HBZ.out _ _ _ _ _ _ HT6.out) ?_
                   intro v8 w8 ho8 hg8
                   have hT8 := (HT6.out.next (alloc_below _ _)).app4 ho8 hg8
                   obtain ⟨A8, c8, rfl⟩ := HF4.out _ _ _ _ hT8
                   have HT8 := Lib.hid hT8
                   clear ho8 hg8 hT8)
                | (at_builtin
                   refine wpList_appB (xs := l.take i) (ys := [s[i]'hlt]) (B := w.heap.size) rfl _ _ 37 rfl Tryd.underlying37 hif hz0 hz1 hz2 rfl (HTR.out.next (alloc_below _ _)).o3 rfl rfl (rd_one _ _ (s[i]'hlt) (by rfl)) HM3.out (HBZ.out _ _ _ _ _ _ HTR.out) ?_
                   intro v6 w6 ho6 hg6
                   have hT6 := (HTR.out.next (alloc_below _ _)).app3 ho6 hg6
                   obtain ⟨A6, c6, rfl⟩ := HF3.out _ _ _ _ hT6
                   have HT6 := Lib.hid hT6
                   clear ho6 hg6 hT6))
              go_roundw
              case rel => first | exact HN.out _ _ _ _ _ HT8.out (by go_num) (by go_num) | ((repeat apply Exists.intro); exact ⟨HN.out _ _ _ _ _ HT8.out (by go_num) (by go_num), rfl⟩)
              case measure => simp [intOf]; omega
            · have hj : i - 1 < s.size := by omega
              have hpv : (((s[i - 1]'hj).toNat : Int) == 32) = true := by
                obtain ⟨j, rfl⟩ : ∃ j, i = j + 1 := ⟨i - 1, by omega⟩
                have h1 := HAT.out j (by omega)
                have hq : prevB l (j + 1) = ((s[j]'(by omega)).toNat == 32) := by show (match l[j]? with | some c => c.toNat == 32 | none => false) = _; rw [h1]
                rw [hq] at hp
                have h2 : (s[j]'(by omega)).toNat = 32 := by simpa using hp
                show (((s[j]'(by omega)).toNat : Int) == 32) = true
                rw [h2]; rfl
              have hi0 : ((i : Int) == 0) = false := beq_false_of_ne (by omega)
              have hi1 : (1 : Int) ≤ (i : Int) := by omega
              have hji : (i : Int) - 1 < (s.size : Int) := by omega
              clear hx hlet hp hy hyx
              go_wp2_with (first
                | (at_builtin
                   refine wpList_appB (xs := (l.take i).map up1) (ys := [up1 (s[i]'hlt)]) (B := w.heap.size) rfl _ _ 37 rfl Tryd.underlying37 hif hz0 hz1 hz2 rfl (HT6.out.next (alloc_below _ _)).o4 rfl rfl (rd_one _ _ (up1 (s[i]'hlt)) hup.out.symm) HM4.out (HBZ.out _ _ _ _ _ _ HT6.out) ?_
                   intro v8 w8 ho8 hg8
                   have hT8 := (HT6.out.next (alloc_below _ _)).app4 ho8 hg8
                   obtain ⟨A8, c8, rfl⟩ := HF4.out _ _ _ _ hT8
                   have HT8 := Lib.hid hT8
                   clear ho8 hg8 hT8)
                | (at_builtin
                   refine wpList_appB (xs := l.take i) (ys := [s[i]'hlt]) (B := w.heap.size) rfl _ _ 37 rfl Tryd.underlying37 hif hz0 hz1 hz2 rfl (HTR.out.next (alloc_below _ _)).o3 rfl rfl (rd_one _ _ (s[i]'hlt) (by rfl)) HM3.out (HBZ.out _ _ _ _ _ _ HTR.out) ?_
                   intro v6 w6 ho6 hg6
                   have hT6 := (HTR.out.next (alloc_below _ _)).app3 ho6 hg6
                   obtain ⟨A6, c6, rfl⟩ := HF3.out _ _ _ _ hT6
                   have HT6 := Lib.hid hT6
                   clear ho6 hg6 hT6))
              go_roundw
              case rel => first | exact HN.out _ _ _ _ _ HT8.out (by go_num) (by go_num) | ((repeat apply Exists.intro); exact ⟨HN.out _ _ _ _ _ HT8.out (by go_num) (by go_num), rfl⟩)
              case measure => simp [intOf]; omega
          · have hp' : prevB l i = false := by simpa using hp
            have HN : Hid (∀ v3 v4 v5 v6 W, TR w W v3 v4 (l.take i ++ [s[i]'hlt]) ((l.take i).map up1 ++ [up1 (s[i]'hlt)]) → v5 = .int .i64 (words : Int) → v6 = .int .i64 ((i + 1 : Nat) : Int) → CSL w l v3 v4 v5 v6 W) := Lib.hid fun v3 v4 v5 v6 W h h5 h6 => HNX.out 0 v3 v4 v5 v6 W (.inr (.inr hlet)) (by rw [if_neg (by simp [hp'])]) h h5 h6
            have h0 : 0 < i := by
              rcases Nat.eq_zero_or_pos i with h0 | h0
              · subst h0; exact absurd rfl hp
              · exact h0
            have hj : i - 1 < s.size := by omega
            have hpv : (((s[i - 1]'hj).toNat : Int) == 32) = false := by
              obtain ⟨j, rfl⟩ : ∃ j, i = j + 1 := ⟨i - 1, by omega⟩
              have h1 := HAT.out j (by omega)
              have hq : prevB l (j + 1) = ((s[j]'(by omega)).toNat == 32) := by show (match l[j]? with | some c => c.toNat == 32 | none => false) = _; rw [h1]
              rw [hq] at hp'
              have h2 : (s[j]'(by omega)).toNat ≠ 32 := by simpa using hp'
              exact beq_false_of_ne (by show ((s[j]'(by omega)).toNat : Int) ≠ 32; omega)
            have hi0 : ((i : Int) == 0) = false := beq_false_of_ne (by omega)
            have hi1 : (1 : Int) ≤ (i : Int) := by omega
            have hji : (i : Int) - 1 < (s.size : Int) := by omega
            clear hx hlet hp hp' hy hyx
            go_wp2_with (first
              | (at_builtin
                 refine wpList_appB (xs := (l.take i).map up1) (ys := [up1 (s[i]'hlt)]) (B := w.heap.size) rfl _ _ 37 rfl Tryd.underlying37 hif hz0 hz1 hz2 rfl (HT6.out.next (alloc_below _ _)).o4 rfl rfl (rd_one _ _ (up1 (s[i]'hlt)) hup.out.symm) HM4.out (HBZ.out _ _ _ _ _ _ HT6.out) ?_
                 intro v8 w8 ho8 hg8
                 have hT8 := (HT6.out.next (alloc_below _ _)).app4 ho8 hg8
                 obtain ⟨A8, c8, rfl⟩ := HF4.out _ _ _ _ hT8
                 have HT8 := Lib.hid hT8
                 clear ho8 hg8 hT8)
              | (at_builtin
                 refine wpList_appB (xs := l.take i) (ys := [s[i]'hlt]) (B := w.heap.size) rfl _ _ 37 rfl Tryd.underlying37 hif hz0 hz1 hz2 rfl (HTR.out.next (alloc_below _ _)).o3 rfl rfl (rd_one _ _ (s[i]'hlt) (by rfl)) HM3.out (HBZ.out _ _ _ _ _ _ HTR.out) ?_
                 intro v6 w6 ho6 hg6
                 have hT6 := (HTR.out.next (alloc_below _ _)).app3 ho6 hg6
                 obtain ⟨A6, c6, rfl⟩ := HF3.out _ _ _ _ hT6
                 have HT6 := Lib.hid hT6
                 clear ho6 hg6 hT6))
            go_roundw
            case rel => first | exact HN.out _ _ _ _ _ HT8.out rfl (by go_num) | ((repeat apply Exists.intro); exact ⟨HN.out _ _ _ _ _ HT8.out rfl (by go_num), rfl⟩)
            case measure => simp [intOf]; omega
      · have g32 : (((s[i]'hlt).toNat : Int) == 32) = false := beq_false_of_ne (by omega)
        have g32n : (((s[i]'hlt).toNat : Int) != 32) = true := by simp [bne, g32]
        have g95 : (((s[i]'hlt).toNat : Int) == 95) = false := beq_false_of_ne (by omega)
        have g95n : (((s[i]'hlt).toNat : Int) != 95) = true := by simp [bne, g95]
        by_cases h97 : x < 97
        · have g97 : ((s[i]'hlt).toNat : Int) < 97 := by omega
          clear hx hgood h97
          go_wp2_with (go_at_call 8; refine (HAL.out _ (HE.out.below HTR.out.bel)).mono ?_; rintro e w7 ⟨rfl, hb⟩; have HB7 := Lib.hid (HTR.out.bel.trans (hb.mono HTR.out.bel.size)); clear hb)
          go_ret
          exact ⟨rfl, HB7.out⟩
        · have g97 : ¬ ((s[i]'hlt).toNat : Int) < 97 := by omega
          have g122 : (122 : Int) < ((s[i]'hlt).toNat : Int) := by omega
          clear hx hgood h97
          go_wp2_with (go_at_call 8; refine (HAL.out _ (HE.out.below HTR.out.bel)).mono ?_; rintro e w7 ⟨rfl, hb⟩; have HB7 := Lib.hid (HTR.out.bel.trans (hb.mono HTR.out.bel.size)); clear hb)
          go_ret
          exact ⟨rfl, HB7.out⟩
    · obtain rfl : i = s.size := by have := HSL.out; have := HI.out; omega
      have hdn : l.drop s.size = [] := List.drop_eq_nil_of_le (by rw [HSL.out]; exact Nat.le_refl _)
      have htn : l.take s.size = l := List.take_of_length_le (by rw [HSL.out]; exact Nat.le_refl _)
      have hokl : okCs true l := HOK.out (by rw [hdn]; trivial)
      have hcl : words = cntC true l := by have := HCN.out; rw [hdn] at this; exact this
      obtain ⟨ts, h1, h2, h3⟩ := LexL_cases (by rw [HSL.out]; exact HS4.out) hokl
      rw [← hcl] at h3
      have HT := HTR.out
      rw [htn] at HT
      obtain ⟨S3, hS3⟩ : ∃ S : ByteArray, S = ⟨l.toArray⟩ := ⟨_, rfl⟩
      obtain ⟨S4, hS4⟩ : ∃ S : ByteArray, S = ⟨(l.map up1).toArray⟩ := ⟨_, rfl⟩
      have hcv3 : (convert 37 9 (.slice A3 s.size c3)).run Tryd.prog wr = .ok (.string S3) wr := by rw [hS3]; exact conv_back HT.o3.1
      have HCV4 : Hid (∀ W, Below wr.heap.size wr W → (convert 37 9 (.slice A4 s.size c4)).run Tryd.prog W = .ok (.string S4) W) := Lib.hid fun W hW => by rw [hS4]; exact conv_back (HT.o4.below hW).1
      have HA := Lib.hid (fun W (hW : Env W) => lex_known (s := S3) (ts := ts) (by rw [hS3]; exact h1) W hW)
      have HB := Lib.hid (fun W (hW : Env W) => lex_known (s := S4) (ts := ts) (by rw [hS4]; exact h2) W hW)
      have HTB := Lib.hid HT.bel
      obtain ⟨nx, hnx⟩ : ∃ nx, nx = ts.length := ⟨_, rfl⟩
      rw [← hnx] at h3 HA HB
      have HNX := Lib.hid hnx
      have e1 : ((nx : Int) == (words : Int) + 1) = true := by rw [h3]; simp
      have e2 : ((nx : Int) != (words : Int) + 1) = false := by rw [h3]; simp
      have hnxi : (nx : Int) ≤ 1000 := by omega
      clear hlt hdn htn hokl hcl h1 h2 h3 HT hS3 hS4 hnx
      go_wp2_with (first
        | (go_at_call 7; (with_reducible refine (HA.out _ (HE.out.below HTB.out)).mono ?_); rintro e w5 ⟨A1, cap1, rfl, hb, hr, _⟩; have hcv4 := HCV4.out _ hb; have HB5 := Lib.hid (HTB.out.trans (hb.mono HTB.out.size)); have HR1 := Lib.hid hr; clear hb hr)
        | (go_at_call 7; (with_reducible refine (HB.out _ (HE.out.below HB5.out)).mono ?_); rintro e w6 ⟨A2, cap2, rfl, hb, hr, _⟩; have HR1b := Lib.hid (HR1.out.below hb (Nat.le_refl _)); have HS1 := Lib.hid hb.size; have HB6 := Lib.hid (HB5.out.trans (hb.mono HB5.out.size)); have HR2 := Lib.hid hr; clear hb hr))
      go_loopw [12] (fun v wr => CSW w6 nx v wr) (fun v _ => nx - (intOf v).toNat)
      case atStart => exact ⟨0, rfl, Nat.zero_le _, Below.refl _ _⟩
      case round =>
        obtain ⟨k, rfl, hk, hbw⟩ := hrel
        have HBW := Lib.hid hbw
        clear hbw
        by_cases hkt : k < nx
        · obtain ⟨t, ht, _⟩ := drop_at (ts := ts) (i := k) (by rw [← HNX.out]; exact hkt)
          obtain ⟨b1, o1, hA1, d0, d1, d2, d3, d4, d5⟩ := (HR1b.out.below HBW.out HS1.out).at_ ht
          obtain ⟨b2, o2, hA2, q0, q1, q2, q3, q4, q5⟩ := (HR2.out.below HBW.out (Nat.le_refl _)).at_ ht
          subst hA1 hA2
          have hkti : (k : Int) < (nx : Int) := by omega
          have hk0 : 0 ≤ (k : Int) := by omega
          have HN : Hid (∀ v j, v = .int .i64 ((k + 1 : Nat) : Int) → CSW w6 nx v (wr.drewN j)) := Lib.hid fun v j hv => ⟨k + 1, hv, hkt, HBW.out.trans ((drewN_below _ j).mono HBW.out.size)⟩
          clear ht hk hkt
          go_wp2_with fail
          go_quiet (fail)
          go_wp2_with fail
          go_roundw
          case rel => first | exact HN.out _ _ (by go_num) | ((repeat apply Exists.intro); exact ⟨HN.out _ _ (by go_num), rfl⟩)
          case measure => simp [intOf]; omega
        · obtain rfl : k = nx := by omega
          clear hkt hk
          have HBA := Lib.hid (HB6.out.trans (HBW.out.mono HB6.out.size))
          go_wp2_with (go_at_call 8; refine (HAL.out _ (HE.out.below HBA.out)).mono ?_; rintro e w7 ⟨rfl, hb⟩; have HB7 := Lib.hid (HBA.out.trans (hb.mono HBA.out.size)); clear hb)
          go_ret
          exact ⟨rfl, HB7.out⟩
theorem cases_law (s : ByteArray) (w : World) (hE : Env w) : Calls Tryd.prog 6 #[.string s] w (Ans (.bool true) w) := by
  by_cases hb : 400 < s.size
  · exact cases_long s hb w hE
  · exact cases_short s (by omega) w hE
end Go.Proofs.YtokkbipdkakenaaDoor

/- LexJoined: the law's own body answers true. -/
import Derived.Test.YtokkbipdkakenaaDoorBP
namespace Go.Proofs.YtokkbipdkakenaaDoor
open Go.RowKit

theorem joined_long1 (a b : ByteArray) (ha : 400 < a.size) (w : World) (hE : Env w) : Calls Tryd.prog 5 #[.string a, .string b] w (Ans (.bool true) w) := by
  have hai : (400 : Int) < (a.size : Int) := by omega
  have HA := Lib.hid (fun W (hW : Env W) => lex_some a W hW)
  have HBB := Lib.hid (fun W (hW : Env W) => lex_some b W hW)
  have HE := Lib.hid hE
  have HAL := Lib.hid (fun W (h : Env W) => alive16_any W h)
  clear hE ha
  go_enter Tryd.func5, Tryd.ntmps5
  go_wp2_with (first
    | (go_at_call 7; (with_reducible refine (HA.out _ HE.out).mono ?_); rintro e w2 ⟨v, u, rfl, hb⟩; have HB := Lib.hid hb; clear hb)
    | (go_at_call 7; (with_reducible refine (HBB.out _ (HE.out.below HB.out)).mono ?_); rintro e w3 ⟨v3, u3, rfl, hb⟩; have HB2 := Lib.hid (HB.out.trans (hb.mono HB.out.size)); clear hb)
    | (go_at_call 8; refine (HAL.out _ (HE.out.below HB2.out)).mono ?_; rintro e w4 ⟨rfl, hb⟩; have HB4 := Lib.hid (HB2.out.trans (hb.mono HB2.out.size)); clear hb))
  go_ret
  exact ⟨rfl, HB4.out⟩
theorem joined_long2 (a b : ByteArray) (ha : a.size ≤ 400) (hb : 400 < b.size) (w : World) (hE : Env w) : Calls Tryd.prog 5 #[.string a, .string b] w (Ans (.bool true) w) := by
  have hai : ¬ (400 : Int) < (a.size : Int) := by omega
  have hbi : (400 : Int) < (b.size : Int) := by omega
  have HA := Lib.hid (fun W (hW : Env W) => lex_some a W hW)
  have HBB := Lib.hid (fun W (hW : Env W) => lex_some b W hW)
  have HE := Lib.hid hE
  have HAL := Lib.hid (fun W (h : Env W) => alive16_any W h)
  clear hE ha hb
  go_enter Tryd.func5, Tryd.ntmps5
  go_wp2_with (first
    | (go_at_call 7; (with_reducible refine (HA.out _ HE.out).mono ?_); rintro e w2 ⟨v, u, rfl, hb⟩; have HB := Lib.hid hb; clear hb)
    | (go_at_call 7; (with_reducible refine (HBB.out _ (HE.out.below HB.out)).mono ?_); rintro e w3 ⟨v3, u3, rfl, hb⟩; have HB2 := Lib.hid (HB.out.trans (hb.mono HB.out.size)); clear hb)
    | (go_at_call 8; refine (HAL.out _ (HE.out.below HB2.out)).mono ?_; rintro e w4 ⟨rfl, hb⟩; have HB4 := Lib.hid (HB2.out.trans (hb.mono HB2.out.size)); clear hb))
  go_ret
  exact ⟨rfl, HB4.out⟩
theorem joined_bad1 (a b : ByteArray) (ha : a.size ≤ 400) (hb : b.size ≤ 400) (h : ¬ ∃ ts, LexL a.data.toList ts) (w : World) (hE : Env w) : Calls Tryd.prog 5 #[.string a, .string b] w (Ans (.bool true) w) := by
  have hai : ¬ (400 : Int) < (a.size : Int) := by omega
  have hbi : ¬ (400 : Int) < (b.size : Int) := by omega
  have HA := Lib.hid (fun W (hW : Env W) => lex_bad h W hW)
  have HBB := Lib.hid (fun W (hW : Env W) => lex_some b W hW)
  have HE := Lib.hid hE
  have HAL := Lib.hid (fun W (h : Env W) => alive16_any W h)
  clear hE ha hb h
  go_enter Tryd.func5, Tryd.ntmps5
  go_wp2_with (first
    | (go_at_call 7; (with_reducible refine (HA.out _ HE.out).mono ?_); rintro e w2 ⟨N, rfl, hb⟩; have HB := Lib.hid hb; clear hb)
    | (go_at_call 7; (with_reducible refine (HBB.out _ (HE.out.below HB.out)).mono ?_); rintro e w3 ⟨v3, u3, rfl, hb⟩; have HB2 := Lib.hid (HB.out.trans (hb.mono HB.out.size)); clear hb)
    | (go_at_call 8; refine (HAL.out _ (HE.out.below HB2.out)).mono ?_; rintro e w4 ⟨rfl, hb⟩; have HB4 := Lib.hid (HB2.out.trans (hb.mono HB2.out.size)); clear hb))
  go_ret
  exact ⟨rfl, HB4.out⟩
theorem joined_bad2 (a b : ByteArray) (ha : a.size ≤ 400) (hb : b.size ≤ 400) (xs : List Tok) (h1 : LexL a.data.toList xs) (h : ¬ ∃ ts, LexL b.data.toList ts) (w : World) (hE : Env w) : Calls Tryd.prog 5 #[.string a, .string b] w (Ans (.bool true) w) := by
  have hai : ¬ (400 : Int) < (a.size : Int) := by omega
  have hbi : ¬ (400 : Int) < (b.size : Int) := by omega
  have HA := Lib.hid (fun W (hW : Env W) => lex_known h1 W hW)
  have HBB := Lib.hid (fun W (hW : Env W) => lex_bad h W hW)
  have HE := Lib.hid hE
  have HAL := Lib.hid (fun W (h : Env W) => alive16_any W h)
  clear hE ha hb h h1
  go_enter Tryd.func5, Tryd.ntmps5
  go_wp2_with (first
    | (go_at_call 7; (with_reducible refine (HA.out _ HE.out).mono ?_); rintro e w2 ⟨A1, cap1, rfl, hb, _, _⟩; have HB := Lib.hid hb; clear hb)
    | (go_at_call 7; (with_reducible refine (HBB.out _ (HE.out.below HB.out)).mono ?_); rintro e w3 ⟨N3, rfl, hb⟩; have HB2 := Lib.hid (HB.out.trans (hb.mono HB.out.size)); clear hb)
    | (go_at_call 8; refine (HAL.out _ (HE.out.below HB2.out)).mono ?_; rintro e w4 ⟨rfl, hb⟩; have HB4 := Lib.hid (HB2.out.trans (hb.mono HB2.out.size)); clear hb))
  go_ret
  exact ⟨rfl, HB4.out⟩
theorem cells_over (w : World) (o : Obj) (b j : Nat) (v : Value) (h : w.cell? ⟨b, j, none⟩ = some v) : (w.alloc o).cell? ⟨b, j, none⟩ = some v := by
  have hlt := World.block_lt_of_cell? _ _ h
  rw [← h]
  exact World.cell?_of_block (a := ⟨b, j, none⟩) ((alloc_below w o).block b hlt)
theorem Pl_at {l : List UInt8} {at_ : Nat} {ts : List Tok} (h : Pl l at_ ts) {p : Nat} {t : Tok} (ht : ts[p]? = some t) : t.a ≤ l.length := by
  induction ts generalizing at_ p with
  | nil => simp at ht
  | cons u ts ih =>
    cases p with
    | zero =>
      simp at ht
      subst ht
      have := h.2.1
      omega
    | succ p => exact ih h.2.2.2.2.2 (by simpa using ht)
def JNL (w3 : World) (n : Nat) (v : Value) (wr : World) : Prop := ∃ k : Nat, v = .int .i64 (k : Int) ∧ k ≤ n ∧ Below w3.heap.size w3 wr
set_option maxRecDepth 100000 in
set_option maxHeartbeats 16000000 in
theorem joined_some (a b : ByteArray) (ha : a.size ≤ 400) (hb : b.size ≤ 400) (xs ys : List Tok) (h1 : LexL a.data.toList xs) (h2 : LexL b.data.toList ys) (w : World) (hE : Env w) : Calls Tryd.prog 5 #[.string a, .string b] w (Ans (.bool true) w) := by
  have HA := Lib.hid (fun W (h : Env W) => lex_known h1 W h)
  have HBB := Lib.hid (fun W (h : Env W) => lex_known h2 W h)
  have HE := Lib.hid hE
  have HAL := Lib.hid (fun W (h : Env W) => alive16_any W h)
  have hai : ¬ (400 : Int) < (a.size : Int) := by omega
  have hbi : ¬ (400 : Int) < (b.size : Int) := by omega
  have hsa := size_list' a
  have hsb := size_list' b
  have h3 := LexL_join h1 h2 (by omega)
  rw [hsa] at h3
  obtain ⟨zs, hz⟩ : ∃ zs, zs = xs.dropLast ++ ys.map (Tok.sh (a.size + 1)) := ⟨_, rfl⟩
  have hJ : ((a ++ (⟨#[32]⟩ : ByteArray)) ++ b).data.toList = a.data.toList ++ 32 :: b.data.toList := by rw [cat_list, cat_list]; simp
  have HC : Hid (∀ W, Env W → Calls Tryd.prog 7 #[.string ((a ++ (⟨#[32]⟩ : ByteArray)) ++ b)] W fun e w' => ∃ A cap, e = .returned (.tuple #[.slice A zs.length cap, .nilIface]) ∧ Below W.heap.size W w' ∧ RdT w' w'.heap.size A zs ∧ zs.length ≤ cap) := Lib.hid fun W hW => lex_known (by rw [hJ, hz]; exact h3) W hW
  have hx0 := h1.2.ne
  have hx1 := h1.2.len
  have hy1 := h2.2.len
  have hxp : 0 < xs.length := List.length_pos_iff.2 hx0
  rw [List.length_drop, hsa] at hx1
  rw [List.length_drop, hsb] at hy1
  have hzl : zs.length = xs.length - 1 + ys.length := by rw [hz]; simp
  have HZ1 : Hid (∀ i t, zs[i]? = some t → i < xs.length - 1 → xs[i]? = some t) := Lib.hid fun i t ht hi => by
    rw [hz, List.getElem?_append_left (by simp; omega), List.getElem?_dropLast, if_pos hi] at ht
    exact ht
  have HZ2 : Hid (∀ i t, zs[i]? = some t → ¬ i < xs.length - 1 → ∃ y p, ys[p]? = some y ∧ i + 1 = xs.length + p ∧ t = y.sh (a.size + 1)) := Lib.hid fun i t ht hi => by
    rw [hz, List.getElem?_append_right (by simp; omega), List.length_dropLast, List.getElem?_map, Option.map_eq_some_iff] at ht
    obtain ⟨y, hy, rfl⟩ := ht
    exact ⟨y, i - (xs.length - 1), hy, by omega, rfl⟩
  obtain ⟨nx, hnx⟩ : ∃ nx, nx = xs.length := ⟨_, rfl⟩
  obtain ⟨ny, hny⟩ : ∃ ny, ny = ys.length := ⟨_, rfl⟩
  obtain ⟨nz, hnz⟩ : ∃ nz, nz = zs.length := ⟨_, rfl⟩
  rw [← hnx] at HA HZ1 HZ2 hzl hx1 hxp
  rw [← hny] at HBB hzl hy1
  rw [← hnz] at HC hzl
  have hnxi : (nx : Int) ≤ 1000 := by omega
  have hnx1 : (1 : Int) ≤ (nx : Int) := by omega
  have hnyi : (ny : Int) ≤ 1000 := by omega
  have hnzi : (nz : Int) ≤ 2000 := by omega
  have hl1 : ((nz : Int) == (nx : Int) - 1 + (ny : Int)) = true := by simp; omega
  have hl2 : ((nz : Int) != (nx : Int) - 1 + (ny : Int)) = false := by simp; omega
  have s1 : ¬ 9223372036854775807 < a.size + 1 := by omega
  have s2 : ¬ 9223372036854775807 < a.size + 1 + b.size := by omega
  have has : (a.size : Int) ≤ 400 := by omega
  have HYA : Hid (∀ (p : Nat) (y : Tok), ys[p]? = some y → (y.a : Int) ≤ 1000) := Lib.hid fun p y hy => by
    have := Pl_at (Pl_lex h2) hy
    rw [hsb] at this; omega
  have HNZ := Lib.hid hnz
  have HNY := Lib.hid hny
  clear h1 h2 h3 hJ hx0 hx1 hy1 hsa hsb ha hb hz hzl hnx hny hnz hE hxp
  go_enter Tryd.func5, Tryd.ntmps5
  go_wp2_with (first
    | (go_at_call 7; (with_reducible refine (HA.out _ HE.out).mono ?_); rintro e w2 ⟨A1, cap1, rfl, hb, hr, _⟩; have HB := Lib.hid hb; have HR1 := Lib.hid hr; clear hb hr)
    | (go_at_call 7; (with_reducible refine (HBB.out _ (HE.out.below HB.out)).mono ?_); rintro e w3 ⟨A2, cap2, rfl, hb, hr, _⟩; have HR1b := Lib.hid (HR1.out.below hb (Nat.le_refl _)); have HS1 := Lib.hid hb.size; have HB2 := Lib.hid (HB.out.trans (hb.mono HB.out.size)); have HR2 := Lib.hid hr; clear hb hr)
    | (go_at_call 7; refine (HC.out _ (HE.out.below HB2.out)).mono ?_; rintro e w4 ⟨A3, cap3, rfl, hb, hr, _⟩; have HR1c := Lib.hid (HR1b.out.below hb HS1.out); have HR2c := Lib.hid (HR2.out.below hb (Nat.le_refl _)); have HS2 := Lib.hid hb.size; have HB3 := Lib.hid (HB2.out.trans (hb.mono HB2.out.size)); have HR3 := Lib.hid hr; clear hb hr))
  go_loopw [11] (fun v wr => JNL w4 nz v wr) (fun v _ => nz - (intOf v).toNat)
  case atStart => exact ⟨0, rfl, Nat.zero_le _, Below.refl _ _⟩
  case round =>
    obtain ⟨i, rfl, hi, hbw⟩ := hrel
    have HBW := Lib.hid hbw
    clear hbw
    by_cases hlt : i < nz
    · have hlti : (i : Int) < (nz : Int) := by omega
      have hi0 : 0 ≤ (i : Int) := by omega
      obtain ⟨t, ht, _⟩ := drop_at (ts := zs) (i := i) (by rw [← HNZ.out]; exact hlt)
      obtain ⟨b3, o3, hA3, d0, d1, d2, d3, d4, d5⟩ := (HR3.out.below HBW.out (Nat.le_refl _)).at_ ht
      subst hA3
      have HN : Hid (∀ v W, Below wr.heap.size wr W → v = .int .i64 ((i + 1 : Nat) : Int) → JNL w4 nz v W) := Lib.hid fun v W hW hv => ⟨i + 1, hv, hlt, HBW.out.trans (hW.mono HBW.out.size)⟩
      by_cases hx : i < nx - 1
      · have hxi : (i : Int) < (nx : Int) - 1 := by omega
        obtain ⟨b1, o1, hA1, c0, c1, c2, c3, c4, c5⟩ := (HR1c.out.below HBW.out (Nat.le_trans HS1.out HS2.out)).at_ (HZ1.out i t ht hx)
        subst hA1
        have hinx : (i : Int) < (nx : Int) := by omega
        have hW0 := Lib.hid (alloc_below wr (.cells #[.int .i64 t.k, .string ⟨t.t.toArray⟩, .int .i64 t.x.1, .int .i64 t.x.2.1, .string ⟨t.x.2.2.toArray⟩, .int .i64 (t.a : Int)] 33))
        have hc := fun j => cells_over wr (.cells #[.int .i64 t.k, .string ⟨t.t.toArray⟩, .int .i64 t.x.1, .int .i64 t.x.2.1, .string ⟨t.x.2.2.toArray⟩, .int .i64 (t.a : Int)] 33) b1 j
        have c0 := hc _ _ c0
        have c1 := hc _ _ c1
        have c2 := hc _ _ c2
        have c3 := hc _ _ c3
        have c4 := hc _ _ c4
        have c5 := hc _ _ c5
        clear ht hx hi hlt hc
        go_wp2_with fail
        go_quiet (fail)
        go_wp2_with fail
        go_roundw
        case rel => first | exact HN.out _ _ ((hW0.out).trans ((drewN_below _ _).mono hW0.out.size)) (by go_num) | ((repeat apply Exists.intro); exact ⟨HN.out _ _ ((hW0.out).trans ((drewN_below _ _).mono hW0.out.size)) (by go_num), rfl⟩)
        case measure => simp [intOf]; omega
      · have hxi : ¬ (i : Int) < (nx : Int) - 1 := by omega
        obtain ⟨y, p, hy, hip, hty⟩ := HZ2.out i t ht hx
        obtain ⟨b2, o2, hA2, c0, c1, c2, c3, c4, c5⟩ := (HR2c.out.below HBW.out HS2.out).at_ hy
        subst hA2
        have hya := HYA.out p y hy
        have hp : (i : Int) - (nx : Int) + 1 = (p : Int) := by omega
        have hpy : (p : Int) < (ny : Int) := by have h1 := (List.getElem?_eq_some_iff.1 hy).1; have h2 := HNY.out; omega
        have hp0 : 0 ≤ (p : Int) := by omega
        subst hty
        have hc := fun j => cells_over wr (.cells #[.int .i64 y.k, .string ⟨y.t.toArray⟩, .int .i64 y.x.1, .int .i64 y.x.2.1, .string ⟨y.x.2.2.toArray⟩, .int .i64 ((y.sh (a.size + 1)).a : Int)] 33) b2 j
        have c0 := hc _ _ c0
        have c1 := hc _ _ c1
        have c2 := hc _ _ c2
        have c3 := hc _ _ c3
        have c4 := hc _ _ c4
        have c5 := hc _ _ c5
        obtain ⟨ta, hta⟩ : ∃ ta : Nat, ta = (y.sh (a.size + 1)).a := ⟨_, rfl⟩
        have hta2 : (y.a : Int) + (a.size : Int) + 1 = (ta : Int) := by rw [hta]; simp [Tok.sh]; omega
        simp only [← hta] at d5 c0 c1 c2 c3 c4 c5
        simp only [Tok.sh] at d0 d1 d2 d3 d4
        clear ht hx hi hlt hc hy hta hip
        go_wp2_with fail
        go_roundw
        case rel => first | exact HN.out _ _ (alloc2_below _ _ _) (by go_num) | ((repeat apply Exists.intro); exact ⟨HN.out _ _ (alloc2_below _ _ _) (by go_num), rfl⟩)
        case measure => simp [intOf]; omega
    · obtain rfl : i = nz := by omega
      clear hi hlt
      have HBA := Lib.hid (HB3.out.trans (HBW.out.mono HB3.out.size))
      go_wp2_with (go_at_call 8; refine (HAL.out _ (HE.out.below HBA.out)).mono ?_; rintro e w5 ⟨rfl, hb⟩; have HB5 := Lib.hid (HBA.out.trans (hb.mono HBA.out.size)); clear hb)
      go_ret
      exact ⟨rfl, HB5.out⟩
theorem joined_law (a b : ByteArray) (w : World) (hE : Env w) : Calls Tryd.prog 5 #[.string a, .string b] w (Ans (.bool true) w) := by
  by_cases ha : 400 < a.size
  · exact joined_long1 a b ha w hE
  · by_cases hb : 400 < b.size
    · exact joined_long2 a b (by omega) hb w hE
    · by_cases h1 : ∃ ts, LexL a.data.toList ts
      · obtain ⟨xs, h1⟩ := h1
        by_cases h2 : ∃ ts, LexL b.data.toList ts
        · obtain ⟨ys, h2⟩ := h2
          exact joined_some a b (by omega) (by omega) xs ys h1 h2 w hE
        · exact joined_bad2 a b (by omega) (by omega) xs h1 h2 w hE
      · exact joined_bad1 a b (by omega) (by omega) h1 w hE
end Go.Proofs.YtokkbipdkakenaaDoor

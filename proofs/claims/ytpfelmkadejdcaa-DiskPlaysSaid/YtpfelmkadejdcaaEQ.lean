/- DiskPlays: the law's own body answers true. -/
import Derived.Test.YtpfelmkadejdcaaEP
import Derived.Test.YtpfelmkadejdcaaDO
import Derived.Deep.CutBlock
namespace Go.Proofs.Ytpfelmkadejdcaa
open Go.RowKit

/-- a disk, and the document's beside it -/
structure PF (w wr : World) (p g b s : Nat) (c : List UInt8) (q gm b2 e2 s2 : Nat) (X : List UInt8) : Prop where
  dk : Dk wr w.heap.size p g b s c
  md : Mk wr w.heap.size q gm b2 e2 s2 X
  sep : q ≠ p ∧ q ≠ g ∧ gm ≠ p ∧ gm ≠ g
  bel : Below w.heap.size w wr
theorem PF.below {w wr w' : World} {p g b s q gm b2 e2 s2 : Nat} {c X : List UInt8} (h : PF w wr p g b s c q gm b2 e2 s2 X) (hb : Below wr.heap.size wr w') : PF w w' p g b s c q gm b2 e2 s2 X :=
  ⟨h.dk.below hb, h.md.below hb, h.sep, belowM h.bel (Nat.le_refl _) hb⟩
theorem PF.only {K : Nat → Prop} {w wr w' : World} {p g b s q gm b2 e2 s2 : Nat} {c X : List UInt8} (h : PF w wr p g b s c q gm b2 e2 s2 X) (hO : Only K wr w') (h1 : ¬ K p) (h2 : ¬ K g) (h3 : ¬ K q) (h4 : ¬ K gm) (hK : ∀ j, K j → w.heap.size ≤ j) : PF w w' p g b s c q gm b2 e2 s2 X :=
  ⟨h.dk.only hO h1 h2, h.md.only hO h3 h4, h.sep, h.bel.trans (hO.below h.bel.size hK)⟩
theorem PF.disk {w wr w' : World} {p g g' b s b' s' q gm b2 e2 s2 : Nat} {c c' X : List UInt8} (h : PF w wr p g b s c q gm b2 e2 s2 X) (hd : Dk w' w.heap.size p g' b' s' c') (hO : Only (fun k => k = p ∨ k = g) wr w') (hg : g' = g ∨ wr.heap.size ≤ g') : PF w w' p g' b' s' c' q gm b2 e2 s2 X := by
  obtain ⟨s1, s2, s3, s4⟩ := h.sep
  have h1 := h.md.lt
  have h2 := h.md.dlt
  refine ⟨hd, h.md.only hO (by rintro (e | e) <;> omega) (by rintro (e | e) <;> omega), ⟨s1, ?_, s3, ?_⟩, onlyPG h.bel (Nat.le_refl _) hO h.dk.ge.1 h.dk.ge.2⟩
  · rcases hg with rfl | hg <;> omega
  · rcases hg with rfl | hg <;> omega
theorem PF.model {w wr w' : World} {p g b s q gm gm' b2 e2 s2 b2' e2' s2' : Nat} {c X X' : List UInt8} (h : PF w wr p g b s c q gm b2 e2 s2 X) (hm : Mk w' w.heap.size q gm' b2' e2' s2' X') (hO : Only (fun k => k = q) wr w') (hg : gm' = gm ∨ gm' = q ∨ wr.heap.size ≤ gm') : PF w w' p g b s c q gm' b2' e2' s2' X' := by
  obtain ⟨s1, s2, s3, s4⟩ := h.sep
  have h1 := h.dk.lt
  have h2 := h.dk.dlt
  refine ⟨h.dk.only hO (fun e => s1 e.symm) (fun e => s2 e.symm), hm, ⟨s1, s2, ?_, ?_⟩, onlyP h.bel (Nat.le_refl _) hO h.md.ge.1⟩
  · rcases hg with rfl | rfl | hg <;> omega
  · rcases hg with rfl | rfl | hg <;> omega
theorem PF.box {w wr w' : World} {p g b s b' s' q gm b2 e2 s2 : Nat} {c c' X : List UInt8} (h : PF w wr p g b s c q gm b2 e2 s2 X) (hd : Dk w' w.heap.size p g b' s' c') (hO : Only (fun k => k = p) wr w') : PF w w' p g b' s' c' q gm b2 e2 s2 X := h.disk hd (hO.more (fun _ _ e => .inl e)) (.inl rfl)
theorem PF.mbox {w wr w' : World} {p g b s q gm b2 e2 s2 b2' e2' s2' : Nat} {c X : List UInt8} (h : PF w wr p g b s c q gm b2 e2 s2 X) (hm : Mk w' w.heap.size q gm b2' e2' s2' X) (hO : Only (fun k => k = q) wr w') : PF w w' p g b s c q gm b2' e2' s2' X := h.model hm hO (.inl rfl)
/-- what both hold, behind so many acts -/
def PFC (w : World) (k : Nat) (v3 v4 : Value) (wx : World) : Prop := ∃ p g b s q gm e X, v3 = .pointer (some ⟨p, 0, none⟩) ∧ v4 = .pointer (some ⟨q, 0, none⟩) ∧ X.length ≤ 300 * k ∧ PF w wx p g b s ((X.take e).drop b) q gm b e s X
/-- at the head of DiskPlays' loop -/
def PFL (w : World) (l : List Act6) (v3 v4 v5 : Value) (wr : World) : Prop := ∃ k : Nat, v5 = .int .i64 (k : Int) ∧ k ≤ l.length ∧ k ≤ 60 ∧ PFC w k v3 v4 wr
/-- behind an act's answers -/
def PFG (w : World) (k : Nat) (v3 v4 v7 : Value) (wx : World) : Prop := v7 = .bool true ∧ PFC w k v3 v4 wx
theorem PF.away {w wr : World} {p g b s q gm b2 e2 s2 n : Nat} {c X : List UInt8} (h : PF w wr p g b s c q gm b2 e2 s2 X) (hn : wr.heap.size ≤ n) : n ≠ p ∧ n ≠ g ∧ n ≠ q ∧ n ≠ gm := by
  have h1 := h.dk.lt
  have h2 := h.dk.dlt
  have h3 := h.md.lt
  have h4 := h.md.dlt
  omega
theorem plays_start {w w1 : World} {p : Nat} (hd : Dk w1 w.heap.size p p 0 0 []) (hb : Below w.heap.size w w1) : PFC w 0 (.pointer (some ⟨p, 0, none⟩)) (.pointer (some ⟨w1.heap.size, 0, none⟩)) (w1.alloc (.cells #[.slice none 0 0, .int .i64 0, .int .i64 0, .int .i64 0] 38)) := by
  have hlt := hd.lt
  exact ⟨p, p, 0, 0, _, _, 0, [], rfl, rfl, Nat.zero_le _, ⟨hd.below (alloc_below _ _), (mk_new w1).more hb.size, by omega, belowM hb (Nat.le_refl _) (alloc_below _ _)⟩⟩
theorem own_only {K : Nat → Prop} {w w' : World} {B n : Nat} {v : Value} {xs : List Value} (h : w.ownsRow B 5 1 v n xs) (hO : Only K w w') (hK : ∀ blk, v.ownBlock = some blk → ¬ K blk) : w'.ownsRow B 5 1 v n xs := by
  refine ⟨h.1, ?_⟩
  rcases h.2 with h1 | ⟨g, cap, cur, rfl, h2, h3, h4⟩
  · exact .inl h1
  · exact .inr ⟨g, cap, cur, rfl, h2, (hO.block g (Array.getElem?_eq_some_iff.1 h3).1 (hK g (by simp [Value.ownBlock]))).trans h3, h4⟩
def u8V (z : Int) : Value := .int .u8 z
/-- at the head of the loop that turns own's bytes -/
def XIN (w wq : World) (p g b s : Nat) (c : List UInt8) (q gm b2 e2 s2 : Nat) (X : List UInt8) (B0 : Nat) (v8 : Value) (n : Nat) (v13 : Value) : Prop :=
  ∃ (kk : Nat) (zs : List Int), v13 = .int .i64 (kk : Int) ∧ kk ≤ n ∧ zs.length = n ∧ wq.ownsRow B0 5 1 v8 n (zs.map fun z => .int .u8 z) ∧ PF w wq p g b s c q gm b2 e2 s2 X
theorem own_step {w wq : World} {p g b s : Nat} {c : List UInt8} {q gm b2 e2 s2 : Nat} {X : List UInt8} {B0 n cap5 kk : Nat} {A5 : Option Addr} {zs : List Int} (h : wq.ownsRow B0 5 1 (.slice A5 n cap5) n (zs.map fun z => .int .u8 z)) (hp : PF w wq p g b s c q gm b2 e2 s2 X)
    (hb : ∀ blk, (Value.slice A5 n cap5).ownBlock = some blk → blk ≠ p ∧ blk ≠ g ∧ blk ≠ q ∧ blk ≠ gm ∧ w.heap.size ≤ blk) (hk : kk < n) (hz : zs.length = n) :
    ∃ gb, A5 = some ⟨gb, 0, none⟩ ∧ (∃ z : Int, wq.cell? ⟨gb, kk, none⟩ = some (.int .u8 z)) ∧ wq.frozen? ⟨gb, kk, none⟩ = false ∧ n ≤ cap5 ∧
      ∀ (z' : Int) (v13 : Value), v13 = .int .i64 ((kk + 1 : Nat) : Int) → XIN w (wq.setCell ⟨gb, kk, none⟩ (.int .u8 z')) p g b s c q gm b2 e2 s2 X B0 (.slice (some ⟨gb, 0, none⟩) n cap5) n v13 := by
  rcases h.2 with ⟨_, h0⟩ | ⟨gb, cap, cur, e, hg, hh, hnc, hmx, hsz, ht⟩
  · omega
  · injection e with e1 e2 e3
    subst e1 e3
    have h1 := hb gb (by simp [Value.ownBlock])
    refine ⟨gb, rfl, ⟨zs[kk]'(by omega), ?_⟩, h.frozenAt kk, hnc, fun z' v13 h13 => ⟨kk + 1, zs.set kk z', h13, by omega, by simp [hz], ?_, ?_⟩⟩
    · rw [h.cellAt kk (by omega)]
      simp [List.getElem?_eq_getElem (show kk < zs.length by omega)]
    · have h2 := (h.stored (g := gb) kk (.int .u8 z')).1
      rw [List.map_set]
      exact h2
    · exact hp.only (K := (· = gb)) (Only.set wq gb kk _) (fun e => h1.1 e.symm) (fun e => h1.2.1 e.symm) (fun e => h1.2.2.1 e.symm) (fun e => h1.2.2.2.1 e.symm) (fun j hj => by rw [hj]; exact h1.2.2.2.2)
set_option maxRecDepth 100000 in
set_option maxHeartbeats 40000000 in
theorem diskPlays_law (l : List Act6) (A : Option Addr) (cap : Nat) (w : World) (hr : RdA w w.heap.size A l) (hok : ∀ x ∈ l, x.ok w w.heap.size) :
    Calls Try.prog 5 #[.slice A l.length cap] w (Ans (.bool true) w) := by
  obtain ⟨i0, hi, hz0, hz1, hz2⟩ := info_parts info8
  have HR := Lib.hid hr
  have HK := Lib.hid hok
  clear hr hok
  go_enter Try.func5, Try.ntmps5
  go_wp2_with (first
    | (go_at_call 23; refine (new_any _).mono ?_; rintro e w1 ⟨p, rfl, hd, hb⟩
       have HS : Hid (PFL w l (.pointer (some ⟨p, 0, none⟩)) (.pointer (some ⟨w1.heap.size, 0, none⟩)) (.int .i64 0) (w1.alloc (.cells #[.slice none 0 0, .int .i64 0, .int .i64 0, .int .i64 0] 38))) := Lib.hid ⟨0, rfl, Nat.zero_le _, Nat.zero_le _, plays_start hd hb⟩
       clear hd hb))
  go_loopw [3, 4, 5] (fun v3 v4 v5 wr => PFL w l v3 v4 v5 wr) (fun _ _ v5 _ => l.length - (intOf v5).toNat)
  case atStart => exact HS.out
  case round =>
    obtain ⟨k, rfl, hk, hk60, p, g, b, s, q, gm, e, X, rfl, rfl, hXl, hpf⟩ := hrel
    have HP := Lib.hid hpf
    clear hpf
    by_cases hlt : k < l.length ∧ k < 60
    · obtain ⟨hlt, hlt60⟩ := hlt
      obtain ⟨x, hx⟩ : ∃ x, l[k]? = some x := ⟨_, List.getElem?_eq_getElem hlt⟩
      obtain ⟨bb, oo, hA, c0, c1, c2, c3⟩ := HR.out.at_ hx HP.out.bel (Nat.le_refl _)
      subst hA
      have hxo := HK.out x (List.mem_of_getElem? hx)
      obtain ⟨xk, xn, xm, xA, xl, xcap⟩ := x
      dsimp only at c0 c1 c2 c3
      have HRX : Hid (∀ w', Below w.heap.size w w' → RdB w' w'.heap.size xA xl) := Lib.hid fun w' h => (hxo.rd.below h (Nat.le_refl _)).more h.size
      have HXI : Hid (i64ok xn ∧ i64ok xm) := Lib.hid ⟨hxo.n, hxo.m⟩
      have hki : (k : Int) < (l.length : Int) := by omega
      have hki60 : (k : Int) < 60 := by omega
      have HKL : Hid (k + 1 ≤ l.length) := Lib.hid hlt
      clear hx hxo
      by_cases hbig : (300 : Int) < (xl.length : Int)
      · have HY : Hid (∀ v5, v5 = .int .i64 ((k + 1 : Nat) : Int) → PFL w l (.pointer (some ⟨p, 0, none⟩)) (.pointer (some ⟨q, 0, none⟩)) v5 (wr.alloc (.cells #[.int .i64 xk, .int .i64 xn, .int .i64 xm, .slice xA xl.length xcap] 40))) := Lib.hid fun v5 h5 => ⟨k + 1, h5, HKL.out, by omega, p, g, b, s, q, gm, e, X, rfl, rfl, by omega, HP.out.below (alloc_below _ _)⟩
        as_aux_lemma =>
          go_wp2_with fail
          go_roundw
          case rel => first | exact HY.out _ (by go_num) | ((repeat apply Exists.intro); exact ⟨HY.out _ (by go_num), rfl⟩)
          case measure => simp [intOf]; omega
      · have hxl : xl.length ≤ 300 := by omega
        have HXI := HXI
        go_upto_block 2 with fail
        have HBX : Hid ((wr.alloc (.cells #[.int .i64 xk, .int .i64 xn, .int .i64 xm, .slice xA xl.length xcap] 40)).heap[wr.heap.size]? = some (.cells #[.int .i64 xk, .int .i64 xn, .int .i64 xm, .slice xA xl.length xcap] 40 (0, 0))) := Lib.hid (heap_alloc_new _ _)
        have HP0 := Lib.hid (HP.out.below (alloc_below wr (.cells #[.int .i64 xk, .int .i64 xn, .int .i64 xm, .slice xA xl.length xcap] 40)))
        have HNB := Lib.hid (And.intro (HP.out.away (Nat.le_refl _)) (show wr.heap.size < (wr.alloc (.cells #[.int .i64 xk, .int .i64 xn, .int .i64 xm, .slice xA xl.length xcap] 40)).heap.size by simp))
        generalize wr.alloc (.cells #[.int .i64 xk, .int .i64 xn, .int .i64 xm, .slice xA xl.length xcap] 40) = W0 at HBX HP0 HNB ⊢
        generalize wr.heap.size = nb at HBX HNB ⊢
        clear c0 c1 c2 c3 HP
        go_cut [3, 4, 7] (fun v3 v4 v7 wx => PFG w (k + 1) v3 v4 v7 wx)
        case first =>
          obtain ⟨y0, y1, y2, y3⟩ := box4 HBX.out
          have HLC : Hid (b + ((X.take e).drop b).length = e) := Lib.hid (by rw [List.length_drop, List.length_take]; have := HP0.out.md.bs; have := HP0.out.md.se; have := HP0.out.md.ex; omega)
          have HBD : Hid (b ≤ s ∧ s ≤ e ∧ e ≤ X.length ∧ X.length ≤ 300 * k ∧ k < 60) := Lib.hid ⟨HP0.out.md.bs, HP0.out.md.se, HP0.out.md.ex, hXl, hlt60⟩
          by_cases hk1 : xk = 1
          · subst hk1
            as_aux_lemma =>
              obtain ⟨X2, hX2⟩ : ∃ X2, X2 = X.take e ++ xl := ⟨_, rfl⟩
              have HX2L : Hid (X2.length = e + xl.length) := Lib.hid (by rw [hX2, List.length_append, List.length_take]; have := HBD.out; omega)
              have HX2D : Hid ((X2.take (e + xl.length)).drop b = (X.take e).drop b ++ xl) := Lib.hid (by
                rw [List.take_of_length_le (by rw [HX2L.out]; exact Nat.le_refl _), hX2]
                exact List.drop_append_of_le_length (by rw [List.length_take]; have := HBD.out; omega))
              have HX2 := Lib.hid hX2
              clear hX2
              have hxli : (xl.length : Int) ≤ 300 := by omega
              obtain ⟨t0, t1, t2, t3⟩ := box4 (((alloc_below W0 (.cells #[] 5)).block nb HNB.out.2).trans HBX.out)
              have HRB : Hid (RdB (W0.alloc (.cells #[] 5)) W0.heap.size xA xl) := Lib.hid ((HRX.out _ HP0.out.bel).below (alloc_below W0 _) (Nat.le_refl _))
              go_wp2_with (first
                  | (at_builtin
                     have h1 := own_empty (Nat.le_refl W0.heap.size) 0
                     refine wpList_appB (xs := []) (ys := xl) (B := W0.heap.size) rfl _ _ 23 rfl Try.underlying23 hi hz0 hz1 hz2 rfl h1 rfl rfl HRB.out (by simp only [List.length_nil]; omega) (by simp) ?_
                     intro v5 w5 ho5 hg5
                     rw [List.nil_append] at ho5
                     have hb5 := grew_below (alloc_below W0 (.cells #[] 5)) h1.ge hg5
                     obtain ⟨_, A5, cap5, hv5, _⟩ := id ho5
                     subst hv5
                     have HP5 := Lib.hid (HP0.out.below hb5)
                     have HO5 := Lib.hid ho5
                     have HR5 := Lib.hid ho5.rd
                     have hbx := (hb5.block nb HNB.out.2).trans HBX.out
                     have HBX5 := Lib.hid hbx
                     have HSZ5 := Lib.hid hb5.size
                     obtain ⟨z0, z1, z2, z3⟩ := box4 hbx
                     clear ho5 hg5 hb5 h1 hbx)
                  | (go_at_call 24; refine (append_at HP5.out.dk HP5.out.bel.size xl A5 _ cap5 rfl HR5.out (by have := HLC.out; have := HBD.out; omega) (e : Int) (by rw [HLC.out]) ((X2.take (e + xl.length)).drop b) HX2D.out).mono ?_; rintro en w6 ⟨rfl, g6, hd, hO, hg⟩
                     have hP6 := HP5.out.disk hd hO hg
                     have HP6 := Lib.hid hP6
                     have HOn : Hid (∀ blk, (Value.slice A5 xl.length cap5).ownBlock = some blk → blk < w5.heap.size ∧ blk ≠ p ∧ blk ≠ g ∧ blk ≠ q ∧ blk ≠ gm ∧ W0.heap.size ≤ blk) := Lib.hid (fun blk hb => by
                       have h1 := HO5.out.ge blk hb
                       have h2 := HO5.out.lt blk hb
                       have h3 := HP0.out.dk.lt
                       have h4 := HP0.out.dk.dlt
                       have h5 := HP0.out.md.lt
                       have h6 := HP0.out.md.dlt
                       omega)
                     have HO6 := Lib.hid (own_only HO5.out.1 hO (fun blk hb => by have := HOn.out blk hb; rintro (e | e) <;> omega))
                     have HG6 := Lib.hid hg
                     have hbx := (hO.block nb (Nat.lt_of_lt_of_le HNB.out.2 HSZ5.out) (by have := HNB.out.1; rintro (e | e) <;> omega)).trans HBX5.out
                     have HSZ6 := Lib.hid hO.size
                     obtain ⟨z0, z1, z2, z3⟩ := box4 hbx
                     clear hd hO hg hP6 hbx)
                  | (go_at_call 25; refine (rappend_any HP6.out.md HP6.out.bel.size xl xA _ xcap rfl (HRX.out _ HP6.out.bel) (by have := HBD.out; omega)).mono ?_; rintro en w7 ⟨rfl, g7, e7, hm, he7, hO, hg⟩
                     rw [← HX2.out] at hm he7
                     have he8 : e7 = e + xl.length := by rw [← he7]; exact HX2L.out
                     subst he8
                     have HP7 := Lib.hid (HP6.out.model hm hO (.inr hg))
                     have HO7 := Lib.hid (own_only HO6.out hO (fun blk hb => by have := HOn.out blk hb; omega))
                     have HOb : Hid (∀ blk, (Value.slice A5 xl.length cap5).ownBlock = some blk → blk ≠ p ∧ blk ≠ g6 ∧ blk ≠ q ∧ blk ≠ g7 ∧ w.heap.size ≤ blk) := Lib.hid (fun blk hb => by
                       have h1 := HOn.out blk hb
                       have h2 := HG6.out
                       have h3 := HSZ6.out
                       have h4 := HP0.out.bel.size
                       omega)
                     clear hm hO hg he7))
              have HS1 : Hid (XIN w w7 p g6 b s ((X2.take (e + xl.length)).drop b) q g7 b (e + xl.length) s X2 W0.heap.size (.slice A5 xl.length cap5) xl.length (.int .i64 0)) := Lib.hid ⟨0, xl.map fun c => (c.toNat : Int), rfl, Nat.zero_le _, by simp, by have := HO7.out; rw [bytesV] at this; rw [List.map_map]; exact this, HP7.out⟩
              go_loopw [13] (fun v13 wq => XIN w wq p g6 b s ((X2.take (e + xl.length)).drop b) q g7 b (e + xl.length) s X2 W0.heap.size (.slice A5 xl.length cap5) xl.length v13) (fun v13 _ => xl.length - (intOf v13).toNat)
              case atStart => exact HS1.out
              case round =>
                obtain ⟨kk, zs, rfl, hkk, hzl, hown, hpf⟩ := hrel
                by_cases hkl : kk < xl.length
                · obtain ⟨gb, hA5, ⟨z, hcl⟩, hfz, hnc5, hnx⟩ := own_step hown hpf HOb.out hkl hzl
                  subst hA5
                  have HNX := Lib.hid hnx
                  have hkki : (kk : Int) < (xl.length : Int) := by omega
                  clear hown hpf hnx
                  go_wp2_with fail
                  go_roundw
                  case rel => exact HNX.out _ _ (by go_num)
                  case measure => simp [intOf]; omega
                · have hkk2 : kk = xl.length := by omega
                  subst hkk2
                  have HPF := Lib.hid hpf
                  clear hown hpf
                  go_wp2_with fail
                  go_meet
                  exact ⟨rfl, p, g6, b, s, q, g7, e + xl.length, X2, rfl, rfl, by have := HX2L.out; have := HBD.out; omega, HPF.out⟩
          · by_cases hk2 : xk = 2
            · subst hk2
              as_aux_lemma =>
                go_wp2_with (first
                    | (go_at_call 26; refine (sync_at HP0.out.dk e HLC.out.symm).mono ?_; rintro en w2 ⟨rfl, hd, hO⟩
                       have HP2 := Lib.hid (HP0.out.box hd hO)
                       clear hd hO)
                    | (go_at_call 27; refine (rsync_any HP2.out.md).mono ?_; rintro en w3 ⟨rfl, hd, hO⟩
                       have HP3 := Lib.hid (HP2.out.mbox hd hO)
                       clear hd hO))
                go_meet
                exact ⟨rfl, p, g, b, e, q, gm, e, X, rfl, rfl, by omega, HP3.out⟩
            · by_cases hk3 : xk = 3
              · subst hk3
                by_cases hy : (b : Int) ≤ xn ∧ xn ≤ (s : Int)
                · obtain ⟨N, rfl⟩ : ∃ N : Nat, xn = (N : Int) := ⟨xn.toNat, by omega⟩
                  have hbN : b ≤ N := by omega
                  have hNs : N ≤ s := by omega
                  clear hy
                  as_aux_lemma =>
                    have hNe : N ≤ e := by have := HBD.out; omega
                    have HDD : Hid (((X.take e).drop b).drop (N - b) = (X.take e).drop N) := Lib.hid (by rw [List.drop_drop, show b + (N - b) = N by omega])
                    have HPd := Lib.hid (HP0.out.below (drew_below W0))
                    go_wp2_with fail
                    go_region_law (first
                        | (go_simp; go_at_call 28; refine (drop_yes HPd.out.dk N hbN hNs).mono ?_; rintro en w2 ⟨rfl, hd, hO⟩
                           rw [HDD.out] at hd
                           have HP2 := Lib.hid (HPd.out.box hd hO)
                           have hbx := (hO.block nb HNB.out.2 (fun e => HNB.out.1.1 e)).trans (show W0.drew.heap[nb]? = _ from HBX.out)
                           obtain ⟨z0, z1, z2, z3⟩ := box4 hbx
                           have HBX2 := Lib.hid hbx
                           have HSZ := Lib.hid hO.size
                           clear hd hO hbx)
                        | (go_simp; go_at_call 29; refine (rdrop_yes HP2.out.md N hbN hNs).mono ?_; rintro en w3 ⟨rfl, hd, hO⟩
                           have HP3 := Lib.hid (HP2.out.mbox hd hO)
                           have hbx := (hO.block nb (Nat.lt_of_lt_of_le HNB.out.2 HSZ.out) (fun e => HNB.out.1.2.2.1 e)).trans HBX2.out
                           obtain ⟨t0, t1, t2, t3⟩ := box4 hbx
                           clear hd hO hbx))
                    all_goals
                      go_wp2_with fail
                      go_meet
                      exact ⟨rfl, p, g, N, s, q, gm, e, X, rfl, rfl, by omega, HP3.out⟩
                · as_aux_lemma =>
                    have hno := Lib.hid hy
                    clear hy
                    have HDn := Lib.hid (fun n => HP0.out.dk.below (drewN_below W0 n))
                    have HMn := Lib.hid (fun n => HP0.out.md.below (drewN_below W0 n))
                    go_wp2_with fail
                    go_quiet (first
                        | (go_at_call 28; refine Calls.quiet_of_same (flip_looks (drop_no (HDn.out _) _ hno.out)))
                        | (go_at_call 29; refine Calls.quiet_of_same (flip_looks (rdrop_no (HMn.out _) _ hno.out))))
                    go_wp2_with fail
                    go_meet
                    exact ⟨rfl, p, g, b, s, q, gm, e, X, rfl, rfl, by omega, HP0.out.below (drewN_below _ _)⟩
              · by_cases hk4 : xk = 4
                · subst hk4
                  by_cases hy : (b : Int) ≤ xn ∧ xn ≤ (e : Int)
                  · obtain ⟨N, rfl⟩ : ∃ N : Nat, xn = (N : Int) := ⟨xn.toNat, by omega⟩
                    have hbN : b ≤ N := by omega
                    have hNs : N ≤ e := by omega
                    clear hy
                    as_aux_lemma =>
                      have HDD : Hid (((X.take e).drop b).take (N - b) = (X.take N).drop b) := Lib.hid (by rw [List.drop_take, List.take_take, List.drop_take, show min (N - b) (e - b) = N - b by omega])
                      have HPd := Lib.hid (HP0.out.below (drew_below W0))
                      go_wp2_with fail
                      go_region_law (first
                          | (go_simp; go_at_call 30; refine (cut_yes HPd.out.dk N hbN (by have := HLC.out; omega)).mono ?_; rintro en w2 ⟨rfl, hd, hO⟩
                             rw [HDD.out] at hd
                             have HP2 := Lib.hid (HPd.out.box hd hO)
                             have hbx := (hO.block nb HNB.out.2 (fun e => HNB.out.1.1 e)).trans (show W0.drew.heap[nb]? = _ from HBX.out)
                             obtain ⟨z0, z1, z2, z3⟩ := box4 hbx
                             have HBX2 := Lib.hid hbx
                             have HSZ := Lib.hid hO.size
                             clear hd hO hbx)
                          | (go_simp; go_at_call 31; refine (rcut_yes HP2.out.md N hbN hNs).mono ?_; rintro en w3 ⟨rfl, hd, hO⟩
                             have HP3 := Lib.hid (HP2.out.mbox hd hO)
                             have hbx := (hO.block nb (Nat.lt_of_lt_of_le HNB.out.2 HSZ.out) (fun e => HNB.out.1.2.2.1 e)).trans HBX2.out
                             obtain ⟨t0, t1, t2, t3⟩ := box4 hbx
                             clear hd hO hbx))
                      all_goals
                        go_wp2_with fail
                        go_meet
                        exact ⟨rfl, p, g, b, N, q, gm, N, X, rfl, rfl, by omega, HP3.out⟩
                  · as_aux_lemma =>
                      have hno := Lib.hid hy
                      have hno2 : Hid (¬ ((b : Int) ≤ xn ∧ xn ≤ ((b + ((X.take e).drop b).length : Nat) : Int))) := Lib.hid (by rw [HLC.out]; exact hy)
                      clear hy
                      have HDn := Lib.hid (fun n => HP0.out.dk.below (drewN_below W0 n))
                      have HMn := Lib.hid (fun n => HP0.out.md.below (drewN_below W0 n))
                      go_wp2_with fail
                      go_quiet (first
                          | (go_at_call 30; refine Calls.quiet_of (cut_no (HDn.out _) _ hno2.out))
                          | (go_at_call 31; refine Calls.quiet_of_same (flip_looks (rcut_no (HMn.out _) _ hno.out))))
                      go_wp2_with fail
                      go_meet
                      exact ⟨rfl, p, g, b, s, q, gm, e, X, rfl, rfl, by omega, HP0.out.below (drewN_below _ _)⟩
                · by_cases hk5 : xk = 5
                  · subst hk5
                    by_cases hy : (b : Int) ≤ xn ∧ xn ≤ xm ∧ xm ≤ (e : Int)
                    · obtain ⟨N, rfl⟩ : ∃ N : Nat, xn = (N : Int) := ⟨xn.toNat, by omega⟩
                      obtain ⟨P2, rfl⟩ : ∃ P2 : Nat, xm = (P2 : Int) := ⟨xm.toNat, by omega⟩
                      have hbN : b ≤ N := by omega
                      have hNP : N ≤ P2 := by omega
                      have hPe : P2 ≤ e := by omega
                      clear hy
                      as_aux_lemma =>
                        have HEE : Hid ((X.drop N).take (P2 - N) = (((X.take e).drop b).drop (N - b)).take (P2 - N)) := Lib.hid (by rw [List.drop_drop, show b + (N - b) = N by omega, List.drop_take, List.take_take, show min (P2 - N) (e - N) = P2 - N by omega])
                        obtain ⟨cc, hcc⟩ : ∃ cc, cc = (X.drop N).take (P2 - N) := ⟨_, rfl⟩
                        obtain ⟨sc, hsc⟩ := ba_of cc
                        have HCC := Lib.hid hcc
                        have HSC := Lib.hid hsc
                        clear hcc hsc
                        go_wp2_with (first
                            | (go_at_call 32; refine (read_at HP0.out.dk N P2 hbN hNP (by have := HLC.out; omega) _ _ rfl rfl cc (by rw [HCC.out]; exact HEE.out)).mono ?_; rintro en w2 ⟨v2, rfl, ho, hb2⟩
                               have HP2 := Lib.hid (HP0.out.below hb2)
                               have HO2 := Lib.hid ho
                               have hbx := (hb2.block nb HNB.out.2).trans HBX.out
                               obtain ⟨z0, z1, z2, z3⟩ := box4 hbx
                               clear ho hb2 hbx)
                            | (go_at_call 33; refine (rread_yes HP2.out.md N P2 hbN hNP hPe cc HCC.out).mono ?_; rintro en w3 ⟨v3, rfl, ho, hb3⟩
                               have HP3 := Lib.hid (HP2.out.below hb3)
                               have kd := conv_ownS (HO2.out.below hb3) _ HSC.out
                               have km := conv_ownS ho _ HSC.out
                               clear ho hb3))
                        go_meet
                        exact ⟨rfl, p, g, b, s, q, gm, e, X, rfl, rfl, by omega, HP3.out⟩
                    · as_aux_lemma =>
                        have hno := Lib.hid hy
                        have hno2 : Hid (¬ ((b : Int) ≤ xn ∧ xn ≤ xm ∧ xm ≤ ((b + ((X.take e).drop b).length : Nat) : Int))) := Lib.hid (by rw [HLC.out]; exact hy)
                        clear hy
                        have HMn := Lib.hid (fun n => HP0.out.md.below (drewN_below W0 n))
                        have kn : ∀ W : World, (convert 23 9 (.slice none 0 0)).run Try.prog W = .ok (.string ByteArray.empty) W := fun W => run_convert_bytes_nil W _ _ Try.underlying23 Try.underlying5 _ _ _ Try.underlying9
                        go_wp2_with (first
                            | (go_at_call 32; refine (read_no HP0.out.dk _ _ hno2.out).mono ?_; rintro en w2 ⟨rfl, n2, rfl⟩)
                            | (go_at_call 33; refine (rread_no (HMn.out _) _ _ hno.out).mono ?_; rintro en w3 ⟨rfl, rfl⟩))
                        go_meet
                        exact ⟨rfl, p, g, b, s, q, gm, e, X, rfl, rfl, by omega, HP0.out.below (drewN_below _ _)⟩
                  · by_cases hk6 : xk = 6
                    · subst hk6
                      as_aux_lemma =>
                        obtain ⟨cc, hcc⟩ : ∃ cc, cc = (X.take e).drop b := ⟨_, rfl⟩
                        obtain ⟨n, hn⟩ : ∃ n, n = pickZ xn (e - s + 1) := ⟨_, rfl⟩
                        have hnl := pickZ_lt xn (n := e - s + 1) (by omega)
                        rw [← hn] at hnl
                        have HBE : Hid (b ≤ e ∧ e ≤ X.length ∧ X.length ≤ 18000 ∧ e = b + cc.length) := Lib.hid (by have := HLC.out; have := HBD.out; rw [hcc]; omega)
                        have HCX : Hid (cc = (X.drop b).take (e - b)) := Lib.hid (by rw [hcc, List.drop_take])
                        have HN1 : Hid (n = pickZ xn (b + cc.length - s + 1)) := Lib.hid (by rw [← HBE.out.2.2.2]; exact hn)
                        have HN2 := Lib.hid hn
                        have HNL : Hid (s + n ≤ e) := Lib.hid (by have := HBD.out; omega)
                        have HCN : Hid ((X.take (s + n)).drop b = cc.take (s + n - b)) := Lib.hid (by
                          have := HBD.out
                          rw [hcc, List.drop_take, List.drop_take, List.take_take, show min (s + n - b) (e - b) = s + n - b by omega])
                        have HTT : Hid ((X.take (s + n)).take (s + n) = X.take (s + n)) := Lib.hid (List.take_of_length_le (by rw [List.length_take]; omega))
                        have HXT : Hid ((X.take (s + n)).length ≤ 300 * (k + 1)) := Lib.hid (by have := HBD.out; rw [List.length_take]; omega)
                        obtain ⟨sc, hsc⟩ := ba_of cc
                        have HSC := Lib.hid hsc
                        rw [← hcc] at HP0
                        have HCC := Lib.hid hcc
                        clear hcc hsc hn hnl
                        go_wp2_with (first
                            | (go_at_call 34; refine (power_at HP0.out.dk xn HXI.out.1 n (s + n) HN1.out rfl (cc.take (s + n - b)) rfl).mono ?_; rintro en w2 ⟨p5, g5, rfl, hd, hb2⟩
                               have HP2 := Lib.hid (HP0.out.below hb2)
                               have HD5 := Lib.hid hd
                               have HS5 := Lib.hid (And.intro hb2.size (And.intro HP0.out.dk.lt HP0.out.md.lt))
                               have hbx := (hb2.block nb HNB.out.2).trans HBX.out
                               obtain ⟨z0, z1, z2, z3⟩ := box4 hbx
                               clear hd hb2 hbx)
                            | (go_at_call 35; refine (rpower_any HP2.out.md (by have := HBD.out; omega) xn HXI.out.1 n (s + n) HN2.out rfl (X.take (s + n)) rfl).mono ?_; rintro en wB ⟨q5, gq5, rfl, hm, hb3⟩
                               have hP3 := HP2.out.below hb3
                               have hd5 := HD5.out.below hb3
                               have hlt5 := HD5.out.lt
                               have hdlt5 := HD5.out.dlt
                               obtain ⟨Am, capm, hmx, _⟩ := hP3.md.box
                               have HPW := Lib.hid hP3
                               have HMW := Lib.hid hmx
                               have HN5 : Hid (PF w wB p5 g5 b (s + n) (cc.take (s + n - b)) q5 gq5 b (s + n) (s + n) (X.take (s + n))) := Lib.hid ⟨hd5.more (HP0.out.bel.size), hm.more (HP2.out.bel.size), by
                                 have h1 := hm.ge
                                 have h2 := hd5.ge
                                 omega, hP3.bel⟩
                               clear hm hb3 hP3 hd5 hlt5 hdlt5 hmx))
                        have hPW := HPW.out
                        have hMW := HMW.out
                        clear HPW HMW y0 y1 y2 y3 z0 z1 z2 z3
                        obtain ⟨x0, x1, x2, x3⟩ := box4 (w := wB.drew) hMW
                        have HP2 := Lib.hid hPW
                        have HM2 := Lib.hid hMW
                        clear hPW hMW
                        go_region_held3 (fun W => W.cell? ⟨q, 1, none⟩ = some (.int .i64 (b : Int)) ∧ W.cell? ⟨q, 2, none⟩ = some (.int .i64 (e : Int)))
                          (first | exact ⟨x1, x2⟩ | exact ⟨z1, z2⟩)
                          (first
                            | (go_at_call 32; refine (read_at (HP2.out.dk.heap (w' := wB.drew) (by rfl)) b e (Nat.le_refl _) HBE.out.1 (by have := HBE.out; omega) _ _ rfl rfl cc (by have := HBE.out; rw [Nat.sub_self, List.drop_zero, List.take_of_length_le (by omega)])).mono ?_; rintro en w3 ⟨v3d, rfl, ho3, hb3⟩
                               have hb3 := below_drew hb3
                               have HP3 := Lib.hid (HP2.out.below hb3)
                               have hM3 := (hb3.block q HP2.out.md.lt).trans HM2.out
                               obtain ⟨z0, z1, z2, z3⟩ := box4 hM3
                               have HM3 := Lib.hid hM3
                               have HO3 := Lib.hid ho3
                               have HN6 := Lib.hid (HN5.out.below hb3)
                               clear ho3 hb3 hM3)
                            | fail)
                        go_wp2_with fail
                        clear x0 x1 x2 x3 z0 z1 z2 z3
                        obtain ⟨z0, z1, z2, z3⟩ := box4 (w := w3.drew) HM3.out
                        go_region_held3 (fun W => W.cell? ⟨q, 1, none⟩ = some (.int .i64 (b : Int)) ∧ W.cell? ⟨q, 2, none⟩ = some (.int .i64 (e : Int)))
                          (first | exact ⟨z1, z2⟩ | exact ⟨u1, u2⟩)
                          (first
                            | (go_at_call 33; refine (rread_yes (HP3.out.md.heap (w' := w3.drew) (by rfl)) b e (Nat.le_refl _) HBE.out.1 (Nat.le_refl _) cc HCX.out).mono ?_; rintro en W6 ⟨v4m, rfl, ho4, hb4⟩
                               have hb4 := below_drew hb4
                               have HP6 := Lib.hid (HP3.out.below hb4)
                               have kd := conv_ownS (HO3.out.below hb4) _ HSC.out
                               have km := conv_ownS ho4 _ HSC.out
                               have kdn : ∀ n, (convert 23 9 v3d).run Try.prog (W6.drewN n) = .ok (.string sc) (W6.drewN n) := fun n => conv_ownS ((HO3.out.below hb4).below (drewN_below _ n)) _ HSC.out
                               have kmn : ∀ n, (convert 23 9 v4m).run Try.prog (W6.drewN n) = .ok (.string sc) (W6.drewN n) := fun n => conv_ownS (ho4.below (drewN_below _ n)) _ HSC.out
                               obtain ⟨u0, u1, u2, u3⟩ := box4 ((hb4.block q HP3.out.md.lt).trans HM3.out)
                               have HN7 := Lib.hid (HN6.out.below hb4)
                               clear ho4 hb4)
                            | fail)
                        go_wp2_with fail
                        clear kd km
                        go_quiet (first
                            | (go_at_call 36; refine Calls.quiet_of_same (flip_looks (safe_any (HP6.out.dk.below (drewN_below _ _))))))
                        go_wp2_with fail
                        go_meet
                        exact ⟨rfl, p5, g5, b, s + n, q5, gq5, s + n, X.take (s + n), rfl, rfl, HXT.out, by rw [HTT.out, HCN.out]; exact HN7.out.below (drewN_below _ _)⟩
                    · have f1 : (xk == 1) = false := by simpa using hk1
                      have f2 : (xk == 2) = false := by simpa using hk2
                      have f3 : (xk == 3) = false := by simpa using hk3
                      have f4 : (xk == 4) = false := by simpa using hk4
                      have f5 : (xk == 5) = false := by simpa using hk5
                      have f6 : (xk == 6) = false := by simpa using hk6
                      as_aux_lemma =>
                        go_wp2_with fail
                        go_meet
                        exact ⟨rfl, p, g, b, s, q, gm, e, X, rfl, rfl, by omega, HP0.out⟩
        case rest =>
          as_aux_lemma =>
            obtain ⟨rfl, p, g, b, s, q, gm, e, X, rfl, rfl, hXl, hpf⟩ := hcut
            have HXL := Lib.hid hXl
            obtain ⟨Am, capm, hmx, hmh⟩ := hpf.md.box
            obtain ⟨x0, x1, x2, x3⟩ := box4 hmx
            have hbs := hpf.md.bs
            have hse := hpf.md.se
            have hex := hpf.md.ex
            obtain ⟨cc, hcc⟩ : ∃ cc, cc = (X.take e).drop b := ⟨_, rfl⟩
            have hcl : cc.length = e - b := by rw [hcc, List.length_drop, List.length_take]; omega
            obtain ⟨sc, hsc⟩ := ba_of cc
            have HCC := Lib.hid hcc
            have HSC := Lib.hid hsc
            have HBE : Hid (b ≤ e ∧ e ≤ X.length ∧ X.length ≤ 18000 ∧ e = b + cc.length) := Lib.hid ⟨by omega, by omega, by omega, by omega⟩
            have HCX : Hid (cc = (X.drop b).take (e - b)) := Lib.hid (by rw [hcc, List.drop_take])
            rw [← hcc] at hpf
            have HP := Lib.hid hpf
            have HM := Lib.hid hmx
            have HQL := Lib.hid hpf.md.lt
            clear hcc hcl hsc hpf hmx hmh hbs hse hex hXl
            have hq1 : ∀ n, Calls Try.prog 37 #[.pointer (some ⟨p, 0, none⟩)] (wc.drewN n) (fun en w' => en = .returned (.int .i64 (b : Int)) ∧ w' = wc.drewN n) := fun n => flip_looks (begin_any (HP.out.dk.below (drewN_below wc n)))
            have hq2 : ∀ n, Calls Try.prog 36 #[.pointer (some ⟨p, 0, none⟩)] (wc.drewN n) (fun en w' => en = .returned (.int .i64 (s : Int)) ∧ w' = wc.drewN n) := fun n => flip_looks (safe_any (HP.out.dk.below (drewN_below wc n)))
            have hq3 : ∀ n, Calls Try.prog 38 #[.pointer (some ⟨p, 0, none⟩)] (wc.drewN n) (LooksN (.int .i64 (e : Int)) (wc.drewN n)) := fun n => end_at (HP.out.dk.below (drewN_below wc n)) _ (by rw [HBE.out.2.2.2])
            have HQ1 := Lib.hid hq1
            have HQ2 := Lib.hid hq2
            have HQ3 := Lib.hid hq3
            clear hq1 hq2 hq3
            go_wp2_with fail
            go_quiet (first
                | (go_at_call 37; refine Calls.quiet_of_same (HQ1.out _))
                | (go_at_call 36; refine Calls.quiet_of_same (HQ2.out _))
                | (go_at_call 38; refine Calls.quiet_of (HQ3.out _)))
            go_wp2_with fail
            generalize hW : wc.drewN _ = W2
            have hP2 : PF w W2 p g b s cc q gm b e s X := by rw [← hW]; exact HP.out.below (drewN_below wc _)
            have hM2 : W2.heap[q]? = some (.cells #[.slice Am X.length capm, .int .i64 (b : Int), .int .i64 (e : Int), .int .i64 (s : Int)] 38 (0, 0)) := by rw [← hW]; exact HM.out
            clear hW x0 x1 x2 x3 HQ1 HQ2 HQ3
            obtain ⟨x0, x1, x2, x3⟩ := box4 (w := W2.drew) hM2
            have HP2 := Lib.hid hP2
            have HM2 := Lib.hid hM2
            clear hP2 hM2
            go_region_held3 (fun W => W.cell? ⟨q, 1, none⟩ = some (.int .i64 (b : Int)) ∧ W.cell? ⟨q, 2, none⟩ = some (.int .i64 (e : Int)))
              (first | exact ⟨x1, x2⟩ | exact ⟨z1, z2⟩)
              (first
                | (go_at_call 32; refine (read_at (HP2.out.dk.heap (w' := W2.drew) (by rfl)) b e (Nat.le_refl _) HBE.out.1 (by have := HBE.out; omega) _ _ rfl rfl cc (by have := HBE.out; rw [Nat.sub_self, List.drop_zero, List.take_of_length_le (by omega)])).mono ?_; rintro en w3 ⟨v3d, rfl, ho3, hb3⟩
                   have hb3 := below_drew hb3
                   have HP3 := Lib.hid (HP2.out.below hb3)
                   have hM3 := (hb3.block q HP2.out.md.lt).trans HM2.out
                   obtain ⟨z0, z1, z2, z3⟩ := box4 hM3
                   have HM3 := Lib.hid hM3
                   have HO3 := Lib.hid ho3
                   clear ho3 hb3 hM3)
                | fail)
            go_wp2_with fail
            clear x0 x1 x2 x3 z0 z1 z2 z3
            obtain ⟨z0, z1, z2, z3⟩ := box4 (w := w3.drew) HM3.out
            go_region_held3 (fun W => W.cell? ⟨q, 1, none⟩ = some (.int .i64 (b : Int)) ∧ W.cell? ⟨q, 2, none⟩ = some (.int .i64 (e : Int)))
              (first | exact ⟨z1, z2⟩ | exact ⟨u1, u2⟩)
              (first
                | (go_at_call 33; refine (rread_yes (HP3.out.md.heap (w' := w3.drew) (by rfl)) b e (Nat.le_refl _) HBE.out.1 (Nat.le_refl _) cc HCX.out).mono ?_; rintro en W6 ⟨v4m, rfl, ho4, hb4⟩
                   have hb4 := below_drew hb4
                   have HP6 := Lib.hid (HP3.out.below hb4)
                   have kd := conv_ownS (HO3.out.below hb4) _ HSC.out
                   have km := conv_ownS ho4 _ HSC.out
                   have kdn : ∀ n, (convert 23 9 v3d).run Try.prog (W6.drewN n) = .ok (.string sc) (W6.drewN n) := fun n => conv_ownS ((HO3.out.below hb4).below (drewN_below _ n)) _ HSC.out
                   have kmn : ∀ n, (convert 23 9 v4m).run Try.prog (W6.drewN n) = .ok (.string sc) (W6.drewN n) := fun n => conv_ownS (ho4.below (drewN_below _ n)) _ HSC.out
                   obtain ⟨u0, u1, u2, u3⟩ := box4 ((hb4.block q HP3.out.md.lt).trans HM3.out)
                   clear ho4 hb4)
                | fail)

            have HY : Hid (∀ v5, v5 = .int .i64 ((k + 1 : Nat) : Int) → PFL w l (.pointer (some ⟨p, 0, none⟩)) (.pointer (some ⟨q, 0, none⟩)) v5 W6) := Lib.hid (fun v5 h5 => ⟨k + 1, h5, HKL.out, by omega, p, g, b, s, q, gm, e, X, rfl, rfl, HXL.out, by rw [← HCC.out]; exact HP6.out⟩)
            go_wp2_with fail
            go_roundw
            case rel => first | exact HY.out _ (by go_num) | ((repeat apply Exists.intro); exact ⟨HY.out _ (by go_num), rfl⟩)
            case measure => simp [intOf]; omega
    · have HY := Lib.hid HP.out.bel
      have hdone : ¬ ((k : Int) < (l.length : Int)) ∨ ¬ ((k : Int) < 60) := by omega
      by_cases hl1 : (k : Int) < (l.length : Int)
      · have hl2 : ¬ ((k : Int) < 60) := by omega
        clear hlt hdone
        as_aux_lemma =>
         go_wp2_with (go_at_call 39; refine (alive_disk _).mono ?_; rintro e w2 ⟨rfl, hb⟩; have HZ : Hid (Ans (.bool true) w (.returned (.bool true)) w2) := Lib.hid ⟨rfl, belowM HY.out (Nat.le_refl _) hb⟩; clear hb)
         go_ret
         exact HZ.out
      · clear hlt hdone
        as_aux_lemma =>
         go_wp2_with (go_at_call 39; refine (alive_disk _).mono ?_; rintro e w2 ⟨rfl, hb⟩; have HZ : Hid (Ans (.bool true) w (.returned (.bool true)) w2) := Lib.hid ⟨rfl, belowM HY.out (Nat.le_refl _) hb⟩; clear hb)
         go_ret
         exact HZ.out
#print axioms diskPlays_law
end Go.Proofs.Ytpfelmkadejdcaa

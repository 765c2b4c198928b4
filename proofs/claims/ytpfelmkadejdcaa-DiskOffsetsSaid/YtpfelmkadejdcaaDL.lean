/- A disk, and a row beside it. -/
import Derived.Test.YtpfelmkadejdcaaDI
import Derived.Test.YtpfelmkadejdcaaDH
import Derived.Test.YtpfelmkadejdcaaDO
namespace Go.Proofs.Ytpfelmkadejdcaa
open Go.RowKit

theorem HeldAt.dlt {w : World} {p g : Nat} {v : Value} {l : List UInt8} (h : HeldAt w p g v l) (hp : p < w.heap.size) : g < w.heap.size := by
  rcases h with ⟨_, _, rfl⟩ | ⟨_, _, _, _, ho⟩
  · exact hp
  · exact ho.lt
/-- a disk, and beside it a row of bytes -/
structure OF (w wr : World) (p g ga b s : Nat) (L c : List UInt8) (v4 : Value) : Prop where
  dk : Dk wr w.heap.size p g b s c
  all : HeldAt wr p ga v4 L
  sep : g = ga → g = p
  ge : w.heap.size ≤ ga
  bel : Below w.heap.size w wr
theorem OF.below {w wr w' : World} {p g ga b s : Nat} {L c : List UInt8} {v4 : Value} (h : OF w wr p g ga b s L c v4) (hb : Below wr.heap.size wr w') : OF w w' p g ga b s L c v4 :=
  ⟨h.dk.below hb, h.all.only (Only.of_below (K := fun _ => False) hb) (fun _ => id), h.sep, h.ge, belowM h.bel (Nat.le_refl _) hb⟩
/-- the disk alone has turned -/
theorem OF.disk {w wr w' : World} {p g g' ga b s b' s' : Nat} {L c c' : List UInt8} {v4 : Value} (h : OF w wr p g ga b s L c v4) (hd : Dk w' w.heap.size p g' b' s' c') (hO : Only (fun k => k = p ∨ k = g) wr w') (hg : g' = g ∨ wr.heap.size ≤ g') : OF w w' p g' ga b' s' L c' v4 := by
  refine ⟨hd, h.all.only hO (fun hne e => ?_), fun e => ?_, h.ge, onlyPG h.bel (Nat.le_refl _) hO h.dk.ge.1 h.dk.ge.2⟩
  · rcases e with e | e
    · exact hne e
    · have := h.sep e.symm
      omega
  · have := h.all.dlt h.dk.lt
    rcases hg with rfl | hg
    · exact h.sep e
    · omega
/-- the row alone has turned -/
theorem OF.row {w wr w' : World} {p g ga ga' b s : Nat} {L L' c : List UInt8} {v4 v4' : Value} (h : OF w wr p g ga b s L c v4) (hd : HeldAt w' p ga' v4' L') (hO : Only (fun k => k = ga ∧ k ≠ p) wr w') (hg : ga' = ga ∨ wr.heap.size ≤ ga') : OF w w' p g ga' b s L' c v4' := by
  have hlt := h.dk.dlt
  have hsz := h.bel.size
  have hge := h.ge
  refine ⟨h.dk.only hO (fun e => e.2 rfl) (fun e => e.2 (h.sep e.1)), hd, fun e => ?_, ?_, h.bel.trans (hO.below h.bel.size (fun j e => by omega))⟩
  · rcases hg with rfl | hg
    · exact h.sep e
    · omega
  · rcases hg with rfl | hg
    · exact hge
    · omega
/-- the disk's box alone has turned -/
theorem OF.box {w wr w' : World} {p g ga b s b' s' : Nat} {L c c' : List UInt8} {v4 : Value} (h : OF w wr p g ga b s L c v4) (hd : Dk w' w.heap.size p g b' s' c') (hO : Only (fun k => k = p) wr w') : OF w w' p g ga b' s' L c' v4 :=
  h.disk hd (hO.more (fun _ _ e => .inl e)) (.inl rfl)
/-- at the head of DiskOffsets' loop -/
def OFL (w : World) (p : Nat) (l : List Act6) (v4 v5 : Value) (wr : World) : Prop := ∃ (k g ga b s : Nat) (L : List UInt8), v5 = .int .i64 (k : Int) ∧ k ≤ l.length ∧ k ≤ 60 ∧ L.length ≤ 300 * k ∧ b ≤ L.length ∧ OF w wr p g ga b s L (L.drop b) v4
/-- a box beside them stays -/
theorem OF.away {w wr : World} {p g ga b s n : Nat} {L c : List UInt8} {v4 : Value} (h : OF w wr p g ga b s L c v4) (hn : wr.heap.size ≤ n) : n ≠ p ∧ n ≠ g ∧ n ≠ ga := by
  have h1 := h.dk.lt
  have h2 := h.dk.dlt
  have h3 := h.all.dlt h.dk.lt
  omega
theorem flip_looks {P : Program} {f : FuncId} {args : Array Value} {w : World} {v : Value} (h : Calls P f args w (Looks v w)) : Calls P f args w (fun e w' => e = .returned v ∧ w' = w) := h.mono fun _ _ ⟨a, b⟩ => ⟨a, b.symm⟩
set_option maxRecDepth 100000 in
set_option maxHeartbeats 40000000 in
theorem diskOffsets_law (l : List Act6) (A : Option Addr) (cap : Nat) (w : World) (hr : RdA w w.heap.size A l) (hok : ∀ x ∈ l, x.ok w w.heap.size) :
    Calls Try.prog 7 #[.slice A l.length cap] w (Ans (.bool true) w) := by
  obtain ⟨i0, hi, hz0, hz1, hz2⟩ := info_parts info8
  have HR := Lib.hid hr
  have HK := Lib.hid hok
  clear hr hok
  go_enter Try.func7, Try.ntmps7
  go_wp2_with (first
    | (go_at_call 23; refine (new_any _).mono ?_; rintro e w1 ⟨p, rfl, hd, hb⟩
       have HS : Hid (OFL w p l (.slice none 0 0) (.int .i64 0) w1) := Lib.hid ⟨0, p, p, 0, 0, [], rfl, Nat.zero_le _, Nat.zero_le _, Nat.zero_le _, Nat.zero_le _, ⟨hd, .inl ⟨rfl, rfl, rfl⟩, fun _ => rfl, hd.ge.1, hb⟩⟩
       clear hd hb))
  go_loopw [4, 5] (fun v4 v5 wr => OFL w p l v4 v5 wr) (fun _ v5 _ => l.length - (intOf v5).toNat)
  case atStart => exact HS.out
  case round =>
    obtain ⟨k, g, ga, b, s, L, rfl, hk, hk60, hL, hbL, hof⟩ := hrel
    have HOF := Lib.hid hof
    obtain ⟨A4, cap4, hv4⟩ := hof.all.slice
    subst hv4
    clear hof
    by_cases hlt : k < l.length ∧ k < 60
    · obtain ⟨hlt, hlt60⟩ := hlt
      obtain ⟨x, hx⟩ : ∃ x, l[k]? = some x := ⟨_, List.getElem?_eq_getElem hlt⟩
      obtain ⟨bb, oo, hA, c0, c1, c2, c3⟩ := HR.out.at_ hx HOF.out.bel (Nat.le_refl _)
      subst hA
      have hxo := HK.out x (List.mem_of_getElem? hx)
      obtain ⟨xk, xn, xm, xA, xl, xcap⟩ := x
      dsimp only at c0 c1 c2 c3
      have HRX : Hid (∀ w', Below w.heap.size w w' → RdB w' w'.heap.size xA xl) := Lib.hid fun w' h => (hxo.rd.below h (Nat.le_refl _)).more h.size
      have hki : (k : Int) < (l.length : Int) := by omega
      have hki60 : (k : Int) < 60 := by omega
      have HKL : Hid (k + 1 ≤ l.length) := Lib.hid hlt
      clear hx hxo
      by_cases hbig : (300 : Int) < (xl.length : Int)
      · have HY : Hid (∀ v5, v5 = .int .i64 ((k + 1 : Nat) : Int) → OFL w p l (.slice A4 L.length cap4) v5 (wr.alloc (.cells #[.int .i64 xk, .int .i64 xn, .int .i64 xm, .slice xA xl.length xcap] 40))) := Lib.hid fun v5 h5 => ⟨k + 1, _, _, b, _, L, h5, HKL.out, by omega, by omega, hbL, HOF.out.below (alloc_below _ _)⟩
        go_wp2_with fail
        go_roundw
        case rel => first | exact HY.out _ (by go_num) | ((repeat apply Exists.intro); exact ⟨HY.out _ (by go_num), rfl⟩)
        case measure => simp [intOf]; omega
      · have hxl : xl.length ≤ 300 := by omega
        by_cases hk1 : xk = 1
        · subst hk1
          have HBX : Hid ((wr.alloc (.cells #[.int .i64 1, .int .i64 xn, .int .i64 xm, .slice xA xl.length xcap] 40)).heap[wr.heap.size]? = some (.cells #[.int .i64 1, .int .i64 xn, .int .i64 xm, .slice xA xl.length xcap] 40 (0, 0))) := Lib.hid (heap_alloc_new _ _)
          have HOB := Lib.hid (HOF.out.below (alloc_below wr (.cells #[.int .i64 1, .int .i64 xn, .int .i64 xm, .slice xA xl.length xcap] 40)))
          obtain ⟨ap, ag, aa⟩ := HOF.out.away (Nat.le_refl _)
          obtain ⟨L2, hL2⟩ : ∃ L2, L2 = L ++ xl := ⟨_, rfl⟩
          have HLL : Hid (L2.length = L.length + xl.length) := Lib.hid (by rw [hL2]; exact List.length_append)
          have HLC : Hid (b ≤ (L2).length) := Lib.hid (by have := HLL.out; omega)
          have HLB : Hid (((L2).length : Int) = ((b + ((L2).drop b).length : Nat) : Int)) := Lib.hid (by rw [List.length_drop]; have := HLL.out; omega)
          have HLD : Hid ((L2).length ≤ b + ((L2).drop b).length) := Lib.hid (by rw [List.length_drop]; have := HLL.out; omega)
          have HLR : Hid ((L2).drop b = (((L2).drop b).drop (b - b)).take ((L2).length - b)) := Lib.hid (by rw [Nat.sub_self, List.drop_zero, List.take_of_length_le (by rw [List.length_drop]; exact Nat.le_refl _)])
          have HLE : Hid ((L2).length ≤ 300 * (k + 1)) := Lib.hid (by have := HLL.out; omega)
          have hLi : (((L2).length : Nat) : Int) ≤ 100000 := by have := HLL.out; omega
          have hbi : (b : Int) ≤ 100000 := by have := HLL.out; omega
          have hbLi : (b : Int) ≤ (((L2).length : Nat) : Int) := by have := HLL.out; omega
          have HDA : Hid (L2.drop b = L.drop b ++ xl) := Lib.hid (by rw [hL2]; exact List.drop_append_of_le_length hbL)
          have HL2 := Lib.hid hL2
          clear hL2
          go_wp2_with (first
              | (go_at_call 24; refine (append_at HOB.out.dk HOB.out.bel.size xl xA _ _ rfl (HRX.out _ HOB.out.bel) (by rw [List.length_drop]; omega) (L.length : Int) (by rw [List.length_drop]; omega) (L2.drop b) HDA.out).mono ?_; rintro e w2 ⟨rfl, g2, hd2, hO2, hg2⟩
                 have h2 := HOB.out.disk hd2 hO2 hg2
                 obtain ⟨y0, y1, y2, y3⟩ := box4 ((hO2.block wr.heap.size (by simp) (by rintro (e | e) <;> omega)).trans HBX.out)
                 have HX2 := Lib.hid ((hO2.block wr.heap.size (by simp) (by rintro (e | e) <;> omega)).trans HBX.out)
                 have HO2 := Lib.hid h2
                 have HS2 := Lib.hid hO2.size
                 have HLT2 := Lib.hid h2.dk.lt
                 have HR2 := Lib.hid (HRX.out _ h2.bel)
                 clear hd2 hO2 hg2 h2)
              | (at_builtin
                 refine wpList_appH rfl _ _ 23 rfl Try.underlying23 hi hz0 hz1 hz2 rfl HO2.out.all HLT2.out rfl rfl HR2.out (by omega) ?_
                 intro g5 v5 w5 ho5 hO5 hg5
                 rw [← HL2.out] at ho5
                 have h5 := HO2.out.row ho5 hO5 hg5
                 obtain ⟨A5, cap5, hv5⟩ := ho5.slice
                 subst hv5
                 obtain ⟨z0, z1, z2, z3⟩ := box4 ((hO5.block wr.heap.size (by have := HS2.out; simp at this; omega) (by rintro ⟨e, _⟩; omega)).trans HX2.out)
                 have HTO := Lib.hid (fun n => (h5).below (drewN_below w5 n))
                 have HTA := Lib.hid (fun (W : World) (e : W.heap = w5.heap) => (h5).dk.heap e)
                 clear ho5 hO5 hg5 h5)
              | (go_at_call 37; refine (begin_any (HTB.out _ (by rfl))).mono ?_; rintro e w9 ⟨rfl, rfl⟩)
              | (go_at_call 37; refine (begin_any (HTA.out _ (by rfl))).mono ?_; rintro e w9 ⟨rfl, rfl⟩)
              | (go_at_call 38; refine (end_at (HTB.out _ (by rfl)) ((L2).length : Int) HLB.out).mono ?_; rintro e w9 ⟨rfl, n9, rfl⟩)
              | (go_at_call 38; refine (end_at (HTA.out _ (by rfl)) ((L2).length : Int) HLB.out).mono ?_; rintro e w9 ⟨rfl, n9, rfl⟩)
              | (go_at_call 32; refine (read_no (HTB.out _ (by rfl)) _ _ (by omega)).mono ?_; rintro e w9 ⟨rfl, n9, rfl⟩)
              | (go_at_call 32; refine (read_at (HTA.out _ (by rfl)) b (L2).length (Nat.le_refl _) HLC.out HLD.out _ _ rfl rfl ((L2).drop b) HLR.out).mono ?_; rintro e w8 ⟨v8, rfl, ho8, hb8⟩
                 have h8 := (HTO.out _).below hb8
                 have HTB := Lib.hid (fun (W : World) (e : W.heap = w8.heap) => h8.dk.heap e)
                 have hy8 := h8.all.dropped HLC.out
                 obtain ⟨sc, hsc⟩ := ba_of ((L2).drop b)
                 have kq1 : ∀ n, (convert 23 9 v8).run Try.prog (w8.drewN n) = .ok (.string sc) (w8.drewN n) := fun n => conv_ownS (ho8.below (drewN_below _ n)) _ hsc
                 have kq2 : ∀ n, (convert 23 9 (.slice (if cap5 = b then A5 else (A5).map fun x => x.add b) ((L2).length - b) (cap5 - b))).run Try.prog (w8.drewN n) = .ok (.string sc) (w8.drewN n) := fun n => conv_rd (hy8.rd.1.below (drewN_below _ n) (Nat.le_refl _)) (by rw [List.length_drop]) _ hsc
                 have HY : Hid (∀ n v5, v5 = .int .i64 ((k + 1 : Nat) : Int) → OFL w p l (.slice A5 (L2).length cap5) v5 (w8.drewN n)) := Lib.hid fun n v5 h5 => ⟨k + 1, _, _, b, _, L2, h5, HKL.out, by omega, HLE.out, HLC.out, h8.below (drewN_below _ n)⟩
                 clear ho8 hb8 h8 hy8 hsc))
          generalize hW : World.drewN w8 _ = W9
          have hh : W9.heap = w8.heap := by rw [← hW]; rfl
          have HTC := Lib.hid (fun (W : World) (e : W.heap = W9.heap) => HTB.out W (e.trans hh))
          have kp1 : ∀ n, (convert 23 9 v8).run Try.prog (W9.drewN n) = .ok (.string sc) (W9.drewN n) := fun n => by rw [← hW, World.drewN_drewN]; exact kq1 _
          have kp2 : ∀ n, (convert 23 9 (.slice (if cap5 = b then A5 else (A5).map fun x => x.add b) ((L2).length - b) (cap5 - b))).run Try.prog (W9.drewN n) = .ok (.string sc) (W9.drewN n) := fun n => by rw [← hW, World.drewN_drewN]; exact kq2 _
          have HZ : Hid (∀ n v5, v5 = .int .i64 ((k + 1 : Nat) : Int) → OFL w p l (.slice A5 (L2).length cap5) v5 (W9.drewN n)) := Lib.hid fun n v5 h5 => by rw [← hW, World.drewN_drewN]; exact HY.out _ _ h5
          clear kq1 kq2 hW hh HY
          go_quiet (first
              | (go_at_call 37; refine Calls.quiet_of_same (flip_looks (begin_any (HTC.out _ (by rfl)))))
              | (go_at_call 38; refine Calls.quiet_of (end_at (HTC.out _ (by rfl)) ((L2).length : Int) HLB.out)))
          go_wp2_with fail
          go_roundw
          case rel => first | exact HZ.out _ _ (by go_num) | ((repeat apply Exists.intro); exact ⟨HZ.out _ _ (by go_num), rfl⟩)
          case measure => simp [intOf]; omega
        · by_cases hk2 : xk = 2
          · subst hk2
            have HBX : Hid ((wr.alloc (.cells #[.int .i64 2, .int .i64 xn, .int .i64 xm, .slice xA xl.length xcap] 40)).heap[wr.heap.size]? = some (.cells #[.int .i64 2, .int .i64 xn, .int .i64 xm, .slice xA xl.length xcap] 40 (0, 0))) := Lib.hid (heap_alloc_new _ _)
            have HOB := Lib.hid (HOF.out.below (alloc_below wr (.cells #[.int .i64 2, .int .i64 xn, .int .i64 xm, .slice xA xl.length xcap] 40)))
            obtain ⟨ap, ag, aa⟩ := HOF.out.away (Nat.le_refl _)
            have HLC : Hid (b ≤ (L).length) := Lib.hid (by omega)
            have HLB : Hid (((L).length : Int) = ((b + ((L).drop b).length : Nat) : Int)) := Lib.hid (by rw [List.length_drop]; omega)
            have HLD : Hid ((L).length ≤ b + ((L).drop b).length) := Lib.hid (by rw [List.length_drop]; omega)
            have HLR : Hid ((L).drop b = (((L).drop b).drop (b - b)).take ((L).length - b)) := Lib.hid (by rw [Nat.sub_self, List.drop_zero, List.take_of_length_le (by rw [List.length_drop]; exact Nat.le_refl _)])
            have HLE : Hid ((L).length ≤ 300 * (k + 1)) := Lib.hid (by omega)
            have hLi : (((L).length : Nat) : Int) ≤ 100000 := by omega
            have hbi : (b : Int) ≤ 100000 := by omega
            have hbLi : (b : Int) ≤ (((L).length : Nat) : Int) := by omega
            go_wp2_with (first
                | (go_at_call 26; refine (sync_any HOB.out.dk).mono ?_; rintro e w2 ⟨rfl, hd2, hO2⟩
                   have h2 := HOB.out.box hd2 hO2
                   obtain ⟨y0, y1, y2, y3⟩ := box4 ((hO2.block wr.heap.size (by simp) (by intro e; omega)).trans HBX.out)
                   have HTO := Lib.hid (fun n => (h2).below (drewN_below w2 n))
                   have HTA := Lib.hid (fun (W : World) (e : W.heap = w2.heap) => (h2).dk.heap e)
                   clear hd2 hO2 h2)
                | (go_at_call 37; refine (begin_any (HTB.out _ (by rfl))).mono ?_; rintro e w9 ⟨rfl, rfl⟩)
                | (go_at_call 37; refine (begin_any (HTA.out _ (by rfl))).mono ?_; rintro e w9 ⟨rfl, rfl⟩)
                | (go_at_call 38; refine (end_at (HTB.out _ (by rfl)) ((L).length : Int) HLB.out).mono ?_; rintro e w9 ⟨rfl, n9, rfl⟩)
                | (go_at_call 38; refine (end_at (HTA.out _ (by rfl)) ((L).length : Int) HLB.out).mono ?_; rintro e w9 ⟨rfl, n9, rfl⟩)
                | (go_at_call 32; refine (read_no (HTB.out _ (by rfl)) _ _ (by omega)).mono ?_; rintro e w9 ⟨rfl, n9, rfl⟩)
                | (go_at_call 32; refine (read_at (HTA.out _ (by rfl)) b (L).length (Nat.le_refl _) HLC.out HLD.out _ _ rfl rfl ((L).drop b) HLR.out).mono ?_; rintro e w8 ⟨v8, rfl, ho8, hb8⟩
                   have h8 := (HTO.out _).below hb8
                   have HTB := Lib.hid (fun (W : World) (e : W.heap = w8.heap) => h8.dk.heap e)
                   have hy8 := h8.all.dropped HLC.out
                   obtain ⟨sc, hsc⟩ := ba_of ((L).drop b)
                   have kq1 : ∀ n, (convert 23 9 v8).run Try.prog (w8.drewN n) = .ok (.string sc) (w8.drewN n) := fun n => conv_ownS (ho8.below (drewN_below _ n)) _ hsc
                   have kq2 : ∀ n, (convert 23 9 (.slice (if cap4 = b then A4 else (A4).map fun x => x.add b) ((L).length - b) (cap4 - b))).run Try.prog (w8.drewN n) = .ok (.string sc) (w8.drewN n) := fun n => conv_rd (hy8.rd.1.below (drewN_below _ n) (Nat.le_refl _)) (by rw [List.length_drop]) _ hsc
                   have HY : Hid (∀ n v5, v5 = .int .i64 ((k + 1 : Nat) : Int) → OFL w p l (.slice A4 (L).length cap4) v5 (w8.drewN n)) := Lib.hid fun n v5 h5 => ⟨k + 1, _, _, b, _, L, h5, HKL.out, by omega, HLE.out, HLC.out, h8.below (drewN_below _ n)⟩
                   clear ho8 hb8 h8 hy8 hsc))
            generalize hW : World.drewN w8 _ = W9
            have hh : W9.heap = w8.heap := by rw [← hW]; rfl
            have HTC := Lib.hid (fun (W : World) (e : W.heap = W9.heap) => HTB.out W (e.trans hh))
            have kp1 : ∀ n, (convert 23 9 v8).run Try.prog (W9.drewN n) = .ok (.string sc) (W9.drewN n) := fun n => by rw [← hW, World.drewN_drewN]; exact kq1 _
            have kp2 : ∀ n, (convert 23 9 (.slice (if cap4 = b then A4 else (A4).map fun x => x.add b) ((L).length - b) (cap4 - b))).run Try.prog (W9.drewN n) = .ok (.string sc) (W9.drewN n) := fun n => by rw [← hW, World.drewN_drewN]; exact kq2 _
            have HZ : Hid (∀ n v5, v5 = .int .i64 ((k + 1 : Nat) : Int) → OFL w p l (.slice A4 (L).length cap4) v5 (W9.drewN n)) := Lib.hid fun n v5 h5 => by rw [← hW, World.drewN_drewN]; exact HY.out _ _ h5
            clear kq1 kq2 hW hh HY
            go_quiet (first
                | (go_at_call 37; refine Calls.quiet_of_same (flip_looks (begin_any (HTC.out _ (by rfl)))))
                | (go_at_call 38; refine Calls.quiet_of (end_at (HTC.out _ (by rfl)) ((L).length : Int) HLB.out)))
            go_wp2_with fail
            go_roundw
            case rel => first | exact HZ.out _ _ (by go_num) | ((repeat apply Exists.intro); exact ⟨HZ.out _ _ (by go_num), rfl⟩)
            case measure => simp [intOf]; omega
          · by_cases hk3 : xk = 3
            · subst hk3
              by_cases hy : (b : Int) ≤ xn ∧ xn ≤ (s : Int)
              · obtain ⟨N, rfl⟩ : ∃ N : Nat, xn = (N : Int) := ⟨xn.toNat, by omega⟩
                have hbN : b ≤ N := by omega
                have hNs : N ≤ s := by omega
                have HBX : Hid ((wr.alloc (.cells #[.int .i64 3, .int .i64 (N : Int), .int .i64 xm, .slice xA xl.length xcap] 40)).heap[wr.heap.size]? = some (.cells #[.int .i64 3, .int .i64 (N : Int), .int .i64 xm, .slice xA xl.length xcap] 40 (0, 0))) := Lib.hid (heap_alloc_new _ _)
                have HOB := Lib.hid (HOF.out.below (alloc_below wr (.cells #[.int .i64 3, .int .i64 (N : Int), .int .i64 xm, .slice xA xl.length xcap] 40)))
                obtain ⟨ap, ag, aa⟩ := HOF.out.away (Nat.le_refl _)
                have hNL : N ≤ L.length := by have := HOB.out.dk.se; rw [List.length_drop] at this; omega
                have HLC : Hid (N ≤ (L).length) := Lib.hid (by omega)
                have HLB : Hid (((L).length : Int) = ((N + ((L).drop N).length : Nat) : Int)) := Lib.hid (by rw [List.length_drop]; omega)
                have HLD : Hid ((L).length ≤ N + ((L).drop N).length) := Lib.hid (by rw [List.length_drop]; omega)
                have HLR : Hid ((L).drop N = (((L).drop N).drop (N - N)).take ((L).length - N)) := Lib.hid (by rw [Nat.sub_self, List.drop_zero, List.take_of_length_le (by rw [List.length_drop]; exact Nat.le_refl _)])
                have HLE : Hid ((L).length ≤ 300 * (k + 1)) := Lib.hid (by omega)
                have hLi : (((L).length : Nat) : Int) ≤ 100000 := by omega
                have hbi : (N : Int) ≤ 100000 := by omega
                have hbLi : (N : Int) ≤ (((L).length : Nat) : Int) := by omega
                have HDD : Hid ((L.drop b).drop (N - b) = L.drop N) := Lib.hid (by rw [List.drop_drop, show b + (N - b) = N by omega])
                go_wp2_with (first
                    | (go_at_call 28; refine (drop_yes HOB.out.dk N hbN hNs).mono ?_; rintro e w2 ⟨rfl, hd2, hO2⟩
                       rw [HDD.out] at hd2
                       have h2 := HOB.out.box hd2 hO2
                       obtain ⟨y0, y1, y2, y3⟩ := box4 ((hO2.block wr.heap.size (by simp) (by intro e; omega)).trans HBX.out)
                       have HTO := Lib.hid (fun n => (h2).below (drewN_below w2 n))
                       have HTA := Lib.hid (fun (W : World) (e : W.heap = w2.heap) => (h2).dk.heap e)
                       clear hd2 hO2 h2)
                    | (go_at_call 37; refine (begin_any HOB.out.dk).mono ?_; rintro e w9 ⟨rfl, rfl⟩))
                have hNbi : (b : Int) ≤ (N : Int) := by omega
                have hNsi : (N : Int) ≤ (s : Int) := by omega
                go_quiet (first
                    | (go_at_call 37; refine Calls.quiet_of_same (flip_looks (begin_any (HTA.out _ (by rfl)))))
                    | (go_at_call 36; refine Calls.quiet_of_same (flip_looks (safe_any (HTA.out _ (by rfl))))))
                go_wp2_with (first
                    | (go_at_call 37; refine (begin_any (HTB.out _ (by rfl))).mono ?_; rintro e w9 ⟨rfl, rfl⟩)
                    | (go_at_call 37; refine (begin_any (HTA.out _ (by rfl))).mono ?_; rintro e w9 ⟨rfl, rfl⟩)
                    | (go_at_call 38; refine (end_at (HTB.out _ (by rfl)) ((L).length : Int) HLB.out).mono ?_; rintro e w9 ⟨rfl, n9, rfl⟩)
                    | (go_at_call 38; refine (end_at (HTA.out _ (by rfl)) ((L).length : Int) HLB.out).mono ?_; rintro e w9 ⟨rfl, n9, rfl⟩)
                    | (go_at_call 32; refine (read_no (HTB.out _ (by rfl)) _ _ (by omega)).mono ?_; rintro e w9 ⟨rfl, n9, rfl⟩)
                    | (go_at_call 32; refine (read_at (HTA.out _ (by rfl)) N (L).length (Nat.le_refl _) HLC.out HLD.out _ _ rfl rfl ((L).drop N) HLR.out).mono ?_; rintro e w8 ⟨v8, rfl, ho8, hb8⟩
                       have h8 := (HTO.out _).below hb8
                       have HTB := Lib.hid (fun (W : World) (e : W.heap = w8.heap) => h8.dk.heap e)
                       have hy8 := h8.all.dropped HLC.out
                       obtain ⟨sc, hsc⟩ := ba_of ((L).drop N)
                       have kq1 : ∀ n, (convert 23 9 v8).run Try.prog (w8.drewN n) = .ok (.string sc) (w8.drewN n) := fun n => conv_ownS (ho8.below (drewN_below _ n)) _ hsc
                       have kq2 : ∀ n, (convert 23 9 (.slice (if cap4 = N then A4 else (A4).map fun x => x.add N) ((L).length - N) (cap4 - N))).run Try.prog (w8.drewN n) = .ok (.string sc) (w8.drewN n) := fun n => conv_rd (hy8.rd.1.below (drewN_below _ n) (Nat.le_refl _)) (by rw [List.length_drop]) _ hsc
                       have HY : Hid (∀ n v5, v5 = .int .i64 ((k + 1 : Nat) : Int) → OFL w p l (.slice A4 (L).length cap4) v5 (w8.drewN n)) := Lib.hid fun n v5 h5 => ⟨k + 1, _, _, N, _, L, h5, HKL.out, by omega, HLE.out, HLC.out, h8.below (drewN_below _ n)⟩
                       clear ho8 hb8 h8 hy8 hsc))
                generalize hW : World.drewN w8 _ = W9
                have hh : W9.heap = w8.heap := by rw [← hW]; rfl
                have HTC := Lib.hid (fun (W : World) (e : W.heap = W9.heap) => HTB.out W (e.trans hh))
                have kp1 : ∀ n, (convert 23 9 v8).run Try.prog (W9.drewN n) = .ok (.string sc) (W9.drewN n) := fun n => by rw [← hW, World.drewN_drewN]; exact kq1 _
                have kp2 : ∀ n, (convert 23 9 (.slice (if cap4 = N then A4 else (A4).map fun x => x.add N) ((L).length - N) (cap4 - N))).run Try.prog (W9.drewN n) = .ok (.string sc) (W9.drewN n) := fun n => by rw [← hW, World.drewN_drewN]; exact kq2 _
                have HZ : Hid (∀ n v5, v5 = .int .i64 ((k + 1 : Nat) : Int) → OFL w p l (.slice A4 (L).length cap4) v5 (W9.drewN n)) := Lib.hid fun n v5 h5 => by rw [← hW, World.drewN_drewN]; exact HY.out _ _ h5
                clear kq1 kq2 hW hh HY
                go_quiet (first
                    | (go_at_call 37; refine Calls.quiet_of_same (flip_looks (begin_any (HTC.out _ (by rfl)))))
                    | (go_at_call 38; refine Calls.quiet_of (end_at (HTC.out _ (by rfl)) ((L).length : Int) HLB.out)))
                go_wp2_with fail
                go_roundw
                case rel => first | exact HZ.out _ _ (by go_num) | ((repeat apply Exists.intro); exact ⟨HZ.out _ _ (by go_num), rfl⟩)
                case measure => simp [intOf]; omega
              · by_cases hlow : xn < (b : Int)
                · clear hy
                  have HBX : Hid ((wr.alloc (.cells #[.int .i64 3, .int .i64 xn, .int .i64 xm, .slice xA xl.length xcap] 40)).heap[wr.heap.size]? = some (.cells #[.int .i64 3, .int .i64 xn, .int .i64 xm, .slice xA xl.length xcap] 40 (0, 0))) := Lib.hid (heap_alloc_new _ _)
                  have HOB := Lib.hid (HOF.out.below (alloc_below wr (.cells #[.int .i64 3, .int .i64 xn, .int .i64 xm, .slice xA xl.length xcap] 40)))
                  obtain ⟨ap, ag, aa⟩ := HOF.out.away (Nat.le_refl _)
                  have HLC : Hid (b ≤ (L).length) := Lib.hid (by omega)
                  have HLB : Hid (((L).length : Int) = ((b + ((L).drop b).length : Nat) : Int)) := Lib.hid (by rw [List.length_drop]; omega)
                  have HLD : Hid ((L).length ≤ b + ((L).drop b).length) := Lib.hid (by rw [List.length_drop]; omega)
                  have HLR : Hid ((L).drop b = (((L).drop b).drop (b - b)).take ((L).length - b)) := Lib.hid (by rw [Nat.sub_self, List.drop_zero, List.take_of_length_le (by rw [List.length_drop]; exact Nat.le_refl _)])
                  have HLE : Hid ((L).length ≤ 300 * (k + 1)) := Lib.hid (by omega)
                  have hLi : (((L).length : Nat) : Int) ≤ 100000 := by omega
                  have hbi : (b : Int) ≤ 100000 := by omega
                  have hbLi : (b : Int) ≤ (((L).length : Nat) : Int) := by omega
                  have HTO := Lib.hid (fun n => (HOB.out).below (drewN_below (wr.alloc (.cells #[.int .i64 3, .int .i64 xn, .int .i64 xm, .slice xA xl.length xcap] 40)) n))
                  have HTA := Lib.hid (fun (W : World) (e : W.heap = (wr.alloc (.cells #[.int .i64 3, .int .i64 xn, .int .i64 xm, .slice xA xl.length xcap] 40)).heap) => (HOB.out).dk.heap e)
                  go_wp2_with (first
                      | (go_at_call 28; refine (drop_no HOB.out.dk xn (by omega)).mono ?_; rintro e w2 ⟨rfl, rfl⟩)
                      | (go_at_call 37; refine (begin_any HOB.out.dk).mono ?_; rintro e w9 ⟨rfl, rfl⟩))
                  have hyb := box4 HBX.out
                  generalize hW2 : wr.alloc (.cells #[.int .i64 3, .int .i64 xn, .int .i64 xm, .slice xA xl.length xcap] 40) = W2
                  rw [hW2] at hyb
                  have HTA2 : Hid (∀ W : World, W.heap = W2.heap → Dk W w.heap.size p g b s (L.drop b)) := Lib.hid (by rw [← hW2]; exact HTA.out)
                  have HTO2 : Hid (∀ n, OF w (W2.drewN n) p g ga b s L (L.drop b) (.slice A4 L.length cap4)) := Lib.hid (by rw [← hW2]; exact HTO.out)
                  clear HTA HTO hW2
                  obtain ⟨y0, y1, y2, y3⟩ := hyb
                  have hdl : decide ((b : Int) ≤ xn) = false := decide_eq_false (by omega)
                  go_quiet (first
                      | (go_at_call 37; refine Calls.quiet_of_same (flip_looks (begin_any (HTA2.out _ (by rfl)))))
                      | (go_at_call 36; refine Calls.quiet_of_same (flip_looks (safe_any (HTA2.out _ (by rfl))))))
                  have HTA := HTA2
                  have HTO := HTO2
                  go_wp2_with (first
                      | (go_at_call 37; refine (begin_any (HTB.out _ (by rfl))).mono ?_; rintro e w9 ⟨rfl, rfl⟩)
                      | (go_at_call 37; refine (begin_any (HTA.out _ (by rfl))).mono ?_; rintro e w9 ⟨rfl, rfl⟩)
                      | (go_at_call 38; refine (end_at (HTB.out _ (by rfl)) ((L).length : Int) HLB.out).mono ?_; rintro e w9 ⟨rfl, n9, rfl⟩)
                      | (go_at_call 38; refine (end_at (HTA.out _ (by rfl)) ((L).length : Int) HLB.out).mono ?_; rintro e w9 ⟨rfl, n9, rfl⟩)
                      | (go_at_call 32; refine (read_no (HTB.out _ (by rfl)) _ _ (by omega)).mono ?_; rintro e w9 ⟨rfl, n9, rfl⟩)
                      | (go_at_call 32; refine (read_at (HTA.out _ (by rfl)) b (L).length (Nat.le_refl _) HLC.out HLD.out _ _ rfl rfl ((L).drop b) HLR.out).mono ?_; rintro e w8 ⟨v8, rfl, ho8, hb8⟩
                         have h8 := (HTO.out _).below hb8
                         have HTB := Lib.hid (fun (W : World) (e : W.heap = w8.heap) => h8.dk.heap e)
                         have hy8 := h8.all.dropped HLC.out
                         obtain ⟨sc, hsc⟩ := ba_of ((L).drop b)
                         have kq1 : ∀ n, (convert 23 9 v8).run Try.prog (w8.drewN n) = .ok (.string sc) (w8.drewN n) := fun n => conv_ownS (ho8.below (drewN_below _ n)) _ hsc
                         have kq2 : ∀ n, (convert 23 9 (.slice (if cap4 = b then A4 else (A4).map fun x => x.add b) ((L).length - b) (cap4 - b))).run Try.prog (w8.drewN n) = .ok (.string sc) (w8.drewN n) := fun n => conv_rd (hy8.rd.1.below (drewN_below _ n) (Nat.le_refl _)) (by rw [List.length_drop]) _ hsc
                         have HY : Hid (∀ n v5, v5 = .int .i64 ((k + 1 : Nat) : Int) → OFL w p l (.slice A4 (L).length cap4) v5 (w8.drewN n)) := Lib.hid fun n v5 h5 => ⟨k + 1, _, _, b, _, L, h5, HKL.out, by omega, HLE.out, HLC.out, h8.below (drewN_below _ n)⟩
                         clear ho8 hb8 h8 hy8 hsc))
                  generalize hW : World.drewN w8 _ = W9
                  have hh : W9.heap = w8.heap := by rw [← hW]; rfl
                  have HTC := Lib.hid (fun (W : World) (e : W.heap = W9.heap) => HTB.out W (e.trans hh))
                  have kp1 : ∀ n, (convert 23 9 v8).run Try.prog (W9.drewN n) = .ok (.string sc) (W9.drewN n) := fun n => by rw [← hW, World.drewN_drewN]; exact kq1 _
                  have kp2 : ∀ n, (convert 23 9 (.slice (if cap4 = b then A4 else (A4).map fun x => x.add b) ((L).length - b) (cap4 - b))).run Try.prog (W9.drewN n) = .ok (.string sc) (W9.drewN n) := fun n => by rw [← hW, World.drewN_drewN]; exact kq2 _
                  have HZ : Hid (∀ n v5, v5 = .int .i64 ((k + 1 : Nat) : Int) → OFL w p l (.slice A4 (L).length cap4) v5 (W9.drewN n)) := Lib.hid fun n v5 h5 => by rw [← hW, World.drewN_drewN]; exact HY.out _ _ h5
                  clear kq1 kq2 hW hh HY
                  go_quiet (first
                      | (go_at_call 37; refine Calls.quiet_of_same (flip_looks (begin_any (HTC.out _ (by rfl)))))
                      | (go_at_call 38; refine Calls.quiet_of (end_at (HTC.out _ (by rfl)) ((L).length : Int) HLB.out)))
                  go_wp2_with fail
                  go_roundw
                  case rel => first | exact HZ.out _ _ (by go_num) | ((repeat apply Exists.intro); exact ⟨HZ.out _ _ (by go_num), rfl⟩)
                  case measure => simp [intOf]; omega
                · have hhigh : (s : Int) < xn := by omega
                  clear hy
                  have HBX : Hid ((wr.alloc (.cells #[.int .i64 3, .int .i64 xn, .int .i64 xm, .slice xA xl.length xcap] 40)).heap[wr.heap.size]? = some (.cells #[.int .i64 3, .int .i64 xn, .int .i64 xm, .slice xA xl.length xcap] 40 (0, 0))) := Lib.hid (heap_alloc_new _ _)
                  have HOB := Lib.hid (HOF.out.below (alloc_below wr (.cells #[.int .i64 3, .int .i64 xn, .int .i64 xm, .slice xA xl.length xcap] 40)))
                  obtain ⟨ap, ag, aa⟩ := HOF.out.away (Nat.le_refl _)
                  have HLC : Hid (b ≤ (L).length) := Lib.hid (by omega)
                  have HLB : Hid (((L).length : Int) = ((b + ((L).drop b).length : Nat) : Int)) := Lib.hid (by rw [List.length_drop]; omega)
                  have HLD : Hid ((L).length ≤ b + ((L).drop b).length) := Lib.hid (by rw [List.length_drop]; omega)
                  have HLR : Hid ((L).drop b = (((L).drop b).drop (b - b)).take ((L).length - b)) := Lib.hid (by rw [Nat.sub_self, List.drop_zero, List.take_of_length_le (by rw [List.length_drop]; exact Nat.le_refl _)])
                  have HLE : Hid ((L).length ≤ 300 * (k + 1)) := Lib.hid (by omega)
                  have hLi : (((L).length : Nat) : Int) ≤ 100000 := by omega
                  have hbi : (b : Int) ≤ 100000 := by omega
                  have hbLi : (b : Int) ≤ (((L).length : Nat) : Int) := by omega
                  have HTO := Lib.hid (fun n => (HOB.out).below (drewN_below (wr.alloc (.cells #[.int .i64 3, .int .i64 xn, .int .i64 xm, .slice xA xl.length xcap] 40)) n))
                  have HTA := Lib.hid (fun (W : World) (e : W.heap = (wr.alloc (.cells #[.int .i64 3, .int .i64 xn, .int .i64 xm, .slice xA xl.length xcap] 40)).heap) => (HOB.out).dk.heap e)
                  go_wp2_with (first
                      | (go_at_call 28; refine (drop_no HOB.out.dk xn (by omega)).mono ?_; rintro e w2 ⟨rfl, rfl⟩)
                      | (go_at_call 37; refine (begin_any HOB.out.dk).mono ?_; rintro e w9 ⟨rfl, rfl⟩))
                  have hyb := box4 HBX.out
                  generalize hW2 : wr.alloc (.cells #[.int .i64 3, .int .i64 xn, .int .i64 xm, .slice xA xl.length xcap] 40) = W2
                  rw [hW2] at hyb
                  have HTA2 : Hid (∀ W : World, W.heap = W2.heap → Dk W w.heap.size p g b s (L.drop b)) := Lib.hid (by rw [← hW2]; exact HTA.out)
                  have HTO2 : Hid (∀ n, OF w (W2.drewN n) p g ga b s L (L.drop b) (.slice A4 L.length cap4)) := Lib.hid (by rw [← hW2]; exact HTO.out)
                  clear HTA HTO hW2
                  obtain ⟨y0, y1, y2, y3⟩ := hyb
                  go_quiet (first
                      | (go_at_call 37; refine Calls.quiet_of_same (flip_looks (begin_any (HTA2.out _ (by rfl)))))
                      | (go_at_call 36; refine Calls.quiet_of_same (flip_looks (safe_any (HTA2.out _ (by rfl))))))
                  have HTA := HTA2
                  have HTO := HTO2
                  go_wp2_with (first
                      | (go_at_call 37; refine (begin_any (HTB.out _ (by rfl))).mono ?_; rintro e w9 ⟨rfl, rfl⟩)
                      | (go_at_call 37; refine (begin_any (HTA.out _ (by rfl))).mono ?_; rintro e w9 ⟨rfl, rfl⟩)
                      | (go_at_call 38; refine (end_at (HTB.out _ (by rfl)) ((L).length : Int) HLB.out).mono ?_; rintro e w9 ⟨rfl, n9, rfl⟩)
                      | (go_at_call 38; refine (end_at (HTA.out _ (by rfl)) ((L).length : Int) HLB.out).mono ?_; rintro e w9 ⟨rfl, n9, rfl⟩)
                      | (go_at_call 32; refine (read_no (HTB.out _ (by rfl)) _ _ (by omega)).mono ?_; rintro e w9 ⟨rfl, n9, rfl⟩)
                      | (go_at_call 32; refine (read_at (HTA.out _ (by rfl)) b (L).length (Nat.le_refl _) HLC.out HLD.out _ _ rfl rfl ((L).drop b) HLR.out).mono ?_; rintro e w8 ⟨v8, rfl, ho8, hb8⟩
                         have h8 := (HTO.out _).below hb8
                         have HTB := Lib.hid (fun (W : World) (e : W.heap = w8.heap) => h8.dk.heap e)
                         have hy8 := h8.all.dropped HLC.out
                         obtain ⟨sc, hsc⟩ := ba_of ((L).drop b)
                         have kq1 : ∀ n, (convert 23 9 v8).run Try.prog (w8.drewN n) = .ok (.string sc) (w8.drewN n) := fun n => conv_ownS (ho8.below (drewN_below _ n)) _ hsc
                         have kq2 : ∀ n, (convert 23 9 (.slice (if cap4 = b then A4 else (A4).map fun x => x.add b) ((L).length - b) (cap4 - b))).run Try.prog (w8.drewN n) = .ok (.string sc) (w8.drewN n) := fun n => conv_rd (hy8.rd.1.below (drewN_below _ n) (Nat.le_refl _)) (by rw [List.length_drop]) _ hsc
                         have HY : Hid (∀ n v5, v5 = .int .i64 ((k + 1 : Nat) : Int) → OFL w p l (.slice A4 (L).length cap4) v5 (w8.drewN n)) := Lib.hid fun n v5 h5 => ⟨k + 1, _, _, b, _, L, h5, HKL.out, by omega, HLE.out, HLC.out, h8.below (drewN_below _ n)⟩
                         clear ho8 hb8 h8 hy8 hsc))
                  generalize hW : World.drewN w8 _ = W9
                  have hh : W9.heap = w8.heap := by rw [← hW]; rfl
                  have HTC := Lib.hid (fun (W : World) (e : W.heap = W9.heap) => HTB.out W (e.trans hh))
                  have kp1 : ∀ n, (convert 23 9 v8).run Try.prog (W9.drewN n) = .ok (.string sc) (W9.drewN n) := fun n => by rw [← hW, World.drewN_drewN]; exact kq1 _
                  have kp2 : ∀ n, (convert 23 9 (.slice (if cap4 = b then A4 else (A4).map fun x => x.add b) ((L).length - b) (cap4 - b))).run Try.prog (W9.drewN n) = .ok (.string sc) (W9.drewN n) := fun n => by rw [← hW, World.drewN_drewN]; exact kq2 _
                  have HZ : Hid (∀ n v5, v5 = .int .i64 ((k + 1 : Nat) : Int) → OFL w p l (.slice A4 (L).length cap4) v5 (W9.drewN n)) := Lib.hid fun n v5 h5 => by rw [← hW, World.drewN_drewN]; exact HY.out _ _ h5
                  clear kq1 kq2 hW hh HY
                  go_quiet (first
                      | (go_at_call 37; refine Calls.quiet_of_same (flip_looks (begin_any (HTC.out _ (by rfl)))))
                      | (go_at_call 38; refine Calls.quiet_of (end_at (HTC.out _ (by rfl)) ((L).length : Int) HLB.out)))
                  go_wp2_with fail
                  go_roundw
                  case rel => first | exact HZ.out _ _ (by go_num) | ((repeat apply Exists.intro); exact ⟨HZ.out _ _ (by go_num), rfl⟩)
                  case measure => simp [intOf]; omega
            · have e1 : (xk == 1) = false := by simpa using hk1
              have e2 : (xk == 2) = false := by simpa using hk2
              have e3 : (xk == 3) = false := by simpa using hk3
              have HBX : Hid ((wr.alloc (.cells #[.int .i64 xk, .int .i64 xn, .int .i64 xm, .slice xA xl.length xcap] 40)).heap[wr.heap.size]? = some (.cells #[.int .i64 xk, .int .i64 xn, .int .i64 xm, .slice xA xl.length xcap] 40 (0, 0))) := Lib.hid (heap_alloc_new _ _)
              have HOB := Lib.hid (HOF.out.below (alloc_below wr (.cells #[.int .i64 xk, .int .i64 xn, .int .i64 xm, .slice xA xl.length xcap] 40)))
              obtain ⟨ap, ag, aa⟩ := HOF.out.away (Nat.le_refl _)
              have HLC : Hid (b ≤ (L).length) := Lib.hid (by omega)
              have HLB : Hid (((L).length : Int) = ((b + ((L).drop b).length : Nat) : Int)) := Lib.hid (by rw [List.length_drop]; omega)
              have HLD : Hid ((L).length ≤ b + ((L).drop b).length) := Lib.hid (by rw [List.length_drop]; omega)
              have HLR : Hid ((L).drop b = (((L).drop b).drop (b - b)).take ((L).length - b)) := Lib.hid (by rw [Nat.sub_self, List.drop_zero, List.take_of_length_le (by rw [List.length_drop]; exact Nat.le_refl _)])
              have HLE : Hid ((L).length ≤ 300 * (k + 1)) := Lib.hid (by omega)
              have hLi : (((L).length : Nat) : Int) ≤ 100000 := by omega
              have hbi : (b : Int) ≤ 100000 := by omega
              have hbLi : (b : Int) ≤ (((L).length : Nat) : Int) := by omega
              have HTO := Lib.hid (fun n => (HOB.out).below (drewN_below (wr.alloc (.cells #[.int .i64 xk, .int .i64 xn, .int .i64 xm, .slice xA xl.length xcap] 40)) n))
              have HTA := Lib.hid (fun (W : World) (e : W.heap = (wr.alloc (.cells #[.int .i64 xk, .int .i64 xn, .int .i64 xm, .slice xA xl.length xcap] 40)).heap) => (HOB.out).dk.heap e)
              go_wp2_with (first
                  | (go_at_call 37; refine (begin_any (HTB.out _ (by rfl))).mono ?_; rintro e w9 ⟨rfl, rfl⟩)
                  | (go_at_call 37; refine (begin_any (HTA.out _ (by rfl))).mono ?_; rintro e w9 ⟨rfl, rfl⟩)
                  | (go_at_call 38; refine (end_at (HTB.out _ (by rfl)) ((L).length : Int) HLB.out).mono ?_; rintro e w9 ⟨rfl, n9, rfl⟩)
                  | (go_at_call 38; refine (end_at (HTA.out _ (by rfl)) ((L).length : Int) HLB.out).mono ?_; rintro e w9 ⟨rfl, n9, rfl⟩)
                  | (go_at_call 32; refine (read_no (HTB.out _ (by rfl)) _ _ (by omega)).mono ?_; rintro e w9 ⟨rfl, n9, rfl⟩)
                  | (go_at_call 32; refine (read_at (HTA.out _ (by rfl)) b (L).length (Nat.le_refl _) HLC.out HLD.out _ _ rfl rfl ((L).drop b) HLR.out).mono ?_; rintro e w8 ⟨v8, rfl, ho8, hb8⟩
                     have h8 := (HTO.out _).below hb8
                     have HTB := Lib.hid (fun (W : World) (e : W.heap = w8.heap) => h8.dk.heap e)
                     have hy8 := h8.all.dropped HLC.out
                     obtain ⟨sc, hsc⟩ := ba_of ((L).drop b)
                     have kq1 : ∀ n, (convert 23 9 v8).run Try.prog (w8.drewN n) = .ok (.string sc) (w8.drewN n) := fun n => conv_ownS (ho8.below (drewN_below _ n)) _ hsc
                     have kq2 : ∀ n, (convert 23 9 (.slice (if cap4 = b then A4 else (A4).map fun x => x.add b) ((L).length - b) (cap4 - b))).run Try.prog (w8.drewN n) = .ok (.string sc) (w8.drewN n) := fun n => conv_rd (hy8.rd.1.below (drewN_below _ n) (Nat.le_refl _)) (by rw [List.length_drop]) _ hsc
                     have HY : Hid (∀ n v5, v5 = .int .i64 ((k + 1 : Nat) : Int) → OFL w p l (.slice A4 (L).length cap4) v5 (w8.drewN n)) := Lib.hid fun n v5 h5 => ⟨k + 1, _, _, b, _, L, h5, HKL.out, by omega, HLE.out, HLC.out, h8.below (drewN_below _ n)⟩
                     clear ho8 hb8 h8 hy8 hsc))
              generalize hW : World.drewN w8 _ = W9
              have hh : W9.heap = w8.heap := by rw [← hW]; rfl
              have HTC := Lib.hid (fun (W : World) (e : W.heap = W9.heap) => HTB.out W (e.trans hh))
              have kp1 : ∀ n, (convert 23 9 v8).run Try.prog (W9.drewN n) = .ok (.string sc) (W9.drewN n) := fun n => by rw [← hW, World.drewN_drewN]; exact kq1 _
              have kp2 : ∀ n, (convert 23 9 (.slice (if cap4 = b then A4 else (A4).map fun x => x.add b) ((L).length - b) (cap4 - b))).run Try.prog (W9.drewN n) = .ok (.string sc) (W9.drewN n) := fun n => by rw [← hW, World.drewN_drewN]; exact kq2 _
              have HZ : Hid (∀ n v5, v5 = .int .i64 ((k + 1 : Nat) : Int) → OFL w p l (.slice A4 (L).length cap4) v5 (W9.drewN n)) := Lib.hid fun n v5 h5 => by rw [← hW, World.drewN_drewN]; exact HY.out _ _ h5
              clear kq1 kq2 hW hh HY
              go_quiet (first
                  | (go_at_call 37; refine Calls.quiet_of_same (flip_looks (begin_any (HTC.out _ (by rfl)))))
                  | (go_at_call 38; refine Calls.quiet_of (end_at (HTC.out _ (by rfl)) ((L).length : Int) HLB.out)))
              go_wp2_with fail
              go_roundw
              case rel => first | exact HZ.out _ _ (by go_num) | ((repeat apply Exists.intro); exact ⟨HZ.out _ _ (by go_num), rfl⟩)
              case measure => simp [intOf]; omega
    · have HY := Lib.hid HOF.out.bel
      have hdone : ¬ ((k : Int) < (l.length : Int)) ∨ ¬ ((k : Int) < 60) := by omega
      by_cases hl1 : (k : Int) < (l.length : Int)
      · have hl2 : ¬ ((k : Int) < 60) := by omega
        clear hlt hdone
        go_wp2_with (go_at_call 39; refine (alive_disk _).mono ?_; rintro e w2 ⟨rfl, hb⟩; have HZ : Hid (Ans (.bool true) w (.returned (.bool true)) w2) := Lib.hid ⟨rfl, belowM HY.out (Nat.le_refl _) hb⟩; clear hb)
        go_ret
        exact HZ.out
      · clear hlt hdone
        go_wp2_with (go_at_call 39; refine (alive_disk _).mono ?_; rintro e w2 ⟨rfl, hb⟩; have HZ : Hid (Ans (.bool true) w (.returned (.bool true)) w2) := Lib.hid ⟨rfl, belowM HY.out (Nat.le_refl _) hb⟩; clear hb)
        go_ret
        exact HZ.out
#print axioms diskOffsets_law
end Go.Proofs.Ytpfelmkadejdcaa

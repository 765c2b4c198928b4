/- Package row: takeText. -/
import Derived.Test.YthdhifnafgidaaaWI
import Derived.Test.YthdhifnafgidaaaKY
namespace Go.Proofs.Ythdhifnafgidaaa
open Go.RowKit

theorem made_bytes (n : Nat) : (madeCells (Value.int .u8 0).cells (n * 1)).toList = bytesV (List.replicate n 0) := by
  rw [Nat.mul_one]
  simp only [madeCells, bytesV, Value.cells, List.map_replicate, Array.toList_map, Array.toList_range]
  rw [List.eq_replicate_iff]
  refine ⟨by simp, fun x hx => ?_⟩
  obtain ⟨y, _, rfl⟩ := List.mem_map.1 hx
  simp [Nat.mod_one]
theorem own_put {w : World} {B g n cap i : Nat} {l : List UInt8} {c : UInt8} {x : Int} (h : OwnB w B (.slice (some ⟨g, 0, none⟩) n cap) l) (hx : x = (c.toNat : Int)) :
    OwnB (w.setCell ⟨g, i, none⟩ (.int .u8 x)) B (.slice (some ⟨g, 0, none⟩) n cap) (l.set i c) ∧ w.grownBy (w.setCell ⟨g, i, none⟩ (.int .u8 x)) (some g) := by
  subst hx
  have hn : n = l.length := by
    obtain ⟨A, cp, e, _⟩ := h.2
    injection e
  subst hn
  obtain ⟨h1, h2⟩ := h.1.stored (g := g) i (.int .u8 (c.toNat : Int))
  have e : (bytesV l).set i (.int .u8 (c.toNat : Int)) = bytesV (l.set i c) := by simp [bytesV, List.map_set]
  rw [e] at h1
  have h3 := OwnB.of_row h1
  exact ⟨h3, h2⟩
theorem OwnB.grown {w w' : World} {B g : Nat} {v : Value} {l : List UInt8} (h : OwnB w B v l) (hg : w.grownBy w' (some g)) (hne : v.ownBlock ≠ some g) : OwnB w' B v l := ⟨h.1.kept hg (.inr hne), h.2⟩
/-- a source, behind a change in another block -/
theorem Src.other {W V : World} {g B h : Nat} {l : List UInt8} (hs : Src W g B l) (hg : W.grownBy V (some h)) (hn : g < h) : Src V g B l := by
  obtain ⟨A, cap, h1, h2, h3, h4⟩ := hs
  have hlt := (Array.getElem?_eq_some_iff.1 h1).1
  exact ⟨A, cap, (hg.block _ hlt (fun e => by injection e with e; omega)).trans h1, h2, h3.keep fun k hk => hg.block k (by omega) (fun e => by injection e with e; omega), h4⟩
theorem own_cell {w : World} {B g n cap i : Nat} {l : List UInt8} {c : UInt8} (h : OwnB w B (.slice (some ⟨g, 0, none⟩) n cap) l) (hc : l[i]? = some c) : w.cell? ⟨g, i, none⟩ = some (.int .u8 (c.toNat : Int)) := by
  have hn : n = l.length := by
    obtain ⟨A, cp, e, _⟩ := h.2
    injection e
  subst hn
  have h1 := h.1.cells (g := g) rfl i (.int .u8 (c.toNat : Int)) (by simp [bytesV, hc])
  rw [add_plain] at h1
  exact h1
theorem zeros_get (q : List UInt8) (k : Nat) (h : q.length < k) : (q ++ List.replicate (k - q.length) 0)[q.length]? = some 0 := by
  rw [List.getElem?_append_right (Nat.le_refl _), Nat.sub_self, List.getElem?_replicate, if_pos (by omega)]
theorem own_free {w : World} {B g n cap i : Nat} {l : List UInt8} (h : OwnB w B (.slice (some ⟨g, 0, none⟩) n cap) l) : w.frozen? ⟨g, i, none⟩ = false := by
  rcases h.1.2 with ⟨e, _⟩ | ⟨g', cp, cur, e, _, hh, _⟩
  · cases e
  · injection e with e1
    injection e1 with e1
    injection e1 with e1
    subst e1
    simp [World.frozen?, hh]
/-- what takeText answers -/
def TTT (W : World) (g B : Nat) (l : List UInt8) (e : Ending) (W' : World) : Prop := W.grownBy W' (some g) ∧ ((∃ (s r : List UInt8) (sb : ByteArray), sb = ⟨s.toArray⟩ ∧ s.length ≤ 200 ∧ l = vL (zig (s.length : Int)) ++ (s ++ r) ∧ e = .returned (.tuple #[.string sb, .bool true]) ∧ Src W' g B r) ∨
  ((∀ s r : List UInt8, s.length ≤ 200 → l ≠ vL (zig (s.length : Int)) ++ (s ++ r)) ∧ e = .returned (.tuple #[.string ⟨#[]⟩, .bool false]) ∧ ∃ r, Src W' g B r))
/-- at the head of its loop -/
def TXL (w W1 : World) (g B h k : Nat) (r0 : List UInt8) (v29 : Value) (wr : World) : Prop := ∃ (q r : List UInt8), v29 = .int .i64 q.length ∧ q.length ≤ k ∧ r0 = q ++ r ∧ OwnB wr W1.heap.size (.slice (some ⟨h, 0, none⟩) k k) (q ++ List.replicate (k - q.length) 0) ∧ Src wr g B r ∧ w.grownBy wr (some g)
set_option maxRecDepth 100000 in
set_option maxHeartbeats 40000000 in
theorem takeText_any (l : List UInt8) (g B : Nat) (w : World) (h : Src w g B l) : Calls Try.prog 65 #[.func (.func 63) #[] #[.pointer (some ⟨g, 0, none⟩)]] w (TTT w g B l) := by
  obtain ⟨i0, hi, hz0, hz1, hz2⟩ := info_parts info8
  have HS := Lib.hid h
  have HGL := Lib.hid h.lt
  clear h
  go_enter Try.func65, Try.ntmps65
  go_wp2_with fail
  refine (takeNumber_any l g B w HS.out).mono ?_
  rintro e w1 ⟨hg, ⟨u, r0, hu, hl, rfl, hs1⟩ | ⟨hno, rfl, r1, hs1⟩⟩
  · have HL := Lib.hid hl
    have HG := Lib.hid hg
    have HS1 := Lib.hid hs1
    have HZZ : Hid (∀ n : Int, 0 ≤ n → zig n = u → zag u = n) := Lib.hid fun n _ e => by rw [← e, zag_zig]
    obtain ⟨n, hn⟩ : ∃ n, Hid (n = zag u) := ⟨_, Lib.hid rfl⟩
    rw [← hn.out]
    by_cases hbad : n < 0 ∨ 200 < n
    · have HY : Hid (TTT w g B l (.returned (.tuple #[.string ⟨#[]⟩, .bool false])) w1) := Lib.hid ⟨HG.out, .inr ⟨fun s r hs e => by
          obtain ⟨h1, _⟩ := vL_inj (HL.out.symm.trans e)
          have := HZZ.out (s.length : Int) (by omega) h1.symm
          have := hn.out
          omega, rfl, r0, HS1.out⟩⟩
      clear hu hl hg hs1
      rcases hbad with h | h
      · go_wp2_with fail
        go_ret2
        exact HY.out
      · have h0 : ¬ n < 0 := by omega
        go_wp2_with fail
        go_ret2
        exact HY.out
    · obtain ⟨k, rfl⟩ : ∃ k : Nat, n = (k : Int) := ⟨n.toNat, by omega⟩
      have hk : k ≤ 200 := by omega
      have HU : Hid (u = zig (k : Int)) := Lib.hid (by rw [hn.out, zig_zag])
      have hk0 : ¬ (k : Int) < 0 := by omega
      have hk1 : ¬ (200 : Int) < (k : Int) := by omega
      have hk2 : (k : Int) ≤ 200 := by omega
      have hk3 : (0 : Int) ≤ (k : Int) := by omega
      have HK := Lib.hid hk
      clear hu hl hg hs1 hbad hk
      go_wp2_with (at_make; refine wpList_make_full _ rfl _ _ 61 rfl w1.heap.size 5 i0 (.int .u8 0) 1 Try.underlying61 hi hz0 hz1 .i64 .i64 (k : Int) (k : Int) k rfl rfl rfl rfl (by rw [hz2]; have := HK.out; omega) (by have := HK.out; unfold maxLen; omega) (Nat.le_refl _) ?_; intro w2 hown hgrow
                   rw [made_bytes] at hown
                   have HO2 := Lib.hid (OwnB.of_row hown)
                   have HG2 := Lib.hid hgrow
                   clear hown hgrow)
      have HGW : Hid (g < w1.heap.size) := Lib.hid (Nat.lt_of_lt_of_le HGL.out HG.out.size)
      have HS2 : Hid (Src w2 g B r0) := Lib.hid (by
        obtain ⟨A, cap, h1, h2, h3, h4⟩ := HS1.out
        exact ⟨A, cap, (HG2.out.block _ HGW.out (by simp)).trans h1, h2, h3.keep fun j hj => HG2.out.block j (by have := HGW.out; omega) (by simp), h4⟩)
      have HGG : Hid (w.grownBy w2 (some g)) := Lib.hid (grown_trans HG.out ⟨HG2.out.os, HG2.out.tape, HG2.out.output, HG2.out.size, fun b hb _ => HG2.out.block b hb (by simp)⟩)
      go_loopw [29] (fun v29 wr => TXL w w1 g B w1.heap.size k r0 v29 wr) (fun v29 _ => k - (intOf v29).toNat)
      case atStart => exact ⟨[], r0, rfl, Nat.zero_le _, rfl, by simpa using HO2.out, HS2.out, HGG.out⟩
      case round =>
        obtain ⟨q, r, rfl, hqk, hr0, ho, hsr, hgr⟩ := hrel
        have HR0 := Lib.hid hr0
        have HO := Lib.hid ho
        have HSR := Lib.hid hsr
        have HGR := Lib.hid hgr
        clear hr0 ho hsr hgr
        obtain ⟨i, hi⟩ : ∃ i, Hid (i = q.length) := ⟨_, Lib.hid rfl⟩
        rw [← hi.out] at hqk ⊢
        have HNE : Hid ((Value.slice (some ⟨w1.heap.size, 0, none⟩) k k).ownBlock ≠ some g) := Lib.hid (by simp only [Value.ownBlock]; intro e; injection e with e; have := HGW.out; omega)
        by_cases hlt : i < k
        · have hki : (i : Int) < (k : Int) := by omega
          have hkn : i < k := hlt
          have HI := Lib.hid hlt
          rcases r with _ | ⟨c, t⟩
          · have HNO : Hid (∀ s r : List UInt8, s.length ≤ 200 → l ≠ vL (zig (s.length : Int)) ++ (s ++ r)) := Lib.hid fun s r hs e => by
              obtain ⟨h1, h2⟩ := vL_inj (HL.out.symm.trans e)
              have h3 := HZZ.out (s.length : Int) (by omega) h1.symm
              have h4 := hn.out
              have h5 : s.length = k := by omega
              rw [HR0.out, List.append_nil] at h2
              have h6 := congrArg List.length h2
              rw [List.length_append] at h6
              have h7 := hi.out
              omega
            have f0 := own_free (i := i) HO.out
            have f1 : wr.cell? ⟨w1.heap.size, i, none⟩ = some (.int .u8 0) := by
              have h := own_cell (i := i) HO.out (by rw [hi.out]; exact zeros_get q k (by have := hi.out; omega))
              exact h
            have HY : Hid (TTT w g B l (.returned (.tuple #[.string ⟨#[]⟩, .bool false])) (wr.setCell ⟨w1.heap.size, i, none⟩ (.int .u8 0))) := Lib.hid (by
              obtain ⟨_, h2⟩ := own_put (i := i) (c := 0) (x := 0) HO.out rfl
              refine ⟨?_, .inr ⟨HNO.out, rfl, [], HSR.out.other h2 HGW.out⟩⟩
              have hw : w.heap.size ≤ w1.heap.size := HG.out.size
              exact ⟨h2.os.trans HGR.out.os, h2.tape.trans HGR.out.tape, h2.output.trans HGR.out.output, Nat.le_trans HGR.out.size h2.size, fun b hb hne => (h2.block b (Nat.lt_of_lt_of_le hb HGR.out.size) (fun e => by injection e with e; omega)).trans (HGR.out.block b hb hne)⟩)
            clear hlt hqk
            go_wp2_with (go_at_call 63; refine (next_none' wr g B HSR.out).mono ?_; rintro e w3 ⟨rfl, rfl⟩)
            go_ret2
            exact HY.out
          · have HN : Hid (∀ w3, Src w3 g B t → wr.grownBy w3 (some g) → w3.frozen? ⟨w1.heap.size, i, none⟩ = false ∧ w3.cell? ⟨w1.heap.size, i, none⟩ = some (.int .u8 0) ∧ ∀ x : Int, x = (c.toNat : Int) → ∀ v29, v29 = .int .i64 ((i + 1 : Nat) : Int) → TXL w w1 g B w1.heap.size k r0 v29 (w3.setCell ⟨w1.heap.size, i, none⟩ (.int .u8 x))) := Lib.hid fun w3 hs3 hg3 => by
              have ho3 := HO.out.grown hg3 HNE.out
              refine ⟨own_free ho3, own_cell (i := i) (c := 0) ho3 (by rw [hi.out]; exact zeros_get q k (by have := hi.out; have := HI.out; omega)), fun x hx v29 h29 => ?_⟩
              obtain ⟨h1, h2⟩ := own_put (i := i) ho3 hx
              have hw : w.heap.size ≤ w1.heap.size := HG.out.size
              have hg' := grown_trans HGR.out hg3
              refine ⟨q ++ [c], t, by rw [h29, List.length_append, hi.out]; rfl, by have := hi.out; have := HI.out; rw [List.length_append, List.length_singleton]; omega, by rw [HR0.out, List.append_assoc]; rfl, ?_, hs3.other h2 HGW.out, ?_⟩
              · have e : (q ++ List.replicate (k - q.length) 0).set i c = q ++ [c] ++ List.replicate (k - (q ++ [c]).length) 0 := by
                  have h3 : k - q.length = (k - (q ++ [c]).length) + 1 := by have := hi.out; have := HI.out; rw [List.length_append, List.length_singleton]; omega
                  rw [h3, List.replicate_succ, hi.out, List.set_append_right _ _ (Nat.le_refl _), Nat.sub_self, List.set_cons_zero, List.append_assoc]
                  rfl
                rw [e] at h1
                exact h1
              · exact ⟨h2.os.trans hg'.os, h2.tape.trans hg'.tape, h2.output.trans hg'.output, Nat.le_trans hg'.size h2.size, fun b hb hne => (h2.block b (Nat.lt_of_lt_of_le hb hg'.size) (fun e => by injection e with e; omega)).trans (hg'.block b hb hne)⟩
            clear hlt hqk
            go_wp2_with (go_at_call 63; refine (next_some' wr g B c t HSR.out).mono ?_; rintro e w3 ⟨rfl, hs3, hg3⟩
                         obtain ⟨f0, f1, hN⟩ := HN.out w3 hs3 hg3
                         have HY := Lib.hid (hN _ rfl)
                         clear hs3 hg3 hN)
            go_roundw
            case rel => first | exact HY.out _ (by go_num) | ((repeat apply Exists.intro); exact ⟨HY.out _ (by go_num), rfl⟩)
            case measure => simp [intOf]; omega
        · have hkl : i = k := by omega
          have HOQ : Hid (OwnB wr w1.heap.size (.slice (some ⟨w1.heap.size, 0, none⟩) k k) q) := Lib.hid (by
            have h := HO.out
            have e : k - q.length = 0 := by have := hi.out; omega
            rw [e] at h
            simpa using h)
          have hcv := conv_own HOQ.out
          obtain ⟨sb, hsb⟩ : ∃ sb : ByteArray, Hid (sb = ⟨q.toArray⟩) := ⟨_, Lib.hid rfl⟩
          rw [← hsb.out] at hcv
          have HY : Hid (TTT w g B l (.returned (.tuple #[.string sb, .bool true])) wr) := Lib.hid ⟨HGR.out, .inl ⟨q, r, sb, hsb.out, by have := hi.out; have := HK.out; omega, by
            have h1 : (q.length : Int) = (k : Int) := by have := hi.out; omega
            rw [h1, ← HU.out, HL.out, HR0.out], rfl, HSR.out⟩⟩
          have hnlt : ¬ (i : Int) < (k : Int) := by omega
          clear hlt hqk hkl
          go_wp2_with fail
          go_ret2
          exact HY.out
  · have HY : Hid (TTT w g B l (.returned (.tuple #[.string ⟨#[]⟩, .bool false])) w1) := Lib.hid ⟨hg, .inr ⟨fun s r hs e => hno _ _ (zig_lt (n := (s.length : Int)) (by omega) (by omega)) e, rfl, r1, hs1⟩⟩
    clear hg hno hs1
    go_wp2_with fail
    go_ret2
    exact HY.out
end Go.Proofs.Ythdhifnafgidaaa

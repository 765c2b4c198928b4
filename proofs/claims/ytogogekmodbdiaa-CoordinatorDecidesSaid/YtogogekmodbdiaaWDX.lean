/- Decode of a row, in one text. -/
import Derived.Test.YtogogekmodbdiaaKW
import Derived.Test.YtogogekmodbdiaaWE
import Derived.Test.YtogogekmodbdiaaWH
import Derived.Test.YtogogekmodbdiaaKT
import Derived.Test.YtogogekmodbdiaaKJA
namespace Go.Proofs.Ytogogekmodbdiaa
section
open Go.RowKit
theorem neV (a b d e : Int) (c f : ByteArray) (w : World) : (binOp .neq 110 (.agg #[.int .i64 a, .int .i64 b, .string c]) (.agg #[.int .i64 d, .int .i64 e, .string f])).run Try.prog w = .ok (.bool (!eqB a b c d e f)) w := by
  have h := eqV a b d e c f w
  rw [run_eql_struct] at h
  rw [run_neq_struct]
  generalize (Op.equalIn 10000 110 (.agg #[.int .i64 a, .int .i64 b, .string c]) (.agg #[.int .i64 d, .int .i64 e, .string f])).run Try.prog w = r at h ⊢
  cases r <;> simp [Result.andThen] at h ⊢
  exact h
attribute [local go_sem ↓] neV
end

section
open Go.RowKit
end

section
open Go.RowKit
/-- the source of some bytes, as consume leaves it -/
def CsT (w : World) (l : List UInt8) (e : Ending) (w' : World) : Prop := e = .returned (.func (.func 101) #[] #[.pointer (some ⟨w.heap.size, 0, none⟩)]) ∧ Src w' w.heap.size w.heap.size l ∧ Below w.heap.size w w'
theorem src_new (w : World) (l : List UInt8) (A : Option Addr) (cap : Nat) (hcap : l.length ≤ cap) (hr : RdB w w.heap.size A l) : Src (w.alloc (.cells #[.slice A l.length cap] 56)) w.heap.size w.heap.size l :=
  ⟨A, cap, heap_alloc_new w _, hcap, hr.below (alloc_below w _) (Nat.le_refl _), Nat.le_refl _⟩
set_option maxRecDepth 100000 in
theorem consume_any (l : List UInt8) (A : Option Addr) (n cap : Nat) (hn : n = l.length) (w : World) (hcap : l.length ≤ cap) (hr : RdB w w.heap.size A l) : Calls Try.prog 78 #[.slice A n cap] w (CsT w l) := by
  subst hn
  have HY := Lib.hid (And.intro (src_new w l A cap hcap hr) (alloc_below w (.cells #[.slice A l.length cap] 56)))
  clear hr hcap
  go_enter Try.func78, Try.ntmps78
  go_wp2_with fail
  go_ret
  exact ⟨rfl, HY.out⟩
end

section
open Go.RowKit
theorem made_bytes (n : Nat) : (madeCells (Value.int .u8 0).cells (n * 1)).toList = bytesV (List.replicate n 0) := by
  rw [Nat.mul_one]
  simp only [madeCells, bytesV, Value.cells, List.map_replicate, Array.toList_map, Array.toList_range]
  rw [List.eq_replicate_iff]
  refine ⟨by simp, fun x hx => ?_⟩
  obtain ⟨y, _, rfl⟩ := List.mem_map.1 hx
  simp [Nat.mod_one]
theorem own_put {w : World} {B g n cap i : Nat} {l : List UInt8} {c : UInt8} {x : Int} (h : OwnB w B (.slice (some ⟨g, 0, none⟩) n cap) l) (hx : x = (c.toNat : Int)) :
    OwnB (w.setCell ⟨g, i, none⟩ (.int .u8 x)) B (.slice (some ⟨g, 0, none⟩) n cap) (l.set i c) ∧ w.grownBy (w.setCell ⟨g, i, none⟩ (.int .u8 x)) (some g) := by
  subst hx
  have hn : n = l.length := by
    obtain ⟨A, cp, e, _⟩ := h.2
    injection e
  subst hn
  obtain ⟨h1, h2⟩ := h.1.stored (g := g) i (.int .u8 (c.toNat : Int))
  have e : (bytesV l).set i (.int .u8 (c.toNat : Int)) = bytesV (l.set i c) := by simp [bytesV, List.map_set]
  rw [e] at h1
  have h3 := OwnB.of_row h1
  exact ⟨h3, h2⟩
theorem OwnB.grown {w w' : World} {B g : Nat} {v : Value} {l : List UInt8} (h : OwnB w B v l) (hg : w.grownBy w' (some g)) (hne : v.ownBlock ≠ some g) : OwnB w' B v l := ⟨h.1.kept hg (.inr hne), h.2⟩
/-- a source, behind a change in another block -/
theorem Src.other {W V : World} {g B h : Nat} {l : List UInt8} (hs : Src W g B l) (hg : W.grownBy V (some h)) (hn : g < h) : Src V g B l := by
  obtain ⟨A, cap, h1, h2, h3, h4⟩ := hs
  have hlt := (Array.getElem?_eq_some_iff.1 h1).1
  exact ⟨A, cap, (hg.block _ hlt (fun e => by injection e with e; omega)).trans h1, h2, h3.keep fun k hk => hg.block k (by omega) (fun e => by injection e with e; omega), h4⟩
theorem own_cell {w : World} {B g n cap i : Nat} {l : List UInt8} {c : UInt8} (h : OwnB w B (.slice (some ⟨g, 0, none⟩) n cap) l) (hc : l[i]? = some c) : w.cell? ⟨g, i, none⟩ = some (.int .u8 (c.toNat : Int)) := by
  have hn : n = l.length := by
    obtain ⟨A, cp, e, _⟩ := h.2
    injection e
  subst hn
  have h1 := h.1.cells (g := g) rfl i (.int .u8 (c.toNat : Int)) (by simp [bytesV, hc])
  rw [add_plain] at h1
  exact h1
theorem zeros_get (q : List UInt8) (k : Nat) (h : q.length < k) : (q ++ List.replicate (k - q.length) 0)[q.length]? = some 0 := by
  rw [List.getElem?_append_right (Nat.le_refl _), Nat.sub_self, List.getElem?_replicate, if_pos (by omega)]
theorem own_free {w : World} {B g n cap i : Nat} {l : List UInt8} (h : OwnB w B (.slice (some ⟨g, 0, none⟩) n cap) l) : w.frozen? ⟨g, i, none⟩ = false := by
  rcases h.1.2 with ⟨e, _⟩ | ⟨g', cp, cur, e, _, hh, _⟩
  · cases e
  · injection e with e1
    injection e1 with e1
    injection e1 with e1
    subst e1
    simp [World.frozen?, hh]
/-- what takeText answers -/
def TTT (W : World) (g B : Nat) (l : List UInt8) (e : Ending) (W' : World) : Prop := W.grownBy W' (some g) ∧ ((∃ (s r : List UInt8) (sb : ByteArray), sb = ⟨s.toArray⟩ ∧ s.length ≤ 200 ∧ l = vL (zig (s.length : Int)) ++ (s ++ r) ∧ e = .returned (.tuple #[.string sb, .bool true]) ∧ Src W' g B r) ∨
  ((∀ s r : List UInt8, s.length ≤ 200 → l ≠ vL (zig (s.length : Int)) ++ (s ++ r)) ∧ e = .returned (.tuple #[.string ⟨#[]⟩, .bool false]) ∧ ∃ r, Src W' g B r))
/-- at the head of its loop -/
def TXL (w W1 : World) (g B h k : Nat) (r0 : List UInt8) (v29 : Value) (wr : World) : Prop := ∃ (q r : List UInt8), v29 = .int .i64 q.length ∧ q.length ≤ k ∧ r0 = q ++ r ∧ OwnB wr W1.heap.size (.slice (some ⟨h, 0, none⟩) k k) (q ++ List.replicate (k - q.length) 0) ∧ Src wr g B r ∧ w.grownBy wr (some g)
set_option maxRecDepth 100000 in
set_option maxHeartbeats 40000000 in
theorem takeText_any (l : List UInt8) (g B : Nat) (w : World) (h : Src w g B l) : Calls Try.prog 103 #[.func (.func 101) #[] #[.pointer (some ⟨g, 0, none⟩)]] w (TTT w g B l) := by
  obtain ⟨i0, hi, hz0, hz1, hz2⟩ := info_parts info8
  have HS := Lib.hid h
  have HGL := Lib.hid h.lt
  clear h
  go_enter Try.func103, Try.ntmps103
  go_wp2_with fail
  refine (takeNumber_any l g B w HS.out).mono ?_
  rintro e w1 ⟨hg, ⟨u, r0, hu, hl, rfl, hs1⟩ | ⟨hno, rfl, r1, hs1⟩⟩
  · have HL := Lib.hid hl
    have HG := Lib.hid hg
    have HS1 := Lib.hid hs1
    have HZZ : Hid (∀ n : Int, 0 ≤ n → zig n = u → zag u = n) := Lib.hid fun n _ e => by rw [← e, zag_zig]
    obtain ⟨n, hn⟩ : ∃ n, Hid (n = zag u) := ⟨_, Lib.hid rfl⟩
    rw [← hn.out]
    by_cases hbad : n < 0 ∨ 200 < n
    · have HY : Hid (TTT w g B l (.returned (.tuple #[.string ⟨#[]⟩, .bool false])) w1) := Lib.hid ⟨HG.out, .inr ⟨fun s r hs e => by
          obtain ⟨h1, _⟩ := vL_inj (HL.out.symm.trans e)
          have := HZZ.out (s.length : Int) (by omega) h1.symm
          have := hn.out
          omega, rfl, r0, HS1.out⟩⟩
      clear hu hl hg hs1
      rcases hbad with h | h
      · go_wp2_with fail
        go_ret2
        exact HY.out
      · have h0 : ¬ n < 0 := by omega
        go_wp2_with fail
        go_ret2
        exact HY.out
    · obtain ⟨k, rfl⟩ : ∃ k : Nat, n = (k : Int) := ⟨n.toNat, by omega⟩
      have hk : k ≤ 200 := by omega
      have HU : Hid (u = zig (k : Int)) := Lib.hid (by rw [hn.out, zig_zag])
      have hk0 : ¬ (k : Int) < 0 := by omega
      have hk1 : ¬ (200 : Int) < (k : Int) := by omega
      have hk2 : (k : Int) ≤ 200 := by omega
      have hk3 : (0 : Int) ≤ (k : Int) := by omega
      have HK := Lib.hid hk
      clear hu hl hg hs1 hbad hk
      go_wp2_with (at_make; refine wpList_make_full _ rfl _ _ 56 rfl w1.heap.size 5 i0 (.int .u8 0) 1 Try.underlying56 hi hz0 hz1 .i64 .i64 (k : Int) (k : Int) k rfl rfl rfl rfl (by rw [hz2]; have := HK.out; omega) (by have := HK.out; unfold maxLen; omega) (Nat.le_refl _) ?_; intro w2 hown hgrow
                   rw [made_bytes] at hown
                   have HO2 := Lib.hid (OwnB.of_row hown)
                   have HG2 := Lib.hid hgrow
                   clear hown hgrow)
      have HGW : Hid (g < w1.heap.size) := Lib.hid (Nat.lt_of_lt_of_le HGL.out HG.out.size)
      have HS2 : Hid (Src w2 g B r0) := Lib.hid (by
        obtain ⟨A, cap, h1, h2, h3, h4⟩ := HS1.out
        exact ⟨A, cap, (HG2.out.block _ HGW.out (by simp)).trans h1, h2, h3.keep fun j hj => HG2.out.block j (by have := HGW.out; omega) (by simp), h4⟩)
      have HGG : Hid (w.grownBy w2 (some g)) := Lib.hid (grown_trans HG.out ⟨HG2.out.os, HG2.out.tape, HG2.out.output, HG2.out.size, fun b hb _ => HG2.out.block b hb (by simp)⟩)
      go_loopw [29] (fun v29 wr => TXL w w1 g B w1.heap.size k r0 v29 wr) (fun v29 _ => k - (intOf v29).toNat)
      case atStart => exact ⟨[], r0, rfl, Nat.zero_le _, rfl, by simpa using HO2.out, HS2.out, HGG.out⟩
      case round =>
        obtain ⟨q, r, rfl, hqk, hr0, ho, hsr, hgr⟩ := hrel
        have HR0 := Lib.hid hr0
        have HO := Lib.hid ho
        have HSR := Lib.hid hsr
        have HGR := Lib.hid hgr
        clear hr0 ho hsr hgr
        obtain ⟨i, hi⟩ : ∃ i, Hid (i = q.length) := ⟨_, Lib.hid rfl⟩
        rw [← hi.out] at hqk ⊢
        have HNE : Hid ((Value.slice (some ⟨w1.heap.size, 0, none⟩) k k).ownBlock ≠ some g) := Lib.hid (by simp only [Value.ownBlock]; intro e; injection e with e; have := HGW.out; omega)
        by_cases hlt : i < k
        · have hki : (i : Int) < (k : Int) := by omega
          have hkn : i < k := hlt
          have HI := Lib.hid hlt
          rcases r with _ | ⟨c, t⟩
          · have HNO : Hid (∀ s r : List UInt8, s.length ≤ 200 → l ≠ vL (zig (s.length : Int)) ++ (s ++ r)) := Lib.hid fun s r hs e => by
              obtain ⟨h1, h2⟩ := vL_inj (HL.out.symm.trans e)
              have h3 := HZZ.out (s.length : Int) (by omega) h1.symm
              have h4 := hn.out
              have h5 : s.length = k := by omega
              rw [HR0.out, List.append_nil] at h2
              have h6 := congrArg List.length h2
              rw [List.length_append] at h6
              have h7 := hi.out
              omega
            have f0 := own_free (i := i) HO.out
            have f1 : wr.cell? ⟨w1.heap.size, i, none⟩ = some (.int .u8 0) := by
              have h := own_cell (i := i) HO.out (by rw [hi.out]; exact zeros_get q k (by have := hi.out; omega))
              exact h
            have HY : Hid (TTT w g B l (.returned (.tuple #[.string ⟨#[]⟩, .bool false])) (wr.setCell ⟨w1.heap.size, i, none⟩ (.int .u8 0))) := Lib.hid (by
              obtain ⟨_, h2⟩ := own_put (i := i) (c := 0) (x := 0) HO.out rfl
              refine ⟨?_, .inr ⟨HNO.out, rfl, [], HSR.out.other h2 HGW.out⟩⟩
              have hw : w.heap.size ≤ w1.heap.size := HG.out.size
              exact ⟨h2.os.trans HGR.out.os, h2.tape.trans HGR.out.tape, h2.output.trans HGR.out.output, Nat.le_trans HGR.out.size h2.size, fun b hb hne => (h2.block b (Nat.lt_of_lt_of_le hb HGR.out.size) (fun e => by injection e with e; omega)).trans (HGR.out.block b hb hne)⟩)
            clear hlt hqk
            go_wp2_with (go_at_call 101; refine (next_none' wr g B HSR.out).mono ?_; rintro e w3 ⟨rfl, rfl⟩)
            go_ret2
            exact HY.out
          · have HN : Hid (∀ w3, Src w3 g B t → wr.grownBy w3 (some g) → w3.frozen? ⟨w1.heap.size, i, none⟩ = false ∧ w3.cell? ⟨w1.heap.size, i, none⟩ = some (.int .u8 0) ∧ ∀ x : Int, x = (c.toNat : Int) → ∀ v29, v29 = .int .i64 ((i + 1 : Nat) : Int) → TXL w w1 g B w1.heap.size k r0 v29 (w3.setCell ⟨w1.heap.size, i, none⟩ (.int .u8 x))) := Lib.hid fun w3 hs3 hg3 => by
              have ho3 := HO.out.grown hg3 HNE.out
              refine ⟨own_free ho3, own_cell (i := i) (c := 0) ho3 (by rw [hi.out]; exact zeros_get q k (by have := hi.out; have := HI.out; omega)), fun x hx v29 h29 => ?_⟩
              obtain ⟨h1, h2⟩ := own_put (i := i) ho3 hx
              have hw : w.heap.size ≤ w1.heap.size := HG.out.size
              have hg' := grown_trans HGR.out hg3
              refine ⟨q ++ [c], t, by rw [h29, List.length_append, hi.out]; rfl, by have := hi.out; have := HI.out; rw [List.length_append, List.length_singleton]; omega, by rw [HR0.out, List.append_assoc]; rfl, ?_, hs3.other h2 HGW.out, ?_⟩
              · have e : (q ++ List.replicate (k - q.length) 0).set i c = q ++ [c] ++ List.replicate (k - (q ++ [c]).length) 0 := by
                  have h3 : k - q.length = (k - (q ++ [c]).length) + 1 := by have := hi.out; have := HI.out; rw [List.length_append, List.length_singleton]; omega
                  rw [h3, List.replicate_succ, hi.out, List.set_append_right _ _ (Nat.le_refl _), Nat.sub_self, List.set_cons_zero, List.append_assoc]
                  rfl
                rw [e] at h1
                exact h1
              · exact ⟨h2.os.trans hg'.os, h2.tape.trans hg'.tape, h2.output.trans hg'.output, Nat.le_trans hg'.size h2.size, fun b hb hne => (h2.block b (Nat.lt_of_lt_of_le hb hg'.size) (fun e => by injection e with e; omega)).trans (hg'.block b hb hne)⟩
            clear hlt hqk
            go_wp2_with (go_at_call 101; refine (next_some' wr g B c t HSR.out).mono ?_; rintro e w3 ⟨rfl, hs3, hg3⟩
                         obtain ⟨f0, f1, hN⟩ := HN.out w3 hs3 hg3
                         have HY := Lib.hid (hN _ rfl)
                         clear hs3 hg3 hN)
            go_roundw
            case rel => first | exact HY.out _ (by go_num) | ((repeat apply Exists.intro); exact ⟨HY.out _ (by go_num), rfl⟩)
            case measure => simp [intOf]; omega
        · have hkl : i = k := by omega
          have HOQ : Hid (OwnB wr w1.heap.size (.slice (some ⟨w1.heap.size, 0, none⟩) k k) q) := Lib.hid (by
            have h := HO.out
            have e : k - q.length = 0 := by have := hi.out; omega
            rw [e] at h
            simpa using h)
          have hcv := conv_own HOQ.out
          obtain ⟨sb, hsb⟩ : ∃ sb : ByteArray, Hid (sb = ⟨q.toArray⟩) := ⟨_, Lib.hid rfl⟩
          rw [← hsb.out] at hcv
          have HY : Hid (TTT w g B l (.returned (.tuple #[.string sb, .bool true])) wr) := Lib.hid ⟨HGR.out, .inl ⟨q, r, sb, hsb.out, by have := hi.out; have := HK.out; omega, by
            have h1 : (q.length : Int) = (k : Int) := by have := hi.out; omega
            rw [h1, ← HU.out, HL.out, HR0.out], rfl, HSR.out⟩⟩
          have hnlt : ¬ (i : Int) < (k : Int) := by omega
          clear hlt hqk hkl
          go_wp2_with fail
          go_ret2
          exact HY.out
  · have HY : Hid (TTT w g B l (.returned (.tuple #[.string ⟨#[]⟩, .bool false])) w1) := Lib.hid ⟨hg, .inr ⟨fun s r hs e => hno _ _ (zig_lt (n := (s.length : Int)) (by omega) (by omega)) e, rfl, r1, hs1⟩⟩
    clear hg hno hs1
    go_wp2_with fail
    go_ret2
    exact HY.out
end

section
open Go.RowKit
/-- what takeValue answers -/
def TVT (W : World) (g B : Nat) (l : List UInt8) (e : Ending) (W' : World) : Prop := W.grownBy W' (some g) ∧ ∃ (x : Val) (ok : Bool) (r : List UInt8), e = .returned (.tuple #[x.v, .bool ok]) ∧ Src W' g B r ∧ ((ok = true ∧ x.R ∧ l = rowV x ++ r) ∨ (ok = false ∧ ∀ y r', y.R → l ≠ rowV y ++ r'))
/-- the value's box, the source, and what lay there before -/
structure GS (w : World) (g B : Nat) (W : World) (x : Val) (l : List UInt8) : Prop where
  lt : g < w.heap.size
  box : W.heap[w.heap.size]? = some (.cells #[.int .i64 x.k, .int .i64 x.n, .string x.s] 110 (0, 0))
  gr : w.grownBy W (some g)
  src : Src W g B l
theorem GS.new {w : World} {g B : Nat} {l : List UInt8} (h : Src w g B l) (k n : Int) (s : ByteArray) : GS w g B (w.alloc (.cells #[.int .i64 k, .int .i64 n, .string s] 110)) ⟨k, n, s⟩ l :=
  ⟨h.lt, heap_alloc_new w _, grown_of_below _ (alloc_below w _), h.keep (alloc_below w _)⟩
theorem GS.cells {w W : World} {g B : Nat} {k n : Int} {s : ByteArray} {l : List UInt8} (h : GS w g B W ⟨k, n, s⟩ l) : W.cell? ⟨w.heap.size, 0, none⟩ = some (.int .i64 k) ∧ W.cell? ⟨w.heap.size, 1, none⟩ = some (.int .i64 n) ∧ W.cell? ⟨w.heap.size, 2, none⟩ = some (.string s) := box3 h.box
theorem GS.froz {w W : World} {g B : Nat} {x : Val} {l : List UInt8} (h : GS w g B W x l) : W.frozen? ⟨w.heap.size, 0, none⟩ = false ∧ W.frozen? ⟨w.heap.size, 1, none⟩ = false ∧ W.frozen? ⟨w.heap.size, 2, none⟩ = false := by
  have h1 := h.box
  refine ⟨?_, ?_, ?_⟩ <;> simp [World.frozen?, h1]
theorem GS.size {w W : World} {g B : Nat} {x : Val} {l : List UInt8} (h : GS w g B W x l) : w.heap.size < W.heap.size := (Array.getElem?_eq_some_iff.1 h.box).1
theorem GS.keep {w W V : World} {g B : Nat} {x : Val} {l : List UInt8} (h : GS w g B W x l) (hb : Below W.heap.size W V) : GS w g B V x l :=
  ⟨h.lt, (hb.block _ h.size).trans h.box, grown_trans h.gr (grown_of_below _ hb), h.src.keep hb⟩
theorem GS.drew {w W : World} {g B : Nat} {x : Val} {l : List UInt8} (h : GS w g B W x l) : GS w g B W.drew x l := h.keep (drew_below W)
theorem GS.next {w W V : World} {g B : Nat} {x : Val} {l r : List UInt8} (h : GS w g B W x l) (hs : Src V g B r) (hg : W.grownBy V (some g)) : GS w g B V x r :=
  ⟨h.lt, (hg.block _ h.size (fun e => by injection e with e; have := h.lt; omega)).trans h.box, grown_trans h.gr hg, hs⟩
theorem GS.put {w W : World} {g B : Nat} {x y : Val} {l : List UInt8} {i : Nat} {v : Value} (h : GS w g B W x l) (hb : (W.setCell ⟨w.heap.size, i, none⟩ v).heap[w.heap.size]? = some (.cells #[.int .i64 y.k, .int .i64 y.n, .string y.s] 110 (0, 0))) : GS w g B (W.setCell ⟨w.heap.size, i, none⟩ v) y l := by
  have h2 := grown_set W w.heap.size i v
  have hlt := h.lt
  refine ⟨h.lt, hb, ⟨h2.os.trans h.gr.os, h2.tape.trans h.gr.tape, h2.output.trans h.gr.output, Nat.le_trans h.gr.size h2.size, fun b hb hne => (h2.block b (Nat.lt_of_lt_of_le hb h.gr.size) (fun e => by injection e with e; omega)).trans (h.gr.block b hb hne)⟩, h.src.other h2 hlt⟩
theorem GS.set0 {w W : World} {g B : Nat} {k n : Int} {s : ByteArray} {l : List UInt8} (h : GS w g B W ⟨k, n, s⟩ l) (k' : Int) : GS w g B (W.setCell ⟨w.heap.size, 0, none⟩ (.int .i64 k')) ⟨k', n, s⟩ l := h.put (by
  have h1 := h.box
  simp [World.setCell, Array.getElem?_modify, h1])
theorem GS.set1 {w W : World} {g B : Nat} {k n : Int} {s : ByteArray} {l : List UInt8} (h : GS w g B W ⟨k, n, s⟩ l) (n' : Int) : GS w g B (W.setCell ⟨w.heap.size, 1, none⟩ (.int .i64 n')) ⟨k, n', s⟩ l := h.put (by
  have h1 := h.box
  simp [World.setCell, Array.getElem?_modify, h1])
theorem GS.set2 {w W : World} {g B : Nat} {k n : Int} {s : ByteArray} {l : List UInt8} (h : GS w g B W ⟨k, n, s⟩ l) (s' : ByteArray) : GS w g B (W.setCell ⟨w.heap.size, 2, none⟩ (.string s')) ⟨k, n, s'⟩ l := h.put (by
  have h1 := h.box
  simp [World.setCell, Array.getElem?_modify, h1])
theorem GS.set {w W : World} {g B : Nat} {k n : Int} {s : ByteArray} {l : List UInt8} (h : GS w g B W ⟨k, n, s⟩ l) : GS w g B (((W.setCell ⟨w.heap.size, 0, none⟩ (.int .i64 k)).setCell ⟨w.heap.size, 1, none⟩ (.int .i64 n)).setCell ⟨w.heap.size, 2, none⟩ (.string s)) ⟨k, n, s⟩ l := ((h.set0 k).set1 n).set2 s
/-- the first byte is the kind -/
theorem row_head {c : UInt8} {t r : List UInt8} {y : Val} (hy : y.R) (h : c :: t = rowV y ++ r) : y.k = (c.toNat : Int) ∧ t = bodyR y.k y.n y.s.data.toList ++ r := by
  unfold rowV at h
  rw [List.cons_append, List.cons.injEq] at h
  have hk := R_k hy
  have g := congrArg UInt8.toNat h.1
  rw [ofNat_toNat (by omega)] at g
  exact ⟨by omega, h.2⟩
theorem rowR_none (y : Val) (r : List UInt8) : [] ≠ rowV y ++ r := by simp [rowV]
theorem rowR_kind {c : UInt8} {t : List UInt8} (h : 5 < c.toNat) : ∀ y r, Val.R y → c :: t ≠ rowV y ++ r := fun y r hy e => by
  have := (row_head hy e).1
  have := R_k hy
  omega
theorem row_0 (t : List UInt8) : Val.R ⟨0, 0, ⟨#[]⟩⟩ ∧ 0 :: t = rowV ⟨0, 0, ⟨#[]⟩⟩ ++ t := ⟨⟨by decide, ⟨by unfold i64ok; decide, by unfold i64ok; decide⟩⟩, rfl⟩
theorem row_1n : ∀ y r, Val.R y → [1] ≠ rowV y ++ r := fun y r hy e => by
  obtain ⟨h1, h2⟩ := row_head hy e
  have h1' : y.k = 1 := h1
  simp [bodyR, h1'] at h2
theorem row_1y {d : UInt8} (h : d.toNat ≤ 1) (t : List UInt8) : Val.R ⟨1, d.toNat, ⟨#[]⟩⟩ ∧ 1 :: d :: t = rowV ⟨1, d.toNat, ⟨#[]⟩⟩ ++ t := by
  have : d = 0 ∨ d = 1 := by
    rcases Nat.lt_or_ge d.toNat 1 with h1 | h1
    · exact .inl (u8_ext (by have : (0 : UInt8).toNat = 0 := rfl; omega))
    · exact .inr (u8_ext (by have : (1 : UInt8).toNat = 1 := rfl; omega))
  rcases this with rfl | rfl
  · exact ⟨⟨by decide, ⟨by unfold i64ok; decide, by unfold i64ok; decide⟩⟩, rfl⟩
  · exact ⟨⟨by decide, ⟨by unfold i64ok; decide, by unfold i64ok; decide⟩⟩, rfl⟩
theorem row_1b {d : UInt8} {t : List UInt8} (h : 1 < d.toNat) : ∀ y r, Val.R y → 1 :: d :: t ≠ rowV y ++ r := fun y r hy e => by
  obtain ⟨h1, h2⟩ := row_head hy e
  have h1' : y.k = 1 := h1
  rcases hy.cases with ⟨a, _⟩ | ⟨a, b, _⟩ | ⟨a, _⟩ | ⟨a, _⟩
  · omega
  · rw [h1'] at h2
    simp only [bodyR, if_true, List.cons_append, List.nil_append, List.cons.injEq] at h2
    have g := congrArg UInt8.toNat h2.1
    rw [ofNat_toNat (by omega)] at g
    omega
  · omega
  · omega
theorem row_num {c : UInt8} {u : Nat} (hc : c.toNat = 2 ∨ c.toNat = 3) (hu : u < 18446744073709551616) (r : List UInt8) : Val.R ⟨c.toNat, zag u, ⟨#[]⟩⟩ ∧ c :: (vL u ++ r) = rowV ⟨c.toNat, zag u, ⟨#[]⟩⟩ ++ r := by
  have hk : ((c.toNat : Nat) : Int) = 2 ∨ ((c.toNat : Nat) : Int) = 3 := by omega
  refine ⟨⟨?_, ⟨by unfold i64ok; constructor <;> simp only <;> omega, zag_ok hu⟩⟩, ?_⟩
  · unfold rightB
    rw [if_neg (by simp only; omega), if_pos (by simp only; omega)]
    rfl
  · unfold rowV bodyR
    simp only
    rw [if_neg (by omega), if_pos hk, zig_zag]
    congr 1
    exact u8_ext (by simp)
theorem row_numn {c : UInt8} {t : List UInt8} (hc : c.toNat = 2 ∨ c.toNat = 3) (h : ∀ u r, u < 18446744073709551616 → t ≠ vL u ++ r) : ∀ y r, Val.R y → c :: t ≠ rowV y ++ r := fun y r hy e => by
  obtain ⟨h1, h2⟩ := row_head hy e
  unfold bodyR at h2
  rw [if_neg (by omega), if_pos (by omega)] at h2
  exact h _ _ (zig_lt hy.2.2.1 hy.2.2.2) h2
theorem row_text {c : UInt8} {s : List UInt8} (hc : c.toNat = 4 ∨ c.toNat = 5) (hs : s.length ≤ 200) (r : List UInt8) : Val.R ⟨c.toNat, 0, ⟨s.toArray⟩⟩ ∧ c :: (vL (zig (s.length : Int)) ++ (s ++ r)) = rowV ⟨c.toNat, 0, ⟨s.toArray⟩⟩ ++ r := by
  refine ⟨⟨?_, ⟨by unfold i64ok; constructor <;> simp only <;> omega, by unfold i64ok; constructor <;> simp only <;> omega⟩⟩, ?_⟩
  · unfold rightB
    rw [if_neg (by simp only; omega), if_neg (by simp only; omega), if_pos (by simp only; omega)]
    have : (⟨s.toArray⟩ : ByteArray).size = s.length := by show s.toArray.size = s.length; simp
    simp [this, hs]
  · unfold rowV bodyR
    simp only
    rw [if_neg (by omega), if_neg (by omega), if_pos (by omega), List.cons_append, List.append_assoc]
    congr 1
    exact u8_ext (by simp)
theorem row_textn {c : UInt8} {t : List UInt8} (hc : c.toNat = 4 ∨ c.toNat = 5) (h : ∀ s r : List UInt8, s.length ≤ 200 → t ≠ vL (zig (s.length : Int)) ++ (s ++ r)) : ∀ y r, Val.R y → c :: t ≠ rowV y ++ r := fun y r hy e => by
  obtain ⟨h1, h2⟩ := row_head hy e
  unfold bodyR at h2
  rw [if_neg (by omega), if_neg (by omega), if_pos (by omega), List.append_assoc] at h2
  refine h y.s.data.toList r ?_ h2
  rcases hy.cases with ⟨a, _⟩ | ⟨a, _⟩ | ⟨a, _⟩ | ⟨a, _, b⟩
  · omega
  · omega
  · omega
  · have e2 : y.s.data.toList.length = y.s.size := by simp
    omega
end

section
open Go.RowKit
theorem right_no_kindR {k : Int} (h : 5 < k) : rightB ⟨k, 0, ⟨#[]⟩⟩ = false := by
  unfold rightB
  rw [if_neg (by simp only; omega), if_neg (by simp only; omega), if_neg (by simp only; omega)]
theorem right_no_boolR {N : Int} (h : 1 < N) (h2 : N < 256) : rightB ⟨1, N, ⟨#[]⟩⟩ = false := by
  rw [Bool.eq_false_iff]
  intro hR
  rcases Val.R.cases (x := ⟨1, N, ⟨#[]⟩⟩) ⟨hR, ⟨by unfold i64ok; simp only; omega, by unfold i64ok; simp only; omega⟩⟩ with ⟨a, _⟩ | ⟨_, b, _⟩ | ⟨a, _⟩ | ⟨a, _⟩ <;> simp only at * <;> omega
theorem takeNumber_yes (u : Nat) (r : List UInt8) (g B : Nat) (w : World) (hu : u < 18446744073709551616) (h : Src w g B (vL u ++ r)) : Calls Try.prog 102 #[.func (.func 101) #[] #[.pointer (some ⟨g, 0, none⟩)]] w (fun e w' => e = .returned (.tuple #[.int .i64 (zag u), .int .i64 ((vL u).length : Int), .bool true]) ∧ Src w' g B r ∧ w.grownBy w' (some g)) := (takeNumber_any _ g B w h).mono fun e w' ⟨hg, hc⟩ => by
  rcases hc with ⟨v, s, _, h2, rfl, hs⟩ | ⟨hno, _⟩
  · obtain ⟨rfl, rfl⟩ := vL_inj h2
    exact ⟨rfl, hs, hg⟩
  · exact absurd rfl (hno u r hu)
theorem takeNumber_no (t : List UInt8) (g B : Nat) (w : World) (hno : ∀ u r, u < 18446744073709551616 → t ≠ vL u ++ r) (h : Src w g B t) : Calls Try.prog 102 #[.func (.func 101) #[] #[.pointer (some ⟨g, 0, none⟩)]] w (fun e w' => e = .returned (.tuple #[.int .i64 0, .int .i64 0, .bool false]) ∧ ∃ r, Src w' g B r ∧ w.grownBy w' (some g)) := (takeNumber_any _ g B w h).mono fun e w' ⟨hg, hc⟩ => by
  rcases hc with ⟨v, s, hv, h2, _⟩ | ⟨_, rfl, r, hs⟩
  · exact absurd h2 (hno v s hv)
  · exact ⟨rfl, r, hs, hg⟩
theorem takeText_yes (s r : List UInt8) (g B : Nat) (w : World) (hs : s.length ≤ 200) (sb : ByteArray) (hsb : sb = ⟨s.toArray⟩) (h : Src w g B (vL (zig (s.length : Int)) ++ (s ++ r))) : Calls Try.prog 103 #[.func (.func 101) #[] #[.pointer (some ⟨g, 0, none⟩)]] w (fun e w' => e = .returned (.tuple #[.string sb, .bool true]) ∧ Src w' g B r ∧ w.grownBy w' (some g)) := (takeText_any _ g B w h).mono fun e w' ⟨hg, hc⟩ => by
  rcases hc with ⟨s', r', sb', hb', _, h2, rfl, hs'⟩ | ⟨hno, _⟩
  · obtain ⟨h3, h4⟩ := vL_inj h2
    have h5 : s.length = s'.length := by have := zig_inj h3; omega
    obtain ⟨rfl, rfl⟩ := List.append_inj h4 h5
    subst hb' hsb
    exact ⟨rfl, hs', hg⟩
  · exact absurd rfl (hno s r hs)
theorem takeText_no (t : List UInt8) (g B : Nat) (w : World) (hno : ∀ s r : List UInt8, s.length ≤ 200 → t ≠ vL (zig (s.length : Int)) ++ (s ++ r)) (h : Src w g B t) : Calls Try.prog 103 #[.func (.func 101) #[] #[.pointer (some ⟨g, 0, none⟩)]] w (fun e w' => e = .returned (.tuple #[.string ⟨#[]⟩, .bool false]) ∧ ∃ r, Src w' g B r ∧ w.grownBy w' (some g)) := (takeText_any _ g B w h).mono fun e w' ⟨hg, hc⟩ => by
  rcases hc with ⟨s', r', sb', _, hl, h2, _⟩ | ⟨_, rfl, r, hs⟩
  · exact absurd h2 (hno s' r' hl)
  · exact ⟨rfl, r, hs, hg⟩
end

section
open Go.RowKit
set_option maxRecDepth 100000 in
set_option maxHeartbeats 8000000 in
theorem tv_nil (g B : Nat) (w : World) (h : Src w g B ([])) : Calls Try.prog 79 #[.func (.func 101) #[] #[.pointer (some ⟨g, 0, none⟩)]] w (TVT w g B ([])) := by
  have HS := Lib.hid (GS.new h 0 0 ⟨#[]⟩)
  clear h
  have HY : Hid (∀ W, GS w g B W ⟨0, 0, ⟨#[]⟩⟩ ([]) → TVT w g B ([]) (.returned (.tuple #[.agg #[.int .i64 0, .int .i64 0, .string ⟨#[]⟩], .bool false])) W) := Lib.hid fun W hW => ⟨hW.gr, ⟨0, 0, ⟨#[]⟩⟩, false, [], rfl, hW.src, .inr ⟨rfl, fun y r _ => rowR_none y r⟩⟩
  go_enter Try.func79, Try.ntmps79
  go_wp2_with fail
  refine (next_none' _ g B HS.out.src).mono ?_
  rintro e w1 ⟨rfl, rfl⟩
  obtain ⟨f0, f1, f2⟩ := HS.out.froz
  obtain ⟨y0, y1, y2⟩ := HS.out.cells
  go_wp2_with fail
  all_goals first
    | (refine bodyPost_ret (v := .tuple #[.agg #[.int .i64 0, .int .i64 0, .string ⟨#[]⟩], .bool false]) (by simp [results, Try.results79, go_sem]) rfl ?_
       exact HY.out _ HS.out.set)
    | (obtain ⟨z0, z1, z2⟩ := HS.out.cells
       refine bodyPost_ret (v := .tuple #[.agg #[.int .i64 0, .int .i64 0, .string ⟨#[]⟩], .bool false]) (by simp [results, Try.results79, go_sem, z0, z1, z2]) rfl ?_
       exact HY.out _ HS.out)
    | fail
set_option maxRecDepth 100000 in
set_option maxHeartbeats 8000000 in
theorem tv_0 (t : List UInt8) (g B : Nat) (w : World) (h : Src w g B (0 :: t)) : Calls Try.prog 79 #[.func (.func 101) #[] #[.pointer (some ⟨g, 0, none⟩)]] w (TVT w g B (0 :: t)) := by
  have HS := Lib.hid (GS.new h 0 0 ⟨#[]⟩)
  clear h
  have HY : Hid (∀ W, GS w g B W ⟨0, 0, ⟨#[]⟩⟩ (t) → TVT w g B (0 :: t) (.returned (.tuple #[.agg #[.int .i64 0, .int .i64 0, .string ⟨#[]⟩], .bool true])) W) := Lib.hid fun W hW => ⟨hW.gr, ⟨0, 0, ⟨#[]⟩⟩, true, t, rfl, hW.src, .inl ⟨rfl, row_0 t⟩⟩
  have RA : Hid (∀ w, Calls Try.prog 81 #[.agg #[.int .i64 0, .int .i64 0, .string ⟨#[]⟩]] w (Ans (.bool true) w)) := Lib.hid fun w => by
    have h := right_at' ⟨0, 0, ⟨#[]⟩⟩ (by exact Nat.zero_le _) w
    rw [show rightB ⟨0, 0, ⟨#[]⟩⟩ = true from (row_0 []).1.1] at h
    exact h
  go_enter Try.func79, Try.ntmps79
  go_wp2_with fail
  refine (nextX_at _ g B 0 t 0 (by first | rfl | decide | exact HXC.out) HS.out.src).mono ?_
  rintro e w1 ⟨rfl, hs1, hg1⟩
  have HV := Lib.hid (HS.out.next hs1 hg1)
  obtain ⟨f0, f1, f2⟩ := HV.out.froz
  obtain ⟨y0, y1, y2⟩ := HV.out.cells
  have HS := Lib.hid (HV.out.set0 0)
  clear hs1 hg1
  go_wp2_with fail
  go_region_held3 (fun W => W.cell? ⟨w.heap.size, 0, none⟩ = some (.int .i64 0) ∧ W.cell? ⟨w.heap.size, 1, none⟩ = some (.int .i64 0) ∧ W.cell? ⟨w.heap.size, 2, none⟩ = some (.string ⟨#[]⟩))
    (first | exact HS.out.cells | exact HS.out.drew.cells | exact HS.out.drew.drew.cells | exact HS.out.set.cells | exact HS.out.drew.set.cells | exact HS.out.drew.drew.set.cells | go_keep)
    ((go_at_call 81
      refine (RA.out _).mono ?_
      rintro e w2 ⟨rfl, hb2⟩
      have HS := Lib.hid (GS.keep (by first | exact HS.out | exact HS.out.drew | exact HS.out.drew.drew | exact HS.out.drew.drew.drew) hb2)
      obtain ⟨f0, f1, f2⟩ := HS.out.froz
      clear hb2))
  all_goals go_wp2_with fail
  all_goals first
    | (obtain ⟨z0, z1, z2⟩ := HS.out.set.cells
       refine bodyPost_ret (v := .tuple #[.agg #[.int .i64 0, .int .i64 0, .string ⟨#[]⟩], .bool true]) (by simp [results, Try.results79, go_sem, z0, z1, z2]) rfl ?_
       exact HY.out _ HS.out.set)
    | (obtain ⟨z0, z1, z2⟩ := HS.out.set.drew.cells
       refine bodyPost_ret (v := .tuple #[.agg #[.int .i64 0, .int .i64 0, .string ⟨#[]⟩], .bool true]) (by simp [results, Try.results79, go_sem, z0, z1, z2]) rfl ?_
       exact HY.out _ HS.out.set.drew)
    | (obtain ⟨z0, z1, z2⟩ := HS.out.drew.set.cells
       refine bodyPost_ret (v := .tuple #[.agg #[.int .i64 0, .int .i64 0, .string ⟨#[]⟩], .bool true]) (by simp [results, Try.results79, go_sem, z0, z1, z2]) rfl ?_
       exact HY.out _ HS.out.drew.set)
    | (obtain ⟨z0, z1, z2⟩ := HS.out.set.drew.drew.cells
       refine bodyPost_ret (v := .tuple #[.agg #[.int .i64 0, .int .i64 0, .string ⟨#[]⟩], .bool true]) (by simp [results, Try.results79, go_sem, z0, z1, z2]) rfl ?_
       exact HY.out _ HS.out.set.drew.drew)
    | (obtain ⟨z0, z1, z2⟩ := HS.out.drew.drew.set.cells
       refine bodyPost_ret (v := .tuple #[.agg #[.int .i64 0, .int .i64 0, .string ⟨#[]⟩], .bool true]) (by simp [results, Try.results79, go_sem, z0, z1, z2]) rfl ?_
       exact HY.out _ HS.out.drew.drew.set)
    | fail
set_option maxRecDepth 100000 in
set_option maxHeartbeats 8000000 in
theorem tv_x (c : UInt8) (t : List UInt8) (g B : Nat) (w : World) (h : Src w g B (c :: t)) (hc5 : 5 < c.toNat) : Calls Try.prog 79 #[.func (.func 101) #[] #[.pointer (some ⟨g, 0, none⟩)]] w (TVT w g B (c :: t)) := by
  have HS := Lib.hid (GS.new h 0 0 ⟨#[]⟩)
  clear h
  obtain ⟨x, HXC⟩ : ∃ x : Int, Hid (x = (c.toNat : Int)) := ⟨_, Lib.hid rfl⟩
  have hx5 : 5 < x := by rw [HXC.out]; omega
  have hx9 : x < 256 := by have := c.toNat_lt; rw [HXC.out]; omega
  have hw : wrap64 x = x := by unfold wrap64; omega
  have e1 : (x == 1) = false := beq_false_of_ne (by omega)
  have e2 : (x == 2) = false := beq_false_of_ne (by omega)
  have e3 : (x == 3) = false := beq_false_of_ne (by omega)
  have e4 : (x == 4) = false := beq_false_of_ne (by omega)
  have e5 : (x == 5) = false := beq_false_of_ne (by omega)
  have HX5 := Lib.hid hx5
  clear hx5 hx9
  have HY : Hid (∀ W, GS w g B W ⟨x, 0, ⟨#[]⟩⟩ (t) → TVT w g B (c :: t) (.returned (.tuple #[.agg #[.int .i64 x, .int .i64 0, .string ⟨#[]⟩], .bool false])) W) := Lib.hid fun W hW => ⟨hW.gr, ⟨x, 0, ⟨#[]⟩⟩, false, t, rfl, hW.src, .inr ⟨rfl, rowR_kind hc5⟩⟩
  have RA : Hid (∀ w, Calls Try.prog 81 #[.agg #[.int .i64 x, .int .i64 0, .string ⟨#[]⟩]] w (Ans (.bool false) w)) := Lib.hid fun w => by
    have h := right_at' ⟨x, 0, ⟨#[]⟩⟩ (by exact Nat.zero_le _) w
    rw [show rightB ⟨x, 0, ⟨#[]⟩⟩ = false from right_no_kindR HX5.out] at h
    exact h
  go_enter Try.func79, Try.ntmps79
  go_wp2_with fail
  refine (nextX_at _ g B c t x (by first | rfl | decide | exact HXC.out) HS.out.src).mono ?_
  rintro e w1 ⟨rfl, hs1, hg1⟩
  have HV := Lib.hid (HS.out.next hs1 hg1)
  obtain ⟨f0, f1, f2⟩ := HV.out.froz
  obtain ⟨y0, y1, y2⟩ := HV.out.cells
  have HS := Lib.hid (HV.out.set0 x)
  clear hs1 hg1
  go_wp2_with fail
  go_region_held3 (fun W => W.cell? ⟨w.heap.size, 0, none⟩ = some (.int .i64 x) ∧ W.cell? ⟨w.heap.size, 1, none⟩ = some (.int .i64 0) ∧ W.cell? ⟨w.heap.size, 2, none⟩ = some (.string ⟨#[]⟩))
    (first | exact HS.out.cells | exact HS.out.drew.cells | exact HS.out.drew.drew.cells | exact HS.out.set.cells | exact HS.out.drew.set.cells | exact HS.out.drew.drew.set.cells | go_keep)
    ((go_at_call 81
      refine (RA.out _).mono ?_
      rintro e w2 ⟨rfl, hb2⟩
      have HS := Lib.hid (GS.keep (by first | exact HS.out | exact HS.out.drew | exact HS.out.drew.drew | exact HS.out.drew.drew.drew) hb2)
      obtain ⟨f0, f1, f2⟩ := HS.out.froz
      clear hb2))
  all_goals go_wp2_with fail
  all_goals first
    | (obtain ⟨z0, z1, z2⟩ := HS.out.set.cells
       refine bodyPost_ret (v := .tuple #[.agg #[.int .i64 x, .int .i64 0, .string ⟨#[]⟩], .bool false]) (by simp [results, Try.results79, go_sem, z0, z1, z2]) rfl ?_
       exact HY.out _ HS.out.set)
    | (obtain ⟨z0, z1, z2⟩ := HS.out.set.drew.cells
       refine bodyPost_ret (v := .tuple #[.agg #[.int .i64 x, .int .i64 0, .string ⟨#[]⟩], .bool false]) (by simp [results, Try.results79, go_sem, z0, z1, z2]) rfl ?_
       exact HY.out _ HS.out.set.drew)
    | (obtain ⟨z0, z1, z2⟩ := HS.out.drew.set.cells
       refine bodyPost_ret (v := .tuple #[.agg #[.int .i64 x, .int .i64 0, .string ⟨#[]⟩], .bool false]) (by simp [results, Try.results79, go_sem, z0, z1, z2]) rfl ?_
       exact HY.out _ HS.out.drew.set)
    | (obtain ⟨z0, z1, z2⟩ := HS.out.set.drew.drew.cells
       refine bodyPost_ret (v := .tuple #[.agg #[.int .i64 x, .int .i64 0, .string ⟨#[]⟩], .bool false]) (by simp [results, Try.results79, go_sem, z0, z1, z2]) rfl ?_
       exact HY.out _ HS.out.set.drew.drew)
    | (obtain ⟨z0, z1, z2⟩ := HS.out.drew.drew.set.cells
       refine bodyPost_ret (v := .tuple #[.agg #[.int .i64 x, .int .i64 0, .string ⟨#[]⟩], .bool false]) (by simp [results, Try.results79, go_sem, z0, z1, z2]) rfl ?_
       exact HY.out _ HS.out.drew.drew.set)
    | fail
set_option maxRecDepth 100000 in
set_option maxHeartbeats 8000000 in
theorem tv_1n (g B : Nat) (w : World) (h : Src w g B ([1])) : Calls Try.prog 79 #[.func (.func 101) #[] #[.pointer (some ⟨g, 0, none⟩)]] w (TVT w g B ([1])) := by
  have HS := Lib.hid (GS.new h 0 0 ⟨#[]⟩)
  clear h
  have HY : Hid (∀ W, GS w g B W ⟨1, 0, ⟨#[]⟩⟩ ([]) → TVT w g B ([1]) (.returned (.tuple #[.agg #[.int .i64 1, .int .i64 0, .string ⟨#[]⟩], .bool false])) W) := Lib.hid fun W hW => ⟨hW.gr, ⟨1, 0, ⟨#[]⟩⟩, false, [], rfl, hW.src, .inr ⟨rfl, row_1n⟩⟩
  go_enter Try.func79, Try.ntmps79
  go_wp2_with fail
  refine (nextX_at _ g B 1 [] 1 (by first | rfl | decide | exact HXC.out) HS.out.src).mono ?_
  rintro e w1 ⟨rfl, hs1, hg1⟩
  have HV := Lib.hid (HS.out.next hs1 hg1)
  obtain ⟨f0, f1, f2⟩ := HV.out.froz
  obtain ⟨y0, y1, y2⟩ := HV.out.cells
  have HS := Lib.hid (HV.out.set0 1)
  clear hs1 hg1
  go_wp2_with fail
  refine (next_none' _ g B HS.out.src).mono ?_
  rintro e w2 ⟨rfl, rfl⟩
  obtain ⟨f0, f1, f2⟩ := HS.out.froz
  obtain ⟨y0, y1, y2⟩ := HS.out.cells
  have HS := Lib.hid (HS.out.set1 0)
  go_wp2_with fail
  first | (go_region_law (fail)) | fail
  all_goals go_wp2_with fail
  all_goals first
    | (obtain ⟨z0, z1, z2⟩ := HS.out.set.cells
       refine bodyPost_ret (v := .tuple #[.agg #[.int .i64 1, .int .i64 0, .string ⟨#[]⟩], .bool false]) (by simp [results, Try.results79, go_sem, z0, z1, z2]) rfl ?_
       exact HY.out _ HS.out.set)
    | (obtain ⟨z0, z1, z2⟩ := HS.out.set.drew.cells
       refine bodyPost_ret (v := .tuple #[.agg #[.int .i64 1, .int .i64 0, .string ⟨#[]⟩], .bool false]) (by simp [results, Try.results79, go_sem, z0, z1, z2]) rfl ?_
       exact HY.out _ HS.out.set.drew)
    | (obtain ⟨z0, z1, z2⟩ := HS.out.drew.set.cells
       refine bodyPost_ret (v := .tuple #[.agg #[.int .i64 1, .int .i64 0, .string ⟨#[]⟩], .bool false]) (by simp [results, Try.results79, go_sem, z0, z1, z2]) rfl ?_
       exact HY.out _ HS.out.drew.set)
    | (obtain ⟨z0, z1, z2⟩ := HS.out.set.drew.drew.cells
       refine bodyPost_ret (v := .tuple #[.agg #[.int .i64 1, .int .i64 0, .string ⟨#[]⟩], .bool false]) (by simp [results, Try.results79, go_sem, z0, z1, z2]) rfl ?_
       exact HY.out _ HS.out.set.drew.drew)
    | (obtain ⟨z0, z1, z2⟩ := HS.out.drew.drew.set.cells
       refine bodyPost_ret (v := .tuple #[.agg #[.int .i64 1, .int .i64 0, .string ⟨#[]⟩], .bool false]) (by simp [results, Try.results79, go_sem, z0, z1, z2]) rfl ?_
       exact HY.out _ HS.out.drew.drew.set)
    | fail
set_option maxRecDepth 100000 in
set_option maxHeartbeats 8000000 in
theorem tv_1y (d : UInt8) (t : List UInt8) (g B : Nat) (w : World) (h : Src w g B (1 :: d :: t)) (hd : d.toNat ≤ 1) : Calls Try.prog 79 #[.func (.func 101) #[] #[.pointer (some ⟨g, 0, none⟩)]] w (TVT w g B (1 :: d :: t)) := by
  have HS := Lib.hid (GS.new h 0 0 ⟨#[]⟩)
  clear h
  obtain ⟨x, HXC⟩ : ∃ x : Int, Hid (x = (d.toNat : Int)) := ⟨_, Lib.hid rfl⟩
  have hN : wrap64 x = x := by have := d.toNat_lt; rw [HXC.out]; unfold wrap64; omega
  have HY : Hid (∀ W, GS w g B W ⟨1, x, ⟨#[]⟩⟩ (t) → TVT w g B (1 :: d :: t) (.returned (.tuple #[.agg #[.int .i64 1, .int .i64 x, .string ⟨#[]⟩], .bool true])) W) := Lib.hid fun W hW => ⟨hW.gr, ⟨1, x, ⟨#[]⟩⟩, true, t, rfl, hW.src, .inl ⟨rfl, by rw [HXC.out]; exact row_1y hd t⟩⟩
  have RA : Hid (∀ w, Calls Try.prog 81 #[.agg #[.int .i64 1, .int .i64 x, .string ⟨#[]⟩]] w (Ans (.bool true) w)) := Lib.hid fun w => by
    have h := right_at' ⟨1, x, ⟨#[]⟩⟩ (by exact Nat.zero_le _) w
    rw [show rightB ⟨1, x, ⟨#[]⟩⟩ = true from by rw [HXC.out]; exact (row_1y hd []).1.1] at h
    exact h
  go_enter Try.func79, Try.ntmps79
  go_wp2_with fail
  refine (nextX_at _ g B 1 (d :: t) 1 (by first | rfl | decide | exact HXC.out) HS.out.src).mono ?_
  rintro e w1 ⟨rfl, hs1, hg1⟩
  have HV := Lib.hid (HS.out.next hs1 hg1)
  obtain ⟨f0, f1, f2⟩ := HV.out.froz
  obtain ⟨y0, y1, y2⟩ := HV.out.cells
  have HS := Lib.hid (HV.out.set0 1)
  clear hs1 hg1
  go_wp2_with fail
  refine (nextX_at _ g B d t x HXC.out HS.out.src).mono ?_
  rintro e w3 ⟨rfl, hs3, hg3⟩
  have HV := Lib.hid (HS.out.next hs3 hg3)
  obtain ⟨f0, f1, f2⟩ := HV.out.froz
  obtain ⟨y0, y1, y2⟩ := HV.out.cells
  have HS := Lib.hid (HV.out.set1 x)
  clear hs3 hg3
  go_wp2_with fail
  go_region_held3 (fun W => W.cell? ⟨w.heap.size, 0, none⟩ = some (.int .i64 1) ∧ W.cell? ⟨w.heap.size, 1, none⟩ = some (.int .i64 x) ∧ W.cell? ⟨w.heap.size, 2, none⟩ = some (.string ⟨#[]⟩))
    (first | exact HS.out.cells | exact HS.out.drew.cells | exact HS.out.drew.drew.cells | exact HS.out.set.cells | exact HS.out.drew.set.cells | exact HS.out.drew.drew.set.cells | go_keep)
    ((go_at_call 81
      refine (RA.out _).mono ?_
      rintro e w2 ⟨rfl, hb2⟩
      have HS := Lib.hid (GS.keep (by first | exact HS.out | exact HS.out.drew | exact HS.out.drew.drew | exact HS.out.drew.drew.drew) hb2)
      obtain ⟨f0, f1, f2⟩ := HS.out.froz
      clear hb2))
  all_goals go_wp2_with fail
  all_goals first
    | (obtain ⟨z0, z1, z2⟩ := HS.out.set.cells
       refine bodyPost_ret (v := .tuple #[.agg #[.int .i64 1, .int .i64 x, .string ⟨#[]⟩], .bool true]) (by simp [results, Try.results79, go_sem, z0, z1, z2]) rfl ?_
       exact HY.out _ HS.out.set)
    | (obtain ⟨z0, z1, z2⟩ := HS.out.set.drew.cells
       refine bodyPost_ret (v := .tuple #[.agg #[.int .i64 1, .int .i64 x, .string ⟨#[]⟩], .bool true]) (by simp [results, Try.results79, go_sem, z0, z1, z2]) rfl ?_
       exact HY.out _ HS.out.set.drew)
    | (obtain ⟨z0, z1, z2⟩ := HS.out.drew.set.cells
       refine bodyPost_ret (v := .tuple #[.agg #[.int .i64 1, .int .i64 x, .string ⟨#[]⟩], .bool true]) (by simp [results, Try.results79, go_sem, z0, z1, z2]) rfl ?_
       exact HY.out _ HS.out.drew.set)
    | (obtain ⟨z0, z1, z2⟩ := HS.out.set.drew.drew.cells
       refine bodyPost_ret (v := .tuple #[.agg #[.int .i64 1, .int .i64 x, .string ⟨#[]⟩], .bool true]) (by simp [results, Try.results79, go_sem, z0, z1, z2]) rfl ?_
       exact HY.out _ HS.out.set.drew.drew)
    | (obtain ⟨z0, z1, z2⟩ := HS.out.drew.drew.set.cells
       refine bodyPost_ret (v := .tuple #[.agg #[.int .i64 1, .int .i64 x, .string ⟨#[]⟩], .bool true]) (by simp [results, Try.results79, go_sem, z0, z1, z2]) rfl ?_
       exact HY.out _ HS.out.drew.drew.set)
    | fail
set_option maxRecDepth 100000 in
set_option maxHeartbeats 8000000 in
theorem tv_1b (d : UInt8) (t : List UInt8) (g B : Nat) (w : World) (h : Src w g B (1 :: d :: t)) (hd : 1 < d.toNat) : Calls Try.prog 79 #[.func (.func 101) #[] #[.pointer (some ⟨g, 0, none⟩)]] w (TVT w g B (1 :: d :: t)) := by
  have HS := Lib.hid (GS.new h 0 0 ⟨#[]⟩)
  clear h
  obtain ⟨x, HXC⟩ : ∃ x : Int, Hid (x = (d.toNat : Int)) := ⟨_, Lib.hid rfl⟩
  have hN : wrap64 x = x := by have := d.toNat_lt; rw [HXC.out]; unfold wrap64; omega
  have HY : Hid (∀ W, GS w g B W ⟨1, x, ⟨#[]⟩⟩ (t) → TVT w g B (1 :: d :: t) (.returned (.tuple #[.agg #[.int .i64 1, .int .i64 x, .string ⟨#[]⟩], .bool false])) W) := Lib.hid fun W hW => ⟨hW.gr, ⟨1, x, ⟨#[]⟩⟩, false, t, rfl, hW.src, .inr ⟨rfl, row_1b hd⟩⟩
  have RA : Hid (∀ w, Calls Try.prog 81 #[.agg #[.int .i64 1, .int .i64 x, .string ⟨#[]⟩]] w (Ans (.bool false) w)) := Lib.hid fun w => by
    have h := right_at' ⟨1, x, ⟨#[]⟩⟩ (by exact Nat.zero_le _) w
    rw [show rightB ⟨1, x, ⟨#[]⟩⟩ = false from right_no_boolR (by rw [HXC.out]; omega) (by have := d.toNat_lt; rw [HXC.out]; omega)] at h
    exact h
  go_enter Try.func79, Try.ntmps79
  go_wp2_with fail
  refine (nextX_at _ g B 1 (d :: t) 1 (by first | rfl | decide | exact HXC.out) HS.out.src).mono ?_
  rintro e w1 ⟨rfl, hs1, hg1⟩
  have HV := Lib.hid (HS.out.next hs1 hg1)
  obtain ⟨f0, f1, f2⟩ := HV.out.froz
  obtain ⟨y0, y1, y2⟩ := HV.out.cells
  have HS := Lib.hid (HV.out.set0 1)
  clear hs1 hg1
  go_wp2_with fail
  refine (nextX_at _ g B d t x HXC.out HS.out.src).mono ?_
  rintro e w3 ⟨rfl, hs3, hg3⟩
  have HV := Lib.hid (HS.out.next hs3 hg3)
  obtain ⟨f0, f1, f2⟩ := HV.out.froz
  obtain ⟨y0, y1, y2⟩ := HV.out.cells
  have HS := Lib.hid (HV.out.set1 x)
  clear hs3 hg3
  go_wp2_with fail
  go_region_held3 (fun W => W.cell? ⟨w.heap.size, 0, none⟩ = some (.int .i64 1) ∧ W.cell? ⟨w.heap.size, 1, none⟩ = some (.int .i64 x) ∧ W.cell? ⟨w.heap.size, 2, none⟩ = some (.string ⟨#[]⟩))
    (first | exact HS.out.cells | exact HS.out.drew.cells | exact HS.out.drew.drew.cells | exact HS.out.set.cells | exact HS.out.drew.set.cells | exact HS.out.drew.drew.set.cells | go_keep)
    ((go_at_call 81
      refine (RA.out _).mono ?_
      rintro e w2 ⟨rfl, hb2⟩
      have HS := Lib.hid (GS.keep (by first | exact HS.out | exact HS.out.drew | exact HS.out.drew.drew | exact HS.out.drew.drew.drew) hb2)
      obtain ⟨f0, f1, f2⟩ := HS.out.froz
      clear hb2))
  all_goals go_wp2_with fail
  all_goals first
    | (obtain ⟨z0, z1, z2⟩ := HS.out.set.cells
       refine bodyPost_ret (v := .tuple #[.agg #[.int .i64 1, .int .i64 x, .string ⟨#[]⟩], .bool false]) (by simp [results, Try.results79, go_sem, z0, z1, z2]) rfl ?_
       exact HY.out _ HS.out.set)
    | (obtain ⟨z0, z1, z2⟩ := HS.out.set.drew.cells
       refine bodyPost_ret (v := .tuple #[.agg #[.int .i64 1, .int .i64 x, .string ⟨#[]⟩], .bool false]) (by simp [results, Try.results79, go_sem, z0, z1, z2]) rfl ?_
       exact HY.out _ HS.out.set.drew)
    | (obtain ⟨z0, z1, z2⟩ := HS.out.drew.set.cells
       refine bodyPost_ret (v := .tuple #[.agg #[.int .i64 1, .int .i64 x, .string ⟨#[]⟩], .bool false]) (by simp [results, Try.results79, go_sem, z0, z1, z2]) rfl ?_
       exact HY.out _ HS.out.drew.set)
    | (obtain ⟨z0, z1, z2⟩ := HS.out.set.drew.drew.cells
       refine bodyPost_ret (v := .tuple #[.agg #[.int .i64 1, .int .i64 x, .string ⟨#[]⟩], .bool false]) (by simp [results, Try.results79, go_sem, z0, z1, z2]) rfl ?_
       exact HY.out _ HS.out.set.drew.drew)
    | (obtain ⟨z0, z1, z2⟩ := HS.out.drew.drew.set.cells
       refine bodyPost_ret (v := .tuple #[.agg #[.int .i64 1, .int .i64 x, .string ⟨#[]⟩], .bool false]) (by simp [results, Try.results79, go_sem, z0, z1, z2]) rfl ?_
       exact HY.out _ HS.out.drew.drew.set)
    | fail
end

section
open Go.RowKit
set_option maxRecDepth 100000 in
set_option maxHeartbeats 8000000 in
theorem tv_2y (u : Nat) (r : List UInt8) (g B : Nat) (w : World) (h : Src w g B (2 :: (vL u ++ r))) (hu : u < 18446744073709551616) : Calls Try.prog 79 #[.func (.func 101) #[] #[.pointer (some ⟨g, 0, none⟩)]] w (TVT w g B (2 :: (vL u ++ r))) := by
  have HS := Lib.hid (GS.new h 0 0 ⟨#[]⟩)
  clear h
  obtain ⟨n, HN⟩ : ∃ n : Int, Hid (n = zag u) := ⟨_, Lib.hid rfl⟩
  have HRN : Hid (Val.R ⟨2, n, ⟨#[]⟩⟩ ∧ 2 :: (vL u ++ r) = rowV ⟨2, n, ⟨#[]⟩⟩ ++ r) := Lib.hid (by rw [HN.out]; exact row_num (c := 2) (by decide) hu r)
  have HU := Lib.hid hu
  clear hu
  have HY : Hid (∀ W, GS w g B W ⟨2, n, ⟨#[]⟩⟩ (r) → TVT w g B (2 :: (vL u ++ r)) (.returned (.tuple #[.agg #[.int .i64 2, .int .i64 n, .string ⟨#[]⟩], .bool true])) W) := Lib.hid fun W hW => ⟨hW.gr, ⟨2, n, ⟨#[]⟩⟩, true, r, rfl, hW.src, .inl ⟨rfl, HRN.out⟩⟩
  have RA : Hid (∀ w, Calls Try.prog 81 #[.agg #[.int .i64 2, .int .i64 n, .string ⟨#[]⟩]] w (Ans (.bool true) w)) := Lib.hid fun w => by
    have h := right_at' ⟨2, n, ⟨#[]⟩⟩ (by exact Nat.zero_le _) w
    rw [show rightB ⟨2, n, ⟨#[]⟩⟩ = true from HRN.out.1.1] at h
    exact h
  go_enter Try.func79, Try.ntmps79
  go_wp2_with fail
  refine (nextX_at _ g B 2 (vL u ++ r) 2 (by first | rfl | decide | exact HXC.out) HS.out.src).mono ?_
  rintro e w1 ⟨rfl, hs1, hg1⟩
  have HV := Lib.hid (HS.out.next hs1 hg1)
  obtain ⟨f0, f1, f2⟩ := HV.out.froz
  obtain ⟨y0, y1, y2⟩ := HV.out.cells
  have HS := Lib.hid (HV.out.set0 2)
  clear hs1 hg1
  go_wp2_with fail
  refine (takeNumber_yes u r g B _ HU.out HS.out.src).mono ?_
  rintro e w3 ⟨rfl, hs3, hg3⟩
  rw [← HN.out]
  have HV := Lib.hid (HS.out.next hs3 hg3)
  obtain ⟨f0, f1, f2⟩ := HV.out.froz
  obtain ⟨y0, y1, y2⟩ := HV.out.cells
  have HS := Lib.hid (HV.out.set1 n)
  clear hs3 hg3
  go_wp2_with fail
  go_region_held3 (fun W => W.cell? ⟨w.heap.size, 0, none⟩ = some (.int .i64 2) ∧ W.cell? ⟨w.heap.size, 1, none⟩ = some (.int .i64 n) ∧ W.cell? ⟨w.heap.size, 2, none⟩ = some (.string ⟨#[]⟩))
    (first | exact HS.out.cells | exact HS.out.drew.cells | exact HS.out.drew.drew.cells | exact HS.out.set.cells | exact HS.out.drew.set.cells | exact HS.out.drew.drew.set.cells | go_keep)
    ((go_at_call 81
      refine (RA.out _).mono ?_
      rintro e w2 ⟨rfl, hb2⟩
      have HS := Lib.hid (GS.keep (by first | exact HS.out | exact HS.out.drew | exact HS.out.drew.drew | exact HS.out.drew.drew.drew) hb2)
      obtain ⟨f0, f1, f2⟩ := HS.out.froz
      clear hb2))
  all_goals go_wp2_with fail
  all_goals first
    | (obtain ⟨z0, z1, z2⟩ := HS.out.set.cells
       refine bodyPost_ret (v := .tuple #[.agg #[.int .i64 2, .int .i64 n, .string ⟨#[]⟩], .bool true]) (by simp [results, Try.results79, go_sem, z0, z1, z2]) rfl ?_
       exact HY.out _ HS.out.set)
    | (obtain ⟨z0, z1, z2⟩ := HS.out.set.drew.cells
       refine bodyPost_ret (v := .tuple #[.agg #[.int .i64 2, .int .i64 n, .string ⟨#[]⟩], .bool true]) (by simp [results, Try.results79, go_sem, z0, z1, z2]) rfl ?_
       exact HY.out _ HS.out.set.drew)
    | (obtain ⟨z0, z1, z2⟩ := HS.out.drew.set.cells
       refine bodyPost_ret (v := .tuple #[.agg #[.int .i64 2, .int .i64 n, .string ⟨#[]⟩], .bool true]) (by simp [results, Try.results79, go_sem, z0, z1, z2]) rfl ?_
       exact HY.out _ HS.out.drew.set)
    | (obtain ⟨z0, z1, z2⟩ := HS.out.set.drew.drew.cells
       refine bodyPost_ret (v := .tuple #[.agg #[.int .i64 2, .int .i64 n, .string ⟨#[]⟩], .bool true]) (by simp [results, Try.results79, go_sem, z0, z1, z2]) rfl ?_
       exact HY.out _ HS.out.set.drew.drew)
    | (obtain ⟨z0, z1, z2⟩ := HS.out.drew.drew.set.cells
       refine bodyPost_ret (v := .tuple #[.agg #[.int .i64 2, .int .i64 n, .string ⟨#[]⟩], .bool true]) (by simp [results, Try.results79, go_sem, z0, z1, z2]) rfl ?_
       exact HY.out _ HS.out.drew.drew.set)
    | fail
set_option maxRecDepth 100000 in
set_option maxHeartbeats 8000000 in
theorem tv_2n (t : List UInt8) (g B : Nat) (w : World) (h : Src w g B (2 :: t)) (hno : ∀ u r, u < 18446744073709551616 → t ≠ vL u ++ r) : Calls Try.prog 79 #[.func (.func 101) #[] #[.pointer (some ⟨g, 0, none⟩)]] w (TVT w g B (2 :: t)) := by
  have HS := Lib.hid (GS.new h 0 0 ⟨#[]⟩)
  clear h
  have HNO := Lib.hid hno
  clear hno
  have HY : Hid (∀ W r, GS w g B W ⟨2, 0, ⟨#[]⟩⟩ r → TVT w g B (2 :: t) (.returned (.tuple #[.agg #[.int .i64 2, .int .i64 0, .string ⟨#[]⟩], .bool false])) W) := Lib.hid fun W r hW => ⟨hW.gr, ⟨2, 0, ⟨#[]⟩⟩, false, r, rfl, hW.src, .inr ⟨rfl, row_numn (c := 2) (by decide) HNO.out⟩⟩
  go_enter Try.func79, Try.ntmps79
  go_wp2_with fail
  refine (nextX_at _ g B 2 t 2 (by first | rfl | decide | exact HXC.out) HS.out.src).mono ?_
  rintro e w1 ⟨rfl, hs1, hg1⟩
  have HV := Lib.hid (HS.out.next hs1 hg1)
  obtain ⟨f0, f1, f2⟩ := HV.out.froz
  obtain ⟨y0, y1, y2⟩ := HV.out.cells
  have HS := Lib.hid (HV.out.set0 2)
  clear hs1 hg1
  go_wp2_with fail
  refine (takeNumber_no t g B _ HNO.out HS.out.src).mono ?_
  rintro e w3 ⟨rfl, r3, hs3, hg3⟩
  have HV := Lib.hid (HS.out.next hs3 hg3)
  obtain ⟨f0, f1, f2⟩ := HV.out.froz
  obtain ⟨y0, y1, y2⟩ := HV.out.cells
  have HS := Lib.hid (HV.out.set1 0)
  clear hs3 hg3
  go_wp2_with fail
  first | (go_region_law (fail)) | fail
  all_goals go_wp2_with fail
  all_goals first
    | (obtain ⟨z0, z1, z2⟩ := HS.out.set.cells
       refine bodyPost_ret (v := .tuple #[.agg #[.int .i64 2, .int .i64 0, .string ⟨#[]⟩], .bool false]) (by simp [results, Try.results79, go_sem, z0, z1, z2]) rfl ?_
       exact HY.out _ _ HS.out.set)
    | (obtain ⟨z0, z1, z2⟩ := HS.out.set.drew.cells
       refine bodyPost_ret (v := .tuple #[.agg #[.int .i64 2, .int .i64 0, .string ⟨#[]⟩], .bool false]) (by simp [results, Try.results79, go_sem, z0, z1, z2]) rfl ?_
       exact HY.out _ _ HS.out.set.drew)
    | (obtain ⟨z0, z1, z2⟩ := HS.out.drew.set.cells
       refine bodyPost_ret (v := .tuple #[.agg #[.int .i64 2, .int .i64 0, .string ⟨#[]⟩], .bool false]) (by simp [results, Try.results79, go_sem, z0, z1, z2]) rfl ?_
       exact HY.out _ _ HS.out.drew.set)
    | (obtain ⟨z0, z1, z2⟩ := HS.out.set.drew.drew.cells
       refine bodyPost_ret (v := .tuple #[.agg #[.int .i64 2, .int .i64 0, .string ⟨#[]⟩], .bool false]) (by simp [results, Try.results79, go_sem, z0, z1, z2]) rfl ?_
       exact HY.out _ _ HS.out.set.drew.drew)
    | (obtain ⟨z0, z1, z2⟩ := HS.out.drew.drew.set.cells
       refine bodyPost_ret (v := .tuple #[.agg #[.int .i64 2, .int .i64 0, .string ⟨#[]⟩], .bool false]) (by simp [results, Try.results79, go_sem, z0, z1, z2]) rfl ?_
       exact HY.out _ _ HS.out.drew.drew.set)
    | fail
set_option maxRecDepth 100000 in
set_option maxHeartbeats 8000000 in
theorem tv_3y (u : Nat) (r : List UInt8) (g B : Nat) (w : World) (h : Src w g B (3 :: (vL u ++ r))) (hu : u < 18446744073709551616) : Calls Try.prog 79 #[.func (.func 101) #[] #[.pointer (some ⟨g, 0, none⟩)]] w (TVT w g B (3 :: (vL u ++ r))) := by
  have HS := Lib.hid (GS.new h 0 0 ⟨#[]⟩)
  clear h
  obtain ⟨n, HN⟩ : ∃ n : Int, Hid (n = zag u) := ⟨_, Lib.hid rfl⟩
  have HRN : Hid (Val.R ⟨3, n, ⟨#[]⟩⟩ ∧ 3 :: (vL u ++ r) = rowV ⟨3, n, ⟨#[]⟩⟩ ++ r) := Lib.hid (by rw [HN.out]; exact row_num (c := 3) (by decide) hu r)
  have HU := Lib.hid hu
  clear hu
  have HY : Hid (∀ W, GS w g B W ⟨3, n, ⟨#[]⟩⟩ (r) → TVT w g B (3 :: (vL u ++ r)) (.returned (.tuple #[.agg #[.int .i64 3, .int .i64 n, .string ⟨#[]⟩], .bool true])) W) := Lib.hid fun W hW => ⟨hW.gr, ⟨3, n, ⟨#[]⟩⟩, true, r, rfl, hW.src, .inl ⟨rfl, HRN.out⟩⟩
  have RA : Hid (∀ w, Calls Try.prog 81 #[.agg #[.int .i64 3, .int .i64 n, .string ⟨#[]⟩]] w (Ans (.bool true) w)) := Lib.hid fun w => by
    have h := right_at' ⟨3, n, ⟨#[]⟩⟩ (by exact Nat.zero_le _) w
    rw [show rightB ⟨3, n, ⟨#[]⟩⟩ = true from HRN.out.1.1] at h
    exact h
  go_enter Try.func79, Try.ntmps79
  go_wp2_with fail
  refine (nextX_at _ g B 3 (vL u ++ r) 3 (by first | rfl | decide | exact HXC.out) HS.out.src).mono ?_
  rintro e w1 ⟨rfl, hs1, hg1⟩
  have HV := Lib.hid (HS.out.next hs1 hg1)
  obtain ⟨f0, f1, f2⟩ := HV.out.froz
  obtain ⟨y0, y1, y2⟩ := HV.out.cells
  have HS := Lib.hid (HV.out.set0 3)
  clear hs1 hg1
  go_wp2_with fail
  refine (takeNumber_yes u r g B _ HU.out HS.out.src).mono ?_
  rintro e w3 ⟨rfl, hs3, hg3⟩
  rw [← HN.out]
  have HV := Lib.hid (HS.out.next hs3 hg3)
  obtain ⟨f0, f1, f2⟩ := HV.out.froz
  obtain ⟨y0, y1, y2⟩ := HV.out.cells
  have HS := Lib.hid (HV.out.set1 n)
  clear hs3 hg3
  go_wp2_with fail
  go_region_held3 (fun W => W.cell? ⟨w.heap.size, 0, none⟩ = some (.int .i64 3) ∧ W.cell? ⟨w.heap.size, 1, none⟩ = some (.int .i64 n) ∧ W.cell? ⟨w.heap.size, 2, none⟩ = some (.string ⟨#[]⟩))
    (first | exact HS.out.cells | exact HS.out.drew.cells | exact HS.out.drew.drew.cells | exact HS.out.set.cells | exact HS.out.drew.set.cells | exact HS.out.drew.drew.set.cells | go_keep)
    ((go_at_call 81
      refine (RA.out _).mono ?_
      rintro e w2 ⟨rfl, hb2⟩
      have HS := Lib.hid (GS.keep (by first | exact HS.out | exact HS.out.drew | exact HS.out.drew.drew | exact HS.out.drew.drew.drew) hb2)
      obtain ⟨f0, f1, f2⟩ := HS.out.froz
      clear hb2))
  all_goals go_wp2_with fail
  all_goals first
    | (obtain ⟨z0, z1, z2⟩ := HS.out.set.cells
       refine bodyPost_ret (v := .tuple #[.agg #[.int .i64 3, .int .i64 n, .string ⟨#[]⟩], .bool true]) (by simp [results, Try.results79, go_sem, z0, z1, z2]) rfl ?_
       exact HY.out _ HS.out.set)
    | (obtain ⟨z0, z1, z2⟩ := HS.out.set.drew.cells
       refine bodyPost_ret (v := .tuple #[.agg #[.int .i64 3, .int .i64 n, .string ⟨#[]⟩], .bool true]) (by simp [results, Try.results79, go_sem, z0, z1, z2]) rfl ?_
       exact HY.out _ HS.out.set.drew)
    | (obtain ⟨z0, z1, z2⟩ := HS.out.drew.set.cells
       refine bodyPost_ret (v := .tuple #[.agg #[.int .i64 3, .int .i64 n, .string ⟨#[]⟩], .bool true]) (by simp [results, Try.results79, go_sem, z0, z1, z2]) rfl ?_
       exact HY.out _ HS.out.drew.set)
    | (obtain ⟨z0, z1, z2⟩ := HS.out.set.drew.drew.cells
       refine bodyPost_ret (v := .tuple #[.agg #[.int .i64 3, .int .i64 n, .string ⟨#[]⟩], .bool true]) (by simp [results, Try.results79, go_sem, z0, z1, z2]) rfl ?_
       exact HY.out _ HS.out.set.drew.drew)
    | (obtain ⟨z0, z1, z2⟩ := HS.out.drew.drew.set.cells
       refine bodyPost_ret (v := .tuple #[.agg #[.int .i64 3, .int .i64 n, .string ⟨#[]⟩], .bool true]) (by simp [results, Try.results79, go_sem, z0, z1, z2]) rfl ?_
       exact HY.out _ HS.out.drew.drew.set)
    | fail
set_option maxRecDepth 100000 in
set_option maxHeartbeats 8000000 in
theorem tv_3n (t : List UInt8) (g B : Nat) (w : World) (h : Src w g B (3 :: t)) (hno : ∀ u r, u < 18446744073709551616 → t ≠ vL u ++ r) : Calls Try.prog 79 #[.func (.func 101) #[] #[.pointer (some ⟨g, 0, none⟩)]] w (TVT w g B (3 :: t)) := by
  have HS := Lib.hid (GS.new h 0 0 ⟨#[]⟩)
  clear h
  have HNO := Lib.hid hno
  clear hno
  have HY : Hid (∀ W r, GS w g B W ⟨3, 0, ⟨#[]⟩⟩ r → TVT w g B (3 :: t) (.returned (.tuple #[.agg #[.int .i64 3, .int .i64 0, .string ⟨#[]⟩], .bool false])) W) := Lib.hid fun W r hW => ⟨hW.gr, ⟨3, 0, ⟨#[]⟩⟩, false, r, rfl, hW.src, .inr ⟨rfl, row_numn (c := 3) (by decide) HNO.out⟩⟩
  go_enter Try.func79, Try.ntmps79
  go_wp2_with fail
  refine (nextX_at _ g B 3 t 3 (by first | rfl | decide | exact HXC.out) HS.out.src).mono ?_
  rintro e w1 ⟨rfl, hs1, hg1⟩
  have HV := Lib.hid (HS.out.next hs1 hg1)
  obtain ⟨f0, f1, f2⟩ := HV.out.froz
  obtain ⟨y0, y1, y2⟩ := HV.out.cells
  have HS := Lib.hid (HV.out.set0 3)
  clear hs1 hg1
  go_wp2_with fail
  refine (takeNumber_no t g B _ HNO.out HS.out.src).mono ?_
  rintro e w3 ⟨rfl, r3, hs3, hg3⟩
  have HV := Lib.hid (HS.out.next hs3 hg3)
  obtain ⟨f0, f1, f2⟩ := HV.out.froz
  obtain ⟨y0, y1, y2⟩ := HV.out.cells
  have HS := Lib.hid (HV.out.set1 0)
  clear hs3 hg3
  go_wp2_with fail
  first | (go_region_law (fail)) | fail
  all_goals go_wp2_with fail
  all_goals first
    | (obtain ⟨z0, z1, z2⟩ := HS.out.set.cells
       refine bodyPost_ret (v := .tuple #[.agg #[.int .i64 3, .int .i64 0, .string ⟨#[]⟩], .bool false]) (by simp [results, Try.results79, go_sem, z0, z1, z2]) rfl ?_
       exact HY.out _ _ HS.out.set)
    | (obtain ⟨z0, z1, z2⟩ := HS.out.set.drew.cells
       refine bodyPost_ret (v := .tuple #[.agg #[.int .i64 3, .int .i64 0, .string ⟨#[]⟩], .bool false]) (by simp [results, Try.results79, go_sem, z0, z1, z2]) rfl ?_
       exact HY.out _ _ HS.out.set.drew)
    | (obtain ⟨z0, z1, z2⟩ := HS.out.drew.set.cells
       refine bodyPost_ret (v := .tuple #[.agg #[.int .i64 3, .int .i64 0, .string ⟨#[]⟩], .bool false]) (by simp [results, Try.results79, go_sem, z0, z1, z2]) rfl ?_
       exact HY.out _ _ HS.out.drew.set)
    | (obtain ⟨z0, z1, z2⟩ := HS.out.set.drew.drew.cells
       refine bodyPost_ret (v := .tuple #[.agg #[.int .i64 3, .int .i64 0, .string ⟨#[]⟩], .bool false]) (by simp [results, Try.results79, go_sem, z0, z1, z2]) rfl ?_
       exact HY.out _ _ HS.out.set.drew.drew)
    | (obtain ⟨z0, z1, z2⟩ := HS.out.drew.drew.set.cells
       refine bodyPost_ret (v := .tuple #[.agg #[.int .i64 3, .int .i64 0, .string ⟨#[]⟩], .bool false]) (by simp [results, Try.results79, go_sem, z0, z1, z2]) rfl ?_
       exact HY.out _ _ HS.out.drew.drew.set)
    | fail
end

section
open Go.RowKit
set_option maxRecDepth 100000 in
set_option maxHeartbeats 8000000 in
theorem tv_4y (s r : List UInt8) (g B : Nat) (w : World) (h : Src w g B (4 :: (vL (zig (s.length : Int)) ++ (s ++ r)))) (hs : s.length ≤ 200) : Calls Try.prog 79 #[.func (.func 101) #[] #[.pointer (some ⟨g, 0, none⟩)]] w (TVT w g B (4 :: (vL (zig (s.length : Int)) ++ (s ++ r)))) := by
  have HS := Lib.hid (GS.new h 0 0 ⟨#[]⟩)
  clear h
  obtain ⟨sb, HSB⟩ : ∃ sb : ByteArray, Hid (sb = ⟨s.toArray⟩) := ⟨_, Lib.hid rfl⟩
  have HRN : Hid (Val.R ⟨4, 0, sb⟩ ∧ 4 :: (vL (zig (s.length : Int)) ++ (s ++ r)) = rowV ⟨4, 0, sb⟩ ++ r) := Lib.hid (by rw [HSB.out]; exact row_text (c := 4) (by decide) hs r)
  have HSZ : Hid (sb.size ≤ 9223372036854775807) := Lib.hid (by
    have h4 : sb.size = s.length := by rw [HSB.out]; show s.toArray.size = s.length; simp
    omega)
  have HSL := Lib.hid hs
  clear hs
  have HY : Hid (∀ W, GS w g B W ⟨4, 0, sb⟩ (r) → TVT w g B (4 :: (vL (zig (s.length : Int)) ++ (s ++ r))) (.returned (.tuple #[.agg #[.int .i64 4, .int .i64 0, .string sb], .bool true])) W) := Lib.hid fun W hW => ⟨hW.gr, ⟨4, 0, sb⟩, true, r, rfl, hW.src, .inl ⟨rfl, HRN.out⟩⟩
  have RA : Hid (∀ w, Calls Try.prog 81 #[.agg #[.int .i64 4, .int .i64 0, .string sb]] w (Ans (.bool true) w)) := Lib.hid fun w => by
    have h := right_at' ⟨4, 0, sb⟩ (by exact HSZ.out) w
    rw [show rightB ⟨4, 0, sb⟩ = true from HRN.out.1.1] at h
    exact h
  go_enter Try.func79, Try.ntmps79
  go_wp2_with fail
  refine (nextX_at _ g B 4 (vL (zig (s.length : Int)) ++ (s ++ r)) 4 (by first | rfl | decide | exact HXC.out) HS.out.src).mono ?_
  rintro e w1 ⟨rfl, hs1, hg1⟩
  have HV := Lib.hid (HS.out.next hs1 hg1)
  obtain ⟨f0, f1, f2⟩ := HV.out.froz
  obtain ⟨y0, y1, y2⟩ := HV.out.cells
  have HS := Lib.hid (HV.out.set0 4)
  clear hs1 hg1
  go_wp2_with fail
  refine (takeText_yes s r g B _ HSL.out sb HSB.out HS.out.src).mono ?_
  rintro e w3 ⟨rfl, hs3, hg3⟩
  have HV := Lib.hid (HS.out.next hs3 hg3)
  obtain ⟨f0, f1, f2⟩ := HV.out.froz
  obtain ⟨y0, y1, y2⟩ := HV.out.cells
  have HS := Lib.hid (HV.out.set2 sb)
  clear hs3 hg3
  go_wp2_with fail
  go_region_held3 (fun W => W.cell? ⟨w.heap.size, 0, none⟩ = some (.int .i64 4) ∧ W.cell? ⟨w.heap.size, 1, none⟩ = some (.int .i64 0) ∧ W.cell? ⟨w.heap.size, 2, none⟩ = some (.string sb))
    (first | exact HS.out.cells | exact HS.out.drew.cells | exact HS.out.drew.drew.cells | exact HS.out.set.cells | exact HS.out.drew.set.cells | exact HS.out.drew.drew.set.cells | go_keep)
    ((go_at_call 81
      refine (RA.out _).mono ?_
      rintro e w2 ⟨rfl, hb2⟩
      have HS := Lib.hid (GS.keep (by first | exact HS.out | exact HS.out.drew | exact HS.out.drew.drew | exact HS.out.drew.drew.drew) hb2)
      obtain ⟨f0, f1, f2⟩ := HS.out.froz
      clear hb2))
  all_goals go_wp2_with fail
  all_goals first
    | (obtain ⟨z0, z1, z2⟩ := HS.out.set.cells
       refine bodyPost_ret (v := .tuple #[.agg #[.int .i64 4, .int .i64 0, .string sb], .bool true]) (by simp [results, Try.results79, go_sem, z0, z1, z2]) rfl ?_
       exact HY.out _ HS.out.set)
    | (obtain ⟨z0, z1, z2⟩ := HS.out.set.drew.cells
       refine bodyPost_ret (v := .tuple #[.agg #[.int .i64 4, .int .i64 0, .string sb], .bool true]) (by simp [results, Try.results79, go_sem, z0, z1, z2]) rfl ?_
       exact HY.out _ HS.out.set.drew)
    | (obtain ⟨z0, z1, z2⟩ := HS.out.drew.set.cells
       refine bodyPost_ret (v := .tuple #[.agg #[.int .i64 4, .int .i64 0, .string sb], .bool true]) (by simp [results, Try.results79, go_sem, z0, z1, z2]) rfl ?_
       exact HY.out _ HS.out.drew.set)
    | (obtain ⟨z0, z1, z2⟩ := HS.out.set.drew.drew.cells
       refine bodyPost_ret (v := .tuple #[.agg #[.int .i64 4, .int .i64 0, .string sb], .bool true]) (by simp [results, Try.results79, go_sem, z0, z1, z2]) rfl ?_
       exact HY.out _ HS.out.set.drew.drew)
    | (obtain ⟨z0, z1, z2⟩ := HS.out.drew.drew.set.cells
       refine bodyPost_ret (v := .tuple #[.agg #[.int .i64 4, .int .i64 0, .string sb], .bool true]) (by simp [results, Try.results79, go_sem, z0, z1, z2]) rfl ?_
       exact HY.out _ HS.out.drew.drew.set)
    | fail
set_option maxRecDepth 100000 in
set_option maxHeartbeats 8000000 in
theorem tv_4n (t : List UInt8) (g B : Nat) (w : World) (h : Src w g B (4 :: t)) (hno : ∀ s r : List UInt8, s.length ≤ 200 → t ≠ vL (zig (s.length : Int)) ++ (s ++ r)) : Calls Try.prog 79 #[.func (.func 101) #[] #[.pointer (some ⟨g, 0, none⟩)]] w (TVT w g B (4 :: t)) := by
  have HS := Lib.hid (GS.new h 0 0 ⟨#[]⟩)
  clear h
  have HNO := Lib.hid hno
  clear hno
  have HY : Hid (∀ W r, GS w g B W ⟨4, 0, ⟨#[]⟩⟩ r → TVT w g B (4 :: t) (.returned (.tuple #[.agg #[.int .i64 4, .int .i64 0, .string ⟨#[]⟩], .bool false])) W) := Lib.hid fun W r hW => ⟨hW.gr, ⟨4, 0, ⟨#[]⟩⟩, false, r, rfl, hW.src, .inr ⟨rfl, row_textn (c := 4) (by decide) HNO.out⟩⟩
  go_enter Try.func79, Try.ntmps79
  go_wp2_with fail
  refine (nextX_at _ g B 4 t 4 (by first | rfl | decide | exact HXC.out) HS.out.src).mono ?_
  rintro e w1 ⟨rfl, hs1, hg1⟩
  have HV := Lib.hid (HS.out.next hs1 hg1)
  obtain ⟨f0, f1, f2⟩ := HV.out.froz
  obtain ⟨y0, y1, y2⟩ := HV.out.cells
  have HS := Lib.hid (HV.out.set0 4)
  clear hs1 hg1
  go_wp2_with fail
  refine (takeText_no t g B _ HNO.out HS.out.src).mono ?_
  rintro e w3 ⟨rfl, r3, hs3, hg3⟩
  have HV := Lib.hid (HS.out.next hs3 hg3)
  obtain ⟨f0, f1, f2⟩ := HV.out.froz
  obtain ⟨y0, y1, y2⟩ := HV.out.cells
  have HS := Lib.hid (HV.out.set2 ⟨#[]⟩)
  clear hs3 hg3
  go_wp2_with fail
  first | (go_region_law (fail)) | fail
  all_goals go_wp2_with fail
  all_goals first
    | (obtain ⟨z0, z1, z2⟩ := HS.out.set.cells
       refine bodyPost_ret (v := .tuple #[.agg #[.int .i64 4, .int .i64 0, .string ⟨#[]⟩], .bool false]) (by simp [results, Try.results79, go_sem, z0, z1, z2]) rfl ?_
       exact HY.out _ _ HS.out.set)
    | (obtain ⟨z0, z1, z2⟩ := HS.out.set.drew.cells
       refine bodyPost_ret (v := .tuple #[.agg #[.int .i64 4, .int .i64 0, .string ⟨#[]⟩], .bool false]) (by simp [results, Try.results79, go_sem, z0, z1, z2]) rfl ?_
       exact HY.out _ _ HS.out.set.drew)
    | (obtain ⟨z0, z1, z2⟩ := HS.out.drew.set.cells
       refine bodyPost_ret (v := .tuple #[.agg #[.int .i64 4, .int .i64 0, .string ⟨#[]⟩], .bool false]) (by simp [results, Try.results79, go_sem, z0, z1, z2]) rfl ?_
       exact HY.out _ _ HS.out.drew.set)
    | (obtain ⟨z0, z1, z2⟩ := HS.out.set.drew.drew.cells
       refine bodyPost_ret (v := .tuple #[.agg #[.int .i64 4, .int .i64 0, .string ⟨#[]⟩], .bool false]) (by simp [results, Try.results79, go_sem, z0, z1, z2]) rfl ?_
       exact HY.out _ _ HS.out.set.drew.drew)
    | (obtain ⟨z0, z1, z2⟩ := HS.out.drew.drew.set.cells
       refine bodyPost_ret (v := .tuple #[.agg #[.int .i64 4, .int .i64 0, .string ⟨#[]⟩], .bool false]) (by simp [results, Try.results79, go_sem, z0, z1, z2]) rfl ?_
       exact HY.out _ _ HS.out.drew.drew.set)
    | fail
set_option maxRecDepth 100000 in
set_option maxHeartbeats 8000000 in
theorem tv_5y (s r : List UInt8) (g B : Nat) (w : World) (h : Src w g B (5 :: (vL (zig (s.length : Int)) ++ (s ++ r)))) (hs : s.length ≤ 200) : Calls Try.prog 79 #[.func (.func 101) #[] #[.pointer (some ⟨g, 0, none⟩)]] w (TVT w g B (5 :: (vL (zig (s.length : Int)) ++ (s ++ r)))) := by
  have HS := Lib.hid (GS.new h 0 0 ⟨#[]⟩)
  clear h
  obtain ⟨sb, HSB⟩ : ∃ sb : ByteArray, Hid (sb = ⟨s.toArray⟩) := ⟨_, Lib.hid rfl⟩
  have HRN : Hid (Val.R ⟨5, 0, sb⟩ ∧ 5 :: (vL (zig (s.length : Int)) ++ (s ++ r)) = rowV ⟨5, 0, sb⟩ ++ r) := Lib.hid (by rw [HSB.out]; exact row_text (c := 5) (by decide) hs r)
  have HSZ : Hid (sb.size ≤ 9223372036854775807) := Lib.hid (by
    have h4 : sb.size = s.length := by rw [HSB.out]; show s.toArray.size = s.length; simp
    omega)
  have HSL := Lib.hid hs
  clear hs
  have HY : Hid (∀ W, GS w g B W ⟨5, 0, sb⟩ (r) → TVT w g B (5 :: (vL (zig (s.length : Int)) ++ (s ++ r))) (.returned (.tuple #[.agg #[.int .i64 5, .int .i64 0, .string sb], .bool true])) W) := Lib.hid fun W hW => ⟨hW.gr, ⟨5, 0, sb⟩, true, r, rfl, hW.src, .inl ⟨rfl, HRN.out⟩⟩
  have RA : Hid (∀ w, Calls Try.prog 81 #[.agg #[.int .i64 5, .int .i64 0, .string sb]] w (Ans (.bool true) w)) := Lib.hid fun w => by
    have h := right_at' ⟨5, 0, sb⟩ (by exact HSZ.out) w
    rw [show rightB ⟨5, 0, sb⟩ = true from HRN.out.1.1] at h
    exact h
  go_enter Try.func79, Try.ntmps79
  go_wp2_with fail
  refine (nextX_at _ g B 5 (vL (zig (s.length : Int)) ++ (s ++ r)) 5 (by first | rfl | decide | exact HXC.out) HS.out.src).mono ?_
  rintro e w1 ⟨rfl, hs1, hg1⟩
  have HV := Lib.hid (HS.out.next hs1 hg1)
  obtain ⟨f0, f1, f2⟩ := HV.out.froz
  obtain ⟨y0, y1, y2⟩ := HV.out.cells
  have HS := Lib.hid (HV.out.set0 5)
  clear hs1 hg1
  go_wp2_with fail
  refine (takeText_yes s r g B _ HSL.out sb HSB.out HS.out.src).mono ?_
  rintro e w3 ⟨rfl, hs3, hg3⟩
  have HV := Lib.hid (HS.out.next hs3 hg3)
  obtain ⟨f0, f1, f2⟩ := HV.out.froz
  obtain ⟨y0, y1, y2⟩ := HV.out.cells
  have HS := Lib.hid (HV.out.set2 sb)
  clear hs3 hg3
  go_wp2_with fail
  go_region_held3 (fun W => W.cell? ⟨w.heap.size, 0, none⟩ = some (.int .i64 5) ∧ W.cell? ⟨w.heap.size, 1, none⟩ = some (.int .i64 0) ∧ W.cell? ⟨w.heap.size, 2, none⟩ = some (.string sb))
    (first | exact HS.out.cells | exact HS.out.drew.cells | exact HS.out.drew.drew.cells | exact HS.out.set.cells | exact HS.out.drew.set.cells | exact HS.out.drew.drew.set.cells | go_keep)
    ((go_at_call 81
      refine (RA.out _).mono ?_
      rintro e w2 ⟨rfl, hb2⟩
      have HS := Lib.hid (GS.keep (by first | exact HS.out | exact HS.out.drew | exact HS.out.drew.drew | exact HS.out.drew.drew.drew) hb2)
      obtain ⟨f0, f1, f2⟩ := HS.out.froz
      clear hb2))
  all_goals go_wp2_with fail
  all_goals first
    | (obtain ⟨z0, z1, z2⟩ := HS.out.set.cells
       refine bodyPost_ret (v := .tuple #[.agg #[.int .i64 5, .int .i64 0, .string sb], .bool true]) (by simp [results, Try.results79, go_sem, z0, z1, z2]) rfl ?_
       exact HY.out _ HS.out.set)
    | (obtain ⟨z0, z1, z2⟩ := HS.out.set.drew.cells
       refine bodyPost_ret (v := .tuple #[.agg #[.int .i64 5, .int .i64 0, .string sb], .bool true]) (by simp [results, Try.results79, go_sem, z0, z1, z2]) rfl ?_
       exact HY.out _ HS.out.set.drew)
    | (obtain ⟨z0, z1, z2⟩ := HS.out.drew.set.cells
       refine bodyPost_ret (v := .tuple #[.agg #[.int .i64 5, .int .i64 0, .string sb], .bool true]) (by simp [results, Try.results79, go_sem, z0, z1, z2]) rfl ?_
       exact HY.out _ HS.out.drew.set)
    | (obtain ⟨z0, z1, z2⟩ := HS.out.set.drew.drew.cells
       refine bodyPost_ret (v := .tuple #[.agg #[.int .i64 5, .int .i64 0, .string sb], .bool true]) (by simp [results, Try.results79, go_sem, z0, z1, z2]) rfl ?_
       exact HY.out _ HS.out.set.drew.drew)
    | (obtain ⟨z0, z1, z2⟩ := HS.out.drew.drew.set.cells
       refine bodyPost_ret (v := .tuple #[.agg #[.int .i64 5, .int .i64 0, .string sb], .bool true]) (by simp [results, Try.results79, go_sem, z0, z1, z2]) rfl ?_
       exact HY.out _ HS.out.drew.drew.set)
    | fail
set_option maxRecDepth 100000 in
set_option maxHeartbeats 8000000 in
theorem tv_5n (t : List UInt8) (g B : Nat) (w : World) (h : Src w g B (5 :: t)) (hno : ∀ s r : List UInt8, s.length ≤ 200 → t ≠ vL (zig (s.length : Int)) ++ (s ++ r)) : Calls Try.prog 79 #[.func (.func 101) #[] #[.pointer (some ⟨g, 0, none⟩)]] w (TVT w g B (5 :: t)) := by
  have HS := Lib.hid (GS.new h 0 0 ⟨#[]⟩)
  clear h
  have HNO := Lib.hid hno
  clear hno
  have HY : Hid (∀ W r, GS w g B W ⟨5, 0, ⟨#[]⟩⟩ r → TVT w g B (5 :: t) (.returned (.tuple #[.agg #[.int .i64 5, .int .i64 0, .string ⟨#[]⟩], .bool false])) W) := Lib.hid fun W r hW => ⟨hW.gr, ⟨5, 0, ⟨#[]⟩⟩, false, r, rfl, hW.src, .inr ⟨rfl, row_textn (c := 5) (by decide) HNO.out⟩⟩
  go_enter Try.func79, Try.ntmps79
  go_wp2_with fail
  refine (nextX_at _ g B 5 t 5 (by first | rfl | decide | exact HXC.out) HS.out.src).mono ?_
  rintro e w1 ⟨rfl, hs1, hg1⟩
  have HV := Lib.hid (HS.out.next hs1 hg1)
  obtain ⟨f0, f1, f2⟩ := HV.out.froz
  obtain ⟨y0, y1, y2⟩ := HV.out.cells
  have HS := Lib.hid (HV.out.set0 5)
  clear hs1 hg1
  go_wp2_with fail
  refine (takeText_no t g B _ HNO.out HS.out.src).mono ?_
  rintro e w3 ⟨rfl, r3, hs3, hg3⟩
  have HV := Lib.hid (HS.out.next hs3 hg3)
  obtain ⟨f0, f1, f2⟩ := HV.out.froz
  obtain ⟨y0, y1, y2⟩ := HV.out.cells
  have HS := Lib.hid (HV.out.set2 ⟨#[]⟩)
  clear hs3 hg3
  go_wp2_with fail
  first | (go_region_law (fail)) | fail
  all_goals go_wp2_with fail
  all_goals first
    | (obtain ⟨z0, z1, z2⟩ := HS.out.set.cells
       refine bodyPost_ret (v := .tuple #[.agg #[.int .i64 5, .int .i64 0, .string ⟨#[]⟩], .bool false]) (by simp [results, Try.results79, go_sem, z0, z1, z2]) rfl ?_
       exact HY.out _ _ HS.out.set)
    | (obtain ⟨z0, z1, z2⟩ := HS.out.set.drew.cells
       refine bodyPost_ret (v := .tuple #[.agg #[.int .i64 5, .int .i64 0, .string ⟨#[]⟩], .bool false]) (by simp [results, Try.results79, go_sem, z0, z1, z2]) rfl ?_
       exact HY.out _ _ HS.out.set.drew)
    | (obtain ⟨z0, z1, z2⟩ := HS.out.drew.set.cells
       refine bodyPost_ret (v := .tuple #[.agg #[.int .i64 5, .int .i64 0, .string ⟨#[]⟩], .bool false]) (by simp [results, Try.results79, go_sem, z0, z1, z2]) rfl ?_
       exact HY.out _ _ HS.out.drew.set)
    | (obtain ⟨z0, z1, z2⟩ := HS.out.set.drew.drew.cells
       refine bodyPost_ret (v := .tuple #[.agg #[.int .i64 5, .int .i64 0, .string ⟨#[]⟩], .bool false]) (by simp [results, Try.results79, go_sem, z0, z1, z2]) rfl ?_
       exact HY.out _ _ HS.out.set.drew.drew)
    | (obtain ⟨z0, z1, z2⟩ := HS.out.drew.drew.set.cells
       refine bodyPost_ret (v := .tuple #[.agg #[.int .i64 5, .int .i64 0, .string ⟨#[]⟩], .bool false]) (by simp [results, Try.results79, go_sem, z0, z1, z2]) rfl ?_
       exact HY.out _ _ HS.out.drew.drew.set)
    | fail
end

section
open Go.RowKit
theorem six' {c : UInt8} (h : ¬ 5 < c.toNat) : c = 0 ∨ c = 1 ∨ c = 2 ∨ c = 3 ∨ c = 4 ∨ c = 5 := by
  have h1 : c.toNat = 0 ∨ c.toNat = 1 ∨ c.toNat = 2 ∨ c.toNat = 3 ∨ c.toNat = 4 ∨ c.toNat = 5 := by omega
  rcases h1 with h1 | h1 | h1 | h1 | h1 | h1
  · exact .inl (u8_ext h1)
  · exact .inr (.inl (u8_ext h1))
  · exact .inr (.inr (.inl (u8_ext h1)))
  · exact .inr (.inr (.inr (.inl (u8_ext h1))))
  · exact .inr (.inr (.inr (.inr (.inl (u8_ext h1)))))
  · exact .inr (.inr (.inr (.inr (.inr (u8_ext h1)))))
theorem takeValue_any (l : List UInt8) (g B : Nat) (w : World) (h : Src w g B l) : Calls Try.prog 79 #[.func (.func 101) #[] #[.pointer (some ⟨g, 0, none⟩)]] w (TVT w g B l) := by
  rcases l with _ | ⟨c, t⟩
  · exact tv_nil g B w h
  · by_cases hc5 : 5 < c.toNat
    · exact tv_x c t g B w h hc5
    · have hnum : (∃ u r, u < 18446744073709551616 ∧ t = vL u ++ r) ∨ ∀ u r, u < 18446744073709551616 → t ≠ vL u ++ r := by
        by_cases h : ∃ u r, u < 18446744073709551616 ∧ t = vL u ++ r
        · exact .inl h
        · exact .inr fun u r hu e => h ⟨u, r, hu, e⟩
      have htxt : (∃ s r : List UInt8, s.length ≤ 200 ∧ t = vL (zig (s.length : Int)) ++ (s ++ r)) ∨ ∀ s r : List UInt8, s.length ≤ 200 → t ≠ vL (zig (s.length : Int)) ++ (s ++ r) := by
        by_cases h : ∃ s r : List UInt8, s.length ≤ 200 ∧ t = vL (zig (s.length : Int)) ++ (s ++ r)
        · exact .inl h
        · exact .inr fun s r hs e => h ⟨s, r, hs, e⟩
      rcases six' hc5 with rfl | rfl | rfl | rfl | rfl | rfl
      · exact tv_0 t g B w h
      · rcases t with _ | ⟨d, t⟩
        · exact tv_1n g B w h
        · by_cases hd : d.toNat ≤ 1
          · exact tv_1y d t g B w h hd
          · exact tv_1b d t g B w h (by omega)
      · rcases hnum with ⟨u, r, hu, rfl⟩ | hno
        · exact tv_2y u r g B w h hu
        · exact tv_2n t g B w h hno
      · rcases hnum with ⟨u, r, hu, rfl⟩ | hno
        · exact tv_3y u r g B w h hu
        · exact tv_3n t g B w h hno
      · rcases htxt with ⟨s, r, hs, rfl⟩ | hno
        · exact tv_4y s r g B w h hs
        · exact tv_4n t g B w h hno
      · rcases htxt with ⟨s, r, hs, rfl⟩ | hno
        · exact tv_5y s r g B w h hs
        · exact tv_5n t g B w h hno
/-- what Decode answers -/
def DcR (w : World) (bs : List UInt8) (e : Ending) (w' : World) : Prop := Below w.heap.size w w' ∧ ((∃ l v, e = .returned (.tuple #[v, .int .i64 0]) ∧ (∀ x ∈ l, x.R) ∧ l.length ≤ 16 ∧ bs = rowB l ∧ OwnV w' w.heap.size v l) ∨
  (e = .returned (.tuple #[.slice none 0 0, .int .i64 51]) ∧ ∀ l, (∀ x ∈ l, x.R) → l.length ≤ 16 → bs ≠ rowB l))
theorem rowB_cons {c : UInt8} {t : List UInt8} {m : List Val} (h16 : m.length ≤ 16) (h : c :: t = rowB m) : m.length = c.toNat ∧ t = rowL m := by
  unfold rowB at h
  rw [List.cons.injEq] at h
  have g := congrArg UInt8.toNat h.1
  rw [ofNat_toNat (by omega)] at g
  exact ⟨g.symm, h.2⟩
theorem rowL_begins {l m : List Val} (hl : ∀ x ∈ l, x.R) (hm : ∀ x ∈ m, x.R) (hlen : l.length ≤ m.length) {r : List UInt8} (h : rowL l ++ r = rowL m) : ∃ k, m = l ++ k ∧ r = rowL k := by
  have e : m = m.take l.length ++ m.drop l.length := (List.take_append_drop _ _).symm
  rw [e, rowL_app] at h
  obtain ⟨h1, h2⟩ := rowL_inj hl (fun x hx => hm x (List.mem_of_mem_take hx)) (by rw [List.length_take]; omega) h
  exact ⟨m.drop l.length, by rw [h1, List.length_take, Nat.min_eq_left hlen]; exact e, h2⟩
theorem OwnV.grown {w w' : World} {B g : Nat} {v : Value} {l : List Val} (h : OwnV w B v l) (hg : w.grownBy w' (some g)) (hB : g < B) : OwnV w' B v l :=
  ⟨h.1.kept hg (.inr fun e => by have := h.ge _ e; omega), h.2⟩
theorem Src.grew {W V : World} {g B : Nat} {l : List UInt8} {o : Option Nat} (hs : Src W g B l) (hg : W.grownBy V o) (hn : ∀ h, o = some h → g < h) : Src V g B l := by
  obtain ⟨A, cap, h1, h2, h3, h4⟩ := hs
  have hlt := (Array.getElem?_eq_some_iff.1 h1).1
  exact ⟨A, cap, (hg.block _ hlt (fun e => by have := hn _ e.symm; omega)).trans h1, h2, h3.keep fun k hk => hg.block k (by omega) (fun e => by have := hn _ e.symm; omega), h4⟩
theorem rd_val_2' (w : World) (o : Obj) (x : Val) : RdV ((w.alloc o).alloc (.cells #[.int .i64 x.k, .int .i64 x.n, .string x.s] 110)) (w.heap.size + 1 + 1) (some ⟨w.heap.size + 1, 0, none⟩) [x] := by
  have h := rd_val (w := (w.alloc o).alloc (.cells #[.int .i64 x.k, .int .i64 x.n, .string x.s] 110)) (g := (w.alloc o).heap.size) (x := x) (heap_alloc_new _ _)
  have e : (w.alloc o).heap.size = w.heap.size + 1 := by simp
  rw [e] at h
  exact h
theorem OwnV.low {w : World} {B C : Nat} {v : Value} {l : List Val} (h : OwnV w B v l) (hC : C ≤ B) : OwnV w C v l := by
  refine ⟨⟨h.1.1, ?_⟩, h.2⟩
  rcases h.1.2 with h1 | ⟨g, cap, cur, e, hb, hr⟩
  · exact .inl h1
  · exact .inr ⟨g, cap, cur, e, Nat.le_trans hC hb, hr⟩
/-- at the head of its loop -/
def RDL (w : World) (n : Nat) (b1 : List UInt8) (v7 v26 : Value) (wr : World) : Prop := ∃ (l : List Val) (r : List UInt8) (y : Value), y = v7 ∧ v26 = .int .u8 l.length ∧ l.length ≤ n ∧ b1 = rowL l ++ r ∧ (∀ x ∈ l, x.R) ∧ OwnV wr (w.heap.size + 1) y l ∧ Src wr w.heap.size w.heap.size r ∧ Below w.heap.size w wr
set_option maxRecDepth 100000 in
set_option maxHeartbeats 16000000 in
theorem decodeR_any (bs : List UInt8) (A : Option Addr) (cap : Nat) (w : World) (hcap : bs.length ≤ cap) (hr : RdB w w.heap.size A bs) :
    Calls Try.prog 61 #[.slice A bs.length cap] w (DcR w bs) := by
  obtain ⟨i0, hi, hz0, hz1, hz2⟩ := info_parts infoV
  have HC := Lib.hid (consume_any bs A _ cap rfl w hcap hr)
  clear hr hcap
  go_enter Try.func61, Try.ntmps61
  go_wp2_with fail
  refine HC.out.mono ?_
  rintro e w1 ⟨rfl, hs, hb⟩
  have HS := Lib.hid hs
  have HB := Lib.hid hb
  clear hs hb
  go_wp2_with fail
  rcases bs with _ | ⟨c, b1⟩
  · refine (next_none' _ w.heap.size w.heap.size HS.out).mono ?_
    rintro e w2 ⟨rfl, rfl⟩
    have HY : Hid (DcR w [] (.returned (.tuple #[.slice none 0 0, .int .i64 51])) w1) := Lib.hid ⟨HB.out, .inr ⟨rfl, fun l _ _ => by simp [rowB]⟩⟩
    go_wp2_with fail
    go_ret2
    exact HY.out
  · obtain ⟨n, HN⟩ : ∃ n : Nat, Hid (n = c.toNat) := ⟨_, Lib.hid rfl⟩
    refine (nextX_at _ w.heap.size w.heap.size c b1 (n : Int) (by rw [HN.out]) HS.out).mono ?_
    rintro e w2 ⟨rfl, hs2, hg2⟩
    have HS := Lib.hid hs2
    have HB := Lib.hid (HB.out.trans (grown_below' hg2 (Nat.le_refl _) HB.out.size))
    clear hs2 hg2
    by_cases h16 : n ≤ 16
    · have h16i : ¬ (16 : Int) < (n : Int) := by omega
      have h16j : (n : Int) ≤ 16 := by omega
      have H16 := Lib.hid h16
      clear h16
      go_wp2_with fail
      go_loopw [7, 26] (fun v7 v26 wr => RDL w n b1 v7 v26 wr) (fun _ v26 _ => n - (intOf v26).toNat)
      case atStart => exact ⟨[], b1, _, rfl, rfl, Nat.zero_le _, rfl, fun x hx => by simp at hx, OwnV.nil _ _, HS.out, HB.out⟩
      case round =>
        obtain ⟨l, r, y, rfl, rfl, hln, hb1, hR, ho, hsr, hb⟩ := hrel
        obtain ⟨A2, cap2, rfl, hcap2⟩ := ho.2
        have HB1 := Lib.hid hb1
        have HR := Lib.hid hR
        have HO := Lib.hid ho
        have HSR := Lib.hid hsr
        have HB := Lib.hid hb
        have HLN := Lib.hid hln
        clear hb1 hR ho hsr hb hcap2
        by_cases hlt : l.length < n
        · have hki : (l.length : Int) < (n : Int) := by omega
          have HLT := Lib.hid hlt
          clear hlt hln
          go_wp2_with fail
          refine (takeValue_any r w.heap.size w.heap.size wr HSR.out).mono ?_
          rintro e w5 ⟨hg5, ⟨xk, xn, xs⟩, ok, r5, rfl, hs5, hcase⟩
          have HB5 := Lib.hid (HB.out.trans (grown_below' hg5 (Nat.le_refl _) HB.out.size))
          have HO5 := Lib.hid (HO.out.grown hg5 (Nat.lt_succ_self _))
          have HS5 := Lib.hid hs5
          have HBT := Lib.hid (HB5.out.trans ((alloc_below w5 (.cells #[.int .i64 xk, .int .i64 xn, .string xs] 110)).mono HB5.out.size))
          clear hg5 hs5
          simp only [Val.v]
          rcases hcase with ⟨rfl, hxR, hrr⟩ | ⟨rfl, hno⟩
          · have HM : Hid ((l.length + 1) * 32 ≤ 140737488355328) := Lib.hid (by have := H16.out; have := HLT.out; omega)
            have HSZ : Hid (w.heap.size + 1 ≤ w5.heap.size) := Lib.hid HS5.out.lt
            have HBZ : Hid (∀ o p, w.heap.size + 1 ≤ ((w5.alloc o).alloc p).heap.size) := Lib.hid fun o p => Nat.le_trans HSZ.out (alloc2_below w5 o p).size
            have HNX : Hid (∀ o p v5 w6, OwnV w6 (w.heap.size + 1) v5 (l ++ [⟨xk, xn, xs⟩]) → Grew ((w5.alloc o).alloc p) (.slice A2 l.length cap2) w6 v5 → ∀ v26, v26 = .int .u8 ((l.length + 1 : Nat) : Int) → RDL w n b1 v5 v26 w6) := Lib.hid fun o p v5 w6 ho6 hg6 v26 h26 => by
              have hbb := HB5.out.trans (((alloc2_below w5 o p).mono HB5.out.size).trans (hg6.toBelow (Nat.le_trans (Nat.le_succ _) (HBZ.out o p)) (fun k e => Nat.le_trans (Nat.le_succ _) (HO.out.ge k e))))
              have hss := (HS5.out.keep (alloc2_below w5 o p)).grew hg6.by_ (fun h e => by have := HO.out.ge h e; omega)
              refine ⟨l ++ [⟨xk, xn, xs⟩], r5, v5, rfl, by rw [h26, List.length_append]; rfl, by have := HLT.out; rw [List.length_append, List.length_singleton]; omega, by rw [HB1.out, hrr, rowL_snoc, List.append_assoc], fun z hz => ?_, ho6, hss, hbb⟩
              rw [List.mem_append, List.mem_singleton] at hz
              rcases hz with hz | hz
              · exact HR.out z hz
              · rw [hz]; exact hxR
            clear hrr hxR
            go_wp2_with (at_builtin
                         refine wpList_appV (xs := l) (ys := [⟨xk, xn, xs⟩]) (B := w.heap.size + 1) rfl _ _ 105 rfl Try.underlying105 hi hz0 hz1 hz2 rfl (HO5.out.below (alloc2_below w5 _ _)) rfl rfl (rd_val_2' w5 _ ⟨xk, xn, xs⟩) HM.out (HBZ.out _ _) ?_
                         intro v6 w6 ho6 hg6
                         have HY := Lib.hid (HNX.out _ _ v6 w6 ho6 hg6)
                         clear ho6 hg6)
            go_roundw
            case rel => first | exact HY.out _ (by go_num) | ((repeat apply Exists.intro); exact ⟨HY.out _ (by go_num), rfl⟩)
            case measure => simp [intOf]; omega
          · have HY : Hid (DcR w (c :: b1) (.returned (.tuple #[.slice none 0 0, .int .i64 51])) (w5.alloc (.cells #[.int .i64 xk, .int .i64 xn, .string xs] 110))) := Lib.hid ⟨HBT.out, .inr ⟨rfl, fun m hm hm16 e => by
              obtain ⟨h1, h2⟩ := rowB_cons hm16 e
              have h3 := HN.out
              have h4 := HLT.out
              obtain ⟨k, rfl, h5⟩ := rowL_begins HR.out hm (by omega) (HB1.out.symm.trans h2)
              rcases k with _ | ⟨z, k⟩
              · rw [List.append_nil] at h1; omega
              · rw [rowL_cons] at h5
                exact hno z _ (hm z (by simp)) h5⟩⟩
            clear hno
            go_wp2_with fail
            go_ret2
            exact HY.out
        · have hkl : l.length = n := by omega
          have HKL := Lib.hid hkl
          have hnlt : ¬ (l.length : Int) < (n : Int) := by omega
          clear hlt hln hkl
          go_wp2_with fail
          rcases r with _ | ⟨d, t⟩
          · refine (next_none' _ w.heap.size w.heap.size HSR.out).mono ?_
            rintro e w6 ⟨rfl, rfl⟩
            have HY : Hid (DcR w (c :: b1) (.returned (.tuple #[.slice A2 l.length cap2, .int .i64 0])) wr) := Lib.hid ⟨HB.out, .inl ⟨l, _, rfl, HR.out, by have := H16.out; have := HKL.out; omega, by
              rw [HB1.out, List.append_nil]
              unfold rowB
              rw [HKL.out, HN.out]
              simp, HO.out.low (Nat.le_succ _)⟩⟩
            go_wp2_with fail
            go_ret2
            exact HY.out
          · refine (next_some' _ w.heap.size w.heap.size d t HSR.out).mono ?_
            rintro e w6 ⟨rfl, hs6, hg6⟩
            have HY : Hid (DcR w (c :: b1) (.returned (.tuple #[.slice none 0 0, .int .i64 51])) w6) := Lib.hid ⟨HB.out.trans (grown_below' hg6 (Nat.le_refl _) HB.out.size), .inr ⟨rfl, fun m hm hm16 e => by
              obtain ⟨h1, h2⟩ := rowB_cons hm16 e
              have h3 := HN.out
              have h4 := HKL.out
              obtain ⟨k, rfl, h5⟩ := rowL_begins HR.out hm (by omega) (HB1.out.symm.trans h2)
              rcases k with _ | ⟨z, k⟩
              · simp [rowL] at h5
              · rw [List.length_append, List.length_cons] at h1; omega⟩⟩
            clear hs6 hg6
            go_wp2_with fail
            go_ret2
            exact HY.out
    · have h16i : (16 : Int) < (n : Int) := by omega
      have HY : Hid (DcR w (c :: b1) (.returned (.tuple #[.slice none 0 0, .int .i64 51])) w2) := Lib.hid ⟨HB.out, .inr ⟨rfl, fun m hm hm16 e => by
        obtain ⟨h1, _⟩ := rowB_cons hm16 e
        have := HN.out
        omega⟩⟩
      clear h16
      go_wp2_with fail
      go_ret2
      exact HY.out
end

section
open Go.RowKit
/-- Decode of a row's bytes -/
def DcTo (w : World) (m : List Val) (e : Ending) (w' : World) : Prop := ∃ v, e = .returned (.tuple #[v, .int .i64 0]) ∧ OwnV w' w.heap.size v m ∧ Below w.heap.size w w'
theorem decodeR_yes (bs : List UInt8) (m : List Val) (hm : ∀ x ∈ m, x.R) (h16 : m.length ≤ 16) (hb : bs = rowB m) (A : Option Addr) (n cap : Nat) (hn : n = bs.length) (w : World) (hcap : bs.length ≤ cap) (hr : RdB w w.heap.size A bs) :
    Calls Try.prog 61 #[.slice A n cap] w (DcTo w m) := by
  subst hn
  refine (decodeR_any bs A cap w hcap hr).mono fun e w' ⟨hbel, h⟩ => ?_
  rcases h with ⟨l, v, rfl, hR, hl16, he, ho⟩ | ⟨_, h⟩
  · obtain ⟨rfl, _⟩ := rowB_inj (u := []) (v := []) hR hm hl16 h16 (by rw [← he, hb])
    exact ⟨v, rfl, ho, hbel⟩
  · exact absurd hb (h m hm h16)
end
end Go.Proofs.Ytogogekmodbdiaa

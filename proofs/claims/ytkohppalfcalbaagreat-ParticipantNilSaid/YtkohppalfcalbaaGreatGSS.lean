/- Package shard: write. -/
import Derived.Test.YtkohppalfcalbaaGreatPR1
import Derived.Test.YtkohppalfcalbaaGreatGSRC
import Derived.Test.YtkohppalfcalbaaGreatDY
namespace Go.Proofs.YtkohppalfcalbaaGreat
open Go.RowKit

/-- slices of bytes -/
structure Sl where
  A : Option Addr
  l : List UInt8
  c : Nat
def slV (es : List Sl) : List Value := es.map fun e => .slice e.A e.l.length e.c
theorem infoSl : (Tryz.prog.info? 22).map (fun i => (i.zero, i.size, i.bytes)) = some (some (.slice none 0 0), 1, 24) := by kernel_rfl
/-- the bytes that records take in a log -/
def encN (R : List Rc) : Nat := (bytesOf (R.map Rc.enc)).length
theorem encN_app (a b : List Rc) : encN (a ++ b) = encN a + encN b := by unfold encN; rw [List.map_append, bytesOf_app, List.length_append]
theorem encN_one (x : Rc) : encN [x] = x.enc.length + 5 := by unfold encN; exact bytes_one _
/-- slices that are read, all in new blocks but g -/
def SlOk (w0 W : World) (g : Nat) (es : List Sl) : Prop := ∀ e ∈ es, RdB W W.heap.size e.A e.l ∧ ∀ ad, e.A = some ad → w0.heap.size ≤ ad.block ∧ ad.block ≠ g ∧ ad.block < W.heap.size
/-- at the head of the first loop -/
def WrL (w : World) (q0 : Nat) (R : List Rc) (room : Int) (v5 v6 v29 : Value) (wr : World) : Prop := ∃ (k g : Nat) (es : List Sl), v29 = .int .i64 (k : Int) ∧ k ≤ R.length ∧ v5 = .int .i64 (room - (encN (R.take k) : Int)) ∧ es.length = k ∧ HeldC wr q0 g 1 v6 k (slV es) ∧ es.map (·.l) = (R.take k).map Rc.enc ∧ SlOk w wr g es ∧ (g = q0 ∨ w.heap.size ≤ g) ∧ Below w.heap.size w wr
theorem wr_next {w wr w1 w2 w3 : World} {q0 k g g3 : Nat} {R : List Rc} {room : Int} {es : List Sl} {e : Sl} {x : Rc} {v3 : Value} (hx : R[k]? = some x) (hes : es.length = k) (hm : es.map (·.l) = (R.take k).map Rc.enc) (hS : SlOk w wr g es) (hg : g = q0 ∨ w.heap.size ≤ g) (hb : Below w.heap.size w wr) (hq : q0 < w.heap.size) (hgl : g < wr.heap.size)
    (hb1 : Below wr.heap.size wr w1) (he : OwnB w1 wr.heap.size (.slice e.A e.l.length e.c) e.l) (hel : e.l = x.enc) (hb2 : Below w1.heap.size w1 w2) (ho : HeldC w3 q0 g3 1 v3 (k + 1) (slV es ++ [.slice e.A e.l.length e.c])) (hO : Only (fun j => j = g ∧ j ≠ q0) w2 w3) (hg3 : g3 = g ∨ w2.heap.size ≤ g3) (v5 v29 : Value) (h5 : v5 = .int .i64 (room - ((encN (R.take k) + (x.enc.length + 5) : Nat) : Int))) (h29 : v29 = .int .i64 ((k + 1 : Nat) : Int)) : WrL w q0 R room v5 v3 v29 w3 := by
  have s0 := hb.size
  have s1 := hb1.size
  have s2 := hb2.size
  have s3 := hO.size
  have h2 := List.getElem?_eq_some_iff.1 hx
  have htk : R.take (k + 1) = R.take k ++ [x] := by rw [List.take_succ_eq_append_getElem h2.1, h2.2]
  refine ⟨k + 1, g3, es ++ [e], h29, h2.1, ?_, by simp [hes], ?_, ?_, ?_, ?_, ?_⟩
  · rw [h5, htk, encN_app, encN_one]
  · unfold slV at ho ⊢
    rw [List.map_append]
    exact ho
  · rw [List.map_append, hm, htk, List.map_append]
    simp [hel]
  · intro y hy
    rcases List.mem_append.1 hy with hy | hy
    · obtain ⟨h6, h7⟩ := hS y hy
      have h8 : RdB w2 w2.heap.size y.A y.l := ((h6.below hb1 (Nat.le_refl _)).below hb2 (by omega)).more (by omega)
      refine ⟨h8.onlyL hO fun hn ad ha e9 => ?_, fun ad ha => ?_⟩
      · exact (h7 ad ha).2.1 e9.1
      · have h9 := h7 ad ha
        refine ⟨h9.1, ?_, by omega⟩
        rcases hg3 with rfl | hg3
        · exact h9.2.1
        · omega
    · rcases List.mem_singleton.1 hy with rfl
      have h8 : RdB w2 w2.heap.size y.A y.l := (he.rd.below hb2 (Nat.le_refl _)).more s2
      have h9 : ∀ ad, y.A = some ad → wr.heap.size ≤ ad.block ∧ ad.block < w1.heap.size := fun ad ha => by
        have e1 : (Value.slice y.A y.l.length y.c).ownBlock = some ad.block := by rw [ha]; rfl
        exact ⟨he.ge _ e1, he.lt _ e1⟩
      refine ⟨h8.onlyL hO fun _ ad ha e10 => ?_, fun ad ha => ?_⟩
      · have := h9 ad ha; have := e10.1; omega
      · have h10 := h9 ad ha
        refine ⟨by omega, ?_, by omega⟩
        rcases hg3 with rfl | hg3 <;> omega
  · omega
  · refine ((hb.trans (hb1.mono s0)).trans (hb2.mono (by omega))).trans (hO.below (by omega) (fun j hj => ?_))
    rcases hg with hg | hg
    · exact absurd (hj.1.trans hg) hj.2
    · omega
theorem box6R {w : World} {b : Nat} {x0 x1 x2 x3 x4 x5 : Value} {t : TypeId} {fr : Nat × Nat} (h : w.heap[b]? = some (.cells #[x0, x1, x2, x3, x4, x5] t fr)) : w.cell? ⟨b, 0, none⟩ = some x0 ∧ w.cell? ⟨b, 1, none⟩ = some x1 ∧ w.cell? ⟨b, 2, none⟩ = some x2 ∧ w.cell? ⟨b, 3, none⟩ = some x3 ∧ w.cell? ⟨b, 4, none⟩ = some x4 ∧ w.cell? ⟨b, 5, none⟩ = some x5 := by
  simp [World.cell?, h]
theorem one_sl {w : World} {v : Value} {t : TypeId} : ∀ j u, [v][j]? = some u → (w.alloc (.cells #[v] t)).cell? ((⟨w.heap.size, 0, none⟩ : Addr).add j) = some u := fun j u hj => by
  rw [add_plain, cell_of_row _ _ j _ _ (0, 0) (heap_alloc_new w _)]
  simpa using hj
/-- records lie to be read -/
def RcOk (W : World) (x : Rc) : Prop := x.Ok ∧ RdB W W.heap.size x.c.kA x.c.k ∧ RdB W W.heap.size x.c.rA x.c.r ∧ x.c.r.length ≤ x.c.rc
theorem RcOk.below {W W' : World} {x : Rc} (h : RcOk W x) (hb : Below W.heap.size W W') : RcOk W' x := ⟨h.1, (h.2.1.below hb (Nat.le_refl _)).more hb.size, (h.2.2.1.below hb (Nat.le_refl _)).more hb.size, h.2.2.2⟩
/-- a record's values, encoded -/
theorem enc_any (x : Rc) (W : World) (h : RcOk W x) : Calls Tryz.prog 93 #[x.v] W fun e w1 => ∃ A c, e = .returned (.slice A x.vals.length c) ∧ Below W.heap.size W w1 ∧ ∀ w1', Below w1.heap.size w1 w1' → Calls Tryz.prog 92 #[.slice A x.vals.length c] w1' fun e2 w2 => ∃ A2 c2, e2 = .returned (.tuple #[.slice A2 x.enc.length c2, .int .i64 0]) ∧ OwnB w2 W.heap.size (.slice A2 x.enc.length c2) x.enc ∧ Below w1'.heap.size w1' w2 := by
  refine (values_any x h.1 W h.2.1 h.2.2.1 h.2.2.2).mono ?_
  rintro e w1 ⟨A, c, rfl, hr, hb⟩
  refine ⟨A, c, rfl, hb, fun w1' hb' => ?_⟩
  have hR := Rc.vals_R h.1
  refine (encodeR_right x.vals A _ c rfl w1' (by have := Rc.vals_len h.1; omega) (R_all hR) hR ((hr.below hb' (Nat.le_refl _)).more hb'.size)).mono ?_
  rintro e2 w2 ⟨v, rfl, ho, hb2⟩
  obtain ⟨A2, c2, rfl, _⟩ := ho.2
  exact ⟨A2, c2, rfl, ho.lowS (Nat.le_trans hb.size hb'.size), hb2⟩
/-- what write leaves -/
def WrT (w : World) (ℓ : Nat → Nat) (L q p b s : Nat) (rs : List (List UInt8)) (R : List Rc) (e : Ending) (w' : World) : Prop := e = .returned (.int .i64 0) ∧ Only (fun k => ℓ k = L) w w' ∧ ∃ ℓ', (∀ k, k < w.heap.size → ℓ' k = ℓ k) ∧ LgL w' ℓ' L q p b s (rs ++ R.map Rc.enc)
set_option maxRecDepth 100000 in
set_option maxHeartbeats 8000000 in
theorem write_any {w : World} {ℓ : Nat → Nat} {L c p q sm km b s : Nat} {rs : List (List UInt8)} (hbox : w.heap[c]? = some (.cells #[.pointer (some ⟨p, 0, none⟩), .pointer (some ⟨q, 0, none⟩), .map (some sm), .map (some km)] 77 (0, 0))) (hc : ℓ c ≠ L) (hl : LgL w ℓ L q p b s rs) (hL : L ≠ 0) (R : List Rc) (A : Option Addr) (n cap : Nat) (hn : R.length = n) (hR : RdC w w.heap.size A (rcV R)) (hok : ∀ x ∈ R, RcOk w x) (hroom : b + (bytesOf rs).length + encN R ≤ 100000) (hR1 : R.length ≤ 2000) :
    Calls Tryz.prog 55 #[.pointer (some ⟨c, 0, none⟩), .slice A n cap] w (WrT w ℓ L q p b s rs R) := by
  subst hn
  obtain ⟨i0, hi, hz0, hz1, hz2⟩ := info_parts infoSl
  have hcl := (Array.getElem?_eq_some_iff.1 hbox).1
  have HBX : Hid (∀ W, Only (fun k => k ≠ c) w W → W.cell? ⟨c, 0, none⟩ = some (.pointer (some ⟨p, 0, none⟩)) ∧ W.cell? ⟨c, 1, none⟩ = some (.pointer (some ⟨q, 0, none⟩))) := Lib.hid fun W hO => by
    obtain ⟨x0, x1, _⟩ := box4S ((hO.block c hcl (fun e => e rfl)).trans hbox)
    exact ⟨x0, x1⟩
  obtain ⟨x0, x1⟩ := HBX.out w (Only.refl _ _)
  obtain ⟨E, hE⟩ : ∃ E : Nat, E = b + (bytesOf rs).length := ⟨_, rfl⟩
  have HDE : Hid (∀ W, W.heap = w.heap → Calls Tryz.prog 59 #[.pointer (some ⟨p, 0, none⟩)] W (LooksN (.int .i64 (E : Int)) W)) := Lib.hid fun W e => by
    obtain ⟨g, d, pre, h1, _⟩ := hl
    exact end_at (h1.disk.heap e) (E : Int) (by rw [hE])
  have HDB : Hid (∀ W, W.heap = w.heap → Calls Tryz.prog 73 #[.pointer (some ⟨p, 0, none⟩)] W fun e w' => e = .returned (.int .i64 (b : Int)) ∧ w' = W) := Lib.hid fun W e => by
    obtain ⟨g, d, pre, h1, _⟩ := hl
    exact (begin_any (h1.disk.heap e)).mono fun _ _ ⟨h2, h3⟩ => ⟨h2, h3.symm⟩
  have hEi : (E : Int) ≤ 100000 := by omega
  have hbi : (b : Int) ≤ (E : Int) := by omega
  have hRl : (R.length : Int) ≤ 2000 := by omega
  have HR := Lib.hid hR
  have HOK := Lib.hid hok
  have HL := Lib.hid hl
  have HEE := Lib.hid hE
  have HRM := Lib.hid hroom
  have HC := Lib.hid hc
  have HLL := Lib.hid hL
  have HR1 := Lib.hid hR1
  have HCL := Lib.hid hcl
  clear hR hok hl hE hroom hbox hR1 hc hL hcl
  go_enter Tryz.func55, Tryz.ntmps55
  go_wp2_with fail
  go_quiet (first
    | (go_at_call 59; refine Calls.quiet_of (HDE.out _ (by rfl)))
    | (go_at_call 73; refine Calls.quiet_of_same (HDB.out _ (by rfl))))
  go_wp2_with fail
  have HST : Hid (WrL w c R (1048576 - ((E : Int) - (b : Int))) (.int .i64 (1048576 - ((E : Int) - (b : Int)))) (.slice none 0 0) (.int .i64 0) (w.drewN nq)) := Lib.hid ⟨0, c, [], rfl, Nat.zero_le _, by simp [encN, bytesOf], rfl, .inl ⟨rfl, rfl, rfl, rfl⟩, rfl, fun e he => by simp at he, .inl rfl, drewN_below _ _⟩
  go_loopw [5, 6, 29] (fun v5 v6 v29 wr => WrL w c R (1048576 - ((E : Int) - (b : Int))) v5 v6 v29 wr) (fun _ _ v29 _ => R.length - (intOf v29).toNat)
  case atStart => exact HST.out
  case round =>
    obtain ⟨k, g, es, rfl, hk, rfl, hes, hh, hm, hS, hg, hbw⟩ := hrel
    have hEb : (E : Int) - (b : Int) ≤ 100000 := by omega
    by_cases hlt : k < R.length
    · have hlti : (k : Int) < (R.length : Int) := by omega
      have hX : R[k]? = some R[k] := List.getElem?_eq_getElem hlt
      have hxok := (HOK.out R[k] (List.getElem_mem hlt)).below hbw
      obtain ⟨b0, o0, hA, hlt0, hcc⟩ := HR.out (by intro e; have := rcV_len R; rw [e] at this; simp at this; omega)
      subst hA
      have hcw : ∀ j, wr.cell? ⟨b0, j, none⟩ = w.cell? ⟨b0, j, none⟩ := fun j => World.cell?_of_block (hbw.block b0 hlt0)
      have hat := rcV_at R k R[k] hX
      have c0 := hcc _ _ (hat 0 _ rfl)
      have c1 := hcc _ _ (hat 1 _ rfl)
      have c2 := hcc _ _ (hat 2 _ rfl)
      have c3 := hcc _ _ (hat 3 _ rfl)
      have c4 := hcc _ _ (hat 4 _ rfl)
      have c5 := hcc _ _ (hat 5 _ rfl)
      rw [← Nat.add_assoc, ← hcw] at c0 c1 c2 c3 c4 c5
      have hen : encN (R.take k) + ((R[k]).enc.length + 5) ≤ encN R := by
        have h1 : R.take (k + 1) = R.take k ++ [R[k]] := List.take_succ_eq_append_getElem hlt
        have h2 : encN (R.take (k + 1)) ≤ encN R := by
          have h3 := encN_app (R.take (k + 1)) (R.drop (k + 1))
          rw [List.take_append_drop] at h3
          omega
        rw [h1, encN_app, encN_one] at h2
        exact h2
      have HVA : Hid (∀ W, Below wr.heap.size wr W → Calls Tryz.prog 93 #[(R[k]).v] W fun e w1 => ∃ A c, e = .returned (.slice A (R[k]).vals.length c) ∧ Below W.heap.size W w1 ∧ ∀ w1', Below w1.heap.size w1 w1' → Calls Tryz.prog 92 #[.slice A (R[k]).vals.length c] w1' fun e2 w2 => ∃ A2 c2, e2 = .returned (.tuple #[.slice A2 (R[k]).enc.length c2, .int .i64 0]) ∧ OwnB w2 W.heap.size (.slice A2 (R[k]).enc.length c2) (R[k]).enc ∧ Below w1'.heap.size w1' w2) := Lib.hid fun W hb => enc_any _ W (hxok.below hb)
      have hgl := hh.ltL (by have := hbw.size; have := HCL.out; omega)
      have HNX := Lib.hid (fun (w1 w2 w3 : World) (g3 : Nat) (e : Sl) (v3 : Value) => wr_next (w1 := w1) (w2 := w2) (w3 := w3) (g3 := g3) (e := e) (v3 := v3) (room := 1048576 - ((E : Int) - (b : Int))) hX hes hm hS hg hbw HCL.out hgl)
      have HHA : Hid (∀ W o, Below wr.heap.size wr W → HeldC (W.alloc o) c g 1 _ k (slV es) ∧ c < (W.alloc o).heap.size) := Lib.hid fun W o hb => ⟨hh.only (Only.of_below (K := fun _ => False) (hb.trans ((alloc_below W o).mono hb.size))) (fun _ => id), by have := (alloc_below W o).size; have := hb.size; have := hbw.size; have := HCL.out; omega⟩
      have hN3 := (Rc.enc_len hxok.1).2
      have hMM : ∃ M : Int, M = 1048576 - ((E : Int) - (b : Int)) - ((encN (R.take k) : Nat) : Int) := ⟨_, rfl⟩
      obtain ⟨M, hM⟩ := hMM
      rw [← hM]
      have hM1 : M ≤ 1048576 := by omega
      have hrm := HRM.out
      have hEE := HEE.out
      have hM0 : 0 ≤ M - (5 + ((R[k]).enc.length : Int)) := by omega
      have HM := Lib.hid hM
      have HK5 : Hid (k ≤ 2000) := Lib.hid (by have := HR1.out; omega)
      clear hM hrm hEE hen hcw hcc hat hlt0 hh hm hS hg hX hes hgl
      generalize hxx : R[k] = x at c0 c1 c2 c3 c4 c5 HVA HNX hxok hN3 hM0
      have HBL := alloc_below wr
      clear hxx
      obtain ⟨kk, n, ⟨sp, kA, kl, kc, rA, r, rc, d⟩⟩ := x
      obtain ⟨y0, y1, y2, y3, y4, y5⟩ := box6R (heap_alloc_new wr (.cells #[.int .i64 kk, .int .i64 n, .string (strB sp), .slice kA kl.length kc, .slice rA r.length rc, .bool d] 108))
      simp only [Rc.v] at HVA
      simp only [Nat.add_zero] at c0
      generalize (⟨kk, n, ⟨sp, kA, kl, kc, rA, r, rc, d⟩⟩ : Rc).vals.length = VN at HVA
      generalize (⟨kk, n, ⟨sp, kA, kl, kc, rA, r, rc, d⟩⟩ : Rc).enc = er at HVA HNX hN3 hM0
      have hNi : (er.length : Int) ≤ 3000 := by omega
      have hN0 : 0 ≤ (er.length : Int) := by omega
      have hM2 : ¬ M - (5 + (er.length : Int)) < 0 := by omega
      have HM5 : Hid (M - (5 + (er.length : Int)) = 1048576 - ((E : Int) - (b : Int)) - ((encN (R.take k) + (er.length + 5) : Nat) : Int)) := Lib.hid (by have := HM.out; omega)
      clear hxok
      go_wp2_with (first
        | (go_at_call 93; refine (HVA.out _ (HBL _)).mono ?_; rintro e w1 ⟨A1, c1', rfl, hb1, hen1⟩
           have HEN1 := Lib.hid hen1
           have HB1 : Hid (Below wr.heap.size wr w1) := Lib.hid ((HBL _).trans (hb1.mono (HBL _).size))
           have HBZ : Hid (wr.heap.size ≤ (wr.alloc (.cells #[.int .i64 kk, .int .i64 n, .string (strB sp), .slice kA kl.length kc, .slice rA r.length rc, .bool d] 108)).heap.size) := Lib.hid (HBL _).size
           clear hb1 hen1)
        | (go_at_call 92; refine (HEN1.out _ (Below.refl _ _)).mono ?_; rintro e w2 ⟨A2, c2', rfl, ho2, hb2⟩
           have HO2 := Lib.hid (ho2.lowS HBZ.out)
           have HB2 : Hid (Below wr.heap.size wr w2) := Lib.hid (HB1.out.trans (hb2.mono HB1.out.size))
           clear ho2 hb2)
        | (at_builtin
           refine wpList_appHC (n := k) (m := 1) (ys := [.slice A2 er.length c2']) (by rfl) _ _ 157 22 (by rfl) Tryz.underlying157 hi hz0 hz1 hz2 (by rfl) (by omega) (by rfl) (HHA.out _ _ HB2.out).1 (HHA.out _ _ HB2.out).2 (by rfl) (by rfl) one_sl (fun u hu => by rw [List.mem_singleton.1 hu]; rfl) (by have := HK5.out; omega) (by have := HK5.out; omega) ?_
           intro g5 v5 w5 ho5 hO5 hg5
           have HY : Hid (∀ v5' v29, v5' = .int .i64 (M - (5 + (er.length : Int))) → v29 = .int .i64 ((k + 1 : Nat) : Int) → WrL w c R (1048576 - ((E : Int) - (b : Int))) v5' v5 v29 w5) := Lib.hid (fun v5' v29 h5 h29 => HNX.out w2 _ w5 g5 ⟨A2, er, c2'⟩ v5 HB2.out HO2.out rfl (alloc_below _ _) ho5 hO5 hg5 v5' v29 (by rw [h5, HM5.out]) h29)
           clear ho5 hO5 hg5))
      go_roundw
      case rel => first | exact HY.out _ _ (by rfl) (by go_num) | ((repeat apply Exists.intro); exact ⟨HY.out _ _ (by rfl) (by go_num), rfl⟩)
      case measure => simp [intOf]; omega
    · have hlti : ¬ (k : Int) < (R.length : Int) := by omega
      obtain ⟨w5, hw5⟩ : ∃ w5, w5 = wr := ⟨_, rfl⟩
      subst hw5
      have hkR : k = R.length := by omega
      subst hkR
      obtain ⟨A6, c6, rfl, _, _⟩ := hh.slice
      obtain ⟨ℓ5, hℓ5⟩ : ∃ ℓ5, ℓ5 = labs ℓ w.heap.size 0 := ⟨_, rfl⟩
      have hlo : ∀ i, i < w.heap.size → ℓ5 i = ℓ i := fun i hi => by rw [hℓ5]; exact labs_lt hi
      have hhi : ∀ i, w.heap.size ≤ i → ℓ5 i = 0 := fun i hi => by rw [hℓ5]; exact labs_ge hi
      rw [List.take_of_length_le (by omega)] at hm
      have h50 : LgL w5 ℓ5 L q p b s (rs ++ (R.take 0).map Rc.enc) := by
        rw [List.take_zero, List.map_nil, List.append_nil]
        exact (HL.out.relabel hlo).below hbw
      have HS5 : Hid (∃ ℓ', (∀ i, i < w5.heap.size → ℓ' i = ℓ5 i) ∧ LgL w5 ℓ' L q p b s (rs ++ (R.take 0).map Rc.enc) ∧ Only (fun i => ℓ5 i = L) w5 w5) := Lib.hid ⟨ℓ5, fun _ _ => rfl, h50, Only.refl _ _⟩
      have HWC : Hid (∀ W, Only (fun i => ℓ5 i = L) w5 W → W.cell? ⟨c, 1, none⟩ = some (.pointer (some ⟨q, 0, none⟩))) := Lib.hid fun W hO => by
        refine (HBX.out W ((Only.of_below (K := fun k => k ≠ c) hbw).trans (hO.more (L := fun k => k ≠ c) fun j _ e e2 => ?_) (fun _ _ e => e))).2
        subst e2
        rw [hlo j HCL.out] at e
        exact HC.out e
      have HRO : Hid (∀ W j e, Only (fun i => ℓ5 i = L) w5 W → es[j]? = some e → (∃ g o, A6 = some ⟨g, o, none⟩ ∧ W.cell? ⟨g, o + j, none⟩ = some (.slice e.A e.l.length e.c)) ∧ RdB W W.heap.size e.A e.l) := Lib.hid fun W j e hO he => by
        have hem := List.mem_of_getElem? he
        have hsl : (slV es)[j]? = some (.slice e.A e.l.length e.c) := by unfold slV; rw [List.getElem?_map, he]; rfl
        rcases hh with ⟨_, h0, _⟩ | ⟨hne, o, cap, h0, ho⟩
        · have := (List.getElem?_eq_some_iff.1 he).1; omega
        · injection h0 with h0 _ _
          refine ⟨⟨g, o, h0, (World.cell?_of_block (hO.block g ho.lt fun e2 => ?_)).trans (ho.cell _ _ hsl)⟩, (hS e hem).1.onlyL hO fun hn ad ha e2 => ?_⟩
          · rw [hhi g (by omega)] at e2
            exact HLL.out e2.symm
          · rw [hhi _ ((hS e hem).2 ad ha).1] at e2
            exact HLL.out e2.symm
      have HES : Hid (∀ j, j < R.length → ∃ e x, es[j]? = some e ∧ R[j]? = some x ∧ e.l = x.enc) := Lib.hid fun j hj => by
        have h1 : (es.map (·.l))[j]? = (R.map Rc.enc)[j]? := by rw [hm]
        rw [List.getElem?_map, List.getElem?_map, List.getElem?_eq_getElem (by omega), List.getElem?_eq_getElem (by omega)] at h1
        exact ⟨_, _, List.getElem?_eq_getElem (by omega), List.getElem?_eq_getElem (by omega), Option.some.inj h1⟩
      have HEND : Hid (∀ W ℓ', (∀ i, i < w5.heap.size → ℓ' i = ℓ5 i) → LgL W ℓ' L q p b s (rs ++ (R.take R.length).map Rc.enc) → Only (fun i => ℓ5 i = L) w5 W → WrT w ℓ L q p b s rs R (.returned (.int .i64 0)) W) := Lib.hid fun W ℓ' he hl hO => by
        rw [List.take_of_length_le (by omega)] at hl
        refine ⟨rfl, (Only.of_below (K := fun i => ℓ i = L) hbw).trans (hO.more (L := fun i => ℓ5 i = L) fun _ _ e => e) (fun j hj e => by rw [← hlo j hj]; exact e), ℓ', fun i hi => (he i (Nat.lt_of_lt_of_le hi hbw.size)).trans (hlo i hi), hl⟩
      have hki : (R.length : Int) ≤ 2000 := by omega
      have HBW := Lib.hid hbw.size
      clear hh hm hS hg hbw hlo hhi h50 hes hℓ5 hEb hk
      go_wp2_with fail
      go_loopw [56] (fun v56 wr2 => ∃ j : Nat, v56 = .int .i64 (j : Int) ∧ j ≤ R.length ∧ ∃ ℓ', (∀ i, i < w5.heap.size → ℓ' i = ℓ5 i) ∧ LgL wr2 ℓ' L q p b s (rs ++ (R.take j).map Rc.enc) ∧ Only (fun i => ℓ5 i = L) w5 wr2) (fun v56 _ => R.length - (intOf v56).toNat)
      case atStart => exact ⟨0, rfl, Nat.zero_le _, HS5.out⟩
      case round =>
        obtain ⟨j, rfl, hj, ℓ', he', hl', hO'⟩ := hrel
        by_cases hjl : j < R.length
        · have hjli : (j : Int) < (R.length : Int) := by omega
          obtain ⟨e, x, hje, hjx, hel⟩ := HES.out j hjl
          obtain ⟨⟨g0, o0, rfl, c0⟩, hrd⟩ := HRO.out _ j e hO' hje
          have x1 := HWC.out _ hO'
          have hxm := List.mem_of_getElem? hjx
          have hxok := (HOK.out x hxm).1
          have htk : R.take (j + 1) = R.take j ++ [x] := by
            obtain ⟨h1, h2⟩ := List.getElem?_eq_some_iff.1 hjx
            rw [List.take_succ_eq_append_getElem h1, h2]
          have hen : b + (bytesOf (rs ++ (R.take j).map Rc.enc)).length + (e.l.length + 5) ≤ 100000 := by
            have h2 : encN (R.take (j + 1)) ≤ encN R := by
              have h3 := encN_app (R.take (j + 1)) (R.drop (j + 1))
              rw [List.take_append_drop] at h3
              omega
            rw [htk, encN_app, encN_one] at h2
            have h4 := HRM.out
            rw [bytesOf_app, List.length_append, hel]
            show b + ((bytesOf rs).length + encN (R.take j)) + (x.enc.length + 5) ≤ 100000
            omega
          have HAP : Hid (Calls Tryz.prog 94 #[.pointer (some ⟨q, 0, none⟩), .slice e.A e.l.length e.c] wr (fun e3 w3 => ∃ m : Int, e3 = .returned (.tuple #[.int .i64 m, .int .i64 0]) ∧ ∃ ℓ2, (∀ i, i < w5.heap.size → ℓ2 i = ℓ5 i) ∧ LgL w3 ℓ2 L q p b s (rs ++ (R.take (j + 1)).map Rc.enc) ∧ Only (fun i => ℓ5 i = L) w5 w3)) := Lib.hid ((lg_append hl' e.l e.A _ e.c rfl (by rw [hel]; have := Rc.enc_len hxok; omega) hrd hen).mono fun e3 w3 hh => by
            obtain ⟨h1, h2, h3⟩ := hh
            have hsz := hO'.size
            refine ⟨_, h1, labs ℓ' wr.heap.size L, fun i hi => (labs_lt (by omega)).trans (he' i hi), ?_, hO'.trans h2 (fun i hi e4 => by rw [← he' i hi]; exact e4)⟩
            have h5 := h3 (labs ℓ' wr.heap.size L) (fun i hi => labs_lt hi) (fun i hi => labs_ge hi)
            rw [htk, List.map_append, ← List.append_assoc]
            rw [hel] at h5
            exact h5)
          generalize e.A = eA at c0 HAP
          generalize e.l.length = en at c0 HAP
          generalize e.c = ec at c0 HAP
          clear hl' hO' he' hrd hen htk hxm hxok hje hjx hel hj
          go_wp2_with (go_at_call 94; refine HAP.out.mono ?_; rintro e3 w3 ⟨m, rfl, hnx⟩
                       have HNX := Lib.hid hnx
                       clear hnx)
          go_roundw
          case rel => first | exact ⟨j + 1, by go_num, hjl, HNX.out⟩ | ((repeat apply Exists.intro); exact ⟨⟨j + 1, by go_num, hjl, HNX.out⟩, rfl⟩)
          case measure => simp [intOf]; omega
        · have hjk : j = R.length := by omega
          subst hjk
          have hjli : ¬ (R.length : Int) < (R.length : Int) := by omega
          have HF := Lib.hid (HEND.out _ ℓ' he' hl' hO')
          clear hl' hO' he'
          go_wp2_with fail
          go_ret
          exact HF.out
end Go.Proofs.YtkohppalfcalbaaGreat

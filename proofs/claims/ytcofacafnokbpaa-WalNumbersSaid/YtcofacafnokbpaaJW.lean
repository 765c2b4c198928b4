/- WalKeeps: the law's own body answers true. -/
import Derived.Test.YtcofacafnokbpaaJV
import Derived.Test.YtcofacafnokbpaaJO
namespace Go.Proofs.Ytcofacafnokbpaa
open Go.RowKit

/-- at the head of the script's loop -/
def WkL (w : World) (q p : Nat) (acts : List Act6) (v9 : Value) (wr : World) : Prop := ∃ k g d b s pre rs, v9 = .int .i64 ((k : Nat) : Int) ∧ k ≤ acts.length ∧ k ≤ 40 ∧ Wl wr w.heap.size q p g d b s pre rs ∧ b + (bytesOf rs).length ≤ 305 * k ∧ Below w.heap.size w wr
theorem Act6.cells_new (w : World) (x : Act6) : (w.alloc (.cells #[.int .i64 x.k, .int .i64 x.n, .int .i64 x.m, .slice x.A x.l.length x.cap] 45)).cell? ⟨w.heap.size, 0, none⟩ = some (.int .i64 x.k) ∧ (w.alloc (.cells #[.int .i64 x.k, .int .i64 x.n, .int .i64 x.m, .slice x.A x.l.length x.cap] 45)).cell? ⟨w.heap.size, 1, none⟩ = some (.int .i64 x.n) ∧ (w.alloc (.cells #[.int .i64 x.k, .int .i64 x.n, .int .i64 x.m, .slice x.A x.l.length x.cap] 45)).cell? ⟨w.heap.size, 2, none⟩ = some (.int .i64 x.m) ∧ (w.alloc (.cells #[.int .i64 x.k, .int .i64 x.n, .int .i64 x.m, .slice x.A x.l.length x.cap] 45)).cell? ⟨w.heap.size, 3, none⟩ = some (.slice x.A x.l.length x.cap) := box4 (heap_alloc_new w _)
/-- at the head of the loop of the losses of power -/
def WkL4 (w10 : World) (m : Nat) (v20 : Value) (wr : World) : Prop := ∃ i, v20 = .int .i64 ((i : Nat) : Int) ∧ i ≤ m ∧ Below w10.heap.size w10 wr
def WkL3 (wb w6 : World) (b m0 : Nat) (rs : List (List UInt8)) (v5 v16 : Value) (wr : World) : Prop := ∃ kk p g s m, v5 = .pointer (some ⟨p, 0, none⟩) ∧ v16 = .int .i64 ((kk : Nat) : Int) ∧ kk ≤ 2 ∧ Dk wr wb.heap.size p g b s (bytesOf (rs.take m)) ∧ m ≤ rs.length ∧ m0 ≤ m ∧ startOf b rs m0 ≤ s ∧ Below w6.heap.size w6 wr
/-- rows of bytes as cells -/
def rowsV (l : List BRow) : List Value := l.map fun x => .slice x.A x.l.length x.cap
theorem rowsV_get {l : List BRow} {k : Nat} {x : BRow} (h : l[k]? = some x) : (rowsV l)[k]? = some (.slice x.A x.l.length x.cap) := by
  unfold rowsV
  rw [List.getElem?_map, h]
  rfl
theorem infoB : (Try.prog.info? 23).map (fun i => (i.zero, i.size, i.bytes)) = some (some (.slice none 0 0), 1, 24) := by kernel_rfl
theorem one_val (v : Value) (h : v.oneCell' = true) : ∀ u ∈ [v], u.oneCell' = true := by
  intro u hu
  rw [List.mem_singleton] at hu
  subst hu
  exact h
theorem one_cell1 (w : World) (v : Value) (t : TypeId) (j : Nat) (u : Value) (h : [v][j]? = some u) : (w.alloc (.cells #[v] t)).cell? ((⟨w.heap.size, 0, none⟩ : Addr).add j) = some u := by
  cases j with
  | zero => simp at h; subst h; exact box1 (heap_alloc_new w _)
  | succ j => simp at h
/-- rows that are read: they lie behind w4's blocks, and not in block g -/
def RowsOk (w4 wr : World) (g : Nat) (rows : List BRow) : Prop := ∀ x ∈ rows, RdB wr wr.heap.size x.A x.l ∧ (x.l ≠ [] → ∀ ad, x.A = some ad → w4.heap.size ≤ ad.block ∧ ad.block ≠ g)
/-- at the head of the loop that reads all -/
def WkL2 (w4 : World) (q : Nat) (rs : List (List UInt8)) (v8 v12 : Value) (wr : World) : Prop := ∃ i gA rows, v12 = .int .i64 ((i : Nat) : Int) ∧ i ≤ rs.length ∧ rows.map (·.l) = rs.take i ∧ HeldC wr q gA 1 v8 i (rowsV rows) ∧ (gA = q ∨ w4.heap.size ≤ gA) ∧ RowsOk w4 wr gA rows ∧ Below w4.heap.size w4 wr
theorem rows_next {w4 wr w5 w6 : World} {q gA g6 i n c : Nat} {A : Option Addr} {o : Obj} {rows : List BRow} {rs : List (List UInt8)} {r : List UInt8} {v6 v12 : Value} (hq : q < w4.heap.size) (hi : rs[i]? = some r) (hm : rows.map (·.l) = rs.take i) (hr : RowsOk w4 wr gA rows) (hg : gA = q ∨ w4.heap.size ≤ gA) (hgl : gA < wr.heap.size) (hb : Below w4.heap.size w4 wr) (ho : OwnB w5 wr.heap.size (.slice A n c) r) (hb5 : Below wr.heap.size wr w5) (h6 : HeldC w6 q g6 1 v6 (i + 1) (rowsV rows ++ [.slice A n c])) (hO : Only (fun k => k = gA ∧ k ≠ q) (w5.alloc o) w6) (hg6 : g6 = gA ∨ (w5.alloc o).heap.size ≤ g6) (h12 : v12 = .int .i64 ((i + 1 : Nat) : Int)) : WkL2 w4 q rs v6 v12 w6 := by
  have hn := ho.len
  subst hn
  have h2 := List.getElem?_eq_some_iff.1 hi
  have s1 := hb.size
  have s2 := hb5.size
  have s3 := alloc_size w5 o
  have s4 := hO.size
  refine ⟨i + 1, g6, rows ++ [⟨A, r, c⟩], h12, h2.1, ?_, ?_, by omega, fun x hx => ?_, ?_⟩
  · rw [List.map_append, hm, List.take_succ_eq_append_getElem h2.1, h2.2]
    rfl
  · have e : rowsV (rows ++ [⟨A, r, c⟩]) = rowsV rows ++ [.slice A r.length c] := by unfold rowsV; rw [List.map_append]; rfl
    rw [e]
    exact h6
  · have keep : ∀ (W : World) (ad : Addr) (l : List UInt8), RdB W W.heap.size (some ad) l → Below W.heap.size W w5 → ad.block < W.heap.size → ad.block ≠ gA → RdB w6 w6.heap.size (some ad) l := by
      intro W ad l h1 h3 h4 h5 hne
      obtain ⟨ad', e, hlt, hc⟩ := h1 hne
      injection e with e
      subst e
      have s5 := h3.size
      refine ⟨ad, rfl, by omega, fun j c hj => ?_⟩
      have hbk : w6.heap[ad.block]? = W.heap[ad.block]? := (hO.block ad.block (by omega) (fun e => h5 e.1)).trans (((alloc_below w5 o).block _ (by omega)).trans (h3.block _ hlt))
      exact (World.cell?_of_block (by rw [addr_add_block]; exact hbk)).trans (hc j c hj)
    rcases List.mem_append.1 hx with hx | hx
    · obtain ⟨h1, h3⟩ := hr x hx
      by_cases hne : x.l = []
      · exact ⟨by rw [hne]; exact RdB.nil _ _ _, fun h => absurd hne h⟩
      · obtain ⟨ad, hA, hlt, _⟩ := h1 hne
        rw [hA] at h1
        obtain ⟨h4, h5⟩ := h3 hne ad hA
        refine ⟨by rw [hA]; exact keep wr ad x.l h1 hb5 hlt h5, fun _ ad' e => ?_⟩
        rw [hA] at e
        injection e with e
        subst e
        exact ⟨h4, by omega⟩
    · rw [List.mem_singleton] at hx
      subst hx
      by_cases hne : r = []
      · exact ⟨by show RdB w6 w6.heap.size A r; rw [hne]; exact RdB.nil _ _ _, fun h => absurd hne h⟩
      · obtain ⟨ad, hA, hlt, _⟩ := ho.rd hne
        subst hA
        have hge : wr.heap.size ≤ ad.block := ho.ge ad.block rfl
        refine ⟨keep w5 ad r ho.rd (Below.refl _ _) hlt (by omega), fun _ ad' e => ?_⟩
        injection e with e
        subst e
        exact ⟨by omega, by omega⟩
  · refine (hb.trans (hb5.mono s1)).trans ((alloc_below w5 o).mono (by omega) |>.trans (hO.below (by omega) (fun j e => ?_)))
    rcases hg with h7 | h7
    · exact absurd (e.1.trans h7) e.2
    · omega
set_option maxRecDepth 100000 in
set_option maxHeartbeats 20000000 in
theorem walKeeps_law (l0 : List Act6) (A0 : Option Addr) (cap0 : Nat) (a1 b1 : Int) (w : World) (r0 : RdA w w.heap.size A0 l0) (o0 : ∀ x ∈ l0, x.ok w w.heap.size) (ha : i64ok a1) (hb1 : i64ok b1) :
    Calls Try.prog 5 #[.slice A0 l0.length cap0, .agg #[.int .i64 a1, .int .i64 b1]] w (Ans (.bool true) w) := by
  obtain ⟨ib, hib, hzb0, hzb1, hzb2⟩ := info_parts infoB
  have HR0 := Lib.hid r0
  have HO0 := Lib.hid o0
  have HA := Lib.hid ha
  have HBK := Lib.hid hb1
  have HKP : Hid (∀ w', Below (w.alloc (.cells #[.int .i64 a1, .int .i64 b1] 65)).heap.size (w.alloc (.cells #[.int .i64 a1, .int .i64 b1] 65)) w' → w'.cell? ⟨w.heap.size, 0, none⟩ = some (.int .i64 a1) ∧ w'.cell? ⟨w.heap.size, 1, none⟩ = some (.int .i64 b1)) :=
    Lib.hid fun w' h => box2 ((h.block w.heap.size (by simp)).trans (heap_alloc_new _ _))
  have HW0 := Lib.hid (alloc_below w (.cells #[.int .i64 a1, .int .i64 b1] 65))
  obtain ⟨wb, hwb⟩ : ∃ wb, wb = w.alloc (.cells #[.int .i64 a1, .int .i64 b1] 65) := ⟨_, rfl⟩
  rw [← hwb] at HKP HW0
  have hsb : w.heap.size + 1 ≤ wb.heap.size := by rw [hwb]; simp
  have HSB := Lib.hid hsb
  have HWB := Lib.hid hwb
  clear r0 o0 ha hb1 hwb hsb
  go_enter Try.func5, Try.ntmps5
  go_wp2_with (first
    | (go_at_call 17; rw [← HWB.out]; refine (new_any _).mono ?_; rintro e w1 ⟨p, rfl, hd, hb⟩
       have HD := Lib.hid hd
       have HB1 := Lib.hid hb
       clear hd hb)
    | (go_at_call 18; refine (open_any HD.out HB1.out.size [] [] rfl rfl (by intro r hr; cases hr)).mono ?_; rintro e w2 ⟨q, d, rfl, hw, hq, hdd, hO⟩
       have HB2 := Lib.hid (onlyP HB1.out (Nat.le_refl _) hO HD.out.ge.1)
       have HW2 := Lib.hid hw
       clear hw hq hdd hO HD)
    | (go_at_call 40; refine (alive_wal _).mono ?_; rintro e w3 ⟨rfl, hb⟩
       have HB3 := Lib.hid (belowM HB2.out (Nat.le_refl _) hb)
       have HW3 := Lib.hid (HW2.out.below hb)
       clear hb HW2))
  have HST : Hid (WkL wb q p l0 (.int .i64 0) w3) := Lib.hid ⟨0, p, d, 0, _, [], [], rfl, Nat.zero_le _, Nat.zero_le _, HW3.out, by decide, HB3.out⟩
  clear HB1 HB2 HB3 HW3
  go_loopw [9] (fun v9 wr => WkL wb q p l0 v9 wr) (fun v9 _ => l0.length - (intOf v9).toNat)
  case atStart => exact HST.out
  case round =>
    obtain ⟨k, g, d2, b, s, pre, rs, rfl, hk, hk4, hw, hbl, hb⟩ := hrel
    have HB := Lib.hid hb
    have HW := Lib.hid hw
    have HBL := Lib.hid hbl
    have hlen : 5 * rs.length ≤ 12200 := by have := bytesOf_len rs; omega
    have HLN := Lib.hid hlen
    clear hb hw HST hbl hlen
    by_cases hlt : k < l0.length ∧ k < 40
    · have hlti : (k : Int) < (l0.length : Int) := by omega
      have hlt4 : (k : Int) < 40 := by omega
      obtain ⟨x, hx⟩ : ∃ x, l0[k]? = some x := ⟨_, List.getElem?_eq_getElem hlt.1⟩
      obtain ⟨b0, o0, hA0, c0, c1, c2, c3⟩ := HR0.out.at_ hx (HW0.out.trans (HB.out.mono HW0.out.size)) (Nat.le_refl _)
      subst hA0
      have hxo := HO0.out x (List.mem_of_getElem? hx)
      obtain ⟨y0, y1, y2, y3⟩ := x.cells_new wr
      have HBA := Lib.hid (alloc_below wr (.cells #[.int .i64 x.k, .int .i64 x.n, .int .i64 x.m, .slice x.A x.l.length x.cap] 45))
      obtain ⟨wa, hwa⟩ : ∃ wa, wa = wr.alloc (.cells #[.int .i64 x.k, .int .i64 x.n, .int .i64 x.m, .slice x.A x.l.length x.cap] 45) := ⟨_, rfl⟩
      have HWA := Lib.hid hwa
      rw [← hwa] at HBA
      have HWW := Lib.hid (HW.out.below HBA.out)
      have HBW := Lib.hid (HB.out.trans (HBA.out.mono HB.out.size))
      have HN : Hid (∀ v9 wz g' d' b' s' pre' rs', v9 = .int .i64 ((k + 1 : Nat) : Int) → Wl wz wb.heap.size q p g' d' b' s' pre' rs' → b' + (bytesOf rs').length ≤ 305 * (k + 1) → Below wb.heap.size wb wz → WkL wb q p l0 v9 wz) := Lib.hid fun v9 wz g' d' b' s' pre' rs' h9 h1 h2 h3 => ⟨k + 1, g', d', b', s', pre', rs', h9, hlt.1, hlt.2, h1, h2, h3⟩
      have hkl : k < l0.length := hlt.1
      clear hx hlt hk hwa
      have hxr := hxo.rd
      obtain ⟨kk, nn, mm, xA, xl, xc⟩ := x
      have hni : i64ok nn := hxo.n
      simp only at y0 y1 y2 y3 c0 c1 c2 c3 HWA hxr
      have HXR := Lib.hid hxr
      have HNI := Lib.hid hni
      clear hxo hxr hni
      by_cases hk1 : kk = 1
      · subst hk1
        by_cases hx3 : xl.length ≤ 300
        · have hx3i : (xl.length : Int) ≤ 300 := by omega
          by_cases hx1 : 1 ≤ xl.length
          · have HAP := Lib.hid (wappend_yes HWW.out HBW.out.size xl xA _ xc rfl ⟨hx1, by omega⟩ ((HXR.out.below (HW0.out.trans (HBW.out.mono HW0.out.size)) (Nat.le_refl _)).more (Nat.le_trans HW0.out.size HBW.out.size)) (by have := HBL.out; omega))
            have HXL : Hid (xl.length ≤ 300) := Lib.hid hx3
            clear hx1 hx3
            go_wp2_with (go_at_call 20; rw [← HWA.out]; refine HAP.out.mono ?_; rintro e wz ⟨rfl, g', d', hw, hO, _, _⟩
                         have HY : Hid (∀ v9, v9 = .int .i64 ((k + 1 : Nat) : Int) → WkL wb q p l0 v9 wz) := Lib.hid (fun v9 h9 => HN.out v9 wz g' d' b s [] _ h9 hw (by rw [bytesOf_app, bytesOf_one, List.length_append, frameL_len]; have := HBL.out; have := HXL.out; omega) (HBW.out.trans (hO.wl HBW.out.size HWW.out.ge.1 HWW.out.disk.ge.1 HWW.out.disk.ge.2 HWW.out.ge.2)))
                         clear hw hO)
            go_roundw
            case rel => first | exact HY.out _ (by go_num) | ((repeat apply Exists.intro); exact ⟨HY.out _ (by go_num), rfl⟩)
            case measure => simp [intOf]; omega
          · have HAP : Hid (Calls Try.prog 20 #[.pointer (some ⟨q, 0, none⟩), .slice xA xl.length xc] wa (Looks (.tuple #[.int .i64 0, .int .i64 1]) wa)) := Lib.hid (wappend_no xA xl.length xc (.inl (by omega)))
            clear hx1 hx3
            have HY : Hid (∀ v9, v9 = .int .i64 ((k + 1 : Nat) : Int) → WkL wb q p l0 v9 wa) := Lib.hid fun v9 h9 => HN.out v9 wa _ _ _ _ _ _ h9 HWW.out (by have := HBL.out; omega) HBW.out
            go_wp2_with (go_at_call 20; rw [← HWA.out]; refine HAP.out.mono ?_; rintro e wz ⟨rfl, rfl⟩)
            go_roundw
            case rel => first | exact HY.out _ (by go_num) | ((repeat apply Exists.intro); exact ⟨HY.out _ (by go_num), rfl⟩)
            case measure => simp [intOf]; omega
        · have hx3i : ¬ (xl.length : Int) ≤ 300 := by omega
          clear hx3
          have HY : Hid (∀ v9, v9 = .int .i64 ((k + 1 : Nat) : Int) → WkL wb q p l0 v9 wa) := Lib.hid fun v9 h9 => HN.out v9 wa _ _ _ _ _ _ h9 HWW.out (by have := HBL.out; omega) HBW.out
          rw [HWA.out] at HY
          go_wp2_with fail
          go_roundw
          case rel => first | exact HY.out _ (by go_num) | ((repeat apply Exists.intro); exact ⟨HY.out _ (by go_num), rfl⟩)
          case measure => simp [intOf]; omega
      · have hk1b : (kk == 1) = false := beq_false_of_ne hk1
        by_cases hk2 : kk = 2
        · subst hk2
          have HSY := Lib.hid (wsync_any HWW.out)
          go_wp2_with (go_at_call 22; rw [← HWA.out]; refine HSY.out.mono ?_; rintro e wz ⟨rfl, hw, hO⟩
                       have HY : Hid (∀ v9, v9 = .int .i64 ((k + 1 : Nat) : Int) → WkL wb q p l0 v9 wz) := Lib.hid (fun v9 h9 => HN.out v9 wz _ _ _ _ _ _ h9 hw (by have := HBL.out; omega) (onlyP HBW.out (Nat.le_refl _) hO HWW.out.disk.ge.1))
                       clear hw hO)
          go_roundw
          case rel => first | exact HY.out _ (by go_num) | ((repeat apply Exists.intro); exact ⟨HY.out _ (by go_num), rfl⟩)
          case measure => simp [intOf]; omega
        · have hk2b : (kk == 2) = false := beq_false_of_ne hk2
          by_cases hk3 : kk = 3
          · subst hk3
            obtain ⟨jj, hjj⟩ : ∃ jj, jj = pickZ nn ((numbersOf b rs).length + 1) := ⟨_, rfl⟩
            have hjl : jj ≤ rs.length := by have := pickZ_lt nn (n := (numbersOf b rs).length + 1) (by omega); rw [← hjj, numbersOf_len] at this; omega
            obtain ⟨X, hX⟩ : ∃ X, X = startOf b rs jj := ⟨_, rfl⟩
            have HNU : Hid (∀ W : World, W.heap = wa.heap → Calls Try.prog 25 #[.pointer (some ⟨q, 0, none⟩)] W (NmT W (numbersOf b rs))) := Lib.hid fun W e => numbers_any (HWW.out.heap e)
            have HNB : Hid (∀ (W : World) (A4 : Option Addr) (cap4 : Nat), RdC W W.heap.size A4 (intsV (numbersOf b rs)) → Calls Try.prog 24 #[.slice A4 (numbersOf b rs).length cap4, .int .i64 ((b + (bytesOf rs).length : Nat) : Int), .int .i64 nn] W (Looks (.int .i64 (X : Int)) W)) := Lib.hid (fun W A4 cap4 h1 => number_any (numbersOf b rs) _ cap4 rfl (by rw [numbersOf_len]; have := HLN.out; omega) h1 _ nn HNI.out jj hjj _ (fun x hx => by
              have h2 := (List.getElem?_eq_some_iff.1 hx).1
              rw [numbersOf_len] at h2
              rw [numbersOf_get b rs h2] at hx
              injection hx with hx
              rw [hX, hx]) (fun e => by rw [hX, startOf_end b rs (by rw [e, numbersOf_len]; exact Nat.le_refl _)]))
            have HTR : Hid (∀ W : World, Wl W wb.heap.size q p g d2 b s pre rs → Below wb.heap.size wb W → Calls Try.prog 26 #[.pointer (some ⟨q, 0, none⟩), .int .i64 (X : Int)] W (fun e w7 => ∃ v, e = .returned (.int .i64 v) ∧ Only (fun k => k = p) W w7 ∧ ∀ v9, v9 = .int .i64 ((k + 1 : Nat) : Int) → WkL wb q p l0 v9 w7)) := Lib.hid (fun W h1 h2 => by
              by_cases hs : startOf b rs jj ≤ s
              · refine (trim_yes h1 hjl hs _ (by rw [hX])).mono ?_
                rintro e w7 ⟨rfl, hw, hO⟩
                exact ⟨_, rfl, hO, fun v9 h9 => HN.out v9 w7 _ _ _ _ _ _ h9 hw (by rw [startOf_bytes]; have := HBL.out; omega) (onlyP h2 (Nat.le_refl _) hO h1.disk.ge.1)⟩
              · refine (trim_no h1 _ (.inr (by rw [hX]; omega))).mono ?_
                rintro e w7 ⟨rfl, hb⟩
                exact ⟨_, rfl, Only.of_below hb, fun v9 h9 => HN.out v9 w7 _ _ _ _ _ _ h9 (h1.below hb) (by have := HBL.out; omega) (belowM h2 (Nat.le_refl _) hb)⟩)
            have hpl : p < wr.heap.size := HW.out.disk.lt
            have HPL := Lib.hid hpl
            have hwas : wr.heap.size < wa.heap.size := by rw [HWA.out]; simp
            have HWS := Lib.hid hwas
            rw [← HWA.out] at y1
            have HS0 : Hid (∀ W : World, W.heap = wa.heap → W.cell? ⟨wr.heap.size, 1, none⟩ = some (.int .i64 nn)) := Lib.hid fun W e => (World.cell?_of_block (by rw [e])).trans y1
            clear hjj hjl hX hpl hwas
            go_wp2_with fail
            rw [← HWA.out]
            go_region_held3 (fun W => W.cell? ⟨wr.heap.size, 1, none⟩ = some (.int .i64 nn))
              (first
                | exact HS7.out _ rfl
                | exact HS4.out _ rfl
                | exact HS0.out _ rfl)
              (first
              | (go_at_call 25; refine (HNU.out _ (by rfl)).mono ?_; rintro e w4 ⟨A4, cap4, rfl, hrc, _, hb⟩
                 have hb := below_drew hb
                 have HRC := Lib.hid hrc
                 have HW4 := Lib.hid (HWW.out.below hb)
                 have HB4 : Hid (∀ m, Below wb.heap.size wb (w4.drewN m)) := Lib.hid fun m => (HBW.out.trans (hb.mono HBW.out.size)).trans ((drewN_below w4 m).mono (Nat.le_trans HBW.out.size hb.size))
                 have HS4 : Hid (∀ W : World, W.heap = w4.heap → W.cell? ⟨wr.heap.size, 1, none⟩ = some (.int .i64 nn)) := Lib.hid fun W e => (World.cell?_of_block (by rw [e]; exact hb.block _ HWS.out)).trans (HS0.out wa rfl)
                 have HWS4 : Hid (wr.heap.size < w4.heap.size) := Lib.hid (Nat.lt_of_lt_of_le HWS.out hb.size)
                 clear hb hrc)
              | (go_at_call 36; refine (end_any (HW4.out.disk.heap (by rfl))).mono ?_; rintro e w5 ⟨rfl, n5, rfl⟩)
              | (go_at_call 24; simp only [← Int.natCast_add]; refine (HNB.out _ _ _ (by exact HRC.out.below (drewN_below w4 _) (Nat.le_refl _))).mono ?_; rintro e w6 ⟨rfl, rfl⟩)
              | (go_at_call 26; refine (HTR.out _ (HW4.out.heap (by rfl)) (HB4.out _)).mono ?_; rintro e w7 ⟨v7, rfl, hO, hN⟩
                 have HY := Lib.hid hN
                 have HS7 : Hid (∀ W : World, W.heap = w7.heap → W.cell? ⟨wr.heap.size, 1, none⟩ = some (.int .i64 nn)) := Lib.hid fun W e => (World.cell?_of_block (by rw [e]; exact hO.block _ HWS4.out (fun e8 => by have h8 : wr.heap.size = p := e8; have := HPL.out; omega))).trans (HS4.out w4 rfl)
                 clear hO hN)
              | fail)
            go_wp2_with fail
            go_roundw
            case rel => first | exact HY.out _ (by go_num) | ((repeat apply Exists.intro); exact ⟨HY.out _ (by go_num), rfl⟩)
            case measure => simp [intOf]; omega
          · have hk3b : (kk == 3) = false := beq_false_of_ne hk3
            have HY : Hid (∀ v9, v9 = .int .i64 ((k + 1 : Nat) : Int) → WkL wb q p l0 v9 wa) := Lib.hid fun v9 h9 => HN.out v9 wa _ _ _ _ _ _ h9 HWW.out (by have := HBL.out; omega) HBW.out
            rw [HWA.out] at HY
            go_wp2_with fail
            go_roundw
            case rel => first | exact HY.out _ (by go_num) | ((repeat apply Exists.intro); exact ⟨HY.out _ (by go_num), rfl⟩)
            case measure => simp [intOf]; omega
    · by_cases hlt1 : k < l0.length
      · have hlti : (k : Int) < (l0.length : Int) := by omega
        have hlt4 : ¬ (k : Int) < 40 := by omega
        clear hlt hlt1 hk hk4
        go_wp2_with (first
          | (go_at_call_of 25 q; refine (numbers_any HW.out).mono ?_; rintro e w4 ⟨A4, cap4, rfl, hrc, _, hb⟩
             rw [numbersOf_len]
             have HB4 := Lib.hid (HB.out.trans (hb.mono HB.out.size))
             have HW4 := Lib.hid (HW.out.below hb)
             have HRC4 := Lib.hid hrc
             clear hb hrc))
        have HST2 : Hid (WkL2 w4 q rs (.slice none 0 0) (.int .i64 0) w4) := Lib.hid ⟨0, q, [], rfl, Nat.zero_le _, rfl, .inl ⟨rfl, rfl, rfl, rfl⟩, .inl rfl, (fun x hx => by cases hx), Below.refl _ _⟩
        have HQ4 : Hid (q < w4.heap.size) := Lib.hid HW4.out.lt
        go_loopw [8, 12] (fun v8 v12 wr => WkL2 w4 q rs v8 v12 wr) (fun _ v12 _ => rs.length - (intOf v12).toNat)
        case atStart => exact HST2.out
        case round =>
          obtain ⟨i, gA, rows, rfl, hi2, hm, hh, hg, hro, hb⟩ := hrel
          have HB2 := Lib.hid hb
          have HHH := Lib.hid hh
          have HG := Lib.hid hg
          have HRO := Lib.hid hro
          have HM := Lib.hid hm
          have hrl : rs.length ≤ 100000 := by have := HW4.out.few; omega
          have hri5 : (rs.length : Int) ≤ 100000 := by omega
          by_cases hlt2 : i < rs.length
          · have hlti2 : (i : Int) < (rs.length : Int) := by omega
            obtain ⟨r, hri⟩ : ∃ r, rs[i]? = some r := ⟨_, List.getElem?_eq_getElem hlt2⟩
            obtain ⟨b1, o1, hA4, c4⟩ := HRC4.out.at_ (intsV_get (numbersOf_get b rs hlt2)) hb (Nat.le_refl _)
            subst hA4
            have HRD := Lib.hid (wread_yes (HW4.out.below hb) hri _ rfl)
            obtain ⟨X, hX⟩ : ∃ X, X = startOf b rs i := ⟨_, rfl⟩
            rw [← hX] at HRD c4
            have HRI := Lib.hid hri
            have hi5 : i ≤ 100000 := by omega
            have HI5 := Lib.hid hi5
            have hgl := hh.lt (Nat.lt_of_lt_of_le HQ4.out hb.size)
            have HGL := Lib.hid hgl
            clear hX hri hi2 hm hh hg hro hb hlt2 hi5 hrl hgl
            go_wp2_with (first
              | (go_at_call_of 38 q; refine HRD.out.mono ?_; rintro e w5 ⟨v5, rfl, ho, hb5⟩
                 obtain ⟨_, A5, c5, hv5, _⟩ := id ho
                 subst hv5
                 have HO5 := Lib.hid ho
                 have HB5 := Lib.hid hb5
                 have HHA : Hid (∀ o, HeldC (w5.alloc o) q gA 1 u8 i (rowsV rows)) := Lib.hid fun o => (HHH.out.only (Only.of_below (K := fun _ => False) hb5) (fun _ => id)).only (Only.of_below (K := fun _ => False) (alloc_below w5 o)) (fun _ => id)
                 have HQA : Hid (∀ o, q < (w5.alloc o).heap.size) := Lib.hid fun o => by have := alloc_size w5 o; have := hb5.size; have := HB2.out.size; have := HQ4.out; omega
                 clear ho hb5)
              | (at_builtin
                 refine wpList_appHC (n := i) (m := 1) (ys := [.slice A5 r.length c5]) (by rfl) _ _ 66 23 (by rfl) Try.underlying66 hib hzb0 hzb1 hzb2 (by rfl) (by omega) (by rfl) (HHA.out _) (HQA.out _) (by rfl) (by rfl) (one_cell1 _ _ _) (one_val _ rfl) (by have := HI5.out; omega) (by have := HI5.out; omega) ?_
                 intro g6 v6 w6 ho6 hO6 hg6
                 have HY : Hid (∀ v12, v12 = .int .i64 ((i + 1 : Nat) : Int) → WkL2 w4 q rs v6 v12 w6) := Lib.hid (fun v12 h12 => rows_next HQ4.out HRI.out HM.out HRO.out HG.out HGL.out HB2.out HO5.out HB5.out ho6 hO6 hg6 h12)
                 clear ho6 hO6 hg6))
            go_roundw
            case rel => first | exact HY.out _ (by go_num) | ((repeat apply Exists.intro); exact ⟨HY.out _ (by go_num), rfl⟩)
            case measure => simp [intOf]; omega
          · have hil : i = rs.length := by omega
            subst hil
            have hlti2 : ¬ (rs.length : Int) < (rs.length : Int) := by omega
            rw [List.take_length] at HM
            obtain ⟨m0, hm0⟩ := splitE_any b rs (s : Int)
            have hm0l : m0 ≤ rs.length := by have := hm0.le; rw [placesOf_len] at this; exact this
            have hms : startOf b rs m0 ≤ s := by
              rcases Nat.eq_zero_or_pos m0 with h7 | h7
              · rw [h7, startOf_zero]; exact HW4.out.disk.bs
              · have h8 := hm0.lo (m0 - 1) _ (placesOf_some b rs (by omega)) (by omega)
                rw [show m0 - 1 + 1 = m0 by omega] at h8
                have h9 : ((startOf b rs m0 : Nat) : Int) ≤ (s : Int) := h8
                omega
            have HWR := Lib.hid (HW4.out.below hb)
            have HSF := Lib.hid (wsafe_any HWR.out m0 hm0)
            obtain ⟨A8, c8, hv8, _⟩ := hh.slice
            subst hv8
            have HRD8 : Hid (RdC wr wr.heap.size A8 (rowsV rows)) := Lib.hid HHH.out.rd.1
            have HML := Lib.hid hm0l
            have HMS := Lib.hid hms
            have HREC : Hid (∀ r ∈ rs, 1 ≤ r.length ∧ r.length ≤ 4096) := Lib.hid HW4.out.recs
            have hm0i : (m0 : Int) ≤ (rs.length : Int) := by omega
            clear hm hh hg hro hb hi2 hlt2 hm0 hm0l hms hrl
            go_wp2_with (first
              | (go_at_call_of 33 q; refine HSF.out.mono ?_; rintro e w6 ⟨rfl, hb⟩
                 have HB46 := Lib.hid (HB2.out.trans (hb.mono HB2.out.size))
                 have HB6 := Lib.hid (HB4.out.trans (HB46.out.mono HB4.out.size))
                 have HW6 := Lib.hid (HWR.out.below hb)
                 have HROW : Hid (∀ W, Below w6.heap.size w6 W → ∀ j r, rs[j]? = some r → ∃ A c bb oo, A8 = some ⟨bb, oo, none⟩ ∧ W.cell? ⟨bb, oo + j, none⟩ = some (.slice A r.length c) ∧ RdB W W.heap.size A r) := Lib.hid (by
                   intro W hbW j r hj
                   rw [← HM.out, List.getElem?_map, Option.map_eq_some_iff] at hj
                   obtain ⟨x, hx, rfl⟩ := hj
                   obtain ⟨bb, oo, hA, hcell⟩ := HRD8.out.at_ (rowsV_get hx) (hb.trans (hbW.mono hb.size)) (Nat.le_refl _)
                   have h3 := (HRO.out x (List.mem_of_getElem? hx)).1
                   exact ⟨x.A, x.cap, bb, oo, hA, hcell, (h3.below (hb.trans (hbW.mono hb.size)) (Nat.le_refl _)).more (Nat.le_trans hb.size hbW.size)⟩)
                 have HNUM : Hid (∀ W, Below w6.heap.size w6 W → ∀ j, j < rs.length → ∃ bb oo, A4 = some ⟨bb, oo, none⟩ ∧ W.cell? ⟨bb, oo + j, none⟩ = some (.int .i64 ((startOf b rs j : Nat) : Int))) := Lib.hid (fun W hbW j hj => HRC4.out.at_ (intsV_get (numbersOf_get b rs hj)) (HB46.out.trans (hbW.mono HB46.out.size)) (Nat.le_refl _))
                 clear hb))
            have HST3 : Hid (WkL3 wb w6 b m0 rs (.pointer (some ⟨p, 0, none⟩)) (.int .i64 0) w6) := Lib.hid ⟨0, p, g, s, rs.length, rfl, rfl, by omega, by rw [List.take_length]; exact HW6.out.disk, Nat.le_refl _, HML.out, HMS.out, Below.refl _ _⟩
            clear HW6 HB46 HRD8 HSF HWR HRO HM HHH HG HB2 HST2 HRC4 HW4 HB HW
            go_loopw [5, 16] (fun v5 v16 wr => WkL3 wb w6 b m0 rs v5 v16 wr) (fun _ v16 _ => 2 - (intOf v16).toNat)
            case atStart => exact HST3.out
            case round =>
              obtain ⟨kk, p3, g3, s3, m, rfl, rfl, hkk, hd3, hm3, hm03, hs3, hb3⟩ := hrel
              have HB3 := Lib.hid hb3
              have HWR3 := Lib.hid (HB6.out.trans (hb3.mono HB6.out.size))
              by_cases hk2 : kk < 2
              · have hki2 : (kk : Int) < 2 := by omega
                obtain ⟨C, hC, cC⟩ : ∃ C, i64ok C ∧ wr.cell? ⟨w.heap.size, kk, none⟩ = some (.int .i64 C) := by
                  obtain ⟨e1, e2⟩ := HKP.out wr HWR3.out
                  rcases Nat.lt_or_ge kk 1 with h7 | h7
                  · have : kk = 0 := by omega
                    subst this
                    exact ⟨a1, HA.out, e1⟩
                  · have : kk = 1 := by omega
                    subst this
                    exact ⟨b1, HBK.out, e2⟩
                obtain ⟨n, hn⟩ : ∃ n, n = pickZ C (b + (bytesOf (rs.take m)).length - s3 + 1) := ⟨_, rfl⟩
                obtain ⟨s', hs'⟩ : ∃ s', s' = s3 + n := ⟨_, rfl⟩
                have HPW := Lib.hid (power_at hd3 C hC n s' hn hs' _ rfl)
                obtain ⟨m', t, hm', hL, ht, hcnt⟩ := take_bytes (rs.take m) (fun r hr => HREC.out r (List.mem_of_mem_take hr)) (s' - b)
                have hm'l : m' ≤ m := by rw [List.length_take] at hm'; omega
                have hR : (rs.take m).take m' = rs.take m' := by rw [List.take_take]; congr 1; omega
                rw [hR] at hL
                have hm0' : m0 ≤ m' := by
                  refine hcnt m0 (by rw [List.length_take]; omega) ?_
                  rw [List.take_take, show min m0 m = m0 by omega]
                  have : startOf b rs m0 = b + (bytesOf (rs.take m0)).length := rfl
                  omega
                have hlm : (rs.take m').length = m' := by rw [List.length_take]; omega
                have HLM := Lib.hid hlm
                have HL := Lib.hid hL
                have HT := Lib.hid ht
                have HM0 := Lib.hid hm0'
                have HML2 : Hid (m' ≤ rs.length) := Lib.hid (by omega)
                have HREC2 : Hid (∀ r ∈ rs.take m', 1 ≤ r.length ∧ r.length ≤ 4096) := Lib.hid fun r hr => HREC.out r (List.mem_of_mem_take hr)
                have HSE : Hid (startOf b rs m0 ≤ b + (bytesOf (rs.take m')).length) := Lib.hid (startOf_le b rs hm0')
                have hc1 : ¬ (m' : Int) < (m0 : Int) := by omega
                have hc2 : ¬ (rs.length : Int) < (m' : Int) := by omega
                have hc3 : (m' : Int) ≤ 100000 := by omega
                have hkk1 : kk + 1 ≤ 2 := hk2
                clear hkk hd3 hm3 hm03 hs3 hb3 hC hn hs' hm' hL ht hcnt hm'l hR hm0' hlm hk2
                go_wp2_with (first
                  | (go_at_call 28; refine HPW.out.mono ?_; rintro e w7 ⟨p7, g7, rfl, hd7, hb7⟩
                     have HD7 := Lib.hid hd7
                     have HB7 := Lib.hid hb7
                     clear hd7 hb7)
                  | (go_at_call 18; refine (open_any HD7.out HB7.out.size (rs.take m') t HL.out HT.out HREC2.out).mono ?_; rintro e w8 ⟨q8, d8, rfl, hw8, _, _, hO8⟩
                     have HB8 := Lib.hid (onlyP HB7.out (Nat.le_refl _) hO8 HD7.out.ge.1)
                     have HW8 := Lib.hid hw8
                     clear hw8 hO8)
                  | (go_at_call_of 25 q8; refine (numbers_any HW8.out).mono ?_; rintro e w9 ⟨A9, cap9, rfl, hrc9, _, hb9⟩
                     rw [numbersOf_len, HLM.out]
                     have HB9 := Lib.hid (HB8.out.trans (hb9.mono HB8.out.size))
                     have HW9 := Lib.hid (HW8.out.below hb9)
                     have HRC9 := Lib.hid hrc9
                     clear hb9 hrc9)
                  | (go_at_call_of 33 q8; refine (wsafe_any HW9.out (rs.take m').length (splitE_end b (rs.take m'))).mono ?_; rintro e w10 ⟨rfl, hb10⟩
                     rw [HLM.out]
                     have HB910 := Lib.hid hb10
                     have HB10 := Lib.hid (HB9.out.trans (hb10.mono HB9.out.size))
                     have HW10 := Lib.hid (HW9.out.below hb10)
                     clear hb10))
                have HST4 : Hid (WkL4 w10 m' (.int .i64 0) w10) := Lib.hid ⟨0, rfl, Nat.zero_le _, Below.refl _ _⟩
                have HB610 := Lib.hid (HB3.out.trans (HB10.out.mono HB3.out.size))
                have HWB10 := Lib.hid (HWR3.out.trans (HB10.out.mono HWR3.out.size))
                have hd1 : decide (m' < m0) = false := decide_eq_false (by omega)
                have hd2 : decide (rs.length < m') = false := decide_eq_false (by omega)
                simp only [hd1, hd2, Bool.or_false]
                clear hc1 hc2 hd1 hd2
                go_loopw [20] (fun v20 wr => WkL4 w10 m' v20 wr) (fun v20 _ => m' - (intOf v20).toNat)
                case atStart => exact HST4.out
                case round =>
                  obtain ⟨i2, rfl, hi2, hb2⟩ := hrel
                  have HB2 := Lib.hid hb2
                  have HWI := Lib.hid (HW10.out.below hb2)
                  by_cases hli : i2 < m'
                  · have hlii : (i2 : Int) < (m' : Int) := by omega
                    have hlii2 : (i2 : Int) < (rs.length : Int) := by omega
                    obtain ⟨r, hri⟩ : ∃ r, rs[i2]? = some r := ⟨_, List.getElem?_eq_getElem (by have := HML2.out; omega)⟩
                    have hst : startOf b (rs.take m') i2 = startOf b rs i2 := by unfold startOf; rw [List.take_take, show min i2 m' = i2 by omega]
                    have hri2 : (rs.take m')[i2]? = some r := by rw [List.getElem?_take, if_pos hli]; exact hri
                    obtain ⟨bb9, oo9, hA9, c9⟩ := HRC9.out.at_ (intsV_get (numbersOf_get b (rs.take m') (by rw [HLM.out]; exact hli))) (HB910.out.trans (hb2.mono HB910.out.size)) (Nat.le_refl _)
                    subst hA9
                    obtain ⟨bb4, oo4, hA4, c4⟩ := HNUM.out _ (HB610.out.trans (hb2.mono HB610.out.size)) i2 (by have := HML2.out; omega)
                    subst hA4
                    obtain ⟨Ar, cr, bb8, oo8, hA8, c8, hrd8⟩ := HROW.out _ (HB610.out.trans (hb2.mono HB610.out.size)) i2 r hri
                    subst hA8
                    obtain ⟨X, hX⟩ : ∃ X, X = startOf b rs i2 := ⟨_, rfl⟩
                    rw [hst] at c9
                    rw [← hX] at c9 c4
                    have HRD := Lib.hid (wread_yes HWI.out hri2 (X : Int) (by rw [hX, hst]))
                    have HRD8 := Lib.hid hrd8
                    obtain ⟨sr, hsr⟩ := ba_of r
                    have HSR := Lib.hid hsr
                    have HC9 := Lib.hid c9
                    have HC4 := Lib.hid c4
                    have HC8 := Lib.hid c8
                    have hli1 : i2 + 1 ≤ m' := hli
                    clear hri hst hri2 hrd8 hX hsr hi2 hb2 hli c9 c4 c8
                    have c9 := HC9.out
                    go_wp2_with (first
                      | (go_at_call_of 38 q8; refine HRD.out.mono ?_; rintro e w11 ⟨v11, rfl, ho11, hb11⟩
                         have d9 := (World.cell?_of_block (hb11.block _ (cell_lt HC9.out))).trans HC9.out
                         have d4 := (World.cell?_of_block (hb11.block _ (cell_lt HC4.out))).trans HC4.out
                         have d8 := (World.cell?_of_block (hb11.block _ (cell_lt HC8.out))).trans HC8.out
                         have kv : ∀ n, (convert 23 9 v11).run Try.prog (w11.drewN n) = .ok (.string sr) (w11.drewN n) := fun n => conv_ownS (ho11.below (drewN_below _ n)) _ HSR.out
                         have kr : ∀ n, (convert 23 9 (.slice Ar r.length cr)).run Try.prog (w11.drewN n) = .ok (.string sr) (w11.drewN n) := fun n => conv_rd ((HRD8.out.below hb11 (Nat.le_refl _)).below (drewN_below _ n) (by have := hb11.size; exact this)) rfl _ HSR.out
                         have HY : Hid (∀ n v20, v20 = .int .i64 ((i2 + 1 : Nat) : Int) → WkL4 w10 m' v20 (w11.drewN n)) := Lib.hid fun n v20 h20 => ⟨i2 + 1, h20, hli1, (HB2.out.trans (hb11.mono HB2.out.size)).trans ((drewN_below _ n).mono (Nat.le_trans HB2.out.size hb11.size))⟩
                         clear ho11 hb11))
                    go_quiet (fail)
                    go_wp2_with fail
                    go_roundw
                    case rel => first | exact HY.out _ _ (by go_num) | ((repeat apply Exists.intro); exact ⟨HY.out _ (.int .i64 ((i2 : Int) + 1)) (by go_num), rfl⟩)
                    case measure => simp [intOf]; omega
                  · have hil : i2 = m' := by omega
                    subst hil
                    have hlii : ¬ (i2 : Int) < (i2 : Int) := by omega
                    have HEND : Hid (∀ v16, v16 = .int .i64 ((kk + 1 : Nat) : Int) → WkL3 wb w6 b m0 rs (.pointer (some ⟨p7, 0, none⟩)) v16 _) := Lib.hid fun v16 h16 => ⟨kk + 1, p7, g7, _, i2, rfl, h16, hkk1, HWI.out.disk.more HWR3.out.size, HML2.out, HM0.out, HSE.out, HB610.out.trans (hb2.mono HB610.out.size)⟩
                    clear hi2 hb2 hli
                    go_wp2_with fail
                    go_roundw
                    case rel => first | exact HEND.out _ (by go_num) | ((repeat apply Exists.intro); exact ⟨HEND.out _ (by go_num), rfl⟩)
                    case measure => simp [intOf]; omega
              · have hk2e : kk = 2 := by omega
                subst hk2e
                clear hkk hd3 hm3 hm03 hs3 hb3 hk2
                go_wp2_with fail
                go_ret
                exact ⟨rfl, HW0.out.trans (HWR3.out.mono HW0.out.size)⟩
      · have hlti : ¬ (k : Int) < (l0.length : Int) := by omega
        clear hlt hlt1 hk hk4
        go_wp2_with (first
          | (go_at_call_of 25 q; refine (numbers_any HW.out).mono ?_; rintro e w4 ⟨A4, cap4, rfl, hrc, _, hb⟩
             rw [numbersOf_len]
             have HB4 := Lib.hid (HB.out.trans (hb.mono HB.out.size))
             have HW4 := Lib.hid (HW.out.below hb)
             have HRC4 := Lib.hid hrc
             clear hb hrc))
        have HST2 : Hid (WkL2 w4 q rs (.slice none 0 0) (.int .i64 0) w4) := Lib.hid ⟨0, q, [], rfl, Nat.zero_le _, rfl, .inl ⟨rfl, rfl, rfl, rfl⟩, .inl rfl, (fun x hx => by cases hx), Below.refl _ _⟩
        have HQ4 : Hid (q < w4.heap.size) := Lib.hid HW4.out.lt
        go_loopw [8, 12] (fun v8 v12 wr => WkL2 w4 q rs v8 v12 wr) (fun _ v12 _ => rs.length - (intOf v12).toNat)
        case atStart => exact HST2.out
        case round =>
          obtain ⟨i, gA, rows, rfl, hi2, hm, hh, hg, hro, hb⟩ := hrel
          have HB2 := Lib.hid hb
          have HHH := Lib.hid hh
          have HG := Lib.hid hg
          have HRO := Lib.hid hro
          have HM := Lib.hid hm
          have hrl : rs.length ≤ 100000 := by have := HW4.out.few; omega
          have hri5 : (rs.length : Int) ≤ 100000 := by omega
          by_cases hlt2 : i < rs.length
          · have hlti2 : (i : Int) < (rs.length : Int) := by omega
            obtain ⟨r, hri⟩ : ∃ r, rs[i]? = some r := ⟨_, List.getElem?_eq_getElem hlt2⟩
            obtain ⟨b1, o1, hA4, c4⟩ := HRC4.out.at_ (intsV_get (numbersOf_get b rs hlt2)) hb (Nat.le_refl _)
            subst hA4
            have HRD := Lib.hid (wread_yes (HW4.out.below hb) hri _ rfl)
            obtain ⟨X, hX⟩ : ∃ X, X = startOf b rs i := ⟨_, rfl⟩
            rw [← hX] at HRD c4
            have HRI := Lib.hid hri
            have hi5 : i ≤ 100000 := by omega
            have HI5 := Lib.hid hi5
            have hgl := hh.lt (Nat.lt_of_lt_of_le HQ4.out hb.size)
            have HGL := Lib.hid hgl
            clear hX hri hi2 hm hh hg hro hb hlt2 hi5 hrl hgl
            go_wp2_with (first
              | (go_at_call_of 38 q; refine HRD.out.mono ?_; rintro e w5 ⟨v5, rfl, ho, hb5⟩
                 obtain ⟨_, A5, c5, hv5, _⟩ := id ho
                 subst hv5
                 have HO5 := Lib.hid ho
                 have HB5 := Lib.hid hb5
                 have HHA : Hid (∀ o, HeldC (w5.alloc o) q gA 1 u8 i (rowsV rows)) := Lib.hid fun o => (HHH.out.only (Only.of_below (K := fun _ => False) hb5) (fun _ => id)).only (Only.of_below (K := fun _ => False) (alloc_below w5 o)) (fun _ => id)
                 have HQA : Hid (∀ o, q < (w5.alloc o).heap.size) := Lib.hid fun o => by have := alloc_size w5 o; have := hb5.size; have := HB2.out.size; have := HQ4.out; omega
                 clear ho hb5)
              | (at_builtin
                 refine wpList_appHC (n := i) (m := 1) (ys := [.slice A5 r.length c5]) (by rfl) _ _ 66 23 (by rfl) Try.underlying66 hib hzb0 hzb1 hzb2 (by rfl) (by omega) (by rfl) (HHA.out _) (HQA.out _) (by rfl) (by rfl) (one_cell1 _ _ _) (one_val _ rfl) (by have := HI5.out; omega) (by have := HI5.out; omega) ?_
                 intro g6 v6 w6 ho6 hO6 hg6
                 have HY : Hid (∀ v12, v12 = .int .i64 ((i + 1 : Nat) : Int) → WkL2 w4 q rs v6 v12 w6) := Lib.hid (fun v12 h12 => rows_next HQ4.out HRI.out HM.out HRO.out HG.out HGL.out HB2.out HO5.out HB5.out ho6 hO6 hg6 h12)
                 clear ho6 hO6 hg6))
            go_roundw
            case rel => first | exact HY.out _ (by go_num) | ((repeat apply Exists.intro); exact ⟨HY.out _ (by go_num), rfl⟩)
            case measure => simp [intOf]; omega
          · have hil : i = rs.length := by omega
            subst hil
            have hlti2 : ¬ (rs.length : Int) < (rs.length : Int) := by omega
            rw [List.take_length] at HM
            obtain ⟨m0, hm0⟩ := splitE_any b rs (s : Int)
            have hm0l : m0 ≤ rs.length := by have := hm0.le; rw [placesOf_len] at this; exact this
            have hms : startOf b rs m0 ≤ s := by
              rcases Nat.eq_zero_or_pos m0 with h7 | h7
              · rw [h7, startOf_zero]; exact HW4.out.disk.bs
              · have h8 := hm0.lo (m0 - 1) _ (placesOf_some b rs (by omega)) (by omega)
                rw [show m0 - 1 + 1 = m0 by omega] at h8
                have h9 : ((startOf b rs m0 : Nat) : Int) ≤ (s : Int) := h8
                omega
            have HWR := Lib.hid (HW4.out.below hb)
            have HSF := Lib.hid (wsafe_any HWR.out m0 hm0)
            obtain ⟨A8, c8, hv8, _⟩ := hh.slice
            subst hv8
            have HRD8 : Hid (RdC wr wr.heap.size A8 (rowsV rows)) := Lib.hid HHH.out.rd.1
            have HML := Lib.hid hm0l
            have HMS := Lib.hid hms
            have HREC : Hid (∀ r ∈ rs, 1 ≤ r.length ∧ r.length ≤ 4096) := Lib.hid HW4.out.recs
            have hm0i : (m0 : Int) ≤ (rs.length : Int) := by omega
            clear hm hh hg hro hb hi2 hlt2 hm0 hm0l hms hrl
            go_wp2_with (first
              | (go_at_call_of 33 q; refine HSF.out.mono ?_; rintro e w6 ⟨rfl, hb⟩
                 have HB46 := Lib.hid (HB2.out.trans (hb.mono HB2.out.size))
                 have HB6 := Lib.hid (HB4.out.trans (HB46.out.mono HB4.out.size))
                 have HW6 := Lib.hid (HWR.out.below hb)
                 have HROW : Hid (∀ W, Below w6.heap.size w6 W → ∀ j r, rs[j]? = some r → ∃ A c bb oo, A8 = some ⟨bb, oo, none⟩ ∧ W.cell? ⟨bb, oo + j, none⟩ = some (.slice A r.length c) ∧ RdB W W.heap.size A r) := Lib.hid (by
                   intro W hbW j r hj
                   rw [← HM.out, List.getElem?_map, Option.map_eq_some_iff] at hj
                   obtain ⟨x, hx, rfl⟩ := hj
                   obtain ⟨bb, oo, hA, hcell⟩ := HRD8.out.at_ (rowsV_get hx) (hb.trans (hbW.mono hb.size)) (Nat.le_refl _)
                   have h3 := (HRO.out x (List.mem_of_getElem? hx)).1
                   exact ⟨x.A, x.cap, bb, oo, hA, hcell, (h3.below (hb.trans (hbW.mono hb.size)) (Nat.le_refl _)).more (Nat.le_trans hb.size hbW.size)⟩)
                 have HNUM : Hid (∀ W, Below w6.heap.size w6 W → ∀ j, j < rs.length → ∃ bb oo, A4 = some ⟨bb, oo, none⟩ ∧ W.cell? ⟨bb, oo + j, none⟩ = some (.int .i64 ((startOf b rs j : Nat) : Int))) := Lib.hid (fun W hbW j hj => HRC4.out.at_ (intsV_get (numbersOf_get b rs hj)) (HB46.out.trans (hbW.mono HB46.out.size)) (Nat.le_refl _))
                 clear hb))
            have HST3 : Hid (WkL3 wb w6 b m0 rs (.pointer (some ⟨p, 0, none⟩)) (.int .i64 0) w6) := Lib.hid ⟨0, p, g, s, rs.length, rfl, rfl, by omega, by rw [List.take_length]; exact HW6.out.disk, Nat.le_refl _, HML.out, HMS.out, Below.refl _ _⟩
            clear HW6 HB46 HRD8 HSF HWR HRO HM HHH HG HB2 HST2 HRC4 HW4 HB HW
            go_loopw [5, 16] (fun v5 v16 wr => WkL3 wb w6 b m0 rs v5 v16 wr) (fun _ v16 _ => 2 - (intOf v16).toNat)
            case atStart => exact HST3.out
            case round =>
              obtain ⟨kk, p3, g3, s3, m, rfl, rfl, hkk, hd3, hm3, hm03, hs3, hb3⟩ := hrel
              have HB3 := Lib.hid hb3
              have HWR3 := Lib.hid (HB6.out.trans (hb3.mono HB6.out.size))
              by_cases hk2 : kk < 2
              · have hki2 : (kk : Int) < 2 := by omega
                obtain ⟨C, hC, cC⟩ : ∃ C, i64ok C ∧ wr.cell? ⟨w.heap.size, kk, none⟩ = some (.int .i64 C) := by
                  obtain ⟨e1, e2⟩ := HKP.out wr HWR3.out
                  rcases Nat.lt_or_ge kk 1 with h7 | h7
                  · have : kk = 0 := by omega
                    subst this
                    exact ⟨a1, HA.out, e1⟩
                  · have : kk = 1 := by omega
                    subst this
                    exact ⟨b1, HBK.out, e2⟩
                obtain ⟨n, hn⟩ : ∃ n, n = pickZ C (b + (bytesOf (rs.take m)).length - s3 + 1) := ⟨_, rfl⟩
                obtain ⟨s', hs'⟩ : ∃ s', s' = s3 + n := ⟨_, rfl⟩
                have HPW := Lib.hid (power_at hd3 C hC n s' hn hs' _ rfl)
                obtain ⟨m', t, hm', hL, ht, hcnt⟩ := take_bytes (rs.take m) (fun r hr => HREC.out r (List.mem_of_mem_take hr)) (s' - b)
                have hm'l : m' ≤ m := by rw [List.length_take] at hm'; omega
                have hR : (rs.take m).take m' = rs.take m' := by rw [List.take_take]; congr 1; omega
                rw [hR] at hL
                have hm0' : m0 ≤ m' := by
                  refine hcnt m0 (by rw [List.length_take]; omega) ?_
                  rw [List.take_take, show min m0 m = m0 by omega]
                  have : startOf b rs m0 = b + (bytesOf (rs.take m0)).length := rfl
                  omega
                have hlm : (rs.take m').length = m' := by rw [List.length_take]; omega
                have HLM := Lib.hid hlm
                have HL := Lib.hid hL
                have HT := Lib.hid ht
                have HM0 := Lib.hid hm0'
                have HML2 : Hid (m' ≤ rs.length) := Lib.hid (by omega)
                have HREC2 : Hid (∀ r ∈ rs.take m', 1 ≤ r.length ∧ r.length ≤ 4096) := Lib.hid fun r hr => HREC.out r (List.mem_of_mem_take hr)
                have HSE : Hid (startOf b rs m0 ≤ b + (bytesOf (rs.take m')).length) := Lib.hid (startOf_le b rs hm0')
                have hc1 : ¬ (m' : Int) < (m0 : Int) := by omega
                have hc2 : ¬ (rs.length : Int) < (m' : Int) := by omega
                have hc3 : (m' : Int) ≤ 100000 := by omega
                have hkk1 : kk + 1 ≤ 2 := hk2
                clear hkk hd3 hm3 hm03 hs3 hb3 hC hn hs' hm' hL ht hcnt hm'l hR hm0' hlm hk2
                go_wp2_with (first
                  | (go_at_call 28; refine HPW.out.mono ?_; rintro e w7 ⟨p7, g7, rfl, hd7, hb7⟩
                     have HD7 := Lib.hid hd7
                     have HB7 := Lib.hid hb7
                     clear hd7 hb7)
                  | (go_at_call 18; refine (open_any HD7.out HB7.out.size (rs.take m') t HL.out HT.out HREC2.out).mono ?_; rintro e w8 ⟨q8, d8, rfl, hw8, _, _, hO8⟩
                     have HB8 := Lib.hid (onlyP HB7.out (Nat.le_refl _) hO8 HD7.out.ge.1)
                     have HW8 := Lib.hid hw8
                     clear hw8 hO8)
                  | (go_at_call_of 25 q8; refine (numbers_any HW8.out).mono ?_; rintro e w9 ⟨A9, cap9, rfl, hrc9, _, hb9⟩
                     rw [numbersOf_len, HLM.out]
                     have HB9 := Lib.hid (HB8.out.trans (hb9.mono HB8.out.size))
                     have HW9 := Lib.hid (HW8.out.below hb9)
                     have HRC9 := Lib.hid hrc9
                     clear hb9 hrc9)
                  | (go_at_call_of 33 q8; refine (wsafe_any HW9.out (rs.take m').length (splitE_end b (rs.take m'))).mono ?_; rintro e w10 ⟨rfl, hb10⟩
                     rw [HLM.out]
                     have HB910 := Lib.hid hb10
                     have HB10 := Lib.hid (HB9.out.trans (hb10.mono HB9.out.size))
                     have HW10 := Lib.hid (HW9.out.below hb10)
                     clear hb10))
                have HST4 : Hid (WkL4 w10 m' (.int .i64 0) w10) := Lib.hid ⟨0, rfl, Nat.zero_le _, Below.refl _ _⟩
                have HB610 := Lib.hid (HB3.out.trans (HB10.out.mono HB3.out.size))
                have HWB10 := Lib.hid (HWR3.out.trans (HB10.out.mono HWR3.out.size))
                have hd1 : decide (m' < m0) = false := decide_eq_false (by omega)
                have hd2 : decide (rs.length < m') = false := decide_eq_false (by omega)
                simp only [hd1, hd2, Bool.or_false]
                clear hc1 hc2 hd1 hd2
                go_loopw [20] (fun v20 wr => WkL4 w10 m' v20 wr) (fun v20 _ => m' - (intOf v20).toNat)
                case atStart => exact HST4.out
                case round =>
                  obtain ⟨i2, rfl, hi2, hb2⟩ := hrel
                  have HB2 := Lib.hid hb2
                  have HWI := Lib.hid (HW10.out.below hb2)
                  by_cases hli : i2 < m'
                  · have hlii : (i2 : Int) < (m' : Int) := by omega
                    have hlii2 : (i2 : Int) < (rs.length : Int) := by omega
                    obtain ⟨r, hri⟩ : ∃ r, rs[i2]? = some r := ⟨_, List.getElem?_eq_getElem (by have := HML2.out; omega)⟩
                    have hst : startOf b (rs.take m') i2 = startOf b rs i2 := by unfold startOf; rw [List.take_take, show min i2 m' = i2 by omega]
                    have hri2 : (rs.take m')[i2]? = some r := by rw [List.getElem?_take, if_pos hli]; exact hri
                    obtain ⟨bb9, oo9, hA9, c9⟩ := HRC9.out.at_ (intsV_get (numbersOf_get b (rs.take m') (by rw [HLM.out]; exact hli))) (HB910.out.trans (hb2.mono HB910.out.size)) (Nat.le_refl _)
                    subst hA9
                    obtain ⟨bb4, oo4, hA4, c4⟩ := HNUM.out _ (HB610.out.trans (hb2.mono HB610.out.size)) i2 (by have := HML2.out; omega)
                    subst hA4
                    obtain ⟨Ar, cr, bb8, oo8, hA8, c8, hrd8⟩ := HROW.out _ (HB610.out.trans (hb2.mono HB610.out.size)) i2 r hri
                    subst hA8
                    obtain ⟨X, hX⟩ : ∃ X, X = startOf b rs i2 := ⟨_, rfl⟩
                    rw [hst] at c9
                    rw [← hX] at c9 c4
                    have HRD := Lib.hid (wread_yes HWI.out hri2 (X : Int) (by rw [hX, hst]))
                    have HRD8 := Lib.hid hrd8
                    obtain ⟨sr, hsr⟩ := ba_of r
                    have HSR := Lib.hid hsr
                    have HC9 := Lib.hid c9
                    have HC4 := Lib.hid c4
                    have HC8 := Lib.hid c8
                    have hli1 : i2 + 1 ≤ m' := hli
                    clear hri hst hri2 hrd8 hX hsr hi2 hb2 hli c9 c4 c8
                    have c9 := HC9.out
                    go_wp2_with (first
                      | (go_at_call_of 38 q8; refine HRD.out.mono ?_; rintro e w11 ⟨v11, rfl, ho11, hb11⟩
                         have d9 := (World.cell?_of_block (hb11.block _ (cell_lt HC9.out))).trans HC9.out
                         have d4 := (World.cell?_of_block (hb11.block _ (cell_lt HC4.out))).trans HC4.out
                         have d8 := (World.cell?_of_block (hb11.block _ (cell_lt HC8.out))).trans HC8.out
                         have kv : ∀ n, (convert 23 9 v11).run Try.prog (w11.drewN n) = .ok (.string sr) (w11.drewN n) := fun n => conv_ownS (ho11.below (drewN_below _ n)) _ HSR.out
                         have kr : ∀ n, (convert 23 9 (.slice Ar r.length cr)).run Try.prog (w11.drewN n) = .ok (.string sr) (w11.drewN n) := fun n => conv_rd ((HRD8.out.below hb11 (Nat.le_refl _)).below (drewN_below _ n) (by have := hb11.size; exact this)) rfl _ HSR.out
                         have HY : Hid (∀ n v20, v20 = .int .i64 ((i2 + 1 : Nat) : Int) → WkL4 w10 m' v20 (w11.drewN n)) := Lib.hid fun n v20 h20 => ⟨i2 + 1, h20, hli1, (HB2.out.trans (hb11.mono HB2.out.size)).trans ((drewN_below _ n).mono (Nat.le_trans HB2.out.size hb11.size))⟩
                         clear ho11 hb11))
                    go_quiet (fail)
                    go_wp2_with fail
                    go_roundw
                    case rel => first | exact HY.out _ _ (by go_num) | ((repeat apply Exists.intro); exact ⟨HY.out _ (.int .i64 ((i2 : Int) + 1)) (by go_num), rfl⟩)
                    case measure => simp [intOf]; omega
                  · have hil : i2 = m' := by omega
                    subst hil
                    have hlii : ¬ (i2 : Int) < (i2 : Int) := by omega
                    have HEND : Hid (∀ v16, v16 = .int .i64 ((kk + 1 : Nat) : Int) → WkL3 wb w6 b m0 rs (.pointer (some ⟨p7, 0, none⟩)) v16 _) := Lib.hid fun v16 h16 => ⟨kk + 1, p7, g7, _, i2, rfl, h16, hkk1, HWI.out.disk.more HWR3.out.size, HML2.out, HM0.out, HSE.out, HB610.out.trans (hb2.mono HB610.out.size)⟩
                    clear hi2 hb2 hli
                    go_wp2_with fail
                    go_roundw
                    case rel => first | exact HEND.out _ (by go_num) | ((repeat apply Exists.intro); exact ⟨HEND.out _ (by go_num), rfl⟩)
                    case measure => simp [intOf]; omega
              · have hk2e : kk = 2 := by omega
                subst hk2e
                clear hkk hd3 hm3 hm03 hs3 hb3 hk2
                go_wp2_with fail
                go_ret
                exact ⟨rfl, HW0.out.trans (HWR3.out.mono HW0.out.size)⟩
#print axioms walKeeps_law
end Go.Proofs.Ytcofacafnokbpaa

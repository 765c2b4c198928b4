/- WalPlays: the law's own body answers true. -/
import Derived.Test.YtgdofnbnahpedaaLQ
import Derived.Test.YtgdofnbnahpedaaJO
import Derived.Deep.CutBlock
namespace Go.Proofs.Ytgdofnbnahpedaa
open Go.RowKit

/-- at the head of the script's loop -/
def WpL (w : World) (acts : List Act6) (v3 v4 v5 v6 v7 v8 : Value) (wr : World) : Prop := ∃ k p mp q mq g mg d md b s pre rs X es, v8 = .int .i64 ((k : Nat) : Int) ∧ k ≤ acts.length ∧ k ≤ 40 ∧ v3 = .pointer (some ⟨p, 0, none⟩) ∧ v4 = .pointer (some ⟨mp, 0, none⟩) ∧ v5 = .pointer (some ⟨q, 0, none⟩) ∧ v6 = .int .i64 0 ∧ v7 = .pointer (some ⟨mq, 0, none⟩) ∧ WR w wr q p g d b s pre rs mq mp mg md X es ∧ b + (bytesOf rs).length ≤ 305 * k
/-- behind an act -/
def WpS (w : World) (K nb : Nat) (BX : Obj) (v3 v4 v5 v6 v7 v10 : Value) (wr : World) : Prop := ∃ p mp q mq g mg d md b s pre rs X es, v3 = .pointer (some ⟨p, 0, none⟩) ∧ v4 = .pointer (some ⟨mp, 0, none⟩) ∧ v5 = .pointer (some ⟨q, 0, none⟩) ∧ v6 = .int .i64 0 ∧ v7 = .pointer (some ⟨mq, 0, none⟩) ∧ v10 = .bool true ∧ WR w wr q p g d b s pre rs mq mp mg md X es ∧ WB wr nb BX q p g d mq mp mg md ∧ b + (bytesOf rs).length ≤ 305 * K
def WpG (w : World) (v : Value) (wr : World) : Prop := v = .bool false ∧ Below w.heap.size w wr
theorem world2 {w wr : World} {v : Value} (h : WpG w v wr) : ∃ W, W = wr ∧ v = .bool false ∧ Below w.heap.size w W := ⟨wr, rfl, h⟩
theorem WpS.world {w wr : World} {K nb : Nat} {BX : Obj} {v3 v4 v5 v6 v7 v10 : Value} (h : WpS w K nb BX v3 v4 v5 v6 v7 v10 wr) : ∃ W4, W4 = wr ∧ WpS w K nb BX v3 v4 v5 v6 v7 v10 W4 := ⟨wr, rfl, h⟩
theorem WR.same {w wr W : World} {q p g d b s mq mp mg md L c2 c9 : Nat} {pre : List (Nat × Nat)} {rs : List (List UInt8)} {X : List UInt8} {es : List BEnt} {A2 A9 : Option Addr} (h : WR w wr q p g d b s pre rs mq mp mg md X es) (hL : rs.length = L) (hs : L ≤ 1000000) (hA : RdE W W.heap.size A9 es) (hr : RdC W W.heap.size A2 (intsV (numbersOf b rs))) : Calls Try.prog 32 #[.slice A2 L c2, .slice A9 L c9] W (LooksN (.bool true) W) := by
  have h1 := rsame_any (w := W) (A0 := A2) (A1 := A9) (n0 := L) (n1 := L) (c0 := c2) (c1 := c9) (ns := (numbersOf b rs).map Int.ofNat) (es := es) hr.ints hA (by rw [List.length_map, numbersOf_len]; exact hL) (by rw [h.len]; exact hL) hs hs
  have e : decide ((numbersOf b rs).map Int.ofNat = es.map (·.no)) = true := decide_eq_true h.nos
  rw [e] at h1
  exact h1
/-- at the head of the loop that reads all -/
def WpR (w4 : World) (m : Nat) (v17 : Value) (wr : World) : Prop := ∃ i, v17 = .int .i64 ((i : Nat) : Int) ∧ i ≤ m ∧ Below w4.heap.size w4 wr
theorem WpR.world {w4 wr : World} {m : Nat} {v17 : Value} (h : WpR w4 m v17 wr) : ∃ W, W = wr ∧ WpR w4 m v17 W := ⟨wr, rfl, h⟩
set_option maxRecDepth 100000 in
set_option maxHeartbeats 20000000 in
theorem walPlays_law (l0 : List Act6) (A0 : Option Addr) (cap0 : Nat) (w : World) (r0 : RdA w w.heap.size A0 l0) (o0 : ∀ x ∈ l0, x.ok w w.heap.size) :
    Calls Try.prog 4 #[.slice A0 l0.length cap0] w (Ans (.bool true) w) := by
  have HR0 := Lib.hid r0
  have HO0 := Lib.hid o0
  clear r0 o0
  go_enter Try.func4, Try.ntmps4
  go_wp2_with (first
    | (go_at_call 17; refine (new_any _).mono ?_; rintro e w1 ⟨p, rfl, hd, hb⟩
       have HWD : Hid (WD w (w1.alloc (.cells #[.slice none 0 0, .int .i64 0, .int .i64 0, .int .i64 0] 38)) p p 0 0 [] w1.heap.size w1.heap.size 0 []) := Lib.hid ⟨hd.below (alloc_below w1 _), (mk_new w1).more hb.size, by have := hd.lt; omega, rfl, rfl, hb.trans ((alloc_below w1 _).mono hb.size)⟩
       clear hd hb)
    | (go_at_call 18; refine (open_any HWD.out.dk HWD.out.bel.size [] [] rfl rfl (by intro r hr; cases hr)).mono ?_; rintro e w2 ⟨q, d, rfl, hw, hq, hdd, hO⟩
       have HP2 := Lib.hid (And.intro hw (And.intro hq (And.intro hdd hO)))
       have HM2 := Lib.hid (HWD.out.mm.only hO (fun e => HWD.out.sep.1 e.symm) (fun e => HWD.out.sep.2.1 e.symm))
       clear hw hq hdd hO)
    | (go_at_call 19; refine (rwopen_any HM2.out (by have := HWD.out.bel.size; have := HP2.out.2.2.2.size; omega) [] [] rfl rfl (by intro r hr; cases hr)).mono ?_; rintro e w3 ⟨mq, md, es, rfl, hr, hm, hq2, hd2, hO2, hf⟩
       have HWR := Lib.hid (HWD.out.open_ (rs := []) (t := []) rfl HP2.out.1 HP2.out.2.1 HP2.out.2.2.1 HP2.out.2.2.2 hr hm hq2 hd2 hO2 hf)
       clear hr hm hq2 hd2 hO2 hf))
  have HST : Hid (∀ v3 v4 v5 v6 v7, v3 = .pointer (some ⟨p, 0, none⟩) → v4 = .pointer (some ⟨w1.heap.size, 0, none⟩) → v5 = .pointer (some ⟨q, 0, none⟩) → v6 = .int .i64 0 → v7 = .pointer (some ⟨mq, 0, none⟩) → WpL w l0 v3 v4 v5 v6 v7 (.int .i64 0) w3) := Lib.hid fun v3 v4 v5 v6 v7 h3 h4 h5 h6 h7 => ⟨0, p, _, q, mq, _, _, d, md, 0, _, [], [], _, es, rfl, Nat.zero_le _, Nat.zero_le _, h3, h4, h5, h6, h7, HWR.out, by decide⟩
  clear HWD HP2 HM2 HWR
  go_loopw [3, 4, 5, 6, 7, 8] (fun v3 v4 v5 v6 v7 v8 wr => WpL w l0 v3 v4 v5 v6 v7 v8 wr) (fun _ _ _ _ _ v8 _ => l0.length - (intOf v8).toNat)
  case atStart => exact HST.out _ _ _ _ _ rfl rfl rfl rfl rfl
  case round =>
    clear HST
    obtain ⟨k, p, mp, q, mq, g, mg, d, md, b, s, pre, rs, X, es, rfl, hk, hk4, rfl, rfl, rfl, rfl, rfl, hwr, hbl⟩ := hrel
    have HWR := Lib.hid hwr
    have HBL := Lib.hid hbl
    have HB := Lib.hid hwr.wq.bel
    clear hwr hbl
    by_cases hlt : k < l0.length ∧ k < 40
    · obtain ⟨hlt1, hlt40⟩ := hlt
      have hlti : (k : Int) < (l0.length : Int) := by omega
      have hlt4 : (k : Int) < 40 := by omega
      obtain ⟨x, hx⟩ : ∃ x, l0[k]? = some x := ⟨_, List.getElem?_eq_getElem hlt1⟩
      obtain ⟨b0, o0, hA0, c0, c1, c2, c3⟩ := HR0.out.at_ hx HB.out (Nat.le_refl _)
      subst hA0
      have hxo := HO0.out x (List.mem_of_getElem? hx)
      obtain ⟨xk, xn, xm, xA, xl, xcap⟩ := x
      dsimp only at c0 c1 c2 c3
      have HRX : Hid (∀ w', Below w.heap.size w w' → RdB w' w.heap.size xA xl) := Lib.hid fun w' h => hxo.rd.below h (Nat.le_refl _)
      have HOK : Hid (i64ok xn ∧ i64ok xm) := Lib.hid ⟨hxo.n, hxo.m⟩
      have HKL : Hid (k + 1 ≤ l0.length ∧ k + 1 ≤ 40) := Lib.hid ⟨hlt1, hlt40⟩
      have HRSK : Hid (rs.length ≤ 50000) := Lib.hid (by have := bytesOf_len rs; have := HBL.out; omega)
      clear hx hxo
      by_cases hbig : 300 < xl.length
      · have hbi : (300 : Int) < (xl.length : Int) := by omega
        have HY : Hid (∀ v3 v4 v5 v6 v7 v8, v3 = .pointer (some ⟨p, 0, none⟩) → v4 = .pointer (some ⟨mp, 0, none⟩) → v5 = .pointer (some ⟨q, 0, none⟩) → v6 = .int .i64 0 → v7 = .pointer (some ⟨mq, 0, none⟩) → v8 = .int .i64 ((k + 1 : Nat) : Int) → WpL w l0 v3 v4 v5 v6 v7 v8 (wr.alloc (.cells #[.int .i64 xk, .int .i64 xn, .int .i64 xm, .slice xA xl.length xcap] 45))) := Lib.hid fun v3 v4 v5 v6 v7 v8 h3 h4 h5 h6 h7 h8 => ⟨k + 1, p, mp, q, mq, g, mg, d, md, b, s, pre, rs, X, es, h8, HKL.out.1, HKL.out.2, h3, h4, h5, h6, h7, HWR.out.below (alloc_below wr _), by have := HBL.out; omega⟩
        clear hbig hk hk4 hlt40 hlt1
        go_wp2_with fail
        go_roundw
        case rel => first | exact HY.out _ _ _ _ _ _ rfl rfl rfl rfl rfl (by go_num) | ((repeat apply Exists.intro); exact ⟨HY.out _ _ _ _ _ _ rfl rfl rfl rfl rfl (by go_num), rfl⟩)
        case measure => have := HKL.out; simp [intOf]; omega
      · have hxl3 : xl.length ≤ 300 := by omega
        have hbi : ¬ (300 : Int) < (xl.length : Int) := by omega
        clear hbig
        go_upto_block 2 with fail
        have HWB : Hid (WB (wr.alloc (.cells #[.int .i64 xk, .int .i64 xn, .int .i64 xm, .slice xA xl.length xcap] 45)) wr.heap.size (.cells #[.int .i64 xk, .int .i64 xn, .int .i64 xm, .slice xA xl.length xcap] 45 (0, 0)) q p g d mq mp mg md) := Lib.hid ⟨heap_alloc_new wr _, by have := HWR.out.wq.lt; omega⟩
        have HBW := Lib.hid (HB.out.trans ((alloc_below wr (.cells #[.int .i64 xk, .int .i64 xn, .int .i64 xm, .slice xA xl.length xcap] 45)).mono HB.out.size))
        have HWR := Lib.hid (HWR.out.below (alloc_below wr (.cells #[.int .i64 xk, .int .i64 xn, .int .i64 xm, .slice xA xl.length xcap] 45)))
        generalize wr.alloc (.cells #[.int .i64 xk, .int .i64 xn, .int .i64 xm, .slice xA xl.length xcap] 45) = W0 at HWB HBW HWR ⊢
        generalize wr.heap.size = nb at HWB ⊢
        obtain ⟨c0, c1, c2, c3⟩ := box4 HWB.out.at_
        clear hk hk4 hlt1 hlt40
        go_cut [3, 4, 5, 6, 7, 10] (fun v3 v4 v5 v6 v7 v10 wx => WpS w (k + 1) nb (.cells #[.int .i64 xk, .int .i64 xn, .int .i64 xm, .slice xA xl.length xcap] 45 (0, 0)) v3 v4 v5 v6 v7 v10 wx)
        case first =>
          by_cases hx1k : xk = 1
          · subst hx1k
            by_cases hx1 : 1 ≤ xl.length
            · as_aux_lemma =>
                obtain ⟨E, hE⟩ : ∃ E, E = b + (bytesOf rs).length := ⟨_, rfl⟩
                have HE := Lib.hid hE
                have HXL := Lib.hid (And.intro hx1 hxl3)
                have HAP := Lib.hid (wappend_yes HWR.out.wq.wl HBW.out.size xl xA _ xcap rfl ⟨hx1, by omega⟩ ((HRX.out _ HBW.out).more HBW.out.size) (by have := HBL.out; omega))
                clear hE hx1 hxl3
                go_wp2_with (first
                  | (go_at_call 20; refine HAP.out.mono ?_; rintro e w2 ⟨he, g', d', hw, hO, hg, hd⟩
                     have he2 : e = .returned (.tuple #[.int .i64 (E : Int), .int .i64 0]) := by rw [he, HE.out]
                     have HWB2 := Lib.hid (HWB.out.prog hO hg hd)
                     have HP2 := Lib.hid (And.intro hw (And.intro hO (And.intro hg hd)))
                     have HWQ2 := Lib.hid (HWR.out.wq.prog hw hO hg hd)
                     obtain ⟨z0, z1, z2, z3⟩ := box4 HWB2.out.at_
                     clear hw hO hg hd he
                     subst he2)
                  | (go_at_call 21; refine (rwappend_yes HWQ2.out.rw HWQ2.out.bel.size (by have := HWR.out.len; have := HRSK.out; omega) xl xA _ xcap rfl ⟨HXL.out.1, by have := HXL.out.2; omega⟩ (HRX.out _ HWQ2.out.bel) (by have := HBL.out; have := HXL.out.2; omega)).mono ?_; rintro e w3 h2
                     have he3 : e = .returned (.tuple #[.int .i64 (E : Int), .int .i64 0]) := by rw [h2.1, HE.out]
                     obtain ⟨mg', md', X', es', h3, h4, h5, h6⟩ := HWR.out.app HP2.out.1 HP2.out.2.1 HP2.out.2.2.1 HP2.out.2.2.2 h2
                     have HY := Lib.hid h3
                     have HWB9 := Lib.hid (HWB2.out.doc h4 (.inr h5) (.inr h6))
                     clear h2 h3 h4 h5 h6
                     subst he3))
                go_meet
                exact ⟨_, _, _, _, _, _, _, _, _, _, _, _, _, _, rfl, rfl, rfl, rfl, rfl, rfl, HY.out, HWB9.out, by rw [bytesOf_app, bytesOf_one, List.length_append, frameL_len]; have := HBL.out; have := HXL.out.2; omega⟩
            · as_aux_lemma =>
                have HAP : Hid (∀ W, Calls Try.prog 20 #[.pointer (some ⟨q, 0, none⟩), .slice xA xl.length xcap] W (Looks (.tuple #[.int .i64 0, .int .i64 1]) W)) := Lib.hid fun W => wappend_no xA xl.length xcap (.inl (by omega))
                have HAD : Hid (∀ W, Calls Try.prog 21 #[.pointer (some ⟨mq, 0, none⟩), .slice xA xl.length xcap] W (Looks (.tuple #[.int .i64 0, .int .i64 1]) W)) := Lib.hid fun W => rwappend_no xA xl.length xcap mq W (.inl (by omega))
                clear hx1 hxl3
                go_wp2_with (first
                  | (go_at_call 20; refine (HAP.out _).mono ?_; rintro e w2 ⟨rfl, rfl⟩)
                  | (go_at_call 21; refine (HAD.out _).mono ?_; rintro e w3 ⟨rfl, rfl⟩))
                go_meet
                exact ⟨_, _, _, _, _, _, _, _, _, _, _, _, _, _, rfl, rfl, rfl, rfl, rfl, rfl, HWR.out, HWB.out, by have := HBL.out; omega⟩
          · by_cases hx2k : xk = 2
            · subst hx2k
              clear hx1k hxl3
              as_aux_lemma =>
                have HSY := Lib.hid (wsync_any HWR.out.wq.wl)
                go_wp2_with (first
                  | (go_at_call 22; refine HSY.out.mono ?_; rintro e w2 ⟨rfl, hw, hO⟩
                     have HP2 := Lib.hid (And.intro hw hO)
                     have HWQ2 := Lib.hid (HWR.out.wq.prog hw (hO.more (fun j _ e => .inr (.inl e))) (.inl rfl) (.inl rfl))
                     have HWB2 := Lib.hid (HWB.out.prog (hO.more (fun j _ e => .inr (.inl e))) (.inl rfl) (.inl rfl))
                     clear hw hO)
                  | (go_at_call 23; refine (rsync_any HWQ2.out.rw.disk).mono ?_; rintro e w3 ⟨rfl, hm, hO⟩
                     have HY := Lib.hid (HWR.out.sync HP2.out.1 HP2.out.2 hm hO)
                     have HWB9 := Lib.hid (HWB2.out.doc (hO.more (fun j _ e => .inr e)) (.inl rfl) (.inl rfl))
                     clear hm hO))
                go_meet
                exact ⟨_, _, _, _, _, _, _, _, _, _, _, _, _, _, rfl, rfl, rfl, rfl, rfl, rfl, HY.out, HWB9.out, by have := HBL.out; omega⟩
            · by_cases hx3k : xk = 3
              · subst hx3k
                clear hx1k hx2k hxl3
                as_aux_lemma =>
                  obtain ⟨jj, hjj⟩ : ∃ jj, jj = pickZ xn (rs.length + 1) := ⟨_, rfl⟩
                  have hjl : jj ≤ rs.length := by have := pickZ_lt xn (n := rs.length + 1) (by omega); omega
                  obtain ⟨S, hS⟩ : ∃ S, S = startOf b rs jj := ⟨_, rfl⟩
                  have HNL : Hid ((numbersOf b rs).length = rs.length) := Lib.hid (numbersOf_len b rs)
                  have HNU : Hid (∀ (W : World) A1 c1, RdC W W.heap.size A1 (intsV (numbersOf b rs)) → Calls Try.prog 24 #[.slice A1 rs.length c1, .int .i64 ((b + (bytesOf rs).length : Nat) : Int), .int .i64 xn] W (Looks (.int .i64 (S : Int)) W)) := Lib.hid fun W A1 c1 hr => number_any (numbersOf b rs) rs.length c1 (numbersOf_len b rs) (by rw [numbersOf_len]; have := HRSK.out; omega) hr _ xn HOK.out.1 jj (by rw [numbersOf_len]; exact hjj) (S : Int) (fun x hx => by
                    rcases Nat.lt_or_ge jj rs.length with h1 | h1
                    · rw [numbersOf_get b rs h1] at hx
                      injection hx with hx
                      rw [hS, hx]
                    · rw [List.getElem?_eq_none (by rw [numbersOf_len]; exact h1)] at hx
                      cases hx) (fun e => by rw [numbersOf_len] at e; rw [hS, startOf_end b rs (by omega)])
                  clear hjj
                  by_cases hs : startOf b rs jj ≤ s
                  · as_aux_lemma =>
                      have HTP := Lib.hid (fun (W : World) (h : Below W0.heap.size W0 W) => trim_yes (HWR.out.wq.wl.below h) hjl hs (S : Int) (by rw [hS]))
                      have HTA := Lib.hid (HWR.out.trim_at hjl)
                      rw [← hS] at HTP HTA
                      have HSS : Hid (b ≤ S ∧ S ≤ s) := Lib.hid ⟨by rw [hS]; exact startOf_le b rs (Nat.zero_le jj), by rw [hS]; exact hs⟩
                      have HS := Lib.hid hS
                      have HJL := Lib.hid hjl
                      clear hS hs hjl
                      have HS0 : Hid (∀ W, Below W0.heap.size W0 W → W.cell? ⟨mp, 2, none⟩ = some (.int .i64 ((b + (bytesOf rs).length : Nat) : Int)) ∧ W.cell? ⟨nb, 1, none⟩ = some (.int .i64 xn)) := Lib.hid fun W h => by
                        obtain ⟨_, _, h3, _⟩ := (HWR.out.wq.below h).rw.disk.box
                        exact ⟨(box4 h3).2.2.1, (box4 (HWB.out.below h).at_).2.1⟩
                      go_wp2_with fail
                      go_region_held3 (fun W => W.cell? ⟨mp, 2, none⟩ = some (.int .i64 ((b + (bytesOf rs).length : Nat) : Int)) ∧ W.cell? ⟨nb, 1, none⟩ = some (.int .i64 xn))
                        (first
                          | exact HS0.out _ HB1.out
                          | exact HS0.out _ (drew_below _))
                        (first
                        | (go_at_call 25; refine (numbers_any (HWR.out.wq.wl.below (drew_below _))).mono ?_; rintro e w1 ⟨A1, c1, rfl, hr1, _, hb1⟩
                           rw [HNL.out]
                           have HB1 := Lib.hid ((drew_below W0).trans hb1)
                           have HR1 := Lib.hid hr1
                           clear hr1 hb1)
                        | (go_at_call 24; refine (HNU.out _ _ _ HR1.out).mono ?_; rintro e w2 ⟨rfl, rfl⟩)
                        | fail)
                      go_wp2_with (first
                        | (go_at_call 26; refine (HTP.out _ HB1.out).mono ?_; rintro e w5 ⟨rfl, hw, hO⟩
                           have HP5 := Lib.hid (And.intro hw hO)
                           have HWQ5 := Lib.hid ((HWR.out.wq.below HB1.out).prog hw (hO.more (fun j _ e => .inr (.inl e))) (.inl rfl) (.inl rfl))
                           have HWB5 := Lib.hid ((HWB.out.below HB1.out).prog (hO.more (fun j _ e => .inr (.inl e))) (.inl rfl) (.inl rfl))
                           clear hw hO)
                        | (go_at_call 27; refine (rtrim_yes HWQ5.out.rw (by have := HWR.out.len; have := HRSK.out; omega) S jj HTA.out (by have := HWR.out.len; have := HJL.out; omega) HSS.out.1 HSS.out.2).mono ?_; rintro e w6 ⟨rfl, hr, hO2⟩
                           have HY := Lib.hid ((HWR.out.below HB1.out).trim HJL.out (by have := HP5.out.1; rw [HS.out] at this; exact this) HP5.out.2 (by have := hr; rw [HS.out] at this; exact this) hO2)
                           have HWB9 := Lib.hid (HWB5.out.doc hO2 (.inl rfl) (.inl rfl))
                           clear hr hO2))
                      go_meet
                      exact ⟨_, _, _, _, _, _, _, _, _, _, _, _, _, _, rfl, rfl, rfl, rfl, rfl, rfl, HY.out, HWB9.out, by rw [startOf_bytes]; have := HBL.out; omega⟩
                  · have HNOP : Hid ((∀ j, j ≤ rs.length → ((startOf b rs j : Nat) : Int) ≠ (S : Int)) ∨ (s : Int) < (S : Int)) := Lib.hid (.inr (by rw [hS]; omega))
                    have HNOD : Hid (trimAt es ((b + (bytesOf rs).length : Nat) : Int) (S : Int) < 0 ∨ ¬ ((b : Int) ≤ (S : Int) ∧ (S : Int) ≤ (s : Int))) := Lib.hid (.inr (by rw [hS]; omega))
                    clear hS hs hjl
                    as_aux_lemma =>
                      have HTP := Lib.hid (fun (W : World) (h : Below W0.heap.size W0 W) => trim_no (HWR.out.wq.wl.below h) (S : Int) HNOP.out)
                      have HS0 : Hid (∀ W, Below W0.heap.size W0 W → W.cell? ⟨mp, 2, none⟩ = some (.int .i64 ((b + (bytesOf rs).length : Nat) : Int)) ∧ W.cell? ⟨nb, 1, none⟩ = some (.int .i64 xn)) := Lib.hid fun W h => by
                        obtain ⟨_, _, h3, _⟩ := (HWR.out.wq.below h).rw.disk.box
                        exact ⟨(box4 h3).2.2.1, (box4 (HWB.out.below h).at_).2.1⟩
                      go_wp2_with fail
                      go_region_held3 (fun W => W.cell? ⟨mp, 2, none⟩ = some (.int .i64 ((b + (bytesOf rs).length : Nat) : Int)) ∧ W.cell? ⟨nb, 1, none⟩ = some (.int .i64 xn))
                        (first
                          | exact HS0.out _ HB1.out
                          | exact HS0.out _ (drew_below _))
                        (first
                        | (go_at_call 25; refine (numbers_any (HWR.out.wq.wl.below (drew_below _))).mono ?_; rintro e w1 ⟨A1, c1, rfl, hr1, _, hb1⟩
                           rw [HNL.out]
                           have HB1 := Lib.hid ((drew_below W0).trans hb1)
                           have HR1 := Lib.hid hr1
                           clear hr1 hb1)
                        | (go_at_call 24; refine (HNU.out _ _ _ HR1.out).mono ?_; rintro e w2 ⟨rfl, rfl⟩)
                        | fail)
                      go_wp2_with (first
                        | (go_at_call 26; refine (HTP.out _ HB1.out).mono ?_; rintro e w5 ⟨rfl, hb⟩
                           have HB5 := Lib.hid ((HB1.out : Below W0.heap.size W0 _).trans (hb.mono (HB1.out : Below W0.heap.size W0 _).size))
                           have HY := Lib.hid (HWR.out.below HB5.out)
                           have HWB9 := Lib.hid (HWB.out.below HB5.out)
                           clear hb)
                        | (go_at_call 27; refine (rtrim_no HY.out.wq.rw (by have := HWR.out.len; have := HRSK.out; omega) (S : Int) HNOD.out).mono ?_; rintro e w6 ⟨rfl, rfl⟩))
                      go_meet
                      exact ⟨_, _, _, _, _, _, _, _, _, _, _, _, _, _, rfl, rfl, rfl, rfl, rfl, rfl, HY.out, HWB9.out, by have := HBL.out; omega⟩
              · by_cases hx7k : xk = 7
                · subst hx7k
                  clear hx1k hx2k hx3k hxl3
                  as_aux_lemma =>
                    by_cases hx7 : ∃ jj, jj ≤ rs.length ∧ ((startOf b rs jj : Nat) : Int) = xm
                    · obtain ⟨jj, hjl, hxm⟩ := hx7
                      obtain ⟨S, hS⟩ : ∃ S, S = startOf b rs jj := ⟨_, rfl⟩
                      rw [← hS] at hxm
                      subst hxm
                      by_cases hs : startOf b rs jj ≤ s
                      · as_aux_lemma =>
                          have HTP := Lib.hid (fun (W : World) (h : Below W0.heap.size W0 W) => trim_yes (HWR.out.wq.wl.below h) hjl hs (S : Int) (by rw [hS]))
                          have HTA := Lib.hid (HWR.out.trim_at hjl)
                          rw [← hS] at HTP HTA
                          have HSS : Hid (b ≤ S ∧ S ≤ s) := Lib.hid ⟨by rw [hS]; exact startOf_le b rs (Nat.zero_le jj), by rw [hS]; exact hs⟩
                          have HS := Lib.hid hS
                          have HJL := Lib.hid hjl
                          clear hS hs hjl
                          go_wp2_with (first
                            | (go_at_call 26; refine (HTP.out _ (Below.refl _ _)).mono ?_; rintro e w5 ⟨rfl, hw, hO⟩
                               have HP5 := Lib.hid (And.intro hw hO)
                               have HWQ5 := Lib.hid ((HWR.out.wq.below (Below.refl _ _)).prog hw (hO.more (fun j _ e => .inr (.inl e))) (.inl rfl) (.inl rfl))
                               have HWB5 := Lib.hid ((HWB.out.below (Below.refl _ _)).prog (hO.more (fun j _ e => .inr (.inl e))) (.inl rfl) (.inl rfl))
                               clear hw hO)
                            | (go_at_call 27; refine (rtrim_yes HWQ5.out.rw (by have := HWR.out.len; have := HRSK.out; omega) S jj HTA.out (by have := HWR.out.len; have := HJL.out; omega) HSS.out.1 HSS.out.2).mono ?_; rintro e w6 ⟨rfl, hr, hO2⟩
                               have HY := Lib.hid ((HWR.out.below (Below.refl _ _)).trim HJL.out (by have := HP5.out.1; rw [HS.out] at this; exact this) HP5.out.2 (by have := hr; rw [HS.out] at this; exact this) hO2)
                               have HWB9 := Lib.hid (HWB5.out.doc hO2 (.inl rfl) (.inl rfl))
                               clear hr hO2))
                          go_meet
                          exact ⟨_, _, _, _, _, _, _, _, _, _, _, _, _, _, rfl, rfl, rfl, rfl, rfl, rfl, HY.out, HWB9.out, by rw [startOf_bytes]; have := HBL.out; omega⟩
                      · have HNOP : Hid ((∀ j, j ≤ rs.length → ((startOf b rs j : Nat) : Int) ≠ (S : Int)) ∨ (s : Int) < (S : Int)) := Lib.hid (.inr (by rw [hS]; omega))
                        have HNOD : Hid (trimAt es ((b + (bytesOf rs).length : Nat) : Int) (S : Int) < 0 ∨ ¬ ((b : Int) ≤ (S : Int) ∧ (S : Int) ≤ (s : Int))) := Lib.hid (.inr (by rw [hS]; omega))
                        clear hS hs hjl
                        as_aux_lemma =>
                          have HTP := Lib.hid (fun (W : World) (h : Below W0.heap.size W0 W) => trim_no (HWR.out.wq.wl.below h) (S : Int) HNOP.out)
                          go_wp2_with (first
                            | (go_at_call 26; refine (HTP.out _ (Below.refl _ _)).mono ?_; rintro e w5 ⟨rfl, hb⟩
                               have HB5 := Lib.hid (((Below.refl _ _) : Below W0.heap.size W0 _).trans (hb.mono ((Below.refl _ _) : Below W0.heap.size W0 _).size))
                               have HY := Lib.hid (HWR.out.below HB5.out)
                               have HWB9 := Lib.hid (HWB.out.below HB5.out)
                               clear hb)
                            | (go_at_call 27; refine (rtrim_no HY.out.wq.rw (by have := HWR.out.len; have := HRSK.out; omega) (S : Int) HNOD.out).mono ?_; rintro e w6 ⟨rfl, rfl⟩))
                          go_meet
                          exact ⟨_, _, _, _, _, _, _, _, _, _, _, _, _, _, rfl, rfl, rfl, rfl, rfl, rfl, HY.out, HWB9.out, by have := HBL.out; omega⟩
                    · have HNOP : Hid ((∀ j, j ≤ rs.length → ((startOf b rs j : Nat) : Int) ≠ xm) ∨ (s : Int) < xm) := Lib.hid (.inl (fun j hj e => hx7 ⟨j, hj, e⟩))
                      have HNOD : Hid (trimAt es ((b + (bytesOf rs).length : Nat) : Int) xm < 0 ∨ ¬ ((b : Int) ≤ xm ∧ xm ≤ (s : Int))) := Lib.hid (.inl (HWR.out.trim_no (fun j hj e => hx7 ⟨j, hj, e⟩)))
                      clear hx7
                      as_aux_lemma =>
                        have HTP := Lib.hid (fun (W : World) (h : Below W0.heap.size W0 W) => trim_no (HWR.out.wq.wl.below h) xm HNOP.out)
                        go_wp2_with (first
                          | (go_at_call 26; refine (HTP.out _ (Below.refl _ _)).mono ?_; rintro e w5 ⟨rfl, hb⟩
                             have HB5 := Lib.hid (((Below.refl _ _) : Below W0.heap.size W0 _).trans (hb.mono ((Below.refl _ _) : Below W0.heap.size W0 _).size))
                             have HY := Lib.hid (HWR.out.below HB5.out)
                             have HWB9 := Lib.hid (HWB.out.below HB5.out)
                             clear hb)
                          | (go_at_call 27; refine (rtrim_no HY.out.wq.rw (by have := HWR.out.len; have := HRSK.out; omega) xm HNOD.out).mono ?_; rintro e w6 ⟨rfl, rfl⟩))
                        go_meet
                        exact ⟨_, _, _, _, _, _, _, _, _, _, _, _, _, _, rfl, rfl, rfl, rfl, rfl, rfl, HY.out, HWB9.out, by have := HBL.out; omega⟩
                · by_cases hx5k : xk = 5
                  · subst hx5k
                    clear hx1k hx2k hx3k hx7k hxl3
                    as_aux_lemma =>
                      have HWD0 := Lib.hid HWR.out.wd
                      obtain ⟨n, hn⟩ : ∃ n, n = pickZ xm (b + (bytesOf rs).length - s + 1) := ⟨_, rfl⟩
                      have hnl : n < b + (bytesOf rs).length - s + 1 := by rw [hn]; exact pickZ_lt xm (by omega)
                      obtain ⟨s', hs'⟩ : ∃ s', s' = s + n := ⟨_, rfl⟩
                      obtain ⟨l', hl'⟩ : ∃ l', l' = (bytesOf rs).take (s' - b) := ⟨_, rfl⟩
                      obtain ⟨rs', t, h1, h2, h3⟩ := frames_of l'
                      have HFR := Lib.hid (And.intro h1 (And.intro h2 h3))
                      have HLB : Hid (l'.length ≤ (bytesOf rs).length) := Lib.hid (by rw [hl', List.length_take]; omega)
                      have HPW := Lib.hid (power_at HWD0.out.dk xm HOK.out.2 n s' hn hs' l' hl')
                      have HPD := Lib.hid (fun (W : World) (h : Below W0.heap.size W0 W) => rpower_any (HWD0.out.mm.below h) (by have := HBL.out; have := HKL.out; omega) xm HOK.out.2 n s' hn hs' (X.take s') rfl)
                      have HN := Lib.hid (And.intro hs' (And.intro hnl hl'))
                      clear hn hnl hs' hl' h1 h2 h3
                      go_wp2_with (first
                        | (go_at_call 28; refine HPW.out.mono ?_; rintro e w2 ⟨p', g', rfl, hd, hb⟩
                           have HP2 := Lib.hid (And.intro hd hb)
                           obtain ⟨z0, z1, z2, z3⟩ := box4 (HWB.out.below hb).at_
                           clear hd hb)
                        | (go_at_call 29; refine (HPD.out _ HP2.out.2).mono ?_; rintro e w3 ⟨mp', mg', rfl, hm, hb⟩
                           have HWD3 := Lib.hid (HWD0.out.power HN.out.1 HN.out.2.1 HN.out.2.2 rfl HP2.out.1 HP2.out.2 hm hb)
                           have HN3 := Lib.hid (show WB w3 nb _ p' p' g' p' mp' mp' mg' mp' from ⟨((HWB.out.below HP2.out.2).below hb).at_, by have h1 := HWB.out.lt; have h2 := HP2.out.1.ge; have h3 := hm.ge; have h4 := HP2.out.2.size; omega⟩)
                           obtain ⟨y0, y1, y2, y3⟩ := box4 HN3.out.at_
                           clear hm hb)
                        | (go_at_call 18; refine (open_any HWD3.out.dk HWD3.out.bel.size rs' t HFR.out.1 HFR.out.2.1 HFR.out.2.2).mono ?_; rintro e w4 ⟨q', d', rfl, hw, hq, hd, hO⟩
                           have HP4 := Lib.hid (And.intro hw (And.intro hq (And.intro hd hO)))
                           have HM4 := Lib.hid (HWD3.out.mm.only hO (fun e => HWD3.out.sep.1 e.symm) (fun e => HWD3.out.sep.2.1 e.symm))
                           have HN4 := Lib.hid (And.intro ((hO.block nb HN3.out.lt HN3.out.ne.1).trans HN3.out.at_) (And.intro HN3.out.lt (Nat.lt_of_lt_of_le HN3.out.lt hO.size)))
                           clear hw hq hd hO)
                        | (go_at_call 19; refine (rwopen_any HM4.out (by have := HWD3.out.bel.size; have := HP4.out.2.2.2.size; omega) rs' t (by have h1 := HWD3.out.dat; have h2 := HWD3.out.el; have h3 := HFR.out.1; exact (congrArg (fun n => List.take n _) (by omega : s' - b = l'.length)).trans (h1.trans h3)) HFR.out.2.1 HFR.out.2.2).mono ?_; rintro e w5 ⟨mq', md', es', rfl, hr, hm, hq2, hd2, hO2, hf⟩
                           have HY := Lib.hid (HWD3.out.open_ HFR.out.1 HP4.out.1 HP4.out.2.1 HP4.out.2.2.1 HP4.out.2.2.2 hr hm hq2 hd2 hO2 hf)
                           have HWB9 := Lib.hid (show WB w5 nb _ q' p' g' d' mq' mp' mg' md' from by
                             have h1 := HN3.out.ne
                             have h2 := HN4.out.2
                             have h3 := HP4.out.2.1
                             have h4 := HP4.out.2.2.1
                             exact ⟨(hO2.block nb HN4.out.2.2 HN3.out.ne.2.2.2.2.1).trans HN4.out.1, by omega⟩)
                           clear hr hm hq2 hd2 hO2 hf))
                      go_meet
                      exact ⟨_, _, _, _, _, _, _, _, _, _, _, _, _, _, rfl, rfl, rfl, rfl, rfl, rfl, HY.out, HWB9.out, by
                          have h1 := HFR.out.1
                          have h2 := HLB.out
                          have h3 := congrArg List.length h1
                          rw [List.length_append] at h3
                          have := HBL.out
                          omega⟩
                  · by_cases hx6k : xk = 6
                    · subst hx6k
                      clear hx1k hx2k hx3k hx7k hx5k
                      as_aux_lemma =>
                        have HWD0 := Lib.hid HWR.out.wd
                        obtain ⟨l', hl'⟩ : ∃ l', l' = bytesOf rs ++ xl := ⟨_, rfl⟩
                        obtain ⟨rs', t, h1, h2, h3⟩ := frames_of l'
                        have HFR := Lib.hid (And.intro h1 (And.intro h2 h3))
                        have HLB : Hid (l'.length ≤ (bytesOf rs).length + 300) := Lib.hid (by rw [hl', List.length_append]; omega)
                        have HL := Lib.hid hl'
                        have HXL := Lib.hid hxl3
                        have HAP := Lib.hid (append_at HWD0.out.dk HBW.out.size xl xA _ xcap rfl ((HRX.out _ HBW.out).more HBW.out.size) (by have := HBL.out; have := HKL.out; omega) _ rfl l' hl')
                        clear hl' h1 h2 h3 hxl3
                        go_wp2_with (first
                          | (go_at_call 30; refine HAP.out.mono ?_; rintro e w2 ⟨rfl, g', hd, hO, hg⟩
                             have HP2 := Lib.hid (And.intro hd (And.intro hO hg))
                             have HM2 := Lib.hid (HWD0.out.mm.only hO (fun e => by have := HWD0.out.sep; omega) (fun e => by have := HWD0.out.sep; omega))
                             have HWB2 := Lib.hid (HWB.out.prog (d' := d) (hO.more (fun j _ e => by rcases e with e | e; exact .inr (.inl e); exact .inr (.inr (.inl e)))) hg (.inl rfl))
                             have HB2 := Lib.hid (HBW.out.trans (hO.below HBW.out.size (fun j e => by have := HWD0.out.dk.ge; omega)))
                             obtain ⟨z0, z1, z2, z3⟩ := box4 HWB2.out.at_
                             clear hd hO hg)
                          | (go_at_call 31; refine (rappend_any HM2.out HB2.out.size xl xA _ xcap rfl ((HRX.out _ HB2.out).more HB2.out.size) (by have := HBL.out; have := HKL.out; have := HXL.out; omega)).mono ?_; rintro e w3 ⟨rfl, mg', e2, hm, hX, hO2, hg2⟩
                             have HWD3 := Lib.hid (HWD0.out.more (by have := HP2.out.1; rw [HL.out] at this; exact this) HP2.out.2.1 HP2.out.2.2 hm hX hO2 hg2)
                             rw [← HL.out] at HWD3
                             have HN3 := Lib.hid (show WB w3 nb _ p p g' p mp mp mg' mp from by
                               have h9 := HWB2.out.doc (md' := md) (hO2.more (fun j _ e => .inr e)) (by rcases hg2 with e | e; exact .inr (.inl e); exact .inr (.inr e)) (.inl rfl)
                               have h8 := h9.ne
                               exact ⟨h9.at_, by omega⟩)
                             clear hm hX hO2 hg2)
                          | (go_at_call 18; refine (open_any HWD3.out.dk HWD3.out.bel.size rs' t HFR.out.1 HFR.out.2.1 HFR.out.2.2).mono ?_; rintro e w4 ⟨q', d', rfl, hw, hq, hd, hO⟩
                             have HP4 := Lib.hid (And.intro hw (And.intro hq (And.intro hd hO)))
                             have HM4 := Lib.hid (HWD3.out.mm.only hO (fun e => HWD3.out.sep.1 e.symm) (fun e => HWD3.out.sep.2.1 e.symm))
                             have HN4 := Lib.hid (And.intro ((hO.block nb HN3.out.lt HN3.out.ne.1).trans HN3.out.at_) (And.intro HN3.out.lt (Nat.lt_of_lt_of_le HN3.out.lt hO.size)))
                             clear hw hq hd hO)
                          | (go_at_call 19; refine (rwopen_any HM4.out (by have := HWD3.out.bel.size; have := HP4.out.2.2.2.size; omega) rs' t (by have h1 := HWD3.out.dat; have h2 := HWD3.out.el; have h3 := HFR.out.1; exact (congrArg (fun n => List.take n _) (by omega : e2 - b = l'.length)).trans (h1.trans h3)) HFR.out.2.1 HFR.out.2.2).mono ?_; rintro e w5 ⟨mq', md', es', rfl, hr, hm, hq2, hd2, hO2, hf⟩
                             have HY := Lib.hid (HWD3.out.open_ HFR.out.1 HP4.out.1 HP4.out.2.1 HP4.out.2.2.1 HP4.out.2.2.2 hr hm hq2 hd2 hO2 hf)
                             have HWB9 := Lib.hid (show WB w5 nb _ q' p g' d' mq' mp mg' md' from by
                               have h1 := HN3.out.ne
                               have h2 := HN4.out.2
                               have h3 := HP4.out.2.1
                               have h4 := HP4.out.2.2.1
                               exact ⟨(hO2.block nb HN4.out.2.2 HN3.out.ne.2.2.2.2.1).trans HN4.out.1, by omega⟩)
                             clear hr hm hq2 hd2 hO2 hf))
                        go_meet
                        exact ⟨_, _, _, _, _, _, _, _, _, _, _, _, _, _, rfl, rfl, rfl, rfl, rfl, rfl, HY.out, HWB9.out, by
                            have h1 := HFR.out.1
                            have h2 := HLB.out
                            have h3 := congrArg List.length h1
                            rw [List.length_append] at h3
                            have := HBL.out
                            omega⟩
                    · clear hxl3
                      as_aux_lemma =>
                        go_wp2_with fail
                        go_meet
                        exact ⟨_, _, _, _, _, _, _, _, _, _, _, _, _, _, rfl, rfl, rfl, rfl, rfl, rfl, HWR.out, HWB.out, by have := HBL.out; omega⟩
        case rest =>
          as_aux_lemma =>
            obtain ⟨wx, hwx, hcut⟩ := WpS.world hcut
            subst hwx
            obtain ⟨p, mp, q, mq, g, mg, d, md, b, s, pre, rs, X, es, rfl, rfl, rfl, rfl, rfl, rfl, hwr, hwb, hbl⟩ := hcut
            have HWR := Lib.hid hwr
            have HWB := Lib.hid hwb
            have HBL := Lib.hid hbl
            clear hwr hwb hbl
            have HRSK : Hid (rs.length ≤ 100000) := Lib.hid (by have := HWR.out.wq.wl.few; omega)
            have HEL : Hid (es.length = rs.length) := Lib.hid HWR.out.len
            have HNL : Hid ((numbersOf b rs).length = rs.length) := Lib.hid (numbersOf_len b rs)
            obtain ⟨L, hL⟩ : ∃ L, L = rs.length := ⟨_, rfl⟩
            have HL := Lib.hid hL
            have hLi : (L : Int) ≤ 100000 := by have := HRSK.out; omega
            obtain ⟨A9, c9, hbx, hhc⟩ := HWR.out.wq.rw.box
            have hrde := hhc.rd.1.ents
            rw [HEL.out, ← hL] at hbx hhc
            have HBX := Lib.hid hbx
            have HRE : Hid (∀ W, Below wx.heap.size wx W → RdE W W.heap.size A9 es) := Lib.hid fun W h => (hrde.below h (Nat.le_refl _)).more h.size
            have HC1 : Hid (∀ W, Below wx.heap.size wx W → W.cell? ⟨mq, 1, none⟩ = some (.slice A9 L c9)) := Lib.hid fun W h => (box2 ((h.block mq HWR.out.wq.rw.lt).trans HBX.out)).2
            have HSM : Hid (∀ (W : World) A2 c2, Below wx.heap.size wx W → RdC W W.heap.size A2 (intsV (numbersOf b rs)) → Calls Try.prog 32 #[.slice A2 L c2, .slice A9 L c9] W (LooksN (.bool true) W)) := Lib.hid fun W A2 c2 h hr => HWR.out.same HL.out.symm (by have := HRSK.out; have := HL.out; omega) (HRE.out W h) hr
            obtain ⟨m, hm⟩ := splitE_any b rs (s : Int)
            have hsafe := HWR.out.safe hm
            have HSF := Lib.hid (fun (W : World) (h : Below wx.heap.size wx W) => wsafe_any (HWR.out.wq.wl.below h) m hm)
            have HSD : Hid (∀ W, Below wx.heap.size wx W → Calls Try.prog 34 #[.pointer (some ⟨mq, 0, none⟩)] W (LooksN (.int .i64 (m : Int)) W)) := Lib.hid fun W h => by
              have h1 := rw_safe (HWR.out.wq.rw.below h) (by rw [HEL.out]; have := HRSK.out; omega) (fun x hx => by
                obtain ⟨j, hj⟩ := List.getElem?_of_mem hx
                obtain ⟨r, hr, h2, h3⟩ := HWR.out.get hj
                have h4 := HWR.out.wq.wl.recs r (List.mem_of_getElem? hr)
                have h5 := startOf_le b rs (Nat.le_of_lt (List.getElem?_eq_some_iff.1 hr).1)
                rw [startOf_end b rs (Nat.le_refl _)] at h5
                have h6 := HBL.out
                have h7 := HKL.out
                rw [h2, h3]
                omega)
              rw [hsafe] at h1
              exact h1
            have HC3 : Hid (∀ W, Below wx.heap.size wx W → W.cell? ⟨mp, 1, none⟩ = some (.int .i64 (b : Int)) ∧ W.cell? ⟨mp, 2, none⟩ = some (.int .i64 ((b + (bytesOf rs).length : Nat) : Int)) ∧ W.cell? ⟨mp, 3, none⟩ = some (.int .i64 (s : Int))) := Lib.hid fun W h => by
              obtain ⟨_, _, h3, _⟩ := (HWR.out.wq.below h).rw.disk.box
              exact ⟨(box4 h3).2.1, (box4 h3).2.2.1, (box4 h3).2.2.2⟩
            obtain ⟨E, hE⟩ : ∃ E, E = b + (bytesOf rs).length := ⟨_, rfl⟩
            have HEN := Lib.hid (fun (W : World) (h : Below wx.heap.size wx W) => end_at (HWR.out.wq.wl.disk.below h) (E : Int) (by rw [hE]))
            rw [← hE] at HC3
            have HE := Lib.hid hE
            have HB0 : Hid (Below wx.heap.size wx wx) := Lib.hid (Below.refl _ _)
            clear hL hbx hhc hrde hm hsafe hE
            go_wp2_with fail
            go_region_held3 (fun W => W.cell? ⟨mq, 1, none⟩ = some (.slice A9 L c9))
              (first
                | exact HC1.out _ HB1.out
                | exact HC1.out _ (drew_below _))
              (first
              | (go_at_call 25; refine (numbers_any (HWR.out.wq.wl.below (drew_below _))).mono ?_; rintro e w1 ⟨A1, c1, rfl, hr1, _, hb1⟩
                 rw [HNL.out, ← HL.out]
                 have HB1 := Lib.hid ((drew_below wx).trans hb1)
                 have HR1 := Lib.hid hr1
                 clear hr1 hb1)
              | (go_at_call 32; refine (HSM.out _ _ _ HB1.out HR1.out).mono ?_; rintro e w2 ⟨rfl, n2, hn2⟩
                 have HB2 : Hid (Below wx.heap.size wx w2) := Lib.hid (by rw [hn2]; exact HB1.out.trans ((drewN_below _ _).mono HB1.out.size))
                 have HB1 := HB2
                 clear hn2)
              | fail)
            go_wp2_with fail
            go_region_held3 (fun W => W.cell? ⟨mp, 1, none⟩ = some (.int .i64 (b : Int)) ∧ W.cell? ⟨mp, 2, none⟩ = some (.int .i64 (E : Int)) ∧ W.cell? ⟨mp, 3, none⟩ = some (.int .i64 (s : Int)))
              (first
                | exact HC3.out _ HB3.out
                | exact HC3.out _ (HB2.out.trans ((drew_below _).mono HB2.out.size)))
              (first
              | (go_at_call 33; refine (HSF.out _ (HB2.out.trans ((drew_below _).mono HB2.out.size))).mono ?_; rintro e w3 ⟨rfl, hb⟩
                 have HB3 := Lib.hid ((HB2.out.trans ((drew_below _).mono HB2.out.size)).trans (hb.mono (by have := HB2.out.size; exact this)))
                 clear hb)
              | (go_at_call 34; refine (HSD.out _ HB3.out).mono ?_; rintro e w4 ⟨rfl, n4, hn4⟩
                 have HB4 : Hid (Below wx.heap.size wx w4) := Lib.hid (by rw [hn4]; exact HB3.out.trans ((drewN_below _ _).mono HB3.out.size))
                 have HB3 := HB4
                 clear hn4)
              | (go_at_call 35; refine (begin_any (HWR.out.wq.wl.disk.below HB3.out)).mono ?_; rintro e w5 ⟨rfl, rfl⟩)
              | (go_at_call 36; refine (HEN.out _ HB3.out).mono ?_; rintro e w6 ⟨rfl, n6, hn6⟩
                 have HB6 : Hid (Below wx.heap.size wx w6) := Lib.hid (by rw [hn6]; exact HB3.out.trans ((drewN_below _ _).mono HB3.out.size))
                 have HB3 := HB6
                 clear hn6)
              | (go_at_call 37; refine (safe_any (HWR.out.wq.wl.disk.below HB3.out)).mono ?_; rintro e w7 ⟨rfl, rfl⟩)
              | fail)
            have HB5 := Lib.hid HB3.out
            go_wp2_with fail
            have HS5 : Hid (WpR w6 L (.int .i64 0) w6) := Lib.hid ⟨0, rfl, Nat.zero_le _, Below.refl _ _⟩
            go_loopw [17] (fun v17 w17 => WpR w6 L v17 w17) (fun v17 _ => L - (intOf v17).toNat)
            case atStart => exact HS5.out
            case round =>
              clear HS5
              obtain ⟨W6, hW6, hrel⟩ := WpR.world hrel
              subst hW6
              obtain ⟨j, rfl, hj, hb⟩ := hrel
              have HBJ := Lib.hid (HB5.out.trans (hb.mono HB5.out.size))
              have HB6 := Lib.hid hb
              have hc1 := HC1.out _ HBJ.out
              clear hb
              by_cases hjl : j < L
              · have hji : (j : Int) < (L : Int) := by omega
                obtain ⟨x, hx⟩ : ∃ x, es[j]? = some x := ⟨_, List.getElem?_eq_getElem (by rw [HEL.out, ← HL.out]; exact hjl)⟩
                obtain ⟨r, hr, hno, hl⟩ := HWR.out.get hx
                obtain ⟨b1, o1, hA, _, d0, d1⟩ := (HRE.out _ HBJ.out).at_ hx
                subst hA
                have HXR := Lib.hid (fun (W : World) (h : Below wx.heap.size wx W) => ((HWR.out.wq.rw.below h).ents x (List.mem_of_getElem? hx)).1)
                have HXC := Lib.hid (fun (W : World) (h : Below W6.heap.size W6 W) => And.intro ((World.cell?_of_block (h.block _ (cell_lt d0))).trans d0) ((World.cell?_of_block (h.block _ (cell_lt d1))).trans d1))
                obtain ⟨xno, xA2, xl2, xc2⟩ := x
                dsimp only at hno hl d0 d1 HXR HXC
                subst hl
                obtain ⟨N, hN⟩ : ∃ N, N = xl2.length := ⟨_, rfl⟩
                rw [← hN] at d1 HXC
                have HN := Lib.hid hN
                have HRD := Lib.hid (wread_yes (HWR.out.wq.wl.below HBJ.out) hr xno hno)
                clear hx hr hno hj hN d1
                go_wp2_with (go_at_call 38; refine HRD.out.mono ?_; rintro e w7 ⟨v7, rfl, ho7, hb7⟩
                             have hb8 := HBJ.out.trans (hb7.mono HBJ.out.size)
                             have t1 := HC1.out _ hb8
                             obtain ⟨t2, t3⟩ := HXC.out _ hb7
                             have kv : ∀ n, (convert 23 9 v7).run Try.prog (w7.drewN n) = .ok (.string ⟨xl2.toArray⟩) (w7.drewN n) := fun n => conv_ownS (ho7.below (drewN_below _ n)) _ rfl
                             have kx : ∀ n, (convert 23 9 (.slice xA2 N xc2)).run Try.prog (w7.drewN n) = .ok (.string ⟨xl2.toArray⟩) (w7.drewN n) := fun n => conv_rd (HXR.out _ (hb8.trans ((drewN_below w7 n).mono hb8.size))) HN.out.symm ⟨xl2.toArray⟩ rfl
                             have HY : Hid (∀ n v17, v17 = .int .i64 ((j + 1 : Nat) : Int) → WpR w6 L v17 (w7.drewN n)) := Lib.hid fun n v17 h17 => ⟨j + 1, h17, hjl, (HB6.out.trans (hb7.mono HB6.out.size)).trans ((drewN_below _ n).mono (Nat.le_trans HB6.out.size hb7.size))⟩
                             clear ho7 hb7 hb8)
                go_quiet (fail)
                go_wp2_with fail
                go_roundw
                case rel => first | exact HY.out _ _ (by go_num) | ((repeat apply Exists.intro); exact ⟨HY.out _ (.int .i64 ((j : Int) + 1)) (by go_num), rfl⟩)
                case measure => simp [intOf]; omega
              · have hje : j = L := by omega
                subst hje
                have hji : ¬ (j : Int) < (j : Int) := by omega
                obtain ⟨u0, u1, u2x, u3⟩ := box4 (HWB.out.below HBJ.out).at_
                have HYO : Hid (∀ W, Below wx.heap.size wx W → ∀ v3 v4 v5 v6 v7 v8, v3 = .pointer (some ⟨p, 0, none⟩) → v4 = .pointer (some ⟨mp, 0, none⟩) → v5 = .pointer (some ⟨q, 0, none⟩) → v6 = .int .i64 0 → v7 = .pointer (some ⟨mq, 0, none⟩) → v8 = .int .i64 ((k + 1 : Nat) : Int) → WpL w l0 v3 v4 v5 v6 v7 v8 W) := Lib.hid fun W h v3 v4 v5 v6 v7 v8 h3 h4 h5 h6 h7 h8 => ⟨k + 1, p, mp, q, mq, g, mg, d, md, b, s, pre, rs, X, es, h8, HKL.out.1, HKL.out.2, h3, h4, h5, h6, h7, HWR.out.below h, HBL.out⟩
                have HFD := Lib.hid (fun (W : World) (h : Below wx.heap.size wx W) => rw_find (HWR.out.wq.rw.below h) (by rw [HEL.out]; have := HRSK.out; omega) xm)
                have hesl := HWR.out.len
                by_cases hxx : ∃ i, i < rs.length ∧ ((startOf b rs i : Nat) : Int) = xm
                · obtain ⟨i, hil, hxm⟩ := hxx
                  obtain ⟨r, hr⟩ : ∃ r, rs[i]? = some r := ⟨_, List.getElem?_eq_getElem hil⟩
                  have hfi := HWR.out.find_at hil
                  rw [hxm] at hfi
                  rw [hfi] at HFD
                  have HRD := Lib.hid (wread_yes (HWR.out.wq.wl.below HBJ.out) hr xm hxm.symm)
                  have hii : (0 : Int) ≤ (i : Int) := by omega
                  clear hil hxm hr hfi hesl hj hjl
                  go_wp2_with (first
                    | (go_at_call 38; refine HRD.out.mono ?_; rintro e w7 ⟨v7, rfl, ho7, hb7⟩
                       have HB7 := Lib.hid (HBJ.out.trans (hb7.mono HBJ.out.size))
                       obtain ⟨y0, y1, y2, y3⟩ := box4 (HWB.out.below HB7.out).at_
                       clear ho7 hb7)
                    | (go_at_call 39; refine (HFD.out _ HB7.out).mono ?_; rintro e w8 ⟨rfl, rfl⟩))
                  go_roundw
                  case rel => first | exact HYO.out _ HB7.out _ _ _ _ _ _ rfl rfl rfl rfl rfl (by go_num) | ((repeat apply Exists.intro); exact ⟨HYO.out _ HB7.out _ _ _ _ _ _ rfl rfl rfl rfl rfl (by go_num), rfl⟩)
                  case measure => have := HKL.out; simp [intOf]; omega
                · have hfi := HWR.out.find_no (n := xm) (fun i hi e => hxx ⟨i, hi, e⟩)
                  rw [hfi] at HFD
                  have HRD := Lib.hid (wread_no (HWR.out.wq.wl.below HBJ.out) xm (fun i hi e => hxx ⟨i, hi, e⟩))
                  clear hxx hfi hesl hj hjl
                  go_wp2_with (first
                    | (go_at_call 38; refine HRD.out.mono ?_; rintro e w7 ⟨rfl, hb7⟩
                       have HB7 := Lib.hid (HBJ.out.trans (hb7.mono HBJ.out.size))
                       obtain ⟨y0, y1, y2, y3⟩ := box4 (HWB.out.below HB7.out).at_
                       clear hb7)
                    | (go_at_call 39; refine (HFD.out _ HB7.out).mono ?_; rintro e w8 ⟨rfl, rfl⟩))
                  go_roundw
                  case rel => first | exact HYO.out _ HB7.out _ _ _ _ _ _ rfl rfl rfl rfl rfl (by go_num) | ((repeat apply Exists.intro); exact ⟨HYO.out _ HB7.out _ _ _ _ _ _ rfl rfl rfl rfl rfl (by go_num), rfl⟩)
                  case measure => have := HKL.out; simp [intOf]; omega
    · by_cases hlt1 : k < l0.length
      · have hlti : (k : Int) < (l0.length : Int) := by omega
        have hlt4 : ¬ (k : Int) < 40 := by omega
        clear hlt hlt1 hk hk4
        go_wp2_with (go_at_call 40; refine (alive_wal _).mono ?_; rintro e w3 ⟨rfl, hb⟩
                     have HY := Lib.hid (HB.out.trans (hb.mono HB.out.size))
                     clear hb)
        go_ret
        exact ⟨rfl, HY.out⟩
      · have hlti : ¬ (k : Int) < (l0.length : Int) := by omega
        clear hlt hlt1 hk hk4
        go_wp2_with (go_at_call 40; refine (alive_wal _).mono ?_; rintro e w3 ⟨rfl, hb⟩
                     have HY := Lib.hid (HB.out.trans (hb.mono HB.out.size))
                     clear hb)
        go_ret
        exact ⟨rfl, HY.out⟩
#print axioms walPlays_law
end Go.Proofs.Ytgdofnbnahpedaa

/- Package wal: Read, Trim. -/
import Derived.Test.YtogogekmodbdiaaJK
namespace Go.Proofs.Ytogogekmodbdiaa
open Go.RowKit

theorem OwnB.lower {w : World} {B C : Nat} {v : Value} {l : List UInt8} (h : OwnB w B v l) (hC : C ≤ B) : OwnB w C v l := by
  refine ⟨⟨h.1.1, ?_⟩, h.2⟩
  rcases h.1.2 with h1 | ⟨g, cap, cur, h1, h2, h3⟩
  · exact .inl h1
  · exact .inr ⟨g, cap, cur, h1, by omega, h3⟩
theorem RdP.val {w w' : World} {B C k b o : Nat} {l : List (Nat × Nat)} {x : Nat × Nat} (h : RdP w B (some ⟨b, o, none⟩) l) (hx : l[k]? = some x) (hb : Below C w w') (hC : B ≤ C) : w'.cell? ⟨b, o + k * 2 + 1, none⟩ = some (.int .i64 (x.2 : Int)) := by
  obtain ⟨b', o', e, _, c1⟩ := h.at_ hx hb hC
  injection e with e
  injection e with e1 e2
  subst e1 e2
  exact c1
theorem splitN_at (b : Nat) (rs : List (List UInt8)) {j : Nat} (hj : j ≤ rs.length) : SplitN (placesOf b rs) ((startOf b rs j : Nat) : Int) j := by
  refine ⟨by rw [placesOf_len]; exact hj, fun i x hx hi => ?_, fun i x hx hi => ?_⟩
  · have h1 := (placesOf_get b rs i x hx).2
    have h2 := startOf_lt b rs hj hi
    rw [h1]
    show ((startOf b rs i : Nat) : Int) < _
    omega
  · have h1 := (placesOf_get b rs i x hx).2
    have h2 := startOf_le b rs hi
    rw [h1]
    show _ ≤ ((startOf b rs i : Nat) : Int)
    omega
theorem found_yes (b : Nat) (rs : List (List UInt8)) {j : Nat} (hj : j < rs.length) : foundAt (placesOf b rs) j ((startOf b rs j : Nat) : Int) = true := by
  unfold foundAt
  rw [placesOf_some b rs hj]
  simp
theorem bytesOf_at (b : Nat) (rs : List (List UInt8)) {j : Nat} {r : List UInt8} (h : rs[j]? = some r) : ((bytesOf rs).drop (startOf b rs j + 5 - b)).take (startOf b rs (j + 1) - (startOf b rs j + 5)) = r := by
  have h1 := List.getElem?_eq_some_iff.1 h
  have e : bytesOf rs = bytesOf (rs.take j) ++ (frameL r ++ bytesOf (rs.drop (j + 1))) := by
    rw [← bytesOf_cons, ← bytesOf_app, ← h1.2, List.getElem_cons_drop, List.take_append_drop]
  rw [startOf_succ b rs h]
  have e2 : startOf b rs j + 5 - b = (bytesOf (rs.take j)).length + 5 := by unfold startOf; omega
  have e3 : startOf b rs j + (r.length + 5) - (startOf b rs j + 5) = r.length := by omega
  rw [e2, e3, e, ← List.drop_drop, List.drop_left]
  show ((r ++ bytesOf (rs.drop (j + 1)))).take r.length = r
  rw [List.take_left]
set_option maxRecDepth 100000 in
set_option maxHeartbeats 4000000 in
theorem wread_yes {w : World} {B q p g d b s : Nat} {pre : List (Nat × Nat)} {rs : List (List UInt8)} (h : Wl w B q p g d b s pre rs) {j : Nat} {r : List UInt8} (hj : rs[j]? = some r) (n : Int) (hn : n = ((startOf b rs j : Nat) : Int)) : Calls Try.prog 39 #[.pointer (some ⟨q, 0, none⟩), .int .i64 n] w (RdY w r) := by
  subst hn
  have hjl := (List.getElem?_eq_some_iff.1 hj).1
  have HC := h.cells
  have HD := Lib.hid h.disk
  have HH := Lib.hid (held_any h)
  obtain ⟨S, hS⟩ : ∃ S, S = startOf b rs j := ⟨_, rfl⟩
  obtain ⟨T, hT⟩ : ∃ T, T = startOf b rs (j + 1) := ⟨_, rfl⟩
  have hbS : b ≤ S := by rw [hS]; exact startOf_le b rs (Nat.zero_le j)
  have hST : S + 5 ≤ T := by rw [hS, hT]; exact startOf_lt b rs hjl (Nat.lt_succ_self j)
  have hTe : T ≤ b + (bytesOf rs).length := by rw [hT, ← startOf_end b rs (Nat.le_refl _)]; exact startOf_le b rs hjl
  have hsm := h.disk.small
  have hSP := splitN_at b rs (Nat.le_of_lt hjl)
  have hFY := found_yes b rs hjl
  have hPX := placesOf_some b rs hjl
  have hBY := bytesOf_at b rs hj
  rw [← hS] at hSP hFY hPX hBY ⊢
  rw [← hT] at hPX hBY
  have HF : Hid (∀ (W : World) A cap, RdP W W.heap.size A (placesOf b rs) → Calls Try.prog 60 #[.slice A rs.length cap, .int .i64 (S : Int)] W (Ans (.tuple #[.int .i64 (j : Int), .bool true]) W)) := Lib.hid fun W A cap hP => by
    have := find_any (placesOf b rs) (S : Int) j hSP A rs.length cap (placesOf_len b rs) W (by rw [placesOf_len]; have := h.few; omega) hP
    rw [hFY] at this
    exact this
  have HR : Hid (∀ W, Below w.heap.size w W → Calls Try.prog 55 #[.pointer (some ⟨p, 0, none⟩), .int .i64 ((S : Int) + 5), .int .i64 (T : Int)] W (RdY W r)) := Lib.hid fun W hb => read_at (h.disk.below hb) (S + 5) T (by omega) hST hTe _ _ (by omega) rfl r hBY.symm
  have HPX := Lib.hid hPX
  have HEQ : Hid (∀ (v : Value) (w1 w2 : World), Below w.heap.size w w1 → OwnB w2 w1.heap.size v r → Below w1.heap.size w1 w2 → RdY w r (.returned (.tuple #[v, .int .i64 0])) w2) := Lib.hid fun v w1 w2 hb ho hb2 => ⟨v, rfl, ho.lower hb.size, hb.trans (hb2.mono hb.size)⟩
  have hSi : (S : Int) ≤ 100000 := by omega
  have hji : (j : Int) < (rs.length : Int) := by omega
  clear hS hT hbS hST hTe hsm hSP hFY hPX hBY h hj hjl
  go_enter Try.func39, Try.ntmps39
  go_wp2_with (first
    | (go_at_call 59; refine HH.out.mono ?_; rintro e w2 ⟨A2, cap2, rfl, hh2, hb⟩
       have HB2 := Lib.hid hb
       have HP2 := Lib.hid hh2.rd.1.places
       clear hb hh2)
    | (go_at_call 60; refine (HF.out _ _ _ HP2.out).mono ?_; rintro e w3 ⟨rfl, hb⟩
       have HB3 := Lib.hid (HB2.out.trans (hb.mono HB2.out.size))
       obtain ⟨b0, o0, hA, c0, c1⟩ := HP2.out.at_ HPX.out hb (Nat.le_refl _)
       subst hA
       have x0 := HC.out _ HB3.out
       have HB23 := Lib.hid hb
       clear hb))
  have HS0 : Hid (∀ W : World, W.heap = w3.heap → W.cell? ⟨q, 0, none⟩ = some (.pointer (some ⟨p, 0, none⟩)) ∧ W.cell? ⟨b0, o0 + j * 2 + 1, none⟩ = some (.int .i64 (T : Int))) := Lib.hid fun W e => ⟨(World.cell?_of_block (by rw [e])).trans x0, (World.cell?_of_block (by rw [e])).trans c1⟩
  have HB4 : Hid (Below w.heap.size w w3.drew) := Lib.hid (HB3.out.trans ((drew_below w3).mono HB3.out.size))
  have hs1 : IntKind.i64.wrap ((S : Int) + 5) = (S : Int) + 5 := IntWalk.i64_in _ (by omega)
  go_region_held3 (fun W => W.cell? ⟨q, 0, none⟩ = some (.pointer (some ⟨p, 0, none⟩)) ∧ W.cell? ⟨b0, o0 + j * 2 + 1, none⟩ = some (.int .i64 (T : Int)))
    (first
      | exact HS4.out _ rfl
      | exact HS0.out _ rfl)
    (first
    | (go_at_call 55; refine (HR.out _ HB4.out).mono ?_; rintro e w4 ⟨v4, rfl, ho, hb⟩
       have HY := Lib.hid (HEQ.out v4 _ w4 HB4.out ho hb)
       have HS4 : Hid (∀ W : World, W.heap = w4.heap → W.cell? ⟨q, 0, none⟩ = some (.pointer (some ⟨p, 0, none⟩)) ∧ W.cell? ⟨b0, o0 + j * 2 + 1, none⟩ = some (.int .i64 (T : Int))) := Lib.hid fun W e => by
         have hb3 := (HB23.out.trans ((drew_below w3).mono HB23.out.size)).trans (hb.mono HB23.out.size)
         exact ⟨(World.cell?_of_block (by rw [e])).trans (HC.out _ (HB4.out.trans (hb.mono HB4.out.size))), (World.cell?_of_block (by rw [e])).trans (HP2.out.val HPX.out hb3 (Nat.le_refl _))⟩
       clear hb ho)
    | fail)
  go_wp2_with fail
  go_ret2
  exact HY.out
end Go.Proofs.Ytogogekmodbdiaa

/- Package wal: Open. -/
import Derived.Test.YtkohppalfcalbaaGreatJZ
namespace Go.Proofs.YtkohppalfcalbaaGreat
open Go.RowKit

/-- what Open answers -/
def OpT (w : World) (B p g b : Nat) (rs : List (List UInt8)) (e : Ending) (w' : World) : Prop := ∃ q d, e = .returned (.tuple #[.pointer (some ⟨q, 0, none⟩), .int .i64 0]) ∧ Wl w' B q p g d b (b + (bytesOf rs).length) [] rs ∧ w.heap.size ≤ q ∧ w.heap.size ≤ d ∧ Only (fun k => k = p) w w'
/-- at the head of Open's loop; w5: the world behind the disk's Read -/
def OpL (w5 : World) (q p gr b : Nat) (rs : List (List UInt8)) (t : List UInt8) (v5 v6 v8 : Value) (wr : World) : Prop := ∃ j d' c A' c', ∃ A : Option Addr, v5 = .int .i64 ((startOf b rs j : Nat) : Int) ∧ v6 = .slice A' (bytesOf (rs.drop j) ++ t).length c' ∧ HeldAt wr q gr v6 (bytesOf (rs.drop j) ++ t) ∧ (bytesOf (rs.drop j) ++ t).length ≤ c' ∧ v8 = .int .i64 ((firstL (bytesOf (rs.drop j) ++ t) : Nat) : Int) ∧ j ≤ rs.length ∧ wr.heap[q]? = some (.cells #[.pointer (some ⟨p, 0, none⟩), .slice A j c] 130 (0, 0)) ∧ HeldC wr q d' 2 (.slice A j c) j (placeV (placesOf b (rs.take j))) ∧ (d' = q ∨ w5.heap.size ≤ d') ∧ Only (fun k => k = q) w5 wr
theorem HeldAt.room7 {w : World} {p g n cap : Nat} {A : Option Addr} {l : List UInt8} (h : HeldAt w p g (.slice A n cap) l) : l.length ≤ cap := by
  rcases h with ⟨_, rfl, _⟩ | ⟨_, o, cap', e, ho⟩
  · simp
  · injection e with e1 e2 e3
    subst e3
    exact ho.room
theorem rest_at {rs : List (List UInt8)} {j : Nat} {r : List UInt8} (h : rs[j]? = some r) (t : List UInt8) : bytesOf (rs.drop j) ++ t = frameL r ++ (bytesOf (rs.drop (j + 1)) ++ t) := by
  have h1 := List.getElem?_eq_some_iff.1 h
  rw [← List.append_assoc, ← bytesOf_cons, ← h1.2, List.getElem_cons_drop]
theorem op_end {w wr w9 : World} {B q p g d' b s s' c j : Nat} {A : Option Addr} {rs : List (List UInt8)} {l : List UInt8} (hj : j = rs.length) (hd : Dk w B p g b s l) (hr : ∀ r ∈ rs, 1 ≤ r.length ∧ r.length ≤ 4096) (hq : w.heap.size ≤ q) (hd' : d' = q ∨ w.heap.size ≤ d') (hb : Below w.heap.size w wr) (hx : wr.heap[q]? = some (.cells #[.pointer (some ⟨p, 0, none⟩), .slice A j c] 130 (0, 0))) (hh : HeldC wr q d' 2 (.slice A j c) j (placeV (placesOf b (rs.take j)))) (h9 : Dk w9 B p g b s' (bytesOf rs)) (hO : Only (fun k => k = p) wr w9) (hs' : s' = b + (bytesOf rs).length) (hB : B ≤ w.heap.size) :
    OpT w B p g b rs (.returned (.tuple #[.pointer (some ⟨q, 0, none⟩), .int .i64 0])) w9 := by
  subst hj hs'
  have hpl := hd.lt
  have hgl := hd.dlt
  have hql := (Array.getElem?_eq_some_iff.1 hx).1
  have hbl := bytesOf_len rs
  have hsm := h9.small
  refine ⟨q, d', rfl, ⟨⟨A, c, ?_, ?_⟩, h9, ⟨by omega, by omega⟩, ⟨by omega, by omega, by omega, by omega⟩, (fun x hx => by cases hx), hr, ?_⟩, hq, by omega, (Only.of_below hb).trans hO (fun _ _ e => e)⟩
  · rw [List.length_nil, Nat.zero_add]
    exact (hO.block q hql (by omega)).trans hx
  · rw [List.length_nil, Nat.zero_add, List.nil_append]
    rw [List.take_of_length_le (Nat.le_refl _)] at hh
    exact hh.only hO (fun _ => by omega)
  · rw [List.length_nil]
    omega
/-- where a slice begins that is cut at F -/
def cutA (c F : Nat) (A : Option Addr) : Option Addr := if c = F then A else A.map fun x => x.add F
theorem op_next {w5 w6 w7 wr wq : World} {q p gr b j d' d5 c c5 F : Nat} {A A5 A6 A0 : Option Addr} {c6 c0 n0 : Nat} {o : Obj} {rs : List (List UInt8)} {t r : List UInt8} {v5 v8 : Value} (hj : rs[j]? = some r) (hF : F = r.length + 5)
    (h6 : HeldAt wr q gr (.slice A6 n0 c6) (bytesOf (rs.drop j) ++ t)) (hgr : gr < w5.heap.size) (hd' : d' = q ∨ w5.heap.size ≤ d') (hO : Only (fun k => k = q) w5 wr) (hx : wr.heap[q]? = some (.cells #[.pointer (some ⟨p, 0, none⟩), .slice A j c] 130 (0, 0)))
    (hh : HeldC w6 q d5 2 (.slice A5 c0 c5) (j + 1) (placeV (placesOf b (rs.take j)) ++ [.int .i64 ((startOf b rs j : Nat) : Int), .int .i64 ((startOf b rs j + F : Nat) : Int)])) (hO6 : Only (fun k => k = d' ∧ k ≠ q) (wr.alloc o) w6) (hd5 : d5 = d' ∨ (wr.alloc o).heap.size ≤ d5)
    (h7 : w7 = w6.setCell ⟨q, 1, none⟩ (.slice A5 c0 c5)) (hwq : ∃ n, wq = w7.drewN n) (hA0 : A0 = cutA c6 F A6) (m0 : Nat) (hm0 : m0 = n0 - F) (k0 : Nat) (hk0 : k0 = c6 - F) (h5 : v5 = .int .i64 ((startOf b rs j + F : Nat) : Int)) (h8 : v8 = .int .i64 ((firstL (bytesOf (rs.drop (j + 1)) ++ t) : Nat) : Int)) :
    OpL w5 q p gr b rs t v5 (.slice A0 m0 k0) v8 wq := by
  obtain ⟨n, rfl⟩ := hwq
  subst h7 hm0 hk0 hA0 h5 h8
  have hjl := (List.getElem?_eq_some_iff.1 hj).1
  have hst := startOf_succ b rs hj
  rw [← hF] at hst
  have he := rest_at hj t
  have hql := (Array.getElem?_eq_some_iff.1 hx).1
  have hlen := hh.rd.2
  subst hlen
  have hn0 := h6.rd.2
  subst hn0
  have hs1 := alloc_size wr o
  have hs2 := hO6.size
  have hs3 := hO.size
  have hq6 := (hO6.block q (by omega) (fun e => e.2 rfl)).trans (((alloc_below wr o).block q hql).trans hx)
  have hOw := Only.set w6 q 1 (.slice A5 (j + 1) c5)
  have hfl : (frameL r).length = F := by rw [frameL_len, hF]
  have hdr : (bytesOf (rs.drop j) ++ t).drop F = bytesOf (rs.drop (j + 1)) ++ t := by rw [he, ← hfl, List.drop_left]
  have hlF : F ≤ (bytesOf (rs.drop j) ++ t).length := by rw [he, List.length_append, hfl]; omega
  have h6d := h6.dropped (k := F) hlF
  rw [hdr] at h6d
  have hll : (bytesOf (rs.drop j) ++ t).length - F = (bytesOf (rs.drop (j + 1)) ++ t).length := by rw [← hdr, List.length_drop]
  rw [hll] at h6d ⊢
  have hroom := h6d.room7
  have hgd : gr ≠ q → ¬ (gr = d' ∧ gr ≠ q) := by omega
  refine ⟨j + 1, d5, c5, _, _, A5, by rw [hst], rfl, ?_, hroom, rfl, hjl, ?_, ?_, ?_, ?_⟩
  · exact ((((h6d.only (Only.of_below (K := fun _ => False) (alloc_below wr o)) (fun _ => id)).only hO6 hgd).only hOw (fun hne => hne))).heap rfl
  · show (w6.setCell ⟨q, 1, none⟩ (.slice A5 (j + 1) c5)).heap[q]? = _
    simp [World.setCell, Array.getElem?_modify, hq6]
  · have e : placeV (placesOf b (rs.take (j + 1))) = placeV (placesOf b (rs.take j)) ++ [.int .i64 ((startOf b rs j : Nat) : Int), .int .i64 ((startOf b rs j + F : Nat) : Int)] := by
      have h1 := List.getElem?_eq_some_iff.1 hj
      rw [List.take_succ_eq_append_getElem h1.1, h1.2, placesOf_app, placeV_app]
      simp only [placesOf, placeV]
      rw [hF]
      rfl
    rw [e]
    exact (hh.only hOw (fun hne => hne)).heap rfl
  · omega
  · refine ((hO.trans (Only.of_below (K := fun k => k = q) (alloc_below wr o)) (fun _ _ e => e)).trans (hO6.more (L := fun k => k = q ∨ w5.heap.size ≤ k) (fun k _ e => by omega)) (fun k hk e => by omega)).trans (hOw.trans (Only.of_below (K := fun k => k = q) (drewN_below _ n)) (fun _ _ e => e)) (fun _ _ e => e)
theorem op_first {w5 W : World} {q p gr b n0 c0 : Nat} {A0 : Option Addr} {rs : List (List UInt8)} {t : List UInt8} {v5 v8 : Value} (h : OpL w5 q p gr b rs t v5 (.slice A0 n0 c0) v8 W) (hs : b + (bytesOf rs).length + t.length ≤ 100000) : Calls Tryz.prog 75 #[.slice A0 n0 c0] W (LooksN v8 W) := by
  obtain ⟨j, d', c, A', c', A, h1, h2, h3, h4, h5, h6, h7⟩ := h
  injection h2 with e1 e2 e3
  subst e1 e2 e3 h5
  refine first_any _ A0 _ c0 _ rfl h4 ?_ W h3.rd.1
  have e : bytesOf rs = bytesOf (rs.take j) ++ bytesOf (rs.drop j) := by rw [← bytesOf_app, List.take_append_drop]
  rw [e, List.length_append] at hs
  rw [List.length_append]
  omega
set_option maxRecDepth 100000 in
set_option maxHeartbeats 8000000 in
theorem open_any {w : World} {B p g b s : Nat} {l : List UInt8} (h : Dk w B p g b s l) (hB : B ≤ w.heap.size) (rs : List (List UInt8)) (t : List UInt8) (hl : l = bytesOf rs ++ t) (ht : firstL t = 0) (hr : ∀ r ∈ rs, 1 ≤ r.length ∧ r.length ≤ 4096) : Calls Tryz.prog 37 #[.pointer (some ⟨p, 0, none⟩)] w (OpT w B p g b rs) := by
  obtain ⟨i0, hi, hz0, hz1, hz2⟩ := info_parts infoPl
  have HD := Lib.hid h
  have HBB := Lib.hid hB
  have HRS := Lib.hid hr
  have HTT := Lib.hid ht
  have HLL := Lib.hid hl
  have HSM := Lib.hid h.small
  have HW1 := Lib.hid (alloc_below w (.cells #[.pointer (some ⟨p, 0, none⟩), .slice none 0 0] 130))
  have HX1 := Lib.hid (heap_alloc_new w (.cells #[.pointer (some ⟨p, 0, none⟩), .slice none 0 0] 130))
  have hlen : l.length = (bytesOf rs).length + t.length := by rw [hl, List.length_append]
  have HLEN := Lib.hid hlen
  have hrl : rs.length ≤ 100000 := by have := bytesOf_len rs; have := h.small; omega
  have HRL := Lib.hid hrl
  have hbi : (b : Int) ≤ 100000 := by have := h.small; omega
  clear h hB hr ht hl hlen hrl
  go_enter Tryz.func37, Tryz.ntmps37
  go_wp2_with (first
    | (go_at_call 73; refine (begin_any (HD.out.below HW1.out)).mono ?_; rintro e w2 ⟨rfl, rfl⟩)
    | (go_at_call 59; refine (end_at (HD.out.below HW1.out) ((b + l.length : Nat) : Int) rfl).mono ?_; rintro e w3 ⟨rfl, n3, hn3⟩
       have HB3 : Hid (Below w.heap.size w w3) := Lib.hid (by rw [hn3]; exact HW1.out.trans ((drewN_below _ n3).mono HW1.out.size))
       have HX3 : Hid (w3.heap[w.heap.size]? = some (.cells #[.pointer (some ⟨p, 0, none⟩), .slice none 0 0] 130 (0, 0))) := Lib.hid (by rw [hn3]; exact HX1.out)
       clear hn3)
    | (go_at_call 74; refine (read_at (HD.out.below HB3.out) b (b + l.length) (Nat.le_refl _) (Nat.le_add_right _ _) (Nat.le_refl _) _ _ rfl (by first | rfl | omega) l (by rw [Nat.sub_self, List.drop_zero, Nat.add_sub_cancel_left, List.take_length])).mono ?_; rintro e w5 ⟨v5, rfl, ho, hb⟩
       have HB5 := Lib.hid (HB3.out.trans (hb.mono HB3.out.size))
       have hq3 := (Array.getElem?_eq_some_iff.1 HX3.out).1
       have HX5 : Hid (w5.heap[w.heap.size]? = some (.cells #[.pointer (some ⟨p, 0, none⟩), .slice none 0 0] 130 (0, 0))) := Lib.hid ((hb.block _ hq3).trans HX3.out)
       obtain ⟨gr, hh5, hgr⟩ := HeldAt.of_own (p := w.heap.size) ho hq3
       obtain ⟨A5, c5, hv5⟩ := hh5.slice
       subst hv5
       have HF := Lib.hid (first_any l A5 l.length c5 _ rfl hh5.room7 (by have := HSM.out; omega) w5 hh5.rd.1)
       have HGR : Hid (gr < w5.heap.size) := Lib.hid (by
         have := hb.size
         rcases hh5 with ⟨_, _, e⟩ | ⟨_, _, _, _, hoo⟩
         · omega
         · exact hoo.lt)
       have HH5 := Lib.hid hh5
       clear ho hb hh5 hgr hq3)
    | (go_at_call 75; refine HF.out.mono ?_; rintro e w6 ⟨rfl, n6, hn6⟩
       have HB6 : Hid (Below w.heap.size w w6) := Lib.hid (by rw [hn6]; exact HB5.out.trans ((drewN_below _ n6).mono HB5.out.size))
       have HX6 : Hid (w6.heap[w.heap.size]? = some (.cells #[.pointer (some ⟨p, 0, none⟩), .slice none 0 0] 130 (0, 0))) := Lib.hid (by rw [hn6]; exact HX5.out)
       have HH6 : Hid (HeldAt w6 w.heap.size gr (.slice A5 l.length c5) l) := Lib.hid (HH5.out.heap (by rw [hn6]; rfl))
       have HG6 : Hid (gr < w6.heap.size) := Lib.hid (by rw [hn6]; exact HGR.out)
       clear hn6 HF HH5 HX5 HX3 HX1 HGR))
  obtain ⟨q, hq⟩ : ∃ q, q = w.heap.size := ⟨_, rfl⟩
  have HQW := Lib.hid hq
  rw [← hq] at HX6 HH6 ⊢
  have HQ6 : Hid (q < w6.heap.size) := Lib.hid (Array.getElem?_eq_some_iff.1 HX6.out).1
  have HST : Hid (OpL w6 q p gr b rs t (.int .i64 (b : Int)) (.slice A5 l.length c5) (.int .i64 ((firstL l : Nat) : Int)) w6) := Lib.hid (by
    have hh := HH6.out
    have hrm := hh.room7
    have e := HLL.out
    rw [e] at hh hrm ⊢
    exact ⟨0, q, 0, A5, c5, none, rfl, rfl, hh, hrm, rfl, Nat.zero_le _, HX6.out, .inl ⟨rfl, rfl, rfl, rfl⟩, .inl rfl, Only.refl _ _⟩)
  have HSS : Hid (b + (bytesOf rs).length + t.length ≤ 100000) := Lib.hid (by have := HSM.out; have := HLEN.out; omega)
  clear hq HX6 HH6
  go_loopw [5, 6, 8] (fun v5 v6 v8 wr => OpL w6 q p gr b rs t v5 v6 v8 wr) (fun v5 _ _ _ => b + (bytesOf rs).length + 1 - (intOf v5).toNat)
  case atStart => exact HST.out
  case round =>
    obtain ⟨j, d', c, A', c', A, rfl, rfl, hh, hroom, rfl, hj, hx, hc, hd', hO⟩ := hrel
    obtain ⟨x0, x1⟩ := box2 hx
    have HX := Lib.hid hx
    have HC := Lib.hid hc
    have HDD := Lib.hid hd'
    have HO := Lib.hid hO
    have HH := Lib.hid hh
    have hcap := hc.slice
    obtain ⟨S, hS⟩ : ∃ S, S = startOf b rs j := ⟨_, rfl⟩
    have hSb : b ≤ S := by rw [hS]; exact startOf_le b rs (Nat.zero_le j)
    have hSe : S ≤ b + (bytesOf rs).length := by rw [hS, ← startOf_end b rs (Nat.le_refl _)]; exact startOf_le b rs hj
    have hSi : (S : Int) ≤ 100000 := by have := HSS.out; omega
    by_cases hlt : j < rs.length
    · obtain ⟨r, hrj⟩ : ∃ r, rs[j]? = some r := ⟨_, List.getElem?_eq_getElem hlt⟩
      have hrr := HRS.out r (List.mem_of_getElem? hrj)
      obtain ⟨F, hF⟩ : ∃ F, F = r.length + 5 := ⟨_, rfl⟩
      have hfl : firstL (bytesOf (rs.drop j) ++ t) = F := by rw [rest_at hrj t, firstL_frame hrr.1 hrr.2, hF]
      have hstep := startOf_succ b rs hrj
      have hSe2 : startOf b rs (j + 1) ≤ b + (bytesOf rs).length := by rw [← startOf_end b rs (Nat.le_refl _)]; exact startOf_le b rs hlt
      have hSF : S + F ≤ b + (bytesOf rs).length := by rw [hS, hF]; omega
      have hlen : F ≤ (bytesOf (rs.drop j) ++ t).length := by rw [← hfl]; exact firstL_le _
      obtain ⟨n0, hn0⟩ : ∃ n0, n0 = (bytesOf (rs.drop j) ++ t).length := ⟨_, rfl⟩
      obtain ⟨F2, hF2⟩ : ∃ F2, F2 = firstL (bytesOf (rs.drop (j + 1)) ++ t) := ⟨_, rfl⟩
      rw [hfl, ← hS, ← hn0]
      rw [← hn0] at hlen hroom HH
      have HNX : Hid (∀ (wa : World) (d5 c0 k5 : Nat) (A7 : Option Addr) (o : Obj), HeldC wa q d5 2 (.slice A7 c0 k5) (j + 1) (placeV (placesOf b (rs.take j)) ++ [.int .i64 (S : Int), .int .i64 ((S + F : Nat) : Int)]) → Only (fun k => k = d' ∧ k ≠ q) (wr.alloc o) wa → (d5 = d' ∨ (wr.alloc o).heap.size ≤ d5) →
          ∀ (n m0 k0 : Nat) (A0 : Option Addr) (v5 : Value), A0 = cutA c' F A' → m0 = n0 - F → k0 = c' - F → v5 = .int .i64 ((S + F : Nat) : Int) → OpL w6 q p gr b rs t v5 (.slice A0 m0 k0) (.int .i64 (F2 : Int)) ((wa.setCell ⟨q, 1, none⟩ (.slice A7 c0 k5)).drewN n)) := Lib.hid (by
        intro wa d5 c0 k5 A7 o h1 h2 h3 n m0 k0 A0 v5 h4 h5 h6 h7
        subst hS hF2
        exact op_next hrj hF HH.out HG6.out hd' hO hx h1 h2 h3 rfl ⟨n, rfl⟩ h4 m0 h5 k0 h6 h7 rfl)
      have HHA : Hid (∀ o, HeldC (wr.alloc o) q d' 2 (.slice A j c) j (placeV (placesOf b (rs.take j)))) := Lib.hid fun o => hc.only (Only.of_below (K := fun _ => False) (alloc_below wr o)) (fun _ => id)
      have HQA : Hid (∀ o, q < (wr.alloc o).heap.size) := Lib.hid fun o => by have := alloc_size wr o; have := hO.size; have := HQ6.out; omega
      have HZ : Hid (∀ (wa : World) (o : Obj), Only (fun k => k = d' ∧ k ≠ q) (wr.alloc o) wa → wa.frozen? ⟨q, 1, none⟩ = false ∧ ∃ v, wa.cell? ⟨q, 1, none⟩ = some v) := Lib.hid (by
        intro wa o h1
        have hql := (Array.getElem?_eq_some_iff.1 hx).1
        have hq6 := (h1.block q (by have := alloc_size wr o; omega) (fun e => e.2 rfl)).trans (((alloc_below wr o).block q hql).trans hx)
        exact ⟨by simp [World.frozen?, hq6], _, (box2 hq6).2⟩)
      have hFi : 0 < (F : Int) := by omega
      have hF1 : (F : Int) ≤ 100000 := by have := HSS.out; omega
      have hFn : (F : Int) ≤ (n0 : Int) := by omega
      have hnc : (n0 : Int) ≤ (c' : Int) := by omega
      have hj5 : j ≤ 100000 := by have := HRL.out; omega
      have HJ5 := Lib.hid hj5
      have hSFi : (S : Int) + (F : Int) ≤ 100000 := by have := HSS.out; omega
      have HME : Hid (S + F ≤ b + (bytesOf rs).length) := Lib.hid hSF
      clear hx hc hd' hO hh hcap hS hrj hrr hF hfl hstep hSe2 hSF hn0 hF2 hroom hj hlt hlen hSe hj5
      by_cases hcF : c' = F
      · subst hcF
        have hcc : ¬ c' = 0 := by omega
        go_wp2_with (at_builtin
                     refine wpList_appHC (n := j) (m := 1) (ys := [.int .i64 (S : Int), .int .i64 ((S : Int) + (c' : Int))]) (by rfl) _ _ 128 134 (by rfl) Tryz.underlying128 hi hz0 hz1 hz2 (by rfl) (by omega) (by rfl) (HHA.out _) (HQA.out _) (by rfl) (by rfl) (two_cells _ _ _ _) (two_ints _ _) (by have := HJ5.out; omega) (by have := HJ5.out; omega) ?_
                     intro d6 v6 wa ho6 hO6 hd6
                     obtain ⟨A7, k5, hv6, _⟩ := ho6.slice
                     subst hv6
                     obtain ⟨z1, va, y1⟩ := HZ.out _ _ hO6
                     have HNY : Hid (∀ (n m0 k0 : Nat) (A0 : Option Addr) (v5 : Value), A0 = cutA c' c' A' → m0 = n0 - c' → k0 = c' - c' → v5 = .int .i64 ((S + c' : Nat) : Int) → OpL w6 q p gr b rs t v5 (.slice A0 m0 k0) (.int .i64 (F2 : Int)) ((wa.setCell ⟨q, 1, none⟩ (.slice A7 (j + 1) k5)).drewN n)) := Lib.hid (by
                       have e1 : ((S + c' : Nat) : Int) = (S : Int) + (c' : Int) := by omega
                       rw [← e1] at ho6
                       intro n m0 k0 A0 v5 h4 h5 h6 h7
                       exact HNX.out wa d6 _ k5 A7 _ ho6 hO6 hd6 n m0 k0 A0 v5 h4 h5 h6 h7)
                     clear ho6 hO6 hd6)
        go_quiet (fail)
        go_wp2_with (go_at_call 75; refine (op_first (HNY.out _ _ _ _ (.int .i64 ((S + c' : Nat) : Int)) (by unfold cutA; rw [if_pos rfl]) (by omega) (by omega) rfl) HSS.out).mono ?_; rintro e w8 ⟨rfl, n8, hn8⟩
                     have HNZ : Hid (∀ (m0 k0 : Nat) (A0 : Option Addr) (v5 : Value), A0 = cutA c' c' A' → m0 = n0 - c' → k0 = c' - c' → v5 = .int .i64 ((S + c' : Nat) : Int) → OpL w6 q p gr b rs t v5 (.slice A0 m0 k0) (.int .i64 (F2 : Int)) w8) := Lib.hid (by
                       intro m0 k0 A0 v5 h4 h5 h6 h7
                       rw [hn8, World.drewN_drewN]
                       exact HNY.out _ m0 k0 A0 v5 h4 h5 h6 h7)
                     clear hn8)
        go_roundw
        case rel => first | exact HNZ.out _ _ _ _ (by unfold cutA; rw [if_pos rfl]) (by omega) (by omega) (by go_num) | ((repeat apply Exists.intro); exact ⟨HNZ.out _ _ _ _ (by unfold cutA; rw [if_pos rfl]) (by omega) (by omega) (by go_num), rfl⟩)
        case measure => have := HME.out; simp [intOf]; omega
      · have HCF := Lib.hid hcF
        go_wp2_with (at_builtin
                     refine wpList_appHC (n := j) (m := 1) (ys := [.int .i64 (S : Int), .int .i64 ((S : Int) + (F : Int))]) (by rfl) _ _ 128 134 (by rfl) Tryz.underlying128 hi hz0 hz1 hz2 (by rfl) (by omega) (by rfl) (HHA.out _) (HQA.out _) (by rfl) (by rfl) (two_cells _ _ _ _) (two_ints _ _) (by have := HJ5.out; omega) (by have := HJ5.out; omega) ?_
                     intro d6 v6 wa ho6 hO6 hd6
                     obtain ⟨A7, k5, hv6, _⟩ := ho6.slice
                     subst hv6
                     obtain ⟨z1, va, y1⟩ := HZ.out _ _ hO6
                     have HNY : Hid (∀ (n m0 k0 : Nat) (A0 : Option Addr) (v5 : Value), A0 = cutA c' F A' → m0 = n0 - F → k0 = c' - F → v5 = .int .i64 ((S + F : Nat) : Int) → OpL w6 q p gr b rs t v5 (.slice A0 m0 k0) (.int .i64 (F2 : Int)) ((wa.setCell ⟨q, 1, none⟩ (.slice A7 (j + 1) k5)).drewN n)) := Lib.hid (by
                       have e1 : ((S + F : Nat) : Int) = (S : Int) + (F : Int) := by omega
                       rw [← e1] at ho6
                       intro n m0 k0 A0 v5 h4 h5 h6 h7
                       exact HNX.out wa d6 _ k5 A7 _ ho6 hO6 hd6 n m0 k0 A0 v5 h4 h5 h6 h7)
                     clear ho6 hO6 hd6)
        go_quiet (fail)
        go_wp2_with (go_at_call 75; refine (op_first (HNY.out _ _ _ _ (.int .i64 ((S + F : Nat) : Int)) (by unfold cutA; rw [if_neg HCF.out]) (by omega) (by omega) rfl) HSS.out).mono ?_; rintro e w8 ⟨rfl, n8, hn8⟩
                     have HNZ : Hid (∀ (m0 k0 : Nat) (A0 : Option Addr) (v5 : Value), A0 = cutA c' F A' → m0 = n0 - F → k0 = c' - F → v5 = .int .i64 ((S + F : Nat) : Int) → OpL w6 q p gr b rs t v5 (.slice A0 m0 k0) (.int .i64 (F2 : Int)) w8) := Lib.hid (by
                       intro m0 k0 A0 v5 h4 h5 h6 h7
                       rw [hn8, World.drewN_drewN]
                       exact HNY.out _ m0 k0 A0 v5 h4 h5 h6 h7)
                     clear hn8)
        go_roundw
        case rel => first | exact HNZ.out _ _ _ _ (by unfold cutA; rw [if_neg HCF.out]) (by omega) (by omega) (by go_num) | ((repeat apply Exists.intro); exact ⟨HNZ.out _ _ _ _ (by unfold cutA; rw [if_neg HCF.out]) (by omega) (by omega) (by go_num), rfl⟩)
        case measure => have := HME.out; simp [intOf]; omega
    · have hjl : j = rs.length := by omega
      have hSE : S = b + (bytesOf rs).length := by rw [hS, hjl, startOf_end b rs (Nat.le_refl _)]
      have hrest : bytesOf (rs.drop j) ++ t = t := by rw [hjl, List.drop_length]; rfl
      rw [hrest, HTT.out, ← hS]
      have HBR : Hid (Below w.heap.size w wr) := Lib.hid (HB6.out.trans (hO.below HB6.out.size (fun k e => by have := HQW.out; omega)))
      have HDR := Lib.hid (HD.out.below HBR.out)
      have HEND : Hid (∀ w9 s', Dk w9 B p g b s' (bytesOf rs) → Only (fun k => k = p) wr w9 → s' = b + (bytesOf rs).length → OpT w B p g b rs (.returned (.tuple #[.pointer (some ⟨q, 0, none⟩), .int .i64 0])) w9) := Lib.hid (fun w9 s' h1 h2 h3 => op_end hjl HD.out HRS.out (by have := HQW.out; omega) (by have := HQW.out; have := HB6.out.size; omega) HBR.out HX.out HC.out h1 h2 h3 HBB.out)
      by_cases ht0 : t = []
      · have hl : l = bytesOf rs := by rw [HLL.out, ht0, List.append_nil]
        have HS := Lib.hid (sync_at HDR.out (b + (bytesOf rs).length) (by rw [hl]))
        rw [hl] at HS
        subst ht0
        simp only [List.length_nil]
        clear hx hc hd' hO hh hcap hS hj hlt hroom hrest hl hSE hSe
        go_wp2_with (go_at_call 77; refine HS.out.mono ?_; rintro e w9 ⟨rfl, hd9, hO9⟩; have HY := Lib.hid (HEND.out _ _ hd9 hO9 rfl); clear hd9 hO9)
        go_ret2
        exact HY.out
      · have htl : 0 < t.length := List.length_pos_iff.2 ht0
        have hti : 0 < (t.length : Int) := by omega
        have hcut := cut_yes HDR.out S hSb (by have := HLEN.out; omega)
        rw [show l.take (S - b) = bytesOf rs by rw [HLL.out, hSE, Nat.add_sub_cancel_left, List.take_left]] at hcut
        have HS := Lib.hid hcut
        have HSE := Lib.hid hSE
        clear hx hc hd' hO hh hcap hS hj hlt hroom hrest hSE hSe hcut ht0 htl
        go_wp2_with (go_at_call 76; refine HS.out.mono ?_; rintro e w9 ⟨rfl, hd9, hO9⟩; have HY := Lib.hid (HEND.out _ _ hd9 hO9 HSE.out); clear hd9 hO9)
        go_ret2
        exact HY.out
end Go.Proofs.YtkohppalfcalbaaGreat

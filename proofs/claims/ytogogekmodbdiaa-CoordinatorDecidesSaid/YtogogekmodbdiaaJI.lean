/- Package wal: a log; held, Sync, Safe. -/
import Derived.Test.YtogogekmodbdiaaJH
namespace Go.Proofs.Ytogogekmodbdiaa
open Go.RowKit

/-- a log: in block q, on the disk in p (its bytes in g), its places in d: those in pre are gone, the records rs begin at the offset b, what is ahead of s is safe -/
structure Wl (w : World) (B q p g d b s : Nat) (pre : List (Nat × Nat)) (rs : List (List UInt8)) : Prop where
  box : ∃ A cap, w.heap[q]? = some (.cells #[.pointer (some ⟨p, 0, none⟩), .slice A (pre.length + rs.length) cap] 96 (0, 0)) ∧ HeldC w q d 2 (.slice A (pre.length + rs.length) cap) (pre.length + rs.length) (placeV (pre ++ placesOf b rs))
  disk : Dk w B p g b s (bytesOf rs)
  ge : B ≤ q ∧ B ≤ d
  ne : q ≠ p ∧ q ≠ g ∧ d ≠ p ∧ d ≠ g
  gone : ∀ x ∈ pre, x.1 < b ∧ x.2 ≤ b
  recs : ∀ r ∈ rs, 1 ≤ r.length ∧ r.length ≤ 4096
  few : pre.length + rs.length ≤ 100000
theorem Wl.lt {w : World} {B q p g d b s : Nat} {pre : List (Nat × Nat)} {rs : List (List UInt8)} (h : Wl w B q p g d b s pre rs) : q < w.heap.size := by
  obtain ⟨A, cap, h1, _⟩ := h.box
  exact (Array.getElem?_eq_some_iff.1 h1).1
theorem HeldC.lt {w : World} {q g sz n : Nat} {v : Value} {vs : List Value} (h : HeldC w q g sz v n vs) (hq : q < w.heap.size) : g < w.heap.size := by
  rcases h with ⟨_, _, _, rfl⟩ | ⟨_, _, _, _, ho⟩
  · exact hq
  · exact ho.lt
theorem Wl.dlt {w : World} {B q p g d b s : Nat} {pre : List (Nat × Nat)} {rs : List (List UInt8)} (h : Wl w B q p g d b s pre rs) : d < w.heap.size := by
  obtain ⟨A, cap, _, h2⟩ := h.box
  exact h2.lt h.lt
theorem Wl.only {K : Nat → Prop} {w w' : World} {B q p g d b s : Nat} {pre : List (Nat × Nat)} {rs : List (List UInt8)} (h : Wl w B q p g d b s pre rs) (hO : Only K w w') (hq : ¬ K q) (hp : ¬ K p) (hg : ¬ K g) (hd : ¬ K d) : Wl w' B q p g d b s pre rs := by
  obtain ⟨A, cap, h1, h2⟩ := h.box
  exact ⟨⟨A, cap, (hO.block q h.lt hq).trans h1, h2.only hO (fun _ => hd)⟩, h.disk.only hO hp hg, h.ge, h.ne, h.gone, h.recs, h.few⟩
theorem Wl.below {w w' : World} {B q p g d b s : Nat} {pre : List (Nat × Nat)} {rs : List (List UInt8)} (h : Wl w B q p g d b s pre rs) (hb : Below w.heap.size w w') : Wl w' B q p g d b s pre rs := h.only (Only.of_below (K := fun _ => False) hb) id id id id
theorem Wl.heap {w w' : World} {B q p g d b s : Nat} {pre : List (Nat × Nat)} {rs : List (List UInt8)} (h : Wl w B q p g d b s pre rs) (e : w'.heap = w.heap) : Wl w' B q p g d b s pre rs := by
  obtain ⟨A, cap, h1, h2⟩ := h.box
  exact ⟨⟨A, cap, by rw [e]; exact h1, h2.heap e⟩, h.disk.heap e, h.ge, h.ne, h.gone, h.recs, h.few⟩
theorem Wl.more {w : World} {B C q p g d b s : Nat} {pre : List (Nat × Nat)} {rs : List (List UInt8)} (h : Wl w B q p g d b s pre rs) (hC : C ≤ B) : Wl w C q p g d b s pre rs := ⟨h.box, h.disk.more hC, ⟨Nat.le_trans hC h.ge.1, Nat.le_trans hC h.ge.2⟩, h.ne, h.gone, h.recs, h.few⟩
/-- what held answers -/
def HdT (w : World) (q d b : Nat) (rs : List (List UInt8)) (e : Ending) (w' : World) : Prop := ∃ A cap, e = .returned (.slice A rs.length cap) ∧ HeldC w' q d 2 (.slice A rs.length cap) rs.length (placeV (placesOf b rs)) ∧ Below w.heap.size w w'
theorem hd_of {w w' : World} {q d b cap n c : Nat} {A A' : Option Addr} {pre : List (Nat × Nat)} {rs : List (List UInt8)} (h : HeldC w q d 2 (.slice A (pre.length + rs.length) cap) (pre.length + rs.length) (placeV (pre ++ placesOf b rs))) (hb : Below w.heap.size w w') (hA : A' = if cap = pre.length then A else A.map fun x => x.add (pre.length * 2)) (hn : n = rs.length) (hc : c = cap - pre.length) : HdT w q d b rs (.returned (.slice A' n c)) w' := by
  subst hn hA hc
  have h1 := (h.only (Only.of_below (K := fun _ => False) hb) (fun _ => id)).dropped (k := pre.length) (by omega)
  rw [placeV_drop, List.drop_left, show pre.length + rs.length - pre.length = rs.length by omega] at h1
  exact ⟨_, _, rfl, h1, hb⟩
set_option maxRecDepth 100000 in
set_option maxHeartbeats 4000000 in
theorem held_any {w : World} {B q p g d b s : Nat} {pre : List (Nat × Nat)} {rs : List (List UInt8)} (h : Wl w B q p g d b s pre rs) : Calls Try.prog 59 #[.pointer (some ⟨q, 0, none⟩)] w (HdT w q d b rs) := by
  obtain ⟨A, cap, h1, h2⟩ := h.box
  obtain ⟨x0, x1⟩ := box2 h1
  have hl := h.few
  have hll : (pre ++ placesOf b rs).length = pre.length + rs.length := by rw [List.length_append, placesOf_len]
  obtain ⟨hrd, _⟩ := h2.rd
  have HB : Hid (∀ W : World, W.heap = w.heap → Calls Try.prog 54 #[.pointer (some ⟨p, 0, none⟩)] W (Looks (.int .i64 (b : Int)) W)) := Lib.hid fun W e => begin_any (h.disk.heap e)
  have HF : Hid (∀ W : World, W.heap = w.heap → Calls Try.prog 60 #[.slice A (pre.length + rs.length) cap, .int .i64 (b : Int)] W (Ans (.tuple #[.int .i64 (pre.length : Int), .bool (foundAt (pre ++ placesOf b rs) pre.length (b : Int))]) W)) :=
    Lib.hid fun W e => find_any _ _ _ (splitN_pre rs (fun x hx => (h.gone x hx).1)) A _ cap hll W (by omega) (by have := hrd.places.heap e; rw [← e] at this; exact this)
  have HD := Lib.hid h.disk
  have HP := Lib.hid (hrd.places)
  have HQ : Hid (∀ W : World, RdP W W.heap.size A (pre ++ placesOf b rs) → Calls Try.prog 74 #[.slice A (pre.length + rs.length) cap, .int .i64 ((b : Int) + ((bytesOf rs).length : Int))] W (Ans (.int .i64 ((pre.length : Int) + (rs.length : Int))) W)) := Lib.hid (fun W hb => by
    have h3 := ending_any _ _ _ (splitE_all rs (fun x hx => (h.gone x hx).2)) A _ cap hll W (by omega) hb
    rw [Int.natCast_add, Int.natCast_add] at h3
    exact h3)
  have HS : Hid (∀ W, Below w.heap.size w W → W.cell? ⟨q, 0, none⟩ = some (.pointer (some ⟨p, 0, none⟩)) ∧ W.cell? ⟨q, 1, none⟩ = some (.slice A (pre.length + rs.length) cap)) := Lib.hid fun W hb => box2 ((hb.block q h.lt).trans h1)
  have HH : Hid (∀ w' n c A', Below w.heap.size w w' → (A' = if cap = pre.length then A else A.map fun x => x.add (pre.length * 2)) → n = rs.length → c = cap - pre.length → HdT w q d b rs (.returned (.slice A' n c)) w') := Lib.hid fun w' n c A' hb hA hn hc => hd_of h2 hb hA hn hc
  obtain ⟨_, _, e2, hcap, _⟩ := h2.slice
  injection e2 with e2 e3 e4
  subst e4
  have hci : (pre.length : Int) + (rs.length : Int) ≤ cap := by omega
  have hli : (pre.length : Int) + (rs.length : Int) ≤ 100000 := by omega
  have HS0 : Hid (∀ W : World, W.heap = w.heap → W.cell? ⟨q, 0, none⟩ = some (.pointer (some ⟨p, 0, none⟩)) ∧ W.cell? ⟨q, 1, none⟩ = some (.slice A (pre.length + rs.length) cap)) := Lib.hid fun W e => box2 (by rw [e]; exact h1)
  clear h1 h2 h hrd hl hll e2 e3
  go_enter Try.func59, Try.ntmps59
  go_wp2_with fail
  go_region_held3 (fun W => W.cell? ⟨q, 0, none⟩ = some (.pointer (some ⟨p, 0, none⟩)) ∧ W.cell? ⟨q, 1, none⟩ = some (.slice A (pre.length + rs.length) cap))
    (first
      | exact HS2.out _ rfl
      | exact HS0.out _ rfl)
    (first
    | (go_at_call 54; refine (HB.out _ (by rfl)).mono ?_; rintro e w1 ⟨rfl, rfl⟩)
    | (go_at_call 60; refine (HF.out _ (by rfl)).mono ?_; rintro e w2 ⟨rfl, hb⟩
       have hb := below_drew hb
       have HB2 := Lib.hid hb
       have HS2 : Hid (∀ W : World, W.heap = w2.heap → W.cell? ⟨q, 0, none⟩ = some (.pointer (some ⟨p, 0, none⟩)) ∧ W.cell? ⟨q, 1, none⟩ = some (.slice A (pre.length + rs.length) cap)) := Lib.hid fun W e => by
         obtain ⟨e1, e2⟩ := HS.out _ hb
         exact ⟨(World.cell?_of_block (by rw [e])).trans e1, (World.cell?_of_block (by rw [e])).trans e2⟩
       clear hb)
    | fail)
  have HE : Hid (∀ W : World, W.heap = w2.heap → Calls Try.prog 21 #[.pointer (some ⟨p, 0, none⟩)] W (LooksN (.int .i64 ((b : Int) + ((bytesOf rs).length : Int))) W)) := Lib.hid fun W e => end_at ((HD.out.below HB2.out).heap e) _ (by omega)
  have HG : Hid (∀ W : World, W.heap = w2.heap → Calls Try.prog 74 #[.slice A (pre.length + rs.length) cap, .int .i64 ((b : Int) + ((bytesOf rs).length : Int))] W (Ans (.int .i64 ((pre.length : Int) + (rs.length : Int))) W)) :=
    Lib.hid fun W e => HQ.out W (((HP.out.below HB2.out (Nat.le_refl _)).heap e).more (by rw [e]; exact HB2.out.size))
  have HB3 : Hid (∀ k, Below w.heap.size w (w2.drewN k)) := Lib.hid fun k => HB2.out.trans ((drewN_below w2 k).mono HB2.out.size)
  clear HD HP HQ HB HF HS0
  by_cases hR : rs = []
  · subst hR
    simp only [List.length_nil, Nat.add_zero, Int.natCast_zero, Int.add_zero] at HS HS2 HE HG HH hci hcap x1
    by_cases hcp : cap = pre.length
    · subst hcp
      go_wp2_with fail
      go_region_held3 (fun W => W.cell? ⟨q, 0, none⟩ = some (.pointer (some ⟨p, 0, none⟩)) ∧ W.cell? ⟨q, 1, none⟩ = some (.slice A pre.length pre.length))
        (first
          | exact HS3.out _ rfl
          | exact HS2.out _ rfl)
        (first
        | (go_at_call 21; refine (HE.out _ (by rfl)).mono ?_; rintro e w1 ⟨rfl, n1, rfl⟩)
        | (go_at_call 74; refine (HG.out _ (by rfl)).mono ?_; rintro e w3 ⟨rfl, hb⟩
           have hb := (HB3.out _).trans (hb.mono (HB3.out _).size)
           have HB4 := Lib.hid hb
           have HS3 : Hid (∀ W : World, W.heap = w3.heap → W.cell? ⟨q, 0, none⟩ = some (.pointer (some ⟨p, 0, none⟩)) ∧ W.cell? ⟨q, 1, none⟩ = some (.slice A pre.length pre.length)) := Lib.hid fun W e => by
             obtain ⟨e1, e2⟩ := HS.out _ hb
             exact ⟨(World.cell?_of_block (by rw [e])).trans e1, (World.cell?_of_block (by rw [e])).trans e2⟩
           clear hb)
        | fail)
      go_wp2_with fail
      go_ret
      exact HH.out _ _ _ _ HB4.out (by simp) (by simp) (by simp)
    · have hcpi : ¬ cap ≤ pre.length := by omega
      go_wp2_with fail
      go_region_held3 (fun W => W.cell? ⟨q, 0, none⟩ = some (.pointer (some ⟨p, 0, none⟩)) ∧ W.cell? ⟨q, 1, none⟩ = some (.slice A pre.length cap))
        (first
          | exact HS3.out _ rfl
          | exact HS2.out _ rfl)
        (first
        | (go_at_call 21; refine (HE.out _ (by rfl)).mono ?_; rintro e w1 ⟨rfl, n1, rfl⟩)
        | (go_at_call 74; refine (HG.out _ (by rfl)).mono ?_; rintro e w3 ⟨rfl, hb⟩
           have hb := (HB3.out _).trans (hb.mono (HB3.out _).size)
           have HB4 := Lib.hid hb
           have HS3 : Hid (∀ W : World, W.heap = w3.heap → W.cell? ⟨q, 0, none⟩ = some (.pointer (some ⟨p, 0, none⟩)) ∧ W.cell? ⟨q, 1, none⟩ = some (.slice A pre.length cap)) := Lib.hid fun W e => by
             obtain ⟨e1, e2⟩ := HS.out _ hb
             exact ⟨(World.cell?_of_block (by rw [e])).trans e1, (World.cell?_of_block (by rw [e])).trans e2⟩
           clear hb)
        | fail)
      go_wp2_with fail
      go_ret
      exact HH.out _ _ _ _ HB4.out (by simp [hcp]) (by simp) (by simp)
  · have hRp : 0 < rs.length := List.length_pos_iff.2 hR
    have hcp : ¬ cap = pre.length := by omega
    have hlt : (pre.length : Int) < (pre.length : Int) + (rs.length : Int) := by omega
    have hlt0 : 0 < (rs.length : Int) := by omega
    have hlt1 : (pre.length : Int) ≤ (pre.length : Int) + (rs.length : Int) := by omega
    have hlt2 : 0 ≤ (rs.length : Int) := by omega
    clear hR
    go_wp2_with fail
    go_region_held3 (fun W => W.cell? ⟨q, 0, none⟩ = some (.pointer (some ⟨p, 0, none⟩)) ∧ W.cell? ⟨q, 1, none⟩ = some (.slice A (pre.length + rs.length) cap))
      (first
        | exact HS3.out _ rfl
        | exact HS2.out _ rfl)
      (first
      | (go_at_call 21; refine (HE.out _ (by rfl)).mono ?_; rintro e w1 ⟨rfl, n1, rfl⟩)
      | (go_at_call 74; refine (HG.out _ (by rfl)).mono ?_; rintro e w3 ⟨rfl, hb⟩
         have hb := (HB3.out _).trans (hb.mono (HB3.out _).size)
         have HB4 := Lib.hid hb
         have HS3 : Hid (∀ W : World, W.heap = w3.heap → W.cell? ⟨q, 0, none⟩ = some (.pointer (some ⟨p, 0, none⟩)) ∧ W.cell? ⟨q, 1, none⟩ = some (.slice A (pre.length + rs.length) cap)) := Lib.hid fun W e => by
           obtain ⟨e1, e2⟩ := HS.out _ hb
           exact ⟨(World.cell?_of_block (by rw [e])).trans e1, (World.cell?_of_block (by rw [e])).trans e2⟩
         clear hb)
      | fail)
    go_wp2_with fail
    go_ret
    exact HH.out _ _ _ _ HB4.out (by rw [if_neg hcp]) (by omega) rfl
end Go.Proofs.Ytogogekmodbdiaa

/- Package wal: a log; held, Sync, Safe. -/
import Derived.Test.YtkohppalfcalbaaGreatJY
namespace Go.Proofs.YtkohppalfcalbaaGreat
section
open Go.RowKit

/-- a log: in block q, on the disk in p (its bytes in g), its places in d: those in pre are gone, the records rs begin at the offset b, what is ahead of s is safe -/
structure Wl (w : World) (B q p g d b s : Nat) (pre : List (Nat × Nat)) (rs : List (List UInt8)) : Prop where
  box : ∃ A cap, w.heap[q]? = some (.cells #[.pointer (some ⟨p, 0, none⟩), .slice A (pre.length + rs.length) cap] 130 (0, 0)) ∧ HeldC w q d 2 (.slice A (pre.length + rs.length) cap) (pre.length + rs.length) (placeV (pre ++ placesOf b rs))
  disk : Dk w B p g b s (bytesOf rs)
  ge : B ≤ q ∧ B ≤ d
  ne : q ≠ p ∧ q ≠ g ∧ d ≠ p ∧ d ≠ g
  gone : ∀ x ∈ pre, x.1 < b ∧ x.2 ≤ b
  recs : ∀ r ∈ rs, 1 ≤ r.length ∧ r.length ≤ 4096
  few : pre.length + rs.length ≤ 100000
theorem Wl.lt {w : World} {B q p g d b s : Nat} {pre : List (Nat × Nat)} {rs : List (List UInt8)} (h : Wl w B q p g d b s pre rs) : q < w.heap.size := by
  obtain ⟨A, cap, h1, _⟩ := h.box
  exact (Array.getElem?_eq_some_iff.1 h1).1
theorem HeldC.lt {w : World} {q g sz n : Nat} {v : Value} {vs : List Value} (h : HeldC w q g sz v n vs) (hq : q < w.heap.size) : g < w.heap.size := by
  rcases h with ⟨_, _, _, rfl⟩ | ⟨_, _, _, _, ho⟩
  · exact hq
  · exact ho.lt
theorem Wl.dlt {w : World} {B q p g d b s : Nat} {pre : List (Nat × Nat)} {rs : List (List UInt8)} (h : Wl w B q p g d b s pre rs) : d < w.heap.size := by
  obtain ⟨A, cap, _, h2⟩ := h.box
  exact h2.lt h.lt
theorem Wl.only {K : Nat → Prop} {w w' : World} {B q p g d b s : Nat} {pre : List (Nat × Nat)} {rs : List (List UInt8)} (h : Wl w B q p g d b s pre rs) (hO : Only K w w') (hq : ¬ K q) (hp : ¬ K p) (hg : ¬ K g) (hd : ¬ K d) : Wl w' B q p g d b s pre rs := by
  obtain ⟨A, cap, h1, h2⟩ := h.box
  exact ⟨⟨A, cap, (hO.block q h.lt hq).trans h1, h2.only hO (fun _ => hd)⟩, h.disk.only hO hp hg, h.ge, h.ne, h.gone, h.recs, h.few⟩
theorem Wl.below {w w' : World} {B q p g d b s : Nat} {pre : List (Nat × Nat)} {rs : List (List UInt8)} (h : Wl w B q p g d b s pre rs) (hb : Below w.heap.size w w') : Wl w' B q p g d b s pre rs := h.only (Only.of_below (K := fun _ => False) hb) id id id id
theorem Wl.heap {w w' : World} {B q p g d b s : Nat} {pre : List (Nat × Nat)} {rs : List (List UInt8)} (h : Wl w B q p g d b s pre rs) (e : w'.heap = w.heap) : Wl w' B q p g d b s pre rs := by
  obtain ⟨A, cap, h1, h2⟩ := h.box
  exact ⟨⟨A, cap, by rw [e]; exact h1, h2.heap e⟩, h.disk.heap e, h.ge, h.ne, h.gone, h.recs, h.few⟩
theorem Wl.more {w : World} {B C q p g d b s : Nat} {pre : List (Nat × Nat)} {rs : List (List UInt8)} (h : Wl w B q p g d b s pre rs) (hC : C ≤ B) : Wl w C q p g d b s pre rs := ⟨h.box, h.disk.more hC, ⟨Nat.le_trans hC h.ge.1, Nat.le_trans hC h.ge.2⟩, h.ne, h.gone, h.recs, h.few⟩
/-- what held answers -/
def HdT (w : World) (q d b : Nat) (rs : List (List UInt8)) (e : Ending) (w' : World) : Prop := ∃ A cap, e = .returned (.slice A rs.length cap) ∧ HeldC w' q d 2 (.slice A rs.length cap) rs.length (placeV (placesOf b rs)) ∧ Below w.heap.size w w'
theorem hd_of {w w' : World} {q d b cap n c : Nat} {A A' : Option Addr} {pre : List (Nat × Nat)} {rs : List (List UInt8)} (h : HeldC w q d 2 (.slice A (pre.length + rs.length) cap) (pre.length + rs.length) (placeV (pre ++ placesOf b rs))) (hb : Below w.heap.size w w') (hA : A' = if cap = pre.length then A else A.map fun x => x.add (pre.length * 2)) (hn : n = rs.length) (hc : c = cap - pre.length) : HdT w q d b rs (.returned (.slice A' n c)) w' := by
  subst hn hA hc
  have h1 := (h.only (Only.of_below (K := fun _ => False) hb) (fun _ => id)).dropped (k := pre.length) (by omega)
  rw [placeV_drop, List.drop_left, show pre.length + rs.length - pre.length = rs.length by omega] at h1
  exact ⟨_, _, rfl, h1, hb⟩
set_option maxRecDepth 100000 in
set_option maxHeartbeats 4000000 in
theorem held_any {w : World} {B q p g d b s : Nat} {pre : List (Nat × Nat)} {rs : List (List UInt8)} (h : Wl w B q p g d b s pre rs) : Calls Tryz.prog 98 #[.pointer (some ⟨q, 0, none⟩)] w (HdT w q d b rs) := by
  obtain ⟨A, cap, h1, h2⟩ := h.box
  obtain ⟨x0, x1⟩ := box2 h1
  have hl := h.few
  have hll : (pre ++ placesOf b rs).length = pre.length + rs.length := by rw [List.length_append, placesOf_len]
  obtain ⟨hrd, _⟩ := h2.rd
  have HB : Hid (∀ W : World, W.heap = w.heap → Calls Tryz.prog 73 #[.pointer (some ⟨p, 0, none⟩)] W (Looks (.int .i64 (b : Int)) W)) := Lib.hid fun W e => begin_any (h.disk.heap e)
  have HF : Hid (∀ W : World, W.heap = w.heap → Calls Tryz.prog 97 #[.slice A (pre.length + rs.length) cap, .int .i64 (b : Int)] W (Ans (.tuple #[.int .i64 (pre.length : Int), .bool (foundAt (pre ++ placesOf b rs) pre.length (b : Int))]) W)) :=
    Lib.hid fun W e => find_any _ _ _ (splitN_pre rs (fun x hx => (h.gone x hx).1)) A _ cap hll W (by omega) (by have := hrd.places.heap e; rw [← e] at this; exact this)
  have HD := Lib.hid h.disk
  have HP := Lib.hid (hrd.places)
  have HQ : Hid (∀ W : World, RdP W W.heap.size A (pre ++ placesOf b rs) → Calls Tryz.prog 141 #[.slice A (pre.length + rs.length) cap, .int .i64 ((b : Int) + ((bytesOf rs).length : Int))] W (Ans (.int .i64 ((pre.length : Int) + (rs.length : Int))) W)) := Lib.hid (fun W hb => by
    have h3 := ending_any _ _ _ (splitE_all rs (fun x hx => (h.gone x hx).2)) A _ cap hll W (by omega) hb
    rw [Int.natCast_add, Int.natCast_add] at h3
    exact h3)
  have HS : Hid (∀ W, Below w.heap.size w W → W.cell? ⟨q, 0, none⟩ = some (.pointer (some ⟨p, 0, none⟩)) ∧ W.cell? ⟨q, 1, none⟩ = some (.slice A (pre.length + rs.length) cap)) := Lib.hid fun W hb => box2 ((hb.block q h.lt).trans h1)
  have HH : Hid (∀ w' n c A', Below w.heap.size w w' → (A' = if cap = pre.length then A else A.map fun x => x.add (pre.length * 2)) → n = rs.length → c = cap - pre.length → HdT w q d b rs (.returned (.slice A' n c)) w') := Lib.hid fun w' n c A' hb hA hn hc => hd_of h2 hb hA hn hc
  obtain ⟨_, _, e2, hcap, _⟩ := h2.slice
  injection e2 with e2 e3 e4
  subst e4
  have hci : (pre.length : Int) + (rs.length : Int) ≤ cap := by omega
  have hli : (pre.length : Int) + (rs.length : Int) ≤ 100000 := by omega
  have HS0 : Hid (∀ W : World, W.heap = w.heap → W.cell? ⟨q, 0, none⟩ = some (.pointer (some ⟨p, 0, none⟩)) ∧ W.cell? ⟨q, 1, none⟩ = some (.slice A (pre.length + rs.length) cap)) := Lib.hid fun W e => box2 (by rw [e]; exact h1)
  clear h1 h2 h hrd hl hll e2 e3
  go_enter Tryz.func98, Tryz.ntmps98
  go_wp2_with fail
  go_region_held3 (fun W => W.cell? ⟨q, 0, none⟩ = some (.pointer (some ⟨p, 0, none⟩)) ∧ W.cell? ⟨q, 1, none⟩ = some (.slice A (pre.length + rs.length) cap))
    (first
      | exact HS2.out _ rfl
      | exact HS0.out _ rfl)
    (first
    | (go_at_call 73; refine (HB.out _ (by rfl)).mono ?_; rintro e w1 ⟨rfl, rfl⟩)
    | (go_at_call 97; refine (HF.out _ (by rfl)).mono ?_; rintro e w2 ⟨rfl, hb⟩
       have hb := below_drew hb
       have HB2 := Lib.hid hb
       have HS2 : Hid (∀ W : World, W.heap = w2.heap → W.cell? ⟨q, 0, none⟩ = some (.pointer (some ⟨p, 0, none⟩)) ∧ W.cell? ⟨q, 1, none⟩ = some (.slice A (pre.length + rs.length) cap)) := Lib.hid fun W e => by
         obtain ⟨e1, e2⟩ := HS.out _ hb
         exact ⟨(World.cell?_of_block (by rw [e])).trans e1, (World.cell?_of_block (by rw [e])).trans e2⟩
       clear hb)
    | fail)
  have HE : Hid (∀ W : World, W.heap = w2.heap → Calls Tryz.prog 59 #[.pointer (some ⟨p, 0, none⟩)] W (LooksN (.int .i64 ((b : Int) + ((bytesOf rs).length : Int))) W)) := Lib.hid fun W e => end_at ((HD.out.below HB2.out).heap e) _ (by omega)
  have HG : Hid (∀ W : World, W.heap = w2.heap → Calls Tryz.prog 141 #[.slice A (pre.length + rs.length) cap, .int .i64 ((b : Int) + ((bytesOf rs).length : Int))] W (Ans (.int .i64 ((pre.length : Int) + (rs.length : Int))) W)) :=
    Lib.hid fun W e => HQ.out W (((HP.out.below HB2.out (Nat.le_refl _)).heap e).more (by rw [e]; exact HB2.out.size))
  have HB3 : Hid (∀ k, Below w.heap.size w (w2.drewN k)) := Lib.hid fun k => HB2.out.trans ((drewN_below w2 k).mono HB2.out.size)
  clear HD HP HQ HB HF HS0
  by_cases hR : rs = []
  · subst hR
    simp only [List.length_nil, Nat.add_zero, Int.natCast_zero, Int.add_zero] at HS HS2 HE HG HH hci hcap x1
    by_cases hcp : cap = pre.length
    · subst hcp
      go_wp2_with fail
      go_region_held3 (fun W => W.cell? ⟨q, 0, none⟩ = some (.pointer (some ⟨p, 0, none⟩)) ∧ W.cell? ⟨q, 1, none⟩ = some (.slice A pre.length pre.length))
        (first
          | exact HS3.out _ rfl
          | exact HS2.out _ rfl)
        (first
        | (go_at_call 59; refine (HE.out _ (by rfl)).mono ?_; rintro e w1 ⟨rfl, n1, rfl⟩)
        | (go_at_call 141; refine (HG.out _ (by rfl)).mono ?_; rintro e w3 ⟨rfl, hb⟩
           have hb := (HB3.out _).trans (hb.mono (HB3.out _).size)
           have HB4 := Lib.hid hb
           have HS3 : Hid (∀ W : World, W.heap = w3.heap → W.cell? ⟨q, 0, none⟩ = some (.pointer (some ⟨p, 0, none⟩)) ∧ W.cell? ⟨q, 1, none⟩ = some (.slice A pre.length pre.length)) := Lib.hid fun W e => by
             obtain ⟨e1, e2⟩ := HS.out _ hb
             exact ⟨(World.cell?_of_block (by rw [e])).trans e1, (World.cell?_of_block (by rw [e])).trans e2⟩
           clear hb)
        | fail)
      go_wp2_with fail
      go_ret
      exact HH.out _ _ _ _ HB4.out (by simp) (by simp) (by simp)
    · have hcpi : ¬ cap ≤ pre.length := by omega
      go_wp2_with fail
      go_region_held3 (fun W => W.cell? ⟨q, 0, none⟩ = some (.pointer (some ⟨p, 0, none⟩)) ∧ W.cell? ⟨q, 1, none⟩ = some (.slice A pre.length cap))
        (first
          | exact HS3.out _ rfl
          | exact HS2.out _ rfl)
        (first
        | (go_at_call 59; refine (HE.out _ (by rfl)).mono ?_; rintro e w1 ⟨rfl, n1, rfl⟩)
        | (go_at_call 141; refine (HG.out _ (by rfl)).mono ?_; rintro e w3 ⟨rfl, hb⟩
           have hb := (HB3.out _).trans (hb.mono (HB3.out _).size)
           have HB4 := Lib.hid hb
           have HS3 : Hid (∀ W : World, W.heap = w3.heap → W.cell? ⟨q, 0, none⟩ = some (.pointer (some ⟨p, 0, none⟩)) ∧ W.cell? ⟨q, 1, none⟩ = some (.slice A pre.length cap)) := Lib.hid fun W e => by
             obtain ⟨e1, e2⟩ := HS.out _ hb
             exact ⟨(World.cell?_of_block (by rw [e])).trans e1, (World.cell?_of_block (by rw [e])).trans e2⟩
           clear hb)
        | fail)
      go_wp2_with fail
      go_ret
      exact HH.out _ _ _ _ HB4.out (by simp [hcp]) (by simp) (by simp)
  · have hRp : 0 < rs.length := List.length_pos_iff.2 hR
    have hcp : ¬ cap = pre.length := by omega
    have hlt : (pre.length : Int) < (pre.length : Int) + (rs.length : Int) := by omega
    have hlt0 : 0 < (rs.length : Int) := by omega
    have hlt1 : (pre.length : Int) ≤ (pre.length : Int) + (rs.length : Int) := by omega
    have hlt2 : 0 ≤ (rs.length : Int) := by omega
    clear hR
    go_wp2_with fail
    go_region_held3 (fun W => W.cell? ⟨q, 0, none⟩ = some (.pointer (some ⟨p, 0, none⟩)) ∧ W.cell? ⟨q, 1, none⟩ = some (.slice A (pre.length + rs.length) cap))
      (first
        | exact HS3.out _ rfl
        | exact HS2.out _ rfl)
      (first
      | (go_at_call 59; refine (HE.out _ (by rfl)).mono ?_; rintro e w1 ⟨rfl, n1, rfl⟩)
      | (go_at_call 141; refine (HG.out _ (by rfl)).mono ?_; rintro e w3 ⟨rfl, hb⟩
         have hb := (HB3.out _).trans (hb.mono (HB3.out _).size)
         have HB4 := Lib.hid hb
         have HS3 : Hid (∀ W : World, W.heap = w3.heap → W.cell? ⟨q, 0, none⟩ = some (.pointer (some ⟨p, 0, none⟩)) ∧ W.cell? ⟨q, 1, none⟩ = some (.slice A (pre.length + rs.length) cap)) := Lib.hid fun W e => by
           obtain ⟨e1, e2⟩ := HS.out _ hb
           exact ⟨(World.cell?_of_block (by rw [e])).trans e1, (World.cell?_of_block (by rw [e])).trans e2⟩
         clear hb)
      | fail)
    go_wp2_with fail
    go_ret
    exact HH.out _ _ _ _ HB4.out (by rw [if_neg hcp]) (by omega) rfl
end

section
open Go.RowKit

/-- a log whose disk alone has turned -/
theorem Wl.with_disk {w w' : World} {B q p g d b s s' : Nat} {pre : List (Nat × Nat)} {rs : List (List UInt8)} (h : Wl w B q p g d b s pre rs) (hO : Only (fun k => k = p) w w') (hd : Dk w' B p g b s' (bytesOf rs)) : Wl w' B q p g d b s' pre rs := by
  obtain ⟨A, cap, h1, h2⟩ := h.box
  exact ⟨⟨A, cap, (hO.block q h.lt h.ne.1).trans h1, h2.only hO (fun _ => h.ne.2.2.1)⟩, hd, h.ge, h.ne, h.gone, h.recs, h.few⟩
theorem Wl.cells {w : World} {B q p g d b s : Nat} {pre : List (Nat × Nat)} {rs : List (List UInt8)} (h : Wl w B q p g d b s pre rs) : Hid (∀ W, Below w.heap.size w W → W.cell? ⟨q, 0, none⟩ = some (.pointer (some ⟨p, 0, none⟩))) := Lib.hid fun W hb => by
  obtain ⟨A, cap, h1, _⟩ := h.box
  exact (box2 ((hb.block q h.lt).trans h1)).1
/-- what Sync answers -/
def SyT (w : World) (B q p g d b s : Nat) (pre : List (Nat × Nat)) (rs : List (List UInt8)) (e : Ending) (w' : World) : Prop := e = .returned (.int .i64 0) ∧ Wl w' B q p g d b s pre rs ∧ Only (fun k => k = p) w w'
set_option maxRecDepth 100000 in
theorem wsync_any {w : World} {B q p g d b s : Nat} {pre : List (Nat × Nat)} {rs : List (List UInt8)} (h : Wl w B q p g d b s pre rs) : Calls Tryz.prog 57 #[.pointer (some ⟨q, 0, none⟩)] w (SyT w B q p g d b (b + (bytesOf rs).length) pre rs) := by
  have x0 := h.cells.out w (Below.refl _ _)
  have HS := Lib.hid (sync_any h.disk)
  have HW : Hid (∀ w', Dk w' B p g b (b + (bytesOf rs).length) (bytesOf rs) → Only (fun k => k = p) w w' → SyT w B q p g d b (b + (bytesOf rs).length) pre rs (.returned (.int .i64 0)) w') := Lib.hid fun w' hd hO => ⟨rfl, h.with_disk hO hd, hO⟩
  clear h
  go_enter Tryz.func57, Tryz.ntmps57
  go_wp2_with (go_at_call 77; refine HS.out.mono ?_; rintro e w2 ⟨rfl, hd, hO⟩; have HY := Lib.hid (HW.out _ hd hO); clear hd hO)
  go_ret
  exact HY.out
end

section
open Go.RowKit

theorem infoI : (Tryz.prog.info? 3).map (fun i => (i.zero, i.size, i.bytes)) = some (some (.int .i64 0), 1, 8) := by kernel_rfl
/-- numbers as cells -/
def intsV (l : List Nat) : List Value := l.map fun (n : Nat) => .int .i64 (n : Int)
/-- the numbers of records -/
def numbersOf (b : Nat) (rs : List (List UInt8)) : List Nat := (placesOf b rs).map (·.1)
theorem numbersOf_len (b : Nat) (rs : List (List UInt8)) : (numbersOf b rs).length = rs.length := by unfold numbersOf; rw [List.length_map, placesOf_len]
theorem numbersOf_get (b : Nat) (rs : List (List UInt8)) {j : Nat} (h : j < rs.length) : (numbersOf b rs)[j]? = some (startOf b rs j) := by
  unfold numbersOf
  rw [List.getElem?_map, placesOf_some b rs h]
  rfl
/-- what Numbers answers -/
def NmT (w : World) (ns : List Nat) (e : Ending) (w' : World) : Prop := ∃ A cap, e = .returned (.slice A ns.length cap) ∧ RdC w' w'.heap.size A (intsV ns) ∧ ns.length ≤ cap ∧ Below w.heap.size w w'
/-- at the head of the loop -/
def NmL (w : World) (q : Nat) (ns : List Nat) (v3 v11 : Value) (wr : World) : Prop := ∃ k g : Nat, v11 = .int .i64 (k : Int) ∧ k ≤ ns.length ∧ HeldC wr q g 1 v3 k (intsV (ns.take k)) ∧ (g = q ∨ w.heap.size ≤ g) ∧ Below w.heap.size w wr
theorem one_int (k : IntKind) (n : Int) : ∀ u ∈ [Value.int k n], u.oneCell' = true := by
  intro u hu
  rw [List.mem_singleton] at hu
  subst hu
  rfl
theorem one_cell2 (w : World) (o : Obj) (v : Value) (t : TypeId) (j : Nat) (u : Value) (h : [v][j]? = some u) : ((w.alloc o).alloc (.cells #[v] t)).cell? ((⟨w.heap.size + 1, 0, none⟩ : Addr).add j) = some u := by
  cases j with
  | zero => simp at h; subst h; exact box1 (heap_two w _ _)
  | succ j => simp at h
theorem nm_next {w w1 wr w3 : World} {q k g g3 : Nat} {ns : List Nat} {v5 : Value} {x : Nat} (hk : ns[k]? = some x) (hb : Below w.heap.size w wr) (h1 : Below wr.heap.size wr w1) (ho : HeldC w3 q g3 1 v5 (k + 1) (intsV (ns.take k) ++ [.int .i64 (x : Int)])) (hO : Only (fun j => j = g ∧ j ≠ q) w1 w3) (hg : g = q ∨ w.heap.size ≤ g) (hg3 : g3 = g ∨ w1.heap.size ≤ g3) (v11 : Value) (h11 : v11 = .int .i64 ((k + 1 : Nat) : Int)) : NmL w q ns v5 v11 w3 := by
  have h2 := List.getElem?_eq_some_iff.1 hk
  have hsz := hb.size
  have hsz1 := h1.size
  refine ⟨k + 1, g3, h11, h2.1, ?_, ?_, ?_⟩
  · have e : intsV (ns.take (k + 1)) = intsV (ns.take k) ++ [.int .i64 (x : Int)] := by
      rw [List.take_succ_eq_append_getElem h2.1, h2.2]
      unfold intsV
      rw [List.map_append]
      rfl
    rw [e]
    exact ho
  · rcases hg3 with rfl | hg3
    · exact hg
    · exact .inr (by omega)
  · refine (hb.trans (h1.mono hsz)).trans (hO.below (by omega) (fun j hj => ?_))
    rcases hg with rfl | hg
    · exact absurd hj.1 hj.2
    · omega
set_option maxRecDepth 100000 in
set_option maxHeartbeats 4000000 in
theorem numbers_any {w : World} {B q p g d b s : Nat} {pre : List (Nat × Nat)} {rs : List (List UInt8)} (h : Wl w B q p g d b s pre rs) : Calls Tryz.prog 83 #[.pointer (some ⟨q, 0, none⟩)] w (NmT w (numbersOf b rs)) := by
  obtain ⟨i0, hi, hz0, hz1, hz2⟩ := info_parts infoI
  have HH := Lib.hid (held_any h)
  have hll : rs.length ≤ 100000 := by have := h.few; omega
  have HQ := Lib.hid h.lt
  have HN := Lib.hid (numbersOf_len b rs)
  have hri : (rs.length : Int) ≤ 100000 := by omega
  have HLL := Lib.hid hll
  clear h hll
  go_enter Tryz.func83, Tryz.ntmps83
  go_wp2_with (first
    | (go_at_call 98; refine HH.out.mono ?_; rintro e w2 ⟨A2, cap2, rfl, hh2, hb⟩
       have HB2 := Lib.hid hb
       have HP2 := Lib.hid hh2.rd.1.places
       clear hb hh2))
  go_loopw [3, 11] (fun v3 v11 wr => NmL w2 q (numbersOf b rs) v3 v11 wr) (fun _ v11 _ => rs.length - (intOf v11).toNat)
  case atStart => exact ⟨0, q, rfl, Nat.zero_le _, .inl ⟨rfl, rfl, rfl, rfl⟩, .inl rfl, Below.refl _ _⟩
  case round =>
    obtain ⟨k, g3, rfl, hk, hh, hg, hb⟩ := hrel
    rw [HN.out] at hk
    have HHH := Lib.hid hh
    have HG := Lib.hid hg
    have HB := Lib.hid hb
    by_cases hlt : k < rs.length
    · have hlti : (k : Int) < (rs.length : Int) := by omega
      obtain ⟨b0, o0, hA, c0, c1⟩ := HP2.out.at_ (placesOf_some b rs hlt) hb (Nat.le_refl _)
      subst hA
      have HX := Lib.hid (numbersOf_get b rs hlt)
      have hk5 : k ≤ 100000 := by have := HLL.out; omega
      have HK5 := Lib.hid hk5
      obtain ⟨X, hX⟩ : ∃ X, X = startOf b rs k := ⟨_, rfl⟩
      obtain ⟨Y, hY⟩ : ∃ Y, Y = startOf b rs (k + 1) := ⟨_, rfl⟩
      rw [← hX] at HX c0
      rw [← hY] at c1
      have HBA := Lib.hid (fun o1 o2 => alloc2_below wr o1 o2)
      have HHA := Lib.hid (fun o1 o2 => hh.only (Only.of_below (K := fun _ => False) (alloc2_below wr o1 o2)) (fun _ => id))
      have HQL : Hid (∀ o1 o2, q < ((wr.alloc o1).alloc o2).heap.size) := Lib.hid (fun o1 o2 => by have := (alloc2_below wr o1 o2).size; have := HB2.out.size; have := hb.size; have := HQ.out; omega)
      clear hh hg hb hX hY
      go_wp2_with (first
        | (at_builtin
           refine wpList_appHC (n := k) (m := 1) (ys := [.int .i64 (X : Int)]) (by rfl) _ _ 41 3 (by rfl) Tryz.underlying41 hi hz0 hz1 hz2 (by rfl) (by omega) (by rfl) (HHA.out _ _) (HQL.out _ _) (by rfl) (by rfl) (one_cell2 _ _ _ _) (one_int _ _) (by have := HK5.out; omega) (by have := HK5.out; omega) ?_
           intro g5 v5 w5 ho5 hO5 hg5
           have HY : Hid (∀ v11, v11 = .int .i64 ((k + 1 : Nat) : Int) → NmL w2 q (numbersOf b rs) v5 v11 w5) := Lib.hid (fun v11 h11 => nm_next HX.out HB.out (by exact HBA.out _ _) ho5 hO5 HG.out hg5 v11 h11)
           clear ho5 hO5 hg5))
      go_roundw
      case rel => first | exact HY.out _ (by go_num) | ((repeat apply Exists.intro); exact ⟨HY.out _ (by go_num), rfl⟩)
      case measure => simp [intOf]; omega
    · have hkl : k = rs.length := by omega
      subst hkl
      have hlti : ¬ (rs.length : Int) < (rs.length : Int) := by omega
      rw [List.take_of_length_le (by rw [HN.out]; exact Nat.le_refl _)] at hh
      obtain ⟨A3, cap3, hv3, hc3, _⟩ := hh.slice
      subst hv3
      have HY : Hid (NmT w (numbersOf b rs) (.returned (.slice A3 rs.length cap3)) wr) := Lib.hid ⟨A3, cap3, by rw [HN.out], hh.rd.1, by rw [HN.out]; exact hc3, HB2.out.trans (hb.mono HB2.out.size)⟩
      clear hh hg hb
      go_wp2_with fail
      go_ret
      exact HY.out
end

section
open Go.RowKit

theorem RdP.val {w w' : World} {B C k b o : Nat} {l : List (Nat × Nat)} {x : Nat × Nat} (h : RdP w B (some ⟨b, o, none⟩) l) (hx : l[k]? = some x) (hb : Below C w w') (hC : B ≤ C) : w'.cell? ⟨b, o + k * 2 + 1, none⟩ = some (.int .i64 (x.2 : Int)) := by
  obtain ⟨b', o', e, _, c1⟩ := h.at_ hx hb hC
  injection e with e
  injection e with e1 e2
  subst e1 e2
  exact c1
end

section
open Go.RowKit

theorem infoPl : (Tryz.prog.info? 134).map (fun i => (i.zero, i.size, i.bytes)) = some (some (.agg #[.int .i64 0, .int .i64 0]), 2, 16) := by kernel_rfl
/-- what Append answers -/
def ApT (w : World) (B q p g d b s : Nat) (rs : List (List UInt8)) (r : List UInt8) (e : Ending) (w' : World) : Prop :=
  e = .returned (.tuple #[.int .i64 ((b + (bytesOf rs).length : Nat) : Int), .int .i64 0]) ∧ ∃ g' d', Wl w' B q p g' d' b s [] (rs ++ [r]) ∧ Only (fun k => k = q ∨ k = p ∨ k = g ∨ k = d) w w' ∧ (g' = g ∨ w.heap.size ≤ g') ∧ (d' = d ∨ w.heap.size ≤ d')
theorem alloc_size (w : World) (o : Obj) : (w.alloc o).heap.size = w.heap.size + 1 := by simp
theorem Dk.glt {w : World} {B p g b s : Nat} {l : List UInt8} (h : Dk w B p g b s l) : g < w.heap.size := h.dlt
theorem wl_push {w w3 w4 w5 : World} {B q p g d g' d' b s n5 cap5 : Nat} {o : Obj} {A5 : Option Addr} {pre : List (Nat × Nat)} {rs : List (List UInt8)} {r : List UInt8} (h : Wl w B q p g d b s pre rs) (hB : B ≤ w.heap.size) (h1 : 1 ≤ r.length ∧ r.length ≤ 4096) (hb : Below w.heap.size w w3)
    (hd4 : Dk w4 B p g' b s (bytesOf rs ++ frameL r)) (hO4 : Only (fun k => k = p ∨ k = g) w3 w4) (hg : g' = g ∨ w3.heap.size ≤ g')
    (h5 : HeldC w5 q d' 2 (.slice A5 n5 cap5) (rs.length + 1) (placeV (placesOf b rs) ++ [.int .i64 ((b + (bytesOf rs).length : Nat) : Int), .int .i64 ((b + (bytesOf rs).length + (r.length + 5) : Nat) : Int)]))
    (hO5 : Only (fun k => k = d ∧ k ≠ q) (w4.alloc o) w5) (hd : d' = d ∨ (w4.alloc o).heap.size ≤ d') :
    ApT w B q p g d b s rs r (.returned (.tuple #[.int .i64 ((b + (bytesOf rs).length : Nat) : Int), .int .i64 0])) (w5.setCell ⟨q, 1, none⟩ (.slice A5 n5 cap5)) ∧ w5.frozen? ⟨q, 1, none⟩ = false ∧ ∃ v, w5.cell? ⟨q, 1, none⟩ = some v := by
  have hs1 := hb.size
  have hs2 := hO4.size
  have hs3 := alloc_size w4 o
  have hs4 := hO5.size
  have hql := h.lt
  have hdl := h.dlt
  have hgl := h.disk.dlt
  have hpl := h.disk.lt
  have hg'l := hd4.dlt
  obtain ⟨hqp, hqg, hdp, hdg⟩ := h.ne
  have hqg' : q ≠ g' := by omega
  have hdg' : d ≠ g' := by omega
  obtain ⟨A, cap, hx, _⟩ := h.box
  have hq3 := (hb.block q hql).trans hx
  have hq4 := (hO4.block q (by omega) (by omega)).trans hq3
  have hq5 := (hO5.block q (by omega) (by omega)).trans (((alloc_below w4 o).block q (by omega)).trans hq4)
  have hlen := h5.rd.2
  subst hlen
  have hw := Only.set w5 q 1 (.slice A5 (rs.length + 1) cap5)
  have hsm := hd4.small
  rw [List.length_append, frameL_len] at hsm
  have hbl := bytesOf_len rs
  have hd5 : Dk w5 B p g' b s (bytesOf rs ++ frameL r) := (hd4.below (alloc_below w4 o)).only hO5 (by omega) (by omega)
  have hd6 := hd5.only hw (by omega) (by omega)
  refine ⟨⟨rfl, g', d', ⟨⟨A5, cap5, ?_, ?_⟩, ?_, ⟨h.ge.1, by have := h.ge.2; omega⟩, ⟨hqp, hqg', ?_, ?_⟩, (fun x hx => by cases hx), fun x hx => ?_, ?_⟩, ?_, (by omega), (by omega)⟩, ?_⟩
  · rw [List.length_nil, Nat.zero_add, List.length_append, List.length_singleton]
    simp [World.setCell, Array.getElem?_modify, hq5]
  · rw [List.length_nil, Nat.zero_add, List.length_append, List.length_singleton, List.nil_append, placesOf_app, placeV_app]
    exact h5.only hw (fun hne => hne)
  · rw [bytesOf_app, bytesOf_one]
    exact hd6
  · rcases hd with rfl | hd
    · exact hdp
    · omega
  · rcases hd with rfl | hd
    · exact hdg'
    · omega
  · rcases List.mem_append.1 hx with hx | hx
    · exact h.recs x hx
    · rw [List.mem_singleton.1 hx]; exact h1
  · rw [List.length_nil, List.length_append, List.length_singleton]
    omega
  · have e1 : Only (fun k => k = q ∨ k = p ∨ k = g ∨ k = d) w w3 := Only.of_below hb
    have e2 : Only (fun k => k = q ∨ k = p ∨ k = g ∨ k = d) w3 (w4.alloc o) := hO4.trans (Only.of_below (K := fun k => k = p ∨ k = g) (alloc_below w4 o)) (fun _ _ e => e) |>.more (fun j _ e => by rcases e with e | e <;> simp [e])
    have e3 : Only (fun k => k = q ∨ k = p ∨ k = g ∨ k = d) (w4.alloc o) w5 := hO5.more (fun j _ e => by simp [e.1])
    have e4 : Only (fun k => k = q ∨ k = p ∨ k = g ∨ k = d) w5 _ := hw.more (fun j _ e => .inl e)
    exact ((e1.trans e2 (fun _ _ e => e)).trans e3 (fun _ _ e => e)).trans e4 (fun _ _ e => e)
  · exact ⟨by simp [World.frozen?, hq5], _, (box2 hq5).2⟩
theorem two_cells (w : World) (x y : Value) (t : TypeId) (j : Nat) (u : Value) (h : [x, y][j]? = some u) : (w.alloc (.cells #[x, y] t)).cell? ((⟨w.heap.size, 0, none⟩ : Addr).add j) = some u := by
  have hb := box2 (heap_alloc_new w (.cells #[x, y] t))
  match j with
  | 0 => simp at h; subst h; exact hb.1
  | 1 => simp at h; subst h; exact hb.2
  | j + 2 => simp at h
theorem two_ints (a b : Int) : ∀ u ∈ [Value.int .i64 a, .int .i64 b], u.oneCell' = true := by
  intro u hu
  simp at hu
  rcases hu with rfl | rfl <;> rfl
set_option maxRecDepth 100000 in
set_option maxHeartbeats 4000000 in
theorem wappend_yes {w : World} {B q p g d b s : Nat} {pre : List (Nat × Nat)} {rs : List (List UInt8)} (h : Wl w B q p g d b s pre rs) (hB : B ≤ w.heap.size) (r : List UInt8) (A : Option Addr) (n cap : Nat) (hn : r.length = n) (h1 : 1 ≤ r.length ∧ r.length ≤ 4096) (hr : RdB w w.heap.size A r) (hroom : b + (bytesOf rs).length + (r.length + 5) ≤ 100000) :
    Calls Tryz.prog 94 #[.pointer (some ⟨q, 0, none⟩), .slice A n cap] w (ApT w B q p g d b s rs r) := by
  subst hn
  obtain ⟨i0, hi, hz0, hz1, hz2⟩ := info_parts infoPl
  have HC := h.cells
  have HD := Lib.hid h.disk
  have HH := Lib.hid (held_any h)
  have HR := Lib.hid hr
  have H1 := Lib.hid h1
  have HBB := Lib.hid hB
  have HROOM := Lib.hid hroom
  have HNE := Lib.hid h.ne
  have HQ := Lib.hid h.lt
  have HPU := Lib.hid (fun (w3 w4 w5 : World) (g' d' n5 cap5 : Nat) (o : Obj) (A5 : Option Addr) hb => wl_push (w3 := w3) (w4 := w4) (w5 := w5) (g' := g') (d' := d') (n5 := n5) (cap5 := cap5) (o := o) (A5 := A5) h hB h1 hb)
  have hli : (r.length : Int) ≤ 4096 := by omega
  have hli1 : 1 ≤ (r.length : Int) := by omega
  have hrl : rs.length ≤ 100000 := by have := h.few; omega
  have HRL := Lib.hid hrl
  obtain ⟨N, hN⟩ : ∃ N, N = b + (bytesOf rs).length := ⟨_, rfl⟩
  have HN := Lib.hid hN
  have hNi : (N : Int) ≤ 100000 := by omega
  clear hr h1 hB hroom h hrl hN
  go_enter Tryz.func94, Tryz.ntmps94
  go_wp2_with (first
    | (go_at_call 98; refine HH.out.mono ?_; rintro e w2 ⟨A2, cap2, rfl, hh2, hb⟩
       have HB2 := Lib.hid hb
       have HH2 := Lib.hid hh2
       have HS0 : Hid (∀ W : World, W.heap = w2.heap → W.cell? ⟨q, 0, none⟩ = some (.pointer (some ⟨p, 0, none⟩))) := Lib.hid fun W e => (World.cell?_of_block (by rw [e])).trans (HC.out _ hb)
       clear hb hh2))
  have HRd : Hid (RdB w2.drew w2.drew.heap.size A r) := Lib.hid ((HR.out.below (HB2.out.trans ((drew_below w2).mono HB2.out.size)) (Nat.le_refl _)).more HB2.out.size)
  go_region_held3 (fun W => W.cell? ⟨q, 0, none⟩ = some (.pointer (some ⟨p, 0, none⟩)))
    (first
      | exact HS4.out _ rfl
      | exact HS3.out _ rfl
      | exact HS0.out _ rfl)
    (first
    | (go_at_call 134; refine (frame_any r A _ _ rfl H1.out.1 H1.out.2 _ HRd.out).mono ?_; rintro e w3 ⟨g3, cap3, rfl, ho3, hb⟩
       have HB23 := Lib.hid (below_drew hb)
       have hb := HB2.out.trans ((below_drew hb).mono HB2.out.size)
       have HB3 := Lib.hid hb
       have HO3 := Lib.hid ho3
       have HS3 : Hid (∀ W : World, W.heap = w3.heap → W.cell? ⟨q, 0, none⟩ = some (.pointer (some ⟨p, 0, none⟩))) := Lib.hid fun W e => (World.cell?_of_block (by rw [e])).trans (HC.out _ hb)
       clear hb ho3)
    | (go_at_call 133; refine (append_at (HD.out.below HB3.out) (by have := HB3.out.size; have := HBB.out; omega) (frameL r) (some ⟨g3, 0, none⟩) (r.length + 5) cap3 rfl HO3.out.rd (by have := HROOM.out; rw [frameL_len]; omega) (N : Int) (by rw [HN.out]) (bytesOf rs ++ frameL r) rfl).mono ?_; rintro e w4 ⟨rfl, g', hd4, hO4, hg4⟩
       have HD4 := Lib.hid hd4
       have HO4 := Lib.hid hO4
       have HG4 := Lib.hid hg4
       have HQ3 : Hid (q < w3.heap.size) := Lib.hid (by have := HB3.out.size; have := HQ.out; omega)
       have HS4 : Hid (∀ W : World, W.heap = w4.heap → W.cell? ⟨q, 0, none⟩ = some (.pointer (some ⟨p, 0, none⟩))) := Lib.hid fun W e => by
         obtain ⟨n1, n2, _, _⟩ := HNE.out
         exact (World.cell?_of_block (by rw [e]; exact hO4.block q HQ3.out (by omega))).trans (HS3.out w3 rfl)
       clear hd4 hO4 hg4)
    | fail)
  have HHA : Hid (∀ o, HeldC (w4.alloc o) q d 2 (.slice A2 rs.length cap2) rs.length (placeV (placesOf b rs))) := Lib.hid fun o => by
    obtain ⟨n1, n2, n3, n4⟩ := HNE.out
    exact ((HH2.out.only (Only.of_below (K := fun _ => False) HB23.out) (fun _ => id)).only HO4.out (fun _ e => by rcases e with e | e <;> omega)).only (Only.of_below (K := fun _ => False) (alloc_below w4 o)) (fun _ => id)
  have HQA : Hid (∀ o, q < (w4.alloc o).heap.size) := Lib.hid fun o => by have := alloc_size w4 o; have := HO4.out.size; have := HQ3.out; omega
  go_wp2_with (at_builtin
               refine wpList_appHC (n := rs.length) (m := 1) (ys := [.int .i64 (N : Int), .int .i64 ((N : Int) + 5 + (r.length : Int))]) (by rfl) _ _ 128 134 (by rfl) Tryz.underlying128 hi hz0 hz1 hz2 (by rfl) (by omega) (by rfl) (HHA.out _) (HQA.out _) (by rfl) (by rfl) (two_cells _ _ _ _) (two_ints _ _) (by have := HRL.out; omega) (by have := HRL.out; omega) ?_
               intro d5 v5 w5 ho5 hO5 hd5
               obtain ⟨A5, cap5, hv5, _⟩ := ho5.slice
               subst hv5
               have HZ : Hid (∀ m, m = rs.length + 1 → ApT w B q p g d b s rs r (.returned (.tuple #[.int .i64 (N : Int), .int .i64 0])) (w5.setCell ⟨q, 1, none⟩ (.slice A5 m cap5)) ∧ w5.frozen? ⟨q, 1, none⟩ = false ∧ ∃ v, w5.cell? ⟨q, 1, none⟩ = some v) := Lib.hid (fun m hm => by
                 subst hm
                 have e1 : (N : Int) = ((b + (bytesOf rs).length : Nat) : Int) := by rw [HN.out]
                 have e2 : (N : Int) + 5 + (r.length : Int) = ((b + (bytesOf rs).length + (r.length + 5) : Nat) : Int) := by rw [HN.out]; omega
                 rw [e2, e1] at ho5
                 rw [e1]
                 exact HPU.out w3 w4 w5 g' d5 _ cap5 _ A5 HB3.out HD4.out HO4.out HG4.out ho5 hO5 hd5)
               obtain ⟨_, z1, v1, y1⟩ := HZ.out _ rfl
               clear ho5 hO5 hd5)
  go_ret2
  exact (HZ.out _ rfl).1
end
end Go.Proofs.YtkohppalfcalbaaGreat

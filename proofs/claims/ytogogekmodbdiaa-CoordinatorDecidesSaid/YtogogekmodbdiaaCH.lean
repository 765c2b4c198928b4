/- The coordinator: open and Open of a disk on which records lie. -/
import Derived.Test.YtogogekmodbdiaaCG
namespace Go.Proofs.Ytogogekmodbdiaa
open Go.RowKit

/-- what Numbers answers; its row is new -/
def NmU (w : World) (ns : List Nat) (e : Ending) (w' : World) : Prop := ∃ A cap, e = .returned (.slice A ns.length cap) ∧ RdC w' w'.heap.size A (intsV ns) ∧ ns.length ≤ cap ∧ Below w.heap.size w w' ∧ ∀ a, A = some a → w.heap.size ≤ a.block
set_option maxRecDepth 100000 in
set_option maxHeartbeats 4000000 in
theorem numbers_new {w : World} {B q p g d b s : Nat} {pre : List (Nat × Nat)} {rs : List (List UInt8)} (h : Wl w B q p g d b s pre rs) : Calls Try.prog 38 #[.pointer (some ⟨q, 0, none⟩)] w (NmU w (numbersOf b rs)) := by
  obtain ⟨i0, hi, hz0, hz1, hz2⟩ := info_parts infoI
  have HH := Lib.hid (held_any h)
  have hll : rs.length ≤ 100000 := by have := h.few; omega
  have HQ := Lib.hid h.lt
  have HN := Lib.hid (numbersOf_len b rs)
  have hri : (rs.length : Int) ≤ 100000 := by omega
  have HLL := Lib.hid hll
  clear h hll
  go_enter Try.func38, Try.ntmps38
  go_wp2_with (first
    | (go_at_call 59; refine HH.out.mono ?_; rintro e w2 ⟨A2, cap2, rfl, hh2, hb⟩
       have HB2 := Lib.hid hb
       have HP2 := Lib.hid hh2.rd.1.places
       clear hb hh2))
  go_loopw [3, 11] (fun v3 v11 wr => NmL w2 q (numbersOf b rs) v3 v11 wr) (fun _ v11 _ => rs.length - (intOf v11).toNat)
  case atStart => exact ⟨0, q, rfl, Nat.zero_le _, .inl ⟨rfl, rfl, rfl, rfl⟩, .inl rfl, Below.refl _ _⟩
  case round =>
    obtain ⟨k, g3, rfl, hk, hh, hg, hb⟩ := hrel
    rw [HN.out] at hk
    have HHH := Lib.hid hh
    have HG := Lib.hid hg
    have HB := Lib.hid hb
    by_cases hlt : k < rs.length
    · have hlti : (k : Int) < (rs.length : Int) := by omega
      obtain ⟨b0, o0, hA, c0, c1⟩ := HP2.out.at_ (placesOf_some b rs hlt) hb (Nat.le_refl _)
      subst hA
      have HX := Lib.hid (numbersOf_get b rs hlt)
      have hk5 : k ≤ 100000 := by have := HLL.out; omega
      have HK5 := Lib.hid hk5
      obtain ⟨X, hX⟩ : ∃ X, X = startOf b rs k := ⟨_, rfl⟩
      obtain ⟨Y, hY⟩ : ∃ Y, Y = startOf b rs (k + 1) := ⟨_, rfl⟩
      rw [← hX] at HX c0
      rw [← hY] at c1
      have HBA := Lib.hid (fun o1 o2 => alloc2_below wr o1 o2)
      have HHA := Lib.hid (fun o1 o2 => hh.only (Only.of_below (K := fun _ => False) (alloc2_below wr o1 o2)) (fun _ => id))
      have HQL : Hid (∀ o1 o2, q < ((wr.alloc o1).alloc o2).heap.size) := Lib.hid (fun o1 o2 => by have := (alloc2_below wr o1 o2).size; have := HB2.out.size; have := hb.size; have := HQ.out; omega)
      clear hh hg hb hX hY
      go_wp2_with (first
        | (at_builtin
           refine wpList_appHC (n := k) (m := 1) (ys := [.int .i64 (X : Int)]) (by rfl) _ _ 22 3 (by rfl) Try.underlying22 hi hz0 hz1 hz2 (by rfl) (by omega) (by rfl) (HHA.out _ _) (HQL.out _ _) (by rfl) (by rfl) (one_cell2 _ _ _ _) (one_int _ _) (by have := HK5.out; omega) (by have := HK5.out; omega) ?_
           intro g5 v5 w5 ho5 hO5 hg5
           have HY : Hid (∀ v11, v11 = .int .i64 ((k + 1 : Nat) : Int) → NmL w2 q (numbersOf b rs) v5 v11 w5) := Lib.hid (fun v11 h11 => nm_next HX.out HB.out (by exact HBA.out _ _) ho5 hO5 HG.out hg5 v11 h11)
           clear ho5 hO5 hg5))
      go_roundw
      case rel => first | exact HY.out _ (by go_num) | ((repeat apply Exists.intro); exact ⟨HY.out _ (by go_num), rfl⟩)
      case measure => simp [intOf]; omega
    · have hkl : k = rs.length := by omega
      subst hkl
      have hlti : ¬ (rs.length : Int) < (rs.length : Int) := by omega
      rw [List.take_of_length_le (by rw [HN.out]; exact Nat.le_refl _)] at hh
      obtain ⟨A3, cap3, hv3, hc3, _⟩ := hh.slice
      subst hv3
      have HY : Hid (NmU w (numbersOf b rs) (.returned (.slice A3 rs.length cap3)) wr) := Lib.hid ⟨A3, cap3, by rw [HN.out], hh.rd.1, by rw [HN.out]; exact hc3, HB2.out.trans (hb.mono HB2.out.size), fun a ha => by
        rcases hh with ⟨e, _⟩ | ⟨hne, o, cap, e, _⟩
        · injection e with e1 _ _; rw [e1] at ha; cases ha
        · injection e with e1 _ _
          rw [e1] at ha
          injection ha with ha
          subst ha
          show w.heap.size ≤ g3
          rcases hg with hg | hg
          · exact absurd hg hne
          · exact Nat.le_trans HB2.out.size hg⟩
      clear hh hg hb
      go_wp2_with fail
      go_ret
      exact HY.out

/-- what open answers on a disk with records -/
def OpnR (w : World) (B p g node b : Nat) (ks : List Rk) (e : Ending) (w' : World) : Prop := ∃ S : CoS, e = .returned (.tuple #[.pointer (some ⟨S.c, 0, none⟩), .int .i64 0]) ∧ Co w' B S ∧ S.node = node ∧ S.inc = (redoA ks).1 ∧ S.cnt = 0 ∧ S.tks = 0 ∧ S.T = (redoA ks).2 ∧ S.ov = .slice none 0 0 ∧ S.os = [] ∧ S.p = p ∧ S.b = b ∧ S.rs = (ks ++ [Rk.op (redoA ks).1]).map Rk.b ∧ S.s = S.b + (bytesOf S.rs).length ∧ Only (fun k => k = p ∨ k = g) w w'
theorem redo1_le {p : Nat × List Te} {r : Rk} : (redo1 p r).1 ≤ p.1 + 1 ∧ (redo1 p r).2.length ≤ p.2.length + 1 := by
  cases r with
  | op i => exact ⟨Nat.le_refl _, Nat.le_succ _⟩
  | de x y =>
    refine ⟨Nat.le_succ _, ?_⟩
    show (putT p.2 _).length ≤ _
    unfold putT
    rw [List.length_append]
    have := dropT_len_le p.2 x
    simp only [List.length_cons, List.length_nil]
    omega
  | fo x => exact ⟨Nat.le_succ _, Nat.le_succ_of_le (dropT_len_le p.2 x)⟩
theorem redoA_le (ks : List Rk) : (redoA ks).1 ≤ ks.length ∧ (redoA ks).2.length ≤ ks.length := by
  suffices H : ∀ (ks : List Rk) (p : Nat × List Te), (ks.foldl redo1 p).1 ≤ p.1 + ks.length ∧ (ks.foldl redo1 p).2.length ≤ p.2.length + ks.length by
    have := H ks (0, [])
    simpa [redoA] using this
  intro ks
  induction ks with
  | nil => intro p; exact ⟨Nat.le_refl _, Nat.le_refl _⟩
  | cons k ks ih =>
    intro p
    have h1 := ih (redo1 p k)
    have h2 := redo1_le (p := p) (r := k)
    simp only [List.foldl_cons, List.length_cons]
    omega
theorem bytes_room {ks : List Rk} (hok : ∀ r ∈ ks, r.ok) : (bytesOf (ks.map Rk.b)).length ≤ ks.length * 905 := by
  induction ks with
  | nil => simp [bytesOf_nil]
  | cons k ks ih =>
    have h1 := ih fun r hr => hok r (by simp [hr])
    have h2 := (Rk.b_len (hok k (by simp))).2
    rw [List.map_cons, bytesOf_cons, List.length_append, frameL_len, List.length_cons]
    omega
/-- at the head of open's loop -/
def OrL (w3 : World) (B c node q p g d b s m : Nat) (ks : List Rk) (v32 : Value) (wr : World) : Prop := ∃ j : Nat, v32 = .int .i64 (j : Int) ∧ j ≤ ks.length ∧ Co wr B ⟨c, node, (redoA (ks.take j)).1, 0, 0, q, p, g, d, b, s, [], ks.map Rk.b, m, (redoA (ks.take j)).2, .slice none 0 0, []⟩ ∧ Only (fun k => k = c ∨ k = m) w3 wr
theorem opnR_end {w w1 w3 wr w9 : World} {B p g node b q d c m s s' I : Nat} {ks : List Rk} {IR : Obj} {e : Ending} (hI : I = (redoA ks).1) (hq : w.heap.size ≤ q) (hd : w.heap.size ≤ d) (hO1 : Only (fun k => k = p) w w1) (hb3 : Below w1.heap.size w1 w3) (hc : w1.heap.size ≤ c) (hm : w1.heap.size ≤ m) (hO3 : Only (fun k => k = c ∨ k = m) w3 wr)
    (hco : Co wr B ⟨c, node, (redoA ks).1, 0, 0, q, p, g, d, b, s, [], ks.map Rk.b, m, (redoA ks).2, .slice none 0 0, []⟩) (hs : s' = b + (bytesOf (ks.map Rk.b ++ [rowB (recV 0 [(I : Int)])])).length) (h9 : WrT (wr.alloc IR) B q p g d b s' (ks.map Rk.b) (rowB (recV 0 [(I : Int)])) e w9) :
    OpnR w B p g node b ks (.returned (.tuple #[.pointer (some ⟨c, 0, none⟩), .int .i64 0])) w9 := by
  obtain ⟨_, g', d', hw9, hO9, hg', hd'⟩ := h9
  have hrs : ks.map Rk.b ++ [rowB (recV 0 [(I : Int)])] = (ks ++ [Rk.op (redoA ks).1]).map Rk.b := by rw [List.map_append, hI]; rfl
  rw [hrs] at hw9 hs
  have hc9 := (hco.below (alloc_below wr IR)).logged hw9 hO9 hg' hd'
  refine ⟨_, rfl, hc9, rfl, rfl, rfl, rfl, rfl, rfl, rfl, rfl, rfl, rfl, hs, ?_⟩
  have z1 := hO1.size
  refine ((((hO1.more (L := fun k => k = p ∨ k = g) fun j _ hj => .inl hj).trans (Only.of_below (K := fun _ => False) hb3) fun _ _ h => h.elim).trans hO3 fun j hj h => ?_).trans (Only.of_below (K := fun _ => False) (alloc_below wr IR)) fun _ _ h => h.elim).trans hO9 fun j hj h => ?_
  · omega
  · omega
set_option maxRecDepth 100000 in
set_option maxHeartbeats 32000000 in
theorem open13_any {w : World} {B p g b s : Nat} {ks : List Rk} (h : Dk w B p g b s (bytesOf (ks.map Rk.b))) (hB : B ≤ w.heap.size) (hok : ∀ r ∈ ks, r.ok) (hlen : ks.length ≤ 100) (hb : b ≤ 1000) {node : Nat} (hnod : node < 16) :
    Calls Try.prog 23 #[.pointer (some ⟨p, 0, none⟩), .int .i64 (node : Int)] w (OpnR w B p g node b ks) := by
  have HOP := Lib.hid (open_any h hB (ks.map Rk.b) [] (List.append_nil _).symm rfl (fun r hr => by
    obtain ⟨k, hk, rfl⟩ := List.mem_map.1 hr
    have := Rk.b_len (hok k hk)
    omega))
  have HBB := Lib.hid hB
  have HND := Lib.hid hnod
  have HOK := Lib.hid hok
  have HROOM : Hid (b + (bytesOf (ks.map Rk.b)).length + 905 ≤ 100000) := Lib.hid (by have := bytes_room hok; omega)
  have hmm := @run_makeMap Try.prog
  obtain ⟨N, hN⟩ : ∃ N, ks.length = N := ⟨_, rfl⟩
  have HN := Lib.hid hN
  rw [hN] at hlen
  have hNi : (N : Int) ≤ 100 := by omega
  have HNL := Lib.hid hlen
  clear h hB hnod hok hN hlen hb
  go_enter Try.func23, Try.ntmps23
  go_wp2_with (first
    | (go_at_call 37; refine HOP.out.mono ?_; rintro e w1 ⟨q, d, rfl, hw, hq, hd, hO1⟩
       have HW1 := Lib.hid hw
       have HQD := Lib.hid (And.intro hq (And.intro hd hO1))
       have HM : Hid (MapT (w1.alloc (.map #[] 0)) w1.heap.size []) := Lib.hid MapT.new
       obtain ⟨CO, hCO⟩ : ∃ CO, CO = Obj.cells #[.int .i64 (node : Int), .pointer (some ⟨q, 0, none⟩), .int .i64 0, .int .i64 0, .int .i64 0, .map (some w1.heap.size), .slice none 0 0] 63 := ⟨_, rfl⟩
       have hb2 := alloc2_below w1 (.map #[] 0) CO
       have hbx := heap_alloc_new (w1.alloc (.map #[] 0)) CO
       rw [show (w1.alloc (.map #[] 0)).heap.size = w1.heap.size + 1 by simp] at hbx
       have hm2 := HM.out.kept ((alloc_below (w1.alloc (.map #[] 0)) CO).block w1.heap.size (by simp))
       rw [hCO] at hbx hm2 hb2
       have HB2 := Lib.hid hb2
       have hw2 := HW1.out.below hb2
       have l1 := HW1.out.lt
       have l2 := HW1.out.disk.lt
       have l3 := HW1.out.disk.glt
       have l4 := HW1.out.dlt
       have lB : B ≤ w1.heap.size := Nat.le_trans HBB.out (HQD.out.2.2.size)
       have HCO : Hid (Co _ B ⟨w1.heap.size + 1, node, 0, 0, 0, q, p, g, d, b, b + (bytesOf (ks.map Rk.b)).length, [], ks.map Rk.b, w1.heap.size, [], .slice none 0 0, []⟩) := Lib.hid ⟨hbx, hw2, hm2, OwnO.nil _ _, ⟨by show B ≤ (w1.heap.size + 1); omega, by show B ≤ w1.heap.size; omega⟩, by show (w1.heap.size + 1) ≠ q ∧ (w1.heap.size + 1) ≠ p ∧ (w1.heap.size + 1) ≠ g ∧ (w1.heap.size + 1) ≠ d; omega, by show w1.heap.size ≠ q ∧ w1.heap.size ≠ p ∧ w1.heap.size ≠ g ∧ w1.heap.size ≠ d; omega, fun k hk => by simp [Value.ownBlock] at hk, HND.out⟩
       clear hw hq hd hO1 hbx hCO hb2 hm2 hw2 l1 l2 l3 l4 lB)
    | (go_at_call 38; refine (numbers_new HCO.out.log).mono ?_; rintro e w3 ⟨A3, c3, rfl, hr3, hc3, hb3, ha3⟩
       rw [numbersOf_len, List.length_map, HN.out] at hc3 ⊢
       have HB3 := Lib.hid (HB2.out.trans (hb3.mono HB2.out.size))
       have HCO3 := Lib.hid (HCO.out.below hb3)
       have HR3 := Lib.hid hr3
       have hc3i : (N : Int) ≤ (c3 : Int) := by omega
       have HA3 : Hid (∀ a, A3 = some a → a.block ≠ (w1.heap.size + 1) ∧ a.block ≠ w1.heap.size) := Lib.hid fun a ha => by
         have h1 := ha3 a ha
         have h2 := HCO.out.lt
         have h3 := HCO.out.map.lt
         simp only at h2 h3
         omega
       clear hb3 hr3 hc3 ha3))
  go_loopw [32] (fun v32 wr => OrL w3 B (w1.heap.size + 1) node q p g d b (b + (bytesOf (ks.map Rk.b)).length) w1.heap.size ks v32 wr) (fun v32 _ => N - (intOf v32).toNat)
  case atStart => exact ⟨0, rfl, Nat.zero_le _, HCO3.out, Only.of_below (Below.refl _ _)⟩
  case round =>
    obtain ⟨j, rfl, hj, hco, hO⟩ := hrel
    rw [HN.out] at hj
    by_cases hlt : j < N
    · have hlti : (j : Int) < (N : Int) := by omega
      obtain ⟨r, hr⟩ : ∃ r, ks[j]? = some r := ⟨_, List.getElem?_eq_getElem (by rw [HN.out]; exact hlt)⟩
      have hrb : (ks.map Rk.b)[j]? = some r.b := by rw [List.getElem?_map, hr]; rfl
      have hrok := HOK.out r (List.mem_of_getElem? hr)
      have hnum : (intsV (numbersOf b (ks.map Rk.b)))[j]? = some (.int .i64 ((startOf b (ks.map Rk.b) j : Nat) : Int)) := by unfold intsV; rw [List.getElem?_map, numbersOf_get b _ (by rw [List.length_map, HN.out]; exact hlt)]; rfl
      obtain ⟨b3, o3, hA3, hb3l, hc3⟩ := HR3.out (fun e => by rw [e] at hnum; simp at hnum)
      have y0 := hc3 j _ hnum
      have hne3 := HA3.out _ hA3
      subst hA3
      obtain ⟨ST, hST⟩ : ∃ ST : Int, ST = ((startOf b (ks.map Rk.b) j : Nat) : Int) := ⟨_, rfl⟩
      rw [← hST] at y0
      have y1 : wr.cell? ⟨b3, o3 + j, none⟩ = some (.int .i64 ST) := (World.cell?_of_block (a := ⟨b3, o3 + j, none⟩) (hO.block b3 hb3l (fun e => by simp only at hne3; omega))).trans y0
      have HRD := Lib.hid (wread_yes hco.log hrb ST hST)
      have HCO4 := Lib.hid hco
      have HO4 := Lib.hid hO
      have HRK := Lib.hid hrok
      have hle := redoA_le (ks.take j)
      rw [List.length_take, HN.out] at hle
      have HLE : Hid ((redoA (ks.take j)).1 ≤ 100 ∧ (redoA (ks.take j)).2.length ≤ 100) := Lib.hid (by have := HNL.out; omega)
      have HNX : Hid (∀ v32 W, v32 = .int .i64 ((j + 1 : Nat) : Int) → Co W B ⟨w1.heap.size + 1, node, (redo1 ((redoA (ks.take j)).1, (redoA (ks.take j)).2) r).1, 0, 0, q, p, g, d, b, b + (bytesOf (ks.map Rk.b)).length, [], ks.map Rk.b, w1.heap.size, (redo1 ((redoA (ks.take j)).1, (redoA (ks.take j)).2) r).2, .slice none 0 0, []⟩ → Only (fun k => k = (w1.heap.size + 1) ∨ k = w1.heap.size) w3 W → OrL w3 B (w1.heap.size + 1) node q p g d b (b + (bytesOf (ks.map Rk.b)).length) w1.heap.size ks v32 W) := Lib.hid fun v32 W h32 h1 h2 => ⟨j + 1, h32, by rw [HN.out]; exact hlt, by rw [redoA_snoc hr]; exact h1, h2⟩
      clear hr hrb hrok hnum hb3l hc3 y0 hne3 hST hco hO hle hj hlt
      go_wp2_with (first
        | (go_at_call 39; refine HRD.out.mono ?_; rintro e w4 ⟨v4, rfl, ho4, hb4⟩
           obtain ⟨A4, c4, rfl, hc4⟩ := id ho4.2
           have HRB := Lib.hid ho4.rd
           have HB4 := Lib.hid hb4
           have HC4 := Lib.hid hc4
           clear ho4 hb4 hc4)
        | (go_at_call 40; refine (read13_yes r HRK.out A4 _ c4 rfl HC4.out w4 HRB.out).mono ?_; rintro e w5 ⟨v5, rfl, ho5, hb5⟩
           obtain ⟨A5, c5, rfl, hc5⟩ := id ho5.2
           have HB5 := Lib.hid (HB4.out.trans (hb5.mono HB4.out.size))
           have HO5 := Lib.hid ho5
           have HC5 := Lib.hid hc5
           clear ho5 hb5 hc5)
        | (go_at_call 41; refine (redo_any (HCO4.out.below HB5.out) (by have := HLE.out; show (redoA _).1 ≤ 65536; omega) (by have := HLE.out; show (redoA _).2.length < 1000; omega) r HRK.out A5 _ c5 rfl HC5.out HO5.out.rd (fun a ha => by
             have h1 := HO5.out.ge a.block (by rw [ha]; rfl)
             have h2 := HB4.out.size
             have h3 := HCO4.out.lt
             have h4 := HCO4.out.map.lt
             simp only at h3 h4 ⊢
             omega)).mono ?_; rintro e w6 ⟨rfl, hc6, hO6⟩
           have HC6 := Lib.hid hc6
           have HO6 := Lib.hid ((HO4.out.trans (Only.of_below (K := fun _ => False) HB5.out) fun _ _ h => h.elim).trans hO6 fun _ _ h => h)
           clear hc6 hO6))
      go_roundw
      case rel => first | exact HNX.out _ _ (by go_num) HC6.out HO6.out | ((repeat apply Exists.intro); exact ⟨HNX.out _ _ (by go_num) HC6.out HO6.out, rfl⟩)
      case measure => simp [intOf]; omega
    · have hjN : j = N := by omega
      have hlti : ¬ (j : Int) < (N : Int) := by omega
      have htk : ks.take j = ks := List.take_of_length_le (by rw [HN.out]; omega)
      rw [htk] at hco
      have hle := redoA_le ks
      rw [HN.out] at hle
      obtain ⟨I, hI⟩ : ∃ I, I = (redoA ks).1 := ⟨_, rfl⟩
      rw [← hI] at hco
      have hIi : (I : Int) ≤ 100 := by omega
      obtain ⟨c0, c1, c2, _, _, _, _⟩ := box7_ hco.box
      simp only at c0 c1 c2
      obtain ⟨IR, hIR⟩ : ∃ IR, IR = Obj.cells #[.int .i64 (I : Int)] 3 := ⟨_, rfl⟩
      have hb4 := alloc_below wr IR
      have hc4 := hco.below hb4
      have hri := rd_oneI wr (I : Int)
      rw [← hIR] at hri
      have HCF := Lib.hid (cforce_any hc4.log hc4.size hc4.lt (box7_ hc4.box).2.1 hc4.ne 0 [(I : Int)] (some ⟨wr.heap.size, 0, none⟩) 1 1 rfl (by omega) (by unfold i64ok; omega) (fun x hx => by rw [List.mem_singleton] at hx; subst hx; unfold i64ok; omega) (hri.more (by simp)) HROOM.out)
      have HEND : Hid (∀ w9 e, WrT (wr.alloc IR) B q p g d b (b + (bytesOf (ks.map Rk.b ++ [rowB (recV 0 [(I : Int)])])).length) (ks.map Rk.b) (rowB (recV 0 [(I : Int)])) e w9 → OpnR w B p g node b ks (.returned (.tuple #[.pointer (some ⟨w1.heap.size + 1, 0, none⟩), .int .i64 0])) w9) := Lib.hid fun w9 e h9 => opnR_end hI HQD.out.1 HQD.out.2.1 HQD.out.2.2 HB3.out (Nat.le_succ _) (Nat.le_refl _) hO (by rw [← hI]; exact hco) rfl h9
      rw [hIR] at HCF HEND
      clear hb4 hc4 hri hIR hco hO hle hI hj hlt hjN htk
      go_wp2_with (go_at_call 42; refine HCF.out.mono ?_; rintro e w9 h9
                   have he := h9.1
                   subst he
                   have HE := Lib.hid (HEND.out _ _ h9)
                   clear h9)
      refine bodyPost_ret (v := .tuple #[.pointer (some ⟨w1.heap.size + 1, 0, none⟩), .int .i64 0]) (by simp [results, Try.results23, go_sem]) rfl ?_
      exact HE.out
set_option maxRecDepth 100000 in
set_option maxHeartbeats 16000000 in
theorem Open13_any {w : World} {B p g b E : Nat} {ks : List Rk} (h : Dk w B p g b E (bytesOf (ks.map Rk.b))) (hE : E = b + (bytesOf (ks.map Rk.b)).length) (hB : B ≤ w.heap.size) (hok : ∀ r ∈ ks, r.ok) (hlen : ks.length ≤ 100) (hb : b ≤ 1000) {node : Nat} (hnod : node < 16) :
    Calls Try.prog 7 #[.pointer (some ⟨p, 0, none⟩), .int .i64 (node : Int)] w (OpnR w B p g node b ks) := by
  obtain ⟨L, hL⟩ : ∃ L, bytesOf (ks.map Rk.b) = L := ⟨_, rfl⟩
  rw [hL] at h hE
  have HL := Lib.hid hL
  have HD : Hid (∀ W, Below w.heap.size w W → Dk W B p g b E L) := Lib.hid fun W hb => h.below hb
  have HB := Lib.hid hB
  have HN := Lib.hid hnod
  have HK := Lib.hid (And.intro hok (And.intro hlen hb))
  have hn0 : ¬ (node : Int) < 0 := by omega
  have hn1 : (node : Int) < 16 := by omega
  have HEE := Lib.hid hE
  have HPW : Hid (∀ W, Below w.heap.size w W → Calls Try.prog 18 #[.pointer (some ⟨p, 0, none⟩), .int .i64 0] W (PwS W b E L)) := Lib.hid fun W hb => power_at (h.below hb) 0 (by unfold i64ok; omega) 0 E (by rw [show b + L.length - E + 1 = 1 by omega, pickZ_one]) (Nat.add_zero E).symm L (by rw [List.take_of_length_le (by omega)])
  clear h hB hnod hok hlen hb hL hE
  go_enter Try.func7, Try.ntmps7
  go_wp2_with (first
    | (go_at_call 21; refine (end_at (HD.out w (Below.refl _ _)) (E : Int) (by rw [HEE.out])).mono ?_; rintro e w1 ⟨rfl, k, rfl⟩
       have HB1 := Lib.hid (drewN_below w k))
    | (go_at_call 22; refine (safe_any (HD.out _ HB1.out)).mono ?_; rintro e w2 ⟨rfl, rfl⟩)
    | (go_at_call 18; refine (HPW.out _ HB1.out).mono ?_; rintro e w3 ⟨p', g', rfl, hd3, hb3⟩
       have HB3 := Lib.hid (HB1.out.trans (hb3.mono HB1.out.size))
       have HD3 := Lib.hid hd3
       have HS3 := Lib.hid hb3.size
       clear hd3 hb3)
    | (go_at_call 23; refine (open13_any (ks := ks) (by rw [HL.out]; exact HD.out _ HB4.out) (Nat.le_trans HB.out (Below.size HB4.out)) HK.out.1 HK.out.2.1 HK.out.2.2 HN.out).mono ?_; rintro e w5 ⟨S5, rfl, h1, h2, h3, h4, h5, h6, h7, h8, h9, h10, h11, h12, hO5⟩
       have HE : Hid (OpnR w B p g node b ks (.returned (.tuple #[.pointer (some ⟨S5.c, 0, none⟩), .int .i64 0])) w5) := Lib.hid ⟨S5, rfl, h1, h2, h3, h4, h5, h6, h7, h8, h9, h10, h11, h12, (Only.of_below HB4.out).trans hO5 fun _ _ h => h⟩
       clear h1 h2 h3 h4 h5 h6 h7 h8 h9 h10 h11 h12 hO5)
    | (go_at_call 23; refine (open13_any (ks := ks) (by rw [HL.out]; exact HD3.out) HS3.out HK.out.1 HK.out.2.1 HK.out.2.2 HN.out).mono ?_; rintro e w4 ⟨S, rfl, _, _, _, _, _, _, _, _, _, _, _, _, hO4⟩
       have hb4 : Below w.heap.size w3 w4 := hO4.below (Below.size HB3.out) (fun j hj => by
         have h1 := HD3.out.ge
         have h2 : (w.drewN k).heap.size = w.heap.size := rfl
         omega)
       have HB4 := Lib.hid (HB3.out.trans hb4)
       clear hO4 hb4))
  refine bodyPost_ret (v := .tuple #[.pointer (some ⟨S5.c, 0, none⟩), .int .i64 0]) (by simp [results, Try.results7, go_sem]) rfl ?_
  exact HE.out
end Go.Proofs.Ytogogekmodbdiaa

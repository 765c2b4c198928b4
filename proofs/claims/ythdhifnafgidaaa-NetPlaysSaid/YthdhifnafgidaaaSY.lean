/- The document's net: Take, Lose, Twice, Numbers, Same. -/
import Derived.Test.YthdhifnafgidaaaSX
namespace Go.Proofs.Ythdhifnafgidaaa
open Go.RowKit Go.Maps

theorem idxV_none {ws : List Wy} {x : Int} (h : idxW ws x = none) : idxV ws x = -1 := by unfold idxV; rw [h]; rfl
theorem idxV_some {ws : List Wy} {x : Int} {i : Nat} (h : idxW ws x = some i) : idxV ws x = (i : Int) := by unfold idxV; rw [h]; rfl
theorem idxW_get {ws : List Wy} {x : Int} {i : Nat} (h : idxW ws x = some i) : i < ws.length ∧ ∃ y, ws[i]? = some y ∧ (y.n : Int) = x := by
  unfold idxW at h
  rw [List.findIdx?_eq_some_iff_getElem] at h
  obtain ⟨h1, h2, _⟩ := h
  exact ⟨h1, ws[i], List.getElem?_eq_getElem h1, by simpa using h2⟩
def dropW (ws : List Wy) (i : Nat) : List Wy := ws.take i ++ ws.drop (i + 1)
/-- the document's block turned, and nothing else -/
def RfR (w : World) (b : Nat) (ws : List Wy) (s t lo : Nat) (w' : World) : Prop := ∃ A' cap', RfAt w' b A' cap' ws s t lo ∧ Only (· = b) w w'
theorem RfAt.bump {w : World} {b : Nat} {A : Option Addr} {cap : Nat} {ws : List Wy} {s t lo : Nat} (h : RfAt w b A cap ws s t lo) :
    RfAt (w.setCell ⟨b, 2, none⟩ (.int .i64 ((t + 1 : Nat) : Int))) b A cap ws s (t + 1) lo ∧ RfAt (w.setCell ⟨b, 3, none⟩ (.int .i64 ((lo + 1 : Nat) : Int))) b A cap ws s t (lo + 1) := by
  refine ⟨⟨(box4_set h.box _).2.2.1, h.cap, h.row.only (cellsY_head _) (Only.set w b 2 _) fun k hk => by rw [hk]; exact h.notI, fun y hy => ⟨(h.nod y hy).1.only (intsZ_head _) (Only.set w b 2 _) fun k hk => by rw [hk]; exact h.notI, (h.nod y hy).2⟩, h.few, h.most⟩,
    ⟨(box4_set h.box _).2.2.2, h.cap, h.row.only (cellsY_head _) (Only.set w b 3 _) fun k hk => by rw [hk]; exact h.notI, fun y hy => ⟨(h.nod y hy).1.only (intsZ_head _) (Only.set w b 3 _) fun k hk => by rw [hk]; exact h.notI, (h.nod y hy).2⟩, h.few, h.most⟩⟩
set_option maxRecDepth 100000 in
set_option maxHeartbeats 4000000 in
theorem rlose_no {w : World} {b : Nat} {A : Option Addr} {cap : Nat} {ws : List Wy} {s t lo : Nat} (h : RfAt w b A cap ws s t lo) {x : Int} (hx : idxW ws x = none) : Calls Try.prog 20 #[.pointer (some ⟨b, 0, none⟩), .int .i64 x] w (LooksL (.int .i64 121) w) := by
  have HF := Lib.hid (rfind_any h x)
  rw [idxV_none hx] at HF
  clear h hx
  go_enter Try.func20, Try.ntmps20
  go_wp2_with (go_at_call 12; refine HF.out.mono ?_; rintro e w2 ⟨rfl, rfl⟩)
  go_ret
  exact ⟨rfl, rfl⟩
set_option maxRecDepth 100000 in
set_option maxHeartbeats 4000000 in
theorem rlose_yes {w : World} {b : Nat} {A : Option Addr} {cap : Nat} {ws : List Wy} {s t lo : Nat} (h : RfAt w b A cap ws s t lo) (hlo : lo < 900) {x : Int} {i : Nat} (hx : idxW ws x = some i) : Calls Try.prog 20 #[.pointer (some ⟨b, 0, none⟩), .int .i64 x] w (fun e w' => e = .returned (.int .i64 0) ∧ RfR w b (dropW ws i) s t (lo + 1) w') := by
  have HF := Lib.hid (rfind_any h x)
  rw [idxV_some hx] at HF
  have hil := (idxW_get hx).1
  have HG := Lib.hid (rgone_any h hil)
  have hfew := h.few
  have hi0 : ¬ (i : Int) < 0 := by omega
  obtain ⟨hwc, hs1', _⟩ := plus_one (X := lo + 1) rfl (by omega)
  obtain ⟨SX, hSX⟩ : ∃ SX : Int, SX = ((lo + 1 : Nat) : Int) := ⟨_, rfl⟩
  rw [← hSX] at hwc
  have HE : Hid (∀ w2, GoneR w b (ws.take i ++ ws.drop (i + 1)) s t lo w2 → (w2.cell? ⟨b, 3, none⟩ = some (.int .i64 (lo : Int)) ∧ w2.frozen? ⟨b, 3, none⟩ = false) ∧ RfR w b (dropW ws i) s t (lo + 1) (w2.setCell ⟨b, 3, none⟩ (.int .i64 SX))) := Lib.hid fun w2 ⟨A', cap', h1, h2, _⟩ =>
    ⟨⟨(box4_ h1.box).2.2.2, frozen_of h1.box 3⟩, by rw [hSX]; exact ⟨A', cap', h1.bump.2, h2.trans (Only.set w2 b 3 _) fun _ _ h => h⟩⟩
  clear h hx hlo hil hfew hSX hs1'
  go_enter Try.func20, Try.ntmps20
  go_wp2_with (first
    | (go_at_call 12; refine HF.out.mono ?_; rintro e w2 ⟨rfl, rfl⟩)
    | (go_at_call 32; refine HG.out.mono ?_; rintro e w3 ⟨rfl, hg⟩
       obtain ⟨⟨c3, z3⟩, h4⟩ := HE.out _ hg
       have HQ := Lib.hid h4
       clear hg h4))
  go_ret
  exact ⟨rfl, HQ.out⟩
set_option maxRecDepth 100000 in
set_option maxHeartbeats 4000000 in
theorem rtwice_no {w : World} {b : Nat} {A : Option Addr} {cap : Nat} {ws : List Wy} {s t lo : Nat} (h : RfAt w b A cap ws s t lo) {x : Int} (hx : idxW ws x = none) : Calls Try.prog 18 #[.pointer (some ⟨b, 0, none⟩), .int .i64 x] w (LooksL (.tuple #[.int .i64 0, .int .i64 121]) w) := by
  have HF := Lib.hid (rfind_any h x)
  rw [idxV_none hx] at HF
  clear h hx
  go_enter Try.func18, Try.ntmps18
  go_wp2_with (go_at_call 12; refine HF.out.mono ?_; rintro e w2 ⟨rfl, rfl⟩)
  refine bodyPost_ret (v := .tuple #[.int .i64 0, .int .i64 121]) (by simp [results, Try.results18, go_sem]) rfl ?_
  exact ⟨rfl, rfl⟩
set_option maxRecDepth 100000 in
set_option maxHeartbeats 4000000 in
theorem rtwice_yes {w : World} {b : Nat} {A : Option Addr} {cap : Nat} {ws : List Wy} {s t lo : Nat} (h : RfAt w b A cap ws s t lo) (hlen : ws.length < 900) (hs : s < 900) {x : Int} {i : Nat} (hx : idxW ws x = some i) {y : Wy} (hy : ws[i]? = some y) : Calls Try.prog 18 #[.pointer (some ⟨b, 0, none⟩), .int .i64 x] w (fun e w' => e = .returned (.tuple #[.int .i64 (s : Int), .int .i64 0]) ∧ RsR w b ws s t lo y.x.l w') := by
  have HF := Lib.hid (rfind_any h x)
  rw [idxV_some hx] at HF
  obtain ⟨hn1, hR⟩ := h.nod y (List.mem_of_getElem? hy)
  have hup : y.x.l.ns.length ≤ 1000000 := by have := up_len (by omega) (by omega) (Ltr.up hR); omega
  have HS := Lib.hid (rsend_yes h hlen hs y.x.l hR y.x.A y.x.cap hup hn1.ints)
  have hi0 : ¬ (i : Int) < 0 := by omega
  obtain ⟨c0, _⟩ := box4_ h.box
  obtain ⟨n, hn⟩ : ∃ n, ws.length = n := ⟨_, rfl⟩
  have hil : (i : Int) < (n : Int) := by have := (idxW_get hx).1; omega
  obtain ⟨g0, hA, _, hc⟩ := h.row (cellsY_ne (fun e => by rw [e] at hy; simp at hy))
  subst hA
  obtain ⟨_, d1, d2, d3, d4, d5⟩ := cellsY_at hy
  have e1 := hc _ _ d1
  have e2 := hc _ _ d2
  have e3 := hc _ _ d3
  have e4 := hc _ _ d4
  have e5 := hc _ _ d5
  rw [hn] at c0
  clear h hx hlen hs hn hn1 hR hup hc d1 d2 d3 d4 d5 hy
  obtain ⟨yn, ⟨⟨yk, yf, yt, yx, yns⟩, yA, ycap⟩⟩ := y
  simp only at *
  go_enter Try.func18, Try.ntmps18
  go_wp2_with (first
    | (go_at_call 12; refine HF.out.mono ?_; rintro e w2 ⟨rfl, rfl⟩)
    | (go_at_call 11; refine HS.out.mono ?_; rintro e w3 ⟨rfl, hg⟩
       have HQ := Lib.hid hg
       clear hg))
  refine bodyPost_ret (v := .tuple #[.int .i64 (s : Int), .int .i64 0]) (by simp [results, Try.results18, go_sem]) rfl ?_
  exact ⟨rfl, HQ.out⟩
set_option maxRecDepth 100000 in
set_option maxHeartbeats 4000000 in
theorem rtake_no {w : World} {b : Nat} {A : Option Addr} {cap : Nat} {ws : List Wy} {s t lo : Nat} (h : RfAt w b A cap ws s t lo) {x : Int} (hx : idxW ws x = none) : Calls Try.prog 16 #[.pointer (some ⟨b, 0, none⟩), .int .i64 x] w (NoT w (.tuple #[zeroL, .int .i64 121])) := by
  obtain ⟨w0, hw0⟩ : ∃ w0, w0 = w.alloc (.cells #[.int .i64 0, .int .i64 0, .int .i64 0, .int .i64 0, .slice none 0 0] 32) := ⟨_, rfl⟩
  have hb0 : Below w.heap.size w w0 := by rw [hw0]; exact alloc_below w _
  obtain ⟨hX, hZ⟩ := dec_box hw0
  have HD := Lib.hid (rfind_any (h.below hb0) x)
  rw [idxV_none hx] at HD
  have h1 := hX w0 (Below.refl _ _)
  obtain ⟨y0, y1, y2, y3, y4⟩ := box5 h1
  have HQ := Lib.hid hb0
  clear hX hZ hb0 h1 h hx
  subst hw0
  unfold zeroL
  go_enter Try.func16, Try.ntmps16
  go_wp2_with (go_at_call 12; refine HD.out.mono ?_; rintro e w1 ⟨rfl, rfl⟩)
  refine bodyPost_ret (v := .tuple #[.agg #[.int .i64 0, .int .i64 0, .int .i64 0, .int .i64 0, .slice none 0 0], .int .i64 121]) (by simp [results, Try.results16, go_sem, y0, y1, y2, y3, y4]) rfl ?_
  exact ⟨rfl, HQ.out⟩
set_option maxRecDepth 100000 in
set_option maxHeartbeats 8000000 in
theorem rtake_yes {w : World} {b : Nat} {A : Option Addr} {cap : Nat} {ws : List Wy} {s t lo : Nat} (h : RfAt w b A cap ws s t lo) (ht : t < 900) {x : Int} {i : Nat} (hx : idxW ws x = some i) {y : Wy} (hy : ws[i]? = some y) : Calls Try.prog 16 #[.pointer (some ⟨b, 0, none⟩), .int .i64 x] w (fun e w' => (∃ v, e = .returned v) ∧ RfR w b (dropW ws i) s (t + 1) lo w') := by
  obtain ⟨w0, hw0⟩ : ∃ w0, w0 = w.alloc (.cells #[.int .i64 0, .int .i64 0, .int .i64 0, .int .i64 0, .slice none 0 0] 32) := ⟨_, rfl⟩
  have hb0 : Below w.heap.size w w0 := by rw [hw0]; exact alloc_below w _
  have h0 := h.below hb0
  have hbx : w0.heap[w.heap.size]? = some (.cells #[.int .i64 0, .int .i64 0, .int .i64 0, .int .i64 0, .slice none 0 0] 32 (0, 0)) := by rw [hw0]; exact heap_alloc_new w _
  have HF := Lib.hid (rfind_any h0 x)
  rw [idxV_some hx] at HF
  have hi0 : ¬ (i : Int) < 0 := by omega
  obtain ⟨c0, _⟩ := box4_ h0.box
  obtain ⟨n, hn⟩ : ∃ n, ws.length = n := ⟨_, rfl⟩
  have hil : (i : Int) < (n : Int) := by have := (idxW_get hx).1; omega
  have HIL : Hid (i < ws.length) := Lib.hid (idxW_get hx).1
  obtain ⟨g0, hA, _, hc⟩ := h0.row (cellsY_ne (fun e => by rw [e] at hy; simp at hy))
  subst hA
  obtain ⟨_, d1, d2, d3, d4, d5⟩ := cellsY_at hy
  have e1 := hc _ _ d1
  have e2 := hc _ _ d2
  have e3 := hc _ _ d3
  have e4 := hc _ _ d4
  have e5 := hc _ _ d5
  rw [hn] at c0
  have HH : Hid (∀ W, Below w0.heap.size w0 W → RfAt W b (some ⟨g0, 0, none⟩) cap ws s t lo) := Lib.hid fun W hW => h0.below hW
  obtain ⟨hwc, hs1', _⟩ := plus_one (X := t + 1) rfl (by omega)
  obtain ⟨SX, hSX⟩ : ∃ SX : Int, SX = ((t + 1 : Nat) : Int) := ⟨_, rfl⟩
  rw [← hSX] at hwc
  have hlb := h.lt
  have hs0 : w0.heap.size = w.heap.size + 1 := by rw [hw0]; simp
  have HE : Hid (∀ W, Below w0.heap.size w0 W → ∀ w2, GoneR W b (ws.take i ++ ws.drop (i + 1)) s t lo w2 → (w2.cell? ⟨b, 2, none⟩ = some (.int .i64 (t : Int)) ∧ w2.frozen? ⟨b, 2, none⟩ = false) ∧ (∀ W5, w2.setCell ⟨b, 2, none⟩ (.int .i64 SX) = W5 → ∀ v0 v1 v2 v3 v4, RfR w b (dropW ws i) s (t + 1) lo (((((W5.setCell ⟨w.heap.size, 0, none⟩ v0).setCell ⟨w.heap.size, 1, none⟩ v1).setCell ⟨w.heap.size, 2, none⟩ v2).setCell ⟨w.heap.size, 3, none⟩ v3).setCell ⟨w.heap.size, 4, none⟩ v4))) := Lib.hid fun W hW w2 ⟨A', cap', h1, h2, g', hg', hgs⟩ => by
    refine ⟨⟨(box4_ h1.box).2.2.1, frozen_of h1.box 2⟩, fun W5 e5 v0 v1 v2 v3 v4 => ?_⟩
    rw [hSX] at e5
    have h5 := h1.bump.1
    rw [e5] at h5
    have hO5 : Only (· = b) W W5 := by rw [← e5]; exact h2.trans (Only.set w2 b 2 _) fun _ _ h => h
    have gg := grown_trans (grown_trans (grown_trans (grown_trans (grown_set W5 w.heap.size 0 v0) (grown_set _ w.heap.size 1 v1)) (grown_set _ w.heap.size 2 v2)) (grown_set _ w.heap.size 3 v3)) (grown_set _ w.heap.size 4 v4)
    have hOg := (Only.of_grown gg).more (L := fun k => k = w.heap.size) fun j _ hj => by injection hj
    have hbW : Below w.heap.size w W := hb0.trans (hW.mono hb0.size)
    have hOO : Only (· = b) w _ := ((Only.of_below hbW).trans hO5 fun _ _ h => h).trans hOg fun j hj e => by omega
    have hsW := hW.size
    refine ⟨A', cap', ⟨(hOg.block b h5.lt (by omega)).trans h5.box, h5.cap, fun hne => ?_, fun y' hy' => ⟨?_, (h5.nod y' hy').2⟩, h5.few, h5.most⟩, hOO⟩
    · obtain ⟨g, e, hg, hcc⟩ := h5.row hne
      have hgg : g = g' := by rw [hg'] at e; injection e with e; injection e with e; exact e.symm
      exact ⟨g, e, Nat.lt_of_lt_of_le hg hOg.size, fun j u hu => (World.cell?_of_block (a := ⟨g, j, none⟩) (hOg.block g hg (by omega))).trans (hcc j u hu)⟩
    · have hmem : y' ∈ ws := by
        rcases List.mem_append.1 hy' with h | h
        · exact List.mem_of_mem_take h
        · exact List.mem_of_mem_drop h
      exact (h.nod y' hmem).1.only (intsZ_head _) hOO fun k hk => by rw [hk]; exact h.notI
  have HBX : Hid (∀ W, Below w0.heap.size w0 W → W.heap[w.heap.size]? = some (.cells #[.int .i64 0, .int .i64 0, .int .i64 0, .int .i64 0, .slice none 0 0] 32 (0, 0))) := Lib.hid fun W hW => (hW.block _ (by omega)).trans hbx
  have hpw : b ≠ w.heap.size := by omega
  have HLB := Lib.hid hlb
  have HS0 := Lib.hid hs0
  clear h h0 hbx hx hn hc d1 d2 d3 d4 d5 hy ht hSX hs1' hb0 hs0
  obtain ⟨yn, ⟨⟨yk, yf, yt, yx, yns⟩, yA, ycap⟩⟩ := y
  simp only at *
  subst hw0
  go_enter Try.func16, Try.ntmps16
  go_wp2_with (first
    | (go_at_call 12; refine HF.out.mono ?_; rintro e w2 ⟨rfl, rfl⟩)
    | (go_at_call 32; refine (rgone_any (HH.out _ (alloc_below _ (.cells #[.int .i64 yk, .int .i64 yf, .int .i64 yt, .int .i64 yx, .slice yA yns.length ycap] 32))) HIL.out).mono ?_; rintro e w3 ⟨rfl, hg⟩
       obtain ⟨⟨c3, z3⟩, h4⟩ := HE.out _ (alloc_below _ _) _ hg
       have HQ := Lib.hid (h4 _ rfl (.int .i64 yk) (.int .i64 yf) (.int .i64 yt) (.int .i64 yx) (.slice yA yns.length ycap))
       obtain ⟨A9, c9, hr9, hO9, _⟩ := id hg
       have hlb2 := HLB.out
       have hbq : w3.heap[w.heap.size + 1]? = some (.cells #[.int .i64 yk, .int .i64 yf, .int .i64 yt, .int .i64 yx, .slice yA yns.length ycap] 32 (0, 0)) := (hO9.block _ (by simp) (by omega)).trans (by
         have h := heap_alloc_new (w.alloc (.cells #[.int .i64 0, .int .i64 0, .int .i64 0, .int .i64 0, .slice none 0 0] 32)) (.cells #[.int .i64 yk, .int .i64 yf, .int .i64 yt, .int .i64 yx, .slice yA yns.length ycap] 32)
         rwa [show (w.alloc (.cells #[.int .i64 0, .int .i64 0, .int .i64 0, .int .i64 0, .slice none 0 0] 32)).heap.size = w.heap.size + 1 by simp] at h)
       have hbz : w3.heap[w.heap.size]? = _ := (hO9.block _ (by simp; omega) (by omega)).trans (HBX.out _ (alloc_below _ (.cells #[.int .i64 yk, .int .i64 yf, .int .i64 yt, .int .i64 yx, .slice yA yns.length ycap] 32)))
       have hO4 := Only.set w3 b 2 (.int .i64 SX)
       have hbq4 := (hO4.block _ (Array.getElem?_eq_some_iff.1 hbq).1 (by omega)).trans hbq
       have hbz4 := (hO4.block _ (Array.getElem?_eq_some_iff.1 hbz).1 (by omega)).trans hbz
       obtain ⟨x0, x1, x2, x3, x4⟩ := box5 hbq4
       obtain ⟨y0, y1, y2, y3, y4⟩ := box5 hbz4
       have zz0 := frozen_of hbz4 0
       have zz1 := frozen_of hbz4 1
       have zz2 := frozen_of hbz4 2
       have zz3 := frozen_of hbz4 3
       have zz4 := frozen_of hbz4 4
       clear hg hr9 hO9 hbq hbz hO4 hbq4 hbz4 h4 hlb2))
  refine bodyPost_ret (v := .tuple #[.agg #[.int .i64 yk, .int .i64 yf, .int .i64 yt, .int .i64 yx, .slice yA yns.length ycap], .int .i64 0]) (by simp [results, Try.results16, go_sem, y0, y1, y2, y3, y4]) rfl ?_
  exact ⟨⟨_, rfl⟩, HQ.out⟩
/-- the numbers, of all or to a node -/
def goesB (node : Int) (y : Wy) : Bool := decide (node < 0) || decide (y.x.l.t = node)
def numW (ws : List Wy) (node : Int) : List Int := (ws.filter (goesB node)).map fun y => (y.n : Int)
theorem numW_next {ws : List Wy} {i : Nat} {y : Wy} (h : ws[i]? = some y) (node : Int) : numW (ws.take (i + 1)) node = numW (ws.take i) node ++ (if goesB node y then [(y.n : Int)] else []) := by
  unfold numW
  rw [List.take_add_one, h, List.filter_append, List.map_append]
  cases hg : goesB node y <;> simp [hg]
theorem numW_len (ws : List Wy) (node : Int) (i : Nat) : (numW (ws.take i) node).length ≤ i := by
  unfold numW
  rw [List.length_map]
  exact Nat.le_trans (List.length_filter_le _ _) (by rw [List.length_take]; omega)
def NuL (w : World) (ws : List Wy) (node : Int) (v5 v6 : Value) (wr : World) : Prop := ∃ i : Nat, v6 = .int .i64 (i : Int) ∧ i ≤ ws.length ∧ OwnI wr w.heap.size v5 (numW (ws.take i) node) ∧ Below w.heap.size w wr
set_option maxRecDepth 100000 in
set_option maxHeartbeats 8000000 in
theorem rnumbers_any {w : World} {b : Nat} {A : Option Addr} {cap : Nat} {ws : List Wy} {s t lo : Nat} (h : RfAt w b A cap ws s t lo) (node : Int) : Calls Try.prog 24 #[.pointer (some ⟨b, 0, none⟩), .int .i64 node] w (fun e w' => ∃ v, e = .returned v ∧ OwnI w' w.heap.size v (numW ws node) ∧ Below w.heap.size w w') := by
  have HH : Hid (∀ W, Below w.heap.size w W → RfAt W b A cap ws s t lo) := Lib.hid fun W hW => h.below hW
  have hfew := h.few
  obtain ⟨c0, _⟩ := box4_ h.box
  obtain ⟨n, hn⟩ : ∃ n, ws.length = n := ⟨_, rfl⟩
  have HN := Lib.hid hn
  rw [hn] at hfew c0
  have hni : (n : Int) ≤ 1000 := by omega
  have HST : Hid (NuL w ws node (.slice none 0 0) (.int .i64 0) w) := Lib.hid ⟨0, rfl, Nat.zero_le _, OwnI.nil _ _, Below.refl _ _⟩
  clear h hn
  go_enter Try.func24, Try.ntmps24
  go_wp2_with fail
  go_loopw [5, 6] (fun v5 v6 wr => NuL w ws node v5 v6 wr) (fun _ v6 _ => n - (intOf v6).toNat)
  case atStart => exact HST.out
  case round =>
    obtain ⟨i, rfl, hi, ho, hb⟩ := hrel
    rw [HN.out] at hi
    have hii : (i : Int) ≤ 1000 := by omega
    have HO := Lib.hid ho
    have HB := Lib.hid hb
    have c0 := (box4_ (HH.out _ hb).box).1
    rw [HN.out] at c0
    clear ho
    by_cases hlt : i < n
    · have hlti : (i : Int) < (n : Int) := by omega
      obtain ⟨y, hy⟩ : ∃ y, ws[i]? = some y := ⟨_, List.getElem?_eq_getElem (by rw [HN.out]; exact hlt)⟩
      have HY := Lib.hid hy
      obtain ⟨g, hA, _, hc⟩ := (HH.out _ hb).row (cellsY_ne (fun e => by rw [e] at hy; simp at hy))
      subst hA
      obtain ⟨d0, _, _, d3, _, _⟩ := cellsY_at hy
      have e0 := hc _ _ d0
      have e3 := hc _ _ d3
      have HYES : Hid (goesB node y = true → ∀ v5 v6 W, v6 = .int .i64 ((i + 1 : Nat) : Int) → OwnI W w.heap.size v5 (numW (ws.take i) node ++ [(y.n : Int)]) → Below w.heap.size w W → NuL w ws node v5 v6 W) := Lib.hid fun hg v5 v6 W h6 ho hb => ⟨i + 1, h6, by rw [HN.out]; exact hlt, by rw [numW_next HY.out, if_pos hg]; exact ho, hb⟩
      have HNOT : Hid (goesB node y = false → ∀ v5 v6 W, v6 = .int .i64 ((i + 1 : Nat) : Int) → OwnI W w.heap.size v5 (numW (ws.take i) node) → Below w.heap.size w W → NuL w ws node v5 v6 W) := Lib.hid fun hg v5 v6 W h6 ho hb => ⟨i + 1, h6, by rw [HN.out]; exact hlt, by rw [numW_next HY.out, hg]; simpa using ho, hb⟩
      have HLE : Hid ((numW (ws.take i) node).length ≤ i) := Lib.hid (numW_len ws node i)
      obtain ⟨A5, c5, hv5, _⟩ := HO.out.2
      subst hv5
      clear hy hc d0 d3 hb
      by_cases hnode : node < 0
      · have hg : goesB node y = true := by unfold goesB; rw [decide_eq_true hnode]; rfl
        have HYES := Lib.hid (HYES.out hg)
        clear hg
        go_wp2_with (refine wpList_appI (xs := numW (ws.take i) node) (ys := [(y.n : Int)]) (B := w.heap.size) rfl _ _ 30 rfl Try.underlying30 rfl (HO.out.below (alloc_below _ _)) rfl rfl (rd_oneI _ _) (by have := HLE.out; simp; omega) (Nat.le_trans HB.out.size (alloc_below _ _).size) ?_
                     intro v8 w8 ho8 hg8
                     have HZ := Lib.hid (fun v6 h6 => HYES.out v8 v6 w8 h6 ho8 ((HB.out.trans ((alloc_below _ _).mono HB.out.size)).trans (grown_below hg8.by_ (Nat.le_trans HB.out.size (alloc_below _ _).size) HO.out.ge)))
                     clear ho8 hg8)
        go_roundw
        case rel => first | exact HZ.out _ (by go_num) | ((repeat apply Exists.intro); exact ⟨HZ.out _ (by go_num), rfl⟩)
        case measure => simp [intOf]; omega
      · cases hyt : (y.x.l.t == node)
        · have hg : goesB node y = false := by unfold goesB; rw [decide_eq_false hnode]; simpa using hyt
          have HZ := Lib.hid (fun v6 h6 => HNOT.out hg (.slice A5 (numW (ws.take i) node).length c5) v6 wr h6 HO.out HB.out)
          clear hg
          go_wp2_with fail
          go_roundw
          case rel => first | exact HZ.out _ (by go_num) | ((repeat apply Exists.intro); exact ⟨HZ.out _ (by go_num), rfl⟩)
          case measure => simp [intOf]; omega
        · have hg : goesB node y = true := by unfold goesB; rw [decide_eq_false hnode]; simpa using hyt
          have HYES := Lib.hid (HYES.out hg)
          clear hg
          go_wp2_with (refine wpList_appI (xs := numW (ws.take i) node) (ys := [(y.n : Int)]) (B := w.heap.size) rfl _ _ 30 rfl Try.underlying30 rfl (HO.out.below (alloc_below _ _)) rfl rfl (rd_oneI _ _) (by have := HLE.out; simp; omega) (Nat.le_trans HB.out.size (alloc_below _ _).size) ?_
                       intro v8 w8 ho8 hg8
                       have HZ := Lib.hid (fun v6 h6 => HYES.out v8 v6 w8 h6 ho8 ((HB.out.trans ((alloc_below _ _).mono HB.out.size)).trans (grown_below hg8.by_ (Nat.le_trans HB.out.size (alloc_below _ _).size) HO.out.ge)))
                       clear ho8 hg8)
          go_roundw
          case rel => first | exact HZ.out _ (by go_num) | ((repeat apply Exists.intro); exact ⟨HZ.out _ (by go_num), rfl⟩)
          case measure => simp [intOf]; omega
    · have hie : i = n := by omega
      subst hie
      have hlti : ¬ (i : Int) < (i : Int) := by omega
      have hO := HO.out
      rw [List.take_of_length_le (by rw [HN.out]; exact Nat.le_refl _)] at hO
      have HZ := Lib.hid hO
      clear hO
      clear hb
      go_wp2_with fail
      go_ret
      exact ⟨_, rfl, HZ.out, HB.out⟩
/-- at the head of Same's loop -/
def SmI (w : World) (ns ms : List Int) (v5 : Value) (wr : World) : Prop := ∃ i k : Nat, v5 = .int .i64 (i : Int) ∧ i ≤ ns.length ∧ (∀ j, j < i → ns[j]? = ms[j]?) ∧ wr = w.drewN k
set_option maxRecDepth 100000 in
set_option maxHeartbeats 8000000 in
theorem rsame_any {w : World} {A0 A1 : Option Addr} {n0 n1 c0 c1 : Nat} {ns ms : List Int} (h0 : RdI w w.heap.size A0 ns) (h1 : RdI w w.heap.size A1 ms) (hn0 : ns.length = n0) (hn1 : ms.length = n1) (hs0 : n0 ≤ 1000000) (hs1 : n1 ≤ 1000000) :
    Calls Try.prog 22 #[.slice A0 n0 c0, .slice A1 n1 c1] w (LooksNL (.bool (decide (ns = ms))) w) := by
  have H0 := Lib.hid h0
  have H1 := Lib.hid h1
  obtain ⟨r, hr⟩ : ∃ r, Hid (r = decide (ns = ms)) := ⟨_, Lib.hid rfl⟩
  rw [← hr.out]
  have hi0 : (n0 : Int) ≤ 1000000 := by omega
  have hi1 : (n1 : Int) ≤ 1000000 := by omega
  by_cases hnm : n0 = n1
  · have k5 : ((n0 : Int) != (n1 : Int)) = false := by rw [hnm]; simp
    have HNM := Lib.hid hnm
    have HN0 := Lib.hid hn0
    have HN1 := Lib.hid hn1
    have HST : Hid (SmI w ns ms (.int .i64 0) w) := Lib.hid ⟨0, 0, rfl, Nat.zero_le _, fun j hj => by omega, rfl⟩
    clear h0 h1 hnm hn0 hn1 hs0 hs1
    go_enter Try.func22, Try.ntmps22
    go_wp2_with fail
    go_loopw [5] (fun v5 wr => SmI w ns ms v5 wr) (fun v5 _ => n0 - (intOf v5).toNat)
    case atStart => exact HST.out
    case round =>
      obtain ⟨i, q, rfl, hi, hlo, hw⟩ := hrel
      have HLO := Lib.hid hlo
      have HW := Lib.hid hw
      clear hlo hw
      rw [HN0.out] at hi
      by_cases hlt : i < n0
      · have hlti : (i : Int) < (n0 : Int) := by omega
        have hltm : (i : Int) < (n1 : Int) := by have := HNM.out; omega
        obtain ⟨z, hz⟩ : ∃ x, ms[i]? = some x := ⟨_, List.getElem?_eq_getElem (by rw [HN1.out, ← HNM.out]; exact hlt)⟩
        obtain ⟨y, hy⟩ : ∃ y, ns[i]? = some y := ⟨_, List.getElem?_eq_getElem (by rw [HN0.out]; exact hlt)⟩
        obtain ⟨b0, o0, hA0, _, d0⟩ := H0.out.at_ hy
        obtain ⟨b1, o1, hA1, _, d1⟩ := H1.out.at_ hz
        subst hA0 hA1
        have d0 : wr.cell? ⟨b0, o0 + i, none⟩ = some (.int .i64 y) := by rw [← d0, HW.out]; rfl
        have d1 : wr.cell? ⟨b1, o1 + i, none⟩ = some (.int .i64 z) := by rw [← d1, HW.out]; rfl
        have hi00 : 0 ≤ (i : Int) := by omega
        by_cases hyz : y = z
        · subst hyz
          have HY : Hid (∀ v5 k2, v5 = .int .i64 ((i + 1 : Nat) : Int) → SmI w ns ms v5 (wr.drewN k2)) := Lib.hid fun v5 k2 h5 => ⟨i + 1, q + k2, h5, by rw [HN0.out]; exact hlt, fun j hj => by
            rcases Nat.lt_or_ge j i with h | h
            · exact HLO.out j h
            · have : j = i := by omega
              subst this
              rw [hy, hz], by rw [HW.out, World.drewN_drewN]⟩
          clear hz hy hi
          go_wp2_with fail
          go_quiet (fail)
          go_wp2_with fail
          go_roundw
          case rel => first | exact HY.out _ _ (by go_num) | ((repeat apply Exists.intro); exact ⟨HY.out _ _ (by go_num), rfl⟩)
          case measure => simp [intOf]; omega
        · have HY : Hid (r = false) := Lib.hid (hr.out.trans (decide_eq_false (fun e => by rw [e, hz] at hy; injection hy with hy; exact hyz hy.symm)))
          have HZ : Hid (∀ k2, ∃ n, wr.drewN k2 = w.drewN n) := Lib.hid fun k2 => ⟨q + k2, by rw [HW.out, World.drewN_drewN]⟩
          clear hz hy hi
          go_wp2_with fail
          go_quiet (fail)
          go_wp2_with fail
          go_ret
          exact ⟨by rw [HY.out]; rfl, HZ.out _⟩
      · have hie : i = n0 := by omega
        subst hie
        have hlti : ¬ (i : Int) < (i : Int) := by omega
        have HY : Hid (r = true) := Lib.hid (hr.out.trans (decide_eq_true (List.ext_getElem? fun j => by
          rcases Nat.lt_or_ge j i with h | h
          · exact HLO.out j h
          · rw [List.getElem?_eq_none (by rw [HN0.out]; exact h), List.getElem?_eq_none (by rw [HN1.out, ← HNM.out]; exact h)])))
        have HZ : Hid (∃ n, wr = w.drewN n) := Lib.hid ⟨q, HW.out⟩
        clear hi
        go_wp2_with fail
        go_ret
        exact ⟨by rw [HY.out]; rfl, HZ.out⟩
  · have k5 : ((n0 : Int) != (n1 : Int)) = true := by simp; omega
    have HY : Hid (r = false) := Lib.hid (hr.out.trans (decide_eq_false (fun e => hnm (by rw [← hn0, ← hn1, e]))))
    clear h0 h1 hnm hn0 hn1 hs0 hs1
    go_enter Try.func22, Try.ntmps22
    go_wp2_with fail
    go_ret
    exact ⟨by rw [HY.out]; rfl, 0, rfl⟩
end Go.Proofs.Ythdhifnafgidaaa

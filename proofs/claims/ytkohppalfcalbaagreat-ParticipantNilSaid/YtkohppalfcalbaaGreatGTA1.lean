/- Package shard: Open on an empty disk. -/
import Derived.Test.YtkohppalfcalbaaGreatGSY1
import Derived.Test.YtkohppalfcalbaaGreatJN
import Derived.Maps.Range
namespace Go.Proofs.YtkohppalfcalbaaGreat
section
open Go.RowKit

set_option maxRecDepth 100000 in
theorem delf_empty {w : World} {km : Nat} (h : MapM knownW w km []) (f : Value) : Calls Tryz.prog 81 #[.map (some km), f] w (fun e w' => e = .returned (.tuple #[]) ∧ Below w.heap.size w w') := by
  obtain ⟨D, hown, hrep⟩ := h
  obtain ⟨w1, hrun, hrg, hg, hs⟩ := hown.range known_good.keyed known_good.und
  have hrun1 : (Instr.range 75 (.map (some km))).run Tryz.prog w = .ok (.pointer (some ⟨w.heap.size, 0, none⟩)) w1 := hrun
  have hb : Below w.heap.size w w1 := (Only.of_grown hg).below (Nat.le_refl _) (fun j e => by cases e)
  have hnx : (Instr.next (.pointer (some ⟨w.heap.size, 0, none⟩)) false 0).run Tryz.prog w1 = .ok (.tuple #[.bool false]) w1 := by
    rcases hrg.next known_good.keyed 0 with ⟨_, _, h1⟩ | ⟨key, v, kl, y, w', cnt', _, _, _, _, _, hr2, hlt, _⟩
    · exact h1
    · have h2 : Maps.size D = 0 := hrep.size
      omega
  have HX : Hid (Below w.heap.size w w1 ∧ (Instr.next (.pointer (some ⟨w.heap.size, 0, none⟩)) false 0).run Tryz.prog w1 = .ok (.tuple #[.bool false]) w1) := Lib.hid ⟨hb, hnx⟩
  clear hown hrep hrg hg hs hrun hb hnx
  go_enter Tryz.func81, Tryz.ntmps81
  go_wp2_with fail
  go_loopw [8] (fun _ wr => Below w.heap.size w wr ∧ (Instr.next (.pointer (some ⟨w.heap.size, 0, none⟩)) false 0).run Tryz.prog wr = .ok (.tuple #[.bool false]) wr) (fun _ _ => 0)
  case atStart => exact HX.out
  case round =>
    obtain ⟨hb, hnx⟩ := hrel
    have HB := Lib.hid hb
    clear hb
    go_wp2_with fail
    refine bodyPost_end (v := .tuple #[]) (by simp [results, Tryz.results81, go_sem]) rfl ?_
    exact ⟨rfl, HB.out⟩
set_option maxRecDepth 100000 in
theorem records_empty {w : World} {B q p g d b s : Nat} {pre : List (Nat × Nat)} (h : Wl w B q p g d b s pre []) : Calls Tryz.prog 39 #[.pointer (some ⟨q, 0, none⟩)] w (fun e w' => e = .returned (.slice none 0 0) ∧ Below w.heap.size w w') := by
  have HN := Lib.hid (numbers_any h)
  clear h
  go_enter Tryz.func39, Tryz.ntmps39
  go_wp2_with (go_at_call 83; refine HN.out.mono ?_; rintro e w1 ⟨A, cap, rfl, _, _, hb⟩
               have HB := Lib.hid hb
               clear hb)
  go_loopw [3, 13] (fun v3 v13 wr => (v3 = .slice none 0 0 ∧ v13 = .int .i64 0) ∧ Below w.heap.size w wr) (fun _ _ _ => 0)
  case atStart => exact ⟨⟨rfl, rfl⟩, HB.out⟩
  case round =>
    obtain ⟨⟨rfl, rfl⟩, hb⟩ := hrel
    have HB2 := Lib.hid hb
    have hz : ((numbersOf b []).length : Int) = 0 := rfl
    clear hb
    go_wp2_with fail
    go_ret
    exact ⟨rfl, HB2.out⟩
set_option maxRecDepth 100000 in
theorem lastImage_empty (w : World) : Calls Tryz.prog 78 #[.slice none 0 0] w (fun e w' => e = .returned (.tuple #[.slice none 0 0, .slice none 0 0]) ∧ Below w.heap.size w w') := by
  have HB := Lib.hid (Below.refl w.heap.size w)
  go_enter Tryz.func78, Tryz.ntmps78
  go_wp2_with fail
  go_loopw [2, 3, 10] (fun v2 v3 v10 wr => (v2 = .slice none 0 0 ∧ v3 = .slice none 0 0 ∧ v10 = .int .i64 0) ∧ Below w.heap.size w wr) (fun _ _ _ _ => 0)
  case atStart => exact ⟨⟨rfl, rfl, rfl⟩, HB.out⟩
  case round =>
    obtain ⟨⟨rfl, rfl, rfl⟩, hb⟩ := hrel
    have HB2 := Lib.hid hb
    clear hb
    go_wp2_with fail
    go_ret2
    exact ⟨rfl, HB2.out⟩
set_option maxRecDepth 100000 in
theorem replay_empty {w : World} {c km : Nat} {x0 x1 x2 : Value} {fr : Nat × Nat} (hbox : w.heap[c]? = some (.cells #[x0, x1, x2, .map (some km)] 77 fr)) (h : MapM knownW w km []) : Calls Tryz.prog 38 #[.pointer (some ⟨c, 0, none⟩), .slice none 0 0] w (fun e w' => e = .returned (.tuple #[]) ∧ Below w.heap.size w w') := by
  have HL := Lib.hid (lastImage_empty w)
  have hcl := (Array.getElem?_eq_some_iff.1 hbox).1
  have HBX : Hid (∀ W, Below w.heap.size w W → W.cell? ⟨c, 3, none⟩ = some (.map (some km))) := Lib.hid fun W hb => (box4S ((hb.block c hcl).trans hbox)).2.2.2
  have HD := Lib.hid (fun W (hb : Below w.heap.size w W) f => delf_empty (h.below hb) f)
  clear h hbox hcl
  go_enter Tryz.func38, Tryz.ntmps38
  go_wp2_with (go_at_call 78; refine HL.out.mono ?_; rintro e w1 ⟨rfl, hb⟩
               have HB := Lib.hid hb
               clear hb)
  go_loopw [17] (fun v17 wr => v17 = .int .i64 0 ∧ Below w.heap.size w wr) (fun _ _ => 0)
  case atStart => exact ⟨rfl, HB.out⟩
  case round =>
    obtain ⟨rfl, hb⟩ := hrel
    have HB2 := Lib.hid hb
    obtain ⟨w5, hw5⟩ : ∃ w5, w5 = wr := ⟨_, rfl⟩
    subst hw5
    clear hb
    go_wp2_with fail
    go_loopw [28] (fun v28 wr => v28 = .int .i64 0 ∧ Below w.heap.size w wr) (fun _ _ => 0)
    case atStart => exact ⟨rfl, HB2.out⟩
    case round =>
      obtain ⟨rfl, hb⟩ := hrel
      have x3 := HBX.out wr hb
      have HB3 := Lib.hid hb
      have HDD := Lib.hid (HD.out wr hb)
      clear hb
      go_wp2_with (go_at_call 81; refine (HDD.out _).mono ?_; rintro e w6 ⟨rfl, hb6⟩
                   have HB6 := Lib.hid hb6
                   clear hb6)
      refine bodyPost_end (v := .tuple #[]) (by simp [results, Tryz.results38, go_sem]) rfl ?_
      exact ⟨rfl, HB3.out.trans (HB6.out.mono HB3.out.size)⟩
/-- the labels of a shard that was opened on an empty disk -/
def openLab (ℓ : Nat → Nat) (m L q d c sm km k : Nat) : Nat := if k < m then ℓ k else if k = c ∨ k = sm ∨ k = km then 1 else if k = q ∨ k = d then L else 0
/-- what Open leaves of an empty disk -/
def OpS (w : World) (ℓ : Nat → Nat) (L N p : Nat) (e : Ending) (w' : World) : Prop := ∃ ℓ' s, e = .returned (.tuple #[.pointer (some ⟨s.c, 0, none⟩), .int .i64 0]) ∧ Sh w' ℓ' s ∧ Only (fun k => ℓ k = L) w w' ∧ (∀ k, k < w.heap.size → ℓ' k = ℓ k) ∧ s.T = [] ∧ s.S = [] ∧ s.rs = [] ∧ s.p = p ∧ s.L = L ∧ s.N = N ∧ s.b = 0 ∧ w.heap.size ≤ s.c
set_option maxRecDepth 100000 in
set_option maxHeartbeats 4000000 in
theorem open_empty {w : World} {ℓ : Nat → Nat} {L N p g s0 : Nat} (h : Dk w 0 p g 0 s0 []) (hp : ℓ p = L) (hg : ℓ g = L) (hL : 2 ≤ L ∧ L < N) (hlt : ∀ k, ℓ k < N) : Calls Tryz.prog 9 #[.pointer (some ⟨p, 0, none⟩)] w (OpS w ℓ L N p) := by
  have HO := Lib.hid (open_any h (Nat.zero_le _) [] [] rfl (by decide) (fun r hr => by simp at hr))
  have HE : Hid (∀ w1 q d c9, Wl w1 0 q p g d 0 (0 + (bytesOf []).length) [] [] → w.heap.size ≤ q → w.heap.size ≤ d → Only (fun k => k = p) w w1 → c9 = w1.heap.size + 2 → (∀ o1 o2 o3, o1 = .map #[] 0 → o2 = .map #[] 0 → o3 = .cells #[.pointer (some ⟨p, 0, none⟩), .pointer (some ⟨q, 0, none⟩), .map (some w1.heap.size), .map (some (w1.heap.size + 1))] 77 →
      ∀ w4, w4 = ((w1.alloc o1).alloc o2).alloc o3 → (Calls Tryz.prog 39 #[.pointer (some ⟨q, 0, none⟩)] w4 (fun e w' => e = .returned (.slice none 0 0) ∧ Below w4.heap.size w4 w') ∧ ∀ w5, Below w4.heap.size w4 w5 → Calls Tryz.prog 38 #[.pointer (some ⟨w1.heap.size + 1 + 1, 0, none⟩), .slice none 0 0] w5 (fun e w6 => e = .returned (.tuple #[]) ∧ OpS w ℓ L N p (.returned (.tuple #[.pointer (some ⟨w1.heap.size + 1 + 1, 0, none⟩), .int .i64 0])) w6)))) := Lib.hid fun w1 q d c9 hW hq hd hO _ o1 o2 o3 e1 e2 e3 w4 e4 => by
    subst e1 e2 e3
    have hb1 := alloc_below w1 (.map #[] 0)
    have hb2 := alloc_below (w1.alloc (.map #[] 0)) (.map #[] 0)
    have hb3 := alloc_below ((w1.alloc (.map #[] 0)).alloc (.map #[] 0)) (.cells #[.pointer (some ⟨p, 0, none⟩), .pointer (some ⟨q, 0, none⟩), .map (some w1.heap.size), .map (some (w1.heap.size + 1))] 77)
    have s1 : (w1.alloc (.map #[] 0)).heap.size = w1.heap.size + 1 := by simp
    have s2 : ((w1.alloc (.map #[] 0)).alloc (.map #[] 0)).heap.size = w1.heap.size + 1 + 1 := by simp
    have hbb : Below w1.heap.size w1 w4 := by rw [e4]; exact (hb1.trans (hb2.mono (by omega))).trans (hb3.mono (by omega))
    have hsm : MapM spaceW w4 w1.heap.size [] := by rw [e4]; exact ((MapM.new spaceW w1).below hb2).below hb3
    have hkm : MapM knownW w4 (w1.heap.size + 1) [] := by
      have h9 := MapM.new knownW (w1.alloc (.map #[] 0))
      rw [s1] at h9
      rw [e4]; exact h9.below hb3
    have hbx : w4.heap[w1.heap.size + 1 + 1]? = some (.cells #[.pointer (some ⟨p, 0, none⟩), .pointer (some ⟨q, 0, none⟩), .map (some w1.heap.size), .map (some (w1.heap.size + 1))] 77 (0, 0)) := by
      have h9 := heap_alloc_new ((w1.alloc (.map #[] 0)).alloc (.map #[] 0)) (.cells #[.pointer (some ⟨p, 0, none⟩), .pointer (some ⟨q, 0, none⟩), .map (some w1.heap.size), .map (some (w1.heap.size + 1))] 77)
      rw [s2] at h9
      rw [e4]; exact h9
    have hs4 : w4.heap.size = w1.heap.size + 3 := by rw [e4]; simp
    have hW4 := hW.below hbb
    refine ⟨records_empty hW4, fun w5 hb5 => ?_⟩
    have hbx5 := (hb5.block _ (Array.getElem?_eq_some_iff.1 hbx).1).trans hbx
    refine (replay_empty hbx5 (hkm.below hb5)).mono ?_
    rintro e w6 ⟨rfl, hb6⟩
    have hb56 := hb5.trans (hb6.mono hb5.size)
    have hpl := h.lt
    have hgl := h.dlt
    have s0 := hO.size
    have hql := hW.lt
    have hdl := hW.dlt
    have hW6 := hW4.below hb56
    refine ⟨rfl, openLab ℓ w.heap.size L q d (w1.heap.size + 1 + 1) w1.heap.size (w1.heap.size + 1), ⟨w1.heap.size + 1 + 1, p, q, w1.heap.size, w1.heap.size + 1, [], L, 0, 0, [], [], N⟩, rfl, ⟨⟨(hb56.block _ (Array.getElem?_eq_some_iff.1 hbx).1).trans hbx, hkm.below hb56, fun x hx => by simp at hx, fun x hx => by simp at hx, ⟨?_, ?_⟩, fun x hx => by simp at hx, List.Pairwise.nil⟩, ⟨g, d, [], hW6, ?_, ?_, ?_, ?_⟩, ⟨hsm.below hb56, fun x hx => by simp at hx, fun x hx => by simp at hx, List.Pairwise.nil, fun x hx => by simp at hx, ?_⟩, fun k => ?_, hL, fun x hx => by simp at hx, fun x hx => by simp at hx, fun x hx => by simp at hx, fun x hx => by simp at hx, by show w1.heap.size ≠ w1.heap.size + 1; omega⟩, ?_, fun k hk => by unfold openLab; rw [if_pos hk], rfl, rfl, rfl, rfl, rfl, rfl, rfl, by show w.heap.size ≤ w1.heap.size + 1 + 1; omega⟩
    · show openLab _ _ _ _ _ _ _ _ (w1.heap.size + 1 + 1) = 1
      unfold openLab
      rw [if_neg (by omega), if_pos (.inl rfl)]
    · show openLab _ _ _ _ _ _ _ _ (w1.heap.size + 1) = 1
      unfold openLab
      rw [if_neg (by omega), if_pos (.inr (.inr rfl))]
    · show openLab _ _ _ _ _ _ _ _ q = L
      unfold openLab
      rw [if_neg (by omega), if_neg (by omega), if_pos (.inl rfl)]
    · show openLab _ _ _ _ _ _ _ _ p = L
      unfold openLab
      rw [if_pos hpl]; exact hp
    · show openLab _ _ _ _ _ _ _ _ g = L
      unfold openLab
      rw [if_pos hgl]; exact hg
    · show openLab _ _ _ _ _ _ _ _ d = L
      unfold openLab
      rw [if_neg (by omega), if_neg (by omega), if_pos (.inr rfl)]
    · show openLab _ _ _ _ _ _ _ _ w1.heap.size = 1
      unfold openLab
      rw [if_neg (by omega), if_pos (.inr (.inl rfl))]
    · show openLab _ _ _ _ _ _ _ _ k < N
      unfold openLab
      split
      · exact hlt k
      · split
        · omega
        · split <;> omega
    · exact (hO.more fun j _ e => by rw [e]; exact hp).trans (Only.of_below (K := fun _ => False) (hbb.trans (hb56.mono (by omega)))) (fun _ _ e => e.elim)
  have hmm := @run_makeMap Tryz.prog
  clear h hp hg hL hlt
  go_enter Tryz.func9, Tryz.ntmps9
  go_wp2_with (first
    | (go_at_call 37; refine HO.out.mono ?_; rintro e w1 ⟨q, d, rfl, hW, hq, hd, hO⟩
       have HEE := Lib.hid (HE.out w1 q d _ hW hq hd hO rfl _ _ _ rfl rfl rfl _ rfl)
       clear hW hq hd hO)
    | (go_at_call 39; refine HEE.out.1.mono ?_; rintro e w5 ⟨rfl, hb5⟩
       have HRP := Lib.hid (HEE.out.2 w5 hb5)
       clear hb5)
    | (go_at_call 38; refine HRP.out.mono ?_; rintro e w6 ⟨rfl, hop⟩
       have HOP := Lib.hid hop
       clear hop))
  go_ret2
  exact HOP.out
end

section
open Go.RowKit

abbrev ChC := List UInt8 × List UInt8 × List UInt8 × Bool
theorem encN_le : ∀ (R : List Rc), (∀ x ∈ R, x.Ok) → encN R ≤ R.length * 3005
  | [], _ => by simp [encN, bytesOf]
  | x :: R, h => by
    have h1 := encN_app [x] R
    rw [encN_one] at h1
    have h2 := (Rc.enc_len (h x (by simp))).2
    have h3 := encN_le R (fun y hy => h y (by simp [hy]))
    rw [show x :: R = [x] ++ R from rfl, h1, List.length_append, List.length_singleton]
    omega
theorem txV_some {T : List ShT} {n : Int} {cs : List ChC} {p : Bool} (h : txV T n = some (cs, p)) : ∃ x, fndT T n = some x ∧ x.t.cs.map Ch.con = cs ∧ x.t.p = p ∧ x.t.cs.length = cs.length := by
  unfold txV at h
  cases hf : fndT T n with
  | none => rw [hf] at h; cases h
  | some x =>
    rw [hf] at h
    simp only [Option.map_some, Option.some.injEq, Prod.mk.injEq] at h
    exact ⟨x, rfl, h.1, h.2, by rw [← h.1, List.length_map]⟩
theorem txV_none {T : List ShT} {n : Int} (h : txV T n = none) : fndT T n = none := by
  unfold txV at h
  cases hf : fndT T n with
  | none => rfl
  | some x => rw [hf] at h; cases h
theorem sh_put2 {w : World} {ℓ : Nat → Nat} {s : ShS} (h : Sh w ℓ s) {n : Int} (hn : i64ok n) (sp k r : List UInt8) (kA rA : Option Addr) (kn kc rn rc : Nat) (hkn : k.length = kn) (hrn : r.length = rn) {cs : List ChC} (hx : txV s.T n = some (cs, false)) (hs : sp.length ≤ 32) (hk : k.length ≤ 200) (hr : r.length ≤ 2000) (hkr : RdB w w.heap.size kA k) (hrr : RdB w w.heap.size rA r) (hfew : cs.length < 1000) : Calls Tryz.prog 13 #[.pointer (some ⟨s.c, 0, none⟩), .int .i64 n, .string (strB sp), .slice kA kn kc, .slice rA rn rc] w (ShT' w ℓ s (.int .i64 0) (fun s' => (∀ m, txV s'.T m = if m = n then some (cs ++ [(sp, k, r, false)], false) else txV s.T m) ∧ s'.S = s.S ∧ s'.rs = s.rs ∧ s'.b = s.b ∧ s'.T.length = s.T.length)) := by
  obtain ⟨x, hf, hcs, hp, hl⟩ := txV_some hx
  subst hkn hrn
  refine (sh_put h hn sp k r kA rA kc rc hf hp hs hk hr hkr hrr (by omega)).mono ?_
  rintro e w' ⟨rfl, ℓ', s', h1, h2, h3, h4⟩
  exact ⟨rfl, ℓ', s', h1, h2, by rw [hcs] at h3; exact h3, h4⟩
theorem sh_begin2 {w : World} {ℓ : Nat → Nat} {s : ShS} (h : Sh w ℓ s) {n : Int} (h0 : 0 ≤ n) (h1 : n ≤ 1099511627776) (hf : txV s.T n = none) (hl : s.T.length < 10000) : Calls Tryz.prog 12 #[.pointer (some ⟨s.c, 0, none⟩), .int .i64 n] w (ShT' w ℓ s (.int .i64 0) (fun s' => (∀ m, txV s'.T m = if m = n then some ([], false) else txV s.T m) ∧ s'.S = s.S ∧ s'.rs = s.rs ∧ s'.b = s.b ∧ s'.T.length = s.T.length + 1)) := sh_begin h h0 h1 (txV_none hf) hl
end

section
open Go.RowKit

/-- what a shard is, in words: its transactions, its rows; bounds -/
structure Vw where
  tx : Int → Option (List ChC × Bool)
  V : List UInt8 → List (List UInt8 × List UInt8)
  nT : Nat
  nS : Nat
  nb : Nat
def ShS.is (s : ShS) (v : Vw) : Prop := (∀ m, txV s.T m = v.tx m) ∧ viewS s.S = v.V ∧ s.T.length ≤ v.nT ∧ s.S.length ≤ v.nS ∧ s.b + (bytesOf s.rs).length ≤ v.nb
/-- a shard at block c, made since w; the blocks F are others' -/
def AtS (w W : World) (c : Nat) (v : Vw) (F : Nat → Prop) : Prop := ∃ ℓ s, Sh W ℓ s ∧ s.c = c ∧ (∀ j, j < w.heap.size → ℓ j = 0) ∧ Below w.heap.size w W ∧ s.is v ∧ ∀ k, F k → k < W.heap.size ∧ ℓ k ≠ 0 ∧ ¬ s.own (ℓ k)
theorem Sh.own0 {w : World} {ℓ : Nat → Nat} {s : ShS} (h : Sh w ℓ s) : ¬ s.own 0 := fun e => by
  rcases e with e | e | ⟨x, hx, e⟩ | ⟨x, hx, e⟩
  · cases e
  · have := h.two; omega
  · have := h.kn.own x hx; omega
  · have := h.sp.own x hx; omega
theorem Sh.ownN {w : World} {ℓ : Nat → Nat} {s : ShS} (h : Sh w ℓ s) {a : Nat} (ha : s.own a) : a < s.N := by
  have := h.two
  rcases ha with rfl | rfl | ⟨x, hx, rfl⟩ | ⟨x, hx, rfl⟩
  · omega
  · omega
  · exact h.tN x hx
  · exact (h.sp.own x hx).2
theorem AtS.bel {w W : World} {c : Nat} {v : Vw} {F : Nat → Prop} (h : AtS w W c v F) : Below w.heap.size w W := by obtain ⟨_, _, _, _, _, hb, _⟩ := h; exact hb
theorem AtS.below {w W W' : World} {c : Nat} {v : Vw} {F : Nat → Prop} (h : AtS w W c v F) (hb : Below W.heap.size W W') : AtS w W' c v F := by
  obtain ⟨ℓ, s, h1, h2, h3, h4, h5, h6⟩ := h
  exact ⟨ℓ, s, h1.below hb, h2, h3, h4.trans (hb.mono h4.size), h5, fun k hk => ⟨Nat.lt_of_lt_of_le (h6 k hk).1 hb.size, (h6 k hk).2⟩⟩
/-- others turn their own blocks -/
theorem AtS.keep {K : Nat → Prop} {w W W' : World} {c : Nat} {v : Vw} {F : Nat → Prop} (h : AtS w W c v F) (hO : Only K W W') (hK : ∀ k, K k → F k) : AtS w W' c v F := by
  obtain ⟨ℓ, s, h1, h2, h3, h4, h5, h6⟩ := h
  refine ⟨ℓ, s, h1.keep hO fun k hk => (h6 k (hK k hk)).2, h2, h3, h4.trans (hO.below h4.size fun j e => ?_), h5, fun k hk => ⟨Nat.lt_of_lt_of_le (h6 k hk).1 hO.size, (h6 k hk).2⟩⟩
  rcases Nat.lt_or_ge j w.heap.size with h7 | h7
  · exact absurd (h3 j h7) (h6 j (hK j e)).2.1
  · exact h7
theorem AtS.fewer {w W : World} {c : Nat} {v : Vw} {F F' : Nat → Prop} (h : AtS w W c v F) (hF : ∀ k, F' k → F k) : AtS w W c v F' := by
  obtain ⟨ℓ, s, h1, h2, h3, h4, h5, h6⟩ := h
  exact ⟨ℓ, s, h1, h2, h3, h4, h5, fun k hk => h6 k (hF k hk)⟩
/-- new blocks become others' -/
theorem AtS.foreign {w W W' : World} {c : Nat} {v : Vw} {F : Nat → Prop} (h : AtS w W c v F) (hb : Below W.heap.size W W') : AtS w W' c v (fun k => F k ∨ (W.heap.size ≤ k ∧ k < W'.heap.size)) := by
  obtain ⟨ℓ, s, h1, h2, h3, h4, h5, h6⟩ := h
  have hN := h1.two
  have h7 : Sh W' (labs ℓ W.heap.size s.N) { s with N := s.N + 1 } := ((h1.more (Nat.le_succ _)).relabel (fun k hk => labs_lt hk) (fun k => by
    unfold labs
    split
    · exact Nat.lt_succ_of_lt (h1.lt k)
    · exact Nat.lt_succ_self _)).below hb
  refine ⟨_, _, h7, h2, fun j hj => by rw [labs_lt (Nat.lt_of_lt_of_le hj h4.size)]; exact h3 j hj, h4.trans (hb.mono h4.size), h5, fun k hk => ?_⟩
  rcases hk with hk | hk
  · obtain ⟨a1, a2, a3⟩ := h6 k hk
    exact ⟨Nat.lt_of_lt_of_le a1 hb.size, by rw [labs_lt a1]; exact a2, by rw [labs_lt a1]; exact a3⟩
  · refine ⟨hk.2, by rw [labs_ge hk.1]; omega, fun e => ?_⟩
    rw [labs_ge hk.1] at e
    have := h1.ownN (a := s.N) e
    omega
/-- what a call of a shard leaves -/
def AtT (w W : World) (c : Nat) (F : Nat → Prop) (r : Value) (v' : Vw) (e : Ending) (W' : World) : Prop := e = .returned r ∧ AtS w W' c v' F ∧ Only (fun k => w.heap.size ≤ k ∧ ¬ F k) W W'
theorem at_step {w W W' : World} {c : Nat} {v' : Vw} {F : Nat → Prop} {ℓ : Nat → Nat} {s : ShS} {r : Value} {e : Ending} {P : ShS → Prop} (h1 : Sh W ℓ s) (h2 : s.c = c) (h3 : ∀ j, j < w.heap.size → ℓ j = 0) (h4 : Below w.heap.size w W) (h6 : ∀ k, F k → k < W.heap.size ∧ ℓ k ≠ 0 ∧ ¬ s.own (ℓ k)) (ht : ShT' W ℓ s r P e W') (hP : ∀ s', P s' → s'.is v') : AtT w W c F r v' e W' := by
  obtain ⟨rfl, ℓ', s', g1, g2, g3⟩ := ht
  have hO : Only (fun k => w.heap.size ≤ k ∧ ¬ F k) W W' := g2.only.more fun j hj e => by
    refine ⟨?_, fun hF => (h6 j hF).2.2 e⟩
    rcases Nat.lt_or_ge j w.heap.size with h7 | h7
    · have e2 : s.own (ℓ j) := e
      rw [h3 j h7] at e2
      exact absurd e2 h1.own0
    · exact h7
  refine ⟨rfl, ⟨ℓ', s', g1, g2.c.trans h2, fun j hj => (g2.agree j (Nat.lt_of_lt_of_le hj h4.size)).trans (h3 j hj), h4.trans (hO.below h4.size fun j e => e.1), hP s' g3, fun k hk => ?_⟩, hO⟩
  obtain ⟨a1, a2, a3⟩ := h6 k hk
  rw [g2.agree k a1]
  refine ⟨Nat.lt_of_lt_of_le a1 g2.only.size, a2, fun e => ?_⟩
  rcases g2.lab _ e with e2 | e2
  · exact a3 e2
  · have := h1.lt k; omega
def upd {α : Type} (f : Int → α) (n : Int) (a : α) (m : Int) : α := if m = n then a else f m
theorem at_begin {w W : World} {c : Nat} {v : Vw} {F : Nat → Prop} (h : AtS w W c v F) {n : Int} (h0 : 0 ≤ n) (h1 : n ≤ 1099511627776) (hf : v.tx n = none) (hl : v.nT < 10000) : Calls Tryz.prog 12 #[.pointer (some ⟨c, 0, none⟩), .int .i64 n] W (AtT w W c F (.int .i64 0) ⟨upd v.tx n (some ([], false)), v.V, v.nT + 1, v.nS, v.nb⟩) := by
  obtain ⟨ℓ, s, g1, rfl, g3, g4, ⟨i1, i2, i3, i4, i5⟩, g6⟩ := h
  refine (sh_begin2 g1 h0 h1 (by rw [i1]; exact hf) (by omega)).mono fun e W' ht => at_step g1 rfl g3 g4 g6 ht ?_
  rintro s' ⟨j1, j2, j3, j4, j5⟩
  exact ⟨fun m => by rw [j1]; unfold upd; split <;> simp_all, by rw [j2]; exact i2, by show s'.T.length ≤ v.nT + 1; omega, by rw [j2]; exact i4, by rw [j3, j4]; exact i5⟩
theorem at_put {w W : World} {c : Nat} {v : Vw} {F : Nat → Prop} (h : AtS w W c v F) {n : Int} (hn : i64ok n) (sp k r : List UInt8) (kA rA : Option Addr) (kn kc rn rc : Nat) (hkn : k.length = kn) (hrn : r.length = rn) {cs : List ChC} (hx : v.tx n = some (cs, false)) (hs : sp.length ≤ 32) (hk : k.length ≤ 200) (hr : r.length ≤ 2000) (hkr : RdB W W.heap.size kA k) (hrr : RdB W W.heap.size rA r) (hfew : cs.length < 1000) : Calls Tryz.prog 13 #[.pointer (some ⟨c, 0, none⟩), .int .i64 n, .string (strB sp), .slice kA kn kc, .slice rA rn rc] W (AtT w W c F (.int .i64 0) ⟨upd v.tx n (some (cs ++ [(sp, k, r, false)], false)), v.V, v.nT, v.nS, v.nb⟩) := by
  obtain ⟨ℓ, s, g1, rfl, g3, g4, ⟨i1, i2, i3, i4, i5⟩, g6⟩ := h
  refine (sh_put2 g1 hn sp k r kA rA kn kc rn rc hkn hrn (by rw [i1]; exact hx) hs hk hr hkr hrr hfew).mono fun e W' ht => at_step g1 rfl g3 g4 g6 ht ?_
  rintro s' ⟨j1, j2, j3, j4, j5⟩
  exact ⟨fun m => by rw [j1]; unfold upd; split <;> simp_all, by rw [j2]; exact i2, by show s'.T.length ≤ v.nT; omega, by rw [j2]; exact i4, by rw [j3, j4]; exact i5⟩
/-- a shard on a new disk -/
theorem at_open {w w1 : World} {p : Nat} (hd : Dk w1 w.heap.size p p 0 0 []) (hb : Below w.heap.size w w1) : Calls Tryz.prog 9 #[.pointer (some ⟨p, 0, none⟩)] w1 (fun e w2 => ∃ c, e = .returned (.tuple #[.pointer (some ⟨c, 0, none⟩), .int .i64 0]) ∧ AtS w w2 c ⟨fun _ => none, fun _ => [], 0, 0, 0⟩ (fun _ => False)) := by
  have hlt : ∀ k, (fun k => if k < w.heap.size then 0 else 2) k < 3 := fun k => by show (if k < w.heap.size then 0 else 2) < 3; split <;> omega
  have hp2 : (fun k => if k < w.heap.size then 0 else 2) p = 2 := if_neg (by have := hd.ge.1; omega)
  refine (open_empty (ℓ := fun k => if k < w.heap.size then 0 else 2) (L := 2) (N := 3) (hd.more (Nat.zero_le _)) hp2 hp2 (by omega) hlt).mono ?_
  rintro e w2 ⟨ℓ2, s, rfl, hs, hO, he, hT, hS, hrs, hp, hL, hN, hb0, hc⟩
  have hb2 : Below w.heap.size w w2 := hb.trans (hO.below hb.size (fun j e => by
    have e2 : (if j < w.heap.size then 0 else 2) = 2 := e
    split at e2
    · cases e2
    · omega))
  refine ⟨s.c, rfl, ℓ2, s, hs, rfl, fun j hj => ?_, hb2, ⟨fun m => by rw [hT]; rfl, by rw [hS]; rfl, by rw [hT]; exact Nat.le_refl _, by rw [hS]; exact Nat.le_refl _, by rw [hb0, hrs]; exact Nat.le_refl _⟩, fun k hk => hk.elim⟩
  rw [he j (Nat.lt_of_lt_of_le hj hb.size)]
  exact if_pos hj
end
end Go.Proofs.YtkohppalfcalbaaGreat

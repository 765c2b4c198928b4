/- Package table: where a key stands: page and place. -/
import Derived.Test.YtkohppalfcalbaaGreatPX
namespace Go.Proofs.YtkohppalfcalbaaGreat
open Go.RowKit

/-- a page: its block, its slice, its entries -/
structure Pg where
  g : Nat
  v : Value
  es : List Ent
def pagesV (ps : List Pg) : List Value := ps.map Pg.v
/-- the last key -/
def lastK (es : List Ent) : List UInt8 := match es.getLast? with
  | some e => e.k
  | none => []
theorem lastK_at {es : List Ent} {n : Nat} {e : Ent} (h : es[n]? = some e) (hn : es.length = n + 1) : lastK es = e.k := by
  unfold lastK
  rw [List.getLast?_eq_getElem?, hn, Nat.add_sub_cancel, h]
/-- pages that lie at A, each of them readable -/
structure RdPs (w : World) (A : Option Addr) (ps : List Pg) : Prop where
  cells : RdC w w.heap.size A (pagesV ps)
  page : ∀ p ∈ ps, p.es ≠ [] ∧ p.es.length ≤ 1000 ∧ ∃ A' cap, p.v = .slice A' p.es.length cap ∧ RdE w A' p.es
theorem RdPs.below {w w' : World} {A : Option Addr} {ps : List Pg} (h : RdPs w A ps) (hb : Below w.heap.size w w') : RdPs w' A ps :=
  ⟨(h.cells.below hb (Nat.le_refl _)).more hb.size, fun p hp => by
    obtain ⟨h1, h2, A', cap, h3, h4⟩ := h.page p hp
    exact ⟨h1, h2, A', cap, h3, h4.below hb⟩⟩
theorem RdPs.heap {w w' : World} {A : Option Addr} {ps : List Pg} (h : RdPs w A ps) (e : w'.heap = w.heap) : RdPs w' A ps :=
  ⟨fun hn => by
    obtain ⟨b, o, e1, hlt, hc⟩ := h.cells hn
    exact ⟨b, o, e1, by rw [e]; exact hlt, fun j u hj => (World.cell?_of_block (by rw [e])).trans (hc j u hj)⟩, fun p hp => by
    obtain ⟨h1, h2, A', cap, h3, h4⟩ := h.page p hp
    exact ⟨h1, h2, A', cap, h3, h4.heap e⟩⟩
theorem RdPs.at_ {w : World} {A : Option Addr} {ps : List Pg} {i : Nat} {p : Pg} (h : RdPs w A ps) (hp : ps[i]? = some p) : ∃ b o A' cap, A = some ⟨b, o, none⟩ ∧ w.cell? ⟨b, o + i, none⟩ = some (.slice A' p.es.length cap) ∧ RdE w A' p.es ∧ p.v = .slice A' p.es.length cap := by
  have h1 : (pagesV ps)[i]? = some p.v := by unfold pagesV; rw [List.getElem?_map, hp]; rfl
  obtain ⟨b, o, e1, _, hc⟩ := h.cells (fun e0 => by rw [e0] at h1; simp at h1)
  obtain ⟨_, _, A', cap, h3, h4⟩ := h.page p (List.mem_of_getElem? hp)
  exact ⟨b, o, A', cap, e1, by rw [← h3]; exact hc _ _ h1, h4, h3⟩
set_option maxRecDepth 100000 in
set_option maxHeartbeats 1000000 in
theorem pageOrder_any (es : List Ent) (t : List UInt8) (A T : Option Addr) (k cap n d : Nat) (hk : es.length = k) (hk2 : k ≤ 1000) (hn : t.length = n) (w : World) (hne : es ≠ []) (hr : RdE w A es) (ht : RdB w w.heap.size T t) :
    Calls Tryz.prog 121 #[.slice A k cap, .slice T n d] w (Ans (.int .i64 (cmpB (lastK es) t)) w) := by
  obtain ⟨m, rfl⟩ : ∃ m, k = m + 1 := ⟨k - 1, by have := List.length_pos_iff.2 hne; omega⟩
  obtain ⟨x, hx⟩ : ∃ x, es[m]? = some x := ⟨_, List.getElem?_eq_getElem (by omega)⟩
  obtain ⟨b0, o0, hA, _, c0, c1⟩ := hr.at_ hx
  subst hA
  rw [lastK_at hx hk]
  have HF := Lib.hid (entOrder_any x.k t x.kA T x.rA x.k.length x.kc n d x.r.length x.rc rfl hn w (hr.ok x (List.mem_of_getElem? hx)) ht)
  obtain ⟨z, hz⟩ : ∃ z, z = cmpB x.k t := ⟨_, rfl⟩
  rw [← hz] at HF ⊢
  have hmi : (m : Int) + 1 ≤ 1000 := by omega
  clear hr ht hn hne hx hk hz
  go_enter Tryz.func121, Tryz.ntmps121
  go_wp2_with (go_at_call 160; refine HF.out.mono ?_; rintro e w2 ⟨rfl, hb2⟩; have HY := Lib.hid hb2; clear hb2)
  go_ret
  exact ⟨rfl, HY.out⟩
/-- so many pages end ahead of a key -/
structure SplitP (ps : List Pg) (t : List UInt8) (m : Nat) : Prop where
  le : m ≤ ps.length
  lo : ∀ j p, ps[j]? = some p → j < m → cmpB (lastK p.es) t < 0
  hi : ∀ j p, ps[j]? = some p → m ≤ j → 0 ≤ cmpB (lastK p.es) t
def endsAt (ps : List Pg) (m : Nat) (t : List UInt8) : Bool := match ps[m]? with
  | some p => decide (cmpB (lastK p.es) t = 0)
  | none => false
set_option maxRecDepth 100000 in
set_option maxHeartbeats 8000000 in
theorem searchP_any (ps : List Pg) (t : List UInt8) (m : Nat) (hs : SplitP ps t m) (A T : Option Addr) (cap n d : Nat) (hn : t.length = n) (w : World) (hl : ps.length ≤ 1000000) (hr : RdPs w A ps) (ht : RdB w w.heap.size T t) :
    Calls Tryz.prog 120 #[.slice A ps.length cap, .slice T n d, .func (.func 121) #[] #[]] w (Ans (.tuple #[.int .i64 (m : Int), .bool (endsAt ps m t)]) w) := by
  have HR := Lib.hid hr
  have HT := Lib.hid ht
  have HS := Lib.hid hs
  have HNL := Lib.hid hn
  have hli : (ps.length : Int) ≤ 1000000 := by omega
  have HST : Hid (BSE w ps.length m (.int .i64 0) (.int .i64 (ps.length : Int)) w) := Lib.hid ⟨0, _, rfl, rfl, Nat.zero_le _, hs.le, Nat.le_refl _, Below.refl _ _⟩
  obtain ⟨f, hf⟩ : ∃ f, Hid (f = endsAt ps m t) := ⟨_, Lib.hid rfl⟩
  rw [← hf.out]
  clear hr hs hl ht hn
  go_enter Tryz.func120, Tryz.ntmps120
  go_wp2_with fail
  go_loopw [9, 10] (fun v9 v10 wr => BSE w ps.length m v9 v10 wr) (fun v9 v10 _ => (intOf v10).toNat - (intOf v9).toNat)
  case atStart => exact HST.out
  case round =>
    obtain ⟨i, j, rfl, rfl, hi, hj, hjl, hb⟩ := hrel
    have HB := Lib.hid hb
    have hii : (i : Int) ≤ 1000000 := by omega
    have hji : (j : Int) ≤ 1000000 := by omega
    clear hb
    by_cases hlt : i < j
    · have hlti : (i : Int) < j := by omega
      obtain ⟨h, hh⟩ : ∃ h, h = (i + j) / 2 := ⟨_, rfl⟩
      have hhi : ((i : Int) + (j : Int)) / 2 = (h : Int) := by omega
      have h1 : i ≤ h := by omega
      have h2 : h < j := by omega
      have h3 : (h : Int) < (ps.length : Int) := by omega
      obtain ⟨x, hx⟩ : ∃ x, ps[h]? = some x := ⟨_, List.getElem?_eq_getElem (by omega)⟩
      obtain ⟨b0, o0, A', cp, hA, c0, hre, _⟩ := (HR.out.below HB.out).at_ hx
      subst hA
      obtain ⟨hne, hk2, _⟩ := HR.out.page x (List.mem_of_getElem? hx)
      have HF := Lib.hid (fun W (e : W.heap = wr.heap) => pageOrder_any x.es t A' T x.es.length cp n d rfl hk2 HNL.out W hne (hre.heap e) (((HT.out.below HB.out (Nat.le_refl _)).more (by rw [e]; exact HB.out.size)).heap e))
      clear hre hne hk2
      by_cases hxn : cmpB (lastK x.es) t < 0
      · have hhm : h < m := by
          rcases Nat.lt_or_ge h m with h4 | h4
          · exact h4
          · have := HS.out.hi h x hx h4; omega
        have HN : Hid (∀ v9 w2, v9 = .int .i64 ((h + 1 : Nat) : Int) → Below wr.heap.size wr w2 → BSE w ps.length m v9 (.int .i64 (j : Int)) w2) := Lib.hid fun v9 w2 h9 hb2 => ⟨h + 1, j, h9, rfl, hhm, hj, hjl, HB.out.trans (hb2.mono HB.out.size)⟩
        obtain ⟨c, hc⟩ : ∃ c, c = cmpB (lastK x.es) t := ⟨_, rfl⟩
        rw [← hc] at HF hxn
        clear hc hh hx hi hj hjl hhm
        go_wp2_with (go_at_call 121; refine (HF.out _ rfl).mono ?_; rintro e w2 ⟨rfl, hb2⟩; have HY := Lib.hid (fun v9 h9 => HN.out v9 _ h9 hb2); clear hb2)
        go_roundw
        case rel => first | exact HY.out _ (by go_num) | ((repeat apply Exists.intro); exact ⟨HY.out _ (by go_num), rfl⟩)
        case measure => clear HF; simp [intOf]; omega
      · have hhm : m ≤ h := by
          rcases Nat.lt_or_ge h m with h4 | h4
          · have := HS.out.lo h x hx h4; omega
          · exact h4
        have HN : Hid (∀ w2, Below wr.heap.size wr w2 → BSE w ps.length m (.int .i64 (i : Int)) (.int .i64 (h : Int)) w2) := Lib.hid fun w2 hb2 => ⟨i, h, rfl, rfl, hi, hhm, by omega, HB.out.trans (hb2.mono HB.out.size)⟩
        obtain ⟨c, hc⟩ : ∃ c, c = cmpB (lastK x.es) t := ⟨_, rfl⟩
        rw [← hc] at HF hxn
        clear hc hh hx hi hj hjl hhm
        go_wp2_with (go_at_call 121; refine (HF.out _ rfl).mono ?_; rintro e w2 ⟨rfl, hb2⟩; have HY := Lib.hid (HN.out _ hb2); clear hb2)
        go_roundw
        case rel => first | exact HY.out | ((repeat apply Exists.intro); exact ⟨HY.out, rfl⟩)
        case measure => clear HF; simp [intOf]; omega
    · have him : i = m := by omega
      subst him
      have hlti : ¬ (i : Int) < j := by omega
      by_cases hil : i < ps.length
      · have hili : (i : Int) < (ps.length : Int) := by omega
        obtain ⟨x, hx⟩ : ∃ x, ps[i]? = some x := ⟨_, List.getElem?_eq_getElem hil⟩
        obtain ⟨b0, o0, A', cp, hA, c0, hre, _⟩ := (HR.out.below HB.out).at_ hx
        subst hA
        obtain ⟨hne, hk2, _⟩ := HR.out.page x (List.mem_of_getElem? hx)
        have HF := Lib.hid (fun W (e : W.heap = wr.heap) => pageOrder_any x.es t A' T x.es.length cp n d rfl hk2 HNL.out W hne (hre.heap e) (((HT.out.below HB.out (Nat.le_refl _)).more (by rw [e]; exact HB.out.size)).heap e))
        clear hre hne hk2
        obtain ⟨c, hc⟩ : ∃ c, c = cmpB (lastK x.es) t := ⟨_, rfl⟩
        have hcz : Hid (f = (c == 0)) := Lib.hid (by rw [hf.out, hc]; unfold endsAt; rw [hx]; rfl)
        rw [← hc] at HF
        clear hc hx hi hj hjl
        go_wp2_with (go_at_call 121; refine (HF.out _ rfl).mono ?_; rintro e w2 ⟨rfl, hb2⟩; have HY := Lib.hid (HB.out.trans (hb2.mono HB.out.size)); clear hb2)
        go_ret2
        exact ⟨by rw [hcz.out]; rfl, HY.out⟩
      · have hili : ¬ (i : Int) < (ps.length : Int) := by omega
        have hcz : Hid (f = false) := Lib.hid (by rw [hf.out]; unfold endsAt; rw [List.getElem?_eq_none (by omega)])
        clear hi hj hjl
        go_wp2_with fail
        go_ret2
        exact ⟨by rw [hcz.out]; rfl, HB.out⟩
/-- where a key stands: its page, its place there, and whether it is there -/
structure FindAt (ps : List Pg) (t : List UInt8) (i j : Nat) (f : Bool) : Prop where
  page : SplitP ps t i
  here : ∀ p, ps[i]? = some p → SplitB p.es t j ∧ f = hasAt p.es j t
  past : i = ps.length → j = 0 ∧ f = false
set_option maxRecDepth 100000 in
set_option maxHeartbeats 4000000 in
theorem findT_any {w : World} {q : Nat} {ps : List Pg} {A : Option Addr} {c cap : Nat} (hbox : w.heap[q]? = some (.cells #[.slice A ps.length cap, .int .i64 (c : Int)] 147 (0, 0))) (hr : RdPs w A ps) (hl : ps.length ≤ 1000000) (t : List UInt8) (T : Option Addr) (n d : Nat) (hn : t.length = n) (ht : RdB w w.heap.size T t) {i j : Nat} {f : Bool} (hf : FindAt ps t i j f) :
    Calls Tryz.prog 89 #[.pointer (some ⟨q, 0, none⟩), .slice T n d] w (Ans (.tuple #[.int .i64 (i : Int), .int .i64 (j : Int), .bool f]) w) := by
  have HS := Lib.hid (searchP_any ps t i hf.page A T cap n d hn w hl hr ht)
  have HX : Hid (∀ W, Below w.heap.size w W → W.cell? ⟨q, 0, none⟩ = some (.slice A ps.length cap)) := Lib.hid fun W hb => (box2 ((hb.block q (Array.getElem?_eq_some_iff.1 hbox).1).trans hbox)).1
  have x0 := (box2 hbox).1
  have hil := hf.page.le
  have hli : (ps.length : Int) ≤ 1000000 := by omega
  have hili : (i : Int) ≤ (ps.length : Int) := by omega
  obtain ⟨b0, hb0⟩ : ∃ b, b = endsAt ps i t := ⟨_, rfl⟩
  rw [← hb0] at HS
  by_cases hlt : i < ps.length
  · have hlti : (i : Int) < (ps.length : Int) := by omega
    obtain ⟨x, hx⟩ : ∃ x, ps[i]? = some x := ⟨_, List.getElem?_eq_getElem hlt⟩
    obtain ⟨hsb, rfl⟩ := hf.here x hx
    obtain ⟨hne, hk2, _⟩ := hr.page x (List.mem_of_getElem? hx)
    obtain ⟨b1, o1, A', cp, hA, c0, hre, _⟩ := hr.at_ hx
    subst hA
    have HP : Hid (∀ W, Below w.heap.size w W → Calls Tryz.prog 122 #[.slice A' x.es.length cp, .slice T n d] W (Ans (.tuple #[.int .i64 (j : Int), .bool (hasAt x.es j t)]) W)) := Lib.hid fun W hb => pageFind_any x.es t j hsb A' T x.es.length cp n d rfl hn W (by omega) (hre.below hb) ((ht.below hb (Nat.le_refl _)).more hb.size)
    have HC : Hid (∀ W, Below w.heap.size w W → W.cell? ⟨b1, o1 + i, none⟩ = some (.slice A' x.es.length cp)) := Lib.hid fun W hb => (World.cell?_of_block (hb.block b1 (block_lt_of_cell c0))).trans c0
    obtain ⟨h, hh⟩ : ∃ h, h = hasAt x.es j t := ⟨_, rfl⟩
    rw [← hh] at HP ⊢
    clear hf hr ht hn hbox hb0 hx hsb hne hk2 hre c0 hh hl hil
    go_enter Tryz.func89, Tryz.ntmps89
    go_wp2_with (first
      | (go_at_call 120; refine HS.out.mono ?_; rintro e w2 ⟨rfl, hb⟩
         have HB := Lib.hid hb
         have HP2 := Lib.hid (HP.out w2 hb)
         have y0 := HX.out w2 hb
         have y1 := HC.out w2 hb
         clear hb)
      | (go_at_call 122; refine HP2.out.mono ?_; rintro e w3 ⟨rfl, hb⟩
         have HY := Lib.hid (HB.out.trans (hb.mono HB.out.size))
         clear hb))
    first
      | (go_ret3; exact ⟨rfl, HY.out⟩)
      | (refine bodyPost_ret (v := .tuple #[.int .i64 (i : Int), .int .i64 (j : Int), .bool h]) (by simp [results, Tryz.results89, go_sem]) rfl ?_; exact ⟨rfl, HY.out⟩)
  · have hlti : ¬ (i : Int) < (ps.length : Int) := by omega
    obtain ⟨rfl, rfl⟩ := hf.past (by omega)
    have hbf : b0 = false := by rw [hb0]; unfold endsAt; rw [List.getElem?_eq_none (by omega)]
    subst hbf
    clear hf hr ht hn hbox hb0 hl hil
    go_enter Tryz.func89, Tryz.ntmps89
    go_wp2_with (go_at_call 120; refine HS.out.mono ?_; rintro e w2 ⟨rfl, hb⟩
                 have HB := Lib.hid hb
                 have y0 := HX.out w2 hb
                 clear hb)
    first
      | (go_ret3; exact ⟨rfl, HB.out⟩)
      | (refine bodyPost_ret (v := .tuple #[.int .i64 (i : Int), .int .i64 0, .bool false]) (by simp [results, Tryz.results89, go_sem]) rfl ?_; exact ⟨rfl, HB.out⟩)
end Go.Proofs.YtkohppalfcalbaaGreat

/- Package table: a page's copy, and Copy. -/
import Derived.Test.YtfmhijaljlmgaaaYH
import Derived.Test.YtfmhijaljlmgaaaYD
namespace Go.Proofs.Ytfmhijaljlmgaaa
open Go.RowKit

theorem alloc_sz_ (w : World) (o : Obj) : (w.alloc o).heap.size = w.heap.size + 1 := by simp

/-- the blocks of entries' bytes are not one block -/
def SepE (g : Nat) (es : List Ent) : Prop := ∀ e ∈ es, (∀ b, (Value.slice e.kA e.k.length e.kc).ownBlock = some b → b ≠ g) ∧ (∀ b, (Value.slice e.rA e.r.length e.rc).ownBlock = some b → b ≠ g)
/-- what a page's copy is -/
def PcT (w : World) (q : Nat) (es : List Ent) (en : Ending) (w' : World) : Prop := ∃ g v es', en = .returned v ∧ HeldC w' q g 2 v es'.length (entV es') ∧ w.heap.size ≤ g ∧ g < w'.heap.size ∧ OwnEs w' w.heap.size es' ∧ SepE g es' ∧ kv es' = kv es ∧ Below w.heap.size w w'
/-- between two rounds -/
def PcL (w : World) (q : Nat) (es : List Ent) (v3 v11 : Value) (W : World) : Prop := ∃ (i : Nat) (y : Value) (g : Nat) (es' : List Ent), y = v3 ∧ v11 = .int .i64 (i : Int) ∧ i ≤ es.length ∧ es'.length = i ∧ HeldC W q g 2 y i (entV es') ∧ w.heap.size ≤ g ∧ g < W.heap.size ∧ OwnEs W w.heap.size es' ∧ SepE g es' ∧ kv es' = kv (es.take i) ∧ Below w.heap.size w W
theorem OwnEs.kept {K : Nat → Prop} {w w' : World} {B g : Nat} {es : List Ent} (h : OwnEs w B es) (hs : SepE g es) (hO : Only K w w') (hK : ∀ j, j ≠ g → j < w.heap.size → ¬ K j) : OwnEs w' B es := fun e he =>
  ⟨(h e he).1.kept hO fun b hb => hK b ((hs e he).1 b hb) ((h e he).1.lt_ b hb), (h e he).2.kept hO fun b hb => hK b ((hs e he).2 b hb) ((h e he).2.lt_ b hb)⟩
theorem OwnEs.below {w w' : World} {B : Nat} {es : List Ent} (h : OwnEs w B es) (hb : Below w.heap.size w w') : OwnEs w' B es := fun e he => ⟨(h e he).1.below hb, (h e he).2.below hb⟩
theorem kv_next {es es' : List Ent} {i : Nat} {x e' : Ent} (hkv : kv es' = kv (es.take i)) (hx : es[i]? = some x) (hk : e'.k = x.k) (hr : e'.r = x.r) : kv (es' ++ [e']) = kv (es.take (i + 1)) := by
  rw [List.take_add_one, hx, Option.toList_some]
  unfold kv at hkv ⊢
  rw [List.map_append, hkv, List.map_append]
  simp [hk, hr]
/-- a round -/
theorem PcL.next {w W w3 w4 w5 : World} {q g g' i : Nat} {es es' : List Ent} {v5 : Value} {x e' : Ent} (hx : es[i]? = some x) (hi' : es'.length = i) (hg : w.heap.size ≤ g) (hgl : g < W.heap.size) (hown : OwnEs W w.heap.size es') (hsep : SepE g es') (hkv : kv es' = kv (es.take i)) (hbl : Below w.heap.size w W)
    (hk : e'.k = x.k) (hr : e'.r = x.r) (hb3 : Below W.heap.size W w3) (hok : OwnB w3 W.heap.size (.slice e'.kA e'.k.length e'.kc) e'.k) (hor : OwnB w3 W.heap.size (.slice e'.rA e'.r.length e'.rc) e'.r) (hb4 : Below w3.heap.size w3 w4)
    (h5 : HeldC w5 q g' 2 v5 (i + 1) (entV es' ++ [.slice e'.kA e'.k.length e'.kc, .slice e'.rA e'.r.length e'.rc])) (hO : Only (fun k => k = g ∧ k ≠ q) w4 w5) (hg' : g' = g ∨ w4.heap.size ≤ g') (v11 : Value) (h11 : v11 = .int .i64 ((i + 1 : Nat) : Int)) :
    PcL w q es v5 v11 w5 := by
  have s0 := hbl.size
  have s3 := hb3.size
  have s4 := hb4.size
  have s5 := hO.size
  have hlt := (List.getElem?_eq_some_iff.1 hx).1
  have hO3 : Only (fun k => k = g ∧ k ≠ q) w3 w5 := (Only.of_below (K := fun k => k = g ∧ k ≠ q) hb4).trans hO (fun _ _ e => e)
  have hO0 : Only (fun k => k = g ∧ k ≠ q) W w5 := (Only.of_below (K := fun k => k = g ∧ k ≠ q) hb3).trans hO3 (fun _ _ e => e)
  refine ⟨i + 1, v5, g', es' ++ [e'], rfl, h11, hlt, by rw [List.length_append, List.length_singleton, hi'], ?_, by omega, ?_, ?_, ?_, kv_next hkv hx hk hr, hbl.trans (hO0.below s0 (fun j e => by omega))⟩
  · rw [entV_app]
    exact h5
  · rcases h5 with ⟨_, h0, _⟩ | ⟨_, o, cap, _, ho⟩
    · omega
    · exact ho.lt
  · intro e he
    rcases List.mem_append.1 he with he | he
    · exact (hown.kept hsep hO0 (fun j hj _ e => hj e.1)) e he
    · rcases List.mem_singleton.1 he with rfl
      exact ⟨(hok.kept hO3 (fun b hb e2 => by have := hok.ge b hb; omega)).down (by omega), (hor.kept hO3 (fun b hb e2 => by have := hor.ge b hb; omega)).down (by omega)⟩
  · intro e he
    rcases List.mem_append.1 he with he | he
    · exact ⟨fun b hb e2 => by have := (hsep e he).1 b hb; have := (hown e he).1.lt_ b hb; omega, fun b hb e2 => by have := (hsep e he).2 b hb; have := (hown e he).2.lt_ b hb; omega⟩
    · rcases List.mem_singleton.1 he with rfl
      exact ⟨fun b hb e2 => by have := hok.ge b hb; have := hok.lt_ b hb; omega, fun b hb e2 => by have := hor.ge b hb; have := hor.lt_ b hb; omega⟩
theorem two_slices (w : World) (x y : Value) (t : TypeId) (j : Nat) (u : Value) (h : [x, y][j]? = some u) : (w.alloc (.cells #[x, y] t)).cell? ((⟨w.heap.size, 0, none⟩ : Addr).add j) = some u := by
  have hb := box2 (heap_alloc_new w (.cells #[x, y] t))
  match j with
  | 0 => simp at h; subst h; exact hb.1
  | 1 => simp at h; subst h; exact hb.2
  | j + 2 => simp at h
theorem one2 (a : Option Addr) (n c : Nat) (b : Option Addr) (m d : Nat) : ∀ u ∈ [Value.slice a n c, .slice b m d], u.oneCell' = true := by
  intro u hu
  simp at hu
  rcases hu with rfl | rfl <;> rfl
set_option maxRecDepth 100000 in
set_option maxHeartbeats 8000000 in
theorem pageCopied_any (es : List Ent) (A : Option Addr) (n cap q : Nat) (w : World) (hn : es.length = n) (hn2 : n ≤ 900) (hr : RdL w A es) (hl : ∀ e ∈ es, e.k.length ≤ 100000 ∧ e.r.length ≤ 100000) (hq : q < w.heap.size) :
    Calls Try.prog 23 #[.slice A n cap] w (PcT w q es) := by
  obtain ⟨i0, hi, hz0, hz1, hz2⟩ := info_parts infoE
  have HN := Lib.hid hn
  have HR := Lib.hid hr
  have HL := Lib.hid hl
  have HQ := Lib.hid hq
  have HNN := Lib.hid hn2
  have hni : (n : Int) ≤ 900 := by omega
  clear hn hr hl hq hn2
  go_enter Try.func23, Try.ntmps23
  go_wp2_with (at_make
               refine wpList_make_own _ rfl _ _ 58 rfl w.heap.size 46 i0 (.agg #[.slice none 0 0, .slice none 0 0]) 2 Try.underlying58 hi hz0 hz1 .i64 .i64 (n : Int) n rfl rfl rfl (by rw [hz2]; have := HNN.out; omega) (by have := HNN.out; unfold maxLen; omega) (Nat.le_refl _) ?_
               intro w1 hown hgrow
               have HST : Hid (PcL w q es (.slice (some ⟨w.heap.size, 0, none⟩) 0 n) (.int .i64 0) w1) := Lib.hid (by
                 obtain ⟨h1, _, h3⟩ := ownC_of_row hown
                 exact ⟨0, _, w.heap.size, [], rfl, rfl, Nat.zero_le _, rfl, .inr ⟨fun e => by have := HQ.out; omega, 0, n, rfl, h1⟩, Nat.le_refl _, h1.lt, fun e he => by simp at he, fun e he => by simp at he, rfl, (Only.of_grown hgrow).below (Nat.le_refl _) (fun j e => by cases e)⟩)
               clear hown hgrow)
  go_loopw [3, 11] (fun v3 v11 wr => PcL w q es v3 v11 wr) (fun _ v11 _ => n - (intOf v11).toNat)
  case atStart => exact HST.out
  case round =>
    obtain ⟨i, y, g, es', rfl, rfl, hil, hi', hheld, hg, hgl, hown, hsep, hkv, hbl⟩ := hrel
    obtain ⟨A1, c1, rfl, hc1, _⟩ := hheld.slice
    have HEN : Hid (i = n → PcT w q es (.returned (.slice A1 i c1)) wr) := Lib.hid fun e => ⟨g, _, es', rfl, by rw [hi']; exact hheld, hg, hgl, hown, hsep, by rw [hkv, List.take_of_length_le (by rw [HN.out]; omega)], hbl⟩
    have hin : i ≤ n := by rw [← HN.out]; exact hil
    by_cases hlt : i < n
    · have hlti : (i : Int) < (n : Int) := by omega
      have hi00 : 0 ≤ (i : Int) := by omega
      obtain ⟨x, hx⟩ : ∃ x, es[i]? = some x := ⟨_, List.getElem?_eq_getElem (by rw [HN.out]; exact hlt)⟩
      have hw := HR.out.at_ hx hbl
      obtain ⟨b, o, hA, c0, c1'⟩ := hw
      subst hA
      have hRB := HR.out.below hbl
      have hxm := List.mem_of_getElem? hx
      have hLX := HL.out x hxm
      have hb1 : Below wr.heap.size wr (wr.alloc (.cells #[.slice x.kA x.k.length x.kc, .slice x.rA x.r.length x.rc] 46)) := alloc_below _ _
      have HC := Lib.hid (entCopied_any x.kA x.rA x.k x.r x.kc x.rc _ _ rfl rfl (wr.alloc (.cells #[.slice x.kA x.k.length x.kc, .slice x.rA x.r.length x.rc] 46)) (((hRB.key x hxm).below hb1 (Nat.le_refl _)).more hb1.size) (((hRB.row x hxm).below hb1 (Nat.le_refl _)).more hb1.size) hLX.1 hLX.2)
      have HNX := Lib.hid (fun (w3 w4 w5 : World) (g' : Nat) (v5 : Value) (e' : Ent) => PcL.next (q := q) (w3 := w3) (w4 := w4) (w5 := w5) (g' := g') (v5 := v5) (e' := e') hx hi' hg hgl hown hsep hkv hbl)
      have HHE := Lib.hid hheld
      have HWS := Lib.hid (show q < wr.heap.size from Nat.lt_of_lt_of_le HQ.out hbl.size)
      have HB1 := Lib.hid hb1
      have HI := Lib.hid hlt
      clear hx hheld hg hgl hown hsep hkv hbl hRB hxm hLX hb1 hil hi' hin hlt
      go_wp2_with (first
        | (go_at_call 25; refine HC.out.mono ?_; rintro e w3 ⟨⟨kA', k', kc', rA', r', rc'⟩, rfl, hek, her, hk', hr', hb⟩
           simp only at hek her hk' hr'
           have hb3 := HB1.out.trans (hb.mono HB1.out.size)
           have HK3 := Lib.hid (And.intro hek (And.intro her (And.intro (hk'.down HB1.out.size) (And.intro (hr'.down HB1.out.size) hb3))))
           dsimp only [Ent.v]
           clear hek her hk' hr' hb hb3)
        | (at_builtin
           refine wpList_appHC (n := i) (m := 1) (ys := [.slice kA' k'.length kc', .slice rA' r'.length rc']) (by rfl) _ _ 58 46 (by rfl) Try.underlying58 hi hz0 hz1 hz2 (by rfl) (by omega) (by rfl) (HHE.out.only (Only.of_below (K := fun _ => False) (HK3.out.2.2.2.2.trans ((alloc_below w3 _).mono HK3.out.2.2.2.2.size))) (fun _ => id)) (by have := HWS.out; have := HK3.out.2.2.2.2.size; have := alloc_sz_ w3 (.cells #[.slice kA' k'.length kc', .slice rA' r'.length rc'] 46); omega) (by rfl) (by rfl) (two_slices _ _ _ _) (one2 _ _ _ _ _ _) (by have := HI.out; have := HNN.out; omega) (by have := HI.out; have := HNN.out; omega) ?_
           intro g5 v5 w5 ho5 hO5 hg5
           obtain ⟨A5, cap5, hv5, _⟩ := ho5.slice
           subst hv5
           have HZ : Hid (∀ v11, v11 = .int .i64 ((i + 1 : Nat) : Int) → PcL w q es (.slice A5 (i + 1) cap5) v11 w5) := Lib.hid (fun v11 h11 => HNX.out w3 _ w5 g5 _ ⟨kA', k', kc', rA', r', rc'⟩ HK3.out.1 HK3.out.2.1 HK3.out.2.2.2.2 HK3.out.2.2.1 HK3.out.2.2.2.1 (alloc_below _ _) ho5 hO5 hg5 v11 h11)
           clear ho5 hO5 hg5)
        | fail)
      go_roundw
      case rel => first | exact HZ.out _ (by go_num) | ((repeat apply Exists.intro); exact ⟨HZ.out _ (by go_num), rfl⟩)
      case measure => have := HI.out; simp [intOf]; omega
    · have hie : i = n := by omega
      subst hie
      have hlti : ¬ (i : Int) < (i : Int) := by omega
      have HZ := Lib.hid (HEN.out rfl)
      clear hheld hg hgl hown hsep hkv hbl hil hi' hin hlt HEN
      go_wp2_with fail
      go_ret
      exact HZ.out
end Go.Proofs.Ytfmhijaljlmgaaa

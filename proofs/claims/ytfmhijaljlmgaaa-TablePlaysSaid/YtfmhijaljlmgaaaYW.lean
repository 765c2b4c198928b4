/- TablePlays: words of its law. -/
import Derived.Test.YtfmhijaljlmgaaaYV
namespace Go.Proofs.Ytfmhijaljlmgaaa
open Go.RowKit

/-- Put, with where its blocks come from -/
def Pt3 (w0 W : World) (G D : Nat → Prop) (q : Nat) (L : List (List UInt8 × List UInt8)) (key : List UInt8) (L' : List (List UInt8 × List UInt8)) (e : Ending) (W' : World) : Prop := ∃ (G' D' : Nat → Prop) (P' : Nat) (ps' : List Pg) (A : Option Addr) (n c : Nat), e = .returned (.tuple #[.slice A n c, .bool (getK L key).isSome]) ∧ TaW w0 W' G' D' q P' ps' L' ∧ RdB W' W'.heap.size A ((getK L key).getD []) ∧ ((getK L key).getD []).length = n ∧ Only G W W' ∧ ∀ j, G' j ∨ D' j → G j ∨ D j ∨ W.heap.size ≤ j
theorem TaW.put3 {w0 W : World} {G D : Nat → Prop} {q P : Nat} {ps : List Pg} {l : List (List UInt8 × List UInt8)} (h : TaW w0 W G D q P ps l) (hl : l.length ≤ 899) (key row : List UInt8) (K A : Option Addr) (kn kc rn rc : Nat) (hkn : key.length = kn) (hrn : row.length = rn) (hkl : key.length ≤ 100000) (hrl : row.length ≤ 100000) (hk : RdB W W.heap.size K key) (hr : RdB W W.heap.size A row) :
    Calls Try.prog 8 #[.pointer (some ⟨q, 0, none⟩), .slice K kn kc, .slice A rn rc] W (Pt3 w0 W G D q l key (putK l key row)) := by
  have hkv := h.kv
  subst hkv
  refine (put_any h.tb (by simpa [Go.Proofs.Ytfmhijaljlmgaaa.kv] using hl) key row K A kn kc rn rc hkn hrn hkl hrl hk hr).mono ?_
  rintro e w' ⟨G', D', P', ps', A', n, c, rfl, h1, h2, h3, h4, h5, h6⟩
  exact ⟨G', D', P', ps', A', n, c, rfl, ⟨h1, h2, fun j hj => by
    rcases h3 j hj with h7 | h7 | h7
    · exact h.ge j (.inl h7)
    · exact h.ge j (.inr h7)
    · exact Nat.le_trans h.bel.size h7, h.bel.trans (h4.below h.bel.size (fun j hj => h.ge j (.inl hj)))⟩, h5, h6, h4, h3⟩
theorem TaW.drop3 {w0 W : World} {G D : Nat → Prop} {q P : Nat} {ps : List Pg} {l : List (List UInt8 × List UInt8)} (h : TaW w0 W G D q P ps l) (key : List UInt8) (K : Option Addr) (kn kc : Nat) (hkn : key.length = kn) (hk : RdB W W.heap.size K key) :
    Calls Try.prog 10 #[.pointer (some ⟨q, 0, none⟩), .slice K kn kc] W (Pt3 w0 W G D q l key (dropK l key)) := by
  have hkv := h.kv
  subst hkv
  refine (drop_any h.tb key K kn kc hkn hk).mono ?_
  rintro e w' ⟨G', P', ps', A', n, c, rfl, h1, h2, h3, h4, h5, h6⟩
  exact ⟨G', D, P', ps', A', n, c, rfl, ⟨h1, h2, fun j hj => by
    rcases hj with hj | hj
    · rcases h3 j hj with h7 | h7
      · exact h.ge j (.inl h7)
      · exact Nat.le_trans h.bel.size h7
    · exact h.ge j (.inr hj), h.bel.trans (h4.below h.bel.size (fun j hj => h.ge j (.inl hj)))⟩, h5, h6, h4, fun j hj => by
    rcases hj with hj | hj
    · rcases h3 j hj with h7 | h7
      · exact .inl h7
      · exact .inr (.inr h7)
    · exact .inr (.inl hj)⟩
/-- bytes that may be turned, whatever they are -/
def FB (W : World) (g o m : Nat) : Prop := ∀ j, j < m → (∃ z : Int, W.cell? ⟨g, o + j, none⟩ = some (.int .u8 z)) ∧ W.frozen? ⟨g, o + j, none⟩ = false
theorem FB.set {W : World} {g o m : Nat} (h : FB W g o m) {b i : Nat} {u : Value} (hu : W.cell? ⟨b, i, none⟩ = some u) (z : Int) : FB (W.setCell ⟨b, i, none⟩ (.int .u8 z)) g o m := fun j hj => by
  obtain ⟨⟨y, h1⟩, h2⟩ := h j hj
  refine ⟨?_, by rw [World.frozen?_setCell]; exact h2⟩
  by_cases e : (⟨b, i, none⟩ : Addr) = ⟨g, o + j, none⟩
  · rw [← e]
    exact ⟨z, World.cell?_setCell_same _ _ _ hu⟩
  · exact ⟨y, by rw [World.cell?_setCell_other _ _ _ _ e]; exact h1⟩
theorem FB.keep {W W' : World} {g o m : Nat} (h : FB W g o m) (e : W'.heap[g]? = W.heap[g]?) : FB W' g o m := fun j hj => by
  obtain ⟨⟨y, h1⟩, h2⟩ := h j hj
  exact ⟨⟨y, (World.cell?_of_block (a := ⟨g, o + j, none⟩) e).trans h1⟩, (World.frozen?_of_block (a := ⟨g, o + j, none⟩) e).trans h2⟩
/-- a slice of such -/
def FrB (W : World) (A : Option Addr) (m : Nat) : Prop := 0 < m → ∃ g, A = some ⟨g, 0, none⟩ ∧ g < W.heap.size ∧ FB W g 0 m
theorem OwnB.lenT {w : World} {B n cap : Nat} {A : Option Addr} {l : List UInt8} (h : OwnB w B (.slice A n cap) l) : l.length = n := by
  obtain ⟨_, _, _, e, _⟩ := h
  injection e with _ e _
  exact e.symm
theorem OwnB.cell_freeT {w : World} {B g n cap : Nat} {l : List UInt8} (h : OwnB w B (.slice (some ⟨g, 0, none⟩) n cap) l) {m : Nat} (hm : m < l.length) : (∃ v, w.cell? ⟨g, m, none⟩ = some v) ∧ w.frozen? ⟨g, m, none⟩ = false := by
  have e0 := h.lenT
  subst e0
  have h2 := h.1.cells (g := g) rfl m (.int .u8 ((l[m]).toNat : Int)) (by simp [bytesV, hm])
  rw [add_plain] at h2
  exact ⟨⟨_, h2⟩, h.1.frozenAt m⟩
theorem OwnB.frB {W : World} {B n c : Nat} {A : Option Addr} {l : List UInt8} (h : OwnB W B (.slice A n c) l) : FrB W A n := fun hn => by
  have hl := h.lenT
  obtain ⟨g, cap, e, hB⟩ := h.head (by omega)
  injection e with e1 e2 e3
  subst e1 e3
  have hlt := h.lt_ g rfl
  refine ⟨g, rfl, hlt, fun j hj => ?_⟩
  obtain ⟨_, hf⟩ := h.cell_freeT (m := j) (by omega)
  rw [Nat.zero_add]
  refine ⟨?_, hf⟩
  obtain ⟨b, hb⟩ : ∃ b, l[j]? = some b := ⟨_, List.getElem?_eq_getElem (by omega)⟩
  obtain ⟨ad, e1, _, hc⟩ := h.rd (fun e0 => by rw [e0] at hl; simp at hl; omega)
  injection e1 with e1
  subst e1
  have h2 := hc j b hb
  rw [Addr.add_lit, Nat.zero_add] at h2
  exact ⟨_, h2⟩
theorem FrB.set {W : World} {A : Option Addr} {m : Nat} (h : FrB W A m) {b i : Nat} {u : Value} (hu : W.cell? ⟨b, i, none⟩ = some u) (z : Int) : FrB (W.setCell ⟨b, i, none⟩ (.int .u8 z)) A m := fun hm => by
  obtain ⟨g, h1, h2, h3⟩ := h hm
  exact ⟨g, h1, Nat.lt_of_lt_of_le h2 (Only.set W b i (.int .u8 z)).size, h3.set hu z⟩
theorem FrB.below {W W' : World} {A : Option Addr} {m : Nat} (h : FrB W A m) (hb : Below W.heap.size W W') : FrB W' A m := fun hm => by
  obtain ⟨g, h1, h2, h3⟩ := h hm
  exact ⟨g, h1, Nat.lt_of_lt_of_le h2 hb.size, h3.keep (hb.block g h2)⟩
theorem OwnB.empty_at (w : World) {g : Nat} (hg : g = w.heap.size) : OwnB (w.alloc (.cells #[] 5)) g (.slice (some ⟨g, 0, none⟩) 0 0) [] := by
  subst hg
  exact ⟨⟨rfl, .inr ⟨_, 0, #[], rfl, Nat.le_refl _, heap_alloc_new w _, Nat.le_refl _, by unfold maxLen; omega, rfl, rfl⟩⟩, _, _, rfl, Nat.le_refl _⟩
/-- the table, and the document's list -/
structure TpS (w0 W : World) (G D : Nat → Prop) (q P : Nat) (ps : List Pg) (L : List (List UInt8 × List UInt8)) (A : Option Addr) (n : Nat) : Prop where
  ta : TaW w0 W G D q P ps L
  rd : RdS W W.heap.size A L
  len : L.length = n
  sep : L ≠ [] → ∀ ad, A = some ad → ¬ G ad.block
theorem TpS.below {w0 W W' : World} {G D : Nat → Prop} {q P : Nat} {ps : List Pg} {L : List (List UInt8 × List UInt8)} {A : Option Addr} {n : Nat} (h : TpS w0 W G D q P ps L A n) (hb : Below W.heap.size W W') : TpS w0 W' G D q P ps L A n :=
  ⟨h.ta.below hb, (h.rd.below hb (Nat.le_refl _)).more hb.size, h.len, h.sep⟩
theorem RdS.only {K : Nat → Prop} {w w' : World} {A : Option Addr} {l : List (List UInt8 × List UInt8)} (h : RdS w w.heap.size A l) (hO : Only K w w') (hK : l ≠ [] → ∀ ad, A = some ad → ¬ K ad.block) : RdS w' w'.heap.size A l := fun hn => by
  obtain ⟨b, o, e, hlt, hc⟩ := h hn
  have hcell : ∀ j, w'.cell? ⟨b, j, none⟩ = w.cell? ⟨b, j, none⟩ := fun j => World.cell?_of_block (hO.block b hlt (hK hn _ e))
  refine ⟨b, o, e, Nat.lt_of_lt_of_le hlt hO.size, fun j x hj => ?_⟩
  rw [hcell, hcell]
  exact hc j x hj
theorem RdS.blk {w : World} {B : Nat} {A : Option Addr} {l : List (List UInt8 × List UInt8)} (h : RdS w B A l) (hn : l ≠ []) : ∀ ad, A = some ad → ad.block < B := fun ad e => by
  obtain ⟨b, o, e1, hlt, _⟩ := h hn
  rw [e] at e1
  injection e1 with e1
  rw [e1]; exact hlt
/-- at the head of the loop over the script -/
def TpL (w0 : World) (N : Nat) (v5 v6 v7 : Value) (W : World) : Prop := ∃ (i : Nat) (G D : Nat → Prop) (q P : Nat) (ps : List Pg) (L : List (List UInt8 × List UInt8)) (A : Option Addr) (n c : Nat), v5 = .pointer (some ⟨q, 0, none⟩) ∧ v6 = .slice A n c ∧ v7 = .int .i64 (i : Int) ∧ i ≤ N ∧ i ≤ 150 ∧ n ≤ i ∧ TpS w0 W G D q P ps L A n
/-- behind the switch: the key's own row lies apart -/
def TpM (w0 : World) (i : Nat) (K : Option Addr) (kn : Nat) (v5 v6 : Value) (W : World) : Prop := ∃ (G D : Nat → Prop) (q P : Nat) (ps : List Pg) (L : List (List UInt8 × List UInt8)) (A : Option Addr) (n c : Nat), v5 = .pointer (some ⟨q, 0, none⟩) ∧ v6 = .slice A n c ∧ n ≤ i + 1 ∧ TpS w0 W G D q P ps L A n ∧ FrB W K kn ∧ (0 < kn → ∀ ad, K = some ad → w0.heap.size ≤ ad.block ∧ ¬ G ad.block ∧ ¬ D ad.block ∧ (L ≠ [] → ∀ bd, A = some bd → bd.block ≠ ad.block))
theorem TpM.turn {w0 W : World} {i kn : Nat} {g : Nat} {v5 v6 : Value} (h : TpM w0 i (some ⟨g, 0, none⟩) kn v5 v6 W) (hk : 0 < kn) {k : Nat} {u : Value} (hu : W.cell? ⟨g, k, none⟩ = some u) (z : Int) : TpM w0 i (some ⟨g, 0, none⟩) kn v5 v6 (W.setCell ⟨g, k, none⟩ (.int .u8 z)) := by
  obtain ⟨G, D, q, P, ps, L, A, n, c, h1, h2, h3, h4, h5, h6⟩ := h
  obtain ⟨a1, a2, a3, a4⟩ := h6 hk _ rfl
  have hO := Only.set W g k (.int .u8 z)
  refine ⟨G, D, q, P, ps, L, A, n, c, h1, h2, h3, ⟨⟨h4.ta.tb.only hO (fun j hj e => a2 (by subst e; exact hj)) (fun j hj e => a3 (by subst e; exact hj)), h4.ta.kv, h4.ta.ge, h4.ta.bel.trans (hO.below h4.ta.bel.size (fun j e => by rw [e]; exact a1))⟩, h4.rd.only hO (fun hn ad e => a4 hn ad e), h4.len, h4.sep⟩, h5.set hu z, h6⟩
/-- Put or Drop, and the document's answer -/
theorem TpM.of_put {w0 W3 W4 W5 : World} {G D G' D' : Nat → Prop} {q P' : Nat} {ps' : List Pg} {L' : List (List UInt8 × List UInt8)} {A5 K : Option Addr} {n5 c5 i kn : Nat} (hK : FrB W3 K kn) (hKg : 0 < kn → ∀ ad, K = some ad → w0.heap.size ≤ ad.block ∧ ad.block < W3.heap.size ∧ ¬ G ad.block ∧ ¬ D ad.block)
    (hta : TaW w0 W4 G' D' q P' ps' L') (hO : Only G W3 W4) (hfr : ∀ j, G' j ∨ D' j → G j ∨ D j ∨ W3.heap.size ≤ j) (hn5 : L'.length = n5) (hrd : RdS W5 W5.heap.size A5 L') (hge : ∀ ad, A5 = some ad → W4.heap.size ≤ ad.block) (hb : Below W4.heap.size W4 W5) (hni : n5 ≤ i + 1) :
    TpM w0 i K kn (.pointer (some ⟨q, 0, none⟩)) (.slice A5 n5 c5) W5 := by
  have s4 := hO.size
  refine ⟨G', D', q, P', ps', L', A5, n5, c5, rfl, rfl, hni, ⟨hta.below hb, hrd, hn5, fun _ ad e hg => by
    have h1 := hge ad e
    have h2 := hta.tb.t.glt _ hg
    omega⟩, ?_, fun hk ad e => ?_⟩
  · intro hk
    obtain ⟨g, e, hlt, hf⟩ := hK hk
    obtain ⟨_, a2, a3, a4⟩ := hKg hk _ e
    exact ⟨g, e, by have := hb.size; omega, (hf.keep (hO.block g hlt a3)).keep (hb.block g (by omega))⟩
  · obtain ⟨a1, a2, a3, a4⟩ := hKg hk _ e
    have hnot : ¬ (G' ad.block ∨ D' ad.block) := fun hx => by
      rcases hfr _ hx with h1 | h1 | h1
      · exact a3 h1
      · exact a4 h1
      · omega
    exact ⟨a1, fun hx => hnot (.inl hx), fun hx => hnot (.inr hx), fun _ bd e2 => by have := hge bd e2; omega⟩
/-- a copy goes on, the old one is put to -/
theorem TpM.of_copy {w0 W3 W4 W5 : World} {G D G' D' : Nat → Prop} {q c P P' : Nat} {ps ps' : List Pg} {L : List (List UInt8 × List UInt8)} {A K : Option Addr} {n cA i kn : Nat} (h : TpS w0 W3 G D q P ps L A n) (hK : FrB W3 K kn) (hKg : 0 < kn → ∀ ad, K = some ad → w0.heap.size ≤ ad.block ∧ ad.block < W3.heap.size ∧ ¬ G ad.block ∧ ¬ D ad.block ∧ (L ≠ [] → ∀ bd, A = some bd → bd.block ≠ ad.block))
    (htb : Tbl W4 G' D' c P' ps') (hkv : kv (flat ps') = L) (hge : ∀ j, G' j ∨ D' j → W3.heap.size ≤ j) (hb : Below W3.heap.size W3 W4) (hO : Only G W4 W5) (hni : n ≤ i + 1) :
    TpM w0 i K kn (.pointer (some ⟨c, 0, none⟩)) (.slice A n cA) W5 := by
  have s3 := hb.size
  have s4 := hO.size
  have h4 := h.below hb
  have hGl := h.ta.tb.t.glt
  have h0 := h.ta.bel.size
  refine ⟨G', D', c, P', ps', L, A, n, cA, rfl, rfl, hni, ⟨⟨htb.only hO (fun j hj hg => by have := hge j (.inl hj); have := hGl j hg; omega) (fun j hj hg => by have := hge j (.inr hj); have := hGl j hg; omega), hkv, fun j hj => Nat.le_trans h0 (hge j hj), h4.ta.bel.trans (hO.below h4.ta.bel.size (fun j hj => h.ta.ge j (.inl hj)))⟩, h4.rd.only hO (fun hn ad e => h.sep hn ad e), h.len, fun hn ad e hg => by
    have h1 := h.rd.blk hn ad e
    have := hge _ (.inl hg)
    omega⟩, ?_, fun hk ad e => ?_⟩
  · intro hk
    obtain ⟨g, e, hlt, hf⟩ := hK hk
    obtain ⟨_, a2, a3, a4, _⟩ := hKg hk _ e
    exact ⟨g, e, by omega, (hf.keep (hb.block g hlt)).keep (hO.block g (by omega) a3)⟩
  · obtain ⟨a1, a2, a3, a4, a5⟩ := hKg hk _ e
    exact ⟨a1, fun hx => by have := hge _ (.inl hx); omega, fun hx => by have := hge _ (.inr hx); omega, a5⟩
/-- nothing is done -/
theorem TpM.of_none {w0 W3 : World} {G D : Nat → Prop} {q P : Nat} {ps : List Pg} {L : List (List UInt8 × List UInt8)} {A K : Option Addr} {n cA i kn : Nat} (h : TpS w0 W3 G D q P ps L A n) (hK : FrB W3 K kn) (hKg : 0 < kn → ∀ ad, K = some ad → w0.heap.size ≤ ad.block ∧ ad.block < W3.heap.size ∧ ¬ G ad.block ∧ ¬ D ad.block ∧ (L ≠ [] → ∀ bd, A = some bd → bd.block ≠ ad.block)) (hni : n ≤ i + 1) :
    TpM w0 i K kn (.pointer (some ⟨q, 0, none⟩)) (.slice A n cA) W3 :=
  ⟨G, D, q, P, ps, L, A, n, cA, rfl, rfl, hni, h, hK, fun hk ad e => by
    obtain ⟨a1, a2, a3, a4, a5⟩ := hKg hk _ e
    exact ⟨a1, a3, a4, a5⟩⟩
/-- what a range handed out, while its rows' bytes are turned -/
structure TpX (Wm W : World) (b o : Nat) (es : List Ent) : Prop where
  bel : Below Wm.heap.size Wm W
  ge : Wm.heap.size ≤ b
  cells : ∀ (j : Nat) (e : Ent), es[j]? = some e → W.cell? ⟨b, o + j * 2 + 1, none⟩ = some (.slice e.rA e.r.length e.rc)
  row : ∀ e ∈ es, FrB W e.rA e.r.length ∧ (0 < e.r.length → ∀ ad, e.rA = some ad → Wm.heap.size ≤ ad.block ∧ ad.block ≠ b)
theorem TpX.turn {Wm W : World} {b o : Nat} {es : List Ent} (h : TpX Wm W b o es) {e : Ent} (he : e ∈ es) {g k : Nat} (hA : e.rA = some ⟨g, 0, none⟩) (hk : 0 < e.r.length) {u : Value} (hu : W.cell? ⟨g, k, none⟩ = some u) (z : Int) : TpX Wm (W.setCell ⟨g, k, none⟩ (.int .u8 z)) b o es := by
  obtain ⟨a1, a2⟩ := (h.row e he).2 hk _ hA
  have hO := Only.set W g k (.int .u8 z)
  exact ⟨h.bel.trans (hO.below h.bel.size (fun j e => by rw [e]; exact a1)), h.ge, fun j x hj => by
    rw [World.cell?_setCell_other _ _ _ _ (by intro e; injection e with e1 e2; exact a2 e1)]
    exact h.cells j x hj, fun x hx => ⟨(h.row x hx).1.set hu z, (h.row x hx).2⟩⟩
theorem TpX.below {Wm W W' : World} {b o : Nat} {es : List Ent} (h : TpX Wm W b o es) (hb : Below W.heap.size W W') (hlt : b < W.heap.size) : TpX Wm W' b o es :=
  ⟨h.bel.trans (hb.mono h.bel.size), h.ge, fun j e hj => (World.cell?_of_block (hb.block b hlt)).trans (h.cells j e hj), fun e he => ⟨(h.row e he).1.below hb, (h.row e he).2⟩⟩
/-- what Range answers, ready to be turned -/
def RgXx (w : World) (R : List (List UInt8 × List UInt8)) (e : Ending) (w' : World) : Prop := ∃ A m c es, e = .returned (.slice A m c) ∧ R.length = m ∧ es.length = m ∧ RdL w' A es ∧ kv es = R ∧ Below w.heap.size w w' ∧ (0 < m → ∃ b o, A = some ⟨b, o, none⟩ ∧ b < w'.heap.size ∧ TpX w w' b o es)
theorem range_x {w : World} {R : List (List UInt8 × List UInt8)} {f : Nat} {a : Array Value} (H : Calls Try.prog f a w (RgS w R)) : Calls Try.prog f a w (RgXx w R) := H.mono fun e w' h => by
  obtain ⟨b, g, v, es, he, hrow, hg, hbw, hown, hkv, hb, hsep⟩ := h
  have hlen : es.length = R.length := by rw [← hkv]; simp [kv]
  obtain ⟨A, cap, rfl, hcap, _⟩ := hrow.slice
  refine ⟨A, es.length, cap, es, he, hlen.symm, rfl, ⟨hrow.rd.1, fun x hx => (hown x hx).1.rd, fun x hx => (hown x hx).2.rd⟩, hkv, hb, fun hm => ?_⟩
  rcases hrow with ⟨_, h0, _⟩ | ⟨hne, o, cap', e1, ho⟩
  · omega
  · injection e1 with e1 e2 e3
    subst e1 e3
    refine ⟨g, o, rfl, ho.lt, hb, by omega, fun j x hj => ?_, fun x hx => ⟨(hown x hx).2.frB, fun hk ad ea => ?_⟩⟩
    · obtain ⟨c1, c2⟩ := entV_at hj
      have := ho.cell _ _ c2
      rwa [← Nat.add_assoc] at this
    · obtain ⟨a1, a2, a3⟩ := own_at (hown x hx).2 (Nat.le_refl _) (fun e => by rw [e] at hk; simp at hk) ad ea
      exact ⟨a1, (hsep x hx).2 _ a3⟩
end Go.Proofs.Ytfmhijaljlmgaaa

/- Words for rows of elements of any size: copy, clear, appends in place, what lies over what. -/
import Derived.Test.YtkohppalfcalbaaGreatDY
import Derived.Lib.AppendZerosOnto
import Derived.Lib.SliceRun
import Derived.Lib.Overlaps
import Derived.Test.YtkohppalfcalbaaGreatKB
import Derived.Lib.Bytealg
namespace Go.Proofs.YtkohppalfcalbaaGreat
section
open Go.RowKit

theorem OwnC.over {w : World} {g o cap sz n : Nat} {vs : List Value} (h : OwnC w g o cap sz n vs) {k n' : Nat} {ys vs' : List Value} (hk : k + ys.length ≤ cap * sz) (hl : vs'.length = n' * sz) (hn : n' ≤ cap)
    (hin : ∀ j, j < ys.length → ∀ u, vs'[k + j]? = some u → ys[j]? = some u) (hout : ∀ j, (j < k ∨ k + ys.length ≤ j) → ∀ u, vs'[j]? = some u → vs[j]? = some u) : OwnC (w.setCells g (o + k) ys) g o cap sz n' vs' := by
  refine ⟨Nat.lt_of_lt_of_le h.lt (Only.sets g _ _ w).size, hl, hn, fun j hj => ⟨isSome_sets g _ _ w _ (h.free j hj).1, by rw [World.frozen?_setCells]; exact (h.free j hj).2⟩, fun j d hj => ?_⟩
  by_cases hlt : k ≤ j ∧ j < k + ys.length
  · obtain ⟨i, rfl⟩ : ∃ i, j = k + i := ⟨j - k, by omega⟩
    have hi : i < ys.length := by omega
    have h2 := World.cell?_setCells_in g ys (o + k) w (fun t ht => by rw [Nat.add_assoc]; exact (h.free (k + t) (by omega)).1) i hi
    have h3 := hin i hi d hj
    rw [List.getElem?_eq_getElem hi] at h3
    injection h3 with h3
    rw [← Nat.add_assoc, h2, h3]
  · rw [World.cell?_setCells_out g _ _ w _ (fun _ _ => by show o + j < o + k ∨ o + k + ys.length ≤ o + j; omega)]
    exact h.cell j d (hout j (by omega) d hj)
/-- so many cells are turned in their midst -/
theorem OwnC.mid {w : World} {g o cap sz n : Nat} {a b c ys : List Value} (h : OwnC w g o cap sz n (a ++ (b ++ c))) (hb : ys.length = b.length) : OwnC (w.setCells g (o + a.length) ys) g o cap sz n (a ++ (ys ++ c)) := by
  have hlen := h.len
  have hm : n * sz ≤ cap * sz := Nat.mul_le_mul_right _ h.room
  simp only [List.length_append] at hlen
  refine h.over (by omega) (by simp only [List.length_append]; omega) h.room (fun j hj u hu => ?_) (fun j hj u hu => ?_)
  · rw [List.getElem?_append_right (by omega), show a.length + j - a.length = j by omega, List.getElem?_append_left hj] at hu
    exact hu
  · rcases hj with hj | hj
    · rw [List.getElem?_append_left hj] at hu ⊢
      exact hu
    · rw [List.getElem?_append_right (by omega), List.getElem?_append_right (by omega)] at hu ⊢
      rw [hb] at hu
      exact hu
/-- cells behind the last element are turned -/
theorem OwnC.past {w : World} {g o cap sz n k : Nat} {vs ys : List Value} (h : OwnC w g o cap sz n vs) (hk : vs.length ≤ k) (hm : k + ys.length ≤ cap * sz) : OwnC (w.setCells g (o + k) ys) g o cap sz n vs := by
  refine h.over hm h.len h.room (fun j hj u hu => ?_) (fun j hj u hu => hu)
  rw [List.getElem?_eq_none (by omega)] at hu
  cases hu
theorem OwnC.cut {w : World} {g o cap sz n : Nat} {vs : List Value} (h : OwnC w g o cap sz n vs) {k : Nat} (hk : k ≤ n) : OwnC w g o cap sz k (vs.take (k * sz)) := by
  have hm : k * sz ≤ n * sz := Nat.mul_le_mul_right _ hk
  refine ⟨h.lt, by rw [List.length_take, h.len]; omega, Nat.le_trans hk h.room, h.free, fun j u hu => ?_⟩
  rw [List.getElem?_take] at hu
  split at hu
  · exact h.cell j u hu
  · cases hu
end

section
/-- a way to tell which comes first that is a line -/
structure LineC {A : Type} (c : A → A → Int) : Prop where
  neg : ∀ a b, c a b = - c b a
  tr : ∀ a b d, c a b ≤ 0 → c b d ≤ 0 → c a d ≤ 0
theorem LineC.le_lt {A : Type} {c : A → A → Int} (h : LineC c) {a b d : A} (h1 : c a b ≤ 0) (h2 : c b d < 0) : c a d < 0 := by
  rcases Int.lt_or_le (c a d) 0 with h3 | h3
  · exact h3
  · have e1 := h.neg a d
    have h4 := h.tr d a b (by omega) h1
    have e2 := h.neg b d
    omega
theorem LineC.lt_le {A : Type} {c : A → A → Int} (h : LineC c) {a b d : A} (h1 : c a b < 0) (h2 : c b d ≤ 0) : c a d < 0 := by
  rcases Int.lt_or_le (c a d) 0 with h3 | h3
  · exact h3
  · have e1 := h.neg a d
    have h4 := h.tr b d a h2 (by omega)
    have e2 := h.neg a b
    omega
theorem LineC.on {A B : Type} {c : A → A → Int} (h : LineC c) (f : B → A) : LineC fun a b => c (f a) (f b) := ⟨fun _ _ => h.neg _ _, fun _ _ _ => h.tr _ _ _⟩
theorem line_cmpB : LineC cmpB := by
  constructor
  · intro a
    induction a with
    | nil => intro b; cases b <;> rfl
    | cons x a ih =>
      intro b
      cases b with
      | nil => rfl
      | cons y b =>
        rcases Nat.lt_trichotomy x.toNat y.toNat with h | h | h
        · rw [cmpB_lt h, cmpB_gt h]
        · have := u8_ext h
          subst this
          rw [cmpB_cons, cmpB_cons, ih b]
        · rw [cmpB_gt h, cmpB_lt h]; rfl
  · intro a
    induction a with
    | nil =>
      intro b d _ _
      cases d with
      | nil => simp [cmpB]
      | cons z d => simp [cmpB]
    | cons x a ih =>
      intro b d h1 h2
      cases b with
      | nil => simp [cmpB] at h1
      | cons y b => cases d with
        | nil => simp [cmpB] at h2
        | cons z d =>
          rcases Nat.lt_trichotomy x.toNat y.toNat with h | h | h
          · rcases Nat.lt_trichotomy y.toNat z.toNat with g | g | g
            · rw [cmpB_lt (by omega)]; omega
            · rw [cmpB_lt (by omega)]; omega
            · rw [cmpB_gt g] at h2; omega
          · have := u8_ext h
            subst this
            rcases Nat.lt_trichotomy x.toNat z.toNat with g | g | g
            · rw [cmpB_lt g]; omega
            · have := u8_ext g
              subst this
              rw [cmpB_cons] at *
              exact ih b d h1 h2
            · rw [cmpB_gt g] at h2; omega
          · rw [cmpB_gt h] at h1; omega
end

section
open Go.RowKit

theorem run_loadBytesL {P : Program} (w : World) : ∀ (l : List UInt8) (a : Addr) (acc : ByteArray), (∀ j x, l[j]? = some x → w.cell? (a.add j) = some (.int .u8 (x.toNat : Int))) →
    (Extern.Bytes.loadBytes a l.length acc).run P w = .ok ⟨acc.data ++ l.toArray⟩ w
  | [], a, acc, _ => by simp [Extern.Bytes.loadBytes]
  | x :: l, a, acc, h => by
    have h0 : w.cell? a = some (.int .u8 (x.toNat : Int)) := by
      have := h 0 x rfl
      simpa [Addr.add] using this
    have ih := run_loadBytesL (P := P) w l (a.add 1) (acc.push x) (fun j y hy => by
      have := h (j + 1) y (by simpa using hy)
      rw [addr_add_add, Nat.add_comm 1 j]; exact this)
    have hx : ((x.toNat : Int).toNat).toUInt8 = x := by simp
    simp only [List.length_cons, Extern.Bytes.loadBytes, Sem.run_bind, run_load, h0, Result.andThen, hx]
    rw [ih]
    congr 1
    apply ByteArray.ext
    simp [ByteArray.push]
theorem run_bytesOf_rd {P : Program} {w : World} {B : Nat} {A : Option Addr} {l : List UInt8} (h : RdB w B A l) (n c : Nat) (hn : l.length = n) : (Extern.Bytes.bytesOf (.slice A n c)).run P w = .ok ⟨l.toArray⟩ w := by
  subst hn
  cases A with
  | none =>
    have : l = [] := by
      rcases l with _ | ⟨y, t⟩
      · rfl
      · obtain ⟨_, e, _⟩ := h (by simp); cases e
    subst this
    rfl
  | some ad =>
    have := run_loadBytesL (P := P) w l ad .empty (fun j x hj => by
      obtain ⟨ad', e, _, hc⟩ := h (fun e => by rw [e] at hj; simp at hj)
      injection e with e
      subst e
      exact hc j x hj)
    simp only [Extern.Bytes.bytesOf, this]
    congr 1
    apply ByteArray.ext
    simp
theorem run_compare_rd {P : Program} {w : World} {B C : Nat} {A T : Option Addr} {l t : List UInt8} (h : RdB w B A l) (k : RdB w C T t) (n c m d : Nat) (hn : l.length = n) (hm : t.length = m) :
    (Extern.BytealgCompare.compare #[.slice A n c, .slice T m d]).run P w = .ok (.int .i64 (cmpB l t)) w := by
  change Sem.run P (do pure (goInt (Extern.BytealgCompare.cmp (← Extern.Bytes.bytesOf (.slice A n c)) (← Extern.Bytes.bytesOf (.slice T m d))))) w = _
  simp only [Sem.run_bind, run_bytesOf_rd h n c hn, run_bytesOf_rd k m d hm, Sem.run_pure, Result.andThen]
  rw [Lib.cmp_eq, cmpB_eq]
  rfl
set_option maxRecDepth 100000 in
theorem compare_any (l t : List UInt8) (A T : Option Addr) (n c m d : Nat) (hn : l.length = n) (hm : t.length = m) (w : World) (h : RdB w w.heap.size A l) (k : RdB w w.heap.size T t) :
    Calls Tryz.prog 185 #[.slice A n c, .slice T m d] w (Looks (.int .i64 (cmpB l t)) w) := by
  have hrun := run_compare_rd (P := Tryz.prog) h k n c m d hn hm
  obtain ⟨z, hz⟩ : ∃ z, z = cmpB l t := ⟨_, rfl⟩
  rw [← hz] at hrun ⊢
  clear h k hn hm hz
  go_enter Tryz.func185, Tryz.ntmps185
  go_wp2
  rw [run_callFunc_extern Tryz.func199 (by kernel_rfl) (by kernel_rfl) (by kernel_rfl) (e := Extern.BytealgCompare.compare) (by kernel_rfl), hrun]
  simp only [Result.andThen]
  rw [Oper.upon_value]
  go_wp2
  go_ret
  exact ⟨rfl, rfl⟩
/-- an entry: where its key and its row lie -/
structure Ent where
  kA : Option Addr
  k : List UInt8
  kc : Nat
  rA : Option Addr
  r : List UInt8
  rc : Nat
def Ent.cells (e : Ent) : List Value := [.slice e.kA e.k.length e.kc, .slice e.rA e.r.length e.rc]
def Ent.v (e : Ent) : Value := .agg #[.slice e.kA e.k.length e.kc, .slice e.rA e.r.length e.rc]
def entV (es : List Ent) : List Value := es.flatMap Ent.cells
theorem entV_len (es : List Ent) : (entV es).length = es.length * 2 := by
  induction es with
  | nil => rfl
  | cons e es ih =>
    show (e.cells ++ entV es).length = _
    rw [List.length_append, ih, List.length_cons]
    show 2 + _ = _
    omega
theorem entV_app (a b : List Ent) : entV (a ++ b) = entV a ++ entV b := by simp [entV]
theorem entV_take (es : List Ent) (k : Nat) : (entV es).take (k * 2) = entV (es.take k) := by
  induction k generalizing es with
  | zero => simp [entV]
  | succ k ih => cases es with
    | nil => simp [entV]
    | cons e es =>
      have := ih es
      simp only [entV] at this
      rw [show (k + 1) * 2 = k * 2 + 1 + 1 by omega]
      simp [entV, Ent.cells, this]
theorem entV_drop (es : List Ent) (k : Nat) : (entV es).drop (k * 2) = entV (es.drop k) := by
  induction k generalizing es with
  | zero => simp
  | succ k ih => cases es with
    | nil => simp [entV]
    | cons e es =>
      have := ih es
      simp only [entV] at this
      rw [show (k + 1) * 2 = k * 2 + 1 + 1 by omega]
      simp [entV, Ent.cells, this]
theorem entV_at {es : List Ent} {i : Nat} {e : Ent} (h : es[i]? = some e) : (entV es)[i * 2]? = some (.slice e.kA e.k.length e.kc) ∧ (entV es)[i * 2 + 1]? = some (.slice e.rA e.r.length e.rc) := by
  have hlt := (List.getElem?_eq_some_iff.1 h).1
  have e1 : es.drop i = e :: es.drop (i + 1) := by rw [List.drop_eq_getElem_cons hlt, (List.getElem?_eq_some_iff.1 h).2]
  have h2 := entV_drop es i
  rw [e1] at h2
  have h3 : ∀ j, (entV es)[i * 2 + j]? = (entV (e :: es.drop (i + 1)))[j]? := fun j => by rw [← h2, List.getElem?_drop]
  exact ⟨by have := h3 0; rw [Nat.add_zero] at this; rw [this]; rfl, by rw [h3 1]; rfl⟩
/-- an entry whose bytes can be read, and lie in blocks that D names -/
structure EntOk (w : World) (D : Nat → Prop) (e : Ent) : Prop where
  key : RdB w w.heap.size e.kA e.k
  row : RdB w w.heap.size e.rA e.r
  kd : e.k ≠ [] → ∀ ad, e.kA = some ad → D ad.block
  rd : e.r ≠ [] → ∀ ad, e.rA = some ad → D ad.block
  kl : e.k.length ≤ 100000
  rl : e.r.length ≤ 100000
theorem RdB.only' {K : Nat → Prop} {w w' : World} {A : Option Addr} {l : List UInt8} (h : RdB w w.heap.size A l) (hO : Only K w w') (hK : l ≠ [] → ∀ ad, A = some ad → ¬ K ad.block) : RdB w' w'.heap.size A l := fun hn => by
  obtain ⟨ad, e, hlt, hc⟩ := h hn
  have hs := hO.size
  refine ⟨ad, e, by omega, fun j c hj => ?_⟩
  exact (World.cell?_of_block (by rw [addr_add_block]; exact hO.block _ hlt (hK hn ad e))).trans (hc j c hj)
theorem EntOk.only {K D : Nat → Prop} {w w' : World} {e : Ent} (h : EntOk w D e) (hO : Only K w w') (hK : ∀ j, D j → ¬ K j) : EntOk w' D e :=
  ⟨h.key.only' hO (fun hn ad ha => hK _ (h.kd hn ad ha)), h.row.only' hO (fun hn ad ha => hK _ (h.rd hn ad ha)), h.kd, h.rd, h.kl, h.rl⟩
theorem EntOk.more {D D' : Nat → Prop} {w : World} {e : Ent} (h : EntOk w D e) (hD : ∀ j, D j → D' j) : EntOk w D' e := ⟨h.key, h.row, fun hn ad ha => hD _ (h.kd hn ad ha), fun hn ad ha => hD _ (h.rd hn ad ha), h.kl, h.rl⟩
/-- entries that lie at A, each of them readable -/
structure RdE (w : World) (A : Option Addr) (es : List Ent) : Prop where
  cells : RdC w w.heap.size A (entV es)
  ok : ∀ e ∈ es, RdB w w.heap.size e.kA e.k
theorem RdC.below {w w' : World} {B C : Nat} {A : Option Addr} {vs : List Value} (h : RdC w B A vs) (hb : Below C w w') (hC : B ≤ C) : RdC w' B A vs := fun hn => by
  obtain ⟨b, o, e, hlt, hc⟩ := h hn
  exact ⟨b, o, e, hlt, fun j u hj => (World.cell?_of_block (hb.block b (by omega))).trans (hc j u hj)⟩
theorem RdC.more {w : World} {B C : Nat} {A : Option Addr} {vs : List Value} (h : RdC w B A vs) (hC : B ≤ C) : RdC w C A vs := fun hn => by
  obtain ⟨b, o, e, hlt, hc⟩ := h hn
  exact ⟨b, o, e, by omega, hc⟩
theorem RdE.below {w w' : World} {A : Option Addr} {es : List Ent} (h : RdE w A es) (hb : Below w.heap.size w w') : RdE w' A es :=
  ⟨(h.cells.below hb (Nat.le_refl _)).more hb.size, fun e he => ((h.ok e he).below hb (Nat.le_refl _)).more hb.size⟩
theorem RdE.heap {w w' : World} {A : Option Addr} {es : List Ent} (h : RdE w A es) (e : w'.heap = w.heap) : RdE w' A es := by
  refine ⟨fun hn => ?_, fun x hx => ?_⟩
  · obtain ⟨b, o, e1, hlt, hc⟩ := h.cells hn
    exact ⟨b, o, e1, by rw [e]; exact hlt, fun j u hj => (World.cell?_of_block (by rw [e])).trans (hc j u hj)⟩
  · have := (h.ok x hx).heap e
    rw [← e] at this
    exact this
theorem RdE.at_ {w : World} {A : Option Addr} {es : List Ent} {i : Nat} {e : Ent} (h : RdE w A es) (he : es[i]? = some e) : ∃ b o, A = some ⟨b, o, none⟩ ∧ b < w.heap.size ∧ w.cell? ⟨b, o + i * 2, none⟩ = some (.slice e.kA e.k.length e.kc) ∧ w.cell? ⟨b, o + i * 2 + 1, none⟩ = some (.slice e.rA e.r.length e.rc) := by
  obtain ⟨h1, h2⟩ := entV_at he
  obtain ⟨b, o, e1, hlt, hc⟩ := h.cells (fun e0 => by rw [e0] at h1; simp at h1)
  exact ⟨b, o, e1, hlt, hc _ _ h1, by rw [Nat.add_assoc]; exact hc _ _ h2⟩
set_option maxRecDepth 100000 in
set_option maxHeartbeats 1000000 in
theorem entOrder_any (l t : List UInt8) (A T R : Option Addr) (n c m d rn rc : Nat) (hn : l.length = n) (hm : t.length = m) (w : World) (h : RdB w w.heap.size A l) (k : RdB w w.heap.size T t) :
    Calls Tryz.prog 160 #[.agg #[.slice A n c, .slice R rn rc], .slice T m d] w (Ans (.int .i64 (cmpB l t)) w) := by
  have HB := alloc_below w (.cells #[.slice A n c, .slice R rn rc] 92)
  have HC := Lib.hid (compare_any l t A T n c m d hn hm _ ((h.below HB (Nat.le_refl _)).more HB.size) ((k.below HB (Nat.le_refl _)).more HB.size))
  have HB2 := Lib.hid HB
  obtain ⟨z, hz⟩ : ∃ z, z = cmpB l t := ⟨_, rfl⟩
  rw [← hz] at HC ⊢
  clear h k hn hm hz HB
  go_enter Tryz.func160, Tryz.ntmps160
  go_wp2_with (go_at_call 185; refine HC.out.mono ?_; rintro e w2 ⟨rfl, rfl⟩)
  go_ret
  exact ⟨rfl, HB2.out⟩
/-- so many entries stand ahead of a key -/
structure SplitB (es : List Ent) (t : List UInt8) (m : Nat) : Prop where
  le : m ≤ es.length
  lo : ∀ j e, es[j]? = some e → j < m → cmpB e.k t < 0
  hi : ∀ j e, es[j]? = some e → m ≤ j → 0 ≤ cmpB e.k t
/-- does the entry at m have the key? -/
def hasAt (es : List Ent) (m : Nat) (t : List UInt8) : Bool := match es[m]? with
  | some e => decide (cmpB e.k t = 0)
  | none => false
def BSE (w : World) (L m : Nat) (v9 v10 : Value) (wr : World) : Prop := ∃ i j : Nat, v9 = .int .i64 i ∧ v10 = .int .i64 j ∧ i ≤ m ∧ m ≤ j ∧ j ≤ L ∧ Below w.heap.size w wr
set_option maxRecDepth 100000 in
set_option maxHeartbeats 8000000 in
theorem searchE_any (es : List Ent) (t : List UInt8) (m : Nat) (hs : SplitB es t m) (A T : Option Addr) (cap n d : Nat) (hn : t.length = n) (w : World) (hl : es.length ≤ 1000000) (hr : RdE w A es) (ht : RdB w w.heap.size T t) :
    Calls Tryz.prog 161 #[.slice A es.length cap, .slice T n d, .func (.func 160) #[] #[]] w (Ans (.tuple #[.int .i64 (m : Int), .bool (hasAt es m t)]) w) := by
  have HR := Lib.hid hr
  have HT := Lib.hid ht
  have HS := Lib.hid hs
  have HNL := Lib.hid hn
  have hli : (es.length : Int) ≤ 1000000 := by omega
  have HST : Hid (BSE w es.length m (.int .i64 0) (.int .i64 (es.length : Int)) w) := Lib.hid ⟨0, _, rfl, rfl, Nat.zero_le _, hs.le, Nat.le_refl _, Below.refl _ _⟩
  obtain ⟨f, hf⟩ : ∃ f, Hid (f = hasAt es m t) := ⟨_, Lib.hid rfl⟩
  rw [← hf.out]
  clear hr hs hl ht hn
  go_enter Tryz.func161, Tryz.ntmps161
  go_wp2_with fail
  go_loopw [9, 10] (fun v9 v10 wr => BSE w es.length m v9 v10 wr) (fun v9 v10 _ => (intOf v10).toNat - (intOf v9).toNat)
  case atStart => exact HST.out
  case round =>
    obtain ⟨i, j, rfl, rfl, hi, hj, hjl, hb⟩ := hrel
    have HB := Lib.hid hb
    have hii : (i : Int) ≤ 1000000 := by omega
    have hji : (j : Int) ≤ 1000000 := by omega
    clear hb
    by_cases hlt : i < j
    · have hlti : (i : Int) < j := by omega
      obtain ⟨h, hh⟩ : ∃ h, h = (i + j) / 2 := ⟨_, rfl⟩
      have hhi : ((i : Int) + (j : Int)) / 2 = (h : Int) := by omega
      have h1 : i ≤ h := by omega
      have h2 : h < j := by omega
      have h3 : (h : Int) < (es.length : Int) := by omega
      obtain ⟨x, hx⟩ : ∃ x, es[h]? = some x := ⟨_, List.getElem?_eq_getElem (by omega)⟩
      obtain ⟨b0, o0, hA, _, c0, c1⟩ := (HR.out.below HB.out).at_ hx
      subst hA
      have HF := Lib.hid (fun W (e : W.heap = wr.heap) => entOrder_any x.k t x.kA T x.rA x.k.length x.kc n d x.r.length x.rc rfl HNL.out W ((((HR.out.ok x (List.mem_of_getElem? hx)).below HB.out (Nat.le_refl _)).more (by rw [e]; exact HB.out.size)).heap e) (((HT.out.below HB.out (Nat.le_refl _)).more (by rw [e]; exact HB.out.size)).heap e))
      by_cases hxn : cmpB x.k t < 0
      · have hhm : h < m := by
          rcases Nat.lt_or_ge h m with h4 | h4
          · exact h4
          · have := HS.out.hi h x hx h4; omega
        have HN : Hid (∀ v9 w2, v9 = .int .i64 ((h + 1 : Nat) : Int) → Below wr.heap.size wr w2 → BSE w es.length m v9 (.int .i64 (j : Int)) w2) := Lib.hid fun v9 w2 h9 hb2 => ⟨h + 1, j, h9, rfl, hhm, hj, hjl, HB.out.trans (hb2.mono HB.out.size)⟩
        obtain ⟨c, hc⟩ : ∃ c, c = cmpB x.k t := ⟨_, rfl⟩
        rw [← hc] at HF hxn
        clear hc hh hx hi hj hjl hhm
        go_wp2_with (go_at_call 160; refine (HF.out _ rfl).mono ?_; rintro e w2 ⟨rfl, hb2⟩; have HY := Lib.hid (fun v9 h9 => HN.out v9 _ h9 hb2); clear hb2)
        go_roundw
        case rel => first | exact HY.out _ (by go_num) | ((repeat apply Exists.intro); exact ⟨HY.out _ (by go_num), rfl⟩)
        case measure => clear HF; simp [intOf]; omega
      · have hhm : m ≤ h := by
          rcases Nat.lt_or_ge h m with h4 | h4
          · have := HS.out.lo h x hx h4; omega
          · exact h4
        have HN : Hid (∀ w2, Below wr.heap.size wr w2 → BSE w es.length m (.int .i64 (i : Int)) (.int .i64 (h : Int)) w2) := Lib.hid fun w2 hb2 => ⟨i, h, rfl, rfl, hi, hhm, by omega, HB.out.trans (hb2.mono HB.out.size)⟩
        obtain ⟨c, hc⟩ : ∃ c, c = cmpB x.k t := ⟨_, rfl⟩
        rw [← hc] at HF hxn
        clear hc hh hx hi hj hjl hhm
        go_wp2_with (go_at_call 160; refine (HF.out _ rfl).mono ?_; rintro e w2 ⟨rfl, hb2⟩; have HY := Lib.hid (HN.out _ hb2); clear hb2)
        go_roundw
        case rel => first | exact HY.out | ((repeat apply Exists.intro); exact ⟨HY.out, rfl⟩)
        case measure => clear HF; simp [intOf]; omega
    · have him : i = m := by omega
      subst him
      have hlti : ¬ (i : Int) < j := by omega
      by_cases hil : i < es.length
      · have hili : (i : Int) < (es.length : Int) := by omega
        obtain ⟨x, hx⟩ : ∃ x, es[i]? = some x := ⟨_, List.getElem?_eq_getElem hil⟩
        obtain ⟨b0, o0, hA, _, c0, c1⟩ := (HR.out.below HB.out).at_ hx
        subst hA
        have HF := Lib.hid (fun W (e : W.heap = wr.heap) => entOrder_any x.k t x.kA T x.rA x.k.length x.kc n d x.r.length x.rc rfl HNL.out W ((((HR.out.ok x (List.mem_of_getElem? hx)).below HB.out (Nat.le_refl _)).more (by rw [e]; exact HB.out.size)).heap e) (((HT.out.below HB.out (Nat.le_refl _)).more (by rw [e]; exact HB.out.size)).heap e))
        obtain ⟨c, hc⟩ : ∃ c, c = cmpB x.k t := ⟨_, rfl⟩
        have hcz : Hid (f = (c == 0)) := Lib.hid (by rw [hf.out, hc]; unfold hasAt; rw [hx]; rfl)
        rw [← hc] at HF
        clear hc hx hi hj hjl
        go_wp2_with (go_at_call 160; refine (HF.out _ rfl).mono ?_; rintro e w2 ⟨rfl, hb2⟩; have HY := Lib.hid (HB.out.trans (hb2.mono HB.out.size)); clear hb2)
        go_ret2
        exact ⟨by rw [hcz.out]; rfl, HY.out⟩
      · have hili : ¬ (i : Int) < (es.length : Int) := by omega
        have hcz : Hid (f = false) := Lib.hid (by rw [hf.out]; unfold hasAt; rw [List.getElem?_eq_none (by omega)])
        clear hi hj hjl
        go_wp2_with fail
        go_ret2
        exact ⟨by rw [hcz.out]; rfl, HB.out⟩
set_option maxRecDepth 100000 in
theorem pageFind_any (es : List Ent) (t : List UInt8) (m : Nat) (hs : SplitB es t m) (A T : Option Addr) (k cap n d : Nat) (hk : es.length = k) (hn : t.length = n) (w : World) (hl : es.length ≤ 1000000) (hr : RdE w A es) (ht : RdB w w.heap.size T t) :
    Calls Tryz.prog 122 #[.slice A k cap, .slice T n d] w (Ans (.tuple #[.int .i64 (m : Int), .bool (hasAt es m t)]) w) := by
  subst hk
  have HS := Lib.hid (searchE_any es t m hs A T cap n d hn w hl hr ht)
  clear hs hl hr ht hn
  go_enter Tryz.func122, Tryz.ntmps122
  go_wp2_with (go_at_call 161; refine HS.out.mono ?_; rintro e w2 ⟨rfl, hb⟩; have HY := Lib.hid hb; clear hb)
  go_ret2
  exact ⟨rfl, HY.out⟩
end
end Go.Proofs.YtkohppalfcalbaaGreat

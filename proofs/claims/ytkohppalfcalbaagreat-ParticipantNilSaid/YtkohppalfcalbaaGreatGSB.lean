/- Package shard: a change; a transaction as it lies; begin, place, fits. -/
import Derived.Test.YtkohppalfcalbaaGreatGSA
import Derived.Test.YtkohppalfcalbaaGreatDY
import Derived.Carry
namespace Go.Proofs.YtkohppalfcalbaaGreat
open Go.RowKit

/-- a change: its space, its key, its row, whether it drops -/
structure Ch where
  s : List UInt8
  kA : Option Addr
  k : List UInt8
  kc : Nat
  rA : Option Addr
  r : List UInt8
  rc : Nat
  d : Bool
def Ch.cells (e : Ch) : List Value := [.string (strB e.s), .slice e.kA e.k.length e.kc, .slice e.rA e.r.length e.rc, .bool e.d]
def Ch.v (e : Ch) : Value := .agg #[.string (strB e.s), .slice e.kA e.k.length e.kc, .slice e.rA e.r.length e.rc, .bool e.d]
def chV (l : List Ch) : List Value := l.flatMap Ch.cells
theorem chV_len (l : List Ch) : (chV l).length = l.length * 4 := by
  induction l with
  | nil => rfl
  | cons x l ih => simp only [chV, List.flatMap_cons, List.length_append, List.length_cons] at ih ⊢; rw [ih]; simp [Ch.cells]; omega
theorem chV_app (a b : List Ch) : chV (a ++ b) = chV a ++ chV b := by simp [chV]
/-- the place of a space and a key -/
def plcOf (s k : List UInt8) : Plc := if h : s.length ≤ maxLen ∧ k.length ≤ maxLen then ⟨(s, k), h⟩ else ⟨([], []), by simp⟩
theorem plcOf_v {s k : List UInt8} (hs : s.length ≤ maxLen) (hk : k.length ≤ maxLen) : plcV (plcOf s k) = .agg #[.string (strB s), .string (strB k)] := by
  have h : plcOf s k = ⟨(s, k), ⟨hs, hk⟩⟩ := dif_pos ⟨hs, hk⟩
  rw [h]; rfl
/-- which change of each place is the last one -/
def lastL (cs : List Ch) : List (Plc × Int) := cs.zipIdx.foldl (fun T x => putM T (plcOf x.1.s x.1.k) (x.2 : Int)) []
theorem lastL_app (cs : List Ch) (c : Ch) : lastL (cs ++ [c]) = putM (lastL cs) (plcOf c.s c.k) (cs.length : Int) := by
  unfold lastL
  rw [List.zipIdx_append, List.foldl_append]
  simp
/-- a transaction as it lies: its box, its row, its map -/
structure Tr where
  b : Nat
  g : Nat
  m : Nat
  v : Value
  cs : List Ch
  p : Bool
/-- what a change must be; ℓ tells whose each block is: 0, nobody's: it is never written again -/
structure ChOk (w : World) (ℓ : Nat → Nat) (c : Ch) : Prop where
  key : RdB w w.heap.size c.kA c.k
  row : RdB w w.heap.size c.rA c.r
  kf : c.k ≠ [] → ∀ ad, c.kA = some ad → ℓ ad.block = 0
  rf : c.r ≠ [] → ∀ ad, c.rA = some ad → ℓ ad.block = 0
  len : c.s.length ≤ 32 ∧ c.k.length ≤ 200 ∧ c.r.length ≤ 2000
  rcap : c.r.length ≤ c.rc
structure TrOk (w : World) (ℓ : Nat → Nat) (L : Nat) (t : Tr) : Prop where
  box : w.heap[t.b]? = some (.cells #[t.v, .map (some t.m), .bool t.p] 96 (0, 0))
  row : HeldC w t.b t.g 4 t.v t.cs.length (chV t.cs)
  map : MapM lastW w t.m (lastL t.cs)
  ok : ∀ c ∈ t.cs, ChOk w ℓ c
  lb : ℓ t.b = L ∧ ℓ t.g = L ∧ ℓ t.m = L
  few : t.cs.length ≤ 1000
  ne : t.g ≠ t.m
theorem RdB.onlyL {K : Nat → Prop} {w w' : World} {A : Option Addr} {l : List UInt8} (h : RdB w w.heap.size A l) (hO : Only K w w') (hK : l ≠ [] → ∀ ad, A = some ad → ¬ K ad.block) : RdB w' w'.heap.size A l := fun hn => by
  obtain ⟨ad, e, hlt, hc⟩ := h hn
  exact ⟨ad, e, Nat.lt_of_lt_of_le hlt hO.size, fun j c hj => by
    have h1 := hc j c hj
    rw [← h1]
    exact World.cell?_of_block (by rw [addr_add_block]; exact hO.block _ hlt (hK hn ad e))⟩
theorem ChOk.only {K : Nat → Prop} {w w' : World} {ℓ : Nat → Nat} {c : Ch} (h : ChOk w ℓ c) (hO : Only K w w') (h0 : ∀ k, ℓ k = 0 → ¬ K k) : ChOk w' ℓ c :=
  ⟨h.key.onlyL hO fun hn ad e => h0 _ (h.kf hn ad e), h.row.onlyL hO fun hn ad e => h0 _ (h.rf hn ad e), h.kf, h.rf, h.len, h.rcap⟩
theorem TrOk.only {K : Nat → Prop} {w w' : World} {ℓ : Nat → Nat} {L : Nat} {t : Tr} (h : TrOk w ℓ L t) (hO : Only K w w') (h0 : ∀ k, ℓ k = 0 → ¬ K k) (hL : ∀ k, ℓ k = L → ¬ K k) : TrOk w' ℓ L t := by
  have hbl := (Array.getElem?_eq_some_iff.1 h.box).1
  exact ⟨(hO.block t.b hbl (hL _ h.lb.1)).trans h.box, h.row.only hO (fun _ => hL _ h.lb.2.1), h.map.kept (hO.block t.m h.map.lt (hL _ h.lb.2.2)), fun c hc => (h.ok c hc).only hO h0, h.lb, h.few, h.ne⟩
theorem TrOk.below {w w' : World} {ℓ : Nat → Nat} {L : Nat} {t : Tr} (h : TrOk w ℓ L t) (hb : Below w.heap.size w w') : TrOk w' ℓ L t := h.only (Only.of_below (K := fun _ => False) hb) (fun _ _ => id) (fun _ _ => id)
/-- under other labels of blocks that were not there yet -/
theorem ChOk.relabel {w : World} {ℓ ℓ' : Nat → Nat} {c : Ch} (h : ChOk w ℓ c) (he : ∀ k, k < w.heap.size → ℓ' k = ℓ k) : ChOk w ℓ' c :=
  ⟨h.key, h.row, fun hn ad e => by
    obtain ⟨ad2, e1, hlt, _⟩ := h.key hn
    rw [e] at e1
    injection e1 with e1
    rw [he _ (by rw [e1]; exact hlt)]
    exact h.kf hn ad e, fun hn ad e => by
    obtain ⟨ad2, e1, hlt, _⟩ := h.row hn
    rw [e] at e1
    injection e1 with e1
    rw [he _ (by rw [e1]; exact hlt)]
    exact h.rf hn ad e, h.len, h.rcap⟩
theorem HeldC.ltL {w : World} {q g sz n : Nat} {v : Value} {vs : List Value} (h : HeldC w q g sz v n vs) (hq : q < w.heap.size) : g < w.heap.size := by
  rcases h with ⟨_, _, _, rfl⟩ | ⟨_, _, _, _, ho⟩
  · exact hq
  · exact ho.lt
theorem TrOk.relabel {w : World} {ℓ ℓ' : Nat → Nat} {L : Nat} {t : Tr} (h : TrOk w ℓ L t) (he : ∀ k, k < w.heap.size → ℓ' k = ℓ k) : TrOk w ℓ' L t := by
  have hbl := (Array.getElem?_eq_some_iff.1 h.box).1
  exact ⟨h.box, h.row, h.map, fun c hc => (h.ok c hc).relabel he, ⟨by rw [he _ hbl]; exact h.lb.1, by rw [he _ (h.row.ltL hbl)]; exact h.lb.2.1, by rw [he _ h.map.lt]; exact h.lb.2.2⟩, h.few, h.ne⟩
/-- what begin answers -/
def BgT (w : World) (e : Ending) (w' : World) : Prop := e = .returned (.pointer (some ⟨w.heap.size + 1, 0, none⟩)) ∧ Below w.heap.size w w' ∧ w'.heap.size = w.heap.size + 2 ∧ ∀ ℓ L, ℓ w.heap.size = L → ℓ (w.heap.size + 1) = L → TrOk w' ℓ L ⟨w.heap.size + 1, w.heap.size + 1, w.heap.size, .slice none 0 0, [], false⟩
theorem bg_new (w : World) : BgT w (.returned (.pointer (some ⟨w.heap.size + 1, 0, none⟩))) ((w.alloc (.map #[] 0)).alloc (.cells #[.slice none 0 0, .map (some w.heap.size), .bool false] 96)) := by
  have h1 := alloc_below w (.map #[] 0)
  have h2 := alloc_below (w.alloc (.map #[] 0)) (.cells #[.slice none 0 0, .map (some w.heap.size), .bool false] 96)
  have hs : (w.alloc (.map #[] 0)).heap.size = w.heap.size + 1 := by simp
  refine ⟨rfl, h1.trans (h2.mono h1.size), by simp, fun ℓ L e1 e2 => ⟨?_, .inl ⟨rfl, rfl, rfl, rfl⟩, ?_, fun c hc => by simp at hc, ⟨e2, e2, e1⟩, Nat.zero_le _, by show w.heap.size + 1 ≠ w.heap.size; omega⟩⟩
  · have h := heap_alloc_new (w.alloc (.map #[] 0)) (.cells #[.slice none 0 0, .map (some w.heap.size), .bool false] 96)
    rw [hs] at h
    exact h
  · exact (MapM.new lastW w).below h2
set_option maxRecDepth 100000 in
theorem tbegin_any (w : World) : Calls Tryz.prog 48 #[] w (BgT w) := by
  have HE := Lib.hid (bg_new w)
  have hmm := @run_makeMap Tryz.prog
  go_enter Tryz.func48, Tryz.ntmps48
  go_wp2_with fail
  go_ret
  exact HE.out
theorem box4S {w : World} {b : Nat} {x0 x1 x2 x3 : Value} {t : TypeId} {fr : Nat × Nat} (h : w.heap[b]? = some (.cells #[x0, x1, x2, x3] t fr)) : w.cell? ⟨b, 0, none⟩ = some x0 ∧ w.cell? ⟨b, 1, none⟩ = some x1 ∧ w.cell? ⟨b, 2, none⟩ = some x2 ∧ w.cell? ⟨b, 3, none⟩ = some x3 := by
  simp [World.cell?, h]
/-- does a change fit? -/
def fitsC (c : Ch) : Bool := decide (c.s.length ≤ 32) && decide (c.k.length ≤ 200) && decide (c.r.length ≤ 2000)
set_option maxRecDepth 100000 in
theorem fits_any (c : Ch) (hk : c.k.length ≤ maxLen) (hr : c.r.length ≤ maxLen) (hs : c.s.length ≤ maxLen) (w : World) : Calls Tryz.prog 50 #[c.v] w (Ans (.bool (fitsC c)) w) := by
  obtain ⟨s, kA, k, kc, rA, r, rc, d⟩ := c
  simp only [Ch.v, fitsC] at hk hr hs ⊢
  have HB := Lib.hid (alloc_below w (.cells #[.string (strB s), .slice kA k.length kc, .slice rA r.length rc, .bool d] 62))
  obtain ⟨x0, x1, x2, x3⟩ := box4S (heap_alloc_new w (.cells #[.string (strB s), .slice kA k.length kc, .slice rA r.length rc, .bool d] 62))
  obtain ⟨sb, hsb⟩ : ∃ sb, strB s = sb := ⟨_, rfl⟩
  have hsz : sb.size = s.length := by rw [← hsb, strB_size]
  rw [hsb] at HB x0 ⊢
  rw [← hsz]
  rw [← hsz] at hs
  have h1i : (k.length : Int) ≤ 9223372036854775807 := by unfold maxLen at hk; omega
  have h2i : (r.length : Int) ≤ 9223372036854775807 := by unfold maxLen at hr; omega
  have h3i : (sb.size : Int) ≤ 9223372036854775807 := by unfold maxLen at hs; omega
  clear hk hr hs hsz hsb
  by_cases h1 : sb.size ≤ 32
  · have h1j : (sb.size : Int) ≤ 32 := by omega
    by_cases h2 : k.length ≤ 200
    · have h2j : (k.length : Int) ≤ 200 := by omega
      by_cases h3 : r.length ≤ 2000
      · have h3j : (r.length : Int) ≤ 2000 := by omega
        rw [decide_eq_true h1, decide_eq_true h2, decide_eq_true h3]
        go_enter Tryz.func50, Tryz.ntmps50
        go_wp2_with fail
        go_ret
        exact ⟨rfl, HB.out⟩
      · have h3j : ¬ (r.length : Int) ≤ 2000 := by omega
        rw [decide_eq_true h1, decide_eq_true h2, decide_eq_false h3]
        go_enter Tryz.func50, Tryz.ntmps50
        go_wp2_with fail
        go_ret
        exact ⟨rfl, HB.out⟩
    · have h2j : ¬ (k.length : Int) ≤ 200 := by omega
      rw [decide_eq_true h1, decide_eq_false h2]
      go_enter Tryz.func50, Tryz.ntmps50
      go_wp2_with fail
      go_ret
      exact ⟨rfl, HB.out⟩
  · have h1j : ¬ (sb.size : Int) ≤ 32 := by omega
    rw [decide_eq_false h1]
    go_enter Tryz.func50, Tryz.ntmps50
    go_wp2_with fail
    go_ret
    exact ⟨rfl, HB.out⟩
set_option maxRecDepth 100000 in
theorem place_any (c : Ch) (w : World) (hk : RdB w w.heap.size c.kA c.k) : Calls Tryz.prog 53 #[c.v] w (Ans (.agg #[.string (strB c.s), .string (strB c.k)]) w) := by
  obtain ⟨s, kA, k, kc, rA, r, rc, d⟩ := c
  simp only [Ch.v] at hk ⊢
  obtain ⟨w2, hw2⟩ : ∃ w2, w2 = (w.alloc (.cells #[.string (strB s), .slice kA k.length kc, .slice rA r.length rc, .bool d] 62)).alloc (.cells #[.string ⟨#[]⟩, .string ⟨#[]⟩] 87) := ⟨_, rfl⟩
  have hs : (w.alloc (.cells #[.string (strB s), .slice kA k.length kc, .slice rA r.length rc, .bool d] 62)).heap.size = w.heap.size + 1 := by simp
  have hb1 := alloc_below w (.cells #[.string (strB s), .slice kA k.length kc, .slice rA r.length rc, .bool d] 62)
  have hb2 : Below w.heap.size w w2 := by rw [hw2]; exact hb1.trans ((alloc_below _ _).mono hb1.size)
  have hx : w2.heap[w.heap.size]? = some (.cells #[.string (strB s), .slice kA k.length kc, .slice rA r.length rc, .bool d] 62 (0, 0)) := by rw [hw2]; exact ((alloc_below _ _).block _ (by rw [hs]; omega)).trans (heap_alloc_new w _)
  have hy : w2.heap[w.heap.size + 1]? = some (.cells #[.string ⟨#[]⟩, .string ⟨#[]⟩] 87 (0, 0)) := by
    rw [hw2]
    have h := heap_alloc_new (w.alloc (.cells #[.string (strB s), .slice kA k.length kc, .slice rA r.length rc, .bool d] 62)) (.cells #[.string ⟨#[]⟩, .string ⟨#[]⟩] 87)
    rw [hs] at h
    exact h
  obtain ⟨x0, x1, x2, x3⟩ := box4S hx
  have cv := conv_rd (cap := kc) ((hk.below hb2 (Nat.le_refl _)).more hb2.size) rfl (strB k) (strB_list k)
  have z0 : w2.frozen? ⟨w.heap.size + 1, 0, none⟩ = false := by unfold World.frozen?; rw [show (⟨w.heap.size + 1, 0, none⟩ : Addr).block = w.heap.size + 1 from rfl, hy]; simp
  have z1 : w2.frozen? ⟨w.heap.size + 1, 1, none⟩ = false := by unfold World.frozen?; rw [show (⟨w.heap.size + 1, 1, none⟩ : Addr).block = w.heap.size + 1 from rfl, hy]; simp
  have y0 : w2.cell? ⟨w.heap.size + 1, 0, none⟩ = some (.string ⟨#[]⟩) := by simp [World.cell?, hy]
  have y1 : w2.cell? ⟨w.heap.size + 1, 1, none⟩ = some (.string ⟨#[]⟩) := by simp [World.cell?, hy]
  have HE : Hid (∀ a b, Ans (.agg #[.string a, .string b]) w (.returned (.agg #[.string a, .string b])) ((w2.setCell ⟨w.heap.size + 1, 0, none⟩ (.string a)).setCell ⟨w.heap.size + 1, 1, none⟩ (.string b))) := Lib.hid fun a b => ⟨rfl, hb2.trans ((((Only.set w2 (w.heap.size + 1) 0 (.string a)).trans (Only.set _ (w.heap.size + 1) 1 (.string b)) (fun _ _ e => e))).below hb2.size (fun j e => by rw [e]; omega))⟩
  have HW := Lib.hid hw2
  obtain ⟨sb, hsb⟩ : ∃ sb, strB s = sb := ⟨_, rfl⟩
  obtain ⟨kb, hkb⟩ : ∃ kb, strB k = kb := ⟨_, rfl⟩
  rw [hsb] at x0 HW ⊢
  rw [hkb] at cv ⊢
  clear hw2 hs hb1 hb2 hx hy hk hsb hkb
  go_enter Tryz.func53, Tryz.ntmps53
  go_upto_region 1 with fail
  rw [← HW.out]
  go_wp2_with fail
  first | go_ret | (refine bodyPost_ret (v := .agg #[.string sb, .string kb]) (by simp [results, Tryz.results53, go_sem, y0, y1]) rfl ?_)
  exact HE.out _ _
end Go.Proofs.YtkohppalfcalbaaGreat

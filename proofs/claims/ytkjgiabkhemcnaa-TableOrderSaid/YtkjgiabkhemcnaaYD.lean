/- Package table's laws: what a script builds. -/
import Derived.Test.YtkjgiabkhemcnaaYC
import Derived.Test.YtkjgiabkhemcnaaPZ
import Derived.Test.YtkjgiabkhemcnaaPS
namespace Go.Proofs.Ytkjgiabkhemcnaa
open Go.RowKit

/-- what Drop leaves -/
def TaDrop (w0 : World) (q : Nat) (l : List (List UInt8 × List UInt8)) (key : List UInt8) (e : Ending) (w' : World) : Prop := ∃ (G D : Nat → Prop) (P : Nat) (ps : List Pg) (A : Option Addr) (n c : Nat), e = .returned (.tuple #[.slice A n c, .bool (getK l key).isSome]) ∧ TaW w0 w' G D q P ps (dropK l key) ∧ RdB w' w'.heap.size A ((getK l key).getD []) ∧ ((getK l key).getD []).length = n
theorem TaW.drop {w0 W : World} {G D : Nat → Prop} {q P : Nat} {ps : List Pg} {l : List (List UInt8 × List UInt8)} (h : TaW w0 W G D q P ps l) (key : List UInt8) (K : Option Addr) (kn kc : Nat) (hkn : key.length = kn) (hk : RdB W W.heap.size K key) :
    Calls Try.prog 14 #[.pointer (some ⟨q, 0, none⟩), .slice K kn kc] W (TaDrop w0 q l key) := by
  have hkv := h.kv
  subst hkv
  refine (drop_any h.tb key K kn kc hkn hk).mono ?_
  rintro e w' ⟨G', P', ps', A', n, c, rfl, h1, h2, h3, h4, h5, h6⟩
  exact ⟨G', D, P', ps', A', n, c, rfl, ⟨h1, h2, fun j hj => by
    rcases hj with hj | hj
    · rcases h3 j hj with h7 | h7
      · exact h.ge j (.inl h7)
      · exact Nat.le_trans h.bel.size h7
    · exact h.ge j (.inr hj), h.bel.trans (h4.below h.bel.size (fun j hj => h.ge j (.inl hj)))⟩, h5, h6⟩
theorem TaW.put2 {w0 W : World} {G D : Nat → Prop} {q P : Nat} {ps : List Pg} {l : List (List UInt8 × List UInt8)} (h : TaW w0 W G D q P ps l) (hl : l.length ≤ 899) (key row : List UInt8) (K A : Option Addr) (kn kc rn rc : Nat) (hkn : key.length = kn) (hrn : row.length = rn) (hkl : key.length ≤ 100000) (hrl : row.length ≤ 100000) (hk : RdB W W.heap.size K key) (hr : RdB W W.heap.size A row) :
    Calls Try.prog 12 #[.pointer (some ⟨q, 0, none⟩), .slice K kn kc, .slice A rn rc] W (fun e w' => TaPut w0 q l key row e w' ∧ Only G W w') := by
  have hkv := h.kv
  subst hkv
  refine (put_any h.tb (by simpa [Go.Proofs.Ytkjgiabkhemcnaa.kv] using hl) key row K A kn kc rn rc hkn hrn hkl hrl hk hr).mono ?_
  rintro e w' ⟨G', D', P', ps', A', n, c, rfl, h1, h2, h3, h4, h5, h6⟩
  exact ⟨⟨G', D', P', ps', A', n, c, rfl, ⟨h1, h2, fun j hj => by
    rcases h3 j hj with h7 | h7 | h7
    · exact h.ge j (.inl h7)
    · exact h.ge j (.inr h7)
    · exact Nat.le_trans h.bel.size h7, h.bel.trans (h4.below h.bel.size (fun j hj => h.ge j (.inl hj)))⟩, h5, h6⟩, h4⟩
theorem TaW.drop2 {w0 W : World} {G D : Nat → Prop} {q P : Nat} {ps : List Pg} {l : List (List UInt8 × List UInt8)} (h : TaW w0 W G D q P ps l) (key : List UInt8) (K : Option Addr) (kn kc : Nat) (hkn : key.length = kn) (hk : RdB W W.heap.size K key) :
    Calls Try.prog 14 #[.pointer (some ⟨q, 0, none⟩), .slice K kn kc] W (fun e w' => TaDrop w0 q l key e w' ∧ Only G W w') := by
  have hkv := h.kv
  subst hkv
  refine (drop_any h.tb key K kn kc hkn hk).mono ?_
  rintro e w' ⟨G', P', ps', A', n, c, rfl, h1, h2, h3, h4, h5, h6⟩
  exact ⟨⟨G', D, P', ps', A', n, c, rfl, ⟨h1, h2, fun j hj => by
    rcases hj with hj | hj
    · rcases h3 j hj with h7 | h7
      · exact h.ge j (.inl h7)
      · exact Nat.le_trans h.bel.size h7
    · exact h.ge j (.inr hj), h.bel.trans (h4.below h.bel.size (fun j hj => h.ge j (.inl hj)))⟩, h5, h6⟩, h4⟩
theorem putK_len : ∀ (l : List (List UInt8 × List UInt8)) (k r : List UInt8), (putK l k r).length ≤ l.length + 1
  | [], _, _ => by simp [putK]
  | x :: l, k, r => by
    have := putK_len l k r
    simp only [putK]
    split
    · simp; omega
    · split
      · simp
      · simp
theorem dropK_len : ∀ (l : List (List UInt8 × List UInt8)) (k : List UInt8), (dropK l k).length ≤ l.length
  | [], _ => by simp [dropK]
  | x :: l, k => by
    have := dropK_len l k
    simp only [dropK]
    split <;> simp <;> omega
def fits8 (a : Act8) : Bool := decide (a.l.length ≤ 40) && decide (a.m.length ≤ 40)
def step8 (t : List (List UInt8 × List UInt8)) (a : Act8) : List (List UInt8 × List UInt8) := if fits8 a = true then (if a.k = 1 then putK t a.l a.m else if a.k = 2 then dropK t a.l else t) else t
def bldTo (l : List Act8) (i : Nat) : List (List UInt8 × List UInt8) := (l.take i).foldl step8 []
theorem step8_len (t : List (List UInt8 × List UInt8)) (a : Act8) : (step8 t a).length ≤ t.length + 1 := by
  unfold step8
  split
  · split
    · exact putK_len ..
    · split
      · exact Nat.le_succ_of_le (dropK_len ..)
      · omega
  · omega
theorem bldTo_next {l : List Act8} {i : Nat} {a : Act8} (h : l[i]? = some a) : bldTo l (i + 1) = step8 (bldTo l i) a := by
  unfold bldTo
  rw [List.take_add_one, h, Option.toList_some, List.foldl_append]; rfl
theorem bldTo_len (l : List Act8) : ∀ i, (bldTo l i).length ≤ i
  | 0 => by simp [bldTo]
  | i + 1 => by
    cases h : l[i]? with
    | none =>
      have : bldTo l (i + 1) = bldTo l i := by unfold bldTo; rw [List.take_of_length_le (by have := List.getElem?_eq_none_iff.1 h; omega), List.take_of_length_le (by have := List.getElem?_eq_none_iff.1 h; omega)]
      rw [this]; exact Nat.le_succ_of_le (bldTo_len l i)
    | some a =>
      rw [bldTo_next h]
      have := bldTo_len l i
      have := step8_len (bldTo l i) a
      omega
/-- acts that lie at A, below block B -/
def RdA8 (w : World) (B : Nat) (A : Option Addr) (l : List Act8) : Prop := l ≠ [] → ∃ b o, A = some ⟨b, o, none⟩ ∧ b < B ∧ ∀ j x, l[j]? = some x → w.cell? ⟨b, o + j * 3, none⟩ = some (.int .i64 x.k) ∧ w.cell? ⟨b, o + j * 3 + 1, none⟩ = some (.slice x.A x.l.length x.ac) ∧ w.cell? ⟨b, o + j * 3 + 2, none⟩ = some (.slice x.B x.m.length x.bc)
theorem RdA8.at_ {w w' : World} {B C k : Nat} {A : Option Addr} {l : List Act8} {x : Act8} (h : RdA8 w B A l) (hx : l[k]? = some x) (hb : Below C w w') (hC : B ≤ C) : ∃ b o, A = some ⟨b, o, none⟩ ∧ w'.cell? ⟨b, o + k * 3, none⟩ = some (.int .i64 x.k) ∧ w'.cell? ⟨b, o + k * 3 + 1, none⟩ = some (.slice x.A x.l.length x.ac) ∧ w'.cell? ⟨b, o + k * 3 + 2, none⟩ = some (.slice x.B x.m.length x.bc) := by
  obtain ⟨b, o, e, hlt, hc⟩ := h (fun e => by subst e; simp at hx)
  have hcell : ∀ j, w'.cell? ⟨b, j, none⟩ = w.cell? ⟨b, j, none⟩ := fun j => World.cell?_of_block (hb.block b (by omega))
  refine ⟨b, o, e, ?_⟩
  rw [hcell, hcell, hcell]
  exact hc k x hx
theorem box3Y {w : World} {b : Nat} {x y z : Value} {t : TypeId} {fr : Nat × Nat} (h : w.heap[b]? = some (.cells #[x, y, z] t fr)) : w.cell? ⟨b, 0, none⟩ = some x ∧ w.cell? ⟨b, 1, none⟩ = some y ∧ w.cell? ⟨b, 2, none⟩ = some z := by
  simp [World.cell?, h]
set_option maxRecDepth 100000 in
theorem fits8_any (k : Int) (A B : Option Addr) (an ac bn bc : Nat) (w : World) (ha : an ≤ maxLen) (hb : bn ≤ maxLen) : Calls Try.prog 10 #[.agg #[.int .i64 k, .slice A an ac, .slice B bn bc]] w (Ans (.bool (decide (an ≤ 40) && decide (bn ≤ 40))) w) := by
  have HB := Lib.hid (alloc_below w (.cells #[.int .i64 k, .slice A an ac, .slice B bn bc] 31))
  obtain ⟨x0, x1, x2⟩ := box3Y (heap_alloc_new w (.cells #[.int .i64 k, .slice A an ac, .slice B bn bc] 31))
  have ha' : (an : Int) ≤ 9223372036854775807 := by unfold maxLen at ha; omega
  have hb' : (bn : Int) ≤ 9223372036854775807 := by unfold maxLen at hb; omega
  have HAI : Hid ((an : Int) ≤ 9223372036854775807 ∧ (bn : Int) ≤ 9223372036854775807) := Lib.hid ⟨ha', hb'⟩
  clear ha hb ha' hb'
  by_cases h1 : an ≤ 40
  · have h1i : (an : Int) ≤ 40 := by omega
    by_cases h2 : bn ≤ 40
    · have h2i : (bn : Int) ≤ 40 := by omega
      rw [decide_eq_true h1, decide_eq_true h2]
      clear h1 h2
      go_enter Try.func10, Try.ntmps10
      go_wp2_with fail
      go_ret
      exact ⟨rfl, HB.out⟩
    · have h2i : ¬ (bn : Int) ≤ 40 := by omega
      rw [decide_eq_true h1, decide_eq_false h2]
      clear h1 h2
      go_enter Try.func10, Try.ntmps10
      go_wp2_with fail
      go_ret
      exact ⟨rfl, HB.out⟩
  · have h1i : ¬ (an : Int) ≤ 40 := by omega
    rw [decide_eq_false h1]
    clear h1
    go_enter Try.func10, Try.ntmps10
    go_wp2_with fail
    go_ret
    exact ⟨rfl, HB.out⟩
def BdT (w : World) (l : List Act8) (e : Ending) (w' : World) : Prop := e = .returned (.pointer (some ⟨w.heap.size, 0, none⟩)) ∧ ∃ G D P ps, TaW w w' G D w.heap.size P ps (bldTo l (min l.length 150))
def BdL (w : World) (l : List Act8) (v4 : Value) (wr : World) : Prop := ∃ (i : Nat) (G D : Nat → Prop) (P : Nat) (ps : List Pg), v4 = .int .i64 i ∧ i ≤ l.length ∧ i ≤ 150 ∧ TaW w wr G D w.heap.size P ps (bldTo l i)
set_option maxRecDepth 100000 in
set_option maxHeartbeats 8000000 in
theorem built_any (l : List Act8) (A : Option Addr) (n cap : Nat) (w : World) (hn : l.length = n) (hn2 : n ≤ maxLen) (hr : RdA8 w w.heap.size A l) (hok : ∀ x ∈ l, x.ok w w.heap.size) :
    Calls Try.prog 23 #[.slice A n cap] w (BdT w l) := by
  have HR := Lib.hid hr
  have HK := Lib.hid hok
  have HN := Lib.hid hn
  have hni : (n : Int) ≤ 9223372036854775807 := by unfold maxLen at hn2; omega
  have HST : Hid (∀ w1 P, TaW w w1 (· = w.heap.size) (fun _ => False) w.heap.size P [] [] → BdL w l (.int .i64 0) w1) := Lib.hid fun w1 P h => ⟨0, _, _, _, _, rfl, Nat.zero_le _, by omega, h⟩
  clear hr hok hn hn2
  go_enter Try.func23, Try.ntmps23
  go_wp2_with (go_at_call 8; refine (new_any _).mono ?_; rintro e w1 ⟨rfl, ht, hb⟩
               have HS1 := Lib.hid (HST.out w1 _ ⟨ht, rfl, fun j hj => hj.elim (fun e => Nat.le_of_eq e.symm) False.elim, hb⟩)
               clear ht hb)
  go_loopw [4] (fun v4 wr => BdL w l v4 wr) (fun v4 _ => 150 - (intOf v4).toNat)
  case atStart => exact HS1.out
  case round =>
    obtain ⟨i, G, D, P, ps, rfl, hi, hi2, ht⟩ := hrel
    have HT := Lib.hid ht
    have hi' : i ≤ n := by rw [← HN.out]; exact hi
    clear ht hi
    by_cases hlt : i < n
    · have hlti : (i : Int) < (n : Int) := by omega
      by_cases hlt2 : i < 150
      · have hlti2 : (i : Int) < 150 := by omega
        obtain ⟨x, hx⟩ : ∃ x, l[i]? = some x := ⟨_, List.getElem?_eq_getElem (by rw [HN.out]; exact hlt)⟩
        obtain ⟨b, o, hA, c0, c1, c2⟩ := HR.out.at_ hx HT.out.bel (Nat.le_refl _)
        subst hA
        have HOK := Lib.hid (HK.out x (List.mem_of_getElem? hx))
        have HNX := Lib.hid (bldTo_next hx)
        have HLN := Lib.hid (bldTo_len l i)
        have HI := Lib.hid (show i < n from hlt)
        have hio : ¬ (i : Int) < 0 := by omega
        have HF := Lib.hid (fits8_any x.k x.A x.B x.l.length x.ac x.m.length x.bc (wr.alloc (.cells #[.int .i64 x.k, .slice x.A x.l.length x.ac, .slice x.B x.m.length x.bc] 31)) (Nat.le_trans HOK.out.kc HOK.out.km) (Nat.le_trans HOK.out.rc HOK.out.rm))
        have HBX : Hid ((wr.alloc (.cells #[.int .i64 x.k, .slice x.A x.l.length x.ac, .slice x.B x.m.length x.bc] 31)).heap[wr.heap.size]? = some (.cells #[.int .i64 x.k, .slice x.A x.l.length x.ac, .slice x.B x.m.length x.bc] 31 (0, 0))) := Lib.hid (heap_alloc_new _ _)
        have HBA := Lib.hid (alloc_below wr (.cells #[.int .i64 x.k, .slice x.A x.l.length x.ac, .slice x.B x.m.length x.bc] 31))
        obtain ⟨x0, x1, x2⟩ := box3Y HBX.out
        cases hf : (decide (x.l.length ≤ 40) && decide (x.m.length ≤ 40)) with
        | false =>
          rw [hf] at HF
          have HY : Hid (∀ v4 w2, v4 = .int .i64 ((i + 1 : Nat) : Int) → Below wr.heap.size wr w2 → BdL w l v4 w2) := Lib.hid fun v4 w2 h4 hb => ⟨i + 1, G, D, P, ps, h4, by rw [HN.out]; exact hlt, by omega, by rw [HNX.out]; unfold step8 fits8; rw [hf, if_neg (by simp)]; exact HT.out.below hb⟩
          clear hx hf hlt hlt2 hi' hi2
          go_wp2_with (go_at_call 10; refine HF.out.mono ?_; rintro e w2 ⟨rfl, hb⟩
                       have HZ := Lib.hid (fun v4 h4 => HY.out v4 w2 h4 (HBA.out.trans (hb.mono HBA.out.size)))
                       obtain ⟨x0, x1, x2⟩ := box3Y ((hb.block _ (by simp)).trans HBX.out)
                       clear hb)
          go_roundw
          case rel => first | exact HZ.out _ (by go_num) | ((repeat apply Exists.intro); exact ⟨HZ.out _ (by go_num), rfl⟩)
          case measure => simp [intOf]; omega
        | true =>
          rw [hf] at HF
          by_cases hk1 : x.k = 1
          · have k1 : (x.k == 1) = true := by rw [hk1]; rfl
            have k2 : (x.k == 2) = false := by rw [hk1]; rfl
            have HY : Hid (∀ w2, Below wr.heap.size wr w2 → w2.heap[wr.heap.size]? = some (.cells #[.int .i64 x.k, .slice x.A x.l.length x.ac, .slice x.B x.m.length x.bc] 31 (0, 0)) → Calls Try.prog 12 #[.pointer (some ⟨w.heap.size, 0, none⟩), .slice x.A x.l.length x.ac, .slice x.B x.m.length x.bc] w2 (fun e w3 => (∃ A n c B, e = .returned (.tuple #[.slice A n c, .bool B])) ∧ w3.heap[wr.heap.size]? = some (.cells #[.int .i64 x.k, .slice x.A x.l.length x.ac, .slice x.B x.m.length x.bc] 31 (0, 0)) ∧ ∀ v4, v4 = .int .i64 ((i + 1 : Nat) : Int) → BdL w l v4 w3)) := Lib.hid fun w2 hb hbx => by
              have hbw := HT.out.bel.trans (hb.mono HT.out.bel.size)
              have hll : x.l.length ≤ 40 ∧ x.m.length ≤ 40 := by simpa using hf
              refine ((HT.out.below hb).put2 (by have := HLN.out; omega) x.l x.m x.A x.B _ _ _ _ rfl rfl (by omega) (by omega) ((HOK.out.rk.below hbw (Nat.le_refl _)).more hbw.size) ((HOK.out.rr.below hbw (Nat.le_refl _)).more hbw.size)).mono ?_
              rintro e w3 ⟨⟨G', D', P', ps', A', n', c', rfl, ht, _, _⟩, hO⟩
              exact ⟨⟨_, _, _, _, rfl⟩, (hO.block _ (Array.getElem?_eq_some_iff.1 hbx).1 (fun hg => Nat.lt_irrefl _ (HT.out.tb.t.glt _ hg))).trans hbx, fun v4 h4 => ⟨i + 1, G', D', P', ps', h4, by rw [HN.out]; exact HI.out, by omega, by rw [HNX.out]; unfold step8 fits8; rw [hf, if_pos rfl, if_pos hk1]; exact ht⟩⟩
            clear hx hf hlt hlt2 hi' hi2 hk1
            go_wp2_with (first
              | (go_at_call 10; refine HF.out.mono ?_; rintro e w2 ⟨rfl, hb⟩
                 have HB2 := Lib.hid (HBA.out.trans (hb.mono HBA.out.size))
                 have HBX := Lib.hid ((hb.block _ (by simp)).trans HBX.out)
                 obtain ⟨x0, x1, x2⟩ := box3Y HBX.out
                 clear hb)
              | (go_at_call 12; refine (HY.out _ HB2.out HBX.out).mono ?_; rintro e w3 ⟨⟨A', n', c', B', rfl⟩, hbx, hz⟩
                 have HZ := Lib.hid hz
                 obtain ⟨x0, x1, x2⟩ := box3Y hbx
                 clear hz hbx)
              | fail)
            go_roundw
            case rel => first | exact HZ.out _ (by go_num) | ((repeat apply Exists.intro); exact ⟨HZ.out _ (by go_num), rfl⟩)
            case measure => simp [intOf]; omega
          · have k1 : (x.k == 1) = false := by simpa using hk1
            by_cases hk2 : x.k = 2
            · have k2 : (x.k == 2) = true := by rw [hk2]; rfl
              have HY : Hid (∀ w2, Below wr.heap.size wr w2 → w2.heap[wr.heap.size]? = some (.cells #[.int .i64 x.k, .slice x.A x.l.length x.ac, .slice x.B x.m.length x.bc] 31 (0, 0)) → Calls Try.prog 14 #[.pointer (some ⟨w.heap.size, 0, none⟩), .slice x.A x.l.length x.ac] w2 (fun e w3 => (∃ A n c B, e = .returned (.tuple #[.slice A n c, .bool B])) ∧ w3.heap[wr.heap.size]? = some (.cells #[.int .i64 x.k, .slice x.A x.l.length x.ac, .slice x.B x.m.length x.bc] 31 (0, 0)) ∧ ∀ v4, v4 = .int .i64 ((i + 1 : Nat) : Int) → BdL w l v4 w3)) := Lib.hid fun w2 hb hbx => by
                have hbw := HT.out.bel.trans (hb.mono HT.out.bel.size)
                have hll : x.l.length ≤ 40 ∧ x.m.length ≤ 40 := by simpa using hf
                refine ((HT.out.below hb).drop2 x.l x.A _ _ rfl ((HOK.out.rk.below hbw (Nat.le_refl _)).more hbw.size)).mono ?_
                rintro e w3 ⟨⟨G', D', P', ps', A', n', c', rfl, ht, _, _⟩, hO⟩
                exact ⟨⟨_, _, _, _, rfl⟩, (hO.block _ (Array.getElem?_eq_some_iff.1 hbx).1 (fun hg => Nat.lt_irrefl _ (HT.out.tb.t.glt _ hg))).trans hbx, fun v4 h4 => ⟨i + 1, G', D', P', ps', h4, by rw [HN.out]; exact HI.out, by omega, by rw [HNX.out]; unfold step8 fits8; rw [hf, if_pos rfl, if_neg hk1, if_pos hk2]; exact ht⟩⟩
              clear hx hf hlt hlt2 hi' hi2 hk1 hk2
              go_wp2_with (first
                | (go_at_call 10; refine HF.out.mono ?_; rintro e w2 ⟨rfl, hb⟩
                   have HB2 := Lib.hid (HBA.out.trans (hb.mono HBA.out.size))
                   have HBX := Lib.hid ((hb.block _ (by simp)).trans HBX.out)
                   obtain ⟨x0, x1, x2⟩ := box3Y HBX.out
                   clear hb)
                | (go_at_call 14; refine (HY.out _ HB2.out HBX.out).mono ?_; rintro e w3 ⟨⟨A', n', c', B', rfl⟩, hbx, hz⟩
                   have HZ := Lib.hid hz
                   obtain ⟨x0, x1, x2⟩ := box3Y hbx
                   clear hz hbx)
                | fail)
              go_roundw
              case rel => first | exact HZ.out _ (by go_num) | ((repeat apply Exists.intro); exact ⟨HZ.out _ (by go_num), rfl⟩)
              case measure => simp [intOf]; omega
            · have k2 : (x.k == 2) = false := by simpa using hk2
              have HZ : Hid (∀ v4, v4 = .int .i64 ((i + 1 : Nat) : Int) → ∀ w2, Below wr.heap.size wr w2 → BdL w l v4 w2) := Lib.hid fun v4 h4 w2 hb => ⟨i + 1, G, D, P, ps, h4, by rw [HN.out]; exact hlt, by omega, by rw [HNX.out]; unfold step8 fits8; rw [hf, if_pos rfl, if_neg hk1, if_neg hk2]; exact HT.out.below hb⟩
              clear hx hf hlt hlt2 hi' hi2 hk1 hk2
              go_wp2_with (first
                | (go_at_call 10; refine HF.out.mono ?_; rintro e w2 ⟨rfl, hb⟩
                   have HB2 := Lib.hid (HBA.out.trans (hb.mono HBA.out.size))
                   have HBX := Lib.hid ((hb.block _ (by simp)).trans HBX.out)
                   obtain ⟨x0, x1, x2⟩ := box3Y HBX.out
                   clear hb)
                | fail)
              go_roundw
              case rel => first | exact HZ.out _ (by go_num) _ HB2.out | ((repeat apply Exists.intro); exact ⟨HZ.out _ (by go_num) _ HB2.out, rfl⟩)
              case measure => simp [intOf]; omega
      · have hie : i = 150 := by omega
        have HE : Hid (TaW w wr G D w.heap.size P ps (bldTo l (min l.length 150))) := Lib.hid (by rw [HN.out, show min n 150 = i by omega]; exact HT.out)
        have hlti2 : ¬ (i : Int) < 150 := by omega
        clear hlt hlt2 hi' hi2 hie
        go_wp2_with fail
        go_ret
        exact ⟨rfl, _, _, _, _, HE.out⟩
    · have hie : i = n := by omega
      have HE : Hid (TaW w wr G D w.heap.size P ps (bldTo l (min l.length 150))) := Lib.hid (by rw [HN.out, show min n 150 = i by omega]; exact HT.out)
      have hlti : ¬ (i : Int) < (n : Int) := by omega
      clear hlt hi' hi2 hie
      go_wp2_with fail
      go_ret
      exact ⟨rfl, _, _, _, _, HE.out⟩
end Go.Proofs.Ytkjgiabkhemcnaa

/- errors.Is and Has answer whether a code is among a tree's codes, for every tree that lies in memory. -/
import Derived.Test.YtdfmmphoccfacaaDoorF
namespace Go.Proofs.YtdfmmphoccfacaaDoor
open Go.RowKit Go.Extern.Stop Go.Stop Go.Extern

theorem unwrap55 (b : Nat) (u : Value) (w : World) (h : w.cell? ⟨b, 2, none⟩ = some u) : Calls Tryd.prog 60 #[.pointer (some ⟨b, 0, none⟩)] w fun e w' => e = .returned u ∧ w = w' := by
  go_enter Tryd.func60, Tryd.ntmps60
  go_wp2
  go_ret
  exact ⟨rfl, rfl⟩
theorem as93_55 (v : Value) (x : TypeId) (w : World) : (Instr.typeAssert (.iface 55 v) x 93 true).run Tryd.prog w = .ok (.tuple #[.iface 55 v, .bool true]) w := run_typeAssert_hasB Tryd.underlying93 (by kernel_rfl) v x w
theorem as93_69 (v : Value) (x : TypeId) (w : World) : (Instr.typeAssert (.iface 69 v) x 93 true).run Tryd.prog w = .ok (.tuple #[.iface 69 v, .bool true]) w := run_typeAssert_hasB Tryd.underlying93 (by kernel_rfl) v x w
theorem as96_55 (v : Value) (x : TypeId) (w : World) : (Instr.typeAssert (.iface 55 v) x 96 true).run Tryd.prog w = .ok (.tuple #[.iface 55 v, .bool true]) w := run_typeAssert_hasB Tryd.underlying96 (by kernel_rfl) v x w
theorem as96_69 (v : Value) (x : TypeId) (w : World) : (Instr.typeAssert (.iface 69 v) x 96 true).run Tryd.prog w = .ok (.tuple #[.nilIface, .bool false]) w := run_typeAssert_lacksB Tryd.underlying96 (by kernel_rfl) (by kernel_rfl) v x w
theorem as98_69 (v : Value) (x : TypeId) (w : World) : (Instr.typeAssert (.iface 69 v) x 98 true).run Tryd.prog w = .ok (.tuple #[.nilIface, .bool false]) w := run_typeAssert_lacksB Tryd.underlying98 (by kernel_rfl) (by kernel_rfl) v x w
theorem eq55_65 (v u : Value) (w : World) : (binOp .eql 29 (.iface 55 v) (.iface 65 u)).run Tryd.prog w = .ok (.bool false) w := run_eql_iface_types 55 65 v u Tryd.underlying29 (by decide) w
theorem eq69_65 (v u : Value) (w : World) : (binOp .eql 29 (.iface 69 v) (.iface 65 u)).run Tryd.prog w = .ok (.bool false) w := run_eql_iface_types 69 65 v u Tryd.underlying29 (by decide) w

def cmpE : Array Value → Sem Value := ReflectliteType.method fun t => do Rtype.noPackHeld "Comparable" t; pure (.bool (← typeInfo t).comparable)
theorem cmp65 (w : World) : (cmpE #[.agg #[.pointer (some ⟨1, 65, none⟩)]]).run Tryd.prog w = .ok (.bool true) w := by kernel_rfl
theorem rf_typeOf65 (v : Value) (w : World) : (ReflectliteType.typeOf #[.iface 65 v]).run Tryd.prog w = .ok (.iface 91 (.agg #[.pointer (some ⟨1, 65, none⟩)])) w := by kernel_rfl

set_option maxHeartbeats 2000000 in
theorem Is_core (T : TypeId) (hT : T = 55 ∨ T = 69) (b q : Nat) (w : World) (R : Bool → World → Prop)
    (HC : Hid (Calls Tryd.prog 34 #[.iface T (.pointer (some ⟨b, 0, none⟩)), .iface 65 (.pointer (some ⟨q, 0, none⟩)), .bool true] w fun e w' => ∃ x, e = .returned (.bool x) ∧ R x w')) :
    Calls Tryd.prog 31 #[.iface T (.pointer (some ⟨b, 0, none⟩)), .iface 65 (.pointer (some ⟨q, 0, none⟩))] w fun e w' => ∃ x, e = .returned (.bool x) ∧ R x w' := by
  have h33 := @run_callFunc_extern Tryd.prog 33 _ ReflectliteType.typeOf Tryd.func33 (by kernel_rfl) (by kernel_rfl) (by kernel_rfl) (by kernel_rfl)
  have h74 := @run_callFunc_extern Tryd.prog 74 _ cmpE Tryd.func74 (by kernel_rfl) (by kernel_rfl) (by kernel_rfl) (by kernel_rfl)
  have tO := rf_typeOf65
  have cm := cmp65
  have HQ : Hid (∀ x w', R x w' → Hid (∃ y, Ending.returned (.bool x) = .returned (.bool y) ∧ R y w')) := fun x w' h => ⟨x, rfl, h⟩
  rcases hT with rfl | rfl
  all_goals
    go_enter Tryd.func31, Tryd.ntmps31
    go_wp2_with (first | (go_at_call 34; refine HC.out.mono ?_; rintro e w3 ⟨x, rfl, h⟩; have HW := HQ.out _ _ h; clear h) | go_in)
    go_ret
    exact HW.out

def blkOf : Value → Nat
  | .iface _ (.pointer (some a)) => a.block
  | _ => 0
theorem blkOf_val (x : Tree) : blkOf x.val = x.blk := by cases x <;> rfl

theorem Tree.blk_lt : ∀ {u : Tree} {b : Nat}, u ≠ .nil → u.bound ≤ b → u.blk < b
  | .nil, _, h, _ => absurd rfl h
  | .fault _ _ _ _, _, _, h => h
  | .join _ _ _, _, _, h => h
/-- at the head of errors.is's loop -/
def IsInv (w : World) (q m : Nat) (k : Int) (S : List Nat) (x : Tree) (N : Nat) (v : Value) (wr : World) : Prop :=
  ∃ y : Tree, v = y.val ∧ Seeks wr q m k S y ∧ (k ∈ x.codes ↔ k ∈ y.codes) ∧ y.subs = x.subs ∧ y.bound ≤ N ∧ w.grownBy wr (some m)

/-- what errors.is leaves -/
def IsPost (w : World) (m : Nat) (k : Int) (S : List Nat) (x : Tree) : Ending → World → Prop := fun e w' => ∃ r, e = .returned (.bool r) ∧ Sought w m k S x r w'

set_option maxHeartbeats 4000000 in
theorem is_any (q m : Nat) (k : Int) (N : Nat)
    (IH : ∀ (b : Nat) (l r : Tree) (S : List Nat) (w : World), b < N → Seeks w q m k S (.join b l r) → Calls Tryd.prog 65 #[.pointer (some ⟨b, 0, none⟩), .iface 65 (.pointer (some ⟨q, 0, none⟩))] w (IsPost w m k S (.join b l r)))
    (x : Tree) (S : List Nat) (w : World) (hs : Seeks w q m k S x) (hN : x.bound ≤ N) :
    Calls Tryd.prog 34 #[x.val, .iface 65 (.pointer (some ⟨q, 0, none⟩)), .bool true] w (IsPost w m k S x) := by
  have g1 := as93_55
  have g2 := as93_69
  have g3 := as96_55
  have g4 := as96_69
  have g5 := as98_69
  have g6 := eq55_65
  have g7 := eq69_65
  have HI := Lib.hid IH
  have HS := Lib.hid hs
  clear IH hs
  go_enter Tryd.func34, Tryd.ntmps34
  go_wp2_with fail
  go_loopw [0] (fun v wr => IsInv w q m k S x N v wr) (fun v _ => blkOf v)
  case atStart => exact ⟨x, rfl, HS.out, Iff.rfl, rfl, hN, ⟨rfl, rfl, rfl, Nat.le_refl _, fun _ _ _ => rfl⟩⟩
  case round =>
    obtain ⟨y, rfl, hy, hk, hsub, hyN, hg⟩ := hrel
    cases y with
    | nil => exact absurd rfl hy.nn
    | fault b c p u =>
      have hR := hy.rep
      obtain ⟨h1, hc0, hc, hp, hub, hu⟩ := hR
      have cb : wr.cell? ⟨b, 0, none⟩ = some (.int .i64 c) := by simp [World.cell?, h1]
      have cu : wr.cell? ⟨b, 2, none⟩ = some u.val := by simp [World.cell?, h1]
      have HF := Lib.hid (fIs b q c k wr cb hy.code)
      have HU := fun n => unwrap55 b u.val (wr.drewN n) cu
      have HU2 := Lib.hid HU
      clear HU cu cb
      simp only [Tree.val]
      by_cases hkc : k = c
      · have HR : Hid (∀ n, IsPost w m k S x (.returned (.bool true)) (wr.drewN n)) := fun n => ⟨true, rfl, S, by rw [hk]; simp [Tree.codes, hkc], hy.set, ⟨hg.os, hg.tape, hg.output, hg.size, hg.block⟩, fun h => by cases h⟩
        rw [show decide (k = c) = true by simpa using hkc] at HF
        clear hk hsub hyN hg hy h1 hc0 hc hp hub hu hN hkc
        go_wp2_with (first | (go_at_call 59; refine HF.out.mono ?_; rintro e w' ⟨rfl, n, rfl⟩))
        go_ret
        exact HR.out _
      · rw [show decide (k = c) = false by simpa using hkc] at HF
        by_cases hun : u = .nil
        · have HR : Hid (∀ n, IsPost w m k S x (.returned (.bool false)) (wr.drewN n)) := fun n => ⟨false, rfl, S, by rw [hk, hun]; simp [Tree.codes, hkc], hy.set, ⟨hg.os, hg.tape, hg.output, hg.size, hg.block⟩, fun _ _ h => .inl h⟩
          subst hun
          simp only [Tree.val] at HU2
          clear hk hsub hyN hg hy h1 hc0 hc hp hub hu hN hkc
          go_wp2_with (first | (go_at_call 59; refine HF.out.mono ?_; rintro e w' ⟨rfl, n, rfl⟩) | (go_at_call 60; refine (HU2.out _).mono ?_; rintro e w' ⟨rfl, rfl⟩))
          go_ret
          exact HR.out _
        · have HR : Hid (∀ n, IsInv w q m k S x N u.val (wr.drewN n)) := fun n => ⟨u, rfl, ⟨Rep.kept (w := wr) (w' := wr.drewN n) (fun _ _ _ _ => rfl) hu, hun, hy.code, hy.been, hy.set, hy.clear, hy.query⟩, by rw [hk]; simp [Tree.codes, hkc], hsub, by simp only [Tree.bound] at hyN; omega, ⟨hg.os, hg.tape, hg.output, hg.size, hg.block⟩⟩
          have HM : Hid (blkOf u.val < b) := by
            rw [blkOf_val]; exact Tree.blk_lt hun hub
          obtain ⟨T, d, hT, hv⟩ := Tree.val_iface hun
          rw [hv] at HU2 HR HM
          clear hk hsub hyN hg hy h1 hc0 hc hp hub hu hN hkc hun
          rcases hT with rfl | rfl
          all_goals
            go_wp2_with (first | (go_at_call 59; refine HF.out.mono ?_; rintro e w' ⟨rfl, n, rfl⟩) | (go_at_call 60; refine (HU2.out _).mono ?_; rintro e w' ⟨rfl, rfl⟩))
            go_roundw
            case rel => exact HR.out _
            case measure => exact HM.out
    | join b l r =>
      have HJ := Lib.hid (HI.out b l r S wr hyN hy)
      have HR : Hid (∀ r' w', Sought wr m k S (.join b l r) r' w' → Hid (IsPost w m k S x (.returned (.bool r')) w')) := fun r' w' ⟨S', a1, a2, a3, a4⟩ => ⟨r', rfl, S', a1.trans hk.symm, a2, grownBy_trans hg a3, fun h c hc => by rw [← hsub]; exact a4 h c hc⟩
      clear hk hsub hyN hg hy hN
      simp only [Tree.val]
      go_wp2_with fail
      refine HJ.out.mono ?_
      rintro e w1 ⟨r', rfl, hr⟩
      have HW := HR.out _ _ hr
      clear hr
      cases r'
      all_goals
        go_wp2_with fail
        go_ret
        exact HW.out

theorem Is_any (q m : Nat) (k : Int) (N : Nat)
    (IH : ∀ (b : Nat) (l r : Tree) (S : List Nat) (w : World), b < N → Seeks w q m k S (.join b l r) → Calls Tryd.prog 65 #[.pointer (some ⟨b, 0, none⟩), .iface 65 (.pointer (some ⟨q, 0, none⟩))] w (IsPost w m k S (.join b l r)))
    (x : Tree) (S : List Nat) (w : World) (hs : Seeks w q m k S x) (hN : x.bound ≤ N) :
    Calls Tryd.prog 31 #[x.val, .iface 65 (.pointer (some ⟨q, 0, none⟩))] w (IsPost w m k S x) := by
  have h := is_any q m k N IH x S w hs hN
  obtain ⟨T, d, hT, hv⟩ := Tree.val_iface hs.nn
  rw [hv] at h ⊢
  exact Is_core T hT d q w _ h

theorem jIs_any (q m : Nat) (k : Int) : ∀ (N : Nat) (b : Nat) (l r : Tree) (S : List Nat) (w : World), b < N → Seeks w q m k S (.join b l r) → Calls Tryd.prog 65 #[.pointer (some ⟨b, 0, none⟩), .iface 65 (.pointer (some ⟨q, 0, none⟩))] w (IsPost w m k S (.join b l r))
  | 0, _, _, _, _, _, h, _ => absurd h (Nat.not_lt_zero _)
  | N + 1, b, l, r, S, w, hb, hs => by
    have IH := jIs_any q m k N
    have hR := hs.rep
    obtain ⟨h1, hl, hr, hlb, hrb, hL, hRr⟩ := hs.rep
    have hj : IsJoin w b := ⟨_, h1⟩
    have hlook := run_lookup_ptr hs.set hj
    have hB := alloc_below w (.cells #[] 122)
    have hg0 : w.grownBy (w.alloc (.cells #[] 122)) (some m) := grownBy_below hB
    by_cases hbs : b ∈ S
    · rw [show decide (b ∈ S) = true by simpa using hbs] at hlook
      refine (jIs_old b q w _ (enter_old q m b w hs.been hlook)).mono ?_
      rintro e w' ⟨rfl, rfl⟩
      have hk := hs.clear (.join b l r) (by simp [Tree.subs]) hbs
      exact ⟨false, rfl, S, ⟨fun h => (by cases h), fun h => absurd h hk⟩, hs.set.kept (World.grownBy_alloc w _ none) (by simp) (by simp), hg0, fun _ c hc => .inl hc⟩
    · rw [show decide (b ∈ S) = false by simpa using hbs] at hlook
      have hm0 : PtrMap (w.alloc (.cells #[] 122)) m S := hs.set.kept (World.grownBy_alloc w _ none) (by simp) (by simp)
      have hj0 : IsJoin (w.alloc (.cells #[] 122)) b := ⟨_, (hB.block b (Array.getElem?_eq_some_iff.1 h1).1).trans h1⟩
      obtain ⟨w1, hrun, hm1, hg1⟩ := run_update_ptr hm0 hj0 hbs
      have hg01 := grownBy_trans hg0 hg1
      have hcl : Clear S k l := fun y hy => hs.clear y (by simp [Tree.subs, hy])
      have hcr : Clear S k r := fun y hy => hs.clear y (by simp [Tree.subs, hy])
      have s1 : Seeks w1 q m k (S ++ [b]) l := hs.later hg01 hm1 hL hl (hcl.grow hL hlb)
      refine jIs_new b q l.val r.val w w1 (fun x w' => Sought w m k S (.join b l r) x w') (fun w2 => Sought w1 m k (S ++ [b]) l false w2) (enter_new q m b w w1 hs.been hlook hrun)
        (by rw [World.cell?_of_block (w := w) (grown_cells hs.set hg01 h1)]; simp [World.cell?, h1]) ((Is_any q m k N IH l (S ++ [b]) w1 s1 (by omega)).mono ?_) ?_
      · rintro e w2 ⟨x, rfl, hx⟩
        cases x
        · exact .inr ⟨rfl, hx⟩
        · obtain ⟨S', a1, a2, a3, a4⟩ := hx
          exact .inl ⟨rfl, S', by simp [Tree.codes, a1.1 rfl], a2, grownBy_trans hg01 a3, fun h => by cases h⟩
      · rintro w2 ⟨S', a1, a2, a3, a4⟩
        have hkl : k ∉ l.codes := fun h => by have := a1.2 h; cases this
        have hg2 := grownBy_trans hg01 a3
        have s2 : Seeks w2 q m k S' r := hs.later hg2 a2 hRr hr (hcr.next hL hRr hrb hkl (a4 rfl))
        refine ⟨by rw [World.cell?_of_block (w := w) (grown_cells hs.set hg2 h1)]; simp [World.cell?, h1], (Is_any q m k N IH r S' w2 s2 (by omega)).mono ?_⟩
        rintro e w3 ⟨x, rfl, S3, c1, c2, c3, c4⟩
        refine ⟨x, rfl, S3, by simp [Tree.codes, c1, hkl], c2, grownBy_trans hg2 c3, fun h c hc => ?_⟩
        rcases c4 h c hc with h' | h'
        · rcases a4 rfl c h' with h'' | h''
          · rcases List.mem_append.1 h'' with h3 | h3
            · exact .inl h3
            · simp at h3; subst h3; exact .inr (by simp [Tree.subs, Tree.blk])
          · obtain ⟨z, hz, he⟩ := List.mem_map.1 h''
            exact .inr (List.mem_map.2 ⟨z, by simp [Tree.subs, hz], he⟩)
        · obtain ⟨z, hz, he⟩ := List.mem_map.1 h'
          exact .inr (List.mem_map.2 ⟨z, by simp [Tree.subs, hz], he⟩)

/-! ### Has -/
theorem has_zero (v : Value) (w : World) : Calls Tryd.prog 15 #[v, .int .i64 0] w fun e w' => e = .returned (.bool false) ∧ w = w' := by
  go_enter Tryd.func15, Tryd.ntmps15
  go_wp2
  go_ret
  exact ⟨rfl, rfl⟩
theorem eqnil_65 (v : Value) (w : World) : (binOp .eql 29 .nilIface (.iface 65 v)).run Tryd.prog w = .ok (.bool false) w := by kernel_rfl
theorem Is_nil (v : Value) (w : World) : Calls Tryd.prog 31 #[.nilIface, .iface 65 v] w fun e w' => e = .returned (.bool false) ∧ w = w' := by
  have h1 := eqnil_65
  go_enter Tryd.func31, Tryd.ntmps31
  go_wp2_with fail
  go_ret
  exact ⟨rfl, rfl⟩
theorem has_core (v : Value) (k : Int) (w : World) (R : Bool → World → Prop) (h0 : k ≠ 0)
    (HO : Hid (∀ w, Calls Tryd.prog 30 #[v] w fun e w' => e = .returned v ∧ w = w'))
    (HC : Hid (Calls Tryd.prog 31 #[v, .iface 65 (.pointer (some ⟨w.heap.size + 1, 0, none⟩))] ((w.alloc (.map #[] 0)).alloc (.cells #[.int .i64 k, .map (some w.heap.size)] 68)) fun e w' => ∃ x, e = .returned (.bool x) ∧ R x w')) :
    Calls Tryd.prog 15 #[v, .int .i64 k] w fun e w' => ∃ x, e = .returned (.bool x) ∧ R x w' := by
  have HQ : Hid (∀ x w', R x w' → Hid (∃ y, Ending.returned (.bool x) = .returned (.bool y) ∧ R y w')) := fun x w' h => ⟨x, rfl, h⟩
  have hmm : ∀ w : World, (Instr.makeMap 66 none).run Tryd.prog w = .ok (.map (some w.heap.size)) (w.alloc (.map #[] 0)) := fun w => rfl
  go_enter Tryd.func15, Tryd.ntmps15
  go_wp2_with (first | (go_at_call 30; refine (HO.out _).mono ?_; rintro e w' ⟨rfl, rfl⟩) | (go_at_call 31; refine HC.out.mono ?_; rintro e w3 ⟨x, rfl, h⟩; have HW := HQ.out _ _ h; clear h))
  go_ret
  exact HW.out

theorem has_any (x : Tree) (k : Int) (w : World) (hR : Rep w x) : Calls Tryd.prog 15 #[x.val, .int .i64 k] w fun e w' => e = .returned (.bool (decide (k ≠ 0 ∧ k ∈ x.codes))) ∧ Below w.heap.size w w' := by
  by_cases h0 : k = 0
  · subst h0
    refine (has_zero x.val w).mono ?_
    rintro e w' ⟨rfl, rfl⟩
    exact ⟨by simp, Below.refl _ _⟩
  · have hB := alloc2_below w (.map #[] 0) (.cells #[.int .i64 k, .map (some w.heap.size)] 68)
    by_cases hn : x = .nil
    · subst hn
      refine (has_core Tree.nil.val k w (fun r w' => r = false ∧ Below w.heap.size w w') h0 (own_any .nil) ((Is_nil _ _).mono ?_)).mono ?_
      · rintro e w' ⟨rfl, rfl⟩
        exact ⟨false, rfl, rfl, hB⟩
      · rintro e w' ⟨r, rfl, rfl, h⟩
        exact ⟨by simp [Tree.codes], h⟩
    · have s0 : Seeks ((w.alloc (.map #[] 0)).alloc (.cells #[.int .i64 k, .map (some w.heap.size)] 68)) (w.heap.size + 1) w.heap.size k [] x :=
        ⟨hR.below hB, hn, by simp, by simp, ⟨#[], 0, by rw [Below.heap_alloc _ _ _ (by simp)]; exact heap_new _ _, by simp, by simp, by simp⟩, fun _ _ h => by simp at h, _, _, by
          have := heap_new (w.alloc (.map #[] 0)) (.cells #[.int .i64 k, .map (some w.heap.size)] 68)
          simpa using this⟩
      refine (has_core x.val k w (fun r w' => (r = true ↔ k ∈ x.codes) ∧ Below w.heap.size w w') h0 (own_any x) ((Is_any _ _ k x.bound (fun b l r S w hb => jIs_any _ _ k x.bound b l r S w hb) x [] _ s0 (Nat.le_refl _)).mono ?_)).mono ?_
      · rintro e w' ⟨r, rfl, S', a1, a2, a3, a4⟩
        exact ⟨r, rfl, a1, hB.trans ⟨a3.os, a3.tape, a3.output, a3.size, fun j hj => a3.block j (by simp; omega) (by simp; omega)⟩⟩
      · rintro e w' ⟨r, rfl, h, hb⟩
        refine ⟨?_, hb⟩
        congr 2
        cases r
        · have : k ∉ x.codes := fun hc => by have := h.2 hc; cases this
          simp [this]
        · simp [h0, h.1 rfl]
end Go.Proofs.YtdfmmphoccfacaaDoor

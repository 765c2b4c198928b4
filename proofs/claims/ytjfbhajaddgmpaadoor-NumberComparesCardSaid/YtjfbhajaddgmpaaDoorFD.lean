/- lead, Code, At and Deep answer a tree's first code, first place and depth, where the package variable errors.errorType holds its handle. -/
import Derived.Test.YtjfbhajaddgmpaaDoorFC
namespace Go.Proofs.YtjfbhajaddgmpaaDoor
open Go.RowKit Go.Extern.Stop Go.Stop Go.Extern

theorem Tree.val_iface : ∀ {t : Tree}, t ≠ .nil → ∃ T b, (T = 69 ∨ T = 90) ∧ t.val = .iface T (.pointer (some ⟨b, 0, none⟩))
  | .nil, h => absurd rfl h
  | .fault b _ _ _, _ => ⟨69, b, .inl rfl, rfl⟩
  | .join b _ _, _ => ⟨90, b, .inr rfl, rfl⟩

/-- the package variable's cell -/
def Handle (w : World) : Prop := w.cell? ⟨0, 0, none⟩ = some (.iface 112 (.agg #[.pointer (some ⟨4, 28, none⟩)]))
theorem Handle.lt {w : World} (h : Handle w) : 0 < w.heap.size := World.block_lt_of_cell? w ⟨0, 0, none⟩ h
theorem Handle.below {w w' : World} (h : Handle w) (hb : Below w.heap.size w w') : Handle w' := (hb.cell (p := ⟨0, 0, none⟩) h.lt).trans h
theorem grownBy_below {w w' : World} {row : Option Nat} (h : Below w.heap.size w w') : w.grownBy w' row := ⟨h.os, h.tape, h.output, h.size, fun k hk _ => h.block k hk⟩
theorem grownBy_trans {a b c : World} {row : Option Nat} (h : a.grownBy b row) (k : b.grownBy c row) : a.grownBy c row :=
  ⟨k.os.trans h.os, k.tape.trans h.tape, k.output.trans h.output, Nat.le_trans h.size k.size, fun i hi hr => (k.block i (Nat.lt_of_lt_of_le hi h.size) hr).trans (h.block i hi hr)⟩

theorem As_any (t : Addr) : ∀ (x : Tree) (old : Value) (w : World), x ≠ .nil → Rep w x → Handle w → w.cell? t = some old → w.frozen? t = false →
    Calls Tryd.prog 49 #[x.val, .iface 87 (.pointer (some t))] w (Hit t x.lead w)
  | .nil, _, _, h, _, _, _, _ => absurd rfl h
  | .fault b c p u, old, w, _, hR, hg, ht, hf => by
    have tl := World.block_lt_of_cell? w t ht
    have hB := alloc2_below w (.cells #[.pointer (some t)] 87) (.cells #[.pointer (some ⟨4, 87, none⟩), .pointer (some ⟨w.heap.size, 0, none⟩), .int .u64 150] 100)
    refine (As_core 69 (.inl rfl) b t old w (fun w' => w.grownBy w' (some t.block) ∧ w'.cell? t = some (.pointer (some ⟨b, 0, none⟩)) ∧ w'.frozen? t = false) hg ht
      ((as_fault b t ⟨w.heap.size, 0, none⟩ old _ ((hB.cell tl).trans ht) ((hB.frozen tl).trans hf) (by rw [World.cell?_alloc_lt _ _ _ (by simp), World.cell?_alloc_at _ _ _ _ rfl]; rfl)).mono ?_)).mono ?_
    · rintro e w' ⟨he, rfl⟩
      have hB2 := (alloc2_below ((w.alloc (.cells #[.pointer (some t)] 87)).alloc (.cells #[.pointer (some ⟨4, 87, none⟩), .pointer (some ⟨w.heap.size, 0, none⟩), .int .u64 150] 100))
        (.cells #[.pointer (some ⟨4, 87, none⟩), .pointer (some ⟨w.heap.size, 0, none⟩), .int .u64 150] 100) (.cells #[.pointer (some ⟨b, 0, none⟩)] 69))
      have hB3 := hB.trans (hB2.mono hB.size)
      refine ⟨he, grownBy_trans (grownBy_below hB3) (grownBy_setCellF _ _ _), ?_, ?_⟩
      · exact World.cell?_setCell_same _ _ _ ((hB3.cell tl).trans ht)
      · rw [World.frozen?_setCell]; exact (hB3.frozen tl).trans hf
    · rintro e w' h; exact h
  | .join b l r, old, w, _, hR, hg, ht, hf => by
    obtain ⟨h1, h2, h3, h4, h5, h6, h7⟩ := hR
    have tl := World.block_lt_of_cell? w t ht
    have hB := alloc2_below w (.cells #[.pointer (some t)] 87) (.cells #[.pointer (some ⟨4, 87, none⟩), .pointer (some ⟨w.heap.size, 0, none⟩), .int .u64 150] 100)
    have hB3 := hB.alloc hB.size (.cells #[.pointer (some ⟨4, 87, none⟩), .pointer (some ⟨w.heap.size, 0, none⟩), .int .u64 150] 100)
    have lb : b < w.heap.size := (Array.getElem?_eq_some_iff.1 h1).1
    refine (As_core 90 (.inr rfl) b t old w (fun w' => w.grownBy w' (some t.block) ∧ w'.cell? t = some (.pointer (some ⟨l.lead, 0, none⟩)) ∧ w'.frozen? t = false) hg ht
      (as_join b _ ⟨w.heap.size, 0, none⟩ _ _ (jAs_core b l.val _ _ _ ((hB3.cell (p := ⟨b, 0, none⟩) lb).trans (by simp [World.cell?, h1]))
        ((As_any t l old _ h2 (h6.below hB3) (hg.below hB3) ((hB3.cell tl).trans ht) ((hB3.frozen tl).trans hf)).mono ?_)))).mono ?_
    · rintro e w' ⟨he, h1, h2, h3⟩
      exact ⟨he, grownBy_trans (grownBy_below hB3) h1, h2, h3⟩
    · rintro e w' h; exact h

/-! ### lead, Code, At -/
theorem Rep.lead {w : World} : ∀ {x : Tree}, Rep w x → x ≠ .nil → ∃ c p u d, w.heap[x.lead]? = some (.cells #[.int .i64 c, .int .i64 p, u, .int .i64 d] 74 (0, 0)) ∧ x.codes.head? = some c ∧ x.places.head? = some p ∧ c ≠ 0 ∧ x.lead < x.bound
  | .nil, _, h => absurd rfl h
  | .fault b c p u, h, _ => ⟨c, p, u.val, _, h.1, rfl, rfl, h.2.1, Nat.lt_succ_self _⟩
  | .join b l r, h, _ => by
    obtain ⟨h1, h2, h3, h4, h5, h6, h7⟩ := h
    obtain ⟨c, p, u, d, a1, a2, a3, a4, a5⟩ := Rep.lead h6 h2
    refine ⟨c, p, u, d, a1, ?_, ?_, a4, by simp only [Tree.lead, Tree.bound]; omega⟩
    · simp [Tree.codes, List.head?_append, a2]
    · simp [Tree.places, List.head?_append, a3]

theorem lead_nil (w : World) : Calls Tryd.prog 37 #[.nilIface] w fun e w' => e = .returned (.pointer none) ∧ w' = w.alloc (.cells #[.pointer none] 69) := by
  have HO : Hid (∀ w, Calls Tryd.prog 50 #[.nilIface] w fun e w' => e = .returned .nilIface ∧ w = w') := own_any .nil
  go_enter Tryd.func37, Tryd.ntmps37
  go_wp2_with (first | (go_at_call 50; refine (HO.out _).mono ?_; rintro e w' ⟨rfl, rfl⟩) | go_in)
  go_ret
  exact ⟨rfl, rfl⟩

theorem lead_core (T : TypeId) (hT : T = 69 ∨ T = 90) (b : Nat) (f : Value) (w : World) (R : World → Prop)
    (HO : Hid (∀ w, Calls Tryd.prog 50 #[.iface T (.pointer (some ⟨b, 0, none⟩))] w fun e w' => e = .returned (.iface T (.pointer (some ⟨b, 0, none⟩))) ∧ w = w'))
    (HC : Hid (Calls Tryd.prog 49 #[.iface T (.pointer (some ⟨b, 0, none⟩)), .iface 87 (.pointer (some ⟨w.heap.size, 0, none⟩))] (w.alloc (.cells #[.pointer none] 69)) fun e w' => e = .returned (.bool true) ∧ w'.cell? ⟨w.heap.size, 0, none⟩ = some f ∧ R w')) :
    Calls Tryd.prog 37 #[.iface T (.pointer (some ⟨b, 0, none⟩))] w fun e w' => e = .returned f ∧ R w' := by
  rcases hT with rfl | rfl
  all_goals
    go_enter Tryd.func37, Tryd.ntmps37
    go_wp2_with (first | (go_at_call 50; refine (HO.out _).mono ?_; rintro e w' ⟨rfl, rfl⟩) | (go_at_call 49; refine HC.out.mono ?_; intro e w1 hr; obtain ⟨he, hcell, hv⟩ := hr; subst he; have HW := Lib.hid hv; clear hv))
    go_ret
    exact ⟨rfl, HW.out⟩

theorem lead_any (x : Tree) (w : World) (hx : x ≠ .nil) (hR : Rep w x) (hg : Handle w) : Calls Tryd.prog 37 #[x.val] w fun e w' => e = .returned (.pointer (some ⟨x.lead, 0, none⟩)) ∧ Below w.heap.size w w' := by
  obtain ⟨T, b, hT, hv⟩ := Tree.val_iface hx
  have ho := own_any x
  have hB := alloc_below w (.cells #[.pointer none] 69)
  have hc := As_any ⟨w.heap.size, 0, none⟩ x (.pointer none) (w.alloc (.cells #[.pointer none] 69)) hx (hR.below hB) (hg.below hB) (by simp) (by simp)
  rw [hv] at ho hc ⊢
  refine lead_core T hT b _ w _ ho (hc.mono ?_)
  rintro e w' ⟨he, h1, h2, h3⟩
  exact ⟨he, h2, (hB.trans ⟨h1.os, h1.tape, h1.output, h1.size, fun k hk => h1.block k (by simp; omega) (by simp; omega)⟩)⟩

theorem code_nil (w : World) : Calls Tryd.prog 13 #[.nilIface] w fun e w' => e = .returned (.int .i64 0) ∧ w' = w.alloc (.cells #[.pointer none] 69) := by
  go_enter Tryd.func13, Tryd.ntmps13
  go_wp2_with (go_at_call 37; refine (lead_nil _).mono ?_; rintro e w' ⟨rfl, rfl⟩)
  go_ret
  exact ⟨rfl, rfl⟩
theorem code_core (v : Value) (b : Nat) (c : Int) (w : World) (R : World → Prop)
    (HC : Hid (Calls Tryd.prog 37 #[v] w fun e w' => e = .returned (.pointer (some ⟨b, 0, none⟩)) ∧ w'.cell? ⟨b, 0, none⟩ = some (.int .i64 c) ∧ R w')) :
    Calls Tryd.prog 13 #[v] w fun e w' => e = .returned (.int .i64 c) ∧ R w' := by
  go_enter Tryd.func13, Tryd.ntmps13
  go_wp2_with (go_at_call 37; refine HC.out.mono ?_; intro e w1 hr; obtain ⟨he, hcell, hv⟩ := hr; subst he; have HW := Lib.hid hv; clear hv)
  go_ret
  exact ⟨rfl, HW.out⟩
theorem code_any (x : Tree) (w : World) (hR : Rep w x) (hg : Handle w) : Calls Tryd.prog 13 #[x.val] w fun e w' => e = .returned (.int .i64 (x.codes.headD 0)) ∧ Below w.heap.size w w' := by
  by_cases hx : x = .nil
  · subst hx
    refine (code_nil w).mono ?_
    rintro e w' ⟨rfl, rfl⟩
    exact ⟨rfl, alloc_below _ _⟩
  · obtain ⟨c, p, u, d, h1, h2, h3, h4, h5⟩ := hR.lead hx
    have hlt : x.lead < w.heap.size := (Array.getElem?_eq_some_iff.1 h1).1
    have e1 : x.codes.headD 0 = c := by rw [List.headD_eq_head?_getD, h2]; rfl
    rw [e1]
    refine code_core x.val x.lead c w _ ((lead_any x w hx hR hg).mono ?_)
    rintro e w' ⟨he, hb⟩
    exact ⟨he, by rw [hb.cell (p := ⟨x.lead, 0, none⟩) hlt]; simp [World.cell?, h1], hb⟩

theorem at_nil (w : World) : Calls Tryd.prog 14 #[.nilIface] w fun e w' => e = .returned (.int .i64 (-1)) ∧ w' = w.alloc (.cells #[.pointer none] 69) := by
  go_enter Tryd.func14, Tryd.ntmps14
  go_wp2_with (go_at_call 37; refine (lead_nil _).mono ?_; rintro e w' ⟨rfl, rfl⟩)
  go_ret
  exact ⟨rfl, rfl⟩
theorem at_core (v : Value) (b : Nat) (c : Int) (w : World) (R : World → Prop)
    (HC : Hid (Calls Tryd.prog 37 #[v] w fun e w' => e = .returned (.pointer (some ⟨b, 0, none⟩)) ∧ w'.cell? ⟨b, 1, none⟩ = some (.int .i64 c) ∧ R w')) :
    Calls Tryd.prog 14 #[v] w fun e w' => e = .returned (.int .i64 c) ∧ R w' := by
  go_enter Tryd.func14, Tryd.ntmps14
  go_wp2_with (go_at_call 37; refine HC.out.mono ?_; intro e w1 hr; obtain ⟨he, hcell, hv⟩ := hr; subst he; have HW := Lib.hid hv; clear hv)
  go_ret
  exact ⟨rfl, HW.out⟩
theorem at_any (x : Tree) (w : World) (hR : Rep w x) (hg : Handle w) : Calls Tryd.prog 14 #[x.val] w fun e w' => e = .returned (.int .i64 (x.places.headD (-1))) ∧ Below w.heap.size w w' := by
  by_cases hx : x = .nil
  · subst hx
    refine (at_nil w).mono ?_
    rintro e w' ⟨rfl, rfl⟩
    exact ⟨rfl, alloc_below _ _⟩
  · obtain ⟨c, p, u, d, h1, h2, h3, h4, h5⟩ := hR.lead hx
    have hlt : x.lead < w.heap.size := (Array.getElem?_eq_some_iff.1 h1).1
    have e1 : x.places.headD (-1) = p := by rw [List.headD_eq_head?_getD, h3]; rfl
    rw [e1]
    refine at_core x.val x.lead p w _ ((lead_any x w hx hR hg).mono ?_)
    rintro e w' ⟨he, hb⟩
    exact ⟨he, by rw [hb.cell (p := ⟨x.lead, 1, none⟩) hlt]; simp [World.cell?, h1], hb⟩

end Go.Proofs.YtjfbhajaddgmpaaDoor

/- Package fault's errors as trees in memory; what own, depth, New, Wrap and Join answer, for every tree that lies in memory (depth below 1000000). -/
import Derived.Test.YtdfmmphoccfacaaDoorRows
import Derived.WalkKit
import Derived.WalkSpells
import Derived.WalkLawsBesides
import Derived.Stop.Asserts
import Derived.LaidEql
import Derived.RowKitTokens
import Derived.IntWalk
import Derived.Lib.Hide
import Derived.Deep.QuietTactic
import Derived.BigQuiet
import Derived.Handy
namespace Go.Proofs.YtdfmmphoccfacaaDoor
open Go.RowKit Go.Extern.Stop Go.Stop Go.Extern

/-- AN ERROR AS A TREE: its block's number, its codes and places. -/
inductive Tree where
  | nil
  | fault (b : Nat) (code place : Int) (under : Tree)
  | join (b : Nat) (l r : Tree)
  deriving DecidableEq

namespace Tree
def val : Tree → Value
  | nil => .nilIface
  | fault b _ _ _ => .iface 55 (.pointer (some ⟨b, 0, none⟩))
  | join b _ _ => .iface 69 (.pointer (some ⟨b, 0, none⟩))
def bound : Tree → Nat
  | nil => 0
  | fault b _ _ _ => b + 1
  | join b _ _ => b + 1
def deep : Tree → Nat
  | nil => 0
  | fault _ _ _ u => u.deep + 1
  | join _ l r => max l.deep r.deep
def codes : Tree → List Int
  | nil => []
  | fault _ c _ u => c :: u.codes
  | join _ l r => l.codes ++ r.codes
def places : Tree → List Int
  | nil => []
  | fault _ _ p u => p :: u.places
  | join _ l r => l.places ++ r.places
/-- the first fault's block -/
def lead : Tree → Nat
  | nil => 0
  | fault b _ _ _ => b
  | join _ l _ => l.lead
end Tree
def i64ok (n : Int) : Prop := -9223372036854775808 ≤ n ∧ n ≤ 9223372036854775807
/-- WHAT LIES IN MEMORY FOR A TREE. -/
def Rep (w : World) : Tree → Prop
  | .nil => True
  | .fault b c p u => w.heap[b]? = some (.cells #[.int .i64 c, .int .i64 p, u.val, .int .i64 ((u.deep : Int) + 1)] 59 (0, 0)) ∧ c ≠ 0 ∧ i64ok c ∧ i64ok p ∧ u.bound ≤ b ∧ Rep w u
  | .join b l r => w.heap[b]? = some (.cells #[l.val, r.val, .int .i64 ((max l.deep r.deep : Nat) : Int)] 71 (0, 0)) ∧ l ≠ .nil ∧ r ≠ .nil ∧ l.bound ≤ b ∧ r.bound ≤ b ∧ Rep w l ∧ Rep w r

theorem Rep.lt {w : World} : ∀ {t : Tree}, Rep w t → t.bound ≤ w.heap.size
  | .nil, _ => Nat.zero_le _
  | .fault _ _ _ _, h => (Array.getElem?_eq_some_iff.1 h.1).1
  | .join _ _ _, h => (Array.getElem?_eq_some_iff.1 h.1).1

theorem Rep.keep {w w' : World} {B : Nat} (hb : ∀ k, k < B → w'.heap[k]? = w.heap[k]?) : ∀ {t : Tree}, Rep w t → t.bound ≤ B → Rep w' t
  | .nil, _, _ => trivial
  | .fault b _ _ _, ⟨h1, h2, h3, h4, h5, h6⟩, hB => ⟨(hb b hB).trans h1, h2, h3, h4, h5, Rep.keep hb h6 (Nat.le_trans h5 (Nat.le_of_succ_le hB))⟩
  | .join b _ _, ⟨h1, h2, h3, h4, h5, h6, h7⟩, hB => ⟨(hb b hB).trans h1, h2, h3, h4, h5, Rep.keep hb h6 (Nat.le_trans h4 (Nat.le_of_succ_le hB)), Rep.keep hb h7 (Nat.le_trans h5 (Nat.le_of_succ_le hB))⟩

theorem Rep.below {w w' : World} {t : Tree} (h : Rep w t) (hb : Below w.heap.size w w') : Rep w' t := h.keep hb.block h.lt

theorem Tree.val_nil {t : Tree} (h : t ≠ .nil) : t.val ≠ .nilIface := by cases t <;> simp_all [Tree.val]

theorem Tree.places_len : ∀ t : Tree, t.places.length = t.codes.length
  | .nil => rfl
  | .fault _ _ _ u => by simp [Tree.places, Tree.codes, Tree.places_len u]
  | .join _ l r => by simp [Tree.places, Tree.codes, Tree.places_len l, Tree.places_len r]

/-! ### closed facts -/
theorem as57_55 (v : Value) (x : TypeId) (w : World) : (Instr.typeAssert (.iface 55 v) x 57 true).run Tryd.prog w = .ok (.tuple #[.iface 55 v, .bool true]) w := run_typeAssert_hasB Tryd.underlying57 (by kernel_rfl) v x w
theorem as57_69 (v : Value) (x : TypeId) (w : World) : (Instr.typeAssert (.iface 69 v) x 57 true).run Tryd.prog w = .ok (.tuple #[.iface 69 v, .bool true]) w := run_typeAssert_hasB Tryd.underlying57 (by kernel_rfl) v x w

theorem as57_nil (x : TypeId) (w : World) : (Instr.typeAssert .nilIface x 57 true).run Tryd.prog w = .ok (.tuple #[.nilIface, .bool false]) w := by kernel_rfl
theorem own_any (t : Tree) (w : World) : Calls Tryd.prog 30 #[t.val] w fun e w' => e = .returned t.val ∧ w = w' := by
  have h0 := as57_nil
  have h1 := as57_55
  have h2 := as57_69
  cases t <;> simp only [Tree.val] <;>
    (go_enter Tryd.func30, Tryd.ntmps30
     go_wp2
     go_ret
     exact ⟨rfl, rfl⟩)

/-! ### depth -/
theorem fdepth (b : Nat) (c p d : Int) (u : Value) (w : World) (h : w.heap[b]? = some (.cells #[.int .i64 c, .int .i64 p, u, .int .i64 d] 59 (0, 0))) :
    Calls Tryd.prog 61 #[.pointer (some ⟨b, 0, none⟩)] w fun e w' => e = .returned (.int .i64 d) ∧ w = w' := by
  have hc : w.cell? ⟨b, 3, none⟩ = some (.int .i64 d) := by simp [World.cell?, h]
  clear h
  go_enter Tryd.func61, Tryd.ntmps61
  go_wp2
  go_ret
  exact ⟨rfl, rfl⟩
theorem jdepth (b : Nat) (d : Int) (l r : Value) (w : World) (h : w.heap[b]? = some (.cells #[l, r, .int .i64 d] 71 (0, 0))) :
    Calls Tryd.prog 66 #[.pointer (some ⟨b, 0, none⟩)] w fun e w' => e = .returned (.int .i64 d) ∧ w = w' := by
  have hc : w.cell? ⟨b, 2, none⟩ = some (.int .i64 d) := by simp [World.cell?, h]
  clear h
  go_enter Tryd.func66, Tryd.ntmps66
  go_wp2
  go_ret
  exact ⟨rfl, rfl⟩
theorem depth_any (t : Tree) (w : World) (h : Rep w t) : Calls Tryd.prog 29 #[t.val] w fun e w' => e = .returned (.int .i64 (t.deep : Int)) ∧ w = w' := by
  cases t with
  | nil =>
    simp only [Tree.val]
    go_enter Tryd.func29, Tryd.ntmps29
    go_wp2
    go_ret
    exact ⟨rfl, rfl⟩
  | fault b c p u =>
    have H := Lib.hid h.1
    clear h
    simp only [Tree.val]
    go_enter Tryd.func29, Tryd.ntmps29
    go_wp2_with (go_at_call 61; refine (fdepth _ _ _ _ _ _ H.out).mono ?_; rintro e w' ⟨rfl, rfl⟩)

    go_ret
    exact ⟨rfl, rfl⟩
  | join b l r =>
    have H := Lib.hid h.1
    clear h
    simp only [Tree.val]
    go_enter Tryd.func29, Tryd.ntmps29
    go_wp2_with (go_at_call 66; refine (jdepth _ _ _ _ _ H.out).mono ?_; rintro e w' ⟨rfl, rfl⟩)

    go_ret
    exact ⟨rfl, rfl⟩

/-! ### New, Wrap, Join -/
/-- What is made: a tree, its blocks in memory; all that was there is as it was. -/
def Made (w : World) (Q : Tree → Prop) : Ending → World → Prop := fun e w' => ∃ t : Tree, e = .returned t.val ∧ Rep w' t ∧ Below w.heap.size w w' ∧ Q t
def newT (b : Nat) (c p : Int) : Tree := if c = 0 then .nil else .fault b c p .nil
def wrapT (b : Nat) (u : Tree) (c p : Int) : Tree := if u = .nil ∨ c = 0 then u else .fault b c p u
def joinT (b : Nat) (l r : Tree) : Tree := if l = .nil then r else if r = .nil then l else .join b l r

theorem heap_new (w : World) (o : Obj) : (w.alloc o).heap[w.heap.size]? = some o := heap_alloc_new w o

theorem new_any (c p : Int) (hc : i64ok c) (hp : i64ok p) (w : World) : Calls Tryd.prog 20 #[.int .i64 c, .int .i64 p] w (Made w fun t => ∃ b, t = newT b c p) := by
  by_cases h : c = 0
  · subst h
    go_enter Tryd.func20, Tryd.ntmps20
    go_wp2
    go_ret
    exact ⟨.nil, rfl, trivial, Below.refl _ _, 0, rfl⟩
  · have hd : decide (c = 0) = false := by simpa using h
    go_enter Tryd.func20, Tryd.ntmps20
    go_wp2
    go_ret
    exact ⟨.fault w.heap.size c p .nil, rfl, ⟨heap_new _ _, h, hc, hp, Nat.zero_le _, trivial⟩, (Below.refl _ _).alloc (Nat.le_refl _) _, w.heap.size, by simp [newT, h]⟩

theorem wrap_core (T : TypeId) (hT : T = 55 ∨ T = 69) (b : Nat) (c p : Int) (d : Int) (w : World) (h : c ≠ 0) (hd0 : 0 ≤ d) (hd1 : d < 1000000)
    (HO : Hid (∀ w, Calls Tryd.prog 30 #[.iface T (.pointer (some ⟨b, 0, none⟩))] w fun e w' => e = .returned (.iface T (.pointer (some ⟨b, 0, none⟩))) ∧ w = w'))
    (HD : Hid (Calls Tryd.prog 29 #[.iface T (.pointer (some ⟨b, 0, none⟩))] w fun e w' => e = .returned (.int .i64 d) ∧ w = w')) :
    Calls Tryd.prog 18 #[.iface T (.pointer (some ⟨b, 0, none⟩)), .int .i64 c, .int .i64 p] w fun e w' => e = .returned (.iface 55 (.pointer (some ⟨w.heap.size, 0, none⟩))) ∧
      w' = w.alloc (.cells #[.int .i64 c, .int .i64 p, .iface T (.pointer (some ⟨b, 0, none⟩)), .int .i64 (1 + d)] 59) := by
  rcases hT with rfl | rfl
  all_goals
    go_enter Tryd.func18, Tryd.ntmps18
    go_wp2_with (first | (go_at_call 30; refine (HO.out _).mono ?_; rintro e w' ⟨rfl, rfl⟩) | (go_at_call 29; refine HD.out.mono ?_; rintro e w' ⟨rfl, rfl⟩))
    go_ret
    exact ⟨rfl, rfl⟩

theorem Tree.val_iface : ∀ {t : Tree}, t ≠ .nil → ∃ T b, (T = 55 ∨ T = 69) ∧ t.val = .iface T (.pointer (some ⟨b, 0, none⟩))
  | .nil, h => absurd rfl h
  | .fault b _ _ _, _ => ⟨55, b, .inl rfl, rfl⟩
  | .join b _ _, _ => ⟨69, b, .inr rfl, rfl⟩

theorem wrap_any (t : Tree) (c p : Int) (hc : i64ok c) (hp : i64ok p) (w : World) (ht : Rep w t) (hd : t.deep < 1000000) : Calls Tryd.prog 18 #[t.val, .int .i64 c, .int .i64 p] w (Made w fun u => ∃ b, u = wrapT b t c p) := by
  by_cases h : c = 0
  · subst h
    have HR : Hid (Made w (fun u => ∃ b, u = wrapT b t 0 p) (.returned t.val) w) := ⟨t, rfl, ht, Below.refl _ _, 0, by simp [wrapT]⟩
    clear ht
    cases t
    all_goals
      simp only [Tree.val] at HR ⊢
      go_enter Tryd.func18, Tryd.ntmps18
      go_wp2
      go_ret
      exact HR.out
  · by_cases hn : t = .nil
    · subst hn
      simp only [Tree.val]
      have HR : Hid (Made w (fun u => ∃ b, u = wrapT b .nil c p) (.returned .nilIface) w) := ⟨.nil, rfl, trivial, Below.refl _ _, 0, by simp [wrapT]⟩
      clear ht h
      go_enter Tryd.func18, Tryd.ntmps18
      go_wp2
      go_ret
      exact HR.out
    · obtain ⟨T, b, hT, hv⟩ := Tree.val_iface hn
      have ho := own_any t
      have hdp := depth_any t w ht
      rw [hv] at ho hdp ⊢
      refine (wrap_core T hT b c p t.deep w h (by omega) (by omega) ho hdp).mono ?_
      rintro e w' ⟨rfl, rfl⟩
      exact ⟨.fault w.heap.size c p t, rfl, ⟨by rw [heap_new, hv, Int.add_comm], h, hc, hp, ht.lt, ht.below ((Below.refl _ _).alloc (Nat.le_refl _) _)⟩, (Below.refl _ _).alloc (Nat.le_refl _) _, w.heap.size, by simp [wrapT, h, hn]⟩

theorem join_core (T S : TypeId) (hT : T = 55 ∨ T = 69) (hS : S = 55 ∨ S = 69) (a b : Nat) (d f : Int) (w : World) (_hd0 : 0 ≤ d) (_hd1 : d < 1000000) (_hf0 : 0 ≤ f) (_hf1 : f < 1000000)
    (HO : Hid (∀ w, Calls Tryd.prog 30 #[.iface T (.pointer (some ⟨a, 0, none⟩))] w fun e w' => e = .returned (.iface T (.pointer (some ⟨a, 0, none⟩))) ∧ w = w'))
    (HP : Hid (∀ w, Calls Tryd.prog 30 #[.iface S (.pointer (some ⟨b, 0, none⟩))] w fun e w' => e = .returned (.iface S (.pointer (some ⟨b, 0, none⟩))) ∧ w = w'))
    (HD : Hid (Calls Tryd.prog 29 #[.iface T (.pointer (some ⟨a, 0, none⟩))] w fun e w' => e = .returned (.int .i64 d) ∧ w = w'))
    (HF : Hid (Calls Tryd.prog 29 #[.iface S (.pointer (some ⟨b, 0, none⟩))] w fun e w' => e = .returned (.int .i64 f) ∧ w = w')) :
    Calls Tryd.prog 19 #[.iface T (.pointer (some ⟨a, 0, none⟩)), .iface S (.pointer (some ⟨b, 0, none⟩))] w fun e w' => e = .returned (.iface 69 (.pointer (some ⟨w.heap.size, 0, none⟩))) ∧
      w' = w.alloc (.cells #[.iface T (.pointer (some ⟨a, 0, none⟩)), .iface S (.pointer (some ⟨b, 0, none⟩)), .int .i64 (max d f)] 71) := by
  rcases hT with rfl | rfl <;> rcases hS with rfl | rfl
  all_goals
    go_enter Tryd.func19, Tryd.ntmps19
    go_wp2_with (first | (go_at_call 30; first | (with_reducible refine (HO.out _).mono ?_; rintro e w' ⟨rfl, rfl⟩) | (with_reducible refine (HP.out _).mono ?_; rintro e w' ⟨rfl, rfl⟩)) | (go_at_call 29; first | (with_reducible refine HD.out.mono ?_; rintro e w' ⟨rfl, rfl⟩) | (with_reducible refine HF.out.mono ?_; rintro e w' ⟨rfl, rfl⟩)))
    all_goals
      go_ret
      exact ⟨rfl, by first | (rw [Int.max_eq_left (by omega)]) | (rw [Int.max_eq_right (by omega)])⟩

theorem join_any (l r : Tree) (w : World) (hl : Rep w l) (hr : Rep w r) (hdl : l.deep < 1000000) (hdr : r.deep < 1000000) : Calls Tryd.prog 19 #[l.val, r.val] w (Made w fun u => ∃ b, u = joinT b l r) := by
  by_cases h1 : l = .nil
  · subst h1
    have HR : Hid (Made w (fun u => ∃ b, u = joinT b .nil r) (.returned r.val) w) := ⟨r, rfl, hr, Below.refl _ _, 0, by simp [joinT]⟩
    have HO : Hid (∀ w, Calls Tryd.prog 30 #[Tree.nil.val] w fun e w' => e = .returned Tree.nil.val ∧ w = w') := own_any .nil
    have HP : Hid (∀ w, Calls Tryd.prog 30 #[r.val] w fun e w' => e = .returned r.val ∧ w = w') := own_any r
    clear hl hr hdl hdr
    cases r
    all_goals
      simp only [Tree.val] at HR HO HP ⊢
      go_enter Tryd.func19, Tryd.ntmps19
      go_wp2_with (go_at_call 30; first | (with_reducible refine (HO.out _).mono ?_; rintro e w' ⟨rfl, rfl⟩) | (with_reducible refine (HP.out _).mono ?_; rintro e w' ⟨rfl, rfl⟩))
      go_ret
      exact HR.out
  · by_cases h2 : r = .nil
    · subst h2
      have HR : Hid (Made w (fun u => ∃ b, u = joinT b l .nil) (.returned l.val) w) := ⟨l, rfl, hl, Below.refl _ _, 0, by simp [joinT, h1]⟩
      have HO : Hid (∀ w, Calls Tryd.prog 30 #[Tree.nil.val] w fun e w' => e = .returned Tree.nil.val ∧ w = w') := own_any .nil
      have HP : Hid (∀ w, Calls Tryd.prog 30 #[l.val] w fun e w' => e = .returned l.val ∧ w = w') := own_any l
      clear hl hr hdl hdr
      cases l
      · exact absurd rfl h1
      all_goals
        clear h1
        simp only [Tree.val] at HR HO HP ⊢
        go_enter Tryd.func19, Tryd.ntmps19
        go_wp2_with (go_at_call 30; first | (with_reducible refine (HO.out _).mono ?_; rintro e w' ⟨rfl, rfl⟩) | (with_reducible refine (HP.out _).mono ?_; rintro e w' ⟨rfl, rfl⟩))
        go_ret
        exact HR.out
    · obtain ⟨T, a, hT, hv⟩ := Tree.val_iface h1
      obtain ⟨S, b, hS, hu⟩ := Tree.val_iface h2
      have ho := own_any l
      have hp := own_any r
      have hdp := depth_any l w hl
      have hfp := depth_any r w hr
      rw [hv] at ho hdp ⊢
      rw [hu] at hp hfp ⊢
      refine (join_core T S hT hS a b l.deep r.deep w (by omega) (by omega) (by omega) (by omega) ho hp hdp hfp).mono ?_
      rintro e w' ⟨rfl, rfl⟩
      exact ⟨.join w.heap.size l r, rfl, ⟨by rw [heap_new, hv, hu, show ((max l.deep r.deep : Nat) : Int) = max (l.deep : Int) (r.deep : Int) from by omega], h1, h2, hl.lt, hr.lt, hl.below ((Below.refl _ _).alloc (Nat.le_refl _) _), hr.below ((Below.refl _ _).alloc (Nat.le_refl _) _)⟩, (Below.refl _ _).alloc (Nat.le_refl _) _, w.heap.size, by simp [joinT, h1, h2]⟩
end Go.Proofs.YtdfmmphoccfacaaDoor

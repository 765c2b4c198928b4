/- Package fault's errors as trees in memory; what own, depth, New, Wrap and Join answer, for every tree that lies in memory (depth below 1000000). -/
import Derived.Test.YtjfbhajaddgmpaaDoorA
import Derived.WalkKit
import Derived.WalkSpells
import Derived.WalkLawsBesides
import Derived.Stop.Asserts
import Derived.LaidEql
import Derived.RowKitTokens
import Derived.IntWalk
import Derived.Lib.Hide
import Derived.Deep.QuietTactic
import Derived.BigQuiet
import Derived.Handy
namespace Go.Proofs.YtjfbhajaddgmpaaDoor
open Go.RowKit Go.Extern.Stop Go.Stop Go.Extern

/-- AN ERROR AS A TREE: its block's number, its codes and places. -/
inductive Tree where
  | nil
  | fault (b : Nat) (code place : Int) (under : Tree)
  | join (b : Nat) (l r : Tree)
  deriving DecidableEq

namespace Tree
def val : Tree → Value
  | nil => .nilIface
  | fault b _ _ _ => .iface 69 (.pointer (some ⟨b, 0, none⟩))
  | join b _ _ => .iface 90 (.pointer (some ⟨b, 0, none⟩))
def bound : Tree → Nat
  | nil => 0
  | fault b _ _ _ => b + 1
  | join b _ _ => b + 1
def deep : Tree → Nat
  | nil => 0
  | fault _ _ _ u => u.deep + 1
  | join _ l r => max l.deep r.deep
def codes : Tree → List Int
  | nil => []
  | fault _ c _ u => c :: u.codes
  | join _ l r => l.codes ++ r.codes
def places : Tree → List Int
  | nil => []
  | fault _ _ p u => p :: u.places
  | join _ l r => l.places ++ r.places
/-- the first fault's block -/
def lead : Tree → Nat
  | nil => 0
  | fault b _ _ _ => b
  | join _ l _ => l.lead
end Tree
/-- WHAT LIES IN MEMORY FOR A TREE. -/
def Rep (w : World) : Tree → Prop
  | .nil => True
  | .fault b c p u => w.heap[b]? = some (.cells #[.int .i64 c, .int .i64 p, u.val, .int .i64 ((u.deep : Int) + 1)] 74 (0, 0)) ∧ c ≠ 0 ∧ i64ok c ∧ i64ok p ∧ u.bound ≤ b ∧ Rep w u
  | .join b l r => w.heap[b]? = some (.cells #[l.val, r.val, .int .i64 ((max l.deep r.deep : Nat) : Int)] 92 (0, 0)) ∧ l ≠ .nil ∧ r ≠ .nil ∧ l.bound ≤ b ∧ r.bound ≤ b ∧ Rep w l ∧ Rep w r

theorem Rep.lt {w : World} : ∀ {t : Tree}, Rep w t → t.bound ≤ w.heap.size
  | .nil, _ => Nat.zero_le _
  | .fault _ _ _ _, h => (Array.getElem?_eq_some_iff.1 h.1).1
  | .join _ _ _, h => (Array.getElem?_eq_some_iff.1 h.1).1

theorem Rep.keep {w w' : World} {B : Nat} (hb : ∀ k, k < B → w'.heap[k]? = w.heap[k]?) : ∀ {t : Tree}, Rep w t → t.bound ≤ B → Rep w' t
  | .nil, _, _ => trivial
  | .fault b _ _ _, ⟨h1, h2, h3, h4, h5, h6⟩, hB => ⟨(hb b hB).trans h1, h2, h3, h4, h5, Rep.keep hb h6 (Nat.le_trans h5 (Nat.le_of_succ_le hB))⟩
  | .join b _ _, ⟨h1, h2, h3, h4, h5, h6, h7⟩, hB => ⟨(hb b hB).trans h1, h2, h3, h4, h5, Rep.keep hb h6 (Nat.le_trans h4 (Nat.le_of_succ_le hB)), Rep.keep hb h7 (Nat.le_trans h5 (Nat.le_of_succ_le hB))⟩

theorem Rep.below {w w' : World} {t : Tree} (h : Rep w t) (hb : Below w.heap.size w w') : Rep w' t := h.keep hb.block h.lt

/-! ### closed facts -/
theorem as57_55 (v : Value) (x : TypeId) (w : World) : (Instr.typeAssert (.iface 69 v) x 72 true).run Tryd.prog w = .ok (.tuple #[.iface 69 v, .bool true]) w := run_typeAssert_hasB Tryd.underlying72 (by kernel_rfl) v x w
theorem as57_69 (v : Value) (x : TypeId) (w : World) : (Instr.typeAssert (.iface 90 v) x 72 true).run Tryd.prog w = .ok (.tuple #[.iface 90 v, .bool true]) w := run_typeAssert_hasB Tryd.underlying72 (by kernel_rfl) v x w

theorem as57_nil (x : TypeId) (w : World) : (Instr.typeAssert .nilIface x 72 true).run Tryd.prog w = .ok (.tuple #[.nilIface, .bool false]) w := by kernel_rfl
theorem own_any (t : Tree) (w : World) : Calls Tryd.prog 50 #[t.val] w fun e w' => e = .returned t.val ∧ w = w' := by
  have h0 := as57_nil
  have h1 := as57_55
  have h2 := as57_69
  cases t <;> simp only [Tree.val] <;>
    (go_enter Tryd.func50, Tryd.ntmps50
     go_wp2
     go_ret
     exact ⟨rfl, rfl⟩)

theorem heap_new (w : World) (o : Obj) : (w.alloc o).heap[w.heap.size]? = some o := heap_alloc_new w o

end Go.Proofs.YtjfbhajaddgmpaaDoor

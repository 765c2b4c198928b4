/- Package table: between, and its closure. -/
import Derived.Test.YtkohppalfcalbaaGreatPM1
import Derived.RangeFuncNested
import Derived.RangeFuncBound
import Derived.RangeFuncCalls
import Derived.RangeFuncLeaves
import Derived.Shelf.Abstract
import Derived.WalkKit
import Derived.OwnWalkIn
import Derived.TacticsInMore
import Derived.LoopNIn
import Derived.LoopIn
namespace Go.Proofs.YtkohppalfcalbaaGreat
open Go.RowKit

attribute [local go_sem] Oper.semAt_some
/-- what a round that goes on keeps: all below n but block bl -/
def KpR (n bl : Nat) (W W' : World) : Prop := Only (fun k => k = bl ∨ n ≤ k) W W'
/-- what the closure stands upon -/
structure Btw (W : World) (G D : Nat → Prop) (q P : Nat) (ps : List Pg) (b1 b2 b3 : Nat) (F T : Option Addr) (f t : List UInt8) (fn fc tn tc : Nat) : Prop where
  tb : Tbl W G D q P ps
  x1 : W.heap[b1]? = some (.cells #[.pointer (some ⟨q, 0, none⟩)] 88 (0, 0))
  x2 : W.heap[b2]? = some (.cells #[.slice F fn fc] 22 (0, 0))
  x3 : W.heap[b3]? = some (.cells #[.slice T tn tc] 22 (0, 0))
  rf : RdB W W.heap.size F f
  rt : RdB W W.heap.size T t
  fl : f.length = fn
  tl : t.length = tn
theorem Btw.only {K : Nat → Prop} {W W' : World} {G D : Nat → Prop} {q P : Nat} {ps : List Pg} {b1 b2 b3 : Nat} {F T : Option Addr} {f t : List UInt8} {fn fc tn tc : Nat} (h : Btw W G D q P ps b1 b2 b3 F T f t fn fc tn tc) (hO : Only K W W') (hG : ∀ j, G j → ¬ K j) (hD : ∀ j, D j → ¬ K j) (h1 : ¬ K b1) (h2 : ¬ K b2) (h3 : ¬ K b3) (hF : f ≠ [] → ∀ ad, F = some ad → ¬ K ad.block) (hT : t ≠ [] → ∀ ad, T = some ad → ¬ K ad.block) : Btw W' G D q P ps b1 b2 b3 F T f t fn fc tn tc :=
  ⟨h.tb.only hO hG hD, (hO.block b1 (Array.getElem?_eq_some_iff.1 h.x1).1 h1).trans h.x1, (hO.block b2 (Array.getElem?_eq_some_iff.1 h.x2).1 h2).trans h.x2, (hO.block b3 (Array.getElem?_eq_some_iff.1 h.x3).1 h3).trans h.x3, h.rf.only' hO hF, h.rt.only' hO hT, h.fl, h.tl⟩
theorem Btw.below {W W' : World} {G D : Nat → Prop} {q P : Nat} {ps : List Pg} {b1 b2 b3 : Nat} {F T : Option Addr} {f t : List UInt8} {fn fc tn tc : Nat} (h : Btw W G D q P ps b1 b2 b3 F T f t fn fc tn tc) (hb : Below W.heap.size W W') : Btw W' G D q P ps b1 b2 b3 F T f t fn fc tn tc :=
  h.only (Only.of_below (K := fun _ => False) hb) (fun _ _ => id) (fun _ _ => id) id id id (fun _ _ _ => id) (fun _ _ _ => id)
end Go.Proofs.YtkohppalfcalbaaGreat

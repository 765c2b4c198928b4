/- Order is one line: antisymmetric, transitive; so are lists. -/
import Derived.Test.YtjfbhajaddgmpaaDoorKB
namespace Go.Proofs.YtjfbhajaddgmpaaDoor

/-- a way to tell which comes first that is a line -/
structure LineC {A : Type} (c : A → A → Int) : Prop where
  neg : ∀ a b, c a b = - c b a
  tr : ∀ a b d, c a b ≤ 0 → c b d ≤ 0 → c a d ≤ 0
theorem LineC.on {A B : Type} {c : A → A → Int} (h : LineC c) (f : B → A) : LineC fun a b => c (f a) (f b) := ⟨fun _ _ => h.neg _ _, fun _ _ _ => h.tr _ _ _⟩
theorem ord_lex (x y : Val) : ordI x y = if cmpI x.k y.k ≠ 0 then cmpI x.k y.k else if cmpI x.n y.n ≠ 0 then cmpI x.n y.n else cmpB x.s.data.toList y.s.data.toList := by
  unfold ordI orI
  rw [cmpB_eq]
end Go.Proofs.YtjfbhajaddgmpaaDoor

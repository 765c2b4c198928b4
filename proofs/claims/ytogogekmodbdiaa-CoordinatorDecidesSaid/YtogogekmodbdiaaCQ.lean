/- CoordinatorDecides: the law, whatever the arguments. -/
import Derived.Test.YtogogekmodbdiaaCP
namespace Go.Proofs.Ytogogekmodbdiaa
open Go.RowKit

/-- the law, whatever the arguments -/
theorem coordinatorDecides_law (node : Int) (ns : List Int) (vs : List Vt) (NA : Option Addr) (nn nc : Nat) (VA : Option Addr) (vn vc : Nat) (keep : Int) (w : World) (hn : ns.length = nn) (hnc : nn ≤ nc) (hnm : nn ≤ maxLen) (hvn : vs.length = vn) (hvm : vn ≤ maxLen) (hkp : i64ok keep) (hr : RdI w w.heap.size NA ns) (hrv : RdVt w w.heap.size VA vs) (hvo : ∀ x ∈ vs, i64ok x.n ∧ i64ok x.k) :
    Calls Try.prog 3 #[.int .i64 node, .agg #[.slice NA nn nc, .slice VA vn vc, .int .i64 keep]] w (Ans (.bool true) w) := by
  by_cases hb : node < 0 ∨ 16 ≤ node
  · exact dec_bad node hb NA nn nc VA vn vc keep w
  obtain ⟨nd, rfl⟩ : ∃ nd : Nat, node = (nd : Int) := ⟨node.toNat, by omega⟩
  have hnd : nd < 16 := by omega
  by_cases hl : 60 < nn
  · exact dec_long hnd NA nn nc VA vn vc keep w hl hnm
  by_cases hu : upN (-1) ns = false ∨ ns = []
  · exact dec_arg hnd ns NA nn nc VA vn vc keep w (by omega) hn hu hr
  have hu2 : upN (-1) ns = true := by
    cases h : upN (-1) ns
    · exact absurd (.inl h) hu
    · rfl
  exact dec_main hnd ns vs NA nn nc VA vn vc keep w hkp hnc (by omega) hn hu2 (fun e => hu (.inr e)) hvn hvm hr hrv hvo
end Go.Proofs.Ytogogekmodbdiaa

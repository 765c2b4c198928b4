/- CoordinatorDecides: what each vote does, of a coordinator with some rows beside it. -/
import Derived.Test.YtogogekmodbdiaaCM
namespace Go.Proofs.Ytogogekmodbdiaa
open Go.RowKit

/-- a letter's core -/
abbrev Cr := Int × Int × Int × Int × Nat
/-- where one transaction stands behind a vote -/
def P1 (nd : Nat) (ns : List Int) (T T' : List Te) (L : List Cr) (yes read com abo : List Int) (no : Bool) (was : Nat) : Prop :=
  (was = 1 ∧ no = false ∧ com = [] ∧ abo = [] ∧ L = [] ∧ ∃ o y, T = [⟨nd, 2, orB 0 ns, o, y, 0⟩] ∧ T' = [] ∧ Ak ns yes read o y ∧ o ≠ 0) ∨
  (was = 1 ∧ com = [] ∧ T = [] ∧ T' = [] ∧ (∀ x ∈ L, x.1 = 6) ∧ (no = true ∨ yes = [])) ∨
  (was = 0 ∧ com = [] ∧ T = [] ∧ T' = [] ∧ (∀ x ∈ L, x.1 = 6)) ∨
  (was = 1 ∧ no = false ∧ com = [] ∧ abo = [] ∧ ∃ y, T = [⟨nd, 3, 0, y, 0, 0⟩] ∧ T' = [⟨nd, 3, 0, y, 0, 0⟩] ∧ (0 < y ∧ y < 65536) ∧ L = coreL 5 nd nd 0 (nodesI y) ∧ (∀ z ∈ yes, z ∈ nodesI y) ∧ yes ≠ [] ∧ yes.length + read.length = ns.length) ∨
  (was = 2 ∧ no = false ∧ abo = [] ∧ com ≠ [] ∧ ∃ y, T = [⟨nd, 3, 0, y, 0, 0⟩] ∧ T' = [⟨nd, 3, 0, y, 0, 0⟩] ∧ (0 < y ∧ y < 65536) ∧ (∀ x ∈ L, x.1 = 5) ∧ (∀ z ∈ yes, z ∈ com) ∧ yes ≠ [] ∧ yes.length + read.length = ns.length)
/-- what Hear leaves -/
def HrT (w0 : World) (S : CoS) (rows : List (Value × List Int)) (exts : List (Nat × Obj)) (m : Nat) (P : List Te → List Te → List Cr → Prop) (e : Ending) (w' : World) : Prop := e = .returned (.int .i64 0) ∧ ∃ (S' : CoS) (ks' : List Rk) (T' : List Te), EnX w0 w' S' rows exts ∧ S'.c = S.c ∧ S'.p = S.p ∧ S'.node = S.node ∧ S'.tks = 0 ∧ LogS S' ks' T' m ∧ S'.os.length ≤ 16 ∧ P S'.T T' (S'.os.map Le.core)
theorem HrT.of_lt {w0 W w' : World} {S : CoS} {rows : List (Value × List Int)} {exts : List (Nat × Obj)} {ks : List Rk} {T1 T' : List Te} {L : List Cr} {m : Nat} {P : List Te → List Te → List Cr → Prop} {e : Ending} (h : EnX w0 W S rows exts) (he : e = .returned (.int .i64 0)) (hl : LtT W w0.heap.size S T1 L w') (hk : S.tks = 0) (hos : S.os = []) (hlg : LogS S ks T' m) (hL : L.length ≤ 16) (hP : P T1 T' L) : HrT w0 S rows exts m P e w' := by
  obtain ⟨v, os1, h1, h2, h3⟩ := hl
  refine ⟨he, _, ks, T', h.step h1 h3.all.1 (h3.all.ck ⟨rfl, rfl, rfl, rfl, rfl, rfl, rfl⟩), rfl, rfl, rfl, hk, ⟨hlg.b, hlg.rs, hlg.ok, hlg.few, hlg.red, hlg.s⟩, ?_, ?_⟩
  · show (S.os ++ os1).length ≤ 16
    rw [hos, List.nil_append, ← List.length_map (f := Le.core), h2]
    exact hL
  · show P T1 T' ((S.os ++ os1).map Le.core)
    rw [hos, List.nil_append, h2]
    exact hP
theorem HrT.of_cm {w0 W w' : World} {S : CoS} {rows : List (Value × List Int)} {exts : List (Nat × Obj)} {ks : List Rk} {y m : Nat} {P : List Te → List Te → List Cr → Prop} {e : Ending} {T1 : List Te} (h : EnX w0 W S rows exts) (he : e = .returned (.int .i64 0)) (hl : CmT W w0.heap.size S S.node y w') (hk : S.tks = 0) (hos : S.os = []) (hlg : LogS S ks [] m) (hy : 0 < y ∧ y < 65536) (hT : putT S.T ⟨S.node, 3, 0, y, 0, S.tks⟩ = T1) (hP : P T1 [⟨S.node, 3, 0, y, 0, 0⟩] (coreL 5 S.node S.node 0 (nodesI y))) : HrT w0 S rows exts m P e w' := by
  obtain ⟨v, os1, g', d', h1, h2, h3⟩ := hl
  have hnd := h.co.nod
  refine ⟨he, _, ks ++ [Rk.de S.node y], _, h.step h1 h3.1 (h3.ck ⟨rfl, rfl, rfl, rfl, rfl, rfl, rfl⟩), rfl, rfl, rfl, hk, hlg.decided (by omega) hy, ?_, ?_⟩
  · show (S.os ++ os1).length ≤ 16
    rw [hos, List.nil_append, ← List.length_map (f := Le.core), h2, coreL_len]
    exact nodesI_len y
  · show P (putT S.T ⟨S.node, 3, 0, y, 0, S.tks⟩) _ ((S.os ++ os1).map Le.core)
    rw [hos, List.nil_append, h2, hT]
    exact hP
theorem LogS.room {S : CoS} {ks : List Rk} {m : Nat} (h : LogS S ks [] m) (hm : m ≤ 90) : S.b + (bytesOf S.rs).length + 905 ≤ 100000 := by
  have h1 := bytes_room h.ok
  have h2 := h.few
  simp only [List.length_nil] at h2
  rw [h.b, h.rs]
  omega
section
variable {w0 W : World} {S : CoS} {rows : List (Value × List Int)} {exts : List (Nat × Obj)} {ns yes read : List Int} {o y f m : Nat} {ks : List Rk}
/-- a vote of Yes of one that has not voted -/
theorem vote1_yes (h : EnX w0 W S rows exts) (hT : S.T = [⟨S.node, 2, orB 0 ns, o, y, 0⟩]) (hk : S.tks = 0) (hos : S.os = []) (hlg : LogS S ks [] m) (hm : m ≤ 90) (hA : Ak ns yes read o y) (hf : f < 16) (hof : o.testBit f = true) :
    Calls Try.prog 14 #[.pointer (some ⟨S.c, 0, none⟩), .agg #[.int .i64 2, .int .i64 (f : Int), .int .i64 (S.node : Int), .int .i64 (S.node : Int), .slice none 0 0]] W (HrT w0 S rows exts m fun T T' L => P1 S.node ns T T' L (yes ++ [(f : Int)]) read [] [] false 1) := by
  have hnd := h.co.nod
  have he : findT S.T S.node = some ⟨S.node, 2, orB 0 ns, o, y, 0⟩ := by rw [hT]; exact findT_1 _ _ _ _ _ _
  have hA2 := hA.yes hf hof
  by_cases hw : woB o f = 0
  · refine (hear_yel h.co hf (x := S.node) (by omega) (by omega) he rfl hA.lo hA.ly hof hw (by rw [hT]; show 1 < 1000; omega) (hlg.room hm) (by rw [hos]; show 0 ≤ 50000; omega)).mono ?_
    rintro e w' ⟨h1, h2⟩
    have hy0 : y ||| 2 ^ f ≠ 0 := or_ne
    refine HrT.of_cm h h1 h2 hk hos hlg ⟨Nat.pos_of_ne_zero hy0, hA2.ly⟩ (by rw [hT, putT_1, hk]) (.inr (.inr (.inr (.inl ⟨rfl, rfl, rfl, rfl, _, rfl, rfl, ⟨Nat.pos_of_ne_zero hy0, hA2.ly⟩, rfl, hA2.told, by simp, hA2.all.2 hw⟩))))
  · refine (hear_yem h.co hf (x := S.node) (by omega) (by omega) he rfl hA.lo hA.ly hof hw (by rw [hT]; show 1 < 1000; omega)).mono ?_
    rintro e w' ⟨h1, h2⟩
    refine HrT.of_lt h h1 h2 hk hos hlg (by simp) ?_
    rw [hT, putT_1]
    exact .inl ⟨rfl, rfl, rfl, rfl, rfl, _, _, rfl, rfl, hA2, hw⟩
/-- a vote of one that only read, and has not voted -/
theorem vote1_read (h : EnX w0 W S rows exts) (hT : S.T = [⟨S.node, 2, orB 0 ns, o, y, 0⟩]) (hk : S.tks = 0) (hos : S.os = []) (hlg : LogS S ks [] m) (hm : m ≤ 90) (hA : Ak ns yes read o y) (hf : f < 16) (hof : o.testBit f = true) :
    Calls Try.prog 14 #[.pointer (some ⟨S.c, 0, none⟩), .agg #[.int .i64 4, .int .i64 (f : Int), .int .i64 (S.node : Int), .int .i64 (S.node : Int), .slice none 0 0]] W (HrT w0 S rows exts m fun T T' L => P1 S.node ns T T' L yes (read ++ [(f : Int)]) [] [] false 1) := by
  have hnd := h.co.nod
  have he : findT S.T S.node = some ⟨S.node, 2, orB 0 ns, o, y, 0⟩ := by rw [hT]; exact findT_1 _ _ _ _ _ _
  have hA2 := hA.read hf hof
  by_cases hw : woB o f = 0
  · by_cases hy : y = 0
    · refine (hear_rol h.co hf (x := S.node) (by omega) (by omega) he rfl hA.lo hof hy hw).mono ?_
      rintro e w' ⟨h1, h2⟩
      refine HrT.of_lt h h1 h2 hk hos hlg (by simp) ?_
      rw [hT, dropT_1]
      exact .inr (.inl ⟨rfl, rfl, rfl, rfl, by simp, .inr (hA.none.1 hy)⟩)
    · refine (hear_rly h.co hf (x := S.node) (by omega) (by omega) he rfl hA.lo hA.ly hy hof hw (by rw [hT]; show 1 < 1000; omega) (hlg.room hm) (by rw [hos]; show 0 ≤ 50000; omega)).mono ?_
      rintro e w' ⟨h1, h2⟩
      refine HrT.of_cm h h1 h2 hk hos hlg ⟨by show 0 < y; omega, hA.ly⟩ (by rw [hT, putT_1, hk]) (.inr (.inr (.inr (.inl ⟨rfl, rfl, rfl, rfl, _, rfl, rfl, ⟨by show 0 < y; omega, hA.ly⟩, rfl, hA2.told, fun e => hy (hA.none.2 e), hA2.all.2 hw⟩))))
  · refine (hear_rom h.co hf (x := S.node) (by omega) (by omega) he rfl hA.lo hof hw (by rw [hT]; show 1 < 1000; omega)).mono ?_
    rintro e w' ⟨h1, h2⟩
    refine HrT.of_lt h h1 h2 hk hos hlg (by simp) ?_
    rw [hT, putT_1]
    exact .inl ⟨rfl, rfl, rfl, rfl, rfl, _, _, rfl, rfl, hA2, hw⟩
theorem coreL_kind {k : Int} {node x nn : Nat} {ns : List Int} : ∀ z ∈ coreL k node x nn ns, z.1 = k := fun z hz => by
  unfold coreL at hz
  obtain ⟨n, _, rfl⟩ := List.mem_map.1 hz
  rfl
/-- a vote of No of one that has not voted -/
theorem vote1_no (h : EnX w0 W S rows exts) (hT : S.T = [⟨S.node, 2, orB 0 ns, o, y, 0⟩]) (hk : S.tks = 0) (hos : S.os = []) (hlg : LogS S ks [] m) (hA : Ak ns yes read o y) (hu : upN (-1) ns = true) (hf : f < 16) (hof : o.testBit f = true) :
    Calls Try.prog 14 #[.pointer (some ⟨S.c, 0, none⟩), .agg #[.int .i64 3, .int .i64 (f : Int), .int .i64 (S.node : Int), .int .i64 (S.node : Int), .slice none 0 0]] W (HrT w0 S rows exts m fun T T' L => P1 S.node ns T T' L yes read [] [] true 1) := by
  have hnd := h.co.nod
  have he : findT S.T S.node = some ⟨S.node, 2, orB 0 ns, o, y, 0⟩ := by rw [hT]; exact findT_1 _ _ _ _ _ _
  refine (hear_no h.co hf (x := S.node) (by omega) (by omega) he rfl (or_lt (by omega) hu (by decide)) hA.lo hof (by rw [hos]; show 0 ≤ 50000; omega)).mono ?_
  rintro e w' ⟨h1, h2⟩
  refine HrT.of_lt h h1 h2 hk hos hlg (by rw [coreL_len]; exact nodesI_len _) ?_
  rw [hT, dropT_1]
  exact .inr (.inl ⟨rfl, rfl, rfl, rfl, coreL_kind, .inl rfl⟩)
/-- a vote of a stranger, or of one that has voted -/
theorem vote1_off (h : EnX w0 W S rows exts) (hT : S.T = [⟨S.node, 2, orB 0 ns, o, y, 0⟩]) (hk : S.tks = 0) (hos : S.os = []) (hlg : LogS S ks [] m) (hA : Ak ns yes read o y) (ho0 : o ≠ 0) (hf : f < 16) (hof : o.testBit f = false) {K : Int} (hK : K = 2 ∨ K = 4 ∨ K = 3) :
    Calls Try.prog 14 #[.pointer (some ⟨S.c, 0, none⟩), .agg #[.int .i64 K, .int .i64 (f : Int), .int .i64 (S.node : Int), .int .i64 (S.node : Int), .slice none 0 0]] W (HrT w0 S rows exts m fun T T' L => P1 S.node ns T T' L yes read [] [] false 1) := by
  have hnd := h.co.nod
  have he : findT S.T S.node = some ⟨S.node, 2, orB 0 ns, o, y, 0⟩ := by rw [hT]; exact findT_1 _ _ _ _ _ _
  have hP : P1 S.node ns S.T [] [] yes read [] [] false 1 := .inl ⟨rfl, rfl, rfl, rfl, rfl, o, y, hT, rfl, hA, ho0⟩
  rcases hK with rfl | rfl | rfl
  · exact (hear_of2 h.co hf (x := S.node) (by omega) (by omega) he rfl hA.lo hof).mono fun e w' ⟨h1, h2⟩ => HrT.of_lt h h1 h2 hk hos hlg (by simp) hP
  · exact (hear_of4 h.co hf (x := S.node) (by omega) (by omega) he rfl hA.lo hof).mono fun e w' ⟨h1, h2⟩ => HrT.of_lt h h1 h2 hk hos hlg (by simp) hP
  · exact (hear_of3 h.co hf (x := S.node) (by omega) (by omega) he rfl hA.lo hof).mono fun e w' ⟨h1, h2⟩ => HrT.of_lt h h1 h2 hk hos hlg (by simp) hP
/-- a vote where nothing is known -/
theorem vote1_none (h : EnX w0 W S rows exts) (hT : S.T = []) (hk : S.tks = 0) (hos : S.os = []) (hlg : LogS S ks [] m) (hf : f < 16) {K : Int} (hK : K = 2 ∨ K = 4 ∨ K = 3) (abo : List Int) (no : Bool) :
    Calls Try.prog 14 #[.pointer (some ⟨S.c, 0, none⟩), .agg #[.int .i64 K, .int .i64 (f : Int), .int .i64 (S.node : Int), .int .i64 (S.node : Int), .slice none 0 0]] W (HrT w0 S rows exts m fun T T' L => P1 S.node ns T T' L yes read [] abo no 0) := by
  have hnd := h.co.nod
  have he : findT S.T S.node = none := by rw [hT]; rfl
  have hP : ∀ L : List Cr, (∀ x ∈ L, x.1 = 6) → P1 S.node ns S.T [] L yes read [] abo no 0 := fun L hL => .inr (.inr (.inl ⟨rfl, rfl, hT, rfl, hL⟩))
  rcases hK with rfl | rfl | rfl
  · exact (hear_yes h.co hf (x := S.node) (by omega) (by omega) he (by rw [hos]; show 0 ≤ 50000; omega)).mono fun e w' ⟨h1, h2⟩ => HrT.of_lt h h1 h2 hk hos hlg (by simp) (hP _ (by simp))
  · exact (hear_read h.co hf (x := S.node) (by omega) (by omega) he).mono fun e w' ⟨h1, h2⟩ => HrT.of_lt h h1 h2 hk hos hlg (by simp) (hP _ (by simp))
  · exact (hear_noq h.co hf (x := S.node) (by omega) (by omega) he).mono fun e w' ⟨h1, h2⟩ => HrT.of_lt h h1 h2 hk hos hlg (by simp) (hP _ (by simp))
/-- a vote behind the commit -/
theorem vote1_cm (h : EnX w0 W S rows exts) (hT : S.T = [⟨S.node, 3, 0, y, 0, 0⟩]) (hk : S.tks = 0) (hos : S.os = []) (hlg : LogS S ks [⟨S.node, 3, 0, y, 0, 0⟩] m) (hf : f < 16) {K : Int} (hK : K = 2 ∨ K = 4 ∨ K = 3) (hy : 0 < y ∧ y < 65536) {com : List Int} (hc : com ≠ []) (hcm : ∀ z ∈ yes, z ∈ com) (hne : yes ≠ []) (hal : yes.length + read.length = ns.length) :
    Calls Try.prog 14 #[.pointer (some ⟨S.c, 0, none⟩), .agg #[.int .i64 K, .int .i64 (f : Int), .int .i64 (S.node : Int), .int .i64 (S.node : Int), .slice none 0 0]] W (HrT w0 S rows exts m fun T T' L => P1 S.node ns T T' L yes read com [] false 2) := by
  have hnd := h.co.nod
  have he : findT S.T S.node = some ⟨S.node, 3, 0, y, 0, 0⟩ := by rw [hT]; exact findT_1 _ _ _ _ _ _
  have hP : ∀ L : List Cr, (∀ x ∈ L, x.1 = 5) → P1 S.node ns S.T [⟨S.node, 3, 0, y, 0, 0⟩] L yes read com [] false 2 := fun L hL => .inr (.inr (.inr (.inr ⟨rfl, rfl, rfl, hc, y, hT, rfl, hy, hL, hcm, hne, hal⟩)))
  rcases hK with rfl | rfl | rfl
  · exact (hear_yc h.co hf (x := S.node) (by omega) (by omega) he rfl (by rw [hos]; show 0 ≤ 50000; omega)).mono fun e w' ⟨h1, h2⟩ => HrT.of_lt h h1 h2 hk hos hlg (by simp) (hP _ (by simp))
  · exact (hear_vc4 h.co hf (x := S.node) (by omega) (by omega) he rfl).mono fun e w' ⟨h1, h2⟩ => HrT.of_lt h h1 h2 hk hos hlg (by simp) (hP _ (by simp))
  · exact (hear_vc3 h.co hf (x := S.node) (by omega) (by omega) he rfl).mono fun e w' ⟨h1, h2⟩ => HrT.of_lt h h1 h2 hk hos hlg (by simp) (hP _ (by simp))
end
end Go.Proofs.Ytogogekmodbdiaa

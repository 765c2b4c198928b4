/- CoordinatorDecides: the law's own body answers true. -/
import Derived.Test.YtogogekmodbdiaaCN
namespace Go.Proofs.Ytogogekmodbdiaa
open Go.RowKit

/-- where one transaction stands between votes -/
def Ph (nd : Nat) (ns : List Int) (T T' : List Te) (yes read com abo : List Int) (no : Bool) : Prop :=
  (no = false ∧ com = [] ∧ abo = [] ∧ ∃ o y, T = [⟨nd, 2, orB 0 ns, o, y, 0⟩] ∧ T' = [] ∧ Ak ns yes read o y ∧ o ≠ 0) ∨
  (com = [] ∧ T = [] ∧ T' = []) ∨
  (no = false ∧ abo = [] ∧ com ≠ [] ∧ ∃ y, T = [⟨nd, 3, 0, y, 0, 0⟩] ∧ T' = [⟨nd, 3, 0, y, 0, 0⟩] ∧ (0 < y ∧ y < 65536) ∧ (∀ z ∈ yes, z ∈ com) ∧ yes ≠ [] ∧ yes.length + read.length = ns.length)
/-- what a vote does, of whatever kind, wherever the transaction stands -/
theorem dec_step {w0 : World} {S : CoS} {rows : List (Value × List Int)} {exts : List (Nat × Obj)} {ns yes read com abo : List Int} {no : Bool} {ks : List Rk} {T' : List Te} {m f : Nat} {K : Int} (hph : Ph S.node ns S.T T' yes read com abo no) (hu : upN (-1) ns = true) (hk : S.tks = 0) (hos : S.os = []) (hlg : LogS S ks T' m) (hm : m ≤ 90) (hf : f < 16) (hK : K = 2 ∨ K = 4 ∨ K = 3) :
    ∃ (was : Nat) (yes' read' : List Int) (no' : Bool), stN S.T S.node = was ∧
      (∀ W, EnX w0 W S rows exts → Calls Try.prog 14 #[.pointer (some ⟨S.c, 0, none⟩), .agg #[.int .i64 K, .int .i64 (f : Int), .int .i64 (S.node : Int), .int .i64 (S.node : Int), .slice none 0 0]] W (HrT w0 S rows exts m fun T T' L => P1 S.node ns T T' L yes' read' com abo no' was)) ∧
      ((was = 1 ∧ (f : Int) ∈ ns ∧ (f : Int) ∉ yes ∧ (f : Int) ∉ read ∧ ((K = 2 ∧ yes' = yes ++ [(f : Int)] ∧ read' = read ∧ no' = no) ∨ (K = 4 ∧ yes' = yes ∧ read' = read ++ [(f : Int)] ∧ no' = no) ∨ (K = 3 ∧ yes' = yes ∧ read' = read ∧ no' = true))) ∨
       (yes' = yes ∧ read' = read ∧ no' = no ∧ (was ≠ 1 ∨ (f : Int) ∉ ns ∨ (f : Int) ∈ yes ∨ (f : Int) ∈ read))) ∧
      (yes'.length ≤ ns.length ∨ yes' = yes) ∧ (read'.length ≤ ns.length ∨ read' = read) := by
  rcases hph with ⟨rfl, rfl, rfl, o, y, hT, rfl, hA, ho⟩ | ⟨rfl, hT, rfl⟩ | ⟨rfl, rfl, hc, y, hT, rfl, hy, hcm, hne, hal⟩
  · have hst : stN S.T S.node = 1 := by rw [hT]; simp [stN, findT_1]
    cases hof : o.testBit f with
    | true =>
      obtain ⟨b1, b2, b3⟩ := (hA.ob f hf).1 hof
      have hl := hA.len
      have h1 := nodesI_woB hf hof
      rcases hK with rfl | rfl | rfl
      · exact ⟨1, yes ++ [(f : Int)], read, false, hst, fun W h => vote1_yes h hT hk hos hlg hm hA hf hof, .inl ⟨rfl, b1, b2, b3, .inl ⟨rfl, rfl, rfl, rfl⟩⟩, .inl (by rw [List.length_append, List.length_singleton]; omega), .inr rfl⟩
      · exact ⟨1, yes, read ++ [(f : Int)], false, hst, fun W h => vote1_read h hT hk hos hlg hm hA hf hof, .inl ⟨rfl, b1, b2, b3, .inr (.inl ⟨rfl, rfl, rfl, rfl⟩)⟩, .inr rfl, .inl (by rw [List.length_append, List.length_singleton]; omega)⟩
      · exact ⟨1, yes, read, true, hst, fun W h => vote1_no h hT hk hos hlg hA hu hf hof, .inl ⟨rfl, b1, b2, b3, .inr (.inr ⟨rfl, rfl, rfl, rfl⟩)⟩, .inr rfl, .inr rfl⟩
    | false =>
      refine ⟨1, yes, read, false, hst, fun W h => vote1_off h hT hk hos hlg hA ho hf hof hK, .inr ⟨rfl, rfl, rfl, ?_⟩, .inr rfl, .inr rfl⟩
      by_cases b1 : (f : Int) ∈ ns
      · by_cases b2 : (f : Int) ∈ yes
        · exact .inr (.inr (.inl b2))
        · by_cases b3 : (f : Int) ∈ read
          · exact .inr (.inr (.inr b3))
          · rw [(hA.ob f hf).2 ⟨b1, b2, b3⟩] at hof; cases hof
      · exact .inr (.inl b1)
  · exact ⟨0, yes, read, no, by rw [hT]; rfl, fun W h => vote1_none h hT hk hos hlg hf hK abo no, .inr ⟨rfl, rfl, rfl, .inl (by omega)⟩, .inr rfl, .inr rfl⟩
  · exact ⟨2, yes, read, false, by rw [hT]; simp [stN, findT_1], fun W h => vote1_cm h hT hk hos hlg hf hK hy hc hcm hne hal, .inr ⟨rfl, rfl, rfl, .inl (by omega)⟩, .inr rfl, .inr rfl⟩
theorem OwnO.grew {w w' : World} {B : Nat} {ov v v' : Value} {os : List Le} (ho : OwnO w B ov os) (hg : Grew w v w' v') (hne : ∀ k, ov.ownBlock = some k → v.ownBlock ≠ some k) : OwnO w' B ov os := ho.kept fun k hk => by
  have hO : Only (fun j => v.ownBlock = some j) w w' := (Only.of_grown hg.by_).more fun j _ hj => hj.symm
  obtain ⟨cs, hh⟩ := ho.blk k hk
  exact hO.block k (lt_of_heap hh) (hne k hk)
theorem toL_core {os : List Le} {k : Int} (h : ∀ x ∈ os.map Le.core, x.1 ≠ k) : toL os k = [] := by
  unfold toL
  rw [List.map_eq_nil_iff, List.filter_eq_nil_iff]
  intro e he
  have := h e.core (List.mem_map.2 ⟨e, he, rfl⟩)
  simpa [Le.core] using this
theorem toL_all {os : List Le} {k : Int} {node x nn : Nat} {ns : List Int} (h : os.map Le.core = coreL k node x nn ns) : toL os k = ns := by
  have h1 : ∀ e ∈ os, e.k = k := fun e he => by
    have h2 : e.core ∈ coreL k node x nn ns := by rw [← h]; exact List.mem_map.2 ⟨e, he, rfl⟩
    exact coreL_kind _ h2
  unfold toL
  rw [List.filter_eq_self.2 (fun e he => by simpa using h1 e he)]
  have h3 := congrArg (List.map fun z : Cr => z.2.2.1) h
  unfold coreL at h3
  rw [List.map_map, List.map_map] at h3
  have h4 : ((fun z : Cr => z.2.2.1) ∘ fun n => ((k, (node : Int), n, (x : Int), nn) : Cr)) = id := rfl
  have h5 : ((fun z : Cr => z.2.2.1) ∘ Le.core) = Le.t := rfl
  rw [h4, h5, List.map_id] at h3
  exact h3
theorem EnX.app1 {w0 wr w' : World} {S : CoS} {exts : List (Nat × Obj)} {b c d : Value × List Int} {v v' : Value} {ls ls' : List Int} (h : EnX w0 wr S [(v, ls), b, c, d] exts) (hg : Grew wr v w' v') (ho : OwnI w' w0.heap.size v' ls') : EnX w0 w' S [(v', ls'), b, c, d] exts := EnX.app [] h hg ho
theorem EnX.app2 {w0 wr w' : World} {S : CoS} {exts : List (Nat × Obj)} {a c d : Value × List Int} {v v' : Value} {ls ls' : List Int} (h : EnX w0 wr S [a, (v, ls), c, d] exts) (hg : Grew wr v w' v') (ho : OwnI w' w0.heap.size v' ls') : EnX w0 w' S [a, (v', ls'), c, d] exts := EnX.app [a] h hg ho
theorem EnX.app3 {w0 wr w' : World} {S : CoS} {exts : List (Nat × Obj)} {a b d : Value × List Int} {v v' : Value} {ls ls' : List Int} (h : EnX w0 wr S [a, b, (v, ls), d] exts) (hg : Grew wr v w' v') (ho : OwnI w' w0.heap.size v' ls') : EnX w0 w' S [a, b, (v', ls'), d] exts := EnX.app [a, b] h hg ho
theorem EnX.app4 {w0 wr w' : World} {S : CoS} {exts : List (Nat × Obj)} {a b c : Value × List Int} {v v' : Value} {ls ls' : List Int} (h : EnX w0 wr S [a, b, c, (v, ls)] exts) (hg : Grew wr v w' v') (ho : OwnI w' w0.heap.size v' ls') : EnX w0 w' S [a, b, c, (v', ls')] exts := EnX.app [a, b, c] h hg ho
theorem exW {w0 wx : World} {S : CoS} {rows : List (Value × List Int)} {exts : List (Nat × Obj)} {v u : Value} (h : v = u ∧ EnX w0 wx S rows exts) : ∃ W, W = wx ∧ v = u ∧ EnX w0 W S rows exts := ⟨_, rfl, h⟩
/-- Out, beside rows -/
theorem EnX.out {w0 wr : World} {S : CoS} {rows : List (Value × List Int)} {exts : List (Nat × Obj)} (h : EnX w0 wr S rows exts) : Calls Try.prog 12 #[.pointer (some ⟨S.c, 0, none⟩)] wr (fun e w' => e = .returned S.ov ∧ EnX w0 w' { S with ov := .slice none 0 0, os := [] } rows exts ∧ OwnO w' w0.heap.size S.ov S.os ∧ ∀ r ∈ rows, ∀ k, S.ov.ownBlock = some k → r.1.ownBlock ≠ some k) :=
  (out_any h.co).mono fun _ _ ⟨h1, h2, h3, h4⟩ => ⟨h1, h.step h2 (h4.more fun j _ hj => .inl hj) (fun j hj => by
    unfold CoK at hj ⊢
    simp only [Value.ownBlock] at hj
    rcases hj with hj | hj | hj | hj | hj | hj | hj
    all_goals first | (left; omega) | simp at hj), h3, fun r hr k hk e => h.sep r hr k e (.inr (.inr (.inr (.inr (.inr (.inr hk))))))⟩
theorem P1.ph {nd : Nat} {ns : List Int} {T T' : List Te} {os : List Le} {yes read com abo : List Int} {no : Bool} {was : Nat} (h : P1 nd ns T T' (os.map Le.core) yes read com abo no was) : Ph nd ns T T' yes read (com ++ toL os 5) (abo ++ toL os 6) no := by
  rcases h with ⟨_, h1, h2, h3, h4, o, y, h5⟩ | ⟨_, h1, h2, h3, h4, _⟩ | ⟨_, h1, h2, h3, h4⟩ | ⟨_, h1, h2, h3, y, h4, h5, h6, h7, h8, h9, h10⟩ | ⟨_, h1, h2, h3, y, h4, h5, h6, h7, h8, h9, h10⟩
  · have e : os = [] := List.map_eq_nil_iff.1 h4
    subst e h2 h3
    exact .inl ⟨h1, rfl, rfl, o, y, h5⟩
  · subst h1
    exact .inr (.inl ⟨by rw [toL_core (k := 5) (fun x hx => by rw [h4 x hx]; omega)]; rfl, h2, h3⟩)
  · subst h1
    exact .inr (.inl ⟨by rw [toL_core (k := 5) (fun x hx => by rw [h4 x hx]; omega)]; rfl, h2, h3⟩)
  · subst h2 h3
    have e5 := toL_all h7
    have e6 : toL os 6 = [] := toL_core (fun x hx => by rw [h7] at hx; rw [coreL_kind x hx]; omega)
    rw [e5, e6]
    refine .inr (.inr ⟨h1, rfl, fun e => ?_, y, h4, h5, h6, fun z hz => h8 z hz, h9, h10⟩)
    rcases hy : yes with _ | ⟨z, l⟩
    · exact h9 hy
    · have := h8 z (by rw [hy]; simp)
      rw [List.nil_append] at e
      rw [e] at this
      simp at this
  · subst h2
    have e6 : toL os 6 = [] := toL_core (fun x hx => by rw [h7 x hx]; omega)
    rw [e6]
    exact .inr (.inr ⟨h1, rfl, fun e => h3 (List.append_eq_nil_iff.1 e).1, y, h4, h5, h6, fun z hz => List.mem_append.2 (.inl (h8 z hz)), h9, h10⟩)
theorem Ph.opened {nd : Nat} {ns : List Int} {T T' : List Te} {yes read com abo : List Int} {no : Bool} (h : Ph nd ns T T' yes read com abo no) : Ph nd ns T' T' yes read com abo no := by
  rcases h with ⟨_, h2, _, o, y, _, h5, _⟩ | ⟨h1, _, h3⟩ | ⟨h1, h2, h3, y, _, h5, h6⟩
  · exact .inr (.inl ⟨h2, h5, h5⟩)
  · exact .inr (.inl ⟨h1, h3, h3⟩)
  · exact .inr (.inr ⟨h1, h2, h3, y, h5, h5, h6⟩)
theorem Ph.st {nd : Nat} {ns : List Int} {T T' : List Te} {yes read com abo : List Int} {no : Bool} (h : Ph nd ns T T' yes read com abo no) : (stN T nd = 2 ∧ stN T' nd = 2 ∧ ∀ z ∈ yes, z ∈ com) ∨ (stN T nd ≠ 2 ∧ stN T' nd = 0) := by
  rcases h with ⟨_, h2, _, o, y, h4, h5, _⟩ | ⟨h1, h2, h3⟩ | ⟨h1, h2, h3, y, h4, h5, _, h7, _⟩
  · right
    rw [h4, h5]
    exact ⟨by simp [stN, findT_1], rfl⟩
  · right
    rw [h2, h3]
    exact ⟨by show (0 : Nat) ≠ 2; omega, rfl⟩
  · left
    rw [h4, h5]
    exact ⟨by simp [stN, findT_1], by simp [stN, findT_1], h7⟩
theorem Ph.one {nd : Nat} {ns : List Int} {T T' : List Te} {yes read com abo : List Int} {no : Bool} (h : Ph nd ns T T' yes read com abo no) : T'.length ≤ 1 := by
  rcases h with ⟨_, _, _, o, y, _, h5, _⟩ | ⟨_, _, h3⟩ | ⟨_, _, _, y, _, h5, _⟩
  · rw [h5]; exact Nat.zero_le _
  · rw [h3]; exact Nat.zero_le _
  · rw [h5]; exact Nat.le_refl _
/-- behind the count of a vote -/
def DkL (w0 : World) (S : CoS) (vc va : Value) (yes read com abo : List Int) (no : Bool) (exts : List (Nat × Obj)) (v10 v11 v14 : Value) (wx : World) : Prop := v14 = .bool no ∧ EnX w0 wx S [(v10, yes), (v11, read), (vc, com), (va, abo)] exts
theorem DkL.world {w0 wx : World} {S : CoS} {vc va v10 v11 v14 : Value} {yes read com abo : List Int} {no : Bool} {exts : List (Nat × Obj)} (h : DkL w0 S vc va yes read com abo no exts v10 v11 v14 wx) : ∃ W, W = wx ∧ DkL w0 S vc va yes read com abo no exts v10 v11 v14 W := ⟨_, rfl, h⟩
def DmL (w0 : World) (S : CoS) (rows : List (Value × List Int)) (exts : List (Nat × Obj)) (wx : World) : Prop := EnX w0 wx S rows exts
theorem DmL.world {w0 wx : World} {S : CoS} {rows : List (Value × List Int)} {exts : List (Nat × Obj)} (h : DmL w0 S rows exts wx) : ∃ W, W = wx ∧ EnX w0 W S rows exts := ⟨_, rfl, h⟩
theorem LogS.more {S : CoS} {ks : List Rk} {T' : List Te} {m m' : Nat} (h : LogS S ks T' m) (hm : m ≤ m') : LogS S ks T' m' := ⟨h.b, h.rs, h.ok, by have := h.few; omega, h.red, h.s⟩
theorem EnX.plain {w0 wr : World} {S : CoS} {rows : List (Value × List Int)} {exts : List (Nat × Obj)} (h : EnX w0 wr S rows exts) : EnX w0 wr S rows [] := ⟨h.co, h.own, h.sep, h.apart, h.bel, fun p hp => by simp at hp⟩
/-- opened anew on another disk -/
theorem EnX.opened {w0 W w5 w6 : World} {S S6 : CoS} {rows : List (Value × List Int)} {exts : List (Nat × Obj)} {p5 g5 : Nat} (h : EnX w0 W S rows exts) (hb5 : Below W.heap.size W w5) (hp5 : W.heap.size ≤ p5) (hg5 : W.heap.size ≤ g5) (hc6 : Co w6 W.heap.size S6) (hO6 : Only (fun k => k = p5 ∨ k = g5) w5 w6) : EnX w0 w6 S6 rows [] :=
  ⟨hc6.lower h.bel.size, fun r hr => ((h.own r hr).below hb5).kept (fun g hg => hO6.block g (Nat.lt_of_lt_of_le ((h.own r hr).lt g hg) hb5.size) (fun e => by have := (h.own r hr).lt g hg; omega)), fun r hr g hg hk => by
    have h3 := hc6.low g hk
    have h4 := (h.own r hr).lt g hg
    omega, h.apart, h.bel.trans ((hb5.trans (hO6.below hb5.size (fun j hj => by omega))).mono h.bel.size), fun p hp => by simp at hp⟩
/-- in the loop over those who said yes -/
def KxL (n : Nat) (w : World) (v : Value) (wr : World) : Prop := ∃ k : Nat, v = .int .i64 (k : Int) ∧ k ≤ n ∧ wr = w
/-- at the head of the votes' loop -/
def DcL (w0 : World) (nd : Nat) (ns : List Int) (v5 v6 v7 v10 v11 v12 v13 v14 v15 : Value) (wr : World) : Prop := ∃ (i : Nat) (S : CoS) (ks : List Rk) (T' : List Te) (yes read com abo : List Int) (no : Bool), v15 = .int .i64 (i : Int) ∧ i ≤ 60 ∧ v5 = .pointer (some ⟨S.p, 0, none⟩) ∧ v6 = .pointer (some ⟨S.c, 0, none⟩) ∧ v7 = .int .i64 0 ∧ v14 = .bool no ∧ EnX w0 wr S [(v10, yes), (v11, read), (v12, com), (v13, abo)] [] ∧ S.node = nd ∧ S.tks = 0 ∧ S.os = [] ∧ LogS S ks T' (i + 1) ∧ yes.length ≤ 16 ∧ read.length ≤ 16 ∧ com.length ≤ 16 * i ∧ abo.length ≤ 16 * i ∧ Ph nd ns S.T T' yes read com abo no
set_option maxRecDepth 100000 in
set_option maxHeartbeats 16000000 in
theorem dec_bad (node : Int) (hbad : node < 0 ∨ 16 ≤ node) (NA : Option Addr) (nn nc : Nat) (VA : Option Addr) (vn vc : Nat) (keep : Int) (w : World) :
    Calls Try.prog 3 #[.int .i64 node, .agg #[.slice NA nn nc, .slice VA vn vc, .int .i64 keep]] w (Ans (.bool true) w) := by
  have hnil : ∀ (w : World) (a : Option Addr), (binOp .eql 28 (.pointer a) (.pointer none)).run Try.prog w = .ok (.bool a.isNone) w := fun w a => by cases a <;> rfl
  obtain ⟨w0, hw0⟩ : ∃ w0, w0 = w.alloc (.cells #[.slice NA nn nc, .slice VA vn vc, .int .i64 keep] 25) := ⟨_, rfl⟩
  obtain ⟨gb, hgb⟩ : ∃ gb, w.heap.size = gb := ⟨_, rfl⟩
  have hbw : Below w.heap.size w w0 := by rw [hw0]; exact alloc_below w _
  have hxb : w0.heap[gb]? = some (.cells #[.slice NA nn nc, .slice VA vn vc, .int .i64 keep] 25 (0, 0)) := by rw [hw0, ← hgb]; exact heap_alloc_new w _
  have HBW := Lib.hid hbw
  have HW0 := Lib.hid hw0
  have HGB := Lib.hid hgb
  have HXB : Hid (∀ W, Below w0.heap.size w0 W → W.cell? ⟨gb, 0, none⟩ = some (.slice NA nn nc) ∧ W.cell? ⟨gb, 1, none⟩ = some (.slice VA vn vc) ∧ W.cell? ⟨gb, 2, none⟩ = some (.int .i64 keep)) := Lib.hid fun W hb => box3_ ((hb.block gb (lt_of_heap hxb)).trans hxb)
  have HBAD := Lib.hid hbad
  clear hbad hbw hxb hw0 hgb
  go_enter Try.func3, Try.ntmps3
  go_upto_region 1 with fail
  rw [← HW0.out, HGB.out]
  go_wp2_with (first
    | (go_at_call 6; refine (new_any _).mono ?_; rintro e w1 ⟨p, rfl, hd, hb⟩
       have HD := Lib.hid hd
       have HB1 := Lib.hid hb
       obtain ⟨c0, c1, c2⟩ := HXB.out _ hb
       clear hd hb)
    | (go_at_call 7; refine (Open_bad p node HBAD.out _).mono ?_; unfold OpN; rintro e w2 ⟨rfl, rfl⟩)
    | (go_at_call 8; refine (alive13_any _).mono ?_; rintro e wz ⟨rfl, hb⟩
       have HE := Lib.hid (HB1.out.trans (hb.mono (Below.size HB1.out)))
       clear hb))
  go_ret
  exact ⟨rfl, HBW.out.trans (HE.out.mono HBW.out.size)⟩
set_option maxRecDepth 100000 in
set_option maxHeartbeats 16000000 in
theorem dec_long {nd : Nat} (hnd : nd < 16) (NA : Option Addr) (nn nc : Nat) (VA : Option Addr) (vn vc : Nat) (keep : Int) (w : World) (hlong : 60 < nn) (hnm : nn ≤ maxLen) :
    Calls Try.prog 3 #[.int .i64 (nd : Int), .agg #[.slice NA nn nc, .slice VA vn vc, .int .i64 keep]] w (Ans (.bool true) w) := by
  have hnil : ∀ (w : World) (a : Option Addr), (binOp .eql 28 (.pointer a) (.pointer none)).run Try.prog w = .ok (.bool a.isNone) w := fun w a => by cases a <;> rfl
  obtain ⟨w0, hw0⟩ : ∃ w0, w0 = w.alloc (.cells #[.slice NA nn nc, .slice VA vn vc, .int .i64 keep] 25) := ⟨_, rfl⟩
  obtain ⟨gb, hgb⟩ : ∃ gb, w.heap.size = gb := ⟨_, rfl⟩
  have hbw : Below w.heap.size w w0 := by rw [hw0]; exact alloc_below w _
  have hxb : w0.heap[gb]? = some (.cells #[.slice NA nn nc, .slice VA vn vc, .int .i64 keep] 25 (0, 0)) := by rw [hw0, ← hgb]; exact heap_alloc_new w _
  have HBW := Lib.hid hbw
  have HW0 := Lib.hid hw0
  have HGB := Lib.hid hgb
  have HXB : Hid (∀ W, Below w0.heap.size w0 W → W.cell? ⟨gb, 0, none⟩ = some (.slice NA nn nc) ∧ W.cell? ⟨gb, 1, none⟩ = some (.slice VA vn vc) ∧ W.cell? ⟨gb, 2, none⟩ = some (.int .i64 keep)) := Lib.hid fun W hb => box3_ ((hb.block gb (lt_of_heap hxb)).trans hxb)
  have HND := Lib.hid hnd
  have hl : (60 : Int) < (nn : Int) := by omega
  have hni : (nn : Int) ≤ 9223372036854775807 := by unfold maxLen at hnm; omega
  clear hnd hlong hnm hbw hxb hw0 hgb
  go_enter Try.func3, Try.ntmps3
  go_upto_region 1 with fail
  rw [← HW0.out, HGB.out]
  go_wp2_with (first
    | (go_at_call 6; refine (new_any _).mono ?_; rintro e w1 ⟨p, rfl, hd, hb⟩
       have HD := Lib.hid hd
       have HB1 := Lib.hid hb
       obtain ⟨c0, c1, c2⟩ := HXB.out _ hb
       clear hd hb)
    | (go_at_call 7; refine (Open13_any (ks := []) (b := 0) (E := 0) HD.out rfl (Below.size HB1.out) (by simp) (by simp) (by omega) HND.out).mono ?_; rintro e w2 ⟨S, rfl, hc, hn, hi, hcn, ht, hT, hv, hos, hp, hbb, hrs, hs, hO⟩
       obtain ⟨c, node, inc, cnt, tks, q, p', g, d, b, s, pre, rs, m, T, ov, os⟩ := S
       simp only at hn hi hcn ht hT hv hos hp hbb hrs hs
       have hn2 := hn.symm
       have hi2 : inc = 0 := hi
       have hT2 : T = [] := hT
       have hp2 := hp.symm
       clear hn hi hT hp
       subst hn2 hi2 hcn ht hT2 hv hos hp2
       have HC := Lib.hid hc
       have HB2 := Lib.hid (HD.out.belPG hO HB1.out)
       have HLG : Hid (b = 0 ∧ rs = [Rk.op 0].map Rk.b ∧ s = b + (bytesOf rs).length) := Lib.hid ⟨hbb, hrs, hs⟩
       clear c0 c1 c2
       obtain ⟨c0, c1, c2⟩ := HXB.out _ HB2.out
       clear hc hO hbb hrs hs)
    | (go_at_call 9; refine (begin_fresh HC.out rfl rfl rfl).mono ?_; rintro e w3 ⟨rfl, hc3, hO3⟩
       have HC3 := Lib.hid hc3
       have HB3 := Lib.hid (HC.out.belCM hO3 HB2.out)
       clear c0 c1 c2
       obtain ⟨c0, c1, c2⟩ := HXB.out _ HB3.out
       clear hc3 hO3))
  go_ret
  exact ⟨rfl, HBW.out.trans (HB3.out.mono HBW.out.size)⟩
set_option maxRecDepth 100000 in
set_option maxHeartbeats 16000000 in
theorem dec_arg {nd : Nat} (hnd : nd < 16) (ns : List Int) (NA : Option Addr) (nn nc : Nat) (VA : Option Addr) (vn vc : Nat) (keep : Int) (w : World) (hnn : nn ≤ 60) (hn : ns.length = nn) (hu : upN (-1) ns = false ∨ ns = []) (hr : RdI w w.heap.size NA ns) :
    Calls Try.prog 3 #[.int .i64 (nd : Int), .agg #[.slice NA nn nc, .slice VA vn vc, .int .i64 keep]] w (Ans (.bool true) w) := by
  have hnil : ∀ (w : World) (a : Option Addr), (binOp .eql 28 (.pointer a) (.pointer none)).run Try.prog w = .ok (.bool a.isNone) w := fun w a => by cases a <;> rfl
  obtain ⟨w0, hw0⟩ : ∃ w0, w0 = w.alloc (.cells #[.slice NA nn nc, .slice VA vn vc, .int .i64 keep] 25) := ⟨_, rfl⟩
  obtain ⟨gb, hgb⟩ : ∃ gb, w.heap.size = gb := ⟨_, rfl⟩
  have hbw : Below w.heap.size w w0 := by rw [hw0]; exact alloc_below w _
  have hxb : w0.heap[gb]? = some (.cells #[.slice NA nn nc, .slice VA vn vc, .int .i64 keep] 25 (0, 0)) := by rw [hw0, ← hgb]; exact heap_alloc_new w _
  have HBW := Lib.hid hbw
  have HW0 := Lib.hid hw0
  have HGB := Lib.hid hgb
  have HXB : Hid (∀ W, Below w0.heap.size w0 W → W.cell? ⟨gb, 0, none⟩ = some (.slice NA nn nc) ∧ W.cell? ⟨gb, 1, none⟩ = some (.slice VA vn vc) ∧ W.cell? ⟨gb, 2, none⟩ = some (.int .i64 keep)) := Lib.hid fun W hb => box3_ ((hb.block gb (lt_of_heap hxb)).trans hxb)
  have HND := Lib.hid hnd
  have HU := Lib.hid hu
  have HN := Lib.hid hn
  have HNN := Lib.hid hnn
  have hl : ¬ (60 : Int) < (nn : Int) := by omega
  have hni : (nn : Int) ≤ 60 := by omega
  have HR : Hid (∀ W, Below w0.heap.size w0 W → RdI W W.heap.size NA ns) := Lib.hid fun W hb => by
    have h2 := hbw.trans (hb.mono hbw.size)
    exact (hr.below h2 (Nat.le_refl _)).more h2.size
  clear hnd hu hn hnn hr hbw hxb hw0 hgb
  go_enter Try.func3, Try.ntmps3
  go_upto_region 1 with fail
  rw [← HW0.out, HGB.out]
  go_wp2_with (first
    | (go_at_call 6; refine (new_any _).mono ?_; rintro e w1 ⟨p, rfl, hd, hb⟩
       have HD := Lib.hid hd
       have HB1 := Lib.hid hb
       obtain ⟨c0, c1, c2⟩ := HXB.out _ hb
       clear hd hb)
    | (go_at_call 7; refine (Open13_any (ks := []) (b := 0) (E := 0) HD.out rfl (Below.size HB1.out) (by simp) (by simp) (by omega) HND.out).mono ?_; rintro e w2 ⟨S, rfl, hc, hn, hi, hcn, ht, hT, hv, hos, hp, hbb, hrs, hs, hO⟩
       obtain ⟨c, node, inc, cnt, tks, q, p', g, d, b, s, pre, rs, m, T, ov, os⟩ := S
       simp only at hn hi hcn ht hT hv hos hp hbb hrs hs
       have hn2 := hn.symm
       have hi2 : inc = 0 := hi
       have hT2 : T = [] := hT
       have hp2 := hp.symm
       clear hn hi hT hp
       subst hn2 hi2 hcn ht hT2 hv hos hp2
       have HC := Lib.hid hc
       have HB2 := Lib.hid (HD.out.belPG hO HB1.out)
       have HLG : Hid (b = 0 ∧ rs = [Rk.op 0].map Rk.b ∧ s = b + (bytesOf rs).length) := Lib.hid ⟨hbb, hrs, hs⟩
       clear c0 c1 c2
       obtain ⟨c0, c1, c2⟩ := HXB.out _ HB2.out
       clear hc hO hbb hrs hs)
    | (go_at_call 9; refine (begin_fresh HC.out rfl rfl rfl).mono ?_; rintro e w3 ⟨rfl, hc3, hO3⟩
       have HC3 := Lib.hid hc3
       have HB3 := Lib.hid (HC.out.belCM hO3 HB2.out)
       clear c0 c1 c2
       obtain ⟨c0, c1, c2⟩ := HXB.out _ HB3.out
       clear hc3 hO3)
    | (go_at_call 10; refine (ask_arg HC3.out (x := nd) (by have := HND.out; unfold i64ok; omega) (findT_1 nd 1 0 0 0 0) rfl ns HU.out NA nn nc HN.out (by have := HNN.out; omega) (HR.out _ HB3.out)).mono ?_; rintro e w4 ⟨rfl, hb⟩
       have HB4 := Lib.hid (HB3.out.trans (hb.mono HB3.out.size))
       have HC4 := Lib.hid (HC3.out.below hb)
       clear hb)
    | (go_at_call 8; refine (alive13_any _).mono ?_; rintro e wz ⟨rfl, hb⟩
       have HE := Lib.hid (HB4.out.trans (hb.mono (Below.size HB4.out)))
       have HST : Hid (Calls Try.prog 11 #[.pointer (some ⟨c, 0, none⟩), .int .i64 (nd : Int)] wz (LooksL (.int .i64 1) wz)) := Lib.hid (by
         have h9 := state_any (HC4.out.below hb) (x := nd) (by have := HND.out; unfold i64ok; omega)
         simp only [stN, findT_1] at h9
         exact h9)
       clear hb)
    | (go_at_call 11; refine HST.out.mono ?_; rintro e wy ⟨rfl, rfl⟩))
  go_ret
  exact ⟨rfl, HBW.out.trans (HE.out.mono HBW.out.size)⟩
set_option maxRecDepth 100000 in
set_option maxHeartbeats 64000000 in
theorem dec_main {nd : Nat} (hnd : nd < 16) (ns : List Int) (vs : List Vt) (NA : Option Addr) (nn nc : Nat) (VA : Option Addr) (vn vc : Nat) (keep : Int) (w : World) (hkp : i64ok keep) (hnc : nn ≤ nc) (hnn : nn ≤ 60) (hn : ns.length = nn) (hu : upN (-1) ns = true) (hne : ns ≠ []) (hvn : vs.length = vn) (hvm : vn ≤ maxLen) (hr : RdI w w.heap.size NA ns) (hrv : RdVt w w.heap.size VA vs) (hvo : ∀ x ∈ vs, i64ok x.n ∧ i64ok x.k) :
    Calls Try.prog 3 #[.int .i64 (nd : Int), .agg #[.slice NA nn nc, .slice VA vn vc, .int .i64 keep]] w (Ans (.bool true) w) := by
  have hnil : ∀ (w : World) (a : Option Addr), (binOp .eql 28 (.pointer a) (.pointer none)).run Try.prog w = .ok (.bool a.isNone) w := fun w a => by cases a <;> rfl
  obtain ⟨w0, hw0⟩ : ∃ w0, w0 = w.alloc (.cells #[.slice NA nn nc, .slice VA vn vc, .int .i64 keep] 25) := ⟨_, rfl⟩
  obtain ⟨gb, hgb⟩ : ∃ gb, w.heap.size = gb := ⟨_, rfl⟩
  have hbw : Below w.heap.size w w0 := by rw [hw0]; exact alloc_below w _
  have hxb : w0.heap[gb]? = some (.cells #[.slice NA nn nc, .slice VA vn vc, .int .i64 keep] 25 (0, 0)) := by rw [hw0, ← hgb]; exact heap_alloc_new w _
  have HBW := Lib.hid hbw
  have HW0 := Lib.hid hw0
  have HGB := Lib.hid hgb
  have HXB : Hid (∀ W, Below w0.heap.size w0 W → W.cell? ⟨gb, 0, none⟩ = some (.slice NA nn nc) ∧ W.cell? ⟨gb, 1, none⟩ = some (.slice VA vn vc) ∧ W.cell? ⟨gb, 2, none⟩ = some (.int .i64 keep)) := Lib.hid fun W hb => box3_ ((hb.block gb (lt_of_heap hxb)).trans hxb)
  have HND := Lib.hid hnd
  have HU := Lib.hid hu
  have HN := Lib.hid hn
  have HNE := Lib.hid hne
  have HKP := Lib.hid hkp
  have HNC := Lib.hid hnc
  have HVN := Lib.hid hvn
  have HVO := Lib.hid hvo
  have hl : ¬ (60 : Int) < (nn : Int) := by omega
  have hni : (nn : Int) ≤ 60 := by omega
  have hvi : (vn : Int) ≤ 9223372036854775807 := by unfold maxLen at hvm; omega
  have HR : Hid (∀ W, Below w0.heap.size w0 W → RdI W W.heap.size NA ns) := Lib.hid fun W hb => by
    have h2 := hbw.trans (hb.mono hbw.size)
    exact (hr.below h2 (Nat.le_refl _)).more h2.size
  have HRV : Hid (∀ W, Below w0.heap.size w0 W → ∀ j x, vs[j]? = some x → ∃ b o, VA = some ⟨b, o, none⟩ ∧ W.cell? ⟨b, o + j * 3, none⟩ = some (.int .i64 x.n) ∧ W.cell? ⟨b, o + j * 3 + 1, none⟩ = some (.int .i64 x.k) ∧ W.cell? ⟨b, o + j * 3 + 2, none⟩ = some (.bool x.p)) := Lib.hid fun W hb j x hx => hrv.at_ hx (hbw.trans (hb.mono hbw.size)) (Nat.le_refl _)
  have HM16 : Hid (ns.length ≤ 16) := Lib.hid (by have := up_len (by omega) (by omega) hu; omega)
  clear hnd hu hn hne hnn hr hrv hvn hvm hvo hkp hnc hbw hxb hw0 hgb
  go_enter Try.func3, Try.ntmps3
  go_upto_region 1 with fail
  rw [← HW0.out, HGB.out]
  go_wp2_with (first
    | (go_at_call 6; refine (new_any _).mono ?_; rintro e w1 ⟨p, rfl, hd, hb⟩
       have HD := Lib.hid hd
       have HB1 := Lib.hid hb
       obtain ⟨c0, c1, c2⟩ := HXB.out _ hb
       clear hd hb)
    | (go_at_call 7; refine (Open13_any (ks := []) (b := 0) (E := 0) HD.out rfl (Below.size HB1.out) (by simp) (by simp) (by omega) HND.out).mono ?_; rintro e w2 ⟨S, rfl, hc, hn, hi, hcn, ht, hT, hv, hos, hp, hbb, hrs, hs, hO⟩
       obtain ⟨c, node, inc, cnt, tks, q, p', g, d, b, s, pre, rs, m, T, ov, os⟩ := S
       simp only at hn hi hcn ht hT hv hos hp hbb hrs hs
       have hn2 := hn.symm
       have hi2 : inc = 0 := hi
       have hT2 : T = [] := hT
       have hp2 := hp.symm
       clear hn hi hT hp
       subst hn2 hi2 hcn ht hT2 hv hos hp2
       have HC := Lib.hid hc
       have HB2 := Lib.hid (HD.out.belPG hO HB1.out)
       have HLG : Hid (b = 0 ∧ rs = [Rk.op 0].map Rk.b ∧ s = b + (bytesOf rs).length) := Lib.hid ⟨hbb, hrs, hs⟩
       clear c0 c1 c2
       obtain ⟨c0, c1, c2⟩ := HXB.out _ HB2.out
       clear hc hO hbb hrs hs)
    | (go_at_call 9; refine (begin_fresh HC.out rfl rfl rfl).mono ?_; rintro e w3 ⟨rfl, hc3, hO3⟩
       have HC3 := Lib.hid hc3
       have HB3 := Lib.hid (HC.out.belCM hO3 HB2.out)
       clear c0 c1 c2
       obtain ⟨c0, c1, c2⟩ := HXB.out _ HB3.out
       clear hc3 hO3)
    | (go_at_call 10; refine (ask_yes HC3.out (x := nd) (by have := HND.out; unfold i64ok; omega) (findT_1 nd 1 0 0 0 0) rfl ns HU.out HNE.out NA nn nc HN.out (HR.out _ HB3.out) (by show 1 < 1000; omega) (by simp)).mono ?_; rintro e w4 ⟨rfl, v4, os4, hc4, hcr4, hfr4⟩
       simp only [putT_1] at hc4
       have HB4 := Lib.hid (hfr4.below HC3.out HB3.out)
       have HC4 := Lib.hid hc4
       clear c0 c1 c2
       obtain ⟨c0, c1, c2⟩ := HXB.out _ HB4.out
       clear hc4 hcr4 hfr4)
    | (go_at_call 12; have _t := HC4; refine (out_any HC4.out).mono ?_; rintro e w5 ⟨rfl, hc5, ho5, hO5⟩
       have hb5 := HC4.out.belC hO5 HB4.out
       have HEX : Hid (EnX w0 w5 ⟨c, nd, 0, 1, 0, q, p, g, d, b, s, pre, rs, m, [⟨nd, 2, orB 0 ns, orB 0 ns, 0, 0⟩], .slice none 0 0, []⟩ [(.slice none 0 0, []), (.slice none 0 0, []), (.slice none 0 0, []), (.slice none 0 0, [])] []) := Lib.hid ⟨hc5, fun r hr => by simp at hr; subst hr; exact OwnI.nil _ _, fun r hr g hg => by simp at hr; subst hr; simp [Value.ownBlock] at hg, by simp [Value.ownBlock], hb5, fun p hp => by simp at hp⟩
       clear c0 c1 c2
       obtain ⟨c0, c1, c2⟩ := HXB.out _ hb5
       clear hc5 ho5 hO5 hb5 _t))
  go_loopw [5, 6, 7, 10, 11, 12, 13, 14, 15] (fun v5 v6 v7 v10 v11 v12 v13 v14 v15 wr => DcL w0 nd ns v5 v6 v7 v10 v11 v12 v13 v14 v15 wr) (fun _ _ _ _ _ _ _ _ v15 _ => vn - (intOf v15).toNat)
  case atStart =>
    exact ⟨0, _, [Rk.op 0], [], [], [], [], [], false, rfl, Nat.zero_le _, rfl, rfl, rfl, rfl, HEX.out, rfl, rfl, rfl, ⟨HLG.out.1, HLG.out.2.1, (by intro r hr; rw [List.mem_singleton] at hr; subst hr; exact Nat.zero_le _), Nat.le_refl _, rfl, HLG.out.2.2⟩, Nat.zero_le _, Nat.zero_le _, Nat.le_refl _, Nat.le_refl _, .inl ⟨rfl, rfl, rfl, _, _, rfl, rfl, Ak.start HU.out, fun e => HNE.out (or_none HU.out e)⟩⟩
  case round =>
    clear c0 c1 c2
    obtain ⟨i, S, ks, T', yes, read, com, abo, no, rfl, hi, rfl, rfl, rfl, rfl, hen, hSn, hSk, hSo, hlg, hyl, hrl, hcl, hal, hph⟩ := hrel
    obtain ⟨wv, hwv⟩ : ∃ wv, wv = wr := ⟨_, rfl⟩
    subst hwv
    obtain ⟨c9, node9, inc9, cnt9, tks9, q9, p9, g9, d9, b9, s9, pre9, rs9, m9, T9, ov9, os9⟩ := S
    simp only at hSn hSk hSo hph ⊢
    have h2 := hSn.symm
    clear hSn
    subst h2 hSk hSo
    obtain ⟨Ay, cy, hvy, hcy⟩ := (hen.own _ (List.Mem.head _)).2
    obtain ⟨Ar, cr, hvr, hcr⟩ := (hen.own _ (List.Mem.tail _ (List.Mem.head _))).2
    obtain ⟨Ac, cc, hvc, hcc⟩ := (hen.own _ (List.Mem.tail _ (List.Mem.tail _ (List.Mem.head _)))).2
    obtain ⟨Aa, ca, hva, hca⟩ := (hen.own _ (List.Mem.tail _ (List.Mem.tail _ (List.Mem.tail _ (List.Mem.head _))))).2
    simp only at hvy hvr hvc hva
    subst hvy hvr hvc hva
    obtain ⟨yl, hyle⟩ : ∃ yl, yes.length = yl := ⟨_, rfl⟩
    obtain ⟨rl, hrle⟩ : ∃ rl, read.length = rl := ⟨_, rfl⟩
    obtain ⟨cl, hcle⟩ : ∃ cl, com.length = cl := ⟨_, rfl⟩
    obtain ⟨al, hale⟩ : ∃ al, abo.length = al := ⟨_, rfl⟩
    rw [hyle, hrle, hcle, hale] at hen ⊢
    rw [hyle] at hyl hcy
    rw [hrle] at hrl hcr
    rw [hcle] at hcl hcc
    rw [hale] at hal hca
    obtain ⟨c0, c1, c2⟩ := HXB.out _ hen.bel
    have HEN := Lib.hid hen
    by_cases hx : i < vn ∧ i < 60
    · obtain ⟨h1, h2⟩ := hx
      have h1i : (i : Int) < (vn : Int) := by omega
      have h2i : (i : Int) < 60 := by omega
      have hi0 : 0 ≤ (i : Int) := by omega
      have hyi : (yl : Int) ≤ 16 := by omega
      have hri : (rl : Int) ≤ 16 := by omega
      have hci : (cl : Int) ≤ 960 := by omega
      have hai : (al : Int) ≤ 960 := by omega
      have HLE := Lib.hid (And.intro hyle (And.intro hrle (And.intro hcle (And.intro hale (And.intro hyl (And.intro hrl (And.intro hcl (And.intro hal (And.intro h1 (And.intro h2 (And.intro hcy (And.intro hcr (And.intro hcc hca)))))))))))))
      obtain ⟨x, hx⟩ : ∃ x, vs[i]? = some x := ⟨_, List.getElem?_eq_getElem (by rw [HVN.out]; exact h1)⟩
      obtain ⟨hxn, hxk⟩ := HVO.out x (List.mem_of_getElem? hx)
      obtain ⟨b, o, hA, y0, y1, y2⟩ := HRV.out _ hen.bel i x hx
      subst hA
      obtain ⟨xn, xk, xp⟩ := x
      simp only at y0 y1 y2 hxn hxk
      have HPK := Lib.hid (fun W => pick13_any xn hxn 16 (by omega) (by omega) W)
      have HKD := Lib.hid (fun W => kind13_any xk hxk W)
      obtain ⟨fr, hfr⟩ : ∃ fr, pickZ xn 16 = fr := ⟨_, rfl⟩
      have HFR : Hid (fr < 16) := Lib.hid (by rw [← hfr]; exact pickZ_lt xn (by omega))
      rw [hfr] at HPK
      obtain ⟨K, hK⟩ : ∃ K, kindZ xk = K := ⟨_, rfl⟩
      have hK3 : K = 2 ∨ K = 4 ∨ K = 3 := by rw [← hK]; unfold kindZ; (repeat' split) <;> simp
      rw [hK] at HKD
      obtain ⟨was, yes', read', no', hwas, hhr, hafter, hy', hr'⟩ := dec_step (w0 := w0) (S := ⟨c9, nd, inc9, cnt9, 0, q9, p9, g9, d9, b9, s9, pre9, rs9, m9, T9, ov9, []⟩) (rows := [(.slice Ay yl cy, yes), (.slice Ar rl cr, read), (.slice Ac cl cc, com), (.slice Aa al ca, abo)]) (exts := [(wv.heap.size, .cells #[.int .i64 xn, .int .i64 xk, .bool xp] 40 (0, 0))]) hph HU.out rfl rfl hlg (by omega) HFR.out hK3
      have HEV : Hid (EnX w0 (wv.alloc (.cells #[.int .i64 xn, .int .i64 xk, .bool xp] 40)) ⟨c9, nd, inc9, cnt9, 0, q9, p9, g9, d9, b9, s9, pre9, rs9, m9, T9, ov9, []⟩ [(.slice Ay yl cy, yes), (.slice Ar rl cr, read), (.slice Ac cl cc, com), (.slice Aa al ca, abo)] [(wv.heap.size, .cells #[.int .i64 xn, .int .i64 xk, .bool xp] 40 (0, 0))]) := Lib.hid (hen.ext1 (alloc_below wv _) (Nat.le_refl _) (heap_alloc_new wv _))
      have HSW : Hid (∀ W, EnX w0 W ⟨c9, nd, inc9, cnt9, 0, q9, p9, g9, d9, b9, s9, pre9, rs9, m9, T9, ov9, []⟩ [(.slice Ay yl cy, yes), (.slice Ar rl cr, read), (.slice Ac cl cc, com), (.slice Aa al ca, abo)] [(wv.heap.size, .cells #[.int .i64 xn, .int .i64 xk, .bool xp] 40 (0, 0))] → Calls Try.prog 11 #[.pointer (some ⟨c9, 0, none⟩), .int .i64 (nd : Int)] W (LooksL (.int .i64 (was : Int)) W)) := Lib.hid fun W h3 => by
        have h9 := state_any h3.co (x := nd) (by have := HND.out; unfold i64ok; omega)
        simp only at hwas h9
        rw [hwas] at h9
        exact h9
      have HCL : Hid (∀ W S' rows', EnX w0 W S' rows' [(wv.heap.size, .cells #[.int .i64 xn, .int .i64 xk, .bool xp] 40 (0, 0))] → W.cell? ⟨wv.heap.size, 0, none⟩ = some (.int .i64 xn) ∧ W.cell? ⟨wv.heap.size, 1, none⟩ = some (.int .i64 xk) ∧ W.cell? ⟨wv.heap.size, 2, none⟩ = some (.bool xp)) := Lib.hid fun W S' rows' h3 => box3_ (h3.ext _ (List.Mem.head _)).1
      obtain ⟨z0, z1, z2⟩ := HCL.out _ _ _ HEV.out
      have HHR := Lib.hid hhr
      have HAF := Lib.hid hafter
      have HYR := Lib.hid (And.intro hy' hr')
      have HKK := Lib.hid hK3
      clear hx hxn hxk hfr hK hhr hafter hwas hy' hr' hph hlg hen hi hyl hrl hcl hal hyle hrle hcle hale hcy hcr hcc hca hK3 h1 h2
      go_upto_region 21 with (first
        | (go_at_call 13; refine (HPK.out _).mono ?_; rintro e wa ⟨rfl, rfl⟩)
        | (go_at_call 11; refine (HSW.out _ HEV.out).mono ?_; rintro e wb ⟨rfl, rfl⟩)
        | (go_at_call 15; refine (HKD.out _).mono ?_; rintro e wk ⟨rfl, hb⟩
           have HEK := Lib.hid (HEV.out.below hb)
           clear hb)
        | (go_at_call 14; refine (HHR.out _ HEK.out).mono ?_; rintro e wh ⟨rfl, S8, ks8, T8', he8, hc8, hp8, hn8, hk8, hl8, ho8, hP8⟩
           obtain ⟨c8, node8, inc8, cnt8, tks8, q8, p8, g8, d8, b8, s8, pre8, rs8, m8, T8, ov8, os8⟩ := S8
           simp only at hc8 hp8 hn8 hk8 ho8 hP8
           have h3 := hc8.symm
           have h4 := hp8.symm
           have h5 := hn8.symm
           clear hc8 hp8 hn8
           subst h3 h4 h5 hk8
           have HE8 := Lib.hid he8
           have HL8 := Lib.hid hl8
           have HO8 := Lib.hid ho8
           have HP8 := Lib.hid hP8
           clear c0 c1 c2 z0 z1 z2
           obtain ⟨c0, c1, c2⟩ := HXB.out _ he8.bel
           obtain ⟨z0, z1, z2⟩ := HCL.out _ _ _ he8
           clear he8 hl8 ho8 hP8))
      obtain ⟨tb, htb⟩ : ∃ tb : Bool, (tb = true ∧ (was = 1 ∧ (fr : Int) ∈ ns ∧ (fr : Int) ∉ yes ∧ (fr : Int) ∉ read ∧ ((K = 2 ∧ yes' = yes ++ [(fr : Int)] ∧ read' = read ∧ no' = no) ∨ (K = 4 ∧ yes' = yes ∧ read' = read ++ [(fr : Int)] ∧ no' = no) ∨ (K = 3 ∧ yes' = yes ∧ read' = read ∧ no' = true)))) ∨ (tb = false ∧ (yes' = yes ∧ read' = read ∧ no' = no ∧ (was ≠ 1 ∨ (fr : Int) ∉ ns ∨ (fr : Int) ∈ yes ∨ (fr : Int) ∈ read))) := by
        rcases HAF.out with h | h
        · exact ⟨true, .inl ⟨rfl, h⟩⟩
        · exact ⟨false, .inr ⟨rfl, h⟩⟩
      have HTB := Lib.hid htb
      clear htb
      go_cut [122] (fun v122 wx => v122 = .bool tb ∧ EnX w0 wx ⟨c9, nd, inc8, cnt8, 0, q8, p9, g8, d8, b8, s8, pre8, rs8, m8, T8, ov8, os8⟩ [(.slice Ay yl cy, yes), (.slice Ar rl cr, read), (.slice Ac cl cc, com), (.slice Aa al ca, abo)] [(wv.heap.size, .cells #[.int .i64 xn, .int .i64 xk, .bool xp] 40 (0, 0))])
      case first =>
        obtain ⟨hyle, hrle, hcle, hale, hyl, hrl, hcl, hal, hi1, hi2, hcy, hcr, hcc, hca⟩ := HLE.out
        rcases HTB.out with ⟨htb, hw, b1, b2, b3, hq1⟩ | ⟨htb, hq2, hq3, hq4, hoff⟩
        · have hw1 : ((was : Int) == 1) = true := by simp; omega
          subst htb
          have HH0 : Hid (∀ W, RdI W W.heap.size NA ns → Calls Try.prog 16 #[.slice NA nn nc, .int .i64 (fr : Int)] W (LooksL (.bool true) W)) := Lib.hid fun W h3 => has_yes ns (fr : Int) b1 NA nn nc HN.out (by omega) HNC.out W h3
          have HH1 : Hid (∀ W, RdI W W.heap.size Ay yes → Calls Try.prog 16 #[.slice Ay yl cy, .int .i64 (fr : Int)] W (LooksL (.bool false) W)) := Lib.hid fun W h3 => has_no yes (fr : Int) (fun n hn e => b2 (by rw [← e]; exact hn)) Ay yl cy hyle (by omega) hcy W h3
          have HH2 : Hid (∀ W, RdI W W.heap.size Ar read → Calls Try.prog 16 #[.slice Ar rl cr, .int .i64 (fr : Int)] W (LooksL (.bool false) W)) := Lib.hid fun W h3 => has_no read (fr : Int) (fun n hn e => b3 (by rw [← e]; exact hn)) Ar rl cr hrle (by omega) hcr W h3
          clear b1 b2 b3 hw hq1
          clear hyle hrle hcle hale hyl hrl hcl hal hi1 hi2 hcy hcr hcc hca
          as_aux_lemma =>
            go_wp2_with (first
              | (go_at_call 16; (with_reducible refine (HH0.out _ (HR.out _ HE8.out.bel)).mono ?_); rintro e wx0 ⟨rfl, rfl⟩)
              | (go_at_call 16; (with_reducible refine (HH1.out _ (HE8.out.own _ (List.Mem.head _)).rd).mono ?_); rintro e wx1 ⟨rfl, rfl⟩)
              | (go_at_call 16; (with_reducible refine (HH2.out _ (HE8.out.own _ (List.Mem.tail _ (List.Mem.head _))).rd).mono ?_); rintro e wx2 ⟨rfl, rfl⟩))
            go_meet
            exact ⟨rfl, HE8.out⟩
        · subst htb
          by_cases hw : was = 1
          · have hw1 : ((was : Int) == 1) = true := by simp; omega
            by_cases b1 : (fr : Int) ∈ ns
            · have HH0 : Hid (∀ W, RdI W W.heap.size NA ns → Calls Try.prog 16 #[.slice NA nn nc, .int .i64 (fr : Int)] W (LooksL (.bool true) W)) := Lib.hid fun W h3 => has_yes ns (fr : Int) b1 NA nn nc HN.out (by omega) HNC.out W h3
              by_cases b2 : (fr : Int) ∈ yes
              · have HH1 : Hid (∀ W, RdI W W.heap.size Ay yes → Calls Try.prog 16 #[.slice Ay yl cy, .int .i64 (fr : Int)] W (LooksL (.bool true) W)) := Lib.hid fun W h3 => has_yes yes (fr : Int) b2 Ay yl cy hyle (by omega) hcy W h3
                clear b1 b2 hw hoff
                clear hyle hrle hcle hale hyl hrl hcl hal hi1 hi2 hcy hcr hcc hca
                as_aux_lemma =>
                  go_wp2_with (first
                    | (go_at_call 16; (with_reducible refine (HH0.out _ (HR.out _ HE8.out.bel)).mono ?_); rintro e wx0 ⟨rfl, rfl⟩)
                    | (go_at_call 16; (with_reducible refine (HH1.out _ (HE8.out.own _ (List.Mem.head _)).rd).mono ?_); rintro e wx1 ⟨rfl, rfl⟩))
                  go_meet
                  exact ⟨rfl, HE8.out⟩
              · have b3 : (fr : Int) ∈ read := by
                  rcases hoff with h | h | h | h
                  · exact absurd hw h
                  · exact absurd b1 h
                  · exact absurd h b2
                  · exact h
                have HH1 : Hid (∀ W, RdI W W.heap.size Ay yes → Calls Try.prog 16 #[.slice Ay yl cy, .int .i64 (fr : Int)] W (LooksL (.bool false) W)) := Lib.hid fun W h3 => has_no yes (fr : Int) (fun n hn e => b2 (by rw [← e]; exact hn)) Ay yl cy hyle (by omega) hcy W h3
                have HH2 : Hid (∀ W, RdI W W.heap.size Ar read → Calls Try.prog 16 #[.slice Ar rl cr, .int .i64 (fr : Int)] W (LooksL (.bool true) W)) := Lib.hid fun W h3 => has_yes read (fr : Int) b3 Ar rl cr hrle (by omega) hcr W h3
                clear b1 b2 b3 hw hoff
                clear hyle hrle hcle hale hyl hrl hcl hal hi1 hi2 hcy hcr hcc hca
                as_aux_lemma =>
                  go_wp2_with (first
                    | (go_at_call 16; (with_reducible refine (HH0.out _ (HR.out _ HE8.out.bel)).mono ?_); rintro e wx0 ⟨rfl, rfl⟩)
                    | (go_at_call 16; (with_reducible refine (HH1.out _ (HE8.out.own _ (List.Mem.head _)).rd).mono ?_); rintro e wx1 ⟨rfl, rfl⟩)
                    | (go_at_call 16; (with_reducible refine (HH2.out _ (HE8.out.own _ (List.Mem.tail _ (List.Mem.head _))).rd).mono ?_); rintro e wx2 ⟨rfl, rfl⟩))
                  go_meet
                  exact ⟨rfl, HE8.out⟩
            · have HH0 : Hid (∀ W, RdI W W.heap.size NA ns → Calls Try.prog 16 #[.slice NA nn nc, .int .i64 (fr : Int)] W (LooksL (.bool false) W)) := Lib.hid fun W h3 => has_no ns (fr : Int) (fun n hn e => b1 (by rw [← e]; exact hn)) NA nn nc HN.out (by omega) HNC.out W h3
              clear b1 hw hoff
              clear hyle hrle hcle hale hyl hrl hcl hal hi1 hi2 hcy hcr hcc hca
              as_aux_lemma =>
                go_wp2_with (first
                  | (go_at_call 16; (with_reducible refine (HH0.out _ (HR.out _ HE8.out.bel)).mono ?_); rintro e wx0 ⟨rfl, rfl⟩))
                go_meet
                exact ⟨rfl, HE8.out⟩
          · have hw1 : ((was : Int) == 1) = false := by simp; omega
            clear hw hoff
            clear hyle hrle hcle hale hyl hrl hcl hal hi1 hi2 hcy hcr hcc hca
            as_aux_lemma =>
              go_wp2_with fail
              go_meet
              exact ⟨rfl, HE8.out⟩
      case rest =>
        obtain ⟨W8, hW8, h122, he8⟩ := exW hcut
        subst hW8 h122
        clear hcut c0 c1 c2 z0 z1 z2
        obtain ⟨c0, c1, c2⟩ := HXB.out _ he8.bel
        obtain ⟨z0, z1, z2⟩ := HCL.out _ _ _ he8
        have HE8 := Lib.hid he8
        clear he8
        go_upto_if 122 with fail
        go_cut [10, 11, 14] (fun v10 v11 v14 wx => DkL w0 ⟨c9, nd, inc8, cnt8, 0, q8, p9, g8, d8, b8, s8, pre8, rs8, m8, T8, ov8, os8⟩ (.slice Ac cl cc) (.slice Aa al ca) yes' read' com abo no' [(wv.heap.size, .cells #[.int .i64 xn, .int .i64 xk, .bool xp] 40 (0, 0))] v10 v11 v14 wx)
        case first =>
          obtain ⟨hyle, hrle, hcle, hale, hyl, hrl, hcl, hal, hi1, hi2, hcy, hcr, hcc, hca⟩ := HLE.out
          rcases HTB.out with ⟨htb, hq1, hq2, hq3, hq4, hk⟩ | ⟨htb, e1, e2, e3, hq5⟩
          · subst htb
            clear hq1 hq2 hq3 hq4
            rcases hk with ⟨eK, ey, er, en⟩ | ⟨eK, ey, er, en⟩ | ⟨eK, ey, er, en⟩
            · subst eK ey er en
              have HM : Hid (yes.length + [(fr : Int)].length ≤ 1000000) := Lib.hid (by simp; omega)
              clear hyle hrle hcle hale hyl hrl hcl hal hi1 hi2 hcy hcr hcc hca
              as_aux_lemma =>
                go_wp2_with (first
                  | (go_at_call 15; refine (HKD.out _).mono ?_; rintro e wk2 ⟨rfl, hb⟩
                     have HE9 := Lib.hid (HE8.out.below hb)
                     have HE9A := Lib.hid (HE9.out.below (alloc_below wk2 (.cells #[.int .i64 (fr : Int)] 3)))
                     have HRD := Lib.hid (rd_oneAt wk2 (fr : Int) rfl)
                     clear hb)
                  | (refine wpList_appI (xs := yes) (ys := [(fr : Int)]) (B := w0.heap.size) rfl _ _ 22 rfl Try.underlying22 rfl (HE9A.out.own _ (List.Mem.head _)) rfl rfl HRD.out HM.out HE9A.out.bel.size ?_
                     intro v4 w4 ho4 hg4
                     have HEA := Lib.hid (HE9A.out.app1 hg4 ho4)
                     clear ho4 hg4))
                go_meet
                exact ⟨rfl, HEA.out⟩
            · subst eK ey er en
              have HM : Hid (read.length + [(fr : Int)].length ≤ 1000000) := Lib.hid (by simp; omega)
              clear hyle hrle hcle hale hyl hrl hcl hal hi1 hi2 hcy hcr hcc hca
              as_aux_lemma =>
                go_wp2_with (first
                  | (go_at_call 15; refine (HKD.out _).mono ?_; rintro e wk2 ⟨rfl, hb⟩
                     have HE9 := Lib.hid (HE8.out.below hb)
                     have HE9A := Lib.hid (HE9.out.below (alloc_below wk2 (.cells #[.int .i64 (fr : Int)] 3)))
                     have HRD := Lib.hid (rd_oneAt wk2 (fr : Int) rfl)
                     clear hb)
                  | (refine wpList_appI (xs := read) (ys := [(fr : Int)]) (B := w0.heap.size) rfl _ _ 22 rfl Try.underlying22 rfl (HE9A.out.own _ (List.Mem.tail _ (List.Mem.head _))) rfl rfl HRD.out HM.out HE9A.out.bel.size ?_
                     intro v4 w4 ho4 hg4
                     have HEA := Lib.hid (HE9A.out.app2 hg4 ho4)
                     clear ho4 hg4))
                go_meet
                exact ⟨rfl, HEA.out⟩
            · subst eK ey er en
              clear hyle hrle hcle hale hyl hrl hcl hal hi1 hi2 hcy hcr hcc hca
              as_aux_lemma =>
                go_wp2_with (first
                  | (go_at_call 15; refine (HKD.out _).mono ?_; rintro e wk2 ⟨rfl, hb⟩
                     have HE9 := Lib.hid (HE8.out.below hb)
                     have HE9A := Lib.hid (HE9.out.below (alloc_below wk2 (.cells #[.int .i64 (fr : Int)] 3)))
                     have HRD := Lib.hid (rd_oneAt wk2 (fr : Int) rfl)
                     clear hb))
                go_meet
                exact ⟨rfl, HE9.out⟩
          · subst htb e1 e2 e3
            clear hq5
            clear hyle hrle hcle hale hyl hrl hcl hal hi1 hi2 hcy hcr hcc hca
            as_aux_lemma =>
              go_wp2_with fail
              go_meet
              exact ⟨rfl, HE8.out⟩
        case rest =>
          obtain ⟨W9, hW9, hno, he9⟩ := DkL.world hcut
          subst hW9 hno
          clear hcut c0 c1 c2 z0 z1 z2
          obtain ⟨c0, c1, c2⟩ := HXB.out _ he9.bel
          obtain ⟨z0, z1, z2⟩ := HCL.out _ _ _ he9
          obtain ⟨hyle, hrle, hcle, hale, hyl, hrl, hcl, hal, hi1, hi2, hcy, hcr, hcc, hca⟩ := HLE.out
          obtain ⟨Ay2, cy2, hvy, hcy2⟩ := (he9.own _ (List.Mem.head _)).2
          obtain ⟨Ar2, cr2, hvr, hcr2⟩ := (he9.own _ (List.Mem.tail _ (List.Mem.head _))).2
          simp only at hvy hvr
          subst hvy hvr
          obtain ⟨yl2, hyl2⟩ : ∃ yl2, yes'.length = yl2 := ⟨_, rfl⟩
          obtain ⟨rl2, hrl2⟩ : ∃ rl2, read'.length = rl2 := ⟨_, rfl⟩
          rw [hyl2, hrl2] at he9 ⊢
          rw [hyl2] at hcy2
          rw [hrl2] at hcr2
          have hm16 := HM16.out
          have hy16 : yl2 ≤ 16 := by
            rcases HYR.out.1 with h | h
            · omega
            · rw [← hyl2, h, hyle]; exact hyl
          have hr16 : rl2 ≤ 16 := by
            rcases HYR.out.2 with h | h
            · omega
            · rw [← hrl2, h, hrle]; exact hrl
          have hyi2 : (yl2 : Int) ≤ 16 := by omega
          have hri2 : (rl2 : Int) ≤ 16 := by omega
          have HE9 := Lib.hid he9
          obtain ⟨st, hst⟩ : ∃ st, stN T8 nd = st := ⟨_, rfl⟩
          have HSW2 : Hid (∀ W rows' exts', EnX w0 W ⟨c9, nd, inc8, cnt8, 0, q8, p9, g8, d8, b8, s8, pre8, rs8, m8, T8, ov8, os8⟩ rows' exts' → Calls Try.prog 11 #[.pointer (some ⟨c9, 0, none⟩), .int .i64 (nd : Int)] W (LooksL (.int .i64 (st : Int)) W)) := Lib.hid fun W rows' exts' h3 => by
            have h9 := state_any h3.co (x := nd) (by have := HND.out; unfold i64ok; omega)
            simp only at h9
            rw [hst] at h9
            exact h9
          have HL2 := Lib.hid (And.intro hyl2 (And.intro hrl2 (And.intro hy16 (And.intro hr16 (And.intro hcy2 hcr2)))))
          have HST := Lib.hid hst
          obtain ⟨ol, hol⟩ : ∃ ol, os8.length = ol := ⟨_, rfl⟩
          have HOL := Lib.hid hol
          have ho16 := HO8.out
          rw [hol] at ho16
          have HO16 := Lib.hid ho16
          obtain ⟨t5, ht5⟩ : ∃ t5, (toL os8 5).length = t5 := ⟨_, rfl⟩
          obtain ⟨t6, ht6⟩ : ∃ t6, (toL os8 6).length = t6 := ⟨_, rfl⟩
          have HT := Lib.hid (And.intro ht5 ht6)
          have ht5o : t5 ≤ 16 := by have := toL_len os8 5; omega
          have ht6o : t6 ≤ 16 := by have := toL_len os8 6; omega
          have HM5 : Hid (com.length + (toL os8 5).length ≤ 1000000) := Lib.hid (by omega)
          have HM6 : Hid (abo.length + (toL os8 6).length ≤ 1000000) := Lib.hid (by omega)
          have HC1 : Hid ((com ++ toL os8 5).length ≤ 16 * (i + 1) ∧ (abo ++ toL os8 6).length ≤ 16 * (i + 1)) := Lib.hid (by rw [List.length_append, List.length_append]; omega)
          clear hyle hrle hcle hale hyl hrl hcl hal hi1 hi2 hcy hcr hcc hca he9 hyl2 hrl2 hcy2 hcr2 hm16 hy16 hr16 hst hol ho16 ht5 ht6 ht5o ht6o
          go_upto_region 33 with (first
            | (go_at_call 17; have _t := HOO2; refine (to_any HOL.out (Nat.le_trans HO16.out (by decide)) 6 HOO2.out).mono ?_; rintro e wt6 ⟨vt6, rfl, ho6, hb6⟩
               obtain ⟨At6, ct6, hvt6, _⟩ := id ho6.2
               rw [HT.out.2] at hvt6
               subst hvt6
               have HE6 := Lib.hid (HEC.out.below hb6)
               have HR6 := Lib.hid ho6.rd
               clear ho6 hb6 _t)
            | (go_at_call 17; refine (to_any HOL.out (Nat.le_trans HO16.out (by decide)) 5 HOO.out).mono ?_; rintro e wt5 ⟨vt5, rfl, ho5, hb5⟩
               obtain ⟨At5, ct5, hvt5, _⟩ := id ho5.2
               rw [HT.out.1] at hvt5
               subst hvt5
               have HE5 := Lib.hid (HEO.out.below hb5)
               have HR5 := Lib.hid ho5.rd
               have HOO5 := Lib.hid (HOO.out.below hb5)
               clear ho5 hb5)
            | (go_at_call 11; refine (HSW2.out _ _ _ HE9.out).mono ?_; rintro e ws ⟨rfl, rfl⟩)
            | (go_at_call 12; refine (EnX.out HE9.out).mono ?_; rintro e wo ⟨rfl, heo, hoo, hne⟩
               obtain ⟨Ao, co, hvo, hco⟩ := id hoo.2
               simp only at hvo hoo hne
               rw [HOL.out] at hvo
               subst hvo
               have HEO := Lib.hid heo
               have HOO := Lib.hid hoo
               have HNE2 := Lib.hid hne
               clear heo hoo hne hco)
            | (have _t := HR6; refine wpList_appI (xs := abo) (ys := toL os8 6) (B := w0.heap.size) rfl _ _ 22 rfl Try.underlying22 rfl (HE6.out.own _ (List.Mem.tail _ (List.Mem.tail _ (List.Mem.tail _ (List.Mem.head _))))) rfl HT.out.2 HR6.out HM6.out HE6.out.bel.size ?_
               intro v13 w13 ho13 hg13
               have HED := Lib.hid (HE6.out.app4 hg13 ho13)
               clear ho13 hg13 _t)
            | (refine wpList_appI (xs := com) (ys := toL os8 5) (B := w0.heap.size) rfl _ _ 22 rfl Try.underlying22 rfl (HE5.out.own _ (List.Mem.tail _ (List.Mem.tail _ (List.Mem.head _)))) rfl HT.out.1 HR5.out HM5.out HE5.out.bel.size ?_
               intro v12 w12 ho12 hg12
               have HEC := Lib.hid (HE5.out.app3 hg12 ho12)
               have HOO2 := Lib.hid (HOO5.out.grew hg12 (HNE2.out _ (List.Mem.tail _ (List.Mem.tail _ (List.Mem.head _)))))
               clear ho12 hg12))
          obtain ⟨Ac3, cc3, hvc, hcc3⟩ := (HED.out.own _ (List.Mem.tail _ (List.Mem.tail _ (List.Mem.head _)))).2
          obtain ⟨Aa3, ca3, hva, hca3⟩ := (HED.out.own _ (List.Mem.tail _ (List.Mem.tail _ (List.Mem.tail _ (List.Mem.head _))))).2
          simp only at hvc hva
          subst hvc hva
          obtain ⟨L5, hL5⟩ : ∃ L5, (com ++ toL os8 5).length = L5 := ⟨_, rfl⟩
          obtain ⟨L6, hL6⟩ : ∃ L6, (abo ++ toL os8 6).length = L6 := ⟨_, rfl⟩
          rw [hL5] at HED hcc3 ⊢
          rw [hL6] at HED hca3 ⊢
          have HLL := Lib.hid (And.intro hL5 (And.intro hL6 (And.intro hcc3 hca3)))
          have hw2 : IntKind.i64.wrap ((yl2 : Int) + (rl2 : Int)) = (yl2 : Int) + (rl2 : Int) := by rw [IntKind.wrap_i64]; omega
          clear hL5 hL6 hcc3 hca3
          go_cut [19, 207] (fun v19 v207 wx => v207 = .bool false ∧ EnX w0 wx ⟨c9, nd, inc8, cnt8, 0, q8, p9, g8, d8, b8, s8, pre8, rs8, m8, T8, .slice none 0 0, []⟩ [(.slice Ay2 yl2 cy2, yes'), (.slice Ar2 rl2 cr2, read'), (.slice Ac3 L5 cc3, com ++ toL os8 5), (.slice Aa3 L6 ca3, abo ++ toL os8 6)] [(wv.heap.size, .cells #[.int .i64 xn, .int .i64 xk, .bool xp] 40 (0, 0))])
          case first =>
            obtain ⟨hL5, hL6, _, _⟩ := HLL.out
            obtain ⟨hyl2, hrl2, hy16, hr16, hcy2, hcr2⟩ := HL2.out
            have hst := HST.out
            rcases HP8.out with ⟨hw, hno, hc, ha, hL, o, y, hT, _, hA, ho⟩ | ⟨hw, hc, hT, _, hL, hor⟩ | ⟨hw, hc, hT, _, hL⟩ | ⟨hw, hno, hc, ha, y, hT, _, _, hL, htl, hne, hall⟩ | ⟨hw, hno, ha, hc, y, hT, _, _, hL, htl, hne, hall⟩
            · have e8 : os8 = [] := List.map_eq_nil_iff.1 hL
              have q1 : ¬ 0 < (L5 : Int) := by rw [← hL5, hc, e8]; simp [toL]
              have q2 : ((yl2 : Int) + (rl2 : Int) == (nn : Int)) = false := by
                have h1 := hA.all
                have h2 := HN.out
                have h3 : ¬ yl2 + rl2 = nn := fun e => ho (h1.1 (by omega))
                simp; omega
              have q3 : ((st : Int) == 2) = false := by rw [← hst, hT]; simp [stN, findT_1]
              have q4 : ((was : Int) == 2) = false := by simp; omega
              have q5 : ((was : Int) == 1) = true := by simp; omega
              subst hno
              clear hw hc ha hL hT hA ho e8 hst
              clear hL5 hL6 hyl2 hrl2 hy16 hr16 hcy2 hcr2
              as_aux_lemma =>
                go_wp2_with fail
                go_meet
                exact ⟨rfl, HED.out⟩
            · have q1 : ¬ 0 < (L5 : Int) := by rw [← hL5, hc, toL_core (k := 5) (fun x hx => by rw [hL x hx]; omega)]; simp
              have q3 : ((st : Int) == 2) = false := by rw [← hst, hT]; simp [stN, findT]
              have q4 : ((was : Int) == 2) = false := by simp; omega
              have q5 : ((was : Int) == 1) = true := by simp; omega
              have q7 : no' = false → ¬ 0 < (yl2 : Int) := fun e => by
                rcases hor with h | h
                · rw [h] at e; cases e
                · rw [h] at hyl2; simp at hyl2; omega
              clear hw hc hL hT hor hst
              cases no' with
              | true =>
                clear q7
                cases q2 : ((yl2 : Int) + (rl2 : Int) == (nn : Int))
                · clear hL5 hL6 hyl2 hrl2 hy16 hr16 hcy2 hcr2
                  as_aux_lemma =>
                    go_wp2_with fail
                    go_meet
                    exact ⟨rfl, HED.out⟩
                · clear hL5 hL6 hyl2 hrl2 hy16 hr16 hcy2 hcr2
                  as_aux_lemma =>
                    go_wp2_with fail
                    go_meet
                    exact ⟨rfl, HED.out⟩
              | false =>
                have q8 := q7 rfl
                have q8n : ¬ 0 < yl2 := by omega
                clear q7
                cases q2 : ((yl2 : Int) + (rl2 : Int) == (nn : Int))
                · clear hL5 hL6 hyl2 hrl2 hy16 hr16 hcy2 hcr2
                  as_aux_lemma =>
                    go_wp2_with fail
                    go_meet
                    exact ⟨rfl, HED.out⟩
                · clear hL5 hL6 hyl2 hrl2 hy16 hr16 hcy2 hcr2
                  as_aux_lemma =>
                    go_wp2_with fail
                    go_meet
                    exact ⟨rfl, HED.out⟩
            · have q1 : ¬ 0 < (L5 : Int) := by rw [← hL5, hc, toL_core (k := 5) (fun x hx => by rw [hL x hx]; omega)]; simp
              have q3 : ((st : Int) == 2) = false := by rw [← hst, hT]; simp [stN, findT]
              have q4 : ((was : Int) == 2) = false := by simp; omega
              have q5 : ((was : Int) == 1) = false := by simp; omega
              clear hw hc hL hT hst
              clear hL5 hL6 hyl2 hrl2 hy16 hr16 hcy2 hcr2
              as_aux_lemma =>
                go_wp2_with fail
                go_meet
                exact ⟨rfl, HED.out⟩
            · have q1 : 0 < (L5 : Int) := by
                rw [toL_all hL, hc] at hL5
                rcases hz : yes' with _ | ⟨z, l⟩
                · exact absurd hz hne
                · have h1 := List.length_pos_of_mem (htl z (by rw [hz]; simp))
                  rw [List.nil_append] at hL5
                  omega
              have q2 : ((yl2 : Int) + (rl2 : Int) == (nn : Int)) = true := by have := HN.out; simp; omega
              have q3 : ((st : Int) == 2) = true := by rw [← hst, hT]; simp [stN, findT_1]
              have q4 : ((was : Int) == 2) = false := by simp; omega
              have q5 : ((was : Int) == 1) = true := by simp; omega
              have q6 : ¬ 0 < (L6 : Int) := by rw [← hL6, ha, toL_core (k := 6) (fun x hx => by rw [hL] at hx; rw [coreL_kind x hx]; omega)]; simp
              have q8 : 0 < (yl2 : Int) := by have := List.length_pos_iff.2 hne; omega
              have q9 : ((yl2 : Int) == 0) = false := by simp; omega
              have q8n : 0 < yl2 := by omega
              have e6 : L6 = 0 := by omega
              subst e6
              subst hno
              clear hw hc ha hL hT htl hne hall hst
              clear hL5 hL6 hyl2 hrl2 hy16 hr16 hcy2 hcr2
              as_aux_lemma =>
                go_wp2_with fail
                go_meet
                exact ⟨rfl, HED.out⟩
            · have q1 : 0 < (L5 : Int) := by
                have h1 := List.length_pos_iff.2 hc
                rw [List.length_append] at hL5
                omega
              have q2 : ((yl2 : Int) + (rl2 : Int) == (nn : Int)) = true := by have := HN.out; simp; omega
              have q3 : ((st : Int) == 2) = true := by rw [← hst, hT]; simp [stN, findT_1]
              have q4 : ((was : Int) == 2) = true := by simp; omega
              have q6 : ¬ 0 < (L6 : Int) := by rw [← hL6, ha, toL_core (k := 6) (fun x hx => by rw [hL x hx]; omega)]; simp
              have q8 : 0 < (yl2 : Int) := by have := List.length_pos_iff.2 hne; omega
              have q9 : ((yl2 : Int) == 0) = false := by simp; omega
              have q8n : 0 < yl2 := by omega
              have e6 : L6 = 0 := by omega
              subst e6
              subst hno
              clear hw hc ha hL hT htl hne hall hst
              clear hL5 hL6 hyl2 hrl2 hy16 hr16 hcy2 hcr2
              as_aux_lemma =>
                go_wp2_with fail
                go_meet
                exact ⟨rfl, HED.out⟩
          case rest =>
            obtain ⟨WA, hWA, h207, heA⟩ := exW hcut
            subst hWA h207
            clear hcut c0 c1 c2 z0 z1 z2
            obtain ⟨c0, c1, c2⟩ := HXB.out _ heA.bel
            obtain ⟨z0, z1, z2⟩ := HCL.out _ _ _ heA
            have HEA := Lib.hid heA
            have HPH := Lib.hid (P1.ph HP8.out)
            have hst2 := HPH.out.st
            rw [HST.out] at hst2
            have HST2 := Lib.hid hst2
            clear heA hst2
            go_wp2_with fail
            go_loopw [22] (fun v22 wr2 => KxL yl2 WA v22 wr2) (fun v22 _ => yl2 - (intOf v22).toNat)
            case atStart => exact ⟨0, rfl, Nat.zero_le _, rfl⟩
            case round =>
              obtain ⟨k, rfl, hk, hwk⟩ := hrel
              have hwk2 := hwk.symm
              clear hwk
              subst hwk2
              by_cases hx : k < yl2 ∧ st = 2
              · obtain ⟨h1, h2⟩ := hx
                have h1i : (k : Int) < (yl2 : Int) := by omega
                have hs2 : ((st : Int) == 2) = true := by simp; omega
                obtain ⟨z, hz⟩ : ∃ z, yes'[k]? = some z := ⟨_, List.getElem?_eq_getElem (by rw [HL2.out.1]; exact h1)⟩
                obtain ⟨zb, zo, hzA, _, y0⟩ := (HEA.out.own _ (List.Mem.head _)).rd.at_ hz
                subst hzA
                have hzc : z ∈ com ++ toL os8 5 := by
                  rcases HST2.out with ⟨_, _, h⟩ | ⟨h, _⟩
                  · exact h z (List.mem_of_getElem? hz)
                  · exact absurd h2 h
                have HH3 := Lib.hid (has_yes (com ++ toL os8 5) z hzc Ac3 L5 cc3 HLL.out.1 (by have h3 := HC1.out.1; rw [HLL.out.1] at h3; have h4 := HLE.out.2.2.2.2.2.2.2.2.2.1; omega) HLL.out.2.2.1 _ (HEA.out.own _ (List.Mem.tail _ (List.Mem.tail _ (List.Mem.head _)))).rd)
                have HZK : Hid (∀ v22, v22 = .int .i64 ((k + 1 : Nat) : Int) → KxL yl2 WA v22 WA) := Lib.hid fun v22 h6 => ⟨k + 1, h6, by omega, rfl⟩
                clear hz hzc h1 h2 hk
                go_wp2_with (go_at_call 16; refine HH3.out.mono ?_; rintro e wh3 ⟨rfl, rfl⟩)
                go_roundw
                case rel => first | exact HZK.out _ (by go_num) | ((repeat apply Exists.intro); exact ⟨HZK.out _ (by go_num), rfl⟩)
                case measure => simp [intOf]; omega
              · have hx2 : (¬ (k : Int) < (yl2 : Int)) ∨ ((k : Int) < (yl2 : Int) ∧ ((st : Int) == 2) = false) := by
                  by_cases h : k < yl2
                  · exact .inr ⟨by omega, by simp; intro e; exact hx ⟨h, by omega⟩⟩
                  · exact .inl (by omega)
                clear hx hk
                go_upto_region 36 with fail
                go_cut [215] (fun v215 wx => v215 = .bool false ∧ EnX w0 wx ⟨c9, nd, inc8, cnt8, 0, q8, p9, g8, d8, b8, s8, pre8, rs8, m8, T8, .slice none 0 0, []⟩ [(.slice Ay2 yl2 cy2, yes'), (.slice Ar2 rl2 cr2, read'), (.slice Ac3 L5 cc3, com ++ toL os8 5), (.slice Aa3 L6 ca3, abo ++ toL os8 6)] [(wv.heap.size, .cells #[.int .i64 xn, .int .i64 xk, .bool xp] 40 (0, 0))])
                case first =>
                  rcases hx2 with hx3 | ⟨hx3, hx4⟩
                  all_goals
                    go_wp2_with fail
                    go_meet
                    exact ⟨rfl, HEA.out⟩
                case rest =>
                  obtain ⟨WB, hWB, h215, heB⟩ := exW hcut
                  subst hWB h215
                  clear hcut hx2 c0 c1 c2 z0 z1 z2
                  obtain ⟨c0, c1, c2⟩ := HXB.out _ heB.bel
                  obtain ⟨z0, z1, z2⟩ := HCL.out _ _ _ heB
                  have HEB := Lib.hid heB
                  clear heB
                  have hi1 := HLE.out.2.2.2.2.2.2.2.2.2.1
                  have HNX : Hid (∀ (v14 v15 : Value) (W : World) (S' : CoS) (ks' : List Rk), v14 = .bool no' → v15 = .int .i64 ((i + 1 : Nat) : Int) → EnX w0 W S' [(.slice Ay2 yl2 cy2, yes'), (.slice Ar2 rl2 cr2, read'), (.slice Ac3 L5 cc3, com ++ toL os8 5), (.slice Aa3 L6 ca3, abo ++ toL os8 6)] [] → S'.node = nd → S'.tks = 0 → S'.os = [] → LogS S' ks' T8' (i + 1 + 1) → Ph nd ns S'.T T8' yes' read' (com ++ toL os8 5) (abo ++ toL os8 6) no' → DcL w0 nd ns (.pointer (some ⟨S'.p, 0, none⟩)) (.pointer (some ⟨S'.c, 0, none⟩)) (.int .i64 0) (.slice Ay2 yl2 cy2) (.slice Ar2 rl2 cr2) (.slice Ac3 L5 cc3) (.slice Aa3 L6 ca3) v14 v15 W) := Lib.hid fun v14 v15 W S' ks' h14 h15 h1 h2 h3 h4 h5 h6 => ⟨i + 1, S', ks', T8', yes', read', com ++ toL os8 5, abo ++ toL os8 6, no', h15, by omega, rfl, rfl, rfl, h14, h1, h2, h3, h4, h5, by rw [HL2.out.1]; exact HL2.out.2.2.1, by rw [HL2.out.2.1]; exact HL2.out.2.2.2.1, HC1.out.1, HC1.out.2, h6⟩
                  have HP0 : Hid (LogS ⟨c9, nd, inc8, cnt8, 0, q8, p9, g8, d8, b8, s8, pre8, rs8, m8, T8, .slice none 0 0, []⟩ ks8 T8' (i + 1)) := Lib.hid ⟨HL8.out.b, HL8.out.rs, HL8.out.ok, HL8.out.few, HL8.out.red, HL8.out.s⟩
                  cases xp with
                  | false =>
                    have HNY := Lib.hid (fun v14 v15 h14 h15 => HNX.out v14 v15 _ _ ks8 h14 h15 HEB.out.plain rfl rfl rfl (HP0.out.more (Nat.le_succ _)) HPH.out)
                    clear hi1
                    as_aux_lemma =>
                      go_wp2_with fail
                      go_roundw
                      case rel => first | exact HNY.out _ _ rfl (by go_num) | ((repeat apply Exists.intro); exact ⟨HNY.out _ _ rfl (by go_num), rfl⟩)
                      case measure => simp [intOf]; omega
                  | true =>
                    have hb9 := HP0.out.b
                    have hrs9 := HP0.out.rs
                    have hs9 := HP0.out.s
                    simp only at hb9 hrs9 hs9
                    rw [hrs9, hb9] at hs9
                    have HSE := Lib.hid hs9
                    have HPW : Hid (Calls Try.prog 18 #[.pointer (some ⟨p9, 0, none⟩), .int .i64 keep] WB (PwS WB 0 s8 (bytesOf (ks8.map Rk.b)))) := Lib.hid (by
                      have h4 := HEB.out.co.log.disk
                      simp only at h4
                      rw [hrs9, hb9] at h4
                      exact power_at h4 keep HKP.out 0 s8 (by rw [show 0 + (bytesOf (ks8.map Rk.b)).length - s8 + 1 = 1 by omega, pickZ_one]) (Nat.add_zero _).symm _ (by rw [List.take_of_length_le (by omega)]))
                    have HKL : Hid (ks8.length ≤ 100) := Lib.hid (by have := HP0.out.few; have := HPH.out.one; omega)
                    have HIM : Hid (i + 1 ≤ 1000) := Lib.hid (by omega)
                    obtain ⟨sp, hsp⟩ : ∃ sp, stN T8' nd = sp := ⟨_, rfl⟩
                    have HSP := Lib.hid hsp
                    have hway : (((st : Int) == 2) = true ∧ 2 = sp) ∨ (((st : Int) == 2) = false ∧ 0 = sp ∧ ¬ (st : Int) = 2) := by
                      rcases HST2.out with ⟨h1, h2, _⟩ | ⟨h1, h2⟩
                      · rw [hsp] at h2
                        exact .inl ⟨by simp; omega, h2.symm⟩
                      · rw [hsp] at h2
                        exact .inr ⟨by simp; omega, h2.symm, by omega⟩
                    clear hb9 hrs9 hs9 hsp hi1
                    rcases hway with ⟨g1, g2⟩ | ⟨g1, g2, g3⟩
                    all_goals
                      subst g2
                      as_aux_lemma =>
                        go_wp2_with (first
                          | (go_at_call 11; refine HSZ.out.mono ?_; rintro e w7 ⟨rfl, rfl⟩)
                          | (go_at_call 7; refine (Open13_any (ks := ks8) (b := 0) (E := s8) HD5.out HSE.out HB5.out.size HP0.out.ok HKL.out (by omega) HND.out).mono ?_; rintro e w6 ⟨S6, rfl, hc6, hn6, hi6, hcn6, ht6, hT6, hv6, hos6, hp6, hb6, hrs6, hs6, hO6⟩
                             obtain ⟨c6, node6, inc6, cnt6, tks6, q6, p6, g6, d6, b6, s6, pre6, rs6, m6, T6, ov6, os6⟩ := S6
                             simp only at hn6 hi6 hcn6 ht6 hT6 hv6 hos6 hp6 hb6 hrs6 hs6
                             have hn7 := hn6.symm
                             have hT0 : T8' = T6 := by rw [hT6, HP0.out.red]
                             have hp7 := hp6.symm
                             clear hn6 hT6 hp6
                             subst hn7 hp7 hT0 ht6 hos6 hv6
                             have hge := HD5.out.ge
                             have HE6 := Lib.hid (HEB.out.opened HB5.out hge.1 hge.2 hc6 hO6)
                             have HSZ := Lib.hid (state_any HE6.out.co (x := nd) (by have := HND.out; unfold i64ok; omega))
                             simp only [HSP.out] at HSZ
                             have HLN := Lib.hid (HP0.out.opened (S' := ⟨c6, nd, inc6, cnt6, 0, q6, p5, g6, d6, b6, s6, pre6, rs6, m6, T8', .slice none 0 0, []⟩) HIM.out HPH.out.one hi6 hb6 hrs6 hs6)
                             clear hc6 hi6 hcn6 hb6 hrs6 hs6 hO6 hge)
                          | (go_at_call 18; refine HPW.out.mono ?_; rintro e w5 ⟨p5, g5, rfl, hd5, hb5⟩
                             have HD5 := Lib.hid hd5
                             have HB5 := Lib.hid hb5
                             clear hd5 hb5))
                        all_goals
                          go_roundw
                          case rel => first | exact HNX.out _ _ _ _ _ rfl (by go_num) HE6.out rfl rfl rfl HLN.out HPH.out.opened | ((repeat apply Exists.intro); exact ⟨HNX.out _ _ _ _ _ rfl (by go_num) HE6.out rfl rfl rfl HLN.out HPH.out.opened, rfl⟩)
                          case measure => simp [intOf]; omega
    · have hx2 : (¬ (i : Int) < (vn : Int)) ∨ ((i : Int) < (vn : Int) ∧ ¬ (i : Int) < 60) := by omega
      clear hx hi hen hlg hyl hrl hcl hal hyle hrle hcle hale hcy hcr hcc hca hph
      rcases hx2 with hx3 | ⟨hx3, hx4⟩
      all_goals
        go_wp2_with (go_at_call 8; refine (alive13_any _).mono ?_; rintro e wz ⟨rfl, hb⟩
                     have HE := Lib.hid (HEN.out.bel.trans (hb.mono (Below.size HEN.out.bel)))
                     clear hb)
        go_ret
        exact ⟨rfl, HBW.out.trans (HE.out.mono HBW.out.size)⟩
end Go.Proofs.Ytogogekmodbdiaa

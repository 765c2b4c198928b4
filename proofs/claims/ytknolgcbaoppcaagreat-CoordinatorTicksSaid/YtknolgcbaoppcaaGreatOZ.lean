/- Package coordinator: Pending. -/
import Derived.Test.YtknolgcbaoppcaaGreatOW
import Derived.Test.YtknolgcbaoppcaaGreatZK
import Derived.Lib.SlKeysI
import Derived.Test.YtknolgcbaoppcaaGreatShelf
namespace Go.Proofs.YtknolgcbaoppcaaGreat
open Go.RowKit Go.Maps Go.Sort Go.Shelf

/-- the numbers of transactions, the least one first -/
def numsT (T : List Te) : List Int := (T.map fun e => (e.n : Int)).mergeSort fun x y => decide (x ≤ y)
theorem numsT_len (T : List Te) : (numsT T).length = T.length := by simp [numsT]
theorem RepT.sorted {D : DataW Unit} {T : List Te} (h : RepT D T) {P : Program} {k : TypeId} {w : World} {b n : Nat} (hown : w.ownsMap P k trE b n D) (K : Keyed P k) (hk : P.underlying k = some (.int .i64)) {ss : List Int} (hp : ss.Perm (intKeys D)) : ss.mergeSort (fun x y => decide (x ≤ y)) = numsT T := by
  obtain ⟨es, hD, hpw, _⟩ := hown.entries K
  obtain ⟨es', hD', hko⟩ := hown.keysOf
  obtain rfl : es = es' := by rw [hD] at hD'; simpa using hD'
  subst hD
  have h1 : (T.map fun e => (e.n : Int)).Perm (intKeys (.map es)) := perm_intKeys hpw (fun p hp => by obtain ⟨v, hv⟩ := hko p hp; obtain ⟨x, _, hx, _⟩ := Maps.keyOf_i64 hk hv; exact ⟨x, hx⟩) (by
    unfold List.Nodup
    rw [List.pairwise_map]
    exact h.one.imp fun h e => h (by omega)) fun x => by
    rw [h.has x]
    simp only [List.mem_map]
  exact mergeSort_of_perm_i (hp.trans h1.symm)
/-- slices.Sort's two contracts here -/
theorem sortsA (m : Nat) : AnyZI.SortsIn Tryz.prog Tryz.sortedA_ren Fence.wide m :=
  ⟨fun blk off cap ss W hH hblk hsz => callsIn_wide.2 (AnyM.slices_Sort_int Tryz.sortA blk off cap ss W hH hblk hsz),
   fun p cap W => callsIn_wide.2 (AnyM.slices_Sort_int_none Tryz.sortA p cap W)⟩
theorem intsZ_encZ (l : List Int) : l.map encZ = intsZ l := rfl
set_option maxRecDepth 100000 in
set_option maxHeartbeats 4000000 in
theorem pending_any {w : World} {B : Nat} {S : CoS} (h : Co w B S) (hT : S.T.length < 1000) : Calls Tryz.prog 17 #[.pointer (some ⟨S.c, 0, none⟩)] w (fun e w' => ∃ v, e = .returned v ∧ OwnI w' w.heap.size v (numsT S.T) ∧ Below w.heap.size w w') := by
  obtain ⟨D0, hown, hRep⟩ := h.map
  have hsz := hRep.size
  have hmax : Maps.size D0 ≤ maxLen := by unfold maxLen; omega
  have hbytes : Maps.size D0 * 8 ≤ 140737488355328 := by omega
  obtain ⟨_, _, _, _, _, c5, _⟩ := box7_ h.box
  have hcl := closed_any h
  refine (callsIn_wide (n := 6)).1 ?_
  have cC := (callsIn_wide (n := 5)).2 hcl
  have hbl := hown.lt
  have hseq : SeqGives Fence.wide 2 Tryz.prog 52 #[.pointer (some ⟨w.heap.size, 0, none⟩)] encZ (fun ss => ss.Perm (intKeys D0)) (Maps.size D0) (w.alloc (.cells #[.map (some S.m)] 55)) :=
    AnyZI.keys_gives (ρ := Tryz.keysA_ren) { Tryz.keysA with } Fence.wide _ trivial rfl (by omega) w.heap.size S.m S.T.length D0 _ (by simp) (by simp) (by
      obtain ⟨es, clock, hb, Ft, hs, hD⟩ := hown
      exact ⟨es, clock, (Below.heap_alloc _ _ S.m hbl).trans hb, Ft, hs, hD⟩)
  have cK : ∀ mb W, CallsIn Fence.wide 5 Tryz.prog 33 #[.map mb] W fun e w' => e = .returned (.func (.func 52) #[] #[.pointer (some ⟨W.heap.size, 0, none⟩)]) ∧ w' = W.alloc (.cells #[.map mb] 55) := fun mb W => AnyZI.keys_in Tryz.keysA Fence.wide 5 trivial rfl mb W
  have cS := AnyZI.sorted_in Tryz.sortedA Fence.wide 5 trivial trivial trivial trivial rfl (by omega) (sortsA _) (enters_of Tryz.func51 (by kernel_rfl) rfl) 52 #[.pointer (some ⟨w.heap.size, 0, none⟩)] trivial (enters_of Tryz.func52 (by kernel_rfl) rfl) _ _ hmax hbytes _ hseq
  change CallsIn _ _ Tryz.prog 32 _ _ _ at cS
  have hfK : Fence.wide.fn 33 := trivial
  have hfS : Fence.wide.fn 32 := trivial
  have hfC : Fence.wide.fn 22 := trivial
  have HF : Hid (∀ ss : List Int, ss.Perm (intKeys D0) → ss.mergeSort (fun x y => decide (x ≤ y)) = numsT S.T) := Lib.hid fun ss hp => hRep.sorted hown lawKT Tryz.underlying3 hp
  clear h hRep hsz hmax hbytes hseq hown hcl hT
  refine callsIn_of_wp Tryz.func17 rfl trivial ?_ rfl
  simp only [Tryz.ntmps17, List.size_toArray, List.length_cons, List.length_nil, Nat.reduceAdd, Nat.reduceSub, Array.replicate_succ, Array.replicate_zero, List.push_toArray, List.append_toArray, List.nil_append, List.cons_append]
  gi_wp2_with (first
    | (gi_at_call 22; refine cC.mono ?_; rintro e w' ⟨rfl, rfl⟩)
    | (gi_at_call 33; refine (cK _ _).mono ?_; rintro e w' ⟨rfl, rfl⟩)
    | (gi_at_call 32; refine cS.mono ?_; rintro e w' ⟨v, ss, rfl, hS, hrow, hnil, hb⟩))
  go_ret
  have h1 := HF.out ss hS
  rw [h1, intsZ_encZ] at hrow
  refine ⟨v, rfl, (OwnI.of_row hrow).low (by simp), ((Below.refl _ w).alloc (Nat.le_refl _) _).trans (hb.mono (by simp))⟩
end Go.Proofs.YtknolgcbaoppcaaGreat

/- Package table: a page's cut; what lies in a range. -/
import Derived.Test.YtfmhijaljlmgaaaPO
namespace Go.Proofs.Ytfmhijaljlmgaaa
open Go.RowKit

/-- does an entry lie in a range? -/
def inR (from_ to_ : List UInt8) (e : Ent) : Bool := decide (0 ≤ cmpB e.k from_) && (to_.isEmpty || decide (cmpB e.k to_ < 0))
def rangeL (from_ to_ : List UInt8) (L : List Ent) : List Ent := L.filter (inR from_ to_)
theorem range_app (f t : List UInt8) (A B : List Ent) : rangeL f t (A ++ B) = rangeL f t A ++ rangeL f t B := by simp [rangeL]
/-- where the range of a page ends -/
def endOf (to_ : List UInt8) (es : List Ent) (b : Nat) : Nat := if to_.isEmpty then es.length else b
theorem range_none {f t : List UInt8} {L : List Ent} (h : ∀ e ∈ L, inR f t e = false) : rangeL f t L = [] := by
  unfold rangeL
  rw [List.filter_eq_nil_iff]
  intro e he
  rw [h e he]
  simp
theorem range_all {f t : List UInt8} {L : List Ent} (h : ∀ e ∈ L, inR f t e = true) : rangeL f t L = L := by
  unfold rangeL
  rw [List.filter_eq_self]
  exact h
/-- the range of a page by its two places -/
theorem range_cut {f t : List UInt8} {es : List Ent} {a b : Nat} (ha : SplitB es f a) (hb : SplitB es t b) : rangeL f t es = (es.drop a).take (max a (endOf t es b) - a) := by
  have e1 : es = es.take a ++ ((es.drop a).take (max a (endOf t es b) - a) ++ (es.drop a).drop (max a (endOf t es b) - a)) := by rw [List.take_append_drop, List.take_append_drop]
  have h1 : rangeL f t (es.take a) = [] := range_none fun e he => by
    obtain ⟨j, hj⟩ := List.mem_iff_getElem?.1 he
    rw [List.getElem?_take] at hj
    split at hj
    · have := ha.lo j e hj (by omega)
      unfold inR
      rw [decide_eq_false (by omega)]; rfl
    · cases hj
  have h2 : rangeL f t ((es.drop a).take (max a (endOf t es b) - a)) = (es.drop a).take (max a (endOf t es b) - a) := range_all fun e he => by
    obtain ⟨j, hj⟩ := List.mem_iff_getElem?.1 he
    rw [List.getElem?_take] at hj
    split at hj
    · rename_i hjl
      rw [List.getElem?_drop] at hj
      have h3 := ha.hi _ e hj (by omega)
      unfold inR
      rw [decide_eq_true h3, Bool.true_and]
      cases hte : t.isEmpty with
      | true => rfl
      | false =>
        have h4 : endOf t es b = b := by unfold endOf; rw [hte]; rfl
        rw [h4] at hjl
        have := hb.lo _ e hj (by omega)
        simp [this]
    · cases hj
  have h5 : rangeL f t ((es.drop a).drop (max a (endOf t es b) - a)) = [] := range_none fun e he => by
    obtain ⟨j, hj⟩ := List.mem_iff_getElem?.1 he
    rw [List.getElem?_drop, List.getElem?_drop] at hj
    have hlt := (List.getElem?_eq_some_iff.1 hj).1
    cases hte : t.isEmpty with
    | true =>
      have h4 : endOf t es b = es.length := by unfold endOf; rw [hte]; rfl
      rw [h4] at hlt
      omega
    | false =>
      have h4 : endOf t es b = b := by unfold endOf; rw [hte]; rfl
      rw [h4] at hj
      have := hb.hi _ e hj (by omega)
      unfold inR
      rw [hte, decide_eq_false (by omega : ¬ cmpB e.k t < 0)]
      simp
  have h6 : rangeL f t (es.take a ++ ((es.drop a).take (max a (endOf t es b) - a) ++ (es.drop a).drop (max a (endOf t es b) - a))) = (es.drop a).take (max a (endOf t es b) - a) := by rw [range_app, range_app, h1, h2, h5, List.nil_append, List.append_nil]
  rw [← e1] at h6
  exact h6
/-- what cut answers -/
def CuT (w : World) (A0 : Option Addr) (es l : List Ent) (en : Ending) (w' : World) : Prop := ∃ A a, en = .returned (.slice A l.length l.length) ∧ RdE w' A l ∧ l = (es.drop a).take l.length ∧ (l ≠ [] → A = A0.map fun x => x.add (a * 2)) ∧ Below w.heap.size w w'
theorem RdE.part {w : World} {A : Option Addr} {es : List Ent} (h : RdE w A es) {a m : Nat} {A' : Option Addr} (hA : (es.drop a).take m ≠ [] → A' = A.map fun x => x.add (a * 2)) : RdE w A' ((es.drop a).take m) := by
  refine ⟨fun hn => ?_, fun e he => h.ok e (List.mem_of_mem_drop (List.mem_of_mem_take he))⟩
  have hne : (es.drop a).take m ≠ [] := fun e => hn (by rw [e]; rfl)
  have hes : entV es ≠ [] := fun e => by
    have e2 := congrArg List.length e
    rw [entV_len] at e2
    have e3 : es = [] := List.length_eq_zero_iff.1 (by simp only [List.length_nil] at e2; omega)
    rw [e3] at hne
    simp at hne
  obtain ⟨b, o, e1, hlt, hc⟩ := h.cells hes
  refine ⟨b, o + a * 2, by rw [hA hne, e1, Option.map_some, Addr.add_lit], hlt, fun j u hj => ?_⟩
  rw [← entV_take, ← entV_drop, List.getElem?_take] at hj
  split at hj
  · rw [List.getElem?_drop] at hj
    rw [Nat.add_assoc]
    exact hc _ u hj
  · cases hj
set_option maxRecDepth 100000 in
set_option maxHeartbeats 4000000 in
theorem cut_any (es : List Ent) (hr : Rise es) (f t : List UInt8) (A F T : Option Addr) (cap fn fc tn tc : Nat) (hfn : f.length = fn) (htn : t.length = tn) (hcap : es.length ≤ cap) (w : World) (hl : es.length ≤ 1000) (hrd : RdE w A es) (hf : RdB w w.heap.size F f) (ht : RdB w w.heap.size T t) :
    Calls Try.prog 39 #[.slice A es.length cap, .slice F fn fc, .slice T tn tc] w (CuT w A es (rangeL f t es)) := by
  obtain ⟨a, ha⟩ := split_ex es hr f
  obtain ⟨b, hb⟩ := split_ex es hr t
  have HF := Lib.hid (pageFind_any es f a ha A F es.length cap fn fc rfl hfn w (by omega) hrd hf)
  have HT : Hid (∀ W, Below w.heap.size w W → Calls Try.prog 31 #[.slice A es.length cap, .slice T tn tc] W (Ans (.tuple #[.int .i64 (b : Int), .bool (hasAt es b t)]) W)) := Lib.hid fun W hbw => pageFind_any es t b hb A T es.length cap tn tc rfl htn W (by omega) (hrd.below hbw) ((ht.below hbw (Nat.le_refl _)).more hbw.size)
  have hrc := range_cut ha hb
  have hal := ha.le
  have hbl := hb.le
  obtain ⟨hA1, hhA⟩ : ∃ x, x = hasAt es a f := ⟨_, rfl⟩
  obtain ⟨hB1, hhB⟩ : ∃ x, x = hasAt es b t := ⟨_, rfl⟩
  rw [← hhA] at HF
  rw [← hhB] at HT
  clear hhA hhB
  have hni : (es.length : Int) ≤ 1000 := by omega
  have hai : (a : Int) ≤ (es.length : Int) := by omega
  have hbi : (b : Int) ≤ (es.length : Int) := by omega
  have hci : (es.length : Int) ≤ (cap : Int) := by omega
  have HY : Hid (∀ w' (x m : Nat) A', x = endOf t es b → m = max a x - a → (m ≠ 0 → A' = A.map fun x => x.add (a * 2)) → Below w.heap.size w w' → CuT w A es (rangeL f t es) (.returned (.slice A' m m)) w') := Lib.hid fun w' x m A' hx hm hA' hbw => by
    subst hx
    rw [hrc, ← hm]
    have hml : ((es.drop a).take m).length = m := by
      rw [List.length_take, List.length_drop]
      have : endOf t es b ≤ es.length := by unfold endOf; split <;> omega
      omega
    exact ⟨A', a, by rw [hml], (hrd.below hbw).part (fun hne => hA' (fun e => hne (List.length_eq_zero_iff.1 (by rw [hml]; exact e)))), by rw [hml], fun hne => hA' (fun e => hne (List.length_eq_zero_iff.1 (by rw [hml]; exact e))), hbw⟩
  cases hte : t.isEmpty with
  | true =>
    have htn0 : tn = 0 := by rw [← htn]; simpa using hte
    have he : endOf t es b = es.length := by unfold endOf; rw [hte]; rfl
    subst htn0
    have HE := Lib.hid he
    clear hr hf ht hrd ha hb hrc hte he HT hfn htn
    go_enter Try.func39, Try.ntmps39
    go_wp2_with (go_at_call 31; refine HF.out.mono ?_; rintro e w1 ⟨rfl, hb⟩; have HB1 := Lib.hid hb; clear hb)
    all_goals
      go_ret
      first
        | exact HY.out _ _ _ _ HE.out.symm (by omega) (fun hm => by first | rfl | (exfalso; omega)) HB1.out
        | (exfalso; simp_all; omega)
  | false =>
    have htn0 : 0 < tn := by
      rw [← htn]
      rcases t with _ | ⟨y, t⟩
      · simp at hte
      · simp
    have hti : (0 : Int) < (tn : Int) := by omega
    have he : endOf t es b = b := by unfold endOf; rw [hte]; rfl
    have HE := Lib.hid he
    clear hr hf ht hrd ha hb hrc hte he hfn htn
    go_enter Try.func39, Try.ntmps39
    go_wp2_with (first
      | (go_at_call 31; (with_reducible refine HF.out.mono ?_); rintro e w1 ⟨rfl, hb⟩; have HB1 := Lib.hid hb; clear hb)
      | (go_at_call 31; (with_reducible refine (HT.out _ HB1.out).mono ?_); rintro e w2 ⟨rfl, hb⟩; have HB2 := Lib.hid (HB1.out.trans (hb.mono HB1.out.size)); clear hb))
    all_goals
      go_ret
      first
        | exact HY.out _ _ _ _ HE.out.symm (by omega) (fun hm => by first | rfl | (exfalso; omega)) HB2.out
        | (exfalso; simp_all; omega)
end Go.Proofs.Ytfmhijaljlmgaaa

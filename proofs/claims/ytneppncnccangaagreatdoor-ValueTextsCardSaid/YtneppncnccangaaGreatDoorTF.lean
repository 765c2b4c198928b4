/- The document's guess: what texts of right values look like. -/
import Derived.Test.YtneppncnccangaaGreatDoorTE
namespace Go.Proofs.YtneppncnccangaaGreatDoor
open Go.RowKit

def s_null : ByteArray := ⟨#[110, 117, 108, 108]⟩
def s_false : ByteArray := ⟨#[102, 97, 108, 115, 101]⟩
def s_true : ByteArray := ⟨#[116, 114, 117, 101]⟩
/-- what guess answers: some value; the right one where its text stands there -/
def GuT (w : World) (s : ByteArray) (e : Ending) (w' : World) : Prop := Below w.heap.size w w' ∧ ∃ x : Val, e = .returned (.agg #[.int .i64 x.k, .int .i64 x.n, .string x.s]) ∧ x.ok ∧ x.s.size ≤ 1000 ∧ ∀ v : Val, v.ok → rightB v = true → textS v = s → x = v
/-- a right value's text, by kind -/
def Shape (v : Val) (L : List UInt8) : Prop := (v = ⟨0, 0, ⟨#[]⟩⟩ ∧ L = s_null.data.toList) ∨ (v = ⟨1, 0, ⟨#[]⟩⟩ ∧ L = s_false.data.toList) ∨ (v = ⟨1, 1, ⟨#[]⟩⟩ ∧ L = s_true.data.toList) ∨ (∃ n, v = ⟨2, n, ⟨#[]⟩⟩ ∧ i64ok n ∧ L = signL n ++ Lib.decDigits n.natAbs) ∨
  (∃ n, v = ⟨3, n, ⟨#[]⟩⟩ ∧ i64ok n ∧ L = signL n ++ Lib.decDigits (n.natAbs / 10000) ++ (46 :: padD 4 (n.natAbs % 10000))) ∨ (∃ q, v = ⟨4, 0, q⟩ ∧ L = 39 :: (dbl q.data.toList ++ [39])) ∨ (∃ q, v = ⟨5, 0, q⟩ ∧ L = 120 :: 39 :: (hexL q.data.toList ++ [39]))
theorem shape_of {v : Val} {s : ByteArray} (hok : v.ok) (hr : rightB v = true) (h : textS v = s) : Shape v s.data.toList := by
  have hc := Val.R.cases (x := v) ⟨hr, hok⟩
  obtain ⟨k, n, q⟩ := v
  subst h
  simp only at hc
  rcases hc with ⟨rfl, rfl, rfl⟩ | ⟨rfl, hn, rfl⟩ | ⟨hk, rfl, hn⟩ | ⟨hk, rfl, hs⟩
  · exact .inl ⟨rfl, rfl⟩
  · rcases hn with rfl | rfl
    · exact .inr (.inl ⟨rfl, rfl⟩)
    · exact .inr (.inr (.inl ⟨rfl, rfl⟩))
  · rcases hk with rfl | rfl
    · refine .inr (.inr (.inr (.inl ⟨n, rfl, hn, ?_⟩)))
      unfold textS
      rw [if_neg (by rw [hr]; decide), if_neg (by simp), if_neg (by simp), if_pos rfl, bapp]
      rfl
    · refine .inr (.inr (.inr (.inr (.inl ⟨n, rfl, hn, ?_⟩))))
      unfold textS
      rw [if_neg (by rw [hr]; decide), if_neg (by simp), if_neg (by simp), if_neg (by simp), if_pos rfl, bapp, bapp, bapp]
      rfl
  · rcases hk with rfl | rfl
    · refine .inr (.inr (.inr (.inr (.inr (.inl ⟨q, rfl, ?_⟩)))))
      unfold textS
      rw [if_neg (by rw [hr]; decide), if_neg (by simp), if_neg (by simp), if_neg (by simp), if_neg (by simp), if_pos rfl, bapp, bapp]
      rfl
    · refine .inr (.inr (.inr (.inr (.inr (.inr ⟨q, rfl, ?_⟩)))))
      unfold textS
      rw [if_neg (by rw [hr]; decide), if_neg (by simp), if_neg (by simp), if_neg (by simp), if_neg (by simp), if_neg (by simp), bapp, bapp]
      rfl
theorem num_first (n : Int) (D m : List UInt8) (h0 : D ≠ []) (hf : figs D) : ∃ c r, signL n ++ D ++ m = c :: r ∧ (c = 45 ∨ 48 ≤ c.toNat ∧ c.toNat ≤ 57) := sign_head n D h0 hf m
/-- a text that begins with an x, or a quote, or with neither -/
theorem shape_x {v : Val} {r : List UInt8} (h : Shape v (120 :: r)) : ∃ q, v = ⟨5, 0, q⟩ ∧ r = 39 :: (hexL q.data.toList ++ [39]) := by
  rcases h with ⟨_, h⟩ | ⟨_, h⟩ | ⟨_, h⟩ | ⟨n, _, _, h⟩ | ⟨n, _, _, h⟩ | ⟨q, _, h⟩ | ⟨q, hv, h⟩
  · exact absurd h (by simp [s_null])
  · exact absurd h (by simp [s_false])
  · exact absurd h (by simp [s_true])
  · obtain ⟨c, r2, e, hc⟩ := num_first n _ [] (dec_ne n.natAbs) (figs_dec _)
    rw [List.append_nil, ← h] at e
    injection e with e1 _
    subst e1
    exact absurd hc (by decide)
  · obtain ⟨c, r2, e, hc⟩ := num_first n _ (46 :: padD 4 (n.natAbs % 10000)) (dec_ne (n.natAbs / 10000)) (figs_dec _)
    rw [← h] at e
    injection e with e1 _
    subst e1
    exact absurd hc (by decide)
  · injection h with e1 _
    exact absurd e1 (by decide)
  · injection h with _ e2
    exact ⟨q, hv, e2⟩
theorem shape_q {v : Val} {r : List UInt8} (h : Shape v (39 :: r)) : ∃ q, v = ⟨4, 0, q⟩ ∧ r = dbl q.data.toList ++ [39] := by
  rcases h with ⟨_, h⟩ | ⟨_, h⟩ | ⟨_, h⟩ | ⟨n, _, _, h⟩ | ⟨n, _, _, h⟩ | ⟨q, hv, h⟩ | ⟨q, _, h⟩
  · exact absurd h (by simp [s_null])
  · exact absurd h (by simp [s_false])
  · exact absurd h (by simp [s_true])
  · obtain ⟨c, r2, e, hc⟩ := num_first n _ [] (dec_ne n.natAbs) (figs_dec _)
    rw [List.append_nil, ← h] at e
    injection e with e1 _
    subst e1
    exact absurd hc (by decide)
  · obtain ⟨c, r2, e, hc⟩ := num_first n _ (46 :: padD 4 (n.natAbs % 10000)) (dec_ne (n.natAbs / 10000)) (figs_dec _)
    rw [← h] at e
    injection e with e1 _
    subst e1
    exact absurd hc (by decide)
  · injection h with _ e2
    exact ⟨q, hv, e2⟩
  · injection h with e1 _
    exact absurd e1 (by decide)
/-- what is a number's text: with a point, or without -/
def NumSh (neg : Bool) (t : List UInt8) (v : Val) : Prop := ∃ n, i64ok n ∧ (neg = true ↔ n < 0) ∧ ((v = ⟨2, n, ⟨#[]⟩⟩ ∧ t = Lib.decDigits n.natAbs) ∨ (v = ⟨3, n, ⟨#[]⟩⟩ ∧ t = Lib.decDigits (n.natAbs / 10000) ++ (46 :: padD 4 (n.natAbs % 10000))))
theorem dec_first (u : Nat) (m : List UInt8) : ∃ c r, Lib.decDigits u ++ m = c :: r ∧ c ≠ 45 := by
  have h := figs_dec u
  rcases hd : Lib.decDigits u with _ | ⟨c, r⟩
  · exact absurd hd (dec_ne u)
  · rw [hd] at h
    refine ⟨c, r ++ m, rfl, fun e => ?_⟩
    have := h c (by simp)
    rw [e] at this
    exact absurd this.1 (by decide)
theorem shape_minus {v : Val} {r : List UInt8} (h : Shape v (45 :: r)) : NumSh true r v := by
  rcases h with ⟨_, h⟩ | ⟨_, h⟩ | ⟨_, h⟩ | ⟨n, hv, hn, h⟩ | ⟨n, hv, hn, h⟩ | ⟨q, _, h⟩ | ⟨q, _, h⟩
  · exact absurd h (by simp [s_null])
  · exact absurd h (by simp [s_false])
  · exact absurd h (by simp [s_true])
  · refine ⟨n, hn, ?_, .inl ⟨hv, ?_⟩⟩
    · constructor
      · intro _
        refine Decidable.byContradiction fun hlt => ?_
        obtain ⟨c, r2, e, hc⟩ := dec_first n.natAbs []
        rw [List.append_nil] at e
        have : signL n = [] := by unfold signL; rw [if_neg hlt]
        rw [this, List.nil_append, e] at h
        injection h with e1 _
        exact hc e1.symm
      · intro _; rfl
    · by_cases hlt : n < 0
      · have : signL n = [45] := by unfold signL; rw [if_pos hlt]
        rw [this] at h
        injection h
      · exfalso
        obtain ⟨c, r2, e, hc⟩ := dec_first n.natAbs []
        rw [List.append_nil] at e
        have : signL n = [] := by unfold signL; rw [if_neg hlt]
        rw [this, List.nil_append, e] at h
        injection h with e1 _
        exact hc e1.symm
  · refine ⟨n, hn, ?_, .inr ⟨hv, ?_⟩⟩
    · constructor
      · intro _
        refine Decidable.byContradiction fun hlt => ?_
        obtain ⟨c, r2, e, hc⟩ := dec_first (n.natAbs / 10000) (46 :: padD 4 (n.natAbs % 10000))
        have : signL n = [] := by unfold signL; rw [if_neg hlt]
        rw [this, List.nil_append, e] at h
        injection h with e1 _
        exact hc e1.symm
      · intro _; rfl
    · by_cases hlt : n < 0
      · have : signL n = [45] := by unfold signL; rw [if_pos hlt]
        rw [this, List.append_assoc] at h
        injection h
      · exfalso
        obtain ⟨c, r2, e, hc⟩ := dec_first (n.natAbs / 10000) (46 :: padD 4 (n.natAbs % 10000))
        have : signL n = [] := by unfold signL; rw [if_neg hlt]
        rw [this, List.nil_append, e] at h
        injection h with e1 _
        exact hc e1.symm
  · injection h with e1 _
    exact absurd e1 (by decide)
  · injection h with e1 _
    exact absurd e1 (by decide)
theorem shape_num {v : Val} {L : List UInt8} (h : Shape v L) (h0 : L ≠ s_null.data.toList) (h1 : L ≠ s_false.data.toList) (h2 : L ≠ s_true.data.toList) (hm : L.head? ≠ some 45) (hx : ¬ (2 < L.length ∧ L.head? = some 120)) (hq : ¬ (1 < L.length ∧ L.head? = some 39)) : NumSh false L v := by
  rcases h with ⟨_, h⟩ | ⟨_, h⟩ | ⟨_, h⟩ | ⟨n, hv, hn, h⟩ | ⟨n, hv, hn, h⟩ | ⟨q, _, h⟩ | ⟨q, _, h⟩
  · exact absurd h h0
  · exact absurd h h1
  · exact absurd h h2
  · have hs : signL n = [] ∧ ¬ n < 0 := by
      by_cases hlt : n < 0
      · exfalso
        have : signL n = [45] := by unfold signL; rw [if_pos hlt]
        rw [h, this] at hm
        exact hm rfl
      · exact ⟨by unfold signL; rw [if_neg hlt], hlt⟩
    refine ⟨n, hn, ⟨fun e => by simp at e, fun e => absurd e hs.2⟩, .inl ⟨hv, ?_⟩⟩
    rw [h, hs.1, List.nil_append]
  · have hs : signL n = [] ∧ ¬ n < 0 := by
      by_cases hlt : n < 0
      · exfalso
        have : signL n = [45] := by unfold signL; rw [if_pos hlt]
        rw [h, this] at hm
        exact hm rfl
      · exact ⟨by unfold signL; rw [if_neg hlt], hlt⟩
    refine ⟨n, hn, ⟨fun e => by simp at e, fun e => absurd e hs.2⟩, .inr ⟨hv, ?_⟩⟩
    rw [h, hs.1, List.nil_append]
  · refine absurd ⟨?_, ?_⟩ hq
    · rw [h]; simp
    · rw [h]; rfl
  · refine absurd ⟨?_, ?_⟩ hx
    · rw [h]; simp
    · rw [h]; rfl
/-- without a point -/
theorem num_plain {neg : Bool} {t : List UInt8} {v : Val} (h : NumSh neg t v) (hd : ¬ (5 < t.length ∧ t[t.length - 5]? = some 46)) : ∃ n, v = ⟨2, n, ⟨#[]⟩⟩ ∧ i64ok n ∧ (neg = true ↔ n < 0) ∧ t ≠ [] ∧ figs t ∧ spell 0 t = n.natAbs := by
  obtain ⟨n, hn, hneg, ⟨hv, ht⟩ | ⟨hv, ht⟩⟩ := h
  · exact ⟨n, hv, hn, hneg, by rw [ht]; exact dec_ne _, by rw [ht]; exact figs_dec _, by rw [ht]; exact spell_dec _⟩
  · exfalso
    have hp := (pad_spec (n.natAbs % 10000) (by omega)).2.1
    have hp4 : (padD 4 (n.natAbs % 10000)).length = 4 := hp
    have hpos : 0 < (Lib.decDigits (n.natAbs / 10000)).length := List.length_pos_iff.2 (dec_ne _)
    have hl : t.length = (Lib.decDigits (n.natAbs / 10000)).length + 5 := by rw [ht, List.length_append, List.length_cons, hp4]
    refine hd ⟨by omega, ?_⟩
    rw [hl, Nat.add_sub_cancel, ht, List.getElem?_append_right (Nat.le_refl _), Nat.sub_self]
    rfl
theorem num_point {neg : Bool} {t : List UInt8} {v : Val} (h : NumSh neg t v) (_h5 : 5 < t.length) (hd : t[t.length - 5]? = some 46) : ∃ n, v = ⟨3, n, ⟨#[]⟩⟩ ∧ i64ok n ∧ (neg = true ↔ n < 0) ∧ t.take (t.length - 5) ++ t.drop (t.length - 5 + 1) ≠ [] ∧ figs (t.take (t.length - 5) ++ t.drop (t.length - 5 + 1)) ∧ spell 0 (t.take (t.length - 5) ++ t.drop (t.length - 5 + 1)) = n.natAbs := by
  obtain ⟨n, hn, hneg, ⟨hv, ht⟩ | ⟨hv, ht⟩⟩ := h
  · exfalso
    have := fig_ne (figs_dec n.natAbs) 46 (by rw [← ht]; exact List.mem_of_getElem? hd)
    exact this rfl
  · have hp := pad_spec (n.natAbs % 10000) (by omega)
    have hp4 : (padD 4 (n.natAbs % 10000)).length = 4 := hp.2.1
    have hl : t.length - 5 = (Lib.decDigits (n.natAbs / 10000)).length := by rw [ht, List.length_append, List.length_cons, hp4]; omega
    have e1 : t.take (t.length - 5) ++ t.drop (t.length - 5 + 1) = Lib.decDigits (n.natAbs / 10000) ++ padD 4 (n.natAbs % 10000) := by
      rw [hl, ht, List.take_left, ← List.drop_drop, List.drop_left]
      rfl
    rw [e1]
    refine ⟨n, hv, hn, hneg, fun e => dec_ne (n.natAbs / 10000) (List.append_eq_nil_iff.1 e).1, fun c hc => ?_, ?_⟩
    · rcases List.mem_append.1 hc with hc | hc
      · exact figs_dec _ c hc
      · exact hp.1 c hc
    · rw [spell_app, spell_split, spell_dec, hp4]
      have : spell 0 (padD 4 (n.natAbs % 10000)) = n.natAbs % 10000 := hp.2.2
      rw [this]
      omega
end Go.Proofs.YtneppncnccangaaGreatDoor

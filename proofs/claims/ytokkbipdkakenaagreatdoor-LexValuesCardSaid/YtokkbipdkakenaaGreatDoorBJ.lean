/- Package lex: Lex. -/
import Derived.Test.YtokkbipdkakenaaGreatDoorBH
import Derived.Test.YtokkbipdkakenaaGreatDoorBI
namespace Go.Proofs.YtokkbipdkakenaaGreatDoor
open Go.RowKit

theorem wpList_appT {w : World} {ops : Array Oper} {rest : List Oper} {o : Oper} {a : Act} {Q : Exit → Act → World → Prop} (hgd : o.guard = none) (s x : Operand) (ho : o.op = .call { callee := .builtin .append, args := #[s, x], argTypes := #[28, 28] })
    {B : Nat} {v : Value} {xs : List Tok} (hv : a.eval s = v) (hown : OwnT w B v xs) {G c : Nat} {t : Tok} {fr : Nat × Nat} (hx : a.eval x = .slice (some ⟨G, 0, none⟩) 1 c) (hG : w.heap[G]? = some (.cells (toksV [t]).toArray 35 fr)) (h63 : (xs.length + 1) * 64 ≤ 140737488355328) (hbase : B ≤ w.heap.size)
    (h : ∀ v' w', OwnT w' B v' (xs ++ [t]) → Grew w v w' v' → wpList Tryz.prog ops Q rest (a.put o.dst v') w') : wpList Tryz.prog ops Q (o :: rest) a w :=
  wpList_plain hgd fun _ hK => by
    obtain ⟨v', w', hrun, h2, h3⟩ := run_appendT o.type hown (c := c) hG h63 hbase
    unfold Oper.wp execOp
    simp only [ho, resolve, invoke, builtin, Sem.run_bind, Sem.run_pure, Result.andThen_ok, List.map_toArray, List.map_cons, List.map_nil, hv, hx, hrun]
    exact hK _ _ (h v' w' h2 h3)
def fCells (code at_ : Int) : Array Value := #[.int .i64 code, .int .i64 at_, .nilIface, .int .i64 1]
theorem newF (at_ : Int) (w : World) : Calls Tryz.prog 18 #[.int .i64 161, .int .i64 at_] w fun e w' => e = .returned (.iface 53 (.pointer (some ⟨w.heap.size, 0, none⟩))) ∧ w' = w.alloc (.cells (fCells 161 at_) 58) := by
  go_enter Tryz.func18, Tryz.ntmps18
  go_wp2
  go_ret
  exact ⟨rfl, rfl⟩
/-- where the first token would begin that is none -/
inductive Lz : Nat → List UInt8 → Nat → Prop
  | here {a : Nat} {l : List UInt8} (hl : l ≠ []) (h : firstL l = none) : Lz a l a
  | step {a : Nat} {l : List UInt8} {t : Tok} {p : Nat} (hl : l ≠ []) (h : firstL l = some t) (hr : Lz (a + t.t.length + runL blankB (l.drop t.t.length)) ((l.drop t.t.length).drop (runL blankB (l.drop t.t.length))) p) : Lz a l p
theorem Lz.not {a : Nat} {l : List UInt8} {p : Nat} (h : Lz a l p) : ∀ ts, ¬ Lx a l ts := by
  induction h with
  | here hl h =>
    intro ts hx
    cases hx with
    | fin => exact hl rfl
    | step _ h2 _ => rw [h] at h2; cases h2
  | step hl h _ ih =>
    intro ts hx
    cases hx with
    | fin => exact hl rfl
    | step _ h2 hr =>
      rw [h] at h2
      injection h2 with h2
      subst h2
      exact ih _ hr
/-- the fault's place -/
def LexZ (l : List UInt8) (p : Nat) : Prop := (1000 < l.length ∧ p = 0) ∨ (l.length ≤ 1000 ∧ Lz (runL blankB l) (l.drop (runL blankB l)) p)
theorem LexZ.not {l : List UInt8} {p : Nat} (h : LexZ l p) (ts : List Tok) : ¬ LexL l ts := by
  rintro ⟨h1, h2⟩
  rcases h with ⟨h3, _⟩ | ⟨_, h3⟩
  · omega
  · exact h3.not ts h2
/-- what Lex answers -/
def LexP (l : List UInt8) (w : World) (e : Ending) (w' : World) : Prop := Below w.heap.size w w' ∧
  ((∃ ts A cap, e = .returned (.tuple #[.slice A ts.length cap, .nilIface]) ∧ LexL l ts ∧ RdT w' w'.heap.size A ts ∧ ts.length ≤ cap) ∨
   (∃ N p, e = .returned (.tuple #[.slice none 0 0, .iface 53 (.pointer (some ⟨N, 0, none⟩))]) ∧ LexZ l p ∧ w.heap.size ≤ N ∧ w'.heap[N]? = some (.cells (fCells 161 (p : Int)) 58 (0, 0))))
def LXL (w : World) (l : List UInt8) (v4 v5 : Value) (wr : World) : Prop := ∃ (T : List Tok) (A : Option Addr) (cap a : Nat), v4 = .slice A T.length cap ∧ v5 = .int .i64 (a : Int) ∧ a ≤ l.length ∧ T.length ≤ a ∧ OwnT wr w.heap.size (.slice A T.length cap) T ∧ Below w.heap.size w wr ∧
  (∀ ts, Lx a (l.drop a) ts → Lx (runL blankB l) (l.drop (runL blankB l)) (T ++ ts)) ∧ (∀ p, Lz a (l.drop a) p → Lz (runL blankB l) (l.drop (runL blankB l)) p)
theorem blank_n (s : ByteArray) (hs : s.size ≤ 1000) (n : Nat) (w : World) : Calls Tryz.prog 19 #[.string (s.extract n s.size), .func (.func 20) #[] #[]] w fun e w' => e = .returned (.int .i64 (runL blankB (s.data.toList.drop n) : Int)) ∧ w = w' := by
  have := run_isBlank (s.extract n s.size) (by rw [ext_size _ _ _ (Nat.le_refl _)]; omega) w
  rwa [drop_n] at this
theorem OwnT.form {w : World} {B : Nat} {v : Value} {l : List Tok} (h : OwnT w B v l) : ∃ A cap, v = .slice A l.length cap := by
  obtain ⟨A, cap, e, _⟩ := h.2
  exact ⟨A, cap, e⟩
theorem tokBox (w : World) (o : Obj) (t : Tok) (a : Nat) : ((w.alloc o).alloc (.cells #[.int .i64 t.k, .string ⟨t.t.toArray⟩, .int .i64 t.x.1, .int .i64 t.x.2.1, .string ⟨t.x.2.2.toArray⟩, .int .i64 (a : Int)] 35)).heap[w.heap.size + 1]? = some (.cells (toksV [t.to a]).toArray 35 (0, 0)) := by
  rw [heap_at, if_pos (by simp)]
  rfl
theorem tokBoxE (w : World) (a : Nat) : (w.alloc (.cells #[.int .i64 6, .string ⟨#[]⟩, .int .i64 0, .int .i64 0, .string ⟨#[]⟩, .int .i64 (a : Int)] 35)).heap[w.heap.size]? = some (.cells (toksV [endT a]).toArray 35 (0, 0)) := by
  rw [heap_at, if_pos rfl]
  rfl
set_option maxRecDepth 100000 in
set_option maxHeartbeats 8000000 in
theorem lex_any (s : ByteArray) (w : World) (hE : Env w) : Calls Tryz.prog 7 #[.string s] w (LexP s.data.toList w) := by
  have hsl := size_list' s
  by_cases hbig : 1000 < s.size
  · have hbi : (1000 : Int) < (s.size : Int) := by omega
    have HY : Hid (LexP s.data.toList w (.returned (.tuple #[.slice none 0 0, .iface 53 (.pointer (some ⟨w.heap.size, 0, none⟩))])) (w.alloc (.cells (fCells 161 0) 58))) := Lib.hid ⟨alloc_below _ _, .inr ⟨w.heap.size, 0, rfl, .inl ⟨by omega, rfl⟩, Nat.le_refl _, heap_alloc_new _ _⟩⟩
    clear hbig hsl
    go_enter Tryz.func7, Tryz.ntmps7
    go_wp2_with (go_at_call 18; refine (newF 0 _).mono ?_; rintro e w2 ⟨rfl, rfl⟩)
    go_ret2
    exact HY.out
  · have hs1 : s.size ≤ 1000 := by omega
    have hbi : ¬ (1000 : Int) < (s.size : Int) := by omega
    obtain ⟨l, hl⟩ : ∃ l, l = s.data.toList := ⟨_, rfl⟩
    have HR := Lib.hid (run_isBlank s (by omega) w)
    have HBN := Lib.hid (fun n W => blank_n s hs1 n W)
    rw [← hl] at hsl HR HBN
    have HFA := Lib.hid (fun (a : Nat) (ha : a < s.size) W (h : Env W) => first_any (s.extract a s.size) (by rw [ext_size _ _ _ (Nat.le_refl _)]; omega) (by rw [ext_size _ _ _ (Nat.le_refl _)]; omega) W h)
    have HDR : Hid (∀ a : Nat, (s.extract a s.size).data.toList = l.drop a) := Lib.hid fun a => by rw [drop_n, hl]
    rw [← hl]
    have HSL := Lib.hid hsl
    have HE := Lib.hid hE
    have HS1 := Lib.hid hs1
    have hsi : (s.size : Int) ≤ 1000 := by omega
    have HST : Hid (LXL w l (.slice none 0 0) (.int .i64 (runL blankB l : Int)) w) := Lib.hid ⟨[], none, 0, runL blankB l, rfl, rfl, runL_le _ _, Nat.zero_le _, OwnT.nil _ _, Below.refl _ _, fun ts h => h, fun p h => h⟩
    clear hbig hs1 hsl hl hE
    go_enter Tryz.func7, Tryz.ntmps7
    go_wp2_with (go_at_call 19; refine HR.out.mono ?_; rintro e w2 ⟨rfl, rfl⟩)
    go_loopw [4, 5] (fun v4 v5 wr => LXL w l v4 v5 wr) (fun _ v5 _ => s.size - (intOf v5).toNat)
    case atStart => exact HST.out
    case round =>
      obtain ⟨T, A, cap, a, rfl, rfl, ha, hT, hown, hb, hX, hZ⟩ := hrel
      have HX := Lib.hid hX
      have HZ := Lib.hid hZ
      have HO := Lib.hid hown
      have HB := Lib.hid hb
      have HT := Lib.hid hT
      have HA := Lib.hid ha
      have HEr := Lib.hid (HE.out.below HB.out)
      clear hX hZ hown hb hT ha
      by_cases hlt : a < s.size
      · have hlti : (a : Int) < (s.size : Int) := by omega
        have HF := Lib.hid (HFA.out a hlt wr HEr.out)
        rw [HDR.out a] at HF
        have HNE : Hid (l.drop a ≠ []) := Lib.hid fun e => by
          have := congrArg List.length e
          rw [List.length_drop, HSL.out] at this
          simp at this; omega
        cases ho : firstL (l.drop a) with
        | none =>
          rw [ho] at HF
          have HF2 : Hid (Calls Tryz.prog 21 #[.string (s.extract a s.size)] wr fun e w' => ∃ t : Tok, e = .returned (.tuple #[.agg #[.int .i64 t.k, .string ⟨t.t.toArray⟩, .int .i64 t.x.1, .int .i64 t.x.2.1, .string ⟨t.x.2.2.toArray⟩, .int .i64 (t.a : Int)], .bool false]) ∧ Below wr.heap.size wr w') :=
            Lib.hid (HF.out.mono fun e w' hh => by obtain ⟨hb, t, he⟩ := hh; exact ⟨t, he, hb⟩)
          have HY : Hid (∀ W o, Below wr.heap.size wr W → LexP l w (.returned (.tuple #[.slice none 0 0, .iface 53 (.pointer (some ⟨W.heap.size + 1, 0, none⟩))])) ((W.alloc o).alloc (.cells (fCells 161 (a : Int)) 58))) := Lib.hid fun W o hW => by
            have hb := HB.out.trans (hW.mono HB.out.size)
            exact ⟨hb.trans ((alloc2_below _ _ _).mono hb.size), .inr ⟨W.heap.size + 1, a, rfl, .inr ⟨by rw [HSL.out]; exact HS1.out, HZ.out a (.here HNE.out ho)⟩, by have := hb.size; omega, by rw [heap_at, if_pos (by simp)]⟩⟩
          clear HF ho
          go_wp2_with (first
            | (go_at_call 21; refine HF2.out.mono ?_; rintro e w2 ⟨t, rfl, hb⟩; have HB2 := Lib.hid hb; clear hb)
            | (go_at_call 18; refine (newF (a : Int) _).mono ?_; rintro e w3 ⟨rfl, rfl⟩))
          go_ret2
          exact HY.out _ _ HB2.out
        | some t =>
          rw [ho] at HF
          have HF2 : Hid (Calls Tryz.prog 21 #[.string (s.extract a s.size)] wr fun e w' => e = .returned (.tuple #[.agg #[.int .i64 t.k, .string ⟨t.t.toArray⟩, .int .i64 t.x.1, .int .i64 t.x.2.1, .string ⟨t.x.2.2.toArray⟩, .int .i64 (t.a : Int)], .bool true]) ∧ Below wr.heap.size wr w') :=
            Lib.hid (HF.out.mono fun e w' hh => ⟨hh.2, hh.1⟩)
          have hlen := firstL_len ho
          rw [List.length_drop, HSL.out] at hlen
          clear HF
          have hlen1 : ((a + t.t.length : Nat) : Int) ≤ (s.size : Int) := by omega
          have HRB := Lib.hid (fun W => HBN.out (a + t.t.length) W)
          have hble := runL_le blankB (l.drop (a + t.t.length))
          rw [List.length_drop, HSL.out] at hble
          obtain ⟨q, hq⟩ : ∃ q, q = runL blankB (l.drop (a + t.t.length)) := ⟨_, rfl⟩
          rw [← hq] at HRB hble
          have HOw := Lib.hid (fun W (h : Below wr.heap.size wr W) => HO.out.below h)
          have HM : Hid ((T.length + 1) * 64 ≤ 140737488355328) := Lib.hid (by have := HT.out; omega)
          have HBZ : Hid (∀ (W : World) o p, Below wr.heap.size wr W → w.heap.size ≤ ((W.alloc o).alloc p).heap.size) := Lib.hid fun W o p h => Nat.le_trans HB.out.size (Nat.le_trans h.size (alloc2_below W o p).size)
          have HN : Hid (∀ (W : World) o p A6 cap6 w6 v5, Below wr.heap.size wr W → OwnT w6 w.heap.size (.slice A6 (T.length + 1) cap6) (T ++ [t.to a]) → Grew ((W.alloc o).alloc p) (.slice A T.length cap) w6 (.slice A6 (T.length + 1) cap6) → v5 = .int .i64 ((a + t.t.length + q : Nat) : Int) → LXL w l (.slice A6 (T.length + 1) cap6) v5 w6) := Lib.hid fun W o p A6 cap6 w6 v5 hW ho6 hg6 h5 => by
            have hbb := HB.out.trans ((hW.mono HB.out.size).trans (((alloc2_below W o p).mono (Nat.le_trans HB.out.size hW.size)).trans (hg6.toBelow (HBZ.out W o p hW) HO.out.ge)))
            have hTl : (T ++ [t.to a]).length = T.length + 1 := by simp
            have hd : (l.drop (a + t.t.length)).drop q = l.drop (a + t.t.length + q) := by rw [List.drop_drop]
            have hd2 : (l.drop a).drop t.t.length = l.drop (a + t.t.length) := by rw [List.drop_drop]
            refine ⟨T ++ [t.to a], A6, cap6, a + t.t.length + q, by rw [hTl], h5, by rw [HSL.out]; omega, by rw [hTl]; have := HT.out; omega, by rw [hTl]; exact ho6, hbb, fun ts hx => ?_, fun pp hz => ?_⟩
            · rw [List.append_assoc]
              refine HX.out _ (.step HNE.out ho ?_)
              rw [hd2, ← hq, hd]
              exact hx
            · refine HZ.out _ (.step HNE.out ho ?_)
              rw [hd2, ← hq, hd]
              exact hz
          have HCL : Hid (∀ (W : World) o p w6 v6, Below wr.heap.size wr W → Grew ((W.alloc (.cells o 35)).alloc p) (.slice A T.length cap) w6 v6 → w6.heap[W.heap.size]? = some (.cells o 35 (0, 0))) := Lib.hid fun W o p w6 v6 hW hg6 => by
            have h1 : ((W.alloc (.cells o 35)).alloc p).heap[W.heap.size]? = some (.cells o 35 (0, 0)) := by
              rw [heap_at, if_neg (by simp), heap_at, if_pos rfl]
            rw [hg6.by_.block _ (by simp; omega) (fun e => by have := HO.out.lt _ e.symm; have := hW.size; omega)]
            exact h1
          have hlen0 : (0 : Int) ≤ (a : Int) + (t.t.length : Int) := by omega
          have hlen2 : (a : Int) + (t.t.length : Int) ≤ (s.size : Int) := by omega
          have hlen3 : (a : Int) + (t.t.length : Int) + (q : Int) ≤ (s.size : Int) := by omega
          have HMS : Hid (s.size - (a + t.t.length + q) < s.size - a) := Lib.hid (by omega)
          clear hble ho hq hlen hlen1
          go_wp2_with (first
            | (go_at_call 21; refine HF2.out.mono ?_; rintro e w2 ⟨rfl, hb⟩; have HB2 := Lib.hid hb; clear hb)
            | (at_builtin
               refine wpList_appT (xs := T) (t := t.to a) (B := w.heap.size) rfl _ _ rfl rfl (HOw.out _ (HB2.out.trans ((alloc2_below w2 _ _).mono HB2.out.size))) rfl (tokBox _ _ _ _) HM.out (HBZ.out _ _ _ HB2.out) ?_
               intro v6 w6 ho6 hg6
               have hf6 := ho6.form
               rw [show (T ++ [t.to a]).length = T.length + 1 from by simp] at hf6
               obtain ⟨A6, cap6, rfl⟩ := hf6
               have HBX := box6 (HCL.out _ _ _ _ _ HB2.out hg6)
               obtain ⟨_, x1, _⟩ := HBX
               have HY := Lib.hid (fun v5 h5 => HN.out _ _ _ _ _ _ v5 HB2.out ho6 hg6 h5)
               clear ho6 hg6)
            | (go_at_call 19; refine (HRB.out _).mono ?_; rintro e w7 ⟨rfl, rfl⟩))
          go_roundw
          case rel => first | exact HY.out _ (by go_num) | ((repeat apply Exists.intro); exact ⟨HY.out _ (by go_num), rfl⟩)
          case measure => simp [intOf]; have := HMS.out; omega
      · obtain rfl : a = s.size := by have := HA.out; rw [HSL.out] at this; omega
        have hd0 : l.drop s.size = [] := List.drop_eq_nil_of_le (by rw [HSL.out]; exact Nat.le_refl _)
        have HFIN : Hid (LexL l (T ++ [endT s.size])) := Lib.hid ⟨by rw [HSL.out]; exact HS1.out, HX.out _ (by rw [hd0]; exact .fin _)⟩
        have HM : Hid ((T.length + 1) * 64 ≤ 140737488355328) := Lib.hid (by have := HT.out; have := HS1.out; omega)
        have HBZ : Hid (∀ o, w.heap.size ≤ (wr.alloc o).heap.size) := Lib.hid fun o => Nat.le_trans HB.out.size (alloc_below wr o).size
        have HOw := Lib.hid (fun o => HO.out.below (alloc_below wr o))
        have HY : Hid (∀ o A6 cap6 w6, OwnT w6 w.heap.size (.slice A6 (T.length + 1) cap6) (T ++ [endT s.size]) → Grew (wr.alloc o) (.slice A T.length cap) w6 (.slice A6 (T.length + 1) cap6) → LexP l w (.returned (.tuple #[.slice A6 (T.length + 1) cap6, .nilIface])) w6) := Lib.hid fun o A6 cap6 w6 ho6 hg6 => by
          have hbb := HB.out.trans (((alloc_below wr o).mono HB.out.size).trans (hg6.toBelow (HBZ.out o) HO.out.ge))
          have hTl : (T ++ [endT s.size]).length = T.length + 1 := by simp
          obtain ⟨A7, cap7, e7, hc7⟩ := ho6.2
          injection e7 with e7 _ e8
          subst e7 e8
          exact ⟨hbb, .inl ⟨_, _, _, by rw [hTl], HFIN.out, ho6.rd, hc7⟩⟩
        clear hd0 hlt
        go_wp2_with (at_builtin
                     refine wpList_appT (xs := T) (t := endT s.size) (B := w.heap.size) rfl _ _ rfl rfl (HOw.out _) rfl (tokBoxE _ _) HM.out (HBZ.out _) ?_
                     intro v6 w6 ho6 hg6
                     have hf6 := ho6.form
                     rw [show (T ++ [endT s.size]).length = T.length + 1 from by simp] at hf6
                     obtain ⟨A6, cap6, rfl⟩ := hf6
                     have HZ6 := Lib.hid (HY.out _ _ _ _ ho6 hg6)
                     clear ho6 hg6)
        go_ret2
        exact HZ6.out
end Go.Proofs.YtokkbipdkakenaaGreatDoor

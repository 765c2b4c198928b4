/- The document's guess: its leaves. -/
import Derived.Test.YtneppncnccangaaGreatDoorTF
import Derived.Test.YtneppncnccangaaGreatDoorKY
import Derived.Test.YtneppncnccangaaGreatDoorTA
namespace Go.Proofs.YtneppncnccangaaGreatDoor
open Go.RowKit

/-- the answer's box -/
structure RZ (w W : World) : Prop where
  r : W.heap[w.heap.size]? = some (.cells #[.int .i64 0, .int .i64 0, .string ⟨#[]⟩] 24 (0, 0))
  bel : Below w.heap.size w W
theorem RZ.new (w : World) : RZ w (w.alloc (.cells #[.int .i64 0, .int .i64 0, .string ⟨#[]⟩] 24)) := ⟨heap_alloc_new w _, alloc_below w _⟩
theorem RZ.next {w W V : World} (h : RZ w W) (hb : Below W.heap.size W V) : RZ w V := ⟨(hb.block _ (Array.getElem?_eq_some_iff.1 h.r).1).trans h.r, h.bel.trans (hb.mono h.bel.size)⟩
theorem RZ.put {w W : World} (h : RZ w W) (x y z : Value) : Below w.heap.size w (((W.setCell ⟨w.heap.size, 0, none⟩ x).setCell ⟨w.heap.size, 1, none⟩ y).setCell ⟨w.heap.size, 2, none⟩ z) := set3_below0 h.bel (Nat.le_refl _) x y z
theorem gut_lit {w W : World} {s : ByteArray} {x : Val} (hW : Below w.heap.size w W) (hx : x.ok) (hr : rightB x = true) (hz : x.s.size ≤ 1000) (hs : textS x = s) : GuT w s (.returned (.agg #[.int .i64 x.k, .int .i64 x.n, .string x.s])) W :=
  ⟨hW, x, rfl, hx, hz, fun _ hv rv e => ((text_inj hx hv hr rv).1 (hs.trans e.symm))⟩
theorem ne_const {s c : ByteArray} {l : List UInt8} (h : s ≠ c) (hl : c.data.toList = l) : (s.toList == l) = false ∧ ¬ s.toList = l := by
  subst hl
  rw [← ByteArray.toList_eq c]
  have h1 : ¬ s.toList = c.toList := fun e => h ((bytes_inj s c).1 e)
  exact ⟨by simpa using h1, h1⟩
set_option maxRecDepth 100000 in
set_option maxHeartbeats 4000000 in
theorem gu_null (w : World) : Calls Tryz.prog 27 #[.string s_null] w (GuT w s_null) := by
  unfold s_null
  have HY : Hid (∀ W, Below w.heap.size w W → GuT w ⟨#[110, 117, 108, 108]⟩ (.returned (.agg #[.int .i64 0, .int .i64 0, .string ⟨#[]⟩])) W) := Lib.hid fun W hW => gut_lit (x := ⟨0, 0, ⟨#[]⟩⟩) hW ⟨by unfold i64ok; simp, by unfold i64ok; simp⟩ (by decide) (Nat.zero_le _) rfl
  go_enter Tryz.func27, Tryz.ntmps27
  go_wp2_with fail
  refine bodyPost_ret (v := .agg #[.int .i64 0, .int .i64 0, .string ⟨#[]⟩]) (by simp [results, Tryz.results27, go_sem]) rfl ?_
  exact HY.out _ (alloc_below _ _)
set_option maxRecDepth 100000 in
set_option maxHeartbeats 4000000 in
theorem gu_false (w : World) : Calls Tryz.prog 27 #[.string s_false] w (GuT w s_false) := by
  unfold s_false
  have HY : Hid (∀ W, Below w.heap.size w W → GuT w ⟨#[102, 97, 108, 115, 101]⟩ (.returned (.agg #[.int .i64 1, .int .i64 0, .string ⟨#[]⟩])) W) := Lib.hid fun W hW => gut_lit (x := ⟨1, 0, ⟨#[]⟩⟩) hW ⟨by unfold i64ok; simp, by unfold i64ok; simp⟩ (by decide) (Nat.zero_le _) rfl
  have OF : Hid (∀ w, Calls Tryz.prog 12 #[.int .i64 0] w (Ans (.agg #[.int .i64 1, .int .i64 0, .string ⟨#[]⟩]) w)) := Lib.hid (refOf_any (some (some false)))
  have HR := Lib.hid (RZ.new w)
  go_enter Tryz.func27, Tryz.ntmps27
  go_wp2_with (go_at_call 12; refine (OF.out _).mono ?_; rintro e w2 ⟨rfl, hb⟩
               have HR := Lib.hid (HR.out.next hb)
               obtain ⟨r0, r1, r2⟩ := box3 HR.out.r
               have z0 := frozen3 HR.out.r 0
               have z1 := frozen3 HR.out.r 1
               have z2 := frozen3 HR.out.r 2
               clear hb)
  refine bodyPost_ret (v := .agg #[.int .i64 1, .int .i64 0, .string ⟨#[]⟩]) (by simp [results, Tryz.results27, go_sem, r0, r1, r2]) rfl ?_
  exact HY.out _ (HR.out.put _ _ _)
set_option maxRecDepth 100000 in
set_option maxHeartbeats 4000000 in
theorem gu_true (w : World) : Calls Tryz.prog 27 #[.string s_true] w (GuT w s_true) := by
  unfold s_true
  have HY : Hid (∀ W, Below w.heap.size w W → GuT w ⟨#[116, 114, 117, 101]⟩ (.returned (.agg #[.int .i64 1, .int .i64 1, .string ⟨#[]⟩])) W) := Lib.hid fun W hW => gut_lit (x := ⟨1, 1, ⟨#[]⟩⟩) hW ⟨by unfold i64ok; simp, by unfold i64ok; simp⟩ (by decide) (Nat.zero_le _) rfl
  have OF : Hid (∀ w, Calls Tryz.prog 12 #[.int .i64 1] w (Ans (.agg #[.int .i64 1, .int .i64 1, .string ⟨#[]⟩]) w)) := Lib.hid (refOf_any (some (some true)))
  have HR := Lib.hid (RZ.new w)
  go_enter Tryz.func27, Tryz.ntmps27
  go_wp2_with (go_at_call 12; refine (OF.out _).mono ?_; rintro e w2 ⟨rfl, hb⟩
               have HR := Lib.hid (HR.out.next hb)
               obtain ⟨r0, r1, r2⟩ := box3 HR.out.r
               have z0 := frozen3 HR.out.r 0
               have z1 := frozen3 HR.out.r 1
               have z2 := frozen3 HR.out.r 2
               clear hb)
  refine bodyPost_ret (v := .agg #[.int .i64 1, .int .i64 1, .string ⟨#[]⟩]) (by simp [results, Tryz.results27, go_sem, r0, r1, r2]) rfl ?_
  exact HY.out _ (HR.out.put _ _ _)
theorem hexL_at {l : List UInt8} : ∀ {j : Nat} {c : UInt8}, l[j]? = some c → (hexL l)[2 * j]? = some (hexd (c.toNat / 16)) ∧ (hexL l)[2 * j + 1]? = some (hexd (c.toNat % 16)) := by
  induction l with
  | nil => intro j c h; simp at h
  | cons d l ih =>
    intro j c h
    have e : hexL (d :: l) = hexd (d.toNat / 16) :: hexd (d.toNat % 16) :: hexL l := by simp [hexL]
    cases j with
    | zero =>
      simp at h
      subst h
      rw [e]
      exact ⟨rfl, rfl⟩
    | succ j =>
      have h2 := ih (j := j) (c := c) (by simpa using h)
      rw [e, show 2 * (j + 1) = 2 * j + 1 + 1 by omega]
      exact ⟨by simpa using h2.1, by simpa using h2.2⟩
theorem list_get {s : ByteArray} {i : Nat} (h : i < s.size) : s.data.toList[i]? = some (s[i]'h) := by
  rw [List.getElem?_eq_getElem (by rw [list_size]; exact h)]
  rfl
theorem push_list (s : ByteArray) (c : UInt8) : (s ++ (⟨#[c]⟩ : ByteArray)).data.toList = s.data.toList ++ [c] := by simp
theorem push_size (s : ByteArray) (c : UInt8) : (s ++ (⟨#[c]⟩ : ByteArray)).size = s.size + 1 := by
  rw [ByteArray.size_append]; rfl
/-- so far the bytes are what has been read -/
def XInv (L : List UInt8) (j : Nat) (out : List UInt8) : Prop := ∀ q : List UInt8, L = 120 :: 39 :: (hexL q ++ [39]) → out = q.take j
theorem xinv_len {L q : List UInt8} (h : L = 120 :: 39 :: (hexL q ++ [39])) : L.length = 3 + 2 * q.length := by
  rw [h]; simp [hexL_len]; omega
theorem xinv_at {L q : List UInt8} {j : Nat} (h : L = 120 :: 39 :: (hexL q ++ [39])) (hj : j < q.length) : ∃ c, q[j]? = some c ∧ L[2 + 2 * j]? = some (hexd (c.toNat / 16)) ∧ L[2 + 2 * j + 1]? = some (hexd (c.toNat % 16)) := by
  obtain ⟨c, hc⟩ : ∃ c, q[j]? = some c := ⟨_, List.getElem?_eq_getElem hj⟩
  obtain ⟨h1, h2⟩ := hexL_at hc
  have hl := hexL_len q
  refine ⟨c, hc, ?_, ?_⟩
  · rw [h, show 2 + 2 * j = 2 * j + 1 + 1 by omega, List.getElem?_cons_succ, List.getElem?_cons_succ, List.getElem?_append_left (by omega)]
    exact h1
  · rw [h, show 2 + 2 * j + 1 = 2 * j + 1 + 1 + 1 by omega, List.getElem?_cons_succ, List.getElem?_cons_succ, List.getElem?_append_left (by omega)]
    exact h2
/-- at the head of the hexes' loop -/
def GXL (w : World) (s : ByteArray) (v3 v4 : Value) (wr : World) : Prop := ∃ (j : Nat) (t : ByteArray), v3 = .string t ∧ v4 = .int .i64 (2 + 2 * (j : Int)) ∧ 2 + 2 * j ≤ s.size ∧ t.size ≤ j ∧ XInv s.data.toList j t.data.toList ∧ RZ w wr
set_option maxRecDepth 100000 in
set_option maxHeartbeats 8000000 in
theorem gu_x (s : ByteArray) (hs : s.size ≤ 1000) (h2 : 2 < s.size) (h0 : 0 < s.size) (hx : s[0]'h0 = 120) (w : World) : Calls Tryz.prog 27 #[.string s] w (GuT w s) := by
  have hne : ∀ c : ByteArray, c.data.toList[0]? ≠ some 120 → s ≠ c := fun c hc e => hc (by rw [← e, list_get h0, hx])
  obtain ⟨n1, m1⟩ := ne_const (l := [110, 117, 108, 108]) (hne s_null (by decide)) rfl
  obtain ⟨n2, m2⟩ := ne_const (l := [102, 97, 108, 115, 101]) (hne s_false (by decide)) rfl
  obtain ⟨n3, m3⟩ := ne_const (l := [116, 114, 117, 101]) (hne s_true (by decide)) rfl
  have HSH : Hid (∀ v : Val, v.ok → rightB v = true → textS v = s → ∃ q, v = ⟨5, 0, q⟩ ∧ s.data.toList = 120 :: 39 :: (hexL q.data.toList ++ [39])) := Lib.hid fun v hv rv e => by
    have h := shape_of hv rv e
    obtain ⟨r, hr⟩ : ∃ r, s.data.toList = 120 :: r := by
      have h1 := list_get (s := s) (i := 0) h0
      rw [hx] at h1
      rcases hL : s.data.toList with _ | ⟨c, r⟩
      · rw [hL] at h1; simp at h1
      · rw [hL] at h1; simp at h1; exact ⟨r, by rw [h1]⟩
    rw [hr] at h ⊢
    obtain ⟨q, hq, e2⟩ := shape_x h
    exact ⟨q, hq, by rw [e2]⟩
  have hxi : (((s[0]'h0).toNat : Int) == 120) = true := by rw [hx]; rfl
  have h2i : (2 : Int) < (s.size : Int) := by omega
  have hsi : (s.size : Int) ≤ 1000 := by omega
  have HS : Hid (GXL w s (.string ⟨#[]⟩) (.int .i64 2) (w.alloc (.cells #[.int .i64 0, .int .i64 0, .string ⟨#[]⟩] 24))) := Lib.hid ⟨0, ⟨#[]⟩, rfl, rfl, by omega, Nat.le_refl _, fun q _ => rfl, RZ.new w⟩
  have HSZ := Lib.hid (And.intro hs h2)
  clear hs hx hne
  go_enter Tryz.func27, Tryz.ntmps27
  go_wp2_with fail
  go_loopw [3, 4] (fun v3 v4 wr => GXL w s v3 v4 wr) (fun _ v4 _ => s.size - (intOf v4).toNat)
  case atStart => exact HS.out
  case round =>
    obtain ⟨j, t, rfl, rfl, hj, ht, hinv, hrz⟩ := hrel
    have HI := Lib.hid hinv
    have HR := Lib.hid hrz
    have HT := Lib.hid ht
    obtain ⟨r0, r1, r2⟩ := box3 hrz.r
    have z0 := frozen3 hrz.r 0
    have z1 := frozen3 hrz.r 1
    have z2 := frozen3 hrz.r 2
    clear hinv hrz
    by_cases hlt : 2 + 2 * j + 2 < s.size
    · have hki : 2 + 2 * (j : Int) + 2 < (s.size : Int) := by omega
      have hk1 : 2 + 2 * (j : Int) + 1 < (s.size : Int) := by omega
      have hk0 : 2 + 2 * (j : Int) < (s.size : Int) := by omega
      have hkz : (0 : Int) ≤ 2 + 2 * (j : Int) := by omega
      obtain ⟨c0, HC0⟩ : ∃ c0, Hid (s[2 + 2 * j]'(by omega) = c0) := ⟨_, Lib.hid rfl⟩
      obtain ⟨c1, HC1⟩ : ∃ c1, Hid (s[2 + 2 * j + 1]'(by omega) = c1) := ⟨_, Lib.hid rfl⟩
      have HG0 : Hid (s.data.toList[2 + 2 * j]? = some c0) := Lib.hid (by rw [list_get (s := s) (i := 2 + 2 * j) (by omega), HC0.out])
      have HG1 : Hid (s.data.toList[2 + 2 * j + 1]? = some c1) := Lib.hid (by rw [list_get (s := s) (i := 2 + 2 * j + 1) (by omega), HC1.out])
      have X0 : Hid (∀ w, Calls Tryz.prog 44 #[.int .u8 ((s[2 + 2 * j]'(by omega)).toNat : Int)] w fun e w' => HexT c0 e ∧ w = w') := Lib.hid fun w => by rw [HC0.out]; exact refHex_any c0 w
      have X1 : Hid (∀ w, Calls Tryz.prog 44 #[.int .u8 ((s[2 + 2 * j + 1]'(by omega)).toNat : Int)] w fun e w' => HexT c1 e ∧ w = w') := Lib.hid fun w => by rw [HC1.out]; exact refHex_any c1 w
      have HLT := Lib.hid hlt
      clear hj
      go_upto_region 14 with (first
        | (go_at_call 44; (with_reducible refine (X0.out _).mono ?_); rintro e w2 ⟨⟨ra, rfl, hra0, hra1, hra2⟩, rfl⟩
           have HRA := Lib.hid hra2
           clear hra2)
        | (go_at_call 44; (with_reducible refine (X1.out _).mono ?_); rintro e w3 ⟨⟨rb, rfl, hrb0, hrb1, hrb2⟩, rfl⟩
           have HRB := Lib.hid hrb2
           clear hrb2))
      have HQ : Hid (∀ q : List UInt8, s.data.toList = 120 :: 39 :: (hexL q ++ [39]) → ∃ c, q[j]? = some c ∧ ra = ((c.toNat / 16 : Nat) : Int) ∧ rb = ((c.toNat % 16 : Nat) : Int)) := Lib.hid fun q e => by
        have hl := xinv_len e
        rw [list_size] at hl
        obtain ⟨c, h1, h2, h3⟩ := xinv_at e (j := j) (by have := HLT.out; omega)
        have e2 := HG0.out.symm.trans h2
        have e3 := HG1.out.symm.trans h3
        simp only [Option.some.injEq] at e2 e3
        have hcl := c.toNat_lt
        exact ⟨c, h1, HRA.out _ (by omega) e2, HRB.out _ (by omega) e3⟩
      by_cases hna : ra < 0
      · have HY : Hid (∀ W, Below w.heap.size w W → GuT w s (.returned (.agg #[.int .i64 0, .int .i64 1, .string ⟨#[]⟩])) W) := Lib.hid fun W hW => ⟨hW, ⟨0, 1, ⟨#[]⟩⟩, rfl, ⟨by unfold i64ok; simp, by unfold i64ok; simp⟩, Nat.zero_le _, fun v hv rv e => by
          obtain ⟨q, _, hq⟩ := HSH.out v hv rv e
          obtain ⟨c, _, h2, _⟩ := HQ.out _ hq
          omega⟩
        go_wp2_with fail
        refine bodyPost_ret (v := .agg #[.int .i64 0, .int .i64 1, .string ⟨#[]⟩]) (by simp [results, Tryz.results27, go_sem, r0, r1, r2]) rfl ?_
        exact HY.out _ (HR.out.put _ _ _)
      · by_cases hnb : rb < 0
        · have HY : Hid (∀ W, Below w.heap.size w W → GuT w s (.returned (.agg #[.int .i64 0, .int .i64 1, .string ⟨#[]⟩])) W) := Lib.hid fun W hW => ⟨hW, ⟨0, 1, ⟨#[]⟩⟩, rfl, ⟨by unfold i64ok; simp, by unfold i64ok; simp⟩, Nat.zero_le _, fun v hv rv e => by
            obtain ⟨q, _, hq⟩ := HSH.out v hv rv e
            obtain ⟨c, _, _, h2⟩ := HQ.out _ hq
            omega⟩
          go_wp2_with fail
          refine bodyPost_ret (v := .agg #[.int .i64 0, .int .i64 1, .string ⟨#[]⟩]) (by simp [results, Tryz.results27, go_sem, r0, r1, r2]) rfl ?_
          exact HY.out _ (HR.out.put _ _ _)
        · obtain ⟨d, HD⟩ : ∃ d : UInt8, Hid (d = UInt8.ofNat (16 * ra + rb).toNat) := ⟨_, Lib.hid rfl⟩
          obtain ⟨x, hx⟩ : ∃ x : Int, IntKind.u8.wrap (16 * ra + rb) = x := ⟨_, rfl⟩
          have HXD : Hid (x = (d.toNat : Int)) := Lib.hid (by rw [HD.out, ofNat_toNat (by omega), ← hx, IntKind.wrap_u8]; omega)
          have kc := conv_rd (n := 1) (cap := 1) (rd_one wr x d HXD.out) rfl ⟨#[d]⟩ rfl
          have hss : ¬ 9223372036854775807 < t.size + 1 := by have := HT.out; omega
          have HNX : Hid (∀ v3 v4, v3 = .string (t ++ (⟨#[d]⟩ : ByteArray)) → v4 = .int .i64 (2 + 2 * ((j + 1 : Nat) : Int)) → GXL w s v3 v4 (wr.alloc (.cells #[.int .u8 x] 5))) := Lib.hid fun v3 v4 e3 e4 => ⟨j + 1, _, e3, e4, by have := HLT.out; omega, by rw [push_size]; have := HT.out; omega, fun q e => by
            obtain ⟨c, h1, h2, h3⟩ := HQ.out q e
            have hcl := c.toNat_lt
            have hdc : d = c := by
              rw [HD.out, h2, h3]
              apply UInt8.toNat_inj.1
              rw [ofNat_toNat (by omega)]
              omega
            rw [push_list, HI.out q e, List.take_add_one, h1, hdc]
            rfl, HR.out.next (alloc_below _ _)⟩
          go_wp2_with fail
          go_roundw
          case rel => exact HNX.out _ _ rfl (by go_num)
          case measure => simp [intOf]; have := HLT.out; omega
    · have hki : ¬ 2 + 2 * (j : Int) + 2 < (s.size : Int) := by omega
      have HY : Hid (∀ W, Below w.heap.size w W → GuT w s (.returned (.agg #[.int .i64 5, .int .i64 0, .string t])) W) := Lib.hid fun W hW => ⟨hW, ⟨5, 0, t⟩, rfl, ⟨by unfold i64ok; simp, by unfold i64ok; simp⟩, by show t.size ≤ 1000; have := HSZ.out; have := HT.out; omega, fun v hv rv e => by
        obtain ⟨q, hq, he⟩ := HSH.out v hv rv e
        have hl := xinv_len he
        rw [list_size, list_size] at hl
        have h1 := HI.out _ he
        rw [List.take_of_length_le (by rw [list_size]; omega)] at h1
        rw [hq, bytes_ext h1]⟩
      clear hlt
      go_wp2_with fail
      refine bodyPost_ret (v := .agg #[.int .i64 5, .int .i64 0, .string t]) (by simp [results, Tryz.results27, go_sem, r0, r1, r2]) rfl ?_
      exact HY.out _ (HR.out.put _ _ _)
/-- so far the text is what has been read -/
def QInv (L : List UInt8) (i : Nat) (out : List UInt8) : Prop := ∀ q : List UInt8, L = 39 :: (dbl q ++ [39]) → ∃ b, q = out ++ b ∧ L.drop i = dbl b ++ [39]
theorem qinv_start (L : List UInt8) : QInv L 1 [] := fun q e => ⟨q, rfl, by rw [e]; rfl⟩
theorem dropq {L : List UInt8} {i : Nat} {c : UInt8} (hc : L[i]? = some c) : L.drop i = c :: L.drop (i + 1) := by
  obtain ⟨h, rfl⟩ := List.getElem?_eq_some_iff.1 hc
  exact List.drop_eq_getElem_cons h
theorem qinv_no {L out : List UInt8} {i : Nat} {c : UInt8} (h : QInv L i out) (hc : L[i]? = some c) (hl : i + 1 < L.length) (h39 : ¬ c = 39) : QInv L (i + 1) (out ++ [c]) := fun q e => by
  obtain ⟨b, h1, h2⟩ := h q e
  rw [dropq hc] at h2
  rcases b with _ | ⟨d, b⟩
  · have := congrArg List.length h2
    simp [dbl] at this
    omega
  · simp only [dbl] at h2
    split at h2
    · injection h2 with e1 _
      exact absurd e1 h39
    · injection h2 with e1 e2
      subst e1
      exact ⟨b, by rw [h1]; simp, e2⟩
theorem qinv_yes {L out : List UInt8} {i : Nat} (h : QInv L i out) (hc : L[i]? = some 39) (hl : i + 1 < L.length) : QInv L (i + 2) (out ++ [39]) := fun q e => by
  obtain ⟨b, h1, h2⟩ := h q e
  rw [dropq hc] at h2
  rcases b with _ | ⟨d, b⟩
  · have := congrArg List.length h2
    simp [dbl] at this
    omega
  · simp only [dbl] at h2
    split at h2
    · rename_i hd
      injection h2 with _ e2
      refine ⟨b, by rw [h1, hd]; simp, ?_⟩
      rw [← List.drop_drop (i := 1) (j := i + 1), e2]
      rfl
    · rename_i hd
      injection h2 with e1 _
      exact absurd e1.symm hd
theorem qinv_end {L out q : List UInt8} {i : Nat} (h : QInv L i out) (hl : ¬ i + 1 < L.length) (e : L = 39 :: (dbl q ++ [39])) : q = out := by
  obtain ⟨b, h1, h2⟩ := h q e
  have h3 := congrArg List.length h2
  rw [List.length_drop, List.length_append, List.length_singleton] at h3
  have h4 : b = [] := by
    rcases b with _ | ⟨d, b⟩
    · rfl
    · exfalso
      have : 0 < (dbl (d :: b)).length := by simp only [dbl]; split <;> simp
      omega
  rw [h1, h4, List.append_nil]
/-- at the head of the quotes' loop -/
def GQL (s : ByteArray) (v7 v8 : Value) : Prop := ∃ (i : Nat) (t : ByteArray), v7 = .string t ∧ v8 = .int .i64 (i : Int) ∧ 1 ≤ i ∧ i ≤ s.size + 1 ∧ t.size + 1 ≤ i ∧ QInv s.data.toList i t.data.toList
set_option maxRecDepth 100000 in
set_option maxHeartbeats 8000000 in
theorem gu_q (s : ByteArray) (hs : s.size ≤ 1000) (h1 : 1 < s.size) (h0 : 0 < s.size) (hx : s[0]'h0 = 39) (w : World) : Calls Tryz.prog 27 #[.string s] w (GuT w s) := by
  have hne : ∀ c : ByteArray, c.data.toList[0]? ≠ some 39 → s ≠ c := fun c hc e => hc (by rw [← e, list_get h0, hx])
  obtain ⟨n1, m1⟩ := ne_const (l := [110, 117, 108, 108]) (hne s_null (by decide)) rfl
  obtain ⟨n2, m2⟩ := ne_const (l := [102, 97, 108, 115, 101]) (hne s_false (by decide)) rfl
  obtain ⟨n3, m3⟩ := ne_const (l := [116, 114, 117, 101]) (hne s_true (by decide)) rfl
  have HSH : Hid (∀ v : Val, v.ok → rightB v = true → textS v = s → ∃ q, v = ⟨4, 0, q⟩ ∧ s.data.toList = 39 :: (dbl q.data.toList ++ [39])) := Lib.hid fun v hv rv e => by
    have h := shape_of hv rv e
    obtain ⟨r, hr⟩ : ∃ r, s.data.toList = 39 :: r := by
      have h1 := list_get (s := s) (i := 0) h0
      rw [hx] at h1
      rcases hL : s.data.toList with _ | ⟨c, r⟩
      · rw [hL] at h1; simp at h1
      · rw [hL] at h1; simp at h1; exact ⟨r, by rw [h1]⟩
    rw [hr] at h ⊢
    obtain ⟨q, hq, e2⟩ := shape_q h
    exact ⟨q, hq, by rw [e2]⟩
  have hx0 : (((s[0]'h0).toNat : Int) == 120) = false := by rw [hx]; rfl
  have hxi : (((s[0]'h0).toNat : Int) == 39) = true := by rw [hx]; rfl
  have h1i : (1 : Int) < (s.size : Int) := by omega
  have hsi : (s.size : Int) ≤ 1000 := by omega
  have HS : Hid (GQL s (.string ⟨#[]⟩) (.int .i64 1)) := Lib.hid ⟨1, ⟨#[]⟩, rfl, rfl, Nat.le_refl _, by omega, Nat.le_refl _, qinv_start _⟩
  have HSZ := Lib.hid (And.intro hs h1)
  have h2 : (2 : Int) < (s.size : Int) ∨ ¬ (2 : Int) < (s.size : Int) := by omega
  clear hs hx hne
  rcases h2 with h2 | h2
  all_goals
    go_enter Tryz.func27, Tryz.ntmps27
    go_wp2_with fail
    go_loop [7, 8] (fun v7 v8 => GQL s v7 v8) (fun _ v8 => s.size + 1 - (intOf v8).toNat)
    case atStart => exact HS.out
    case round =>
      obtain ⟨i, t, rfl, rfl, hi1, hi2, ht, hinv⟩ := hrel
      have HI := Lib.hid hinv
      have HT := Lib.hid ht
      clear hinv ht
      by_cases hlt : i + 1 < s.size
      · have hki : (i : Int) + 1 < (s.size : Int) := by omega
        have hki0 : (i : Int) < (s.size : Int) := by omega
        have hss : ¬ 9223372036854775807 < t.size + 1 := by have := HT.out; omega
        have hli : i < s.size := by omega
        have HC := Lib.hid (cut_one s i hli)
        have HG := Lib.hid (list_get hli)
        have HLL : Hid (i + 1 < s.data.toList.length) := Lib.hid (by rw [list_size]; exact hlt)
        by_cases h39 : s[i]'hli = 39
        · have hz : (((s[i]'hli).toNat : Int) == 39) = true := by rw [h39]; rfl
          have HN : Hid (∀ (v7 v8 : Value) (q : ByteArray), v7 = .string q → v8 = .int .i64 ((i + 2 : Nat) : Int) → q.data.toList = t.data.toList ++ [s[i]'hli] → GQL s v7 v8) := Lib.hid fun v7 v8 q e7 e8 eq => ⟨i + 2, q, e7, e8, by omega, by omega, by
            have := congrArg List.length eq
            rw [list_size, List.length_append, list_size] at this
            simp at this
            have := HT.out
            omega, by
            rw [eq, h39]
            have hg := HG.out
            rw [h39] at hg
            exact qinv_yes HI.out hg HLL.out⟩
          clear hi1 hi2
          go_wp2_with fail
          go_round
          case rel => exact HN.out _ _ _ rfl (by go_num) (by rw [bapp, HC.out])
          case measure => simp [intOf]; omega
        · have hz : (((s[i]'hli).toNat : Int) == 39) = false := by
            refine beq_false_of_ne fun e => h39 (UInt8.toNat_inj.1 ?_)
            have e1 : (39 : UInt8).toNat = 39 := rfl
            rw [e1]; omega
          have HN : Hid (∀ (v7 v8 : Value) (q : ByteArray), v7 = .string q → v8 = .int .i64 ((i + 1 : Nat) : Int) → q.data.toList = t.data.toList ++ [s[i]'hli] → GQL s v7 v8) := Lib.hid fun v7 v8 q e7 e8 eq => ⟨i + 1, q, e7, e8, by omega, by omega, by
            have := congrArg List.length eq
            rw [list_size, List.length_append, list_size] at this
            simp at this
            have := HT.out
            omega, by
            rw [eq]
            exact qinv_no HI.out HG.out HLL.out h39⟩
          clear hi1 hi2
          go_wp2_with fail
          go_round
          case rel => exact HN.out _ _ _ rfl (by go_num) (by rw [bapp, HC.out])
          case measure => simp [intOf]; omega
      · have hki : ¬ (i : Int) + 1 < (s.size : Int) := by omega
        have HY : Hid (∀ W, Below w.heap.size w W → GuT w s (.returned (.agg #[.int .i64 4, .int .i64 0, .string t])) W) := Lib.hid fun W hW => ⟨hW, ⟨4, 0, t⟩, rfl, ⟨by unfold i64ok; simp, by unfold i64ok; simp⟩, by show t.size ≤ 1000; have := HSZ.out; have := HT.out; omega, fun v hv rv e => by
          obtain ⟨q, hq, he⟩ := HSH.out v hv rv e
          have h3 := qinv_end HI.out (by rw [list_size]; exact hlt) he
          rw [hq, bytes_ext h3]⟩
        clear hlt
        go_wp2_with fail
        refine bodyPost_ret (v := .agg #[.int .i64 4, .int .i64 0, .string t]) (by simp [results, Tryz.results27, go_sem]) rfl ?_
        exact HY.out _ (alloc_below _ _)
end Go.Proofs.YtneppncnccangaaGreatDoor

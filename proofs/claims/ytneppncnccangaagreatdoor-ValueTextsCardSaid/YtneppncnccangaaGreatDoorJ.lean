/- number: an Int, or a Dec. -/
import Derived.Test.YtneppncnccangaaGreatDoorNX
import Derived.Test.YtneppncnccangaaGreatDoorI
namespace Go.Proofs.YtneppncnccangaaGreatDoor
open Go.RowKit

def PI (o : Option Int) (w : World) : Ending → World → Prop := fun e w' => Below w.heap.size w w' ∧ match o with
  | some v => e = .returned (.tuple #[.int .i64 v, .nilIface])
  | none => ∃ x N, e = .returned (.tuple #[.int .i64 x, .iface 148 (.pointer (some ⟨N, 0, none⟩))])
def okV : Lib.NumEnd Int → Option Int
  | .ok v => some v
  | _ => none
theorem bytesWorld_below (w : World) (t : ByteArray) : Below w.heap.size w (Lib.bytesWorld w 5 t) :=
  ⟨rfl, rfl, rfl, by rw [Lib.bytesWorld_size]; omega, fun j hj => Lib.bytesWorld_at_old w 5 t j hj⟩
theorem parseInt_any (s : ByteArray) (hs : s.size ≤ 100000) (w : World) (hE : Env w) : Calls Tryz.prog 59 #[.string s, .int .i64 10, .int .i64 64] w (PI (okV (Lib.parseIntB 64 s.data.toList)) w) := by
  rcases hx : Lib.parseIntB 64 s.data.toList with v | _ | _
  · skip
    refine (Tryz.strconv_ParseInt_10_at64_ok s (by omega) v hx w).mono ?_
    rintro e w' ⟨rfl, rfl | ⟨t, rfl⟩⟩
    · exact ⟨Below.refl _ _, rfl⟩
    · exact ⟨bytesWorld_below _ _, rfl⟩
  · skip
    obtain ⟨tp, p, hv⟩ := hE.syn
    refine (Tryz.strconv_ParseInt_10_at64_syntax_var s (by omega) hx tp p w hv).mono ?_
    rintro e w' ⟨N, rfl, _, _, hb⟩
    exact ⟨hb, _, N, rfl⟩
  · skip
    obtain ⟨tp, p, hv⟩ := hE.rng
    refine (Tryz.strconv_ParseInt_10_at64_range_var s (by omega) hx tp p w hv).mono ?_
    rintro e w' ⟨N, rfl, _, _, hb⟩
    exact ⟨hb, _, N, rfl⟩
theorem set3_below {w w3 : World} {B b : Nat} (h : Below B w w3) (hb : B ≤ b) (x y z : Value) : Below B w (((w3.setCell ⟨b, 0, none⟩ x).setCell ⟨b, 1, none⟩ y).setCell ⟨b, 2, none⟩ z).drew :=
  (((h.setCell (p := ⟨b, 0, none⟩) hb x).setCell (p := ⟨b, 1, none⟩) hb y).setCell (p := ⟨b, 2, none⟩) hb z).drew
/-- the kind and the number that a text may tell -/
def numK (l : List UInt8) : Int := if (Lib.cut l [46]).2.2 then 3 else 2
def numV (l : List UInt8) : Option Int := okV (Lib.parseIntB 64 ((Lib.cut l [46]).1 ++ (Lib.cut l [46]).2.1))
def NB (k : Int) (o : Option Int) (w : World) : Ending → World → Prop := fun e w' => Below w.heap.size w w' ∧ match o with
  | some v => e = .returned (.tuple #[.agg #[.int .i64 k, .int .i64 v, .string ⟨#[]⟩], .bool true])
  | none => ∃ x, e = .returned (.tuple #[.agg #[.int .i64 k, .int .i64 x, .string ⟨#[]⟩], .bool false])
theorem cut_len (l : List UInt8) : (Lib.cut l [46]).1.length ≤ l.length ∧ (Lib.cut l [46]).2.1.length ≤ l.length := by
  unfold Lib.cut
  split
  · simp only [List.length_take, List.length_drop]; omega
  · simp
set_option maxRecDepth 100000 in
set_option maxHeartbeats 4000000 in
theorem number_any (s : ByteArray) (hs : s.size ≤ 1000) (w : World) (hE : Env w) : Calls Tryz.prog 43 #[.string s] w (NB (numK s.data.toList) (numV s.data.toList) w) := by
  have hsl := size_list s
  obtain ⟨hc1, hc2⟩ := cut_len s.data.toList
  have HKV : Hid (numK s.data.toList = (if (Lib.cut s.data.toList [46]).2.2 then 3 else 2) ∧ numV s.data.toList = okV (Lib.parseIntB 64 ((Lib.cut s.data.toList [46]).1 ++ (Lib.cut s.data.toList [46]).2.1))) := Lib.hid ⟨rfl, rfl⟩
  obtain ⟨mx, hm⟩ := hE.len
  have HCut := Lib.hid (fun w hm => Tryz.strings_Cut s ⟨#[46]⟩ mx w (by omega) hm)
  rw [show (⟨#[46]⟩ : ByteArray).data.toList = [46] from rfl] at HCut
  have HM := Lib.hid hm
  have HE := Lib.hid hE
  generalize numK s.data.toList = kk at HKV ⊢
  generalize numV s.data.toList = vv at HKV ⊢
  generalize Lib.cut s.data.toList [46] = c at HCut HKV hc1 hc2
  obtain ⟨x, y, p⟩ := c
  simp only at HCut HKV hc1 hc2
  have f1 : ¬ 9223372036854775807 < x.length + y.length := by omega
  have hxy : (⟨x.toArray⟩ : ByteArray) ++ (⟨y.toArray⟩ : ByteArray) = ⟨(x ++ y).toArray⟩ := by rw [cat_bytes]
  have HP := Lib.hid (parseInt_any ⟨(x ++ y).toArray⟩ (by rw [size_of, List.length_append]; omega))
  rw [show (⟨(x ++ y).toArray⟩ : ByteArray).data.toList = x ++ y from by simp, ← HKV.out.2] at HP
  have HXY := Lib.hid hxy
  have HK := Lib.hid HKV.out.1
  clear hxy hm hE hc1 hc2 hsl HKV
  cases p
  all_goals
    simp only [if_true, if_false, Bool.false_eq_true] at HK
    cases vv with
    | none =>
      have HP2 : Hid (∀ w, Env w → Calls Tryz.prog 59 #[.string ⟨(x ++ y).toArray⟩, .int .i64 10, .int .i64 64] w fun e w' => ∃ z N, e = .returned (.tuple #[.int .i64 z, .iface 148 (.pointer (some ⟨N, 0, none⟩))]) ∧ Below w.heap.size w w') := Lib.hid fun w h => (HP.out w h).mono fun e w' ⟨a, z, N, b⟩ => ⟨z, N, b, a⟩
      clear HP
      go_enter Tryz.func43, Tryz.ntmps43
      go_wp2_with (first
        | (go_at_call 58; refine (HCut.out _ (by exact ((alloc_below _ _).cell (p := ⟨2, 0, none⟩) (World.block_lt_of_cell? _ _ HM.out)).trans HM.out)).mono ?_; rintro e w' ⟨rfl, nd, rfl⟩)
        | (go_at_call 59; rw [HXY.out]; refine (HP2.out _ (by exact HE.out.below ((alloc_below _ _).trans ((drewN_below _ _).mono (alloc_below _ _).size)))).mono ?_; rintro e w3 ⟨z, N, rfl, hb⟩
           have hblk : w3.heap[w.heap.size]? = some (.cells #[.int .i64 0, .int .i64 0, .string ⟨#[]⟩] 24 (0, 0)) := (hb.block _ (by simp)).trans (heap_alloc_new _ _)
           obtain ⟨r0, r1, r2⟩ := box3 hblk
           have z0 := frozen3 hblk 0
           have z1 := frozen3 hblk 1
           have z2 := frozen3 hblk 2
           have HB := Lib.hid ((alloc_below w _).trans (((drewN_below _ _).trans hb).mono (alloc_below w _).size))
           clear hb hblk))
      go_region
      all_goals
        go_wp2_with fail
        exact bodyPost_ret (v := .tuple #[.agg #[.int .i64 kk, .int .i64 z, .string ⟨#[]⟩], .bool false]) (by rw [HK.out]; simp [results, Tryz.results43, go_sem, r0, r1, r2]) rfl ⟨set3_below HB.out (Nat.le_refl _) _ _ _, z, rfl⟩
    | some v =>
      have HP2 : Hid (∀ w, Env w → Calls Tryz.prog 59 #[.string ⟨(x ++ y).toArray⟩, .int .i64 10, .int .i64 64] w fun e w' => e = .returned (.tuple #[.int .i64 v, .nilIface]) ∧ Below w.heap.size w w') := Lib.hid fun w h => (HP.out w h).mono fun e w' ⟨a, b⟩ => ⟨b, a⟩
      clear HP
      go_enter Tryz.func43, Tryz.ntmps43
      go_wp2_with (first
        | (go_at_call 58; refine (HCut.out _ (by exact ((alloc_below _ _).cell (p := ⟨2, 0, none⟩) (World.block_lt_of_cell? _ _ HM.out)).trans HM.out)).mono ?_; rintro e w' ⟨rfl, nd, rfl⟩)
        | (go_at_call 59; rw [HXY.out]; refine (HP2.out _ (by exact HE.out.below ((alloc_below _ _).trans ((drewN_below _ _).mono (alloc_below _ _).size)))).mono ?_; rintro e w3 ⟨rfl, hb⟩
           have hblk : w3.heap[w.heap.size]? = some (.cells #[.int .i64 0, .int .i64 0, .string ⟨#[]⟩] 24 (0, 0)) := (hb.block _ (by simp)).trans (heap_alloc_new _ _)
           obtain ⟨r0, r1, r2⟩ := box3 hblk
           have z0 := frozen3 hblk 0
           have z1 := frozen3 hblk 1
           have z2 := frozen3 hblk 2
           have HB := Lib.hid ((alloc_below w _).trans (((drewN_below _ _).trans hb).mono (alloc_below w _).size))
           clear hb hblk))
      go_region
      all_goals
        go_wp2_with fail
        exact bodyPost_ret (v := .tuple #[.agg #[.int .i64 kk, .int .i64 v, .string ⟨#[]⟩], .bool true]) (by rw [HK.out]; simp [results, Tryz.results43, go_sem, r0, r1, r2]) rfl ⟨set3_below HB.out (Nat.le_refl _) _ _ _, rfl⟩
end Go.Proofs.YtneppncnccangaaGreatDoor

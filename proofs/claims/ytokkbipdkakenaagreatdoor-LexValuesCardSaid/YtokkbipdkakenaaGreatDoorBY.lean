/- LexValues: the law's own body answers true. -/
import Derived.Test.YtokkbipdkakenaaGreatDoorBU
import Derived.Test.YtokkbipdkakenaaGreatDoorBK
import Derived.Test.YtokkbipdkakenaaGreatDoorFS
namespace Go.Proofs.YtokkbipdkakenaaGreatDoor
open Go.RowKit

theorem wpAnyH_mono {P : Program} {md : Region.Mode} {ops : Array Oper} {Q : Exit → Act → World → Prop} {S S' : World → Prop} (hSS : ∀ w, S' w → S w) : ∀ {fuel : Nat} {listed : Array Bool} {a : Act} {w : World}, wpAnyH P md ops Q S' fuel listed a w → wpAnyH P md ops Q S fuel listed a w
  | 0, _, _, _, h => h
  | _ + 1, _, _, _, h => ⟨h.1, fun i hi => wpOp_mono (fun _ w' h' => ⟨hSS w' h'.1, wpAnyH_mono hSS h'.2⟩) (h.2 i hi)⟩
theorem below_cell {w w' : World} (hb : Below w.heap.size w w') {b j : Nat} {v : Value} (h : w.cell? ⟨b, j, none⟩ = some v) : w'.cell? ⟨b, j, none⟩ = some v := by
  have hlt := World.block_lt_of_cell? _ _ h
  rw [← h]
  exact World.cell?_of_block (a := ⟨b, j, none⟩) (hb.block b hlt)
set_option maxRecDepth 100000 in
set_option maxHeartbeats 4000000 in
theorem values_long (k n : Int) (s more : ByteArray) (hx : Val.ok ⟨k, n, s⟩) (hl : s.size ≤ 9223372036854775807) (hm : 400 < more.size) (w : World) (hE : Env w) : Calls Tryz.prog 3 #[.agg #[.int .i64 k, .int .i64 n, .string s], .string more] w (Ans (.bool true) w) := by
  have HX := Lib.hid (BX.first w #[.int .i64 k, .int .i64 n, .string s] 24)
  have HTX := Lib.hid (fun W (h : Env W) => text_any ⟨k, n, s⟩ hx hl W h)
  have HRT := Lib.hid (fun W => right_any ⟨k, n, s⟩ hl W)
  have HE := Lib.hid hE
  have HAL := Lib.hid (fun W (h : Env W) => alive16_any W h)
  unfold Val.v at HTX HRT
  simp only at HTX HRT
  have hmi : (400 : Int) < (more.size : Int) := by omega
  clear hx hl hE hm
  go_enter Tryz.func3, Tryz.ntmps3
  go_wp2_with (first
    | (go_at_call 4; refine (HTX.out _ (HE.out.below HX.out.bel)).mono ?_; rintro e w2 ⟨rfl, hb⟩; have HX := Lib.hid (HX.out.next hb); obtain ⟨p0, p1, p2⟩ := box3b HX.out.box; clear hb)
    | (go_at_call 5; refine (HRT.out _).mono ?_; rintro e w3 ⟨rfl, hb⟩; have HX := Lib.hid (HX.out.next hb); obtain ⟨p0, p1, p2⟩ := box3b HX.out.box; clear hb)
    | (go_at_call 6; refine (HAL.out _ (HE.out.below HX.out.bel)).mono ?_; rintro e w4 ⟨rfl, hb⟩; have HX := Lib.hid (HX.out.next hb); obtain ⟨p0, p1, p2⟩ := box3b HX.out.box; clear hb))
  go_ret
  exact ⟨rfl, HX.out.bel⟩
set_option maxRecDepth 100000 in
set_option maxHeartbeats 4000000 in
theorem values_wrong (k n : Int) (s more : ByteArray) (hx : Val.ok ⟨k, n, s⟩) (hl : s.size ≤ 9223372036854775807) (hm : more.size ≤ 400) (hr : rightB ⟨k, n, s⟩ = false) (w : World) (hE : Env w) : Calls Tryz.prog 3 #[.agg #[.int .i64 k, .int .i64 n, .string s], .string more] w (Ans (.bool true) w) := by
  have HX := Lib.hid (BX.first w #[.int .i64 k, .int .i64 n, .string s] 24)
  have HTX := Lib.hid (fun W (h : Env W) => text_any ⟨k, n, s⟩ hx hl W h)
  have HRT := Lib.hid (fun W => right_any ⟨k, n, s⟩ hl W)
  have HE := Lib.hid hE
  have HAL := Lib.hid (fun W (h : Env W) => alive16_any W h)
  unfold Val.v at HTX HRT
  simp only at HTX HRT
  rw [hr] at HRT
  have hmi : ¬ (400 : Int) < (more.size : Int) := by omega
  clear hx hl hE hm hr
  go_enter Tryz.func3, Tryz.ntmps3
  go_wp2_with (first
    | (go_at_call 4; refine (HTX.out _ (HE.out.below HX.out.bel)).mono ?_; rintro e w2 ⟨rfl, hb⟩; have HX := Lib.hid (HX.out.next hb); obtain ⟨p0, p1, p2⟩ := box3b HX.out.box; clear hb)
    | (go_at_call 5; refine (HRT.out _).mono ?_; rintro e w3 ⟨rfl, hb⟩; have HX := Lib.hid (HX.out.next hb); obtain ⟨p0, p1, p2⟩ := box3b HX.out.box; clear hb)
    | (go_at_call 6; refine (HAL.out _ (HE.out.below HX.out.bel)).mono ?_; rintro e w4 ⟨rfl, hb⟩; have HX := Lib.hid (HX.out.next hb); obtain ⟨p0, p1, p2⟩ := box3b HX.out.box; clear hb))
  go_ret
  exact ⟨rfl, HX.out.bel⟩
set_option maxRecDepth 100000 in
set_option maxHeartbeats 4000000 in
theorem values_kind (k n : Int) (s more : ByteArray) (hx : Val.ok ⟨k, n, s⟩) (hl : s.size ≤ 9223372036854775807) (hm : more.size ≤ 400) (hr : rightB ⟨k, n, s⟩ = true) (hk : k < 2) (w : World) (hE : Env w) : Calls Tryz.prog 3 #[.agg #[.int .i64 k, .int .i64 n, .string s], .string more] w (Ans (.bool true) w) := by
  have HX := Lib.hid (BX.first w #[.int .i64 k, .int .i64 n, .string s] 24)
  have HTX := Lib.hid (fun W (h : Env W) => text_any ⟨k, n, s⟩ hx hl W h)
  have HRT := Lib.hid (fun W => right_any ⟨k, n, s⟩ hl W)
  have HE := Lib.hid hE
  have HAL := Lib.hid (fun W (h : Env W) => alive16_any W h)
  unfold Val.v at HTX HRT
  simp only at HTX HRT
  rw [hr] at HRT
  have hmi : ¬ (400 : Int) < (more.size : Int) := by omega
  clear hx hl hE hm hr
  go_enter Tryz.func3, Tryz.ntmps3
  go_wp2_with (first
    | (go_at_call 4; refine (HTX.out _ (HE.out.below HX.out.bel)).mono ?_; rintro e w2 ⟨rfl, hb⟩; have HX := Lib.hid (HX.out.next hb); obtain ⟨p0, p1, p2⟩ := box3b HX.out.box; clear hb)
    | (go_at_call 5; refine (HRT.out _).mono ?_; rintro e w3 ⟨rfl, hb⟩; have HX := Lib.hid (HX.out.next hb); obtain ⟨p0, p1, p2⟩ := box3b HX.out.box; clear hb)
    | (go_at_call 6; refine (HAL.out _ (HE.out.below HX.out.bel)).mono ?_; rintro e w4 ⟨rfl, hb⟩; have HX := Lib.hid (HX.out.next hb); obtain ⟨p0, p1, p2⟩ := box3b HX.out.box; clear hb))
  go_ret
  exact ⟨rfl, HX.out.bel⟩
set_option maxRecDepth 100000 in
set_option maxHeartbeats 4000000 in
theorem values_less (k n : Int) (s more : ByteArray) (hx : Val.ok ⟨k, n, s⟩) (hl : s.size ≤ 9223372036854775807) (hm : more.size ≤ 400) (hr : rightB ⟨k, n, s⟩ = true) (hk : ¬ k < 2) (hn : n < 0) (w : World) (hE : Env w) : Calls Tryz.prog 3 #[.agg #[.int .i64 k, .int .i64 n, .string s], .string more] w (Ans (.bool true) w) := by
  have HX := Lib.hid (BX.first w #[.int .i64 k, .int .i64 n, .string s] 24)
  have HTX := Lib.hid (fun W (h : Env W) => text_any ⟨k, n, s⟩ hx hl W h)
  have HRT := Lib.hid (fun W => right_any ⟨k, n, s⟩ hl W)
  have HE := Lib.hid hE
  have HAL := Lib.hid (fun W (h : Env W) => alive16_any W h)
  unfold Val.v at HTX HRT
  simp only at HTX HRT
  rw [hr] at HRT
  have hmi : ¬ (400 : Int) < (more.size : Int) := by omega
  clear hx hl hE hm hr
  go_enter Tryz.func3, Tryz.ntmps3
  go_wp2_with (first
    | (go_at_call 4; refine (HTX.out _ (HE.out.below HX.out.bel)).mono ?_; rintro e w2 ⟨rfl, hb⟩; have HX := Lib.hid (HX.out.next hb); obtain ⟨p0, p1, p2⟩ := box3b HX.out.box; clear hb)
    | (go_at_call 5; refine (HRT.out _).mono ?_; rintro e w3 ⟨rfl, hb⟩; have HX := Lib.hid (HX.out.next hb); obtain ⟨p0, p1, p2⟩ := box3b HX.out.box; clear hb)
    | (go_at_call 6; refine (HAL.out _ (HE.out.below HX.out.bel)).mono ?_; rintro e w4 ⟨rfl, hb⟩; have HX := Lib.hid (HX.out.next hb); obtain ⟨p0, p1, p2⟩ := box3b HX.out.box; clear hb))
  go_ret
  exact ⟨rfl, HX.out.bel⟩
/-- the text alone -/
theorem values_one {L : ByteArray} {kk k n : Int} {s : ByteArray} (h : firstL L.data.toList = some ⟨kk, L.data.toList, (k, n, s.data.toList), 0⟩) (hl : L.data.toList.length ≤ 1000) (w : World) (hE : Env w) : Calls Tryz.prog 7 #[.string L] w fun e w' => ∃ b o cap, e = .returned (.tuple #[.slice (some ⟨b, o, none⟩) 2 cap, .nilIface]) ∧ Below w.heap.size w w' ∧
    w'.cell? ⟨b, o + 1, none⟩ = some (.string L) ∧ w'.cell? ⟨b, o + 2, none⟩ = some (.int .i64 k) ∧ w'.cell? ⟨b, o + 3, none⟩ = some (.int .i64 n) ∧ w'.cell? ⟨b, o + 4, none⟩ = some (.string s) ∧ w'.cell? ⟨b, o + 5, none⟩ = some (.int .i64 0) := by
  refine (lex_known (one_token h rfl hl) w hE).mono ?_
  rintro e w' ⟨A, cap, he, hb, hr, _⟩
  obtain ⟨b, o, hA, _, hc⟩ := hr (by simp)
  subst hA
  exact ⟨b, o, cap, he, hb, hc 1 _ rfl, hc 2 _ rfl, hc 3 _ rfl, hc 4 _ rfl, hc 5 _ rfl⟩
/-- the text, and more behind it, where these are tokens -/
theorem values_more {L S : ByteArray} {M : List UInt8} {kk k n : Int} {s : ByteArray} (h : firstL L.data.toList = some ⟨kk, L.data.toList, (k, n, s.data.toList), 0⟩) (hS : S.data.toList = L.data.toList ++ 32 :: M) (ts : List Tok) (hts : LexL S.data.toList ts) :
    ∃ m : Nat, 1 < m ∧ m ≤ 1001 ∧ ∀ (w : World), Env w → Calls Tryz.prog 7 #[.string S] w fun e w' => ∃ b o cap, e = .returned (.tuple #[.slice (some ⟨b, o, none⟩) m cap, .nilIface]) ∧ Below w.heap.size w w' ∧
    w'.cell? ⟨b, o + 2, none⟩ = some (.int .i64 k) ∧ w'.cell? ⟨b, o + 3, none⟩ = some (.int .i64 n) ∧ w'.cell? ⟨b, o + 4, none⟩ = some (.string s) := by
  have hlen := hts.2.len
  rw [List.length_drop] at hlen
  have h1000 := hts.1
  have hl2 : ts.length ≤ 1001 := by omega
  have hts2 := hts
  rw [hS] at hts2
  obtain ⟨us, rfl, hus⟩ := (one_more h rfl).1 ts hts2
  have hu := List.length_pos_iff.2 hus
  refine ⟨us.length + 1, by omega, by rw [List.length_cons] at hl2; exact hl2, fun w hE => (lex_known hts w hE).mono ?_⟩
  rintro e w' ⟨A, cap, he, hb, hr, _⟩
  obtain ⟨b, o, hA, _, hc⟩ := hr (by simp)
  subst hA
  exact ⟨b, o, cap, he, hb, hc 2 _ rfl, hc 3 _ rfl, hc 4 _ rfl⟩
/-- .. where they are not -/
theorem values_not {L S : ByteArray} {M : List UInt8} {kk k n : Int} {s : ByteArray} (h : firstL L.data.toList = some ⟨kk, L.data.toList, (k, n, s.data.toList), 0⟩) (hS : S.data.toList = L.data.toList ++ 32 :: M) (hlen : S.data.toList.length ≤ 1000) (hno : ¬ ∃ ts, LexL S.data.toList ts) (w : World) (hE : Env w) :
    Calls Tryz.prog 7 #[.string S] w fun e w' => ∃ N p : Nat, e = .returned (.tuple #[.slice none 0 0, .iface 53 (.pointer (some ⟨N, 0, none⟩))]) ∧ Below w.heap.size w w' ∧ L.size < p ∧ Lone w' N 161 (p : Int) := by
  refine (lex_any S w hE).mono ?_
  rintro e w' ⟨hb, ⟨us, A, cap, _, hl, _⟩ | ⟨N, p, he, hz, _, hf⟩⟩
  · exact absurd ⟨us, hl⟩ hno
  · rw [hS] at hz hlen
    have := (one_more h rfl).2 p hlen hz
    rw [size_list'] at this
    exact ⟨N, p, he, hb, this, hf⟩
set_option maxRecDepth 100000 in
set_option maxHeartbeats 16000000 in
theorem values_bad (k n : Int) (s more : ByteArray) (hx : Val.ok ⟨k, n, s⟩) (hl : s.size ≤ 9223372036854775807) (hm : more.size ≤ 400) (hr : rightB ⟨k, n, s⟩ = true) (hk : ¬ k < 2) (hn : ¬ n < 0) (w : World) (hE : Env w) (hg : Handle w)
    (hts : ¬ ∃ ts, LexL ((textS ⟨k, n, s⟩ ++ (⟨#[32]⟩ : ByteArray)) ++ more).data.toList ts) : Calls Tryz.prog 3 #[.agg #[.int .i64 k, .int .i64 n, .string s], .string more] w (Ans (.bool true) w) := by
  have HX := Lib.hid (BX.first w #[.int .i64 k, .int .i64 n, .string s] 24)
  have HTX := Lib.hid (fun W (h : Env W) => text_any ⟨k, n, s⟩ hx hl W h)
  have HRT := Lib.hid (fun W => right_any ⟨k, n, s⟩ hl W)
  have HE := Lib.hid hE
  have HAL := Lib.hid (fun W (h : Env W) => alive16_any W h)
  unfold Val.v at HTX HRT
  simp only at HTX HRT
  rw [hr] at HRT
  have hmi : ¬ (400 : Int) < (more.size : Int) := by omega
  have HG := Lib.hid hg
  obtain ⟨kk, hf, h500⟩ := first_value ⟨k, n, s⟩ hx hr (by show 2 ≤ k; omega) (by show 0 ≤ n; omega)
  obtain ⟨L, hL⟩ : ∃ L, L = textS ⟨k, n, s⟩ := ⟨_, rfl⟩
  rw [← hL] at hf h500 hts HTX
  simp only at hf
  have hS : ((L ++ (⟨#[32]⟩ : ByteArray)) ++ more).data.toList = L.data.toList ++ 32 :: more.data.toList := by rw [cat_list, cat_list]; simp
  have HL1 := Lib.hid (fun W (h : Env W) => values_one (s := s) hf (by omega) W h)
  have HLM := Lib.hid (fun W (h : Env W) => values_not (s := s) hf hS (by rw [hS]; have := size_list' more; rw [List.length_append, List.length_cons]; omega) hts W h)
  have hLs : L.size ≤ 500 := by rw [← size_list']; exact h500
  have N1 : Hid (¬ 9223372036854775807 < L.size + 1) := Lib.hid (by omega)
  have N2 : Hid (¬ 9223372036854775807 < L.size + 1 + more.size) := Lib.hid (by omega)
  have hLi : (L.size : Int) ≤ 500 := by omega
  clear hx hl hm hr hE hg hf h500 hL hS hts hLs
  go_enter Tryz.func3, Tryz.ntmps3
  go_wp2_with (first
    | (go_at_call 4; refine (HTX.out _ (HE.out.below HX.out.bel)).mono ?_; rintro e w2 ⟨rfl, hb⟩; have HX := Lib.hid (HX.out.next hb); obtain ⟨p0, p1, p2⟩ := box3b HX.out.box; clear hb)
    | (go_at_call 5; refine (HRT.out _).mono ?_; rintro e w3 ⟨rfl, hb⟩; have HX := Lib.hid (HX.out.next hb); obtain ⟨p0, p1, p2⟩ := box3b HX.out.box; clear hb)
    | (go_at_call 7; (with_reducible refine (HL1.out _ (HE.out.below HX.out.bel)).mono ?_); rintro e w4 ⟨b, o, cap, rfl, hb, c1, c2, c3, c4, c5⟩; have HX := Lib.hid (HX.out.next hb); obtain ⟨p0, p1, p2⟩ := box3b HX.out.box; clear hb))
  clear hk hn hmi
  go_quiet (fail)
  have n1 := N1.out
  have n2 := N2.out
  go_wp2_with (first
    | (go_at_call 7
       refine (HLM.out _ (HE.out.below (HX.out.next (drewN_below _ _)).bel)).mono ?_
       rintro e w5 ⟨N, p, rfl, hb, hp, hlo⟩
       have HX := Lib.hid ((HX.out.next (drewN_below _ _)).next hb)
       have hpi : (L.size : Int) < (p : Int) := by omega
       have HLO := Lib.hid hlo
       clear hb hp hlo)
    | (go_at_call 6; refine (HAL.out _ (HE.out.below HX.out.bel)).mono ?_; rintro e w6 ⟨rfl, hb⟩; have HX := Lib.hid (HX.out.next hb); have HLO := Lib.hid (HLO.out.below hb); clear hb)
    | (go_at_call 8; refine (at_one HLO.out (HG.out.below HX.out.bel)).mono ?_; rintro e w7 ⟨rfl, hb⟩; have HX := Lib.hid (HX.out.next hb); clear hb))
  go_ret
  exact ⟨rfl, HX.out.bel⟩
set_option maxRecDepth 100000 in
set_option maxHeartbeats 16000000 in
theorem values_good (k n : Int) (s more : ByteArray) (hx : Val.ok ⟨k, n, s⟩) (hl : s.size ≤ 9223372036854775807) (hm : more.size ≤ 400) (hr : rightB ⟨k, n, s⟩ = true) (hk : ¬ k < 2) (hn : ¬ n < 0) (w : World) (hE : Env w) (hg : Handle w)
    (hts : ∃ ts, LexL ((textS ⟨k, n, s⟩ ++ (⟨#[32]⟩ : ByteArray)) ++ more).data.toList ts) : Calls Tryz.prog 3 #[.agg #[.int .i64 k, .int .i64 n, .string s], .string more] w (Ans (.bool true) w) := by
  have HX := Lib.hid (BX.first w #[.int .i64 k, .int .i64 n, .string s] 24)
  have HTX := Lib.hid (fun W (h : Env W) => text_any ⟨k, n, s⟩ hx hl W h)
  have HRT := Lib.hid (fun W => right_any ⟨k, n, s⟩ hl W)
  have HE := Lib.hid hE
  have HAL := Lib.hid (fun W (h : Env W) => alive16_any W h)
  unfold Val.v at HTX HRT
  simp only at HTX HRT
  rw [hr] at HRT
  have hmi : ¬ (400 : Int) < (more.size : Int) := by omega
  have HG := Lib.hid hg
  obtain ⟨kk, hf, h500⟩ := first_value ⟨k, n, s⟩ hx hr (by show 2 ≤ k; omega) (by show 0 ≤ n; omega)
  obtain ⟨L, hL⟩ : ∃ L, L = textS ⟨k, n, s⟩ := ⟨_, rfl⟩
  rw [← hL] at hf h500 hts HTX
  simp only at hf
  have hS : ((L ++ (⟨#[32]⟩ : ByteArray)) ++ more).data.toList = L.data.toList ++ 32 :: more.data.toList := by rw [cat_list, cat_list]; simp
  have HL1 := Lib.hid (fun W (h : Env W) => values_one (s := s) hf (by omega) W h)
  obtain ⟨ts, hts⟩ := hts
  obtain ⟨m, hm1, hm2, hC⟩ := values_more (s := s) hf hS ts hts
  have HLM := Lib.hid hC
  have hm3 : (1 : Int) < (m : Int) := by omega
  have hm4 : (m : Int) ≤ 1001 := by omega
  have hm0 : 0 < m := by omega
  clear hC hm1 hm2
  have hLs : L.size ≤ 500 := by rw [← size_list']; exact h500
  have N1 : Hid (¬ 9223372036854775807 < L.size + 1) := Lib.hid (by omega)
  have N2 : Hid (¬ 9223372036854775807 < L.size + 1 + more.size) := Lib.hid (by omega)
  have hLi : (L.size : Int) ≤ 500 := by omega
  clear hx hl hm hr hE hg hf h500 hL hS hts hLs
  go_enter Tryz.func3, Tryz.ntmps3
  go_wp2_with (first
    | (go_at_call 4; refine (HTX.out _ (HE.out.below HX.out.bel)).mono ?_; rintro e w2 ⟨rfl, hb⟩; have HX := Lib.hid (HX.out.next hb); obtain ⟨p0, p1, p2⟩ := box3b HX.out.box; clear hb)
    | (go_at_call 5; refine (HRT.out _).mono ?_; rintro e w3 ⟨rfl, hb⟩; have HX := Lib.hid (HX.out.next hb); obtain ⟨p0, p1, p2⟩ := box3b HX.out.box; clear hb)
    | (go_at_call 7; (with_reducible refine (HL1.out _ (HE.out.below HX.out.bel)).mono ?_); rintro e w4 ⟨b, o, cap, rfl, hb, c1, c2, c3, c4, c5⟩; have HX := Lib.hid (HX.out.next hb); obtain ⟨p0, p1, p2⟩ := box3b HX.out.box; clear hb))
  clear hk hn hmi
  go_quiet (fail)
  have n1 := N1.out
  have n2 := N2.out
  go_wp2_with (go_at_call 7
               refine (HLM.out _ (HE.out.below (HX.out.next (drewN_below _ _)).bel)).mono ?_
               rintro e w5 ⟨b5, o5, cap5, rfl, hb, d2, d3, d4⟩
               have HX := Lib.hid ((HX.out.next (drewN_below _ _)).next hb)
               clear hb)
  clear n1 n2
  have HX5 := Lib.hid HX.out
  have HD2 := Lib.hid d2
  have HD3 := Lib.hid d3
  have HD4 := Lib.hid d4
  clear d2 d3 d4
  refine wp_region_held_drew (S := fun _ => True) (by kernel_rfl) trivial (fun _ => ?_)
  refine wpAnyH_ready (rs := [0]) (by kernel_rfl) (by simp) ?_
  refine AllReadyH.cons (o := ({ dst := Option.some 93, op := Go.Op.call { callee := Go.Callee.value (Go.Operand.func 6), args := #[], argTypes := #[] }, type := 4, pos := "law.go:117", after := #[], guard := Option.none } : Oper)) rfl (fun K0 hK0 => ?_) AllReadyH.nil
  go_simp
  go_at_call 6
  refine (HAL.out _ (HE.out.below (HX5.out.drew).bel)).mono ?_
  rintro e w6 ⟨rfl, hb⟩
  have hb5 := (drew_below w5).trans hb
  have HX6 := Lib.hid (HX5.out.next hb5)
  have hq := box3b HX6.out.box
  have hSS : (fun W => W.cell? ⟨b5, o5 + 2, none⟩ = some (.int .i64 k) ∧ W.cell? ⟨b5, o5 + 3, none⟩ = some (.int .i64 n) ∧ W.cell? ⟨b5, o5 + 4, none⟩ = some (.string s) ∧ W.cell? ⟨w.heap.size, 0, none⟩ = some (.int .i64 k) ∧ W.cell? ⟨w.heap.size, 1, none⟩ = some (.int .i64 n) ∧ W.cell? ⟨w.heap.size, 2, none⟩ = some (.string s)) w6 := ⟨below_cell hb5 HD2.out, below_cell hb5 HD3.out, below_cell hb5 HD4.out, hq.1, hq.2.1, hq.2.2⟩
  clear hb hb5 hq
  try go_wp2_with fail
  refine hK0.out _ _ trivial (fun _ => ?_)
  clear hK0 K0
  try simp only [Act.put, List.setIfInBounds_toArray, List.set_cons_zero, List.set_cons_succ]
  refine wpAnyH_mono (S' := (fun W => W.cell? ⟨b5, o5 + 2, none⟩ = some (.int .i64 k) ∧ W.cell? ⟨b5, o5 + 3, none⟩ = some (.int .i64 n) ∧ W.cell? ⟨b5, o5 + 4, none⟩ = some (.string s) ∧ W.cell? ⟨w.heap.size, 0, none⟩ = some (.int .i64 k) ∧ W.cell? ⟨w.heap.size, 1, none⟩ = some (.int .i64 n) ∧ W.cell? ⟨w.heap.size, 2, none⟩ = some (.string s))) (fun _ _ => trivial) ?_
  refine wpAnyH_take (i := 1) (oi := ({ dst := Option.some 94, op := Go.Op.move (Go.Operand.tmp 93), type := 4, pos := "law.go:117", after := #[{ on := 0, ground := Go.Ground.data }, { on := 0, ground := Go.Ground.chain }], guard := Option.none } : Oper)) (v := ?v1x1) rfl (by kernel_rfl) (by kernel_rfl) (by kernel_rfl) (fun _ _ _ h => h) (Or.inl ⟨by rfl, ?hy1x1⟩) (by first | exact trivial | assumption) ?rest1x1
  case hy1x1 =>
    intro W0 hSw
    obtain ⟨s1, s2, s3, s4, s5, s6⟩ := hSw
    go_simp
    first | done | with_reducible rfl
  try simp only [Act.put, List.setIfInBounds_toArray, List.set_cons_zero, List.set_cons_succ]
  refine wpAnyH_take (i := 2) (oi := ({ dst := Option.some 95, op := Go.Op.move (Go.Operand.tmp 8), type := 28, pos := "law.go:117", after := #[{ on := 1, ground := Go.Ground.guard }], guard := Option.some (1, Bool.true) } : Oper)) (v := ?v2x2) rfl (by kernel_rfl) (by kernel_rfl) (by kernel_rfl) (fun _ _ _ h => h) (Or.inl ⟨by rfl, ?hy2x2⟩) (by first | exact trivial | assumption) ?rest2x2
  case hy2x2 =>
    intro W0 hSw
    obtain ⟨s1, s2, s3, s4, s5, s6⟩ := hSw
    go_simp
    first | done | with_reducible rfl
  try simp only [Act.put, List.setIfInBounds_toArray, List.set_cons_zero, List.set_cons_succ]
  refine wpAnyH_take (i := 3) (oi := ({ dst := Option.some 96, op := Go.Op.call { callee := Go.Callee.builtin Go.Builtin.len, args := #[Go.Operand.tmp 95], argTypes := #[28] }, type := 3, pos := "law.go:117", after := #[{ on := 2, ground := Go.Ground.data }, { on := 1, ground := Go.Ground.guard }], guard := Option.some (1, Bool.true) } : Oper)) (v := ?v3x3) rfl (by kernel_rfl) (by kernel_rfl) (by kernel_rfl) (fun _ _ _ h => h) (Or.inl ⟨by rfl, ?hy3x3⟩) (by first | exact trivial | assumption) ?rest3x3
  case hy3x3 =>
    intro W0 hSw
    obtain ⟨s1, s2, s3, s4, s5, s6⟩ := hSw
    go_simp
    first | done | with_reducible rfl
  try simp only [Act.put, List.setIfInBounds_toArray, List.set_cons_zero, List.set_cons_succ]
  refine wpAnyH_take (i := 4) (oi := ({ dst := Option.some 97, op := Go.Op.binOp Go.BinOp.gtr 3 (Go.Operand.tmp 96) (Go.Operand.const (Go.Value.int Go.IntKind.i64 1)) 3, type := 4, pos := "law.go:117", after := #[{ on := 3, ground := Go.Ground.data }, { on := 1, ground := Go.Ground.guard }], guard := Option.some (1, Bool.true) } : Oper)) (v := ?v4x4) rfl (by kernel_rfl) (by kernel_rfl) (by kernel_rfl) (fun _ _ _ h => h) (Or.inl ⟨by rfl, ?hy4x4⟩) (by first | exact trivial | assumption) ?rest4x4
  case hy4x4 =>
    intro W0 hSw
    obtain ⟨s1, s2, s3, s4, s5, s6⟩ := hSw
    go_simp
    first | done | with_reducible rfl
  try simp only [Act.put, List.setIfInBounds_toArray, List.set_cons_zero, List.set_cons_succ]
  refine wpAnyH_take (i := 5) (oi := ({ dst := Option.some 98, op := Go.Op.pick (Go.Operand.tmp 94) (Go.Operand.tmp 97) (Go.Operand.const (Go.Value.bool Bool.false)), type := 4, pos := "law.go:117", after := #[{ on := 1, ground := Go.Ground.data }, { on := 4, ground := Go.Ground.data }], guard := Option.none } : Oper)) (v := ?v5x5) rfl (by kernel_rfl) (by kernel_rfl) (by kernel_rfl) (fun _ _ _ h => h) (Or.inl ⟨by rfl, ?hy5x5⟩) (by first | exact trivial | assumption) ?rest5x5
  case hy5x5 =>
    intro W0 hSw
    obtain ⟨s1, s2, s3, s4, s5, s6⟩ := hSw
    go_simp
    first | done | with_reducible rfl
  try simp only [Act.put, List.setIfInBounds_toArray, List.set_cons_zero, List.set_cons_succ]
  refine wpAnyH_take (i := 6) (oi := ({ dst := Option.some 99, op := Go.Op.move (Go.Operand.tmp 98), type := 4, pos := "law.go:117", after := #[{ on := 5, ground := Go.Ground.data }, { on := 1, ground := Go.Ground.chain }], guard := Option.none } : Oper)) (v := ?v6x6) rfl (by kernel_rfl) (by kernel_rfl) (by kernel_rfl) (fun _ _ _ h => h) (Or.inl ⟨by rfl, ?hy6x6⟩) (by first | exact trivial | assumption) ?rest6x6
  case hy6x6 =>
    intro W0 hSw
    obtain ⟨s1, s2, s3, s4, s5, s6⟩ := hSw
    go_simp
    first | done | with_reducible rfl
  try simp only [Act.put, List.setIfInBounds_toArray, List.set_cons_zero, List.set_cons_succ]
  refine wpAnyH_take (i := 7) (oi := ({ dst := Option.some 100, op := Go.Op.move (Go.Operand.tmp 8), type := 28, pos := "law.go:117", after := #[{ on := 6, ground := Go.Ground.guard }], guard := Option.some (6, Bool.true) } : Oper)) (v := ?v7x7) rfl (by kernel_rfl) (by kernel_rfl) (by kernel_rfl) (fun _ _ _ h => h) (Or.inl ⟨by rfl, ?hy7x7⟩) (by first | exact trivial | assumption) ?rest7x7
  case hy7x7 =>
    intro W0 hSw
    obtain ⟨s1, s2, s3, s4, s5, s6⟩ := hSw
    go_simp
    first | done | with_reducible rfl
  try simp only [Act.put, List.setIfInBounds_toArray, List.set_cons_zero, List.set_cons_succ]
  refine wpAnyH_take (i := 8) (oi := ({ dst := Option.some 101, op := Go.Op.indexAddr 28 (Go.Operand.tmp 100) (Go.Operand.const (Go.Value.int Go.IntKind.i64 0)), type := 0, pos := "law.go:117", after := #[{ on := 7, ground := Go.Ground.data }, { on := 6, ground := Go.Ground.guard }], guard := Option.some (6, Bool.true) } : Oper)) (v := ?v8x8) rfl (by kernel_rfl) (by kernel_rfl) (by kernel_rfl) (fun _ _ _ h => h) (Or.inl ⟨by rfl, ?hy8x8⟩) (by first | exact trivial | assumption) ?rest8x8
  case hy8x8 =>
    intro W0 hSw
    obtain ⟨s1, s2, s3, s4, s5, s6⟩ := hSw
    go_simp
    first | done | with_reducible rfl
  try simp only [Act.put, List.setIfInBounds_toArray, List.set_cons_zero, List.set_cons_succ]
  refine wpAnyH_take (i := 9) (oi := ({ dst := Option.some 102, op := Go.Op.fieldAddr 35 (Go.Operand.tmp 101) 2, type := 0, pos := "law.go:117", after := #[{ on := 8, ground := Go.Ground.data }, { on := 6, ground := Go.Ground.guard }], guard := Option.some (6, Bool.true) } : Oper)) (v := ?v9x9) rfl (by kernel_rfl) (by kernel_rfl) (by kernel_rfl) (fun _ _ _ h => h) (Or.inl ⟨by rfl, ?hy9x9⟩) (by first | exact trivial | assumption) ?rest9x9
  case hy9x9 =>
    intro W0 hSw
    obtain ⟨s1, s2, s3, s4, s5, s6⟩ := hSw
    go_simp
    first | done | with_reducible rfl
  try simp only [Act.put, List.setIfInBounds_toArray, List.set_cons_zero, List.set_cons_succ]
  refine wpAnyH_take (i := 10) (oi := ({ dst := Option.some 103, op := Go.Op.load 24 (Go.Operand.tmp 102), type := 24, pos := "law.go:117", after := #[{ on := 9, ground := Go.Ground.data }, { on := 6, ground := Go.Ground.guard }], guard := Option.some (6, Bool.true) } : Oper)) (v := ?v10x10) rfl (by kernel_rfl) (by kernel_rfl) (by kernel_rfl) (fun _ _ _ h => h) (Or.inl ⟨by rfl, ?hy10x10⟩) (by first | exact trivial | assumption) ?rest10x10
  case hy10x10 =>
    intro W0 hSw
    obtain ⟨s1, s2, s3, s4, s5, s6⟩ := hSw
    go_simp
    first | done | with_reducible rfl
  try simp only [Act.put, List.setIfInBounds_toArray, List.set_cons_zero, List.set_cons_succ]
  refine wpAnyH_take (i := 11) (oi := ({ dst := Option.some 104, op := Go.Op.load 24 (Go.Operand.tmp 2), type := 24, pos := "law.go:117", after := #[{ on := 6, ground := Go.Ground.guard }], guard := Option.some (6, Bool.true) } : Oper)) (v := ?v11x11) rfl (by kernel_rfl) (by kernel_rfl) (by kernel_rfl) (fun _ _ _ h => h) (Or.inl ⟨by rfl, ?hy11x11⟩) (by first | exact trivial | assumption) ?rest11x11
  case hy11x11 =>
    intro W0 hSw
    obtain ⟨s1, s2, s3, s4, s5, s6⟩ := hSw
    go_simp
    first | done | with_reducible rfl
  try simp only [Act.put, List.setIfInBounds_toArray, List.set_cons_zero, List.set_cons_succ]
  refine wpAnyH_take (i := 12) (oi := ({ dst := Option.some 105, op := Go.Op.binOp Go.BinOp.eql 24 (Go.Operand.tmp 103) (Go.Operand.tmp 104) 24, type := 4, pos := "law.go:117", after := #[{ on := 10, ground := Go.Ground.data }, { on := 11, ground := Go.Ground.data }, { on := 6, ground := Go.Ground.guard }], guard := Option.some (6, Bool.true) } : Oper)) (v := ?v12x12) rfl (by kernel_rfl) (by kernel_rfl) (by kernel_rfl) (fun _ _ _ h => h) (Or.inl ⟨by rfl, ?hy12x12⟩) (by first | exact trivial | assumption) ?rest12x12
  case hy12x12 =>
    intro W0 hSw
    obtain ⟨s1, s2, s3, s4, s5, s6⟩ := hSw
    go_simp
    first | done | with_reducible rfl
  try simp only [Act.put, List.setIfInBounds_toArray, List.set_cons_zero, List.set_cons_succ]
  refine wpAnyH_take (i := 13) (oi := ({ dst := Option.some 106, op := Go.Op.pick (Go.Operand.tmp 99) (Go.Operand.tmp 105) (Go.Operand.const (Go.Value.bool Bool.false)), type := 4, pos := "law.go:117", after := #[{ on := 6, ground := Go.Ground.data }, { on := 12, ground := Go.Ground.data }], guard := Option.none } : Oper)) (v := ?v13x13) rfl (by kernel_rfl) (by kernel_rfl) (by kernel_rfl) (fun _ _ _ h => h) (Or.inl ⟨by rfl, ?hy13x13⟩) (by first | exact trivial | assumption) ?rest13x13
  case hy13x13 =>
    intro W0 hSw
    obtain ⟨s1, s2, s3, s4, s5, s6⟩ := hSw
    go_simp
    first | done | with_reducible rfl
  try simp only [Act.put, List.setIfInBounds_toArray, List.set_cons_zero, List.set_cons_succ]
  refine wpAnyH_take (i := 14) (oi := ({ dst := Option.some 4, op := Go.Op.assign (Go.Operand.tmp 106), type := 4, pos := "law.go:117", after := #[{ on := 13, ground := Go.Ground.data }, { on := 6, ground := Go.Ground.chain }, { on := 0, ground := Go.Ground.phase }, { on := 1, ground := Go.Ground.phase }, { on := 2, ground := Go.Ground.phase }, { on := 3, ground := Go.Ground.phase }, { on := 4, ground := Go.Ground.phase }, { on := 5, ground := Go.Ground.phase }, { on := 6, ground := Go.Ground.phase }, { on := 7, ground := Go.Ground.phase }, { on := 8, ground := Go.Ground.phase }, { on := 9, ground := Go.Ground.phase }, { on := 10, ground := Go.Ground.phase }, { on := 11, ground := Go.Ground.phase }, { on := 12, ground := Go.Ground.phase }, { on := 13, ground := Go.Ground.phase }], guard := Option.none } : Oper)) (v := ?v14x14) rfl (by kernel_rfl) (by kernel_rfl) (by kernel_rfl) (fun _ _ _ h => h) (Or.inl ⟨by rfl, ?hy14x14⟩) (by first | exact trivial | assumption) ?rest14x14
  case hy14x14 =>
    intro W0 hSw
    obtain ⟨s1, s2, s3, s4, s5, s6⟩ := hSw
    go_simp
    first | done | with_reducible rfl
  try simp only [Act.put, List.setIfInBounds_toArray, List.set_cons_zero, List.set_cons_succ]
  refine wpAnyH_done (by kernel_rfl) ?_ _
  go_wp2_with fail
  go_ret
  exact ⟨rfl, HX6.out.bel⟩
theorem values_law (x : Val) (hx : x.ok) (hl : x.s.size ≤ maxLen) (more : ByteArray) (w : World) (hE : Env w) (hg : Handle w) : Calls Tryz.prog 3 #[x.v, .string more] w (Ans (.bool true) w) := by
  obtain ⟨k, n, s⟩ := x
  have hl2 : s.size ≤ 9223372036854775807 := by unfold maxLen at hl; exact Nat.le_trans hl (by decide)
  show Calls Tryz.prog 3 #[.agg #[.int .i64 k, .int .i64 n, .string s], .string more] w (Ans (.bool true) w)
  by_cases hm : 400 < more.size
  · exact values_long k n s more hx hl2 hm w hE
  · cases hr : rightB ⟨k, n, s⟩ with
    | false => exact values_wrong k n s more hx hl2 (by omega) hr w hE
    | true =>
      by_cases hk : k < 2
      · exact values_kind k n s more hx hl2 (by omega) hr hk w hE
      · by_cases hn : n < 0
        · exact values_less k n s more hx hl2 (by omega) hr hk hn w hE
        · by_cases hts : ∃ ts, LexL ((textS ⟨k, n, s⟩ ++ (⟨#[32]⟩ : ByteArray)) ++ more).data.toList ts
          · exact values_good k n s more hx hl2 (by omega) hr hk hn w hE hg hts
          · exact values_bad k n s more hx hl2 (by omega) hr hk hn w hE hg hts
end Go.Proofs.YtokkbipdkakenaaGreatDoor

/-
  The document's own Trim, top and Alu answer what the plain functions tr, tp, aV, aZ, aS, aC, aO tell; only boxes of their own are made.
-/
import Derived.Test.YtmcjdlmbidlckaaBox
namespace Go.Proofs.Ytmcjdlmbidlckaa
open Go.RowKit

theorem rtrim_any (wide : Bool) (v : Int) (w : World) :
    Calls Try.prog 13 #[.bool wide, .int .i64 v] w fun e w' => e = .returned (.int .i64 (tr wide v)) ∧ w' = w := by
  cases wide
  · go_enter Try.func13, Try.ntmps13
    go_wp2
    go_ret
    exact ⟨ret_int (and32 v), rfl⟩
  · go_enter Try.func13, Try.ntmps13
    go_wp2
    go_ret
    exact ⟨rfl, rfl⟩
theorem top_is (v : Int) : (bits .and .i64 (v / 2147483648) 1 == 1) = tp false v := by
  rw [and1]; simp only [tp, sn_no, wrap32]
  rw [Bool.eq_iff_iff, beq_iff_eq, decide_eq_true_iff]; omega
theorem rtop_any (wide : Bool) (v : Int) (w : World) :
    Calls Try.prog 23 #[.bool wide, .int .i64 v] w fun e w' => e = .returned (.bool (tp wide v)) ∧ w' = w := by
  cases wide
  · have h := hide (top_is v)
    go_enter Try.func23, Try.ntmps23
    go_wp2
    go_ret
    exact ⟨ret_bool h.out, rfl⟩
  · go_enter Try.func23, Try.ntmps23
    go_wp2
    go_ret
    exact ⟨rfl, rfl⟩
theorem b_add (p q r : Bool) (h : p = q) : (!(r == q)) = (p == q && r != p) := by subst h; cases p <;> cases r <;> rfl
theorem b_addn (p q r : Bool) (h : ¬ p = q) : false = (p == q && r != p) := by cases p <;> cases q <;> cases r <;> simp_all
theorem b_sub (p q r : Bool) (h : p = q) : false = (p != q && r != p) := by subst h; cases p <;> cases r <;> rfl
set_option maxHeartbeats 1000000 in
theorem ralu_0 (wide : Bool) (a b : Int) (w : World) :
    Calls Try.prog 11 #[.int .i64 0, .bool wide, .int .i64 a, .int .i64 b] w fun e w' => e = .returned (.tuple #[.int .i64 (aV 0 wide (tr wide a) (tr wide b)), flv (aZ 0 wide (tr wide a) (tr wide b)) (aS 0 wide (tr wide a) (tr wide b)) (aC 0 wide (tr wide a) (tr wide b)) (aO 0 wide (tr wide a) (tr wide b)), .bool true]) ∧ Below w.heap.size w w' := by
  by_cases hq : tp wide (tr wide a) = tp wide (tr wide b)
  · have HQ := hide hq
    go_enter Try.func11, Try.ntmps11
    go_wp2_with (first | (go_at_call 13; refine (rtrim_any _ _ _).mono ?_; rintro e w1 ⟨rfl, rfl⟩) | (go_at_call 23; refine (rtop_any _ _ _).mono ?_; rintro e w1 ⟨rfl, rfl⟩))
    go_region
    go_wp2_with fail
    refine bodyPost_ret (results_fl rfl _ _ w.heap.size _ _ _ _ rfl ((Fl.made w _ _ _ _).alloc _).drew) rfl ?_
    exact ⟨ret_fl (rfl) (rfl) (rfl) (by simp only [un_wrap]; rfl) (b_add _ _ _ HQ.out), (bel_al (bel_one w _) _).drew⟩
  · have HQ := hide hq
    go_enter Try.func11, Try.ntmps11
    go_wp2_with (first | (go_at_call 13; refine (rtrim_any _ _ _).mono ?_; rintro e w1 ⟨rfl, rfl⟩) | (go_at_call 23; refine (rtop_any _ _ _).mono ?_; rintro e w1 ⟨rfl, rfl⟩))
    go_region
    go_wp2_with fail
    refine bodyPost_ret (results_fl rfl _ _ w.heap.size _ _ _ _ rfl ((Fl.made w _ _ _ _).alloc _).drew) rfl ?_
    exact ⟨ret_fl (rfl) (rfl) (rfl) (by simp only [un_wrap]; rfl) (b_addn _ _ _ HQ.out), (bel_al (bel_one w _) _).drew⟩
set_option maxHeartbeats 1000000 in
theorem ralu_5 (wide : Bool) (a b : Int) (w : World) :
    Calls Try.prog 11 #[.int .i64 5, .bool wide, .int .i64 a, .int .i64 b] w fun e w' => e = .returned (.tuple #[.int .i64 (aV 5 wide (tr wide a) (tr wide b)), flv (aZ 5 wide (tr wide a) (tr wide b)) (aS 5 wide (tr wide a) (tr wide b)) (aC 5 wide (tr wide a) (tr wide b)) (aO 5 wide (tr wide a) (tr wide b)), .bool true]) ∧ Below w.heap.size w w' := by
  by_cases hq : tp wide (tr wide a) = tp wide (tr wide b)
  · have HQ := hide hq
    go_enter Try.func11, Try.ntmps11
    go_wp2_with (first | (go_at_call 13; refine (rtrim_any _ _ _).mono ?_; rintro e w1 ⟨rfl, rfl⟩) | (go_at_call 23; refine (rtop_any _ _ _).mono ?_; rintro e w1 ⟨rfl, rfl⟩))
    go_region
    go_wp2_with fail
    refine bodyPost_ret (results_fl rfl _ _ w.heap.size _ _ _ _ rfl ((Fl.made w _ _ _ _).alloc _).drew) rfl ?_
    exact ⟨ret_fl (rfl) (rfl) (rfl) (by simp only [un_wrap]; rfl) (b_sub _ _ _ HQ.out), (bel_al (bel_one w _) _).drew⟩
  · go_enter Try.func11, Try.ntmps11
    go_wp2_with (first | (go_at_call 13; refine (rtrim_any _ _ _).mono ?_; rintro e w1 ⟨rfl, rfl⟩) | (go_at_call 23; refine (rtop_any _ _ _).mono ?_; rintro e w1 ⟨rfl, rfl⟩))
    go_region
    go_wp2_with fail
    refine bodyPost_ret (results_fl rfl _ _ w.heap.size _ _ _ _ rfl ((Fl.made w _ _ _ _).alloc _).drew) rfl ?_
    exact ⟨ret_fl (rfl) (rfl) (rfl) (by simp only [un_wrap]; rfl) (rfl), (bel_al (bel_one w _) _).drew⟩
set_option maxHeartbeats 1000000 in
theorem ralu_7 (wide : Bool) (a b : Int) (w : World) :
    Calls Try.prog 11 #[.int .i64 7, .bool wide, .int .i64 a, .int .i64 b] w fun e w' => e = .returned (.tuple #[.int .i64 (aV 7 wide (tr wide a) (tr wide b)), flv (aZ 7 wide (tr wide a) (tr wide b)) (aS 7 wide (tr wide a) (tr wide b)) (aC 7 wide (tr wide a) (tr wide b)) (aO 7 wide (tr wide a) (tr wide b)), .bool true]) ∧ Below w.heap.size w w' := by
  by_cases hq : tp wide (tr wide a) = tp wide (tr wide b)
  · have HQ := hide hq
    go_enter Try.func11, Try.ntmps11
    go_wp2_with (first | (go_at_call 13; refine (rtrim_any _ _ _).mono ?_; rintro e w1 ⟨rfl, rfl⟩) | (go_at_call 23; refine (rtop_any _ _ _).mono ?_; rintro e w1 ⟨rfl, rfl⟩))
    go_region
    go_wp2_with fail
    refine bodyPost_ret (results_fl rfl _ _ w.heap.size _ _ _ _ rfl ((Fl.made w _ _ _ _).alloc _).drew) rfl ?_
    exact ⟨ret_fl (rfl) (rfl) (rfl) (by simp only [un_wrap]; rfl) (b_sub _ _ _ HQ.out), (bel_al (bel_one w _) _).drew⟩
  · go_enter Try.func11, Try.ntmps11
    go_wp2_with (first | (go_at_call 13; refine (rtrim_any _ _ _).mono ?_; rintro e w1 ⟨rfl, rfl⟩) | (go_at_call 23; refine (rtop_any _ _ _).mono ?_; rintro e w1 ⟨rfl, rfl⟩))
    go_region
    go_wp2_with fail
    refine bodyPost_ret (results_fl rfl _ _ w.heap.size _ _ _ _ rfl ((Fl.made w _ _ _ _).alloc _).drew) rfl ?_
    exact ⟨ret_fl (rfl) (rfl) (rfl) (by simp only [un_wrap]; rfl) (rfl), (bel_al (bel_one w _) _).drew⟩
set_option maxHeartbeats 1000000 in
theorem ralu_1 (wide : Bool) (a b : Int) (w : World) (ha : I64 a) (hb : I64 b) :
    Calls Try.prog 11 #[.int .i64 1, .bool wide, .int .i64 a, .int .i64 b] w fun e w' => e = .returned (.tuple #[.int .i64 (aV 1 wide (tr wide a) (tr wide b)), flv (aZ 1 wide (tr wide a) (tr wide b)) (aS 1 wide (tr wide a) (tr wide b)) (aC 1 wide (tr wide a) (tr wide b)) (aO 1 wide (tr wide a) (tr wide b)), .bool true]) ∧ Below w.heap.size w w' := by
  have H := hide (tr_wd_id wide _ (or_wd wide _ _ (tr_wd wide a ha) (tr_wd wide b hb)))
  clear ha hb
  go_enter Try.func11, Try.ntmps11
  go_wp2_with (first | (go_at_call 13; refine (rtrim_any _ _ _).mono ?_; rintro e w1 ⟨rfl, rfl⟩) | (go_at_call 23; refine (rtop_any _ _ _).mono ?_; rintro e w1 ⟨rfl, rfl⟩))
  go_region
  go_wp2_with fail
  refine bodyPost_ret (results_fl rfl _ _ w.heap.size _ _ _ _ rfl ((Fl.made w _ _ _ _).alloc _).drew) rfl ?_
  exact ⟨ret_fl (by rw [H.out]; rfl) (by rw [H.out]; rfl) (by rw [H.out]; rfl) (rfl) (rfl), (bel_al (bel_one w _) _).drew⟩
set_option maxHeartbeats 1000000 in
theorem ralu_4 (wide : Bool) (a b : Int) (w : World) (ha : I64 a) (hb : I64 b) :
    Calls Try.prog 11 #[.int .i64 4, .bool wide, .int .i64 a, .int .i64 b] w fun e w' => e = .returned (.tuple #[.int .i64 (aV 4 wide (tr wide a) (tr wide b)), flv (aZ 4 wide (tr wide a) (tr wide b)) (aS 4 wide (tr wide a) (tr wide b)) (aC 4 wide (tr wide a) (tr wide b)) (aO 4 wide (tr wide a) (tr wide b)), .bool true]) ∧ Below w.heap.size w w' := by
  have H := hide (tr_wd_id wide _ (and_wd wide _ _ (tr_wd wide a ha) (tr_wd wide b hb)))
  clear ha hb
  go_enter Try.func11, Try.ntmps11
  go_wp2_with (first | (go_at_call 13; refine (rtrim_any _ _ _).mono ?_; rintro e w1 ⟨rfl, rfl⟩) | (go_at_call 23; refine (rtop_any _ _ _).mono ?_; rintro e w1 ⟨rfl, rfl⟩))
  go_region
  go_wp2_with fail
  refine bodyPost_ret (results_fl rfl _ _ w.heap.size _ _ _ _ rfl ((Fl.made w _ _ _ _).alloc _).drew) rfl ?_
  exact ⟨ret_fl (by rw [H.out]; rfl) (by rw [H.out]; rfl) (by rw [H.out]; rfl) (rfl) (rfl), (bel_al (bel_one w _) _).drew⟩
set_option maxHeartbeats 1000000 in
theorem ralu_6 (wide : Bool) (a b : Int) (w : World) (ha : I64 a) (hb : I64 b) :
    Calls Try.prog 11 #[.int .i64 6, .bool wide, .int .i64 a, .int .i64 b] w fun e w' => e = .returned (.tuple #[.int .i64 (aV 6 wide (tr wide a) (tr wide b)), flv (aZ 6 wide (tr wide a) (tr wide b)) (aS 6 wide (tr wide a) (tr wide b)) (aC 6 wide (tr wide a) (tr wide b)) (aO 6 wide (tr wide a) (tr wide b)), .bool true]) ∧ Below w.heap.size w w' := by
  have H := hide (tr_wd_id wide _ (xor_wd wide _ _ (tr_wd wide a ha) (tr_wd wide b hb)))
  clear ha hb
  go_enter Try.func11, Try.ntmps11
  go_wp2_with (first | (go_at_call 13; refine (rtrim_any _ _ _).mono ?_; rintro e w1 ⟨rfl, rfl⟩) | (go_at_call 23; refine (rtop_any _ _ _).mono ?_; rintro e w1 ⟨rfl, rfl⟩))
  go_region
  go_wp2_with fail
  refine bodyPost_ret (results_fl rfl _ _ w.heap.size _ _ _ _ rfl ((Fl.made w _ _ _ _).alloc _).drew) rfl ?_
  exact ⟨ret_fl (by rw [H.out]; rfl) (by rw [H.out]; rfl) (by rw [H.out]; rfl) (rfl) (rfl), (bel_al (bel_one w _) _).drew⟩
set_option maxHeartbeats 1000000 in
theorem ralu_no (k : Int) (wide : Bool) (a b : Int) (w : World) (hk : aK k = false) :
    Calls Try.prog 11 #[.int .i64 k, .bool wide, .int .i64 a, .int .i64 b] w fun e w' => e = .returned (.tuple #[.int .i64 0, flv false false false false, .bool false]) ∧ Below w.heap.size w w' := by
  simp only [aK, Bool.or_eq_false_iff] at hk
  obtain ⟨⟨⟨⟨⟨h0, h1⟩, h4⟩, h5⟩, h6⟩, h7⟩ := hk
  go_enter Try.func11, Try.ntmps11
  go_wp2_with (first | (go_at_call 13; refine (rtrim_any _ _ _).mono ?_; rintro e w1 ⟨rfl, rfl⟩) | (go_at_call 23; refine (rtop_any _ _ _).mono ?_; rintro e w1 ⟨rfl, rfl⟩))
  refine bodyPost_ret (results_fl rfl _ _ w.heap.size _ _ _ _ rfl (Fl.made w _ _ _ _)) rfl ?_
  exact ⟨rfl, (bel_one _ _)⟩

theorem ralu_any (k : Int) (wide : Bool) (a b : Int) (w : World) (ha : I64 a) (hb : I64 b) :
    Calls Try.prog 11 #[.int .i64 k, .bool wide, .int .i64 a, .int .i64 b] w fun e w' => e = .returned (.tuple #[.int .i64 (aV k wide (tr wide a) (tr wide b)), flv (aZ k wide (tr wide a) (tr wide b)) (aS k wide (tr wide a) (tr wide b)) (aC k wide (tr wide a) (tr wide b)) (aO k wide (tr wide a) (tr wide b)), .bool (aK k)]) ∧ Below w.heap.size w w' := by
  cases hk : aK k
  · have h := ralu_no k wide a b w hk
    have h2 := hk
    simp only [aK, Bool.or_eq_false_iff, beq_eq_false_iff_ne] at h2
    obtain ⟨⟨⟨⟨⟨h0, h1⟩, h4⟩, h5⟩, h6⟩, h7⟩ := h2
    rw [show aV k wide (tr wide a) (tr wide b) = 0 by simp only [aV, aR, h0, h1, h4, h5, h6, h7, if_false]]
    rw [show aZ k wide (tr wide a) (tr wide b) = false by simp only [aZ, hk, Bool.false_and], show aS k wide (tr wide a) (tr wide b) = false by simp only [aS, hk, Bool.false_and], show aC k wide (tr wide a) (tr wide b) = false by simp only [aC, h0, h5, h7, if_false], show aO k wide (tr wide a) (tr wide b) = false by simp only [aO, h0, h5, h7, if_false]]
    exact h
  · simp only [aK, Bool.or_eq_true, beq_iff_eq] at hk
    rcases hk with ((((rfl | rfl) | rfl) | rfl) | rfl) | rfl
    · exact ralu_0 wide a b w
    · exact ralu_1 wide a b w ha hb
    · exact ralu_4 wide a b w ha hb
    · exact ralu_5 wide a b w
    · exact ralu_6 wide a b w ha hb
    · exact ralu_7 wide a b w
end Go.Proofs.Ytmcjdlmbidlckaa

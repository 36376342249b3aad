/-
  The statement WordDivides, walked: quotient times divisor and the rest are what was divided; the rest is less than the divisor; by nought each traps, and so does the quotient that does not fit: for any inputs it returns true; nothing is changed.
-/
import Derived.Test.YtfcdpjihhopfhaaSums
import Derived.Test.YtfcdpjihhopfhaaCompares
namespace Go.Proofs.Ytfcdpjihhopfhaa
open Go.RowKit

theorem o_any (k : Int) (wide : Bool) (a b v t : Int) (w : World) (hk : 106 ≤ k ∧ k ≤ 120) (ha : I64 a) (hb : I64 b) (hr : ee k wide a b = (v, t)) :
    Calls Try.prog 17 #[.int .i64 k, .bool wide, .int .i64 a, .int .i64 b] w fun e w' => e = .returned (.tuple #[.int .i64 v, .int .i64 t]) ∧ w' = w := by
  have h := of_any k wide a b w (Or.inr hk) ha hb
  rw [hr] at h; exact h

/-- alike at a width -/
def Cg (wide : Bool) (x y : Int) : Prop := md wide ∣ x - y
theorem Cg.symm {wide : Bool} {x y : Int} (h : Cg wide x y) : Cg wide y x := by
  have h' : md wide ∣ -(x - y) := (Int.dvd_neg).mpr h
  rwa [Int.neg_sub] at h'
theorem Cg.trans {wide : Bool} {x y z : Int} (h : Cg wide x y) (h' : Cg wide y z) : Cg wide x z := by
  have k := Int.dvd_add h h'
  rwa [show x - y + (y - z) = x - z by omega] at k
theorem Cg.add {wide : Bool} {x y u v : Int} (h : Cg wide x y) (h' : Cg wide u v) : Cg wide (x + u) (y + v) := by
  have k := Int.dvd_add h h'
  rwa [show x - y + (u - v) = x + u - (y + v) by omega] at k
theorem Cg.mul {wide : Bool} {x y u v : Int} (h : Cg wide x y) (h' : Cg wide u v) : Cg wide (x * u) (y * v) := by
  have h1 : md wide ∣ (x - y) * u := Int.dvd_mul_of_dvd_left h
  have h2 : md wide ∣ y * (u - v) := Int.dvd_mul_of_dvd_right h'
  have k := Int.dvd_add h1 h2
  rwa [show (x - y) * u + y * (u - v) = x * u - y * v by rw [Int.sub_mul, Int.mul_sub]; omega] at k
theorem cg_M (wide : Bool) (x : Int) : Cg wide (M wide x) x := Cg.symm (M_dvd wide x)
theorem cg_tr (wide : Bool) (x : Int) (h : I64 x) : Cg wide x (tr wide x) := tr_dvd wide x h
theorem cg_un (wide : Bool) (x : Int) : Cg wide (un x) x := by
  cases wide
  · show md false ∣ _; rw [md_no]; simp only [un]; omega
  · show md true ∣ _; rw [md_yes]; simp only [un]; omega
theorem cg_sg (wide : Bool) (x : Int) : Cg wide (sg wide x) x := by
  cases wide
  · show md false ∣ _; rw [md_no]; simp only [sg, Bool.false_eq_true, if_false]; split <;> omega
  · show md true ∣ _; rw [md_yes]; simp only [sg, if_true]; omega

theorem back_any (wide : Bool) (a b q r Q R Y : Int) (ha : I64 a) (hb : I64 b) (hq : Cg wide q Q) (hr : Cg wide r R) (hY : Cg wide Y (tr wide b))
    (h : Cg wide (Q * Y + R) (tr wide a)) : M wide (M wide (q * b) + r) = tr wide a := by
  rw [tr_M wide a ha] at h ⊢
  apply M_eq
  have h1 : Cg wide b Y := (cg_tr wide b hb).trans hY.symm
  have h2 : Cg wide (M wide (q * b) + r) (Q * Y + R) := ((cg_M wide (q * b)).trans (hq.mul h1)).add hr
  exact (h2.trans h).trans (cg_M wide a)

theorem backU (wide : Bool) (a b : Int) (ha : I64 a) (hb : I64 b) :
    M wide (M wide (M wide (un (tr wide a) / un (tr wide b)) * b) + M wide (un (tr wide a) % un (tr wide b))) = tr wide a := by
  refine back_any wide a b _ _ _ _ (un (tr wide b)) ha hb (cg_M wide _) (cg_M wide _) (cg_un wide _) ?_
  rw [Int.mul_comm, Int.mul_ediv_add_emod]; exact cg_un wide _
theorem backS (wide : Bool) (a b : Int) (ha : I64 a) (hb : I64 b) :
    M wide (M wide (M wide ((sg wide (tr wide a)).tdiv (sg wide (tr wide b))) * b) + M wide ((sg wide (tr wide a)).tmod (sg wide (tr wide b)))) = tr wide a := by
  refine back_any wide a b _ _ _ _ (sg wide (tr wide b)) ha hb (cg_M wide _) (cg_M wide _) (cg_sg wide _) ?_
  rw [Int.mul_comm, Int.mul_tdiv_add_tmod]; exact cg_sg wide _

theorem un_md (wide : Bool) (y : Int) (h : Wd wide y) : un y < md wide := by
  cases wide
  · simp only [Wd, Bool.false_eq_true, if_false] at h; rw [md_no]; simp only [un]; omega
  · rw [md_yes]; exact un_lt y
theorem un_M (wide : Bool) (z : Int) (h : 0 ≤ z) (h' : z < md wide) : un (M wide z) = z := by
  cases wide
  · rw [md_no] at h'; rw [M_no]; simp only [un]; omega
  · rw [md_yes] at h'; rw [M_yes]; simp only [un, wrap64]; omega
theorem restU (wide : Bool) (a b : Int) (hb : I64 b) (hz : tr wide b ≠ 0) :
    cm 73 wide (tr wide (M wide (un (tr wide a) % un (tr wide b)))) (tr wide b) = true := by
  have hp := un_pos (tr wide b) (tr_i64 wide b hb) hz
  have hl := un_md wide _ (tr_wd wide b hb)
  have h1 := Int.emod_nonneg (un (tr wide a)) (show un (tr wide b) ≠ 0 by omega)
  have h2 := Int.emod_lt_of_pos (un (tr wide a)) hp
  rw [tr_wd_id wide _ (wd_M wide _)]
  show decide (un (M wide _) < un _) = true
  rw [un_M wide _ h1 (by omega)]
  exact decide_eq_true h2

theorem ee_div (k : Int) (hk : 109 ≤ k ∧ k ≤ 112) (wide : Bool) (a b : Int) :
    ee k wide a b = (tr wide (dv k wide (tr wide a) (tr wide b)).1, (dv k wide (tr wide a) (tr wide b)).2) := by
  simp only [ee, su]; rw [if_pos (by omega), if_pos hk]
theorem ee_zero (k : Int) (hk : 109 ≤ k ∧ k ≤ 112) (wide : Bool) (a b : Int) (hz : tr wide b = 0) : ee k wide a b = (0, 2) := by
  rw [ee_div k hk, hz]
  have e : dv k wide (tr wide a) 0 = (0, 2) := by simp only [dv, if_true]
  rw [e]; cases wide <;> rfl
theorem ee_divU (wide : Bool) (a b : Int) (hz : tr wide b ≠ 0) : ee 110 wide a b = (M wide (un (tr wide a) / un (tr wide b)), 0) := by
  rw [ee_div 110 (by omega)]
  have e : dv 110 wide (tr wide a) (tr wide b) = (wrap64 (un (tr wide a) / un (tr wide b)), 0) := by simp [dv, hz]
  rw [e]; rfl
theorem ee_remU (wide : Bool) (a b : Int) (hz : tr wide b ≠ 0) : ee 112 wide a b = (M wide (un (tr wide a) % un (tr wide b)), 0) := by
  rw [ee_div 112 (by omega)]
  have e : dv 112 wide (tr wide a) (tr wide b) = (wrap64 (un (tr wide a) % un (tr wide b)), 0) := by simp [dv, hz]
  rw [e]; rfl
theorem ee_remS (wide : Bool) (a b : Int) (ha : I64 a) (hz : tr wide b ≠ 0) : ee 111 wide a b = (M wide ((sg wide (tr wide a)).tmod (sg wide (tr wide b))), 0) := by
  rw [ee_div 111 (by omega)]
  have e : dv 111 wide (tr wide a) (tr wide b) = ((sg wide (tr wide a)).tmod (sg wide (tr wide b)), 0) := by simp [dv, hz]
  rw [e, tr_M wide _ (tmod_i64 _ _ (sg_i64 (tr_wd wide a ha)))]
theorem ee_divS (wide : Bool) (a b : Int) (ha : I64 a) (hz : tr wide b ≠ 0) (hn : ¬ (sg wide (tr wide a) = ls wide ∧ sg wide (tr wide b) = -1)) :
    ee 109 wide a b = (M wide ((sg wide (tr wide a)).tdiv (sg wide (tr wide b))), 0) := by
  rw [ee_div 109 (by omega)]
  have e : dv 109 wide (tr wide a) (tr wide b) = ((sg wide (tr wide a)).tdiv (sg wide (tr wide b)), 0) := by
    simp only [dv]; rw [if_neg hz, if_neg (by omega), if_neg (by omega), if_neg (by omega), if_neg hn]
  have hi := dv_i64 109 wide (tr wide a) (tr wide b) (tr_wd wide a ha)
  rw [e] at hi
  rw [e, tr_M wide _ hi]
theorem ee_over (wide : Bool) (a b : Int) (hz : tr wide b ≠ 0) (hp : sg wide (tr wide a) = ls wide ∧ sg wide (tr wide b) = -1) : ee 109 wide a b = (0, 3) := by
  rw [ee_div 109 (by omega)]
  have e : dv 109 wide (tr wide a) (tr wide b) = (0, 3) := by
    simp only [dv]; rw [if_neg hz, if_neg (by omega), if_neg (by omega), if_neg (by omega), if_pos hp]
  rw [e]; cases wide <;> rfl
theorem ee_rest (wide : Bool) (a b : Int) (ha : I64 a) (hz : tr wide b ≠ 0) (hp : sg wide (tr wide a) = ls wide ∧ sg wide (tr wide b) = -1) : ee 111 wide a b = (0, 0) := by
  rw [ee_remS wide a b ha hz, hp.1, hp.2]; cases wide <;> decide +kernel

set_option maxRecDepth 100000 in
set_option maxHeartbeats 2000000 in
theorem divides_zero (wide : Bool) (a b : Int) (w : World) (ha : I64 a) (hb : I64 b) (hz : tr wide b = 0) :
    Calls Try.prog 5 #[.bool wide, .int .i64 a, .int .i64 b] w fun e w' => e = .returned (.bool true) ∧ w' = w := by
  have ha' := hide ha
  have hb' := hide hb
  have hz' := hide hz
  have hd : (tr wide b == 0) = true := by simpa using hz
  clear ha hb hz
  go_enter Try.func5, Try.ntmps5
  go_wp2_with fail
  refine (examples_any _).mono ?_
  rintro e w1 ⟨rfl, rfl⟩
  go_wp2_with fail
  refine (trim_any _ _ _).mono ?_
  rintro e w1 ⟨rfl, rfl⟩
  go_wp2_with fail
  refine (o_any 110 wide a b 0 2 _ (by omega) ha'.out hb'.out (ee_zero 110 (by omega) wide a b hz'.out)).mono ?_
  rintro e w1 ⟨rfl, rfl⟩
  go_wp2_with fail
  refine (o_any 112 wide a b 0 2 _ (by omega) ha'.out hb'.out (ee_zero 112 (by omega) wide a b hz'.out)).mono ?_
  rintro e w1 ⟨rfl, rfl⟩
  go_wp2_with fail
  refine (o_any 109 wide a b 0 2 _ (by omega) ha'.out hb'.out (ee_zero 109 (by omega) wide a b hz'.out)).mono ?_
  rintro e w1 ⟨rfl, rfl⟩
  go_wp2_with fail
  refine (o_any 111 wide a b 0 2 _ (by omega) ha'.out hb'.out (ee_zero 111 (by omega) wide a b hz'.out)).mono ?_
  rintro e w1 ⟨rfl, rfl⟩
  go_wp2_with fail
  refine (trim_any _ _ _).mono ?_
  rintro e w1 ⟨rfl, rfl⟩
  go_wp2_with fail
  go_ret
  exact ⟨rfl, rfl⟩

set_option maxRecDepth 100000 in
set_option maxHeartbeats 2000000 in
theorem divides_over (wide : Bool) (a b : Int) (w : World) (ha : I64 a) (hb : I64 b) (hz : tr wide b ≠ 0) (hp : sg wide (tr wide a) = ls wide ∧ sg wide (tr wide b) = -1) :
    Calls Try.prog 5 #[.bool wide, .int .i64 a, .int .i64 b] w fun e w' => e = .returned (.bool true) ∧ w' = w := by
  have ha' := hide ha
  have hb' := hide hb
  have hz' := hide hz
  have hp' := hide hp
  have hd : (tr wide b == 0) = false := by simpa using hz
  clear ha hb hz hp
  go_enter Try.func5, Try.ntmps5
  go_wp2_with fail
  refine (examples_any _).mono ?_
  rintro e w1 ⟨rfl, rfl⟩
  go_wp2_with fail
  refine (trim_any _ _ _).mono ?_
  rintro e w1 ⟨rfl, rfl⟩
  go_wp2_with fail
  refine (o_any 110 wide a b (M wide (un (tr wide a) / un (tr wide b))) 0 _ (by omega) ha'.out hb'.out (ee_divU wide a b hz'.out)).mono ?_
  rintro e w1 ⟨rfl, rfl⟩
  go_wp2_with fail
  refine (o_any 112 wide a b (M wide (un (tr wide a) % un (tr wide b))) 0 _ (by omega) ha'.out hb'.out (ee_remU wide a b hz'.out)).mono ?_
  rintro e w1 ⟨rfl, rfl⟩
  go_wp2_with fail
  refine (o_any 109 wide a b 0 3 _ (by omega) ha'.out hb'.out (ee_over wide a b hz'.out hp'.out)).mono ?_
  rintro e w1 ⟨rfl, rfl⟩
  go_wp2_with fail
  refine (o_any 111 wide a b 0 0 _ (by omega) ha'.out hb'.out (ee_rest wide a b ha'.out hz'.out hp'.out)).mono ?_
  rintro e w1 ⟨rfl, rfl⟩
  go_wp2_with fail
  refine (trim_any _ _ _).mono ?_
  rintro e w1 ⟨rfl, rfl⟩
  go_wp2_with fail
  refine (v_mul wide (M wide (un (tr wide a) / un (tr wide b))) b _ _ (M_i64 _ _) hb'.out rfl).mono ?_
  rintro e w1 ⟨rfl, rfl⟩
  go_wp2_with fail
  refine (v_add wide _ (M wide (un (tr wide a) % un (tr wide b))) _ _ (M_i64 _ _) (M_i64 _ _) (backU wide a b ha'.out hb'.out)).mono ?_
  rintro e w1 ⟨rfl, rfl⟩
  go_wp2_with fail
  refine (v_cmp 73 wide (M wide (un (tr wide a) % un (tr wide b))) b true 1 _ (by omega) (M_i64 _ _) hb'.out (restU wide a b hb'.out hz'.out) rfl).mono ?_
  rintro e w1 ⟨rfl, rfl⟩
  go_wp2_with fail
  go_ret
  exact ⟨rfl, rfl⟩

set_option maxRecDepth 100000 in
set_option maxHeartbeats 2000000 in
theorem divides_else (wide : Bool) (a b : Int) (w : World) (ha : I64 a) (hb : I64 b) (hz : tr wide b ≠ 0) (hp : ¬ (sg wide (tr wide a) = ls wide ∧ sg wide (tr wide b) = -1)) :
    Calls Try.prog 5 #[.bool wide, .int .i64 a, .int .i64 b] w fun e w' => e = .returned (.bool true) ∧ w' = w := by
  have ha' := hide ha
  have hb' := hide hb
  have hz' := hide hz
  have hp' := hide hp
  have hd : (tr wide b == 0) = false := by simpa using hz
  clear ha hb hz hp
  go_enter Try.func5, Try.ntmps5
  go_wp2_with fail
  refine (examples_any _).mono ?_
  rintro e w1 ⟨rfl, rfl⟩
  go_wp2_with fail
  refine (trim_any _ _ _).mono ?_
  rintro e w1 ⟨rfl, rfl⟩
  go_wp2_with fail
  refine (o_any 110 wide a b (M wide (un (tr wide a) / un (tr wide b))) 0 _ (by omega) ha'.out hb'.out (ee_divU wide a b hz'.out)).mono ?_
  rintro e w1 ⟨rfl, rfl⟩
  go_wp2_with fail
  refine (o_any 112 wide a b (M wide (un (tr wide a) % un (tr wide b))) 0 _ (by omega) ha'.out hb'.out (ee_remU wide a b hz'.out)).mono ?_
  rintro e w1 ⟨rfl, rfl⟩
  go_wp2_with fail
  refine (o_any 109 wide a b (M wide ((sg wide (tr wide a)).tdiv (sg wide (tr wide b)))) 0 _ (by omega) ha'.out hb'.out (ee_divS wide a b ha'.out hz'.out hp'.out)).mono ?_
  rintro e w1 ⟨rfl, rfl⟩
  go_wp2_with fail
  refine (o_any 111 wide a b (M wide ((sg wide (tr wide a)).tmod (sg wide (tr wide b)))) 0 _ (by omega) ha'.out hb'.out (ee_remS wide a b ha'.out hz'.out)).mono ?_
  rintro e w1 ⟨rfl, rfl⟩
  go_wp2_with fail
  refine (trim_any _ _ _).mono ?_
  rintro e w1 ⟨rfl, rfl⟩
  go_wp2_with fail
  refine (v_mul wide (M wide (un (tr wide a) / un (tr wide b))) b _ _ (M_i64 _ _) hb'.out rfl).mono ?_
  rintro e w1 ⟨rfl, rfl⟩
  go_wp2_with fail
  refine (v_add wide _ (M wide (un (tr wide a) % un (tr wide b))) _ _ (M_i64 _ _) (M_i64 _ _) (backU wide a b ha'.out hb'.out)).mono ?_
  rintro e w1 ⟨rfl, rfl⟩
  go_wp2_with fail
  refine (v_cmp 73 wide (M wide (un (tr wide a) % un (tr wide b))) b true 1 _ (by omega) (M_i64 _ _) hb'.out (restU wide a b hb'.out hz'.out) rfl).mono ?_
  rintro e w1 ⟨rfl, rfl⟩
  go_wp2_with fail
  refine (v_mul wide (M wide ((sg wide (tr wide a)).tdiv (sg wide (tr wide b)))) b _ _ (M_i64 _ _) hb'.out rfl).mono ?_
  rintro e w1 ⟨rfl, rfl⟩
  go_wp2_with fail
  refine (v_add wide _ (M wide ((sg wide (tr wide a)).tmod (sg wide (tr wide b)))) _ _ (M_i64 _ _) (M_i64 _ _) (backS wide a b ha'.out hb'.out)).mono ?_
  rintro e w1 ⟨rfl, rfl⟩
  go_wp2_with fail
  go_ret
  exact ⟨rfl, rfl⟩

theorem divides_any (wide : Bool) (a b : Int) (w : World) (ha : I64 a) (hb : I64 b) :
    Calls Try.prog 5 #[.bool wide, .int .i64 a, .int .i64 b] w fun e w' => e = .returned (.bool true) ∧ w' = w := by
  by_cases hz : tr wide b = 0
  · exact divides_zero wide a b w ha hb hz
  · by_cases hp : sg wide (tr wide a) = ls wide ∧ sg wide (tr wide b) = -1
    · exact divides_over wide a b w ha hb hz hp
    · exact divides_else wide a b w ha hb hz hp
end Go.Proofs.Ytfcdpjihhopfhaa

/-
  The statement FlagsCarry, walked: the carry of a sum says whether it is less than what was added to, without signs; the overflow whether its sign is unlike that of both: for any inputs it returns true; nothing older is changed.
-/
import Derived.Test.YtmcjdlmbidlckabIs
namespace Go.Proofs.Ytmcjdlmbidlckab
open Go.RowKit

theorem top31 (v : Int) : (bits .and .i64 (v / 2147483648) 1 == 1) = tp false v := by
  rw [and1]; simp only [tp, sn_no, wrap32]
  rw [Bool.eq_iff_iff, beq_iff_eq, decide_eq_true_iff]; omega
theorem top63 (v : Int) (h : I64 v) : (bits .and .i64 (v / 9223372036854775808) 1 == 1) = tp true v := by
  obtain ⟨h1, h2⟩ := h
  rw [and1, show tp true v = decide (v < 0) from rfl]
  rw [Bool.eq_iff_iff, beq_iff_eq, decide_eq_true_iff]; omega
theorem b_1 (p r : Bool) : (!(r == p)) = (p == p && r != p) := by cases p <;> cases r <;> rfl
theorem b_2 (p r : Bool) : (p != p && r != p) = false := by cases p <;> cases r <;> rfl
theorem b_3 (p q r : Bool) (h : ¬ p = q) : (p == q && r != p) = false := by cases p <;> cases q <;> cases r <;> simp_all
theorem b_4 (p q r : Bool) (h : ¬ p = q) : (!(r == p)) = (p != q && r != p) := by cases p <;> cases q <;> cases r <;> simp_all
set_option maxHeartbeats 2000000 in
theorem carry_n (a b : Int) (w : World) (ha : I64 a) (hb : I64 b) :
    Calls Try.prog 5 #[.bool false, .int .i64 a, .int .i64 b] w fun e w' => e = .returned (.bool true) ∧ Below w.heap.size w w' := by
  obtain ⟨X, hX⟩ : ∃ X, tr false a = X := ⟨_, rfl⟩
  obtain ⟨Y, hY⟩ : ∃ X, tr false b = X := ⟨_, rfl⟩
  have iX : I64 X := hX ▸ tr_i64 false a ha
  have iY : I64 Y := hY ▸ tr_i64 false b hb
  obtain ⟨V, hV⟩ : ∃ V, M false (X + Y) = V := ⟨_, rfl⟩
  obtain ⟨U, hU⟩ : ∃ V, M false (X - Y) = V := ⟨_, rfl⟩
  have iV : I64 V := hV ▸ M_i64 false _
  have iU : I64 U := hU ▸ M_i64 false _
  obtain ⟨sx, hsx⟩ : ∃ s, tp false X = s := ⟨_, rfl⟩
  obtain ⟨sy, hsy⟩ : ∃ s, tp false Y = s := ⟨_, rfl⟩
  obtain ⟨sv, hsv⟩ : ∃ s, tp false V = s := ⟨_, rfl⟩
  obtain ⟨su, hsu⟩ : ∃ s, tp false U = s := ⟨_, rfl⟩
  have tX : (bits .and .i64 (X / 2147483648) 1 == 1) = sx := (top31 _).trans hsx
  have tY : (bits .and .i64 (Y / 2147483648) 1 == 1) = sy := (top31 _).trans hsy
  have tV : (bits .and .i64 (V / 2147483648) 1 == 1) = sv := (top31 _).trans hsv
  have tU : (bits .and .i64 (U / 2147483648) 1 == 1) = su := (top31 _).trans hsu
  obtain ⟨C, hC⟩ : ∃ C, decide (IntKind.u64.wrap V < IntKind.u64.wrap X) = C := ⟨_, rfl⟩
  obtain ⟨D, hD⟩ : ∃ C, decide (IntKind.u64.wrap X < IntKind.u64.wrap Y) = C := ⟨_, rfl⟩
  obtain ⟨Z, hZ⟩ : ∃ C, (V == 0) = C := ⟨_, rfl⟩
  obtain ⟨E, hE⟩ : ∃ C, (U == 0) = C := ⟨_, rfl⟩
  obtain ⟨O1, hO1⟩ : ∃ o, (sx == sy && sv != sx) = o := ⟨_, rfl⟩
  obtain ⟨O2, hO2⟩ : ∃ o, (sx != sy && su != sx) = o := ⟨_, rfl⟩
  have T := hide (alu_is 0 false a b V Z sv C O1 true · ha hb (by rw [hX, hY]; exact hV) (by rw [hX, hY, ← hZ, ← hV]; rfl) (by rw [hX, hY, ← hsv, ← hV]; rfl) (by rw [hX, hY, ← hC, un_wrap, un_wrap, ← hV]; rfl) (by rw [hX, hY, ← hO1, ← hsx, ← hsy, ← hsv, ← hV]; rfl) rfl)
  have S := hide (alu_is 5 false a b U E su D O2 true · ha hb (by rw [hX, hY]; exact hU) (by rw [hX, hY, ← hE, ← hU]; rfl) (by rw [hX, hY, ← hsu, ← hU]; rfl) (by rw [hX, hY, ← hD, un_wrap, un_wrap]; rfl) (by rw [hX, hY, ← hO2, ← hsx, ← hsy, ← hsu, ← hU]; rfl) rfl)
  have HO1 := hide hO1
  have HO2 := hide hO2
  clear hO1 hO2
  have HX := hide hX
  have HY := hide hY
  clear hX hY iX iY iV iU ha hb hV hU hsx hsy hsv hsu hE
  go_enter Try.func5, Try.ntmps5
  go_wp2_with fail
  refine (examples_any _).mono ?_
  rintro e w1 ⟨rfl, B1⟩
  go_wp2_with fail
  refine (T.out _).mono ?_
  rintro e w2 ⟨rfl, B2⟩
  have D2 := hide (bel_tr B1 B2)
  clear B1 B2
  go_wp2_with fail
  refine (S.out _).mono ?_
  rintro e w3 ⟨rfl, B3⟩
  have F3 := hide ((Fl.made w2 Z sv C O1).kept B3)
  have D3 := hide (bel_tr (bel_al D2.out _) B3)
  have c0 := (F3.out.alloc (.cells #[.bool E, .bool su, .bool D, .bool O2] 32)).c0
  have c1 := (F3.out.alloc (.cells #[.bool E, .bool su, .bool D, .bool O2] 32)).c1
  have c2 := (F3.out.alloc (.cells #[.bool E, .bool su, .bool D, .bool O2] 32)).c2
  have c3 := (F3.out.alloc (.cells #[.bool E, .bool su, .bool D, .bool O2] 32)).c3
  clear B3 D2 F3
  go_wp2_with fail
  refine (trim_any _ _ _).mono ?_
  rintro e w4 ⟨rfl, rfl⟩
  rw [HX.out]
  go_wp2_with fail
  refine (trim_any _ _ _).mono ?_
  rintro e w4 ⟨rfl, rfl⟩
  rw [HY.out]
  clear T S
  by_cases hq : sx = sy
  · subst hq
    have o1 : (!(sv == sx)) = O1 := (b_1 sx sv).trans HO1.out
    have o2 : O2 = false := HO2.out.symm.trans (b_2 sx su)
    clear HO1 HO2
    subst o2
    go_wp2_with fail
    go_ret
    exact ⟨rfl, bel_al D3.out _⟩
  · have o1 : O1 = false := HO1.out.symm.trans (b_3 sx sy sv hq)
    have hqf : (sx == sy) = false := beq_eq_false_iff_ne.mpr hq
    have o2 : (!(su == sx)) = O2 := (b_4 sx sy su hq).trans HO2.out
    clear HO1 HO2
    subst o1
    go_wp2_with fail
    go_ret
    exact ⟨rfl, bel_al D3.out _⟩
set_option maxHeartbeats 2000000 in
theorem carry_w (a b : Int) (w : World) (ha : I64 a) (hb : I64 b) :
    Calls Try.prog 5 #[.bool true, .int .i64 a, .int .i64 b] w fun e w' => e = .returned (.bool true) ∧ Below w.heap.size w w' := by
  obtain ⟨X, hX⟩ : ∃ X, tr true a = X := ⟨_, rfl⟩
  obtain ⟨Y, hY⟩ : ∃ X, tr true b = X := ⟨_, rfl⟩
  have iX : I64 X := hX ▸ tr_i64 true a ha
  have iY : I64 Y := hY ▸ tr_i64 true b hb
  obtain ⟨V, hV⟩ : ∃ V, M true (X + Y) = V := ⟨_, rfl⟩
  obtain ⟨U, hU⟩ : ∃ V, M true (X - Y) = V := ⟨_, rfl⟩
  have iV : I64 V := hV ▸ M_i64 true _
  have iU : I64 U := hU ▸ M_i64 true _
  obtain ⟨sx, hsx⟩ : ∃ s, tp true X = s := ⟨_, rfl⟩
  obtain ⟨sy, hsy⟩ : ∃ s, tp true Y = s := ⟨_, rfl⟩
  obtain ⟨sv, hsv⟩ : ∃ s, tp true V = s := ⟨_, rfl⟩
  obtain ⟨su, hsu⟩ : ∃ s, tp true U = s := ⟨_, rfl⟩
  have tX : (bits .and .i64 (X / 9223372036854775808) 1 == 1) = sx := (top63 _ (iX)).trans hsx
  have tY : (bits .and .i64 (Y / 9223372036854775808) 1 == 1) = sy := (top63 _ (iY)).trans hsy
  have tV : (bits .and .i64 (V / 9223372036854775808) 1 == 1) = sv := (top63 _ (iV)).trans hsv
  have tU : (bits .and .i64 (U / 9223372036854775808) 1 == 1) = su := (top63 _ (iU)).trans hsu
  obtain ⟨C, hC⟩ : ∃ C, decide (IntKind.u64.wrap V < IntKind.u64.wrap X) = C := ⟨_, rfl⟩
  obtain ⟨D, hD⟩ : ∃ C, decide (IntKind.u64.wrap X < IntKind.u64.wrap Y) = C := ⟨_, rfl⟩
  obtain ⟨Z, hZ⟩ : ∃ C, (V == 0) = C := ⟨_, rfl⟩
  obtain ⟨E, hE⟩ : ∃ C, (U == 0) = C := ⟨_, rfl⟩
  obtain ⟨O1, hO1⟩ : ∃ o, (sx == sy && sv != sx) = o := ⟨_, rfl⟩
  obtain ⟨O2, hO2⟩ : ∃ o, (sx != sy && su != sx) = o := ⟨_, rfl⟩
  have T := hide (alu_is 0 true a b V Z sv C O1 true · ha hb (by rw [hX, hY]; exact hV) (by rw [hX, hY, ← hZ, ← hV]; rfl) (by rw [hX, hY, ← hsv, ← hV]; rfl) (by rw [hX, hY, ← hC, un_wrap, un_wrap, ← hV]; rfl) (by rw [hX, hY, ← hO1, ← hsx, ← hsy, ← hsv, ← hV]; rfl) rfl)
  have S := hide (alu_is 5 true a b U E su D O2 true · ha hb (by rw [hX, hY]; exact hU) (by rw [hX, hY, ← hE, ← hU]; rfl) (by rw [hX, hY, ← hsu, ← hU]; rfl) (by rw [hX, hY, ← hD, un_wrap, un_wrap]; rfl) (by rw [hX, hY, ← hO2, ← hsx, ← hsy, ← hsu, ← hU]; rfl) rfl)
  have HO1 := hide hO1
  have HO2 := hide hO2
  clear hO1 hO2
  have HX := hide hX
  have HY := hide hY
  clear hX hY iX iY iV iU ha hb hV hU hsx hsy hsv hsu hE
  go_enter Try.func5, Try.ntmps5
  go_wp2_with fail
  refine (examples_any _).mono ?_
  rintro e w1 ⟨rfl, B1⟩
  go_wp2_with fail
  refine (T.out _).mono ?_
  rintro e w2 ⟨rfl, B2⟩
  have D2 := hide (bel_tr B1 B2)
  clear B1 B2
  go_wp2_with fail
  refine (S.out _).mono ?_
  rintro e w3 ⟨rfl, B3⟩
  have F3 := hide ((Fl.made w2 Z sv C O1).kept B3)
  have D3 := hide (bel_tr (bel_al D2.out _) B3)
  have c0 := (F3.out.alloc (.cells #[.bool E, .bool su, .bool D, .bool O2] 32)).c0
  have c1 := (F3.out.alloc (.cells #[.bool E, .bool su, .bool D, .bool O2] 32)).c1
  have c2 := (F3.out.alloc (.cells #[.bool E, .bool su, .bool D, .bool O2] 32)).c2
  have c3 := (F3.out.alloc (.cells #[.bool E, .bool su, .bool D, .bool O2] 32)).c3
  clear B3 D2 F3
  go_wp2_with fail
  refine (trim_any _ _ _).mono ?_
  rintro e w4 ⟨rfl, rfl⟩
  rw [HX.out]
  go_wp2_with fail
  refine (trim_any _ _ _).mono ?_
  rintro e w4 ⟨rfl, rfl⟩
  rw [HY.out]
  clear T S
  by_cases hq : sx = sy
  · subst hq
    have o1 : (!(sv == sx)) = O1 := (b_1 sx sv).trans HO1.out
    have o2 : O2 = false := HO2.out.symm.trans (b_2 sx su)
    clear HO1 HO2
    subst o2
    go_wp2_with fail
    go_ret
    exact ⟨rfl, bel_al D3.out _⟩
  · have o1 : O1 = false := HO1.out.symm.trans (b_3 sx sy sv hq)
    have hqf : (sx == sy) = false := beq_eq_false_iff_ne.mpr hq
    have o2 : (!(su == sx)) = O2 := (b_4 sx sy su hq).trans HO2.out
    clear HO1 HO2
    subst o1
    go_wp2_with fail
    go_ret
    exact ⟨rfl, bel_al D3.out _⟩
theorem carry_walk (wide : Bool) (a b : Int) (w : World) (ha : I64 a) (hb : I64 b) :
    Calls Try.prog 5 #[.bool wide, .int .i64 a, .int .i64 b] w fun e w' => e = .returned (.bool true) ∧ Below w.heap.size w w' := by
  cases wide
  · exact carry_n a b w ha hb
  · exact carry_w a b w ha hb
end Go.Proofs.Ytmcjdlmbidlckab

/-
  The statement FlagsSums, walked: adding is subtracting the other way round; what is added, and taken away again, is as it was; And, Or and Xor of a value with itself are it, it, and nought: for any inputs it returns true; nothing older is changed.
-/
import Derived.Test.YtmcjdlmbidlckaaIs
namespace Go.Proofs.Ytmcjdlmbidlckaa
open Go.RowKit

theorem R_back (wide : Bool) (x : Int) (hx : Wd wide x) : wrap64 (R wide x : Int) = x := by
  have h := un_R wide x hx
  obtain ⟨h1, h2⟩ := wd_i64 hx
  rw [← h]; simp only [un, wrap64]; omega
theorem and_self' (wide : Bool) (x : Int) (hx : Wd wide x) : bits .and .i64 x x = x := by
  rw [bits_and wide x x hx hx, Nat.and_self]; exact R_back wide x hx
theorem or_self' (wide : Bool) (x : Int) (hx : Wd wide x) : bits .or .i64 x x = x := by
  rw [bits_or wide x x hx hx, Nat.or_self]; exact R_back wide x hx
theorem xor_self' (wide : Bool) (x : Int) (hx : Wd wide x) : bits .xor .i64 x x = 0 := by
  rw [bits_xor wide x x hx hx, Nat.xor_self]; simp only [wrap64]; omega
theorem sums_back (wide : Bool) (x y : Int) (hx : Wd wide x) : M wide (tr wide (M wide (x + tr wide y)) - tr wide y) = x := by
  rw [tr_wd_id wide _ (wd_M wide _)]
  refine (M_eq wide _ x ?_).trans (M_wd wide x hx)
  have h := M_dvd wide (x + tr wide y)
  have e : M wide (x + tr wide y) - tr wide y - x = -(x + tr wide y - M wide (x + tr wide y)) := by omega
  rw [e]; exact (Int.dvd_neg).mpr h
set_option maxHeartbeats 4000000 in
theorem sums_walk (wide : Bool) (a b : Int) (w : World) (ha : I64 a) (hb : I64 b) :
    Calls Try.prog 8 #[.bool wide, .int .i64 a, .int .i64 b] w fun e w' => e = .returned (.bool true) ∧ Below w.heap.size w w' := by
  have wX := tr_wd wide a ha
  obtain ⟨X, hX⟩ : ∃ X, tr wide a = X := ⟨_, rfl⟩
  obtain ⟨V, hV⟩ : ∃ V, M wide (X + tr wide b) = V := ⟨_, rfl⟩
  obtain ⟨U, hU⟩ : ∃ V, M wide (X - tr wide b) = V := ⟨_, rfl⟩
  rw [hX] at wX
  have iV : I64 V := hV ▸ M_i64 wide _
  obtain ⟨Z, hZ⟩ : ∃ C, (X == 0) = C := ⟨_, rfl⟩
  obtain ⟨S, hS⟩ : ∃ C, tp wide X = C := ⟨_, rfl⟩
  obtain ⟨E, hE⟩ : ∃ C, (U == 0) = C := ⟨_, rfl⟩
  obtain ⟨z0, hz0⟩ : ∃ C, aZ 0 wide X (tr wide b) = C := ⟨_, rfl⟩
  obtain ⟨s0, hs0⟩ : ∃ C, aS 0 wide X (tr wide b) = C := ⟨_, rfl⟩
  obtain ⟨k0, hk0⟩ : ∃ C, aC 0 wide X (tr wide b) = C := ⟨_, rfl⟩
  obtain ⟨o0, ho0⟩ : ∃ C, aO 0 wide X (tr wide b) = C := ⟨_, rfl⟩
  obtain ⟨z1, hz1⟩ : ∃ C, aZ 5 wide (tr wide V) (tr wide b) = C := ⟨_, rfl⟩
  obtain ⟨s1, hs1⟩ : ∃ C, aS 5 wide (tr wide V) (tr wide b) = C := ⟨_, rfl⟩
  obtain ⟨k1, hk1⟩ : ∃ C, aC 5 wide (tr wide V) (tr wide b) = C := ⟨_, rfl⟩
  obtain ⟨o1, ho1⟩ : ∃ C, aO 5 wide (tr wide V) (tr wide b) = C := ⟨_, rfl⟩
  obtain ⟨s2, hs2⟩ : ∃ C, aS 5 wide X (tr wide b) = C := ⟨_, rfl⟩
  obtain ⟨k2, hk2⟩ : ∃ C, aC 5 wide X (tr wide b) = C := ⟨_, rfl⟩
  obtain ⟨o2, ho2⟩ : ∃ C, aO 5 wide X (tr wide b) = C := ⟨_, rfl⟩
  have hxa := and_self' wide X wX
  have hxo := or_self' wide X wX
  have hxx := xor_self' wide X wX
  have T0 := hide (alu_is 0 wide a b V z0 s0 k0 o0 true · ha hb (by rw [hX]; exact hV) (by rw [hX]; exact hz0) (by rw [hX]; exact hs0) (by rw [hX]; exact hk0) (by rw [hX]; exact ho0) rfl)
  have T1 := hide (alu_is 5 wide V b X z1 s1 k1 o1 true · iV hb (by rw [← hV]; exact sums_back wide X b wX) hz1 hs1 hk1 ho1 rfl)
  have T2 := hide (alu_is 4 wide a a X Z S false false true · ha ha (by rw [hX]; exact hxa) (by rw [hX, ← hZ]; show (bits .and .i64 X X == 0) = _; rw [hxa]) (by rw [hX, ← hS]; show tp wide (bits .and .i64 X X) = _; rw [hxa]) rfl rfl rfl)
  have T3 := hide (alu_is 1 wide a a X Z S false false true · ha ha (by rw [hX]; exact hxo) (by rw [hX, ← hZ]; show (bits .or .i64 X X == 0) = _; rw [hxo]) (by rw [hX, ← hS]; show tp wide (bits .or .i64 X X) = _; rw [hxo]) rfl rfl rfl)
  have T4 := hide (alu_is 6 wide a a 0 true false false false true · ha ha (by rw [hX]; exact hxx) (by rw [hX]; show (bits .xor .i64 X X == 0) = _; rw [hxx]; rfl) (by rw [hX]; show tp wide (bits .xor .i64 X X) = _; rw [hxx]; cases wide <;> decide +kernel) rfl rfl rfl)
  have T5 := hide (alu_is 7 wide a b X E s2 k2 o2 true · ha hb (by rw [hX]; rfl) (by rw [hX, ← hE, ← hU]; rfl) (by rw [hX]; exact hs2) (by rw [hX]; exact hk2) (by rw [hX]; exact ho2) rfl)
  have T6 := hide (alu_is 5 wide a b U E s2 k2 o2 true · ha hb (by rw [hX]; exact hU) (by rw [hX, ← hE, ← hU]; rfl) (by rw [hX]; exact hs2) (by rw [hX]; exact hk2) (by rw [hX]; exact ho2) rfl)
  have HX := hide hX
  clear ha hb wX hX hV hU iV hZ hS hz0 hs0 hk0 ho0 hz1 hs1 hk1 ho1 hs2 hk2 ho2 hxa hxo hxx
  go_enter Try.func8, Try.ntmps8
  go_wp2_with fail
  refine (examples_any _).mono ?_
  rintro e w0 ⟨rfl, B1⟩
  have D := hide B1
  clear B1
  go_wp2_with fail
  refine (trim_any _ _ _).mono ?_
  rintro e w4 ⟨rfl, rfl⟩
  rw [HX.out]
  go_wp2_with fail
  refine (T0.out _).mono ?_
  rintro e w1 ⟨rfl, B1⟩
  have D1 := hide (bel_tr D.out B1)
  clear B1 T0 D
  go_wp2_with fail
  refine (T1.out _).mono ?_
  rintro e w2 ⟨rfl, B1⟩
  have D2 := hide (bel_tr (bel_al D1.out _) B1)
  clear B1 T1 D1
  go_wp2_with fail
  refine (T2.out _).mono ?_
  rintro e w3 ⟨rfl, B1⟩
  have D3 := hide (bel_tr (bel_al D2.out _) B1)
  clear B1 T2 D2
  go_wp2_with fail
  refine (T3.out _).mono ?_
  rintro e w4 ⟨rfl, B1⟩
  have D4 := hide (bel_tr (bel_al D3.out _) B1)
  have G3_4 := hide ((Fl.made w3 Z S false false).kept B1)
  clear B1 T3 D3
  go_wp2_with fail
  refine (T4.out _).mono ?_
  rintro e w5 ⟨rfl, B1⟩
  have D5 := hide (bel_tr (bel_al D4.out _) B1)
  have G3_5 := hide ((G3_4.out.alloc _).kept B1)
  have G4_5 := hide ((Fl.made w4 Z S false false).kept B1)
  clear B1 T4 D4 G3_4
  go_wp2_with fail
  refine (T5.out _).mono ?_
  rintro e w6 ⟨rfl, B1⟩
  have D6 := hide (bel_tr (bel_al D5.out _) B1)
  have G3_6 := hide ((G3_5.out.alloc _).kept B1)
  have G4_6 := hide ((G4_5.out.alloc _).kept B1)
  have G5_6 := hide ((Fl.made w5 true false false false).kept B1)
  clear B1 T5 D5 G3_5 G4_5
  go_wp2_with fail
  refine (T6.out _).mono ?_
  rintro e w7 ⟨rfl, B1⟩
  have D7 := hide (bel_tr (bel_al D6.out _) B1)
  have G3_7 := hide ((G3_6.out.alloc _).kept B1)
  have G4_7 := hide ((G4_6.out.alloc _).kept B1)
  have G5_7 := hide ((G5_6.out.alloc _).kept B1)
  have G6_7 := hide ((Fl.made w6 E s2 k2 o2).kept B1)
  clear B1 T6 D6 G3_6 G4_6 G5_6
  have c30 := (G3_7.out.alloc (.cells #[.bool E, .bool s2, .bool k2, .bool o2] 24)).c0
  have c31 := (G3_7.out.alloc (.cells #[.bool E, .bool s2, .bool k2, .bool o2] 24)).c1
  have c32 := (G3_7.out.alloc (.cells #[.bool E, .bool s2, .bool k2, .bool o2] 24)).c2
  have c33 := (G3_7.out.alloc (.cells #[.bool E, .bool s2, .bool k2, .bool o2] 24)).c3
  have c40 := (G4_7.out.alloc (.cells #[.bool E, .bool s2, .bool k2, .bool o2] 24)).c0
  have c41 := (G4_7.out.alloc (.cells #[.bool E, .bool s2, .bool k2, .bool o2] 24)).c1
  have c42 := (G4_7.out.alloc (.cells #[.bool E, .bool s2, .bool k2, .bool o2] 24)).c2
  have c43 := (G4_7.out.alloc (.cells #[.bool E, .bool s2, .bool k2, .bool o2] 24)).c3
  have c50 := (G5_7.out.alloc (.cells #[.bool E, .bool s2, .bool k2, .bool o2] 24)).c0
  have c51 := (G5_7.out.alloc (.cells #[.bool E, .bool s2, .bool k2, .bool o2] 24)).c1
  have c52 := (G5_7.out.alloc (.cells #[.bool E, .bool s2, .bool k2, .bool o2] 24)).c2
  have c53 := (G5_7.out.alloc (.cells #[.bool E, .bool s2, .bool k2, .bool o2] 24)).c3
  have c60 := (G6_7.out.alloc (.cells #[.bool E, .bool s2, .bool k2, .bool o2] 24)).c0
  have c61 := (G6_7.out.alloc (.cells #[.bool E, .bool s2, .bool k2, .bool o2] 24)).c1
  have c62 := (G6_7.out.alloc (.cells #[.bool E, .bool s2, .bool k2, .bool o2] 24)).c2
  have c63 := (G6_7.out.alloc (.cells #[.bool E, .bool s2, .bool k2, .bool o2] 24)).c3
  clear G3_7 G4_7 G5_7 G6_7
  have q1 := eql_same Z S false false
  have q2 := eql_same true false false false
  have q3 := eql_same E s2 k2 o2
  go_wp2_with fail
  go_ret
  exact ⟨rfl, bel_al D7.out _⟩
end Go.Proofs.Ytmcjdlmbidlckaa

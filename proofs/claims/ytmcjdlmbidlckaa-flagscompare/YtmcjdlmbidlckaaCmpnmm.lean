/-
  The walk of the statement FlagsCompare at one width and sign of its values (nmm).
-/
import Derived.Test.YtmcjdlmbidlckaaCmpP
import Derived.Deep.RegionWith
namespace Go.Proofs.Ytmcjdlmbidlckaa
open Go.RowKit
set_option maxRecDepth 100000 in
set_option maxHeartbeats 8000000 in
theorem cmp_nmm (a b X Y P Q : Int) (Z S C O e0 e1 e2 e3 e4 e5 e6 e7 e8 e9 : Bool) (w : World) (HX : Hid (tr false a = X)) (HY : Hid (tr false b = Y))
    (_hp : 2147483648 ≤ X) (_hp' : decide (2147483648 ≤ X) = true) (hpw : wrap64 (X - 4294967296) = P) (_hq : 2147483648 ≤ Y) (_hq' : decide (2147483648 ≤ Y) = true) (hqw : wrap64 (Y - 4294967296) = Q)
    (d0 : decide (IntKind.u64.wrap X < IntKind.u64.wrap Y) = e0) (d1 : decide (IntKind.u64.wrap Y ≤ IntKind.u64.wrap X) = e1) (d2 : (X == Y) = e2) (d3 : (X != Y) = e3)
    (d4 : decide (IntKind.u64.wrap X ≤ IntKind.u64.wrap Y) = e4) (d5 : decide (IntKind.u64.wrap Y < IntKind.u64.wrap X) = e5)
    (d6 : decide (P < Q) = e6) (d7 : decide (Q ≤ P) = e7) (d8 : decide (P ≤ Q) = e8) (d9 : decide (Q < P) = e9)
    (H0 : Hid (hV 2 Z S C O = e0))
    (H1 : Hid (hV 3 Z S C O = e1))
    (H2 : Hid (hV 4 Z S C O = e2))
    (H3 : Hid (hV 5 Z S C O = e3))
    (H4 : Hid (hV 6 Z S C O = e4))
    (H5 : Hid (hV 7 Z S C O = e5))
    (H6 : Hid (hV 12 Z S C O = e6))
    (H7 : Hid (hV 13 Z S C O = e7))
    (H8 : Hid (hV 14 Z S C O = e8))
    (H9 : Hid (hV 15 Z S C O = e9))
    (T : Hid (∀ w, Calls Try.prog 10 #[.int .i64 7, .bool false, .int .i64 a, .int .i64 b] w fun e w' => e = .returned (.tuple #[.int .i64 X, .agg #[.bool Z, .bool S, .bool C, .bool O], .bool true]) ∧ Below w.heap.size w w')) :
    Calls Try.prog 7 #[.bool false, .int .i64 a, .int .i64 b] w fun e w' => e = .returned (.bool true) ∧ Below w.heap.size w w' := by
  go_enter Try.func7, Try.ntmps7
  go_wp2_with fail
  refine (examples_any _).mono ?_
  rintro e w1 ⟨rfl, B1⟩
  go_wp2_with fail
  refine (T.out _).mono ?_
  rintro e w2 ⟨rfl, B2⟩
  have D2 := hide (bel_tr B1 B2)
  clear B1 B2 T
  go_wp2_with fail
  refine (trim_any _ _ _).mono ?_
  rintro e w3 ⟨rfl, rfl⟩
  rw [HX.out]
  go_wp2_with fail
  refine (trim_any _ _ _).mono ?_
  rintro e w3 ⟨rfl, rfl⟩
  rw [HY.out]
  go_wp2_with fail
  clear d0 d1 d2 d3 d4 d5 d6 d7 d8 d9 _hp _hq _hp' _hq' hpw hqw HX HY
  have I0 := hide (cin_start w w2 Z S C O e0 e1 e2 e3 e4 e5 e6 e7 e8 e9 D2.out)
  clear D2
  generalize w2.heap.size = g at I0 ⊢
  go_loopw [17] (fun i wr => ∃ k : Nat, k ≤ 10 ∧ i = .int .i64 k ∧ Hid (Cin w wr g Z S C O e0 e1 e2 e3 e4 e5 e6 e7 e8 e9)) (fun i _ => 10 - (intOf i).toNat)
  case atStart => exact ⟨0, by omega, rfl, I0⟩
  case round =>
    clear I0
    obtain ⟨k, hk, rfl, I⟩ := hrel
    have f0 := I.out.fl.c0
    have f1 := I.out.fl.c1
    have f2 := I.out.fl.c2
    have f3 := I.out.fl.c3
    obtain rfl | rfl | rfl | rfl | rfl | rfl | rfl | rfl | rfl | rfl | rfl : k = 0 ∨ k = 1 ∨ k = 2 ∨ k = 3 ∨ k = 4 ∨ k = 5 ∨ k = 6 ∨ k = 7 ∨ k = 8 ∨ k = 9 ∨ k = 10 := by omega
    all_goals clear hk
    · have n0 := I.out.c0
      go_wp2_with fail
      go_region_with (go_at_call 14; refine (holds_is 2 Z S C O e0 true _ H0.out rfl).mono ?_; rintro e w5 ⟨rfl, B5⟩)
      all_goals (have I5 := hide (I.out.drew.kept B5); have n1 := I5.out.x0; clear B5)
      all_goals go_wp2_with fail
      all_goals go_roundw
      all_goals first | exact ⟨1, by omega, by go_num, I5⟩ | (simp [intOf] <;> omega)
    · have n0 := I.out.c1
      go_wp2_with fail
      go_region_with (go_at_call 14; refine (holds_is 3 Z S C O e1 true _ H1.out rfl).mono ?_; rintro e w5 ⟨rfl, B5⟩)
      all_goals (have I5 := hide (I.out.drew.kept B5); have n1 := I5.out.x1; clear B5)
      all_goals go_wp2_with fail
      all_goals go_roundw
      all_goals first | exact ⟨2, by omega, by go_num, I5⟩ | (simp [intOf] <;> omega)
    · have n0 := I.out.c2
      go_wp2_with fail
      go_region_with (go_at_call 14; refine (holds_is 4 Z S C O e2 true _ H2.out rfl).mono ?_; rintro e w5 ⟨rfl, B5⟩)
      all_goals (have I5 := hide (I.out.drew.kept B5); have n1 := I5.out.x2; clear B5)
      all_goals go_wp2_with fail
      all_goals go_roundw
      all_goals first | exact ⟨3, by omega, by go_num, I5⟩ | (simp [intOf] <;> omega)
    · have n0 := I.out.c3
      go_wp2_with fail
      go_region_with (go_at_call 14; refine (holds_is 5 Z S C O e3 true _ H3.out rfl).mono ?_; rintro e w5 ⟨rfl, B5⟩)
      all_goals (have I5 := hide (I.out.drew.kept B5); have n1 := I5.out.x3; clear B5)
      all_goals go_wp2_with fail
      all_goals go_roundw
      all_goals first | exact ⟨4, by omega, by go_num, I5⟩ | (simp [intOf] <;> omega)
    · have n0 := I.out.c4
      go_wp2_with fail
      go_region_with (go_at_call 14; refine (holds_is 6 Z S C O e4 true _ H4.out rfl).mono ?_; rintro e w5 ⟨rfl, B5⟩)
      all_goals (have I5 := hide (I.out.drew.kept B5); have n1 := I5.out.x4; clear B5)
      all_goals go_wp2_with fail
      all_goals go_roundw
      all_goals first | exact ⟨5, by omega, by go_num, I5⟩ | (simp [intOf] <;> omega)
    · have n0 := I.out.c5
      go_wp2_with fail
      go_region_with (go_at_call 14; refine (holds_is 7 Z S C O e5 true _ H5.out rfl).mono ?_; rintro e w5 ⟨rfl, B5⟩)
      all_goals (have I5 := hide (I.out.drew.kept B5); have n1 := I5.out.x5; clear B5)
      all_goals go_wp2_with fail
      all_goals go_roundw
      all_goals first | exact ⟨6, by omega, by go_num, I5⟩ | (simp [intOf] <;> omega)
    · have n0 := I.out.c6
      go_wp2_with fail
      go_region_with (go_at_call 14; refine (holds_is 12 Z S C O e6 true _ H6.out rfl).mono ?_; rintro e w5 ⟨rfl, B5⟩)
      all_goals (have I5 := hide (I.out.drew.kept B5); have n1 := I5.out.x6; clear B5)
      all_goals go_wp2_with fail
      all_goals go_roundw
      all_goals first | exact ⟨7, by omega, by go_num, I5⟩ | (simp [intOf] <;> omega)
    · have n0 := I.out.c7
      go_wp2_with fail
      go_region_with (go_at_call 14; refine (holds_is 13 Z S C O e7 true _ H7.out rfl).mono ?_; rintro e w5 ⟨rfl, B5⟩)
      all_goals (have I5 := hide (I.out.drew.kept B5); have n1 := I5.out.x7; clear B5)
      all_goals go_wp2_with fail
      all_goals go_roundw
      all_goals first | exact ⟨8, by omega, by go_num, I5⟩ | (simp [intOf] <;> omega)
    · have n0 := I.out.c8
      go_wp2_with fail
      go_region_with (go_at_call 14; refine (holds_is 14 Z S C O e8 true _ H8.out rfl).mono ?_; rintro e w5 ⟨rfl, B5⟩)
      all_goals (have I5 := hide (I.out.drew.kept B5); have n1 := I5.out.x8; clear B5)
      all_goals go_wp2_with fail
      all_goals go_roundw
      all_goals first | exact ⟨9, by omega, by go_num, I5⟩ | (simp [intOf] <;> omega)
    · have n0 := I.out.c9
      go_wp2_with fail
      go_region_with (go_at_call 14; refine (holds_is 15 Z S C O e9 true _ H9.out rfl).mono ?_; rintro e w5 ⟨rfl, B5⟩)
      all_goals (have I5 := hide (I.out.drew.kept B5); have n1 := I5.out.x9; clear B5)
      all_goals go_wp2_with fail
      all_goals go_roundw
      all_goals first | exact ⟨10, by omega, by go_num, I5⟩ | (simp [intOf] <;> omega)
    · go_wp2_with fail
      go_ret
      exact ⟨rfl, I.out.bel⟩
end Go.Proofs.Ytmcjdlmbidlckaa

/-
  The walk of the statement LinmemWrites for no writes.
-/
import Derived.Test.YtcjojphajjoheaaWrites
namespace Go.Proofs.Ytcjojphajjoheaa
open Go.RowKit

set_option maxRecDepth 20000 in
set_option maxHeartbeats 3200000 in
theorem writes_pe (x : Int) (a : Option Addr) (c : Nat) (w : World) (hx : 0 ≤ x) (_hx2 : x ≤ 9223372036854775807) :
    Calls Try.prog 7 #[.slice a 0 c, .int .i64 x] w fun e w' => e = .returned (.bool true) ∧ Below w.heap.size w w' := by
  have hx0 : decide (x < 0) = false := by simp; omega
  obtain ⟨X, hX⟩ : ∃ X : ByteArray, Hid (X = ⟨#[48, 49, 50, 51, 52, 53, 54, 55, 56, 57, 97, 98, 99, 100, 101, 102]⟩) := ⟨_, rfl⟩
  obtain ⟨Y, hY⟩ : ∃ Y : ByteArray, Hid (Y = ⟨#[65, 66, 67, 68, 69, 70, 71, 72, 73, 74, 75, 76, 77, 78, 79, 80]⟩) := ⟨_, rfl⟩
  have hXs : X.size = 16 := by rw [hX.out]; rfl
  have hYs : Y.size = 16 := by rw [hY.out]; rfl
  have AN : Hid (∀ (W : World) (A : Option Addr) (C : Nat), Calls Try.prog 16 #[two X Y, .slice A 0 C] W fun e w' => e = .returned (.tuple #[two X Y, .bool true]) ∧ Below W.heap.size W w') := fun W A C => by
    have h := apply_n X Y A [] 0 C W (by omega) (by omega) (by simp) rfl (SDa.isNil _ _ _)
    simp only [apA, apL] at h
    rw [← str_of X, ← str_of Y] at h
    exact h
  have hE := eq_two X Y
  go_enter Try.func7, Try.ntmps7
  go_wp2_with (fail)
  refine (examples_any _).mono ?_
  rintro e w1 ⟨rfl, b1⟩
  have B1 := hide b1
  clear b1
  go_upto_region 2 with fail
  go_cut [0] from 15 to 19 (fun s0 wx => s0 = .slice a 0 c ∧ wx = w1)
  case first =>
    cases a with
    | none =>
      go_wp2_with fail
      go_meet
      case rel => exact ⟨rfl, rfl⟩
    | some ad =>
      by_cases hc : c = 0
      · subst hc
        go_wp2_with fail
        go_meet
        case rel => exact ⟨rfl, rfl⟩
      · go_wp2_with fail
        go_meet
        case rel => exact ⟨rfl, rfl⟩
  case rest =>
    obtain ⟨rfl, rfl⟩ := hcut
    go_wp2_with (fail)
    rw [← hX.out, ← hY.out]
    have R1 := hide (Row.made wc #[.string X, .string Y] 38)
    have B2 := hide (below_next B1.out (bel_one wc (.cells #[.string X, .string Y] 38)) B1.out.size)
    generalize wc.alloc _ = w2 at R1 B2 ⊢
    generalize wc.heap.size = g0 at *
    clear B1
    refine (AN.out _ _ _).mono ?_
    rintro e w3 ⟨rfl, b3⟩
    have RA := hide (Row.made w3 #[.string X, .string Y] 38)
    have R4 := hide ((R1.out.kept b3).kept (bel_one w3 (.cells #[.string X, .string Y] 38)))
    have B4 := hide (below_next (below_next B2.out b3 B2.out.size) (bel_one w3 (.cells #[.string X, .string Y] 38)) (below_next B2.out b3 B2.out.size).size)
    clear R1 B2 b3
    go_upto_region 8 with fail
    generalize w3.alloc _ = w4 at RA R4 B4 ⊢
    generalize w3.heap.size = g1 at *
    have c0 := R4.out.c 0 _ rfl
    have c1 := R4.out.c 1 _ rfl
    simp only [List.getElem_toArray, List.getElem_cons_zero, List.getElem_cons_succ] at c0 c1
    have hg04 : g0 < w4.heap.size := R4.out.lt
    have hg14 : g1 < w4.heap.size := RA.out.lt
    go_cut [9, 10] from 37 to 44 (fun s9 s10 wx => ∃ gb : Nat, s9 = .pointer (some ⟨gb, 0, none⟩) ∧ s10 = .bool true ∧ Hid (Row wx gb #[.string X, .string Y] 38) ∧ Hid (Below w4.heap.size w4 wx))
    case first =>
      rcases a with _ | ad
      · go_region_with (go_at_call 16; refine (AN.out _ _ _).mono ?_; rintro e w5 ⟨rfl, b5⟩; first | (obtain ⟨k5, q5⟩ := ahead_below b5; have q50 := q5.c 0 _ rfl; have q51 := q5.c 1 _ rfl; have f50 := q5.fr 0; have f51 := q5.fr 1) | (have T9 := b5))
        all_goals
          first
            | (have HK := hide (box_ahead k5 q5 (.string X) (.string Y)); clear q50 q51 f50 f51 k5 q5 b5; generalize (w5.setCell _ _).setCell _ _ = w6 at HK ⊢)
            | (have HK := hide (box_after ((drew_below _ w4).trans b5) (.string X) (.string Y)); clear T9 b5; generalize w5.alloc _ = w6 at HK ⊢)
          go_wp2_with fail
          go_meet
          case rel => exact ⟨_, rfl, rfl, HK.out.2, HK.out.1⟩
      · by_cases hc : c = 0
        · subst hc
          go_region_with (go_at_call 16; refine (AN.out _ _ _).mono ?_; rintro e w5 ⟨rfl, b5⟩; first | (obtain ⟨k5, q5⟩ := ahead_below b5; have q50 := q5.c 0 _ rfl; have q51 := q5.c 1 _ rfl; have f50 := q5.fr 0; have f51 := q5.fr 1) | (have T9 := b5))
          all_goals
            first
              | (have HK := hide (box_ahead k5 q5 (.string X) (.string Y)); clear q50 q51 f50 f51 k5 q5 b5; generalize (w5.setCell _ _).setCell _ _ = w6 at HK ⊢)
              | (have HK := hide (box_after ((drew_below _ w4).trans b5) (.string X) (.string Y)); clear T9 b5; generalize w5.alloc _ = w6 at HK ⊢)
            go_wp2_with fail
            go_meet
            case rel => exact ⟨_, rfl, rfl, HK.out.2, HK.out.1⟩
        · go_region_with (go_at_call 16; refine (AN.out _ _ _).mono ?_; rintro e w5 ⟨rfl, b5⟩; first | (obtain ⟨k5, q5⟩ := ahead_below b5; have q50 := q5.c 0 _ rfl; have q51 := q5.c 1 _ rfl; have f50 := q5.fr 0; have f51 := q5.fr 1) | (have T9 := b5))
          all_goals
            first
              | (have HK := hide (box_ahead k5 q5 (.string X) (.string Y)); clear q50 q51 f50 f51 k5 q5 b5; generalize (w5.setCell _ _).setCell _ _ = w6 at HK ⊢)
              | (have HK := hide (box_after ((drew_below _ w4).trans b5) (.string X) (.string Y)); clear T9 b5; generalize w5.alloc _ = w6 at HK ⊢)
            go_wp2_with fail
            go_meet
            case rel => exact ⟨_, rfl, rfl, HK.out.2, HK.out.1⟩
    case rest =>
      obtain ⟨gb, rfl, rfl, KB, K4⟩ := hcut
      have KA := hide (RA.out.kept K4.out)
      have KW := hide (below_next B4.out K4.out B4.out.size)
      clear K4 RA R4 B4 c0 c1 hg04 hg14
      have b0 := KB.out.c 0 _ rfl
      have b1 := KB.out.c 1 _ rfl
      simp only [List.getElem_toArray, List.getElem_cons_zero, List.getElem_cons_succ] at b0 b1
      have hgb6 : gb < wc.heap.size := KB.out.lt
      have hga6 : g1 < wc.heap.size := KA.out.lt
      go_upto_region 11 with fail
      go_cut [11, 12] from 62 to 69 (fun s9 s10 wx => ∃ gb : Nat, s9 = .pointer (some ⟨gb, 0, none⟩) ∧ s10 = .bool true ∧ Hid (Row wx gb #[.string X, .string Y] 38) ∧ Hid (Below wc.heap.size wc wx))
      case first =>
        rcases a with _ | ad
        · go_region_with (go_at_call 16; refine (AN.out _ _ _).mono ?_; rintro e w5 ⟨rfl, b5⟩; first | (obtain ⟨k5, q5⟩ := ahead_below b5; have q50 := q5.c 0 _ rfl; have q51 := q5.c 1 _ rfl; have f50 := q5.fr 0; have f51 := q5.fr 1) | (have T9 := b5))
          all_goals
            first
              | (have HK := hide (box_ahead k5 q5 (.string X) (.string Y)); clear q50 q51 f50 f51 k5 q5 b5; generalize (w5.setCell _ _).setCell _ _ = w6 at HK ⊢)
              | (have HK := hide (box_after ((drew_below _ wc).trans b5) (.string X) (.string Y)); clear T9 b5; generalize w5.alloc _ = w6 at HK ⊢)
            go_wp2_with fail
            go_meet
            case rel => exact ⟨_, rfl, rfl, HK.out.2, HK.out.1⟩
        · by_cases hc : c = 0
          · subst hc
            go_region_with (go_at_call 16; refine (AN.out _ _ _).mono ?_; rintro e w5 ⟨rfl, b5⟩; first | (obtain ⟨k5, q5⟩ := ahead_below b5; have q50 := q5.c 0 _ rfl; have q51 := q5.c 1 _ rfl; have f50 := q5.fr 0; have f51 := q5.fr 1) | (have T9 := b5))
            all_goals
              first
                | (have HK := hide (box_ahead k5 q5 (.string X) (.string Y)); clear q50 q51 f50 f51 k5 q5 b5; generalize (w5.setCell _ _).setCell _ _ = w6 at HK ⊢)
                | (have HK := hide (box_after ((drew_below _ wc).trans b5) (.string X) (.string Y)); clear T9 b5; generalize w5.alloc _ = w6 at HK ⊢)
              go_wp2_with fail
              go_meet
              case rel => exact ⟨_, rfl, rfl, HK.out.2, HK.out.1⟩
          · go_region_with (go_at_call 16; refine (AN.out _ _ _).mono ?_; rintro e w5 ⟨rfl, b5⟩; first | (obtain ⟨k5, q5⟩ := ahead_below b5; have q50 := q5.c 0 _ rfl; have q51 := q5.c 1 _ rfl; have f50 := q5.fr 0; have f51 := q5.fr 1) | (have T9 := b5))
            all_goals
              first
                | (have HK := hide (box_ahead k5 q5 (.string X) (.string Y)); clear q50 q51 f50 f51 k5 q5 b5; generalize (w5.setCell _ _).setCell _ _ = w6 at HK ⊢)
                | (have HK := hide (box_after ((drew_below _ wc).trans b5) (.string X) (.string Y)); clear T9 b5; generalize w5.alloc _ = w6 at HK ⊢)
              go_wp2_with fail
              go_meet
              case rel => exact ⟨_, rfl, rfl, HK.out.2, HK.out.1⟩
      case rest =>
        obtain ⟨gc, rfl, rfl, KC, K6⟩ := hcut
        have LA := hide (KA.out.kept K6.out)
        have LW := hide (below_next KW.out K6.out KW.out.size)
        clear KA KW K6 KB b0 b1 hgb6 hga6
        have a0 := LA.out.c 0 _ rfl
        have a1 := LA.out.c 1 _ rfl
        have b0 := KC.out.c 0 _ rfl
        have b1 := KC.out.c 1 _ rfl
        simp only [List.getElem_toArray, List.getElem_cons_zero, List.getElem_cons_succ] at a0 a1 b0 b1
        go_wp2
        go_ret
        exact ⟨rfl, LW.out⟩
end Go.Proofs.Ytcjojphajjoheaa

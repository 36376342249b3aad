/-
  The statement WbinMore, walked.
  Proved: for every module, number and string whose values and letters are together at most 1048576, the Go function WbinMore returns true (with a section of an unknown number, a section twice, or a byte more behind, bytes are no module any more); the one package-level variable that is listed (errors.errorType) as the program's text lays it.
-/
import Derived.Test.YtcbfpikggphokaaGreatDoorDec
import Derived.Test.YtcbfpikggphokaaGreatDoorApart
import Derived.Deep.CutRange
import Derived.Test.YtcbfpikggphokaaGreatDoorCards
import Derived.Test.YtcbfpikggphokaaGreatDoorTie
import Derived.Test.YtcbfpikggphokaaGreatDoorFrames
import Derived.ShutString
import Derived.LaidLaws
import Derived.LaidHandle
import Derived.Stop.Joined
import Derived.Deep.DeepHandedRow
namespace Go.Proofs.YtcbfpikggphokaaGreatDoor
open Go.RowKit

set_option maxRecDepth 100000 in
set_option maxHeartbeats 6400000 in
theorem more_no (V : MoV) (M : Mo) (id : Int) (junk : List UInt8) (w : World) (hL : Laid w) (h : IsMo w.heap.size w V M) (hd : ∀ d ∈ M.data, d.bytes.length ≤ 9000000) (he : encE M ≠ 0) :
    Calls Tryz.prog 7 #[moV V M, .int .i64 id, .string (str junk)] w fun e w' => e = .returned (.bool true) ∧ Below w.heap.size w w' := by
  have HM := hide h
  obtain ⟨a0, k0, a1, k1, a2, k2, a5, k5, a6, k6, rfl⟩ := h.forms
  have hb0 := bel_one w (.cells #[.slice a0 M.sigs.length k0, .slice a1 M.imports.length k1, .slice a2 M.funcs.length k2, .int .i64 M.m0, .int .i64 M.m1, .slice a5 M.globals.length k5, .slice a6 M.data.length k6] 29)
  have RA := hide (Row.made w #[.slice a0 M.sigs.length k0, .slice a1 M.imports.length k1, .slice a2 M.funcs.length k2, .int .i64 M.m0, .int .i64 M.m1, .slice a5 M.globals.length k5, .slice a6 M.data.length k6] 29)
  have EX := hide (examples_any _ (hL.kept hb0))
  have E1 := hide (fun w1 (b1 : Below w.heap.size w w1) => encode_no _ M w1 hd (HM.out.step b1 b1.size) he)
  clear h HM hd he hL
  unfold moV at *
  dsimp only at *
  go_enter Tryz.func7, Tryz.ntmps7
  go_wp2_with fail
  refine EX.out.mono ?_
  rintro r w1 ⟨rfl, b1⟩
  have hb1 := hb0.trans (b1.mono hb0.size)
  have RA1 := hide (RA.out.kept b1)
  have c0 := RA1.out.c 0 (.slice a0 M.sigs.length k0) rfl
  have c1 := RA1.out.c 1 (.slice a1 M.imports.length k1) rfl
  have c2 := RA1.out.c 2 (.slice a2 M.funcs.length k2) rfl
  have c3 := RA1.out.c 3 (.int .i64 M.m0) rfl
  have c4 := RA1.out.c 4 (.int .i64 M.m1) rfl
  have c5 := RA1.out.c 5 (.slice a5 M.globals.length k5) rfl
  have c6 := RA1.out.c 6 (.slice a6 M.data.length k6) rfl
  have D1 := hide (E1.out w1 hb1)
  clear b1 EX RA E1 hb0
  go_wp2_with fail
  refine D1.out.mono ?_
  rintro r w2 ⟨p, rfl, _, b2⟩
  have hb2 := below_next hb1 b2
  clear b2 D1 RA1 hb1 c0 c1 c2 c3 c4 c5 c6
  unfold flt
  go_wp2_with fail
  go_ret
  exact ⟨rfl, hb2⟩
set_option maxRecDepth 100000 in
set_option maxHeartbeats 6400000 in
theorem more_long (V : MoV) (M : Mo) (id : Int) (junk : List UInt8) (w : World) (hL : Laid w) (h : IsMo w.heap.size w V M) (hd : ∀ d ∈ M.data, d.bytes.length ≤ 9000000) (he : encE M = 0) (hn : 2000 < (encM M).length) :
    Calls Tryz.prog 7 #[moV V M, .int .i64 id, .string (str junk)] w fun e w' => e = .returned (.bool true) ∧ Below w.heap.size w w' := by
  have HM := hide h
  obtain ⟨a0, k0, a1, k1, a2, k2, a5, k5, a6, k6, rfl⟩ := h.forms
  have hb0 := bel_one w (.cells #[.slice a0 M.sigs.length k0, .slice a1 M.imports.length k1, .slice a2 M.funcs.length k2, .int .i64 M.m0, .int .i64 M.m1, .slice a5 M.globals.length k5, .slice a6 M.data.length k6] 29)
  have RA := hide (Row.made w #[.slice a0 M.sigs.length k0, .slice a1 M.imports.length k1, .slice a2 M.funcs.length k2, .int .i64 M.m0, .int .i64 M.m1, .slice a5 M.globals.length k5, .slice a6 M.data.length k6] 29)
  have EX := hide (examples_any _ (hL.kept hb0))
  have E1 := hide (fun w1 (b1 : Below w.heap.size w w1) => encode_yes _ M w1 hd (HM.out.step b1 b1.size) he)
  have hz : (str (encM M)).size = (encM M).length := str_size _
  have h4 := (encE_0 he).2
  clear h HM hd he hL
  unfold moV at *
  dsimp only at *
  go_enter Tryz.func7, Tryz.ntmps7
  go_wp2_with fail
  refine EX.out.mono ?_
  rintro r w1 ⟨rfl, b1⟩
  have hb1 := hb0.trans (b1.mono hb0.size)
  have RA1 := hide (RA.out.kept b1)
  have c0 := RA1.out.c 0 (.slice a0 M.sigs.length k0) rfl
  have c1 := RA1.out.c 1 (.slice a1 M.imports.length k1) rfl
  have c2 := RA1.out.c 2 (.slice a2 M.funcs.length k2) rfl
  have c3 := RA1.out.c 3 (.int .i64 M.m0) rfl
  have c4 := RA1.out.c 4 (.int .i64 M.m1) rfl
  have c5 := RA1.out.c 5 (.slice a5 M.globals.length k5) rfl
  have c6 := RA1.out.c 6 (.slice a6 M.data.length k6) rfl
  have D1 := hide (E1.out w1 hb1)
  clear b1 EX RA E1 hb0
  go_wp2_with fail
  refine D1.out.mono ?_
  rintro r w2 ⟨rfl, b2⟩
  have hb2 := below_next hb1 b2
  clear b2 D1 RA1 hb1 c0 c1 c2 c3 c4 c5 c6
  go_wp2_with fail
  go_ret
  exact ⟨rfl, hb2⟩
theorem dc_bad {l : List UInt8} {a : Int} (h : rdM l = .inr a) : dcM l = .inr (2, a) := by unfold dcM; rw [h]
/-- what Decode and told tell of bytes that are none -/
theorem dec_no (l : List UInt8) (a : Int) (h : rdM l = .inr a) (w : World) (hL : Laid w) (hl : l.length ≤ 3994) : Calls Tryz.prog 16 #[.string (str (head6 ++ l))] w fun e w' => ∃ pf, e = .returned (.tuple #[.agg mod0, flt pf]) ∧ FaultAt w' pf 2 a ∧ Below w.heap.size w w' := by
  refine (decode_any l w hL hl).mono ?_
  rintro e w' ⟨hb, ⟨M, V, hm, _⟩ | ⟨k, b, pf, hm, rfl, hf⟩⟩
  · rw [dc_bad h] at hm; cases hm
  · rw [dc_bad h] at hm; cases hm
    exact ⟨pf, rfl, hf, hb⟩
theorem dec_nil (w : World) (hL : Laid w) : Calls Tryz.prog 16 #[.string (str (head6 ++ []))] w fun e w' => ∃ a0 k0 a1 k1 a2 k2 a5 k5 a6 k6, e = .returned (.tuple #[.agg #[.slice a0 0 k0, .slice a1 0 k1, .slice a2 0 k2, .int .i64 0, .int .i64 0, .slice a5 0 k5, .slice a6 0 k6], .nilIface]) ∧ Below w.heap.size w w' := by
  refine (decode_any [] w hL (by simp)).mono ?_
  have hr : rdM [] = .inl mo0 := rfl
  have hm : dcM [] = .inl mo0 := by unfold dcM; rw [hr]; simp [fit_nothing]
  rintro e w' ⟨hb, ⟨M, V, h, rfl, hI⟩ | ⟨k, b, pf, h, _⟩⟩
  · rw [hm] at h
    cases h
    obtain ⟨a0, k0, a1, k1, a2, k2, a5, k5, a6, k6, hV⟩ := hI.forms
    cases hV
    exact ⟨a0, k0, a1, k1, a2, k2, a5, k5, a6, k6, rfl, hb⟩
  · rw [hm] at h; cases h
set_option maxRecDepth 100000 in
set_option maxHeartbeats 6400000 in
theorem more_yes (V : MoV) (M : Mo) (id : Int) (junk : List UInt8) (w : World) (hL : Laid w) (h : IsMo w.heap.size w V M) (hd : ∀ d ∈ M.data, d.bytes.length ≤ 9000000) (hi : I64 id) (hj : junk.length ≤ 1048576) (he : encE M = 0) (hn : ¬ 2000 < (encM M).length) :
    Calls Tryz.prog 7 #[moV V M, .int .i64 id, .string (str junk)] w fun e w' => e = .returned (.bool true) ∧ Below w.heap.size w w' := by
  have HM := hide h
  obtain ⟨a0, k0, a1, k1, a2, k2, a5, k5, a6, k6, rfl⟩ := h.forms
  have hb0 := bel_one w (.cells #[.slice a0 M.sigs.length k0, .slice a1 M.imports.length k1, .slice a2 M.funcs.length k2, .int .i64 M.m0, .int .i64 M.m1, .slice a5 M.globals.length k5, .slice a6 M.data.length k6] 29)
  have RA := hide (Row.made w #[.slice a0 M.sigs.length k0, .slice a1 M.imports.length k1, .slice a2 M.funcs.length k2, .int .i64 M.m0, .int .i64 M.m1, .slice a5 M.globals.length k5, .slice a6 M.data.length k6] 29)
  have EX := hide (examples_any _ (hL.kept hb0))
  have E1 := hide (fun w1 (b1 : Below w.heap.size w w1) => encode_yes _ M w1 hd (HM.out.step b1 b1.size) he)
  have FM := hide (fine_of h hd he)
  have hz : (str (encM M)).size = (encM M).length := str_size _
  have hge : 6 ≤ (encM M).length := by unfold encM head6; simp
  have LW := hide hL
  clear h HM hd he hL
  unfold moV at *
  dsimp only at *
  go_enter Tryz.func7, Tryz.ntmps7
  go_wp2_with fail
  refine EX.out.mono ?_
  rintro r w1 ⟨rfl, b1⟩
  have hb1 := hb0.trans (b1.mono hb0.size)
  have RA1 := hide (RA.out.kept b1)
  have c0 := RA1.out.c 0 (.slice a0 M.sigs.length k0) rfl
  have c1 := RA1.out.c 1 (.slice a1 M.imports.length k1) rfl
  have c2 := RA1.out.c 2 (.slice a2 M.funcs.length k2) rfl
  have c3 := RA1.out.c 3 (.int .i64 M.m0) rfl
  have c4 := RA1.out.c 4 (.int .i64 M.m1) rfl
  have c5 := RA1.out.c 5 (.slice a5 M.globals.length k5) rfl
  have c6 := RA1.out.c 6 (.slice a6 M.data.length k6) rfl
  have D1 := hide (E1.out w1 hb1)
  clear b1 EX RA E1 hb0
  go_wp2_with fail
  refine D1.out.mono ?_
  rintro r w2 ⟨rfl, b2⟩
  have hb2 := below_next hb1 b2
  clear b2 D1 RA1 hb1 c0 c1 c2 c3 c4 c5 c6
  go_upto_if 40 with fail
  go_cut [1] from 39 to 43 (fun s1 wx => ∃ j : Int, s1 = .int .i64 j ∧ 0 ≤ j ∧ j ≤ 9223372036854775807 ∧ wx = w2)
  case first =>
    obtain ⟨hi0, hi1⟩ := hi
    by_cases hneg : id < 0
    · go_wp2_with fail
      go_meet
      case rel => exact ⟨_, rfl, by omega, by omega, rfl⟩
    · go_wp2_with fail
      go_meet
      case rel => exact ⟨id, rfl, by omega, by omega, rfl⟩
  case rest =>
    obtain ⟨j, rfl, hj0, hj1, rfl⟩ := hcut
    obtain ⟨W2, rfl⟩ : ∃ W2, W2 = wc := ⟨_, rfl⟩
    have htm : j.tmod 200 = j % 200 := Int.tmod_eq_emod_of_nonneg hj0
    obtain ⟨r200, hr200⟩ : ∃ r, r = j % 200 := ⟨_, rfl⟩
    have hrb : 0 ≤ r200 ∧ r200 < 200 := by omega
    rw [← hr200] at htm
    clear hr200
    have hi12 : 0 ≤ 12 + r200 ∧ 12 + r200 ≤ 255 := by omega
    have hcv := one_str W2 (12 + r200) (12 + r200) rfl hi12.1 hi12.2
    have hal := bel_one W2 (.cells #[.int .u8 (12 + r200)] 5)
    have hb2' := below_next hb2 hal
    have L2 := LW.out.below hb2' LW.out.pos
    have hsl : (encM M).length = 6 + (secs M).length := by unfold encM head6; simp; omega
    have D1 := hide (fun (W : World) (hW : Laid W) => dec_no (secs M ++ [byI (12 + r200), 0]) _ (more_rdM FM.out (next_id (12 + r200) (by omega) (l11_le M).2)) W hW (by simp; omega))
    have q1 : str (head6 ++ (secs M ++ [byI (12 + r200), 0])) = str (encM M) ++ str [byI (12 + r200)] ++ ⟨#[0]⟩ := by
      rw [show (⟨#[0]⟩ : ByteArray) = str [0] from rfl, str_append, str_append]
      unfold encM
      simp
    rw [q1] at D1
    have z1 : ¬ 9223372036854775807 < (str (encM M)).size + (str [byI (12 + r200)]).size := by rw [hz, str_size]; simp; omega
    have z2 : ¬ 9223372036854775807 < (str (encM M) ++ str [byI (12 + r200)]).size + (⟨#[0]⟩ : ByteArray).size := by
      rw [str_append, str_size]; show ¬ 9223372036854775807 < (encM M ++ [byI (12 + r200)]).length + 1; simp; omega
    have hx3 : (str (encM M)).extract 6 (encM M).length = str (secs M) := by
      have := str_drop (encM M) 6
      rw [str_size] at this
      rw [this]
      unfold encM head6
      rfl
    have z5 : ¬ 9223372036854775807 < (str (encM M)).size + ((str (encM M)).extract 6 (encM M).length).size := by rw [hx3, hz, str_size]; omega
    have q3 : str (head6 ++ (secs M ++ secs M)) = str (encM M) ++ (str (encM M)).extract 6 (encM M).length := by
      rw [hx3, str_append]
      unfold encM
      simp
    have hjz : (str junk).size = junk.length := str_size _
    clear q1 hal
    by_cases h0 : secs M = []
    · have hn6 : (encM M).length = 6 := by rw [hsl, h0]; rfl
      have D3 := hide (fun (W : World) (hW : Laid W) => dec_nil W hW)
      have q4 : str (head6 ++ []) = str (encM M) := by unfold encM; rw [h0]
      rw [q4] at D3
      rw [hn6] at z5
      clear q3 q4 hx3 h0
      have hm100 : (min (junk.length : Int) 100).toNat ≤ 100 := by omega
      have hx2 : (str junk).extract 0 (min (junk.length : Int) 100).toNat = str (junk.take (min (junk.length : Int) 100).toNat) := str_take junk _
      have D2 := hide (fun (W : World) (hW : Laid W) => dec_no (secs M ++ (11 :: 1 :: 0 :: junk.take (min (junk.length : Int) 100).toNat)) _ (more_rdM FM.out (next_eleven _)) W hW (by simp; omega))
      have q2 : str (head6 ++ (secs M ++ (11 :: 1 :: 0 :: junk.take (min (junk.length : Int) 100).toNat))) = str (encM M) ++ ⟨#[11, 1, 0]⟩ ++ (str junk).extract 0 (min (junk.length : Int) 100).toNat := by
        rw [hx2, show (⟨#[11, 1, 0]⟩ : ByteArray) = str [11, 1, 0] from rfl, str_append, str_append]
        unfold encM
        simp
      rw [q2] at D2
      have z3 : ¬ 9223372036854775807 < (str (encM M)).size + (⟨#[11, 1, 0]⟩ : ByteArray).size := by rw [hz]; show ¬ 9223372036854775807 < (encM M).length + 3; omega
      have z4 : ¬ 9223372036854775807 < (str (encM M) ++ ⟨#[11, 1, 0]⟩).size + ((str junk).extract 0 (min (junk.length : Int) 100).toNat).size := by
        rw [hx2, str_size, show (⟨#[11, 1, 0]⟩ : ByteArray) = str [11, 1, 0] from rfl, str_append, str_size]; simp; omega
      clear q2 hx2 hsl hm100
      go_wp2_with fail
      refine (D1.out _ L2).mono ?_
      rintro r w3 ⟨pf, rfl, f3, b3⟩
      unfold mod0
      have hal3 := bel_one w3 (.cells #[.slice none 0 0, .slice none 0 0, .slice none 0 0, .int .i64 0, .int .i64 0, .slice none 0 0, .slice none 0 0] 29)
      have hb3 := below_next hb2' b3
      have hb3' := below_next hb3 hal3
      have L3 := LW.out.below hb3' LW.out.pos
      have T3 := hide (told_fault pf 2 ((encM M).length : Int) _ L3 (f3.kept hal3) (by decide))
      have L3H := hide L3
      clear D1 L2 f3 b3 L3 hal3
      unfold flt at *
      go_wp2_with fail
      refine T3.out.mono ?_
      rintro r w4 ⟨rfl, qb4⟩
      have hb4 := below_next hb3' qb4
      have D2' := hide (D2.out _ (LW.out.below hb4 LW.out.pos))
      clear T3 qb4 L3H hb3'
      clear D2
      go_wp2_with fail
      refine D2'.out.mono ?_
      rintro r w5 ⟨pf5, rfl, f5, b5⟩
      unfold mod0
      have hal5 := bel_one w5 (.cells #[.slice none 0 0, .slice none 0 0, .slice none 0 0, .int .i64 0, .int .i64 0, .slice none 0 0, .slice none 0 0] 29)
      have hb5 := below_next hb4 b5
      have hb5' := below_next hb5 hal5
      have L5 := LW.out.below hb5' LW.out.pos
      have T5 := hide (told_fault pf5 2 ((encM M).length : Int) _ L5 (f5.kept hal5) (by decide))
      have L5H := hide L5
      clear D2' f5 b5 L5 hal5
      unfold flt at *
      go_wp2_with fail
      refine T5.out.mono ?_
      rintro r w6 ⟨rfl, qb6⟩
      have hb6 := below_next hb5' qb6
      have D3' := hide (D3.out _ (LW.out.below hb6 LW.out.pos))
      clear T5 qb6 L5H hb5'
      clear D3
      go_wp2_with fail
      refine D3'.out.mono ?_
      rintro r w7 ⟨a0', k0', a1', k1', a2', k2', a5', k5', a6', k6', rfl, b7⟩
      have hal7 := bel_one w7 (.cells #[.slice a0' 0 k0', .slice a1' 0 k1', .slice a2' 0 k2', .int .i64 0, .int .i64 0, .slice a5' 0 k5', .slice a6' 0 k6'] 29)
      have hb7 := below_next hb6 b7
      have hb7' := below_next hb7 hal7
      clear D3' b7 hal7
      go_wp2_with fail
      refine (told_nil _).mono ?_
      rintro r w8 ⟨rfl, rfl⟩
      go_wp2_with fail
      go_ret
      exact ⟨rfl, hb7'⟩
    · have hn6 : 6 < (encM M).length := by
        rw [hsl]
        have : (secs M).length ≠ 0 := fun e => h0 (List.eq_nil_of_length_eq_zero e)
        omega
      have D3 := hide (fun (W : World) (hW : Laid W) => dec_no (secs M ++ secs M) _ (twice_rdM FM.out h0) W hW (by simp; omega))
      rw [q3] at D3
      clear q3 hx3 h0
      have hm100 : (min (junk.length : Int) 100).toNat ≤ 100 := by omega
      have hx2 : (str junk).extract 0 (min (junk.length : Int) 100).toNat = str (junk.take (min (junk.length : Int) 100).toNat) := str_take junk _
      have D2 := hide (fun (W : World) (hW : Laid W) => dec_no (secs M ++ (11 :: 1 :: 0 :: junk.take (min (junk.length : Int) 100).toNat)) _ (more_rdM FM.out (next_eleven _)) W hW (by simp; omega))
      have q2 : str (head6 ++ (secs M ++ (11 :: 1 :: 0 :: junk.take (min (junk.length : Int) 100).toNat))) = str (encM M) ++ ⟨#[11, 1, 0]⟩ ++ (str junk).extract 0 (min (junk.length : Int) 100).toNat := by
        rw [hx2, show (⟨#[11, 1, 0]⟩ : ByteArray) = str [11, 1, 0] from rfl, str_append, str_append]
        unfold encM
        simp
      rw [q2] at D2
      have z3 : ¬ 9223372036854775807 < (str (encM M)).size + (⟨#[11, 1, 0]⟩ : ByteArray).size := by rw [hz]; show ¬ 9223372036854775807 < (encM M).length + 3; omega
      have z4 : ¬ 9223372036854775807 < (str (encM M) ++ ⟨#[11, 1, 0]⟩).size + ((str junk).extract 0 (min (junk.length : Int) 100).toNat).size := by
        rw [hx2, str_size, show (⟨#[11, 1, 0]⟩ : ByteArray) = str [11, 1, 0] from rfl, str_append, str_size]; simp; omega
      clear q2 hx2 hsl hm100
      go_wp2_with fail
      refine (D1.out _ L2).mono ?_
      rintro r w3 ⟨pf, rfl, f3, b3⟩
      unfold mod0
      have hal3 := bel_one w3 (.cells #[.slice none 0 0, .slice none 0 0, .slice none 0 0, .int .i64 0, .int .i64 0, .slice none 0 0, .slice none 0 0] 29)
      have hb3 := below_next hb2' b3
      have hb3' := below_next hb3 hal3
      have L3 := LW.out.below hb3' LW.out.pos
      have T3 := hide (told_fault pf 2 ((encM M).length : Int) _ L3 (f3.kept hal3) (by decide))
      have L3H := hide L3
      clear D1 L2 f3 b3 L3 hal3
      unfold flt at *
      go_wp2_with fail
      refine T3.out.mono ?_
      rintro r w4 ⟨rfl, qb4⟩
      have hb4 := below_next hb3' qb4
      have D2' := hide (D2.out _ (LW.out.below hb4 LW.out.pos))
      clear T3 qb4 L3H hb3'
      clear D2
      go_wp2_with fail
      refine D2'.out.mono ?_
      rintro r w5 ⟨pf5, rfl, f5, b5⟩
      unfold mod0
      have hal5 := bel_one w5 (.cells #[.slice none 0 0, .slice none 0 0, .slice none 0 0, .int .i64 0, .int .i64 0, .slice none 0 0, .slice none 0 0] 29)
      have hb5 := below_next hb4 b5
      have hb5' := below_next hb5 hal5
      have L5 := LW.out.below hb5' LW.out.pos
      have T5 := hide (told_fault pf5 2 ((encM M).length : Int) _ L5 (f5.kept hal5) (by decide))
      have L5H := hide L5
      clear D2' f5 b5 L5 hal5
      unfold flt at *
      go_wp2_with fail
      refine T5.out.mono ?_
      rintro r w6 ⟨rfl, qb6⟩
      have hb6 := below_next hb5' qb6
      have D3' := hide (D3.out _ (LW.out.below hb6 LW.out.pos))
      clear T5 qb6 L5H hb5'
      clear D3
      go_wp2_with fail
      refine D3'.out.mono ?_
      rintro r w7 ⟨pf7, rfl, f7, b7⟩
      unfold mod0
      have hal7 := bel_one w7 (.cells #[.slice none 0 0, .slice none 0 0, .slice none 0 0, .int .i64 0, .int .i64 0, .slice none 0 0, .slice none 0 0] 29)
      have hb7 := below_next hb6 b7
      have hb7' := below_next hb7 hal7
      have L7 := LW.out.below hb7' LW.out.pos
      have T7 := hide (told_fault pf7 2 ((encM M).length : Int) _ L7 (f7.kept hal7) (by decide))
      clear D3' f7 b7 L7 hal7
      unfold flt at *
      go_wp2_with fail
      refine T7.out.mono ?_
      rintro r w8 ⟨rfl, qb8⟩
      have hb8 := below_next hb7' qb8
      clear T7 qb8
      go_wp2_with fail
      go_ret
      exact ⟨rfl, hb8⟩
theorem more_walk (V : MoV) (M : Mo) (id : Int) (junk : List UInt8) (w : World) (hL : Laid w) (h : IsMo w.heap.size w V M) (hd : ∀ d ∈ M.data, d.bytes.length ≤ 9000000) (hi : I64 id) (hj : junk.length ≤ 1048576) :
    Calls Tryz.prog 7 #[moV V M, .int .i64 id, .string (str junk)] w fun e w' => e = .returned (.bool true) ∧ Below w.heap.size w w' :=
  if he : encE M = 0 then (if hn : 2000 < (encM M).length then more_long V M id junk w hL h hd he hn else more_yes V M id junk w hL h hd hi hj he hn) else more_no V M id junk w hL h hd he
end Go.Proofs.YtcbfpikggphokaaGreatDoor
namespace Go.Proofs.YtcbfpikggphokaaGreatDoor.wbinMoreUpto
open Go.ChangeShapes Go.WideShapes Go.ChangeAt Go.RowKit
open Go.ChangeMaps (open_string shut_string)

theorem own : ownKnob Tryz.prog.godebug = none := by kernel_rfl
theorem laidOut : laidOutB Tryz.prog = true := by kernel_rfl
theorem et : Tryz.prog.globalNamed "errors.errorType" = some 0 := by kernel_rfl
theorem rt : (Tryz.prog.cutTypes.find? (·.1 == "internal/reflectlite.rtype")).map (·.2) = some 154 := by kernel_rfl
theorem oneRow : ((List.range 241).filter fun t => Tryz.prog.rowNamed t [101, 114, 114, 111, 114]) = [32] := by kernel_rfl
theorem size : Tryz.prog.types.size = 241 := by kernel_rfl
/-- What the row's list gives. -/
theorem handle_of_laid {W : World} (h : laidMetH Tryz.prog Rows.wbinMoreUptoRow.laid W) : Laid W := by
  have h' : laidMet Tryz.prog [] W ∧ handlesMet Tryz.prog Rows.wbinMoreUptoRow.laid W := h
  obtain ⟨name, u, ty, e1, e2, e3, e4, e5⟩ := h'.2 _ (List.mem_singleton.2 rfl)
  have en : name = [101, 114, 114, 111, 114] := (Option.some.inj e1).symm
  subst en
  obtain rfl := Option.some.inj (rt.symm.trans e2)
  have hm : ty ∈ (List.range 241).filter fun t => Tryz.prog.rowNamed t [101, 114, 114, 111, 114] := List.mem_filter.2 ⟨List.mem_range.2 (by rw [← size]; exact e3), e4⟩
  rw [oneRow] at hm
  obtain rfl := List.mem_singleton.1 hm
  have hh : typeHandle Tryz.prog 32 = .pointer (some ⟨1, 32, none⟩) := by kernel_rfl
  rw [hh] at e5
  exact (by simpa using World.var?_cell et e5 0 : W.cell? ⟨0, 0, none⟩ = some (.iface 154 (.agg #[.pointer (some ⟨1, 32, none⟩)])))
/-- A world that meets the list. -/
noncomputable def laidWorld (os : Os) : World :=
  { World.holding Tryz.prog os ⟨#[], #[], []⟩ with heap := (World.holding Tryz.prog os ⟨#[], #[], []⟩).heap.modify 0 fun
      | .cells _ t frozen => .cells #[.iface 154 (.agg #[.pointer (some ⟨1, 32, none⟩)])] t frozen
      | o => o }
theorem laid_met (os : Os) : laidMetH Tryz.prog Rows.wbinMoreUptoRow.laid ((laidWorld os).forCall (fun _ _ => 0) ⟨#[], #[.agg #[.slice none 0 0, .slice none 0 0, .slice none 0 0, .int .i64 0, .int .i64 0, .slice none 0 0, .slice none 0 0], .int .i64 0, .string ByteArray.empty], []⟩).memory :=
  laidMetH_of_parts (laidMet_nil _ _) (by kernel_rfl)
theorem reads (os : Os) {H : Type} (enc : TypeId × Value → H) : ∃ places, DataW.whole enc Tryz.prog ((laidWorld os).forCall (fun _ _ => 0) ⟨#[], #[.agg #[.slice none 0 0, .slice none 0 0, .slice none 0 0, .int .i64 0, .int .i64 0, .slice none 0 0, .slice none 0 0], .int .i64 0, .string ByteArray.empty], []⟩).memory Tryz.f7.params.toList Rows.wbinMoreSpec.vars false [.agg #[.slice none 0 0, .slice none 0 0, .slice none 0 0, .int .i64 0, .int .i64 0, .slice none 0 0, .slice none 0 0], .int .i64 0, .string ByteArray.empty] 8 = some ([.agg [.nil, .nil, .nil, .agg [.lit (.int .i64 0), .lit (.int .i64 0)], .nil, .nil], .lit (.int .i64 0), .lit (.string [])], [], places) :=
  ⟨[], by kernel_rfl⟩
set_option maxHeartbeats 800000 in
set_option maxRecDepth 100000 in
theorem contract (H : Type) (enc : TypeId × Value → H) (W : World) (base : Nat) (args : Array Value) (ds gs : List (DataW H)) (before : List MemPlace)
    (hval : ∀ (j : Nat) t v, Tryz.f7.params[j]? = some t → args[j]? = some v → Value.okWide Tryz.prog W .any base t v)
    (hW : DataW.Whole enc Tryz.prog Tryz.f7.params.toList Rows.wbinMoreSpec.vars false W args.toList ds gs before) (hL : laidMetH Tryz.prog Rows.wbinMoreUptoRow.laid W) (hk : Rows.uptoBulkAll (ds ++ gs) ≤ 1048576) :
    Calls Tryz.prog 7 args W fun e W' => ∃ v, e = .returned v ∧ Rows.wbinMoreSpec.post enc Tryz.prog Tryz.f7 false true false false W args v W' := by
  have hW' := hW
  obtain ⟨p, q, hA0, hV, rfl, hfz, hnd⟩ := hW
  have hA : DataW.TrodAll enc Tryz.prog W 0 (fun _ => true) true Tryz.f7.params.toList args.toList ds p := hA0
  rw [Tryz.params7] at hA hval
  obtain ⟨v0, vs0, d0, ds0, p0, q0, hargs, rfl, rfl, h0, r0⟩ := trodAll_cons hA
  obtain ⟨v1, vs1, d1, ds1, p1, q1, rfl, rfl, rfl, h1, r1⟩ := trodAll_cons r0
  obtain ⟨v2, vs2, d2, ds2, p2, q2, rfl, rfl, rfl, h2, r2⟩ := trodAll_cons r1
  obtain ⟨rfl, rfl, rfl⟩ := trodAll_nil r2
  obtain rfl : args = #[v0, v1, v2] := by cases args; simp_all
  obtain ⟨rfl, rfl⟩ := trodVars_none hV
  clear hA0
  simp only [List.append_nil, Rows.uptoBulkAll] at hk
  have hlt : ∀ x ∈ p0 ++ (p1 ++ (p2 ++ [])), x.block < W.heap.size := fun x hx => hW'.lt x (by simpa using hx)
  have arg0 : ∀ (W' : World), Below W.heap.size W W' → DataW.Trod enc Tryz.prog W' 0 (fun b => decide (b < W.heap.size)) true 29 v0 d0 p0 :=
    fun W' hn => Below.trod laidOut (by kernel_rfl) (of_decide_eq_true (by kernel_rfl)) h0 hn (fun x hx => hlt x (by simp [hx]))
  have arg1 : ∀ (W' : World), Below W.heap.size W W' → DataW.Trod enc Tryz.prog W' 0 (fun b => decide (b < W.heap.size)) true 3 v1 d1 p1 :=
    fun W' hn => Below.trod laidOut (by kernel_rfl) (of_decide_eq_true (by kernel_rfl)) h1 hn (fun x hx => hlt x (by simp [hx]))
  have arg2 : ∀ (W' : World), Below W.heap.size W W' → DataW.Trod enc Tryz.prog W' 0 (fun b => decide (b < W.heap.size)) true 9 v2 d2 p2 :=
    fun W' hn => Below.trod laidOut (by kernel_rfl) (of_decide_eq_true (by kernel_rfl)) h2 hn (fun x hx => hlt x (by simp [hx]))
  obtain ⟨V0, M0, rfl, hm0, hd0⟩ := open_mo (hval 0 29 v0 rfl rfl) h0
  obtain ⟨a1, rfl, rfl, rfl, w1⟩ := open_int Tryz.underlying3 (hval 1 3 v1 rfl rfl) h1
  obtain ⟨s2, rfl, rfl, rfl, w2⟩ := open_string Tryz.underlying9 (hval 2 9 v2 rfl rfl) h2
  have es2 : s2 = str s2.data.toList := by simp [str]
  have walk : Calls Tryz.prog 7 #[moV V0 M0, .int .i64 a1, .string s2] W fun r w' => r = .returned (.bool true) ∧ Below W.heap.size W w' := by
    rw [es2]
    exact more_walk V0 M0 a1 s2.data.toList W (handle_of_laid hL) hm0 (fun y hy => Nat.le_trans (hd0 y hy) (by omega)) (wf_i64 w1) (by simp only [Rows.uptoBulk] at hk; omega)
  refine walk.mono fun e W' ⟨he, bel⟩ => ?_
  subst he
  exact ⟨_, rfl, _, _, _, [], _, [], hW', trodAll_mk1 (shut_bool Tryz.underlying4 _), (trodAll_cons_mk (arg0 _ bel) (trodAll_cons_mk (arg1 _ bel) (trodAll_cons_mk (arg2 _ bel) trodAll_mk0))), rfl, bel.frame _, fun h => by cases h⟩
set_option maxRecDepth 100000 in
theorem lifted (os : Os) (started : os.Started) (H : Type) (enc : TypeId × Value → H) (F : Stop.Interp) :
    ReturnsInHanded {} Tryz.checked os 7 .any ((Rows.OpenSpec.upto Rows.wbinMoreSpec).preRow enc Tryz.prog Tryz.f7 Rows.wbinMoreUptoRow.domain false Rows.wbinMoreUptoRow.laid) (((Rows.OpenSpec.upto Rows.wbinMoreSpec).at F).post enc Tryz.prog Tryz.f7 false true false false) := by
  obtain ⟨places, hx⟩ := reads os enc
  refine returnsInHanded_of_row (C := Tryz.checked) (s := (Rows.OpenSpec.upto Rows.wbinMoreSpec)) own started (by kernel_rfl) Tryz.func7
    (witness_row_at (enc := enc) (C := Tryz.checked) false (laidWorld os) #[.agg #[.slice none 0 0, .slice none 0 0, .slice none 0 0, .int .i64 0, .int .i64 0, .slice none 0 0, .slice none 0 0], .int .i64 0, .string ByteArray.empty] rfl (by kernel_rfl) (by kernel_rfl) (by kernel_rfl)
      (OpenSpec.preRow_of_cond 8 hx (by kernel_rfl) (fun k hk => by cases hk; kernel_rfl) (by kernel_rfl) (laid_met os))) ?_
  intro W base args ds gs before hval hW _ hc _ hL _ _
  exact contract H enc W base args ds gs before hval hW hL (of_decide_eq_true (hc _ rfl))
theorem said : Rows.WbinMoreUptoSaid :=
  OpenClaim.holds_of_cond 7 Tryz.f7 rfl rfl rfl rfl rfl rfl rfl ⟨rfl, rfl, rfl, rfl, rfl⟩ rfl rfl rfl rfl rfl (by kernel_rfl) Tryz.func7 (by kernel_rfl)
    (of_decide_eq_true (by kernel_rfl)) (by unfold Func.isWrapper; first | (rw [if_pos (by decide +kernel)]; kernel_rfl) | (rw [if_neg (by decide +kernel)]; exact ⟨rfl, rfl⟩))
    (fun os started H enc _ F => by rw [OpenClaim.pre_eq_preRow]; exact lifted os started H enc F)
theorem plain (f : FuncId) (fn : Func) (hf : Tryz.pinned.checked.prog.funcNamed "oubliette/oubliettelaw05.WbinMore" = some f) (hfn : Tryz.pinned.checked.prog.funcs[f]? = some fn) :
    true = Tryz.pinned.checked.prog.looks [] ∧ ∀ (j : Nat) t, fn.params[j]? = some t → Tryz.pinned.checked.prog.wantsStandIn t = false := by
  obtain rfl : f = 7 := Option.some.inj ((show Tryz.prog.funcNamed "oubliette/oubliettelaw05.WbinMore" = some 7 by kernel_rfl).symm.trans hf) |>.symm
  obtain rfl : fn = Tryz.f7 := (Option.some.inj (Tryz.func7.symm.trans hfn)).symm
  refine ⟨by kernel_rfl, fun j t ht => ?_⟩
  rw [Tryz.params7] at ht
  have hm := Array.mem_of_getElem? ht
  simp only [List.mem_toArray, List.mem_cons, List.not_mem_nil, or_false] at hm
  rcases hm with rfl | rfl | rfl
  · exact (show Tryz.prog.wantsStandIn 29 = false by kernel_rfl)
  · exact (show Tryz.prog.wantsStandIn 3 = false by kernel_rfl)
  · exact (show Tryz.prog.wantsStandIn 9 = false by kernel_rfl)
end Go.Proofs.YtcbfpikggphokaaGreatDoor.wbinMoreUpto
namespace Go.Proofs.YtcbfpikggphokaaGreatDoor
theorem wbinMoreUpto_card : Rows.WbinMoreUptoCardSaid :=
  Claim7.holds_tied_plain_at .later [] _ _ _ _ wbinMoreUpto.said (fun _ h => by cases h) (by kernel_rfl) (fun _ h => by cases h) wbinMoreUpto_row_tie rfl ⟨rfl, rfl⟩ (by kernel_rfl) rfl wbinMoreUpto.plain (by kernel_rfl)
#print axioms wbinMoreUpto_card
end Go.Proofs.YtcbfpikggphokaaGreatDoor

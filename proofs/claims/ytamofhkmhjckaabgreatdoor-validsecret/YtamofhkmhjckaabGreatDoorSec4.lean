/-
  ValidSecret's walk.
-/
import Derived.Test.YtamofhkmhjckaabGreatDoorSecA
import Derived.Test.YtamofhkmhjckaabGreatDoorSecB
namespace Go.Proofs.YtamofhkmhjckaabGreatDoor
open Go.RowKit

set_option maxRecDepth 100000 in
set_option maxHeartbeats 4000000 in
theorem secret_walk (a b : Int) (tr : Bool) (w : World) (hL : Laid w) (ha : I64 a) (hb : I64 b) :
    Calls Tryz.prog 4 #[.int .i64 a, .int .i64 b, .bool tr] w fun e w' => e = .returned (.bool true) ∧ Below w.heap.size w w' := by
  have EX := hide (examples_any w hL)
  have HL := hide hL
  have HA := hide ha
  have HB := hide hb
  clear hL ha hb
  cases hra : ri a with
  | false =>
    have HRA := hide hra
    clear hra
    go_enter Tryz.func4, Tryz.ntmps4
    go_wp2_with fail
    refine EX.out.mono ?_
    rintro e w1 ⟨rfl, b1⟩
    have HB1 := hide b1
    clear b1
    go_wp2_with fail
    refine (right_is a false _ HA.out HRA.out).mono ?_
    rintro e w2 ⟨rfl, rfl⟩
    go_wp2_with fail
    go_ret
    exact ⟨rfl, HB1.out⟩
  | true =>
  cases hrb : ri b with
  | false =>
    have HRA := hide hra
    have HRB := hide hrb
    clear hra hrb
    go_enter Tryz.func4, Tryz.ntmps4
    go_wp2_with fail
    refine EX.out.mono ?_
    rintro e w1 ⟨rfl, b1⟩
    have HB1 := hide b1
    clear b1
    go_wp2_with fail
    refine (right_is a true _ HA.out HRA.out).mono ?_
    rintro e w2 ⟨rfl, rfl⟩
    go_wp2_with fail
    refine (right_is b false _ HB.out HRB.out).mono ?_
    rintro e w3 ⟨rfl, rfl⟩
    go_wp2_with fail
    go_ret
    exact ⟨rfl, HB1.out⟩
  | true =>
  have HRA := hide hra
  have HRB := hide hrb
  have HFL' := hide (sec_1 hra hrb tr)
  have S2 := hide (sec_2 hra hrb tr)
  have S3 := hide (sec_3 hra hrb tr)
  have S4 := hide (sec_4 hra hrb tr)
  clear hra hrb
  have S1 := HFL'
  clear HFL'
  cases hfl : fl a b with
  | false =>
    rw [hfl] at S1 S2 S3
    cases tr with
    | false => exact sec_w0 a b w EX HL HA HB HRA HRB (hide hfl) S1 S2 S3 (hide (by rw [S4.out]; rfl))
    | true =>
      cases hwa : wi a with
      | false =>
        cases hwb : wi b with
        | false => exact sec_w1 a b w EX HL HA HB HRA HRB (hide hfl) (hide hwa) (hide hwb) S1 S2 S3 (hide (by rw [S4.out, hwa, hwb]; rfl))
        | true => exact sec_w2 a b w EX HL HA HB HRA HRB (hide hfl) (hide hwa) (hide hwb) S1 S2 S3 (hide (by rw [S4.out, hwa, hwb]; rfl))
      | true =>
        cases hwb : wi b with
        | false => exact sec_w3 a b w EX HL HA HB HRA HRB (hide hfl) (hide hwa) (hide hwb) S1 S2 S3 (hide (by rw [S4.out, hwa, hwb]; rfl))
        | true => exact sec_w4 a b w EX HL HA HB HRA HRB (hide hfl) (hide hwa) (hide hwb) S1 S2 S3 (hide (by rw [S4.out, hwa, hwb]; rfl))
  | true =>
    rw [hfl] at S1 S2 S3
    cases tr with
    | false => exact sec_w5 a b w EX HL HA HB HRA HRB (hide hfl) S1 S2 S3 (hide (by rw [S4.out]; rfl))
    | true =>
      cases hwa : wi a with
      | false =>
        cases hwb : wi b with
        | false => exact sec_w6 a b w EX HL HA HB HRA HRB (hide hfl) (hide hwa) (hide hwb) S1 S2 S3 (hide (by rw [S4.out, hwa, hwb]; rfl))
        | true => exact sec_w7 a b w EX HL HA HB HRA HRB (hide hfl) (hide hwa) (hide hwb) S1 S2 S3 (hide (by rw [S4.out, hwa, hwb]; rfl))
      | true =>
        cases hwb : wi b with
        | false => exact sec_w8 a b w EX HL HA HB HRA HRB (hide hfl) (hide hwa) (hide hwb) S1 S2 S3 (hide (by rw [S4.out, hwa, hwb]; rfl))
        | true => exact sec_w9 a b w EX HL HA HB HRA HRB (hide hfl) (hide hwa) (hide hwb) S1 S2 S3 (hide (by rw [S4.out, hwa, hwb]; rfl))
end Go.Proofs.YtamofhkmhjckaabGreatDoor

/-
  The statement NestTargets, walked.
-/
import Derived.Test.YtglagdbkcigojaaRefTarget
import Derived.Deep.CutRange
namespace Go.Proofs.Ytglagdbkcigojaa
open Go.RowKit

set_option maxRecDepth 100000 in
set_option maxHeartbeats 8000000 in
theorem targets_walk (a : Option Addr) (n c : Nat) (p d : Int) (fo fn fm : Nat → Int) (w : World) (hd1 : d ≤ 9223372036854775807) (hL : Lst w.heap.size w a n fo fn fm) (hnc : n ≤ c) (hna : a = none → n = 0 ∧ c = 0) :
    Calls Try.prog 4 #[.slice a n c, .int .i64 p, .int .i64 d] w fun e w' => e = .returned (.bool true) ∧ Below w.heap.size w w' := by
  have EX := hide (examples_any w)
  have HL := hide hL
  clear hL
  go_enter Try.func4, Try.ntmps4
  go_wp2_with fail
  refine EX.out.mono ?_
  rintro e w1 ⟨rfl, hb1⟩
  clear EX
  go_upto_region 2 with fail
  go_cut [0] from 15 to 19 (fun s0 wx => ∃ m : Nat, s0 = .slice a m c ∧ m ≤ n ∧ m ≤ 300 ∧ wx = w1)
  case first =>
    cases a with
    | none =>
      obtain ⟨rfl, rfl⟩ := hna rfl
      go_wp2_with fail
      go_meet
      case rel => exact ⟨0, rfl, Nat.le_refl _, by omega, rfl⟩
    | some ad =>
      by_cases h2 : n ≤ 300
      · go_wp2_with fail
        go_meet
        case rel => exact ⟨n, rfl, Nat.le_refl _, h2, rfl⟩
      · go_wp2_with fail
        go_meet
        case rel => exact ⟨300, rfl, by omega, Nat.le_refl _, rfl⟩
  case rest =>
    obtain ⟨m, rfl, hmn, hm2, rfl⟩ := hcut
    have L1 := hide ((HL.out.less hmn).below hb1 (Nat.le_refl _)).ops
    have n1 := hb1.size
    obtain ⟨⟨r1, r2, r3⟩, hr⟩ : ∃ r, tgt fo m p d = r := ⟨_, rfl⟩
    have T := hide (target_is a m c w.heap.size fo p d r1 r2 r3 hr wc L1.out n1 (by omega))
    have HR := hide hr
    clear HL hr
    go_wp2_with fail
    refine T.out.mono ?_
    rintro e w2 ⟨rfl, hb2⟩
    have b2 := hb1.trans (hb2.mono n1)
    have L2 := hide (ops_on L1.out n1 hb2)
    have n2 := Nat.le_trans n1 hb2.size
    have RT := ref_target a m c w.heap.size fo p d w2 L2.out n2 (by omega) hd1
    rw [HR.out] at RT
    unfold tri at RT
    have RTH := hide RT
    clear T RT HR
    go_wp2_with fail
    refine RTH.out.mono ?_
    rintro e w3 ⟨rfl, hb3⟩
    have b3 := b2.trans (hb3.mono n2)
    clear RTH hb3
    go_wp2_with fail
    go_ret
    exact ⟨by simp, b3⟩
end Go.Proofs.Ytglagdbkcigojaa

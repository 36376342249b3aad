/-
  The statement FlagsDivide, walked: any number of twice the width is divided by any other one, without and with signs, as the chapter says, or refused: it returns true; nothing older is changed.
-/
import Derived.Test.YtmcjdlmbidlckaaEx
import Derived.Test.YtmcjdlmbidlckaaRDiv
import Derived.Test.YtmcjdlmbidlckaaRIdiv
namespace Go.Proofs.Ytmcjdlmbidlckaa
open Go.RowKit

set_option maxHeartbeats 1000000 in
theorem dividel_walk (wide : Bool) (high low by' : Int) (w : World) (h1 : I64 high) (h2 : I64 low) (h3 : I64 by') :
    Calls Try.prog 6 #[.bool wide, .int .i64 high, .int .i64 low, .int .i64 by'] w fun e w' => e = .returned (.bool true) ∧ Below w.heap.size w w' := by
  have T := fun w => div_any wide high low by' w h1 h2 h3
  have U := fun w => rdiv_any wide high low by' w h1 h2 h3
  have V := fun w => idiv_any wide high low by' w h2
  have X := fun w => ridiv_any wide high low by' w
  generalize dQ wide high low by' = a at T U
  generalize dM wide high low by' = b at T U
  generalize dB wide high by' = c at T U
  generalize iQ wide high low by' = d at V X
  generalize iM wide high low by' = f at V X
  generalize iB wide high low by' = g at V X
  have T' := hide T
  have U' := hide U
  have V' := hide V
  have X' := hide X
  clear T U V X h1 h2 h3
  go_enter Try.func6, Try.ntmps6
  go_wp2_with fail
  refine (examples_any _).mono ?_
  rintro e w1 ⟨rfl, B1⟩
  go_wp2_with fail
  refine (T'.out _).mono ?_
  rintro e w2 ⟨rfl, B2⟩
  have D2 := hide (bel_tr B1 B2)
  clear B1 B2
  go_wp2_with fail
  refine (U'.out _).mono ?_
  rintro e w3 ⟨rfl, rfl⟩
  go_wp2_with fail
  refine (V'.out _).mono ?_
  rintro e w4 ⟨rfl, B4⟩
  have D4 := hide (bel_tr D2.out B4)
  clear B4 D2
  go_wp2_with fail
  refine (X'.out _).mono ?_
  rintro e w5 ⟨rfl, B5⟩
  have D5 := hide (bel_tr D4.out B5)
  clear B5 D4
  go_wp2_with fail
  go_ret
  exact ⟨rfl, D5.out⟩
end Go.Proofs.Ytmcjdlmbidlckaa

/-
  The document's Right answers what the plain function rt answers.
-/
import Derived.Test.YtookbgnidinkoaaCRR1
import Derived.Test.YtookbgnidinkoaaCRR2
import Derived.Test.YtookbgnidinkoaaCRR3
import Derived.Test.YtookbgnidinkoaaCRR4
import Derived.Test.YtookbgnidinkoaaCRR5
import Derived.Test.YtookbgnidinkoaaCRR6
import Derived.Test.YtookbgnidinkoaaCRR7
namespace Go.Proofs.Ytookbgnidinkoaa.Xc
open Go.RowKit
set_option linter.unusedSimpArgs false
set_option linter.unusedVariables false
theorem rright_any (x : Xi) (w : World) : RrIs x w := by
  obtain ⟨op, wd, r, b, i, c, n⟩ := x
  by_cases h : op < 1 ∨ 23 < op
  · exact rright_none op wd r b i c n w h
  rcases op_cases (show 1 ≤ op by omega) (show op ≤ 23 by omega) with rfl | rfl | rfl | rfl | rfl | rfl | rfl | rfl | rfl | rfl | rfl | rfl | rfl | rfl | rfl | rfl | rfl | rfl | rfl | rfl | rfl | rfl | rfl
  · exact rright_1 wd r b i c n w
  · exact rright_2 wd r b i c n w
  · cases hk : smK c
    · exact rright_3l wd r b i c n w hk
    · exact rright_3k wd r b i c n w hk
  · cases hk : smK c <;> cases hs : s32 n
    · exact rright_4lt wd r b i c n w hk hs
    · exact rright_4ls wd r b i c n w hk hs
    · exact rright_4kt wd r b i c n w hk hs
    · exact rright_4ks wd r b i c n w hk hs
  · exact rright_5 wd r b i c n w
  · exact rright_6 wd r b i c n w
  · cases hk : shK c
    · exact rright_7l wd r b i c n w hk
    · exact rright_7k wd r b i c n w hk
  · exact rright_8 wd r b i c n w
  · exact rright_9 wd r b i c n w
  · exact rright_10 wd r b i c n w
  · cases hs : s32 n
    · exact rright_11t wd r b i c n w hs
    · exact rright_11s wd r b i c n w hs
  · cases hs : s32 n
    · exact rright_12t wd r b i c n w hs
    · exact rright_12s wd r b i c n w hs
  · cases hk : cnK c
    · exact rright_13l wd r b i c n w hk
    · exact rright_13k wd r b i c n w hk
  · exact rright_14 wd r b i c n w
  · cases hk : cnK c
    · exact rright_15l wd r b i c n w hk
    · exact rright_15k wd r b i c n w hk
  · exact rright_16 wd r b i c n w
  · cases hs : s32 n
    · exact rright_17t wd r b i c n w hs
    · exact rright_17s wd r b i c n w hs
  · cases hk : cnK c <;> cases hs : s32 n
    · exact rright_18lt wd r b i c n w hk hs
    · exact rright_18ls wd r b i c n w hk hs
    · exact rright_18kt wd r b i c n w hk hs
    · exact rright_18ks wd r b i c n w hk hs
  · cases hs : s32 n
    · exact rright_19t wd r b i c n w hs
    · exact rright_19s wd r b i c n w hs
  · exact rright_20 wd r b i c n w
  · exact rright_21 wd r b i c n w
  · exact rright_22 wd r b i c n w
  · exact rright_23 wd r b i c n w
end Go.Proofs.Ytookbgnidinkoaa.Xc

/-
  read answers what the plain function rd tells of the padded bytes.
-/
import Derived.Test.YtielpebokbolbaaCRd1
import Derived.Test.YtielpebokbolbaaCRd2
import Derived.Test.YtielpebokbolbaaCRd3
import Derived.Test.YtielpebokbolbaaCRd4
import Derived.Test.YtielpebokbolbaaCRd5
import Derived.Test.YtielpebokbolbaaCRd6
namespace Go.Proofs.Ytielpebokbolbaa.Xc
open Go.RowKit
set_option linter.unusedSimpArgs false
set_option linter.unusedVariables false
theorem read_any (t : ByteArray) (w : World) : RdIs t w := by
  have hb := fnd_bd (rF (pad t.data.toList)) (ga (pad t.data.toList) (rQ (pad t.data.toList)) / 64) (ga (pad t.data.toList) (rQ (pad t.data.toList)) / 8 % 8)
  rcases hop : fnd (rF (pad t.data.toList)) (ga (pad t.data.toList) (rQ (pad t.data.toList)) / 64) (ga (pad t.data.toList) (rQ (pad t.data.toList)) / 8 % 8) with ⟨op, c⟩
  rw [hop] at hb
  simp only at hb
  have : op = 0 ∨ op = 1 ∨ op = 2 ∨ op = 3 ∨ op = 4 ∨ op = 5 ∨ op = 6 ∨ op = 7 ∨ op = 8 ∨ op = 9 ∨ op = 10 ∨ op = 11 ∨ op = 12 ∨ op = 13 ∨ op = 14 ∨ op = 15 ∨ op = 16 ∨ op = 17 ∨ op = 18 ∨ op = 19 ∨ op = 20 ∨ op = 21 ∨ op = 22 ∨ op = 23 := by omega
  rcases this with rfl | rfl | rfl | rfl | rfl | rfl | rfl | rfl | rfl | rfl | rfl | rfl | rfl | rfl | rfl | rfl | rfl | rfl | rfl | rfl | rfl | rfl | rfl | rfl
  · exact read_0 t w c hop
  · exact read_1 t w c hop
  · exact read_2 t w c hop
  · exact read_3 t w c hop
  · exact read_4 t w c hop
  · exact read_5 t w c hop
  · exact read_6 t w c hop
  · exact read_7 t w c hop
  · exact read_8 t w c hop
  · exact read_9 t w c hop
  · exact read_10 t w c hop
  · exact read_11 t w c hop
  · exact read_12 t w c hop
  · exact read_13 t w c hop
  · exact read_14 t w c hop
  · exact read_15 t w c hop
  · exact read_16 t w c hop
  · exact read_17 t w c hop
  · exact read_18 t w c hop
  · exact read_19 t w c hop
  · exact read_20 t w c hop
  · exact read_21 t w c hop
  · exact read_22 t w c hop
  · exact read_23 t w c hop
end Go.Proofs.Ytielpebokbolbaa.Xc

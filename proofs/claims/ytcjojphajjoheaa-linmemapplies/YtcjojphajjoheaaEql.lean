/-
  Two strings by value held against two others; writes of which some are left out.
-/
import Derived.Test.YtcjojphajjoheaaApply0
import Derived.Laws.StructEq
namespace Go.Proofs.Ytcjojphajjoheaa
open Go.RowKit

theorem Try.spart0 (x y : Value) (w : World) : (part 9 #[x, y] 0).run Try.prog w = .ok x w := by kernel_rfl
theorem Try.spart1 (x y : Value) (w : World) : (part 9 #[x, y] 1).run Try.prog w = .ok y w := by kernel_rfl
theorem Try.sizeStr (w : World) : (Go.sizeOf 9).run Try.prog w = .ok 1 w := by kernel_rfl
theorem run_equalIn_two (a b c d : ByteArray) (w : World) : (Op.equalIn 10000 38 (.agg #[.string a, .string b]) (.agg #[.string c, .string d])).run Try.prog w = .ok (a.toList == c.toList && b.toList == d.toList) w := by
  have h3 : ∀ (x y : ByteArray) (w : World), (Op.equalIn 9999 9 (.string x) (.string y)).run Try.prog w = .ok (x.toList == y.toList) w := fun x y w => run_equalIn_string w 9998 9 x y Try.underlying9
  rw [show (10000 : Nat) = 9999 + 1 from rfl, Op.equalIn]
  simp only [Sem.run_bind, run_underlying Try.und38, Result.andThen_ok, Try.sizeStr]
  rw [Std.Legacy.Range.forIn_eq_forIn_range']
  simp only [Std.Legacy.Range.size]
  simp [List.range', Try.spart0, Try.spart1, h3, Sem.run_bind]
  cases h1 : (a.toList == c.toList) <;> cases h2 : (b.toList == d.toList) <;> simp_all
theorem eq_two (a b : ByteArray) (w : World) : (Op.equalIn 10000 38 (.agg #[.string a, .string b]) (.agg #[.string a, .string b])).run Try.prog w = .ok true w := by
  rw [run_equalIn_two]; simp
theorem SDa.take {B : Nat} {W : World} {a : Option Addr} {l : List Da} (h : SDa B W a l) (n : Nat) : SDa B W a (l.take n) := by
  intro j hj
  have hj' : j < l.length := by rw [List.length_take] at hj; omega
  obtain ⟨b, off, e, hb, hE⟩ := h j hj'
  exact ⟨b, off, e, hb, by simpa using hE⟩
end Go.Proofs.Ytcjojphajjoheaa

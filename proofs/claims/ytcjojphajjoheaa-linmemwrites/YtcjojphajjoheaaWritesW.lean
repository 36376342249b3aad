/-
  The walk of the statement LinmemWrites, whatever the writes and the number.
-/
import Derived.Test.YtcjojphajjoheaaWritesV
import Derived.Test.YtcjojphajjoheaaWritesE
import Derived.Test.YtcjojphajjoheaaWritesF
namespace Go.Proofs.Ytcjojphajjoheaa
open Go.RowKit

/-- Whatever the writes and the number. -/
theorem writes_walk (a : Option Addr) (l : List Da) (c : Nat) (x : Int) (w : World) (hd : SDa w.heap.size w a l) (hc : l.length ≤ c) (_hl : l.length ≤ 9223372036854775807) (hx : I64 x) :
    Calls Try.prog 7 #[.slice a l.length c, .int .i64 x] w fun e w' => e = .returned (.bool true) ∧ Below w.heap.size w w' := by
  obtain ⟨h1, h2⟩ := hx
  rcases Nat.eq_zero_or_pos l.length with h0 | h0
  · rw [h0]
    by_cases h : 0 ≤ x
    · exact writes_pe x a c w h h2
    · exact writes_ne x a c w (by omega) h1
  · obtain ⟨b, off, rfl, _⟩ := hd 0 h0
    have hm : min (l.length : Int) 10 = ((l.take 10).length : Int) := by rw [List.length_take]; omega
    have hp : 0 < (l.take 10).length := by rw [List.length_take]; omega
    by_cases h : 0 ≤ x
    · exact writes_pp x b off (l.take 10) l.length c w h h2 (hd.take 10) hm hc hp
    · exact writes_np x b off (l.take 10) l.length c w (by omega) h1 (hd.take 10) hm hc hp
end Go.Proofs.Ytcjojphajjoheaa

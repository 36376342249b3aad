/-
  The program's Alu with its answers named.
-/
import Derived.Test.YtmcjdlmbidlckaaEx
namespace Go.Proofs.Ytmcjdlmbidlckaa
open Go.RowKit

theorem alu_is (k : Int) (wide : Bool) (a b v : Int) (z s c o i : Bool) (w : World) (ha : I64 a) (hb : I64 b) (hv : aV k wide (tr wide a) (tr wide b) = v) (hz : aZ k wide (tr wide a) (tr wide b) = z) (hs : aS k wide (tr wide a) (tr wide b) = s) (hc : aC k wide (tr wide a) (tr wide b) = c) (ho : aO k wide (tr wide a) (tr wide b) = o) (hi : aK k = i) :
    Calls Try.prog 10 #[.int .i64 k, .bool wide, .int .i64 a, .int .i64 b] w fun e w' => e = .returned (.tuple #[.int .i64 v, .agg #[.bool z, .bool s, .bool c, .bool o], .bool i]) ∧ Below w.heap.size w w' := by
  rw [← hv, ← hz, ← hs, ← hc, ← ho, ← hi]; exact alu_any k wide a b w ha hb
end Go.Proofs.Ytmcjdlmbidlckaa

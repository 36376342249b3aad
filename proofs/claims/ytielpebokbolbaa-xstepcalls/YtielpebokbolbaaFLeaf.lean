/-
  The program's small functions (Trim, width, signed, top, sign, least) answer what the plain functions of the text Math answer, and change nothing.
-/
import Derived.Test.YtielpebokbolbaaRows
import Derived.Test.YtielpebokbolbaaFMath
import Derived.WalkSpells
import Derived.Handy
import Derived.PlainAid
namespace Go.Proofs.Ytielpebokbolbaa.Fg
open Go.RowKit

theorem trim_any (wide : Bool) (v : Int) (w : World) :
    Calls Try.prog 38 #[.bool wide, .int .i64 v] w fun e w' => e = .returned (.int .i64 (tr wide v)) ∧ w' = w := by
  cases wide
  · go_enter Try.func38, Try.ntmps38
    go_wp2
    go_ret
    exact ⟨ret_int (and32 v), rfl⟩
  · go_enter Try.func38, Try.ntmps38
    go_wp2
    go_ret
    exact ⟨rfl, rfl⟩

theorem signed_any (wide : Bool) (v : Int) (w : World) :
    Calls Try.prog 71 #[.bool wide, .int .i64 v] w fun e w' => e = .returned (.int .i64 (sn wide v)) ∧ w' = w := by
  cases wide
  · go_enter Try.func71, Try.ntmps71
    go_wp2
    go_ret
    exact ⟨ret_int (by rw [sn_no]; simp only [wrap64, wrap32]; omega), rfl⟩
  · go_enter Try.func71, Try.ntmps71
    go_wp2
    go_ret
    exact ⟨rfl, rfl⟩

theorem top_any (wide : Bool) (v : Int) (w : World) :
    Calls Try.prog 74 #[.bool wide, .int .i64 v] w fun e w' => e = .returned (.bool (tp wide v)) ∧ w' = w := by
  go_enter Try.func74, Try.ntmps74
  go_wp2_with fail
  refine (signed_any _ _ _).mono ?_
  rintro e w1 ⟨rfl, rfl⟩
  go_wp2_with fail
  go_ret
  exact ⟨rfl, rfl⟩

theorem width_any (wide : Bool) (w : World) :
    Calls Try.prog 75 #[.bool wide] w fun e w' => e = .returned (.int .u64 (wd wide)) ∧ w' = w := by
  cases wide
  · go_enter Try.func75, Try.ntmps75
    go_wp2
    go_ret
    exact ⟨rfl, rfl⟩
  · go_enter Try.func75, Try.ntmps75
    go_wp2
    go_ret
    exact ⟨rfl, rfl⟩

theorem width_no (w : World) :
    Calls Try.prog 75 #[.bool false] w fun e w' => e = .returned (.int .u64 32) ∧ w' = w := width_any false w
theorem width_yes (w : World) :
    Calls Try.prog 75 #[.bool true] w fun e w' => e = .returned (.int .u64 64) ∧ w' = w := width_any true w

theorem least_any (wide : Bool) (w : World) :
    Calls Try.prog 73 #[.bool wide] w fun e w' => e = .returned (.int .i64 (ls wide)) ∧ w' = w := by
  cases wide
  · go_enter Try.func73, Try.ntmps73
    go_wp2_with fail
    refine (width_no _).mono ?_
    rintro e w1 ⟨rfl, rfl⟩
    go_wp2_with fail
    go_ret
    exact ⟨rfl, rfl⟩
  · go_enter Try.func73, Try.ntmps73
    go_wp2_with fail
    refine (width_yes _).mono ?_
    rintro e w1 ⟨rfl, rfl⟩
    go_wp2_with fail
    go_ret
    exact ⟨rfl, rfl⟩

/-- all bits of the topmost one -/
def sgi (v : Int) : Int := if v < 0 then -1 else 0
theorem sign_is (v : Int) (h : I64 v) : v / 9223372036854775808 = sgi v := by
  obtain ⟨h1, h2⟩ := h; simp only [sgi]; split <;> omega
theorem sign_any (v : Int) (w : World) (h : I64 v) :
    Calls Try.prog 72 #[.int .i64 v] w fun e w' => e = .returned (.int .i64 (sgi v)) ∧ w' = w := by
  have h' := hide (sign_is v h)
  clear h
  go_enter Try.func72, Try.ntmps72
  go_wp2
  go_ret
  exact ⟨ret_int h'.out, rfl⟩
end Go.Proofs.Ytielpebokbolbaa.Fg

/-
  Where a number stands in a memory: within and placeOf answer what the plain functions answer, and change nothing.
-/
import Derived.Test.YtcjojphajjoheaaRows
import Derived.WalkKit
import Derived.WalkSpells
import Derived.Handy
import Derived.PlainAid
namespace Go.Proofs.Ytcjojphajjoheaa
open Go.RowKit

theorem hide {p : Prop} (h : p) : Hid p := h
theorem ret_int {k : IntKind} {a b : Int} (h : a = b) : Ending.returned (.int k a) = .returned (.int k b) := by rw [h]
theorem ret_bool {a b : Bool} (h : a = b) : Ending.returned (.bool a) = .returned (.bool b) := by rw [h]
def I64 (x : Int) : Prop := -9223372036854775808 ≤ x ∧ x ≤ 9223372036854775807
/-- The place, without a sign and without a bound. -/
def adr (a o : Int) : Int := a % 4294967296 + o % 4294967296
theorem adr_bd (a o : Int) : 0 ≤ adr a o ∧ adr a o ≤ 8589934590 := by unfold adr; omega
def wit (size at_ n : Int) : Bool := decide (0 ≤ at_) && decide (n ≤ size - at_)
def right (n : Int) : Bool := n == 4 || n == 8

set_option maxHeartbeats 400000 in
theorem within_any (s a n : Int) (w : World) (hs : 0 ≤ s) (hs2 : s ≤ 9223372036854775807) (ha : I64 a) :
    Calls Try.prog 21 #[.int .i64 s, .int .i64 a, .int .i64 n] w fun e w' => e = .returned (.bool (wit s a n)) ∧ w' = w := by
  obtain ⟨h1, h2⟩ := ha
  by_cases h0 : 0 ≤ a
  · go_enter Try.func21, Try.ntmps21
    go_wp2
    go_ret
    exact ⟨ret_bool (by simp [wit, h0]), rfl⟩
  · have hd : decide (0 ≤ a) = false := by simpa using h0
    go_enter Try.func21, Try.ntmps21
    go_wp2
    go_ret
    exact ⟨ret_bool (by simp [wit, hd]), rfl⟩
/-- What placeOf answers. -/
def plc (len a o n : Int) : Int × Bool := if right n = true then (adr a o, wit len (adr a o) n) else (0, false)
theorem plc_yes {len a o n : Int} (h : right n = true) : plc len a o n = (adr a o, wit len (adr a o) n) := by simp [plc, h]
theorem plc_no {len a o n : Int} (h : right n = false) : plc len a o n = (0, false) := by simp [plc, h]
set_option maxHeartbeats 400000 in
theorem place_any (s : ByteArray) (a o n : Int) (w : World) (hs : s.size ≤ 140737488351232) :
    Calls Try.prog 18 #[.string s, .int .i64 a, .int .i64 o, .int .i64 n] w fun e w' => e = .returned (.tuple #[.int .i64 (plc s.size a o n).1, .bool (plc s.size a o n).2]) ∧ w' = w := by
  have hb : 0 ≤ a % 4294967296 + o % 4294967296 ∧ a % 4294967296 + o % 4294967296 ≤ 8589934590 := by omega
  by_cases h4 : n = 4
  · subst h4
    go_enter Try.func18, Try.ntmps18
    go_wp2_with (go_at_call 21; refine (within_any _ _ _ _ (by omega) (by omega) (by unfold I64; omega)).mono ?_; rintro e w' ⟨rfl, rfl⟩)
    go_ret2
    exact ⟨by rw [plc_yes rfl]; rfl, rfl⟩
  · by_cases h8 : n = 8
    · subst h8
      go_enter Try.func18, Try.ntmps18
      go_wp2_with (go_at_call 21; refine (within_any _ _ _ _ (by omega) (by omega) (by unfold I64; omega)).mono ?_; rintro e w' ⟨rfl, rfl⟩)
      go_ret2
      exact ⟨by rw [plc_yes rfl]; rfl, rfl⟩
    · have h4' : (n != 4) = true := by simpa using h4
      have h8' : (n != 8) = true := by simpa using h8
      go_enter Try.func18, Try.ntmps18
      go_wp2
      go_ret2
      exact ⟨by rw [plc_no (by simp [right, h4, h8])]; rfl, rfl⟩
end Go.Proofs.Ytcjojphajjoheaa

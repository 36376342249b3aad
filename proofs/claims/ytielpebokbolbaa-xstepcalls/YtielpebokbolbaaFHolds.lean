/-
  The program's Holds answers what the plain functions hK, hV tell, and changes nothing.
-/
import Derived.Test.YtielpebokbolbaaFAlu
namespace Go.Proofs.Ytielpebokbolbaa.Fg
open Go.RowKit

def hK (c : Int) : Bool := c == 2 || c == 3 || c == 4 || c == 5 || c == 6 || c == 7 || c == 12 || c == 13 || c == 14 || c == 15
def hV (k : Int) (z s c o : Bool) : Bool :=
  if k = 2 then c else if k = 3 then !c else if k = 4 then z else if k = 5 then !z else if k = 6 then (c || z) else if k = 7 then (!c && !z)
  else if k = 12 then s != o else if k = 13 then s == o else if k = 14 then (z || s != o) else if k = 15 then (!z && s == o) else false
theorem ret_two {a b c d : Bool} (h : a = b) (h2 : c = d) : Ending.returned (.tuple #[.bool a, .bool c]) = .returned (.tuple #[.bool b, .bool d]) := by rw [h, h2]
theorem holds_2 (z s c o : Bool) (w : World) :
    Calls Try.prog 59 #[.int .i64 2, flv z s c o] w fun e w' => e = .returned (.tuple #[.bool (hV 2 z s c o), .bool true]) ∧ Below w.heap.size w w' := by
  unfold flv
  go_enter Try.func59, Try.ntmps59
  go_wp2_with fail
  go_ret2
  exact ⟨ret_two (by cases z <;> cases s <;> cases c <;> cases o <;> rfl) rfl, bel_one _ _⟩
theorem holds_3 (z s c o : Bool) (w : World) :
    Calls Try.prog 59 #[.int .i64 3, flv z s c o] w fun e w' => e = .returned (.tuple #[.bool (hV 3 z s c o), .bool true]) ∧ Below w.heap.size w w' := by
  unfold flv
  go_enter Try.func59, Try.ntmps59
  go_wp2_with fail
  go_ret2
  exact ⟨ret_two (by cases z <;> cases s <;> cases c <;> cases o <;> rfl) rfl, bel_one _ _⟩
theorem holds_4 (z s c o : Bool) (w : World) :
    Calls Try.prog 59 #[.int .i64 4, flv z s c o] w fun e w' => e = .returned (.tuple #[.bool (hV 4 z s c o), .bool true]) ∧ Below w.heap.size w w' := by
  unfold flv
  go_enter Try.func59, Try.ntmps59
  go_wp2_with fail
  go_ret2
  exact ⟨ret_two (by cases z <;> cases s <;> cases c <;> cases o <;> rfl) rfl, bel_one _ _⟩
theorem holds_5 (z s c o : Bool) (w : World) :
    Calls Try.prog 59 #[.int .i64 5, flv z s c o] w fun e w' => e = .returned (.tuple #[.bool (hV 5 z s c o), .bool true]) ∧ Below w.heap.size w w' := by
  unfold flv
  go_enter Try.func59, Try.ntmps59
  go_wp2_with fail
  go_ret2
  exact ⟨ret_two (by cases z <;> cases s <;> cases c <;> cases o <;> rfl) rfl, bel_one _ _⟩
theorem holds_6 (z s c o : Bool) (w : World) :
    Calls Try.prog 59 #[.int .i64 6, flv z s c o] w fun e w' => e = .returned (.tuple #[.bool (hV 6 z s c o), .bool true]) ∧ Below w.heap.size w w' := by
  unfold flv
  cases c
  · go_enter Try.func59, Try.ntmps59
    go_wp2_with fail
    go_ret2
    exact ⟨ret_two (by cases z <;> cases s <;> cases o <;> rfl) rfl, bel_one _ _⟩
  · go_enter Try.func59, Try.ntmps59
    go_wp2_with fail
    go_ret2
    exact ⟨ret_two (by cases z <;> cases s <;> cases o <;> rfl) rfl, bel_one _ _⟩
theorem holds_7 (z s c o : Bool) (w : World) :
    Calls Try.prog 59 #[.int .i64 7, flv z s c o] w fun e w' => e = .returned (.tuple #[.bool (hV 7 z s c o), .bool true]) ∧ Below w.heap.size w w' := by
  unfold flv
  cases c
  · go_enter Try.func59, Try.ntmps59
    go_wp2_with fail
    go_ret2
    exact ⟨ret_two (by cases z <;> cases s <;> cases o <;> rfl) rfl, bel_one _ _⟩
  · go_enter Try.func59, Try.ntmps59
    go_wp2_with fail
    go_ret2
    exact ⟨ret_two (by cases z <;> cases s <;> cases o <;> rfl) rfl, bel_one _ _⟩
theorem holds_12 (z s c o : Bool) (w : World) :
    Calls Try.prog 59 #[.int .i64 12, flv z s c o] w fun e w' => e = .returned (.tuple #[.bool (hV 12 z s c o), .bool true]) ∧ Below w.heap.size w w' := by
  unfold flv
  go_enter Try.func59, Try.ntmps59
  go_wp2_with fail
  go_ret2
  exact ⟨ret_two (by cases z <;> cases s <;> cases c <;> cases o <;> rfl) rfl, bel_one _ _⟩
theorem holds_13 (z s c o : Bool) (w : World) :
    Calls Try.prog 59 #[.int .i64 13, flv z s c o] w fun e w' => e = .returned (.tuple #[.bool (hV 13 z s c o), .bool true]) ∧ Below w.heap.size w w' := by
  unfold flv
  go_enter Try.func59, Try.ntmps59
  go_wp2_with fail
  go_ret2
  exact ⟨ret_two (by cases z <;> cases s <;> cases c <;> cases o <;> rfl) rfl, bel_one _ _⟩
theorem holds_14 (z s c o : Bool) (w : World) :
    Calls Try.prog 59 #[.int .i64 14, flv z s c o] w fun e w' => e = .returned (.tuple #[.bool (hV 14 z s c o), .bool true]) ∧ Below w.heap.size w w' := by
  unfold flv
  cases z
  · go_enter Try.func59, Try.ntmps59
    go_wp2_with fail
    go_ret2
    exact ⟨ret_two (by cases s <;> cases c <;> cases o <;> rfl) rfl, bel_one _ _⟩
  · go_enter Try.func59, Try.ntmps59
    go_wp2_with fail
    go_ret2
    exact ⟨ret_two (by cases s <;> cases c <;> cases o <;> rfl) rfl, bel_one _ _⟩
theorem holds_15 (z s c o : Bool) (w : World) :
    Calls Try.prog 59 #[.int .i64 15, flv z s c o] w fun e w' => e = .returned (.tuple #[.bool (hV 15 z s c o), .bool true]) ∧ Below w.heap.size w w' := by
  unfold flv
  cases z
  · go_enter Try.func59, Try.ntmps59
    go_wp2_with fail
    go_ret2
    exact ⟨ret_two (by cases s <;> cases c <;> cases o <;> rfl) rfl, bel_one _ _⟩
  · go_enter Try.func59, Try.ntmps59
    go_wp2_with fail
    go_ret2
    exact ⟨ret_two (by cases s <;> cases c <;> cases o <;> rfl) rfl, bel_one _ _⟩
theorem holds_no (k : Int) (z s c o : Bool) (w : World) (hk : hK k = false) :
    Calls Try.prog 59 #[.int .i64 k, flv z s c o] w fun e w' => e = .returned (.tuple #[.bool false, .bool false]) ∧ Below w.heap.size w w' := by
  unfold flv
  simp only [hK, Bool.or_eq_false_iff] at hk
  obtain ⟨⟨⟨⟨⟨⟨⟨⟨⟨h2, h3⟩, h4⟩, h5⟩, h6⟩, h7⟩, h12⟩, h13⟩, h14⟩, h15⟩ := hk
  go_enter Try.func59, Try.ntmps59
  go_wp2_with fail
  go_ret2
  exact ⟨rfl, bel_one _ _⟩
theorem holds_any (k : Int) (z s c o : Bool) (w : World) :
    Calls Try.prog 59 #[.int .i64 k, flv z s c o] w fun e w' => e = .returned (.tuple #[.bool (hV k z s c o), .bool (hK k)]) ∧ Below w.heap.size w w' := by
  cases hk : hK k
  · have h := holds_no k z s c o w hk
    simp only [hK, Bool.or_eq_false_iff, beq_eq_false_iff_ne] at hk
    obtain ⟨⟨⟨⟨⟨⟨⟨⟨⟨h2, h3⟩, h4⟩, h5⟩, h6⟩, h7⟩, h12⟩, h13⟩, h14⟩, h15⟩ := hk
    rw [show hV k z s c o = false by simp only [hV, h2, h3, h4, h5, h6, h7, h12, h13, h14, h15, if_false]]
    exact h
  · simp only [hK, Bool.or_eq_true, beq_iff_eq] at hk
    rcases hk with ((((((((rfl | rfl) | rfl) | rfl) | rfl) | rfl) | rfl) | rfl) | rfl) | rfl
    · exact holds_2 z s c o w
    · exact holds_3 z s c o w
    · exact holds_4 z s c o w
    · exact holds_5 z s c o w
    · exact holds_6 z s c o w
    · exact holds_7 z s c o w
    · exact holds_12 z s c o w
    · exact holds_13 z s c o w
    · exact holds_14 z s c o w
    · exact holds_15 z s c o w
end Go.Proofs.Ytielpebokbolbaa.Fg

/-
  The document's own Holds answers what the plain functions hK, hV tell, and changes nothing.
-/
import Derived.Test.YtmcjdlmbidlckaaHolds
namespace Go.Proofs.Ytmcjdlmbidlckaa
open Go.RowKit

theorem rholds_2 (z s c o : Bool) (w : World) :
    Calls Try.prog 15 #[.int .i64 2, flv z s c o] w fun e w' => e = .returned (.tuple #[.bool (hV 2 z s c o), .bool true]) ∧ Below w.heap.size w w' := by
  unfold flv
  go_enter Try.func15, Try.ntmps15
  go_wp2_with fail
  go_ret2
  exact ⟨ret_two (by cases z <;> cases s <;> cases c <;> cases o <;> rfl) rfl, bel_one _ _⟩
theorem rholds_3 (z s c o : Bool) (w : World) :
    Calls Try.prog 15 #[.int .i64 3, flv z s c o] w fun e w' => e = .returned (.tuple #[.bool (hV 3 z s c o), .bool true]) ∧ Below w.heap.size w w' := by
  unfold flv
  go_enter Try.func15, Try.ntmps15
  go_wp2_with fail
  go_ret2
  exact ⟨ret_two (by cases z <;> cases s <;> cases c <;> cases o <;> rfl) rfl, bel_one _ _⟩
theorem rholds_4 (z s c o : Bool) (w : World) :
    Calls Try.prog 15 #[.int .i64 4, flv z s c o] w fun e w' => e = .returned (.tuple #[.bool (hV 4 z s c o), .bool true]) ∧ Below w.heap.size w w' := by
  unfold flv
  go_enter Try.func15, Try.ntmps15
  go_wp2_with fail
  go_ret2
  exact ⟨ret_two (by cases z <;> cases s <;> cases c <;> cases o <;> rfl) rfl, bel_one _ _⟩
theorem rholds_5 (z s c o : Bool) (w : World) :
    Calls Try.prog 15 #[.int .i64 5, flv z s c o] w fun e w' => e = .returned (.tuple #[.bool (hV 5 z s c o), .bool true]) ∧ Below w.heap.size w w' := by
  unfold flv
  go_enter Try.func15, Try.ntmps15
  go_wp2_with fail
  go_ret2
  exact ⟨ret_two (by cases z <;> cases s <;> cases c <;> cases o <;> rfl) rfl, bel_one _ _⟩
theorem rholds_6 (z s c o : Bool) (w : World) :
    Calls Try.prog 15 #[.int .i64 6, flv z s c o] w fun e w' => e = .returned (.tuple #[.bool (hV 6 z s c o), .bool true]) ∧ Below w.heap.size w w' := by
  unfold flv
  cases c
  · go_enter Try.func15, Try.ntmps15
    go_wp2_with fail
    go_ret2
    exact ⟨ret_two (by cases z <;> cases s <;> cases o <;> rfl) rfl, bel_one _ _⟩
  · go_enter Try.func15, Try.ntmps15
    go_wp2_with fail
    go_ret2
    exact ⟨ret_two (by cases z <;> cases s <;> cases o <;> rfl) rfl, bel_one _ _⟩
theorem rholds_7 (z s c o : Bool) (w : World) :
    Calls Try.prog 15 #[.int .i64 7, flv z s c o] w fun e w' => e = .returned (.tuple #[.bool (hV 7 z s c o), .bool true]) ∧ Below w.heap.size w w' := by
  unfold flv
  cases c
  · go_enter Try.func15, Try.ntmps15
    go_wp2_with fail
    go_ret2
    exact ⟨ret_two (by cases z <;> cases s <;> cases o <;> rfl) rfl, bel_one _ _⟩
  · go_enter Try.func15, Try.ntmps15
    go_wp2_with fail
    go_ret2
    exact ⟨ret_two (by cases z <;> cases s <;> cases o <;> rfl) rfl, bel_one _ _⟩
theorem rholds_12 (z s c o : Bool) (w : World) :
    Calls Try.prog 15 #[.int .i64 12, flv z s c o] w fun e w' => e = .returned (.tuple #[.bool (hV 12 z s c o), .bool true]) ∧ Below w.heap.size w w' := by
  unfold flv
  go_enter Try.func15, Try.ntmps15
  go_wp2_with fail
  go_ret2
  exact ⟨ret_two (by cases z <;> cases s <;> cases c <;> cases o <;> rfl) rfl, bel_one _ _⟩
theorem rholds_13 (z s c o : Bool) (w : World) :
    Calls Try.prog 15 #[.int .i64 13, flv z s c o] w fun e w' => e = .returned (.tuple #[.bool (hV 13 z s c o), .bool true]) ∧ Below w.heap.size w w' := by
  unfold flv
  go_enter Try.func15, Try.ntmps15
  go_wp2_with fail
  go_ret2
  exact ⟨ret_two (by cases z <;> cases s <;> cases c <;> cases o <;> rfl) rfl, bel_one _ _⟩
theorem rholds_14 (z s c o : Bool) (w : World) :
    Calls Try.prog 15 #[.int .i64 14, flv z s c o] w fun e w' => e = .returned (.tuple #[.bool (hV 14 z s c o), .bool true]) ∧ Below w.heap.size w w' := by
  unfold flv
  cases z
  · go_enter Try.func15, Try.ntmps15
    go_wp2_with fail
    go_ret2
    exact ⟨ret_two (by cases s <;> cases c <;> cases o <;> rfl) rfl, bel_one _ _⟩
  · go_enter Try.func15, Try.ntmps15
    go_wp2_with fail
    go_ret2
    exact ⟨ret_two (by cases s <;> cases c <;> cases o <;> rfl) rfl, bel_one _ _⟩
theorem rholds_15 (z s c o : Bool) (w : World) :
    Calls Try.prog 15 #[.int .i64 15, flv z s c o] w fun e w' => e = .returned (.tuple #[.bool (hV 15 z s c o), .bool true]) ∧ Below w.heap.size w w' := by
  unfold flv
  cases z
  · go_enter Try.func15, Try.ntmps15
    go_wp2_with fail
    go_ret2
    exact ⟨ret_two (by cases s <;> cases c <;> cases o <;> rfl) rfl, bel_one _ _⟩
  · go_enter Try.func15, Try.ntmps15
    go_wp2_with fail
    go_ret2
    exact ⟨ret_two (by cases s <;> cases c <;> cases o <;> rfl) rfl, bel_one _ _⟩
theorem rholds_no (k : Int) (z s c o : Bool) (w : World) (hk : hK k = false) :
    Calls Try.prog 15 #[.int .i64 k, flv z s c o] w fun e w' => e = .returned (.tuple #[.bool false, .bool false]) ∧ Below w.heap.size w w' := by
  unfold flv
  simp only [hK, Bool.or_eq_false_iff] at hk
  obtain ⟨⟨⟨⟨⟨⟨⟨⟨⟨h2, h3⟩, h4⟩, h5⟩, h6⟩, h7⟩, h12⟩, h13⟩, h14⟩, h15⟩ := hk
  go_enter Try.func15, Try.ntmps15
  go_wp2_with fail
  go_ret2
  exact ⟨rfl, bel_one _ _⟩
theorem rholds_any (k : Int) (z s c o : Bool) (w : World) :
    Calls Try.prog 15 #[.int .i64 k, flv z s c o] w fun e w' => e = .returned (.tuple #[.bool (hV k z s c o), .bool (hK k)]) ∧ Below w.heap.size w w' := by
  cases hk : hK k
  · have h := rholds_no k z s c o w hk
    simp only [hK, Bool.or_eq_false_iff, beq_eq_false_iff_ne] at hk
    obtain ⟨⟨⟨⟨⟨⟨⟨⟨⟨h2, h3⟩, h4⟩, h5⟩, h6⟩, h7⟩, h12⟩, h13⟩, h14⟩, h15⟩ := hk
    rw [show hV k z s c o = false by simp only [hV, h2, h3, h4, h5, h6, h7, h12, h13, h14, h15, if_false]]
    exact h
  · simp only [hK, Bool.or_eq_true, beq_iff_eq] at hk
    rcases hk with ((((((((rfl | rfl) | rfl) | rfl) | rfl) | rfl) | rfl) | rfl) | rfl) | rfl
    · exact rholds_2 z s c o w
    · exact rholds_3 z s c o w
    · exact rholds_4 z s c o w
    · exact rholds_5 z s c o w
    · exact rholds_6 z s c o w
    · exact rholds_7 z s c o w
    · exact rholds_12 z s c o w
    · exact rholds_13 z s c o w
    · exact rholds_14 z s c o w
    · exact rholds_15 z s c o w
end Go.Proofs.Ytmcjdlmbidlckaa

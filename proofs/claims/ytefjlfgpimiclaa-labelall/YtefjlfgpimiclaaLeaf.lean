/-
  The program's functions Right, Wide, Secret, Of, Join, Flows answer what the plain functions of the text Math answer, and change nothing; so do the document's own.
-/
import Derived.Test.YtefjlfgpimiclaaRows
import Derived.Test.YtefjlfgpimiclaaMath
import Derived.WalkSpells
import Derived.Handy
import Derived.PlainAid
namespace Go.Proofs.Ytefjlfgpimiclaa
open Go.RowKit

theorem hide {p : Prop} (h : p) : Hid p := h
theorem ret_int {k : IntKind} {a b : Int} (h : a = b) : Ending.returned (.int k a) = .returned (.int k b) := by rw [h]
theorem ret_bool {a b : Bool} (h : a = b) : Ending.returned (.bool a) = .returned (.bool b) := by rw [h]
/-- a number and a yes or no, as the call hands them back -/
def pair (r : Int × Bool) : Ending := .returned (.tuple #[.int .i64 r.1, .bool r.2])

theorem right_any (t : Int) (w : World) (ht : I64 t) :
    Calls Try.prog 11 #[.int .i64 t] w fun e w' => e = .returned (.bool (ri t)) ∧ w' = w := by
  have h := hide (andNot3 t ht)
  clear ht
  go_enter Try.func11, Try.ntmps11
  go_wp2
  go_ret
  exact ⟨ret_bool h.out, rfl⟩
theorem right_is (t : Int) (r : Bool) (w : World) (ht : I64 t) (h : ri t = r) :
    Calls Try.prog 11 #[.int .i64 t] w fun e w' => e = .returned (.bool r) ∧ w' = w := by
  rw [← h]; exact right_any t w ht

theorem wide_any (t : Int) (w : World) (ht : I64 t) :
    Calls Try.prog 13 #[.int .i64 t] w fun e w' => e = .returned (.bool (wi t)) ∧ w' = w := by
  cases hr : ri t
  · have h := hide (wi_no hr)
    have hr' := hide hr
    have ht' := hide ht
    clear ht hr
    go_enter Try.func13, Try.ntmps13
    go_wp2_with fail
    refine (right_is t false _ ht'.out hr'.out).mono ?_
    rintro e w1 ⟨rfl, rfl⟩
    go_wp2_with fail
    go_ret
    exact ⟨ret_bool h.out.symm, rfl⟩
  · rcases (ri_iff t).mp hr with rfl | rfl | rfl | rfl <;>
    · clear hr
      have ht' := hide ht
      clear ht
      go_enter Try.func13, Try.ntmps13
      go_wp2_with fail
      refine (right_is _ true _ ht'.out rfl).mono ?_
      rintro e w1 ⟨rfl, rfl⟩
      go_wp2_with fail
      go_ret
      exact ⟨ret_bool (by decide), rfl⟩
theorem wide_is (t : Int) (r : Bool) (w : World) (ht : I64 t) (h : wi t = r) :
    Calls Try.prog 13 #[.int .i64 t] w fun e w' => e = .returned (.bool r) ∧ w' = w := by
  rw [← h]; exact wide_any t w ht

theorem secret_any (t : Int) (w : World) (ht : I64 t) :
    Calls Try.prog 15 #[.int .i64 t] w fun e w' => e = .returned (.bool (se t)) ∧ w' = w := by
  cases hr : ri t
  · have h := hide (se_no hr)
    have hr' := hide hr
    have ht' := hide ht
    clear ht hr
    go_enter Try.func15, Try.ntmps15
    go_wp2_with fail
    refine (right_is t false _ ht'.out hr'.out).mono ?_
    rintro e w1 ⟨rfl, rfl⟩
    go_wp2_with fail
    go_ret
    exact ⟨ret_bool h.out.symm, rfl⟩
  · rcases (ri_iff t).mp hr with rfl | rfl | rfl | rfl <;>
    · clear hr
      have ht' := hide ht
      clear ht
      go_enter Try.func15, Try.ntmps15
      go_wp2_with fail
      refine (right_is _ true _ ht'.out rfl).mono ?_
      rintro e w1 ⟨rfl, rfl⟩
      go_wp2_with fail
      go_ret
      exact ⟨ret_bool (by decide), rfl⟩
theorem secret_is (t : Int) (r : Bool) (w : World) (ht : I64 t) (h : se t = r) :
    Calls Try.prog 15 #[.int .i64 t] w fun e w' => e = .returned (.bool r) ∧ w' = w := by
  rw [← h]; exact secret_any t w ht

theorem of_any (wide secret : Bool) (w : World) :
    Calls Try.prog 19 #[.bool wide, .bool secret] w fun e w' => e = .returned (.int .i64 (ot wide secret)) ∧ w' = w := by
  cases wide <;> cases secret <;>
  · go_enter Try.func19, Try.ntmps19
    go_wp2
    go_ret
    exact ⟨ret_int (by decide), rfl⟩
theorem of_is (wide secret : Bool) (t : Int) (w : World) (h : ot wide secret = t) :
    Calls Try.prog 19 #[.bool wide, .bool secret] w fun e w' => e = .returned (.int .i64 t) ∧ w' = w := by
  rw [← h]; exact of_any wide secret w

theorem join_any (a b : Int) (w : World) (ha : I64 a) (hb : I64 b) :
    Calls Try.prog 9 #[.int .i64 a, .int .i64 b] w fun e w' => e = pair (jn a b) ∧ w' = w := by
  have ha' := hide ha
  have hb' := hide hb
  clear ha hb
  cases hra : ri a
  · rw [show jn a b = (0, false) by simp [jn, hra]]
    have hra' := hide hra
    clear hra
    go_enter Try.func9, Try.ntmps9
    go_wp2_with fail
    refine (right_is a false _ ha'.out hra'.out).mono ?_
    rintro e w1 ⟨rfl, rfl⟩
    go_wp2_with fail
    go_ret2
    exact ⟨rfl, rfl⟩
  cases hrb : ri b
  · rw [show jn a b = (0, false) by simp [jn, hrb]]
    have hra' := hide hra
    have hrb' := hide hrb
    clear hra hrb
    go_enter Try.func9, Try.ntmps9
    go_wp2_with fail
    refine (right_is a true _ ha'.out hra'.out).mono ?_
    rintro e w1 ⟨rfl, rfl⟩
    go_wp2_with fail
    refine (right_is b false _ hb'.out hrb'.out).mono ?_
    rintro e w1 ⟨rfl, rfl⟩
    go_wp2_with fail
    go_ret2
    exact ⟨rfl, rfl⟩
  by_cases hw : wi a = wi b
  · rw [show jn a b = (bits .or .i64 a b, true) by rw [or_ot a b hra hrb hw]; simp [jn, hra, hrb, hw]]
    have hra' := hide hra
    have hrb' := hide hrb
    have hw' := hide hw.symm
    clear hra hrb hw
    go_enter Try.func9, Try.ntmps9
    go_wp2_with fail
    refine (right_is a true _ ha'.out hra'.out).mono ?_
    rintro e w1 ⟨rfl, rfl⟩
    go_wp2_with fail
    refine (right_is b true _ hb'.out hrb'.out).mono ?_
    rintro e w1 ⟨rfl, rfl⟩
    go_wp2_with fail
    refine (wide_any a _ ha'.out).mono ?_
    rintro e w1 ⟨rfl, rfl⟩
    go_wp2_with fail
    refine (wide_is b (wi a) _ hb'.out hw'.out).mono ?_
    rintro e w1 ⟨rfl, rfl⟩
    go_wp2_with fail
    go_ret2
    exact ⟨rfl, rfl⟩
  · rw [show jn a b = (0, false) by simp [jn, hw]]
    obtain ⟨x, hx⟩ : ∃ x, wi a = x := ⟨_, rfl⟩
    have hy : wi b = !x := by rw [← hx]; cases h1 : wi a <;> cases h2 : wi b <;> simp_all
    have hra' := hide hra
    have hrb' := hide hrb
    have hx' := hide hx
    have hy' := hide hy
    clear hra hrb hw hx hy
    cases x <;>
    · go_enter Try.func9, Try.ntmps9
      go_wp2_with fail
      refine (right_is a true _ ha'.out hra'.out).mono ?_
      rintro e w1 ⟨rfl, rfl⟩
      go_wp2_with fail
      refine (right_is b true _ hb'.out hrb'.out).mono ?_
      rintro e w1 ⟨rfl, rfl⟩
      go_wp2_with fail
      refine (wide_is a _ _ ha'.out hx'.out).mono ?_
      rintro e w1 ⟨rfl, rfl⟩
      go_wp2_with fail
      refine (wide_is b _ _ hb'.out hy'.out).mono ?_
      rintro e w1 ⟨rfl, rfl⟩
      go_wp2_with fail
      go_ret2
      exact ⟨rfl, rfl⟩
theorem join_is (a b : Int) (j : Int) (ok : Bool) (w : World) (ha : I64 a) (hb : I64 b) (h : jn a b = (j, ok)) :
    Calls Try.prog 9 #[.int .i64 a, .int .i64 b] w fun e w' => e = .returned (.tuple #[.int .i64 j, .bool ok]) ∧ w' = w := by
  have := join_any a b w ha hb
  rw [h] at this; exact this

theorem flows_any (a b : Int) (w : World) (ha : I64 a) (hb : I64 b) :
    Calls Try.prog 17 #[.int .i64 a, .int .i64 b] w fun e w' => e = .returned (.bool (fl a b)) ∧ w' = w := by
  have ha' := hide ha
  have hb' := hide hb
  clear ha hb
  rw [fl_jn]
  obtain ⟨j, ok, hj⟩ : ∃ j ok, jn a b = (j, ok) := ⟨_, _, rfl⟩
  rw [hj]
  have hj' := hide hj
  clear hj
  cases ok <;>
  · go_enter Try.func17, Try.ntmps17
    go_wp2_with fail
    refine (join_is a b j _ _ ha'.out hb'.out hj'.out).mono ?_
    rintro e w1 ⟨rfl, rfl⟩
    go_wp2_with fail
    go_ret
    exact ⟨ret_bool (by simp), rfl⟩
theorem flows_is (a b : Int) (r : Bool) (w : World) (ha : I64 a) (hb : I64 b) (h : fl a b = r) :
    Calls Try.prog 17 #[.int .i64 a, .int .i64 b] w fun e w' => e = .returned (.bool r) ∧ w' = w := by
  rw [← h]; exact flows_any a b w ha hb

theorem k64 (n : Nat) (h : n ≤ 9 := by decide) : I64 (n : Int) := ⟨by omega, by omega⟩
set_option maxHeartbeats 400000 in
theorem examples_any (w : World) :
    Calls Try.prog 8 #[] w fun e w' => e = .returned (.bool true) ∧ w' = w := by
  go_enter Try.func8, Try.ntmps8
  go_wp2_with fail
  refine (join_is 0 2 2 true _ (k64 0) (k64 2) (by decide)).mono ?_
  rintro e w1 ⟨rfl, rfl⟩
  go_wp2_with fail
  refine (join_is 0 1 0 false _ (k64 0) (k64 1) (by decide)).mono ?_
  rintro e w1 ⟨rfl, rfl⟩
  go_wp2_with fail
  refine (flows_is 3 1 false _ (k64 3) (k64 1) (by decide)).mono ?_
  rintro e w1 ⟨rfl, rfl⟩
  go_wp2_with fail
  refine (flows_is 1 3 true _ (k64 1) (k64 3) (by decide)).mono ?_
  rintro e w1 ⟨rfl, rfl⟩
  go_wp2_with fail
  refine (right_is 3 true _ (k64 3) (by decide)).mono ?_
  rintro e w1 ⟨rfl, rfl⟩
  go_wp2_with fail
  refine (right_is 4 false _ (k64 4) (by decide)).mono ?_
  rintro e w1 ⟨rfl, rfl⟩
  go_wp2_with fail
  refine (of_is true true 3 _ (by decide)).mono ?_
  rintro e w1 ⟨rfl, rfl⟩
  go_wp2_with fail
  go_ret
  exact ⟨rfl, rfl⟩
end Go.Proofs.Ytefjlfgpimiclaa

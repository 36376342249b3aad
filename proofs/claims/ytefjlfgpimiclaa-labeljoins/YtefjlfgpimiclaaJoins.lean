/-
  The statement LabelJoins, walked: the Join is a type to which both flow, and which flows to each to which both flow: for any inputs it returns true; nothing is changed.
-/
import Derived.Test.YtefjlfgpimiclaaLeaf
namespace Go.Proofs.Ytefjlfgpimiclaa
open Go.RowKit

set_option maxRecDepth 100000 in
set_option maxHeartbeats 2000000 in
theorem joins_no_f (a b c : Int) (w : World) (ha : Hid (I64 a)) (hb : Hid (I64 b)) (hc : Hid (I64 c)) (h : Hid (jn a b = (0, false))) (h1 : Hid (fl a c = false)) :
    Calls Try.prog 6 #[.int .i64 a, .int .i64 b, .int .i64 c] w fun e w' => e = .returned (.bool true) ∧ w' = w := by
  go_enter Try.func6, Try.ntmps6
  go_wp2_with fail
  refine (examples_any _).mono ?_
  rintro e w1 ⟨rfl, rfl⟩
  go_wp2_with fail
  refine (join_is a b 0 false _ ha.out hb.out h.out).mono ?_
  rintro e w1 ⟨rfl, rfl⟩
  go_wp2_with fail
  refine (flows_is a c false _ ha.out hc.out h1.out).mono ?_
  rintro e w1 ⟨rfl, rfl⟩
  go_wp2_with fail
  go_ret
  exact ⟨rfl, rfl⟩
set_option maxRecDepth 100000 in
set_option maxHeartbeats 2000000 in
theorem joins_no_t (a b c : Int) (w : World) (ha : Hid (I64 a)) (hb : Hid (I64 b)) (hc : Hid (I64 c)) (h : Hid (jn a b = (0, false))) (h1 : Hid (fl a c = true)) (h2 : Hid (fl b c = false)) :
    Calls Try.prog 6 #[.int .i64 a, .int .i64 b, .int .i64 c] w fun e w' => e = .returned (.bool true) ∧ w' = w := by
  go_enter Try.func6, Try.ntmps6
  go_wp2_with fail
  refine (examples_any _).mono ?_
  rintro e w1 ⟨rfl, rfl⟩
  go_wp2_with fail
  refine (join_is a b 0 false _ ha.out hb.out h.out).mono ?_
  rintro e w1 ⟨rfl, rfl⟩
  go_wp2_with fail
  refine (flows_is a c true _ ha.out hc.out h1.out).mono ?_
  rintro e w1 ⟨rfl, rfl⟩
  go_wp2_with fail
  refine (flows_is b c false _ hb.out hc.out h2.out).mono ?_
  rintro e w1 ⟨rfl, rfl⟩
  go_wp2_with fail
  go_ret
  exact ⟨rfl, rfl⟩
set_option maxRecDepth 100000 in
set_option maxHeartbeats 2000000 in
theorem joins_f_f (a b c j : Int) (w : World) (ha : Hid (I64 a)) (hb : Hid (I64 b)) (hc : Hid (I64 c)) (hj : Hid (I64 j)) (h : Hid (jn a b = (j, true))) (g1 : Hid (fl a j = true)) (g2 : Hid (fl b j = true)) (g3 : Hid (jn b a = (j, true))) (h1 : Hid (fl a c = false)) (h4 : Hid (se a = false)) (g4 : Hid (ot (wi a) (se b) = j)) :
    Calls Try.prog 6 #[.int .i64 a, .int .i64 b, .int .i64 c] w fun e w' => e = .returned (.bool true) ∧ w' = w := by
  go_enter Try.func6, Try.ntmps6
  go_wp2_with fail
  refine (examples_any _).mono ?_
  rintro e w1 ⟨rfl, rfl⟩
  go_wp2_with fail
  refine (join_is a b j true _ ha.out hb.out h.out).mono ?_
  rintro e w1 ⟨rfl, rfl⟩
  go_wp2_with fail
  refine (flows_is a c false _ ha.out hc.out h1.out).mono ?_
  rintro e w1 ⟨rfl, rfl⟩
  go_wp2_with fail
  refine (join_is b a j true _ hb.out ha.out g3.out).mono ?_
  rintro e w1 ⟨rfl, rfl⟩
  go_wp2_with fail
  refine (flows_is a j true _ ha.out hj.out g1.out).mono ?_
  rintro e w1 ⟨rfl, rfl⟩
  go_wp2_with fail
  refine (flows_is b j true _ hb.out hj.out g2.out).mono ?_
  rintro e w1 ⟨rfl, rfl⟩
  go_wp2_with fail
  refine (wide_any a _ ha.out).mono ?_
  rintro e w1 ⟨rfl, rfl⟩
  go_wp2_with fail
  refine (secret_is a false _ ha.out h4.out).mono ?_
  rintro e w1 ⟨rfl, rfl⟩
  go_wp2_with fail
  refine (secret_any b _ hb.out).mono ?_
  rintro e w1 ⟨rfl, rfl⟩
  go_wp2_with fail
  refine (of_is _ _ j _ g4.out).mono ?_
  rintro e w1 ⟨rfl, rfl⟩
  go_wp2_with fail
  go_ret
  exact ⟨rfl, rfl⟩
set_option maxRecDepth 100000 in
set_option maxHeartbeats 2000000 in
theorem joins_f_t (a b c j : Int) (w : World) (ha : Hid (I64 a)) (hb : Hid (I64 b)) (hc : Hid (I64 c)) (hj : Hid (I64 j)) (h : Hid (jn a b = (j, true))) (g1 : Hid (fl a j = true)) (g2 : Hid (fl b j = true)) (g3 : Hid (jn b a = (j, true))) (h1 : Hid (fl a c = false)) (h4 : Hid (se a = true)) (g4 : Hid (ot (wi a) true = j)) :
    Calls Try.prog 6 #[.int .i64 a, .int .i64 b, .int .i64 c] w fun e w' => e = .returned (.bool true) ∧ w' = w := by
  go_enter Try.func6, Try.ntmps6
  go_wp2_with fail
  refine (examples_any _).mono ?_
  rintro e w1 ⟨rfl, rfl⟩
  go_wp2_with fail
  refine (join_is a b j true _ ha.out hb.out h.out).mono ?_
  rintro e w1 ⟨rfl, rfl⟩
  go_wp2_with fail
  refine (flows_is a c false _ ha.out hc.out h1.out).mono ?_
  rintro e w1 ⟨rfl, rfl⟩
  go_wp2_with fail
  refine (join_is b a j true _ hb.out ha.out g3.out).mono ?_
  rintro e w1 ⟨rfl, rfl⟩
  go_wp2_with fail
  refine (flows_is a j true _ ha.out hj.out g1.out).mono ?_
  rintro e w1 ⟨rfl, rfl⟩
  go_wp2_with fail
  refine (flows_is b j true _ hb.out hj.out g2.out).mono ?_
  rintro e w1 ⟨rfl, rfl⟩
  go_wp2_with fail
  refine (wide_any a _ ha.out).mono ?_
  rintro e w1 ⟨rfl, rfl⟩
  go_wp2_with fail
  refine (secret_is a true _ ha.out h4.out).mono ?_
  rintro e w1 ⟨rfl, rfl⟩
  go_wp2_with fail
  refine (of_is _ _ j _ g4.out).mono ?_
  rintro e w1 ⟨rfl, rfl⟩
  go_wp2_with fail
  go_ret
  exact ⟨rfl, rfl⟩
set_option maxRecDepth 100000 in
set_option maxHeartbeats 2000000 in
theorem joins_tf_f (a b c j : Int) (w : World) (ha : Hid (I64 a)) (hb : Hid (I64 b)) (hc : Hid (I64 c)) (hj : Hid (I64 j)) (h : Hid (jn a b = (j, true))) (g1 : Hid (fl a j = true)) (g2 : Hid (fl b j = true)) (g3 : Hid (jn b a = (j, true))) (h1 : Hid (fl a c = true)) (h2 : Hid (fl b c = false)) (h4 : Hid (se a = false)) (g4 : Hid (ot (wi a) (se b) = j)) :
    Calls Try.prog 6 #[.int .i64 a, .int .i64 b, .int .i64 c] w fun e w' => e = .returned (.bool true) ∧ w' = w := by
  go_enter Try.func6, Try.ntmps6
  go_wp2_with fail
  refine (examples_any _).mono ?_
  rintro e w1 ⟨rfl, rfl⟩
  go_wp2_with fail
  refine (join_is a b j true _ ha.out hb.out h.out).mono ?_
  rintro e w1 ⟨rfl, rfl⟩
  go_wp2_with fail
  refine (flows_is a c true _ ha.out hc.out h1.out).mono ?_
  rintro e w1 ⟨rfl, rfl⟩
  go_wp2_with fail
  refine (flows_is b c false _ hb.out hc.out h2.out).mono ?_
  rintro e w1 ⟨rfl, rfl⟩
  go_wp2_with fail
  refine (join_is b a j true _ hb.out ha.out g3.out).mono ?_
  rintro e w1 ⟨rfl, rfl⟩
  go_wp2_with fail
  refine (flows_is a j true _ ha.out hj.out g1.out).mono ?_
  rintro e w1 ⟨rfl, rfl⟩
  go_wp2_with fail
  refine (flows_is b j true _ hb.out hj.out g2.out).mono ?_
  rintro e w1 ⟨rfl, rfl⟩
  go_wp2_with fail
  refine (wide_any a _ ha.out).mono ?_
  rintro e w1 ⟨rfl, rfl⟩
  go_wp2_with fail
  refine (secret_is a false _ ha.out h4.out).mono ?_
  rintro e w1 ⟨rfl, rfl⟩
  go_wp2_with fail
  refine (secret_any b _ hb.out).mono ?_
  rintro e w1 ⟨rfl, rfl⟩
  go_wp2_with fail
  refine (of_is _ _ j _ g4.out).mono ?_
  rintro e w1 ⟨rfl, rfl⟩
  go_wp2_with fail
  go_ret
  exact ⟨rfl, rfl⟩
set_option maxRecDepth 100000 in
set_option maxHeartbeats 2000000 in
theorem joins_tf_t (a b c j : Int) (w : World) (ha : Hid (I64 a)) (hb : Hid (I64 b)) (hc : Hid (I64 c)) (hj : Hid (I64 j)) (h : Hid (jn a b = (j, true))) (g1 : Hid (fl a j = true)) (g2 : Hid (fl b j = true)) (g3 : Hid (jn b a = (j, true))) (h1 : Hid (fl a c = true)) (h2 : Hid (fl b c = false)) (h4 : Hid (se a = true)) (g4 : Hid (ot (wi a) true = j)) :
    Calls Try.prog 6 #[.int .i64 a, .int .i64 b, .int .i64 c] w fun e w' => e = .returned (.bool true) ∧ w' = w := by
  go_enter Try.func6, Try.ntmps6
  go_wp2_with fail
  refine (examples_any _).mono ?_
  rintro e w1 ⟨rfl, rfl⟩
  go_wp2_with fail
  refine (join_is a b j true _ ha.out hb.out h.out).mono ?_
  rintro e w1 ⟨rfl, rfl⟩
  go_wp2_with fail
  refine (flows_is a c true _ ha.out hc.out h1.out).mono ?_
  rintro e w1 ⟨rfl, rfl⟩
  go_wp2_with fail
  refine (flows_is b c false _ hb.out hc.out h2.out).mono ?_
  rintro e w1 ⟨rfl, rfl⟩
  go_wp2_with fail
  refine (join_is b a j true _ hb.out ha.out g3.out).mono ?_
  rintro e w1 ⟨rfl, rfl⟩
  go_wp2_with fail
  refine (flows_is a j true _ ha.out hj.out g1.out).mono ?_
  rintro e w1 ⟨rfl, rfl⟩
  go_wp2_with fail
  refine (flows_is b j true _ hb.out hj.out g2.out).mono ?_
  rintro e w1 ⟨rfl, rfl⟩
  go_wp2_with fail
  refine (wide_any a _ ha.out).mono ?_
  rintro e w1 ⟨rfl, rfl⟩
  go_wp2_with fail
  refine (secret_is a true _ ha.out h4.out).mono ?_
  rintro e w1 ⟨rfl, rfl⟩
  go_wp2_with fail
  refine (of_is _ _ j _ g4.out).mono ?_
  rintro e w1 ⟨rfl, rfl⟩
  go_wp2_with fail
  go_ret
  exact ⟨rfl, rfl⟩
set_option maxRecDepth 100000 in
set_option maxHeartbeats 2000000 in
theorem joins_tt_f (a b c j : Int) (w : World) (ha : Hid (I64 a)) (hb : Hid (I64 b)) (hc : Hid (I64 c)) (hj : Hid (I64 j)) (h : Hid (jn a b = (j, true))) (g1 : Hid (fl a j = true)) (g2 : Hid (fl b j = true)) (g3 : Hid (jn b a = (j, true))) (h1 : Hid (fl a c = true)) (h2 : Hid (fl b c = true)) (h3 : Hid (fl j c = true)) (h4 : Hid (se a = false)) (g4 : Hid (ot (wi a) (se b) = j)) :
    Calls Try.prog 6 #[.int .i64 a, .int .i64 b, .int .i64 c] w fun e w' => e = .returned (.bool true) ∧ w' = w := by
  go_enter Try.func6, Try.ntmps6
  go_wp2_with fail
  refine (examples_any _).mono ?_
  rintro e w1 ⟨rfl, rfl⟩
  go_wp2_with fail
  refine (join_is a b j true _ ha.out hb.out h.out).mono ?_
  rintro e w1 ⟨rfl, rfl⟩
  go_wp2_with fail
  refine (flows_is a c true _ ha.out hc.out h1.out).mono ?_
  rintro e w1 ⟨rfl, rfl⟩
  go_wp2_with fail
  refine (flows_is b c true _ hb.out hc.out h2.out).mono ?_
  rintro e w1 ⟨rfl, rfl⟩
  go_wp2_with fail
  refine (flows_is j c true _ hj.out hc.out h3.out).mono ?_
  rintro e w1 ⟨rfl, rfl⟩
  go_wp2_with fail
  refine (join_is b a j true _ hb.out ha.out g3.out).mono ?_
  rintro e w1 ⟨rfl, rfl⟩
  go_wp2_with fail
  refine (flows_is a j true _ ha.out hj.out g1.out).mono ?_
  rintro e w1 ⟨rfl, rfl⟩
  go_wp2_with fail
  refine (flows_is b j true _ hb.out hj.out g2.out).mono ?_
  rintro e w1 ⟨rfl, rfl⟩
  go_wp2_with fail
  refine (wide_any a _ ha.out).mono ?_
  rintro e w1 ⟨rfl, rfl⟩
  go_wp2_with fail
  refine (secret_is a false _ ha.out h4.out).mono ?_
  rintro e w1 ⟨rfl, rfl⟩
  go_wp2_with fail
  refine (secret_any b _ hb.out).mono ?_
  rintro e w1 ⟨rfl, rfl⟩
  go_wp2_with fail
  refine (of_is _ _ j _ g4.out).mono ?_
  rintro e w1 ⟨rfl, rfl⟩
  go_wp2_with fail
  go_ret
  exact ⟨rfl, rfl⟩
set_option maxRecDepth 100000 in
set_option maxHeartbeats 2000000 in
theorem joins_tt_t (a b c j : Int) (w : World) (ha : Hid (I64 a)) (hb : Hid (I64 b)) (hc : Hid (I64 c)) (hj : Hid (I64 j)) (h : Hid (jn a b = (j, true))) (g1 : Hid (fl a j = true)) (g2 : Hid (fl b j = true)) (g3 : Hid (jn b a = (j, true))) (h1 : Hid (fl a c = true)) (h2 : Hid (fl b c = true)) (h3 : Hid (fl j c = true)) (h4 : Hid (se a = true)) (g4 : Hid (ot (wi a) true = j)) :
    Calls Try.prog 6 #[.int .i64 a, .int .i64 b, .int .i64 c] w fun e w' => e = .returned (.bool true) ∧ w' = w := by
  go_enter Try.func6, Try.ntmps6
  go_wp2_with fail
  refine (examples_any _).mono ?_
  rintro e w1 ⟨rfl, rfl⟩
  go_wp2_with fail
  refine (join_is a b j true _ ha.out hb.out h.out).mono ?_
  rintro e w1 ⟨rfl, rfl⟩
  go_wp2_with fail
  refine (flows_is a c true _ ha.out hc.out h1.out).mono ?_
  rintro e w1 ⟨rfl, rfl⟩
  go_wp2_with fail
  refine (flows_is b c true _ hb.out hc.out h2.out).mono ?_
  rintro e w1 ⟨rfl, rfl⟩
  go_wp2_with fail
  refine (flows_is j c true _ hj.out hc.out h3.out).mono ?_
  rintro e w1 ⟨rfl, rfl⟩
  go_wp2_with fail
  refine (join_is b a j true _ hb.out ha.out g3.out).mono ?_
  rintro e w1 ⟨rfl, rfl⟩
  go_wp2_with fail
  refine (flows_is a j true _ ha.out hj.out g1.out).mono ?_
  rintro e w1 ⟨rfl, rfl⟩
  go_wp2_with fail
  refine (flows_is b j true _ hb.out hj.out g2.out).mono ?_
  rintro e w1 ⟨rfl, rfl⟩
  go_wp2_with fail
  refine (wide_any a _ ha.out).mono ?_
  rintro e w1 ⟨rfl, rfl⟩
  go_wp2_with fail
  refine (secret_is a true _ ha.out h4.out).mono ?_
  rintro e w1 ⟨rfl, rfl⟩
  go_wp2_with fail
  refine (of_is _ _ j _ g4.out).mono ?_
  rintro e w1 ⟨rfl, rfl⟩
  go_wp2_with fail
  go_ret
  exact ⟨rfl, rfl⟩
theorem joins_all (a b c : Int) (w : World) (ha : I64 a) (hb : I64 b) (hc : I64 c) :
    Calls Try.prog 6 #[.int .i64 a, .int .i64 b, .int .i64 c] w fun e w' => e = .returned (.bool true) ∧ w' = w := by
  cases hk : (jn a b).2
  · have h := jn_no hk
    cases h1 : fl a c
    · exact joins_no_f a b c w (hide ha) (hide hb) (hide hc) (hide h) (hide h1)
    · have h2 : fl b c = false := by
        cases h2 : fl b c
        · rfl
        · have := (jn_least h1 h2).1
          rw [hk] at this; cases this
      exact joins_no_t a b c w (hide ha) (hide hb) (hide hc) (hide h) (hide h1) (hide h2)
  obtain ⟨g1, g2, g3⟩ := jn_up hk
  have g4 := (jn_yes hk).2.2.2
  have hj := jn_i64 a b
  have h3 : fl a c = true → fl b c = true → fl (jn a b).1 c = true := fun x y => (jn_least x y).2
  have h : jn a b = ((jn a b).1, true) := by rw [← hk]
  generalize (jn a b).1 = j at *
  cases h4 : se a <;> rw [h4] at g4 <;> cases h1 : fl a c
  · exact joins_f_f a b c j w (hide ha) (hide hb) (hide hc) (hide hj) (hide h) (hide g1) (hide g2) (hide g3) (hide h1) (hide h4) (hide (by rw [g4]; rfl))
  · cases h2 : fl b c
    · exact joins_tf_f a b c j w (hide ha) (hide hb) (hide hc) (hide hj) (hide h) (hide g1) (hide g2) (hide g3) (hide h1) (hide h2) (hide h4) (hide (by rw [g4]; rfl))
    · exact joins_tt_f a b c j w (hide ha) (hide hb) (hide hc) (hide hj) (hide h) (hide g1) (hide g2) (hide g3) (hide h1) (hide h2) (hide (h3 h1 h2)) (hide h4) (hide (by rw [g4]; rfl))
  · exact joins_f_t a b c j w (hide ha) (hide hb) (hide hc) (hide hj) (hide h) (hide g1) (hide g2) (hide g3) (hide h1) (hide h4) (hide (by rw [g4]; rfl))
  · cases h2 : fl b c
    · exact joins_tf_t a b c j w (hide ha) (hide hb) (hide hc) (hide hj) (hide h) (hide g1) (hide g2) (hide g3) (hide h1) (hide h2) (hide h4) (hide (by rw [g4]; rfl))
    · exact joins_tt_t a b c j w (hide ha) (hide hb) (hide hc) (hide hj) (hide h) (hide g1) (hide g2) (hide g3) (hide h1) (hide h2) (hide (h3 h1 h2)) (hide h4) (hide (by rw [g4]; rfl))
end Go.Proofs.Ytefjlfgpimiclaa

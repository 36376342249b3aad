/-
  The statement LabelFlows, walked: what flows to what flows to something flows to that; nothing secret flows to anything public; what flows there and back is the same: for any inputs it returns true; nothing is changed.
-/
import Derived.Test.YtefjlfgpimiclaaLeaf
namespace Go.Proofs.Ytefjlfgpimiclaa
open Go.RowKit

set_option maxRecDepth 100000 in
set_option maxHeartbeats 2000000 in
theorem flows_no (a b c : Int) (w : World) (ha : Hid (I64 a)) (hb : Hid (I64 b)) (h : Hid (fl a b = false)) :
    Calls Try.prog 5 #[.int .i64 a, .int .i64 b, .int .i64 c] w fun e w' => e = .returned (.bool true) ∧ w' = w := by
  go_enter Try.func5, Try.ntmps5
  go_wp2_with fail
  refine (examples_any _).mono ?_
  rintro e w1 ⟨rfl, rfl⟩
  go_wp2_with fail
  refine (flows_is a b false _ ha.out hb.out h.out).mono ?_
  rintro e w1 ⟨rfl, rfl⟩
  go_wp2_with fail
  refine (flows_is a b false _ ha.out hb.out h.out).mono ?_
  rintro e w1 ⟨rfl, rfl⟩
  go_wp2_with fail
  refine (flows_is a b false _ ha.out hb.out h.out).mono ?_
  rintro e w1 ⟨rfl, rfl⟩
  go_wp2_with fail
  refine (flows_is a a (ri a) _ ha.out ha.out (fl_self a)).mono ?_
  rintro e w1 ⟨rfl, rfl⟩
  go_wp2_with fail
  refine (right_any a _ ha.out).mono ?_
  rintro e w1 ⟨rfl, rfl⟩
  go_wp2_with fail
  go_ret
  exact ⟨rfl, rfl⟩
set_option maxRecDepth 100000 in
set_option maxHeartbeats 2000000 in
theorem flows_fff (a b c : Int) (w : World) (ha : Hid (I64 a)) (hb : Hid (I64 b)) (hc : Hid (I64 c)) (h : Hid (fl a b = true)) (h1 : Hid (fl b c = false)) (h2 : Hid (se a = false)) (h3 : Hid (fl b a = false)) :
    Calls Try.prog 5 #[.int .i64 a, .int .i64 b, .int .i64 c] w fun e w' => e = .returned (.bool true) ∧ w' = w := by
  go_enter Try.func5, Try.ntmps5
  go_wp2_with fail
  refine (examples_any _).mono ?_
  rintro e w1 ⟨rfl, rfl⟩
  go_wp2_with fail
  refine (flows_is a b true _ ha.out hb.out h.out).mono ?_
  rintro e w1 ⟨rfl, rfl⟩
  go_wp2_with fail
  refine (flows_is b c false _ hb.out hc.out h1.out).mono ?_
  rintro e w1 ⟨rfl, rfl⟩
  go_wp2_with fail
  refine (flows_is a b true _ ha.out hb.out h.out).mono ?_
  rintro e w1 ⟨rfl, rfl⟩
  go_wp2_with fail
  refine (secret_is a false _ ha.out h2.out).mono ?_
  rintro e w1 ⟨rfl, rfl⟩
  go_wp2_with fail
  refine (flows_is a b true _ ha.out hb.out h.out).mono ?_
  rintro e w1 ⟨rfl, rfl⟩
  go_wp2_with fail
  refine (flows_is b a false _ hb.out ha.out h3.out).mono ?_
  rintro e w1 ⟨rfl, rfl⟩
  go_wp2_with fail
  refine (flows_is a a (ri a) _ ha.out ha.out (fl_self a)).mono ?_
  rintro e w1 ⟨rfl, rfl⟩
  go_wp2_with fail
  refine (right_any a _ ha.out).mono ?_
  rintro e w1 ⟨rfl, rfl⟩
  go_wp2_with fail
  go_ret
  exact ⟨rfl, rfl⟩
set_option maxRecDepth 100000 in
set_option maxHeartbeats 2000000 in
theorem flows_fft (a b c : Int) (w : World) (ha : Hid (I64 a)) (hb : Hid (I64 b)) (hc : Hid (I64 c)) (h : Hid (fl a b = true)) (h1 : Hid (fl b c = false)) (h2 : Hid (se a = false)) (h3 : Hid (fl b a = true)) :
    Calls Try.prog 5 #[.int .i64 a, .int .i64 b, .int .i64 c] w fun e w' => e = .returned (.bool true) ∧ w' = w := by
  have hs : (a == b) = true := by simpa using fl_same h.out h3.out
  go_enter Try.func5, Try.ntmps5
  go_wp2_with fail
  refine (examples_any _).mono ?_
  rintro e w1 ⟨rfl, rfl⟩
  go_wp2_with fail
  refine (flows_is a b true _ ha.out hb.out h.out).mono ?_
  rintro e w1 ⟨rfl, rfl⟩
  go_wp2_with fail
  refine (flows_is b c false _ hb.out hc.out h1.out).mono ?_
  rintro e w1 ⟨rfl, rfl⟩
  go_wp2_with fail
  refine (flows_is a b true _ ha.out hb.out h.out).mono ?_
  rintro e w1 ⟨rfl, rfl⟩
  go_wp2_with fail
  refine (secret_is a false _ ha.out h2.out).mono ?_
  rintro e w1 ⟨rfl, rfl⟩
  go_wp2_with fail
  refine (flows_is a b true _ ha.out hb.out h.out).mono ?_
  rintro e w1 ⟨rfl, rfl⟩
  go_wp2_with fail
  refine (flows_is b a true _ hb.out ha.out h3.out).mono ?_
  rintro e w1 ⟨rfl, rfl⟩
  go_wp2_with fail
  refine (flows_is a a (ri a) _ ha.out ha.out (fl_self a)).mono ?_
  rintro e w1 ⟨rfl, rfl⟩
  go_wp2_with fail
  refine (right_any a _ ha.out).mono ?_
  rintro e w1 ⟨rfl, rfl⟩
  go_wp2_with fail
  go_ret
  exact ⟨rfl, rfl⟩
set_option maxRecDepth 100000 in
set_option maxHeartbeats 2000000 in
theorem flows_ftf (a b c : Int) (w : World) (ha : Hid (I64 a)) (hb : Hid (I64 b)) (hc : Hid (I64 c)) (h : Hid (fl a b = true)) (h1 : Hid (fl b c = false)) (h2 : Hid (se a = true)) (h3 : Hid (fl b a = false)) :
    Calls Try.prog 5 #[.int .i64 a, .int .i64 b, .int .i64 c] w fun e w' => e = .returned (.bool true) ∧ w' = w := by
  go_enter Try.func5, Try.ntmps5
  go_wp2_with fail
  refine (examples_any _).mono ?_
  rintro e w1 ⟨rfl, rfl⟩
  go_wp2_with fail
  refine (flows_is a b true _ ha.out hb.out h.out).mono ?_
  rintro e w1 ⟨rfl, rfl⟩
  go_wp2_with fail
  refine (flows_is b c false _ hb.out hc.out h1.out).mono ?_
  rintro e w1 ⟨rfl, rfl⟩
  go_wp2_with fail
  refine (flows_is a b true _ ha.out hb.out h.out).mono ?_
  rintro e w1 ⟨rfl, rfl⟩
  go_wp2_with fail
  refine (secret_is a true _ ha.out h2.out).mono ?_
  rintro e w1 ⟨rfl, rfl⟩
  go_wp2_with fail
  refine (secret_is b true _ hb.out (fl_se h.out h2.out)).mono ?_
  rintro e w1 ⟨rfl, rfl⟩
  go_wp2_with fail
  refine (flows_is a b true _ ha.out hb.out h.out).mono ?_
  rintro e w1 ⟨rfl, rfl⟩
  go_wp2_with fail
  refine (flows_is b a false _ hb.out ha.out h3.out).mono ?_
  rintro e w1 ⟨rfl, rfl⟩
  go_wp2_with fail
  refine (flows_is a a (ri a) _ ha.out ha.out (fl_self a)).mono ?_
  rintro e w1 ⟨rfl, rfl⟩
  go_wp2_with fail
  refine (right_any a _ ha.out).mono ?_
  rintro e w1 ⟨rfl, rfl⟩
  go_wp2_with fail
  go_ret
  exact ⟨rfl, rfl⟩
set_option maxRecDepth 100000 in
set_option maxHeartbeats 2000000 in
theorem flows_ftt (a b c : Int) (w : World) (ha : Hid (I64 a)) (hb : Hid (I64 b)) (hc : Hid (I64 c)) (h : Hid (fl a b = true)) (h1 : Hid (fl b c = false)) (h2 : Hid (se a = true)) (h3 : Hid (fl b a = true)) :
    Calls Try.prog 5 #[.int .i64 a, .int .i64 b, .int .i64 c] w fun e w' => e = .returned (.bool true) ∧ w' = w := by
  have hs : (a == b) = true := by simpa using fl_same h.out h3.out
  go_enter Try.func5, Try.ntmps5
  go_wp2_with fail
  refine (examples_any _).mono ?_
  rintro e w1 ⟨rfl, rfl⟩
  go_wp2_with fail
  refine (flows_is a b true _ ha.out hb.out h.out).mono ?_
  rintro e w1 ⟨rfl, rfl⟩
  go_wp2_with fail
  refine (flows_is b c false _ hb.out hc.out h1.out).mono ?_
  rintro e w1 ⟨rfl, rfl⟩
  go_wp2_with fail
  refine (flows_is a b true _ ha.out hb.out h.out).mono ?_
  rintro e w1 ⟨rfl, rfl⟩
  go_wp2_with fail
  refine (secret_is a true _ ha.out h2.out).mono ?_
  rintro e w1 ⟨rfl, rfl⟩
  go_wp2_with fail
  refine (secret_is b true _ hb.out (fl_se h.out h2.out)).mono ?_
  rintro e w1 ⟨rfl, rfl⟩
  go_wp2_with fail
  refine (flows_is a b true _ ha.out hb.out h.out).mono ?_
  rintro e w1 ⟨rfl, rfl⟩
  go_wp2_with fail
  refine (flows_is b a true _ hb.out ha.out h3.out).mono ?_
  rintro e w1 ⟨rfl, rfl⟩
  go_wp2_with fail
  refine (flows_is a a (ri a) _ ha.out ha.out (fl_self a)).mono ?_
  rintro e w1 ⟨rfl, rfl⟩
  go_wp2_with fail
  refine (right_any a _ ha.out).mono ?_
  rintro e w1 ⟨rfl, rfl⟩
  go_wp2_with fail
  go_ret
  exact ⟨rfl, rfl⟩
set_option maxRecDepth 100000 in
set_option maxHeartbeats 2000000 in
theorem flows_tff (a b c : Int) (w : World) (ha : Hid (I64 a)) (hb : Hid (I64 b)) (hc : Hid (I64 c)) (h : Hid (fl a b = true)) (h1 : Hid (fl b c = true)) (h2 : Hid (se a = false)) (h3 : Hid (fl b a = false)) :
    Calls Try.prog 5 #[.int .i64 a, .int .i64 b, .int .i64 c] w fun e w' => e = .returned (.bool true) ∧ w' = w := by
  go_enter Try.func5, Try.ntmps5
  go_wp2_with fail
  refine (examples_any _).mono ?_
  rintro e w1 ⟨rfl, rfl⟩
  go_wp2_with fail
  refine (flows_is a b true _ ha.out hb.out h.out).mono ?_
  rintro e w1 ⟨rfl, rfl⟩
  go_wp2_with fail
  refine (flows_is b c true _ hb.out hc.out h1.out).mono ?_
  rintro e w1 ⟨rfl, rfl⟩
  go_wp2_with fail
  refine (flows_is a c true _ ha.out hc.out (fl_trans h.out h1.out)).mono ?_
  rintro e w1 ⟨rfl, rfl⟩
  go_wp2_with fail
  refine (flows_is a b true _ ha.out hb.out h.out).mono ?_
  rintro e w1 ⟨rfl, rfl⟩
  go_wp2_with fail
  refine (secret_is a false _ ha.out h2.out).mono ?_
  rintro e w1 ⟨rfl, rfl⟩
  go_wp2_with fail
  refine (flows_is a b true _ ha.out hb.out h.out).mono ?_
  rintro e w1 ⟨rfl, rfl⟩
  go_wp2_with fail
  refine (flows_is b a false _ hb.out ha.out h3.out).mono ?_
  rintro e w1 ⟨rfl, rfl⟩
  go_wp2_with fail
  refine (flows_is a a (ri a) _ ha.out ha.out (fl_self a)).mono ?_
  rintro e w1 ⟨rfl, rfl⟩
  go_wp2_with fail
  refine (right_any a _ ha.out).mono ?_
  rintro e w1 ⟨rfl, rfl⟩
  go_wp2_with fail
  go_ret
  exact ⟨rfl, rfl⟩
set_option maxRecDepth 100000 in
set_option maxHeartbeats 2000000 in
theorem flows_tft (a b c : Int) (w : World) (ha : Hid (I64 a)) (hb : Hid (I64 b)) (hc : Hid (I64 c)) (h : Hid (fl a b = true)) (h1 : Hid (fl b c = true)) (h2 : Hid (se a = false)) (h3 : Hid (fl b a = true)) :
    Calls Try.prog 5 #[.int .i64 a, .int .i64 b, .int .i64 c] w fun e w' => e = .returned (.bool true) ∧ w' = w := by
  have hs : (a == b) = true := by simpa using fl_same h.out h3.out
  go_enter Try.func5, Try.ntmps5
  go_wp2_with fail
  refine (examples_any _).mono ?_
  rintro e w1 ⟨rfl, rfl⟩
  go_wp2_with fail
  refine (flows_is a b true _ ha.out hb.out h.out).mono ?_
  rintro e w1 ⟨rfl, rfl⟩
  go_wp2_with fail
  refine (flows_is b c true _ hb.out hc.out h1.out).mono ?_
  rintro e w1 ⟨rfl, rfl⟩
  go_wp2_with fail
  refine (flows_is a c true _ ha.out hc.out (fl_trans h.out h1.out)).mono ?_
  rintro e w1 ⟨rfl, rfl⟩
  go_wp2_with fail
  refine (flows_is a b true _ ha.out hb.out h.out).mono ?_
  rintro e w1 ⟨rfl, rfl⟩
  go_wp2_with fail
  refine (secret_is a false _ ha.out h2.out).mono ?_
  rintro e w1 ⟨rfl, rfl⟩
  go_wp2_with fail
  refine (flows_is a b true _ ha.out hb.out h.out).mono ?_
  rintro e w1 ⟨rfl, rfl⟩
  go_wp2_with fail
  refine (flows_is b a true _ hb.out ha.out h3.out).mono ?_
  rintro e w1 ⟨rfl, rfl⟩
  go_wp2_with fail
  refine (flows_is a a (ri a) _ ha.out ha.out (fl_self a)).mono ?_
  rintro e w1 ⟨rfl, rfl⟩
  go_wp2_with fail
  refine (right_any a _ ha.out).mono ?_
  rintro e w1 ⟨rfl, rfl⟩
  go_wp2_with fail
  go_ret
  exact ⟨rfl, rfl⟩
set_option maxRecDepth 100000 in
set_option maxHeartbeats 2000000 in
theorem flows_ttf (a b c : Int) (w : World) (ha : Hid (I64 a)) (hb : Hid (I64 b)) (hc : Hid (I64 c)) (h : Hid (fl a b = true)) (h1 : Hid (fl b c = true)) (h2 : Hid (se a = true)) (h3 : Hid (fl b a = false)) :
    Calls Try.prog 5 #[.int .i64 a, .int .i64 b, .int .i64 c] w fun e w' => e = .returned (.bool true) ∧ w' = w := by
  go_enter Try.func5, Try.ntmps5
  go_wp2_with fail
  refine (examples_any _).mono ?_
  rintro e w1 ⟨rfl, rfl⟩
  go_wp2_with fail
  refine (flows_is a b true _ ha.out hb.out h.out).mono ?_
  rintro e w1 ⟨rfl, rfl⟩
  go_wp2_with fail
  refine (flows_is b c true _ hb.out hc.out h1.out).mono ?_
  rintro e w1 ⟨rfl, rfl⟩
  go_wp2_with fail
  refine (flows_is a c true _ ha.out hc.out (fl_trans h.out h1.out)).mono ?_
  rintro e w1 ⟨rfl, rfl⟩
  go_wp2_with fail
  refine (flows_is a b true _ ha.out hb.out h.out).mono ?_
  rintro e w1 ⟨rfl, rfl⟩
  go_wp2_with fail
  refine (secret_is a true _ ha.out h2.out).mono ?_
  rintro e w1 ⟨rfl, rfl⟩
  go_wp2_with fail
  refine (secret_is b true _ hb.out (fl_se h.out h2.out)).mono ?_
  rintro e w1 ⟨rfl, rfl⟩
  go_wp2_with fail
  refine (flows_is a b true _ ha.out hb.out h.out).mono ?_
  rintro e w1 ⟨rfl, rfl⟩
  go_wp2_with fail
  refine (flows_is b a false _ hb.out ha.out h3.out).mono ?_
  rintro e w1 ⟨rfl, rfl⟩
  go_wp2_with fail
  refine (flows_is a a (ri a) _ ha.out ha.out (fl_self a)).mono ?_
  rintro e w1 ⟨rfl, rfl⟩
  go_wp2_with fail
  refine (right_any a _ ha.out).mono ?_
  rintro e w1 ⟨rfl, rfl⟩
  go_wp2_with fail
  go_ret
  exact ⟨rfl, rfl⟩
set_option maxRecDepth 100000 in
set_option maxHeartbeats 2000000 in
theorem flows_ttt (a b c : Int) (w : World) (ha : Hid (I64 a)) (hb : Hid (I64 b)) (hc : Hid (I64 c)) (h : Hid (fl a b = true)) (h1 : Hid (fl b c = true)) (h2 : Hid (se a = true)) (h3 : Hid (fl b a = true)) :
    Calls Try.prog 5 #[.int .i64 a, .int .i64 b, .int .i64 c] w fun e w' => e = .returned (.bool true) ∧ w' = w := by
  have hs : (a == b) = true := by simpa using fl_same h.out h3.out
  go_enter Try.func5, Try.ntmps5
  go_wp2_with fail
  refine (examples_any _).mono ?_
  rintro e w1 ⟨rfl, rfl⟩
  go_wp2_with fail
  refine (flows_is a b true _ ha.out hb.out h.out).mono ?_
  rintro e w1 ⟨rfl, rfl⟩
  go_wp2_with fail
  refine (flows_is b c true _ hb.out hc.out h1.out).mono ?_
  rintro e w1 ⟨rfl, rfl⟩
  go_wp2_with fail
  refine (flows_is a c true _ ha.out hc.out (fl_trans h.out h1.out)).mono ?_
  rintro e w1 ⟨rfl, rfl⟩
  go_wp2_with fail
  refine (flows_is a b true _ ha.out hb.out h.out).mono ?_
  rintro e w1 ⟨rfl, rfl⟩
  go_wp2_with fail
  refine (secret_is a true _ ha.out h2.out).mono ?_
  rintro e w1 ⟨rfl, rfl⟩
  go_wp2_with fail
  refine (secret_is b true _ hb.out (fl_se h.out h2.out)).mono ?_
  rintro e w1 ⟨rfl, rfl⟩
  go_wp2_with fail
  refine (flows_is a b true _ ha.out hb.out h.out).mono ?_
  rintro e w1 ⟨rfl, rfl⟩
  go_wp2_with fail
  refine (flows_is b a true _ hb.out ha.out h3.out).mono ?_
  rintro e w1 ⟨rfl, rfl⟩
  go_wp2_with fail
  refine (flows_is a a (ri a) _ ha.out ha.out (fl_self a)).mono ?_
  rintro e w1 ⟨rfl, rfl⟩
  go_wp2_with fail
  refine (right_any a _ ha.out).mono ?_
  rintro e w1 ⟨rfl, rfl⟩
  go_wp2_with fail
  go_ret
  exact ⟨rfl, rfl⟩
theorem flows_all (a b c : Int) (w : World) (ha : I64 a) (hb : I64 b) (hc : I64 c) :
    Calls Try.prog 5 #[.int .i64 a, .int .i64 b, .int .i64 c] w fun e w' => e = .returned (.bool true) ∧ w' = w := by
  cases h : fl a b
  · exact flows_no a b c w (hide ha) (hide hb) (hide h)
  cases h1 : fl b c <;> cases h2 : se a <;> cases h3 : fl b a
  · exact flows_fff a b c w (hide ha) (hide hb) (hide hc) (hide h) (hide h1) (hide h2) (hide h3)
  · exact flows_fft a b c w (hide ha) (hide hb) (hide hc) (hide h) (hide h1) (hide h2) (hide h3)
  · exact flows_ftf a b c w (hide ha) (hide hb) (hide hc) (hide h) (hide h1) (hide h2) (hide h3)
  · exact flows_ftt a b c w (hide ha) (hide hb) (hide hc) (hide h) (hide h1) (hide h2) (hide h3)
  · exact flows_tff a b c w (hide ha) (hide hb) (hide hc) (hide h) (hide h1) (hide h2) (hide h3)
  · exact flows_tft a b c w (hide ha) (hide hb) (hide hc) (hide h) (hide h1) (hide h2) (hide h3)
  · exact flows_ttf a b c w (hide ha) (hide hb) (hide hc) (hide h) (hide h1) (hide h2) (hide h3)
  · exact flows_ttt a b c w (hide ha) (hide hb) (hide hc) (hide h) (hide h1) (hide h2) (hide h3)
end Go.Proofs.Ytefjlfgpimiclaa

/-
  The program's find and findPlain answer what the plain functions fnd and fndP answer.
  The program's join, takeREX and takeCode, of bytes in a block.
  The program's rightPlaces and Right answer what the plain functions rpl and rt answer; only boxes of their own are made.
-/
import Derived.Test.YtielpebokbolbaaM4
import Derived.Test.YtielpebokbolbaaM5
import Derived.BigQuiet
import Derived.Deep.QuietTactic
import Derived.WalkSmall
namespace Go.Proofs.Ytielpebokbolbaa.Xc
open Go.RowKit
theorem fp_no {f : Int} (h1 : f ≠ 133) (h2 : f ≠ 4015) (h3 : f ≠ 153) (h4 : f ≠ 139) (h5 : f ≠ 4022) (h6 : f ≠ 99) (h7 : f ≠ 233) (h8 : f ≠ 232) (h9 : f ≠ 195) (h10 : f ≠ 244) (h11 : f ≠ 3851) (h12 : f ≠ 204) : fndP f = 0 := by
  simp only [fndP, h1, h2, h3, h4, h5, h6, h7, h8, h9, h10, h11, h12, if_false]
set_option maxHeartbeats 1000000 in
theorem plain_any (f : Int) (w : World) : Calls Try.prog 86 #[.int .i64 f] w fun e w' => e = .returned (.int .i64 (fndP f)) ∧ w' = w := by
  by_cases h : f = 133 ∨ f = 4015 ∨ f = 153 ∨ f = 139 ∨ f = 4022 ∨ f = 99 ∨ f = 233 ∨ f = 232 ∨ f = 195 ∨ f = 244 ∨ f = 3851 ∨ f = 204
  · rcases h with rfl | rfl | rfl | rfl | rfl | rfl | rfl | rfl | rfl | rfl | rfl | rfl <;> (go_enter Try.func86, Try.ntmps86; go_wp2; go_ret; exact ⟨rfl, rfl⟩)
  · simp only [not_or] at h
    obtain ⟨h1, h2, h3, h4, h5, h6, h7, h8, h9, h10, h11, h12⟩ := h
    have hp := hide (fp_no h1 h2 h3 h4 h5 h6 h7 h8 h9 h10 h11 h12)
    go_enter Try.func86, Try.ntmps86
    go_wp2
    go_ret
    exact ⟨ret_int hp.out.symm, rfl⟩
theorem all4096 {p : Int → Prop} (h : ∀ a b : Fin 64, p (64 * ((a.val : Nat) : Int) + ((b.val : Nat) : Int))) (v : Int) (h0 : 0 ≤ v) (h1 : v ≤ 4095) : p v := by
  have := h ⟨(v / 64).toNat, by omega⟩ ⟨(v % 64).toNat, by omega⟩
  simp only [Int.toNat_of_nonneg (show 0 ≤ v / 64 by omega), Int.toNat_of_nonneg (show 0 ≤ v % 64 by omega)] at this
  rwa [show 64 * (v / 64) + v % 64 = v by omega] at this
theorem fb1 : ∀ f : Int, 0 ≤ f → f ≤ 4095 → (bits BinOp.andNot IntKind.i64 f 7 == 184) = decide (f / 8 = 23) := all4096 (by decide +kernel)
theorem fb2 : ∀ f : Int, 0 ≤ f → f ≤ 4095 → (bits BinOp.andNot IntKind.i64 f 56 == 1) = decide (f / 64 = 0 ∧ f % 8 = 1) := all4096 (by decide +kernel)
theorem fb3 : ∀ f : Int, 0 ≤ f → f ≤ 4095 → (bits BinOp.andNot IntKind.i64 f 15 == 3904) = decide (f / 16 = 244) := all4096 (by decide +kernel)
theorem fb4 : ∀ f : Int, 0 ≤ f → f ≤ 4095 → (bits BinOp.andNot IntKind.i64 f 15 == 3968) = decide (f / 16 = 248) := all4096 (by decide +kernel)
theorem fb5 : ∀ f : Int, 0 ≤ f → f ≤ 4095 → (bits BinOp.andNot IntKind.i64 f 15 == 3984) = decide (f / 16 = 249) := all4096 (by decide +kernel)
theorem fb6 : ∀ f : Int, 0 ≤ f → f ≤ 4095 → bits BinOp.and IntKind.i64 f 15 = f % 16 := all4096 (by decide +kernel)
theorem ret_two {a b c d : Int} (h1 : a = c) (h2 : b = d) : Ending.returned (.tuple #[.int .i64 a, .int .i64 b]) = .returned (.tuple #[.int .i64 c, .int .i64 d]) := by subst h1 h2; rfl
def FindIs (f mod m : Int) (w : World) : Prop := Calls Try.prog 79 #[.int .i64 f, .int .i64 mod, .int .i64 m] w fun e w' => e = .returned (.tuple #[.int .i64 (fnd f mod m).1, .int .i64 (fnd f mod m).2]) ∧ w' = w
set_option maxHeartbeats 1000000 in
theorem find_0 (f mod m : Int) (w : World) (h0 : 0 ≤ f) (h1 : f ≤ 4095) (n1 : f ≠ 137) (n2 : f ≠ 247) (n3 : f ≠ 129) (n4 : f ≠ 211) (c0 : f / 8 = 23) : FindIs f mod m w := by
  have hv : fnd f mod m = (2, 0) := by unfold fnd; rw [if_neg n1, if_neg n2, if_neg n3, if_neg n4, if_pos c0]
  unfold FindIs
  rw [hv]
  clear hv
  have d1 : (f == 137) = false := by simpa using n1
  have d2 : (f == 247) = false := by simpa using n2
  have d3 : (f == 129) = false := by simpa using n3
  have d4 : (f == 211) = false := by simpa using n4
  clear n1 n2 n3 n4
  have e0 := (fb1 f h0 h1).trans (decide_eq_true c0)
  clear c0
  go_enter Try.func79, Try.ntmps79
  go_wp2_with (go_at_call 86; refine (plain_any _ _).mono ?_; rintro e w' ⟨rfl, rfl⟩)
  go_ret2
  exact ⟨rfl, rfl⟩
set_option maxHeartbeats 1000000 in
theorem find_1 (f mod m : Int) (w : World) (h0 : 0 ≤ f) (h1 : f ≤ 4095) (n1 : f ≠ 137) (n2 : f ≠ 247) (n3 : f ≠ 129) (n4 : f ≠ 211) (c0 : ¬ (f / 8 = 23)) (c1 : f / 64 = 0 ∧ f % 8 = 1) : FindIs f mod m w := by
  have hv : fnd f mod m = (3, f / 8) := by unfold fnd; rw [if_neg n1, if_neg n2, if_neg n3, if_neg n4, if_neg c0, if_pos c1]
  unfold FindIs
  rw [hv]
  clear hv
  have d1 : (f == 137) = false := by simpa using n1
  have d2 : (f == 247) = false := by simpa using n2
  have d3 : (f == 129) = false := by simpa using n3
  have d4 : (f == 211) = false := by simpa using n4
  clear n1 n2 n3 n4
  have e0 := (fb1 f h0 h1).trans (decide_eq_false c0)
  have e1 := (fb2 f h0 h1).trans (decide_eq_true c1)
  clear c0 c1
  go_enter Try.func79, Try.ntmps79
  go_wp2_with (go_at_call 86; refine (plain_any _ _).mono ?_; rintro e w' ⟨rfl, rfl⟩)
  go_ret2
  exact ⟨rfl, rfl⟩
set_option maxHeartbeats 1000000 in
theorem find_2 (f mod m : Int) (w : World) (h0 : 0 ≤ f) (h1 : f ≤ 4095) (n1 : f ≠ 137) (n2 : f ≠ 247) (n3 : f ≠ 129) (n4 : f ≠ 211) (c0 : ¬ (f / 8 = 23)) (c1 : ¬ (f / 64 = 0 ∧ f % 8 = 1)) (c2 : f / 16 = 244) : FindIs f mod m w := by
  have hv : fnd f mod m = (15, f % 16) := by unfold fnd; rw [if_neg n1, if_neg n2, if_neg n3, if_neg n4, if_neg c0, if_neg c1, if_pos c2]
  unfold FindIs
  rw [hv]
  clear hv
  have d1 : (f == 137) = false := by simpa using n1
  have d2 : (f == 247) = false := by simpa using n2
  have d3 : (f == 129) = false := by simpa using n3
  have d4 : (f == 211) = false := by simpa using n4
  clear n1 n2 n3 n4
  have e0 := (fb1 f h0 h1).trans (decide_eq_false c0)
  have e1 := (fb2 f h0 h1).trans (decide_eq_false c1)
  have e2 := (fb3 f h0 h1).trans (decide_eq_true c2)
  clear c0 c1 c2
  go_enter Try.func79, Try.ntmps79
  go_wp2_with (go_at_call 86; refine (plain_any _ _).mono ?_; rintro e w' ⟨rfl, rfl⟩)
  go_ret2
  exact ⟨ret_two rfl (fb6 f h0 h1), rfl⟩
set_option maxHeartbeats 1000000 in
theorem find_3 (f mod m : Int) (w : World) (h0 : 0 ≤ f) (h1 : f ≤ 4095) (n1 : f ≠ 137) (n2 : f ≠ 247) (n3 : f ≠ 129) (n4 : f ≠ 211) (c0 : ¬ (f / 8 = 23)) (c1 : ¬ (f / 64 = 0 ∧ f % 8 = 1)) (c2 : ¬ (f / 16 = 244)) (c3 : f / 16 = 248) : FindIs f mod m w := by
  have hv : fnd f mod m = (18, f % 16) := by unfold fnd; rw [if_neg n1, if_neg n2, if_neg n3, if_neg n4, if_neg c0, if_neg c1, if_neg c2, if_pos c3]
  unfold FindIs
  rw [hv]
  clear hv
  have d1 : (f == 137) = false := by simpa using n1
  have d2 : (f == 247) = false := by simpa using n2
  have d3 : (f == 129) = false := by simpa using n3
  have d4 : (f == 211) = false := by simpa using n4
  clear n1 n2 n3 n4
  have e0 := (fb1 f h0 h1).trans (decide_eq_false c0)
  have e1 := (fb2 f h0 h1).trans (decide_eq_false c1)
  have e2 := (fb3 f h0 h1).trans (decide_eq_false c2)
  have e3 := (fb4 f h0 h1).trans (decide_eq_true c3)
  clear c0 c1 c2 c3
  go_enter Try.func79, Try.ntmps79
  go_wp2_with (go_at_call 86; refine (plain_any _ _).mono ?_; rintro e w' ⟨rfl, rfl⟩)
  go_ret2
  exact ⟨ret_two rfl (fb6 f h0 h1), rfl⟩
set_option maxHeartbeats 1000000 in
theorem find_4 (f mod m : Int) (w : World) (h0 : 0 ≤ f) (h1 : f ≤ 4095) (n1 : f ≠ 137) (n2 : f ≠ 247) (n3 : f ≠ 129) (n4 : f ≠ 211) (c0 : ¬ (f / 8 = 23)) (c1 : ¬ (f / 64 = 0 ∧ f % 8 = 1)) (c2 : ¬ (f / 16 = 244)) (c3 : ¬ (f / 16 = 248)) (c4 : f / 16 = 249) : FindIs f mod m w := by
  have hv : fnd f mod m = (13, f % 16) := by unfold fnd; rw [if_neg n1, if_neg n2, if_neg n3, if_neg n4, if_neg c0, if_neg c1, if_neg c2, if_neg c3, if_pos c4]
  unfold FindIs
  rw [hv]
  clear hv
  have d1 : (f == 137) = false := by simpa using n1
  have d2 : (f == 247) = false := by simpa using n2
  have d3 : (f == 129) = false := by simpa using n3
  have d4 : (f == 211) = false := by simpa using n4
  clear n1 n2 n3 n4
  have e0 := (fb1 f h0 h1).trans (decide_eq_false c0)
  have e1 := (fb2 f h0 h1).trans (decide_eq_false c1)
  have e2 := (fb3 f h0 h1).trans (decide_eq_false c2)
  have e3 := (fb4 f h0 h1).trans (decide_eq_false c3)
  have e4 := (fb5 f h0 h1).trans (decide_eq_true c4)
  clear c0 c1 c2 c3 c4
  go_enter Try.func79, Try.ntmps79
  go_wp2_with (go_at_call 86; refine (plain_any _ _).mono ?_; rintro e w' ⟨rfl, rfl⟩)
  go_ret2
  exact ⟨ret_two rfl (fb6 f h0 h1), rfl⟩
set_option maxHeartbeats 1000000 in
theorem find_5 (f mod m : Int) (w : World) (h0 : 0 ≤ f) (h1 : f ≤ 4095) (n1 : f ≠ 137) (n2 : f ≠ 247) (n3 : f ≠ 129) (n4 : f ≠ 211) (c0 : ¬ (f / 8 = 23)) (c1 : ¬ (f / 64 = 0 ∧ f % 8 = 1)) (c2 : ¬ (f / 16 = 244)) (c3 : ¬ (f / 16 = 248)) (c4 : ¬ (f / 16 = 249)) : FindIs f mod m w := by
  have hv : fnd f mod m = (fndP f, 0) := by unfold fnd; rw [if_neg n1, if_neg n2, if_neg n3, if_neg n4, if_neg c0, if_neg c1, if_neg c2, if_neg c3, if_neg c4]
  unfold FindIs
  rw [hv]
  clear hv
  have d1 : (f == 137) = false := by simpa using n1
  have d2 : (f == 247) = false := by simpa using n2
  have d3 : (f == 129) = false := by simpa using n3
  have d4 : (f == 211) = false := by simpa using n4
  clear n1 n2 n3 n4
  have e0 := (fb1 f h0 h1).trans (decide_eq_false c0)
  have e1 := (fb2 f h0 h1).trans (decide_eq_false c1)
  have e2 := (fb3 f h0 h1).trans (decide_eq_false c2)
  have e3 := (fb4 f h0 h1).trans (decide_eq_false c3)
  have e4 := (fb5 f h0 h1).trans (decide_eq_false c4)
  clear c0 c1 c2 c3 c4
  go_enter Try.func79, Try.ntmps79
  go_wp2_with (go_at_call 86; refine (plain_any _ _).mono ?_; rintro e w' ⟨rfl, rfl⟩)
  go_ret2
  exact ⟨rfl, rfl⟩
set_option maxHeartbeats 1000000 in
theorem find_any (f mod m : Int) (w : World) (h0 : 0 ≤ f) (h1 : f ≤ 4095) : Calls Try.prog 79 #[.int .i64 f, .int .i64 mod, .int .i64 m] w fun e w' => e = .returned (.tuple #[.int .i64 (fnd f mod m).1, .int .i64 (fnd f mod m).2]) ∧ w' = w := by
  by_cases n1 : f = 137
  · subst n1
    by_cases hm : mod = 2
    · subst hm
      go_enter Try.func79, Try.ntmps79
      go_wp2
      go_ret2
      exact ⟨rfl, rfl⟩
    · have hm' : (mod == 2) = false := by simpa using hm
      have hv : fnd 137 mod m = (1, 0) := by simp [fnd, hm]
      rw [hv]
      clear hv
      go_enter Try.func79, Try.ntmps79
      go_wp2
      go_ret2
      exact ⟨rfl, rfl⟩
  by_cases n2 : f = 247
  · subst n2
    by_cases hm : m = 6
    · subst hm
      go_enter Try.func79, Try.ntmps79
      go_wp2
      go_ret2
      exact ⟨rfl, rfl⟩
    · have hm' : (m == 6) = false := by simpa using hm
      have hv : fnd 247 mod m = (9, 0) := by simp [fnd, hm]
      rw [hv]
      clear hv
      go_enter Try.func79, Try.ntmps79
      go_wp2
      go_ret2
      exact ⟨rfl, rfl⟩
  by_cases n3 : f = 129
  · subst n3
    have hv : fnd 129 mod m = (4, m) := by simp [fnd]
    rw [hv]
    clear hv
    go_enter Try.func79, Try.ntmps79
    go_wp2
    go_ret2
    exact ⟨rfl, rfl⟩
  by_cases n4 : f = 211
  · subst n4
    have hv : fnd 211 mod m = (7, m) := by simp [fnd]
    rw [hv]
    clear hv
    go_enter Try.func79, Try.ntmps79
    go_wp2
    go_ret2
    exact ⟨rfl, rfl⟩
  by_cases c0 : f / 8 = 23
  · exact find_0 f mod m w h0 h1 n1 n2 n3 n4 c0
  by_cases c1 : f / 64 = 0 ∧ f % 8 = 1
  · exact find_1 f mod m w h0 h1 n1 n2 n3 n4 c0 c1
  by_cases c2 : f / 16 = 244
  · exact find_2 f mod m w h0 h1 n1 n2 n3 n4 c0 c1 c2
  by_cases c3 : f / 16 = 248
  · exact find_3 f mod m w h0 h1 n1 n2 n3 n4 c0 c1 c2 c3
  by_cases c4 : f / 16 = 249
  · exact find_4 f mod m w h0 h1 n1 n2 n3 n4 c0 c1 c2 c3 c4
  exact find_5 f mod m w h0 h1 n1 n2 n3 n4 c0 c1 c2 c3 c4
end Go.Proofs.Ytielpebokbolbaa.Xc
namespace Go.Proofs.Ytielpebokbolbaa.Xc
open Go.RowKit
set_option linter.unusedSimpArgs false
set_option linter.unusedVariables false

theorem w64_id {x : Int} (h0 : -9223372036854775808 ≤ x) (h1 : x ≤ 9223372036854775807) : wrap64 x = x := by unfold wrap64; omega
theorem nat_join (i A B : Nat) (hA : A % 2 ^ i = 0) (hB : B < 2 ^ i) : A ||| B = A + B := by
  have e : A = 2 ^ i * (A / 2 ^ i) := by have := Nat.div_add_mod A (2 ^ i); omega
  rw [e]; exact (Nat.two_pow_add_eq_or_of_lt hB _).symm
theorem or64 (a y : Int) (i : Nat) (hi : i ≤ 63) (h0 : 0 ≤ a) (h1 : a < 2 ^ i) (hy : y % 2 ^ i = 0) : bits .or .i64 a (wrap64 y) = wrap64 (a + y) := by
  have hp : (2 : Int) ^ i ≤ 9223372036854775808 := by
    have : (2 : Int) ^ i ≤ 2 ^ 63 := by exact_mod_cast Nat.pow_le_pow_right (by decide) hi
    exact this
  have hd : (2 : Int) ^ i ∣ 18446744073709551616 := by
    have : (2 : Int) ^ i ∣ 2 ^ 64 := ⟨2 ^ (64 - i), by rw [← Int.pow_add]; congr 1; omega⟩
    exact this
  have e1 : (BitVec.ofInt 64 a).toNat = a.toNat := by
    rw [BitVec.toNat_ofInt]
    show (a % 18446744073709551616).toNat = _
    rw [Int.emod_eq_of_lt h0 (by omega)]
  have e2 : (BitVec.ofInt 64 (wrap64 y)).toNat = (y % 18446744073709551616).toNat := by
    rw [BitVec.toNat_ofInt]
    show (wrap64 y % 18446744073709551616).toNat = _
    unfold wrap64; congr 1; omega
  have e3 : (y % 18446744073709551616).toNat % 2 ^ i = 0 := by
    have h := Int.emod_emod_of_dvd y hd
    rw [hy] at h
    have h' : (((y % 18446744073709551616).toNat % 2 ^ i : Nat) : Int) = 0 := by
      rw [Int.natCast_emod, Int.toNat_of_nonneg (by omega), Int.natCast_pow]
      exact h
    exact Int.natCast_eq_zero.1 h'
  have e4 : a.toNat < 2 ^ i := by
    have : ((a.toNat : Nat) : Int) < ((2 ^ i : Nat) : Int) := by rw [Int.toNat_of_nonneg h0]; exact_mod_cast h1
    exact_mod_cast this
  show IntKind.i64.wrap ((BitVec.ofInt 64 a ||| BitVec.ofInt 64 (wrap64 y)).toNat : Nat) = _
  rw [BitVec.toNat_or, e1, e2, Nat.or_comm, nat_join i _ _ e3 e4, IntKind.wrap_i64]
  unfold wrap64
  omega
theorem jn_step (l : List UInt8) (k : Nat) (h8 : l.length ≤ 8) (hk : k < l.length) :
    bits .or .i64 (jn (l.take k)) (wrap64 ((l[k].toNat : Int) * 2 ^ (8 * k))) = jn (l.take (k + 1)) := by
  unfold jn
  have h1 := le_lt (l.take k)
  have h2 : (l.take k).length = k := by simp; omega
  have e256 : (256 : Nat) ^ k = 2 ^ (8 * k) := by rw [Nat.pow_mul]
  rw [h2, e256] at h1
  have hp : (2 : Nat) ^ (8 * k) ≤ 2 ^ 63 := Nat.pow_le_pow_right (by decide) (by omega)
  rw [le_take_succ l k hk, e256, w64_id (by omega) (by have : (2 : Nat) ^ 63 = 9223372036854775808 := rfl; omega)]
  rw [or64 _ _ (8 * k) (by omega) (by omega) (by exact_mod_cast h1) (by rw [Int.mul_emod_left])]
  congr 1
  rw [Int.natCast_add, Int.natCast_mul, Int.natCast_pow, Int.mul_comm]; rfl
/-- Bytes in block g, from place o on. -/
def MB (g o : Nat) (l : List UInt8) (w : World) : Prop := ∀ j (h : j < l.length), w.cell? ⟨g, o + j, none⟩ = some (.int .u8 (l[j].toNat : Int))
set_option maxHeartbeats 2000000 in
theorem join_any (g o cap : Nat) (l : List UInt8) (w : World) (hl : l.length ≤ 8) (hm : MB g o l w) :
    Calls Try.prog 81 #[.slice (some ⟨g, o, none⟩) l.length cap] w fun e w' => e = .returned (.int .i64 (jn l)) ∧ w' = w := by
  have ST := hide (fun k hk => jn_step l k hl hk)
  have HM := hide hm
  obtain ⟨pv, hpv⟩ : ∃ pv : Nat → Int, pv = fun k => jn (l.take k) := ⟨_, rfl⟩
  have p0 : Hid (pv 0 = 0) := by show _ = _; rw [hpv]; simp [le, jn, wrap64]
  have p8 : Hid (pv l.length = jn l) := by show _ = _; rw [hpv]; simp
  have ST' : Hid (∀ k (hk : k < l.length), bits .or .i64 (pv k) (wrap64 ((l[k].toNat : Int) * 2 ^ (8 * k))) = pv (k + 1)) := by show ∀ _, _; rw [hpv]; exact ST.out
  clear hpv ST hm
  go_enter Try.func81, Try.ntmps81
  go_wp2
  go_loop [3, 8] (fun v i => ∃ k : Nat, k ≤ l.length ∧ i = .int .i64 (k : Int) ∧ v = .int .i64 (pv k)) (fun _ i => l.length - (intOf i).toNat)
  case atStart => exact ⟨0, Nat.zero_le _, rfl, by rw [p0.out]⟩
  case round =>
    obtain ⟨k, hk, rfl, rfl⟩ := hrel
    by_cases hlt : k < l.length
    · have hc := HM.out k hlt
      have S := hide (ST'.out k hlt)
      have hb : (l[k].toNat : Int) ≤ 255 := by have := l[k].toNat_lt; omega
      have hk8 : (k : Int) ≤ 7 := by omega
      generalize l[k] = y at *
      go_wp2
      exact ⟨⟨k + 1, hlt, by go_num, by rw [S.out]⟩, by simp [intOf]; omega⟩
    · have hkm : k = l.length := by omega
      subst hkm
      go_wp2
      go_ret
      exact ⟨ret_int p8.out, rfl⟩
theorem rx240 : ∀ v : Int, 0 ≤ v → v ≤ 255 → (bits BinOp.and IntKind.u8 v 240 == 64) = decide (v / 16 = 4) := all256 (by decide +kernel)
theorem or3840 : ∀ v : Int, 0 ≤ v → v ≤ 255 → bits BinOp.or IntKind.i64 3840 v = 3840 + v := all256 (by decide +kernel)
/-- What takeREX answers: REX, and where to go on. -/
def tkR (v : Int) : Int × Nat := if v / 16 = 4 then (v, 1) else (64, 0)
theorem takeREX_any (g : Nat) (v : Int) (w : World) (h0 : 0 ≤ v) (h1 : v ≤ 255) (hc : w.cell? ⟨g, 0, none⟩ = some (.int .u8 v)) :
    Calls Try.prog 76 #[.slice (some ⟨g, 0, none⟩) 16 16] w fun e w' => e = .returned (.tuple #[.int .i64 (tkR v).1, .slice (some ⟨g, (tkR v).2, none⟩) (16 - (tkR v).2) (16 - (tkR v).2)]) ∧ Below w.heap.size w w' := by
  by_cases h : v / 16 = 4
  · have hv : tkR v = (v, 1) := by simp [tkR, h]
    rw [hv]
    have hd := (rx240 v h0 h1).trans (decide_eq_true h)
    clear hv h
    go_enter Try.func76, Try.ntmps76
    go_wp2_with fail
    go_quiet (fail)
    go_wp2_with fail
    go_ret2
    exact ⟨rfl, below_drewN (Below.refl _ _) _⟩
  · have hv : tkR v = (64, 0) := by simp [tkR, h]
    rw [hv]
    have hd := (rx240 v h0 h1).trans (decide_eq_false h)
    clear hv h
    go_enter Try.func76, Try.ntmps76
    go_wp2
    go_ret2
    exact ⟨rfl, Below.refl _ _⟩
/-- What takeCode answers: the code, and where to go on. -/
def tkC (o : Nat) (v u : Int) : Int × Nat := if v = 15 then (3840 + u, o + 2) else (v, o + 1)
theorem tkC_bd (o : Nat) (v u : Int) (h0 : 0 ≤ v) (h1 : v ≤ 255) (k0 : 0 ≤ u) (k1 : u ≤ 255) : 0 ≤ (tkC o v u).1 ∧ (tkC o v u).1 ≤ 4095 := by unfold tkC; split <;> (simp only []; omega)
set_option maxHeartbeats 1000000 in
theorem takeCode_any (g o : Nat) (v u : Int) (w : World) (ho : o = 0 ∨ o = 1) (h0 : 0 ≤ v) (h1 : v ≤ 255) (k0 : 0 ≤ u) (k1 : u ≤ 255) (hc : w.cell? ⟨g, o, none⟩ = some (.int .u8 v)) (hd : w.cell? ⟨g, o + 1, none⟩ = some (.int .u8 u)) :
    Calls Try.prog 77 #[.slice (some ⟨g, o, none⟩) (16 - o) (16 - o)] w fun e w' => e = .returned (.tuple #[.int .i64 (tkC o v u).1, .slice (some ⟨g, (tkC o v u).2, none⟩) (16 - (tkC o v u).2) (16 - (tkC o v u).2)]) ∧ Below w.heap.size w w' := by
  by_cases h : v = 15
  · have hv : tkC o v u = (3840 + u, o + 2) := by simp [tkC, h]
    rw [hv, ← or3840 u k0 k1]
    subst h
    clear hv
    rcases ho with rfl | rfl <;>
      (simp only [Nat.zero_add, Nat.reduceAdd] at hd
       go_enter Try.func77, Try.ntmps77
       go_wp2_with fail
       go_quiet (fail)
       go_wp2_with fail
       go_ret2
       exact ⟨rfl, below_drewN (Below.refl _ _) _⟩)
  · have hv : tkC o v u = (v, o + 1) := by simp [tkC, h]
    rw [hv]
    have he : (v == 15) = false := by simpa using h
    clear hv h
    rcases ho with rfl | rfl <;>
      (simp only [Nat.zero_add, Nat.reduceAdd] at hd
       go_enter Try.func77, Try.ntmps77
       go_wp2_with fail
       go_quiet (fail)
       go_wp2_with fail
       go_ret2
       exact ⟨rfl, below_drewN (Below.refl _ _) _⟩)
end Go.Proofs.Ytielpebokbolbaa.Xc
namespace Go.Proofs.Ytielpebokbolbaa.Xc
open Go.RowKit
set_option linter.unusedSimpArgs false
set_option linter.unusedVariables false

def PlIs (op : Int) (wd : Bool) (r b i c n : Int) (w : World) : Prop :=
  Calls Try.prog 43 #[xv ⟨op, wd, r, b, i, c, n⟩] w fun e w' => e = .returned (.bool (rpl op r b i)) ∧ Below w.heap.size w w'
set_option maxHeartbeats 4000000 in
theorem places_p (op : Int) (wd : Bool) (r b i c n : Int) (w : World) (hi : I64 i) (h : op = 11 ∨ op = 12) : PlIs op wd r b i c n w := by
  unfold PlIs xv
  have HI := hide hi
  clear hi
  cases hx : ix i
  · have hv : rpl op r b i = false := by rcases h with rfl | rfl <;> simp [rpl, fP, hx]
    rw [hv]
    have X := hide hx
    clear hv hx
    rcases h with rfl | rfl <;>
      (go_enter Try.func43, Try.ntmps43
       go_wp2_with (go_at_call 63; refine (index_any _ _ HI.out).mono ?_; rw [X.out]; rintro e w' ⟨rfl, rfl⟩)
       go_ret; exact ⟨rfl, bel_one _ _⟩)
  · have X := hide hx
    cases hr : rg r
    · have hv : rpl op r b i = false := by rcases h with rfl | rfl <;> simp [rpl, fP, hx, hr]
      rw [hv]
      have R := hide hr
      clear hv hx hr
      rcases h with rfl | rfl <;>
        (go_enter Try.func43, Try.ntmps43
         go_wp2_with (first | (go_at_call 63; refine (index_any _ _ HI.out).mono ?_; rw [X.out]; rintro e w' ⟨rfl, rfl⟩) | (go_at_call 64; refine (reg_any _ _).mono ?_; rw [R.out]; rintro e w' ⟨rfl, rfl⟩))
         go_ret; exact ⟨rfl, bel_one _ _⟩)
    · have hv : rpl op r b i = rg b := by rcases h with rfl | rfl <;> simp [rpl, fP, hx, hr]
      rw [hv]
      have R := hide hr
      cases hb : rg b <;>
      (have B := hide hb
       clear hv hx hr hb
       rcases h with rfl | rfl <;>
         (go_enter Try.func43, Try.ntmps43
          go_wp2_with (first | (go_at_call 63; refine (index_any _ _ HI.out).mono ?_; rw [X.out]; rintro e w' ⟨rfl, rfl⟩) | (go_at_call 64; refine (reg_any _ _).mono ?_; (first | rw [R.out] | rw [B.out]); rintro e w' ⟨rfl, rfl⟩))
          go_ret; exact ⟨rfl, bel_one _ _⟩))
set_option maxHeartbeats 4000000 in
theorem places_r (op : Int) (wd : Bool) (r b i c n : Int) (w : World) (h : op = 1 ∨ op = 3 ∨ op = 5 ∨ op = 6 ∨ op = 15 ∨ op = 16) : PlIs op wd r b i c n w := by
  unfold PlIs xv
  cases hr : rg r
  · have hv : rpl op r b i = false := by rcases h with rfl | rfl | rfl | rfl | rfl | rfl <;> simp [rpl, fP, fRR, hr]
    rw [hv]
    have R := hide hr
    clear hv hr
    rcases h with rfl | rfl | rfl | rfl | rfl | rfl <;>
      (go_enter Try.func43, Try.ntmps43
       go_wp2_with (go_at_call 64; refine (reg_any _ _).mono ?_; rw [R.out]; rintro e w' ⟨rfl, rfl⟩)
       go_ret; exact ⟨rfl, bel_one _ _⟩)
  · have R := hide hr
    cases hb : rg b
    · have hv : rpl op r b i = false := by rcases h with rfl | rfl | rfl | rfl | rfl | rfl <;> simp [rpl, fP, fRR, hr, hb]
      rw [hv]
      have B := hide hb
      clear hv hr hb
      rcases h with rfl | rfl | rfl | rfl | rfl | rfl <;>
        (go_enter Try.func43, Try.ntmps43
         go_wp2_with (go_at_call 64; refine (reg_any _ _).mono ?_; (first | rw [R.out] | rw [B.out]); rintro e w' ⟨rfl, rfl⟩)
         go_ret; exact ⟨rfl, bel_one _ _⟩)
    · have hv : rpl op r b i = (i == 0) := by rcases h with rfl | rfl | rfl | rfl | rfl | rfl <;> simp [rpl, fP, fRR, hr, hb]
      rw [hv]
      have B := hide hb
      clear hv hr hb
      rcases h with rfl | rfl | rfl | rfl | rfl | rfl <;>
        (go_enter Try.func43, Try.ntmps43
         go_wp2_with (go_at_call 64; refine (reg_any _ _).mono ?_; (first | rw [R.out] | rw [B.out]); rintro e w' ⟨rfl, rfl⟩)
         go_ret; exact ⟨rfl, bel_one _ _⟩)
set_option maxHeartbeats 4000000 in
theorem places_b (op : Int) (wd : Bool) (r b i c n : Int) (w : World) (h : op = 4 ∨ op = 7 ∨ op = 8 ∨ op = 9) : PlIs op wd r b i c n w := by
  unfold PlIs xv
  cases hb : rg b
  · have hv : rpl op r b i = false := by rcases h with rfl | rfl | rfl | rfl <;> simp [rpl, fP, fRR, fB, hb]
    rw [hv]
    have B := hide hb
    clear hv hb
    rcases h with rfl | rfl | rfl | rfl <;>
      (go_enter Try.func43, Try.ntmps43
       go_wp2_with (go_at_call 64; refine (reg_any _ _).mono ?_; rw [B.out]; rintro e w' ⟨rfl, rfl⟩)
       go_ret; exact ⟨rfl, bel_one _ _⟩)
  · have hv : rpl op r b i = (r == 0 && i == 0) := by rcases h with rfl | rfl | rfl | rfl <;> simp [rpl, fP, fRR, fB, hb]
    rw [hv]
    have B := hide hb
    clear hv hb
    cases h0 : (r == 0) <;>
    rcases h with rfl | rfl | rfl | rfl <;>
      (go_enter Try.func43, Try.ntmps43
       go_wp2_with (go_at_call 64; refine (reg_any _ _).mono ?_; rw [B.out]; rintro e w' ⟨rfl, rfl⟩)
       go_ret; exact ⟨rfl, bel_one _ _⟩)
set_option maxHeartbeats 4000000 in
theorem places_2 (wd : Bool) (r b i c n : Int) (w : World) : PlIs 2 wd r b i c n w := by
  unfold PlIs xv
  cases hr : rg r
  · have hv : rpl 2 r b i = false := by simp [rpl, fP, fRR, fB, hr]
    rw [hv]
    have R := hide hr
    clear hv hr
    go_enter Try.func43, Try.ntmps43
    go_wp2_with (go_at_call 64; refine (reg_any _ _).mono ?_; rw [R.out]; rintro e w' ⟨rfl, rfl⟩)
    go_ret; exact ⟨rfl, bel_one _ _⟩
  · have hv : rpl 2 r b i = (b == 0 && i == 0) := by simp [rpl, fP, fRR, fB, hr]
    rw [hv]
    have R := hide hr
    clear hv hr
    cases h0 : (b == 0) <;>
      (go_enter Try.func43, Try.ntmps43
       go_wp2_with (go_at_call 64; refine (reg_any _ _).mono ?_; rw [R.out]; rintro e w' ⟨rfl, rfl⟩)
       go_ret; exact ⟨rfl, bel_one _ _⟩)
set_option maxHeartbeats 4000000 in
theorem places_0 (op : Int) (wd : Bool) (r b i c n : Int) (w : World) (h : op = 10 ∨ op = 13 ∨ op = 14 ∨ op = 17 ∨ op = 18 ∨ op = 19 ∨ op = 20 ∨ op = 21 ∨ op = 22 ∨ op = 23) : PlIs op wd r b i c n w := by
  unfold PlIs xv
  have hv : rpl op r b i = (r == 0 && (b == 0 && i == 0)) := by rcases h with rfl | rfl | rfl | rfl | rfl | rfl | rfl | rfl | rfl | rfl <;> simp [rpl, fP, fRR, fB]
  rw [hv]
  clear hv
  cases h0 : (r == 0)
  · rcases h with rfl | rfl | rfl | rfl | rfl | rfl | rfl | rfl | rfl | rfl <;>
      (go_enter Try.func43, Try.ntmps43; go_wp2; go_ret; exact ⟨rfl, bel_one _ _⟩)
  · cases h1 : (b == 0) <;>
    rcases h with rfl | rfl | rfl | rfl | rfl | rfl | rfl | rfl | rfl | rfl <;>
      (go_enter Try.func43, Try.ntmps43; go_wp2; go_ret; exact ⟨rfl, bel_one _ _⟩)
theorem places_any (op : Int) (wd : Bool) (r b i c n : Int) (w : World) (h1 : 1 ≤ op) (h2 : op ≤ 23) (hi : I64 i) : PlIs op wd r b i c n w := by
  by_cases hp : op = 11 ∨ op = 12
  · exact places_p op wd r b i c n w hi hp
  by_cases hr : op = 1 ∨ op = 3 ∨ op = 5 ∨ op = 6 ∨ op = 15 ∨ op = 16
  · exact places_r op wd r b i c n w hr
  by_cases hb : op = 4 ∨ op = 7 ∨ op = 8 ∨ op = 9
  · exact places_b op wd r b i c n w hb
  by_cases h : op = 2
  · subst h; exact places_2 wd r b i c n w
  · exact places_0 op wd r b i c n w (by omega)
end Go.Proofs.Ytielpebokbolbaa.Xc

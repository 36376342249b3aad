/-
  The program's join, takeREX and takeCode, of bytes in a block.
-/
import Derived.Test.YtielpebokbolbaaCFind
import Derived.Test.YtielpebokbolbaaCRight
import Derived.BigQuiet
import Derived.Deep.QuietTactic
import Derived.WalkSmall
namespace Go.Proofs.Ytielpebokbolbaa.Xc
open Go.RowKit
set_option linter.unusedSimpArgs false
set_option linter.unusedVariables false

theorem w64_id {x : Int} (h0 : -9223372036854775808 ≤ x) (h1 : x ≤ 9223372036854775807) : wrap64 x = x := by unfold wrap64; omega
theorem nat_join (i A B : Nat) (hA : A % 2 ^ i = 0) (hB : B < 2 ^ i) : A ||| B = A + B := by
  have e : A = 2 ^ i * (A / 2 ^ i) := by have := Nat.div_add_mod A (2 ^ i); omega
  rw [e]; exact (Nat.two_pow_add_eq_or_of_lt hB _).symm
theorem or64 (a y : Int) (i : Nat) (hi : i ≤ 63) (h0 : 0 ≤ a) (h1 : a < 2 ^ i) (hy : y % 2 ^ i = 0) : bits .or .i64 a (wrap64 y) = wrap64 (a + y) := by
  have hp : (2 : Int) ^ i ≤ 9223372036854775808 := by
    have : (2 : Int) ^ i ≤ 2 ^ 63 := by exact_mod_cast Nat.pow_le_pow_right (by decide) hi
    exact this
  have hd : (2 : Int) ^ i ∣ 18446744073709551616 := by
    have : (2 : Int) ^ i ∣ 2 ^ 64 := ⟨2 ^ (64 - i), by rw [← Int.pow_add]; congr 1; omega⟩
    exact this
  have e1 : (BitVec.ofInt 64 a).toNat = a.toNat := by
    rw [BitVec.toNat_ofInt]
    show (a % 18446744073709551616).toNat = _
    rw [Int.emod_eq_of_lt h0 (by omega)]
  have e2 : (BitVec.ofInt 64 (wrap64 y)).toNat = (y % 18446744073709551616).toNat := by
    rw [BitVec.toNat_ofInt]
    show (wrap64 y % 18446744073709551616).toNat = _
    unfold wrap64; congr 1; omega
  have e3 : (y % 18446744073709551616).toNat % 2 ^ i = 0 := by
    have h := Int.emod_emod_of_dvd y hd
    rw [hy] at h
    have h' : (((y % 18446744073709551616).toNat % 2 ^ i : Nat) : Int) = 0 := by
      rw [Int.natCast_emod, Int.toNat_of_nonneg (by omega), Int.natCast_pow]
      exact h
    exact Int.natCast_eq_zero.1 h'
  have e4 : a.toNat < 2 ^ i := by
    have : ((a.toNat : Nat) : Int) < ((2 ^ i : Nat) : Int) := by rw [Int.toNat_of_nonneg h0]; exact_mod_cast h1
    exact_mod_cast this
  show IntKind.i64.wrap ((BitVec.ofInt 64 a ||| BitVec.ofInt 64 (wrap64 y)).toNat : Nat) = _
  rw [BitVec.toNat_or, e1, e2, Nat.or_comm, nat_join i _ _ e3 e4, IntKind.wrap_i64]
  unfold wrap64
  omega
theorem jn_step (l : List UInt8) (k : Nat) (h8 : l.length ≤ 8) (hk : k < l.length) :
    bits .or .i64 (jn (l.take k)) (wrap64 ((l[k].toNat : Int) * 2 ^ (8 * k))) = jn (l.take (k + 1)) := by
  unfold jn
  have h1 := le_lt (l.take k)
  have h2 : (l.take k).length = k := by simp; omega
  have e256 : (256 : Nat) ^ k = 2 ^ (8 * k) := by rw [Nat.pow_mul]
  rw [h2, e256] at h1
  have hp : (2 : Nat) ^ (8 * k) ≤ 2 ^ 63 := Nat.pow_le_pow_right (by decide) (by omega)
  rw [le_take_succ l k hk, e256, w64_id (by omega) (by have : (2 : Nat) ^ 63 = 9223372036854775808 := rfl; omega)]
  rw [or64 _ _ (8 * k) (by omega) (by omega) (by exact_mod_cast h1) (by rw [Int.mul_emod_left])]
  congr 1
  rw [Int.natCast_add, Int.natCast_mul, Int.natCast_pow, Int.mul_comm]; rfl
/-- Bytes in block g, from place o on. -/
def MB (g o : Nat) (l : List UInt8) (w : World) : Prop := ∀ j (h : j < l.length), w.cell? ⟨g, o + j, none⟩ = some (.int .u8 (l[j].toNat : Int))
set_option maxHeartbeats 2000000 in
theorem join_any (g o cap : Nat) (l : List UInt8) (w : World) (hl : l.length ≤ 8) (hm : MB g o l w) :
    Calls Try.prog 81 #[.slice (some ⟨g, o, none⟩) l.length cap] w fun e w' => e = .returned (.int .i64 (jn l)) ∧ w' = w := by
  have ST := hide (fun k hk => jn_step l k hl hk)
  have HM := hide hm
  obtain ⟨pv, hpv⟩ : ∃ pv : Nat → Int, pv = fun k => jn (l.take k) := ⟨_, rfl⟩
  have p0 : Hid (pv 0 = 0) := by show _ = _; rw [hpv]; simp [le, jn, wrap64]
  have p8 : Hid (pv l.length = jn l) := by show _ = _; rw [hpv]; simp
  have ST' : Hid (∀ k (hk : k < l.length), bits .or .i64 (pv k) (wrap64 ((l[k].toNat : Int) * 2 ^ (8 * k))) = pv (k + 1)) := by show ∀ _, _; rw [hpv]; exact ST.out
  clear hpv ST hm
  go_enter Try.func81, Try.ntmps81
  go_wp2
  go_loop [3, 8] (fun v i => ∃ k : Nat, k ≤ l.length ∧ i = .int .i64 (k : Int) ∧ v = .int .i64 (pv k)) (fun _ i => l.length - (intOf i).toNat)
  case atStart => exact ⟨0, Nat.zero_le _, rfl, by rw [p0.out]⟩
  case round =>
    obtain ⟨k, hk, rfl, rfl⟩ := hrel
    by_cases hlt : k < l.length
    · have hc := HM.out k hlt
      have S := hide (ST'.out k hlt)
      have hb : (l[k].toNat : Int) ≤ 255 := by have := l[k].toNat_lt; omega
      have hk8 : (k : Int) ≤ 7 := by omega
      generalize l[k] = y at *
      go_wp2
      exact ⟨⟨k + 1, hlt, by go_num, by rw [S.out]⟩, by simp [intOf]; omega⟩
    · have hkm : k = l.length := by omega
      subst hkm
      go_wp2
      go_ret
      exact ⟨ret_int p8.out, rfl⟩
theorem rx240 : ∀ v : Int, 0 ≤ v → v ≤ 255 → (bits BinOp.and IntKind.u8 v 240 == 64) = decide (v / 16 = 4) := all256 (by decide +kernel)
theorem or3840 : ∀ v : Int, 0 ≤ v → v ≤ 255 → bits BinOp.or IntKind.i64 3840 v = 3840 + v := all256 (by decide +kernel)
/-- What takeREX answers: REX, and where to go on. -/
def tkR (v : Int) : Int × Nat := if v / 16 = 4 then (v, 1) else (64, 0)
theorem takeREX_any (g : Nat) (v : Int) (w : World) (h0 : 0 ≤ v) (h1 : v ≤ 255) (hc : w.cell? ⟨g, 0, none⟩ = some (.int .u8 v)) :
    Calls Try.prog 76 #[.slice (some ⟨g, 0, none⟩) 16 16] w fun e w' => e = .returned (.tuple #[.int .i64 (tkR v).1, .slice (some ⟨g, (tkR v).2, none⟩) (16 - (tkR v).2) (16 - (tkR v).2)]) ∧ Below w.heap.size w w' := by
  by_cases h : v / 16 = 4
  · have hv : tkR v = (v, 1) := by simp [tkR, h]
    rw [hv]
    have hd := (rx240 v h0 h1).trans (decide_eq_true h)
    clear hv h
    go_enter Try.func76, Try.ntmps76
    go_wp2_with fail
    go_quiet (fail)
    go_wp2_with fail
    go_ret2
    exact ⟨rfl, below_drewN (Below.refl _ _) _⟩
  · have hv : tkR v = (64, 0) := by simp [tkR, h]
    rw [hv]
    have hd := (rx240 v h0 h1).trans (decide_eq_false h)
    clear hv h
    go_enter Try.func76, Try.ntmps76
    go_wp2
    go_ret2
    exact ⟨rfl, Below.refl _ _⟩
/-- What takeCode answers: the code, and where to go on. -/
def tkC (o : Nat) (v u : Int) : Int × Nat := if v = 15 then (3840 + u, o + 2) else (v, o + 1)
theorem tkC_bd (o : Nat) (v u : Int) (h0 : 0 ≤ v) (h1 : v ≤ 255) (k0 : 0 ≤ u) (k1 : u ≤ 255) : 0 ≤ (tkC o v u).1 ∧ (tkC o v u).1 ≤ 4095 := by unfold tkC; split <;> (simp only []; omega)
set_option maxHeartbeats 1000000 in
theorem takeCode_any (g o : Nat) (v u : Int) (w : World) (ho : o = 0 ∨ o = 1) (h0 : 0 ≤ v) (h1 : v ≤ 255) (k0 : 0 ≤ u) (k1 : u ≤ 255) (hc : w.cell? ⟨g, o, none⟩ = some (.int .u8 v)) (hd : w.cell? ⟨g, o + 1, none⟩ = some (.int .u8 u)) :
    Calls Try.prog 77 #[.slice (some ⟨g, o, none⟩) (16 - o) (16 - o)] w fun e w' => e = .returned (.tuple #[.int .i64 (tkC o v u).1, .slice (some ⟨g, (tkC o v u).2, none⟩) (16 - (tkC o v u).2) (16 - (tkC o v u).2)]) ∧ Below w.heap.size w w' := by
  by_cases h : v = 15
  · have hv : tkC o v u = (3840 + u, o + 2) := by simp [tkC, h]
    rw [hv, ← or3840 u k0 k1]
    subst h
    clear hv
    rcases ho with rfl | rfl <;>
      (simp only [Nat.zero_add, Nat.reduceAdd] at hd
       go_enter Try.func77, Try.ntmps77
       go_wp2_with fail
       go_quiet (fail)
       go_wp2_with fail
       go_ret2
       exact ⟨rfl, below_drewN (Below.refl _ _) _⟩)
  · have hv : tkC o v u = (v, o + 1) := by simp [tkC, h]
    rw [hv]
    have he : (v == 15) = false := by simpa using h
    clear hv h
    rcases ho with rfl | rfl <;>
      (simp only [Nat.zero_add, Nat.reduceAdd] at hd
       go_enter Try.func77, Try.ntmps77
       go_wp2_with fail
       go_quiet (fail)
       go_wp2_with fail
       go_ret2
       exact ⟨rfl, below_drewN (Below.refl _ _) _⟩)
end Go.Proofs.Ytielpebokbolbaa.Xc

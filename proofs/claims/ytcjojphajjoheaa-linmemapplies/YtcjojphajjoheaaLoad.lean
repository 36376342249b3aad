/-
  Load answers the number that the bytes at the place are, or 0 and false; it makes memory of its own alone.
-/
import Derived.Test.YtcjojphajjoheaaBytes
import Derived.Deep.RegionLaw
namespace Go.Proofs.Ytcjojphajjoheaa
open Go.RowKit

theorem w64_id {x : Int} (h0 : -9223372036854775808 ≤ x) (h1 : x ≤ 9223372036854775807) : wrap64 x = x := by unfold wrap64; omega
theorem nat_join (i A B : Nat) (hA : A % 2 ^ i = 0) (hB : B < 2 ^ i) : A ||| B = A + B := by
  have e : A = 2 ^ i * (A / 2 ^ i) := by have := Nat.div_add_mod A (2 ^ i); omega
  rw [e]; exact (Nat.two_pow_add_eq_or_of_lt hB _).symm
theorem or64 (a y : Int) (i : Nat) (hi : i ≤ 63) (h0 : 0 ≤ a) (h1 : a < 2 ^ i) (hy : y % 2 ^ i = 0) : bits .or .i64 a (wrap64 y) = wrap64 (a + y) := by
  have hp : (2 : Int) ^ i ≤ 9223372036854775808 := by
    have : (2 : Int) ^ i ≤ 2 ^ 63 := by exact_mod_cast Nat.pow_le_pow_right (by decide) hi
    exact this
  have hd : (2 : Int) ^ i ∣ 18446744073709551616 := by
    have : (2 : Int) ^ i ∣ 2 ^ 64 := ⟨2 ^ (64 - i), by rw [← Int.pow_add]; congr 1; omega⟩
    exact this
  have e1 : (BitVec.ofInt 64 a).toNat = a.toNat := by
    rw [BitVec.toNat_ofInt]
    show (a % 18446744073709551616).toNat = _
    rw [Int.emod_eq_of_lt h0 (by omega)]
  have e2 : (BitVec.ofInt 64 (wrap64 y)).toNat = (y % 18446744073709551616).toNat := by
    rw [BitVec.toNat_ofInt]
    show (wrap64 y % 18446744073709551616).toNat = _
    unfold wrap64; congr 1; omega
  have e3 : (y % 18446744073709551616).toNat % 2 ^ i = 0 := by
    have h := Int.emod_emod_of_dvd y hd
    rw [hy] at h
    have h' : (((y % 18446744073709551616).toNat % 2 ^ i : Nat) : Int) = 0 := by
      rw [Int.natCast_emod, Int.toNat_of_nonneg (by omega), Int.natCast_pow]
      exact h
    exact Int.natCast_eq_zero.1 h'
  have e4 : a.toNat < 2 ^ i := by
    have : ((a.toNat : Nat) : Int) < ((2 ^ i : Nat) : Int) := by rw [Int.toNat_of_nonneg h0]; exact_mod_cast h1
    exact_mod_cast this
  show IntKind.i64.wrap ((BitVec.ofInt 64 a ||| BitVec.ofInt 64 (wrap64 y)).toNat : Nat) = _
  rw [BitVec.toNat_or, e1, e2, Nat.or_comm, nat_join i _ _ e3 e4, IntKind.wrap_i64]
  unfold wrap64
  omega
/-- What Load answers. -/
def ldv (s : List UInt8) (p n : Nat) : Int := wrap64 (le ((s.drop p).take n) : Nat)
def ldA (s : List UInt8) (a o n : Int) : Int × Bool :=
  if right n = true ∧ wit s.length (adr a o) n = true then (ldv s (adr a o).toNat n.toNat, true) else (0, false)

theorem u50 : Try.prog.underlying 51 = some (.slice 5) := by kernel_rfl
theorem z5 (w : World) : (Go.sizeOf 5).run Try.prog w = .ok 1 w := by kernel_rfl
set_option maxHeartbeats 800000 in
theorem load_no (s : ByteArray) (a o n : Int) (w : World) (hs : s.size ≤ 140737488351232) (hk : (plc s.size a o n).2 = false) :
    Calls Try.prog 10 #[.string s, .int .i64 a, .int .i64 o, .int .i64 n] w fun e w' => e = .returned (.tuple #[.int .i64 0, .bool false]) ∧ w' = w := by
  go_enter Try.func10, Try.ntmps10
  go_wp2_with (go_at_call 18; refine (place_any _ _ _ _ _ hs).mono ?_; rintro e w' ⟨rfl, rfl⟩)
  go_ret2
  exact ⟨rfl, rfl⟩
theorem zeros8 (w : World) : BRow (w.alloc (.cells #[.int .u8 0, .int .u8 0, .int .u8 0, .int .u8 0, .int .u8 0, .int .u8 0, .int .u8 0, .int .u8 0] 50)) w.heap.size (List.replicate 8 0) := by
  refine BRow.made w _ 50 _ fun j hj => ?_
  simp at hj
  match j, hj with
  | 0, _ => rfl
  | 1, _ => rfl
  | 2, _ => rfl
  | 3, _ => rfl
  | 4, _ => rfl
  | 5, _ => rfl
  | 6, _ => rfl
  | 7, _ => rfl
theorem eight {l : List UInt8} (h : l.length = 8) : ∃ b0 b1 b2 b3 b4 b5 b6 b7, l = [b0, b1, b2, b3, b4, b5, b6, b7] := by
  match l, h with
  | [b0, b1, b2, b3, b4, b5, b6, b7], _ => exact ⟨b0, b1, b2, b3, b4, b5, b6, b7, rfl⟩
theorem ext_list (s : ByteArray) (p : Nat) : (s.extract p s.size).data.toList = s.data.toList.drop p := by
  apply List.ext_getElem
  · simp [ByteArray.data_extract]
  · intro i h1 h2
    simp [ByteArray.data_extract]
/-- What stands in the eight cells. -/
def nb (l : List UInt8) (n : Nat) : List UInt8 := splice (List.replicate 8 0) 0 (l.take n)
theorem nb_len (l : List UInt8) (n : Nat) (h : n ≤ 8) : (nb l n).length = 8 := by
  unfold nb; rw [length_splice]
  · simp
  · simp; omega
theorem nb_le (l : List UInt8) (n : Nat) : le (nb l n) = le (l.take n) := by
  simp only [nb, splice, List.take_zero, List.nil_append, le_append, List.drop_replicate, le_zeros]
  simp
theorem put_step (l : List UInt8) (k : Nat) (h8 : l.length = 8) (hk : k < 8) (b : UInt8) (hb : l[k]? = some b) :
    bits .or .i64 (wrap64 (le (l.take k) : Nat)) (wrap64 ((b.toNat : Int) * 2 ^ (8 * k))) = wrap64 (le (l.take (k + 1)) : Nat) := by
  have hlt : k < l.length := by omega
  have hb' : l[k] = b := by simpa [List.getElem?_eq_getElem hlt] using hb
  have h1 := le_lt (l.take k)
  have h2 : (l.take k).length = k := by simp; omega
  have e256 : (256 : Nat) ^ k = 2 ^ (8 * k) := by rw [Nat.pow_mul]
  rw [h2, e256] at h1
  have hp : (2 : Nat) ^ (8 * k) ≤ 2 ^ 63 := Nat.pow_le_pow_right (by decide) (by omega)
  rw [le_take_succ l k hlt, hb', e256, w64_id (by omega) (by have : (2 : Nat) ^ 63 = 9223372036854775808 := rfl; omega)]
  rw [or64 _ _ (8 * k) (by omega) (by omega) (by exact_mod_cast h1) (by rw [Int.mul_emod_left])]
  congr 1
  rw [Int.natCast_add, Int.natCast_mul, Int.natCast_pow, Int.mul_comm]; rfl
theorem w64_u8 (b : UInt8) : wrap64 (b.toNat : Int) = (b.toNat : Int) := by have := b.toNat_lt; exact w64_id (by omega) (by omega)
set_option maxHeartbeats 1600000 in
theorem load_yes4 (s : ByteArray) (a o : Int) (p : Nat) (w : World) (hs : s.size ≤ 140737488351232) (hp : Hid (plc s.size a o 4 = ((p : Int), true))) (hfit : p + 4 ≤ s.size) :
    Calls Try.prog 10 #[.string s, .int .i64 a, .int .i64 o, .int .i64 4] w fun e w' => e = .returned (.tuple #[.int .i64 (ldv s.data.toList p 4), .bool true]) ∧ Below w.heap.size w w' := by
  have h1 : p ≤ s.size := by omega
  have hb1 := (Below.refl w.heap.size w).alloc (Nat.le_refl _) (.cells #[.int .u8 0, .int .u8 0, .int .u8 0, .int .u8 0, .int .u8 0, .int .u8 0, .int .u8 0, .int .u8 0] 50)
  have hB := zeros8 w
  have hf : Hid (0 + min (s.extract p s.size).size 4 ≤ (List.replicate 8 (0 : UInt8)).length) := by show _ ≤ _; simp; omega
  go_enter Try.func10, Try.ntmps10
  go_wp2_with (go_at_call 18; refine (place_any _ _ _ _ _ hs).mono ?_; rw [hp.out]; rintro e w' ⟨rfl, hw⟩; have hw2 := hw.symm; subst hw2; clear hw)
  generalize w.alloc _ = w1 at hB hb1 ⊢
  go_region_law (refine step_copy_str rfl (.tmp 25) (.tmp 28) 51 9 rfl 5 u50 z5 w.heap.size 0 4 8 (by simp [Act.eval, Act.put]) (s.extract p s.size) (by simp [Act.eval, Act.put]) (List.replicate 8 0) (hB.of_block rfl) hf.out ?_; intro w2 hw2)
  have hb2 : Below w.heap.size w w2 := by rw [hw2.out]; exact Lib.below_setCells _ (Nat.le_refl _) _ _ (hb1.trans ⟨rfl, rfl, rfl, Nat.le_refl _, fun _ _ => rfl⟩)
  have hB2 := BRow.copied (l := List.replicate 8 0) (off := 0) (x := (s.extract p s.size).data.toList.take 4) (hB.of_block (w' := w1.drew) rfl) (by simp; omega) hw2.out
  rw [ext_list] at hB2
  have hle := nb_le (s.data.toList.drop p) 4
  have h8 := nb_len (s.data.toList.drop p) 4 (by decide)
  change BRow w2 w.heap.size (nb (s.data.toList.drop p) 4) at hB2
  have hv : Hid (ldv s.data.toList p 4 = wrap64 (le (nb (s.data.toList.drop p) 4) : Nat)) := by show _ = _; rw [hle]; rfl
  clear hw2 hB hb1 hle hf hp
  generalize nb (s.data.toList.drop p) 4 = l at *
  have stp := fun k hk b => put_step l k h8 hk b
  obtain ⟨b0, b1, b2, b3, b4, b5, b6, b7, rfl⟩ := eight h8
  have c0 := (hB2.2 0 (by simp)).1
  have c1 := (hB2.2 1 (by simp)).1
  have c2 := (hB2.2 2 (by simp)).1
  have c3 := (hB2.2 3 (by simp)).1
  have c4 := (hB2.2 4 (by simp)).1
  have c5 := (hB2.2 5 (by simp)).1
  have c6 := (hB2.2 6 (by simp)).1
  have c7 := (hB2.2 7 (by simp)).1
  simp only [List.getElem_cons_zero, List.getElem_cons_succ] at c0 c1 c2 c3 c4 c5 c6 c7
  have i0 : ∀ wx, (Instr.index 50 (.agg #[.int .u8 (b0.toNat : Int), .int .u8 (b1.toNat : Int), .int .u8 (b2.toNat : Int), .int .u8 (b3.toNat : Int), .int .u8 (b4.toNat : Int), .int .u8 (b5.toNat : Int), .int .u8 (b6.toNat : Int), .int .u8 (b7.toNat : Int)]) (.int .i64 0)).run Try.prog wx = .ok (.int .u8 (b0.toNat : Int)) wx := fun _ => by kernel_rfl
  have i1 : ∀ wx, (Instr.index 50 (.agg #[.int .u8 (b0.toNat : Int), .int .u8 (b1.toNat : Int), .int .u8 (b2.toNat : Int), .int .u8 (b3.toNat : Int), .int .u8 (b4.toNat : Int), .int .u8 (b5.toNat : Int), .int .u8 (b6.toNat : Int), .int .u8 (b7.toNat : Int)]) (.int .i64 1)).run Try.prog wx = .ok (.int .u8 (b1.toNat : Int)) wx := fun _ => by kernel_rfl
  have i2 : ∀ wx, (Instr.index 50 (.agg #[.int .u8 (b0.toNat : Int), .int .u8 (b1.toNat : Int), .int .u8 (b2.toNat : Int), .int .u8 (b3.toNat : Int), .int .u8 (b4.toNat : Int), .int .u8 (b5.toNat : Int), .int .u8 (b6.toNat : Int), .int .u8 (b7.toNat : Int)]) (.int .i64 2)).run Try.prog wx = .ok (.int .u8 (b2.toNat : Int)) wx := fun _ => by kernel_rfl
  have i3 : ∀ wx, (Instr.index 50 (.agg #[.int .u8 (b0.toNat : Int), .int .u8 (b1.toNat : Int), .int .u8 (b2.toNat : Int), .int .u8 (b3.toNat : Int), .int .u8 (b4.toNat : Int), .int .u8 (b5.toNat : Int), .int .u8 (b6.toNat : Int), .int .u8 (b7.toNat : Int)]) (.int .i64 3)).run Try.prog wx = .ok (.int .u8 (b3.toNat : Int)) wx := fun _ => by kernel_rfl
  have i4 : ∀ wx, (Instr.index 50 (.agg #[.int .u8 (b0.toNat : Int), .int .u8 (b1.toNat : Int), .int .u8 (b2.toNat : Int), .int .u8 (b3.toNat : Int), .int .u8 (b4.toNat : Int), .int .u8 (b5.toNat : Int), .int .u8 (b6.toNat : Int), .int .u8 (b7.toNat : Int)]) (.int .i64 4)).run Try.prog wx = .ok (.int .u8 (b4.toNat : Int)) wx := fun _ => by kernel_rfl
  have i5 : ∀ wx, (Instr.index 50 (.agg #[.int .u8 (b0.toNat : Int), .int .u8 (b1.toNat : Int), .int .u8 (b2.toNat : Int), .int .u8 (b3.toNat : Int), .int .u8 (b4.toNat : Int), .int .u8 (b5.toNat : Int), .int .u8 (b6.toNat : Int), .int .u8 (b7.toNat : Int)]) (.int .i64 5)).run Try.prog wx = .ok (.int .u8 (b5.toNat : Int)) wx := fun _ => by kernel_rfl
  have i6 : ∀ wx, (Instr.index 50 (.agg #[.int .u8 (b0.toNat : Int), .int .u8 (b1.toNat : Int), .int .u8 (b2.toNat : Int), .int .u8 (b3.toNat : Int), .int .u8 (b4.toNat : Int), .int .u8 (b5.toNat : Int), .int .u8 (b6.toNat : Int), .int .u8 (b7.toNat : Int)]) (.int .i64 6)).run Try.prog wx = .ok (.int .u8 (b6.toNat : Int)) wx := fun _ => by kernel_rfl
  have i7 : ∀ wx, (Instr.index 50 (.agg #[.int .u8 (b0.toNat : Int), .int .u8 (b1.toNat : Int), .int .u8 (b2.toNat : Int), .int .u8 (b3.toNat : Int), .int .u8 (b4.toNat : Int), .int .u8 (b5.toNat : Int), .int .u8 (b6.toNat : Int), .int .u8 (b7.toNat : Int)]) (.int .i64 7)).run Try.prog wx = .ok (.int .u8 (b7.toNat : Int)) wx := fun _ => by kernel_rfl
  obtain ⟨pv, hpv⟩ : ∃ pv : Nat → Int, pv = fun k => wrap64 (le (List.take k [b0, b1, b2, b3, b4, b5, b6, b7]) : Nat) := ⟨_, rfl⟩
  have p0 : Hid (pv 0 = 0) := by show _ = _; rw [hpv]; simp [le, wrap64]
  have p8 : Hid (pv 8 = ldv s.data.toList p 4) := by show _ = _; rw [hpv, hv.out]; rfl
  have stp' : ∀ k, k < 8 → ∀ b, [b0, b1, b2, b3, b4, b5, b6, b7][k]? = some b → bits BinOp.or IntKind.i64 (pv k) (wrap64 ((b.toNat : Int) * 2 ^ (8 * k))) = pv (k + 1) := by rw [hpv]; exact stp
  clear hpv stp hv h8 hB2
  go_wp2
  go_loop [8, 31] (fun v i => ∃ k : Nat, k ≤ 8 ∧ i = .int .i64 k ∧ v = .int .i64 (pv k)) (fun _ i => 8 - (intOf i).toNat)
  case atStart => exact ⟨0, Nat.zero_le _, rfl, by rw [p0.out]⟩
  case round =>
    obtain ⟨k, hk, rfl, rfl⟩ := hrel
    clear c0 c1 c2 c3 c4 c5 c6 c7
    have hk' : k = 0 ∨ k = 1 ∨ k = 2 ∨ k = 3 ∨ k = 4 ∨ k = 5 ∨ k = 6 ∨ k = 7 ∨ k = 8 := by omega
    rcases hk' with rfl | rfl | rfl | rfl | rfl | rfl | rfl | rfl | rfl
    · have h := stp' 0 (by decide) b0 rfl
      rw [show (2 : Int) ^ (8 * 0) = 1 from by decide, Int.mul_one] at h
      have H := hide h
      clear h
      go_wp2
      exact ⟨⟨1, by decide, rfl, by rw [w64_u8, H.out]⟩, by simp [intOf]⟩
    · have h := stp' 1 (by decide) b1 rfl
      rw [show (2 : Int) ^ (8 * 1) = 256 from by decide] at h
      have H := hide h
      clear h
      go_wp2
      exact ⟨⟨2, by decide, rfl, by rw [w64_u8, H.out]⟩, by simp [intOf]⟩
    · have h := stp' 2 (by decide) b2 rfl
      rw [show (2 : Int) ^ (8 * 2) = 65536 from by decide] at h
      have H := hide h
      clear h
      go_wp2
      exact ⟨⟨3, by decide, rfl, by rw [w64_u8, H.out]⟩, by simp [intOf]⟩
    · have h := stp' 3 (by decide) b3 rfl
      rw [show (2 : Int) ^ (8 * 3) = 16777216 from by decide] at h
      have H := hide h
      clear h
      go_wp2
      exact ⟨⟨4, by decide, rfl, by rw [w64_u8, H.out]⟩, by simp [intOf]⟩
    · have h := stp' 4 (by decide) b4 rfl
      rw [show (2 : Int) ^ (8 * 4) = 4294967296 from by decide] at h
      have H := hide h
      clear h
      go_wp2
      exact ⟨⟨5, by decide, rfl, by rw [w64_u8, H.out]⟩, by simp [intOf]⟩
    · have h := stp' 5 (by decide) b5 rfl
      rw [show (2 : Int) ^ (8 * 5) = 1099511627776 from by decide] at h
      have H := hide h
      clear h
      go_wp2
      exact ⟨⟨6, by decide, rfl, by rw [w64_u8, H.out]⟩, by simp [intOf]⟩
    · have h := stp' 6 (by decide) b6 rfl
      rw [show (2 : Int) ^ (8 * 6) = 281474976710656 from by decide] at h
      have H := hide h
      clear h
      go_wp2
      exact ⟨⟨7, by decide, rfl, by rw [w64_u8, H.out]⟩, by simp [intOf]⟩
    · have h := stp' 7 (by decide) b7 rfl
      rw [show (2 : Int) ^ (8 * 7) = 72057594037927936 from by decide] at h
      have H := hide h
      clear h
      go_wp2
      exact ⟨⟨8, by decide, rfl, by rw [w64_u8, H.out]⟩, by simp [intOf]⟩
    · go_wp2
      go_ret2
      exact ⟨by rw [← p8.out]; rfl, hb2⟩
set_option maxHeartbeats 1600000 in
theorem load_yes8 (s : ByteArray) (a o : Int) (p : Nat) (w : World) (hs : s.size ≤ 140737488351232) (hp : Hid (plc s.size a o 8 = ((p : Int), true))) (hfit : p + 8 ≤ s.size) :
    Calls Try.prog 10 #[.string s, .int .i64 a, .int .i64 o, .int .i64 8] w fun e w' => e = .returned (.tuple #[.int .i64 (ldv s.data.toList p 8), .bool true]) ∧ Below w.heap.size w w' := by
  have h1 : p ≤ s.size := by omega
  have hb1 := (Below.refl w.heap.size w).alloc (Nat.le_refl _) (.cells #[.int .u8 0, .int .u8 0, .int .u8 0, .int .u8 0, .int .u8 0, .int .u8 0, .int .u8 0, .int .u8 0] 50)
  have hB := zeros8 w
  have hf : Hid (0 + min (s.extract p s.size).size 8 ≤ (List.replicate 8 (0 : UInt8)).length) := by show _ ≤ _; simp; omega
  go_enter Try.func10, Try.ntmps10
  go_wp2_with (go_at_call 18; refine (place_any _ _ _ _ _ hs).mono ?_; rw [hp.out]; rintro e w' ⟨rfl, hw⟩; have hw2 := hw.symm; subst hw2; clear hw)
  generalize w.alloc _ = w1 at hB hb1 ⊢
  go_region_law (refine step_copy_str rfl (.tmp 25) (.tmp 28) 51 9 rfl 5 u50 z5 w.heap.size 0 8 8 (by simp [Act.eval, Act.put]) (s.extract p s.size) (by simp [Act.eval, Act.put]) (List.replicate 8 0) (hB.of_block rfl) hf.out ?_; intro w2 hw2)
  have hb2 : Below w.heap.size w w2 := by rw [hw2.out]; exact Lib.below_setCells _ (Nat.le_refl _) _ _ (hb1.trans ⟨rfl, rfl, rfl, Nat.le_refl _, fun _ _ => rfl⟩)
  have hB2 := BRow.copied (l := List.replicate 8 0) (off := 0) (x := (s.extract p s.size).data.toList.take 8) (hB.of_block (w' := w1.drew) rfl) (by simp; omega) hw2.out
  rw [ext_list] at hB2
  have hle := nb_le (s.data.toList.drop p) 8
  have h8 := nb_len (s.data.toList.drop p) 8 (by decide)
  change BRow w2 w.heap.size (nb (s.data.toList.drop p) 8) at hB2
  have hv : Hid (ldv s.data.toList p 8 = wrap64 (le (nb (s.data.toList.drop p) 8) : Nat)) := by show _ = _; rw [hle]; rfl
  clear hw2 hB hb1 hle hf hp
  generalize nb (s.data.toList.drop p) 8 = l at *
  have stp := fun k hk b => put_step l k h8 hk b
  obtain ⟨b0, b1, b2, b3, b4, b5, b6, b7, rfl⟩ := eight h8
  have c0 := (hB2.2 0 (by simp)).1
  have c1 := (hB2.2 1 (by simp)).1
  have c2 := (hB2.2 2 (by simp)).1
  have c3 := (hB2.2 3 (by simp)).1
  have c4 := (hB2.2 4 (by simp)).1
  have c5 := (hB2.2 5 (by simp)).1
  have c6 := (hB2.2 6 (by simp)).1
  have c7 := (hB2.2 7 (by simp)).1
  simp only [List.getElem_cons_zero, List.getElem_cons_succ] at c0 c1 c2 c3 c4 c5 c6 c7
  have i0 : ∀ wx, (Instr.index 50 (.agg #[.int .u8 (b0.toNat : Int), .int .u8 (b1.toNat : Int), .int .u8 (b2.toNat : Int), .int .u8 (b3.toNat : Int), .int .u8 (b4.toNat : Int), .int .u8 (b5.toNat : Int), .int .u8 (b6.toNat : Int), .int .u8 (b7.toNat : Int)]) (.int .i64 0)).run Try.prog wx = .ok (.int .u8 (b0.toNat : Int)) wx := fun _ => by kernel_rfl
  have i1 : ∀ wx, (Instr.index 50 (.agg #[.int .u8 (b0.toNat : Int), .int .u8 (b1.toNat : Int), .int .u8 (b2.toNat : Int), .int .u8 (b3.toNat : Int), .int .u8 (b4.toNat : Int), .int .u8 (b5.toNat : Int), .int .u8 (b6.toNat : Int), .int .u8 (b7.toNat : Int)]) (.int .i64 1)).run Try.prog wx = .ok (.int .u8 (b1.toNat : Int)) wx := fun _ => by kernel_rfl
  have i2 : ∀ wx, (Instr.index 50 (.agg #[.int .u8 (b0.toNat : Int), .int .u8 (b1.toNat : Int), .int .u8 (b2.toNat : Int), .int .u8 (b3.toNat : Int), .int .u8 (b4.toNat : Int), .int .u8 (b5.toNat : Int), .int .u8 (b6.toNat : Int), .int .u8 (b7.toNat : Int)]) (.int .i64 2)).run Try.prog wx = .ok (.int .u8 (b2.toNat : Int)) wx := fun _ => by kernel_rfl
  have i3 : ∀ wx, (Instr.index 50 (.agg #[.int .u8 (b0.toNat : Int), .int .u8 (b1.toNat : Int), .int .u8 (b2.toNat : Int), .int .u8 (b3.toNat : Int), .int .u8 (b4.toNat : Int), .int .u8 (b5.toNat : Int), .int .u8 (b6.toNat : Int), .int .u8 (b7.toNat : Int)]) (.int .i64 3)).run Try.prog wx = .ok (.int .u8 (b3.toNat : Int)) wx := fun _ => by kernel_rfl
  have i4 : ∀ wx, (Instr.index 50 (.agg #[.int .u8 (b0.toNat : Int), .int .u8 (b1.toNat : Int), .int .u8 (b2.toNat : Int), .int .u8 (b3.toNat : Int), .int .u8 (b4.toNat : Int), .int .u8 (b5.toNat : Int), .int .u8 (b6.toNat : Int), .int .u8 (b7.toNat : Int)]) (.int .i64 4)).run Try.prog wx = .ok (.int .u8 (b4.toNat : Int)) wx := fun _ => by kernel_rfl
  have i5 : ∀ wx, (Instr.index 50 (.agg #[.int .u8 (b0.toNat : Int), .int .u8 (b1.toNat : Int), .int .u8 (b2.toNat : Int), .int .u8 (b3.toNat : Int), .int .u8 (b4.toNat : Int), .int .u8 (b5.toNat : Int), .int .u8 (b6.toNat : Int), .int .u8 (b7.toNat : Int)]) (.int .i64 5)).run Try.prog wx = .ok (.int .u8 (b5.toNat : Int)) wx := fun _ => by kernel_rfl
  have i6 : ∀ wx, (Instr.index 50 (.agg #[.int .u8 (b0.toNat : Int), .int .u8 (b1.toNat : Int), .int .u8 (b2.toNat : Int), .int .u8 (b3.toNat : Int), .int .u8 (b4.toNat : Int), .int .u8 (b5.toNat : Int), .int .u8 (b6.toNat : Int), .int .u8 (b7.toNat : Int)]) (.int .i64 6)).run Try.prog wx = .ok (.int .u8 (b6.toNat : Int)) wx := fun _ => by kernel_rfl
  have i7 : ∀ wx, (Instr.index 50 (.agg #[.int .u8 (b0.toNat : Int), .int .u8 (b1.toNat : Int), .int .u8 (b2.toNat : Int), .int .u8 (b3.toNat : Int), .int .u8 (b4.toNat : Int), .int .u8 (b5.toNat : Int), .int .u8 (b6.toNat : Int), .int .u8 (b7.toNat : Int)]) (.int .i64 7)).run Try.prog wx = .ok (.int .u8 (b7.toNat : Int)) wx := fun _ => by kernel_rfl
  obtain ⟨pv, hpv⟩ : ∃ pv : Nat → Int, pv = fun k => wrap64 (le (List.take k [b0, b1, b2, b3, b4, b5, b6, b7]) : Nat) := ⟨_, rfl⟩
  have p0 : Hid (pv 0 = 0) := by show _ = _; rw [hpv]; simp [le, wrap64]
  have p8 : Hid (pv 8 = ldv s.data.toList p 8) := by show _ = _; rw [hpv, hv.out]; rfl
  have stp' : ∀ k, k < 8 → ∀ b, [b0, b1, b2, b3, b4, b5, b6, b7][k]? = some b → bits BinOp.or IntKind.i64 (pv k) (wrap64 ((b.toNat : Int) * 2 ^ (8 * k))) = pv (k + 1) := by rw [hpv]; exact stp
  clear hpv stp hv h8 hB2
  go_wp2
  go_loop [8, 31] (fun v i => ∃ k : Nat, k ≤ 8 ∧ i = .int .i64 k ∧ v = .int .i64 (pv k)) (fun _ i => 8 - (intOf i).toNat)
  case atStart => exact ⟨0, Nat.zero_le _, rfl, by rw [p0.out]⟩
  case round =>
    obtain ⟨k, hk, rfl, rfl⟩ := hrel
    clear c0 c1 c2 c3 c4 c5 c6 c7
    have hk' : k = 0 ∨ k = 1 ∨ k = 2 ∨ k = 3 ∨ k = 4 ∨ k = 5 ∨ k = 6 ∨ k = 7 ∨ k = 8 := by omega
    rcases hk' with rfl | rfl | rfl | rfl | rfl | rfl | rfl | rfl | rfl
    · have h := stp' 0 (by decide) b0 rfl
      rw [show (2 : Int) ^ (8 * 0) = 1 from by decide, Int.mul_one] at h
      have H := hide h
      clear h
      go_wp2
      exact ⟨⟨1, by decide, rfl, by rw [w64_u8, H.out]⟩, by simp [intOf]⟩
    · have h := stp' 1 (by decide) b1 rfl
      rw [show (2 : Int) ^ (8 * 1) = 256 from by decide] at h
      have H := hide h
      clear h
      go_wp2
      exact ⟨⟨2, by decide, rfl, by rw [w64_u8, H.out]⟩, by simp [intOf]⟩
    · have h := stp' 2 (by decide) b2 rfl
      rw [show (2 : Int) ^ (8 * 2) = 65536 from by decide] at h
      have H := hide h
      clear h
      go_wp2
      exact ⟨⟨3, by decide, rfl, by rw [w64_u8, H.out]⟩, by simp [intOf]⟩
    · have h := stp' 3 (by decide) b3 rfl
      rw [show (2 : Int) ^ (8 * 3) = 16777216 from by decide] at h
      have H := hide h
      clear h
      go_wp2
      exact ⟨⟨4, by decide, rfl, by rw [w64_u8, H.out]⟩, by simp [intOf]⟩
    · have h := stp' 4 (by decide) b4 rfl
      rw [show (2 : Int) ^ (8 * 4) = 4294967296 from by decide] at h
      have H := hide h
      clear h
      go_wp2
      exact ⟨⟨5, by decide, rfl, by rw [w64_u8, H.out]⟩, by simp [intOf]⟩
    · have h := stp' 5 (by decide) b5 rfl
      rw [show (2 : Int) ^ (8 * 5) = 1099511627776 from by decide] at h
      have H := hide h
      clear h
      go_wp2
      exact ⟨⟨6, by decide, rfl, by rw [w64_u8, H.out]⟩, by simp [intOf]⟩
    · have h := stp' 6 (by decide) b6 rfl
      rw [show (2 : Int) ^ (8 * 6) = 281474976710656 from by decide] at h
      have H := hide h
      clear h
      go_wp2
      exact ⟨⟨7, by decide, rfl, by rw [w64_u8, H.out]⟩, by simp [intOf]⟩
    · have h := stp' 7 (by decide) b7 rfl
      rw [show (2 : Int) ^ (8 * 7) = 72057594037927936 from by decide] at h
      have H := hide h
      clear h
      go_wp2
      exact ⟨⟨8, by decide, rfl, by rw [w64_u8, H.out]⟩, by simp [intOf]⟩
    · go_wp2
      go_ret2
      exact ⟨by rw [← p8.out]; rfl, hb2⟩

theorem right_cases {n : Int} (h : right n = true) : n = 4 ∨ n = 8 := by
  simpa [right] using h
theorem list_size (s : ByteArray) : s.data.toList.length = s.size := by simp
/-- Load, whole. -/
theorem load_any (s : ByteArray) (a o n : Int) (w : World) (hs : s.size ≤ 140737488351232) :
    Calls Try.prog 10 #[.string s, .int .i64 a, .int .i64 o, .int .i64 n] w fun e w' => e = .returned (.tuple #[.int .i64 (ldA s.data.toList a o n).1, .bool (ldA s.data.toList a o n).2]) ∧ Below w.heap.size w w' := by
  have hb := adr_bd a o
  by_cases h : right n = true ∧ wit s.size (adr a o) n = true
  · have e : ldA s.data.toList a o n = (ldv s.data.toList (adr a o).toNat n.toNat, true) := by unfold ldA; rw [list_size, if_pos h]
    have hp : plc s.size a o n = (((adr a o).toNat : Int), true) := by rw [plc_yes h.1, h.2, Int.toNat_of_nonneg hb.1]
    have hw := h.2
    simp only [wit, Bool.and_eq_true, decide_eq_true_eq] at hw
    rw [e]
    rcases right_cases h.1 with rfl | rfl
    · exact load_yes4 s a o _ w hs hp (by omega)
    · exact load_yes8 s a o _ w hs hp (by omega)
  · have e : ldA s.data.toList a o n = (0, false) := by unfold ldA; rw [list_size, if_neg h]
    rw [e]
    refine (load_no s a o n w hs ?_).mono ?_
    · by_cases hr : right n = true
      · rw [plc_yes hr]; simpa using fun hw => h ⟨hr, hw⟩
      · rw [plc_no (by simpa using hr)]
    · rintro e w' ⟨rfl, rfl⟩
      exact ⟨rfl, Below.refl _ _⟩
end Go.Proofs.Ytcjojphajjoheaa

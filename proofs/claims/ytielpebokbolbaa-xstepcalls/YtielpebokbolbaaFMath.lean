/-
  Plain functions: what the machine of chapter 10 reckons, by numbers alone (no program): what is left at a width, the signed number, the topmost bit, sums modulo a width, bits as natural numbers, turns.
-/
import Derived.RowKit
import Derived.WalkKit
import Derived.Laws.BitsAllLaws
namespace Go.Proofs.Ytielpebokbolbaa.Fg
open Go.RowKit

def I64 (n : Int) : Prop := -9223372036854775808 ≤ n ∧ n ≤ 9223372036854775807

def tr (wide : Bool) (v : Int) : Int := if wide then v else v % 4294967296
/-- the signed number that the bits of v are at a width -/
def sn (wide : Bool) (v : Int) : Int := if wide then v else wrap32 v
def un (v : Int) : Int := v % 18446744073709551616
def wd (wide : Bool) : Nat := if wide then 64 else 32
def ls (wide : Bool) : Int := if wide then -9223372036854775808 else -2147483648
def Wd (wide : Bool) (v : Int) : Prop := if wide then I64 v else 0 ≤ v ∧ v < 4294967296
/-- is the topmost bit 1? -/
def tp (wide : Bool) (v : Int) : Bool := decide (sn wide v < 0)
/-- how many values a width has -/
def md (wide : Bool) : Int := if wide then 18446744073709551616 else 4294967296
/-- the value of a width that a number is, modulo how many there are -/
def M (wide : Bool) (x : Int) : Int := tr wide (wrap64 x)

theorem hide {p : Prop} (h : p) : Hid p := h
theorem ret_int {k : IntKind} {a b : Int} (h : a = b) : Ending.returned (.int k a) = .returned (.int k b) := by rw [h]
theorem ret_bool {a b : Bool} (h : a = b) : Ending.returned (.bool a) = .returned (.bool b) := by rw [h]

theorem wd_no : wd false = 32 := rfl
theorem wd_yes : wd true = 64 := rfl
theorem tr_no (v : Int) : tr false v = v % 4294967296 := rfl
theorem tr_yes (v : Int) : tr true v = v := rfl
theorem sn_no (v : Int) : sn false v = wrap32 v := rfl
theorem sn_yes (v : Int) : sn true v = v := rfl

theorem tr_wd (wide : Bool) (v : Int) (h : I64 v) : Wd wide (tr wide v) := by
  obtain ⟨h1, h2⟩ := h
  cases wide
  · simp only [Wd, tr, Bool.false_eq_true, if_false]; omega
  · simpa only [Wd, tr, if_true] using ⟨h1, h2⟩

theorem wd_i64 {wide : Bool} {v : Int} (h : Wd wide v) : I64 v := by
  cases wide
  · simp only [Wd, Bool.false_eq_true, if_false] at h; exact ⟨by omega, by omega⟩
  · simpa only [Wd, if_true] using h

theorem sn_i64 (wide : Bool) (v : Int) (h : I64 v) : I64 (sn wide v) := by
  obtain ⟨h1, h2⟩ := h
  cases wide
  · simp only [sn, Bool.false_eq_true, if_false, wrap32]; exact ⟨by omega, by omega⟩
  · simpa only [sn, if_true] using ⟨h1, h2⟩

theorem and32 (v : Int) : bits .and .i64 v 4294967295 = v % 4294967296 := by
  show IntKind.i64.wrap ((BitVec.ofInt 64 v &&& BitVec.ofInt 64 4294967295).toNat : Int) = _
  rw [BitVec.toNat_and]
  have e : (BitVec.ofInt 64 4294967295).toNat = 2 ^ 32 - 1 := by decide
  rw [e, Nat.and_two_pow_sub_one_eq_mod, BitVec.toNat_ofInt]
  have h0 : (0 : Int) ≤ v % 18446744073709551616 := Int.emod_nonneg _ (by decide)
  have e2 : (((v % ((2 ^ 64 : Nat) : Int)).toNat % 2 ^ 32 : Nat) : Int) = v % 4294967296 := by
    have e3 : ((2 ^ 64 : Nat) : Int) = 18446744073709551616 := by decide
    rw [e3]; omega
  rw [e2]
  have h1 : 0 ≤ v % 4294967296 ∧ v % 4294967296 < 4294967296 := by omega
  generalize v % 4294967296 = x at h1 ⊢
  simp [IntKind.wrap, IntKind.bits, IntKind.signed]
  omega
theorem and1 (v : Int) : bits .and .i64 v 1 = v % 2 := by
  show IntKind.i64.wrap ((BitVec.ofInt 64 v &&& BitVec.ofInt 64 1).toNat : Int) = _
  rw [BitVec.toNat_and]
  have e : (BitVec.ofInt 64 1).toNat = 2 ^ 1 - 1 := by decide
  rw [e, Nat.and_two_pow_sub_one_eq_mod, BitVec.toNat_ofInt]
  have h0 : (0 : Int) ≤ v % 18446744073709551616 := Int.emod_nonneg _ (by decide)
  have e2 : (((v % ((2 ^ 64 : Nat) : Int)).toNat % 2 ^ 1 : Nat) : Int) = v % 2 := by
    have e3 : ((2 ^ 64 : Nat) : Int) = 18446744073709551616 := by decide
    rw [e3]; omega
  rw [e2]
  have h1 : 0 ≤ v % 2 ∧ v % 2 < 2 := by omega
  generalize v % 2 = x at h1 ⊢
  simp [IntKind.wrap, IntKind.bits, IntKind.signed]
  omega

theorem md_no : md false = 4294967296 := rfl
theorem md_yes : md true = 18446744073709551616 := rfl
theorem M_no (x : Int) : M false x = x % 4294967296 := by
  simp only [M, tr, wrap64, Bool.false_eq_true, if_false]; omega
theorem M_yes (x : Int) : M true x = wrap64 x := by simp only [M, tr, if_true]

theorem M_dvd (wide : Bool) (x : Int) : md wide ∣ x - M wide x := by
  cases wide
  · rw [M_no, md_no]; omega
  · rw [M_yes, md_yes]; simp only [wrap64]; omega
theorem M_eq (wide : Bool) (x y : Int) (h : md wide ∣ x - y) : M wide x = M wide y := by
  cases wide
  · rw [md_no] at h; rw [M_no, M_no]; omega
  · rw [md_yes] at h; rw [M_yes, M_yes]; simp only [wrap64]; omega
theorem tr_M (wide : Bool) (x : Int) (h : I64 x) : tr wide x = M wide x := by
  obtain ⟨h1, h2⟩ := h
  have e : wrap64 x = x := by simp only [wrap64]; omega
  simp only [M, e]
theorem wd_M (wide : Bool) (x : Int) : Wd wide (M wide x) := by
  cases wide
  · rw [M_no]; simp only [Wd, Bool.false_eq_true, if_false]; omega
  · rw [M_yes]; simp only [Wd, if_true, wrap64]; exact ⟨by omega, by omega⟩
theorem M_wd (wide : Bool) (x : Int) (h : Wd wide x) : M wide x = x := by
  cases wide
  · simp only [Wd, Bool.false_eq_true, if_false] at h; rw [M_no]; omega
  · simp only [Wd, if_true] at h; obtain ⟨h1, h2⟩ := h; rw [M_yes]; simp only [wrap64]; omega
theorem tr_wd_id (wide : Bool) (x : Int) (h : Wd wide x) : tr wide x = x := by rw [tr_M wide x (wd_i64 h), M_wd wide x h]
theorem tr_tr (wide : Bool) (x : Int) : tr wide (tr wide x) = tr wide x := by
  cases wide
  · simp only [tr, Bool.false_eq_true, if_false]; omega
  · rfl
theorem M_i64 (wide : Bool) (x : Int) : I64 (M wide x) := wd_i64 (wd_M wide x)

theorem wrap_i64 (x : Int) : I64 (wrap64 x) := by simp only [wrap64]; exact ⟨by omega, by omega⟩
theorem i64_wrap (x : Int) : IntKind.i64.wrap x = wrap64 x := by
  simp [IntKind.wrap, IntKind.bits, IntKind.signed, wrap64]; omega
theorem un_wrap (x : Int) : IntKind.u64.wrap x = un x := by
  simp [IntKind.wrap, IntKind.bits, IntKind.signed, un]
theorem un_ge (v : Int) : 0 ≤ un v := Int.emod_nonneg _ (by decide)
theorem un_lt (v : Int) : un v < 18446744073709551616 := Int.emod_lt_of_pos _ (by decide)

/-- the natural number that the bits of a value are, at a width -/
def R (wide : Bool) (x : Int) : Nat := (x % md wide).toNat

theorem md_pow (wide : Bool) : md wide = ((2 ^ wd wide : Nat) : Int) := by cases wide <;> decide
theorem R_lt (wide : Bool) (x : Int) : R wide x < 2 ^ wd wide := by
  cases wide
  · simp only [R, md_no, wd_no]; omega
  · simp only [R, md_yes, wd_yes]; omega
theorem R_tr (wide : Bool) (x : Int) : R wide (tr wide x) = R wide x := by
  cases wide
  · simp only [R, md_no, tr, Bool.false_eq_true, if_false]; omega
  · simp only [R, tr, if_true]
theorem R_M (wide : Bool) (n : Nat) : R wide (M wide n) = n % 2 ^ wd wide := by
  cases wide
  · simp only [R, md_no, M_no, wd_no]; omega
  · simp only [R, md_yes, M_yes, wd_yes, wrap64]; omega
theorem M_R (wide : Bool) (x : Int) : M wide (R wide x) = M wide x := by
  apply M_eq
  cases wide
  · simp only [R, md_no]; omega
  · simp only [R, md_yes]; omega
theorem M_mod (wide : Bool) (n : Nat) : M wide ((n % 2 ^ wd wide : Nat) : Int) = M wide n := by
  apply M_eq
  cases wide
  · rw [md_no, wd_no]; omega
  · rw [md_yes, wd_yes]; omega
theorem un_R (wide : Bool) (x : Int) (h : Wd wide x) : un x = (R wide x : Int) := by
  cases wide
  · simp only [Wd, Bool.false_eq_true, if_false] at h; simp only [R, md_no, un]; omega
  · simp only [R, md_yes, un]; omega
theorem ofInt_R (wide : Bool) (x : Int) (h : Wd wide x) : (BitVec.ofInt 64 x).toNat = R wide x := by
  rw [BitVec.toNat_ofInt]
  have e3 : ((2 ^ 64 : Nat) : Int) = 18446744073709551616 := by decide
  rw [e3]
  have := un_R wide x h
  simp only [un] at this
  omega

theorem bits_and (wide : Bool) (x y : Int) (hx : Wd wide x) (hy : Wd wide y) : bits .and .i64 x y = wrap64 ((R wide x &&& R wide y : Nat) : Int) := by
  show IntKind.i64.wrap ((BitVec.ofInt 64 x &&& BitVec.ofInt 64 y).toNat : Int) = _
  rw [BitVec.toNat_and, ofInt_R wide x hx, ofInt_R wide y hy, i64_wrap]
theorem bits_or (wide : Bool) (x y : Int) (hx : Wd wide x) (hy : Wd wide y) : bits .or .i64 x y = wrap64 ((R wide x ||| R wide y : Nat) : Int) := by
  show IntKind.i64.wrap ((BitVec.ofInt 64 x ||| BitVec.ofInt 64 y).toNat : Int) = _
  rw [BitVec.toNat_or, ofInt_R wide x hx, ofInt_R wide y hy, i64_wrap]
theorem bits_xor (wide : Bool) (x y : Int) (hx : Wd wide x) (hy : Wd wide y) : bits .xor .i64 x y = wrap64 ((R wide x ^^^ R wide y : Nat) : Int) := by
  show IntKind.i64.wrap ((BitVec.ofInt 64 x ^^^ BitVec.ofInt 64 y).toNat : Int) = _
  rw [BitVec.toNat_xor, ofInt_R wide x hx, ofInt_R wide y hy, i64_wrap]
/-- a number without a sign that fits a width, as the program bears it, is one of the width -/
theorem wrap_wd (wide : Bool) (n : Nat) (h : n < 2 ^ wd wide) : Wd wide (wrap64 n) := by
  cases wide
  · rw [wd_no] at h; simp only [Wd, Bool.false_eq_true, if_false, wrap64]; omega
  · exact wrap_i64 _
theorem and_wd (wide : Bool) (x y : Int) (hx : Wd wide x) (hy : Wd wide y) : Wd wide (bits .and .i64 x y) := by
  rw [bits_and wide x y hx hy]; exact wrap_wd wide _ (Nat.and_lt_two_pow _ (R_lt wide y))
theorem or_wd (wide : Bool) (x y : Int) (hx : Wd wide x) (hy : Wd wide y) : Wd wide (bits .or .i64 x y) := by
  rw [bits_or wide x y hx hy]; exact wrap_wd wide _ (Nat.or_lt_two_pow (R_lt wide x) (R_lt wide y))
theorem xor_wd (wide : Bool) (x y : Int) (hx : Wd wide x) (hy : Wd wide y) : Wd wide (bits .xor .i64 x y) := by
  rw [bits_xor wide x y hx hy]; exact wrap_wd wide _ (Nat.xor_lt_two_pow (R_lt wide x) (R_lt wide y))

/-- bit k of a value -/
def bt (k : Nat) (x : Int) : Bool := (BitVec.ofInt 64 x).getLsbD k
theorem ofInt_wrap (x : Int) : BitVec.ofInt 64 (IntKind.i64.wrap x) = BitVec.ofInt 64 x := by
  rw [i64_wrap]; apply BitVec.eq_of_toNat_eq
  rw [BitVec.toNat_ofInt, BitVec.toNat_ofInt]
  have e3 : ((2 ^ 64 : Nat) : Int) = 18446744073709551616 := by decide
  rw [e3]; simp only [wrap64]; congr 1; omega
theorem ofInt_nat (b : BitVec 64) : BitVec.ofInt 64 (b.toNat : Int) = b := by
  apply BitVec.eq_of_toNat_eq
  rw [BitVec.toNat_ofInt]
  have := b.isLt
  have e3 : ((2 ^ 64 : Nat) : Int) = 18446744073709551616 := by decide
  rw [e3]; omega
theorem bt_xor (k : Nat) (x y : Int) : bt k (bits .xor .i64 x y) = (bt k x ^^ bt k y) := by
  show (BitVec.ofInt 64 (IntKind.i64.wrap ((BitVec.ofInt 64 x ^^^ BitVec.ofInt 64 y).toNat : Int))).getLsbD k = _
  rw [ofInt_wrap, ofInt_nat, BitVec.getLsbD_xor]; rfl
theorem bt_and (k : Nat) (x y : Int) : bt k (bits .and .i64 x y) = (bt k x && bt k y) := by
  show (BitVec.ofInt 64 (IntKind.i64.wrap ((BitVec.ofInt 64 x &&& BitVec.ofInt 64 y).toNat : Int))).getLsbD k = _
  rw [ofInt_wrap, ofInt_nat, BitVec.getLsbD_and]; rfl
theorem bt_div (k : Nat) (x : Int) (_hk : k < 64) : bt k x = decide (un x / 2 ^ k % 2 = 1) := by
  show (BitVec.ofInt 64 x).toNat.testBit k = _
  rw [BitVec.toNat_ofInt]
  have e3 : ((2 ^ 64 : Nat) : Int) = 18446744073709551616 := by decide
  rw [e3, Nat.testBit_eq_decide_div_mod_eq]
  have h := un_ge x
  show decide ((un x).toNat / 2 ^ k % 2 = 1) = _
  generalize un x = u at h
  obtain ⟨n, rfl⟩ := Int.eq_ofNat_of_zero_le h
  have : ((n : Int) / 2 ^ k % 2 = 1) ↔ (n / 2 ^ k % 2 = 1) := by
    rw [show ((2 : Int) ^ k) = ((2 ^ k : Nat) : Int) from by rw [Int.natCast_pow]; rfl]; omega
  simp only [Int.toNat_natCast, this]
theorem bt_not (k : Nat) (x : Int) (hk : k < 64) : bt k (-x - 1) = !bt k x := by
  have e : BitVec.ofInt 64 (-x - 1) = ~~~ BitVec.ofInt 64 x := by
    apply BitVec.eq_of_toNat_eq
    rw [BitVec.toNat_not, BitVec.toNat_ofInt, BitVec.toNat_ofInt]
    have e3 : ((2 ^ 64 : Nat) : Int) = 18446744073709551616 := by decide
    rw [e3]; omega
  show (BitVec.ofInt 64 (-x - 1)).getLsbD k = _
  rw [e, BitVec.getLsbD_not]; simp [hk, bt]
/-- the place of the topmost bit -/
def tb (wide : Bool) : Nat := if wide then 63 else 31
theorem tp_bt (wide : Bool) (x : Int) (h : I64 x) : tp wide x = bt (tb wide) x := by
  obtain ⟨h1, h2⟩ := h
  cases wide
  · rw [show tb false = 31 from rfl, bt_div _ _ (by omega)]
    simp only [tp, sn, Bool.false_eq_true, if_false, wrap32, un]
    congr 1; rw [eq_iff_iff]; omega
  · rw [show tb true = 63 from rfl, bt_div _ _ (by omega)]
    simp only [tp, sn, if_true, un]
    congr 1; rw [eq_iff_iff]; omega
theorem bits_i64 (o : BinOp) (h : o = .and ∨ o = .or ∨ o = .xor) (a b : Int) : I64 (bits o .i64 a b) := by
  rcases h with rfl | rfl | rfl
  · show I64 (IntKind.i64.wrap _); rw [i64_wrap]; exact wrap_i64 _
  · show I64 (IntKind.i64.wrap _); rw [i64_wrap]; exact wrap_i64 _
  · show I64 (IntKind.i64.wrap _); rw [i64_wrap]; exact wrap_i64 _
end Go.Proofs.Ytielpebokbolbaa.Fg

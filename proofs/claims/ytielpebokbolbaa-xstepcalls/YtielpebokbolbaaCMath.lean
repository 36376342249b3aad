/-
  The machine's instructions as bytes, as plain functions: which one is right (rt), its bytes (enc), what bytes are read as by the program (rd) and by the document (gu); what is written is read. No program.
-/
import Derived.RowKit
namespace Go.Proofs.Ytielpebokbolbaa.Xc
open Go.RowKit
set_option linter.unusedSimpArgs false
set_option linter.unusedVariables false

/-- The number that bytes are. -/
def le : List UInt8 → Nat
  | [] => 0
  | b :: l => b.toNat + 256 * le l
theorem le_append (a b : List UInt8) : le (a ++ b) = le a + 256 ^ a.length * le b := by
  induction a with
  | nil => simp [le]
  | cons x a ih =>
    simp only [List.cons_append, le, ih, List.length_cons, Nat.pow_succ]
    rw [Nat.mul_add, Nat.add_assoc]; congr 2
    rw [Nat.mul_comm _ 256, Nat.mul_assoc]
theorem le_lt (l : List UInt8) : le l < 256 ^ l.length := by
  induction l with
  | nil => simp [le]
  | cons x l ih =>
    have := x.toNat_lt
    simp only [le, List.length_cons, Nat.pow_succ]
    omega
theorem le_take_succ (l : List UInt8) (k : Nat) (h : k < l.length) : le (l.take (k + 1)) = le (l.take k) + 256 ^ k * l[k].toNat := by
  rw [List.take_succ_eq_append_getElem h, le_append]
  simp [le, Nat.min_eq_left (Nat.le_of_lt h)]
/-- The low n bytes of a number. -/
def by8 (v : Int) : UInt8 := UInt8.ofNat (v % 256).toNat
def bys : Nat → Int → List UInt8
  | 0, _ => []
  | n + 1, v => by8 v :: bys n (v / 256)
theorem bys_len (n : Nat) : ∀ v, (bys n v).length = n := by
  induction n with
  | zero => intro v; rfl
  | succ n ih => intro v; simp [bys, ih]
theorem by8_val (v : Int) : ((by8 v).toNat : Int) = v % 256 := by
  unfold by8
  have h : (v % 256).toNat < 256 := by omega
  rw [UInt8.toNat_ofNat']
  simp only [Nat.reducePow]
  omega
theorem le_bys (n : Nat) : ∀ v : Int, (le (bys n v) : Int) = v % 256 ^ n := by
  induction n with
  | zero => intro v; simp [bys, le]
  | succ n ih =>
    intro v
    simp only [bys, le, Int.natCast_add, Int.natCast_mul, ih, by8_val]
    have e : (256 : Int) ^ (n + 1) = 256 * 256 ^ n := by rw [Int.pow_succ, Int.mul_comm]
    rw [e]
    generalize (256 : Int) ^ n = M
    rw [Int.emod_def v (256 * M), ← Int.ediv_ediv_of_nonneg (by decide), Int.emod_def (v / 256) M, Int.emod_def v 256, Int.mul_assoc]
    generalize M * (v / 256 / M) = X
    omega
theorem bys_snoc (n : Nat) : ∀ v : Int, bys (n + 1) v = bys n v ++ [by8 (v / 256 ^ n)] := by
  induction n with
  | zero => intro v; simp [bys]
  | succ n ih =>
    intro v
    rw [bys, ih, bys, List.cons_append, Int.pow_succ, Int.mul_comm, ← Int.ediv_ediv_of_nonneg (by decide)]

/-- An instruction of the machine. -/
structure Xi where
  op : Int
  wide : Bool
  r : Int
  b : Int
  i : Int
  c : Int
  n : Int
def I64 (x : Int) : Prop := -9223372036854775808 ≤ x ∧ x ≤ 9223372036854775807
def Xi.ok (x : Xi) : Prop := I64 x.op ∧ I64 x.r ∧ I64 x.b ∧ I64 x.i ∧ I64 x.c ∧ I64 x.n
def rg (r : Int) : Bool := decide (0 ≤ r) && decide (r ≤ 15)
def ix (i : Int) : Bool := decide (0 ≤ i) && (decide (i ≤ 16) && i != 5)
def s32 (n : Int) : Bool := decide (-2147483648 ≤ n) && decide (n ≤ 2147483647)
def smK (c : Int) : Bool := c == 0 || c == 1 || c == 4 || c == 5 || c == 6 || c == 7
def shK (c : Int) : Bool := c == 0 || c == 1 || c == 4 || c == 5 || c == 7
def cnK (c : Int) : Bool := c == 2 || c == 3 || c == 4 || c == 5 || c == 6 || c == 7 || c == 12 || c == 13 || c == 14 || c == 15
/-- the instructions of one form: two registers; one register; any width; a number of 32 bits -/
def fRR (op : Int) : Bool := op == 1 || op == 3 || op == 5 || op == 6 || op == 15 || op == 16
def fB (op : Int) : Bool := op == 4 || op == 7 || op == 8 || op == 9
def fP (op : Int) : Bool := op == 11 || op == 12
def fW (op : Int) : Bool := fRR op && op != 16 || fB op || fP op || op == 10
def h32 (op : Int) : Bool := op == 4 || fP op || op == 17 || op == 18 || op == 19
def rwd (op : Int) (wide : Bool) : Bool := if fW op then true else if op == 2 || op == 16 then wide else !wide
def rpl (op r b i : Int) : Bool :=
  if fP op then ix i && (rg r && rg b) else if fRR op then rg r && (rg b && i == 0) else if fB op then rg b && (r == 0 && i == 0)
  else if op == 2 then rg r && (b == 0 && i == 0) else r == 0 && (b == 0 && i == 0)
def rkd (op c : Int) : Bool := if op == 3 || op == 4 then smK c else if op == 7 then shK c else if op == 13 || op == 15 || op == 18 then cnK c else c == 0
def rnm (op n : Int) : Bool := if h32 op then s32 n else n == 0 || op == 2
/-- Whether it is one. -/
def rt (x : Xi) : Bool := decide (1 ≤ x.op) && (decide (x.op ≤ 23) && (rwd x.op x.wide && (rpl x.op x.r x.b x.i && (rkd x.op x.c && rnm x.op x.n))))

def up (k v : Int) : Int := if 7 < v then k else 0
def rxb (w : Bool) (m i l : Int) : Int := 64 + (if w then 8 else 0) + up 4 m + up 2 i + up 1 l
def pre (v : Int) : List UInt8 := if v = 64 then [] else [by8 v]
def mri (mod m l : Int) : Int := 64 * mod + 8 * (m % 8) + l % 8
def two (v : Int) : List UInt8 := if 255 < v then [by8 (v / 256), by8 v] else [by8 v]
def mid (x : Xi) : Int := if x.op = 9 then 7 else if x.op = 8 then 6 else if x.op = 4 ∨ x.op = 7 then x.c else x.r
def inx (i : Int) : Int := if i = 0 then 4 else i - 1
/-- The code of an instruction. -/
def cod (x : Xi) : Int :=
  if x.op = 1 ∨ x.op = 12 then 137 else if x.op = 2 then 184 + x.r % 8 else if x.op = 3 then 1 + 8 * x.c else if x.op = 4 then 129 else if x.op = 5 then 133
  else if x.op = 6 then 4015 else if x.op = 7 then 211 else if x.op = 8 ∨ x.op = 9 then 247 else if x.op = 10 then 153 else if x.op = 11 then 139
  else if x.op = 13 then 3984 + x.c else if x.op = 14 then 4022 else if x.op = 15 then 3904 + x.c else if x.op = 16 then 99 else if x.op = 17 then 233
  else if x.op = 18 then 3968 + x.c else if x.op = 19 then 232 else if x.op = 20 then 195 else if x.op = 21 then 244 else if x.op = 22 then 3851 else 204
/-- The bytes between the code and the number, and what REX is. -/
def fR2 (op : Int) : Bool := fRR op || fB op || op == 13 || op == 14
def rx (x : Xi) : Int := if x.op = 2 then rxb x.wide 0 0 x.r else if fR2 x.op then rxb x.wide (mid x) 0 x.b else if fP x.op then rxb x.wide x.r (inx x.i) x.b else rxb x.wide 0 0 0
def mrs (x : Xi) : List UInt8 := if fR2 x.op then [by8 (mri 3 (mid x) x.b)] else if fP x.op then [by8 (mri 2 x.r 4), by8 (mri 0 (inx x.i) x.b)] else []
def nmb (x : Xi) : List UInt8 := if x.op = 2 then bys 8 x.n else if h32 x.op then bys 4 x.n else []
/-- Its bytes. -/
def enc (x : Xi) : List UInt8 := pre (rx x) ++ (two (cod x) ++ (mrs x ++ nmb x))

/-- What stands at a place; 0 behind the end. -/
def ga (l : List UInt8) (k : Nat) : Int := ((l.getD k 0).toNat : Int)
def fndP (f : Int) : Int :=
  if f = 133 then 5 else if f = 4015 then 6 else if f = 153 then 10 else if f = 139 then 11 else if f = 4022 then 14 else if f = 99 then 16 else if f = 233 then 17
  else if f = 232 then 19 else if f = 195 then 20 else if f = 244 then 21 else if f = 3851 then 22 else if f = 204 then 23 else 0
def fnd (f mod m : Int) : Int × Int :=
  if f = 137 then (if mod = 2 then (12, 0) else (1, 0)) else if f = 247 then (if m = 6 then (8, 0) else (9, 0)) else if f = 129 then (4, m) else if f = 211 then (7, m)
  else if f / 8 = 23 then (2, 0) else if f / 64 = 0 ∧ f % 8 = 1 then (3, f / 8) else if f / 16 = 244 then (15, f % 16) else if f / 16 = 248 then (18, f % 16) else if f / 16 = 249 then (13, f % 16)
  else (fndP f, 0)
/-- 8, if REX says so: k is 4, 2 or 1 -/
def upr (p k : Int) : Int := if p / k % 2 = 1 then 8 else 0
def inf (i : Int) : Int := if i = 4 then 0 else i + 1
def jn (l : List UInt8) : Int := wrap64 (le l : Nat)
/-- The sixteen bytes that are looked at: 0 behind the end. -/
def pad (l : List UInt8) : List UInt8 := (l ++ List.replicate 16 0).take 16
def rdC (p f : Int) (t : List UInt8) : Xi :=
  let m := ga t 0
  let oc := fnd f (m / 64) (m / 8 % 8)
  let wide := decide (p / 8 % 2 = 1)
  if oc.1 = 2 then ⟨2, wide, upr p 1 + f % 8, 0, 0, oc.2, jn (t.take 8)⟩
  else if fP oc.1 then ⟨oc.1, wide, upr p 4 + m / 8 % 8, upr p 1 + ga t 1 % 8, inf (upr p 2 + ga t 1 / 8 % 8), oc.2, wrap32 (jn ((t.drop 2).take 4))⟩
  else if fR2 oc.1 then ⟨oc.1, wide, if fB oc.1 then 0 else upr p 4 + m / 8 % 8, upr p 1 + m % 8, 0, oc.2, if h32 oc.1 then wrap32 (jn ((t.drop 1).take 4)) else 0⟩
  else ⟨oc.1, wide, 0, 0, 0, oc.2, if h32 oc.1 then wrap32 (jn (t.take 4)) else 0⟩
def rdT (p : Int) (t : List UInt8) : Xi := if ga t 0 = 15 then rdC p (3840 + ga t 1) (t.drop 2) else rdC p (ga t 0) (t.drop 1)
/-- What the program reads (of the padded bytes). -/
def rd (b : List UInt8) : Xi := if ga b 0 / 16 = 4 then rdT (ga b 0) (b.drop 1) else rdT 64 b

theorem by8_id {v : Int} (h0 : 0 ≤ v) (h1 : v ≤ 255) : ((by8 v).toNat : Int) = v := by rw [by8_val]; omega
theorem ga_0 (b : UInt8) (l : List UInt8) : ga (b :: l) 0 = (b.toNat : Int) := rfl
theorem ga_s (b : UInt8) (l : List UInt8) (k : Nat) : ga (b :: l) (k + 1) = ga l k := by simp [ga]
theorem ga_1 (b c : UInt8) (l : List UInt8) : ga (b :: c :: l) 1 = (c.toNat : Int) := rfl
theorem up_cases (k v : Int) : up k v = k ∨ up k v = 0 := by unfold up; split <;> simp
theorem rxb_bd (w : Bool) (m i l : Int) : 64 ≤ rxb w m i l ∧ rxb w m i l ≤ 79 := by
  unfold rxb
  rcases up_cases 4 m with h | h <;> rcases up_cases 2 i with h' | h' <;> rcases up_cases 1 l with h'' | h'' <;> cases w <;> simp [h, h', h'']
theorem rxb_w (w : Bool) (m i l : Int) : decide (rxb w m i l / 8 % 2 = 1) = w := by
  unfold rxb
  rcases up_cases 4 m with h | h <;> rcases up_cases 2 i with h' | h' <;> rcases up_cases 1 l with h'' | h'' <;> cases w <;> simp [h, h', h'']
theorem rxb_4 (w : Bool) (m i l : Int) : upr (rxb w m i l) 4 = up 8 m := by
  unfold rxb upr up
  cases w <;> by_cases h : 7 < m <;> by_cases h' : 7 < i <;> by_cases h'' : 7 < l <;> simp [h, h', h'']
theorem rxb_2 (w : Bool) (m i l : Int) : upr (rxb w m i l) 2 = up 8 i := by
  unfold rxb upr up
  cases w <;> by_cases h : 7 < m <;> by_cases h' : 7 < i <;> by_cases h'' : 7 < l <;> simp [h, h', h'']
theorem rxb_1 (w : Bool) (m i l : Int) : upr (rxb w m i l) 1 = up 8 l := by
  unfold rxb upr up
  cases w <;> by_cases h : 7 < m <;> by_cases h' : 7 < i <;> by_cases h'' : 7 < l <;> simp [h, h', h'']
theorem up_add {v : Int} (h0 : 0 ≤ v) (h1 : v ≤ 15) : up 8 v + v % 8 = v := by unfold up; split <;> omega
theorem mri_bd {mod m l : Int} (h0 : 0 ≤ mod) (h1 : mod ≤ 3) : 0 ≤ mri mod m l ∧ mri mod m l ≤ 255 := by unfold mri; omega
theorem mri_a {mod m l : Int} : mri mod m l / 64 = mod := by unfold mri; omega
theorem mri_b {mod m l : Int} : mri mod m l / 8 % 8 = m % 8 := by unfold mri; omega
theorem mri_c {mod m l : Int} : mri mod m l % 8 = l % 8 := by unfold mri; omega
theorem rd_pre (w : Bool) (m i l : Int) (t : List UInt8) (h : ga t 0 / 16 ≠ 4) : rd (pre (rxb w m i l) ++ t) = rdT (rxb w m i l) t := by
  have hb := rxb_bd w m i l
  generalize rxb w m i l = p at *
  unfold pre
  split
  · subst p; simp [rd, h]
  · have e : ga ([by8 p] ++ t) 0 = p := by simp only [List.cons_append, ga_0]; exact by8_id (by omega) (by omega)
    simp only [rd, e]
    rw [if_pos (by omega)]; simp
def CodOk (c : Int) : Prop := (0 ≤ c ∧ c ≤ 255 ∧ c ≠ 15 ∧ c / 16 ≠ 4) ∨ (3840 ≤ c ∧ c ≤ 4095)
theorem rdT_two (p c : Int) (t : List UInt8) (h : CodOk c) : rdT p (two c ++ t) = rdC p c t ∧ ga (two c ++ t) 0 / 16 ≠ 4 := by
  rcases h with ⟨h0, h1, h2, h3⟩ | ⟨h0, h1⟩
  · have e : two c = [by8 c] := by unfold two; rw [if_neg (by omega)]
    rw [e, rdT]
    simp only [List.cons_append, List.nil_append, ga_0, by8_id h0 h1]
    exact ⟨by rw [if_neg h2]; simp, h3⟩
  · have e : two c = [by8 (c / 256), by8 c] := by unfold two; rw [if_pos (by omega)]
    have e1 : c / 256 = 15 := by omega
    have e2 : ((by8 c).toNat : Int) = c - 3840 := by rw [by8_val]; omega
    rw [e, e1, rdT]
    simp only [List.cons_append, List.nil_append, ga_0, ga_1, by8_id (show (0 : Int) ≤ 15 by decide) (show (15 : Int) ≤ 255 by decide), e2, List.drop_succ_cons, List.drop_zero]
    exact ⟨by rw [if_pos trivial, show 3840 + (c - 3840) = c by omega], by decide⟩
theorem jn8 {n : Int} (h : I64 n) (s : List UInt8) : jn ((bys 8 n ++ s).take 8) = n := by
  rw [List.take_left' (bys_len 8 n)]
  unfold jn I64 at *
  rw [le_bys]
  unfold wrap64
  rw [show (256 : Int) ^ 8 = 18446744073709551616 by decide]
  omega
theorem jn4 {n : Int} (h : s32 n = true) (s : List UInt8) : wrap32 (jn ((bys 4 n ++ s).take 4)) = n := by
  rw [List.take_left' (bys_len 4 n)]
  simp only [s32, Bool.and_eq_true, decide_eq_true_eq] at h
  unfold jn
  rw [le_bys]
  unfold wrap64 wrap32
  rw [show (256 : Int) ^ 4 = 4294967296 by decide]
  omega
end Go.Proofs.Ytielpebokbolbaa.Xc

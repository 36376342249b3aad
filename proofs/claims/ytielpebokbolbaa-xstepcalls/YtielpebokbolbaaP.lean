/-
  The machine as a plain value: regions, registers, flags; what is read and put, what a step does. No program.
-/
import Derived.Test.YtielpebokbolbaaCMathC
import Derived.Test.YtielpebokbolbaaFMath
namespace Go.Proofs.Ytielpebokbolbaa
open Go.RowKit
set_option linter.unusedSimpArgs false
set_option linter.unusedVariables false

abbrev I64 (x : Int) : Prop := Xc.I64 x
/-- A region. -/
structure Rg where
  at_ : Int
  by_ : List UInt8
  code : Bool
/-- Whether n bytes from an address on lie within. -/
def wn (r : Rg) (a n : Int) : Bool := decide (r.at_ ≤ a) && (decide (n ≤ (r.by_.length : Int)) && decide (a - r.at_ ≤ (r.by_.length : Int) - n))
/-- The first region, of code or of none, in which they lie. -/
def fnd (l : List Rg) (code : Bool) (a n : Int) : Option Nat := l.findIdx? (fun r => r.code == code && wn r a n)
def fnN (l : List Rg) (a n : Int) : Option Nat := if n = 4 ∨ n = 8 then fnd l false a n else none
/-- Bytes with others laid over them. -/
def spl (l : List UInt8) (k : Nat) (x : List UInt8) : List UInt8 := l.take k ++ x ++ l.drop (k + x.length)
theorem spl_len (l : List UInt8) (k : Nat) (x : List UInt8) (h : k + x.length ≤ l.length) : (spl l k x).length = l.length := by
  simp [spl]; omega
/-- What is read. -/
def rdV (r : Rg) (a n : Int) : Int := Xc.jn ((r.by_.drop (a - r.at_).toNat).take n.toNat)
def rdM (l : List Rg) (a n : Int) : Option Int := match fnN l a n with
  | some i => match l[i]? with
    | some r => some (rdV r a n)
    | none => none
  | none => none
/-- What is put. -/
def ptR (r : Rg) (a n v : Int) : Rg := ⟨r.at_, spl r.by_ (a - r.at_).toNat (Xc.bys n.toNat v), r.code⟩
def ptM (l : List Rg) (a n v : Int) : Option (List Rg) := match fnN l a n with
  | some i => match l[i]? with
    | some r => some (l.set i (ptR r a n v))
    | none => none
  | none => none
theorem fnd_some {l : List Rg} {code : Bool} {a n : Int} {i : Nat} (h : fnd l code a n = some i) : ∃ hi : i < l.length, l[i].code = code ∧ wn l[i] a n = true := by
  obtain ⟨hi, hp, _⟩ := List.findIdx?_eq_some_iff_getElem.1 h
  simp only [Bool.and_eq_true, beq_iff_eq] at hp
  exact ⟨hi, hp.1, hp.2⟩
theorem fnN_some {l : List Rg} {a n : Int} {i : Nat} (h : fnN l a n = some i) : (n = 4 ∨ n = 8) ∧ ∃ hi : i < l.length, l[i].code = false ∧ wn l[i] a n = true := by
  unfold fnN at h
  split at h
  · rename_i hn; exact ⟨hn, fnd_some h⟩
  · cases h
theorem wn_iff {r : Rg} {a n : Int} : wn r a n = true ↔ r.at_ ≤ a ∧ n ≤ (r.by_.length : Int) ∧ a - r.at_ ≤ (r.by_.length : Int) - n := by simp [wn]
/-- A machine. -/
structure Mc where
  r : List Int
  z : Bool
  s : Bool
  c : Bool
  o : Bool
  at_ : Int
  g : List Rg
  st : Int
def Rg.ok (r : Rg) : Prop := I64 r.at_ ∧ r.by_.length ≤ 140737488351232
def Mc.ok (m : Mc) : Prop := m.r.length = 16 ∧ (∀ v ∈ m.r, I64 v) ∧ I64 m.at_ ∧ ∀ r ∈ m.g, Rg.ok r
end Go.Proofs.Ytielpebokbolbaa

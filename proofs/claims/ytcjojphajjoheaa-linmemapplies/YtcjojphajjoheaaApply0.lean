/-
  What Apply answers, plainly; two strings by value in memory. No walk.
-/
import Derived.Test.YtcjojphajjoheaaRefS
import Derived.Test.YtcjojphajjoheaaDataW
namespace Go.Proofs.Ytcjojphajjoheaa
open Go.RowKit

abbrev Two := List UInt8 × List UInt8
/-- One write. -/
def ap1 (s : Two) (d : Da) : Option Two :=
  if d.mem = 0 then (if wit s.1.length d.pos d.bytes.length = true then some (splice s.1 d.pos.toNat d.bytes, s.2) else none)
  else if d.mem = 1 then (if wit s.2.length d.pos d.bytes.length = true then some (s.1, splice s.2 d.pos.toNat d.bytes) else none) else none
def apL : Two → List Da → Option Two
  | s, [] => some s
  | s, d :: l => match ap1 s d with
    | some s' => apL s' l
    | none => none
theorem apL_append (a b : List Da) : ∀ s, apL s (a ++ b) = match apL s a with | some s' => apL s' b | none => none := by
  induction a with
  | nil => intro s; rfl
  | cons d a ih =>
    intro s
    simp only [List.cons_append, apL]
    cases ap1 s d with
    | none => rfl
    | some s' => exact ih s'
theorem apL_succ (s s' : Two) (l : List Da) (j : Nat) (h : j < l.length) (hs : apL s (l.take j) = some s') : apL s (l.take (j + 1)) = ap1 s' l[j] := by
  rw [List.take_succ_eq_append_getElem h, apL_append, hs]
  simp only [apL]
  cases ap1 s' l[j] <;> rfl
theorem apL_none (s : Two) (l : List Da) (j : Nat) (h : apL s (l.take j) = none) : apL s l = none := by
  rw [← List.take_append_drop j l, apL_append, h]
def apA (s : Two) (l : List Da) : Two × Bool := match apL s l with | some s' => (s', true) | none => (([], []), false)
theorem wit_fit {n : Nat} {p : Int} {k : Nat} (h : wit n p k = true) : ∃ q : Nat, p = q ∧ q + k ≤ n := by
  simp only [wit, Bool.and_eq_true, decide_eq_true_eq] at h
  exact ⟨p.toNat, by omega, by omega⟩
theorem ap1_len {s s' : Two} {d : Da} (h : ap1 s d = some s') : s'.1.length = s.1.length ∧ s'.2.length = s.2.length := by
  unfold ap1 at h
  split at h
  · split at h
    · rename_i hw
      obtain ⟨q, e, hq⟩ := wit_fit hw
      cases h
      exact ⟨length_splice _ _ _ (by rw [e]; exact hq), rfl⟩
    · cases h
  · split at h
    · split at h
      · rename_i hw
        obtain ⟨q, e, hq⟩ := wit_fit hw
        cases h
        exact ⟨rfl, length_splice _ _ _ (by rw [e]; exact hq)⟩
      · cases h
    · cases h
theorem apL_len (l : List Da) : ∀ {s s' : Two}, apL s l = some s' → s'.1.length = s.1.length ∧ s'.2.length = s.2.length := by
  induction l with
  | nil => intro s s' h; cases h; exact ⟨rfl, rfl⟩
  | cons d l ih =>
    intro s s' h
    simp only [apL] at h
    cases hd : ap1 s d with
    | none => rw [hd] at h; cases h
    | some s1 =>
      rw [hd] at h
      have h1 := ap1_len hd
      have h2 := ih h
      exact ⟨h2.1.trans h1.1, h2.2.trans h1.2⟩
/-- Two strings by value. -/
abbrev two (x y : ByteArray) : Value := .agg #[.string x, .string y]
theorem Try.und38 : Try.prog.underlying 38 = some (.array 2 9) := by kernel_rfl
theorem results_two {fn : Func} {p t : Tmp} (h : fn.results = #[.cell p 38, .tmp t]) (tmps : Array Value) (w : World) (g : Nat) (x y : ByteArray) (hp : tmps.getD p undef = .pointer (some ⟨g, 0, none⟩)) (hb : Row w g #[.string x, .string y] 38) :
    (results fn tmps).run Try.prog w = .ok (.tuple #[two x y, tmps.getD t undef]) w := by
  have hl := run_loadVar_row (P := Try.prog) w g 38 38 _ _ _ hb Try.und38 rfl (by kernel_rfl)
  have hp' : tmps[p]?.getD undef = .pointer (some ⟨g, 0, none⟩) := by simpa using hp
  simp [results, h, hp', asAddr, hl]
theorem set_block {w w' : World} {g off : Nat} {cs : List Value} (e : w' = w.setCells g off cs) {i : Nat} (hi : i < w.heap.size) (hne : i ≠ g) : w'.heap[i]? = w.heap[i]? := by
  rw [e]; exact World.heap_setCells_other w g off cs hi hne
end Go.Proofs.Ytcjojphajjoheaa

/-
  The program's kind and fault, and the statements' told, of an error that is none or a Fault that wraps its code; memory that was there stays as it was.
-/
import Derived.Test.YtcbfpikggphokaaGreatDoorErrs
import Derived.Test.YtcbfpikggphokaaGreatDoorBytes
import Derived.BigQuiet
import Derived.Deep.QuietTactic
namespace Go.Proofs.YtcbfpikggphokaaGreatDoor
open Go.RowKit Go.Extern.Stop Go.Stop Go.Extern

/-- What the target of errors.As is behind it. -/
theorem as_fault (p : Nat) (t : Nat) (w : World) (hL : Laid w) (ht : w.heap[t]? = some (.cells #[.pointer none] 74 (0, 0))) :
    Calls Tryz.prog 29 #[flt p, .iface 76 (.pointer (some ⟨t, 0, none⟩))] w fun e w' => e = .returned (.bool true) ∧ w'.heap[t]? = some (.cells #[.pointer (some ⟨p, 0, none⟩)] 74 (0, 0)) ∧ Below t w w' := by
  have htl : t < w.heap.size := by
    rcases Nat.lt_or_ge t w.heap.size with h | h
    · exact h
    · simp [Array.getElem?_eq_none h] at ht
  have hc : w.cell? ⟨t, 0, none⟩ = some (.pointer none) := by simp [World.cell?, ht]
  have hz : w.frozen? ⟨t, 0, none⟩ = false := by simp [World.frozen?, ht]
  refine (as_hit ⟨p, 0, none⟩ ⟨t, 0, none⟩ (.pointer none) w hL hc hz).mono ?_
  rintro e w' ⟨rfl, rfl⟩
  have hb : Below t w ((((w.alloc (.cells #[.pointer (some ⟨t, 0, none⟩)] 76)).alloc (.cells #[.pointer (some ⟨1, 76, none⟩), .pointer (some ⟨w.heap.size, 0, none⟩), .int .u64 150] 105)).alloc (.cells #[.pointer (some ⟨1, 76, none⟩), .pointer (some ⟨w.heap.size, 0, none⟩), .int .u64 150] 105)).alloc (.cells #[.pointer (some ⟨p, 0, none⟩)] 74)) :=
    ((((Below.refl t w).alloc (by omega) _).alloc (by simp; omega) _).alloc (by simp; omega) _).alloc (by simp; omega) _
  refine ⟨rfl, ?_, hb.setCell (Nat.le_refl _) _⟩
  have hb2 := ((((Below.refl w.heap.size w).alloc (Nat.le_refl _) (.cells #[.pointer (some ⟨t, 0, none⟩)] 76)).alloc (by simp) (.cells #[.pointer (some ⟨1, 76, none⟩), .pointer (some ⟨w.heap.size, 0, none⟩), .int .u64 150] 105)).alloc (by simp; omega) (.cells #[.pointer (some ⟨1, 76, none⟩), .pointer (some ⟨w.heap.size, 0, none⟩), .int .u64 150] 105)).alloc (by simp; omega) (.cells #[.pointer (some ⟨p, 0, none⟩)] 74)
  have hk := (hb2.block t htl).trans ht
  rw [World.setCell]
  simp [Array.getElem?_modify, hk]
theorem fault_any (c a : Int) (w : World) :
    Calls Tryz.prog 21 #[.int .i64 c, .int .i64 a] w fun e w' => e = .returned (flt w.heap.size) ∧ FaultAt w' w.heap.size c a ∧ Below w.heap.size w w' := by
  unfold flt
  go_enter Tryz.func21, Tryz.ntmps21
  go_wp2
  go_ret
  exact ⟨rfl, FaultAt.made w c a, bel_one w _⟩
theorem kind_nil (w : World) : Calls Tryz.prog 31 #[.nilIface] w fun e w' => e = .returned (.int .i64 0) ∧ Below w.heap.size w w' := by
  go_enter Tryz.func31, Tryz.ntmps31
  go_wp2_with fail
  refine (as_nil _ _).mono ?_
  rintro e w1 ⟨rfl, rfl⟩
  go_wp2_with fail
  go_ret
  exact ⟨rfl, bel_one w _⟩
theorem cell_of {w : World} {t : Nat} {v : Value} {ty : TypeId} (h : w.heap[t]? = some (.cells #[v] ty (0, 0))) : w.cell? ⟨t, 0, none⟩ = some v := by simp [World.cell?, h]
theorem kind_fault (p : Nat) (c a : Int) (w : World) (hL : Laid w) (hf : FaultAt w p c a) :
    Calls Tryz.prog 31 #[flt p] w fun e w' => e = .returned (.int .i64 c) ∧ Below w.heap.size w w' := by
  have AS := hide (as_fault p w.heap.size (w.alloc (.cells #[.pointer none] 74)) (hL.kept (bel_one w _)) (heap_alloc_new w _))
  have HF := hide hf
  clear hf
  unfold flt at *
  go_enter Tryz.func31, Tryz.ntmps31
  go_wp2_with fail
  refine AS.out.mono ?_
  rintro e w1 ⟨rfl, h1, b1⟩
  have b2 := (bel_one w _).trans b1
  have c0 := cell_of h1
  have d0 := (HF.out.kept b2).c0
  clear h1 b1 AS
  go_wp2_with fail
  go_ret
  exact ⟨rfl, b2⟩
theorem told_nil (w : World) : Calls Tryz.prog 12 #[.nilIface] w fun e w' => e = .returned (.tuple #[.int .i64 0, .int .i64 0]) ∧ w' = w := by
  go_enter Tryz.func12, Tryz.ntmps12
  go_wp2_with fail
  go_ret2
  exact ⟨rfl, rfl⟩
set_option maxHeartbeats 1600000 in
theorem told_fault (p : Nat) (c a : Int) (w : World) (hL : Laid w) (hf : FaultAt w p c a) (hc : c ≠ 0) :
    Calls Tryz.prog 12 #[flt p] w fun e w' => e = .returned (.tuple #[.int .i64 c, .int .i64 a]) ∧ Below w.heap.size w w' := by
  have AS := hide (as_fault p w.heap.size (w.alloc (.cells #[.pointer none] 74)) (hL.kept (bel_one w _)) (heap_alloc_new w _))
  have HF := hide hf
  have hc' : (c == 0) = false := by simpa using hc
  have hcc : (c == c) = true := by simp
  clear hf hc
  unfold flt at *
  go_enter Tryz.func12, Tryz.ntmps12
  go_wp2_with fail
  refine AS.out.mono ?_
  rintro e w1 ⟨rfl, h1, b1⟩
  have b2 := (bel_one w _).trans b1
  have c0 := cell_of h1
  have d0 := (HF.out.kept b2).c0
  have d1 := (HF.out.kept b2).c1
  have IS := hide (is_fault p c a c w1 (HF.out.kept b2))
  rw [hcc] at IS
  clear h1 b1 AS
  unfold flt at IS
  go_wp2_with fail
  refine IS.out.mono ?_
  rintro e w2 ⟨rfl, rfl⟩
  go_wp2_with fail
  go_region
  go_wp2_with fail
  go_ret2
  exact ⟨rfl, b2.drew⟩
end Go.Proofs.YtcbfpikggphokaaGreatDoor

/-
  The statements' own functions: two lists of spans that are the same, two lists of numbers, instructions of some first bytes; the chapter's examples.
-/
import Derived.Test.YtglagdbkcigojaaTarget
import Derived.Deep.QuietTactic
import Derived.BigQuiet
namespace Go.Proofs.Ytglagdbkcigojaa
open Go.RowKit

theorem own_drew {w : World} {b : Nat} {e : TypeId} {z n : Nat} {v : Value} {xs : List Value} (h : w.ownsRow b e z v n xs) (q : Nat) : (w.drewN q).ownsRow b e z v n xs := ⟨h.1, h.2⟩
theorem bel_drew {B : Nat} {w w' : World} (h : Below B w w') (q : Nat) : Below B w (w'.drewN q) := ⟨h.os, h.tape, h.output, h.size, h.block⟩
theorem ops_drew {B n : Nat} {w : World} {a : Option Addr} {f : Nat → Int} (h : Ops B w a n f) (q : Nat) : Ops B (w.drewN q) a n f := h

set_option maxRecDepth 100000 in
set_option maxHeartbeats 4000000 in
theorem same_spans (va vb : Value) (B1 B2 : Nat) (l : List Sp) (w : World) (h1 : w.ownsRow B1 45 3 va l.length (flat l)) (h2 : w.ownsRow B2 51 3 vb l.length (flat l)) (hl : l.length ≤ 1000) :
    Calls Try.prog 12 #[va, vb] w fun e w' => e = .returned (.bool true) ∧ ∃ q, w' = w.drewN q := by
  obtain ⟨a1, c1, rfl⟩ := own_slice h1
  obtain ⟨a2, c2, rfl⟩ := own_slice h2
  have H1 := hide h1
  have H2 := hide h2
  clear h1 h2
  go_enter Try.func12, Try.ntmps12
  go_wp2_with fail
  go_loopw [5] (fun i wr => ∃ (k : Nat), k ≤ l.length ∧ i = .int .i64 k ∧ Hid (∃ q, wr = w.drewN q)) (fun i _ => l.length - (intOf i).toNat)
  case atStart => exact ⟨0, by omega, rfl, hide ⟨0, rfl⟩⟩
  case round =>
    obtain ⟨k, hk, rfl, hw⟩ := hrel
    by_cases hlt : k < l.length
    · obtain ⟨q, hq⟩ := hw.out
      have R1 : wr.ownsRow B1 45 3 (.slice a1 l.length c1) l.length (flat l) := by rw [hq]; exact own_drew H1.out q
      have R2 : wr.ownsRow B2 51 3 (.slice a2 l.length c2) l.length (flat l) := by rw [hq]; exact own_drew H2.out q
      obtain ⟨g1, rfl, _, _, _⟩ := own_some R1 (by omega)
      obtain ⟨g2, rfl, _, _, _⟩ := own_some R2 (by omega)
      have F := flat_at l k hlt
      have p1 := (R1.cellAt (k * 3) (by omega)).trans F.1
      have p2 := (R1.cellAt (k * 3 + 1) (by omega)).trans F.2.1
      have p3 := (R1.cellAt (k * 3 + 2) (by omega)).trans F.2.2
      have q1 := (R2.cellAt (k * 3) (by omega)).trans F.1
      have q2 := (R2.cellAt (k * 3 + 1) (by omega)).trans F.2.1
      have q3 := (R2.cellAt (k * 3 + 2) (by omega)).trans F.2.2
      have HQ := hide hq
      generalize (spAt l k).b = xb at p1 q1
      generalize (spAt l k).e = xe at p2 q2
      generalize (spAt l k).d = xd at p3 q3
      have hi : (k : Int) < (l.length : Int) := by omega
      have nb : (xb != xb) = false := by simp
      have ne : (xe != xe) = false := by simp
      have nd : (xd != xd) = false := by simp
      clear F R1 R2 hq hw H1 H2
      go_wp2_with fail
      go_quiet (fail)
      go_wp2_with fail
      go_roundw
      case rel => exact ⟨k + 1, by omega, by go_num, hide ⟨_, by rw [HQ.out]; exact (World.drewN_drewN _ _ _)⟩⟩
      case measure => simp [intOf]; omega
    · obtain rfl : k = l.length := by omega
      go_wp2_with fail
      go_ret
      exact ⟨rfl, hw.out⟩
end Go.Proofs.Ytglagdbkcigojaa

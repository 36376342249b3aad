/-
  The program's join and split: eight bytes as a number, a number as eight bytes.
-/
import Derived.Test.YtielpebokbolbaaFnd
import Derived.Test.YtielpebokbolbaaCCopy
namespace Go.Proofs.Ytielpebokbolbaa
open Go.RowKit
open Xc (hide bel_one bel_tr bel_al bel_set le by8 bys jn)
set_option linter.unusedSimpArgs false
set_option linter.unusedVariables false
/-- Bytes as values. -/
def bv (l : List UInt8) : Array Value := (l.map fun b => Value.int .u8 (b.toNat : Int)).toArray
theorem eight {l : List UInt8} (h : l.length = 8) : ∃ b0 b1 b2 b3 b4 b5 b6 b7, l = [b0, b1, b2, b3, b4, b5, b6, b7] := by
  match l, h with
  | [b0, b1, b2, b3, b4, b5, b6, b7], _ => exact ⟨b0, b1, b2, b3, b4, b5, b6, b7, rfl⟩
theorem w64_u8 (b : UInt8) : wrap64 (b.toNat : Int) = (b.toNat : Int) := by have := b.toNat_lt; unfold wrap64; omega
theorem jstep (l : List UInt8) (k : Nat) (h8 : l.length = 8) (hk : k < 8) (b : UInt8) (hb : l[k]? = some b) :
    bits .or .i64 (jn (l.take k)) (wrap64 ((b.toNat : Int) * 2 ^ (8 * k))) = jn (l.take (k + 1)) := by
  have hlt : k < l.length := by omega
  have := Xc.jn_step l k (by omega) hlt
  have hb' : l[k] = b := by simpa [List.getElem?_eq_getElem hlt] using hb
  rw [hb'] at this
  exact this
set_option maxHeartbeats 1600000 in
theorem join_any (l : List UInt8) (w : World) (h8 : l.length = 8) :
    Calls Try.prog 21 #[.agg (bv l)] w fun e w' => e = .returned (.int .i64 (jn l)) ∧ Below w.heap.size w w' := by
  have stp := fun k hk b => jstep l k h8 hk b
  have hfin : jn l = jn (l.take 8) := by rw [List.take_of_length_le (by omega)]
  have h0 : jn (l.take 0) = 0 := by simp [jn, le, wrap64]
  obtain ⟨b0, b1, b2, b3, b4, b5, b6, b7, rfl⟩ := eight h8
  rw [hfin]
  simp only [bv, List.map_cons, List.map_nil]
  have i0 : ∀ wx, (Instr.index 61 (.agg #[.int .u8 (b0.toNat : Int), .int .u8 (b1.toNat : Int), .int .u8 (b2.toNat : Int), .int .u8 (b3.toNat : Int), .int .u8 (b4.toNat : Int), .int .u8 (b5.toNat : Int), .int .u8 (b6.toNat : Int), .int .u8 (b7.toNat : Int)]) (.int .i64 0)).run Try.prog wx = .ok (.int .u8 (b0.toNat : Int)) wx := fun _ => by kernel_rfl
  have i1 : ∀ wx, (Instr.index 61 (.agg #[.int .u8 (b0.toNat : Int), .int .u8 (b1.toNat : Int), .int .u8 (b2.toNat : Int), .int .u8 (b3.toNat : Int), .int .u8 (b4.toNat : Int), .int .u8 (b5.toNat : Int), .int .u8 (b6.toNat : Int), .int .u8 (b7.toNat : Int)]) (.int .i64 1)).run Try.prog wx = .ok (.int .u8 (b1.toNat : Int)) wx := fun _ => by kernel_rfl
  have i2 : ∀ wx, (Instr.index 61 (.agg #[.int .u8 (b0.toNat : Int), .int .u8 (b1.toNat : Int), .int .u8 (b2.toNat : Int), .int .u8 (b3.toNat : Int), .int .u8 (b4.toNat : Int), .int .u8 (b5.toNat : Int), .int .u8 (b6.toNat : Int), .int .u8 (b7.toNat : Int)]) (.int .i64 2)).run Try.prog wx = .ok (.int .u8 (b2.toNat : Int)) wx := fun _ => by kernel_rfl
  have i3 : ∀ wx, (Instr.index 61 (.agg #[.int .u8 (b0.toNat : Int), .int .u8 (b1.toNat : Int), .int .u8 (b2.toNat : Int), .int .u8 (b3.toNat : Int), .int .u8 (b4.toNat : Int), .int .u8 (b5.toNat : Int), .int .u8 (b6.toNat : Int), .int .u8 (b7.toNat : Int)]) (.int .i64 3)).run Try.prog wx = .ok (.int .u8 (b3.toNat : Int)) wx := fun _ => by kernel_rfl
  have i4 : ∀ wx, (Instr.index 61 (.agg #[.int .u8 (b0.toNat : Int), .int .u8 (b1.toNat : Int), .int .u8 (b2.toNat : Int), .int .u8 (b3.toNat : Int), .int .u8 (b4.toNat : Int), .int .u8 (b5.toNat : Int), .int .u8 (b6.toNat : Int), .int .u8 (b7.toNat : Int)]) (.int .i64 4)).run Try.prog wx = .ok (.int .u8 (b4.toNat : Int)) wx := fun _ => by kernel_rfl
  have i5 : ∀ wx, (Instr.index 61 (.agg #[.int .u8 (b0.toNat : Int), .int .u8 (b1.toNat : Int), .int .u8 (b2.toNat : Int), .int .u8 (b3.toNat : Int), .int .u8 (b4.toNat : Int), .int .u8 (b5.toNat : Int), .int .u8 (b6.toNat : Int), .int .u8 (b7.toNat : Int)]) (.int .i64 5)).run Try.prog wx = .ok (.int .u8 (b5.toNat : Int)) wx := fun _ => by kernel_rfl
  have i6 : ∀ wx, (Instr.index 61 (.agg #[.int .u8 (b0.toNat : Int), .int .u8 (b1.toNat : Int), .int .u8 (b2.toNat : Int), .int .u8 (b3.toNat : Int), .int .u8 (b4.toNat : Int), .int .u8 (b5.toNat : Int), .int .u8 (b6.toNat : Int), .int .u8 (b7.toNat : Int)]) (.int .i64 6)).run Try.prog wx = .ok (.int .u8 (b6.toNat : Int)) wx := fun _ => by kernel_rfl
  have i7 : ∀ wx, (Instr.index 61 (.agg #[.int .u8 (b0.toNat : Int), .int .u8 (b1.toNat : Int), .int .u8 (b2.toNat : Int), .int .u8 (b3.toNat : Int), .int .u8 (b4.toNat : Int), .int .u8 (b5.toNat : Int), .int .u8 (b6.toNat : Int), .int .u8 (b7.toNat : Int)]) (.int .i64 7)).run Try.prog wx = .ok (.int .u8 (b7.toNat : Int)) wx := fun _ => by kernel_rfl
  obtain ⟨pv, hpv⟩ : ∃ pv : Nat → Int, pv = fun k => jn (List.take k [b0, b1, b2, b3, b4, b5, b6, b7]) := ⟨_, rfl⟩
  have p0 : Hid (pv 0 = 0) := by show _ = _; rw [hpv]; exact h0
  have p8 : jn (List.take 8 [b0, b1, b2, b3, b4, b5, b6, b7]) = pv 8 := by rw [hpv]
  rw [p8]
  have stp' : ∀ k, k < 8 → ∀ b, [b0, b1, b2, b3, b4, b5, b6, b7][k]? = some b → bits BinOp.or IntKind.i64 (pv k) (wrap64 ((b.toNat : Int) * 2 ^ (8 * k))) = pv (k + 1) := by rw [hpv]; exact stp
  clear hpv stp h8 hfin h0 p8
  go_enter Try.func21, Try.ntmps21
  go_wp2
  generalize hW : w.alloc _ = W
  have hb := hide (show Below w.heap.size w W by rw [← hW]; exact bel_one _ _)
  clear hW
  go_loop [3, 7] (fun v i => ∃ k : Nat, k ≤ 8 ∧ i = .int .i64 k ∧ v = .int .i64 (pv k)) (fun _ i => 8 - (intOf i).toNat)
  case atStart => exact ⟨0, Nat.zero_le _, rfl, by rw [p0.out]⟩
  case round =>
    obtain ⟨k, hk, rfl, rfl⟩ := hrel
    have hk' : k = 0 ∨ k = 1 ∨ k = 2 ∨ k = 3 ∨ k = 4 ∨ k = 5 ∨ k = 6 ∨ k = 7 ∨ k = 8 := by omega
    rcases hk' with rfl | rfl | rfl | rfl | rfl | rfl | rfl | rfl | rfl
    · have h := stp' 0 (by decide) b0 rfl
      rw [show (2 : Int) ^ (8 * 0) = 1 from by decide, Int.mul_one] at h
      have H := hide h
      clear h
      go_wp2
      exact ⟨⟨1, by decide, rfl, by rw [w64_u8, H.out]⟩, by simp [intOf]⟩
    · have h := stp' 1 (by decide) b1 rfl
      rw [show (2 : Int) ^ (8 * 1) = 256 from by decide] at h
      have H := hide h
      clear h
      go_wp2
      exact ⟨⟨2, by decide, rfl, by rw [w64_u8, H.out]⟩, by simp [intOf]⟩
    · have h := stp' 2 (by decide) b2 rfl
      rw [show (2 : Int) ^ (8 * 2) = 65536 from by decide] at h
      have H := hide h
      clear h
      go_wp2
      exact ⟨⟨3, by decide, rfl, by rw [w64_u8, H.out]⟩, by simp [intOf]⟩
    · have h := stp' 3 (by decide) b3 rfl
      rw [show (2 : Int) ^ (8 * 3) = 16777216 from by decide] at h
      have H := hide h
      clear h
      go_wp2
      exact ⟨⟨4, by decide, rfl, by rw [w64_u8, H.out]⟩, by simp [intOf]⟩
    · have h := stp' 4 (by decide) b4 rfl
      rw [show (2 : Int) ^ (8 * 4) = 4294967296 from by decide] at h
      have H := hide h
      clear h
      go_wp2
      exact ⟨⟨5, by decide, rfl, by rw [w64_u8, H.out]⟩, by simp [intOf]⟩
    · have h := stp' 5 (by decide) b5 rfl
      rw [show (2 : Int) ^ (8 * 5) = 1099511627776 from by decide] at h
      have H := hide h
      clear h
      go_wp2
      exact ⟨⟨6, by decide, rfl, by rw [w64_u8, H.out]⟩, by simp [intOf]⟩
    · have h := stp' 6 (by decide) b6 rfl
      rw [show (2 : Int) ^ (8 * 6) = 281474976710656 from by decide] at h
      have H := hide h
      clear h
      go_wp2
      exact ⟨⟨7, by decide, rfl, by rw [w64_u8, H.out]⟩, by simp [intOf]⟩
    · have h := stp' 7 (by decide) b7 rfl
      rw [show (2 : Int) ^ (8 * 7) = 72057594037927936 from by decide] at h
      have H := hide h
      clear h
      go_wp2
      exact ⟨⟨8, by decide, rfl, by rw [w64_u8, H.out]⟩, by simp [intOf]⟩
    · go_wp2
      go_ret
      exact ⟨rfl, hb.out⟩
/-- The bytes that split has laid by its round k. -/
def spA (v : Int) (k : Nat) : Array Value := ((List.range 8).map fun j => if j < k then Value.int .u8 (v / 2 ^ (8 * j) % 256) else Value.int .u8 0).toArray
theorem spA_get (v : Int) (k j : Nat) (h : j < 8) : (spA v k)[j]? = some (if j < k then Value.int .u8 (v / 2 ^ (8 * j) % 256) else Value.int .u8 0) := by
  simp [spA, h]
theorem spA_set (v : Int) (k : Nat) (h : k < 8) : (spA v k).setIfInBounds k (.int .u8 (v / 2 ^ (8 * k) % 256)) = spA v (k + 1) := by
  apply Array.ext_getElem?
  intro j
  rw [Array.getElem?_setIfInBounds]
  by_cases hj : j < 8
  · rw [spA_get _ _ _ hj, spA_get _ _ _ hj]
    have hs : (spA v k).size = 8 := by simp [spA]
    by_cases e : k = j
    · subst e; simp [hs, h]
    · rw [if_neg e]; congr 1
      by_cases q : j < k
      · rw [if_pos q, if_pos (by omega)]
      · rw [if_neg q, if_neg (by omega)]
  · have hs : ∀ q, (spA v q).size = 8 := fun q => by simp [spA]
    rw [if_neg (by omega), Array.getElem?_eq_none (by rw [hs]; omega), Array.getElem?_eq_none (by rw [hs]; omega)]
theorem bys_get (n : Nat) : ∀ (v : Int) (k : Nat) (h : k < (bys n v).length), (bys n v)[k] = by8 (v / 256 ^ k) := by
  induction n with
  | zero => intro v k h; simp [bys] at h
  | succ n ih =>
    intro v k h
    cases k with
    | zero => simp [bys]
    | succ k =>
      simp only [bys, List.getElem_cons_succ]
      rw [ih]
      congr 1
      rw [Int.pow_succ, Int.mul_comm, ← Int.ediv_ediv_of_nonneg (by decide)]
theorem spA_8 (v : Int) : spA v 8 = bv (bys 8 v) := by
  apply Array.ext_getElem?
  intro j
  by_cases hj : j < 8
  · rw [spA_get _ _ _ hj, if_pos hj]
    have hl : j < (bys 8 v).length := by rw [Xc.bys_len]; exact hj
    have e256 : (256 : Int) ^ j = 2 ^ (8 * j) := by rw [Int.pow_mul]; rfl
    simp only [bv, List.getElem?_toArray, List.getElem?_map, List.getElem?_eq_getElem hl, Option.map_some, bys_get, Xc.by8_val, e256]
  · rw [Array.getElem?_eq_none (by simp [spA]; omega), Array.getElem?_eq_none (by simp [bv, Xc.bys_len]; omega)]
/-- A row of eight bytes. -/
def RowA (g : Nat) (cs : Array Value) (w : World) : Prop := w.heap[g]? = some (.cells cs 61)
theorem RowA.set {g : Nat} {cs : Array Value} {w : World} (h : RowA g cs w) (k : Nat) (v : Value) : RowA g (cs.setIfInBounds k v) (w.setCell ⟨g, k, none⟩ v) := by
  unfold RowA at *; simp [World.setCell, Array.getElem?_modify, h]
theorem RowA.cell {g : Nat} {cs : Array Value} {w : World} (h : RowA g cs w) (k : Nat) (v : Value) (hv : cs[k]? = some v) : w.cell? ⟨g, k, none⟩ = some v := by
  simp only [RowA] at h; simp [World.cell?, h, hv]
theorem RowA.fr {g : Nat} {cs : Array Value} {w : World} (h : RowA g cs w) (k : Nat) : w.frozen? ⟨g, k, none⟩ = false := by
  simp only [RowA] at h; simp [World.frozen?, h]
theorem RowA.keep {g : Nat} {cs : Array Value} {w : World} (h : RowA g cs w) (k : Nat) (v : Value) (hv : cs[k]? = some v) : RowA g cs (w.setCell ⟨g, k, none⟩ v) := by
  have := h.set k v
  rwa [show cs.setIfInBounds k v = cs from ?_] at this
  apply Array.ext_getElem?
  intro j
  rw [Array.getElem?_setIfInBounds]
  split
  · rename_i e; subst e; split
    · exact hv.symm
    · rename_i h2; rw [Array.getElem?_eq_none (by omega)] at hv; cases hv
  · rfl
theorem RowA.of {g : Nat} {cs cs' : Array Value} {w : World} (h : RowA g cs w) (e : cs = cs') : RowA g cs' w := e ▸ h
theorem results_a {fn : Func} {p : Tmp} (h : fn.results = #[.cell p 61]) (tmps : Array Value) (w : World) (g : Nat) (l : List UInt8) (h8 : l.length = 8) (hp : tmps.getD p undef = .pointer (some ⟨g, 0, none⟩)) (hb : RowA g (bv l) w) :
    (results fn tmps).run Try.prog w = .ok (.agg (bv l)) w := by
  obtain ⟨b0, b1, b2, b3, b4, b5, b6, b7, rfl⟩ := eight h8
  have hl := run_loadVar_row (P := Try.prog) w g 61 61 _ _ _ hb Try.underlying61 rfl (by kernel_rfl)
  have hp' : tmps[p]?.getD undef = .pointer (some ⟨g, 0, none⟩) := by simpa using hp
  simp [results, h, hp', asAddr, hl, bv]
set_option maxHeartbeats 1600000 in
theorem split_any (v : Int) (w : World) :
    Calls Try.prog 34 #[.int .i64 v] w fun e w' => e = .returned (.agg (bv (bys 8 v))) ∧ Below w.heap.size w w' := by
  go_enter Try.func34, Try.ntmps34
  go_wp2
  generalize hW : w.alloc _ = W
  have hb : Below w.heap.size w W := by rw [← hW]; exact bel_one _ _
  have hr : RowA w.heap.size (spA v 0) W := by rw [← hW]; exact heap_alloc_new _ _
  clear hW
  go_loopw [4] (fun iv wr => ∃ k : Nat, k ≤ 8 ∧ iv = .int .i64 (k : Int) ∧ RowA w.heap.size (spA v k) wr ∧ Below w.heap.size w wr) (fun iv _ => 8 - (intOf iv).toNat)
  case atStart => exact ⟨0, Nat.zero_le _, rfl, hr, hb⟩
  case round =>
    obtain ⟨k, hk, rfl, hrow, hbel⟩ := hrel
    clear hr hb
    by_cases hlt : k < 8
    · have c0 := hrow.cell k _ (spA_get v k k hlt)
      have f0 := hrow.fr k
      have HR := hide hrow
      have HB := hide hbel
      clear hrow hbel
      go_wp2
      go_roundw
      case rel => exact ⟨k + 1, hlt, by go_num, by rw [← spA_set v k hlt]; exact HR.out.set _ _, HB.out.setCell (p := ⟨w.heap.size, k, none⟩) (Nat.le_refl _) _⟩
      case measure => simp [intOf]; omega
    · have hk8 : k = 8 := by omega
      subst hk8
      rw [spA_8] at hrow
      have h8 : (bys 8 v).length = 8 := Xc.bys_len 8 v
      obtain ⟨b0, b1, b2, b3, b4, b5, b6, b7, e8⟩ := eight h8
      rw [e8] at hrow h8
      have h8' := h8
      have E8 := hide e8
      clear e8
      have c0 := hrow.cell 0 (.int .u8 (b0.toNat : Int)) rfl
      have c1 := hrow.cell 1 (.int .u8 (b1.toNat : Int)) rfl
      have c2 := hrow.cell 2 (.int .u8 (b2.toNat : Int)) rfl
      have c3 := hrow.cell 3 (.int .u8 (b3.toNat : Int)) rfl
      have c4 := hrow.cell 4 (.int .u8 (b4.toNat : Int)) rfl
      have c5 := hrow.cell 5 (.int .u8 (b5.toNat : Int)) rfl
      have c6 := hrow.cell 6 (.int .u8 (b6.toNat : Int)) rfl
      have c7 := hrow.cell 7 (.int .u8 (b7.toNat : Int)) rfl
      have f0 := hrow.fr 0
      have f1 := hrow.fr 1
      have f2 := hrow.fr 2
      have f3 := hrow.fr 3
      have f4 := hrow.fr 4
      have f5 := hrow.fr 5
      have f6 := hrow.fr 6
      have f7 := hrow.fr 7
      have HR := hide hrow
      have HB := hide hbel
      clear hrow hbel h8 hk hlt
      go_wp2
      refine bodyPost_ret (results_a rfl _ _ w.heap.size [b0, b1, b2, b3, b4, b5, b6, b7] h8' rfl ((((((((HR.out.keep 0 (.int .u8 (b0.toNat : Int)) rfl).keep 1 (.int .u8 (b1.toNat : Int)) rfl).keep 2 (.int .u8 (b2.toNat : Int)) rfl).keep 3 (.int .u8 (b3.toNat : Int)) rfl).keep 4 (.int .u8 (b4.toNat : Int)) rfl).keep 5 (.int .u8 (b5.toNat : Int)) rfl).keep 6 (.int .u8 (b6.toNat : Int)) rfl).keep 7 (.int .u8 (b7.toNat : Int)) rfl)) rfl ?_
      rw [E8.out]
      exact ⟨rfl, bel_set (bel_set (bel_set (bel_set (bel_set (bel_set (bel_set (bel_set HB.out (Nat.le_refl _) _ _) (Nat.le_refl _) _ _) (Nat.le_refl _) _ _) (Nat.le_refl _) _ _) (Nat.le_refl _) _ _) (Nat.le_refl _) _ _) (Nat.le_refl _) _ _) (Nat.le_refl _) _ _⟩
end Go.Proofs.Ytielpebokbolbaa

/-
  The program's join and split: eight bytes as a number, a number as eight bytes.
  A machine at work in memory: its block, its regions, the bytes that it has of its own.
-/
import Derived.Test.YtielpebokbolbaaM5
import Derived.Test.YtielpebokbolbaaM7
namespace Go.Proofs.Ytielpebokbolbaa
open Go.RowKit
open Xc (hide bel_one bel_tr bel_al bel_set le by8 bys jn)
set_option linter.unusedSimpArgs false
set_option linter.unusedVariables false
/-- Bytes as values. -/
def bv (l : List UInt8) : Array Value := (l.map fun b => Value.int .u8 (b.toNat : Int)).toArray
theorem eight {l : List UInt8} (h : l.length = 8) : ∃ b0 b1 b2 b3 b4 b5 b6 b7, l = [b0, b1, b2, b3, b4, b5, b6, b7] := by
  match l, h with
  | [b0, b1, b2, b3, b4, b5, b6, b7], _ => exact ⟨b0, b1, b2, b3, b4, b5, b6, b7, rfl⟩
theorem w64_u8 (b : UInt8) : wrap64 (b.toNat : Int) = (b.toNat : Int) := by have := b.toNat_lt; unfold wrap64; omega
theorem jstep (l : List UInt8) (k : Nat) (h8 : l.length = 8) (hk : k < 8) (b : UInt8) (hb : l[k]? = some b) :
    bits .or .i64 (jn (l.take k)) (wrap64 ((b.toNat : Int) * 2 ^ (8 * k))) = jn (l.take (k + 1)) := by
  have hlt : k < l.length := by omega
  have := Xc.jn_step l k (by omega) hlt
  have hb' : l[k] = b := by simpa [List.getElem?_eq_getElem hlt] using hb
  rw [hb'] at this
  exact this
set_option maxHeartbeats 1600000 in
theorem join_any (l : List UInt8) (w : World) (h8 : l.length = 8) :
    Calls Try.prog 21 #[.agg (bv l)] w fun e w' => e = .returned (.int .i64 (jn l)) ∧ Below w.heap.size w w' := by
  have stp := fun k hk b => jstep l k h8 hk b
  have hfin : jn l = jn (l.take 8) := by rw [List.take_of_length_le (by omega)]
  have h0 : jn (l.take 0) = 0 := by simp [jn, le, wrap64]
  obtain ⟨b0, b1, b2, b3, b4, b5, b6, b7, rfl⟩ := eight h8
  rw [hfin]
  simp only [bv, List.map_cons, List.map_nil]
  have i0 : ∀ wx, (Instr.index 61 (.agg #[.int .u8 (b0.toNat : Int), .int .u8 (b1.toNat : Int), .int .u8 (b2.toNat : Int), .int .u8 (b3.toNat : Int), .int .u8 (b4.toNat : Int), .int .u8 (b5.toNat : Int), .int .u8 (b6.toNat : Int), .int .u8 (b7.toNat : Int)]) (.int .i64 0)).run Try.prog wx = .ok (.int .u8 (b0.toNat : Int)) wx := fun _ => by kernel_rfl
  have i1 : ∀ wx, (Instr.index 61 (.agg #[.int .u8 (b0.toNat : Int), .int .u8 (b1.toNat : Int), .int .u8 (b2.toNat : Int), .int .u8 (b3.toNat : Int), .int .u8 (b4.toNat : Int), .int .u8 (b5.toNat : Int), .int .u8 (b6.toNat : Int), .int .u8 (b7.toNat : Int)]) (.int .i64 1)).run Try.prog wx = .ok (.int .u8 (b1.toNat : Int)) wx := fun _ => by kernel_rfl
  have i2 : ∀ wx, (Instr.index 61 (.agg #[.int .u8 (b0.toNat : Int), .int .u8 (b1.toNat : Int), .int .u8 (b2.toNat : Int), .int .u8 (b3.toNat : Int), .int .u8 (b4.toNat : Int), .int .u8 (b5.toNat : Int), .int .u8 (b6.toNat : Int), .int .u8 (b7.toNat : Int)]) (.int .i64 2)).run Try.prog wx = .ok (.int .u8 (b2.toNat : Int)) wx := fun _ => by kernel_rfl
  have i3 : ∀ wx, (Instr.index 61 (.agg #[.int .u8 (b0.toNat : Int), .int .u8 (b1.toNat : Int), .int .u8 (b2.toNat : Int), .int .u8 (b3.toNat : Int), .int .u8 (b4.toNat : Int), .int .u8 (b5.toNat : Int), .int .u8 (b6.toNat : Int), .int .u8 (b7.toNat : Int)]) (.int .i64 3)).run Try.prog wx = .ok (.int .u8 (b3.toNat : Int)) wx := fun _ => by kernel_rfl
  have i4 : ∀ wx, (Instr.index 61 (.agg #[.int .u8 (b0.toNat : Int), .int .u8 (b1.toNat : Int), .int .u8 (b2.toNat : Int), .int .u8 (b3.toNat : Int), .int .u8 (b4.toNat : Int), .int .u8 (b5.toNat : Int), .int .u8 (b6.toNat : Int), .int .u8 (b7.toNat : Int)]) (.int .i64 4)).run Try.prog wx = .ok (.int .u8 (b4.toNat : Int)) wx := fun _ => by kernel_rfl
  have i5 : ∀ wx, (Instr.index 61 (.agg #[.int .u8 (b0.toNat : Int), .int .u8 (b1.toNat : Int), .int .u8 (b2.toNat : Int), .int .u8 (b3.toNat : Int), .int .u8 (b4.toNat : Int), .int .u8 (b5.toNat : Int), .int .u8 (b6.toNat : Int), .int .u8 (b7.toNat : Int)]) (.int .i64 5)).run Try.prog wx = .ok (.int .u8 (b5.toNat : Int)) wx := fun _ => by kernel_rfl
  have i6 : ∀ wx, (Instr.index 61 (.agg #[.int .u8 (b0.toNat : Int), .int .u8 (b1.toNat : Int), .int .u8 (b2.toNat : Int), .int .u8 (b3.toNat : Int), .int .u8 (b4.toNat : Int), .int .u8 (b5.toNat : Int), .int .u8 (b6.toNat : Int), .int .u8 (b7.toNat : Int)]) (.int .i64 6)).run Try.prog wx = .ok (.int .u8 (b6.toNat : Int)) wx := fun _ => by kernel_rfl
  have i7 : ∀ wx, (Instr.index 61 (.agg #[.int .u8 (b0.toNat : Int), .int .u8 (b1.toNat : Int), .int .u8 (b2.toNat : Int), .int .u8 (b3.toNat : Int), .int .u8 (b4.toNat : Int), .int .u8 (b5.toNat : Int), .int .u8 (b6.toNat : Int), .int .u8 (b7.toNat : Int)]) (.int .i64 7)).run Try.prog wx = .ok (.int .u8 (b7.toNat : Int)) wx := fun _ => by kernel_rfl
  obtain ⟨pv, hpv⟩ : ∃ pv : Nat → Int, pv = fun k => jn (List.take k [b0, b1, b2, b3, b4, b5, b6, b7]) := ⟨_, rfl⟩
  have p0 : Hid (pv 0 = 0) := by show _ = _; rw [hpv]; exact h0
  have p8 : jn (List.take 8 [b0, b1, b2, b3, b4, b5, b6, b7]) = pv 8 := by rw [hpv]
  rw [p8]
  have stp' : ∀ k, k < 8 → ∀ b, [b0, b1, b2, b3, b4, b5, b6, b7][k]? = some b → bits BinOp.or IntKind.i64 (pv k) (wrap64 ((b.toNat : Int) * 2 ^ (8 * k))) = pv (k + 1) := by rw [hpv]; exact stp
  clear hpv stp h8 hfin h0 p8
  go_enter Try.func21, Try.ntmps21
  go_wp2
  generalize hW : w.alloc _ = W
  have hb := hide (show Below w.heap.size w W by rw [← hW]; exact bel_one _ _)
  clear hW
  go_loop [3, 7] (fun v i => ∃ k : Nat, k ≤ 8 ∧ i = .int .i64 k ∧ v = .int .i64 (pv k)) (fun _ i => 8 - (intOf i).toNat)
  case atStart => exact ⟨0, Nat.zero_le _, rfl, by rw [p0.out]⟩
  case round =>
    obtain ⟨k, hk, rfl, rfl⟩ := hrel
    have hk' : k = 0 ∨ k = 1 ∨ k = 2 ∨ k = 3 ∨ k = 4 ∨ k = 5 ∨ k = 6 ∨ k = 7 ∨ k = 8 := by omega
    rcases hk' with rfl | rfl | rfl | rfl | rfl | rfl | rfl | rfl | rfl
    · have h := stp' 0 (by decide) b0 rfl
      rw [show (2 : Int) ^ (8 * 0) = 1 from by decide, Int.mul_one] at h
      have H := hide h
      clear h
      go_wp2
      exact ⟨⟨1, by decide, rfl, by rw [w64_u8, H.out]⟩, by simp [intOf]⟩
    · have h := stp' 1 (by decide) b1 rfl
      rw [show (2 : Int) ^ (8 * 1) = 256 from by decide] at h
      have H := hide h
      clear h
      go_wp2
      exact ⟨⟨2, by decide, rfl, by rw [w64_u8, H.out]⟩, by simp [intOf]⟩
    · have h := stp' 2 (by decide) b2 rfl
      rw [show (2 : Int) ^ (8 * 2) = 65536 from by decide] at h
      have H := hide h
      clear h
      go_wp2
      exact ⟨⟨3, by decide, rfl, by rw [w64_u8, H.out]⟩, by simp [intOf]⟩
    · have h := stp' 3 (by decide) b3 rfl
      rw [show (2 : Int) ^ (8 * 3) = 16777216 from by decide] at h
      have H := hide h
      clear h
      go_wp2
      exact ⟨⟨4, by decide, rfl, by rw [w64_u8, H.out]⟩, by simp [intOf]⟩
    · have h := stp' 4 (by decide) b4 rfl
      rw [show (2 : Int) ^ (8 * 4) = 4294967296 from by decide] at h
      have H := hide h
      clear h
      go_wp2
      exact ⟨⟨5, by decide, rfl, by rw [w64_u8, H.out]⟩, by simp [intOf]⟩
    · have h := stp' 5 (by decide) b5 rfl
      rw [show (2 : Int) ^ (8 * 5) = 1099511627776 from by decide] at h
      have H := hide h
      clear h
      go_wp2
      exact ⟨⟨6, by decide, rfl, by rw [w64_u8, H.out]⟩, by simp [intOf]⟩
    · have h := stp' 6 (by decide) b6 rfl
      rw [show (2 : Int) ^ (8 * 6) = 281474976710656 from by decide] at h
      have H := hide h
      clear h
      go_wp2
      exact ⟨⟨7, by decide, rfl, by rw [w64_u8, H.out]⟩, by simp [intOf]⟩
    · have h := stp' 7 (by decide) b7 rfl
      rw [show (2 : Int) ^ (8 * 7) = 72057594037927936 from by decide] at h
      have H := hide h
      clear h
      go_wp2
      exact ⟨⟨8, by decide, rfl, by rw [w64_u8, H.out]⟩, by simp [intOf]⟩
    · go_wp2
      go_ret
      exact ⟨rfl, hb.out⟩
/-- The bytes that split has laid by its round k. -/
def spA (v : Int) (k : Nat) : Array Value := ((List.range 8).map fun j => if j < k then Value.int .u8 (v / 2 ^ (8 * j) % 256) else Value.int .u8 0).toArray
theorem spA_get (v : Int) (k j : Nat) (h : j < 8) : (spA v k)[j]? = some (if j < k then Value.int .u8 (v / 2 ^ (8 * j) % 256) else Value.int .u8 0) := by
  simp [spA, h]
theorem spA_set (v : Int) (k : Nat) (h : k < 8) : (spA v k).setIfInBounds k (.int .u8 (v / 2 ^ (8 * k) % 256)) = spA v (k + 1) := by
  apply Array.ext_getElem?
  intro j
  rw [Array.getElem?_setIfInBounds]
  by_cases hj : j < 8
  · rw [spA_get _ _ _ hj, spA_get _ _ _ hj]
    have hs : (spA v k).size = 8 := by simp [spA]
    by_cases e : k = j
    · subst e; simp [hs, h]
    · rw [if_neg e]; congr 1
      by_cases q : j < k
      · rw [if_pos q, if_pos (by omega)]
      · rw [if_neg q, if_neg (by omega)]
  · have hs : ∀ q, (spA v q).size = 8 := fun q => by simp [spA]
    rw [if_neg (by omega), Array.getElem?_eq_none (by rw [hs]; omega), Array.getElem?_eq_none (by rw [hs]; omega)]
theorem bys_get (n : Nat) : ∀ (v : Int) (k : Nat) (h : k < (bys n v).length), (bys n v)[k] = by8 (v / 256 ^ k) := by
  induction n with
  | zero => intro v k h; simp [bys] at h
  | succ n ih =>
    intro v k h
    cases k with
    | zero => simp [bys]
    | succ k =>
      simp only [bys, List.getElem_cons_succ]
      rw [ih]
      congr 1
      rw [Int.pow_succ, Int.mul_comm, ← Int.ediv_ediv_of_nonneg (by decide)]
theorem spA_8 (v : Int) : spA v 8 = bv (bys 8 v) := by
  apply Array.ext_getElem?
  intro j
  by_cases hj : j < 8
  · rw [spA_get _ _ _ hj, if_pos hj]
    have hl : j < (bys 8 v).length := by rw [Xc.bys_len]; exact hj
    have e256 : (256 : Int) ^ j = 2 ^ (8 * j) := by rw [Int.pow_mul]; rfl
    simp only [bv, List.getElem?_toArray, List.getElem?_map, List.getElem?_eq_getElem hl, Option.map_some, bys_get, Xc.by8_val, e256]
  · rw [Array.getElem?_eq_none (by simp [spA]; omega), Array.getElem?_eq_none (by simp [bv, Xc.bys_len]; omega)]
/-- A row of eight bytes. -/
def RowA (g : Nat) (cs : Array Value) (w : World) : Prop := w.heap[g]? = some (.cells cs 61)
theorem RowA.set {g : Nat} {cs : Array Value} {w : World} (h : RowA g cs w) (k : Nat) (v : Value) : RowA g (cs.setIfInBounds k v) (w.setCell ⟨g, k, none⟩ v) := by
  unfold RowA at *; simp [World.setCell, Array.getElem?_modify, h]
theorem RowA.cell {g : Nat} {cs : Array Value} {w : World} (h : RowA g cs w) (k : Nat) (v : Value) (hv : cs[k]? = some v) : w.cell? ⟨g, k, none⟩ = some v := by
  simp only [RowA] at h; simp [World.cell?, h, hv]
theorem RowA.fr {g : Nat} {cs : Array Value} {w : World} (h : RowA g cs w) (k : Nat) : w.frozen? ⟨g, k, none⟩ = false := by
  simp only [RowA] at h; simp [World.frozen?, h]
theorem RowA.keep {g : Nat} {cs : Array Value} {w : World} (h : RowA g cs w) (k : Nat) (v : Value) (hv : cs[k]? = some v) : RowA g cs (w.setCell ⟨g, k, none⟩ v) := by
  have := h.set k v
  rwa [show cs.setIfInBounds k v = cs from ?_] at this
  apply Array.ext_getElem?
  intro j
  rw [Array.getElem?_setIfInBounds]
  split
  · rename_i e; subst e; split
    · exact hv.symm
    · rename_i h2; rw [Array.getElem?_eq_none (by omega)] at hv; cases hv
  · rfl
theorem RowA.of {g : Nat} {cs cs' : Array Value} {w : World} (h : RowA g cs w) (e : cs = cs') : RowA g cs' w := e ▸ h
theorem results_a {fn : Func} {p : Tmp} (h : fn.results = #[.cell p 61]) (tmps : Array Value) (w : World) (g : Nat) (l : List UInt8) (h8 : l.length = 8) (hp : tmps.getD p undef = .pointer (some ⟨g, 0, none⟩)) (hb : RowA g (bv l) w) :
    (results fn tmps).run Try.prog w = .ok (.agg (bv l)) w := by
  obtain ⟨b0, b1, b2, b3, b4, b5, b6, b7, rfl⟩ := eight h8
  have hl := run_loadVar_row (P := Try.prog) w g 61 61 _ _ _ hb Try.underlying61 rfl (by kernel_rfl)
  have hp' : tmps[p]?.getD undef = .pointer (some ⟨g, 0, none⟩) := by simpa using hp
  simp [results, h, hp', asAddr, hl, bv]
set_option maxHeartbeats 1600000 in
theorem split_any (v : Int) (w : World) :
    Calls Try.prog 34 #[.int .i64 v] w fun e w' => e = .returned (.agg (bv (bys 8 v))) ∧ Below w.heap.size w w' := by
  go_enter Try.func34, Try.ntmps34
  go_wp2
  generalize hW : w.alloc _ = W
  have hb : Below w.heap.size w W := by rw [← hW]; exact bel_one _ _
  have hr : RowA w.heap.size (spA v 0) W := by rw [← hW]; exact heap_alloc_new _ _
  clear hW
  go_loopw [4] (fun iv wr => ∃ k : Nat, k ≤ 8 ∧ iv = .int .i64 (k : Int) ∧ RowA w.heap.size (spA v k) wr ∧ Below w.heap.size w wr) (fun iv _ => 8 - (intOf iv).toNat)
  case atStart => exact ⟨0, Nat.zero_le _, rfl, hr, hb⟩
  case round =>
    obtain ⟨k, hk, rfl, hrow, hbel⟩ := hrel
    clear hr hb
    by_cases hlt : k < 8
    · have c0 := hrow.cell k _ (spA_get v k k hlt)
      have f0 := hrow.fr k
      have HR := hide hrow
      have HB := hide hbel
      clear hrow hbel
      go_wp2
      go_roundw
      case rel => exact ⟨k + 1, hlt, by go_num, by rw [← spA_set v k hlt]; exact HR.out.set _ _, HB.out.setCell (p := ⟨w.heap.size, k, none⟩) (Nat.le_refl _) _⟩
      case measure => simp [intOf]; omega
    · have hk8 : k = 8 := by omega
      subst hk8
      rw [spA_8] at hrow
      have h8 : (bys 8 v).length = 8 := Xc.bys_len 8 v
      obtain ⟨b0, b1, b2, b3, b4, b5, b6, b7, e8⟩ := eight h8
      rw [e8] at hrow h8
      have h8' := h8
      have E8 := hide e8
      clear e8
      have c0 := hrow.cell 0 (.int .u8 (b0.toNat : Int)) rfl
      have c1 := hrow.cell 1 (.int .u8 (b1.toNat : Int)) rfl
      have c2 := hrow.cell 2 (.int .u8 (b2.toNat : Int)) rfl
      have c3 := hrow.cell 3 (.int .u8 (b3.toNat : Int)) rfl
      have c4 := hrow.cell 4 (.int .u8 (b4.toNat : Int)) rfl
      have c5 := hrow.cell 5 (.int .u8 (b5.toNat : Int)) rfl
      have c6 := hrow.cell 6 (.int .u8 (b6.toNat : Int)) rfl
      have c7 := hrow.cell 7 (.int .u8 (b7.toNat : Int)) rfl
      have f0 := hrow.fr 0
      have f1 := hrow.fr 1
      have f2 := hrow.fr 2
      have f3 := hrow.fr 3
      have f4 := hrow.fr 4
      have f5 := hrow.fr 5
      have f6 := hrow.fr 6
      have f7 := hrow.fr 7
      have HR := hide hrow
      have HB := hide hbel
      clear hrow hbel h8 hk hlt
      go_wp2
      refine bodyPost_ret (results_a rfl _ _ w.heap.size [b0, b1, b2, b3, b4, b5, b6, b7] h8' rfl ((((((((HR.out.keep 0 (.int .u8 (b0.toNat : Int)) rfl).keep 1 (.int .u8 (b1.toNat : Int)) rfl).keep 2 (.int .u8 (b2.toNat : Int)) rfl).keep 3 (.int .u8 (b3.toNat : Int)) rfl).keep 4 (.int .u8 (b4.toNat : Int)) rfl).keep 5 (.int .u8 (b5.toNat : Int)) rfl).keep 6 (.int .u8 (b6.toNat : Int)) rfl).keep 7 (.int .u8 (b7.toNat : Int)) rfl)) rfl ?_
      rw [E8.out]
      exact ⟨rfl, bel_set (bel_set (bel_set (bel_set (bel_set (bel_set (bel_set (bel_set HB.out (Nat.le_refl _) _ _) (Nat.le_refl _) _ _) (Nat.le_refl _) _ _) (Nat.le_refl _) _ _) (Nat.le_refl _) _ _) (Nat.le_refl _) _ _) (Nat.le_refl _) _ _) (Nat.le_refl _) _ _⟩
end Go.Proofs.Ytielpebokbolbaa
namespace Go.Proofs.Ytielpebokbolbaa
open Go.RowKit
open Xc (hide bel_one bel_tr bel_al bel_set le by8 bys jn)
set_option linter.unusedSimpArgs false
set_option linter.unusedVariables false

/-- The worker's cells. -/
def wl (m : Mc) (vr vo : Value) : List Value := m.r.map (Value.int .i64) ++ [.bool m.z, .bool m.s, .bool m.c, .bool m.o, .int .i64 m.at_, vr, .int .i64 m.st, vo]
def wc (m : Mc) (vr vo : Value) : Array Value := (wl m vr vo).toArray
def RowW (B : Nat) (cs : Array Value) (w : World) : Prop := w.heap[B]? = some (.cells cs 72)
theorem RowW.set {g : Nat} {cs : Array Value} {w : World} (h : RowW g cs w) (k : Nat) (v : Value) : RowW g (cs.setIfInBounds k v) (w.setCell ⟨g, k, none⟩ v) := by
  unfold RowW at *; simp [World.setCell, Array.getElem?_modify, h]
theorem RowW.cell {g : Nat} {cs : Array Value} {w : World} (h : RowW g cs w) (k : Nat) (v : Value) (hv : cs[k]? = some v) : w.cell? ⟨g, k, none⟩ = some v := by
  simp only [RowW] at h; simp [World.cell?, h, hv]
theorem RowW.fr {g : Nat} {cs : Array Value} {w : World} (h : RowW g cs w) (k : Nat) : w.frozen? ⟨g, k, none⟩ = false := by
  simp only [RowW] at h; simp [World.frozen?, h]
theorem RowW.lt {g : Nat} {cs : Array Value} {w : World} (h : RowW g cs w) : g < w.heap.size := by
  rcases Nat.lt_or_ge g w.heap.size with h' | h'
  · exact h'
  · simp [RowW, Array.getElem?_eq_none h'] at h
theorem RowW.bel {g : Nat} {cs : Array Value} {w w' : World} (h : RowW g cs w) (k : Below w.heap.size w w') : RowW g cs w' := by
  have hl := h.lt
  unfold RowW at *; rw [k.block g hl]; exact h
theorem wc_r {m : Mc} (h : m.r.length = 16) (vr vo : Value) (k : Nat) (hk : k < 16) : (wc m vr vo)[k]? = some (.int .i64 (m.r.getD k 0)) := by
  simp only [wc, wl, List.getElem?_toArray]
  rw [List.getElem?_append_left (by simp; omega)]
  simp [List.getD_eq_getElem?_getD, List.getElem?_eq_getElem (show k < m.r.length by omega)]
theorem wc_x {m : Mc} (h : m.r.length = 16) (vr vo : Value) (k : Nat) : (wc m vr vo)[16 + k]? = [.bool m.z, .bool m.s, .bool m.c, .bool m.o, .int .i64 m.at_, vr, .int .i64 m.st, vo][k]? := by
  simp only [wc, wl, List.getElem?_toArray]
  rw [List.getElem?_append_right (by simp; omega)]
  simp [h]
theorem wc_set {m : Mc} (h : m.r.length = 16) (vr vo : Value) (k : Nat) (hk : k < 16) (v : Int) : (wc m vr vo).setIfInBounds k (.int .i64 v) = wc { m with r := m.r.set k v } vr vo := by
  simp only [wc, wl, List.setIfInBounds_toArray]
  rw [List.set_append_left _ _ (by simp; omega), List.map_set]
theorem wc_setx {m : Mc} (h : m.r.length = 16) (vr vo : Value) (k : Nat) (v : Value) : (wc m vr vo).setIfInBounds (16 + k) v = (m.r.map (Value.int .i64) ++ [.bool m.z, .bool m.s, .bool m.c, .bool m.o, .int .i64 m.at_, vr, .int .i64 m.st, vo].set k v).toArray := by
  simp only [wc, wl, List.setIfInBounds_toArray]
  rw [List.set_append_right _ _ (by simp; omega)]
  simp [h]
/-- Bytes in a block, none of which is frozen. -/
def BR (w : World) (q : Nat) (l : List UInt8) : Prop := q < w.heap.size ∧ ∀ j (h : j < l.length), w.cell? ⟨q, j, none⟩ = some (.int .u8 (l[j].toNat : Int)) ∧ w.frozen? ⟨q, j, none⟩ = false
theorem BR.of {w w' : World} {q : Nat} {l : List UInt8} (h : BR w q l) (e : w'.heap[q]? = w.heap[q]?) (hs : w.heap.size ≤ w'.heap.size) : BR w' q l := ⟨Nat.lt_of_lt_of_le h.1 hs, fun j hj => by
  rw [World.cell?_of_block (w := w) e]
  refine ⟨(h.2 j hj).1, ?_⟩
  have := (h.2 j hj).2
  unfold World.frozen? at *
  rw [e]; exact this⟩
/-- What stands in the place of a region's own bytes. -/
def ov : Option (Nat × Nat) → Nat → Value
  | none, _ => .slice none 0 0
  | some (q, c), n => .slice (some ⟨q, 0, none⟩) n c
structure Wn (base B rb ob : Nat) (g : List Rg) (ss : Nat → ByteArray) (os : Nat → Option (Nat × Nat)) (w : World) : Prop where
  b1 : base ≤ rb
  b2 : base ≤ ob
  l1 : rb < w.heap.size
  l2 : ob < w.heap.size
  n1 : rb ≠ B
  n2 : ob ≠ B
  n3 : rb ≠ ob
  rl : RL w rb 0 g ss
  rf : ∀ j, w.frozen? ⟨rb, j, none⟩ = false
  of' : ∀ j, w.frozen? ⟨ob, j, none⟩ = false
  oc : ∀ i (h : i < g.length), w.cell? ⟨ob, i, none⟩ = some (ov (os i) g[i].by_.length)
  no : ∀ i (h : i < g.length), os i = none → (ss i).data.toList = g[i].by_
  cd : ∀ i (h : i < g.length), g[i].code = true → os i = none
  ow : ∀ i (h : i < g.length) q c, os i = some (q, c) → base ≤ q ∧ q ≠ B ∧ q ≠ rb ∧ q ≠ ob ∧ BR w q g[i].by_ ∧ 0 < g[i].by_.length
  cp : ∀ i (h : i < g.length) q c, os i = some (q, c) → g[i].by_.length ≤ c
  ap : ∀ i j q c c', i < g.length → j < g.length → os i = some (q, c) → os j = some (q, c') → i = j
theorem frz_of {w w' : World} {b : Nat} (e : w'.heap[b]? = w.heap[b]?) (j : Nat) (h : w.frozen? ⟨b, j, none⟩ = false) : w'.frozen? ⟨b, j, none⟩ = false := by
  unfold World.frozen? at *; rw [e]; exact h
theorem Wn.of {base B rb ob : Nat} {g : List Rg} {ss : Nat → ByteArray} {os : Nat → Option (Nat × Nat)} {w w' : World} (h : Wn base B rb ob g ss os w) (hs : w.heap.size ≤ w'.heap.size) (e : ∀ b, b ≠ B → b < w.heap.size → w'.heap[b]? = w.heap[b]?) : Wn base B rb ob g ss os w' := by
  have e1 := e rb h.n1 h.l1
  have e2 := e ob h.n2 h.l2
  refine ⟨h.b1, h.b2, Nat.lt_of_lt_of_le h.l1 hs, Nat.lt_of_lt_of_le h.l2 hs, h.n1, h.n2, h.n3, h.rl.of e1, fun j => frz_of e1 j (h.rf j), fun j => frz_of e2 j (h.of' j), fun i hi => ?_, h.no, h.cd, fun i hi q c hq => ?_, h.cp, h.ap⟩
  · rw [World.cell?_of_block (w := w) e2]; exact h.oc i hi
  · obtain ⟨a1, a2, a3, a4, a5, a6⟩ := h.ow i hi q c hq
    exact ⟨a1, a2, a3, a4, a5.of (e q a2 a5.1) hs, a6⟩
def Wm (base B : Nat) (ra oa : Option Addr) (g : List Rg) (ss : Nat → ByteArray) (os : Nat → Option (Nat × Nat)) (w : World) : Prop :=
  g = [] ∨ ∃ rb ob, ra = some ⟨rb, 0, none⟩ ∧ oa = some ⟨ob, 0, none⟩ ∧ Wn base B rb ob g ss os w
theorem Wm.of {base B : Nat} {ra oa : Option Addr} {g : List Rg} {ss : Nat → ByteArray} {os : Nat → Option (Nat × Nat)} {w w' : World} (h : Wm base B ra oa g ss os w) (hs : w.heap.size ≤ w'.heap.size) (e : ∀ b, b ≠ B → b < w.heap.size → w'.heap[b]? = w.heap[b]?) : Wm base B ra oa g ss os w' := by
  rcases h with h | ⟨rb, ob, h1, h2, h3⟩
  · exact Or.inl h
  · exact Or.inr ⟨rb, ob, h1, h2, h3.of hs e⟩
theorem Wm.rs {base B : Nat} {ra oa : Option Addr} {g : List Rg} {ss : Nat → ByteArray} {os : Nat → Option (Nat × Nat)} {w : World} (h : Wm base B ra oa g ss os w) : RS w ra g ss := by
  rcases h with h | ⟨rb, ob, h1, h2, h3⟩
  · exact Or.inl h
  · exact Or.inr ⟨rb, 0, h1, h3.rl⟩
/-- The worker in block B shows the machine m; all of its own lies from base on. -/
structure WJ (base B : Nat) (ra oa : Option Addr) (rc : Nat) (ss : Nat → ByteArray) (os : Nat → Option (Nat × Nat)) (m : Mc) (w : World) : Prop where
  row : RowW B (wc m (.slice ra m.g.length rc) (.slice oa m.g.length m.g.length)) w
  le : base ≤ B
  mem : Wm base B ra oa m.g ss os w
  ok : m.ok
  sm : m.g.length ≤ 4398046511104
def WX (base B : Nat) (m : Mc) (w : World) : Prop := ∃ ra oa rc ss os, WJ base B ra oa rc ss os m w
section
variable {base B : Nat} {ra oa : Option Addr} {rc : Nat} {ss : Nat → ByteArray} {os : Nat → Option (Nat × Nat)} {m : Mc} {w w' : World}
theorem WJ.bel (h : WJ base B ra oa rc ss os m w) (k : Below w.heap.size w w') : WJ base B ra oa rc ss os m w' :=
  ⟨h.row.bel k, h.le, h.mem.of k.size fun b _ hb => k.block b hb, h.ok, h.sm⟩
theorem WJ.reg (h : WJ base B ra oa rc ss os m w) (k : Nat) (hk : k < 16) : w.cell? ⟨B, k, none⟩ = some (.int .i64 (m.r.getD k 0)) := h.row.cell k _ (wc_r h.ok.1 _ _ k hk)
theorem WJ.fr (h : WJ base B ra oa rc ss os m w) (k : Nat) : w.frozen? ⟨B, k, none⟩ = false := h.row.fr k
theorem WJ.cz (h : WJ base B ra oa rc ss os m w) : w.cell? ⟨B, 16, none⟩ = some (.bool m.z) := h.row.cell 16 _ (wc_x h.ok.1 _ _ 0)
theorem WJ.cs (h : WJ base B ra oa rc ss os m w) : w.cell? ⟨B, 17, none⟩ = some (.bool m.s) := h.row.cell 17 _ (wc_x h.ok.1 _ _ 1)
theorem WJ.cc (h : WJ base B ra oa rc ss os m w) : w.cell? ⟨B, 18, none⟩ = some (.bool m.c) := h.row.cell 18 _ (wc_x h.ok.1 _ _ 2)
theorem WJ.co (h : WJ base B ra oa rc ss os m w) : w.cell? ⟨B, 19, none⟩ = some (.bool m.o) := h.row.cell 19 _ (wc_x h.ok.1 _ _ 3)
theorem WJ.ca (h : WJ base B ra oa rc ss os m w) : w.cell? ⟨B, 20, none⟩ = some (.int .i64 m.at_) := h.row.cell 20 _ (wc_x h.ok.1 _ _ 4)
theorem WJ.cg (h : WJ base B ra oa rc ss os m w) : w.cell? ⟨B, 21, none⟩ = some (.slice ra m.g.length rc) := h.row.cell 21 _ (wc_x h.ok.1 _ _ 5)
theorem WJ.ct (h : WJ base B ra oa rc ss os m w) : w.cell? ⟨B, 22, none⟩ = some (.int .i64 m.st) := h.row.cell 22 _ (wc_x h.ok.1 _ _ 6)
theorem WJ.cw (h : WJ base B ra oa rc ss os m w) : w.cell? ⟨B, 23, none⟩ = some (.slice oa m.g.length m.g.length) := h.row.cell 23 _ (wc_x h.ok.1 _ _ 7)
theorem WJ.upd {m' : Mc} (h : WJ base B ra oa rc ss os m w) (k : Nat) (v : Value) (e : (wc m (.slice ra m.g.length rc) (.slice oa m.g.length m.g.length)).setIfInBounds k v = wc m' (.slice ra m.g.length rc) (.slice oa m.g.length m.g.length)) (hg : m'.g = m.g) (hok : m'.ok) :
    WJ base B ra oa rc ss os m' (w.setCell ⟨B, k, none⟩ v) := by
  refine ⟨?_, h.le, ?_, hok, by rw [hg]; exact h.sm⟩
  · rw [hg]
    have := h.row.set k v
    rw [e] at this; exact this
  · rw [hg]
    exact h.mem.of (by simp [World.setCell]) fun b hb _ => Below.heap_setCell w ⟨B, k, none⟩ v b hb
theorem Mc.ok_r (h : m.ok) (k : Nat) (v : Int) (hv : I64 v) : ({ m with r := m.r.set k v } : Mc).ok := by
  refine ⟨by simp [h.1], fun x hx => ?_, h.2.2.1, h.2.2.2⟩
  rcases List.mem_or_eq_of_mem_set hx with hx | rfl
  · exact h.2.1 x hx
  · exact hv
theorem WJ.setr (h : WJ base B ra oa rc ss os m w) (k : Nat) (hk : k < 16) (v : Int) (hv : I64 v) : WJ base B ra oa rc ss os { m with r := m.r.set k v } (w.setCell ⟨B, k, none⟩ (.int .i64 v)) :=
  h.upd k _ (wc_set h.ok.1 _ _ k hk v) rfl (Mc.ok_r h.ok k v hv)
theorem WJ.seta (h : WJ base B ra oa rc ss os m w) (v : Int) (hv : I64 v) : WJ base B ra oa rc ss os { m with at_ := v } (w.setCell ⟨B, 20, none⟩ (.int .i64 v)) :=
  h.upd 20 _ (wc_setx h.ok.1 _ _ 4 _) rfl ⟨h.ok.1, h.ok.2.1, hv, h.ok.2.2.2⟩
theorem WJ.sett (h : WJ base B ra oa rc ss os m w) (v : Int) : WJ base B ra oa rc ss os { m with st := v } (w.setCell ⟨B, 22, none⟩ (.int .i64 v)) :=
  h.upd 22 _ (wc_setx h.ok.1 _ _ 6 _) rfl h.ok
theorem WJ.setf (h : WJ base B ra oa rc ss os m w) (z s c o : Bool) : WJ base B ra oa rc ss os { m with z := z, s := s, c := c, o := o } ((((w.setCell ⟨B, 16, none⟩ (.bool z)).setCell ⟨B, 17, none⟩ (.bool s)).setCell ⟨B, 18, none⟩ (.bool c)).setCell ⟨B, 19, none⟩ (.bool o)) := by
  have h1 : WJ base B ra oa rc ss os { m with z := z } (w.setCell ⟨B, 16, none⟩ (.bool z)) := h.upd 16 _ (wc_setx h.ok.1 _ _ 0 _) rfl h.ok
  have h2 : WJ base B ra oa rc ss os { m with z := z, s := s } _ := h1.upd 17 (.bool s) (wc_setx h1.ok.1 _ _ 1 _) rfl h.ok
  have h3 : WJ base B ra oa rc ss os { m with z := z, s := s, c := c } _ := h2.upd 18 (.bool c) (wc_setx h2.ok.1 _ _ 2 _) rfl h.ok
  exact h3.upd 19 (.bool o) (wc_setx h3.ok.1 _ _ 3 _) rfl h.ok
theorem Mc.regs64 (h : m.ok) (k : Nat) : I64 (m.r.getD k 0) := by
  rw [List.getD_eq_getElem?_getD]
  cases e : m.r[k]? with
  | none => exact Xc.zero_I64
  | some v => exact h.2.1 v (List.mem_of_getElem? e)
end
end Go.Proofs.Ytielpebokbolbaa

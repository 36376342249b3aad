/-
  The program's function write lays a number's lowest bits into so many bytes (1 to 10) as the plain function enc of the text Math says; memory that was there stays as it was.
-/
import Derived.Test.YtcbfpikggphokaaGreatDoorLeafB
import Derived.Laws.IdiomStrings
namespace Go.Proofs.YtcbfpikggphokaaGreatDoor
open Go.RowKit

theorem Tryz.info5 : (Tryz.prog.info? 5).map (fun i => (i.zero, i.size, i.bytes)) = some (some (.int .u8 0), 1, 1) := by kernel_rfl

/-- The bytes' values when j of m have been laid. -/
def pre (n : Int) (m j : Nat) : List Int := (List.range m).map fun i => if i < j then n / 2 ^ (7 * i) % 128 + 128 else 0
theorem pre_length (n : Int) (m j : Nat) : (pre n m j).length = m := by simp [pre]
theorem pre_zero (n : Int) (m : Nat) : pre n m 0 = List.replicate m 0 := by
  apply List.ext_getElem
  · simp [pre]
  · intro i h1 h2; simp [pre]
theorem pre_step (n : Int) (m j : Nat) (_h : j < m) : (pre n m j).set j (n / 2 ^ (7 * j) % 128 + 128) = pre n m (j + 1) := by
  apply List.ext_getElem
  · simp [pre]
  · intro i h1 h2
    simp only [pre, List.getElem_set, List.getElem_map, List.getElem_range]
    by_cases e : j = i
    · subst e; simp
    · rw [if_neg e]
      by_cases hi : i < j
      · rw [if_pos hi, if_pos (by omega)]
      · rw [if_neg hi, if_neg (by omega)]
theorem pre_last (n : Int) (m : Nat) (h : 1 ≤ m) : ((pre n m m).set (m - 1) (n / 2 ^ (7 * (m - 1)) % 128)) = (enc n m).map fun b => (b.toNat : Int) := by
  apply List.ext_getElem
  · simp [pre, enc]
  · intro i h1 h2
    have hi : i < m := by simpa [pre] using h1
    rw [List.getElem_map, enc_get n m i (by rw [enc_length]; exact hi)]
    simp only [pre, List.getElem_set, List.getElem_map, List.getElem_range, wb]
    by_cases e : m - 1 = i
    · subst e; rw [if_pos rfl, if_neg (by omega)]
    · rw [if_neg e, if_pos hi, if_pos (by omega)]
theorem pre_new (n : Int) (m j : Nat) (h : j < m) : (pre n m j)[j]? = some 0 := by
  simp [pre, h]
theorem pre_get (n : Int) (m j i : Nat) (h : i < m) (hj : i < j) : (pre n m j)[i]? = some (n / 2 ^ (7 * i) % 128 + 128) := by
  simp [pre, h, hj]

/-- What the program reckons of a byte. -/
theorem byte_or (x : Int) : bits .or .u8 (bits .and .u8 (x % 256) 127) 128 = x % 128 + 128 := by
  have e : bits .and .u8 (x % 256) 127 = x % 256 % 128 := bits_mask .u8 8 (by decide) wraps_u8 7 (by decide) _ (by omega) (by omega)
  rw [e, u8_or128_right _ (by omega) (by omega)]
  omega

set_option maxRecDepth 100000 in
set_option maxHeartbeats 800000 in
theorem write_any (n : Int) (m : Nat) (w : World) (h1 : 1 ≤ m) (h10 : m ≤ 10) :
    Calls Tryz.prog 114 #[.int .i64 n, .int .i64 m] w fun e w' => e = .returned (.string ⟨(enc n m).toArray⟩) ∧ Below w.heap.size w w' := by
  obtain ⟨i0, hi, hz0, hz1, hz2⟩ := info_parts Tryz.info5
  go_enter Tryz.func114, Tryz.ntmps114
  go_wp2_with (at_make; refine wpList_make_full _ rfl _ _ 55 rfl w.heap.size 5 i0 (.int .u8 0) 1 Tryz.underlying55 hi hz0 hz1 .i64 .i64 _ _ m rfl rfl rfl rfl (by rw [hz2]; omega) (by unfold maxLen; omega) (Nat.le_refl _) ?_; intro w1 hown hgrow)
  have hown0 : w1.ownsRow w.heap.size 5 1 (.slice (some ⟨w.heap.size, 0, none⟩) m m) m ((pre n m 0).map (Value.int .u8)) := by
    rw [pre_zero, List.map_replicate]
    have e : (madeCells (Value.int IntKind.u8 0).cells (m * 1)).toList = List.replicate m (Value.int .u8 0) := by
      rw [Nat.mul_one]; exact toList_madeCells_one _ _
    rw [← e]; exact hown
  have hb1 : Below w.heap.size w w1 := (Below.refl _ _).grown hgrow (Nat.le_refl _) (fun k h => by cases h)
  clear hown hgrow
  go_loopw [10] (fun i wr => ∃ k : Nat, k ≤ m ∧ i = .int .i64 k ∧ wr.ownsRow w.heap.size 5 1 (.slice (some ⟨w.heap.size, 0, none⟩) m m) m ((pre n m k).map (Value.int .u8)) ∧ Below w.heap.size w wr) (fun i _ => m - (intOf i).toNat)
  case atStart => exact ⟨0, by omega, rfl, hown0, hb1⟩
  case round =>
    obtain ⟨k, hk, rfl, hown, hb⟩ := hrel
    clear hown0 hb1
    by_cases hlt : k < m
    · have hf := hown.frozenAt k
      have hc : wr.cell? ⟨w.heap.size, k, none⟩ = some (.int .u8 0) := (hown.cellAt k (by omega)).trans (by rw [List.getElem?_map, pre_new n m k hlt]; rfl)
      have hst := hide (hown.stored k (.int .u8 (n / 2 ^ (7 * k) % 128 + 128)))
      have hby := byte_or (n / 2 ^ (7 * k))
      clear hown
      go_wp2
      go_roundw
      case rel =>
        refine ⟨k + 1, by omega, by go_num, ?_, hb.setCell (Nat.le_refl _) _⟩
        rw [← pre_step n m k hlt, List.map_set]
        exact hst.out.1
      case measure => simp [intOf]; omega
    · have hkm : k = m := by omega
      subst hkm
      have hf := hown.frozenAt (k - 1)
      have hc : wr.cell? ⟨w.heap.size, k - 1, none⟩ = some (.int .u8 (n / 2 ^ (7 * (k - 1)) % 128 + 128)) := (hown.cellAt (k - 1) (by omega)).trans (by rw [List.getElem?_map, pre_get n k k (k - 1) (by omega) (by omega)]; rfl)
      have hst := hide (hown.stored (k - 1) (.int .u8 (n / 2 ^ (7 * (k - 1)) % 128)))
      clear hown
      have hcv : (convert 55 9 (.slice (some ⟨w.heap.size, 0, none⟩) k k)).run Tryz.prog (wr.setCell ⟨w.heap.size, k - 1, none⟩ (.int .u8 (n / 2 ^ (7 * (k - 1)) % 128))) = .ok (.string ⟨(enc n k).toArray⟩) (wr.setCell ⟨w.heap.size, k - 1, none⟩ (.int .u8 (n / 2 ^ (7 * (k - 1)) % 128))) := by
        have hcells : ∀ j (hj : j < (enc n k).length), (wr.setCell ⟨w.heap.size, k - 1, none⟩ (.int .u8 (n / 2 ^ (7 * (k - 1)) % 128))).cell? ((⟨w.heap.size, 0, none⟩ : Addr).add j) = some (.int .u8 ((enc n k)[j].toNat : Int)) := fun j hj => by
          have hj' : j < k := by rw [enc_length] at hj; exact hj
          rw [Addr.add_lit, Nat.zero_add, hst.out.1.cellAt j (by omega), ← List.map_set, pre_last n k h1]
          simp [hj]
        have := run_convert_bytes_back (P := Tryz.prog) (wr.setCell ⟨w.heap.size, k - 1, none⟩ (.int .u8 (n / 2 ^ (7 * (k - 1)) % 128))) 55 9 5 ⟨w.heap.size, 0, none⟩ k (enc n k) Tryz.underlying55 Tryz.underlying5 Tryz.underlying9 hcells
        rw [enc_length] at this
        exact this
      go_wp2
      go_ret
      exact ⟨rfl, hb.setCell (Nat.le_refl _) _⟩
end Go.Proofs.YtcbfpikggphokaaGreatDoor

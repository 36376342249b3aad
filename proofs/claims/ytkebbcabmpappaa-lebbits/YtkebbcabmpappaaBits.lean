/-
  What the statement LebBits leans on: which bytes are no number, and what a string turned into bytes, changed and turned back leaves; numbers from -2^62 to 2^62 - 1.
-/
import Derived.Test.YtkebbcabmpappaaBack
import Derived.Test.YtkebbcabmpappaaRefU
namespace Go.Proofs.Ytkebbcabmpappaa
open Go.RowKit

theorem szA_le : ∀ (f k : Nat) (n : Int), -64 * 2 ^ (7 * f) ≤ n → n < 64 * 2 ^ (7 * f) → szA (f + 1) k n ≤ k + f + 1
  | 0, k, n, h0, h1 => by
    simp at h0 h1
    rw [szA, if_pos (by omega)]; omega
  | f + 1, k, n, h0, h1 => by
    rw [szA]
    split
    · omega
    · rw [pow_step] at h0 h1
      have := szA_le f (k + 1) (n / 128) (by generalize (2 : Int) ^ (7 * f) = P at *; omega) (by generalize (2 : Int) ^ (7 * f) = P at *; omega)
      omega
theorem szS_le9 {n : Int} (h0 : -4611686018427387904 ≤ n) (h1 : n ≤ 4611686018427387903) : szS n ≤ 9 := by
  have e : (64 : Int) * 2 ^ (7 * 8) = 4611686018427387904 := by decide
  have := szA_le 8 0 n (by omega) (by omega)
  unfold szS; omega

theorem vS_long (n : Int) (s : Nat) (r : List UInt8) (h1 : 1 ≤ s) (h10 : s ≤ 10) (h9 : s ≤ 9 → -2 ^ (7 * s - 1) ≤ n ∧ n < 2 ^ (7 * s - 1)) (hn : I64 n) : vS (enc n s ++ r) = n := by
  unfold vS
  rw [spn_enc n s r h1 h10, List.take_left' (enc_length _ _), jl_enc]
  by_cases h : s ≤ 9
  · exact vS_at n s h h1 (h9 h).1 (h9 h).2
  · have e : s = 10 := by omega
    rw [e]
    have e1 : (2 : Int) ^ (7 * 10) = 1180591620717411303424 := by decide
    rw [e1]
    unfold spd
    rw [if_neg (by omega)]
    unfold I64 at hn
    unfold w64
    omega
theorem tkS_bad (l : List UInt8) (b : Int) (h1 : 1 ≤ b) (h64 : b ≤ 64) (h : ¬ enc (vS l) (szS (vS l)) = l.take (spn 10 0 l)) : tkS l b = (0, [], 6) := by
  unfold tkS
  rw [if_neg (by omega), if_neg (fun g => h g.1)]
theorem tkS_longer (n : Int) (h0 : -4611686018427387904 ≤ n) (h1 : n ≤ 4611686018427387903) : tkS (enc n (szS n + 1)) 64 = (0, [], 6) := by
  have b := szS_bd n
  have l9 := szS_le9 h0 h1
  have hr := szS_range n l9
  have hp : (2 : Int) ^ (7 * (szS n + 1) - 1) = 128 * 2 ^ (7 * szS n - 1) := by
    rw [show 7 * (szS n + 1) - 1 = 7 + (7 * szS n - 1) by omega, Int.pow_add]; rfl
  have hp0 := pow_pos2 (7 * szS n - 1)
  have hv := vS_long n (szS n + 1) [] (by omega) (by omega) (fun _ => by rw [hp]; omega) ⟨by omega, by omega⟩
  have hk := spn_enc n (szS n + 1) [] (by omega) (by omega)
  rw [List.append_nil] at hv hk
  refine tkS_bad _ _ (by decide) (by decide) ?_
  rw [hv, hk, List.take_of_length_le (by rw [enc_length]; exact Nat.le_refl _)]
  intro h
  have := congrArg List.length h
  rw [enc_length, enc_length] at this
  omega
theorem tkS_cut (n : Int) : tkS ((enc n (szS n)).take (szS n - 1)) 64 = (0, [], 6) := by
  have b := szS_bd n
  have hk : spn 10 0 ((enc n (szS n)).take (szS n - 1)) = 0 := spn_none _ _ _ (fun i hi => by
    rw [List.getElem_take]
    rw [List.length_take, enc_length] at hi
    exact enc_more n _ i _ (by omega))
  refine tkS_bad _ _ (by decide) (by decide) ?_
  rw [hk]
  intro h
  have := congrArg List.length h
  rw [enc_length] at this
  simp at this
  have := (szS_bd (vS ((enc n (szS n)).take (szS n - 1)))).1
  omega
theorem byI_back (b : UInt8) : byI (b.toNat : Int) = b := by
  unfold byI; simp
/-- All bytes with 128 more. -/
def encM (n : Int) (s : Nat) : List UInt8 := (fst n s).map byI
theorem encM_length (n : Int) (s : Nat) : (encM n s).length = s := by simp [encM, fst_length]
theorem encM_enc (n : Int) (s : Nat) : encM n s ++ [byI (n / 2 ^ (7 * s) % 128)] = enc n (s + 1) := by
  have h := congrArg (List.map byI) (fst_enc n s)
  rw [List.map_append, List.map_map] at h
  have e : (enc n (s + 1)).map (byI ∘ fun b => (b.toNat : Int)) = enc n (s + 1) := by
    rw [show (byI ∘ fun b : UInt8 => (b.toNat : Int)) = id from funext fun b => byI_back b, List.map_id]
  rw [e] at h
  exact h
theorem encM_get (n : Int) (s j : Nat) (h : j < (encM n s).length) : ((encM n s)[j].toNat : Int) = n / 2 ^ (7 * j) % 128 + 128 := by
  simp only [encM, fst, List.getElem_map, List.getElem_range]
  exact byI_val (by omega) (by omega)
theorem tail_pos (n : Int) (s : Nat) (h0 : 0 ≤ n) (h : n < 2 ^ (7 * s)) : byI (n / 2 ^ (7 * s) % 128) = 0 := by
  rw [Int.ediv_eq_zero_of_lt h0 h]; rfl
theorem tail_neg (n : Int) (s : Nat) (h0 : n < 0) (h : -2 ^ (7 * s) ≤ n) : byI (n / 2 ^ (7 * s) % 128) = 127 := by
  have hp := pow_pos2 (7 * s)
  have e : n / 2 ^ (7 * s) = -1 := by
    generalize (2 : Int) ^ (7 * s) = P at *
    have e : n / P = (n + 1 * P) / P - 1 := by rw [Int.add_mul_ediv_right _ _ (by omega)]; omega
    rw [e, Int.ediv_eq_zero_of_lt (by omega) (by omega)]; rfl
  rw [e]; rfl

/-- What a string turned into bytes leaves. -/
theorem bytes_of (l : List UInt8) (w : World) : ∃ cap W, (convert 9 39 (.string (str l))).run Try.prog w = .ok (.slice (some ⟨w.heap.size, 0, none⟩) l.length cap) W ∧
    (∀ j (hj : j < l.length), W.cell? ⟨w.heap.size, j, none⟩ = some (.int .u8 (l[j].toNat : Int))) ∧ (∀ j, j < l.length → W.frozen? ⟨w.heap.size, j, none⟩ = false) ∧ Below w.heap.size w W := by
  have hr := run_bytes_of_string (P := Try.prog) w 9 39 5 (str l) Try.underlying9 Try.underlying39 Try.underlying5
  rw [str_size] at hr
  refine ⟨_, _, hr, ?_, ?_, (Below.refl _ _).drew.alloc (Nat.le_refl _) _⟩
  · intro j hj
    rw [show w.heap.size = w.drew.heap.size from rfl, World.cell?_alloc_mark]
    unfold bytesRow
    rw [Array.getElem?_append_left (by simp [str, hj])]
    simp [str, hj]
  · intro j hj
    rw [show w.heap.size = w.drew.heap.size from rfl, World.frozen?_alloc_mark]
    have hsz : (bytesRow (str l) (grownCap w l.length 0 5)).size = l.length + (grownCap w l.length 0 5 - l.length) := by simp [bytesRow, str, ByteArray.size]
    rw [decide_eq_false (by rw [hsz]; omega)]
    rfl

/-- The last byte with 128 more, and all of it as a string again. -/
theorem back_of (n : Int) (s B cap : Nat) (W : World) (h1 : 1 ≤ s) (hc : ∀ j (hj : j < (enc n s).length), W.cell? ⟨B, j, none⟩ = some (.int .u8 ((enc n s)[j].toNat : Int))) :
    (convert 39 9 (.slice (some ⟨B, 0, none⟩) s cap)).run Try.prog (W.setCell ⟨B, s - 1, none⟩ (.int .u8 (n / 2 ^ (7 * (s - 1)) % 128 + 128))) =
      .ok (.string (str (encM n s))) (W.setCell ⟨B, s - 1, none⟩ (.int .u8 (n / 2 ^ (7 * (s - 1)) % 128 + 128))) := by
  have hcells : ∀ j (hj : j < (encM n s).length), (W.setCell ⟨B, s - 1, none⟩ (.int .u8 (n / 2 ^ (7 * (s - 1)) % 128 + 128))).cell? ((⟨B, 0, none⟩ : Addr).add j) = some (.int .u8 ((encM n s)[j].toNat : Int)) := fun j hj => by
    rw [Addr.add_lit, Nat.zero_add, encM_get]
    have hjs : j < s := by rw [encM_length] at hj; exact hj
    have hje : j < (enc n s).length := by rw [enc_length]; exact hjs
    by_cases e : j = s - 1
    · subst e
      exact World.cell?_setCell_same W _ _ (hc _ hje)
    · rw [World.cell?_setCell_other W _ _ _ (fun h => e (congrArg Addr.off h).symm), hc j hje, enc_get]
      unfold wb
      rw [if_pos (by omega)]
  have := run_convert_bytes_back (P := Try.prog) (W.setCell ⟨B, s - 1, none⟩ (.int .u8 (n / 2 ^ (7 * (s - 1)) % 128 + 128))) 39 9 5 ⟨B, 0, none⟩ cap (encM n s) Try.underlying39 Try.underlying5 Try.underlying9 hcells
  rw [encM_length] at this
  exact this
end Go.Proofs.Ytkebbcabmpappaa

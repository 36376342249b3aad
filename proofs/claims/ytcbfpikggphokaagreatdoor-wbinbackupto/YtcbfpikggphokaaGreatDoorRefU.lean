/-
  The document's own U writes a number not below 0 as the plain function enc of the text Math says, or refuses it; memory that was there stays as it was.
-/
import Derived.Test.YtcbfpikggphokaaGreatDoorUS
import Derived.Test.YtcbfpikggphokaaGreatDoorMathB
namespace Go.Proofs.YtcbfpikggphokaaGreatDoor
open Go.RowKit

/-- The values of the first k bytes, all of which are followed. -/
def fst (n : Int) (k : Nat) : List Int := (List.range k).map fun i => n / 2 ^ (7 * i) % 128 + 128
theorem fst_length (n : Int) (k : Nat) : (fst n k).length = k := by simp [fst]
theorem fst_succ (n : Int) (k : Nat) : fst n (k + 1) = fst n k ++ [n / 2 ^ (7 * k) % 128 + 128] := by simp [fst, List.range_succ]
theorem fst_enc (n : Int) (k : Nat) : fst n k ++ [n / 2 ^ (7 * k) % 128] = (enc n (k + 1)).map fun b => (b.toNat : Int) := by
  apply List.ext_getElem
  · simp [fst, enc]
  · intro i h1 h2
    have hi : i < k + 1 := by simpa [fst] using h1
    rw [List.getElem_map, enc_get n (k + 1) i (by rw [enc_length]; exact hi)]
    unfold wb
    by_cases e : i < k
    · rw [List.getElem_append_left (by rw [fst_length]; exact e), if_pos (by omega)]
      simp [fst]
    · have : i = k := by omega
      subst this
      rw [List.getElem_append_right (by rw [fst_length]; omega), if_neg (by omega)]
      simp [fst_length]

theorem one_at (w : World) (x : Int) : ∀ j u, [Value.int .u8 x][j]? = some u → (w.alloc (.cells #[.int .u8 x] 5)).cell? ((⟨w.heap.size, 0, none⟩ : Addr).add j) = some u := by
  intro j u hj
  match j, hj with
  | 0, hj => simp at hj; subst hj; simp [Addr.add]
theorem one_cell (x : Int) : ∀ u, u ∈ [Value.int .u8 x] → u.oneCell' = true := by
  intro u hu
  simp at hu
  subst hu
  rfl

/-- What an append of one byte leaves, as a string. -/
theorem string_own {w : World} {B : Nat} {v : Value} {l : List UInt8} (h : w.ownsRow B 5 1 v l.length (l.map fun b => Value.int .u8 (b.toNat : Int))) (h0 : 0 < l.length) :
    (convert 55 9 v).run Tryz.prog w = .ok (.string (str l)) w := by
  rcases h.2 with ⟨_, hz⟩ | ⟨g, cap, cur, rfl, _, _, _, _, _, _⟩
  · omega
  · have hc : ∀ j (hj : j < l.length), w.cell? ((⟨g, 0, none⟩ : Addr).add j) = some (.int .u8 (l[j].toNat : Int)) := fun j hj => by
      rw [Addr.add_lit, Nat.zero_add, h.cellAt j (by omega)]
      simp [hj]
    exact run_convert_bytes_back (P := Tryz.prog) w 55 9 5 ⟨g, 0, none⟩ cap l Tryz.underlying55 Tryz.underlying5 Tryz.underlying9 hc

theorem u_div_bd (n : Int) (h : n ≤ 9223372036854775807) (k : Nat) (h8 : 8 ≤ k) : n / 2 ^ (7 * k) ≤ 127 := by
  have h1 : n / 2 ^ (7 * k) = n / 2 ^ 56 / 2 ^ (7 * k - 56) := by
    rw [Int.ediv_ediv_of_nonneg (Int.le_of_lt (pow_pos2 _)), ← Int.pow_add, show 56 + (7 * k - 56) = 7 * k by omega]
  have h2 : n / 2 ^ 56 ≤ 127 := by
    have e : (2 : Int) ^ 56 = 72057594037927936 := by decide
    rw [e]; omega
  rw [h1]
  have hp := pow_pos2 (7 * k - 56)
  exact Int.le_trans (Int.ediv_le_ediv hp h2) (Int.ediv_le_self _ (by decide))

set_option maxRecDepth 100000 in
set_option maxHeartbeats 1000000 in
theorem refU_any (n : Int) (w : World) (h0 : 0 ≤ n) (h1 : n ≤ 9223372036854775807) :
    Calls Tryz.prog 51 #[.int .i64 n] w fun e w' => e = .returned (.tuple #[.string (str (enc n (szU n))), .bool true]) ∧ Below w.heap.size w w' := by
  obtain ⟨i0, hi, hz0, hz1, hz2⟩ := info_parts Tryz.info5
  go_enter Tryz.func51, Tryz.ntmps51
  go_wp2
  go_loopw [0, 4] (fun nv v wr => ∃ k : Nat, k ≤ 8 ∧ nv = .int .i64 (n / 2 ^ (7 * k)) ∧ wr.ownsRow w.heap.size 5 1 v k ((fst n k).map (Value.int .u8)) ∧ Below w.heap.size w wr ∧ Hid (szU n = uzA (8 - k) k (n / 2 ^ (7 * k))))
    (fun nv _ _ => (intOf nv).toNat)
  case atStart => exact ⟨0, by omega, by rw [div_zero], World.ownsRow_nil _ _ _ _, Below.refl _ _, hide (by rw [div_zero]; rfl)⟩
  case round =>
    obtain ⟨k, hk, rfl, hown, hb, hz⟩ := hrel
    have hq0 : 0 ≤ n / 2 ^ (7 * k) := Int.ediv_nonneg h0 (Int.le_of_lt (pow_pos2 _))
    have hq1 : n / 2 ^ (7 * k) ≤ 9223372036854775807 := Int.le_trans (Int.ediv_le_self _ h0) h1
    have hbs := hb.size
    by_cases hlt : 128 ≤ n / 2 ^ (7 * k)
    · have hk7 : k < 8 := by
        rcases Nat.lt_or_ge k 8 with h | h
        · exact h
        · have := u_div_bd n h1 k h; omega
      have HZ := hide (uzA_go hk7 hz.out (by omega))
      have HD := hide (div_step n k)
      clear hz
      go_wp2_with (at_builtin; refine wpList_append_own _ rfl (.tmp 9) (.tmp 14) 55 rfl w.heap.size 5 i0 (.int .u8 0) 1 1 Tryz.underlying55 hi hz0 hz1 hz2 rfl (by decide) _ _ _ rfl (hown.alloc _) ⟨wr.heap.size, 0, none⟩ 1 1 [.int .u8 (n / 2 ^ (7 * k) % 128 + 128)] rfl rfl (one_at _ _) (one_cell _) (by unfold maxLen; omega) (by omega) (by simp; omega) ?_)
      intro v' w1 hown' hgrow _
      have hbel : Below w.heap.size w w1 := (hb.alloc hbs _).grown hgrow (by simp; omega) (fun j hj => (hown.lt j hj).1)
      have hown2 : w1.ownsRow w.heap.size 5 1 v' (k + 1) ((fst n (k + 1)).map (Value.int .u8)) := by
        rw [fst_succ, List.map_append]; exact hown'
      clear hown' hgrow hown hb
      go_wp2
      go_roundw
      case rel => exact ⟨k + 1, by omega, by rw [HD.out], hown2, hbel, HZ⟩
      case measure => simp [intOf]; omega
    · have hkk : szU n = k + 1 := by
        rcases Nat.lt_or_ge k 8 with h | h
        · exact uzA_yes h hz.out ⟨hq0, by omega⟩
        · have e8 : k = 8 := by omega
          rw [uzA_end (by omega) hk hz.out, e8]
      have HK := hide hkk
      clear hz hkk
      go_wp2_with (at_builtin; refine wpList_append_own _ rfl (.tmp 18) (.tmp 21) 55 rfl w.heap.size 5 i0 (.int .u8 0) 1 1 Tryz.underlying55 hi hz0 hz1 hz2 rfl (by decide) _ _ _ rfl (hown.alloc _) ⟨wr.heap.size, 0, none⟩ 1 1 [.int .u8 (n / 2 ^ (7 * k))] rfl rfl (one_at _ _) (one_cell _) (by unfold maxLen; omega) (by omega) (by simp; omega) ?_)
      intro v' w1 hown' hgrow _
      have hbel : Below w.heap.size w w1 := (hb.alloc hbs _).grown hgrow (by simp; omega) (fun j hj => (hown.lt j hj).1)
      have hcv : (convert 55 9 v').run Tryz.prog w1 = .ok (.string (str (enc n (szU n)))) w1 := by
        have he : (fst n k).map (Value.int .u8) ++ [Value.int .u8 (n / 2 ^ (7 * k))] = (enc n (szU n)).map fun b => Value.int .u8 (b.toNat : Int) := by
          have e1 := fst_enc n k
          rw [show n / 2 ^ (7 * k) % 128 = n / 2 ^ (7 * k) by omega] at e1
          rw [HK.out]
          have e2 := congrArg (List.map (Value.int .u8)) e1
          rw [List.map_append, List.map_map] at e2
          exact e2
        refine string_own (B := w.heap.size) (l := enc n (szU n)) ?_ (by rw [enc_length, HK.out]; omega)
        rw [← he, enc_length, HK.out]
        exact hown'
      clear hown' hgrow hown hb
      go_wp2
      go_ret2
      exact ⟨rfl, hbel⟩

set_option maxHeartbeats 400000 in
theorem refU_no (n : Int) (w : World) (h : n < 0) :
    Calls Tryz.prog 51 #[.int .i64 n] w fun e w' => e = .returned (.tuple #[.string (str []), .bool false]) ∧ w' = w := by
  go_enter Tryz.func51, Tryz.ntmps51
  go_wp2
  go_ret2
  exact ⟨rfl, rfl⟩
end Go.Proofs.YtcbfpikggphokaaGreatDoor

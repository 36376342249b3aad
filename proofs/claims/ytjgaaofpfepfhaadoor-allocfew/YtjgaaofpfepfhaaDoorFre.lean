/-
  The program's has, isTaken, free: the first place that is not taken.
-/
import Derived.Test.YtjgaaofpfepfhaaDoorParts
import Derived.Test.YtjgaaofpfepfhaaDoorCpl
import Derived.Test.YtjgaaofpfepfhaaDoorR0
namespace Go.Proofs.YtjgaaofpfepfhaaDoor
open Go.RowKit
set_option linter.unusedSimpArgs false
set_option linter.unusedVariables false
theorem ahas_any (s : Nat) (n : Int) (w : World) (hs : s < lim) (h0 : 0 ≤ n) (h1 : n < 60) : Calls Tryd.prog 25 #[.int .i64 (s : Int), .int .i64 n] w fun e w' => e = .returned (.bool (s.testBit n.toNat)) ∧ w' = w := by
  have hn : ¬ n < 0 := by omega
  have HB := hide (bit_at n.toNat hs)
  go_enter Tryd.func25, Tryd.ntmps25
  go_wp2_with fail
  go_ret
  exact ⟨ret_bool HB.out, rfl⟩
/-- Whether a cell of a set, of the first n, is at a place. -/
def tkn (pl : Nat → Int) (set : Nat) (n : Nat) (p : Int) : Bool := (List.range n).any fun i => decide (pl i = p) && set.testBit i
theorem tkn_yes {pl : Nat → Int} {set n : Nat} {p : Int} : tkn pl set n p = true ↔ ∃ i, i < n ∧ pl i = p ∧ set.testBit i = true := by
  unfold tkn
  rw [List.any_eq_true]
  simp only [List.mem_range, Bool.and_eq_true, decide_eq_true_eq]
theorem tkn_no {pl : Nat → Int} {set n : Nat} {p : Int} (h : ∀ i, i < n → (decide (pl i = p) && set.testBit i) = false) : tkn pl set n p = false := by
  cases e : tkn pl set n p
  · rfl
  · obtain ⟨i, hi, h1, h2⟩ := tkn_yes.1 e
    have := h i hi
    rw [h1, h2] at this
    simp at this
theorem tkn_congr {pl pl' : Nat → Int} {set set' n : Nat} (h : ∀ i, i < n → pl i = pl' i ∧ set.testBit i = set'.testBit i) (p : Int) : tkn pl set n p = tkn pl' set' n p := by
  rw [Bool.eq_iff_iff, tkn_yes, tkn_yes]
  constructor
  · rintro ⟨i, hi, h1, h2⟩; exact ⟨i, hi, (h i hi).1 ▸ h1, (h i hi).2 ▸ h2⟩
  · rintro ⟨i, hi, h1, h2⟩; exact ⟨i, hi, (h i hi).1.symm ▸ h1, (h i hi).2.symm ▸ h2⟩
/-- The least place from one on that is not taken. -/
structure Fre (pl : Nat → Int) (set n : Nat) (a p : Int) : Prop where
  ge : a ≤ p
  no : tkn pl set n p = false
  all : ∀ q, a ≤ q → q < p → tkn pl set n q = true
theorem Fre.one {pl : Nat → Int} {set n : Nat} {a p q : Int} (h : Fre pl set n a p) (k : Fre pl set n a q) : p = q := by
  rcases Int.lt_trichotomy p q with e | e | e
  · have := k.all p h.ge e; rw [h.no] at this; cases this
  · exact e
  · have := h.all q k.ge e; rw [k.no] at this; cases this
theorem pig (pl : Nat → Int) : ∀ (n : Nat) (L : List Int), L.Nodup → (∀ q ∈ L, ∃ i, i < n ∧ pl i = q) → L.length ≤ n
  | 0, L, _, h => by
    cases L with
    | nil => simp
    | cons q L => obtain ⟨i, hi, _⟩ := h q (List.mem_cons_self ..); omega
  | n + 1, L, hn, h => by
    have h1 := pig pl n (L.erase (pl n)) (hn.erase _) fun q hq => by
      rw [hn.mem_erase_iff] at hq
      obtain ⟨i, hi, e⟩ := h q hq.2
      refine ⟨i, ?_, e⟩
      rcases Nat.lt_succ_iff_lt_or_eq.1 hi with h' | h'
      · exact h'
      · subst h'; exact absurd e.symm hq.1
    rw [List.length_erase] at h1
    split at h1 <;> omega
/-- So many are taken from one on. -/
theorem pig_tkn {pl : Nat → Int} {set n k : Nat} {a : Int} (h : ∀ q, a ≤ q → q < a + k → tkn pl set n q = true) : k ≤ n := by
  have := pig pl n ((List.range k).map fun (j : Nat) => a + (j : Int)) (by
    rw [List.nodup_iff_pairwise_ne, List.pairwise_map]
    refine List.Pairwise.imp ?_ (List.pairwise_lt_range (n := k))
    intro x y hxy; omega) (fun q hq => by
    obtain ⟨j, hj, rfl⟩ := List.mem_map.1 hq
    rw [List.mem_range] at hj
    obtain ⟨i, hi, e, _⟩ := tkn_yes.1 (h (a + j) (by omega) (by omega))
    exact ⟨i, hi, e⟩)
  simpa using this
set_option maxRecDepth 100000 in
set_option maxHeartbeats 6400000 in
theorem taken_any (r n c : Nat) (pl : Nat → Int) (set : Nat) (p : Int) (w : World) (hn : n ≤ 60) (hc : ∀ i, i < n → w.cell? ⟨r, i, none⟩ = some (.int .i64 (pl i))) (hs : set < lim) :
    Calls Tryd.prog 45 #[.int .i64 p, .slice (some ⟨r, 0, none⟩) n c, .int .i64 (set : Int)] w fun e w' => e = .returned (.bool (tkn pl set n p)) ∧ w' = w := by
  have HC := hide hc
  have TY := hide (show ∀ i, i < n → pl i = p → set.testBit i = true → tkn pl set n p = true from fun i hi h1 h2 => tkn_yes.2 ⟨i, hi, h1, h2⟩)
  have TN := hide (@tkn_no pl set n p)
  clear hc
  go_enter Tryd.func45, Tryd.ntmps45
  go_wp2_with fail
  go_loopw [7, 8, 11] (fun _ _ s11 wr => ∃ k : Nat, k ≤ n ∧ s11 = .int .i64 (k : Int) ∧ wr = w ∧ Hid (∀ i, i < k → (decide (pl i = p) && set.testBit i) = false)) (fun _ _ s11 _ => n - (intOf s11).toNat)
  case atStart => exact ⟨0, Nat.zero_le _, rfl, rfl, fun i h => absurd h (Nat.not_lt_zero _)⟩
  case round =>
    obtain ⟨k, hk, rfl, rfl, HK⟩ := hrel
    by_cases hlt : k < n
    · have hx := HC.out k hlt
      have h1 : (k : Int) < (n : Int) := by omega
      have h0 : (0 : Int) ≤ (k : Int) := by omega
      have HA := hide (fun U => ahas_any set (k : Int) U hs h0 (by omega))
      have NXT : Hid ((decide (pl k = p) && set.testBit k) = false → ∀ i, i < k + 1 → (decide (pl i = p) && set.testBit i) = false) := fun h i hi => by
        rcases Nat.lt_succ_iff_lt_or_eq.1 hi with h' | h'
        · exact HK.out i h'
        · subst h'; exact h
      have TYk := hide (TY.out k hlt)
      simp only [Int.toNat_natCast] at HA
      generalize pl k = pk at *
      by_cases e : pk = p
      · cases hb : set.testBit k
        · have N2 := hide (NXT.out (by rw [hb]; simp))
          rw [hb] at HA
          go_wp2_with fail
          refine (HA.out _).mono ?_
          rintro e w1 ⟨rfl, rfl⟩
          go_wp2_with fail
          go_roundw
          case rel => exact ⟨k + 1, hlt, by go_num, trivial, N2⟩
          case measure => simp [intOf]; omega
        · have T2 := hide (TYk.out e hb)
          rw [hb] at HA
          go_wp2_with fail
          refine (HA.out _).mono ?_
          rintro e w1 ⟨rfl, rfl⟩
          go_wp2_with fail
          go_ret
          exact ⟨by rw [T2.out]; rfl, rfl⟩
      · have N2 := hide (NXT.out (by simp [e]))
        have q : (pk == p) = false := by simpa using e
        go_wp2_with fail
        go_roundw
        case rel => exact ⟨k + 1, hlt, by go_num, trivial, N2⟩
        case measure => simp [intOf]; omega
    · obtain rfl : k = n := by omega
      have h1 : ¬ (k : Int) < (k : Int) := by omega
      have T2 := hide (TN.out HK.out)
      go_wp2_with fail
      go_ret
      exact ⟨by rw [T2.out]; rfl, rfl⟩
set_option maxRecDepth 100000 in
set_option maxHeartbeats 6400000 in
theorem free_any (r n c : Nat) (pl : Nat → Int) (set : Nat) (a : Int) (w : World) (hn : n ≤ 60) (ha : 0 ≤ a ∧ a ≤ 6) (hc : ∀ i, i < n → w.cell? ⟨r, i, none⟩ = some (.int .i64 (pl i))) (hs : set < lim) :
    Calls Tryd.prog 26 #[.int .i64 a, .slice (some ⟨r, 0, none⟩) n c, .int .i64 (set : Int)] w fun e w' => (∃ p, e = .returned (.int .i64 p) ∧ Fre pl set n a p) ∧ w' = w := by
  have TA := hide (fun p U (hU : U = w) => taken_any r n c pl set p U hn (by rw [hU]; exact hc) hs)
  clear hc
  go_enter Tryd.func26, Tryd.ntmps26
  go_wp2_with fail
  go_loopw [7] (fun s7 wr => ∃ k : Nat, s7 = .int .i64 (a + (k : Int)) ∧ wr = w ∧ Hid (∀ q, a ≤ q → q < a + (k : Int) → tkn pl set n q = true)) (fun s7 _ => n + 7 - (intOf s7).toNat)
  case atStart => exact ⟨0, by simp, rfl, fun q h1 h2 => by omega⟩
  case round =>
    obtain ⟨k, rfl, rfl, HK⟩ := hrel
    have hkn := pig_tkn HK.out
    have TK := hide (TA.out (a + (k : Int)) _ rfl)
    cases hb : tkn pl set n (a + (k : Int))
    · have FR : Hid (Fre pl set n a (a + (k : Int))) := ⟨by omega, hb, HK.out⟩
      rw [hb] at TK
      go_wp2_with fail
      refine TK.out.mono ?_
      rintro e w1 ⟨rfl, rfl⟩
      go_wp2_with fail
      go_ret
      exact ⟨⟨_, rfl, FR.out⟩, rfl⟩
    · have K2 : Hid (∀ q, a ≤ q → q < a + ((k + 1 : Nat) : Int) → tkn pl set n q = true) := fun q h1 h2 => by
        by_cases h' : q < a + (k : Int)
        · exact HK.out q h1 h'
        · obtain rfl : q = a + (k : Int) := by omega
          exact hb
      have hk2 := pig_tkn K2.out
      rw [hb] at TK
      go_wp2_with fail
      refine TK.out.mono ?_
      rintro e w1 ⟨rfl, rfl⟩
      go_wp2_with fail
      go_roundw
      case rel => exact ⟨k + 1, by go_num, trivial, K2⟩
      case measure => simp [intOf]; omega
end Go.Proofs.YtjgaaofpfepfhaaDoor

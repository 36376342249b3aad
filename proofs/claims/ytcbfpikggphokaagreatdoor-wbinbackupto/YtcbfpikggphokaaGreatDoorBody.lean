/-
  The program's function Body, and the document's own, write instructions one behind the other as the plain function bodyL says, or refuse them, just where one is not right; memory that was there stays as it was.
-/
import Derived.Test.YtcbfpikggphokaaGreatDoorRefBytes
import Derived.Test.YtcbfpikggphokaaGreatDoorBox
namespace Go.Proofs.YtcbfpikggphokaaGreatDoor
open Go.RowKit

theorem iby_len (op n m : Int) : (iby op n m).length ≤ 20 := by
  unfold iby tl
  have a := szU_bd n
  have b := szU_bd m
  have c := szS_bd n
  simp only [List.length_cons]
  repeat' split
  all_goals first | (simp [enc_length]; omega) | simp
/-- Instructions lie in block b from cell off on. -/
def Lists (B : Nat) (W : World) (b off len : Nat) (fo fn fm : Nat → Int) : Prop :=
  ∀ j, j < len → b < B ∧ W.cell? ⟨b, off + j * 3, none⟩ = some (.int .i64 (fo j)) ∧ W.cell? ⟨b, off + j * 3 + 1, none⟩ = some (.int .i64 (fn j)) ∧ W.cell? ⟨b, off + j * 3 + 2, none⟩ = some (.int .i64 (fm j))
theorem Lists.below {B : Nat} {A W : World} {b off len : Nat} {fo fn fm : Nat → Int} (h : Lists B A b off len fo fn fm) (k : Below B A W) : Lists B W b off len fo fn fm := by
  intro j hj
  obtain ⟨hb, c0, c1, c2⟩ := h j hj
  exact ⟨hb, (k.cell (p := ⟨b, off + j * 3, none⟩) hb).trans c0, (k.cell (p := ⟨b, off + j * 3 + 1, none⟩) hb).trans c1, (k.cell (p := ⟨b, off + j * 3 + 2, none⟩) hb).trans c2⟩
theorem Lists.more {B C : Nat} {W : World} {b off len : Nat} {fo fn fm : Nat → Int} (h : Lists B W b off len fo fn fm) (k : B ≤ C) : Lists C W b off len fo fn fm := fun j hj =>
  ⟨Nat.lt_of_lt_of_le (h j hj).1 k, (h j hj).2⟩
/-- The bytes of the first k. -/
def bodyL (fo fn fm : Nat → Int) : Nat → List UInt8
  | 0 => []
  | k + 1 => bodyL fo fn fm k ++ iby (fo k) (fn k) (fm k)
theorem bodyL_len (fo fn fm : Nat → Int) : ∀ k, (bodyL fo fn fm k).length ≤ 20 * k
  | 0 => by simp [bodyL]
  | k + 1 => by
    have := bodyL_len fo fn fm k
    have := iby_len (fo k) (fn k) (fm k)
    simp [bodyL]; omega
/-- All of the first k are right. -/
def allR (fo fn fm : Nat → Int) (k : Nat) : Prop := ∀ j, j < k → rt (fo j) (fn j) (fm j) = true
theorem allR_next {fo fn fm : Nat → Int} {k : Nat} (h : allR fo fn fm k) (hk : rt (fo k) (fn k) (fm k) = true) : allR fo fn fm (k + 1) := by
  intro j hj
  rcases Nat.lt_or_ge j k with c | c
  · exact h j c
  · have : j = k := by omega
    subst this; exact hk
set_option maxRecDepth 100000 in
set_option maxHeartbeats 1600000 in
theorem body_is (b off len cap : Nat) (fo fn fm : Nat → Int) (l : List UInt8) (e : Int) (w : World) (hlen : 24 * len ≤ 140737488351232) (hL : Lists w.heap.size w b off len fo fn fm) (hI : ∀ j, I64 (fn j) ∧ I64 (fm j))
    (hy : allR fo fn fm len → (l, e) = (bodyL fo fn fm len, 0)) (hno : ¬ allR fo fn fm len → (l, e) = ([], 4)) :
    Calls Tryz.prog 96 #[.slice (some ⟨b, off, none⟩) len cap] w fun r w' => r = .returned (.tuple #[.string (str l), .int .i64 e]) ∧ Below w.heap.size w w' := by
  have HL := hide hL
  have HI := hide hI
  have HY := hide hy
  have HN := hide hno
  clear hL hI hy hno
  go_enter Tryz.func96, Tryz.ntmps96
  go_wp2_with fail
  go_loopw [11] (fun iv wr => ∃ k : Nat, k ≤ len ∧ iv = .int .i64 k ∧ Below w.heap.size w wr ∧ Hid (Lib.IsBuilder 177 5 w.heap.size w.heap.size (Lib.byteCells (bodyL fo fn fm k)) wr) ∧ Hid (allR fo fn fm k)) (fun iv _ => len - (intOf iv).toNat)
  case atStart => exact ⟨0, by omega, rfl, bel_one _ _, hide (builder_fresh w), hide (fun j hj => absurd hj (by omega))⟩
  case round =>
    obtain ⟨k, hk, rfl, hb, hB, hA⟩ := hrel
    have hbs := hb.size
    by_cases hlt : k < len
    · obtain ⟨hbb, c0, c1, c2⟩ := HL.out k hlt
      have d0 := (hb.cell (p := ⟨b, off + k * 3, none⟩) hbb).trans c0
      have d1 := (hb.cell (p := ⟨b, off + k * 3 + 1, none⟩) hbb).trans c1
      have d2 := (hb.cell (p := ⟨b, off + k * 3 + 2, none⟩) hbb).trans c2
      have hB1 := hide (builder_kept hB.out (bel_one wr (.cells #[.int .i64 (fo k), .int .i64 (fn k), .int .i64 (fm k)] 52)))
      clear c0 c1 c2
      cases hr : rt (fo k) (fn k) (fm k) with
      | true =>
        have BY := hide (bytes_yes (fo k) (fn k) (fm k) · (HI.out k).1 (HI.out k).2 hr)
        have hA2 := hide (allR_next hA.out hr)
        clear hr
        unfold ins at BY
        go_wp2_with fail
        refine (BY.out _).mono ?_
        rintro r w1 ⟨rfl, b1⟩
        have hB2 := hide (builder_kept hB1.out b1)
        have hb1 := hb.trans ((below_next (bel_one wr _) b1).mono hbs)
        have q1 := hb1.size
        clear b1
        go_wp2_with fail
        refine (b_text w.heap.size w.heap.size (Lib.byteCells (bodyL fo fn fm k)) (str (iby (fo k) (fn k) (fm k))) _ hB2.out (by rw [Lib.byteCells_length, str_size]; have := bodyL_len fo fn fm k; have := iby_len (fo k) (fn k) (fm k); omega) q1).mono ?_
        rintro r w2 ⟨rfl, a2, b2⟩
        have hB3 := hide (at_text a2 rfl)
        have hb2 := hb1.trans b2
        clear a2 b2
        go_wp2_with fail
        go_roundw
        case rel => exact ⟨k + 1, by omega, by go_num, hb2, hB3, hA2⟩
        case measure => simp [intOf]; omega
      | false =>
        have BY := hide (bytes_no (fo k) (fn k) (fm k) · (HI.out k).1 (HI.out k).2 hr)
        have hN := HN.out (fun h => by rw [h k hlt] at hr; cases hr)
        clear hr HN HY
        cases hN
        unfold ins at BY
        go_wp2_with fail
        refine (BY.out _).mono ?_
        rintro r w1 ⟨rfl, b1⟩
        go_wp2_with fail
        go_ret2
        exact ⟨rfl, hb.trans ((below_next (bel_one wr _) b1).mono hbs)⟩
    · have e0 : k = len := by omega
      subst e0
      have hY := HY.out hA.out
      clear HY HN
      cases hY
      go_wp2_with fail
      refine (b_string w.heap.size w.heap.size (bodyL fo fn fm k) _ hB.out hbs).mono ?_
      rintro r w1 ⟨rfl, b1⟩
      go_wp2_with fail
      go_ret2
      exact ⟨rfl, hb.trans b1⟩
set_option maxRecDepth 100000 in
set_option maxHeartbeats 1600000 in
theorem r_body_is (b off len cap : Nat) (fo fn fm : Nat → Int) (l : List UInt8) (e : Bool) (w : World) (hlen : 24 * len ≤ 140737488351232) (hL : Lists w.heap.size w b off len fo fn fm) (hI : ∀ j, I64 (fn j) ∧ I64 (fm j))
    (hy : allR fo fn fm len → (l, e) = (bodyL fo fn fm len, true)) (hno : ¬ allR fo fn fm len → (l, e) = ([], false)) :
    Calls Tryz.prog 26 #[.slice (some ⟨b, off, none⟩) len cap] w fun r w' => r = .returned (.tuple #[.string (str l), .bool e]) ∧ Below w.heap.size w w' := by
  have HL := hide hL
  have HI := hide hI
  have HY := hide hy
  have HN := hide hno
  clear hL hI hy hno
  go_enter Tryz.func26, Tryz.ntmps26
  go_wp2_with fail
  go_loopw [4, 5] (fun sv iv wr => ∃ k : Nat, k ≤ len ∧ iv = .int .i64 k ∧ sv = .string (str (bodyL fo fn fm k)) ∧ Below w.heap.size w wr ∧ Hid (allR fo fn fm k)) (fun _ iv _ => len - (intOf iv).toNat)
  case atStart => exact ⟨0, by omega, rfl, rfl, Below.refl _ _, hide (fun j hj => absurd hj (by omega))⟩
  case round =>
    obtain ⟨k, hk, rfl, rfl, hb, hA⟩ := hrel
    have hbs := hb.size
    by_cases hlt : k < len
    · obtain ⟨hbb, c0, c1, c2⟩ := HL.out k hlt
      have d0 := (hb.cell (p := ⟨b, off + k * 3, none⟩) hbb).trans c0
      have d1 := (hb.cell (p := ⟨b, off + k * 3 + 1, none⟩) hbb).trans c1
      have d2 := (hb.cell (p := ⟨b, off + k * 3 + 2, none⟩) hbb).trans c2
      clear c0 c1 c2
      cases hr : rt (fo k) (fn k) (fm k) with
      | true =>
        have BY := hide (r_bytes_yes (fo k) (fn k) (fm k) · (HI.out k).1 (HI.out k).2 hr)
        have hA2 := hide (allR_next hA.out hr)
        have hz : ¬ 9223372036854775807 < (str (bodyL fo fn fm k)).size + (str (iby (fo k) (fn k) (fm k))).size := by rw [str_size, str_size]; have := bodyL_len fo fn fm k; have := iby_len (fo k) (fn k) (fm k); omega
        clear hr
        unfold ins at BY
        go_wp2_with fail
        refine (BY.out _).mono ?_
        rintro r w1 ⟨rfl, b1⟩
        have hb1 := hb.trans (b1.mono hbs)
        clear b1
        go_wp2_with fail
        go_roundw
        case rel => exact ⟨k + 1, by omega, by go_num, by rw [str_append]; rfl, hb1, hA2⟩
        case measure => simp [intOf]; omega
      | false =>
        have BY := hide (r_bytes_no (fo k) (fn k) (fm k) · hr)
        have hN := HN.out (fun h => by rw [h k hlt] at hr; cases hr)
        clear hr HN HY
        cases hN
        unfold ins at BY
        go_wp2_with fail
        refine (BY.out _).mono ?_
        rintro r w1 ⟨rfl, b1⟩
        go_wp2_with fail
        go_ret2
        exact ⟨rfl, hb.trans (b1.mono hbs)⟩
    · have e0 : k = len := by omega
      subst e0
      have hY := HY.out hA.out
      clear HY HN
      cases hY
      go_wp2_with fail
      go_ret2
      exact ⟨rfl, hb⟩
theorem body_nil (a : Option Addr) (cap : Nat) (w : World) :
    Calls Tryz.prog 96 #[.slice a 0 cap] w fun r w' => r = .returned (.tuple #[.string (str []), .int .i64 0]) ∧ Below w.heap.size w w' := by
  go_enter Tryz.func96, Tryz.ntmps96
  go_wp2_with fail
  go_loopw [11] (fun iv wr => iv = .int .i64 0 ∧ Below w.heap.size w wr ∧ Hid (Lib.IsBuilder 177 5 w.heap.size w.heap.size (Lib.byteCells []) wr)) (fun _ _ => 0)
  case atStart => exact ⟨rfl, bel_one _ _, hide (builder_fresh w)⟩
  case round =>
    obtain ⟨rfl, hb, hB⟩ := hrel
    go_wp2_with fail
    refine (b_string w.heap.size w.heap.size [] _ hB.out hb.size).mono ?_
    rintro r w1 ⟨rfl, b1⟩
    go_wp2_with fail
    go_ret2
    exact ⟨rfl, hb.trans b1⟩
theorem r_body_nil (a : Option Addr) (cap : Nat) (w : World) :
    Calls Tryz.prog 26 #[.slice a 0 cap] w fun r w' => r = .returned (.tuple #[.string (str []), .bool true]) ∧ Below w.heap.size w w' := by
  go_enter Tryz.func26, Tryz.ntmps26
  go_wp2_with fail
  go_loopw [4, 5] (fun sv iv wr => sv = .string (str []) ∧ iv = .int .i64 0 ∧ Below w.heap.size w wr) (fun _ _ _ => 0)
  case atStart => exact ⟨rfl, rfl, Below.refl _ _⟩
  case round =>
    obtain ⟨rfl, rfl, hb⟩ := hrel
    go_wp2_with fail
    go_ret2
    exact ⟨rfl, hb⟩
end Go.Proofs.YtcbfpikggphokaaGreatDoor

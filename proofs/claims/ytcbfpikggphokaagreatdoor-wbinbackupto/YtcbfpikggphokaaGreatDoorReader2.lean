/-
  The program's reader, on: a type, a number with a sign, an instruction, as parsers tell; only its own block is changed, and new memory made.
-/
import Derived.Test.YtcbfpikggphokaaGreatDoorPure
namespace Go.Proofs.YtcbfpikggphokaaGreatDoor
open Go.RowKit

theorem bind_ty (s : Option (List UInt8)) : s.bind tyP = (s.bind oneP).bind fun x => if ri (127 - x.1) = true then some (127 - x.1, x.2) else none := by
  cases s <;> rfl
theorem oneType_any (q : Nat) : RI 144 q (-128) 127 tyP := by
  intro s w h
  have O := hide (oneByte_any q s w h)
  clear h
  go_enter Tryz.func144, Tryz.ntmps144
  go_wp2_with fail
  refine O.out.mono ?_
  rintro e w1 ⟨i, rfl, h0, h1, hx, hs, b1⟩
  have hw : wrap64 (127 - i) = 127 - i := by unfold wrap64; omega
  have HX := hide hx
  have HS := hide hs
  clear hx hs O
  cases hr : ri (127 - i) with
  | true =>
    have R1 := hide (right_is (127 - i) true w1 (by unfold I64; omega) hr)
    have HR := hide hr
    clear hr
    go_wp2_with fail
    refine R1.out.mono ?_
    rintro e w2 ⟨rfl, rfl⟩
    go_wp2_with fail
    go_ret
    refine ⟨127 - i, rfl, by omega, by omega, ?_, ?_, b1⟩
    · intro x r e
      rw [bind_ty] at e
      cases ho : s.bind oneP with
      | none => rw [ho] at e; cases e
      | some y =>
        rw [ho] at e
        have hi := HX.out y.1 y.2 ho
        simp only [Option.bind_some, ← hi, HR.out, if_true, Option.some.injEq, Prod.mk.injEq] at e
        exact e.1
    · have er : rest s tyP = rest s oneP := by
        unfold rest
        rw [bind_ty]
        cases ho : s.bind oneP with
        | none => rfl
        | some y =>
          have hi := HX.out y.1 y.2 ho
          simp only [Option.bind_some, ← hi, HR.out, if_true, Option.map_some]
      rw [er]; exact HS.out
  | false =>
    have R1 := hide (right_is (127 - i) false w1 (by unfold I64; omega) hr)
    obtain ⟨_, ev, row⟩ := HS.out.row
    have FA := hide (fail_any q _ _ w1 row)
    have HR := hide hr
    clear hr row
    go_wp2_with fail
    refine R1.out.mono ?_
    rintro e w2 ⟨rfl, rfl⟩
    go_wp2_with fail
    refine FA.out.mono ?_
    rintro e w3 ⟨rfl, h3, b3⟩
    go_wp2_with fail
    go_ret
    have en : s.bind tyP = none := by
      rw [bind_ty]
      cases ho : s.bind oneP with
      | none => rfl
      | some y =>
        have hi := HX.out y.1 y.2 ho
        simp [← hi, HR.out]
    refine ⟨127 - i, rfl, by omega, by omega, ?_, ?_, b1.trans b3⟩
    · intro x r e; rw [en] at e; cases e
    · rw [rest_none en]; exact h3
/-- Numbers with a sign. -/
def sgnP (b : Int) (l : List UInt8) : Option (Int × List UInt8) := ok3 (tkS l b)
theorem tkS_pair (l : List UInt8) (b : Int) (h : 1 ≤ b ∧ b ≤ 64) : tkS l b = (0, [], 6) ∨ ∃ a r, tkS l b = (a, r, 0) ∧ r.length ≤ l.length := by
  unfold tkS
  rw [if_neg (by omega)]
  split
  · exact Or.inr ⟨_, _, rfl, by simp⟩
  · exact Or.inl rfl
theorem tkS_i64 {l r : List UInt8} {b a : Int} (hb : b = 32 ∨ b = 64) (h : tkS l b = (a, r, 0)) : I64 a := by
  rcases hb with rfl | rfl
  · have := (s32_inv h).1
    unfold I64; omega
  · exact (s64_inv h).1
theorem signed_any (q : Nat) (b : Int) (hb : b = 32 ∨ b = 64) (s : Option (List UInt8)) (w : World) (h : RS w q s) :
    Calls Tryz.prog 147 #[ptr q, .int .i64 b] w fun e w' => ∃ i, e = .returned (.int .i64 i) ∧ I64 i ∧ (∀ x r, s.bind (sgnP b) = some (x, r) → i = x) ∧ RS w' q (rest s (sgnP b)) ∧ But (One q) w w' := by
  have hbb : 1 ≤ b ∧ b ≤ 64 := by omega
  cases s with
  | some l =>
    have hl := h.1
    have c0 := h.2.c 0 _ rfl
    rcases tkS_pair l b hbb with ht | ⟨n, r, ht, hlr⟩
    · have hP : (Option.bind (some l) (sgnP b)) = none := by simp [sgnP, ok3, ht]
      have T := hide (takeS_is l b 0 [] 6 w (by omega) ht)
      have S := hide (fun w1 (b1 : Below w.heap.size w w1) => settle_no q _ (str []) 6 w1 (h.kept b1) (by decide))
      have HP := hide hP
      clear h ht hP hb hbb
      go_enter Tryz.func147, Tryz.ntmps147
      go_wp2_with fail
      refine T.out.mono ?_
      rintro e w1 ⟨rfl, b1⟩
      have S1 := hide (S.out w1 b1)
      clear S T
      go_wp2_with fail
      refine S1.out.mono ?_
      rintro e w2 ⟨rfl, h2, b2⟩
      go_wp2_with fail
      go_ret
      rw [rest_none HP.out]
      exact ⟨0, rfl, ⟨by decide, by decide⟩, (fun x y e => by rw [HP.out] at e; cases e), h2, (But.of b1).trans b2⟩
    · have hP : (Option.bind (some l) (sgnP b)) = some (n, r) := by simp [sgnP, ok3, ht]
      have hi := hide (tkS_i64 hb ht)
      have hr : r.length ≤ 4000 := by omega
      have T := hide (takeS_is l b n r 0 w (by omega) ht)
      have S := hide (fun w1 (b1 : Below w.heap.size w w1) => settle_yes q l r w1 (h.kept b1) hr)
      have HP := hide hP
      clear h ht hP hb hbb hlr
      go_enter Tryz.func147, Tryz.ntmps147
      go_wp2_with fail
      refine T.out.mono ?_
      rintro e w1 ⟨rfl, b1⟩
      have S1 := hide (S.out w1 b1)
      clear S T
      go_wp2_with fail
      refine S1.out.mono ?_
      rintro e w2 ⟨rfl, h2, b2⟩
      go_wp2_with fail
      go_ret
      rw [rest_some HP.out]
      exact ⟨n, rfl, hi.out, (fun x y e => by rw [HP.out] at e; cases e; rfl), h2, (But.of b1).trans b2⟩
  | none =>
    obtain ⟨p, hp, hr, hf⟩ := id h
    have c0 := hr.c 0 _ rfl
    have ht : tkS [] b = (0, [], 6) := by rcases hb with rfl | rfl <;> decide
    have T := hide (takeS_is [] b 0 [] 6 w (by simp) ht)
    have S := hide (fun w1 (b1 : Below w.heap.size w w1) => settle_no q _ (str []) 6 w1 (h.kept b1) (by decide))
    clear h hr hf ht hb hbb
    go_enter Tryz.func147, Tryz.ntmps147
    go_wp2_with fail
    refine T.out.mono ?_
    rintro e w1 ⟨rfl, b1⟩
    have S1 := hide (S.out w1 b1)
    clear S T
    go_wp2_with fail
    refine S1.out.mono ?_
    rintro e w2 ⟨rfl, h2, b2⟩
    go_wp2_with fail
    go_ret
    exact ⟨0, rfl, ⟨by decide, by decide⟩, (fun x y e => by cases e), by rw [rest_none rfl]; exact h2, (But.of b1).trans b2⟩
end Go.Proofs.YtcbfpikggphokaaGreatDoor

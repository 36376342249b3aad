/-
  The statement WbinBack, walked.
  for every module and string whose values and letters are together at most 1048576, the Go function WbinBack returns true (what is written is read as it was; what is read is written as it stood, and fits; anything else is told as ErrLimit or ErrMalformed); the one package-level variable that is listed (errors.errorType) as the program's text lays it.
-/
import Derived.Test.YtcbfpikggphokaaGreatDoorCutNo
import Derived.Deep.CutRange
import Derived.Test.YtcbfpikggphokaaGreatDoorCards
import Derived.Test.YtcbfpikggphokaaGreatDoorTie
import Derived.Test.YtcbfpikggphokaaGreatDoorFrames
import Derived.ShutString
import Derived.LaidLaws
import Derived.LaidHandle
import Derived.Stop.Joined
import Derived.Deep.DeepHandedRow
namespace Go.Proofs.YtcbfpikggphokaaGreatDoor
open Go.RowKit

theorem fitE_one {M : Mo} (h0 : ¬ fitE M = 0) (h4 : ¬ fitE M = 4) : fitE M = 1 := by
  unfold fitE at *
  by_cases h5 : small M = true
  · by_cases h6 : whole M = true
    · rw [if_pos h5, if_pos h6] at h0; exact absurd rfl h0
    · rw [if_pos h5, if_neg h6] at h4; exact absurd rfl h4
  · rw [if_neg h5]
theorem flat_has {α : Type} (P : α → List UInt8) : ∀ (l : List α) (x : α), x ∈ l → (P x).length ≤ (flat P l).length
  | y :: l, x, h => by
    have e : flat P (y :: l) = P y ++ flat P l := rfl
    rw [e, List.length_append]
    rcases List.mem_cons.1 h with rfl | h'
    · omega
    · have := flat_has P l x h'; omega
/-- what Decode tells of any bytes: a module whose bytes they are, and that fits, or a fault of kind 1 or 2 -/
theorem decode_back (b : List UInt8) (w : World) (hL : Laid w) (hb : b.length ≤ 1048576) : Calls Tryz.prog 16 #[.string (str b)] w fun e w' => Below w.heap.size w w' ∧ ((∃ K V, b = encM K ∧ encE K = 0 ∧ fitE K = 0 ∧ e = .returned (.tuple #[moV V K, .nilIface]) ∧ IsMo w'.heap.size w' V K) ∨ (∃ k a pf, (k = 1 ∨ k = 2) ∧ e = .returned (.tuple #[.agg mod0, flt pf]) ∧ FaultAt w' pf k a)) := by
  by_cases hl : 4000 < b.length
  · refine (decode_none b 1 (Or.inl rfl) w (fun w => read_long b w hl hb)).mono ?_
    rintro e w' ⟨pf, rfl, hf, hbl⟩
    exact ⟨hbl, Or.inr ⟨1, 0, pf, Or.inl rfl, rfl, hf⟩⟩
  · by_cases hp : ∃ l, b = head6 ++ l
    · obtain ⟨l, rfl⟩ := hp
      have hll : l.length ≤ 3994 := by simp [head6] at hl; omega
      refine (decode_any l w hL hll).mono ?_
      rintro e w' ⟨hbl, ⟨K, V, h, rfl, hI⟩ | ⟨k, a, pf, h, rfl, hf⟩⟩
      · unfold dcM at h
        cases hr : rdM l with
        | inr a => rw [hr] at h; cases h
        | inl M =>
          rw [hr] at h
          simp only at h
          split at h
          · rename_i hfit
            cases h
            have hs := rdM_vni hr
            have he : head6 ++ l = encM K := by unfold encM; rw [hs]
            refine ⟨hbl, Or.inl ⟨K, V, he, ?_, hfit, rfl, hI⟩⟩
            unfold encE
            rw [if_pos hfit, if_neg (by rw [← he]; exact hl)]
          · cases h
      · refine ⟨hbl, Or.inr ⟨k, a, pf, ?_, rfl, hf⟩⟩
        unfold dcM at h
        cases hr : rdM l with
        | inr a => rw [hr] at h; cases h; exact Or.inr rfl
        | inl M =>
          rw [hr] at h
          simp only at h
          split at h
          · cases h
          · rename_i hfit
            simp only [Sum.inr.injEq, Prod.mk.injEq] at h
            rw [← h.1]
            by_cases h4 : fitE M = 4
            · rw [if_pos h4]; exact Or.inr rfl
            · rw [if_neg h4, fitE_one hfit h4]; exact Or.inl rfl
    · refine (decode_none b 2 (Or.inr rfl) w (fun w => read_none b w (by omega) hp)).mono ?_
      rintro e w' ⟨pf, rfl, hf, hbl⟩
      exact ⟨hbl, Or.inr ⟨2, 0, pf, Or.inr rfl, rfl, hf⟩⟩
/-- what is written is read as it was -/
theorem decode_enc (M : Mo) (a : Fine M) (he : encE M = 0) (w : World) (hL : Laid w) : Calls Tryz.prog 16 #[.string (str (encM M))] w fun e w' => ∃ V, e = .returned (.tuple #[moV V M, .nilIface]) ∧ IsMo w'.heap.size w' V M ∧ Below w.heap.size w w' := by
  obtain ⟨hf, hl⟩ := encE_0 he
  have hll : (secs M).length ≤ 3994 := by unfold encM head6 at hl; simp at hl; omega
  refine (decode_any (secs M) w hL hll).mono ?_
  have hm : dcM (secs M) = .inl M := by unfold dcM; rw [enc_rdM a]; simp [hf]
  rintro e w' ⟨hbl, ⟨K, V, h, rfl, hI⟩ | ⟨k, b, pf, h, _⟩⟩
  · rw [hm] at h; cases h; exact ⟨V, rfl, hI, hbl⟩
  · rw [hm] at h; cases h
theorem few_of {K : Mo} (h : encE K = 0) : ∀ d ∈ K.data, d.bytes.length ≤ 9000000 := by
  intro d hd
  obtain ⟨hf, hl⟩ := encE_0 h
  have h1 : (daB d).length ≤ (lst daB K.data).length := by
    have := flat_has daB K.data d hd
    unfold lst
    rw [List.length_append]
    omega
  have h0 : K.data.length ≠ 0 := fun e => by rw [List.eq_nil_of_length_eq_zero e] at hd; cases hd
  have h2 : (lst daB K.data).length ≤ (encM K).length := by
    have : sec 11 daB K.data = oneB 11 ++ cnt (lst daB K.data) := if_neg h0
    unfold encM secs
    rw [this]
    unfold cnt
    simp only [List.length_append]
    omega
  have h3 : d.bytes.length ≤ (daB d).length := by unfold daB cnt; simp only [List.length_append]; omega
  omega
set_option maxRecDepth 100000 in
set_option maxHeartbeats 6400000 in
theorem back_walk (V : MoV) (M : Mo) (b : List UInt8) (w : World) (hL : Laid w) (h : IsMo w.heap.size w V M) (hd : ∀ d ∈ M.data, d.bytes.length ≤ 9000000) (hb : b.length ≤ 1048576) :
    Calls Tryz.prog 5 #[moV V M, .string (str b)] w fun e w' => e = .returned (.bool true) ∧ Below w.heap.size w w' := by
  have HM := hide h
  obtain ⟨a0, k0, a1, k1, a2, k2, a5, k5, a6, k6, rfl⟩ := h.forms
  have hb0 := bel_one w (.cells #[.slice a0 M.sigs.length k0, .slice a1 M.imports.length k1, .slice a2 M.funcs.length k2, .int .i64 M.m0, .int .i64 M.m1, .slice a5 M.globals.length k5, .slice a6 M.data.length k6] 29)
  have RA := hide (Row.made w #[.slice a0 M.sigs.length k0, .slice a1 M.imports.length k1, .slice a2 M.funcs.length k2, .int .i64 M.m0, .int .i64 M.m1, .slice a5 M.globals.length k5, .slice a6 M.data.length k6] 29)
  have EX := hide (examples_any _ (hL.kept hb0))
  have LW := hide hL
  have HB := hide hb
  have HD := hide hd
  have HZ : (str b).size = b.length := str_size _
  clear h hd hL hb
  unfold moV at *
  dsimp only at *
  go_enter Tryz.func5, Tryz.ntmps5
  go_wp2_with fail
  refine EX.out.mono ?_
  rintro r w1 ⟨rfl, b1⟩
  have hb1 := hb0.trans (b1.mono hb0.size)
  have RA1 := hide (RA.out.kept b1)
  have c0 := RA1.out.c 0 (.slice a0 M.sigs.length k0) rfl
  have c1 := RA1.out.c 1 (.slice a1 M.imports.length k1) rfl
  have c2 := RA1.out.c 2 (.slice a2 M.funcs.length k2) rfl
  have c3 := RA1.out.c 3 (.int .i64 M.m0) rfl
  have c4 := RA1.out.c 4 (.int .i64 M.m1) rfl
  have c5 := RA1.out.c 5 (.slice a5 M.globals.length k5) rfl
  have c6 := RA1.out.c 6 (.slice a6 M.data.length k6) rfl
  clear b1 EX RA hb0
  by_cases he : encE M = 0
  · have E1 := hide (encode_yes _ M w1 HD.out (HM.out.step hb1 hb1.size) he)
    have FM := fine_of HM.out HD.out he
    have DE := hide (fun W hW => decode_enc M FM he W hW)
    have SA := hide (fun (W : World) (U : MoV) (b1 : Below w.heap.size w W) (hU : IsMo W.heap.size W U M) => same_is U _ M M true W FM.toFit hU (HM.out.step b1 b1.size) ⟨fun _ => rfl, fun _ => rfl⟩)
    clear he FM
    unfold moV at *
    go_wp2_with fail
    refine E1.out.mono ?_
    rintro r w2 ⟨rfl, b2⟩
    have hb2 := below_next hb1 b2
    have RA2 := hide (RA1.out.kept b2)
    have D2 := hide (DE.out w2 (LW.out.below hb2 LW.out.pos))
    clear E1 b2 RA1 DE c0 c1 c2 c3 c4 c5 c6
    unfold moV at *
    go_wp2_with fail
    refine D2.out.mono ?_
    rintro r w3 ⟨U, rfl, hI, b3⟩
    obtain ⟨x0, j0, x1, j1, x2, j2, x5, j5, x6, j6, hU⟩ := hI.forms
    cases hU
    have hal := bel_one w3 (.cells #[.slice x0 M.sigs.length j0, .slice x1 M.imports.length j1, .slice x2 M.funcs.length j2, .int .i64 M.m0, .int .i64 M.m1, .slice x5 M.globals.length j5, .slice x6 M.data.length j6] 29)
    have hb3 := below_next (below_next hb2 b3) hal
    have R3 := hide (Row.made w3 #[.slice x0 M.sigs.length j0, .slice x1 M.imports.length j1, .slice x2 M.funcs.length j2, .int .i64 M.m0, .int .i64 M.m1, .slice x5 M.globals.length j5, .slice x6 M.data.length j6] 29)
    have RA3 := hide ((RA2.out.kept b3).alloc (.cells #[.slice x0 M.sigs.length j0, .slice x1 M.imports.length j1, .slice x2 M.funcs.length j2, .int .i64 M.m0, .int .i64 M.m1, .slice x5 M.globals.length j5, .slice x6 M.data.length j6] 29))
    have S3 := hide (SA.out _ _ hb3 (hI.step hal hal.size))
    have c0 := RA3.out.c 0 (.slice a0 M.sigs.length k0) rfl
    have c1 := RA3.out.c 1 (.slice a1 M.imports.length k1) rfl
    have c2 := RA3.out.c 2 (.slice a2 M.funcs.length k2) rfl
    have c3 := RA3.out.c 3 (.int .i64 M.m0) rfl
    have c4 := RA3.out.c 4 (.int .i64 M.m1) rfl
    have c5 := RA3.out.c 5 (.slice a5 M.globals.length k5) rfl
    have c6 := RA3.out.c 6 (.slice a6 M.data.length k6) rfl
    have e0 := R3.out.c 0 (.slice x0 M.sigs.length j0) rfl
    have e1 := R3.out.c 1 (.slice x1 M.imports.length j1) rfl
    have e2 := R3.out.c 2 (.slice x2 M.funcs.length j2) rfl
    have e3 := R3.out.c 3 (.int .i64 M.m0) rfl
    have e4 := R3.out.c 4 (.int .i64 M.m1) rfl
    have e5 := R3.out.c 5 (.slice x5 M.globals.length j5) rfl
    have e6 := R3.out.c 6 (.slice x6 M.data.length j6) rfl
    clear D2 b3 RA2 SA hI hal hb2
    unfold moV at *
    go_wp2_with fail
    refine S3.out.mono ?_
    rintro r wc ⟨rfl, bc⟩
    have hbc := below_next hb3 bc
    have LC := hide (LW.out.below hbc LW.out.pos)
    clear S3 bc R3 RA3 c0 c1 c2 c3 c4 c5 c6 e0 e1 e2 e3 e4 e5 e6 hb3
    have D := hide (decode_back b wc LC.out HB.out)
    go_wp2_with fail
    refine D.out.mono ?_
    rintro r w5 ⟨b5, ⟨K, U, hbk, hek, hfk, rfl, hI⟩ | ⟨k, a, pf, hk, rfl, f5⟩⟩
    · obtain ⟨x0, j0, x1, j1, x2, j2, x5, j5, x6, j6, hU⟩ := hI.forms
      cases hU
      have hal := bel_one w5 (.cells #[.slice x0 K.sigs.length j0, .slice x1 K.imports.length j1, .slice x2 K.funcs.length j2, .int .i64 K.m0, .int .i64 K.m1, .slice x5 K.globals.length j5, .slice x6 K.data.length j6] 29)
      have hb5 := below_next hbc b5
      have hb6 := below_next hb5 hal
      have R6 := hide (Row.made w5 #[.slice x0 K.sigs.length j0, .slice x1 K.imports.length j1, .slice x2 K.funcs.length j2, .int .i64 K.m0, .int .i64 K.m1, .slice x5 K.globals.length j5, .slice x6 K.data.length j6] 29)
      have I6 := hide (hI.step hal hal.size)
      have ddK : Hid (∀ d ∈ K.data, d.bytes.length ≤ 9000000) := hide (few_of hek)
      have E6 := hide (encode_yes _ K _ ddK.out I6.out hek)
      have HBK := hide hbk
      have HFK := hide hfk
      clear D b5 hI hal hb5 hbk hek hfk
      unfold moV at *
      have e0 := R6.out.c 0 (.slice x0 K.sigs.length j0) rfl
      have e1 := R6.out.c 1 (.slice x1 K.imports.length j1) rfl
      have e2 := R6.out.c 2 (.slice x2 K.funcs.length j2) rfl
      have e3 := R6.out.c 3 (.int .i64 K.m0) rfl
      have e4 := R6.out.c 4 (.int .i64 K.m1) rfl
      have e5 := R6.out.c 5 (.slice x5 K.globals.length j5) rfl
      have e6 := R6.out.c 6 (.slice x6 K.data.length j6) rfl
      go_wp2_with fail
      refine E6.out.mono ?_
      rintro r w7 ⟨rfl, b7⟩
      have hb7 := below_next hb6 b7
      have R7 := hide (R6.out.kept b7)
      have I7 := hide (I6.out.step b7 b7.size)
      have L7 := LW.out.below hb7 LW.out.pos
      have FT := hide (fits_any _ K w7 L7 I7.out)
      rw [HFK.out] at FT
      have TT : ((str (encM K)).toList == (str b).toList) = true := by rw [HBK.out]; simp
      have g0 := R7.out.c 0 (.slice x0 K.sigs.length j0) rfl
      have g1 := R7.out.c 1 (.slice x1 K.imports.length j1) rfl
      have g2 := R7.out.c 2 (.slice x2 K.funcs.length j2) rfl
      have g3 := R7.out.c 3 (.int .i64 K.m0) rfl
      have g4 := R7.out.c 4 (.int .i64 K.m1) rfl
      have g5 := R7.out.c 5 (.slice x5 K.globals.length j5) rfl
      have g6 := R7.out.c 6 (.slice x6 K.data.length j6) rfl
      clear E6 b7 R6 L7 e0 e1 e2 e3 e4 e5 e6
      unfold moV at *
      go_wp2_with fail
      refine FT.out.mono ?_
      rintro r w8 ⟨rfl, b8⟩
      have hb8 := below_next hb7 b8
      clear FT b8
      go_wp2_with fail
      go_ret
      exact ⟨rfl, hb8⟩
    · unfold mod0
      have hal := bel_one w5 (.cells #[.slice none 0 0, .slice none 0 0, .slice none 0 0, .int .i64 0, .int .i64 0, .slice none 0 0, .slice none 0 0] 29)
      have hb5 := below_next hbc b5
      have hb6 := below_next hb5 hal
      have R6 := hide (Row.made w5 #[.slice none 0 0, .slice none 0 0, .slice none 0 0, .int .i64 0, .int .i64 0, .slice none 0 0, .slice none 0 0] 29)
      have T6 := hide (told_fault pf k a _ (LW.out.below hb6 LW.out.pos) (f5.kept hal) (by omega))
      clear D b5 f5 hal
      unfold flt at *
      rcases hk with rfl | rfl
      all_goals
        go_wp2_with fail
        refine T6.out.mono ?_
        rintro r w7 ⟨rfl, b7⟩
        have hb7 := below_next hb6 b7
        have g2 := (R6.out.kept b7).c 2 (.slice none 0 0) rfl
        clear T6 b7
        go_wp2_with fail
        go_ret
        exact ⟨rfl, hb7⟩
  · have E1 := hide (encode_no _ M w1 HD.out (HM.out.step hb1 hb1.size) he)
    clear he
    unfold moV at *
    go_wp2_with fail
    refine E1.out.mono ?_
    rintro r wc ⟨p, rfl, _, bc⟩
    have hbc := below_next hb1 bc
    have LC := hide (LW.out.below hbc LW.out.pos)
    clear E1 bc RA1 hb1 c0 c1 c2 c3 c4 c5 c6
    unfold flt
    have D := hide (decode_back b wc LC.out HB.out)
    go_wp2_with fail
    refine D.out.mono ?_
    rintro r w5 ⟨b5, ⟨K, U, hbk, hek, hfk, rfl, hI⟩ | ⟨k, a, pf, hk, rfl, f5⟩⟩
    · obtain ⟨x0, j0, x1, j1, x2, j2, x5, j5, x6, j6, hU⟩ := hI.forms
      cases hU
      have hal := bel_one w5 (.cells #[.slice x0 K.sigs.length j0, .slice x1 K.imports.length j1, .slice x2 K.funcs.length j2, .int .i64 K.m0, .int .i64 K.m1, .slice x5 K.globals.length j5, .slice x6 K.data.length j6] 29)
      have hb5 := below_next hbc b5
      have hb6 := below_next hb5 hal
      have R6 := hide (Row.made w5 #[.slice x0 K.sigs.length j0, .slice x1 K.imports.length j1, .slice x2 K.funcs.length j2, .int .i64 K.m0, .int .i64 K.m1, .slice x5 K.globals.length j5, .slice x6 K.data.length j6] 29)
      have I6 := hide (hI.step hal hal.size)
      have ddK : Hid (∀ d ∈ K.data, d.bytes.length ≤ 9000000) := hide (few_of hek)
      have E6 := hide (encode_yes _ K _ ddK.out I6.out hek)
      have HBK := hide hbk
      have HFK := hide hfk
      clear D b5 hI hal hb5 hbk hek hfk
      unfold moV at *
      have e0 := R6.out.c 0 (.slice x0 K.sigs.length j0) rfl
      have e1 := R6.out.c 1 (.slice x1 K.imports.length j1) rfl
      have e2 := R6.out.c 2 (.slice x2 K.funcs.length j2) rfl
      have e3 := R6.out.c 3 (.int .i64 K.m0) rfl
      have e4 := R6.out.c 4 (.int .i64 K.m1) rfl
      have e5 := R6.out.c 5 (.slice x5 K.globals.length j5) rfl
      have e6 := R6.out.c 6 (.slice x6 K.data.length j6) rfl
      go_wp2_with fail
      refine E6.out.mono ?_
      rintro r w7 ⟨rfl, b7⟩
      have hb7 := below_next hb6 b7
      have R7 := hide (R6.out.kept b7)
      have I7 := hide (I6.out.step b7 b7.size)
      have L7 := LW.out.below hb7 LW.out.pos
      have FT := hide (fits_any _ K w7 L7 I7.out)
      rw [HFK.out] at FT
      have TT : ((str (encM K)).toList == (str b).toList) = true := by rw [HBK.out]; simp
      have g0 := R7.out.c 0 (.slice x0 K.sigs.length j0) rfl
      have g1 := R7.out.c 1 (.slice x1 K.imports.length j1) rfl
      have g2 := R7.out.c 2 (.slice x2 K.funcs.length j2) rfl
      have g3 := R7.out.c 3 (.int .i64 K.m0) rfl
      have g4 := R7.out.c 4 (.int .i64 K.m1) rfl
      have g5 := R7.out.c 5 (.slice x5 K.globals.length j5) rfl
      have g6 := R7.out.c 6 (.slice x6 K.data.length j6) rfl
      clear E6 b7 R6 L7 e0 e1 e2 e3 e4 e5 e6
      unfold moV at *
      go_wp2_with fail
      refine FT.out.mono ?_
      rintro r w8 ⟨rfl, b8⟩
      have hb8 := below_next hb7 b8
      clear FT b8
      go_wp2_with fail
      go_ret
      exact ⟨rfl, hb8⟩
    · unfold mod0
      have hal := bel_one w5 (.cells #[.slice none 0 0, .slice none 0 0, .slice none 0 0, .int .i64 0, .int .i64 0, .slice none 0 0, .slice none 0 0] 29)
      have hb5 := below_next hbc b5
      have hb6 := below_next hb5 hal
      have R6 := hide (Row.made w5 #[.slice none 0 0, .slice none 0 0, .slice none 0 0, .int .i64 0, .int .i64 0, .slice none 0 0, .slice none 0 0] 29)
      have T6 := hide (told_fault pf k a _ (LW.out.below hb6 LW.out.pos) (f5.kept hal) (by omega))
      clear D b5 f5 hal
      unfold flt at *
      rcases hk with rfl | rfl
      all_goals
        go_wp2_with fail
        refine T6.out.mono ?_
        rintro r w7 ⟨rfl, b7⟩
        have hb7 := below_next hb6 b7
        have g2 := (R6.out.kept b7).c 2 (.slice none 0 0) rfl
        clear T6 b7
        go_wp2_with fail
        go_ret
        exact ⟨rfl, hb7⟩
end Go.Proofs.YtcbfpikggphokaaGreatDoor
namespace Go.Proofs.YtcbfpikggphokaaGreatDoor.wbinBackUpto
open Go.ChangeShapes Go.WideShapes Go.ChangeAt Go.RowKit
open Go.ChangeMaps (open_string shut_string)

theorem own : ownKnob Tryz.prog.godebug = none := by kernel_rfl
theorem laidOut : laidOutB Tryz.prog = true := by kernel_rfl
theorem et : Tryz.prog.globalNamed "errors.errorType" = some 0 := by kernel_rfl
theorem rt : (Tryz.prog.cutTypes.find? (·.1 == "internal/reflectlite.rtype")).map (·.2) = some 154 := by kernel_rfl
theorem oneRow : ((List.range 241).filter fun t => Tryz.prog.rowNamed t [101, 114, 114, 111, 114]) = [32] := by kernel_rfl
theorem size : Tryz.prog.types.size = 241 := by kernel_rfl
/-- What the row's list gives. -/
theorem handle_of_laid {W : World} (h : laidMetH Tryz.prog Rows.wbinBackUptoRow.laid W) : Laid W := by
  have h' : laidMet Tryz.prog [] W ∧ handlesMet Tryz.prog Rows.wbinBackUptoRow.laid W := h
  obtain ⟨name, u, ty, e1, e2, e3, e4, e5⟩ := h'.2 _ (List.mem_singleton.2 rfl)
  have en : name = [101, 114, 114, 111, 114] := (Option.some.inj e1).symm
  subst en
  obtain rfl := Option.some.inj (rt.symm.trans e2)
  have hm : ty ∈ (List.range 241).filter fun t => Tryz.prog.rowNamed t [101, 114, 114, 111, 114] := List.mem_filter.2 ⟨List.mem_range.2 (by rw [← size]; exact e3), e4⟩
  rw [oneRow] at hm
  obtain rfl := List.mem_singleton.1 hm
  have hh : typeHandle Tryz.prog 32 = .pointer (some ⟨1, 32, none⟩) := by kernel_rfl
  rw [hh] at e5
  exact (by simpa using World.var?_cell et e5 0 : W.cell? ⟨0, 0, none⟩ = some (.iface 154 (.agg #[.pointer (some ⟨1, 32, none⟩)])))
/-- A world that meets the list. -/
noncomputable def laidWorld (os : Os) : World :=
  { World.holding Tryz.prog os ⟨#[], #[], []⟩ with heap := (World.holding Tryz.prog os ⟨#[], #[], []⟩).heap.modify 0 fun
      | .cells _ t frozen => .cells #[.iface 154 (.agg #[.pointer (some ⟨1, 32, none⟩)])] t frozen
      | o => o }
theorem laid_met (os : Os) : laidMetH Tryz.prog Rows.wbinBackUptoRow.laid ((laidWorld os).forCall (fun _ _ => 0) ⟨#[], #[.agg #[.slice none 0 0, .slice none 0 0, .slice none 0 0, .int .i64 0, .int .i64 0, .slice none 0 0, .slice none 0 0], .string ByteArray.empty], []⟩).memory :=
  laidMetH_of_parts (laidMet_nil _ _) (by kernel_rfl)
theorem reads (os : Os) {H : Type} (enc : TypeId × Value → H) : ∃ places, DataW.whole enc Tryz.prog ((laidWorld os).forCall (fun _ _ => 0) ⟨#[], #[.agg #[.slice none 0 0, .slice none 0 0, .slice none 0 0, .int .i64 0, .int .i64 0, .slice none 0 0, .slice none 0 0], .string ByteArray.empty], []⟩).memory Tryz.f5.params.toList Rows.wbinBackSpec.vars false [.agg #[.slice none 0 0, .slice none 0 0, .slice none 0 0, .int .i64 0, .int .i64 0, .slice none 0 0, .slice none 0 0], .string ByteArray.empty] 8 = some ([.agg [.nil, .nil, .nil, .agg [.lit (.int .i64 0), .lit (.int .i64 0)], .nil, .nil], .lit (.string [])], [], places) :=
  ⟨[], by kernel_rfl⟩
set_option maxHeartbeats 800000 in
set_option maxRecDepth 100000 in
theorem contract (H : Type) (enc : TypeId × Value → H) (W : World) (base : Nat) (args : Array Value) (ds gs : List (DataW H)) (before : List MemPlace)
    (hval : ∀ (j : Nat) t v, Tryz.f5.params[j]? = some t → args[j]? = some v → Value.okWide Tryz.prog W .any base t v)
    (hW : DataW.Whole enc Tryz.prog Tryz.f5.params.toList Rows.wbinBackSpec.vars false W args.toList ds gs before) (hL : laidMetH Tryz.prog Rows.wbinBackUptoRow.laid W) (hk : Rows.uptoBulkAll (ds ++ gs) ≤ 1048576) :
    Calls Tryz.prog 5 args W fun e W' => ∃ v, e = .returned v ∧ Rows.wbinBackSpec.post enc Tryz.prog Tryz.f5 false true false false W args v W' := by
  have hW' := hW
  obtain ⟨p, q, hA0, hV, rfl, hfz, hnd⟩ := hW
  have hA : DataW.TrodAll enc Tryz.prog W 0 (fun _ => true) true Tryz.f5.params.toList args.toList ds p := hA0
  rw [Tryz.params5] at hA hval
  obtain ⟨v0, vs0, d0, ds0, p0, q0, hargs, rfl, rfl, h0, r0⟩ := trodAll_cons hA
  obtain ⟨v1, vs1, d1, ds1, p1, q1, rfl, rfl, rfl, h1, r1⟩ := trodAll_cons r0
  obtain ⟨rfl, rfl, rfl⟩ := trodAll_nil r1
  obtain rfl : args = #[v0, v1] := by cases args; simp_all
  obtain ⟨rfl, rfl⟩ := trodVars_none hV
  clear hA0
  simp only [List.append_nil, Rows.uptoBulkAll] at hk
  have hlt : ∀ x ∈ p0 ++ (p1 ++ []), x.block < W.heap.size := fun x hx => hW'.lt x (by simpa using hx)
  have arg0 : ∀ (W' : World), Below W.heap.size W W' → DataW.Trod enc Tryz.prog W' 0 (fun b => decide (b < W.heap.size)) true 29 v0 d0 p0 :=
    fun W' hn => Below.trod laidOut (by kernel_rfl) (of_decide_eq_true (by kernel_rfl)) h0 hn (fun x hx => hlt x (by simp [hx]))
  have arg1 : ∀ (W' : World), Below W.heap.size W W' → DataW.Trod enc Tryz.prog W' 0 (fun b => decide (b < W.heap.size)) true 9 v1 d1 p1 :=
    fun W' hn => Below.trod laidOut (by kernel_rfl) (of_decide_eq_true (by kernel_rfl)) h1 hn (fun x hx => hlt x (by simp [hx]))
  obtain ⟨V0, M0, rfl, hm0, hd0⟩ := open_mo (hval 0 29 v0 rfl rfl) h0
  obtain ⟨s1, rfl, rfl, rfl, w1⟩ := open_string Tryz.underlying9 (hval 1 9 v1 rfl rfl) h1
  have es1 : s1 = str s1.data.toList := by simp [str]
  have walk : Calls Tryz.prog 5 #[moV V0 M0, .string s1] W fun r w' => r = .returned (.bool true) ∧ Below W.heap.size W w' := by
    rw [es1]
    exact back_walk V0 M0 s1.data.toList W (handle_of_laid hL) hm0 (fun y hy => Nat.le_trans (hd0 y hy) (by omega)) (by simp only [Rows.uptoBulk] at hk; omega)
  refine walk.mono fun e W' ⟨he, bel⟩ => ?_
  subst he
  exact ⟨_, rfl, _, _, _, [], _, [], hW', trodAll_mk1 (shut_bool Tryz.underlying4 _), (trodAll_cons_mk (arg0 _ bel) (trodAll_cons_mk (arg1 _ bel) trodAll_mk0)), rfl, bel.frame _, fun h => by cases h⟩
set_option maxRecDepth 100000 in
theorem lifted (os : Os) (started : os.Started) (H : Type) (enc : TypeId × Value → H) (F : Stop.Interp) :
    ReturnsInHanded {} Tryz.checked os 5 .any ((Rows.OpenSpec.upto Rows.wbinBackSpec).preRow enc Tryz.prog Tryz.f5 Rows.wbinBackUptoRow.domain false Rows.wbinBackUptoRow.laid) (((Rows.OpenSpec.upto Rows.wbinBackSpec).at F).post enc Tryz.prog Tryz.f5 false true false false) := by
  obtain ⟨places, hx⟩ := reads os enc
  refine returnsInHanded_of_row (C := Tryz.checked) (s := (Rows.OpenSpec.upto Rows.wbinBackSpec)) own started (by kernel_rfl) Tryz.func5
    (witness_row_at (enc := enc) (C := Tryz.checked) false (laidWorld os) #[.agg #[.slice none 0 0, .slice none 0 0, .slice none 0 0, .int .i64 0, .int .i64 0, .slice none 0 0, .slice none 0 0], .string ByteArray.empty] rfl (by kernel_rfl) (by kernel_rfl) (by kernel_rfl)
      (OpenSpec.preRow_of_cond 8 hx (by kernel_rfl) (fun k hk => by cases hk; kernel_rfl) (by kernel_rfl) (laid_met os))) ?_
  intro W base args ds gs before hval hW _ hc _ hL _ _
  exact contract H enc W base args ds gs before hval hW hL (of_decide_eq_true (hc _ rfl))
theorem said : Rows.WbinBackUptoSaid :=
  OpenClaim.holds_of_cond 5 Tryz.f5 rfl rfl rfl rfl rfl rfl rfl ⟨rfl, rfl, rfl, rfl, rfl⟩ rfl rfl rfl rfl rfl (by kernel_rfl) Tryz.func5 (by kernel_rfl)
    (of_decide_eq_true (by kernel_rfl)) (by unfold Func.isWrapper; first | (rw [if_pos (by decide +kernel)]; kernel_rfl) | (rw [if_neg (by decide +kernel)]; exact ⟨rfl, rfl⟩))
    (fun os started H enc _ F => by rw [OpenClaim.pre_eq_preRow]; exact lifted os started H enc F)
theorem plain (f : FuncId) (fn : Func) (hf : Tryz.pinned.checked.prog.funcNamed "oubliette/oubliettelaw05.WbinBack" = some f) (hfn : Tryz.pinned.checked.prog.funcs[f]? = some fn) :
    true = Tryz.pinned.checked.prog.looks [] ∧ ∀ (j : Nat) t, fn.params[j]? = some t → Tryz.pinned.checked.prog.wantsStandIn t = false := by
  obtain rfl : f = 5 := Option.some.inj ((show Tryz.prog.funcNamed "oubliette/oubliettelaw05.WbinBack" = some 5 by kernel_rfl).symm.trans hf) |>.symm
  obtain rfl : fn = Tryz.f5 := (Option.some.inj (Tryz.func5.symm.trans hfn)).symm
  refine ⟨by kernel_rfl, fun j t ht => ?_⟩
  rw [Tryz.params5] at ht
  have hm := Array.mem_of_getElem? ht
  simp only [List.mem_toArray, List.mem_cons, List.not_mem_nil, or_false] at hm
  rcases hm with rfl | rfl
  · exact (show Tryz.prog.wantsStandIn 29 = false by kernel_rfl)
  · exact (show Tryz.prog.wantsStandIn 9 = false by kernel_rfl)
end Go.Proofs.YtcbfpikggphokaaGreatDoor.wbinBackUpto
namespace Go.Proofs.YtcbfpikggphokaaGreatDoor
theorem wbinBackUpto_card : Rows.WbinBackUptoCardSaid :=
  Claim7.holds_tied_plain_at .later [] _ _ _ _ wbinBackUpto.said (fun _ h => by cases h) (by kernel_rfl) (fun _ h => by cases h) wbinBackUpto_row_tie rfl ⟨rfl, rfl⟩ (by kernel_rfl) rfl wbinBackUpto.plain (by kernel_rfl)
#print axioms wbinBackUpto_card
end Go.Proofs.YtcbfpikggphokaaGreatDoor

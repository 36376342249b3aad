/-
  The walks of the program's read, by the kind that was found: 20, 21, 22, 23.
-/
import Derived.Test.YtielpebokbolbaaCReadP
namespace Go.Proofs.Ytielpebokbolbaa.Xc
open Go.RowKit
set_option linter.unusedSimpArgs false
set_option linter.unusedVariables false
set_option maxHeartbeats 4000000 in
theorem read_20 (t : ByteArray) (w : World) (c : Int) (hop : fnd (rF (pad t.data.toList)) (ga (pad t.data.toList) (rQ (pad t.data.toList)) / 64) (ga (pad t.data.toList) (rQ (pad t.data.toList)) / 8 % 8) = (20, c)) : RdIs t w := by
  unfold RdIs
  obtain ⟨P, hP⟩ : ∃ P, P = pad t.data.toList := ⟨_, rfl⟩
  rw [← hP] at hop ⊢
  have hlen : P.length = 16 := by rw [hP]; exact pad_len _
  have e1 : (w.alloc (.cells #[.int .i64 0, .bool false, .int .i64 0, .int .i64 0, .int .i64 0, .int .i64 0, .int .i64 0] 49)).heap.size = w.heap.size + 1 := by simp
  have hg : ((w.alloc (.cells #[.int .i64 0, .bool false, .int .i64 0, .int .i64 0, .int .i64 0, .int .i64 0, .int .i64 0] 49)).alloc (.cells z16 110)).heap[w.heap.size + 1]? = some (.cells z16 110) := by rw [← e1]; exact heap_alloc_new _ _
  obtain ⟨C1, C2, _⟩ := copied16 _ (w.heap.size + 1) 110 t hg
  have hcp := run_copy_str (P := Try.prog) _ 50 9 3 5 (w.heap.size + 1) 0 16 16 t ubytes z5 C1 C2
  obtain ⟨w2, hw2⟩ : ∃ w2, w2 = ((w.alloc (.cells #[.int .i64 0, .bool false, .int .i64 0, .int .i64 0, .int .i64 0, .int .i64 0, .int .i64 0] 49)).alloc (.cells z16 110)).setCells (w.heap.size + 1) 0 (Lib.byteCells (t.data.toList.take 16)) := ⟨_, rfl⟩
  rw [← hw2] at hcp
  obtain ⟨M2, R2, W2⟩ := copy_world w w2 t _ hw2
  rw [← hP] at M2
  have HM2 := hide M2
  have HR2 := hide R2
  have HW2 := hide W2
  clear M2 R2 W2 hw2
  simp only [z16] at hcp
  clear C1 C2 e1 hg
  have TR := hide (rex_of P (w.heap.size + 1) hlen)
  have TC := hide (code_of P (w.heap.size + 1) hlen)
  have HX : Hid (rd P = ⟨20, decide (rP P / 8 % 2 = 1), 0, 0, 0, c, 0⟩) := by
    show _ = _
    rw [rd_is]
    simp [rdC, ga_drop, hop, fP, fR2, fRR, fB, h32, List.drop_drop]
  have UP := hide (fun k X hk => upper_any (rP P) k X (rP_bd P).1 (rP_bd P).2 hk)
  have FD := hide (fun X => find_any (rF P) (ga P (rQ P) / 64) (ga P (rQ P) / 8 % 8) X (rF_bd P).1 (rF_bd P).2)
  rw [hop] at FD
  have h8 := bit8 (rP P) (rP_bd P).1 (rP_bd P).2
  obtain ⟨hq1, hq3⟩ := rQ_bd P
  obtain ⟨u10, u18⟩ := upr_bd (rP P) 1
  obtain ⟨u20, u28⟩ := upr_bd (rP P) 2
  obtain ⟨u40, u48⟩ := upr_bd (rP P) 4
  obtain ⟨hM0, hM1⟩ := ga_bd P (rQ P)
  obtain ⟨hN0, hN1⟩ := ga_bd P (rQ P + 1)
  obtain ⟨hf0, hf1⟩ := rF_bd P
  have hn0 : rQ P + (16 - rQ P) = 16 := by omega
  have hn8 : (13 : Int) ≤ ((16 - rQ P : Nat) : Int) := by omega
  have hn9 : ((16 - rQ P : Nat) : Int) ≤ 15 := by omega
  clear hop
  generalize decide (rP P / 8 % 2 = 1) = wd at *
  generalize rP P = p at *
  generalize rO P = o at *
  generalize rF P = f at *
  generalize hMq : ga P (rQ P) = M at *
  generalize hNq : ga P (rQ P + 1) = N at *
  generalize rQ P = q at *
  generalize 16 - q = nn at *
  rw [HX.out]
  clear HX
  go_enter Try.func68, Try.ntmps68
  go_wp2_with fail
  refine (TR.out _ HM2.out).mono ?_
  rintro e w3 ⟨rfl, hb3⟩
  have M3 := HM2.out.bel hb3 (by omega)
  have R3 := HR2.out.bel hb3
  have W3 := bel_tr HW2.out hb3
  clear HM2 HR2 HW2 hb3 TR hcp
  go_wp2_with fail
  refine (TC.out _ M3).mono ?_
  rintro e w4 ⟨rfl, hb4⟩
  have M4 := hide (M3.bel hb4 (by omega))
  have R4 := hide (R3.bel hb4)
  have W4 := hide (bel_tr W3 hb4)
  clear M3 R3 W3 hb4 TC
  have cq := M4.out.at q (by omega)
  rw [hMq] at cq
  have f0 := R4.out.fr 0
  have f1 := R4.out.fr 1
  have f2 := R4.out.fr 2
  have f3 := R4.out.fr 3
  have f4 := R4.out.fr 4
  have f5 := R4.out.fr 5
  have f6 := R4.out.fr 6
  have x0 := R4.out.cell 0 _ rfl
  have x1 := R4.out.cell 1 _ rfl
  have x2 := R4.out.cell 2 _ rfl
  have x3 := R4.out.cell 3 _ rfl
  have x4 := R4.out.cell 4 _ rfl
  have x5 := R4.out.cell 5 _ rfl
  have x6 := R4.out.cell 6 _ rfl
  go_upto_region 36 with (first | (go_at_call 78; refine (split_any _ _ ?ha ?hb).mono ?_; (case ha => first | exact hM0 | exact hN0); (case hb => first | exact hM1 | exact hN1); rintro e w' ⟨rfl, rfl⟩) | (go_at_call 79; refine (FD.out _).mono ?_; rintro e w' ⟨rfl, rfl⟩) | (go_at_call 52; refine (has_any _ _).mono ?_; rintro e w' ⟨rfl, rfl⟩))
  refine gen_world (motive := fun x => Code.wp _ _ _ _ x) (fun x => RowX w.heap.size (xc ⟨20, wd, 0, 0, 0, c, 0⟩) x ∧ Below w.heap.size w x) ⟨RowX.of (((R4.out.set 0 _).set 5 _).set 1 _) rfl, (bel_set (bel_set (bel_set W4.out (Nat.le_refl _) _ _) (Nat.le_refl _) _ _) (Nat.le_refl _) _ _)⟩ ?rest
  case rest =>
    clear f0 f1 f2 f3 f4 f5 f6 x0 x1 x2 x3 x4 x5 x6 cq R4 W4 M4 UP FD h8
    rintro w5 ⟨R5, W5⟩
    have f0 := R5.fr 0
    have f1 := R5.fr 1
    have f2 := R5.fr 2
    have f3 := R5.fr 3
    have f4 := R5.fr 4
    have f5 := R5.fr 5
    have f6 := R5.fr 6
    obtain ⟨x0, x1, x2, x3, x4, x5, x6⟩ := Bx.cells R5
    dsimp only at x0 x1 x2 x3 x4 x5 x6
    have HR := hide R5
    have HW := hide W5
    clear R5 W5
    go_wp2_with fail
    refine bodyPost_ret (results_x rfl _ _ w.heap.size ⟨20, wd, 0, 0, 0, c, 0⟩ rfl (RowX.of (((((((HR.out.set 0 _).set 1 _).set 2 _).set 3 _).set 4 _).set 5 _).set 6 _) rfl)) rfl ?_
    exact ⟨rfl, (bel_set (bel_set (bel_set (bel_set (bel_set (bel_set (bel_set HW.out (Nat.le_refl _) _ _) (Nat.le_refl _) _ _) (Nat.le_refl _) _ _) (Nat.le_refl _) _ _) (Nat.le_refl _) _ _) (Nat.le_refl _) _ _) (Nat.le_refl _) _ _)⟩
set_option maxHeartbeats 4000000 in
theorem read_21 (t : ByteArray) (w : World) (c : Int) (hop : fnd (rF (pad t.data.toList)) (ga (pad t.data.toList) (rQ (pad t.data.toList)) / 64) (ga (pad t.data.toList) (rQ (pad t.data.toList)) / 8 % 8) = (21, c)) : RdIs t w := by
  unfold RdIs
  obtain ⟨P, hP⟩ : ∃ P, P = pad t.data.toList := ⟨_, rfl⟩
  rw [← hP] at hop ⊢
  have hlen : P.length = 16 := by rw [hP]; exact pad_len _
  have e1 : (w.alloc (.cells #[.int .i64 0, .bool false, .int .i64 0, .int .i64 0, .int .i64 0, .int .i64 0, .int .i64 0] 49)).heap.size = w.heap.size + 1 := by simp
  have hg : ((w.alloc (.cells #[.int .i64 0, .bool false, .int .i64 0, .int .i64 0, .int .i64 0, .int .i64 0, .int .i64 0] 49)).alloc (.cells z16 110)).heap[w.heap.size + 1]? = some (.cells z16 110) := by rw [← e1]; exact heap_alloc_new _ _
  obtain ⟨C1, C2, _⟩ := copied16 _ (w.heap.size + 1) 110 t hg
  have hcp := run_copy_str (P := Try.prog) _ 50 9 3 5 (w.heap.size + 1) 0 16 16 t ubytes z5 C1 C2
  obtain ⟨w2, hw2⟩ : ∃ w2, w2 = ((w.alloc (.cells #[.int .i64 0, .bool false, .int .i64 0, .int .i64 0, .int .i64 0, .int .i64 0, .int .i64 0] 49)).alloc (.cells z16 110)).setCells (w.heap.size + 1) 0 (Lib.byteCells (t.data.toList.take 16)) := ⟨_, rfl⟩
  rw [← hw2] at hcp
  obtain ⟨M2, R2, W2⟩ := copy_world w w2 t _ hw2
  rw [← hP] at M2
  have HM2 := hide M2
  have HR2 := hide R2
  have HW2 := hide W2
  clear M2 R2 W2 hw2
  simp only [z16] at hcp
  clear C1 C2 e1 hg
  have TR := hide (rex_of P (w.heap.size + 1) hlen)
  have TC := hide (code_of P (w.heap.size + 1) hlen)
  have HX : Hid (rd P = ⟨21, decide (rP P / 8 % 2 = 1), 0, 0, 0, c, 0⟩) := by
    show _ = _
    rw [rd_is]
    simp [rdC, ga_drop, hop, fP, fR2, fRR, fB, h32, List.drop_drop]
  have UP := hide (fun k X hk => upper_any (rP P) k X (rP_bd P).1 (rP_bd P).2 hk)
  have FD := hide (fun X => find_any (rF P) (ga P (rQ P) / 64) (ga P (rQ P) / 8 % 8) X (rF_bd P).1 (rF_bd P).2)
  rw [hop] at FD
  have h8 := bit8 (rP P) (rP_bd P).1 (rP_bd P).2
  obtain ⟨hq1, hq3⟩ := rQ_bd P
  obtain ⟨u10, u18⟩ := upr_bd (rP P) 1
  obtain ⟨u20, u28⟩ := upr_bd (rP P) 2
  obtain ⟨u40, u48⟩ := upr_bd (rP P) 4
  obtain ⟨hM0, hM1⟩ := ga_bd P (rQ P)
  obtain ⟨hN0, hN1⟩ := ga_bd P (rQ P + 1)
  obtain ⟨hf0, hf1⟩ := rF_bd P
  have hn0 : rQ P + (16 - rQ P) = 16 := by omega
  have hn8 : (13 : Int) ≤ ((16 - rQ P : Nat) : Int) := by omega
  have hn9 : ((16 - rQ P : Nat) : Int) ≤ 15 := by omega
  clear hop
  generalize decide (rP P / 8 % 2 = 1) = wd at *
  generalize rP P = p at *
  generalize rO P = o at *
  generalize rF P = f at *
  generalize hMq : ga P (rQ P) = M at *
  generalize hNq : ga P (rQ P + 1) = N at *
  generalize rQ P = q at *
  generalize 16 - q = nn at *
  rw [HX.out]
  clear HX
  go_enter Try.func68, Try.ntmps68
  go_wp2_with fail
  refine (TR.out _ HM2.out).mono ?_
  rintro e w3 ⟨rfl, hb3⟩
  have M3 := HM2.out.bel hb3 (by omega)
  have R3 := HR2.out.bel hb3
  have W3 := bel_tr HW2.out hb3
  clear HM2 HR2 HW2 hb3 TR hcp
  go_wp2_with fail
  refine (TC.out _ M3).mono ?_
  rintro e w4 ⟨rfl, hb4⟩
  have M4 := hide (M3.bel hb4 (by omega))
  have R4 := hide (R3.bel hb4)
  have W4 := hide (bel_tr W3 hb4)
  clear M3 R3 W3 hb4 TC
  have cq := M4.out.at q (by omega)
  rw [hMq] at cq
  have f0 := R4.out.fr 0
  have f1 := R4.out.fr 1
  have f2 := R4.out.fr 2
  have f3 := R4.out.fr 3
  have f4 := R4.out.fr 4
  have f5 := R4.out.fr 5
  have f6 := R4.out.fr 6
  have x0 := R4.out.cell 0 _ rfl
  have x1 := R4.out.cell 1 _ rfl
  have x2 := R4.out.cell 2 _ rfl
  have x3 := R4.out.cell 3 _ rfl
  have x4 := R4.out.cell 4 _ rfl
  have x5 := R4.out.cell 5 _ rfl
  have x6 := R4.out.cell 6 _ rfl
  go_upto_region 36 with (first | (go_at_call 78; refine (split_any _ _ ?ha ?hb).mono ?_; (case ha => first | exact hM0 | exact hN0); (case hb => first | exact hM1 | exact hN1); rintro e w' ⟨rfl, rfl⟩) | (go_at_call 79; refine (FD.out _).mono ?_; rintro e w' ⟨rfl, rfl⟩) | (go_at_call 52; refine (has_any _ _).mono ?_; rintro e w' ⟨rfl, rfl⟩))
  refine gen_world (motive := fun x => Code.wp _ _ _ _ x) (fun x => RowX w.heap.size (xc ⟨21, wd, 0, 0, 0, c, 0⟩) x ∧ Below w.heap.size w x) ⟨RowX.of (((R4.out.set 0 _).set 5 _).set 1 _) rfl, (bel_set (bel_set (bel_set W4.out (Nat.le_refl _) _ _) (Nat.le_refl _) _ _) (Nat.le_refl _) _ _)⟩ ?rest
  case rest =>
    clear f0 f1 f2 f3 f4 f5 f6 x0 x1 x2 x3 x4 x5 x6 cq R4 W4 M4 UP FD h8
    rintro w5 ⟨R5, W5⟩
    have f0 := R5.fr 0
    have f1 := R5.fr 1
    have f2 := R5.fr 2
    have f3 := R5.fr 3
    have f4 := R5.fr 4
    have f5 := R5.fr 5
    have f6 := R5.fr 6
    obtain ⟨x0, x1, x2, x3, x4, x5, x6⟩ := Bx.cells R5
    dsimp only at x0 x1 x2 x3 x4 x5 x6
    have HR := hide R5
    have HW := hide W5
    clear R5 W5
    go_wp2_with fail
    refine bodyPost_ret (results_x rfl _ _ w.heap.size ⟨21, wd, 0, 0, 0, c, 0⟩ rfl (RowX.of (((((((HR.out.set 0 _).set 1 _).set 2 _).set 3 _).set 4 _).set 5 _).set 6 _) rfl)) rfl ?_
    exact ⟨rfl, (bel_set (bel_set (bel_set (bel_set (bel_set (bel_set (bel_set HW.out (Nat.le_refl _) _ _) (Nat.le_refl _) _ _) (Nat.le_refl _) _ _) (Nat.le_refl _) _ _) (Nat.le_refl _) _ _) (Nat.le_refl _) _ _) (Nat.le_refl _) _ _)⟩
set_option maxHeartbeats 4000000 in
theorem read_22 (t : ByteArray) (w : World) (c : Int) (hop : fnd (rF (pad t.data.toList)) (ga (pad t.data.toList) (rQ (pad t.data.toList)) / 64) (ga (pad t.data.toList) (rQ (pad t.data.toList)) / 8 % 8) = (22, c)) : RdIs t w := by
  unfold RdIs
  obtain ⟨P, hP⟩ : ∃ P, P = pad t.data.toList := ⟨_, rfl⟩
  rw [← hP] at hop ⊢
  have hlen : P.length = 16 := by rw [hP]; exact pad_len _
  have e1 : (w.alloc (.cells #[.int .i64 0, .bool false, .int .i64 0, .int .i64 0, .int .i64 0, .int .i64 0, .int .i64 0] 49)).heap.size = w.heap.size + 1 := by simp
  have hg : ((w.alloc (.cells #[.int .i64 0, .bool false, .int .i64 0, .int .i64 0, .int .i64 0, .int .i64 0, .int .i64 0] 49)).alloc (.cells z16 110)).heap[w.heap.size + 1]? = some (.cells z16 110) := by rw [← e1]; exact heap_alloc_new _ _
  obtain ⟨C1, C2, _⟩ := copied16 _ (w.heap.size + 1) 110 t hg
  have hcp := run_copy_str (P := Try.prog) _ 50 9 3 5 (w.heap.size + 1) 0 16 16 t ubytes z5 C1 C2
  obtain ⟨w2, hw2⟩ : ∃ w2, w2 = ((w.alloc (.cells #[.int .i64 0, .bool false, .int .i64 0, .int .i64 0, .int .i64 0, .int .i64 0, .int .i64 0] 49)).alloc (.cells z16 110)).setCells (w.heap.size + 1) 0 (Lib.byteCells (t.data.toList.take 16)) := ⟨_, rfl⟩
  rw [← hw2] at hcp
  obtain ⟨M2, R2, W2⟩ := copy_world w w2 t _ hw2
  rw [← hP] at M2
  have HM2 := hide M2
  have HR2 := hide R2
  have HW2 := hide W2
  clear M2 R2 W2 hw2
  simp only [z16] at hcp
  clear C1 C2 e1 hg
  have TR := hide (rex_of P (w.heap.size + 1) hlen)
  have TC := hide (code_of P (w.heap.size + 1) hlen)
  have HX : Hid (rd P = ⟨22, decide (rP P / 8 % 2 = 1), 0, 0, 0, c, 0⟩) := by
    show _ = _
    rw [rd_is]
    simp [rdC, ga_drop, hop, fP, fR2, fRR, fB, h32, List.drop_drop]
  have UP := hide (fun k X hk => upper_any (rP P) k X (rP_bd P).1 (rP_bd P).2 hk)
  have FD := hide (fun X => find_any (rF P) (ga P (rQ P) / 64) (ga P (rQ P) / 8 % 8) X (rF_bd P).1 (rF_bd P).2)
  rw [hop] at FD
  have h8 := bit8 (rP P) (rP_bd P).1 (rP_bd P).2
  obtain ⟨hq1, hq3⟩ := rQ_bd P
  obtain ⟨u10, u18⟩ := upr_bd (rP P) 1
  obtain ⟨u20, u28⟩ := upr_bd (rP P) 2
  obtain ⟨u40, u48⟩ := upr_bd (rP P) 4
  obtain ⟨hM0, hM1⟩ := ga_bd P (rQ P)
  obtain ⟨hN0, hN1⟩ := ga_bd P (rQ P + 1)
  obtain ⟨hf0, hf1⟩ := rF_bd P
  have hn0 : rQ P + (16 - rQ P) = 16 := by omega
  have hn8 : (13 : Int) ≤ ((16 - rQ P : Nat) : Int) := by omega
  have hn9 : ((16 - rQ P : Nat) : Int) ≤ 15 := by omega
  clear hop
  generalize decide (rP P / 8 % 2 = 1) = wd at *
  generalize rP P = p at *
  generalize rO P = o at *
  generalize rF P = f at *
  generalize hMq : ga P (rQ P) = M at *
  generalize hNq : ga P (rQ P + 1) = N at *
  generalize rQ P = q at *
  generalize 16 - q = nn at *
  rw [HX.out]
  clear HX
  go_enter Try.func68, Try.ntmps68
  go_wp2_with fail
  refine (TR.out _ HM2.out).mono ?_
  rintro e w3 ⟨rfl, hb3⟩
  have M3 := HM2.out.bel hb3 (by omega)
  have R3 := HR2.out.bel hb3
  have W3 := bel_tr HW2.out hb3
  clear HM2 HR2 HW2 hb3 TR hcp
  go_wp2_with fail
  refine (TC.out _ M3).mono ?_
  rintro e w4 ⟨rfl, hb4⟩
  have M4 := hide (M3.bel hb4 (by omega))
  have R4 := hide (R3.bel hb4)
  have W4 := hide (bel_tr W3 hb4)
  clear M3 R3 W3 hb4 TC
  have cq := M4.out.at q (by omega)
  rw [hMq] at cq
  have f0 := R4.out.fr 0
  have f1 := R4.out.fr 1
  have f2 := R4.out.fr 2
  have f3 := R4.out.fr 3
  have f4 := R4.out.fr 4
  have f5 := R4.out.fr 5
  have f6 := R4.out.fr 6
  have x0 := R4.out.cell 0 _ rfl
  have x1 := R4.out.cell 1 _ rfl
  have x2 := R4.out.cell 2 _ rfl
  have x3 := R4.out.cell 3 _ rfl
  have x4 := R4.out.cell 4 _ rfl
  have x5 := R4.out.cell 5 _ rfl
  have x6 := R4.out.cell 6 _ rfl
  go_upto_region 36 with (first | (go_at_call 78; refine (split_any _ _ ?ha ?hb).mono ?_; (case ha => first | exact hM0 | exact hN0); (case hb => first | exact hM1 | exact hN1); rintro e w' ⟨rfl, rfl⟩) | (go_at_call 79; refine (FD.out _).mono ?_; rintro e w' ⟨rfl, rfl⟩) | (go_at_call 52; refine (has_any _ _).mono ?_; rintro e w' ⟨rfl, rfl⟩))
  refine gen_world (motive := fun x => Code.wp _ _ _ _ x) (fun x => RowX w.heap.size (xc ⟨22, wd, 0, 0, 0, c, 0⟩) x ∧ Below w.heap.size w x) ⟨RowX.of (((R4.out.set 0 _).set 5 _).set 1 _) rfl, (bel_set (bel_set (bel_set W4.out (Nat.le_refl _) _ _) (Nat.le_refl _) _ _) (Nat.le_refl _) _ _)⟩ ?rest
  case rest =>
    clear f0 f1 f2 f3 f4 f5 f6 x0 x1 x2 x3 x4 x5 x6 cq R4 W4 M4 UP FD h8
    rintro w5 ⟨R5, W5⟩
    have f0 := R5.fr 0
    have f1 := R5.fr 1
    have f2 := R5.fr 2
    have f3 := R5.fr 3
    have f4 := R5.fr 4
    have f5 := R5.fr 5
    have f6 := R5.fr 6
    obtain ⟨x0, x1, x2, x3, x4, x5, x6⟩ := Bx.cells R5
    dsimp only at x0 x1 x2 x3 x4 x5 x6
    have HR := hide R5
    have HW := hide W5
    clear R5 W5
    go_wp2_with fail
    refine bodyPost_ret (results_x rfl _ _ w.heap.size ⟨22, wd, 0, 0, 0, c, 0⟩ rfl (RowX.of (((((((HR.out.set 0 _).set 1 _).set 2 _).set 3 _).set 4 _).set 5 _).set 6 _) rfl)) rfl ?_
    exact ⟨rfl, (bel_set (bel_set (bel_set (bel_set (bel_set (bel_set (bel_set HW.out (Nat.le_refl _) _ _) (Nat.le_refl _) _ _) (Nat.le_refl _) _ _) (Nat.le_refl _) _ _) (Nat.le_refl _) _ _) (Nat.le_refl _) _ _) (Nat.le_refl _) _ _)⟩
set_option maxHeartbeats 4000000 in
theorem read_23 (t : ByteArray) (w : World) (c : Int) (hop : fnd (rF (pad t.data.toList)) (ga (pad t.data.toList) (rQ (pad t.data.toList)) / 64) (ga (pad t.data.toList) (rQ (pad t.data.toList)) / 8 % 8) = (23, c)) : RdIs t w := by
  unfold RdIs
  obtain ⟨P, hP⟩ : ∃ P, P = pad t.data.toList := ⟨_, rfl⟩
  rw [← hP] at hop ⊢
  have hlen : P.length = 16 := by rw [hP]; exact pad_len _
  have e1 : (w.alloc (.cells #[.int .i64 0, .bool false, .int .i64 0, .int .i64 0, .int .i64 0, .int .i64 0, .int .i64 0] 49)).heap.size = w.heap.size + 1 := by simp
  have hg : ((w.alloc (.cells #[.int .i64 0, .bool false, .int .i64 0, .int .i64 0, .int .i64 0, .int .i64 0, .int .i64 0] 49)).alloc (.cells z16 110)).heap[w.heap.size + 1]? = some (.cells z16 110) := by rw [← e1]; exact heap_alloc_new _ _
  obtain ⟨C1, C2, _⟩ := copied16 _ (w.heap.size + 1) 110 t hg
  have hcp := run_copy_str (P := Try.prog) _ 50 9 3 5 (w.heap.size + 1) 0 16 16 t ubytes z5 C1 C2
  obtain ⟨w2, hw2⟩ : ∃ w2, w2 = ((w.alloc (.cells #[.int .i64 0, .bool false, .int .i64 0, .int .i64 0, .int .i64 0, .int .i64 0, .int .i64 0] 49)).alloc (.cells z16 110)).setCells (w.heap.size + 1) 0 (Lib.byteCells (t.data.toList.take 16)) := ⟨_, rfl⟩
  rw [← hw2] at hcp
  obtain ⟨M2, R2, W2⟩ := copy_world w w2 t _ hw2
  rw [← hP] at M2
  have HM2 := hide M2
  have HR2 := hide R2
  have HW2 := hide W2
  clear M2 R2 W2 hw2
  simp only [z16] at hcp
  clear C1 C2 e1 hg
  have TR := hide (rex_of P (w.heap.size + 1) hlen)
  have TC := hide (code_of P (w.heap.size + 1) hlen)
  have HX : Hid (rd P = ⟨23, decide (rP P / 8 % 2 = 1), 0, 0, 0, c, 0⟩) := by
    show _ = _
    rw [rd_is]
    simp [rdC, ga_drop, hop, fP, fR2, fRR, fB, h32, List.drop_drop]
  have UP := hide (fun k X hk => upper_any (rP P) k X (rP_bd P).1 (rP_bd P).2 hk)
  have FD := hide (fun X => find_any (rF P) (ga P (rQ P) / 64) (ga P (rQ P) / 8 % 8) X (rF_bd P).1 (rF_bd P).2)
  rw [hop] at FD
  have h8 := bit8 (rP P) (rP_bd P).1 (rP_bd P).2
  obtain ⟨hq1, hq3⟩ := rQ_bd P
  obtain ⟨u10, u18⟩ := upr_bd (rP P) 1
  obtain ⟨u20, u28⟩ := upr_bd (rP P) 2
  obtain ⟨u40, u48⟩ := upr_bd (rP P) 4
  obtain ⟨hM0, hM1⟩ := ga_bd P (rQ P)
  obtain ⟨hN0, hN1⟩ := ga_bd P (rQ P + 1)
  obtain ⟨hf0, hf1⟩ := rF_bd P
  have hn0 : rQ P + (16 - rQ P) = 16 := by omega
  have hn8 : (13 : Int) ≤ ((16 - rQ P : Nat) : Int) := by omega
  have hn9 : ((16 - rQ P : Nat) : Int) ≤ 15 := by omega
  clear hop
  generalize decide (rP P / 8 % 2 = 1) = wd at *
  generalize rP P = p at *
  generalize rO P = o at *
  generalize rF P = f at *
  generalize hMq : ga P (rQ P) = M at *
  generalize hNq : ga P (rQ P + 1) = N at *
  generalize rQ P = q at *
  generalize 16 - q = nn at *
  rw [HX.out]
  clear HX
  go_enter Try.func68, Try.ntmps68
  go_wp2_with fail
  refine (TR.out _ HM2.out).mono ?_
  rintro e w3 ⟨rfl, hb3⟩
  have M3 := HM2.out.bel hb3 (by omega)
  have R3 := HR2.out.bel hb3
  have W3 := bel_tr HW2.out hb3
  clear HM2 HR2 HW2 hb3 TR hcp
  go_wp2_with fail
  refine (TC.out _ M3).mono ?_
  rintro e w4 ⟨rfl, hb4⟩
  have M4 := hide (M3.bel hb4 (by omega))
  have R4 := hide (R3.bel hb4)
  have W4 := hide (bel_tr W3 hb4)
  clear M3 R3 W3 hb4 TC
  have cq := M4.out.at q (by omega)
  rw [hMq] at cq
  have f0 := R4.out.fr 0
  have f1 := R4.out.fr 1
  have f2 := R4.out.fr 2
  have f3 := R4.out.fr 3
  have f4 := R4.out.fr 4
  have f5 := R4.out.fr 5
  have f6 := R4.out.fr 6
  have x0 := R4.out.cell 0 _ rfl
  have x1 := R4.out.cell 1 _ rfl
  have x2 := R4.out.cell 2 _ rfl
  have x3 := R4.out.cell 3 _ rfl
  have x4 := R4.out.cell 4 _ rfl
  have x5 := R4.out.cell 5 _ rfl
  have x6 := R4.out.cell 6 _ rfl
  go_upto_region 36 with (first | (go_at_call 78; refine (split_any _ _ ?ha ?hb).mono ?_; (case ha => first | exact hM0 | exact hN0); (case hb => first | exact hM1 | exact hN1); rintro e w' ⟨rfl, rfl⟩) | (go_at_call 79; refine (FD.out _).mono ?_; rintro e w' ⟨rfl, rfl⟩) | (go_at_call 52; refine (has_any _ _).mono ?_; rintro e w' ⟨rfl, rfl⟩))
  refine gen_world (motive := fun x => Code.wp _ _ _ _ x) (fun x => RowX w.heap.size (xc ⟨23, wd, 0, 0, 0, c, 0⟩) x ∧ Below w.heap.size w x) ⟨RowX.of (((R4.out.set 0 _).set 5 _).set 1 _) rfl, (bel_set (bel_set (bel_set W4.out (Nat.le_refl _) _ _) (Nat.le_refl _) _ _) (Nat.le_refl _) _ _)⟩ ?rest
  case rest =>
    clear f0 f1 f2 f3 f4 f5 f6 x0 x1 x2 x3 x4 x5 x6 cq R4 W4 M4 UP FD h8
    rintro w5 ⟨R5, W5⟩
    have f0 := R5.fr 0
    have f1 := R5.fr 1
    have f2 := R5.fr 2
    have f3 := R5.fr 3
    have f4 := R5.fr 4
    have f5 := R5.fr 5
    have f6 := R5.fr 6
    obtain ⟨x0, x1, x2, x3, x4, x5, x6⟩ := Bx.cells R5
    dsimp only at x0 x1 x2 x3 x4 x5 x6
    have HR := hide R5
    have HW := hide W5
    clear R5 W5
    go_wp2_with fail
    refine bodyPost_ret (results_x rfl _ _ w.heap.size ⟨23, wd, 0, 0, 0, c, 0⟩ rfl (RowX.of (((((((HR.out.set 0 _).set 1 _).set 2 _).set 3 _).set 4 _).set 5 _).set 6 _) rfl)) rfl ?_
    exact ⟨rfl, (bel_set (bel_set (bel_set (bel_set (bel_set (bel_set (bel_set HW.out (Nat.le_refl _) _ _) (Nat.le_refl _) _ _) (Nat.le_refl _) _ _) (Nat.le_refl _) _ _) (Nat.le_refl _) _ _) (Nat.le_refl _) _ _) (Nat.le_refl _) _ _)⟩
end Go.Proofs.Ytielpebokbolbaa.Xc

/-
  ValidSecret: the walk where the second kind may not take the first.
-/
import Derived.Test.YtamofhkmhjckaabGreatDoorSecP
namespace Go.Proofs.YtamofhkmhjckaabGreatDoor
open Go.RowKit

set_option maxRecDepth 100000 in
set_option maxHeartbeats 8000000 in
theorem sec_w0 (a b : Int) (w : World) (EX : Hid (Calls Tryz.prog 6 #[] w fun e w' => e = .returned (.bool true) ∧ Below w.heap.size w w')) (HL : Hid (Laid w)) (HA : Hid (I64 a)) (HB : Hid (I64 b)) (HRA : Hid (ri a = true)) (HRB : Hid (ri b = true)) (HFL : Hid (fl a b = false)) (S1 : Hid (okE (chkM (secM 0 false se1 a b)) = false)) (S2 : Hid (okE (chkM (secM 0 false se2 a b)) = false)) (S3 : Hid (okE (chkM (secM 1 false se3 a b)) = false)) (S4 : Hid (okE (chkM (secM 1 false se4 a b)) = false)) :
    Calls Tryz.prog 4 #[.int .i64 a, .int .i64 b, .bool false] w fun e w' => e = .returned (.bool true) ∧ Below w.heap.size w w' := by
  have X := hide sec_i64
  go_enter Tryz.func4, Tryz.ntmps4
  go_wp2_with fail
  refine EX.out.mono ?_
  rintro e w1 ⟨rfl, b1⟩
  have HN := hide b1.size
  obtain ⟨A0, B0, Z0⟩ := sec_start a b (.slice (some ⟨w1.heap.size + 1 + 1 + 1 + 1 + 1 + 1 + 1 + 1 + 1, 0, none⟩) 1 1) w1
  have HB0 := hide (below_next b1 B0)
  have A0h := hide A0
  have HZ := hide Z0
  clear b1 B0 Z0 A0
  go_wp2_with fail
  refine (right_is a true _ HA.out HRA.out).mono ?_
  rintro e w2 ⟨rfl, rfl⟩
  go_wp2_with fail
  refine (right_is b true _ HB.out HRB.out).mono ?_
  rintro e w3 ⟨rfl, rfl⟩
  have A0' := A0h.out
  obtain ⟨A1, I1, C1⟩ := sec_phase0 (w3.heap.size + 1 + 1 + 1 + 1 + 1 + 1 + 1 + 1) A0' HB0.out HA.out HB.out HZ.out (sg := 0) false se1 3 ⟨by decide, by decide⟩ rfl X.out.1 #[.int .i64 32, .int .i64 0, .int .i64 0, .int .i64 33, .int .i64 1, .int .i64 0, .int .i64 11, .int .i64 0, .int .i64 0] rfl
  have I1' := hide I1
  have C1' := hide C1
  have A1h := hide A1
  clear I1 C1 A1 A0'
  go_wp2_with fail
  refine (valid_no (secV w3.heap.size _) (secM 0 false se1 a b) S1.out _ (HL.out.kept C1'.out) I1'.out (by simp [secM])).mono ?_
  rintro e w4 ⟨⟨p1, rfl⟩, b1⟩
  unfold flt
  have A1' := A1h.out.next b1
  have A1h2 := hide A1'
  have HB1 := hide (below_next C1'.out b1)
  clear b1 I1' C1' A1h
  obtain ⟨D2, A2, I2, C2⟩ := sec_phase A1' HB1.out HN.out HA.out HB.out w4.heap.size rfl (sg := 0) false se2 3 ⟨by decide, by decide⟩ rfl X.out.2.1 #[.int .i64 32, .int .i64 0, .int .i64 0, .int .i64 36, .int .i64 0, .int .i64 0, .int .i64 11, .int .i64 0, .int .i64 0] rfl
  have I2' := hide I2
  have C2' := hide C2
  have x2 := D2.m.c 2 _ rfl
  have xf := D2.m.fr 2
  have y0 := A2.m.c 0 _ rfl
  have y1 := A2.m.c 1 _ rfl
  have y2 := A2.m.c 2 _ rfl
  have y3 := A2.m.c 3 _ rfl
  have y4 := A2.m.c 4 _ rfl
  have y5 := A2.m.c 5 _ rfl
  have y6 := A2.m.c 6 _ rfl
  simp only [List.getElem_toArray, List.getElem_cons_zero, List.getElem_cons_succ] at x2 y0 y1 y2 y3 y4 y5 y6
  clear D2
  have A2h := hide A2
  clear I2 C2 A2 A1'
  have g0 := A1h2.out.g.c 0 _ rfl
  have g1 := A1h2.out.g.c 1 _ rfl
  have g2 := A1h2.out.g.c 2 _ rfl
  have e0 := A1h2.out.e.c 0 _ rfl
  have e1 := A1h2.out.e.c 1 _ rfl
  have e2 := A1h2.out.e.c 2 _ rfl
  simp only [List.getElem_toArray, List.getElem_cons_zero, List.getElem_cons_succ] at g0 g1 g2 e0 e1 e2
  have l1 := A1h2.out.m.lt
  have l2 := A1h2.out.g.lt
  have l3 := A1h2.out.e.lt
  have u1 : ¬ (w3.heap.size + 1 + 1 + 1 + 1 + 1 + 1 + 1) = w4.heap.size := by omega
  have u2 : ¬ (w3.heap.size + 1 + 1 + 1 + 1 + 1 + 1 + 1) = w4.heap.size + 1 := by omega
  go_wp2_with fail
  clear g0 g1 g2 e0 e1 e2 x2 xf y0 y1 y2 y3 y4 y5 y6 l1 l2 l3 u1 u2
  refine (valid_no (secV w3.heap.size _) (secM 0 false se2 a b) S2.out _ (HL.out.kept C2'.out) I2'.out (by simp [secM])).mono ?_
  rintro e w5 ⟨⟨p2, rfl⟩, b2⟩
  unfold flt
  have A2' := A2h.out.next b2
  have A2h2 := hide A2'
  have HB2 := hide (below_next C2'.out b2)
  clear b2 I2' C2' A2h
  obtain ⟨D3, A3, I3, C3⟩ := sec_phase A2' HB2.out HN.out HA.out HB.out w5.heap.size rfl (sg := 1) false se3 2 ⟨by decide, by decide⟩ rfl X.out.2.2.1 #[.int .i64 32, .int .i64 0, .int .i64 0, .int .i64 11, .int .i64 0, .int .i64 0] rfl
  have I3' := hide I3
  have C3' := hide C3
  have x2 := D3.m.c 2 _ rfl
  have xf := D3.m.fr 2
  have y0 := A3.m.c 0 _ rfl
  have y1 := A3.m.c 1 _ rfl
  have y2 := A3.m.c 2 _ rfl
  have y3 := A3.m.c 3 _ rfl
  have y4 := A3.m.c 4 _ rfl
  have y5 := A3.m.c 5 _ rfl
  have y6 := A3.m.c 6 _ rfl
  simp only [List.getElem_toArray, List.getElem_cons_zero, List.getElem_cons_succ] at x2 y0 y1 y2 y3 y4 y5 y6
  clear D3
  have A3h := hide A3
  clear I3 C3 A3 A2'
  have g0 := A2h2.out.g.c 0 _ rfl
  have g1 := A2h2.out.g.c 1 _ rfl
  have g2 := A2h2.out.g.c 2 _ rfl
  have e0 := A2h2.out.e.c 0 _ rfl
  have e1 := A2h2.out.e.c 1 _ rfl
  have e2 := A2h2.out.e.c 2 _ rfl
  simp only [List.getElem_toArray, List.getElem_cons_zero, List.getElem_cons_succ] at g0 g1 g2 e0 e1 e2
  have l1 := A2h2.out.m.lt
  have l2 := A2h2.out.g.lt
  have l3 := A2h2.out.e.lt
  have u1 : ¬ (w3.heap.size + 1 + 1 + 1 + 1 + 1 + 1 + 1) = w5.heap.size := by omega
  have u2 : ¬ (w3.heap.size + 1 + 1 + 1 + 1 + 1 + 1 + 1) = w5.heap.size + 1 := by omega
  go_wp2_with fail
  clear g0 g1 g2 e0 e1 e2 x2 xf y0 y1 y2 y3 y4 y5 y6 l1 l2 l3 u1 u2
  refine (valid_no (secV w3.heap.size _) (secM 1 false se3 a b) S3.out _ (HL.out.kept C3'.out) I3'.out (by simp [secM])).mono ?_
  rintro e w6 ⟨⟨p3, rfl⟩, b3⟩
  unfold flt
  have A3' := A3h.out.next b3
  have A3h2 := hide A3'
  have HB3 := hide (below_next C3'.out b3)
  clear b3 I3' C3' A3h
  obtain ⟨D4, A4, I4, C4⟩ := sec_phase A3' HB3.out HN.out HA.out HB.out w6.heap.size rfl (sg := 1) false se4 3 ⟨by decide, by decide⟩ rfl X.out.2.2.2 #[.int .i64 32, .int .i64 0, .int .i64 0, .int .i64 241, .int .i64 0, .int .i64 0, .int .i64 11, .int .i64 0, .int .i64 0] rfl
  have I4' := hide I4
  have C4' := hide C4
  have x2 := D4.m.c 2 _ rfl
  have xf := D4.m.fr 2
  have y0 := A4.m.c 0 _ rfl
  have y1 := A4.m.c 1 _ rfl
  have y2 := A4.m.c 2 _ rfl
  have y3 := A4.m.c 3 _ rfl
  have y4 := A4.m.c 4 _ rfl
  have y5 := A4.m.c 5 _ rfl
  have y6 := A4.m.c 6 _ rfl
  simp only [List.getElem_toArray, List.getElem_cons_zero, List.getElem_cons_succ] at x2 y0 y1 y2 y3 y4 y5 y6
  clear D4
  have A4h := hide A4
  clear I4 C4 A4 A3'
  have g0 := A3h2.out.g.c 0 _ rfl
  have g1 := A3h2.out.g.c 1 _ rfl
  have g2 := A3h2.out.g.c 2 _ rfl
  have e0 := A3h2.out.e.c 0 _ rfl
  have e1 := A3h2.out.e.c 1 _ rfl
  have e2 := A3h2.out.e.c 2 _ rfl
  simp only [List.getElem_toArray, List.getElem_cons_zero, List.getElem_cons_succ] at g0 g1 g2 e0 e1 e2
  have l1 := A3h2.out.m.lt
  have l2 := A3h2.out.g.lt
  have l3 := A3h2.out.e.lt
  have u1 : ¬ (w3.heap.size + 1 + 1 + 1 + 1 + 1 + 1 + 1) = w6.heap.size := by omega
  have u2 : ¬ (w3.heap.size + 1 + 1 + 1 + 1 + 1 + 1 + 1) = w6.heap.size + 1 := by omega
  go_wp2_with fail
  clear g0 g1 g2 e0 e1 e2 x2 xf y0 y1 y2 y3 y4 y5 y6 l1 l2 l3 u1 u2
  refine (valid_no (secV w3.heap.size _) (secM 1 false se4 a b) S4.out _ (HL.out.kept C4'.out) I4'.out (by simp [secM])).mono ?_
  rintro e w7 ⟨⟨p4, rfl⟩, b4⟩
  unfold flt
  have A4' := A4h.out.next b4
  have A4h2 := hide A4'
  have HB4 := hide (below_next C4'.out b4)
  clear b4 I4' C4' A4h
  go_wp2_with fail
  refine (flows_is a b false _ HA.out HB.out HFL.out).mono ?_
  rintro e w8 ⟨rfl, rfl⟩
  go_wp2_with fail
  go_ret
  exact ⟨rfl, HB4.out⟩
set_option maxRecDepth 100000 in
set_option maxHeartbeats 8000000 in
theorem sec_w1 (a b : Int) (w : World) (EX : Hid (Calls Tryz.prog 6 #[] w fun e w' => e = .returned (.bool true) ∧ Below w.heap.size w w')) (HL : Hid (Laid w)) (HA : Hid (I64 a)) (HB : Hid (I64 b)) (HRA : Hid (ri a = true)) (HRB : Hid (ri b = true)) (HFL : Hid (fl a b = false)) (HWA : Hid (wi a = false)) (HWB : Hid (wi b = false)) (S1 : Hid (okE (chkM (secM 0 true se1 a b)) = false)) (S2 : Hid (okE (chkM (secM 0 true se2 a b)) = false)) (S3 : Hid (okE (chkM (secM 1 true se3 a b)) = false)) (S4 : Hid (okE (chkM (secM 1 true se4 a b)) = true)) :
    Calls Tryz.prog 4 #[.int .i64 a, .int .i64 b, .bool true] w fun e w' => e = .returned (.bool true) ∧ Below w.heap.size w w' := by
  have X := hide sec_i64
  go_enter Tryz.func4, Tryz.ntmps4
  go_wp2_with fail
  refine EX.out.mono ?_
  rintro e w1 ⟨rfl, b1⟩
  have HN := hide b1.size
  obtain ⟨A0, B0, Z0⟩ := sec_start a b (.slice (some ⟨w1.heap.size + 1 + 1 + 1 + 1 + 1 + 1 + 1 + 1 + 1, 0, none⟩) 1 1) w1
  have HB0 := hide (below_next b1 B0)
  have A0h := hide A0
  have HZ := hide Z0
  clear b1 B0 Z0 A0
  go_wp2_with fail
  refine (right_is a true _ HA.out HRA.out).mono ?_
  rintro e w2 ⟨rfl, rfl⟩
  go_wp2_with fail
  refine (right_is b true _ HB.out HRB.out).mono ?_
  rintro e w3 ⟨rfl, rfl⟩
  have A0' := A0h.out
  obtain ⟨A1, I1, C1⟩ := sec_phase0 (w3.heap.size + 1 + 1 + 1 + 1 + 1 + 1 + 1 + 1) A0' HB0.out HA.out HB.out HZ.out (sg := 0) true se1 3 ⟨by decide, by decide⟩ rfl X.out.1 #[.int .i64 32, .int .i64 0, .int .i64 0, .int .i64 33, .int .i64 1, .int .i64 0, .int .i64 11, .int .i64 0, .int .i64 0] rfl
  have I1' := hide I1
  have C1' := hide C1
  have A1h := hide A1
  clear I1 C1 A1 A0'
  go_wp2_with fail
  refine (valid_no (secV w3.heap.size _) (secM 0 true se1 a b) S1.out _ (HL.out.kept C1'.out) I1'.out (by simp [secM])).mono ?_
  rintro e w4 ⟨⟨p1, rfl⟩, b1⟩
  unfold flt
  have A1' := A1h.out.next b1
  have A1h2 := hide A1'
  have HB1 := hide (below_next C1'.out b1)
  clear b1 I1' C1' A1h
  obtain ⟨D2, A2, I2, C2⟩ := sec_phase A1' HB1.out HN.out HA.out HB.out w4.heap.size rfl (sg := 0) true se2 3 ⟨by decide, by decide⟩ rfl X.out.2.1 #[.int .i64 32, .int .i64 0, .int .i64 0, .int .i64 36, .int .i64 0, .int .i64 0, .int .i64 11, .int .i64 0, .int .i64 0] rfl
  have I2' := hide I2
  have C2' := hide C2
  have x2 := D2.m.c 2 _ rfl
  have xf := D2.m.fr 2
  have y0 := A2.m.c 0 _ rfl
  have y1 := A2.m.c 1 _ rfl
  have y2 := A2.m.c 2 _ rfl
  have y3 := A2.m.c 3 _ rfl
  have y4 := A2.m.c 4 _ rfl
  have y5 := A2.m.c 5 _ rfl
  have y6 := A2.m.c 6 _ rfl
  simp only [List.getElem_toArray, List.getElem_cons_zero, List.getElem_cons_succ] at x2 y0 y1 y2 y3 y4 y5 y6
  clear D2
  have A2h := hide A2
  clear I2 C2 A2 A1'
  have g0 := A1h2.out.g.c 0 _ rfl
  have g1 := A1h2.out.g.c 1 _ rfl
  have g2 := A1h2.out.g.c 2 _ rfl
  have e0 := A1h2.out.e.c 0 _ rfl
  have e1 := A1h2.out.e.c 1 _ rfl
  have e2 := A1h2.out.e.c 2 _ rfl
  simp only [List.getElem_toArray, List.getElem_cons_zero, List.getElem_cons_succ] at g0 g1 g2 e0 e1 e2
  have l1 := A1h2.out.m.lt
  have l2 := A1h2.out.g.lt
  have l3 := A1h2.out.e.lt
  have u1 : ¬ (w3.heap.size + 1 + 1 + 1 + 1 + 1 + 1 + 1) = w4.heap.size := by omega
  have u2 : ¬ (w3.heap.size + 1 + 1 + 1 + 1 + 1 + 1 + 1) = w4.heap.size + 1 := by omega
  go_wp2_with fail
  clear g0 g1 g2 e0 e1 e2 x2 xf y0 y1 y2 y3 y4 y5 y6 l1 l2 l3 u1 u2
  refine (valid_no (secV w3.heap.size _) (secM 0 true se2 a b) S2.out _ (HL.out.kept C2'.out) I2'.out (by simp [secM])).mono ?_
  rintro e w5 ⟨⟨p2, rfl⟩, b2⟩
  unfold flt
  have A2' := A2h.out.next b2
  have A2h2 := hide A2'
  have HB2 := hide (below_next C2'.out b2)
  clear b2 I2' C2' A2h
  obtain ⟨D3, A3, I3, C3⟩ := sec_phase A2' HB2.out HN.out HA.out HB.out w5.heap.size rfl (sg := 1) true se3 2 ⟨by decide, by decide⟩ rfl X.out.2.2.1 #[.int .i64 32, .int .i64 0, .int .i64 0, .int .i64 11, .int .i64 0, .int .i64 0] rfl
  have I3' := hide I3
  have C3' := hide C3
  have x2 := D3.m.c 2 _ rfl
  have xf := D3.m.fr 2
  have y0 := A3.m.c 0 _ rfl
  have y1 := A3.m.c 1 _ rfl
  have y2 := A3.m.c 2 _ rfl
  have y3 := A3.m.c 3 _ rfl
  have y4 := A3.m.c 4 _ rfl
  have y5 := A3.m.c 5 _ rfl
  have y6 := A3.m.c 6 _ rfl
  simp only [List.getElem_toArray, List.getElem_cons_zero, List.getElem_cons_succ] at x2 y0 y1 y2 y3 y4 y5 y6
  clear D3
  have A3h := hide A3
  clear I3 C3 A3 A2'
  have g0 := A2h2.out.g.c 0 _ rfl
  have g1 := A2h2.out.g.c 1 _ rfl
  have g2 := A2h2.out.g.c 2 _ rfl
  have e0 := A2h2.out.e.c 0 _ rfl
  have e1 := A2h2.out.e.c 1 _ rfl
  have e2 := A2h2.out.e.c 2 _ rfl
  simp only [List.getElem_toArray, List.getElem_cons_zero, List.getElem_cons_succ] at g0 g1 g2 e0 e1 e2
  have l1 := A2h2.out.m.lt
  have l2 := A2h2.out.g.lt
  have l3 := A2h2.out.e.lt
  have u1 : ¬ (w3.heap.size + 1 + 1 + 1 + 1 + 1 + 1 + 1) = w5.heap.size := by omega
  have u2 : ¬ (w3.heap.size + 1 + 1 + 1 + 1 + 1 + 1 + 1) = w5.heap.size + 1 := by omega
  go_wp2_with fail
  clear g0 g1 g2 e0 e1 e2 x2 xf y0 y1 y2 y3 y4 y5 y6 l1 l2 l3 u1 u2
  refine (valid_no (secV w3.heap.size _) (secM 1 true se3 a b) S3.out _ (HL.out.kept C3'.out) I3'.out (by simp [secM])).mono ?_
  rintro e w6 ⟨⟨p3, rfl⟩, b3⟩
  unfold flt
  have A3' := A3h.out.next b3
  have A3h2 := hide A3'
  have HB3 := hide (below_next C3'.out b3)
  clear b3 I3' C3' A3h
  obtain ⟨D4, A4, I4, C4⟩ := sec_phase A3' HB3.out HN.out HA.out HB.out w6.heap.size rfl (sg := 1) true se4 3 ⟨by decide, by decide⟩ rfl X.out.2.2.2 #[.int .i64 32, .int .i64 0, .int .i64 0, .int .i64 241, .int .i64 0, .int .i64 0, .int .i64 11, .int .i64 0, .int .i64 0] rfl
  have I4' := hide I4
  have C4' := hide C4
  have x2 := D4.m.c 2 _ rfl
  have xf := D4.m.fr 2
  have y0 := A4.m.c 0 _ rfl
  have y1 := A4.m.c 1 _ rfl
  have y2 := A4.m.c 2 _ rfl
  have y3 := A4.m.c 3 _ rfl
  have y4 := A4.m.c 4 _ rfl
  have y5 := A4.m.c 5 _ rfl
  have y6 := A4.m.c 6 _ rfl
  simp only [List.getElem_toArray, List.getElem_cons_zero, List.getElem_cons_succ] at x2 y0 y1 y2 y3 y4 y5 y6
  clear D4
  have A4h := hide A4
  clear I4 C4 A4 A3'
  have g0 := A3h2.out.g.c 0 _ rfl
  have g1 := A3h2.out.g.c 1 _ rfl
  have g2 := A3h2.out.g.c 2 _ rfl
  have e0 := A3h2.out.e.c 0 _ rfl
  have e1 := A3h2.out.e.c 1 _ rfl
  have e2 := A3h2.out.e.c 2 _ rfl
  simp only [List.getElem_toArray, List.getElem_cons_zero, List.getElem_cons_succ] at g0 g1 g2 e0 e1 e2
  have l1 := A3h2.out.m.lt
  have l2 := A3h2.out.g.lt
  have l3 := A3h2.out.e.lt
  have u1 : ¬ (w3.heap.size + 1 + 1 + 1 + 1 + 1 + 1 + 1) = w6.heap.size := by omega
  have u2 : ¬ (w3.heap.size + 1 + 1 + 1 + 1 + 1 + 1 + 1) = w6.heap.size + 1 := by omega
  go_wp2_with fail
  clear g0 g1 g2 e0 e1 e2 x2 xf y0 y1 y2 y3 y4 y5 y6 l1 l2 l3 u1 u2
  refine (valid_yes (secV w3.heap.size _) (secM 1 true se4 a b) S4.out _ (HL.out.kept C4'.out) I4'.out (by simp [secM])).mono ?_
  rintro e w7 ⟨rfl, b4⟩
  have A4' := A4h.out.next b4
  have A4h2 := hide A4'
  have HB4 := hide (below_next C4'.out b4)
  clear b4 I4' C4' A4h
  go_wp2_with fail
  refine (flows_is a b false _ HA.out HB.out HFL.out).mono ?_
  rintro e w8 ⟨rfl, rfl⟩
  go_wp2_with fail
  refine (wide_is a false _ HA.out HWA.out).mono ?_
  rintro e w9 ⟨rfl, rfl⟩
  go_wp2_with fail
  refine (wide_is b false _ HB.out HWB.out).mono ?_
  rintro e w10 ⟨rfl, rfl⟩
  go_wp2_with fail
  go_ret
  exact ⟨rfl, HB4.out⟩
set_option maxRecDepth 100000 in
set_option maxHeartbeats 8000000 in
theorem sec_w2 (a b : Int) (w : World) (EX : Hid (Calls Tryz.prog 6 #[] w fun e w' => e = .returned (.bool true) ∧ Below w.heap.size w w')) (HL : Hid (Laid w)) (HA : Hid (I64 a)) (HB : Hid (I64 b)) (HRA : Hid (ri a = true)) (HRB : Hid (ri b = true)) (HFL : Hid (fl a b = false)) (HWA : Hid (wi a = false)) (HWB : Hid (wi b = true)) (S1 : Hid (okE (chkM (secM 0 true se1 a b)) = false)) (S2 : Hid (okE (chkM (secM 0 true se2 a b)) = false)) (S3 : Hid (okE (chkM (secM 1 true se3 a b)) = false)) (S4 : Hid (okE (chkM (secM 1 true se4 a b)) = false)) :
    Calls Tryz.prog 4 #[.int .i64 a, .int .i64 b, .bool true] w fun e w' => e = .returned (.bool true) ∧ Below w.heap.size w w' := by
  have X := hide sec_i64
  go_enter Tryz.func4, Tryz.ntmps4
  go_wp2_with fail
  refine EX.out.mono ?_
  rintro e w1 ⟨rfl, b1⟩
  have HN := hide b1.size
  obtain ⟨A0, B0, Z0⟩ := sec_start a b (.slice (some ⟨w1.heap.size + 1 + 1 + 1 + 1 + 1 + 1 + 1 + 1 + 1, 0, none⟩) 1 1) w1
  have HB0 := hide (below_next b1 B0)
  have A0h := hide A0
  have HZ := hide Z0
  clear b1 B0 Z0 A0
  go_wp2_with fail
  refine (right_is a true _ HA.out HRA.out).mono ?_
  rintro e w2 ⟨rfl, rfl⟩
  go_wp2_with fail
  refine (right_is b true _ HB.out HRB.out).mono ?_
  rintro e w3 ⟨rfl, rfl⟩
  have A0' := A0h.out
  obtain ⟨A1, I1, C1⟩ := sec_phase0 (w3.heap.size + 1 + 1 + 1 + 1 + 1 + 1 + 1 + 1) A0' HB0.out HA.out HB.out HZ.out (sg := 0) true se1 3 ⟨by decide, by decide⟩ rfl X.out.1 #[.int .i64 32, .int .i64 0, .int .i64 0, .int .i64 33, .int .i64 1, .int .i64 0, .int .i64 11, .int .i64 0, .int .i64 0] rfl
  have I1' := hide I1
  have C1' := hide C1
  have A1h := hide A1
  clear I1 C1 A1 A0'
  go_wp2_with fail
  refine (valid_no (secV w3.heap.size _) (secM 0 true se1 a b) S1.out _ (HL.out.kept C1'.out) I1'.out (by simp [secM])).mono ?_
  rintro e w4 ⟨⟨p1, rfl⟩, b1⟩
  unfold flt
  have A1' := A1h.out.next b1
  have A1h2 := hide A1'
  have HB1 := hide (below_next C1'.out b1)
  clear b1 I1' C1' A1h
  obtain ⟨D2, A2, I2, C2⟩ := sec_phase A1' HB1.out HN.out HA.out HB.out w4.heap.size rfl (sg := 0) true se2 3 ⟨by decide, by decide⟩ rfl X.out.2.1 #[.int .i64 32, .int .i64 0, .int .i64 0, .int .i64 36, .int .i64 0, .int .i64 0, .int .i64 11, .int .i64 0, .int .i64 0] rfl
  have I2' := hide I2
  have C2' := hide C2
  have x2 := D2.m.c 2 _ rfl
  have xf := D2.m.fr 2
  have y0 := A2.m.c 0 _ rfl
  have y1 := A2.m.c 1 _ rfl
  have y2 := A2.m.c 2 _ rfl
  have y3 := A2.m.c 3 _ rfl
  have y4 := A2.m.c 4 _ rfl
  have y5 := A2.m.c 5 _ rfl
  have y6 := A2.m.c 6 _ rfl
  simp only [List.getElem_toArray, List.getElem_cons_zero, List.getElem_cons_succ] at x2 y0 y1 y2 y3 y4 y5 y6
  clear D2
  have A2h := hide A2
  clear I2 C2 A2 A1'
  have g0 := A1h2.out.g.c 0 _ rfl
  have g1 := A1h2.out.g.c 1 _ rfl
  have g2 := A1h2.out.g.c 2 _ rfl
  have e0 := A1h2.out.e.c 0 _ rfl
  have e1 := A1h2.out.e.c 1 _ rfl
  have e2 := A1h2.out.e.c 2 _ rfl
  simp only [List.getElem_toArray, List.getElem_cons_zero, List.getElem_cons_succ] at g0 g1 g2 e0 e1 e2
  have l1 := A1h2.out.m.lt
  have l2 := A1h2.out.g.lt
  have l3 := A1h2.out.e.lt
  have u1 : ¬ (w3.heap.size + 1 + 1 + 1 + 1 + 1 + 1 + 1) = w4.heap.size := by omega
  have u2 : ¬ (w3.heap.size + 1 + 1 + 1 + 1 + 1 + 1 + 1) = w4.heap.size + 1 := by omega
  go_wp2_with fail
  clear g0 g1 g2 e0 e1 e2 x2 xf y0 y1 y2 y3 y4 y5 y6 l1 l2 l3 u1 u2
  refine (valid_no (secV w3.heap.size _) (secM 0 true se2 a b) S2.out _ (HL.out.kept C2'.out) I2'.out (by simp [secM])).mono ?_
  rintro e w5 ⟨⟨p2, rfl⟩, b2⟩
  unfold flt
  have A2' := A2h.out.next b2
  have A2h2 := hide A2'
  have HB2 := hide (below_next C2'.out b2)
  clear b2 I2' C2' A2h
  obtain ⟨D3, A3, I3, C3⟩ := sec_phase A2' HB2.out HN.out HA.out HB.out w5.heap.size rfl (sg := 1) true se3 2 ⟨by decide, by decide⟩ rfl X.out.2.2.1 #[.int .i64 32, .int .i64 0, .int .i64 0, .int .i64 11, .int .i64 0, .int .i64 0] rfl
  have I3' := hide I3
  have C3' := hide C3
  have x2 := D3.m.c 2 _ rfl
  have xf := D3.m.fr 2
  have y0 := A3.m.c 0 _ rfl
  have y1 := A3.m.c 1 _ rfl
  have y2 := A3.m.c 2 _ rfl
  have y3 := A3.m.c 3 _ rfl
  have y4 := A3.m.c 4 _ rfl
  have y5 := A3.m.c 5 _ rfl
  have y6 := A3.m.c 6 _ rfl
  simp only [List.getElem_toArray, List.getElem_cons_zero, List.getElem_cons_succ] at x2 y0 y1 y2 y3 y4 y5 y6
  clear D3
  have A3h := hide A3
  clear I3 C3 A3 A2'
  have g0 := A2h2.out.g.c 0 _ rfl
  have g1 := A2h2.out.g.c 1 _ rfl
  have g2 := A2h2.out.g.c 2 _ rfl
  have e0 := A2h2.out.e.c 0 _ rfl
  have e1 := A2h2.out.e.c 1 _ rfl
  have e2 := A2h2.out.e.c 2 _ rfl
  simp only [List.getElem_toArray, List.getElem_cons_zero, List.getElem_cons_succ] at g0 g1 g2 e0 e1 e2
  have l1 := A2h2.out.m.lt
  have l2 := A2h2.out.g.lt
  have l3 := A2h2.out.e.lt
  have u1 : ¬ (w3.heap.size + 1 + 1 + 1 + 1 + 1 + 1 + 1) = w5.heap.size := by omega
  have u2 : ¬ (w3.heap.size + 1 + 1 + 1 + 1 + 1 + 1 + 1) = w5.heap.size + 1 := by omega
  go_wp2_with fail
  clear g0 g1 g2 e0 e1 e2 x2 xf y0 y1 y2 y3 y4 y5 y6 l1 l2 l3 u1 u2
  refine (valid_no (secV w3.heap.size _) (secM 1 true se3 a b) S3.out _ (HL.out.kept C3'.out) I3'.out (by simp [secM])).mono ?_
  rintro e w6 ⟨⟨p3, rfl⟩, b3⟩
  unfold flt
  have A3' := A3h.out.next b3
  have A3h2 := hide A3'
  have HB3 := hide (below_next C3'.out b3)
  clear b3 I3' C3' A3h
  obtain ⟨D4, A4, I4, C4⟩ := sec_phase A3' HB3.out HN.out HA.out HB.out w6.heap.size rfl (sg := 1) true se4 3 ⟨by decide, by decide⟩ rfl X.out.2.2.2 #[.int .i64 32, .int .i64 0, .int .i64 0, .int .i64 241, .int .i64 0, .int .i64 0, .int .i64 11, .int .i64 0, .int .i64 0] rfl
  have I4' := hide I4
  have C4' := hide C4
  have x2 := D4.m.c 2 _ rfl
  have xf := D4.m.fr 2
  have y0 := A4.m.c 0 _ rfl
  have y1 := A4.m.c 1 _ rfl
  have y2 := A4.m.c 2 _ rfl
  have y3 := A4.m.c 3 _ rfl
  have y4 := A4.m.c 4 _ rfl
  have y5 := A4.m.c 5 _ rfl
  have y6 := A4.m.c 6 _ rfl
  simp only [List.getElem_toArray, List.getElem_cons_zero, List.getElem_cons_succ] at x2 y0 y1 y2 y3 y4 y5 y6
  clear D4
  have A4h := hide A4
  clear I4 C4 A4 A3'
  have g0 := A3h2.out.g.c 0 _ rfl
  have g1 := A3h2.out.g.c 1 _ rfl
  have g2 := A3h2.out.g.c 2 _ rfl
  have e0 := A3h2.out.e.c 0 _ rfl
  have e1 := A3h2.out.e.c 1 _ rfl
  have e2 := A3h2.out.e.c 2 _ rfl
  simp only [List.getElem_toArray, List.getElem_cons_zero, List.getElem_cons_succ] at g0 g1 g2 e0 e1 e2
  have l1 := A3h2.out.m.lt
  have l2 := A3h2.out.g.lt
  have l3 := A3h2.out.e.lt
  have u1 : ¬ (w3.heap.size + 1 + 1 + 1 + 1 + 1 + 1 + 1) = w6.heap.size := by omega
  have u2 : ¬ (w3.heap.size + 1 + 1 + 1 + 1 + 1 + 1 + 1) = w6.heap.size + 1 := by omega
  go_wp2_with fail
  clear g0 g1 g2 e0 e1 e2 x2 xf y0 y1 y2 y3 y4 y5 y6 l1 l2 l3 u1 u2
  refine (valid_no (secV w3.heap.size _) (secM 1 true se4 a b) S4.out _ (HL.out.kept C4'.out) I4'.out (by simp [secM])).mono ?_
  rintro e w7 ⟨⟨p4, rfl⟩, b4⟩
  unfold flt
  have A4' := A4h.out.next b4
  have A4h2 := hide A4'
  have HB4 := hide (below_next C4'.out b4)
  clear b4 I4' C4' A4h
  go_wp2_with fail
  refine (flows_is a b false _ HA.out HB.out HFL.out).mono ?_
  rintro e w8 ⟨rfl, rfl⟩
  go_wp2_with fail
  refine (wide_is a false _ HA.out HWA.out).mono ?_
  rintro e w9 ⟨rfl, rfl⟩
  go_wp2_with fail
  refine (wide_is b true _ HB.out HWB.out).mono ?_
  rintro e w10 ⟨rfl, rfl⟩
  go_wp2_with fail
  go_ret
  exact ⟨rfl, HB4.out⟩
set_option maxRecDepth 100000 in
set_option maxHeartbeats 8000000 in
theorem sec_w3 (a b : Int) (w : World) (EX : Hid (Calls Tryz.prog 6 #[] w fun e w' => e = .returned (.bool true) ∧ Below w.heap.size w w')) (HL : Hid (Laid w)) (HA : Hid (I64 a)) (HB : Hid (I64 b)) (HRA : Hid (ri a = true)) (HRB : Hid (ri b = true)) (HFL : Hid (fl a b = false)) (HWA : Hid (wi a = true)) (HWB : Hid (wi b = false)) (S1 : Hid (okE (chkM (secM 0 true se1 a b)) = false)) (S2 : Hid (okE (chkM (secM 0 true se2 a b)) = false)) (S3 : Hid (okE (chkM (secM 1 true se3 a b)) = false)) (S4 : Hid (okE (chkM (secM 1 true se4 a b)) = false)) :
    Calls Tryz.prog 4 #[.int .i64 a, .int .i64 b, .bool true] w fun e w' => e = .returned (.bool true) ∧ Below w.heap.size w w' := by
  have X := hide sec_i64
  go_enter Tryz.func4, Tryz.ntmps4
  go_wp2_with fail
  refine EX.out.mono ?_
  rintro e w1 ⟨rfl, b1⟩
  have HN := hide b1.size
  obtain ⟨A0, B0, Z0⟩ := sec_start a b (.slice (some ⟨w1.heap.size + 1 + 1 + 1 + 1 + 1 + 1 + 1 + 1 + 1, 0, none⟩) 1 1) w1
  have HB0 := hide (below_next b1 B0)
  have A0h := hide A0
  have HZ := hide Z0
  clear b1 B0 Z0 A0
  go_wp2_with fail
  refine (right_is a true _ HA.out HRA.out).mono ?_
  rintro e w2 ⟨rfl, rfl⟩
  go_wp2_with fail
  refine (right_is b true _ HB.out HRB.out).mono ?_
  rintro e w3 ⟨rfl, rfl⟩
  have A0' := A0h.out
  obtain ⟨A1, I1, C1⟩ := sec_phase0 (w3.heap.size + 1 + 1 + 1 + 1 + 1 + 1 + 1 + 1) A0' HB0.out HA.out HB.out HZ.out (sg := 0) true se1 3 ⟨by decide, by decide⟩ rfl X.out.1 #[.int .i64 32, .int .i64 0, .int .i64 0, .int .i64 33, .int .i64 1, .int .i64 0, .int .i64 11, .int .i64 0, .int .i64 0] rfl
  have I1' := hide I1
  have C1' := hide C1
  have A1h := hide A1
  clear I1 C1 A1 A0'
  go_wp2_with fail
  refine (valid_no (secV w3.heap.size _) (secM 0 true se1 a b) S1.out _ (HL.out.kept C1'.out) I1'.out (by simp [secM])).mono ?_
  rintro e w4 ⟨⟨p1, rfl⟩, b1⟩
  unfold flt
  have A1' := A1h.out.next b1
  have A1h2 := hide A1'
  have HB1 := hide (below_next C1'.out b1)
  clear b1 I1' C1' A1h
  obtain ⟨D2, A2, I2, C2⟩ := sec_phase A1' HB1.out HN.out HA.out HB.out w4.heap.size rfl (sg := 0) true se2 3 ⟨by decide, by decide⟩ rfl X.out.2.1 #[.int .i64 32, .int .i64 0, .int .i64 0, .int .i64 36, .int .i64 0, .int .i64 0, .int .i64 11, .int .i64 0, .int .i64 0] rfl
  have I2' := hide I2
  have C2' := hide C2
  have x2 := D2.m.c 2 _ rfl
  have xf := D2.m.fr 2
  have y0 := A2.m.c 0 _ rfl
  have y1 := A2.m.c 1 _ rfl
  have y2 := A2.m.c 2 _ rfl
  have y3 := A2.m.c 3 _ rfl
  have y4 := A2.m.c 4 _ rfl
  have y5 := A2.m.c 5 _ rfl
  have y6 := A2.m.c 6 _ rfl
  simp only [List.getElem_toArray, List.getElem_cons_zero, List.getElem_cons_succ] at x2 y0 y1 y2 y3 y4 y5 y6
  clear D2
  have A2h := hide A2
  clear I2 C2 A2 A1'
  have g0 := A1h2.out.g.c 0 _ rfl
  have g1 := A1h2.out.g.c 1 _ rfl
  have g2 := A1h2.out.g.c 2 _ rfl
  have e0 := A1h2.out.e.c 0 _ rfl
  have e1 := A1h2.out.e.c 1 _ rfl
  have e2 := A1h2.out.e.c 2 _ rfl
  simp only [List.getElem_toArray, List.getElem_cons_zero, List.getElem_cons_succ] at g0 g1 g2 e0 e1 e2
  have l1 := A1h2.out.m.lt
  have l2 := A1h2.out.g.lt
  have l3 := A1h2.out.e.lt
  have u1 : ¬ (w3.heap.size + 1 + 1 + 1 + 1 + 1 + 1 + 1) = w4.heap.size := by omega
  have u2 : ¬ (w3.heap.size + 1 + 1 + 1 + 1 + 1 + 1 + 1) = w4.heap.size + 1 := by omega
  go_wp2_with fail
  clear g0 g1 g2 e0 e1 e2 x2 xf y0 y1 y2 y3 y4 y5 y6 l1 l2 l3 u1 u2
  refine (valid_no (secV w3.heap.size _) (secM 0 true se2 a b) S2.out _ (HL.out.kept C2'.out) I2'.out (by simp [secM])).mono ?_
  rintro e w5 ⟨⟨p2, rfl⟩, b2⟩
  unfold flt
  have A2' := A2h.out.next b2
  have A2h2 := hide A2'
  have HB2 := hide (below_next C2'.out b2)
  clear b2 I2' C2' A2h
  obtain ⟨D3, A3, I3, C3⟩ := sec_phase A2' HB2.out HN.out HA.out HB.out w5.heap.size rfl (sg := 1) true se3 2 ⟨by decide, by decide⟩ rfl X.out.2.2.1 #[.int .i64 32, .int .i64 0, .int .i64 0, .int .i64 11, .int .i64 0, .int .i64 0] rfl
  have I3' := hide I3
  have C3' := hide C3
  have x2 := D3.m.c 2 _ rfl
  have xf := D3.m.fr 2
  have y0 := A3.m.c 0 _ rfl
  have y1 := A3.m.c 1 _ rfl
  have y2 := A3.m.c 2 _ rfl
  have y3 := A3.m.c 3 _ rfl
  have y4 := A3.m.c 4 _ rfl
  have y5 := A3.m.c 5 _ rfl
  have y6 := A3.m.c 6 _ rfl
  simp only [List.getElem_toArray, List.getElem_cons_zero, List.getElem_cons_succ] at x2 y0 y1 y2 y3 y4 y5 y6
  clear D3
  have A3h := hide A3
  clear I3 C3 A3 A2'
  have g0 := A2h2.out.g.c 0 _ rfl
  have g1 := A2h2.out.g.c 1 _ rfl
  have g2 := A2h2.out.g.c 2 _ rfl
  have e0 := A2h2.out.e.c 0 _ rfl
  have e1 := A2h2.out.e.c 1 _ rfl
  have e2 := A2h2.out.e.c 2 _ rfl
  simp only [List.getElem_toArray, List.getElem_cons_zero, List.getElem_cons_succ] at g0 g1 g2 e0 e1 e2
  have l1 := A2h2.out.m.lt
  have l2 := A2h2.out.g.lt
  have l3 := A2h2.out.e.lt
  have u1 : ¬ (w3.heap.size + 1 + 1 + 1 + 1 + 1 + 1 + 1) = w5.heap.size := by omega
  have u2 : ¬ (w3.heap.size + 1 + 1 + 1 + 1 + 1 + 1 + 1) = w5.heap.size + 1 := by omega
  go_wp2_with fail
  clear g0 g1 g2 e0 e1 e2 x2 xf y0 y1 y2 y3 y4 y5 y6 l1 l2 l3 u1 u2
  refine (valid_no (secV w3.heap.size _) (secM 1 true se3 a b) S3.out _ (HL.out.kept C3'.out) I3'.out (by simp [secM])).mono ?_
  rintro e w6 ⟨⟨p3, rfl⟩, b3⟩
  unfold flt
  have A3' := A3h.out.next b3
  have A3h2 := hide A3'
  have HB3 := hide (below_next C3'.out b3)
  clear b3 I3' C3' A3h
  obtain ⟨D4, A4, I4, C4⟩ := sec_phase A3' HB3.out HN.out HA.out HB.out w6.heap.size rfl (sg := 1) true se4 3 ⟨by decide, by decide⟩ rfl X.out.2.2.2 #[.int .i64 32, .int .i64 0, .int .i64 0, .int .i64 241, .int .i64 0, .int .i64 0, .int .i64 11, .int .i64 0, .int .i64 0] rfl
  have I4' := hide I4
  have C4' := hide C4
  have x2 := D4.m.c 2 _ rfl
  have xf := D4.m.fr 2
  have y0 := A4.m.c 0 _ rfl
  have y1 := A4.m.c 1 _ rfl
  have y2 := A4.m.c 2 _ rfl
  have y3 := A4.m.c 3 _ rfl
  have y4 := A4.m.c 4 _ rfl
  have y5 := A4.m.c 5 _ rfl
  have y6 := A4.m.c 6 _ rfl
  simp only [List.getElem_toArray, List.getElem_cons_zero, List.getElem_cons_succ] at x2 y0 y1 y2 y3 y4 y5 y6
  clear D4
  have A4h := hide A4
  clear I4 C4 A4 A3'
  have g0 := A3h2.out.g.c 0 _ rfl
  have g1 := A3h2.out.g.c 1 _ rfl
  have g2 := A3h2.out.g.c 2 _ rfl
  have e0 := A3h2.out.e.c 0 _ rfl
  have e1 := A3h2.out.e.c 1 _ rfl
  have e2 := A3h2.out.e.c 2 _ rfl
  simp only [List.getElem_toArray, List.getElem_cons_zero, List.getElem_cons_succ] at g0 g1 g2 e0 e1 e2
  have l1 := A3h2.out.m.lt
  have l2 := A3h2.out.g.lt
  have l3 := A3h2.out.e.lt
  have u1 : ¬ (w3.heap.size + 1 + 1 + 1 + 1 + 1 + 1 + 1) = w6.heap.size := by omega
  have u2 : ¬ (w3.heap.size + 1 + 1 + 1 + 1 + 1 + 1 + 1) = w6.heap.size + 1 := by omega
  go_wp2_with fail
  clear g0 g1 g2 e0 e1 e2 x2 xf y0 y1 y2 y3 y4 y5 y6 l1 l2 l3 u1 u2
  refine (valid_no (secV w3.heap.size _) (secM 1 true se4 a b) S4.out _ (HL.out.kept C4'.out) I4'.out (by simp [secM])).mono ?_
  rintro e w7 ⟨⟨p4, rfl⟩, b4⟩
  unfold flt
  have A4' := A4h.out.next b4
  have A4h2 := hide A4'
  have HB4 := hide (below_next C4'.out b4)
  clear b4 I4' C4' A4h
  go_wp2_with fail
  refine (flows_is a b false _ HA.out HB.out HFL.out).mono ?_
  rintro e w8 ⟨rfl, rfl⟩
  go_wp2_with fail
  refine (wide_is a true _ HA.out HWA.out).mono ?_
  rintro e w9 ⟨rfl, rfl⟩
  go_wp2_with fail
  refine (wide_is b false _ HB.out HWB.out).mono ?_
  rintro e w10 ⟨rfl, rfl⟩
  go_wp2_with fail
  go_ret
  exact ⟨rfl, HB4.out⟩
set_option maxRecDepth 100000 in
set_option maxHeartbeats 8000000 in
theorem sec_w4 (a b : Int) (w : World) (EX : Hid (Calls Tryz.prog 6 #[] w fun e w' => e = .returned (.bool true) ∧ Below w.heap.size w w')) (HL : Hid (Laid w)) (HA : Hid (I64 a)) (HB : Hid (I64 b)) (HRA : Hid (ri a = true)) (HRB : Hid (ri b = true)) (HFL : Hid (fl a b = false)) (HWA : Hid (wi a = true)) (HWB : Hid (wi b = true)) (S1 : Hid (okE (chkM (secM 0 true se1 a b)) = false)) (S2 : Hid (okE (chkM (secM 0 true se2 a b)) = false)) (S3 : Hid (okE (chkM (secM 1 true se3 a b)) = false)) (S4 : Hid (okE (chkM (secM 1 true se4 a b)) = true)) :
    Calls Tryz.prog 4 #[.int .i64 a, .int .i64 b, .bool true] w fun e w' => e = .returned (.bool true) ∧ Below w.heap.size w w' := by
  have X := hide sec_i64
  go_enter Tryz.func4, Tryz.ntmps4
  go_wp2_with fail
  refine EX.out.mono ?_
  rintro e w1 ⟨rfl, b1⟩
  have HN := hide b1.size
  obtain ⟨A0, B0, Z0⟩ := sec_start a b (.slice (some ⟨w1.heap.size + 1 + 1 + 1 + 1 + 1 + 1 + 1 + 1 + 1, 0, none⟩) 1 1) w1
  have HB0 := hide (below_next b1 B0)
  have A0h := hide A0
  have HZ := hide Z0
  clear b1 B0 Z0 A0
  go_wp2_with fail
  refine (right_is a true _ HA.out HRA.out).mono ?_
  rintro e w2 ⟨rfl, rfl⟩
  go_wp2_with fail
  refine (right_is b true _ HB.out HRB.out).mono ?_
  rintro e w3 ⟨rfl, rfl⟩
  have A0' := A0h.out
  obtain ⟨A1, I1, C1⟩ := sec_phase0 (w3.heap.size + 1 + 1 + 1 + 1 + 1 + 1 + 1 + 1) A0' HB0.out HA.out HB.out HZ.out (sg := 0) true se1 3 ⟨by decide, by decide⟩ rfl X.out.1 #[.int .i64 32, .int .i64 0, .int .i64 0, .int .i64 33, .int .i64 1, .int .i64 0, .int .i64 11, .int .i64 0, .int .i64 0] rfl
  have I1' := hide I1
  have C1' := hide C1
  have A1h := hide A1
  clear I1 C1 A1 A0'
  go_wp2_with fail
  refine (valid_no (secV w3.heap.size _) (secM 0 true se1 a b) S1.out _ (HL.out.kept C1'.out) I1'.out (by simp [secM])).mono ?_
  rintro e w4 ⟨⟨p1, rfl⟩, b1⟩
  unfold flt
  have A1' := A1h.out.next b1
  have A1h2 := hide A1'
  have HB1 := hide (below_next C1'.out b1)
  clear b1 I1' C1' A1h
  obtain ⟨D2, A2, I2, C2⟩ := sec_phase A1' HB1.out HN.out HA.out HB.out w4.heap.size rfl (sg := 0) true se2 3 ⟨by decide, by decide⟩ rfl X.out.2.1 #[.int .i64 32, .int .i64 0, .int .i64 0, .int .i64 36, .int .i64 0, .int .i64 0, .int .i64 11, .int .i64 0, .int .i64 0] rfl
  have I2' := hide I2
  have C2' := hide C2
  have x2 := D2.m.c 2 _ rfl
  have xf := D2.m.fr 2
  have y0 := A2.m.c 0 _ rfl
  have y1 := A2.m.c 1 _ rfl
  have y2 := A2.m.c 2 _ rfl
  have y3 := A2.m.c 3 _ rfl
  have y4 := A2.m.c 4 _ rfl
  have y5 := A2.m.c 5 _ rfl
  have y6 := A2.m.c 6 _ rfl
  simp only [List.getElem_toArray, List.getElem_cons_zero, List.getElem_cons_succ] at x2 y0 y1 y2 y3 y4 y5 y6
  clear D2
  have A2h := hide A2
  clear I2 C2 A2 A1'
  have g0 := A1h2.out.g.c 0 _ rfl
  have g1 := A1h2.out.g.c 1 _ rfl
  have g2 := A1h2.out.g.c 2 _ rfl
  have e0 := A1h2.out.e.c 0 _ rfl
  have e1 := A1h2.out.e.c 1 _ rfl
  have e2 := A1h2.out.e.c 2 _ rfl
  simp only [List.getElem_toArray, List.getElem_cons_zero, List.getElem_cons_succ] at g0 g1 g2 e0 e1 e2
  have l1 := A1h2.out.m.lt
  have l2 := A1h2.out.g.lt
  have l3 := A1h2.out.e.lt
  have u1 : ¬ (w3.heap.size + 1 + 1 + 1 + 1 + 1 + 1 + 1) = w4.heap.size := by omega
  have u2 : ¬ (w3.heap.size + 1 + 1 + 1 + 1 + 1 + 1 + 1) = w4.heap.size + 1 := by omega
  go_wp2_with fail
  clear g0 g1 g2 e0 e1 e2 x2 xf y0 y1 y2 y3 y4 y5 y6 l1 l2 l3 u1 u2
  refine (valid_no (secV w3.heap.size _) (secM 0 true se2 a b) S2.out _ (HL.out.kept C2'.out) I2'.out (by simp [secM])).mono ?_
  rintro e w5 ⟨⟨p2, rfl⟩, b2⟩
  unfold flt
  have A2' := A2h.out.next b2
  have A2h2 := hide A2'
  have HB2 := hide (below_next C2'.out b2)
  clear b2 I2' C2' A2h
  obtain ⟨D3, A3, I3, C3⟩ := sec_phase A2' HB2.out HN.out HA.out HB.out w5.heap.size rfl (sg := 1) true se3 2 ⟨by decide, by decide⟩ rfl X.out.2.2.1 #[.int .i64 32, .int .i64 0, .int .i64 0, .int .i64 11, .int .i64 0, .int .i64 0] rfl
  have I3' := hide I3
  have C3' := hide C3
  have x2 := D3.m.c 2 _ rfl
  have xf := D3.m.fr 2
  have y0 := A3.m.c 0 _ rfl
  have y1 := A3.m.c 1 _ rfl
  have y2 := A3.m.c 2 _ rfl
  have y3 := A3.m.c 3 _ rfl
  have y4 := A3.m.c 4 _ rfl
  have y5 := A3.m.c 5 _ rfl
  have y6 := A3.m.c 6 _ rfl
  simp only [List.getElem_toArray, List.getElem_cons_zero, List.getElem_cons_succ] at x2 y0 y1 y2 y3 y4 y5 y6
  clear D3
  have A3h := hide A3
  clear I3 C3 A3 A2'
  have g0 := A2h2.out.g.c 0 _ rfl
  have g1 := A2h2.out.g.c 1 _ rfl
  have g2 := A2h2.out.g.c 2 _ rfl
  have e0 := A2h2.out.e.c 0 _ rfl
  have e1 := A2h2.out.e.c 1 _ rfl
  have e2 := A2h2.out.e.c 2 _ rfl
  simp only [List.getElem_toArray, List.getElem_cons_zero, List.getElem_cons_succ] at g0 g1 g2 e0 e1 e2
  have l1 := A2h2.out.m.lt
  have l2 := A2h2.out.g.lt
  have l3 := A2h2.out.e.lt
  have u1 : ¬ (w3.heap.size + 1 + 1 + 1 + 1 + 1 + 1 + 1) = w5.heap.size := by omega
  have u2 : ¬ (w3.heap.size + 1 + 1 + 1 + 1 + 1 + 1 + 1) = w5.heap.size + 1 := by omega
  go_wp2_with fail
  clear g0 g1 g2 e0 e1 e2 x2 xf y0 y1 y2 y3 y4 y5 y6 l1 l2 l3 u1 u2
  refine (valid_no (secV w3.heap.size _) (secM 1 true se3 a b) S3.out _ (HL.out.kept C3'.out) I3'.out (by simp [secM])).mono ?_
  rintro e w6 ⟨⟨p3, rfl⟩, b3⟩
  unfold flt
  have A3' := A3h.out.next b3
  have A3h2 := hide A3'
  have HB3 := hide (below_next C3'.out b3)
  clear b3 I3' C3' A3h
  obtain ⟨D4, A4, I4, C4⟩ := sec_phase A3' HB3.out HN.out HA.out HB.out w6.heap.size rfl (sg := 1) true se4 3 ⟨by decide, by decide⟩ rfl X.out.2.2.2 #[.int .i64 32, .int .i64 0, .int .i64 0, .int .i64 241, .int .i64 0, .int .i64 0, .int .i64 11, .int .i64 0, .int .i64 0] rfl
  have I4' := hide I4
  have C4' := hide C4
  have x2 := D4.m.c 2 _ rfl
  have xf := D4.m.fr 2
  have y0 := A4.m.c 0 _ rfl
  have y1 := A4.m.c 1 _ rfl
  have y2 := A4.m.c 2 _ rfl
  have y3 := A4.m.c 3 _ rfl
  have y4 := A4.m.c 4 _ rfl
  have y5 := A4.m.c 5 _ rfl
  have y6 := A4.m.c 6 _ rfl
  simp only [List.getElem_toArray, List.getElem_cons_zero, List.getElem_cons_succ] at x2 y0 y1 y2 y3 y4 y5 y6
  clear D4
  have A4h := hide A4
  clear I4 C4 A4 A3'
  have g0 := A3h2.out.g.c 0 _ rfl
  have g1 := A3h2.out.g.c 1 _ rfl
  have g2 := A3h2.out.g.c 2 _ rfl
  have e0 := A3h2.out.e.c 0 _ rfl
  have e1 := A3h2.out.e.c 1 _ rfl
  have e2 := A3h2.out.e.c 2 _ rfl
  simp only [List.getElem_toArray, List.getElem_cons_zero, List.getElem_cons_succ] at g0 g1 g2 e0 e1 e2
  have l1 := A3h2.out.m.lt
  have l2 := A3h2.out.g.lt
  have l3 := A3h2.out.e.lt
  have u1 : ¬ (w3.heap.size + 1 + 1 + 1 + 1 + 1 + 1 + 1) = w6.heap.size := by omega
  have u2 : ¬ (w3.heap.size + 1 + 1 + 1 + 1 + 1 + 1 + 1) = w6.heap.size + 1 := by omega
  go_wp2_with fail
  clear g0 g1 g2 e0 e1 e2 x2 xf y0 y1 y2 y3 y4 y5 y6 l1 l2 l3 u1 u2
  refine (valid_yes (secV w3.heap.size _) (secM 1 true se4 a b) S4.out _ (HL.out.kept C4'.out) I4'.out (by simp [secM])).mono ?_
  rintro e w7 ⟨rfl, b4⟩
  have A4' := A4h.out.next b4
  have A4h2 := hide A4'
  have HB4 := hide (below_next C4'.out b4)
  clear b4 I4' C4' A4h
  go_wp2_with fail
  refine (flows_is a b false _ HA.out HB.out HFL.out).mono ?_
  rintro e w8 ⟨rfl, rfl⟩
  go_wp2_with fail
  refine (wide_is a true _ HA.out HWA.out).mono ?_
  rintro e w9 ⟨rfl, rfl⟩
  go_wp2_with fail
  refine (wide_is b true _ HB.out HWB.out).mono ?_
  rintro e w10 ⟨rfl, rfl⟩
  go_wp2_with fail
  go_ret
  exact ⟨rfl, HB4.out⟩
end Go.Proofs.YtamofhkmhjckaabGreatDoor

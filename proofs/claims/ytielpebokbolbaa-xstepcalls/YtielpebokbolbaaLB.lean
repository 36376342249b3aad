/-
  Merged: St1 St2 St3.
-/
import Derived.Test.YtielpebokbolbaaLA
/-
  The worker's step: what reckons; a halt.
-/
namespace Go.Proofs.Ytielpebokbolbaa
open Go.RowKit
open Xc (hide bel_one bel_tr bel_al bel_set Xi xv xc)
set_option linter.unusedSimpArgs false
set_option linter.unusedVariables false
section
variable {K : Nat → Prop} {base B : Nat} {m : Mc} {w w1 : World}
set_option maxRecDepth 100000 in
set_option maxHeartbeats 6400000 in
theorem step_rk (h : WK K base B m w) (op : Int) (wd : Bool) (r b i c n : Int) (hf : fet m = some ⟨op, wd, r, b, i, c, n⟩) (hrk : rkK op = true) : Calls Try.prog 27 #[.pointer (some ⟨B, 0, none⟩)] w (StEnds K base B m w) := by
  have HF := hide hf
  have HRT := hide (fet_ok hf).1
  have HIN := hide (fet_ok hf).2
  have HS := hide (stp_some hf)
  have H := hide h
  have hB : B < w.heap.size := h.lt
  have c20 := h.ca
  have IV := hide (i_wrap (m.at_ + ((Xc.enc ⟨op, wd, r, b, i, c, n⟩).length : Int)))
  have hrk' := hrk
  simp only [rkK, Bool.not_eq_true', Bool.or_eq_false_iff] at hrk'
  obtain ⟨⟨⟨⟨⟨⟨⟨⟨⟨⟨h8, h9⟩, h11⟩, h12⟩, h17⟩, h18⟩, h19⟩, h20⟩, h21⟩, h22⟩, h23⟩ := hrk'
  have HRK := hide hrk
  clear hrk
  clear h hf
  go_enter Try.func27, Try.ntmps27
  go_wp2_with fail
  refine gw (motive := fun x => Calls _ _ _ x _) (fun W => Hid (S0 K base B w.heap.size (w.heap.size + 1) m w W)) (s0_made H.out) ?_
  rintro W SW
  refine (fetch_any SW.out.wk.wx).mono ?_
  intro e w1 hft
  obtain ⟨hb1, rfl⟩ := ft_some HF.out hft
  clear hft
  simp only [xv]
  have S1 := hide (SW.out.bel hb1)
  clear hb1 SW c20 H hB
  have c20 := S1.out.wk.ca
  have f20 := S1.out.wk.fr 20
  have hB1 := S1.out.wk.lt
  generalize ((Xc.enc ⟨op, wd, r, b, i, c, n⟩).length : Int) = len at *
  go_upto_region 7 with fail
  refine gw (motive := fun x => Code.wp _ _ _ _ x) (fun V => Hid (SS K base B w.heap.size (w.heap.size + 1) w1.heap.size (m.sa (wrap64 (m.at_ + len))) ⟨m.at_, -1, 0, 0⟩ ⟨op, wd, r, b, i, c, n⟩ w V)) (S1.out.ss _ _ IV.out) ?_
  rintro V SV
  clear S1 c20 f20 hB1
  generalize w1.heap.size = q2 at *
  generalize w.heap.size + 1 = q1 at *
  generalize w.heap.size = q0 at *
  generalize wrap64 (m.at_ + len) = a1 at *
  obtain ⟨x0, x1, x2, x3, x4, x5, x6⟩ := SV.out.bx.cells
  simp only at x0 x1 x2 x3 x4 x5 x6
  have HD := hide (doX_rk (m.sa a1) ⟨op, wd, r, b, i, c, n⟩ m.at_ HRK.out)
  go_wp2_with fail
  refine (reckonK SV.out.wk ⟨op, wd, r, b, i, c, n⟩ HRT.out HIN.out HRK.out).mono ?_
  rintro e w2 ⟨rfl, g2⟩
  have S2 := hide (SV.out.call g2)
  clear g2 x0 x1 x2 x3 x4 x5 x6
  obtain ⟨z, hz⟩ := S2.out.l0
  obtain ⟨z0, z1, z2, z3⟩ := hz.cells
  have zf0 := hz.fr 0
  have zf1 := hz.fr 1
  have zf2 := hz.fr 2
  have zf3 := hz.fr 3
  obtain ⟨y0, y1, y2, y3⟩ := S2.out.l1.cells
  simp only at y0 y1 y2 y3
  clear hz
  go_wp2_with fail
  refine bodyPost_ret (results_l rfl _ _ q0 _ rfl S2.out.fin.1) rfl ?_
  exact st_end (M := m) (X := ⟨0, false, 0, 0, 0, 0, 0⟩) (q0 := 0) (q1 := 0) (q2 := 0) (V := w) (HS.out.trans HD.out) rfl S2.out.fin.2
set_option maxRecDepth 100000 in
set_option maxHeartbeats 6400000 in
theorem step_21 (h : WK K base B m w) (wd : Bool) (r b i c n : Int) (hf : fet m = some ⟨21, wd, r, b, i, c, n⟩) : Calls Try.prog 27 #[.pointer (some ⟨B, 0, none⟩)] w (StEnds K base B m w) := by
  have HF := hide hf
  have HRT := hide (fet_ok hf).1
  have HIN := hide (fet_ok hf).2
  have HS := hide (stp_some hf)
  have H := hide h
  have hB : B < w.heap.size := h.lt
  have c20 := h.ca
  have IV := hide (i_wrap (m.at_ + ((Xc.enc ⟨21, wd, r, b, i, c, n⟩).length : Int)))
  clear h hf
  go_enter Try.func27, Try.ntmps27
  go_wp2_with fail
  refine gw (motive := fun x => Calls _ _ _ x _) (fun W => Hid (S0 K base B w.heap.size (w.heap.size + 1) m w W)) (s0_made H.out) ?_
  rintro W SW
  refine (fetch_any SW.out.wk.wx).mono ?_
  intro e w1 hft
  obtain ⟨hb1, rfl⟩ := ft_some HF.out hft
  clear hft
  simp only [xv]
  have S1 := hide (SW.out.bel hb1)
  clear hb1 SW c20 H hB
  have c20 := S1.out.wk.ca
  have f20 := S1.out.wk.fr 20
  have hB1 := S1.out.wk.lt
  generalize ((Xc.enc ⟨21, wd, r, b, i, c, n⟩).length : Int) = len at *
  go_upto_region 7 with fail
  refine gw (motive := fun x => Code.wp _ _ _ _ x) (fun V => Hid (SS K base B w.heap.size (w.heap.size + 1) w1.heap.size (m.sa (wrap64 (m.at_ + len))) ⟨m.at_, -1, 0, 0⟩ ⟨21, wd, r, b, i, c, n⟩ w V)) (S1.out.ss _ _ IV.out) ?_
  rintro V SV
  clear S1 c20 f20 hB1
  generalize w1.heap.size = q2 at *
  generalize w.heap.size + 1 = q1 at *
  generalize w.heap.size = q0 at *
  generalize wrap64 (m.at_ + len) = a1 at *
  obtain ⟨x0, x1, x2, x3, x4, x5, x6⟩ := SV.out.bx.cells
  simp only at x0 x1 x2 x3 x4 x5 x6
  have HD : Hid (doX (m.sa a1) ⟨21, wd, r, b, i, c, n⟩ m.at_ = ((m.sa a1).ss 1, ⟨m.at_, -1, 0, 0⟩)) := by show _ = _; simp [doX]
  have c22 := SV.out.wk.ct
  have f22 := SV.out.wk.fr 22
  go_upto_region 31 with fail
  refine gw (motive := fun x => Code.wp _ _ _ _ x) (fun V => Hid (SS K base B q0 q1 q2 ((m.sa a1).ss 1) ⟨m.at_, -1, 0, 0⟩ ⟨21, wd, r, b, i, c, n⟩ w V)) (SV.out.call (SV.out.wk.sett 1)) ?_
  rintro V2 S2
  clear x0 x1 x2 x3 x4 x5 x6 c22 f22
  obtain ⟨z, hz⟩ := S2.out.l0
  obtain ⟨z0, z1, z2, z3⟩ := hz.cells
  have zf0 := hz.fr 0
  have zf1 := hz.fr 1
  have zf2 := hz.fr 2
  have zf3 := hz.fr 3
  obtain ⟨y0, y1, y2, y3⟩ := S2.out.l1.cells
  simp only at y0 y1 y2 y3
  clear hz
  go_wp2_with fail
  refine bodyPost_ret (results_l rfl _ _ q0 _ rfl S2.out.fin.1) rfl ?_
  exact st_end (M := m) (X := ⟨0, false, 0, 0, 0, 0, 0⟩) (q0 := 0) (q1 := 0) (q2 := 0) (V := w) (HS.out.trans HD.out) rfl S2.out.fin.2
end
end Go.Proofs.Ytielpebokbolbaa
/-
  The worker's step: what stops, or asks.
-/
namespace Go.Proofs.Ytielpebokbolbaa
open Go.RowKit
open Xc (hide bel_one bel_tr bel_al bel_set Xi xv xc)
set_option linter.unusedSimpArgs false
set_option linter.unusedVariables false
section
variable {K : Nat → Prop} {base B : Nat} {m : Mc} {w w1 : World}
set_option maxRecDepth 100000 in
set_option maxHeartbeats 6400000 in
theorem step_22 (h : WK K base B m w) (wd : Bool) (r b i c n : Int) (hf : fet m = some ⟨22, wd, r, b, i, c, n⟩) : Calls Try.prog 27 #[.pointer (some ⟨B, 0, none⟩)] w (StEnds K base B m w) := by
  have HF := hide hf
  have HRT := hide (fet_ok hf).1
  have HIN := hide (fet_ok hf).2
  have HS := hide (stp_some hf)
  have H := hide h
  have hB : B < w.heap.size := h.lt
  have c20 := h.ca
  have IV := hide (i_wrap (m.at_ + ((Xc.enc ⟨22, wd, r, b, i, c, n⟩).length : Int)))
  clear h hf
  go_enter Try.func27, Try.ntmps27
  go_wp2_with fail
  refine gw (motive := fun x => Calls _ _ _ x _) (fun W => Hid (S0 K base B w.heap.size (w.heap.size + 1) m w W)) (s0_made H.out) ?_
  rintro W SW
  refine (fetch_any SW.out.wk.wx).mono ?_
  intro e w1 hft
  obtain ⟨hb1, rfl⟩ := ft_some HF.out hft
  clear hft
  simp only [xv]
  have S1 := hide (SW.out.bel hb1)
  clear hb1 SW c20 H hB
  have c20 := S1.out.wk.ca
  have f20 := S1.out.wk.fr 20
  have hB1 := S1.out.wk.lt
  generalize ((Xc.enc ⟨22, wd, r, b, i, c, n⟩).length : Int) = len at *
  go_upto_region 7 with fail
  refine gw (motive := fun x => Code.wp _ _ _ _ x) (fun V => Hid (SS K base B w.heap.size (w.heap.size + 1) w1.heap.size (m.sa (wrap64 (m.at_ + len))) ⟨m.at_, -1, 0, 0⟩ ⟨22, wd, r, b, i, c, n⟩ w V)) (S1.out.ss _ _ IV.out) ?_
  rintro V SV
  clear S1 c20 f20 hB1
  generalize w1.heap.size = q2 at *
  generalize w.heap.size + 1 = q1 at *
  generalize w.heap.size = q0 at *
  generalize wrap64 (m.at_ + len) = a1 at *
  obtain ⟨x0, x1, x2, x3, x4, x5, x6⟩ := SV.out.bx.cells
  simp only at x0 x1 x2 x3 x4 x5 x6
  have HD : Hid (doX (m.sa a1) ⟨22, wd, r, b, i, c, n⟩ m.at_ = ((m.sa a1).ss 2, ⟨m.at_, -1, 0, 0⟩)) := by show _ = _; simp [doX]
  have c22 := SV.out.wk.ct
  have f22 := SV.out.wk.fr 22
  go_upto_region 31 with fail
  refine gw (motive := fun x => Code.wp _ _ _ _ x) (fun V => Hid (SS K base B q0 q1 q2 ((m.sa a1).ss 2) ⟨m.at_, -1, 0, 0⟩ ⟨22, wd, r, b, i, c, n⟩ w V)) (SV.out.call (SV.out.wk.sett 2)) ?_
  rintro V2 S2
  clear x0 x1 x2 x3 x4 x5 x6 c22 f22
  obtain ⟨z, hz⟩ := S2.out.l0
  obtain ⟨z0, z1, z2, z3⟩ := hz.cells
  have zf0 := hz.fr 0
  have zf1 := hz.fr 1
  have zf2 := hz.fr 2
  have zf3 := hz.fr 3
  obtain ⟨y0, y1, y2, y3⟩ := S2.out.l1.cells
  simp only at y0 y1 y2 y3
  clear hz
  go_wp2_with fail
  refine bodyPost_ret (results_l rfl _ _ q0 _ rfl S2.out.fin.1) rfl ?_
  exact st_end (M := m) (X := ⟨0, false, 0, 0, 0, 0, 0⟩) (q0 := 0) (q1 := 0) (q2 := 0) (V := w) (HS.out.trans HD.out) rfl S2.out.fin.2
set_option maxRecDepth 100000 in
set_option maxHeartbeats 6400000 in
theorem step_23 (h : WK K base B m w) (wd : Bool) (r b i c n : Int) (hf : fet m = some ⟨23, wd, r, b, i, c, n⟩) : Calls Try.prog 27 #[.pointer (some ⟨B, 0, none⟩)] w (StEnds K base B m w) := by
  have HF := hide hf
  have HRT := hide (fet_ok hf).1
  have HIN := hide (fet_ok hf).2
  have HS := hide (stp_some hf)
  have H := hide h
  have hB : B < w.heap.size := h.lt
  have c20 := h.ca
  have IV := hide (i_wrap (m.at_ + ((Xc.enc ⟨23, wd, r, b, i, c, n⟩).length : Int)))
  clear h hf
  go_enter Try.func27, Try.ntmps27
  go_wp2_with fail
  refine gw (motive := fun x => Calls _ _ _ x _) (fun W => Hid (S0 K base B w.heap.size (w.heap.size + 1) m w W)) (s0_made H.out) ?_
  rintro W SW
  refine (fetch_any SW.out.wk.wx).mono ?_
  intro e w1 hft
  obtain ⟨hb1, rfl⟩ := ft_some HF.out hft
  clear hft
  simp only [xv]
  have S1 := hide (SW.out.bel hb1)
  clear hb1 SW c20 H hB
  have c20 := S1.out.wk.ca
  have f20 := S1.out.wk.fr 20
  have hB1 := S1.out.wk.lt
  generalize ((Xc.enc ⟨23, wd, r, b, i, c, n⟩).length : Int) = len at *
  go_upto_region 7 with fail
  refine gw (motive := fun x => Code.wp _ _ _ _ x) (fun V => Hid (SS K base B w.heap.size (w.heap.size + 1) w1.heap.size (m.sa (wrap64 (m.at_ + len))) ⟨m.at_, -1, 0, 0⟩ ⟨23, wd, r, b, i, c, n⟩ w V)) (S1.out.ss _ _ IV.out) ?_
  rintro V SV
  clear S1 c20 f20 hB1
  generalize w1.heap.size = q2 at *
  generalize w.heap.size + 1 = q1 at *
  generalize w.heap.size = q0 at *
  generalize wrap64 (m.at_ + len) = a1 at *
  obtain ⟨x0, x1, x2, x3, x4, x5, x6⟩ := SV.out.bx.cells
  simp only at x0 x1 x2 x3 x4 x5 x6
  have HD : Hid (doX (m.sa a1) ⟨23, wd, r, b, i, c, n⟩ m.at_ = ((m.sa a1).ss 3, ⟨m.at_, -1, 0, 0⟩)) := by show _ = _; simp [doX]
  have c22 := SV.out.wk.ct
  have f22 := SV.out.wk.fr 22
  go_upto_region 31 with fail
  refine gw (motive := fun x => Code.wp _ _ _ _ x) (fun V => Hid (SS K base B q0 q1 q2 ((m.sa a1).ss 3) ⟨m.at_, -1, 0, 0⟩ ⟨23, wd, r, b, i, c, n⟩ w V)) (SV.out.call (SV.out.wk.sett 3)) ?_
  rintro V2 S2
  clear x0 x1 x2 x3 x4 x5 x6 c22 f22
  obtain ⟨z, hz⟩ := S2.out.l0
  obtain ⟨z0, z1, z2, z3⟩ := hz.cells
  have zf0 := hz.fr 0
  have zf1 := hz.fr 1
  have zf2 := hz.fr 2
  have zf3 := hz.fr 3
  obtain ⟨y0, y1, y2, y3⟩ := S2.out.l1.cells
  simp only at y0 y1 y2 y3
  clear hz
  go_wp2_with fail
  refine bodyPost_ret (results_l rfl _ _ q0 _ rfl S2.out.fin.1) rfl ?_
  exact st_end (M := m) (X := ⟨0, false, 0, 0, 0, 0, 0⟩) (q0 := 0) (q1 := 0) (q2 := 0) (V := w) (HS.out.trans HD.out) rfl S2.out.fin.2
end
end Go.Proofs.Ytielpebokbolbaa
/-
  The worker's step: jumps.
-/
namespace Go.Proofs.Ytielpebokbolbaa
open Go.RowKit
open Xc (hide bel_one bel_tr bel_al bel_set Xi xv xc)
set_option linter.unusedSimpArgs false
set_option linter.unusedVariables false
section
variable {K : Nat → Prop} {base B : Nat} {m : Mc} {w w1 : World}
set_option maxRecDepth 100000 in
set_option maxHeartbeats 6400000 in
theorem step_17 (h : WK K base B m w) (wd : Bool) (r b i c n : Int) (hf : fet m = some ⟨17, wd, r, b, i, c, n⟩) : Calls Try.prog 27 #[.pointer (some ⟨B, 0, none⟩)] w (StEnds K base B m w) := by
  have HF := hide hf
  have HRT := hide (fet_ok hf).1
  have HIN := hide (fet_ok hf).2
  have HS := hide (stp_some hf)
  have H := hide h
  have hB : B < w.heap.size := h.lt
  have c20 := h.ca
  have IV := hide (i_wrap (m.at_ + ((Xc.enc ⟨17, wd, r, b, i, c, n⟩).length : Int)))
  clear h hf
  go_enter Try.func27, Try.ntmps27
  go_wp2_with fail
  refine gw (motive := fun x => Calls _ _ _ x _) (fun W => Hid (S0 K base B w.heap.size (w.heap.size + 1) m w W)) (s0_made H.out) ?_
  rintro W SW
  refine (fetch_any SW.out.wk.wx).mono ?_
  intro e w1 hft
  obtain ⟨hb1, rfl⟩ := ft_some HF.out hft
  clear hft
  simp only [xv]
  have S1 := hide (SW.out.bel hb1)
  clear hb1 SW c20 H hB
  have c20 := S1.out.wk.ca
  have f20 := S1.out.wk.fr 20
  have hB1 := S1.out.wk.lt
  generalize ((Xc.enc ⟨17, wd, r, b, i, c, n⟩).length : Int) = len at *
  go_upto_region 7 with fail
  refine gw (motive := fun x => Code.wp _ _ _ _ x) (fun V => Hid (SS K base B w.heap.size (w.heap.size + 1) w1.heap.size (m.sa (wrap64 (m.at_ + len))) ⟨m.at_, -1, 0, 0⟩ ⟨17, wd, r, b, i, c, n⟩ w V)) (S1.out.ss _ _ IV.out) ?_
  rintro V SV
  clear S1 c20 f20 hB1
  generalize w1.heap.size = q2 at *
  generalize w.heap.size + 1 = q1 at *
  generalize w.heap.size = q0 at *
  generalize wrap64 (m.at_ + len) = a1 at *
  obtain ⟨x0, x1, x2, x3, x4, x5, x6⟩ := SV.out.bx.cells
  simp only at x0 x1 x2 x3 x4 x5 x6
  have HD : Hid (doX (m.sa a1) ⟨17, wd, r, b, i, c, n⟩ m.at_ = ((m.sa a1).sa (wrap64 ((m.sa a1).at_ + n)), ⟨m.at_, -1, 0, 0⟩)) := by show _ = _; simp [doX]
  have c20 := SV.out.wk.ca
  rw [show (m.sa a1).at_ = a1 from rfl] at c20
  have f20 := SV.out.wk.fr 20
  go_wp2_with fail
  go_region
  all_goals
    have S2 : Hid (SS K base B q0 q1 q2 ((m.sa a1).sa (wrap64 (a1 + n))) ⟨m.at_, -1, 0, 0⟩ ⟨17, wd, r, b, i, c, n⟩ w ((V.setCell ⟨B, 20, none⟩ (.int .i64 (wrap64 (a1 + n)))).drew)) := ((SV.out.call (SV.out.wk.seta _ (i_wrap _))).call (SV.out.call (SV.out.wk.seta _ (i_wrap _))).wk.dr)
    generalize (V.setCell ⟨B, 20, none⟩ (Value.int IntKind.i64 (wrap64 (a1 + n)))).drew = V2 at S2 ⊢
    clear x0 x1 x2 x3 x4 x5 x6 c20 f20
    obtain ⟨z, hz⟩ := S2.out.l0
    obtain ⟨z0, z1, z2, z3⟩ := hz.cells
    have zf0 := hz.fr 0
    have zf1 := hz.fr 1
    have zf2 := hz.fr 2
    have zf3 := hz.fr 3
    obtain ⟨y0, y1, y2, y3⟩ := S2.out.l1.cells
    simp only at y0 y1 y2 y3
    clear hz
    go_wp2_with fail
    refine bodyPost_ret (results_l rfl _ _ q0 _ rfl S2.out.fin.1) rfl ?_
    exact st_end (M := m) (X := ⟨0, false, 0, 0, 0, 0, 0⟩) (q0 := 0) (q1 := 0) (q2 := 0) (V := w) (HS.out.trans HD.out) rfl S2.out.fin.2
set_option maxRecDepth 100000 in
set_option maxHeartbeats 6400000 in
theorem step_18t (h : WK K base B m w) (wd : Bool) (r b i c n : Int) (hf : fet m = some ⟨18, wd, r, b, i, c, n⟩) (hq : m.hd c = true) : Calls Try.prog 27 #[.pointer (some ⟨B, 0, none⟩)] w (StEnds K base B m w) := by
  have HF := hide hf
  have HRT := hide (fet_ok hf).1
  have HIN := hide (fet_ok hf).2
  have HS := hide (stp_some hf)
  have H := hide h
  have hB : B < w.heap.size := h.lt
  have c20 := h.ca
  have IV := hide (i_wrap (m.at_ + ((Xc.enc ⟨18, wd, r, b, i, c, n⟩).length : Int)))
  have HQ := hide hq
  clear hq
  clear h hf
  go_enter Try.func27, Try.ntmps27
  go_wp2_with fail
  refine gw (motive := fun x => Calls _ _ _ x _) (fun W => Hid (S0 K base B w.heap.size (w.heap.size + 1) m w W)) (s0_made H.out) ?_
  rintro W SW
  refine (fetch_any SW.out.wk.wx).mono ?_
  intro e w1 hft
  obtain ⟨hb1, rfl⟩ := ft_some HF.out hft
  clear hft
  simp only [xv]
  have S1 := hide (SW.out.bel hb1)
  clear hb1 SW c20 H hB
  have c20 := S1.out.wk.ca
  have f20 := S1.out.wk.fr 20
  have hB1 := S1.out.wk.lt
  generalize ((Xc.enc ⟨18, wd, r, b, i, c, n⟩).length : Int) = len at *
  go_upto_region 7 with fail
  refine gw (motive := fun x => Code.wp _ _ _ _ x) (fun V => Hid (SS K base B w.heap.size (w.heap.size + 1) w1.heap.size (m.sa (wrap64 (m.at_ + len))) ⟨m.at_, -1, 0, 0⟩ ⟨18, wd, r, b, i, c, n⟩ w V)) (S1.out.ss _ _ IV.out) ?_
  rintro V SV
  clear S1 c20 f20 hB1
  generalize w1.heap.size = q2 at *
  generalize w.heap.size + 1 = q1 at *
  generalize w.heap.size = q0 at *
  generalize wrap64 (m.at_ + len) = a1 at *
  obtain ⟨x0, x1, x2, x3, x4, x5, x6⟩ := SV.out.bx.cells
  simp only at x0 x1 x2 x3 x4 x5 x6
  have HD : Hid (doX (m.sa a1) ⟨18, wd, r, b, i, c, n⟩ m.at_ = ((m.sa a1).sa (wrap64 ((m.sa a1).at_ + n)), ⟨m.at_, -1, 0, 0⟩)) := by
    have hq : (m.sa a1).hd c = true := HQ.out
    show _ = _; simp [doX, hq]
  go_wp2_with fail
  refine (holdsK SV.out.wk ⟨18, wd, r, b, i, c, n⟩).mono ?_
  rintro e w2 ⟨rfl, hb2⟩
  rw [show (m.sa a1).hd (⟨18, wd, r, b, i, c, n⟩ : Xi).c = true from HQ.out]
  have SU := hide (SV.out.bel hb2)
  clear hb2 x0 x1 x2 x3 x4 x5 x6
  obtain ⟨x0, x1, x2, x3, x4, x5, x6⟩ := SU.out.bx.cells
  simp only at x0 x1 x2 x3 x4 x5 x6
  have c20 := SU.out.wk.ca
  rw [show (m.sa a1).at_ = a1 from rfl] at c20
  have f20 := SU.out.wk.fr 20
  go_wp2_with fail
  go_region
  all_goals
    have S2 : Hid (SS K base B q0 q1 q2 ((m.sa a1).sa (wrap64 (a1 + n))) ⟨m.at_, -1, 0, 0⟩ ⟨18, wd, r, b, i, c, n⟩ w ((w2.setCell ⟨B, 20, none⟩ (.int .i64 (wrap64 (a1 + n)))).drew)) := ((SU.out.call (SU.out.wk.seta _ (i_wrap _))).call (SU.out.call (SU.out.wk.seta _ (i_wrap _))).wk.dr)
    generalize (w2.setCell ⟨B, 20, none⟩ (Value.int IntKind.i64 (wrap64 (a1 + n)))).drew = V2 at S2 ⊢
    clear x0 x1 x2 x3 x4 x5 x6 c20 f20
    obtain ⟨z, hz⟩ := S2.out.l0
    obtain ⟨z0, z1, z2, z3⟩ := hz.cells
    have zf0 := hz.fr 0
    have zf1 := hz.fr 1
    have zf2 := hz.fr 2
    have zf3 := hz.fr 3
    obtain ⟨y0, y1, y2, y3⟩ := S2.out.l1.cells
    simp only at y0 y1 y2 y3
    clear hz
    go_wp2_with fail
    refine bodyPost_ret (results_l rfl _ _ q0 _ rfl S2.out.fin.1) rfl ?_
    exact st_end (M := m) (X := ⟨0, false, 0, 0, 0, 0, 0⟩) (q0 := 0) (q1 := 0) (q2 := 0) (V := w) (HS.out.trans HD.out) rfl S2.out.fin.2
set_option maxRecDepth 100000 in
set_option maxHeartbeats 6400000 in
theorem step_18f (h : WK K base B m w) (wd : Bool) (r b i c n : Int) (hf : fet m = some ⟨18, wd, r, b, i, c, n⟩) (hq : m.hd c = false) : Calls Try.prog 27 #[.pointer (some ⟨B, 0, none⟩)] w (StEnds K base B m w) := by
  have HF := hide hf
  have HRT := hide (fet_ok hf).1
  have HIN := hide (fet_ok hf).2
  have HS := hide (stp_some hf)
  have H := hide h
  have hB : B < w.heap.size := h.lt
  have c20 := h.ca
  have IV := hide (i_wrap (m.at_ + ((Xc.enc ⟨18, wd, r, b, i, c, n⟩).length : Int)))
  have HQ := hide hq
  clear hq
  clear h hf
  go_enter Try.func27, Try.ntmps27
  go_wp2_with fail
  refine gw (motive := fun x => Calls _ _ _ x _) (fun W => Hid (S0 K base B w.heap.size (w.heap.size + 1) m w W)) (s0_made H.out) ?_
  rintro W SW
  refine (fetch_any SW.out.wk.wx).mono ?_
  intro e w1 hft
  obtain ⟨hb1, rfl⟩ := ft_some HF.out hft
  clear hft
  simp only [xv]
  have S1 := hide (SW.out.bel hb1)
  clear hb1 SW c20 H hB
  have c20 := S1.out.wk.ca
  have f20 := S1.out.wk.fr 20
  have hB1 := S1.out.wk.lt
  generalize ((Xc.enc ⟨18, wd, r, b, i, c, n⟩).length : Int) = len at *
  go_upto_region 7 with fail
  refine gw (motive := fun x => Code.wp _ _ _ _ x) (fun V => Hid (SS K base B w.heap.size (w.heap.size + 1) w1.heap.size (m.sa (wrap64 (m.at_ + len))) ⟨m.at_, -1, 0, 0⟩ ⟨18, wd, r, b, i, c, n⟩ w V)) (S1.out.ss _ _ IV.out) ?_
  rintro V SV
  clear S1 c20 f20 hB1
  generalize w1.heap.size = q2 at *
  generalize w.heap.size + 1 = q1 at *
  generalize w.heap.size = q0 at *
  generalize wrap64 (m.at_ + len) = a1 at *
  obtain ⟨x0, x1, x2, x3, x4, x5, x6⟩ := SV.out.bx.cells
  simp only at x0 x1 x2 x3 x4 x5 x6
  have HD : Hid (doX (m.sa a1) ⟨18, wd, r, b, i, c, n⟩ m.at_ = (m.sa a1, ⟨m.at_, -1, 0, 0⟩)) := by
    have hq : (m.sa a1).hd c = false := HQ.out
    show _ = _; simp [doX, hq]
  go_wp2_with fail
  refine (holdsK SV.out.wk ⟨18, wd, r, b, i, c, n⟩).mono ?_
  rintro e w2 ⟨rfl, hb2⟩
  rw [show (m.sa a1).hd (⟨18, wd, r, b, i, c, n⟩ : Xi).c = false from HQ.out]
  have SU := hide (SV.out.bel hb2)
  clear hb2 x0 x1 x2 x3 x4 x5 x6
  obtain ⟨x0, x1, x2, x3, x4, x5, x6⟩ := SU.out.bx.cells
  simp only at x0 x1 x2 x3 x4 x5 x6
  clear x0 x1 x2 x3 x4 x5 x6
  obtain ⟨z, hz⟩ := SU.out.l0
  obtain ⟨z0, z1, z2, z3⟩ := hz.cells
  have zf0 := hz.fr 0
  have zf1 := hz.fr 1
  have zf2 := hz.fr 2
  have zf3 := hz.fr 3
  obtain ⟨y0, y1, y2, y3⟩ := SU.out.l1.cells
  simp only at y0 y1 y2 y3
  clear hz
  go_wp2_with fail
  refine bodyPost_ret (results_l rfl _ _ q0 _ rfl SU.out.fin.1) rfl ?_
  exact st_end (M := m) (X := ⟨0, false, 0, 0, 0, 0, 0⟩) (q0 := 0) (q1 := 0) (q2 := 0) (V := w) (HS.out.trans HD.out) rfl SU.out.fin.2
end
end Go.Proofs.Ytielpebokbolbaa

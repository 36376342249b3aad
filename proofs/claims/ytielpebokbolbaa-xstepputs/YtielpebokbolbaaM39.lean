/-
  The worker's step: calls and returns.
  The worker's step: any.
-/
import Derived.Test.YtielpebokbolbaaM35
import Derived.Test.YtielpebokbolbaaM36
import Derived.Test.YtielpebokbolbaaM37
import Derived.Test.YtielpebokbolbaaM38
namespace Go.Proofs.Ytielpebokbolbaa
open Go.RowKit
open Xc (hide bel_one bel_tr bel_al bel_set Xi xv xc)
set_option linter.unusedSimpArgs false
set_option linter.unusedVariables false
section
variable {K : Nat → Prop} {base B : Nat} {m : Mc} {w w1 : World}
set_option maxRecDepth 100000 in
set_option maxHeartbeats 6400000 in
theorem step_19y (h : WK K base B m w) (wd : Bool) (r b i c n : Int) {m2 : Mc} (hf : fet m = some ⟨19, wd, r, b, i, c, n⟩) (hd : acc (m.sa (wrap64 (m.at_ + ((Xc.enc ⟨19, wd, r, b, i, c, n⟩).length : Int)))) ⟨19, wd, r, b, i, c, n⟩ (adr (m.sa (wrap64 (m.at_ + ((Xc.enc ⟨19, wd, r, b, i, c, n⟩).length : Int)))) ⟨19, wd, r, b, i, c, n⟩) = some m2) : Calls Try.prog 27 #[.pointer (some ⟨B, 0, none⟩)] w (StEnds K base B m w) := by
  have HF := hide hf
  have HRT := hide (fet_ok hf).1
  have HIN := hide (fet_ok hf).2
  have HS := hide (stp_some hf)
  have H := hide h
  have hB : B < w.heap.size := h.lt
  have c20 := h.ca
  have IV := hide (i_wrap (m.at_ + ((Xc.enc ⟨19, wd, r, b, i, c, n⟩).length : Int)))
  have HDV := hide hd
  clear hd
  clear h hf
  go_enter Try.func27, Try.ntmps27
  go_wp2_with fail
  refine gw (motive := fun x => Calls _ _ _ x _) (fun W => Hid (S0 K base B w.heap.size (w.heap.size + 1) m w W)) (s0_made H.out) ?_
  rintro W SW
  refine (fetch_any SW.out.wk.wx).mono ?_
  intro e w1 hft
  obtain ⟨hb1, rfl⟩ := ft_some HF.out hft
  clear hft
  simp only [xv]
  have S1 := hide (SW.out.bel hb1)
  clear hb1 SW c20 H hB
  have c20 := S1.out.wk.ca
  have f20 := S1.out.wk.fr 20
  have hB1 := S1.out.wk.lt
  generalize ((Xc.enc ⟨19, wd, r, b, i, c, n⟩).length : Int) = len at *
  go_upto_region 7 with fail
  refine gw (motive := fun x => Code.wp _ _ _ _ x) (fun V => Hid (SS K base B w.heap.size (w.heap.size + 1) w1.heap.size (m.sa (wrap64 (m.at_ + len))) ⟨m.at_, -1, 0, 0⟩ ⟨19, wd, r, b, i, c, n⟩ w V)) (S1.out.ss _ _ IV.out) ?_
  rintro V SV
  clear S1 c20 f20 hB1
  generalize w1.heap.size = q2 at *
  generalize w.heap.size + 1 = q1 at *
  generalize w.heap.size = q0 at *
  generalize wrap64 (m.at_ + len) = a1 at *
  obtain ⟨x0, x1, x2, x3, x4, x5, x6⟩ := SV.out.bx.cells
  simp only at x0 x1 x2 x3 x4 x5 x6
  have HD : Hid (doX (m.sa a1) ⟨19, wd, r, b, i, c, n⟩ m.at_ = (m2, ⟨m.at_, adr (m.sa a1) ⟨19, wd, r, b, i, c, n⟩, 0, 0⟩)) := by
    have hd := HDV.out
    show _ = _; simp [doX, hd]
  have IA := hide (i_adr SV.out.wk.ok ⟨19, wd, r, b, i, c, n⟩)
  go_wp2_with fail
  refine (addressK SV.out.wk ⟨19, wd, r, b, i, c, n⟩ HRT.out (by simp [mmK])).mono ?_
  rintro e w2 ⟨rfl, hb2⟩
  generalize adr (m.sa a1) ⟨19, wd, r, b, i, c, n⟩ = ad at *
  have SU := hide (SV.out.bel hb2)
  clear hb2 x0 x1 x2 x3 x4 x5 x6
  obtain ⟨y0, y1, y2, y3⟩ := SU.out.l1.cells
  simp only at y0 y1 y2 y3
  have yf1 := SU.out.l1.fr 1
  go_upto_region 14 with fail
  refine gw (motive := fun x => Code.wp _ _ _ _ x) (fun V => Hid (SS K base B q0 q1 q2 (m.sa a1) ⟨m.at_, ad, 0, 0⟩ ⟨19, wd, r, b, i, c, n⟩ w V)) (SU.out.poke1 1 _ (SU.out.l1.set1 ad)) ?_
  rintro V2 S2
  clear y0 y1 y2 y3 yf1 SU
  obtain ⟨x0, x1, x2, x3, x4, x5, x6⟩ := S2.out.bx.cells
  simp only at x0 x1 x2 x3 x4 x5 x6
  obtain ⟨y0, y1, y2, y3⟩ := S2.out.l1.cells
  simp only at y0 y1 y2 y3
  go_wp2_with fail
  refine (accessK S2.out.wk ⟨19, wd, r, b, i, c, n⟩ HRT.out (by simp [mmK]) ad IA.out).mono ?_
  rintro e w3 ⟨rfl, g3⟩
  rw [HDV.out] at g3 ⊢
  simp only [Option.getD_some, Option.getD_none, Option.isSome_some, Option.isSome_none] at g3 ⊢
  have S3 := hide (S2.out.call g3)
  clear g3 x0 x1 x2 x3 x4 x5 x6 y0 y1 y2 y3
  obtain ⟨z, hz⟩ := S3.out.l0
  obtain ⟨z0, z1, z2, z3⟩ := hz.cells
  have zf0 := hz.fr 0
  have zf1 := hz.fr 1
  have zf2 := hz.fr 2
  have zf3 := hz.fr 3
  obtain ⟨y0, y1, y2, y3⟩ := S3.out.l1.cells
  simp only at y0 y1 y2 y3
  clear hz
  go_wp2_with fail
  refine bodyPost_ret (results_l rfl _ _ q0 _ rfl S3.out.fin.1) rfl ?_
  exact st_end (M := m) (X := ⟨0, false, 0, 0, 0, 0, 0⟩) (q0 := 0) (q1 := 0) (q2 := 0) (V := w) (HS.out.trans HD.out) rfl S3.out.fin.2
set_option maxRecDepth 100000 in
set_option maxHeartbeats 6400000 in
theorem step_19n (h : WK K base B m w) (wd : Bool) (r b i c n : Int) (hf : fet m = some ⟨19, wd, r, b, i, c, n⟩) (hd : acc (m.sa (wrap64 (m.at_ + ((Xc.enc ⟨19, wd, r, b, i, c, n⟩).length : Int)))) ⟨19, wd, r, b, i, c, n⟩ (adr (m.sa (wrap64 (m.at_ + ((Xc.enc ⟨19, wd, r, b, i, c, n⟩).length : Int)))) ⟨19, wd, r, b, i, c, n⟩) = none) : Calls Try.prog 27 #[.pointer (some ⟨B, 0, none⟩)] w (StEnds K base B m w) := by
  have HF := hide hf
  have HRT := hide (fet_ok hf).1
  have HIN := hide (fet_ok hf).2
  have HS := hide (stp_some hf)
  have H := hide h
  have hB : B < w.heap.size := h.lt
  have c20 := h.ca
  have IM := hide h.ok.2.2.1
  have IV := hide (i_wrap (m.at_ + ((Xc.enc ⟨19, wd, r, b, i, c, n⟩).length : Int)))
  have HDV := hide hd
  clear hd
  clear h hf
  go_enter Try.func27, Try.ntmps27
  go_wp2_with fail
  refine gw (motive := fun x => Calls _ _ _ x _) (fun W => Hid (S0 K base B w.heap.size (w.heap.size + 1) m w W)) (s0_made H.out) ?_
  rintro W SW
  refine (fetch_any SW.out.wk.wx).mono ?_
  intro e w1 hft
  obtain ⟨hb1, rfl⟩ := ft_some HF.out hft
  clear hft
  simp only [xv]
  have S1 := hide (SW.out.bel hb1)
  clear hb1 SW c20 H hB
  have c20 := S1.out.wk.ca
  have f20 := S1.out.wk.fr 20
  have hB1 := S1.out.wk.lt
  generalize ((Xc.enc ⟨19, wd, r, b, i, c, n⟩).length : Int) = len at *
  go_upto_region 7 with fail
  refine gw (motive := fun x => Code.wp _ _ _ _ x) (fun V => Hid (SS K base B w.heap.size (w.heap.size + 1) w1.heap.size (m.sa (wrap64 (m.at_ + len))) ⟨m.at_, -1, 0, 0⟩ ⟨19, wd, r, b, i, c, n⟩ w V)) (S1.out.ss _ _ IV.out) ?_
  rintro V SV
  clear S1 c20 f20 hB1
  generalize w1.heap.size = q2 at *
  generalize w.heap.size + 1 = q1 at *
  generalize w.heap.size = q0 at *
  generalize wrap64 (m.at_ + len) = a1 at *
  obtain ⟨x0, x1, x2, x3, x4, x5, x6⟩ := SV.out.bx.cells
  simp only at x0 x1 x2 x3 x4 x5 x6
  have HD : Hid (doX (m.sa a1) ⟨19, wd, r, b, i, c, n⟩ m.at_ = (((m.sa a1).sa m.at_).ss 4, ⟨m.at_, adr (m.sa a1) ⟨19, wd, r, b, i, c, n⟩, 0, 0⟩)) := by
    have hd := HDV.out
    show _ = _; simp [doX, hd]
  have IA := hide (i_adr SV.out.wk.ok ⟨19, wd, r, b, i, c, n⟩)
  go_wp2_with fail
  refine (addressK SV.out.wk ⟨19, wd, r, b, i, c, n⟩ HRT.out (by simp [mmK])).mono ?_
  rintro e w2 ⟨rfl, hb2⟩
  generalize adr (m.sa a1) ⟨19, wd, r, b, i, c, n⟩ = ad at *
  have SU := hide (SV.out.bel hb2)
  clear hb2 x0 x1 x2 x3 x4 x5 x6
  obtain ⟨y0, y1, y2, y3⟩ := SU.out.l1.cells
  simp only at y0 y1 y2 y3
  have yf1 := SU.out.l1.fr 1
  go_upto_region 14 with fail
  refine gw (motive := fun x => Code.wp _ _ _ _ x) (fun V => Hid (SS K base B q0 q1 q2 (m.sa a1) ⟨m.at_, ad, 0, 0⟩ ⟨19, wd, r, b, i, c, n⟩ w V)) (SU.out.poke1 1 _ (SU.out.l1.set1 ad)) ?_
  rintro V2 S2
  clear y0 y1 y2 y3 yf1 SU
  obtain ⟨x0, x1, x2, x3, x4, x5, x6⟩ := S2.out.bx.cells
  simp only at x0 x1 x2 x3 x4 x5 x6
  obtain ⟨y0, y1, y2, y3⟩ := S2.out.l1.cells
  simp only at y0 y1 y2 y3
  go_wp2_with fail
  refine (accessK S2.out.wk ⟨19, wd, r, b, i, c, n⟩ HRT.out (by simp [mmK]) ad IA.out).mono ?_
  rintro e w3 ⟨rfl, g3⟩
  rw [HDV.out] at g3 ⊢
  simp only [Option.getD_some, Option.getD_none, Option.isSome_some, Option.isSome_none] at g3 ⊢
  have S3 := hide (S2.out.call g3)
  clear g3 x0 x1 x2 x3 x4 x5 x6 y0 y1 y2 y3
  obtain ⟨y0, y1, y2, y3⟩ := S3.out.l1.cells
  simp only at y0 y1 y2 y3
  have c20 := S3.out.wk.ca
  have f20 := S3.out.wk.fr 20
  have c22 := S3.out.wk.ct
  have f22 := S3.out.wk.fr 22
  go_upto_region 31 with fail
  refine gw (motive := fun x => Code.wp _ _ _ _ x) (fun V => Hid (SS K base B q0 q1 q2 (((m.sa a1).sa m.at_).ss 4) ⟨m.at_, ad, 0, 0⟩ ⟨19, wd, r, b, i, c, n⟩ w V)) ((S3.out.call (S3.out.wk.seta m.at_ IM.out)).call ((S3.out.wk.seta m.at_ IM.out).wk.sett 4)) ?_
  rintro V4 S4
  clear y0 y1 y2 y3 c20 f20 c22 f22
  obtain ⟨z, hz⟩ := S4.out.l0
  obtain ⟨z0, z1, z2, z3⟩ := hz.cells
  have zf0 := hz.fr 0
  have zf1 := hz.fr 1
  have zf2 := hz.fr 2
  have zf3 := hz.fr 3
  obtain ⟨y0, y1, y2, y3⟩ := S4.out.l1.cells
  simp only at y0 y1 y2 y3
  clear hz
  go_wp2_with fail
  refine bodyPost_ret (results_l rfl _ _ q0 _ rfl S4.out.fin.1) rfl ?_
  exact st_end (M := m) (X := ⟨0, false, 0, 0, 0, 0, 0⟩) (q0 := 0) (q1 := 0) (q2 := 0) (V := w) (HS.out.trans HD.out) rfl S4.out.fin.2
set_option maxRecDepth 100000 in
set_option maxHeartbeats 6400000 in
theorem step_20y (h : WK K base B m w) (wd : Bool) (r b i c n : Int) {m2 : Mc} (hf : fet m = some ⟨20, wd, r, b, i, c, n⟩) (hd : acc (m.sa (wrap64 (m.at_ + ((Xc.enc ⟨20, wd, r, b, i, c, n⟩).length : Int)))) ⟨20, wd, r, b, i, c, n⟩ (adr (m.sa (wrap64 (m.at_ + ((Xc.enc ⟨20, wd, r, b, i, c, n⟩).length : Int)))) ⟨20, wd, r, b, i, c, n⟩) = some m2) : Calls Try.prog 27 #[.pointer (some ⟨B, 0, none⟩)] w (StEnds K base B m w) := by
  have HF := hide hf
  have HRT := hide (fet_ok hf).1
  have HIN := hide (fet_ok hf).2
  have HS := hide (stp_some hf)
  have H := hide h
  have hB : B < w.heap.size := h.lt
  have c20 := h.ca
  have IV := hide (i_wrap (m.at_ + ((Xc.enc ⟨20, wd, r, b, i, c, n⟩).length : Int)))
  have HDV := hide hd
  clear hd
  clear h hf
  go_enter Try.func27, Try.ntmps27
  go_wp2_with fail
  refine gw (motive := fun x => Calls _ _ _ x _) (fun W => Hid (S0 K base B w.heap.size (w.heap.size + 1) m w W)) (s0_made H.out) ?_
  rintro W SW
  refine (fetch_any SW.out.wk.wx).mono ?_
  intro e w1 hft
  obtain ⟨hb1, rfl⟩ := ft_some HF.out hft
  clear hft
  simp only [xv]
  have S1 := hide (SW.out.bel hb1)
  clear hb1 SW c20 H hB
  have c20 := S1.out.wk.ca
  have f20 := S1.out.wk.fr 20
  have hB1 := S1.out.wk.lt
  generalize ((Xc.enc ⟨20, wd, r, b, i, c, n⟩).length : Int) = len at *
  go_upto_region 7 with fail
  refine gw (motive := fun x => Code.wp _ _ _ _ x) (fun V => Hid (SS K base B w.heap.size (w.heap.size + 1) w1.heap.size (m.sa (wrap64 (m.at_ + len))) ⟨m.at_, -1, 0, 0⟩ ⟨20, wd, r, b, i, c, n⟩ w V)) (S1.out.ss _ _ IV.out) ?_
  rintro V SV
  clear S1 c20 f20 hB1
  generalize w1.heap.size = q2 at *
  generalize w.heap.size + 1 = q1 at *
  generalize w.heap.size = q0 at *
  generalize wrap64 (m.at_ + len) = a1 at *
  obtain ⟨x0, x1, x2, x3, x4, x5, x6⟩ := SV.out.bx.cells
  simp only at x0 x1 x2 x3 x4 x5 x6
  have HD : Hid (doX (m.sa a1) ⟨20, wd, r, b, i, c, n⟩ m.at_ = (m2, ⟨m.at_, adr (m.sa a1) ⟨20, wd, r, b, i, c, n⟩, 0, 0⟩)) := by
    have hd := HDV.out
    show _ = _; simp [doX, hd]
  have IA := hide (i_adr SV.out.wk.ok ⟨20, wd, r, b, i, c, n⟩)
  go_wp2_with fail
  refine (addressK SV.out.wk ⟨20, wd, r, b, i, c, n⟩ HRT.out (by simp [mmK])).mono ?_
  rintro e w2 ⟨rfl, hb2⟩
  generalize adr (m.sa a1) ⟨20, wd, r, b, i, c, n⟩ = ad at *
  have SU := hide (SV.out.bel hb2)
  clear hb2 x0 x1 x2 x3 x4 x5 x6
  obtain ⟨y0, y1, y2, y3⟩ := SU.out.l1.cells
  simp only at y0 y1 y2 y3
  have yf1 := SU.out.l1.fr 1
  go_upto_region 14 with fail
  refine gw (motive := fun x => Code.wp _ _ _ _ x) (fun V => Hid (SS K base B q0 q1 q2 (m.sa a1) ⟨m.at_, ad, 0, 0⟩ ⟨20, wd, r, b, i, c, n⟩ w V)) (SU.out.poke1 1 _ (SU.out.l1.set1 ad)) ?_
  rintro V2 S2
  clear y0 y1 y2 y3 yf1 SU
  obtain ⟨x0, x1, x2, x3, x4, x5, x6⟩ := S2.out.bx.cells
  simp only at x0 x1 x2 x3 x4 x5 x6
  obtain ⟨y0, y1, y2, y3⟩ := S2.out.l1.cells
  simp only at y0 y1 y2 y3
  go_wp2_with fail
  refine (accessK S2.out.wk ⟨20, wd, r, b, i, c, n⟩ HRT.out (by simp [mmK]) ad IA.out).mono ?_
  rintro e w3 ⟨rfl, g3⟩
  rw [HDV.out] at g3 ⊢
  simp only [Option.getD_some, Option.getD_none, Option.isSome_some, Option.isSome_none] at g3 ⊢
  have S3 := hide (S2.out.call g3)
  clear g3 x0 x1 x2 x3 x4 x5 x6 y0 y1 y2 y3
  obtain ⟨z, hz⟩ := S3.out.l0
  obtain ⟨z0, z1, z2, z3⟩ := hz.cells
  have zf0 := hz.fr 0
  have zf1 := hz.fr 1
  have zf2 := hz.fr 2
  have zf3 := hz.fr 3
  obtain ⟨y0, y1, y2, y3⟩ := S3.out.l1.cells
  simp only at y0 y1 y2 y3
  clear hz
  go_wp2_with fail
  refine bodyPost_ret (results_l rfl _ _ q0 _ rfl S3.out.fin.1) rfl ?_
  exact st_end (M := m) (X := ⟨0, false, 0, 0, 0, 0, 0⟩) (q0 := 0) (q1 := 0) (q2 := 0) (V := w) (HS.out.trans HD.out) rfl S3.out.fin.2
set_option maxRecDepth 100000 in
set_option maxHeartbeats 6400000 in
theorem step_20n (h : WK K base B m w) (wd : Bool) (r b i c n : Int) (hf : fet m = some ⟨20, wd, r, b, i, c, n⟩) (hd : acc (m.sa (wrap64 (m.at_ + ((Xc.enc ⟨20, wd, r, b, i, c, n⟩).length : Int)))) ⟨20, wd, r, b, i, c, n⟩ (adr (m.sa (wrap64 (m.at_ + ((Xc.enc ⟨20, wd, r, b, i, c, n⟩).length : Int)))) ⟨20, wd, r, b, i, c, n⟩) = none) : Calls Try.prog 27 #[.pointer (some ⟨B, 0, none⟩)] w (StEnds K base B m w) := by
  have HF := hide hf
  have HRT := hide (fet_ok hf).1
  have HIN := hide (fet_ok hf).2
  have HS := hide (stp_some hf)
  have H := hide h
  have hB : B < w.heap.size := h.lt
  have c20 := h.ca
  have IM := hide h.ok.2.2.1
  have IV := hide (i_wrap (m.at_ + ((Xc.enc ⟨20, wd, r, b, i, c, n⟩).length : Int)))
  have HDV := hide hd
  clear hd
  clear h hf
  go_enter Try.func27, Try.ntmps27
  go_wp2_with fail
  refine gw (motive := fun x => Calls _ _ _ x _) (fun W => Hid (S0 K base B w.heap.size (w.heap.size + 1) m w W)) (s0_made H.out) ?_
  rintro W SW
  refine (fetch_any SW.out.wk.wx).mono ?_
  intro e w1 hft
  obtain ⟨hb1, rfl⟩ := ft_some HF.out hft
  clear hft
  simp only [xv]
  have S1 := hide (SW.out.bel hb1)
  clear hb1 SW c20 H hB
  have c20 := S1.out.wk.ca
  have f20 := S1.out.wk.fr 20
  have hB1 := S1.out.wk.lt
  generalize ((Xc.enc ⟨20, wd, r, b, i, c, n⟩).length : Int) = len at *
  go_upto_region 7 with fail
  refine gw (motive := fun x => Code.wp _ _ _ _ x) (fun V => Hid (SS K base B w.heap.size (w.heap.size + 1) w1.heap.size (m.sa (wrap64 (m.at_ + len))) ⟨m.at_, -1, 0, 0⟩ ⟨20, wd, r, b, i, c, n⟩ w V)) (S1.out.ss _ _ IV.out) ?_
  rintro V SV
  clear S1 c20 f20 hB1
  generalize w1.heap.size = q2 at *
  generalize w.heap.size + 1 = q1 at *
  generalize w.heap.size = q0 at *
  generalize wrap64 (m.at_ + len) = a1 at *
  obtain ⟨x0, x1, x2, x3, x4, x5, x6⟩ := SV.out.bx.cells
  simp only at x0 x1 x2 x3 x4 x5 x6
  have HD : Hid (doX (m.sa a1) ⟨20, wd, r, b, i, c, n⟩ m.at_ = (((m.sa a1).sa m.at_).ss 4, ⟨m.at_, adr (m.sa a1) ⟨20, wd, r, b, i, c, n⟩, 0, 0⟩)) := by
    have hd := HDV.out
    show _ = _; simp [doX, hd]
  have IA := hide (i_adr SV.out.wk.ok ⟨20, wd, r, b, i, c, n⟩)
  go_wp2_with fail
  refine (addressK SV.out.wk ⟨20, wd, r, b, i, c, n⟩ HRT.out (by simp [mmK])).mono ?_
  rintro e w2 ⟨rfl, hb2⟩
  generalize adr (m.sa a1) ⟨20, wd, r, b, i, c, n⟩ = ad at *
  have SU := hide (SV.out.bel hb2)
  clear hb2 x0 x1 x2 x3 x4 x5 x6
  obtain ⟨y0, y1, y2, y3⟩ := SU.out.l1.cells
  simp only at y0 y1 y2 y3
  have yf1 := SU.out.l1.fr 1
  go_upto_region 14 with fail
  refine gw (motive := fun x => Code.wp _ _ _ _ x) (fun V => Hid (SS K base B q0 q1 q2 (m.sa a1) ⟨m.at_, ad, 0, 0⟩ ⟨20, wd, r, b, i, c, n⟩ w V)) (SU.out.poke1 1 _ (SU.out.l1.set1 ad)) ?_
  rintro V2 S2
  clear y0 y1 y2 y3 yf1 SU
  obtain ⟨x0, x1, x2, x3, x4, x5, x6⟩ := S2.out.bx.cells
  simp only at x0 x1 x2 x3 x4 x5 x6
  obtain ⟨y0, y1, y2, y3⟩ := S2.out.l1.cells
  simp only at y0 y1 y2 y3
  go_wp2_with fail
  refine (accessK S2.out.wk ⟨20, wd, r, b, i, c, n⟩ HRT.out (by simp [mmK]) ad IA.out).mono ?_
  rintro e w3 ⟨rfl, g3⟩
  rw [HDV.out] at g3 ⊢
  simp only [Option.getD_some, Option.getD_none, Option.isSome_some, Option.isSome_none] at g3 ⊢
  have S3 := hide (S2.out.call g3)
  clear g3 x0 x1 x2 x3 x4 x5 x6 y0 y1 y2 y3
  obtain ⟨y0, y1, y2, y3⟩ := S3.out.l1.cells
  simp only at y0 y1 y2 y3
  have c20 := S3.out.wk.ca
  have f20 := S3.out.wk.fr 20
  have c22 := S3.out.wk.ct
  have f22 := S3.out.wk.fr 22
  go_upto_region 31 with fail
  refine gw (motive := fun x => Code.wp _ _ _ _ x) (fun V => Hid (SS K base B q0 q1 q2 (((m.sa a1).sa m.at_).ss 4) ⟨m.at_, ad, 0, 0⟩ ⟨20, wd, r, b, i, c, n⟩ w V)) ((S3.out.call (S3.out.wk.seta m.at_ IM.out)).call ((S3.out.wk.seta m.at_ IM.out).wk.sett 4)) ?_
  rintro V4 S4
  clear y0 y1 y2 y3 c20 f20 c22 f22
  obtain ⟨z, hz⟩ := S4.out.l0
  obtain ⟨z0, z1, z2, z3⟩ := hz.cells
  have zf0 := hz.fr 0
  have zf1 := hz.fr 1
  have zf2 := hz.fr 2
  have zf3 := hz.fr 3
  obtain ⟨y0, y1, y2, y3⟩ := S4.out.l1.cells
  simp only at y0 y1 y2 y3
  clear hz
  go_wp2_with fail
  refine bodyPost_ret (results_l rfl _ _ q0 _ rfl S4.out.fin.1) rfl ?_
  exact st_end (M := m) (X := ⟨0, false, 0, 0, 0, 0, 0⟩) (q0 := 0) (q1 := 0) (q2 := 0) (V := w) (HS.out.trans HD.out) rfl S4.out.fin.2
end
end Go.Proofs.Ytielpebokbolbaa
namespace Go.Proofs.Ytielpebokbolbaa
open Go.RowKit
open Xc (hide bel_one bel_tr bel_al bel_set Xi xv xc)
set_option linter.unusedSimpArgs false
set_option linter.unusedVariables false
section
variable {K : Nat → Prop} {base B : Nat} {m : Mc} {w w1 : World}
theorem S0.ss22 {q0 q1 : Nat} (h : S0 K base B q0 q1 m w w1) (x : Xi) (v : Int) : SS K base B q0 q1 w1.heap.size (m.ss v) ⟨m.at_, -1, 0, 0⟩ x w ((w1.setCell ⟨B, 22, none⟩ (.int .i64 v)).alloc (.cells (xc x) 49)) := by
  rw [← World.setCell_alloc_past _ _ _ _ h.wk.lt]
  have k := bel_one w1 (.cells (xc x) 49)
  have w2 := h.wk.box k (by simp)
  have bx : Xc.Bx w1.heap.size x (w1.alloc (.cells (xc x) 49)) := Xc.Bx.made _ _
  have g2 := h.go.to k
  have l0 := h.l0.of (k.block _ h.l0.lt)
  have l1 := h.l1.of (k.block _ h.l1.lt)
  have s1 := h.l0.lt
  have s2 := h.l1.lt
  generalize w1.alloc (.cells (xc x) 49) = U at *
  have s : SS K base B q0 q1 w1.heap.size m ⟨m.at_, -1, 0, 0⟩ x w U := ⟨g2, w2, ⟨_, l0⟩, l1, bx, h.n01, by omega, by omega, h.nk, h.b0, h.b1⟩
  exact s.call (w2.sett v)
theorem ft_none {e : Ending} {w' : World} (h : fet m = none) (k : FtEnds m w e w') : Below w.heap.size w w' ∧ ∃ x n, e = .returned (.tuple #[xv x, .int .i64 n, .bool false]) := by
  obtain ⟨hb, ⟨x', hx, rfl⟩ | ⟨hx, k⟩⟩ := k
  · rw [h] at hx; cases hx
  · exact ⟨hb, k⟩
set_option maxRecDepth 100000 in
set_option maxHeartbeats 6400000 in
theorem step_none (h : WK K base B m w) (hf : fet m = none) : Calls Try.prog 27 #[.pointer (some ⟨B, 0, none⟩)] w (StEnds K base B m w) := by
  have HF := hide hf
  have HS : Hid (stp m = (m.ss 4, ⟨m.at_, -1, 0, 0⟩)) := by show _ = _; simp [stp, hf]
  have H := hide h
  have hB : B < w.heap.size := h.lt
  have c20 := h.ca
  clear h hf
  go_enter Try.func27, Try.ntmps27
  go_wp2_with fail
  refine gw (motive := fun x => Calls _ _ _ x _) (fun W => Hid (S0 K base B w.heap.size (w.heap.size + 1) m w W)) (s0_made H.out) ?_
  rintro W SW
  refine (fetch_any SW.out.wk.wx).mono ?_
  intro e w1 hft
  obtain ⟨hb1, ⟨op, wd, r, b, i, c, n⟩, len, rfl⟩ := ft_none HF.out hft
  clear hft
  simp only [xv]
  have S1 := hide (SW.out.bel hb1)
  clear hb1 SW c20 H hB
  have c22 := S1.out.wk.ct
  have f22 := S1.out.wk.fr 22
  have hB1 := S1.out.wk.lt
  go_upto_region 5 with fail
  refine gw (motive := fun x => Code.wp _ _ _ _ x) (fun V => Hid (SS K base B w.heap.size (w.heap.size + 1) w1.heap.size (m.ss 4) ⟨m.at_, -1, 0, 0⟩ ⟨op, wd, r, b, i, c, n⟩ w V)) (S1.out.ss22 _ _) ?_
  rintro V S2
  clear S1 c22 f22 hB1
  generalize w1.heap.size = q2 at *
  generalize w.heap.size + 1 = q1 at *
  generalize w.heap.size = q0 at *
  obtain ⟨z, hz⟩ := S2.out.l0
  obtain ⟨z0, z1, z2, z3⟩ := hz.cells
  have zf0 := hz.fr 0
  have zf1 := hz.fr 1
  have zf2 := hz.fr 2
  have zf3 := hz.fr 3
  obtain ⟨y0, y1, y2, y3⟩ := S2.out.l1.cells
  simp only at y0 y1 y2 y3
  clear hz
  go_wp2_with fail
  refine bodyPost_ret (results_l rfl _ _ q0 _ rfl S2.out.fin.1) rfl ?_
  exact st_end (M := m) (X := ⟨0, false, 0, 0, 0, 0, 0⟩) (q0 := 0) (q1 := 0) (q2 := 0) (V := w) HS.out rfl S2.out.fin.2
theorem step_any (h : WK K base B m w) : Calls Try.prog 27 #[.pointer (some ⟨B, 0, none⟩)] w (StEnds K base B m w) := by
  cases hf : fet m with
  | none => exact step_none h hf
  | some x =>
    have hx := (fet_ok hf).1
    revert hf
    refine Xc.rt_elim (P := fun x => fet m = some x → Calls Try.prog 27 #[.pointer (some ⟨B, 0, none⟩)] w (StEnds K base B m w)) hx ?mov ?movi ?alu ?alui ?test ?mul ?shift ?div ?idiv ?sign ?load ?store ?set ?byte ?cmov ?widen ?jmp ?jcc ?call ?ret ?hlt ?stop ?host
    case div =>
      intro wd b h2 hf
      obtain ⟨bk, rfl, hb⟩ := nat_of h2
      cases hd : dvd (m.sa (wrap64 (m.at_ + ((Xc.enc ⟨8, wd, 0, bk, 0, 0, 0⟩).length : Int)))) ⟨8, wd, 0, bk, 0, 0, 0⟩ with
      | none => exact step_8n h wd bk hb hf hd
      | some m2 => exact step_8y h wd bk hb hf hd
    case idiv =>
      intro wd b h2 hf
      obtain ⟨bk, rfl, hb⟩ := nat_of h2
      cases hd : dvd (m.sa (wrap64 (m.at_ + ((Xc.enc ⟨9, wd, 0, bk, 0, 0, 0⟩).length : Int)))) ⟨9, wd, 0, bk, 0, 0, 0⟩ with
      | none => exact step_9n h wd bk hb hf hd
      | some m2 => exact step_9y h wd bk hb hf hd
    case load =>
      intro wd r b i n _ _ _ _ hf
      cases hd : acc (m.sa (wrap64 (m.at_ + ((Xc.enc ⟨11, wd, r, b, i, 0, n⟩).length : Int)))) ⟨11, wd, r, b, i, 0, n⟩ (adr (m.sa (wrap64 (m.at_ + ((Xc.enc ⟨11, wd, r, b, i, 0, n⟩).length : Int)))) ⟨11, wd, r, b, i, 0, n⟩) with
      | none => exact step_11n h wd r b i 0 n hf hd
      | some m2 => exact step_11y h wd r b i 0 n hf hd
    case store =>
      intro wd r b i n _ _ _ _ hf
      cases hd : acc (m.sa (wrap64 (m.at_ + ((Xc.enc ⟨12, wd, r, b, i, 0, n⟩).length : Int)))) ⟨12, wd, r, b, i, 0, n⟩ (adr (m.sa (wrap64 (m.at_ + ((Xc.enc ⟨12, wd, r, b, i, 0, n⟩).length : Int)))) ⟨12, wd, r, b, i, 0, n⟩) with
      | none => exact step_12n h wd r b i 0 n hf hd
      | some m2 => exact step_12y h wd r b i 0 n hf hd
    case jmp => exact fun n _ hf => step_17 h false 0 0 0 0 n hf
    case jcc =>
      intro c n _ _ hf
      cases hq : m.hd c with
      | true => exact step_18t h false 0 0 0 c n hf hq
      | false => exact step_18f h false 0 0 0 c n hf hq
    case call =>
      intro n _ hf
      cases hd : acc (m.sa (wrap64 (m.at_ + ((Xc.enc ⟨19, false, 0, 0, 0, 0, n⟩).length : Int)))) ⟨19, false, 0, 0, 0, 0, n⟩ (adr (m.sa (wrap64 (m.at_ + ((Xc.enc ⟨19, false, 0, 0, 0, 0, n⟩).length : Int)))) ⟨19, false, 0, 0, 0, 0, n⟩) with
      | none => exact step_19n h false 0 0 0 0 n hf hd
      | some m2 => exact step_19y h false 0 0 0 0 n hf hd
    case ret =>
      intro hf
      cases hd : acc (m.sa (wrap64 (m.at_ + ((Xc.enc ⟨20, false, 0, 0, 0, 0, 0⟩).length : Int)))) ⟨20, false, 0, 0, 0, 0, 0⟩ (adr (m.sa (wrap64 (m.at_ + ((Xc.enc ⟨20, false, 0, 0, 0, 0, 0⟩).length : Int)))) ⟨20, false, 0, 0, 0, 0, 0⟩) with
      | none => exact step_20n h false 0 0 0 0 0 hf hd
      | some m2 => exact step_20y h false 0 0 0 0 0 hf hd
    case hlt => exact fun hf => step_21 h false 0 0 0 0 0 hf
    case stop => exact fun hf => step_22 h false 0 0 0 0 0 hf
    case host => exact fun hf => step_23 h false 0 0 0 0 0 hf
    all_goals intros; rename_i hf; exact step_rk h _ _ _ _ _ _ _ hf rfl
end
end Go.Proofs.Ytielpebokbolbaa

/-
  Merged: St4 St5 St6.
-/
import Derived.Test.YtielpebokbolbaaLA
/-
  The worker's step: divisions.
-/
namespace Go.Proofs.Ytielpebokbolbaa
open Go.RowKit
open Xc (hide bel_one bel_tr bel_al bel_set Xi xv xc)
set_option linter.unusedSimpArgs false
set_option linter.unusedVariables false
section
variable {K : Nat → Prop} {base B : Nat} {m : Mc} {w w1 : World}
set_option maxRecDepth 100000 in
set_option maxHeartbeats 6400000 in
theorem step_8y (h : WK K base B m w) (wd : Bool) (b : Nat) (hb : b < 16) {m2 : Mc} (hf : fet m = some ⟨8, wd, 0, b, 0, 0, 0⟩) (hd : dvd (m.sa (wrap64 (m.at_ + ((Xc.enc ⟨8, wd, 0, b, 0, 0, 0⟩).length : Int)))) ⟨8, wd, 0, b, 0, 0, 0⟩ = some m2) : Calls Try.prog 27 #[.pointer (some ⟨B, 0, none⟩)] w (StEnds K base B m w) := by
  have HF := hide hf
  have HRT := hide (fet_ok hf).1
  have HIN := hide (fet_ok hf).2
  have HS := hide (stp_some hf)
  have H := hide h
  have hB : B < w.heap.size := h.lt
  have c20 := h.ca
  have IV := hide (i_wrap (m.at_ + ((Xc.enc ⟨8, wd, 0, b, 0, 0, 0⟩).length : Int)))
  have HDV := hide hd
  clear hd
  clear h hf
  go_enter Try.func27, Try.ntmps27
  go_wp2_with fail
  refine gw (motive := fun x => Calls _ _ _ x _) (fun W => Hid (S0 K base B w.heap.size (w.heap.size + 1) m w W)) (s0_made H.out) ?_
  rintro W SW
  refine (fetch_any SW.out.wk.wx).mono ?_
  intro e w1 hft
  obtain ⟨hb1, rfl⟩ := ft_some HF.out hft
  clear hft
  simp only [xv]
  have S1 := hide (SW.out.bel hb1)
  clear hb1 SW c20 H hB
  have c20 := S1.out.wk.ca
  have f20 := S1.out.wk.fr 20
  have hB1 := S1.out.wk.lt
  generalize ((Xc.enc ⟨8, wd, 0, b, 0, 0, 0⟩).length : Int) = len at *
  go_upto_region 7 with fail
  refine gw (motive := fun x => Code.wp _ _ _ _ x) (fun V => Hid (SS K base B w.heap.size (w.heap.size + 1) w1.heap.size (m.sa (wrap64 (m.at_ + len))) ⟨m.at_, -1, 0, 0⟩ ⟨8, wd, 0, b, 0, 0, 0⟩ w V)) (S1.out.ss _ _ IV.out) ?_
  rintro V SV
  clear S1 c20 f20 hB1
  generalize w1.heap.size = q2 at *
  generalize w.heap.size + 1 = q1 at *
  generalize w.heap.size = q0 at *
  generalize wrap64 (m.at_ + len) = a1 at *
  obtain ⟨x0, x1, x2, x3, x4, x5, x6⟩ := SV.out.bx.cells
  simp only at x0 x1 x2 x3 x4 x5 x6
  have HD : Hid (doX (m.sa a1) ⟨8, wd, 0, b, 0, 0, 0⟩ m.at_ = (m2, ⟨m.at_, -1, Fg.tr wd ((m.sa a1).rg 0), Fg.tr wd ((m.sa a1).rg (b : Int))⟩)) := by
    have hd := HDV.out
    show _ = _; simp [doX, hd]
  have hbi : (0 : Int) ≤ (b : Int) ∧ (b : Int) ≤ 15 := by omega
  have HBI := hide hbi
  have b0 : (0 : Int) ≤ (b : Int) := by omega
  have b16 : (b : Int) < 16 := by omega
  have cb := SV.out.wk.rgc b hb
  have c0 := SV.out.wk.rgc 0 (by decide)
  rw [show ((0 : Nat) : Int) = 0 from rfl] at c0
  have n21 : ¬ q2 = q1 := fun e => SV.out.n12 e.symm
  have n12 : q1 ≠ q2 := SV.out.n12
  have n1B : q1 ≠ B := SV.out.wk.nB (Or.inl (Or.inr rfl))
  obtain ⟨y0, y1, y2, y3⟩ := SV.out.l1.cells
  simp only at y0 y1 y2 y3
  have yf2 := SV.out.l1.fr 2
  have yf3 := SV.out.l1.fr 3
  generalize hv0 : (m.sa a1).rg 0 = v0 at *
  generalize hvb : (m.sa a1).rg (b : Int) = vb at *
  clear hbi hv0 hvb
  go_wp2_with fail
  go_region_held3 (fun X => X.cell? ⟨q2, 1, none⟩ = some (.bool wd) ∧ X.cell? ⟨q2, 3, none⟩ = some (.int .i64 (b : Int)) ∧ X.cell? ⟨B, 0, none⟩ = some (.int .i64 v0) ∧ X.cell? ⟨B, b, none⟩ = some (.int .i64 vb)) (go_keep)
    (first | (go_at_call 38; refine (Fg.trim_any _ _ _).mono ?_; rintro e w1 ⟨rfl, rfl⟩))
  all_goals
    first
    | refine gw (motive := fun x => Exit.then _ _ Exit.normal _ x) (fun V => Hid (SS K base B q0 q1 q2 (m.sa a1) ⟨m.at_, -1, Fg.tr wd v0, Fg.tr wd vb⟩ ⟨8, wd, 0, b, 0, 0, 0⟩ w V)) (((SV.out.poke1 2 _ (SV.out.l1.set2 (Fg.tr wd v0))).poke1 3 _ ((SV.out.l1.set2 (Fg.tr wd v0)).set3 (Fg.tr wd vb))).bel (bel_d (Below.refl _ _))) ?_
    | refine gw (motive := fun x => Exit.then _ _ Exit.normal _ x) (fun V => Hid (SS K base B q0 q1 q2 (m.sa a1) ⟨m.at_, -1, Fg.tr wd v0, Fg.tr wd vb⟩ ⟨8, wd, 0, b, 0, 0, 0⟩ w V)) (((SV.out.poke1 3 _ (SV.out.l1.set3 (Fg.tr wd vb))).poke1 2 _ ((SV.out.l1.set3 (Fg.tr wd vb)).set2 (Fg.tr wd v0))).bel (bel_d (Below.refl _ _))) ?_
    rintro V2 S2
    clear x0 x1 x2 x3 x4 x5 x6 y0 y1 y2 y3 yf2 yf3 cb c0
    obtain ⟨x0, x1, x2, x3, x4, x5, x6⟩ := S2.out.bx.cells
    simp only at x0 x1 x2 x3 x4 x5 x6
    go_wp2_with fail
    refine (divideK S2.out.wk 8 (by simp) wd b HBI.out).mono ?_
    rintro e w3 ⟨rfl, g3⟩
    rw [HDV.out] at g3 ⊢
    simp only [Option.getD_some, Option.getD_none, Option.isSome_some, Option.isSome_none] at g3 ⊢
    have S3 := hide (S2.out.call g3)
    clear g3 x0 x1 x2 x3 x4 x5 x6
    obtain ⟨z, hz⟩ := S3.out.l0
    obtain ⟨z0, z1, z2, z3⟩ := hz.cells
    have zf0 := hz.fr 0
    have zf1 := hz.fr 1
    have zf2 := hz.fr 2
    have zf3 := hz.fr 3
    obtain ⟨y0, y1, y2, y3⟩ := S3.out.l1.cells
    simp only at y0 y1 y2 y3
    clear hz
    go_wp2_with fail
    refine bodyPost_ret (results_l rfl _ _ q0 _ rfl S3.out.fin.1) rfl ?_
    exact st_end (M := m) (X := ⟨0, false, 0, 0, 0, 0, 0⟩) (q0 := 0) (q1 := 0) (q2 := 0) (V := w) (HS.out.trans HD.out) rfl S3.out.fin.2
set_option maxRecDepth 100000 in
set_option maxHeartbeats 6400000 in
theorem step_8n (h : WK K base B m w) (wd : Bool) (b : Nat) (hb : b < 16) (hf : fet m = some ⟨8, wd, 0, b, 0, 0, 0⟩) (hd : dvd (m.sa (wrap64 (m.at_ + ((Xc.enc ⟨8, wd, 0, b, 0, 0, 0⟩).length : Int)))) ⟨8, wd, 0, b, 0, 0, 0⟩ = none) : Calls Try.prog 27 #[.pointer (some ⟨B, 0, none⟩)] w (StEnds K base B m w) := by
  have HF := hide hf
  have HRT := hide (fet_ok hf).1
  have HIN := hide (fet_ok hf).2
  have HS := hide (stp_some hf)
  have H := hide h
  have hB : B < w.heap.size := h.lt
  have c20 := h.ca
  have IM := hide h.ok.2.2.1
  have IV := hide (i_wrap (m.at_ + ((Xc.enc ⟨8, wd, 0, b, 0, 0, 0⟩).length : Int)))
  have HDV := hide hd
  clear hd
  clear h hf
  go_enter Try.func27, Try.ntmps27
  go_wp2_with fail
  refine gw (motive := fun x => Calls _ _ _ x _) (fun W => Hid (S0 K base B w.heap.size (w.heap.size + 1) m w W)) (s0_made H.out) ?_
  rintro W SW
  refine (fetch_any SW.out.wk.wx).mono ?_
  intro e w1 hft
  obtain ⟨hb1, rfl⟩ := ft_some HF.out hft
  clear hft
  simp only [xv]
  have S1 := hide (SW.out.bel hb1)
  clear hb1 SW c20 H hB
  have c20 := S1.out.wk.ca
  have f20 := S1.out.wk.fr 20
  have hB1 := S1.out.wk.lt
  generalize ((Xc.enc ⟨8, wd, 0, b, 0, 0, 0⟩).length : Int) = len at *
  go_upto_region 7 with fail
  refine gw (motive := fun x => Code.wp _ _ _ _ x) (fun V => Hid (SS K base B w.heap.size (w.heap.size + 1) w1.heap.size (m.sa (wrap64 (m.at_ + len))) ⟨m.at_, -1, 0, 0⟩ ⟨8, wd, 0, b, 0, 0, 0⟩ w V)) (S1.out.ss _ _ IV.out) ?_
  rintro V SV
  clear S1 c20 f20 hB1
  generalize w1.heap.size = q2 at *
  generalize w.heap.size + 1 = q1 at *
  generalize w.heap.size = q0 at *
  generalize wrap64 (m.at_ + len) = a1 at *
  obtain ⟨x0, x1, x2, x3, x4, x5, x6⟩ := SV.out.bx.cells
  simp only at x0 x1 x2 x3 x4 x5 x6
  have HD : Hid (doX (m.sa a1) ⟨8, wd, 0, b, 0, 0, 0⟩ m.at_ = (((m.sa a1).sa m.at_).ss 5, ⟨m.at_, -1, Fg.tr wd ((m.sa a1).rg 0), Fg.tr wd ((m.sa a1).rg (b : Int))⟩)) := by
    have hd := HDV.out
    show _ = _; simp [doX, hd]
  have hbi : (0 : Int) ≤ (b : Int) ∧ (b : Int) ≤ 15 := by omega
  have HBI := hide hbi
  have b0 : (0 : Int) ≤ (b : Int) := by omega
  have b16 : (b : Int) < 16 := by omega
  have cb := SV.out.wk.rgc b hb
  have c0 := SV.out.wk.rgc 0 (by decide)
  rw [show ((0 : Nat) : Int) = 0 from rfl] at c0
  have n21 : ¬ q2 = q1 := fun e => SV.out.n12 e.symm
  have n12 : q1 ≠ q2 := SV.out.n12
  have n1B : q1 ≠ B := SV.out.wk.nB (Or.inl (Or.inr rfl))
  obtain ⟨y0, y1, y2, y3⟩ := SV.out.l1.cells
  simp only at y0 y1 y2 y3
  have yf2 := SV.out.l1.fr 2
  have yf3 := SV.out.l1.fr 3
  generalize hv0 : (m.sa a1).rg 0 = v0 at *
  generalize hvb : (m.sa a1).rg (b : Int) = vb at *
  clear hbi hv0 hvb
  go_wp2_with fail
  go_region_held3 (fun X => X.cell? ⟨q2, 1, none⟩ = some (.bool wd) ∧ X.cell? ⟨q2, 3, none⟩ = some (.int .i64 (b : Int)) ∧ X.cell? ⟨B, 0, none⟩ = some (.int .i64 v0) ∧ X.cell? ⟨B, b, none⟩ = some (.int .i64 vb)) (go_keep)
    (first | (go_at_call 38; refine (Fg.trim_any _ _ _).mono ?_; rintro e w1 ⟨rfl, rfl⟩))
  all_goals
    first
    | refine gw (motive := fun x => Exit.then _ _ Exit.normal _ x) (fun V => Hid (SS K base B q0 q1 q2 (m.sa a1) ⟨m.at_, -1, Fg.tr wd v0, Fg.tr wd vb⟩ ⟨8, wd, 0, b, 0, 0, 0⟩ w V)) (((SV.out.poke1 2 _ (SV.out.l1.set2 (Fg.tr wd v0))).poke1 3 _ ((SV.out.l1.set2 (Fg.tr wd v0)).set3 (Fg.tr wd vb))).bel (bel_d (Below.refl _ _))) ?_
    | refine gw (motive := fun x => Exit.then _ _ Exit.normal _ x) (fun V => Hid (SS K base B q0 q1 q2 (m.sa a1) ⟨m.at_, -1, Fg.tr wd v0, Fg.tr wd vb⟩ ⟨8, wd, 0, b, 0, 0, 0⟩ w V)) (((SV.out.poke1 3 _ (SV.out.l1.set3 (Fg.tr wd vb))).poke1 2 _ ((SV.out.l1.set3 (Fg.tr wd vb)).set2 (Fg.tr wd v0))).bel (bel_d (Below.refl _ _))) ?_
    rintro V2 S2
    clear x0 x1 x2 x3 x4 x5 x6 y0 y1 y2 y3 yf2 yf3 cb c0
    obtain ⟨x0, x1, x2, x3, x4, x5, x6⟩ := S2.out.bx.cells
    simp only at x0 x1 x2 x3 x4 x5 x6
    go_wp2_with fail
    refine (divideK S2.out.wk 8 (by simp) wd b HBI.out).mono ?_
    rintro e w3 ⟨rfl, g3⟩
    rw [HDV.out] at g3 ⊢
    simp only [Option.getD_some, Option.getD_none, Option.isSome_some, Option.isSome_none] at g3 ⊢
    have S3 := hide (S2.out.call g3)
    clear g3 x0 x1 x2 x3 x4 x5 x6
    obtain ⟨y0, y1, y2, y3⟩ := S3.out.l1.cells
    simp only at y0 y1 y2 y3
    have c20 := S3.out.wk.ca
    have f20 := S3.out.wk.fr 20
    have c22 := S3.out.wk.ct
    have f22 := S3.out.wk.fr 22
    go_upto_region 31 with fail
    refine gw (motive := fun x => Code.wp _ _ _ _ x) (fun V => Hid (SS K base B q0 q1 q2 (((m.sa a1).sa m.at_).ss 5) ⟨m.at_, -1, Fg.tr wd v0, Fg.tr wd vb⟩ ⟨8, wd, 0, b, 0, 0, 0⟩ w V)) ((S3.out.call (S3.out.wk.seta m.at_ IM.out)).call ((S3.out.wk.seta m.at_ IM.out).wk.sett 5)) ?_
    rintro V4 S4
    clear y0 y1 y2 y3 c20 f20 c22 f22
    obtain ⟨z, hz⟩ := S4.out.l0
    obtain ⟨z0, z1, z2, z3⟩ := hz.cells
    have zf0 := hz.fr 0
    have zf1 := hz.fr 1
    have zf2 := hz.fr 2
    have zf3 := hz.fr 3
    obtain ⟨y0, y1, y2, y3⟩ := S4.out.l1.cells
    simp only at y0 y1 y2 y3
    clear hz
    go_wp2_with fail
    refine bodyPost_ret (results_l rfl _ _ q0 _ rfl S4.out.fin.1) rfl ?_
    exact st_end (M := m) (X := ⟨0, false, 0, 0, 0, 0, 0⟩) (q0 := 0) (q1 := 0) (q2 := 0) (V := w) (HS.out.trans HD.out) rfl S4.out.fin.2
set_option maxRecDepth 100000 in
set_option maxHeartbeats 6400000 in
theorem step_9y (h : WK K base B m w) (wd : Bool) (b : Nat) (hb : b < 16) {m2 : Mc} (hf : fet m = some ⟨9, wd, 0, b, 0, 0, 0⟩) (hd : dvd (m.sa (wrap64 (m.at_ + ((Xc.enc ⟨9, wd, 0, b, 0, 0, 0⟩).length : Int)))) ⟨9, wd, 0, b, 0, 0, 0⟩ = some m2) : Calls Try.prog 27 #[.pointer (some ⟨B, 0, none⟩)] w (StEnds K base B m w) := by
  have HF := hide hf
  have HRT := hide (fet_ok hf).1
  have HIN := hide (fet_ok hf).2
  have HS := hide (stp_some hf)
  have H := hide h
  have hB : B < w.heap.size := h.lt
  have c20 := h.ca
  have IV := hide (i_wrap (m.at_ + ((Xc.enc ⟨9, wd, 0, b, 0, 0, 0⟩).length : Int)))
  have HDV := hide hd
  clear hd
  clear h hf
  go_enter Try.func27, Try.ntmps27
  go_wp2_with fail
  refine gw (motive := fun x => Calls _ _ _ x _) (fun W => Hid (S0 K base B w.heap.size (w.heap.size + 1) m w W)) (s0_made H.out) ?_
  rintro W SW
  refine (fetch_any SW.out.wk.wx).mono ?_
  intro e w1 hft
  obtain ⟨hb1, rfl⟩ := ft_some HF.out hft
  clear hft
  simp only [xv]
  have S1 := hide (SW.out.bel hb1)
  clear hb1 SW c20 H hB
  have c20 := S1.out.wk.ca
  have f20 := S1.out.wk.fr 20
  have hB1 := S1.out.wk.lt
  generalize ((Xc.enc ⟨9, wd, 0, b, 0, 0, 0⟩).length : Int) = len at *
  go_upto_region 7 with fail
  refine gw (motive := fun x => Code.wp _ _ _ _ x) (fun V => Hid (SS K base B w.heap.size (w.heap.size + 1) w1.heap.size (m.sa (wrap64 (m.at_ + len))) ⟨m.at_, -1, 0, 0⟩ ⟨9, wd, 0, b, 0, 0, 0⟩ w V)) (S1.out.ss _ _ IV.out) ?_
  rintro V SV
  clear S1 c20 f20 hB1
  generalize w1.heap.size = q2 at *
  generalize w.heap.size + 1 = q1 at *
  generalize w.heap.size = q0 at *
  generalize wrap64 (m.at_ + len) = a1 at *
  obtain ⟨x0, x1, x2, x3, x4, x5, x6⟩ := SV.out.bx.cells
  simp only at x0 x1 x2 x3 x4 x5 x6
  have HD : Hid (doX (m.sa a1) ⟨9, wd, 0, b, 0, 0, 0⟩ m.at_ = (m2, ⟨m.at_, -1, Fg.tr wd ((m.sa a1).rg 0), Fg.tr wd ((m.sa a1).rg (b : Int))⟩)) := by
    have hd := HDV.out
    show _ = _; simp [doX, hd]
  have hbi : (0 : Int) ≤ (b : Int) ∧ (b : Int) ≤ 15 := by omega
  have HBI := hide hbi
  have b0 : (0 : Int) ≤ (b : Int) := by omega
  have b16 : (b : Int) < 16 := by omega
  have cb := SV.out.wk.rgc b hb
  have c0 := SV.out.wk.rgc 0 (by decide)
  rw [show ((0 : Nat) : Int) = 0 from rfl] at c0
  have n21 : ¬ q2 = q1 := fun e => SV.out.n12 e.symm
  have n12 : q1 ≠ q2 := SV.out.n12
  have n1B : q1 ≠ B := SV.out.wk.nB (Or.inl (Or.inr rfl))
  obtain ⟨y0, y1, y2, y3⟩ := SV.out.l1.cells
  simp only at y0 y1 y2 y3
  have yf2 := SV.out.l1.fr 2
  have yf3 := SV.out.l1.fr 3
  generalize hv0 : (m.sa a1).rg 0 = v0 at *
  generalize hvb : (m.sa a1).rg (b : Int) = vb at *
  clear hbi hv0 hvb
  go_wp2_with fail
  go_region_held3 (fun X => X.cell? ⟨q2, 1, none⟩ = some (.bool wd) ∧ X.cell? ⟨q2, 3, none⟩ = some (.int .i64 (b : Int)) ∧ X.cell? ⟨B, 0, none⟩ = some (.int .i64 v0) ∧ X.cell? ⟨B, b, none⟩ = some (.int .i64 vb)) (go_keep)
    (first | (go_at_call 38; refine (Fg.trim_any _ _ _).mono ?_; rintro e w1 ⟨rfl, rfl⟩))
  all_goals
    first
    | refine gw (motive := fun x => Exit.then _ _ Exit.normal _ x) (fun V => Hid (SS K base B q0 q1 q2 (m.sa a1) ⟨m.at_, -1, Fg.tr wd v0, Fg.tr wd vb⟩ ⟨9, wd, 0, b, 0, 0, 0⟩ w V)) (((SV.out.poke1 2 _ (SV.out.l1.set2 (Fg.tr wd v0))).poke1 3 _ ((SV.out.l1.set2 (Fg.tr wd v0)).set3 (Fg.tr wd vb))).bel (bel_d (Below.refl _ _))) ?_
    | refine gw (motive := fun x => Exit.then _ _ Exit.normal _ x) (fun V => Hid (SS K base B q0 q1 q2 (m.sa a1) ⟨m.at_, -1, Fg.tr wd v0, Fg.tr wd vb⟩ ⟨9, wd, 0, b, 0, 0, 0⟩ w V)) (((SV.out.poke1 3 _ (SV.out.l1.set3 (Fg.tr wd vb))).poke1 2 _ ((SV.out.l1.set3 (Fg.tr wd vb)).set2 (Fg.tr wd v0))).bel (bel_d (Below.refl _ _))) ?_
    rintro V2 S2
    clear x0 x1 x2 x3 x4 x5 x6 y0 y1 y2 y3 yf2 yf3 cb c0
    obtain ⟨x0, x1, x2, x3, x4, x5, x6⟩ := S2.out.bx.cells
    simp only at x0 x1 x2 x3 x4 x5 x6
    go_wp2_with fail
    refine (divideK S2.out.wk 9 (by simp) wd b HBI.out).mono ?_
    rintro e w3 ⟨rfl, g3⟩
    rw [HDV.out] at g3 ⊢
    simp only [Option.getD_some, Option.getD_none, Option.isSome_some, Option.isSome_none] at g3 ⊢
    have S3 := hide (S2.out.call g3)
    clear g3 x0 x1 x2 x3 x4 x5 x6
    obtain ⟨z, hz⟩ := S3.out.l0
    obtain ⟨z0, z1, z2, z3⟩ := hz.cells
    have zf0 := hz.fr 0
    have zf1 := hz.fr 1
    have zf2 := hz.fr 2
    have zf3 := hz.fr 3
    obtain ⟨y0, y1, y2, y3⟩ := S3.out.l1.cells
    simp only at y0 y1 y2 y3
    clear hz
    go_wp2_with fail
    refine bodyPost_ret (results_l rfl _ _ q0 _ rfl S3.out.fin.1) rfl ?_
    exact st_end (M := m) (X := ⟨0, false, 0, 0, 0, 0, 0⟩) (q0 := 0) (q1 := 0) (q2 := 0) (V := w) (HS.out.trans HD.out) rfl S3.out.fin.2
set_option maxRecDepth 100000 in
set_option maxHeartbeats 6400000 in
theorem step_9n (h : WK K base B m w) (wd : Bool) (b : Nat) (hb : b < 16) (hf : fet m = some ⟨9, wd, 0, b, 0, 0, 0⟩) (hd : dvd (m.sa (wrap64 (m.at_ + ((Xc.enc ⟨9, wd, 0, b, 0, 0, 0⟩).length : Int)))) ⟨9, wd, 0, b, 0, 0, 0⟩ = none) : Calls Try.prog 27 #[.pointer (some ⟨B, 0, none⟩)] w (StEnds K base B m w) := by
  have HF := hide hf
  have HRT := hide (fet_ok hf).1
  have HIN := hide (fet_ok hf).2
  have HS := hide (stp_some hf)
  have H := hide h
  have hB : B < w.heap.size := h.lt
  have c20 := h.ca
  have IM := hide h.ok.2.2.1
  have IV := hide (i_wrap (m.at_ + ((Xc.enc ⟨9, wd, 0, b, 0, 0, 0⟩).length : Int)))
  have HDV := hide hd
  clear hd
  clear h hf
  go_enter Try.func27, Try.ntmps27
  go_wp2_with fail
  refine gw (motive := fun x => Calls _ _ _ x _) (fun W => Hid (S0 K base B w.heap.size (w.heap.size + 1) m w W)) (s0_made H.out) ?_
  rintro W SW
  refine (fetch_any SW.out.wk.wx).mono ?_
  intro e w1 hft
  obtain ⟨hb1, rfl⟩ := ft_some HF.out hft
  clear hft
  simp only [xv]
  have S1 := hide (SW.out.bel hb1)
  clear hb1 SW c20 H hB
  have c20 := S1.out.wk.ca
  have f20 := S1.out.wk.fr 20
  have hB1 := S1.out.wk.lt
  generalize ((Xc.enc ⟨9, wd, 0, b, 0, 0, 0⟩).length : Int) = len at *
  go_upto_region 7 with fail
  refine gw (motive := fun x => Code.wp _ _ _ _ x) (fun V => Hid (SS K base B w.heap.size (w.heap.size + 1) w1.heap.size (m.sa (wrap64 (m.at_ + len))) ⟨m.at_, -1, 0, 0⟩ ⟨9, wd, 0, b, 0, 0, 0⟩ w V)) (S1.out.ss _ _ IV.out) ?_
  rintro V SV
  clear S1 c20 f20 hB1
  generalize w1.heap.size = q2 at *
  generalize w.heap.size + 1 = q1 at *
  generalize w.heap.size = q0 at *
  generalize wrap64 (m.at_ + len) = a1 at *
  obtain ⟨x0, x1, x2, x3, x4, x5, x6⟩ := SV.out.bx.cells
  simp only at x0 x1 x2 x3 x4 x5 x6
  have HD : Hid (doX (m.sa a1) ⟨9, wd, 0, b, 0, 0, 0⟩ m.at_ = (((m.sa a1).sa m.at_).ss 5, ⟨m.at_, -1, Fg.tr wd ((m.sa a1).rg 0), Fg.tr wd ((m.sa a1).rg (b : Int))⟩)) := by
    have hd := HDV.out
    show _ = _; simp [doX, hd]
  have hbi : (0 : Int) ≤ (b : Int) ∧ (b : Int) ≤ 15 := by omega
  have HBI := hide hbi
  have b0 : (0 : Int) ≤ (b : Int) := by omega
  have b16 : (b : Int) < 16 := by omega
  have cb := SV.out.wk.rgc b hb
  have c0 := SV.out.wk.rgc 0 (by decide)
  rw [show ((0 : Nat) : Int) = 0 from rfl] at c0
  have n21 : ¬ q2 = q1 := fun e => SV.out.n12 e.symm
  have n12 : q1 ≠ q2 := SV.out.n12
  have n1B : q1 ≠ B := SV.out.wk.nB (Or.inl (Or.inr rfl))
  obtain ⟨y0, y1, y2, y3⟩ := SV.out.l1.cells
  simp only at y0 y1 y2 y3
  have yf2 := SV.out.l1.fr 2
  have yf3 := SV.out.l1.fr 3
  generalize hv0 : (m.sa a1).rg 0 = v0 at *
  generalize hvb : (m.sa a1).rg (b : Int) = vb at *
  clear hbi hv0 hvb
  go_wp2_with fail
  go_region_held3 (fun X => X.cell? ⟨q2, 1, none⟩ = some (.bool wd) ∧ X.cell? ⟨q2, 3, none⟩ = some (.int .i64 (b : Int)) ∧ X.cell? ⟨B, 0, none⟩ = some (.int .i64 v0) ∧ X.cell? ⟨B, b, none⟩ = some (.int .i64 vb)) (go_keep)
    (first | (go_at_call 38; refine (Fg.trim_any _ _ _).mono ?_; rintro e w1 ⟨rfl, rfl⟩))
  all_goals
    first
    | refine gw (motive := fun x => Exit.then _ _ Exit.normal _ x) (fun V => Hid (SS K base B q0 q1 q2 (m.sa a1) ⟨m.at_, -1, Fg.tr wd v0, Fg.tr wd vb⟩ ⟨9, wd, 0, b, 0, 0, 0⟩ w V)) (((SV.out.poke1 2 _ (SV.out.l1.set2 (Fg.tr wd v0))).poke1 3 _ ((SV.out.l1.set2 (Fg.tr wd v0)).set3 (Fg.tr wd vb))).bel (bel_d (Below.refl _ _))) ?_
    | refine gw (motive := fun x => Exit.then _ _ Exit.normal _ x) (fun V => Hid (SS K base B q0 q1 q2 (m.sa a1) ⟨m.at_, -1, Fg.tr wd v0, Fg.tr wd vb⟩ ⟨9, wd, 0, b, 0, 0, 0⟩ w V)) (((SV.out.poke1 3 _ (SV.out.l1.set3 (Fg.tr wd vb))).poke1 2 _ ((SV.out.l1.set3 (Fg.tr wd vb)).set2 (Fg.tr wd v0))).bel (bel_d (Below.refl _ _))) ?_
    rintro V2 S2
    clear x0 x1 x2 x3 x4 x5 x6 y0 y1 y2 y3 yf2 yf3 cb c0
    obtain ⟨x0, x1, x2, x3, x4, x5, x6⟩ := S2.out.bx.cells
    simp only at x0 x1 x2 x3 x4 x5 x6
    go_wp2_with fail
    refine (divideK S2.out.wk 9 (by simp) wd b HBI.out).mono ?_
    rintro e w3 ⟨rfl, g3⟩
    rw [HDV.out] at g3 ⊢
    simp only [Option.getD_some, Option.getD_none, Option.isSome_some, Option.isSome_none] at g3 ⊢
    have S3 := hide (S2.out.call g3)
    clear g3 x0 x1 x2 x3 x4 x5 x6
    obtain ⟨y0, y1, y2, y3⟩ := S3.out.l1.cells
    simp only at y0 y1 y2 y3
    have c20 := S3.out.wk.ca
    have f20 := S3.out.wk.fr 20
    have c22 := S3.out.wk.ct
    have f22 := S3.out.wk.fr 22
    go_upto_region 31 with fail
    refine gw (motive := fun x => Code.wp _ _ _ _ x) (fun V => Hid (SS K base B q0 q1 q2 (((m.sa a1).sa m.at_).ss 5) ⟨m.at_, -1, Fg.tr wd v0, Fg.tr wd vb⟩ ⟨9, wd, 0, b, 0, 0, 0⟩ w V)) ((S3.out.call (S3.out.wk.seta m.at_ IM.out)).call ((S3.out.wk.seta m.at_ IM.out).wk.sett 5)) ?_
    rintro V4 S4
    clear y0 y1 y2 y3 c20 f20 c22 f22
    obtain ⟨z, hz⟩ := S4.out.l0
    obtain ⟨z0, z1, z2, z3⟩ := hz.cells
    have zf0 := hz.fr 0
    have zf1 := hz.fr 1
    have zf2 := hz.fr 2
    have zf3 := hz.fr 3
    obtain ⟨y0, y1, y2, y3⟩ := S4.out.l1.cells
    simp only at y0 y1 y2 y3
    clear hz
    go_wp2_with fail
    refine bodyPost_ret (results_l rfl _ _ q0 _ rfl S4.out.fin.1) rfl ?_
    exact st_end (M := m) (X := ⟨0, false, 0, 0, 0, 0, 0⟩) (q0 := 0) (q1 := 0) (q2 := 0) (V := w) (HS.out.trans HD.out) rfl S4.out.fin.2
end
end Go.Proofs.Ytielpebokbolbaa
/-
  The worker's step: loads and stores.
-/
namespace Go.Proofs.Ytielpebokbolbaa
open Go.RowKit
open Xc (hide bel_one bel_tr bel_al bel_set Xi xv xc)
set_option linter.unusedSimpArgs false
set_option linter.unusedVariables false
section
variable {K : Nat → Prop} {base B : Nat} {m : Mc} {w w1 : World}
set_option maxRecDepth 100000 in
set_option maxHeartbeats 6400000 in
theorem step_11y (h : WK K base B m w) (wd : Bool) (r b i c n : Int) {m2 : Mc} (hf : fet m = some ⟨11, wd, r, b, i, c, n⟩) (hd : acc (m.sa (wrap64 (m.at_ + ((Xc.enc ⟨11, wd, r, b, i, c, n⟩).length : Int)))) ⟨11, wd, r, b, i, c, n⟩ (adr (m.sa (wrap64 (m.at_ + ((Xc.enc ⟨11, wd, r, b, i, c, n⟩).length : Int)))) ⟨11, wd, r, b, i, c, n⟩) = some m2) : Calls Try.prog 27 #[.pointer (some ⟨B, 0, none⟩)] w (StEnds K base B m w) := by
  have HF := hide hf
  have HRT := hide (fet_ok hf).1
  have HIN := hide (fet_ok hf).2
  have HS := hide (stp_some hf)
  have H := hide h
  have hB : B < w.heap.size := h.lt
  have c20 := h.ca
  have IV := hide (i_wrap (m.at_ + ((Xc.enc ⟨11, wd, r, b, i, c, n⟩).length : Int)))
  have HDV := hide hd
  clear hd
  clear h hf
  go_enter Try.func27, Try.ntmps27
  go_wp2_with fail
  refine gw (motive := fun x => Calls _ _ _ x _) (fun W => Hid (S0 K base B w.heap.size (w.heap.size + 1) m w W)) (s0_made H.out) ?_
  rintro W SW
  refine (fetch_any SW.out.wk.wx).mono ?_
  intro e w1 hft
  obtain ⟨hb1, rfl⟩ := ft_some HF.out hft
  clear hft
  simp only [xv]
  have S1 := hide (SW.out.bel hb1)
  clear hb1 SW c20 H hB
  have c20 := S1.out.wk.ca
  have f20 := S1.out.wk.fr 20
  have hB1 := S1.out.wk.lt
  generalize ((Xc.enc ⟨11, wd, r, b, i, c, n⟩).length : Int) = len at *
  go_upto_region 7 with fail
  refine gw (motive := fun x => Code.wp _ _ _ _ x) (fun V => Hid (SS K base B w.heap.size (w.heap.size + 1) w1.heap.size (m.sa (wrap64 (m.at_ + len))) ⟨m.at_, -1, 0, 0⟩ ⟨11, wd, r, b, i, c, n⟩ w V)) (S1.out.ss _ _ IV.out) ?_
  rintro V SV
  clear S1 c20 f20 hB1
  generalize w1.heap.size = q2 at *
  generalize w.heap.size + 1 = q1 at *
  generalize w.heap.size = q0 at *
  generalize wrap64 (m.at_ + len) = a1 at *
  obtain ⟨x0, x1, x2, x3, x4, x5, x6⟩ := SV.out.bx.cells
  simp only at x0 x1 x2 x3 x4 x5 x6
  have HD : Hid (doX (m.sa a1) ⟨11, wd, r, b, i, c, n⟩ m.at_ = (m2, ⟨m.at_, adr (m.sa a1) ⟨11, wd, r, b, i, c, n⟩, 0, 0⟩)) := by
    have hd := HDV.out
    show _ = _; simp [doX, hd]
  have IA := hide (i_adr SV.out.wk.ok ⟨11, wd, r, b, i, c, n⟩)
  go_wp2_with fail
  refine (addressK SV.out.wk ⟨11, wd, r, b, i, c, n⟩ HRT.out (by simp [mmK])).mono ?_
  rintro e w2 ⟨rfl, hb2⟩
  generalize adr (m.sa a1) ⟨11, wd, r, b, i, c, n⟩ = ad at *
  have SU := hide (SV.out.bel hb2)
  clear hb2 x0 x1 x2 x3 x4 x5 x6
  obtain ⟨y0, y1, y2, y3⟩ := SU.out.l1.cells
  simp only at y0 y1 y2 y3
  have yf1 := SU.out.l1.fr 1
  go_upto_region 14 with fail
  refine gw (motive := fun x => Code.wp _ _ _ _ x) (fun V => Hid (SS K base B q0 q1 q2 (m.sa a1) ⟨m.at_, ad, 0, 0⟩ ⟨11, wd, r, b, i, c, n⟩ w V)) (SU.out.poke1 1 _ (SU.out.l1.set1 ad)) ?_
  rintro V2 S2
  clear y0 y1 y2 y3 yf1 SU
  obtain ⟨x0, x1, x2, x3, x4, x5, x6⟩ := S2.out.bx.cells
  simp only at x0 x1 x2 x3 x4 x5 x6
  obtain ⟨y0, y1, y2, y3⟩ := S2.out.l1.cells
  simp only at y0 y1 y2 y3
  go_wp2_with fail
  refine (accessK S2.out.wk ⟨11, wd, r, b, i, c, n⟩ HRT.out (by simp [mmK]) ad IA.out).mono ?_
  rintro e w3 ⟨rfl, g3⟩
  rw [HDV.out] at g3 ⊢
  simp only [Option.getD_some, Option.getD_none, Option.isSome_some, Option.isSome_none] at g3 ⊢
  have S3 := hide (S2.out.call g3)
  clear g3 x0 x1 x2 x3 x4 x5 x6 y0 y1 y2 y3
  obtain ⟨z, hz⟩ := S3.out.l0
  obtain ⟨z0, z1, z2, z3⟩ := hz.cells
  have zf0 := hz.fr 0
  have zf1 := hz.fr 1
  have zf2 := hz.fr 2
  have zf3 := hz.fr 3
  obtain ⟨y0, y1, y2, y3⟩ := S3.out.l1.cells
  simp only at y0 y1 y2 y3
  clear hz
  go_wp2_with fail
  refine bodyPost_ret (results_l rfl _ _ q0 _ rfl S3.out.fin.1) rfl ?_
  exact st_end (M := m) (X := ⟨0, false, 0, 0, 0, 0, 0⟩) (q0 := 0) (q1 := 0) (q2 := 0) (V := w) (HS.out.trans HD.out) rfl S3.out.fin.2
set_option maxRecDepth 100000 in
set_option maxHeartbeats 6400000 in
theorem step_11n (h : WK K base B m w) (wd : Bool) (r b i c n : Int) (hf : fet m = some ⟨11, wd, r, b, i, c, n⟩) (hd : acc (m.sa (wrap64 (m.at_ + ((Xc.enc ⟨11, wd, r, b, i, c, n⟩).length : Int)))) ⟨11, wd, r, b, i, c, n⟩ (adr (m.sa (wrap64 (m.at_ + ((Xc.enc ⟨11, wd, r, b, i, c, n⟩).length : Int)))) ⟨11, wd, r, b, i, c, n⟩) = none) : Calls Try.prog 27 #[.pointer (some ⟨B, 0, none⟩)] w (StEnds K base B m w) := by
  have HF := hide hf
  have HRT := hide (fet_ok hf).1
  have HIN := hide (fet_ok hf).2
  have HS := hide (stp_some hf)
  have H := hide h
  have hB : B < w.heap.size := h.lt
  have c20 := h.ca
  have IM := hide h.ok.2.2.1
  have IV := hide (i_wrap (m.at_ + ((Xc.enc ⟨11, wd, r, b, i, c, n⟩).length : Int)))
  have HDV := hide hd
  clear hd
  clear h hf
  go_enter Try.func27, Try.ntmps27
  go_wp2_with fail
  refine gw (motive := fun x => Calls _ _ _ x _) (fun W => Hid (S0 K base B w.heap.size (w.heap.size + 1) m w W)) (s0_made H.out) ?_
  rintro W SW
  refine (fetch_any SW.out.wk.wx).mono ?_
  intro e w1 hft
  obtain ⟨hb1, rfl⟩ := ft_some HF.out hft
  clear hft
  simp only [xv]
  have S1 := hide (SW.out.bel hb1)
  clear hb1 SW c20 H hB
  have c20 := S1.out.wk.ca
  have f20 := S1.out.wk.fr 20
  have hB1 := S1.out.wk.lt
  generalize ((Xc.enc ⟨11, wd, r, b, i, c, n⟩).length : Int) = len at *
  go_upto_region 7 with fail
  refine gw (motive := fun x => Code.wp _ _ _ _ x) (fun V => Hid (SS K base B w.heap.size (w.heap.size + 1) w1.heap.size (m.sa (wrap64 (m.at_ + len))) ⟨m.at_, -1, 0, 0⟩ ⟨11, wd, r, b, i, c, n⟩ w V)) (S1.out.ss _ _ IV.out) ?_
  rintro V SV
  clear S1 c20 f20 hB1
  generalize w1.heap.size = q2 at *
  generalize w.heap.size + 1 = q1 at *
  generalize w.heap.size = q0 at *
  generalize wrap64 (m.at_ + len) = a1 at *
  obtain ⟨x0, x1, x2, x3, x4, x5, x6⟩ := SV.out.bx.cells
  simp only at x0 x1 x2 x3 x4 x5 x6
  have HD : Hid (doX (m.sa a1) ⟨11, wd, r, b, i, c, n⟩ m.at_ = (((m.sa a1).sa m.at_).ss 4, ⟨m.at_, adr (m.sa a1) ⟨11, wd, r, b, i, c, n⟩, 0, 0⟩)) := by
    have hd := HDV.out
    show _ = _; simp [doX, hd]
  have IA := hide (i_adr SV.out.wk.ok ⟨11, wd, r, b, i, c, n⟩)
  go_wp2_with fail
  refine (addressK SV.out.wk ⟨11, wd, r, b, i, c, n⟩ HRT.out (by simp [mmK])).mono ?_
  rintro e w2 ⟨rfl, hb2⟩
  generalize adr (m.sa a1) ⟨11, wd, r, b, i, c, n⟩ = ad at *
  have SU := hide (SV.out.bel hb2)
  clear hb2 x0 x1 x2 x3 x4 x5 x6
  obtain ⟨y0, y1, y2, y3⟩ := SU.out.l1.cells
  simp only at y0 y1 y2 y3
  have yf1 := SU.out.l1.fr 1
  go_upto_region 14 with fail
  refine gw (motive := fun x => Code.wp _ _ _ _ x) (fun V => Hid (SS K base B q0 q1 q2 (m.sa a1) ⟨m.at_, ad, 0, 0⟩ ⟨11, wd, r, b, i, c, n⟩ w V)) (SU.out.poke1 1 _ (SU.out.l1.set1 ad)) ?_
  rintro V2 S2
  clear y0 y1 y2 y3 yf1 SU
  obtain ⟨x0, x1, x2, x3, x4, x5, x6⟩ := S2.out.bx.cells
  simp only at x0 x1 x2 x3 x4 x5 x6
  obtain ⟨y0, y1, y2, y3⟩ := S2.out.l1.cells
  simp only at y0 y1 y2 y3
  go_wp2_with fail
  refine (accessK S2.out.wk ⟨11, wd, r, b, i, c, n⟩ HRT.out (by simp [mmK]) ad IA.out).mono ?_
  rintro e w3 ⟨rfl, g3⟩
  rw [HDV.out] at g3 ⊢
  simp only [Option.getD_some, Option.getD_none, Option.isSome_some, Option.isSome_none] at g3 ⊢
  have S3 := hide (S2.out.call g3)
  clear g3 x0 x1 x2 x3 x4 x5 x6 y0 y1 y2 y3
  obtain ⟨y0, y1, y2, y3⟩ := S3.out.l1.cells
  simp only at y0 y1 y2 y3
  have c20 := S3.out.wk.ca
  have f20 := S3.out.wk.fr 20
  have c22 := S3.out.wk.ct
  have f22 := S3.out.wk.fr 22
  go_upto_region 31 with fail
  refine gw (motive := fun x => Code.wp _ _ _ _ x) (fun V => Hid (SS K base B q0 q1 q2 (((m.sa a1).sa m.at_).ss 4) ⟨m.at_, ad, 0, 0⟩ ⟨11, wd, r, b, i, c, n⟩ w V)) ((S3.out.call (S3.out.wk.seta m.at_ IM.out)).call ((S3.out.wk.seta m.at_ IM.out).wk.sett 4)) ?_
  rintro V4 S4
  clear y0 y1 y2 y3 c20 f20 c22 f22
  obtain ⟨z, hz⟩ := S4.out.l0
  obtain ⟨z0, z1, z2, z3⟩ := hz.cells
  have zf0 := hz.fr 0
  have zf1 := hz.fr 1
  have zf2 := hz.fr 2
  have zf3 := hz.fr 3
  obtain ⟨y0, y1, y2, y3⟩ := S4.out.l1.cells
  simp only at y0 y1 y2 y3
  clear hz
  go_wp2_with fail
  refine bodyPost_ret (results_l rfl _ _ q0 _ rfl S4.out.fin.1) rfl ?_
  exact st_end (M := m) (X := ⟨0, false, 0, 0, 0, 0, 0⟩) (q0 := 0) (q1 := 0) (q2 := 0) (V := w) (HS.out.trans HD.out) rfl S4.out.fin.2
set_option maxRecDepth 100000 in
set_option maxHeartbeats 6400000 in
theorem step_12y (h : WK K base B m w) (wd : Bool) (r b i c n : Int) {m2 : Mc} (hf : fet m = some ⟨12, wd, r, b, i, c, n⟩) (hd : acc (m.sa (wrap64 (m.at_ + ((Xc.enc ⟨12, wd, r, b, i, c, n⟩).length : Int)))) ⟨12, wd, r, b, i, c, n⟩ (adr (m.sa (wrap64 (m.at_ + ((Xc.enc ⟨12, wd, r, b, i, c, n⟩).length : Int)))) ⟨12, wd, r, b, i, c, n⟩) = some m2) : Calls Try.prog 27 #[.pointer (some ⟨B, 0, none⟩)] w (StEnds K base B m w) := by
  have HF := hide hf
  have HRT := hide (fet_ok hf).1
  have HIN := hide (fet_ok hf).2
  have HS := hide (stp_some hf)
  have H := hide h
  have hB : B < w.heap.size := h.lt
  have c20 := h.ca
  have IV := hide (i_wrap (m.at_ + ((Xc.enc ⟨12, wd, r, b, i, c, n⟩).length : Int)))
  have HDV := hide hd
  clear hd
  clear h hf
  go_enter Try.func27, Try.ntmps27
  go_wp2_with fail
  refine gw (motive := fun x => Calls _ _ _ x _) (fun W => Hid (S0 K base B w.heap.size (w.heap.size + 1) m w W)) (s0_made H.out) ?_
  rintro W SW
  refine (fetch_any SW.out.wk.wx).mono ?_
  intro e w1 hft
  obtain ⟨hb1, rfl⟩ := ft_some HF.out hft
  clear hft
  simp only [xv]
  have S1 := hide (SW.out.bel hb1)
  clear hb1 SW c20 H hB
  have c20 := S1.out.wk.ca
  have f20 := S1.out.wk.fr 20
  have hB1 := S1.out.wk.lt
  generalize ((Xc.enc ⟨12, wd, r, b, i, c, n⟩).length : Int) = len at *
  go_upto_region 7 with fail
  refine gw (motive := fun x => Code.wp _ _ _ _ x) (fun V => Hid (SS K base B w.heap.size (w.heap.size + 1) w1.heap.size (m.sa (wrap64 (m.at_ + len))) ⟨m.at_, -1, 0, 0⟩ ⟨12, wd, r, b, i, c, n⟩ w V)) (S1.out.ss _ _ IV.out) ?_
  rintro V SV
  clear S1 c20 f20 hB1
  generalize w1.heap.size = q2 at *
  generalize w.heap.size + 1 = q1 at *
  generalize w.heap.size = q0 at *
  generalize wrap64 (m.at_ + len) = a1 at *
  obtain ⟨x0, x1, x2, x3, x4, x5, x6⟩ := SV.out.bx.cells
  simp only at x0 x1 x2 x3 x4 x5 x6
  have HD : Hid (doX (m.sa a1) ⟨12, wd, r, b, i, c, n⟩ m.at_ = (m2, ⟨m.at_, adr (m.sa a1) ⟨12, wd, r, b, i, c, n⟩, 0, 0⟩)) := by
    have hd := HDV.out
    show _ = _; simp [doX, hd]
  have IA := hide (i_adr SV.out.wk.ok ⟨12, wd, r, b, i, c, n⟩)
  go_wp2_with fail
  refine (addressK SV.out.wk ⟨12, wd, r, b, i, c, n⟩ HRT.out (by simp [mmK])).mono ?_
  rintro e w2 ⟨rfl, hb2⟩
  generalize adr (m.sa a1) ⟨12, wd, r, b, i, c, n⟩ = ad at *
  have SU := hide (SV.out.bel hb2)
  clear hb2 x0 x1 x2 x3 x4 x5 x6
  obtain ⟨y0, y1, y2, y3⟩ := SU.out.l1.cells
  simp only at y0 y1 y2 y3
  have yf1 := SU.out.l1.fr 1
  go_upto_region 14 with fail
  refine gw (motive := fun x => Code.wp _ _ _ _ x) (fun V => Hid (SS K base B q0 q1 q2 (m.sa a1) ⟨m.at_, ad, 0, 0⟩ ⟨12, wd, r, b, i, c, n⟩ w V)) (SU.out.poke1 1 _ (SU.out.l1.set1 ad)) ?_
  rintro V2 S2
  clear y0 y1 y2 y3 yf1 SU
  obtain ⟨x0, x1, x2, x3, x4, x5, x6⟩ := S2.out.bx.cells
  simp only at x0 x1 x2 x3 x4 x5 x6
  obtain ⟨y0, y1, y2, y3⟩ := S2.out.l1.cells
  simp only at y0 y1 y2 y3
  go_wp2_with fail
  refine (accessK S2.out.wk ⟨12, wd, r, b, i, c, n⟩ HRT.out (by simp [mmK]) ad IA.out).mono ?_
  rintro e w3 ⟨rfl, g3⟩
  rw [HDV.out] at g3 ⊢
  simp only [Option.getD_some, Option.getD_none, Option.isSome_some, Option.isSome_none] at g3 ⊢
  have S3 := hide (S2.out.call g3)
  clear g3 x0 x1 x2 x3 x4 x5 x6 y0 y1 y2 y3
  obtain ⟨z, hz⟩ := S3.out.l0
  obtain ⟨z0, z1, z2, z3⟩ := hz.cells
  have zf0 := hz.fr 0
  have zf1 := hz.fr 1
  have zf2 := hz.fr 2
  have zf3 := hz.fr 3
  obtain ⟨y0, y1, y2, y3⟩ := S3.out.l1.cells
  simp only at y0 y1 y2 y3
  clear hz
  go_wp2_with fail
  refine bodyPost_ret (results_l rfl _ _ q0 _ rfl S3.out.fin.1) rfl ?_
  exact st_end (M := m) (X := ⟨0, false, 0, 0, 0, 0, 0⟩) (q0 := 0) (q1 := 0) (q2 := 0) (V := w) (HS.out.trans HD.out) rfl S3.out.fin.2
set_option maxRecDepth 100000 in
set_option maxHeartbeats 6400000 in
theorem step_12n (h : WK K base B m w) (wd : Bool) (r b i c n : Int) (hf : fet m = some ⟨12, wd, r, b, i, c, n⟩) (hd : acc (m.sa (wrap64 (m.at_ + ((Xc.enc ⟨12, wd, r, b, i, c, n⟩).length : Int)))) ⟨12, wd, r, b, i, c, n⟩ (adr (m.sa (wrap64 (m.at_ + ((Xc.enc ⟨12, wd, r, b, i, c, n⟩).length : Int)))) ⟨12, wd, r, b, i, c, n⟩) = none) : Calls Try.prog 27 #[.pointer (some ⟨B, 0, none⟩)] w (StEnds K base B m w) := by
  have HF := hide hf
  have HRT := hide (fet_ok hf).1
  have HIN := hide (fet_ok hf).2
  have HS := hide (stp_some hf)
  have H := hide h
  have hB : B < w.heap.size := h.lt
  have c20 := h.ca
  have IM := hide h.ok.2.2.1
  have IV := hide (i_wrap (m.at_ + ((Xc.enc ⟨12, wd, r, b, i, c, n⟩).length : Int)))
  have HDV := hide hd
  clear hd
  clear h hf
  go_enter Try.func27, Try.ntmps27
  go_wp2_with fail
  refine gw (motive := fun x => Calls _ _ _ x _) (fun W => Hid (S0 K base B w.heap.size (w.heap.size + 1) m w W)) (s0_made H.out) ?_
  rintro W SW
  refine (fetch_any SW.out.wk.wx).mono ?_
  intro e w1 hft
  obtain ⟨hb1, rfl⟩ := ft_some HF.out hft
  clear hft
  simp only [xv]
  have S1 := hide (SW.out.bel hb1)
  clear hb1 SW c20 H hB
  have c20 := S1.out.wk.ca
  have f20 := S1.out.wk.fr 20
  have hB1 := S1.out.wk.lt
  generalize ((Xc.enc ⟨12, wd, r, b, i, c, n⟩).length : Int) = len at *
  go_upto_region 7 with fail
  refine gw (motive := fun x => Code.wp _ _ _ _ x) (fun V => Hid (SS K base B w.heap.size (w.heap.size + 1) w1.heap.size (m.sa (wrap64 (m.at_ + len))) ⟨m.at_, -1, 0, 0⟩ ⟨12, wd, r, b, i, c, n⟩ w V)) (S1.out.ss _ _ IV.out) ?_
  rintro V SV
  clear S1 c20 f20 hB1
  generalize w1.heap.size = q2 at *
  generalize w.heap.size + 1 = q1 at *
  generalize w.heap.size = q0 at *
  generalize wrap64 (m.at_ + len) = a1 at *
  obtain ⟨x0, x1, x2, x3, x4, x5, x6⟩ := SV.out.bx.cells
  simp only at x0 x1 x2 x3 x4 x5 x6
  have HD : Hid (doX (m.sa a1) ⟨12, wd, r, b, i, c, n⟩ m.at_ = (((m.sa a1).sa m.at_).ss 4, ⟨m.at_, adr (m.sa a1) ⟨12, wd, r, b, i, c, n⟩, 0, 0⟩)) := by
    have hd := HDV.out
    show _ = _; simp [doX, hd]
  have IA := hide (i_adr SV.out.wk.ok ⟨12, wd, r, b, i, c, n⟩)
  go_wp2_with fail
  refine (addressK SV.out.wk ⟨12, wd, r, b, i, c, n⟩ HRT.out (by simp [mmK])).mono ?_
  rintro e w2 ⟨rfl, hb2⟩
  generalize adr (m.sa a1) ⟨12, wd, r, b, i, c, n⟩ = ad at *
  have SU := hide (SV.out.bel hb2)
  clear hb2 x0 x1 x2 x3 x4 x5 x6
  obtain ⟨y0, y1, y2, y3⟩ := SU.out.l1.cells
  simp only at y0 y1 y2 y3
  have yf1 := SU.out.l1.fr 1
  go_upto_region 14 with fail
  refine gw (motive := fun x => Code.wp _ _ _ _ x) (fun V => Hid (SS K base B q0 q1 q2 (m.sa a1) ⟨m.at_, ad, 0, 0⟩ ⟨12, wd, r, b, i, c, n⟩ w V)) (SU.out.poke1 1 _ (SU.out.l1.set1 ad)) ?_
  rintro V2 S2
  clear y0 y1 y2 y3 yf1 SU
  obtain ⟨x0, x1, x2, x3, x4, x5, x6⟩ := S2.out.bx.cells
  simp only at x0 x1 x2 x3 x4 x5 x6
  obtain ⟨y0, y1, y2, y3⟩ := S2.out.l1.cells
  simp only at y0 y1 y2 y3
  go_wp2_with fail
  refine (accessK S2.out.wk ⟨12, wd, r, b, i, c, n⟩ HRT.out (by simp [mmK]) ad IA.out).mono ?_
  rintro e w3 ⟨rfl, g3⟩
  rw [HDV.out] at g3 ⊢
  simp only [Option.getD_some, Option.getD_none, Option.isSome_some, Option.isSome_none] at g3 ⊢
  have S3 := hide (S2.out.call g3)
  clear g3 x0 x1 x2 x3 x4 x5 x6 y0 y1 y2 y3
  obtain ⟨y0, y1, y2, y3⟩ := S3.out.l1.cells
  simp only at y0 y1 y2 y3
  have c20 := S3.out.wk.ca
  have f20 := S3.out.wk.fr 20
  have c22 := S3.out.wk.ct
  have f22 := S3.out.wk.fr 22
  go_upto_region 31 with fail
  refine gw (motive := fun x => Code.wp _ _ _ _ x) (fun V => Hid (SS K base B q0 q1 q2 (((m.sa a1).sa m.at_).ss 4) ⟨m.at_, ad, 0, 0⟩ ⟨12, wd, r, b, i, c, n⟩ w V)) ((S3.out.call (S3.out.wk.seta m.at_ IM.out)).call ((S3.out.wk.seta m.at_ IM.out).wk.sett 4)) ?_
  rintro V4 S4
  clear y0 y1 y2 y3 c20 f20 c22 f22
  obtain ⟨z, hz⟩ := S4.out.l0
  obtain ⟨z0, z1, z2, z3⟩ := hz.cells
  have zf0 := hz.fr 0
  have zf1 := hz.fr 1
  have zf2 := hz.fr 2
  have zf3 := hz.fr 3
  obtain ⟨y0, y1, y2, y3⟩ := S4.out.l1.cells
  simp only at y0 y1 y2 y3
  clear hz
  go_wp2_with fail
  refine bodyPost_ret (results_l rfl _ _ q0 _ rfl S4.out.fin.1) rfl ?_
  exact st_end (M := m) (X := ⟨0, false, 0, 0, 0, 0, 0⟩) (q0 := 0) (q1 := 0) (q2 := 0) (V := w) (HS.out.trans HD.out) rfl S4.out.fin.2
end
end Go.Proofs.Ytielpebokbolbaa
/-
  The worker's step: calls and returns.
-/
namespace Go.Proofs.Ytielpebokbolbaa
open Go.RowKit
open Xc (hide bel_one bel_tr bel_al bel_set Xi xv xc)
set_option linter.unusedSimpArgs false
set_option linter.unusedVariables false
section
variable {K : Nat → Prop} {base B : Nat} {m : Mc} {w w1 : World}
set_option maxRecDepth 100000 in
set_option maxHeartbeats 6400000 in
theorem step_19y (h : WK K base B m w) (wd : Bool) (r b i c n : Int) {m2 : Mc} (hf : fet m = some ⟨19, wd, r, b, i, c, n⟩) (hd : acc (m.sa (wrap64 (m.at_ + ((Xc.enc ⟨19, wd, r, b, i, c, n⟩).length : Int)))) ⟨19, wd, r, b, i, c, n⟩ (adr (m.sa (wrap64 (m.at_ + ((Xc.enc ⟨19, wd, r, b, i, c, n⟩).length : Int)))) ⟨19, wd, r, b, i, c, n⟩) = some m2) : Calls Try.prog 27 #[.pointer (some ⟨B, 0, none⟩)] w (StEnds K base B m w) := by
  have HF := hide hf
  have HRT := hide (fet_ok hf).1
  have HIN := hide (fet_ok hf).2
  have HS := hide (stp_some hf)
  have H := hide h
  have hB : B < w.heap.size := h.lt
  have c20 := h.ca
  have IV := hide (i_wrap (m.at_ + ((Xc.enc ⟨19, wd, r, b, i, c, n⟩).length : Int)))
  have HDV := hide hd
  clear hd
  clear h hf
  go_enter Try.func27, Try.ntmps27
  go_wp2_with fail
  refine gw (motive := fun x => Calls _ _ _ x _) (fun W => Hid (S0 K base B w.heap.size (w.heap.size + 1) m w W)) (s0_made H.out) ?_
  rintro W SW
  refine (fetch_any SW.out.wk.wx).mono ?_
  intro e w1 hft
  obtain ⟨hb1, rfl⟩ := ft_some HF.out hft
  clear hft
  simp only [xv]
  have S1 := hide (SW.out.bel hb1)
  clear hb1 SW c20 H hB
  have c20 := S1.out.wk.ca
  have f20 := S1.out.wk.fr 20
  have hB1 := S1.out.wk.lt
  generalize ((Xc.enc ⟨19, wd, r, b, i, c, n⟩).length : Int) = len at *
  go_upto_region 7 with fail
  refine gw (motive := fun x => Code.wp _ _ _ _ x) (fun V => Hid (SS K base B w.heap.size (w.heap.size + 1) w1.heap.size (m.sa (wrap64 (m.at_ + len))) ⟨m.at_, -1, 0, 0⟩ ⟨19, wd, r, b, i, c, n⟩ w V)) (S1.out.ss _ _ IV.out) ?_
  rintro V SV
  clear S1 c20 f20 hB1
  generalize w1.heap.size = q2 at *
  generalize w.heap.size + 1 = q1 at *
  generalize w.heap.size = q0 at *
  generalize wrap64 (m.at_ + len) = a1 at *
  obtain ⟨x0, x1, x2, x3, x4, x5, x6⟩ := SV.out.bx.cells
  simp only at x0 x1 x2 x3 x4 x5 x6
  have HD : Hid (doX (m.sa a1) ⟨19, wd, r, b, i, c, n⟩ m.at_ = (m2, ⟨m.at_, adr (m.sa a1) ⟨19, wd, r, b, i, c, n⟩, 0, 0⟩)) := by
    have hd := HDV.out
    show _ = _; simp [doX, hd]
  have IA := hide (i_adr SV.out.wk.ok ⟨19, wd, r, b, i, c, n⟩)
  go_wp2_with fail
  refine (addressK SV.out.wk ⟨19, wd, r, b, i, c, n⟩ HRT.out (by simp [mmK])).mono ?_
  rintro e w2 ⟨rfl, hb2⟩
  generalize adr (m.sa a1) ⟨19, wd, r, b, i, c, n⟩ = ad at *
  have SU := hide (SV.out.bel hb2)
  clear hb2 x0 x1 x2 x3 x4 x5 x6
  obtain ⟨y0, y1, y2, y3⟩ := SU.out.l1.cells
  simp only at y0 y1 y2 y3
  have yf1 := SU.out.l1.fr 1
  go_upto_region 14 with fail
  refine gw (motive := fun x => Code.wp _ _ _ _ x) (fun V => Hid (SS K base B q0 q1 q2 (m.sa a1) ⟨m.at_, ad, 0, 0⟩ ⟨19, wd, r, b, i, c, n⟩ w V)) (SU.out.poke1 1 _ (SU.out.l1.set1 ad)) ?_
  rintro V2 S2
  clear y0 y1 y2 y3 yf1 SU
  obtain ⟨x0, x1, x2, x3, x4, x5, x6⟩ := S2.out.bx.cells
  simp only at x0 x1 x2 x3 x4 x5 x6
  obtain ⟨y0, y1, y2, y3⟩ := S2.out.l1.cells
  simp only at y0 y1 y2 y3
  go_wp2_with fail
  refine (accessK S2.out.wk ⟨19, wd, r, b, i, c, n⟩ HRT.out (by simp [mmK]) ad IA.out).mono ?_
  rintro e w3 ⟨rfl, g3⟩
  rw [HDV.out] at g3 ⊢
  simp only [Option.getD_some, Option.getD_none, Option.isSome_some, Option.isSome_none] at g3 ⊢
  have S3 := hide (S2.out.call g3)
  clear g3 x0 x1 x2 x3 x4 x5 x6 y0 y1 y2 y3
  obtain ⟨z, hz⟩ := S3.out.l0
  obtain ⟨z0, z1, z2, z3⟩ := hz.cells
  have zf0 := hz.fr 0
  have zf1 := hz.fr 1
  have zf2 := hz.fr 2
  have zf3 := hz.fr 3
  obtain ⟨y0, y1, y2, y3⟩ := S3.out.l1.cells
  simp only at y0 y1 y2 y3
  clear hz
  go_wp2_with fail
  refine bodyPost_ret (results_l rfl _ _ q0 _ rfl S3.out.fin.1) rfl ?_
  exact st_end (M := m) (X := ⟨0, false, 0, 0, 0, 0, 0⟩) (q0 := 0) (q1 := 0) (q2 := 0) (V := w) (HS.out.trans HD.out) rfl S3.out.fin.2
set_option maxRecDepth 100000 in
set_option maxHeartbeats 6400000 in
theorem step_19n (h : WK K base B m w) (wd : Bool) (r b i c n : Int) (hf : fet m = some ⟨19, wd, r, b, i, c, n⟩) (hd : acc (m.sa (wrap64 (m.at_ + ((Xc.enc ⟨19, wd, r, b, i, c, n⟩).length : Int)))) ⟨19, wd, r, b, i, c, n⟩ (adr (m.sa (wrap64 (m.at_ + ((Xc.enc ⟨19, wd, r, b, i, c, n⟩).length : Int)))) ⟨19, wd, r, b, i, c, n⟩) = none) : Calls Try.prog 27 #[.pointer (some ⟨B, 0, none⟩)] w (StEnds K base B m w) := by
  have HF := hide hf
  have HRT := hide (fet_ok hf).1
  have HIN := hide (fet_ok hf).2
  have HS := hide (stp_some hf)
  have H := hide h
  have hB : B < w.heap.size := h.lt
  have c20 := h.ca
  have IM := hide h.ok.2.2.1
  have IV := hide (i_wrap (m.at_ + ((Xc.enc ⟨19, wd, r, b, i, c, n⟩).length : Int)))
  have HDV := hide hd
  clear hd
  clear h hf
  go_enter Try.func27, Try.ntmps27
  go_wp2_with fail
  refine gw (motive := fun x => Calls _ _ _ x _) (fun W => Hid (S0 K base B w.heap.size (w.heap.size + 1) m w W)) (s0_made H.out) ?_
  rintro W SW
  refine (fetch_any SW.out.wk.wx).mono ?_
  intro e w1 hft
  obtain ⟨hb1, rfl⟩ := ft_some HF.out hft
  clear hft
  simp only [xv]
  have S1 := hide (SW.out.bel hb1)
  clear hb1 SW c20 H hB
  have c20 := S1.out.wk.ca
  have f20 := S1.out.wk.fr 20
  have hB1 := S1.out.wk.lt
  generalize ((Xc.enc ⟨19, wd, r, b, i, c, n⟩).length : Int) = len at *
  go_upto_region 7 with fail
  refine gw (motive := fun x => Code.wp _ _ _ _ x) (fun V => Hid (SS K base B w.heap.size (w.heap.size + 1) w1.heap.size (m.sa (wrap64 (m.at_ + len))) ⟨m.at_, -1, 0, 0⟩ ⟨19, wd, r, b, i, c, n⟩ w V)) (S1.out.ss _ _ IV.out) ?_
  rintro V SV
  clear S1 c20 f20 hB1
  generalize w1.heap.size = q2 at *
  generalize w.heap.size + 1 = q1 at *
  generalize w.heap.size = q0 at *
  generalize wrap64 (m.at_ + len) = a1 at *
  obtain ⟨x0, x1, x2, x3, x4, x5, x6⟩ := SV.out.bx.cells
  simp only at x0 x1 x2 x3 x4 x5 x6
  have HD : Hid (doX (m.sa a1) ⟨19, wd, r, b, i, c, n⟩ m.at_ = (((m.sa a1).sa m.at_).ss 4, ⟨m.at_, adr (m.sa a1) ⟨19, wd, r, b, i, c, n⟩, 0, 0⟩)) := by
    have hd := HDV.out
    show _ = _; simp [doX, hd]
  have IA := hide (i_adr SV.out.wk.ok ⟨19, wd, r, b, i, c, n⟩)
  go_wp2_with fail
  refine (addressK SV.out.wk ⟨19, wd, r, b, i, c, n⟩ HRT.out (by simp [mmK])).mono ?_
  rintro e w2 ⟨rfl, hb2⟩
  generalize adr (m.sa a1) ⟨19, wd, r, b, i, c, n⟩ = ad at *
  have SU := hide (SV.out.bel hb2)
  clear hb2 x0 x1 x2 x3 x4 x5 x6
  obtain ⟨y0, y1, y2, y3⟩ := SU.out.l1.cells
  simp only at y0 y1 y2 y3
  have yf1 := SU.out.l1.fr 1
  go_upto_region 14 with fail
  refine gw (motive := fun x => Code.wp _ _ _ _ x) (fun V => Hid (SS K base B q0 q1 q2 (m.sa a1) ⟨m.at_, ad, 0, 0⟩ ⟨19, wd, r, b, i, c, n⟩ w V)) (SU.out.poke1 1 _ (SU.out.l1.set1 ad)) ?_
  rintro V2 S2
  clear y0 y1 y2 y3 yf1 SU
  obtain ⟨x0, x1, x2, x3, x4, x5, x6⟩ := S2.out.bx.cells
  simp only at x0 x1 x2 x3 x4 x5 x6
  obtain ⟨y0, y1, y2, y3⟩ := S2.out.l1.cells
  simp only at y0 y1 y2 y3
  go_wp2_with fail
  refine (accessK S2.out.wk ⟨19, wd, r, b, i, c, n⟩ HRT.out (by simp [mmK]) ad IA.out).mono ?_
  rintro e w3 ⟨rfl, g3⟩
  rw [HDV.out] at g3 ⊢
  simp only [Option.getD_some, Option.getD_none, Option.isSome_some, Option.isSome_none] at g3 ⊢
  have S3 := hide (S2.out.call g3)
  clear g3 x0 x1 x2 x3 x4 x5 x6 y0 y1 y2 y3
  obtain ⟨y0, y1, y2, y3⟩ := S3.out.l1.cells
  simp only at y0 y1 y2 y3
  have c20 := S3.out.wk.ca
  have f20 := S3.out.wk.fr 20
  have c22 := S3.out.wk.ct
  have f22 := S3.out.wk.fr 22
  go_upto_region 31 with fail
  refine gw (motive := fun x => Code.wp _ _ _ _ x) (fun V => Hid (SS K base B q0 q1 q2 (((m.sa a1).sa m.at_).ss 4) ⟨m.at_, ad, 0, 0⟩ ⟨19, wd, r, b, i, c, n⟩ w V)) ((S3.out.call (S3.out.wk.seta m.at_ IM.out)).call ((S3.out.wk.seta m.at_ IM.out).wk.sett 4)) ?_
  rintro V4 S4
  clear y0 y1 y2 y3 c20 f20 c22 f22
  obtain ⟨z, hz⟩ := S4.out.l0
  obtain ⟨z0, z1, z2, z3⟩ := hz.cells
  have zf0 := hz.fr 0
  have zf1 := hz.fr 1
  have zf2 := hz.fr 2
  have zf3 := hz.fr 3
  obtain ⟨y0, y1, y2, y3⟩ := S4.out.l1.cells
  simp only at y0 y1 y2 y3
  clear hz
  go_wp2_with fail
  refine bodyPost_ret (results_l rfl _ _ q0 _ rfl S4.out.fin.1) rfl ?_
  exact st_end (M := m) (X := ⟨0, false, 0, 0, 0, 0, 0⟩) (q0 := 0) (q1 := 0) (q2 := 0) (V := w) (HS.out.trans HD.out) rfl S4.out.fin.2
set_option maxRecDepth 100000 in
set_option maxHeartbeats 6400000 in
theorem step_20y (h : WK K base B m w) (wd : Bool) (r b i c n : Int) {m2 : Mc} (hf : fet m = some ⟨20, wd, r, b, i, c, n⟩) (hd : acc (m.sa (wrap64 (m.at_ + ((Xc.enc ⟨20, wd, r, b, i, c, n⟩).length : Int)))) ⟨20, wd, r, b, i, c, n⟩ (adr (m.sa (wrap64 (m.at_ + ((Xc.enc ⟨20, wd, r, b, i, c, n⟩).length : Int)))) ⟨20, wd, r, b, i, c, n⟩) = some m2) : Calls Try.prog 27 #[.pointer (some ⟨B, 0, none⟩)] w (StEnds K base B m w) := by
  have HF := hide hf
  have HRT := hide (fet_ok hf).1
  have HIN := hide (fet_ok hf).2
  have HS := hide (stp_some hf)
  have H := hide h
  have hB : B < w.heap.size := h.lt
  have c20 := h.ca
  have IV := hide (i_wrap (m.at_ + ((Xc.enc ⟨20, wd, r, b, i, c, n⟩).length : Int)))
  have HDV := hide hd
  clear hd
  clear h hf
  go_enter Try.func27, Try.ntmps27
  go_wp2_with fail
  refine gw (motive := fun x => Calls _ _ _ x _) (fun W => Hid (S0 K base B w.heap.size (w.heap.size + 1) m w W)) (s0_made H.out) ?_
  rintro W SW
  refine (fetch_any SW.out.wk.wx).mono ?_
  intro e w1 hft
  obtain ⟨hb1, rfl⟩ := ft_some HF.out hft
  clear hft
  simp only [xv]
  have S1 := hide (SW.out.bel hb1)
  clear hb1 SW c20 H hB
  have c20 := S1.out.wk.ca
  have f20 := S1.out.wk.fr 20
  have hB1 := S1.out.wk.lt
  generalize ((Xc.enc ⟨20, wd, r, b, i, c, n⟩).length : Int) = len at *
  go_upto_region 7 with fail
  refine gw (motive := fun x => Code.wp _ _ _ _ x) (fun V => Hid (SS K base B w.heap.size (w.heap.size + 1) w1.heap.size (m.sa (wrap64 (m.at_ + len))) ⟨m.at_, -1, 0, 0⟩ ⟨20, wd, r, b, i, c, n⟩ w V)) (S1.out.ss _ _ IV.out) ?_
  rintro V SV
  clear S1 c20 f20 hB1
  generalize w1.heap.size = q2 at *
  generalize w.heap.size + 1 = q1 at *
  generalize w.heap.size = q0 at *
  generalize wrap64 (m.at_ + len) = a1 at *
  obtain ⟨x0, x1, x2, x3, x4, x5, x6⟩ := SV.out.bx.cells
  simp only at x0 x1 x2 x3 x4 x5 x6
  have HD : Hid (doX (m.sa a1) ⟨20, wd, r, b, i, c, n⟩ m.at_ = (m2, ⟨m.at_, adr (m.sa a1) ⟨20, wd, r, b, i, c, n⟩, 0, 0⟩)) := by
    have hd := HDV.out
    show _ = _; simp [doX, hd]
  have IA := hide (i_adr SV.out.wk.ok ⟨20, wd, r, b, i, c, n⟩)
  go_wp2_with fail
  refine (addressK SV.out.wk ⟨20, wd, r, b, i, c, n⟩ HRT.out (by simp [mmK])).mono ?_
  rintro e w2 ⟨rfl, hb2⟩
  generalize adr (m.sa a1) ⟨20, wd, r, b, i, c, n⟩ = ad at *
  have SU := hide (SV.out.bel hb2)
  clear hb2 x0 x1 x2 x3 x4 x5 x6
  obtain ⟨y0, y1, y2, y3⟩ := SU.out.l1.cells
  simp only at y0 y1 y2 y3
  have yf1 := SU.out.l1.fr 1
  go_upto_region 14 with fail
  refine gw (motive := fun x => Code.wp _ _ _ _ x) (fun V => Hid (SS K base B q0 q1 q2 (m.sa a1) ⟨m.at_, ad, 0, 0⟩ ⟨20, wd, r, b, i, c, n⟩ w V)) (SU.out.poke1 1 _ (SU.out.l1.set1 ad)) ?_
  rintro V2 S2
  clear y0 y1 y2 y3 yf1 SU
  obtain ⟨x0, x1, x2, x3, x4, x5, x6⟩ := S2.out.bx.cells
  simp only at x0 x1 x2 x3 x4 x5 x6
  obtain ⟨y0, y1, y2, y3⟩ := S2.out.l1.cells
  simp only at y0 y1 y2 y3
  go_wp2_with fail
  refine (accessK S2.out.wk ⟨20, wd, r, b, i, c, n⟩ HRT.out (by simp [mmK]) ad IA.out).mono ?_
  rintro e w3 ⟨rfl, g3⟩
  rw [HDV.out] at g3 ⊢
  simp only [Option.getD_some, Option.getD_none, Option.isSome_some, Option.isSome_none] at g3 ⊢
  have S3 := hide (S2.out.call g3)
  clear g3 x0 x1 x2 x3 x4 x5 x6 y0 y1 y2 y3
  obtain ⟨z, hz⟩ := S3.out.l0
  obtain ⟨z0, z1, z2, z3⟩ := hz.cells
  have zf0 := hz.fr 0
  have zf1 := hz.fr 1
  have zf2 := hz.fr 2
  have zf3 := hz.fr 3
  obtain ⟨y0, y1, y2, y3⟩ := S3.out.l1.cells
  simp only at y0 y1 y2 y3
  clear hz
  go_wp2_with fail
  refine bodyPost_ret (results_l rfl _ _ q0 _ rfl S3.out.fin.1) rfl ?_
  exact st_end (M := m) (X := ⟨0, false, 0, 0, 0, 0, 0⟩) (q0 := 0) (q1 := 0) (q2 := 0) (V := w) (HS.out.trans HD.out) rfl S3.out.fin.2
set_option maxRecDepth 100000 in
set_option maxHeartbeats 6400000 in
theorem step_20n (h : WK K base B m w) (wd : Bool) (r b i c n : Int) (hf : fet m = some ⟨20, wd, r, b, i, c, n⟩) (hd : acc (m.sa (wrap64 (m.at_ + ((Xc.enc ⟨20, wd, r, b, i, c, n⟩).length : Int)))) ⟨20, wd, r, b, i, c, n⟩ (adr (m.sa (wrap64 (m.at_ + ((Xc.enc ⟨20, wd, r, b, i, c, n⟩).length : Int)))) ⟨20, wd, r, b, i, c, n⟩) = none) : Calls Try.prog 27 #[.pointer (some ⟨B, 0, none⟩)] w (StEnds K base B m w) := by
  have HF := hide hf
  have HRT := hide (fet_ok hf).1
  have HIN := hide (fet_ok hf).2
  have HS := hide (stp_some hf)
  have H := hide h
  have hB : B < w.heap.size := h.lt
  have c20 := h.ca
  have IM := hide h.ok.2.2.1
  have IV := hide (i_wrap (m.at_ + ((Xc.enc ⟨20, wd, r, b, i, c, n⟩).length : Int)))
  have HDV := hide hd
  clear hd
  clear h hf
  go_enter Try.func27, Try.ntmps27
  go_wp2_with fail
  refine gw (motive := fun x => Calls _ _ _ x _) (fun W => Hid (S0 K base B w.heap.size (w.heap.size + 1) m w W)) (s0_made H.out) ?_
  rintro W SW
  refine (fetch_any SW.out.wk.wx).mono ?_
  intro e w1 hft
  obtain ⟨hb1, rfl⟩ := ft_some HF.out hft
  clear hft
  simp only [xv]
  have S1 := hide (SW.out.bel hb1)
  clear hb1 SW c20 H hB
  have c20 := S1.out.wk.ca
  have f20 := S1.out.wk.fr 20
  have hB1 := S1.out.wk.lt
  generalize ((Xc.enc ⟨20, wd, r, b, i, c, n⟩).length : Int) = len at *
  go_upto_region 7 with fail
  refine gw (motive := fun x => Code.wp _ _ _ _ x) (fun V => Hid (SS K base B w.heap.size (w.heap.size + 1) w1.heap.size (m.sa (wrap64 (m.at_ + len))) ⟨m.at_, -1, 0, 0⟩ ⟨20, wd, r, b, i, c, n⟩ w V)) (S1.out.ss _ _ IV.out) ?_
  rintro V SV
  clear S1 c20 f20 hB1
  generalize w1.heap.size = q2 at *
  generalize w.heap.size + 1 = q1 at *
  generalize w.heap.size = q0 at *
  generalize wrap64 (m.at_ + len) = a1 at *
  obtain ⟨x0, x1, x2, x3, x4, x5, x6⟩ := SV.out.bx.cells
  simp only at x0 x1 x2 x3 x4 x5 x6
  have HD : Hid (doX (m.sa a1) ⟨20, wd, r, b, i, c, n⟩ m.at_ = (((m.sa a1).sa m.at_).ss 4, ⟨m.at_, adr (m.sa a1) ⟨20, wd, r, b, i, c, n⟩, 0, 0⟩)) := by
    have hd := HDV.out
    show _ = _; simp [doX, hd]
  have IA := hide (i_adr SV.out.wk.ok ⟨20, wd, r, b, i, c, n⟩)
  go_wp2_with fail
  refine (addressK SV.out.wk ⟨20, wd, r, b, i, c, n⟩ HRT.out (by simp [mmK])).mono ?_
  rintro e w2 ⟨rfl, hb2⟩
  generalize adr (m.sa a1) ⟨20, wd, r, b, i, c, n⟩ = ad at *
  have SU := hide (SV.out.bel hb2)
  clear hb2 x0 x1 x2 x3 x4 x5 x6
  obtain ⟨y0, y1, y2, y3⟩ := SU.out.l1.cells
  simp only at y0 y1 y2 y3
  have yf1 := SU.out.l1.fr 1
  go_upto_region 14 with fail
  refine gw (motive := fun x => Code.wp _ _ _ _ x) (fun V => Hid (SS K base B q0 q1 q2 (m.sa a1) ⟨m.at_, ad, 0, 0⟩ ⟨20, wd, r, b, i, c, n⟩ w V)) (SU.out.poke1 1 _ (SU.out.l1.set1 ad)) ?_
  rintro V2 S2
  clear y0 y1 y2 y3 yf1 SU
  obtain ⟨x0, x1, x2, x3, x4, x5, x6⟩ := S2.out.bx.cells
  simp only at x0 x1 x2 x3 x4 x5 x6
  obtain ⟨y0, y1, y2, y3⟩ := S2.out.l1.cells
  simp only at y0 y1 y2 y3
  go_wp2_with fail
  refine (accessK S2.out.wk ⟨20, wd, r, b, i, c, n⟩ HRT.out (by simp [mmK]) ad IA.out).mono ?_
  rintro e w3 ⟨rfl, g3⟩
  rw [HDV.out] at g3 ⊢
  simp only [Option.getD_some, Option.getD_none, Option.isSome_some, Option.isSome_none] at g3 ⊢
  have S3 := hide (S2.out.call g3)
  clear g3 x0 x1 x2 x3 x4 x5 x6 y0 y1 y2 y3
  obtain ⟨y0, y1, y2, y3⟩ := S3.out.l1.cells
  simp only at y0 y1 y2 y3
  have c20 := S3.out.wk.ca
  have f20 := S3.out.wk.fr 20
  have c22 := S3.out.wk.ct
  have f22 := S3.out.wk.fr 22
  go_upto_region 31 with fail
  refine gw (motive := fun x => Code.wp _ _ _ _ x) (fun V => Hid (SS K base B q0 q1 q2 (((m.sa a1).sa m.at_).ss 4) ⟨m.at_, ad, 0, 0⟩ ⟨20, wd, r, b, i, c, n⟩ w V)) ((S3.out.call (S3.out.wk.seta m.at_ IM.out)).call ((S3.out.wk.seta m.at_ IM.out).wk.sett 4)) ?_
  rintro V4 S4
  clear y0 y1 y2 y3 c20 f20 c22 f22
  obtain ⟨z, hz⟩ := S4.out.l0
  obtain ⟨z0, z1, z2, z3⟩ := hz.cells
  have zf0 := hz.fr 0
  have zf1 := hz.fr 1
  have zf2 := hz.fr 2
  have zf3 := hz.fr 3
  obtain ⟨y0, y1, y2, y3⟩ := S4.out.l1.cells
  simp only at y0 y1 y2 y3
  clear hz
  go_wp2_with fail
  refine bodyPost_ret (results_l rfl _ _ q0 _ rfl S4.out.fin.1) rfl ?_
  exact st_end (M := m) (X := ⟨0, false, 0, 0, 0, 0, 0⟩) (q0 := 0) (q1 := 0) (q2 := 0) (V := w) (HS.out.trans HD.out) rfl S4.out.fin.2
end
end Go.Proofs.Ytielpebokbolbaa

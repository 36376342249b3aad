/-
  Walks of the document's Right: rright_1, rright_4lt, rright_10, rright_14, rright_18kt, rright_22.
-/
import Derived.Test.YtddepkiefkngdaaRRightP
namespace Go.Proofs.Ytddepkiefkngdaa
open Go.RowKit
set_option linter.unusedSimpArgs false
set_option linter.unusedVariables false
set_option maxHeartbeats 8000000 in
theorem rright_1 (wd : Bool) (r b i c n : Int) (w : World) : RrIs ⟨1, wd, r, b, i, c, n⟩ w := by
  have RT : rt ⟨1, wd, r, b, i, c, n⟩ = true ↔ (0 ≤ r ∧ r ≤ 15) ∧ (0 ≤ b ∧ b ≤ 15) ∧ i = 0 ∧ c = 0 ∧ n = 0 := by
    rw [rt_in (by decide) (by decide)]; simp [rwd, rpl, rkd, rnm, fW, fRR, fB, fP, h32, rg_iff, ix_iff] <;> first | omega | (cases wd <;> simp <;> omega)
  unfold RrIs
  simp only [xv]
  skip
  obtain ⟨W, hW⟩ : ∃ W, W = w.alloc (.cells #[.int .i64 1, .bool wd, .int .i64 r, .int .i64 b, .int .i64 i, .int .i64 c, .int .i64 n] 23) := ⟨_, rfl⟩
  have B0 : Hid (Bx w.heap.size ⟨1, wd, r, b, i, c, n⟩ W) := by show Bx _ _ _; rw [hW]; exact Bx.made w ⟨1, wd, r, b, i, c, n⟩
  have W0 : Hid (Below w.heap.size w W) := by show Below _ _ _; rw [hW]; exact bel_one _ _
  have HRT := hide RT
  clear RT
  go_enter Try.func13, Try.ntmps13
  go_wp2_with fail
  rw [← hW]
  refine (fields_1 _).mono ?_
  clear hW
  rintro e w1 ⟨rfl, hb1⟩
  obtain ⟨V, hV⟩ : ∃ V, V = w1.alloc (.cells #[.bool true, .bool true, .bool false, .bool false, .bool false, .bool true, .bool true] 50) := ⟨_, rfl⟩
  have B1 : Hid (Bx w.heap.size ⟨1, wd, r, b, i, c, n⟩ V) := by show Bx _ _ _; rw [hV]; exact (B0.out.kept hb1).alloc _
  have W1 : Hid (Below w.heap.size w V) := by show Below _ _ _; rw [hV]; exact bel_al (bel_tr W0.out hb1) _
  obtain ⟨x0, x1, x2, x3, x4, x5, x6⟩ := B1.out.cells
  dsimp only at x0 x1 x2 x3 x4 x5 x6
  have y0 : V.cell? ⟨w1.heap.size, 0, none⟩ = some (.bool true) := by rw [hV]; simp [World.cell?_alloc_mark]
  have y1 : V.cell? ⟨w1.heap.size, 1, none⟩ = some (.bool true) := by rw [hV]; simp [World.cell?_alloc_mark]
  have y2 : V.cell? ⟨w1.heap.size, 2, none⟩ = some (.bool false) := by rw [hV]; simp [World.cell?_alloc_mark]
  have y3 : V.cell? ⟨w1.heap.size, 3, none⟩ = some (.bool false) := by rw [hV]; simp [World.cell?_alloc_mark]
  have y4 : V.cell? ⟨w1.heap.size, 4, none⟩ = some (.bool false) := by rw [hV]; simp [World.cell?_alloc_mark]
  have y5 : V.cell? ⟨w1.heap.size, 5, none⟩ = some (.bool true) := by rw [hV]; simp [World.cell?_alloc_mark]
  have y6 : V.cell? ⟨w1.heap.size, 6, none⟩ = some (.bool true) := by rw [hV]; simp [World.cell?_alloc_mark]
  go_upto_region 2 with fail
  rw [← hV]
  clear hV B0 W0 hb1
  go_wp2_with (fail)
  all_goals (go_ret; refine ⟨ret_bool ?_, W1.out⟩; clear x0 x1 x2 x3 x4 x5 x6 y0 y1 y2 y3 y4 y5 y6; first | exact (rt_no HRT.out (by intro hR; revert hR; (cases wd <;> simp_all <;> omega))).symm | exact (HRT.out.2 (by (cases wd <;> simp_all <;> omega))).symm)
set_option maxHeartbeats 8000000 in
theorem rright_4lt (wd : Bool) (r b i c n : Int) (w : World) (hk : smK c = false) (hs : s32 n = false) : RrIs ⟨4, wd, r, b, i, c, n⟩ w := by
  have RT : rt ⟨4, wd, r, b, i, c, n⟩ = false := by
    rw [rt_in (by decide) (by decide)]; simp [rkd, rnm, h32, fP, hk, hs]
  unfold RrIs
  simp only [xv]
  rw [RT]
  clear RT
  have HK := hide hk
  have HS := hide hs
  clear hk hs
  obtain ⟨W, hW⟩ : ∃ W, W = w.alloc (.cells #[.int .i64 4, .bool wd, .int .i64 r, .int .i64 b, .int .i64 i, .int .i64 c, .int .i64 n] 23) := ⟨_, rfl⟩
  have B0 : Hid (Bx w.heap.size ⟨4, wd, r, b, i, c, n⟩ W) := by show Bx _ _ _; rw [hW]; exact Bx.made w ⟨4, wd, r, b, i, c, n⟩
  have W0 : Hid (Below w.heap.size w W) := by show Below _ _ _; rw [hW]; exact bel_one _ _
  
  
  go_enter Try.func13, Try.ntmps13
  go_wp2_with fail
  rw [← hW]
  refine (fields_4 _).mono ?_
  clear hW
  rintro e w1 ⟨rfl, hb1⟩
  obtain ⟨V, hV⟩ : ∃ V, V = w1.alloc (.cells #[.bool false, .bool true, .bool false, .bool true, .bool true, .bool true, .bool true] 50) := ⟨_, rfl⟩
  have B1 : Hid (Bx w.heap.size ⟨4, wd, r, b, i, c, n⟩ V) := by show Bx _ _ _; rw [hV]; exact (B0.out.kept hb1).alloc _
  have W1 : Hid (Below w.heap.size w V) := by show Below _ _ _; rw [hV]; exact bel_al (bel_tr W0.out hb1) _
  obtain ⟨x0, x1, x2, x3, x4, x5, x6⟩ := B1.out.cells
  dsimp only at x0 x1 x2 x3 x4 x5 x6
  have y0 : V.cell? ⟨w1.heap.size, 0, none⟩ = some (.bool false) := by rw [hV]; simp [World.cell?_alloc_mark]
  have y1 : V.cell? ⟨w1.heap.size, 1, none⟩ = some (.bool true) := by rw [hV]; simp [World.cell?_alloc_mark]
  have y2 : V.cell? ⟨w1.heap.size, 2, none⟩ = some (.bool false) := by rw [hV]; simp [World.cell?_alloc_mark]
  have y3 : V.cell? ⟨w1.heap.size, 3, none⟩ = some (.bool true) := by rw [hV]; simp [World.cell?_alloc_mark]
  have y4 : V.cell? ⟨w1.heap.size, 4, none⟩ = some (.bool true) := by rw [hV]; simp [World.cell?_alloc_mark]
  have y5 : V.cell? ⟨w1.heap.size, 5, none⟩ = some (.bool true) := by rw [hV]; simp [World.cell?_alloc_mark]
  have y6 : V.cell? ⟨w1.heap.size, 6, none⟩ = some (.bool true) := by rw [hV]; simp [World.cell?_alloc_mark]
  go_upto_region 2 with fail
  rw [← hV]
  clear hV B0 W0 hb1
  go_wp2_with (first | (go_at_call 29; refine (ralu_any _ _).mono ?_; rw [HK.out]; rintro e w' ⟨rfl, rfl⟩) | (go_at_call 28; refine (rword_any _ _).mono ?_; rw [HS.out]; rintro e w' ⟨rfl, rfl⟩))
  all_goals (go_ret; exact ⟨rfl, W1.out⟩)
set_option maxHeartbeats 8000000 in
theorem rright_10 (wd : Bool) (r b i c n : Int) (w : World) : RrIs ⟨10, wd, r, b, i, c, n⟩ w := by
  have RT : rt ⟨10, wd, r, b, i, c, n⟩ = true ↔ r = 0 ∧ b = 0 ∧ i = 0 ∧ c = 0 ∧ n = 0 := by
    rw [rt_in (by decide) (by decide)]; simp [rwd, rpl, rkd, rnm, fW, fRR, fB, fP, h32, rg_iff, ix_iff] <;> first | omega | (cases wd <;> simp <;> omega)
  unfold RrIs
  simp only [xv]
  skip
  obtain ⟨W, hW⟩ : ∃ W, W = w.alloc (.cells #[.int .i64 10, .bool wd, .int .i64 r, .int .i64 b, .int .i64 i, .int .i64 c, .int .i64 n] 23) := ⟨_, rfl⟩
  have B0 : Hid (Bx w.heap.size ⟨10, wd, r, b, i, c, n⟩ W) := by show Bx _ _ _; rw [hW]; exact Bx.made w ⟨10, wd, r, b, i, c, n⟩
  have W0 : Hid (Below w.heap.size w W) := by show Below _ _ _; rw [hW]; exact bel_one _ _
  have HRT := hide RT
  clear RT
  go_enter Try.func13, Try.ntmps13
  go_wp2_with fail
  rw [← hW]
  refine (fields_10 _).mono ?_
  clear hW
  rintro e w1 ⟨rfl, hb1⟩
  obtain ⟨V, hV⟩ : ∃ V, V = w1.alloc (.cells #[.bool false, .bool false, .bool false, .bool false, .bool false, .bool true, .bool true] 50) := ⟨_, rfl⟩
  have B1 : Hid (Bx w.heap.size ⟨10, wd, r, b, i, c, n⟩ V) := by show Bx _ _ _; rw [hV]; exact (B0.out.kept hb1).alloc _
  have W1 : Hid (Below w.heap.size w V) := by show Below _ _ _; rw [hV]; exact bel_al (bel_tr W0.out hb1) _
  obtain ⟨x0, x1, x2, x3, x4, x5, x6⟩ := B1.out.cells
  dsimp only at x0 x1 x2 x3 x4 x5 x6
  have y0 : V.cell? ⟨w1.heap.size, 0, none⟩ = some (.bool false) := by rw [hV]; simp [World.cell?_alloc_mark]
  have y1 : V.cell? ⟨w1.heap.size, 1, none⟩ = some (.bool false) := by rw [hV]; simp [World.cell?_alloc_mark]
  have y2 : V.cell? ⟨w1.heap.size, 2, none⟩ = some (.bool false) := by rw [hV]; simp [World.cell?_alloc_mark]
  have y3 : V.cell? ⟨w1.heap.size, 3, none⟩ = some (.bool false) := by rw [hV]; simp [World.cell?_alloc_mark]
  have y4 : V.cell? ⟨w1.heap.size, 4, none⟩ = some (.bool false) := by rw [hV]; simp [World.cell?_alloc_mark]
  have y5 : V.cell? ⟨w1.heap.size, 5, none⟩ = some (.bool true) := by rw [hV]; simp [World.cell?_alloc_mark]
  have y6 : V.cell? ⟨w1.heap.size, 6, none⟩ = some (.bool true) := by rw [hV]; simp [World.cell?_alloc_mark]
  go_upto_region 2 with fail
  rw [← hV]
  clear hV B0 W0 hb1
  go_wp2_with (fail)
  all_goals (go_ret; refine ⟨ret_bool ?_, W1.out⟩; clear x0 x1 x2 x3 x4 x5 x6 y0 y1 y2 y3 y4 y5 y6; first | exact (rt_no HRT.out (by intro hR; revert hR; (cases wd <;> simp_all <;> omega))).symm | exact (HRT.out.2 (by (cases wd <;> simp_all <;> omega))).symm)
set_option maxHeartbeats 8000000 in
theorem rright_14 (wd : Bool) (r b i c n : Int) (w : World) : RrIs ⟨14, wd, r, b, i, c, n⟩ w := by
  have RT : rt ⟨14, wd, r, b, i, c, n⟩ = true ↔ r = 0 ∧ b = 0 ∧ i = 0 ∧ c = 0 ∧ n = 0 ∧ wd = false := by
    rw [rt_in (by decide) (by decide)]; simp [rwd, rpl, rkd, rnm, fW, fRR, fB, fP, h32, rg_iff, ix_iff] <;> first | omega | (cases wd <;> simp <;> omega)
  unfold RrIs
  simp only [xv]
  skip
  obtain ⟨W, hW⟩ : ∃ W, W = w.alloc (.cells #[.int .i64 14, .bool wd, .int .i64 r, .int .i64 b, .int .i64 i, .int .i64 c, .int .i64 n] 23) := ⟨_, rfl⟩
  have B0 : Hid (Bx w.heap.size ⟨14, wd, r, b, i, c, n⟩ W) := by show Bx _ _ _; rw [hW]; exact Bx.made w ⟨14, wd, r, b, i, c, n⟩
  have W0 : Hid (Below w.heap.size w W) := by show Below _ _ _; rw [hW]; exact bel_one _ _
  have HRT := hide RT
  clear RT
  go_enter Try.func13, Try.ntmps13
  go_wp2_with fail
  rw [← hW]
  refine (fields_14 _).mono ?_
  clear hW
  rintro e w1 ⟨rfl, hb1⟩
  obtain ⟨V, hV⟩ : ∃ V, V = w1.alloc (.cells #[.bool false, .bool false, .bool false, .bool false, .bool false, .bool true, .bool false] 50) := ⟨_, rfl⟩
  have B1 : Hid (Bx w.heap.size ⟨14, wd, r, b, i, c, n⟩ V) := by show Bx _ _ _; rw [hV]; exact (B0.out.kept hb1).alloc _
  have W1 : Hid (Below w.heap.size w V) := by show Below _ _ _; rw [hV]; exact bel_al (bel_tr W0.out hb1) _
  obtain ⟨x0, x1, x2, x3, x4, x5, x6⟩ := B1.out.cells
  dsimp only at x0 x1 x2 x3 x4 x5 x6
  have y0 : V.cell? ⟨w1.heap.size, 0, none⟩ = some (.bool false) := by rw [hV]; simp [World.cell?_alloc_mark]
  have y1 : V.cell? ⟨w1.heap.size, 1, none⟩ = some (.bool false) := by rw [hV]; simp [World.cell?_alloc_mark]
  have y2 : V.cell? ⟨w1.heap.size, 2, none⟩ = some (.bool false) := by rw [hV]; simp [World.cell?_alloc_mark]
  have y3 : V.cell? ⟨w1.heap.size, 3, none⟩ = some (.bool false) := by rw [hV]; simp [World.cell?_alloc_mark]
  have y4 : V.cell? ⟨w1.heap.size, 4, none⟩ = some (.bool false) := by rw [hV]; simp [World.cell?_alloc_mark]
  have y5 : V.cell? ⟨w1.heap.size, 5, none⟩ = some (.bool true) := by rw [hV]; simp [World.cell?_alloc_mark]
  have y6 : V.cell? ⟨w1.heap.size, 6, none⟩ = some (.bool false) := by rw [hV]; simp [World.cell?_alloc_mark]
  go_upto_region 2 with fail
  rw [← hV]
  clear hV B0 W0 hb1
  go_wp2_with (fail)
  all_goals (go_ret; refine ⟨ret_bool ?_, W1.out⟩; clear x0 x1 x2 x3 x4 x5 x6 y0 y1 y2 y3 y4 y5 y6; first | exact (rt_no HRT.out (by intro hR; revert hR; (cases wd <;> simp_all <;> omega))).symm | exact (HRT.out.2 (by (cases wd <;> simp_all <;> omega))).symm)
set_option maxHeartbeats 8000000 in
theorem rright_18kt (wd : Bool) (r b i c n : Int) (w : World) (hk : cnK c = true) (hs : s32 n = false) : RrIs ⟨18, wd, r, b, i, c, n⟩ w := by
  have RT : rt ⟨18, wd, r, b, i, c, n⟩ = false := by
    rw [rt_in (by decide) (by decide)]; simp [rkd, rnm, h32, fP, hk, hs]
  unfold RrIs
  simp only [xv]
  rw [RT]
  clear RT
  have HK := hide hk
  have HS := hide hs
  clear hk hs
  obtain ⟨W, hW⟩ : ∃ W, W = w.alloc (.cells #[.int .i64 18, .bool wd, .int .i64 r, .int .i64 b, .int .i64 i, .int .i64 c, .int .i64 n] 23) := ⟨_, rfl⟩
  have B0 : Hid (Bx w.heap.size ⟨18, wd, r, b, i, c, n⟩ W) := by show Bx _ _ _; rw [hW]; exact Bx.made w ⟨18, wd, r, b, i, c, n⟩
  have W0 : Hid (Below w.heap.size w W) := by show Below _ _ _; rw [hW]; exact bel_one _ _
  
  
  go_enter Try.func13, Try.ntmps13
  go_wp2_with fail
  rw [← hW]
  refine (fields_18 _).mono ?_
  clear hW
  rintro e w1 ⟨rfl, hb1⟩
  obtain ⟨V, hV⟩ : ∃ V, V = w1.alloc (.cells #[.bool false, .bool false, .bool false, .bool true, .bool true, .bool true, .bool false] 50) := ⟨_, rfl⟩
  have B1 : Hid (Bx w.heap.size ⟨18, wd, r, b, i, c, n⟩ V) := by show Bx _ _ _; rw [hV]; exact (B0.out.kept hb1).alloc _
  have W1 : Hid (Below w.heap.size w V) := by show Below _ _ _; rw [hV]; exact bel_al (bel_tr W0.out hb1) _
  obtain ⟨x0, x1, x2, x3, x4, x5, x6⟩ := B1.out.cells
  dsimp only at x0 x1 x2 x3 x4 x5 x6
  have y0 : V.cell? ⟨w1.heap.size, 0, none⟩ = some (.bool false) := by rw [hV]; simp [World.cell?_alloc_mark]
  have y1 : V.cell? ⟨w1.heap.size, 1, none⟩ = some (.bool false) := by rw [hV]; simp [World.cell?_alloc_mark]
  have y2 : V.cell? ⟨w1.heap.size, 2, none⟩ = some (.bool false) := by rw [hV]; simp [World.cell?_alloc_mark]
  have y3 : V.cell? ⟨w1.heap.size, 3, none⟩ = some (.bool true) := by rw [hV]; simp [World.cell?_alloc_mark]
  have y4 : V.cell? ⟨w1.heap.size, 4, none⟩ = some (.bool true) := by rw [hV]; simp [World.cell?_alloc_mark]
  have y5 : V.cell? ⟨w1.heap.size, 5, none⟩ = some (.bool true) := by rw [hV]; simp [World.cell?_alloc_mark]
  have y6 : V.cell? ⟨w1.heap.size, 6, none⟩ = some (.bool false) := by rw [hV]; simp [World.cell?_alloc_mark]
  go_upto_region 2 with fail
  rw [← hV]
  clear hV B0 W0 hb1
  go_wp2_with (first | (go_at_call 31; refine (rcond_any _ _).mono ?_; rw [HK.out]; rintro e w' ⟨rfl, rfl⟩) | (go_at_call 28; refine (rword_any _ _).mono ?_; rw [HS.out]; rintro e w' ⟨rfl, rfl⟩))
  all_goals (go_ret; exact ⟨rfl, W1.out⟩)
set_option maxHeartbeats 8000000 in
theorem rright_22 (wd : Bool) (r b i c n : Int) (w : World) : RrIs ⟨22, wd, r, b, i, c, n⟩ w := by
  have RT : rt ⟨22, wd, r, b, i, c, n⟩ = true ↔ r = 0 ∧ b = 0 ∧ i = 0 ∧ c = 0 ∧ n = 0 ∧ wd = false := by
    rw [rt_in (by decide) (by decide)]; simp [rwd, rpl, rkd, rnm, fW, fRR, fB, fP, h32, rg_iff, ix_iff] <;> first | omega | (cases wd <;> simp <;> omega)
  unfold RrIs
  simp only [xv]
  skip
  obtain ⟨W, hW⟩ : ∃ W, W = w.alloc (.cells #[.int .i64 22, .bool wd, .int .i64 r, .int .i64 b, .int .i64 i, .int .i64 c, .int .i64 n] 23) := ⟨_, rfl⟩
  have B0 : Hid (Bx w.heap.size ⟨22, wd, r, b, i, c, n⟩ W) := by show Bx _ _ _; rw [hW]; exact Bx.made w ⟨22, wd, r, b, i, c, n⟩
  have W0 : Hid (Below w.heap.size w W) := by show Below _ _ _; rw [hW]; exact bel_one _ _
  have HRT := hide RT
  clear RT
  go_enter Try.func13, Try.ntmps13
  go_wp2_with fail
  rw [← hW]
  refine (fields_22 _).mono ?_
  clear hW
  rintro e w1 ⟨rfl, hb1⟩
  obtain ⟨V, hV⟩ : ∃ V, V = w1.alloc (.cells #[.bool false, .bool false, .bool false, .bool false, .bool false, .bool true, .bool false] 50) := ⟨_, rfl⟩
  have B1 : Hid (Bx w.heap.size ⟨22, wd, r, b, i, c, n⟩ V) := by show Bx _ _ _; rw [hV]; exact (B0.out.kept hb1).alloc _
  have W1 : Hid (Below w.heap.size w V) := by show Below _ _ _; rw [hV]; exact bel_al (bel_tr W0.out hb1) _
  obtain ⟨x0, x1, x2, x3, x4, x5, x6⟩ := B1.out.cells
  dsimp only at x0 x1 x2 x3 x4 x5 x6
  have y0 : V.cell? ⟨w1.heap.size, 0, none⟩ = some (.bool false) := by rw [hV]; simp [World.cell?_alloc_mark]
  have y1 : V.cell? ⟨w1.heap.size, 1, none⟩ = some (.bool false) := by rw [hV]; simp [World.cell?_alloc_mark]
  have y2 : V.cell? ⟨w1.heap.size, 2, none⟩ = some (.bool false) := by rw [hV]; simp [World.cell?_alloc_mark]
  have y3 : V.cell? ⟨w1.heap.size, 3, none⟩ = some (.bool false) := by rw [hV]; simp [World.cell?_alloc_mark]
  have y4 : V.cell? ⟨w1.heap.size, 4, none⟩ = some (.bool false) := by rw [hV]; simp [World.cell?_alloc_mark]
  have y5 : V.cell? ⟨w1.heap.size, 5, none⟩ = some (.bool true) := by rw [hV]; simp [World.cell?_alloc_mark]
  have y6 : V.cell? ⟨w1.heap.size, 6, none⟩ = some (.bool false) := by rw [hV]; simp [World.cell?_alloc_mark]
  go_upto_region 2 with fail
  rw [← hV]
  clear hV B0 W0 hb1
  go_wp2_with (fail)
  all_goals (go_ret; refine ⟨ret_bool ?_, W1.out⟩; clear x0 x1 x2 x3 x4 x5 x6 y0 y1 y2 y3 y4 y5 y6; first | exact (rt_no HRT.out (by intro hR; revert hR; (cases wd <;> simp_all <;> omega))).symm | exact (HRT.out.2 (by (cases wd <;> simp_all <;> omega))).symm)
end Go.Proofs.Ytddepkiefkngdaa

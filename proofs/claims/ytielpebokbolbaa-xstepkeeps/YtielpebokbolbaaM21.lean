/-
  The worker's access: what reads or writes memory.
-/
import Derived.Test.YtielpebokbolbaaM20
namespace Go.Proofs.Ytielpebokbolbaa
open Go.RowKit
open Xc (hide bel_one bel_tr bel_al bel_set Xi xv)
set_option linter.unusedSimpArgs false
set_option linter.unusedVariables false
def AcEnds (K : Nat → Prop) (base B : Nat) (m : Mc) (o : Option Mc) (w : World) (e : Ending) (w' : World) : Prop := e = .returned (.bool o.isSome) ∧ Goes K base B (o.getD m) w w'
theorem ac_yes {K : Nat → Prop} {base B : Nat} {m m' : Mc} {o : Option Mc} {w w' : World} {e : Ending} (h : o = some m') (h1 : e = .returned (.bool true)) (h2 : Goes K base B m' w w') : AcEnds K base B m o w e w' := by subst h; exact ⟨h1, h2⟩
theorem ac_no {K : Nat → Prop} {base B : Nat} {m : Mc} {o : Option Mc} {w w' : World} {e : Ending} (h : o = none) (h1 : e = .returned (.bool false)) (h2 : Goes K base B m w w') : AcEnds K base B m o w e w' := by subst h; exact ⟨h1, h2⟩
theorem rd_i {g : List Rg} {a n v : Int} (h : rdM g a n = some v) : I64 v := by
  unfold rdM at h
  split at h
  · split at h
    · injection h with h; subst h; exact Xc.jn_I64 _
    · cases h
  · cases h
section
variable {K : Nat → Prop} {base B : Nat} {m : Mc} {w : World}
set_option maxRecDepth 100000 in
set_option maxHeartbeats 6400000 in
theorem access_19n (h : WK K base B m w) (wd : Bool) (r b i c n : Int) (a : Int) (ha : I64 a) (hp : ptM m.g a 8 m.at_ = none) : Calls Try.prog 37 #[.pointer (some ⟨B, 0, none⟩), .agg #[.int .i64 19, .bool wd, .int .i64 r, .int .i64 b, .int .i64 i, .int .i64 c, .int .i64 n], .int .i64 a] w (AcEnds K base B m (acc m ⟨19, wd, r, b, i, c, n⟩ a) w) := by
  have HE : Hid (acc m ⟨19, wd, r, b, i, c, n⟩ a = none) := by show _ = _; simp [acc, szX, hp]
  generalize acc m ⟨19, wd, r, b, i, c, n⟩ a = O at *
  have H := hide h
  have HA := hide ha
  have hB : B < w.heap.size := h.lt
  have c20 := h.ca
  have HP := hide hp
  clear hp
  clear h ha
  go_enter Try.func37, Try.ntmps37
  go_wp2_with fail
  generalize hW : w.alloc _ = W
  have kW : Below w.heap.size w W := by rw [← hW]; exact bel_one _ _
  have hX : Xc.Bx w.heap.size ⟨19, wd, r, b, i, c, n⟩ W := by rw [← hW]; exact Xc.Bx.made _ _
  have GW := hide (H.out.bel kW)
  have WW := hide (H.out.box kW hX.lt)
  obtain ⟨x0, x1, x2, x3, x4, x5, x6⟩ := hX.cells
  have hqW : w.heap.size < W.heap.size := hX.lt
  have hBW : B < W.heap.size := WW.out.lt
  have nqB : ¬ w.heap.size = B := by omega
  have HX := hide hX
  clear hX kW hW H
  simp only at x0 x1 x2 x3 x4 x5 x6
  generalize w.heap.size = q at *
  refine (putK WW.out a 8 m.at_ HA.out).mono ?_
  rintro e w2 ⟨rfl, g2⟩
  rw [HP.out] at g2 ⊢
  have G2 := hide g2
  clear x0 x1 x2 x3 x4 x5 x6
  clear g2 c20
  go_wp2_with fail
  go_ret
  exact ac_no HE.out rfl (GW.out.trans (G2.out.mono fun _ => Or.inl))
set_option maxRecDepth 100000 in
set_option maxHeartbeats 6400000 in
theorem access_19y (h : WK K base B m w) (wd : Bool) (r b i c n : Int) (a : Int) (ha : I64 a) {g : List Rg} (hp : ptM m.g a 8 m.at_ = some g) : Calls Try.prog 37 #[.pointer (some ⟨B, 0, none⟩), .agg #[.int .i64 19, .bool wd, .int .i64 r, .int .i64 b, .int .i64 i, .int .i64 c, .int .i64 n], .int .i64 a] w (AcEnds K base B m (acc m ⟨19, wd, r, b, i, c, n⟩ a) w) := by
  have HE : Hid (acc m ⟨19, wd, r, b, i, c, n⟩ a = some (((m.sg g).sr 4 a).sa (wrap64 (m.at_ + n)))) := by show _ = _; simp [acc, szX, hp]
  generalize acc m ⟨19, wd, r, b, i, c, n⟩ a = O at *
  have H := hide h
  have HA := hide ha
  have hB : B < w.heap.size := h.lt
  have c20 := h.ca
  have HP := hide hp
  clear hp
  clear h ha
  go_enter Try.func37, Try.ntmps37
  go_wp2_with fail
  generalize hW : w.alloc _ = W
  have kW : Below w.heap.size w W := by rw [← hW]; exact bel_one _ _
  have hX : Xc.Bx w.heap.size ⟨19, wd, r, b, i, c, n⟩ W := by rw [← hW]; exact Xc.Bx.made _ _
  have GW := hide (H.out.bel kW)
  have WW := hide (H.out.box kW hX.lt)
  obtain ⟨x0, x1, x2, x3, x4, x5, x6⟩ := hX.cells
  have hqW : w.heap.size < W.heap.size := hX.lt
  have hBW : B < W.heap.size := WW.out.lt
  have nqB : ¬ w.heap.size = B := by omega
  have HX := hide hX
  clear hX kW hW H
  simp only at x0 x1 x2 x3 x4 x5 x6
  generalize w.heap.size = q at *
  refine (putK WW.out a 8 m.at_ HA.out).mono ?_
  rintro e w2 ⟨rfl, g2⟩
  rw [HP.out] at g2 ⊢
  simp only [Option.getD_some, Option.isSome_some] at g2 ⊢
  have G2 := hide g2
  clear x0 x1 x2 x3 x4 x5 x6
  clear g2 c20
  have c4 := G2.out.wk.rgc 4 (by decide)
  have f4 := G2.out.wk.fr 4
  go_wp2_with fail
  refine gw (motive := fun x => Code.wp _ _ _ _ x) (fun V => Hid (Goes (fun b => K b ∨ b = q) base B ((m.sg g).sr 4 a) W V)) (G2.out.trans (G2.out.wk.setr 4 (by decide) a HA.out)) ?_
  rintro V GV
  clear c4 f4
  have c20 := GV.out.wk.ca
  rw [show ((m.sg g).sr 4 a).at_ = m.at_ from rfl] at c20
  have f20 := GV.out.wk.fr 20
  obtain ⟨x0, x1, x2, x3, x4, x5, x6⟩ := (GV.out.bx (Or.inr rfl) HX.out).cells
  simp only at x0 x1 x2 x3 x4 x5 x6
  go_region
  all_goals
    go_wp2_with fail
    go_ret
    exact ac_yes HE.out rfl (GW.out.trans ((GV.out.trans ((GV.out.wk.seta _ (i_wrap _)).trans (GV.out.wk.seta _ (i_wrap _)).wk.dr)).mono fun _ => Or.inl))
set_option maxRecDepth 100000 in
set_option maxHeartbeats 6400000 in
theorem access_20n (h : WK K base B m w) (wd : Bool) (r b i c n : Int) (a : Int) (ha : I64 a) (hp : rdM m.g a 8 = none) : Calls Try.prog 37 #[.pointer (some ⟨B, 0, none⟩), .agg #[.int .i64 20, .bool wd, .int .i64 r, .int .i64 b, .int .i64 i, .int .i64 c, .int .i64 n], .int .i64 a] w (AcEnds K base B m (acc m ⟨20, wd, r, b, i, c, n⟩ a) w) := by
  have HE : Hid (acc m ⟨20, wd, r, b, i, c, n⟩ a = none) := by show _ = _; simp [acc, szX, hp]
  generalize acc m ⟨20, wd, r, b, i, c, n⟩ a = O at *
  have H := hide h
  have HA := hide ha
  have hB : B < w.heap.size := h.lt
  have HP := hide hp
  clear hp
  clear h ha
  go_enter Try.func37, Try.ntmps37
  go_wp2_with fail
  generalize hW : w.alloc _ = W
  have kW : Below w.heap.size w W := by rw [← hW]; exact bel_one _ _
  have hX : Xc.Bx w.heap.size ⟨20, wd, r, b, i, c, n⟩ W := by rw [← hW]; exact Xc.Bx.made _ _
  have GW := hide (H.out.bel kW)
  have WW := hide (H.out.box kW hX.lt)
  obtain ⟨x0, x1, x2, x3, x4, x5, x6⟩ := hX.cells
  have hqW : w.heap.size < W.heap.size := hX.lt
  have hBW : B < W.heap.size := WW.out.lt
  have nqB : ¬ w.heap.size = B := by omega
  have HX := hide hX
  clear hX kW hW H
  simp only at x0 x1 x2 x3 x4 x5 x6
  generalize w.heap.size = q at *
  refine (readK WW.out a 8 HA.out).mono ?_
  rintro e w2 ⟨rfl, g2⟩
  rw [HP.out]
  have G2 := hide (WW.out.bel g2)
  clear x0 x1 x2 x3 x4 x5 x6
  clear g2
  go_wp2_with fail
  go_ret
  exact ac_no HE.out rfl (GW.out.trans (G2.out.mono fun _ => Or.inl))
set_option maxRecDepth 100000 in
set_option maxHeartbeats 6400000 in
theorem access_20y (h : WK K base B m w) (wd : Bool) (r b i c n : Int) (a : Int) (ha : I64 a) {v : Int} (hp : rdM m.g a 8 = some v) : Calls Try.prog 37 #[.pointer (some ⟨B, 0, none⟩), .agg #[.int .i64 20, .bool wd, .int .i64 r, .int .i64 b, .int .i64 i, .int .i64 c, .int .i64 n], .int .i64 a] w (AcEnds K base B m (acc m ⟨20, wd, r, b, i, c, n⟩ a) w) := by
  have HE : Hid (acc m ⟨20, wd, r, b, i, c, n⟩ a = some ((m.sa v).sr 4 (wrap64 (a + 8)))) := by show _ = _; simp [acc, szX, hp]
  generalize acc m ⟨20, wd, r, b, i, c, n⟩ a = O at *
  have H := hide h
  have HA := hide ha
  have hB : B < w.heap.size := h.lt
  have IV := hide (rd_i hp)
  have HP := hide hp
  clear hp
  clear h ha
  go_enter Try.func37, Try.ntmps37
  go_wp2_with fail
  generalize hW : w.alloc _ = W
  have kW : Below w.heap.size w W := by rw [← hW]; exact bel_one _ _
  have hX : Xc.Bx w.heap.size ⟨20, wd, r, b, i, c, n⟩ W := by rw [← hW]; exact Xc.Bx.made _ _
  have GW := hide (H.out.bel kW)
  have WW := hide (H.out.box kW hX.lt)
  obtain ⟨x0, x1, x2, x3, x4, x5, x6⟩ := hX.cells
  have hqW : w.heap.size < W.heap.size := hX.lt
  have hBW : B < W.heap.size := WW.out.lt
  have nqB : ¬ w.heap.size = B := by omega
  have HX := hide hX
  clear hX kW hW H
  simp only at x0 x1 x2 x3 x4 x5 x6
  generalize w.heap.size = q at *
  refine (readK WW.out a 8 HA.out).mono ?_
  rintro e w2 ⟨rfl, g2⟩
  rw [HP.out]
  simp only [Option.getD_some, Option.isSome_some]
  have G2 := hide (WW.out.bel g2)
  clear x0 x1 x2 x3 x4 x5 x6
  clear g2
  have c4 := G2.out.wk.rgc 4 (by decide)
  have f4 := G2.out.wk.fr 4
  have c20 := G2.out.wk.ca
  have f20 := G2.out.wk.fr 20
  go_wp2_with fail
  go_region
  all_goals
    go_wp2_with fail
    go_ret
    first
    | exact ac_yes HE.out rfl (GW.out.trans ((G2.out.trans (((G2.out.wk.seta v IV.out).trans ((G2.out.wk.seta v IV.out).wk.setr 4 (by decide) _ (i_wrap _))).trans ((G2.out.wk.seta v IV.out).wk.setr 4 (by decide) _ (i_wrap _)).wk.dr)).mono fun _ => Or.inl))
    | exact ac_yes HE.out rfl (GW.out.trans ((G2.out.trans (((G2.out.wk.setr 4 (by decide) _ (i_wrap _)).trans ((G2.out.wk.setr 4 (by decide) _ (i_wrap _)).wk.seta v IV.out)).trans ((G2.out.wk.setr 4 (by decide) _ (i_wrap _)).wk.seta v IV.out).wk.dr)).mono fun _ => Or.inl))
set_option maxRecDepth 100000 in
set_option maxHeartbeats 6400000 in
theorem access_114n (h : WK K base B m w) (r b i c n : Int) (a : Int) (ha : I64 a) (hp : rdM m.g a 4 = none) : Calls Try.prog 37 #[.pointer (some ⟨B, 0, none⟩), .agg #[.int .i64 11, .bool false, .int .i64 r, .int .i64 b, .int .i64 i, .int .i64 c, .int .i64 n], .int .i64 a] w (AcEnds K base B m (acc m ⟨11, false, r, b, i, c, n⟩ a) w) := by
  have HE : Hid (acc m ⟨11, false, r, b, i, c, n⟩ a = none) := by show _ = _; simp [acc, szX, hp]
  generalize acc m ⟨11, false, r, b, i, c, n⟩ a = O at *
  have H := hide h
  have HA := hide ha
  have hB : B < w.heap.size := h.lt
  have HP := hide hp
  clear hp
  clear h ha
  go_enter Try.func37, Try.ntmps37
  go_wp2_with fail
  generalize hW : w.alloc _ = W
  have kW : Below w.heap.size w W := by rw [← hW]; exact bel_one _ _
  have hX : Xc.Bx w.heap.size ⟨11, false, r, b, i, c, n⟩ W := by rw [← hW]; exact Xc.Bx.made _ _
  have GW := hide (H.out.bel kW)
  have WW := hide (H.out.box kW hX.lt)
  obtain ⟨x0, x1, x2, x3, x4, x5, x6⟩ := hX.cells
  have hqW : w.heap.size < W.heap.size := hX.lt
  have hBW : B < W.heap.size := WW.out.lt
  have nqB : ¬ w.heap.size = B := by omega
  have HX := hide hX
  clear hX kW hW H
  simp only at x0 x1 x2 x3 x4 x5 x6
  generalize w.heap.size = q at *
  refine (size_any _ _ _ _ _ _ _ _).mono ?_
  rintro e w1 ⟨rfl, hb1⟩
  have G1 := hide (WW.out.bel hb1)
  have X1 := hide (HX.out.kept hb1)
  clear x0 x1 x2 x3 x4 x5 x6
  clear hb1
  obtain ⟨x0, x1, x2, x3, x4, x5, x6⟩ := X1.out.cells
  simp only at x0 x1 x2 x3 x4 x5 x6
  go_wp2_with fail
  refine (readK G1.out.wk a 4 HA.out).mono ?_
  rintro e w2 ⟨rfl, g2⟩
  rw [HP.out]
  have G2 := hide (G1.out.to g2)
  clear x0 x1 x2 x3 x4 x5 x6
  clear g2
  go_wp2_with fail
  go_ret
  exact ac_no HE.out rfl (GW.out.trans (G2.out.mono fun _ => Or.inl))
set_option maxRecDepth 100000 in
set_option maxHeartbeats 6400000 in
theorem access_114y (h : WK K base B m w) (r : Nat) (hr : r < 16) (b i c n : Int) (a : Int) (ha : I64 a) {v : Int} (hp : rdM m.g a 4 = some v) : Calls Try.prog 37 #[.pointer (some ⟨B, 0, none⟩), .agg #[.int .i64 11, .bool false, .int .i64 r, .int .i64 b, .int .i64 i, .int .i64 c, .int .i64 n], .int .i64 a] w (AcEnds K base B m (acc m ⟨11, false, r, b, i, c, n⟩ a) w) := by
  have HE : Hid (acc m ⟨11, false, r, b, i, c, n⟩ a = some (m.sr (r : Int) v)) := by show _ = _; simp [acc, szX, hp]
  generalize acc m ⟨11, false, r, b, i, c, n⟩ a = O at *
  have H := hide h
  have HA := hide ha
  have hB : B < w.heap.size := h.lt
  have IV := hide (rd_i hp)
  have HP := hide hp
  clear hp
  clear h ha
  go_enter Try.func37, Try.ntmps37
  go_wp2_with fail
  generalize hW : w.alloc _ = W
  have kW : Below w.heap.size w W := by rw [← hW]; exact bel_one _ _
  have hX : Xc.Bx w.heap.size ⟨11, false, r, b, i, c, n⟩ W := by rw [← hW]; exact Xc.Bx.made _ _
  have GW := hide (H.out.bel kW)
  have WW := hide (H.out.box kW hX.lt)
  obtain ⟨x0, x1, x2, x3, x4, x5, x6⟩ := hX.cells
  have hqW : w.heap.size < W.heap.size := hX.lt
  have hBW : B < W.heap.size := WW.out.lt
  have nqB : ¬ w.heap.size = B := by omega
  have HX := hide hX
  clear hX kW hW H
  simp only at x0 x1 x2 x3 x4 x5 x6
  generalize w.heap.size = q at *
  refine (size_any _ _ _ _ _ _ _ _).mono ?_
  rintro e w1 ⟨rfl, hb1⟩
  have G1 := hide (WW.out.bel hb1)
  have X1 := hide (HX.out.kept hb1)
  clear x0 x1 x2 x3 x4 x5 x6
  clear hb1
  obtain ⟨x0, x1, x2, x3, x4, x5, x6⟩ := X1.out.cells
  simp only at x0 x1 x2 x3 x4 x5 x6
  go_wp2_with fail
  refine (readK G1.out.wk a 4 HA.out).mono ?_
  rintro e w2 ⟨rfl, g2⟩
  rw [HP.out]
  simp only [Option.getD_some, Option.isSome_some]
  have G2 := hide (G1.out.to g2)
  have X2 := hide (X1.out.kept g2)
  clear x0 x1 x2 x3 x4 x5 x6
  clear g2
  obtain ⟨x0, x1, x2, x3, x4, x5, x6⟩ := X2.out.cells
  simp only at x0 x1 x2 x3 x4 x5 x6
  have cr := G2.out.wk.rgc r hr
  have fr := G2.out.wk.fr r
  have r0 : (0 : Int) ≤ (r : Int) := by omega
  have r16 : (r : Int) < 16 := by omega
  go_wp2_with fail
  go_region
  all_goals
    go_wp2_with fail
    go_ret
    exact ac_yes HE.out rfl (GW.out.trans ((G2.out.trans ((G2.out.wk.setr r hr v IV.out).trans (G2.out.wk.setr r hr v IV.out).wk.dr)).mono fun _ => Or.inl))
set_option maxRecDepth 100000 in
set_option maxHeartbeats 6400000 in
theorem access_118n (h : WK K base B m w) (r b i c n : Int) (a : Int) (ha : I64 a) (hp : rdM m.g a 8 = none) : Calls Try.prog 37 #[.pointer (some ⟨B, 0, none⟩), .agg #[.int .i64 11, .bool true, .int .i64 r, .int .i64 b, .int .i64 i, .int .i64 c, .int .i64 n], .int .i64 a] w (AcEnds K base B m (acc m ⟨11, true, r, b, i, c, n⟩ a) w) := by
  have HE : Hid (acc m ⟨11, true, r, b, i, c, n⟩ a = none) := by show _ = _; simp [acc, szX, hp]
  generalize acc m ⟨11, true, r, b, i, c, n⟩ a = O at *
  have H := hide h
  have HA := hide ha
  have hB : B < w.heap.size := h.lt
  have HP := hide hp
  clear hp
  clear h ha
  go_enter Try.func37, Try.ntmps37
  go_wp2_with fail
  generalize hW : w.alloc _ = W
  have kW : Below w.heap.size w W := by rw [← hW]; exact bel_one _ _
  have hX : Xc.Bx w.heap.size ⟨11, true, r, b, i, c, n⟩ W := by rw [← hW]; exact Xc.Bx.made _ _
  have GW := hide (H.out.bel kW)
  have WW := hide (H.out.box kW hX.lt)
  obtain ⟨x0, x1, x2, x3, x4, x5, x6⟩ := hX.cells
  have hqW : w.heap.size < W.heap.size := hX.lt
  have hBW : B < W.heap.size := WW.out.lt
  have nqB : ¬ w.heap.size = B := by omega
  have HX := hide hX
  clear hX kW hW H
  simp only at x0 x1 x2 x3 x4 x5 x6
  generalize w.heap.size = q at *
  refine (size_any _ _ _ _ _ _ _ _).mono ?_
  rintro e w1 ⟨rfl, hb1⟩
  have G1 := hide (WW.out.bel hb1)
  have X1 := hide (HX.out.kept hb1)
  clear x0 x1 x2 x3 x4 x5 x6
  clear hb1
  obtain ⟨x0, x1, x2, x3, x4, x5, x6⟩ := X1.out.cells
  simp only at x0 x1 x2 x3 x4 x5 x6
  go_wp2_with fail
  refine (readK G1.out.wk a 8 HA.out).mono ?_
  rintro e w2 ⟨rfl, g2⟩
  rw [HP.out]
  have G2 := hide (G1.out.to g2)
  clear x0 x1 x2 x3 x4 x5 x6
  clear g2
  go_wp2_with fail
  go_ret
  exact ac_no HE.out rfl (GW.out.trans (G2.out.mono fun _ => Or.inl))
set_option maxRecDepth 100000 in
set_option maxHeartbeats 6400000 in
theorem access_118y (h : WK K base B m w) (r : Nat) (hr : r < 16) (b i c n : Int) (a : Int) (ha : I64 a) {v : Int} (hp : rdM m.g a 8 = some v) : Calls Try.prog 37 #[.pointer (some ⟨B, 0, none⟩), .agg #[.int .i64 11, .bool true, .int .i64 r, .int .i64 b, .int .i64 i, .int .i64 c, .int .i64 n], .int .i64 a] w (AcEnds K base B m (acc m ⟨11, true, r, b, i, c, n⟩ a) w) := by
  have HE : Hid (acc m ⟨11, true, r, b, i, c, n⟩ a = some (m.sr (r : Int) v)) := by show _ = _; simp [acc, szX, hp]
  generalize acc m ⟨11, true, r, b, i, c, n⟩ a = O at *
  have H := hide h
  have HA := hide ha
  have hB : B < w.heap.size := h.lt
  have IV := hide (rd_i hp)
  have HP := hide hp
  clear hp
  clear h ha
  go_enter Try.func37, Try.ntmps37
  go_wp2_with fail
  generalize hW : w.alloc _ = W
  have kW : Below w.heap.size w W := by rw [← hW]; exact bel_one _ _
  have hX : Xc.Bx w.heap.size ⟨11, true, r, b, i, c, n⟩ W := by rw [← hW]; exact Xc.Bx.made _ _
  have GW := hide (H.out.bel kW)
  have WW := hide (H.out.box kW hX.lt)
  obtain ⟨x0, x1, x2, x3, x4, x5, x6⟩ := hX.cells
  have hqW : w.heap.size < W.heap.size := hX.lt
  have hBW : B < W.heap.size := WW.out.lt
  have nqB : ¬ w.heap.size = B := by omega
  have HX := hide hX
  clear hX kW hW H
  simp only at x0 x1 x2 x3 x4 x5 x6
  generalize w.heap.size = q at *
  refine (size_any _ _ _ _ _ _ _ _).mono ?_
  rintro e w1 ⟨rfl, hb1⟩
  have G1 := hide (WW.out.bel hb1)
  have X1 := hide (HX.out.kept hb1)
  clear x0 x1 x2 x3 x4 x5 x6
  clear hb1
  obtain ⟨x0, x1, x2, x3, x4, x5, x6⟩ := X1.out.cells
  simp only at x0 x1 x2 x3 x4 x5 x6
  go_wp2_with fail
  refine (readK G1.out.wk a 8 HA.out).mono ?_
  rintro e w2 ⟨rfl, g2⟩
  rw [HP.out]
  simp only [Option.getD_some, Option.isSome_some]
  have G2 := hide (G1.out.to g2)
  have X2 := hide (X1.out.kept g2)
  clear x0 x1 x2 x3 x4 x5 x6
  clear g2
  obtain ⟨x0, x1, x2, x3, x4, x5, x6⟩ := X2.out.cells
  simp only at x0 x1 x2 x3 x4 x5 x6
  have cr := G2.out.wk.rgc r hr
  have fr := G2.out.wk.fr r
  have r0 : (0 : Int) ≤ (r : Int) := by omega
  have r16 : (r : Int) < 16 := by omega
  go_wp2_with fail
  go_region
  all_goals
    go_wp2_with fail
    go_ret
    exact ac_yes HE.out rfl (GW.out.trans ((G2.out.trans ((G2.out.wk.setr r hr v IV.out).trans (G2.out.wk.setr r hr v IV.out).wk.dr)).mono fun _ => Or.inl))
end
end Go.Proofs.Ytielpebokbolbaa

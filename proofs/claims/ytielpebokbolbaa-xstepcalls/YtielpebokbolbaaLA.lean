/-
  Merged: Ac Ad Ft Ae St0.
-/
import Derived.Test.YtielpebokbolbaaRB
import Derived.Test.YtielpebokbolbaaSM
import Derived.Test.YtielpebokbolbaaWr
import Derived.Test.YtielpebokbolbaaCD
/-
  The worker's access: what reads or writes memory.
-/
namespace Go.Proofs.Ytielpebokbolbaa
open Go.RowKit
open Xc (hide bel_one bel_tr bel_al bel_set Xi xv)
set_option linter.unusedSimpArgs false
set_option linter.unusedVariables false
def AcEnds (K : Nat → Prop) (base B : Nat) (m : Mc) (o : Option Mc) (w : World) (e : Ending) (w' : World) : Prop := e = .returned (.bool o.isSome) ∧ Goes K base B (o.getD m) w w'
theorem ac_yes {K : Nat → Prop} {base B : Nat} {m m' : Mc} {o : Option Mc} {w w' : World} {e : Ending} (h : o = some m') (h1 : e = .returned (.bool true)) (h2 : Goes K base B m' w w') : AcEnds K base B m o w e w' := by subst h; exact ⟨h1, h2⟩
theorem ac_no {K : Nat → Prop} {base B : Nat} {m : Mc} {o : Option Mc} {w w' : World} {e : Ending} (h : o = none) (h1 : e = .returned (.bool false)) (h2 : Goes K base B m w w') : AcEnds K base B m o w e w' := by subst h; exact ⟨h1, h2⟩
theorem rd_i {g : List Rg} {a n v : Int} (h : rdM g a n = some v) : I64 v := by
  unfold rdM at h
  split at h
  · split at h
    · injection h with h; subst h; exact Xc.jn_I64 _
    · cases h
  · cases h
section
variable {K : Nat → Prop} {base B : Nat} {m : Mc} {w : World}
set_option maxRecDepth 100000 in
set_option maxHeartbeats 6400000 in
theorem access_19n (h : WK K base B m w) (wd : Bool) (r b i c n : Int) (a : Int) (ha : I64 a) (hp : ptM m.g a 8 m.at_ = none) : Calls Try.prog 37 #[.pointer (some ⟨B, 0, none⟩), .agg #[.int .i64 19, .bool wd, .int .i64 r, .int .i64 b, .int .i64 i, .int .i64 c, .int .i64 n], .int .i64 a] w (AcEnds K base B m (acc m ⟨19, wd, r, b, i, c, n⟩ a) w) := by
  have HE : Hid (acc m ⟨19, wd, r, b, i, c, n⟩ a = none) := by show _ = _; simp [acc, szX, hp]
  generalize acc m ⟨19, wd, r, b, i, c, n⟩ a = O at *
  have H := hide h
  have HA := hide ha
  have hB : B < w.heap.size := h.lt
  have c20 := h.ca
  have HP := hide hp
  clear hp
  clear h ha
  go_enter Try.func37, Try.ntmps37
  go_wp2_with fail
  generalize hW : w.alloc _ = W
  have kW : Below w.heap.size w W := by rw [← hW]; exact bel_one _ _
  have hX : Xc.Bx w.heap.size ⟨19, wd, r, b, i, c, n⟩ W := by rw [← hW]; exact Xc.Bx.made _ _
  have GW := hide (H.out.bel kW)
  have WW := hide (H.out.box kW hX.lt)
  obtain ⟨x0, x1, x2, x3, x4, x5, x6⟩ := hX.cells
  have hqW : w.heap.size < W.heap.size := hX.lt
  have hBW : B < W.heap.size := WW.out.lt
  have nqB : ¬ w.heap.size = B := by omega
  have HX := hide hX
  clear hX kW hW H
  simp only at x0 x1 x2 x3 x4 x5 x6
  generalize w.heap.size = q at *
  refine (putK WW.out a 8 m.at_ HA.out).mono ?_
  rintro e w2 ⟨rfl, g2⟩
  rw [HP.out] at g2 ⊢
  have G2 := hide g2
  clear x0 x1 x2 x3 x4 x5 x6
  clear g2 c20
  go_wp2_with fail
  go_ret
  exact ac_no HE.out rfl (GW.out.trans (G2.out.mono fun _ => Or.inl))
set_option maxRecDepth 100000 in
set_option maxHeartbeats 6400000 in
theorem access_19y (h : WK K base B m w) (wd : Bool) (r b i c n : Int) (a : Int) (ha : I64 a) {g : List Rg} (hp : ptM m.g a 8 m.at_ = some g) : Calls Try.prog 37 #[.pointer (some ⟨B, 0, none⟩), .agg #[.int .i64 19, .bool wd, .int .i64 r, .int .i64 b, .int .i64 i, .int .i64 c, .int .i64 n], .int .i64 a] w (AcEnds K base B m (acc m ⟨19, wd, r, b, i, c, n⟩ a) w) := by
  have HE : Hid (acc m ⟨19, wd, r, b, i, c, n⟩ a = some (((m.sg g).sr 4 a).sa (wrap64 (m.at_ + n)))) := by show _ = _; simp [acc, szX, hp]
  generalize acc m ⟨19, wd, r, b, i, c, n⟩ a = O at *
  have H := hide h
  have HA := hide ha
  have hB : B < w.heap.size := h.lt
  have c20 := h.ca
  have HP := hide hp
  clear hp
  clear h ha
  go_enter Try.func37, Try.ntmps37
  go_wp2_with fail
  generalize hW : w.alloc _ = W
  have kW : Below w.heap.size w W := by rw [← hW]; exact bel_one _ _
  have hX : Xc.Bx w.heap.size ⟨19, wd, r, b, i, c, n⟩ W := by rw [← hW]; exact Xc.Bx.made _ _
  have GW := hide (H.out.bel kW)
  have WW := hide (H.out.box kW hX.lt)
  obtain ⟨x0, x1, x2, x3, x4, x5, x6⟩ := hX.cells
  have hqW : w.heap.size < W.heap.size := hX.lt
  have hBW : B < W.heap.size := WW.out.lt
  have nqB : ¬ w.heap.size = B := by omega
  have HX := hide hX
  clear hX kW hW H
  simp only at x0 x1 x2 x3 x4 x5 x6
  generalize w.heap.size = q at *
  refine (putK WW.out a 8 m.at_ HA.out).mono ?_
  rintro e w2 ⟨rfl, g2⟩
  rw [HP.out] at g2 ⊢
  simp only [Option.getD_some, Option.isSome_some] at g2 ⊢
  have G2 := hide g2
  clear x0 x1 x2 x3 x4 x5 x6
  clear g2 c20
  have c4 := G2.out.wk.rgc 4 (by decide)
  have f4 := G2.out.wk.fr 4
  go_wp2_with fail
  refine gw (motive := fun x => Code.wp _ _ _ _ x) (fun V => Hid (Goes (fun b => K b ∨ b = q) base B ((m.sg g).sr 4 a) W V)) (G2.out.trans (G2.out.wk.setr 4 (by decide) a HA.out)) ?_
  rintro V GV
  clear c4 f4
  have c20 := GV.out.wk.ca
  rw [show ((m.sg g).sr 4 a).at_ = m.at_ from rfl] at c20
  have f20 := GV.out.wk.fr 20
  obtain ⟨x0, x1, x2, x3, x4, x5, x6⟩ := (GV.out.bx (Or.inr rfl) HX.out).cells
  simp only at x0 x1 x2 x3 x4 x5 x6
  go_region
  all_goals
    go_wp2_with fail
    go_ret
    exact ac_yes HE.out rfl (GW.out.trans ((GV.out.trans ((GV.out.wk.seta _ (i_wrap _)).trans (GV.out.wk.seta _ (i_wrap _)).wk.dr)).mono fun _ => Or.inl))
set_option maxRecDepth 100000 in
set_option maxHeartbeats 6400000 in
theorem access_20n (h : WK K base B m w) (wd : Bool) (r b i c n : Int) (a : Int) (ha : I64 a) (hp : rdM m.g a 8 = none) : Calls Try.prog 37 #[.pointer (some ⟨B, 0, none⟩), .agg #[.int .i64 20, .bool wd, .int .i64 r, .int .i64 b, .int .i64 i, .int .i64 c, .int .i64 n], .int .i64 a] w (AcEnds K base B m (acc m ⟨20, wd, r, b, i, c, n⟩ a) w) := by
  have HE : Hid (acc m ⟨20, wd, r, b, i, c, n⟩ a = none) := by show _ = _; simp [acc, szX, hp]
  generalize acc m ⟨20, wd, r, b, i, c, n⟩ a = O at *
  have H := hide h
  have HA := hide ha
  have hB : B < w.heap.size := h.lt
  have HP := hide hp
  clear hp
  clear h ha
  go_enter Try.func37, Try.ntmps37
  go_wp2_with fail
  generalize hW : w.alloc _ = W
  have kW : Below w.heap.size w W := by rw [← hW]; exact bel_one _ _
  have hX : Xc.Bx w.heap.size ⟨20, wd, r, b, i, c, n⟩ W := by rw [← hW]; exact Xc.Bx.made _ _
  have GW := hide (H.out.bel kW)
  have WW := hide (H.out.box kW hX.lt)
  obtain ⟨x0, x1, x2, x3, x4, x5, x6⟩ := hX.cells
  have hqW : w.heap.size < W.heap.size := hX.lt
  have hBW : B < W.heap.size := WW.out.lt
  have nqB : ¬ w.heap.size = B := by omega
  have HX := hide hX
  clear hX kW hW H
  simp only at x0 x1 x2 x3 x4 x5 x6
  generalize w.heap.size = q at *
  refine (readK WW.out a 8 HA.out).mono ?_
  rintro e w2 ⟨rfl, g2⟩
  rw [HP.out]
  have G2 := hide (WW.out.bel g2)
  clear x0 x1 x2 x3 x4 x5 x6
  clear g2
  go_wp2_with fail
  go_ret
  exact ac_no HE.out rfl (GW.out.trans (G2.out.mono fun _ => Or.inl))
set_option maxRecDepth 100000 in
set_option maxHeartbeats 6400000 in
theorem access_20y (h : WK K base B m w) (wd : Bool) (r b i c n : Int) (a : Int) (ha : I64 a) {v : Int} (hp : rdM m.g a 8 = some v) : Calls Try.prog 37 #[.pointer (some ⟨B, 0, none⟩), .agg #[.int .i64 20, .bool wd, .int .i64 r, .int .i64 b, .int .i64 i, .int .i64 c, .int .i64 n], .int .i64 a] w (AcEnds K base B m (acc m ⟨20, wd, r, b, i, c, n⟩ a) w) := by
  have HE : Hid (acc m ⟨20, wd, r, b, i, c, n⟩ a = some ((m.sa v).sr 4 (wrap64 (a + 8)))) := by show _ = _; simp [acc, szX, hp]
  generalize acc m ⟨20, wd, r, b, i, c, n⟩ a = O at *
  have H := hide h
  have HA := hide ha
  have hB : B < w.heap.size := h.lt
  have IV := hide (rd_i hp)
  have HP := hide hp
  clear hp
  clear h ha
  go_enter Try.func37, Try.ntmps37
  go_wp2_with fail
  generalize hW : w.alloc _ = W
  have kW : Below w.heap.size w W := by rw [← hW]; exact bel_one _ _
  have hX : Xc.Bx w.heap.size ⟨20, wd, r, b, i, c, n⟩ W := by rw [← hW]; exact Xc.Bx.made _ _
  have GW := hide (H.out.bel kW)
  have WW := hide (H.out.box kW hX.lt)
  obtain ⟨x0, x1, x2, x3, x4, x5, x6⟩ := hX.cells
  have hqW : w.heap.size < W.heap.size := hX.lt
  have hBW : B < W.heap.size := WW.out.lt
  have nqB : ¬ w.heap.size = B := by omega
  have HX := hide hX
  clear hX kW hW H
  simp only at x0 x1 x2 x3 x4 x5 x6
  generalize w.heap.size = q at *
  refine (readK WW.out a 8 HA.out).mono ?_
  rintro e w2 ⟨rfl, g2⟩
  rw [HP.out]
  simp only [Option.getD_some, Option.isSome_some]
  have G2 := hide (WW.out.bel g2)
  clear x0 x1 x2 x3 x4 x5 x6
  clear g2
  have c4 := G2.out.wk.rgc 4 (by decide)
  have f4 := G2.out.wk.fr 4
  have c20 := G2.out.wk.ca
  have f20 := G2.out.wk.fr 20
  go_wp2_with fail
  go_region
  all_goals
    go_wp2_with fail
    go_ret
    first
    | exact ac_yes HE.out rfl (GW.out.trans ((G2.out.trans (((G2.out.wk.seta v IV.out).trans ((G2.out.wk.seta v IV.out).wk.setr 4 (by decide) _ (i_wrap _))).trans ((G2.out.wk.seta v IV.out).wk.setr 4 (by decide) _ (i_wrap _)).wk.dr)).mono fun _ => Or.inl))
    | exact ac_yes HE.out rfl (GW.out.trans ((G2.out.trans (((G2.out.wk.setr 4 (by decide) _ (i_wrap _)).trans ((G2.out.wk.setr 4 (by decide) _ (i_wrap _)).wk.seta v IV.out)).trans ((G2.out.wk.setr 4 (by decide) _ (i_wrap _)).wk.seta v IV.out).wk.dr)).mono fun _ => Or.inl))
set_option maxRecDepth 100000 in
set_option maxHeartbeats 6400000 in
theorem access_114n (h : WK K base B m w) (r b i c n : Int) (a : Int) (ha : I64 a) (hp : rdM m.g a 4 = none) : Calls Try.prog 37 #[.pointer (some ⟨B, 0, none⟩), .agg #[.int .i64 11, .bool false, .int .i64 r, .int .i64 b, .int .i64 i, .int .i64 c, .int .i64 n], .int .i64 a] w (AcEnds K base B m (acc m ⟨11, false, r, b, i, c, n⟩ a) w) := by
  have HE : Hid (acc m ⟨11, false, r, b, i, c, n⟩ a = none) := by show _ = _; simp [acc, szX, hp]
  generalize acc m ⟨11, false, r, b, i, c, n⟩ a = O at *
  have H := hide h
  have HA := hide ha
  have hB : B < w.heap.size := h.lt
  have HP := hide hp
  clear hp
  clear h ha
  go_enter Try.func37, Try.ntmps37
  go_wp2_with fail
  generalize hW : w.alloc _ = W
  have kW : Below w.heap.size w W := by rw [← hW]; exact bel_one _ _
  have hX : Xc.Bx w.heap.size ⟨11, false, r, b, i, c, n⟩ W := by rw [← hW]; exact Xc.Bx.made _ _
  have GW := hide (H.out.bel kW)
  have WW := hide (H.out.box kW hX.lt)
  obtain ⟨x0, x1, x2, x3, x4, x5, x6⟩ := hX.cells
  have hqW : w.heap.size < W.heap.size := hX.lt
  have hBW : B < W.heap.size := WW.out.lt
  have nqB : ¬ w.heap.size = B := by omega
  have HX := hide hX
  clear hX kW hW H
  simp only at x0 x1 x2 x3 x4 x5 x6
  generalize w.heap.size = q at *
  refine (size_any _ _ _ _ _ _ _ _).mono ?_
  rintro e w1 ⟨rfl, hb1⟩
  have G1 := hide (WW.out.bel hb1)
  have X1 := hide (HX.out.kept hb1)
  clear x0 x1 x2 x3 x4 x5 x6
  clear hb1
  obtain ⟨x0, x1, x2, x3, x4, x5, x6⟩ := X1.out.cells
  simp only at x0 x1 x2 x3 x4 x5 x6
  go_wp2_with fail
  refine (readK G1.out.wk a 4 HA.out).mono ?_
  rintro e w2 ⟨rfl, g2⟩
  rw [HP.out]
  have G2 := hide (G1.out.to g2)
  clear x0 x1 x2 x3 x4 x5 x6
  clear g2
  go_wp2_with fail
  go_ret
  exact ac_no HE.out rfl (GW.out.trans (G2.out.mono fun _ => Or.inl))
set_option maxRecDepth 100000 in
set_option maxHeartbeats 6400000 in
theorem access_114y (h : WK K base B m w) (r : Nat) (hr : r < 16) (b i c n : Int) (a : Int) (ha : I64 a) {v : Int} (hp : rdM m.g a 4 = some v) : Calls Try.prog 37 #[.pointer (some ⟨B, 0, none⟩), .agg #[.int .i64 11, .bool false, .int .i64 r, .int .i64 b, .int .i64 i, .int .i64 c, .int .i64 n], .int .i64 a] w (AcEnds K base B m (acc m ⟨11, false, r, b, i, c, n⟩ a) w) := by
  have HE : Hid (acc m ⟨11, false, r, b, i, c, n⟩ a = some (m.sr (r : Int) v)) := by show _ = _; simp [acc, szX, hp]
  generalize acc m ⟨11, false, r, b, i, c, n⟩ a = O at *
  have H := hide h
  have HA := hide ha
  have hB : B < w.heap.size := h.lt
  have IV := hide (rd_i hp)
  have HP := hide hp
  clear hp
  clear h ha
  go_enter Try.func37, Try.ntmps37
  go_wp2_with fail
  generalize hW : w.alloc _ = W
  have kW : Below w.heap.size w W := by rw [← hW]; exact bel_one _ _
  have hX : Xc.Bx w.heap.size ⟨11, false, r, b, i, c, n⟩ W := by rw [← hW]; exact Xc.Bx.made _ _
  have GW := hide (H.out.bel kW)
  have WW := hide (H.out.box kW hX.lt)
  obtain ⟨x0, x1, x2, x3, x4, x5, x6⟩ := hX.cells
  have hqW : w.heap.size < W.heap.size := hX.lt
  have hBW : B < W.heap.size := WW.out.lt
  have nqB : ¬ w.heap.size = B := by omega
  have HX := hide hX
  clear hX kW hW H
  simp only at x0 x1 x2 x3 x4 x5 x6
  generalize w.heap.size = q at *
  refine (size_any _ _ _ _ _ _ _ _).mono ?_
  rintro e w1 ⟨rfl, hb1⟩
  have G1 := hide (WW.out.bel hb1)
  have X1 := hide (HX.out.kept hb1)
  clear x0 x1 x2 x3 x4 x5 x6
  clear hb1
  obtain ⟨x0, x1, x2, x3, x4, x5, x6⟩ := X1.out.cells
  simp only at x0 x1 x2 x3 x4 x5 x6
  go_wp2_with fail
  refine (readK G1.out.wk a 4 HA.out).mono ?_
  rintro e w2 ⟨rfl, g2⟩
  rw [HP.out]
  simp only [Option.getD_some, Option.isSome_some]
  have G2 := hide (G1.out.to g2)
  have X2 := hide (X1.out.kept g2)
  clear x0 x1 x2 x3 x4 x5 x6
  clear g2
  obtain ⟨x0, x1, x2, x3, x4, x5, x6⟩ := X2.out.cells
  simp only at x0 x1 x2 x3 x4 x5 x6
  have cr := G2.out.wk.rgc r hr
  have fr := G2.out.wk.fr r
  have r0 : (0 : Int) ≤ (r : Int) := by omega
  have r16 : (r : Int) < 16 := by omega
  go_wp2_with fail
  go_region
  all_goals
    go_wp2_with fail
    go_ret
    exact ac_yes HE.out rfl (GW.out.trans ((G2.out.trans ((G2.out.wk.setr r hr v IV.out).trans (G2.out.wk.setr r hr v IV.out).wk.dr)).mono fun _ => Or.inl))
set_option maxRecDepth 100000 in
set_option maxHeartbeats 6400000 in
theorem access_118n (h : WK K base B m w) (r b i c n : Int) (a : Int) (ha : I64 a) (hp : rdM m.g a 8 = none) : Calls Try.prog 37 #[.pointer (some ⟨B, 0, none⟩), .agg #[.int .i64 11, .bool true, .int .i64 r, .int .i64 b, .int .i64 i, .int .i64 c, .int .i64 n], .int .i64 a] w (AcEnds K base B m (acc m ⟨11, true, r, b, i, c, n⟩ a) w) := by
  have HE : Hid (acc m ⟨11, true, r, b, i, c, n⟩ a = none) := by show _ = _; simp [acc, szX, hp]
  generalize acc m ⟨11, true, r, b, i, c, n⟩ a = O at *
  have H := hide h
  have HA := hide ha
  have hB : B < w.heap.size := h.lt
  have HP := hide hp
  clear hp
  clear h ha
  go_enter Try.func37, Try.ntmps37
  go_wp2_with fail
  generalize hW : w.alloc _ = W
  have kW : Below w.heap.size w W := by rw [← hW]; exact bel_one _ _
  have hX : Xc.Bx w.heap.size ⟨11, true, r, b, i, c, n⟩ W := by rw [← hW]; exact Xc.Bx.made _ _
  have GW := hide (H.out.bel kW)
  have WW := hide (H.out.box kW hX.lt)
  obtain ⟨x0, x1, x2, x3, x4, x5, x6⟩ := hX.cells
  have hqW : w.heap.size < W.heap.size := hX.lt
  have hBW : B < W.heap.size := WW.out.lt
  have nqB : ¬ w.heap.size = B := by omega
  have HX := hide hX
  clear hX kW hW H
  simp only at x0 x1 x2 x3 x4 x5 x6
  generalize w.heap.size = q at *
  refine (size_any _ _ _ _ _ _ _ _).mono ?_
  rintro e w1 ⟨rfl, hb1⟩
  have G1 := hide (WW.out.bel hb1)
  have X1 := hide (HX.out.kept hb1)
  clear x0 x1 x2 x3 x4 x5 x6
  clear hb1
  obtain ⟨x0, x1, x2, x3, x4, x5, x6⟩ := X1.out.cells
  simp only at x0 x1 x2 x3 x4 x5 x6
  go_wp2_with fail
  refine (readK G1.out.wk a 8 HA.out).mono ?_
  rintro e w2 ⟨rfl, g2⟩
  rw [HP.out]
  have G2 := hide (G1.out.to g2)
  clear x0 x1 x2 x3 x4 x5 x6
  clear g2
  go_wp2_with fail
  go_ret
  exact ac_no HE.out rfl (GW.out.trans (G2.out.mono fun _ => Or.inl))
set_option maxRecDepth 100000 in
set_option maxHeartbeats 6400000 in
theorem access_118y (h : WK K base B m w) (r : Nat) (hr : r < 16) (b i c n : Int) (a : Int) (ha : I64 a) {v : Int} (hp : rdM m.g a 8 = some v) : Calls Try.prog 37 #[.pointer (some ⟨B, 0, none⟩), .agg #[.int .i64 11, .bool true, .int .i64 r, .int .i64 b, .int .i64 i, .int .i64 c, .int .i64 n], .int .i64 a] w (AcEnds K base B m (acc m ⟨11, true, r, b, i, c, n⟩ a) w) := by
  have HE : Hid (acc m ⟨11, true, r, b, i, c, n⟩ a = some (m.sr (r : Int) v)) := by show _ = _; simp [acc, szX, hp]
  generalize acc m ⟨11, true, r, b, i, c, n⟩ a = O at *
  have H := hide h
  have HA := hide ha
  have hB : B < w.heap.size := h.lt
  have IV := hide (rd_i hp)
  have HP := hide hp
  clear hp
  clear h ha
  go_enter Try.func37, Try.ntmps37
  go_wp2_with fail
  generalize hW : w.alloc _ = W
  have kW : Below w.heap.size w W := by rw [← hW]; exact bel_one _ _
  have hX : Xc.Bx w.heap.size ⟨11, true, r, b, i, c, n⟩ W := by rw [← hW]; exact Xc.Bx.made _ _
  have GW := hide (H.out.bel kW)
  have WW := hide (H.out.box kW hX.lt)
  obtain ⟨x0, x1, x2, x3, x4, x5, x6⟩ := hX.cells
  have hqW : w.heap.size < W.heap.size := hX.lt
  have hBW : B < W.heap.size := WW.out.lt
  have nqB : ¬ w.heap.size = B := by omega
  have HX := hide hX
  clear hX kW hW H
  simp only at x0 x1 x2 x3 x4 x5 x6
  generalize w.heap.size = q at *
  refine (size_any _ _ _ _ _ _ _ _).mono ?_
  rintro e w1 ⟨rfl, hb1⟩
  have G1 := hide (WW.out.bel hb1)
  have X1 := hide (HX.out.kept hb1)
  clear x0 x1 x2 x3 x4 x5 x6
  clear hb1
  obtain ⟨x0, x1, x2, x3, x4, x5, x6⟩ := X1.out.cells
  simp only at x0 x1 x2 x3 x4 x5 x6
  go_wp2_with fail
  refine (readK G1.out.wk a 8 HA.out).mono ?_
  rintro e w2 ⟨rfl, g2⟩
  rw [HP.out]
  simp only [Option.getD_some, Option.isSome_some]
  have G2 := hide (G1.out.to g2)
  have X2 := hide (X1.out.kept g2)
  clear x0 x1 x2 x3 x4 x5 x6
  clear g2
  obtain ⟨x0, x1, x2, x3, x4, x5, x6⟩ := X2.out.cells
  simp only at x0 x1 x2 x3 x4 x5 x6
  have cr := G2.out.wk.rgc r hr
  have fr := G2.out.wk.fr r
  have r0 : (0 : Int) ≤ (r : Int) := by omega
  have r16 : (r : Int) < 16 := by omega
  go_wp2_with fail
  go_region
  all_goals
    go_wp2_with fail
    go_ret
    exact ac_yes HE.out rfl (GW.out.trans ((G2.out.trans ((G2.out.wk.setr r hr v IV.out).trans (G2.out.wk.setr r hr v IV.out).wk.dr)).mono fun _ => Or.inl))
end
end Go.Proofs.Ytielpebokbolbaa
/-
  The worker's access: what reads or writes memory.
-/
namespace Go.Proofs.Ytielpebokbolbaa
open Go.RowKit
open Xc (hide bel_one bel_tr bel_al bel_set Xi xv)
set_option linter.unusedSimpArgs false
set_option linter.unusedVariables false
section
variable {K : Nat → Prop} {base B : Nat} {m : Mc} {w : World}
set_option maxRecDepth 100000 in
set_option maxHeartbeats 6400000 in
theorem access_124y (h : WK K base B m w) (r : Nat) (hr : r < 16) (b i c n : Int) (a : Int) (ha : I64 a) {g : List Rg} (hp : ptM m.g a 4 (m.rg (r : Int)) = some g) : Calls Try.prog 37 #[.pointer (some ⟨B, 0, none⟩), .agg #[.int .i64 12, .bool false, .int .i64 r, .int .i64 b, .int .i64 i, .int .i64 c, .int .i64 n], .int .i64 a] w (AcEnds K base B m (acc m ⟨12, false, r, b, i, c, n⟩ a) w) := by
  have HE : Hid (acc m ⟨12, false, r, b, i, c, n⟩ a = some (m.sg g)) := by show _ = _; simp [acc, szX, hp]
  generalize acc m ⟨12, false, r, b, i, c, n⟩ a = O at *
  have H := hide h
  have HA := hide ha
  have hB : B < w.heap.size := h.lt
  have HP := hide hp
  clear hp
  clear h ha
  go_enter Try.func37, Try.ntmps37
  go_wp2_with fail
  generalize hW : w.alloc _ = W
  have kW : Below w.heap.size w W := by rw [← hW]; exact bel_one _ _
  have hX : Xc.Bx w.heap.size ⟨12, false, r, b, i, c, n⟩ W := by rw [← hW]; exact Xc.Bx.made _ _
  have GW := hide (H.out.bel kW)
  have WW := hide (H.out.box kW hX.lt)
  obtain ⟨x0, x1, x2, x3, x4, x5, x6⟩ := hX.cells
  have hqW : w.heap.size < W.heap.size := hX.lt
  have hBW : B < W.heap.size := WW.out.lt
  have nqB : ¬ w.heap.size = B := by omega
  have HX := hide hX
  clear hX kW hW H
  simp only at x0 x1 x2 x3 x4 x5 x6
  generalize w.heap.size = q at *
  have cr := WW.out.rgc r hr
  have r0 : (0 : Int) ≤ (r : Int) := by omega
  have r16 : (r : Int) < 16 := by omega
  generalize hvr : m.rg (r : Int) = v at *
  have HVR := hide hvr
  clear hvr
  go_region_held3 (fun X => X.cell? ⟨q, 0, none⟩ = some (.int .i64 12) ∧ X.cell? ⟨q, 1, none⟩ = some (.bool false) ∧ X.cell? ⟨q, 2, none⟩ = some (.int .i64 (r : Int)) ∧ X.cell? ⟨q, 3, none⟩ = some (.int .i64 b) ∧ X.cell? ⟨q, 4, none⟩ = some (.int .i64 i) ∧ X.cell? ⟨q, 5, none⟩ = some (.int .i64 c) ∧ X.cell? ⟨q, 6, none⟩ = some (.int .i64 n) ∧ X.cell? ⟨B, r, none⟩ = some (.int .i64 v)) (go_keep)
    (first | (go_at_call 55; refine (size_any _ _ _ _ _ _ _ _).mono ?_; rintro e w1 ⟨rfl, hb1⟩; have K1 : Below W.heap.size W w1 := bel_tr (bel_d (Below.refl _ _)) hb1; have g1 : WK (fun b => K b ∨ b = q) base B m w1 := (WW.out.bel K1).wk; have G1 := hide (WW.out.bel K1); have X1 := HX.out.kept K1; obtain ⟨u0, u1, u2, u3, u4, u5, u6⟩ := X1.cells; have ur := g1.rgc r hr; rw [HVR.out] at ur; simp only at u0 u1 u2 u3 u4 u5 u6)
           | (go_at_call 24; refine (putK (K := fun b => K b ∨ b = q) (base := base) (m := m) ?hk a 4 v HA.out).mono ?_; (case hk => assumption); rintro e w2 ⟨rfl, g2⟩; rw [HP.out] at g2; rw [HP.out]; simp only [Option.getD_some, Option.getD_none, Option.isSome_some, Option.isSome_none] at g2 ⊢; have X2 := g2.bx (Or.inr rfl) (by assumption); obtain ⟨s0, s1, s2, s3, s4, s5, s6⟩ := X2.cells; simp only at s0 s1 s2 s3 s4 s5 s6; have sr : w2.cell? ⟨B, r, none⟩ = some (.int .i64 v) := by rw [← HVR.out]; exact g2.wk.rgc r hr))
  all_goals
    go_wp2_with fail
    go_ret
    exact ac_yes HE.out rfl (GW.out.trans ((G1.out.trans g2).mono fun _ => Or.inl))
set_option maxRecDepth 100000 in
set_option maxHeartbeats 6400000 in
theorem access_124n (h : WK K base B m w) (r : Nat) (hr : r < 16) (b i c n : Int) (a : Int) (ha : I64 a) (hp : ptM m.g a 4 (m.rg (r : Int)) = none) : Calls Try.prog 37 #[.pointer (some ⟨B, 0, none⟩), .agg #[.int .i64 12, .bool false, .int .i64 r, .int .i64 b, .int .i64 i, .int .i64 c, .int .i64 n], .int .i64 a] w (AcEnds K base B m (acc m ⟨12, false, r, b, i, c, n⟩ a) w) := by
  have HE : Hid (acc m ⟨12, false, r, b, i, c, n⟩ a = none) := by show _ = _; simp [acc, szX, hp]
  generalize acc m ⟨12, false, r, b, i, c, n⟩ a = O at *
  have H := hide h
  have HA := hide ha
  have hB : B < w.heap.size := h.lt
  have HP := hide hp
  clear hp
  clear h ha
  go_enter Try.func37, Try.ntmps37
  go_wp2_with fail
  generalize hW : w.alloc _ = W
  have kW : Below w.heap.size w W := by rw [← hW]; exact bel_one _ _
  have hX : Xc.Bx w.heap.size ⟨12, false, r, b, i, c, n⟩ W := by rw [← hW]; exact Xc.Bx.made _ _
  have GW := hide (H.out.bel kW)
  have WW := hide (H.out.box kW hX.lt)
  obtain ⟨x0, x1, x2, x3, x4, x5, x6⟩ := hX.cells
  have hqW : w.heap.size < W.heap.size := hX.lt
  have hBW : B < W.heap.size := WW.out.lt
  have nqB : ¬ w.heap.size = B := by omega
  have HX := hide hX
  clear hX kW hW H
  simp only at x0 x1 x2 x3 x4 x5 x6
  generalize w.heap.size = q at *
  have cr := WW.out.rgc r hr
  have r0 : (0 : Int) ≤ (r : Int) := by omega
  have r16 : (r : Int) < 16 := by omega
  generalize hvr : m.rg (r : Int) = v at *
  have HVR := hide hvr
  clear hvr
  go_region_held3 (fun X => X.cell? ⟨q, 0, none⟩ = some (.int .i64 12) ∧ X.cell? ⟨q, 1, none⟩ = some (.bool false) ∧ X.cell? ⟨q, 2, none⟩ = some (.int .i64 (r : Int)) ∧ X.cell? ⟨q, 3, none⟩ = some (.int .i64 b) ∧ X.cell? ⟨q, 4, none⟩ = some (.int .i64 i) ∧ X.cell? ⟨q, 5, none⟩ = some (.int .i64 c) ∧ X.cell? ⟨q, 6, none⟩ = some (.int .i64 n) ∧ X.cell? ⟨B, r, none⟩ = some (.int .i64 v)) (go_keep)
    (first | (go_at_call 55; refine (size_any _ _ _ _ _ _ _ _).mono ?_; rintro e w1 ⟨rfl, hb1⟩; have K1 : Below W.heap.size W w1 := bel_tr (bel_d (Below.refl _ _)) hb1; have g1 : WK (fun b => K b ∨ b = q) base B m w1 := (WW.out.bel K1).wk; have G1 := hide (WW.out.bel K1); have X1 := HX.out.kept K1; obtain ⟨u0, u1, u2, u3, u4, u5, u6⟩ := X1.cells; have ur := g1.rgc r hr; rw [HVR.out] at ur; simp only at u0 u1 u2 u3 u4 u5 u6)
           | (go_at_call 24; refine (putK (K := fun b => K b ∨ b = q) (base := base) (m := m) ?hk a 4 v HA.out).mono ?_; (case hk => assumption); rintro e w2 ⟨rfl, g2⟩; rw [HP.out] at g2; rw [HP.out]; simp only [Option.getD_some, Option.getD_none, Option.isSome_some, Option.isSome_none] at g2 ⊢; have X2 := g2.bx (Or.inr rfl) (by assumption); obtain ⟨s0, s1, s2, s3, s4, s5, s6⟩ := X2.cells; simp only at s0 s1 s2 s3 s4 s5 s6; have sr : w2.cell? ⟨B, r, none⟩ = some (.int .i64 v) := by rw [← HVR.out]; exact g2.wk.rgc r hr))
  all_goals
    go_wp2_with fail
    go_ret
    exact ac_no HE.out rfl (GW.out.trans ((G1.out.trans g2).mono fun _ => Or.inl))
set_option maxRecDepth 100000 in
set_option maxHeartbeats 6400000 in
theorem access_128y (h : WK K base B m w) (r : Nat) (hr : r < 16) (b i c n : Int) (a : Int) (ha : I64 a) {g : List Rg} (hp : ptM m.g a 8 (m.rg (r : Int)) = some g) : Calls Try.prog 37 #[.pointer (some ⟨B, 0, none⟩), .agg #[.int .i64 12, .bool true, .int .i64 r, .int .i64 b, .int .i64 i, .int .i64 c, .int .i64 n], .int .i64 a] w (AcEnds K base B m (acc m ⟨12, true, r, b, i, c, n⟩ a) w) := by
  have HE : Hid (acc m ⟨12, true, r, b, i, c, n⟩ a = some (m.sg g)) := by show _ = _; simp [acc, szX, hp]
  generalize acc m ⟨12, true, r, b, i, c, n⟩ a = O at *
  have H := hide h
  have HA := hide ha
  have hB : B < w.heap.size := h.lt
  have HP := hide hp
  clear hp
  clear h ha
  go_enter Try.func37, Try.ntmps37
  go_wp2_with fail
  generalize hW : w.alloc _ = W
  have kW : Below w.heap.size w W := by rw [← hW]; exact bel_one _ _
  have hX : Xc.Bx w.heap.size ⟨12, true, r, b, i, c, n⟩ W := by rw [← hW]; exact Xc.Bx.made _ _
  have GW := hide (H.out.bel kW)
  have WW := hide (H.out.box kW hX.lt)
  obtain ⟨x0, x1, x2, x3, x4, x5, x6⟩ := hX.cells
  have hqW : w.heap.size < W.heap.size := hX.lt
  have hBW : B < W.heap.size := WW.out.lt
  have nqB : ¬ w.heap.size = B := by omega
  have HX := hide hX
  clear hX kW hW H
  simp only at x0 x1 x2 x3 x4 x5 x6
  generalize w.heap.size = q at *
  have cr := WW.out.rgc r hr
  have r0 : (0 : Int) ≤ (r : Int) := by omega
  have r16 : (r : Int) < 16 := by omega
  generalize hvr : m.rg (r : Int) = v at *
  have HVR := hide hvr
  clear hvr
  go_region_held3 (fun X => X.cell? ⟨q, 0, none⟩ = some (.int .i64 12) ∧ X.cell? ⟨q, 1, none⟩ = some (.bool true) ∧ X.cell? ⟨q, 2, none⟩ = some (.int .i64 (r : Int)) ∧ X.cell? ⟨q, 3, none⟩ = some (.int .i64 b) ∧ X.cell? ⟨q, 4, none⟩ = some (.int .i64 i) ∧ X.cell? ⟨q, 5, none⟩ = some (.int .i64 c) ∧ X.cell? ⟨q, 6, none⟩ = some (.int .i64 n) ∧ X.cell? ⟨B, r, none⟩ = some (.int .i64 v)) (go_keep)
    (first | (go_at_call 55; refine (size_any _ _ _ _ _ _ _ _).mono ?_; rintro e w1 ⟨rfl, hb1⟩; have K1 : Below W.heap.size W w1 := bel_tr (bel_d (Below.refl _ _)) hb1; have g1 : WK (fun b => K b ∨ b = q) base B m w1 := (WW.out.bel K1).wk; have G1 := hide (WW.out.bel K1); have X1 := HX.out.kept K1; obtain ⟨u0, u1, u2, u3, u4, u5, u6⟩ := X1.cells; have ur := g1.rgc r hr; rw [HVR.out] at ur; simp only at u0 u1 u2 u3 u4 u5 u6)
           | (go_at_call 24; refine (putK (K := fun b => K b ∨ b = q) (base := base) (m := m) ?hk a 8 v HA.out).mono ?_; (case hk => assumption); rintro e w2 ⟨rfl, g2⟩; rw [HP.out] at g2; rw [HP.out]; simp only [Option.getD_some, Option.getD_none, Option.isSome_some, Option.isSome_none] at g2 ⊢; have X2 := g2.bx (Or.inr rfl) (by assumption); obtain ⟨s0, s1, s2, s3, s4, s5, s6⟩ := X2.cells; simp only at s0 s1 s2 s3 s4 s5 s6; have sr : w2.cell? ⟨B, r, none⟩ = some (.int .i64 v) := by rw [← HVR.out]; exact g2.wk.rgc r hr))
  all_goals
    go_wp2_with fail
    go_ret
    exact ac_yes HE.out rfl (GW.out.trans ((G1.out.trans g2).mono fun _ => Or.inl))
set_option maxRecDepth 100000 in
set_option maxHeartbeats 6400000 in
theorem access_128n (h : WK K base B m w) (r : Nat) (hr : r < 16) (b i c n : Int) (a : Int) (ha : I64 a) (hp : ptM m.g a 8 (m.rg (r : Int)) = none) : Calls Try.prog 37 #[.pointer (some ⟨B, 0, none⟩), .agg #[.int .i64 12, .bool true, .int .i64 r, .int .i64 b, .int .i64 i, .int .i64 c, .int .i64 n], .int .i64 a] w (AcEnds K base B m (acc m ⟨12, true, r, b, i, c, n⟩ a) w) := by
  have HE : Hid (acc m ⟨12, true, r, b, i, c, n⟩ a = none) := by show _ = _; simp [acc, szX, hp]
  generalize acc m ⟨12, true, r, b, i, c, n⟩ a = O at *
  have H := hide h
  have HA := hide ha
  have hB : B < w.heap.size := h.lt
  have HP := hide hp
  clear hp
  clear h ha
  go_enter Try.func37, Try.ntmps37
  go_wp2_with fail
  generalize hW : w.alloc _ = W
  have kW : Below w.heap.size w W := by rw [← hW]; exact bel_one _ _
  have hX : Xc.Bx w.heap.size ⟨12, true, r, b, i, c, n⟩ W := by rw [← hW]; exact Xc.Bx.made _ _
  have GW := hide (H.out.bel kW)
  have WW := hide (H.out.box kW hX.lt)
  obtain ⟨x0, x1, x2, x3, x4, x5, x6⟩ := hX.cells
  have hqW : w.heap.size < W.heap.size := hX.lt
  have hBW : B < W.heap.size := WW.out.lt
  have nqB : ¬ w.heap.size = B := by omega
  have HX := hide hX
  clear hX kW hW H
  simp only at x0 x1 x2 x3 x4 x5 x6
  generalize w.heap.size = q at *
  have cr := WW.out.rgc r hr
  have r0 : (0 : Int) ≤ (r : Int) := by omega
  have r16 : (r : Int) < 16 := by omega
  generalize hvr : m.rg (r : Int) = v at *
  have HVR := hide hvr
  clear hvr
  go_region_held3 (fun X => X.cell? ⟨q, 0, none⟩ = some (.int .i64 12) ∧ X.cell? ⟨q, 1, none⟩ = some (.bool true) ∧ X.cell? ⟨q, 2, none⟩ = some (.int .i64 (r : Int)) ∧ X.cell? ⟨q, 3, none⟩ = some (.int .i64 b) ∧ X.cell? ⟨q, 4, none⟩ = some (.int .i64 i) ∧ X.cell? ⟨q, 5, none⟩ = some (.int .i64 c) ∧ X.cell? ⟨q, 6, none⟩ = some (.int .i64 n) ∧ X.cell? ⟨B, r, none⟩ = some (.int .i64 v)) (go_keep)
    (first | (go_at_call 55; refine (size_any _ _ _ _ _ _ _ _).mono ?_; rintro e w1 ⟨rfl, hb1⟩; have K1 : Below W.heap.size W w1 := bel_tr (bel_d (Below.refl _ _)) hb1; have g1 : WK (fun b => K b ∨ b = q) base B m w1 := (WW.out.bel K1).wk; have G1 := hide (WW.out.bel K1); have X1 := HX.out.kept K1; obtain ⟨u0, u1, u2, u3, u4, u5, u6⟩ := X1.cells; have ur := g1.rgc r hr; rw [HVR.out] at ur; simp only at u0 u1 u2 u3 u4 u5 u6)
           | (go_at_call 24; refine (putK (K := fun b => K b ∨ b = q) (base := base) (m := m) ?hk a 8 v HA.out).mono ?_; (case hk => assumption); rintro e w2 ⟨rfl, g2⟩; rw [HP.out] at g2; rw [HP.out]; simp only [Option.getD_some, Option.getD_none, Option.isSome_some, Option.isSome_none] at g2 ⊢; have X2 := g2.bx (Or.inr rfl) (by assumption); obtain ⟨s0, s1, s2, s3, s4, s5, s6⟩ := X2.cells; simp only at s0 s1 s2 s3 s4 s5 s6; have sr : w2.cell? ⟨B, r, none⟩ = some (.int .i64 v) := by rw [← HVR.out]; exact g2.wk.rgc r hr))
  all_goals
    go_wp2_with fail
    go_ret
    exact ac_no HE.out rfl (GW.out.trans ((G1.out.trans g2).mono fun _ => Or.inl))
end
end Go.Proofs.Ytielpebokbolbaa
/-
  The worker's fetch: the instruction at which the machine stands.
-/
namespace Go.Proofs.Ytielpebokbolbaa
open Go.RowKit
open Xc (hide bel_one bel_tr bel_al bel_set Xi xv xc)
set_option linter.unusedSimpArgs false
set_option linter.unusedVariables false
def FtEnds (m : Mc) (w : World) (e : Ending) (w' : World) : Prop := Below w.heap.size w w' ∧ ((∃ x, fet m = some x ∧ e = .returned (.tuple #[xv x, .int .i64 ((Xc.enc x).length : Int), .bool true])) ∨ (fet m = none ∧ ∃ x n, e = .returned (.tuple #[xv x, .int .i64 n, .bool false])))
section
variable {base B : Nat} {ra oa : Option Addr} {rc : Nat} {ss : Nat → ByteArray} {os : Nat → Option (Nat × Nat)} {m : Mc} {w w' : World}
theorem fet_no (h : fnd m.g true m.at_ 1 = none) : fet m = none := by simp [fet, h]
theorem fet_at {i : Nat} (h : fnd m.g true m.at_ 1 = some i) (hi : i < m.g.length) : fet m = Xc.dcX (m.g[i].by_.drop (m.at_ - m.g[i].at_).toNat) := by simp [fet, h, hi]
theorem fa_no (h : fnd m.g true m.at_ 1 = none) : FA m.g true m.at_ 1 = (0, 0, false) := by simp [FA, h]
theorem fa_at {i : Nat} (h : fnd m.g true m.at_ 1 = some i) (hi : i < m.g.length) : FA m.g true m.at_ 1 = (i, m.at_ - m.g[i].at_, true) := by simp [FA, h, hi]
theorem dec_yes {t : ByteArray} {x : Xi} (h : Xc.dcX t.data.toList = some x) (U : World) : Calls Try.prog 54 #[.string t] U fun e w' => e = .returned (.tuple #[xv x, .int .i64 ((Xc.enc x).length : Int), .int .i64 0]) ∧ Below U.heap.size U w' := by
  have := Xc.decode_any t U
  unfold Xc.DcIs Xc.dX Xc.dN Xc.dE at this
  rw [h] at this
  exact this
theorem dec_no {t : ByteArray} (h : Xc.dcX t.data.toList = none) (U : World) : Calls Try.prog 54 #[.string t] U fun e w' => e = .returned (.tuple #[xv Xc.x0, .int .i64 0, .int .i64 6]) ∧ Below U.heap.size U w' := by
  have := Xc.decode_any t U
  unfold Xc.DcIs Xc.dX Xc.dN Xc.dE at this
  rw [h] at this
  exact this
set_option maxHeartbeats 3200000 in
theorem fetch_no (hJ : WJ base B ra oa rc ss os m w) (hf : fnd m.g true m.at_ 1 = none) : Calls Try.prog 35 #[.pointer (some ⟨B, 0, none⟩)] w (FtEnds m w) := by
  have E := hide (fet_no hf)
  have E2 := hide (fa_no hf)
  clear hf
  have hB : B < w.heap.size := hJ.row.lt
  have HJ := hide hJ
  go_enter Try.func35, Try.ntmps35
  go_wp2_with fail
  generalize hW : w.alloc _ = W
  have kW : Below w.heap.size w W := by rw [← hW]; exact bel_one _ _
  have hX : Xc.Bx w.heap.size ⟨0, false, 0, 0, 0, 0, 0⟩ W := by rw [← hW]; exact Xc.Bx.made _ _
  have JW := hide (HJ.out.bel kW)
  have HKW := hide kW
  have HX := hide hX
  have hqW : w.heap.size < W.heap.size := hX.lt
  have hBW : B < W.heap.size := JW.out.row.lt
  have c20 := JW.out.ca
  have c21 := JW.out.cg
  clear hW HJ hJ hX kW
  have F := hide (fun U (k : Below W.heap.size W U) => find_rs ra rc m.g ss true m.at_ 1 U JW.out.ok.2.2.1 (by omega) JW.out.sm (JW.out.bel k).mem.rs)
  unfold FndIs at F
  rw [E2.out] at F
  go_region_with (go_at_call 31; refine (F.out _ ?hx).mono ?_; (case hx => exact bel_d (Below.refl _ _)); rintro e w1 ⟨rfl, hb1⟩)
  all_goals
    have K1 := hide (bel_tr (bel_d (Below.refl _ W)) hb1)
    have X1 := hide (HX.out.kept K1.out)
    have J1 := hide (JW.out.bel K1.out)
    have B1 := hide (bel_tr HKW.out K1.out)
    have H0 : w1.heap[w.heap.size]? = some (.cells (xc ⟨0, false, 0, 0, 0, 0, 0⟩) 49) := X1.out
    have f0 := X1.out.fr 0
    have f1 := X1.out.fr 1
    have f2 := X1.out.fr 2
    have f3 := X1.out.fr 3
    have f4 := X1.out.fr 4
    have f5 := X1.out.fr 5
    have f6 := X1.out.fr 6
    obtain ⟨x0, x1, x2, x3, x4, x5, x6⟩ := X1.out.cells
    simp only at x0 x1 x2 x3 x4 x5 x6
    have HR : Hid (Xc.RowX w.heap.size (xc ⟨0, false, 0, 0, 0, 0, 0⟩) w1) := H0
    clear H0 hb1 F c20 c21 hqW hBW
    go_wp2_with fail
    refine bodyPost_ret (Xc.results_3 rfl _ _ w.heap.size ⟨0, false, 0, 0, 0, 0, 0⟩ rfl (Xc.RowX.of (((((((HR.out.set 0 _).set 1 _).set 2 _).set 3 _).set 4 _).set 5 _).set 6 _) rfl)) rfl ?_
    exact ⟨bel_set (bel_set (bel_set (bel_set (bel_set (bel_set (bel_set B1.out (Nat.le_refl _) _ _) (Nat.le_refl _) _ _) (Nat.le_refl _) _ _) (Nat.le_refl _) _ _) (Nat.le_refl _) _ _) (Nat.le_refl _) _ _) (Nat.le_refl _) _ _, Or.inr ⟨E.out, _, _, rfl⟩⟩
set_option maxHeartbeats 6400000 in
theorem fetch_go (hJ : WJ base B ra oa rc ss os m w) {i : Nat} (hf : fnd m.g true m.at_ 1 = some i) (hi : i < m.g.length) (p : Nat) (hp : m.at_ - m.g[i].at_ = (p : Int)) (hpl : p ≤ (ss i).size) (op : Int) (wd : Bool) (r b i' c n nn kk : Int) (q : Bool) (hk : (kk == 0) = q)
    (hD : ∀ U, Calls Try.prog 54 #[.string ((ss i).extract p (ss i).size)] U fun e w' => e = .returned (.tuple #[.agg #[.int .i64 op, .bool wd, .int .i64 r, .int .i64 b, .int .i64 i', .int .i64 c, .int .i64 n], .int .i64 nn, .int .i64 kk]) ∧ Below U.heap.size U w') :
    Calls Try.prog 35 #[.pointer (some ⟨B, 0, none⟩)] w fun e w' => e = .returned (.tuple #[xv ⟨op, wd, r, b, i', c, n⟩, .int .i64 nn, .bool q]) ∧ Below w.heap.size w w' := by
  have E2 := fa_at hf hi
  rw [hp] at E2
  have HE2 := hide E2
  have DD := hide hD
  obtain ⟨rb, ob, rfl, rfl, hN⟩ := hJ.mem.at_ hi
  have HRB := hide (fun U (k : Below w.heap.size w U) => ((hN.of k.size fun b _ hb => k.block b hb).rl i hi).2.1)
  have hsm := hJ.sm
  clear hf hp E2 hD hN
  generalize ss i = str at *
  have hB : B < w.heap.size := hJ.row.lt
  have HJ := hide hJ
  go_enter Try.func35, Try.ntmps35
  go_wp2_with fail
  generalize hW : w.alloc _ = W
  have kW : Below w.heap.size w W := by rw [← hW]; exact bel_one _ _
  have hX : Xc.Bx w.heap.size ⟨0, false, 0, 0, 0, 0, 0⟩ W := by rw [← hW]; exact Xc.Bx.made _ _
  have JW := hide (HJ.out.bel kW)
  have HKW := hide kW
  have HX := hide hX
  have hqW : w.heap.size < W.heap.size := hX.lt
  have hBW : B < W.heap.size := JW.out.row.lt
  have c20 := JW.out.ca
  have c21 := JW.out.cg
  clear hW HJ hJ hX kW
  have F := hide (fun U (k : Below W.heap.size W U) => find_rs (some ⟨rb, 0, none⟩) rc m.g ss true m.at_ 1 U JW.out.ok.2.2.1 (by omega) JW.out.sm (JW.out.bel k).mem.rs)
  unfold FndIs at F
  rw [HE2.out] at F
  clear HE2
  go_region_with (go_at_call 31; refine (F.out _ ?hx).mono ?_; (case hx => exact bel_d (Below.refl _ _)); rintro e w1 ⟨rfl, hb1⟩)
  all_goals
    have K1 := hide (bel_tr (bel_d (Below.refl _ W)) hb1)
    have X1 := hide (HX.out.kept K1.out)
    have J1 := hide (JW.out.bel K1.out)
    have B1 := hide (bel_tr HKW.out K1.out)
    have c21 := J1.out.cg
    have cs := HRB.out w1 B1.out
    rw [Nat.zero_add] at cs
    have B1' : B < w1.heap.size := J1.out.row.lt
    clear hb1 F c20 hqW hBW
    go_wp2_with fail
    refine (DD.out _).mono ?_
    rintro e w2 ⟨rfl, hb2⟩
    have X2 := hide (X1.out.kept hb2)
    have B2 := hide (bel_tr B1.out hb2)
    have f0 := X2.out.fr 0
    have f1 := X2.out.fr 1
    have f2 := X2.out.fr 2
    have f3 := X2.out.fr 3
    have f4 := X2.out.fr 4
    have f5 := X2.out.fr 5
    have f6 := X2.out.fr 6
    obtain ⟨x0, x1, x2, x3, x4, x5, x6⟩ := X2.out.cells
    simp only at x0 x1 x2 x3 x4 x5 x6
    have HR : Hid (Xc.RowX w.heap.size (xc ⟨0, false, 0, 0, 0, 0, 0⟩) w2) := X2.out
    clear hb2 DD c21 cs hpl hsm B1'
    go_upto_region 5 with fail
    refine gw (motive := fun x => Code.wp _ _ _ _ x) (fun V => Hid (Xc.RowX w.heap.size (xc ⟨op, wd, r, b, i', c, n⟩) V) ∧ Hid (Below w.heap.size w V)) ⟨Xc.RowX.of (((((((HR.out.set 0 _).set 1 _).set 2 _).set 3 _).set 4 _).set 5 _).set 6 _) rfl, bel_set (bel_set (bel_set (bel_set (bel_set (bel_set (bel_set B2.out (Nat.le_refl _) _ _) (Nat.le_refl _) _ _) (Nat.le_refl _) _ _) (Nat.le_refl _) _ _) (Nat.le_refl _) _ _) (Nat.le_refl _) _ _) (Nat.le_refl _) _ _⟩ ?_
    rintro V ⟨RV, BV⟩
    clear x0 x1 x2 x3 x4 x5 x6 f0 f1 f2 f3 f4 f5 f6 HR B2 X2
    have f0 := RV.out.fr 0
    have f1 := RV.out.fr 1
    have f2 := RV.out.fr 2
    have f3 := RV.out.fr 3
    have f4 := RV.out.fr 4
    have f5 := RV.out.fr 5
    have f6 := RV.out.fr 6
    have x0 := RV.out.cell 0 (.int .i64 op) rfl
    have x1 := RV.out.cell 1 (.bool wd) rfl
    have x2 := RV.out.cell 2 (.int .i64 r) rfl
    have x3 := RV.out.cell 3 (.int .i64 b) rfl
    have x4 := RV.out.cell 4 (.int .i64 i') rfl
    have x5 := RV.out.cell 5 (.int .i64 c) rfl
    have x6 := RV.out.cell 6 (.int .i64 n) rfl
    go_wp2_with fail
    refine bodyPost_ret (Xc.results_3 rfl _ _ w.heap.size ⟨op, wd, r, b, i', c, n⟩ rfl (Xc.RowX.of (((((((RV.out.set 0 _).set 1 _).set 2 _).set 3 _).set 4 _).set 5 _).set 6 _) rfl)) rfl ?_
    exact ⟨rfl, bel_set (bel_set (bel_set (bel_set (bel_set (bel_set (bel_set BV.out (Nat.le_refl _) _ _) (Nat.le_refl _) _ _) (Nat.le_refl _) _ _) (Nat.le_refl _) _ _) (Nat.le_refl _) _ _) (Nat.le_refl _) _ _) (Nat.le_refl _) _ _⟩
theorem fetch_any (hJ : WX base B m w) : Calls Try.prog 35 #[.pointer (some ⟨B, 0, none⟩)] w (FtEnds m w) := by
  obtain ⟨ra, oa, rc, ss, os, hJ⟩ := hJ
  cases hf : fnd m.g true m.at_ 1 with
  | none => exact fetch_no hJ hf
  | some i =>
    obtain ⟨hi, hc, hw⟩ := fnd_some hf
    have h1 := wn_iff.1 hw
    obtain ⟨p, hp⟩ : ∃ p : Nat, m.at_ - m.g[i].at_ = (p : Int) := ⟨(m.at_ - m.g[i].at_).toNat, by omega⟩
    obtain ⟨rb, ob, _, _, hN⟩ := hJ.mem.at_ hi
    have hs : (ss i).data.toList = m.g[i].by_ := hN.no i hi (hN.cd i hi hc)
    have hl := str_len (ss i)
    rw [hs] at hl
    have E0 := fet_at hf hi
    have ed : ((ss i).extract p (ss i).size).data.toList = m.g[i].by_.drop (m.at_ - m.g[i].at_).toNat := by rw [ext_list, hs, hp]; rfl
    rw [← ed] at E0
    cases hd : Xc.dcX ((ss i).extract p (ss i).size).data.toList with
    | none =>
      rw [hd] at E0
      refine (fetch_go hJ hf hi p hp (by omega) 0 false 0 0 0 0 0 0 6 false rfl (fun U => dec_no hd U)).mono ?_
      rintro e w' ⟨rfl, hb⟩
      exact ⟨hb, Or.inr ⟨E0, _, _, rfl⟩⟩
    | some x =>
      rw [hd] at E0
      refine (fetch_go hJ hf hi p hp (by omega) x.op x.wide x.r x.b x.i x.c x.n _ 0 true rfl (fun U => dec_yes hd U)).mono ?_
      rintro e w' ⟨rfl, hb⟩
      exact ⟨hb, Or.inl ⟨x, E0, rfl⟩⟩
end
end Go.Proofs.Ytielpebokbolbaa
/-
  The worker's address and access, of any instruction that may be; a step's own boxes.
-/
namespace Go.Proofs.Ytielpebokbolbaa
open Go.RowKit
open Xc (hide bel_one bel_tr bel_al bel_set Xi xv xc)
set_option linter.unusedSimpArgs false
set_option linter.unusedVariables false
def mmK (op : Int) : Prop := op = 11 ∨ op = 12 ∨ op = 19 ∨ op = 20
section
variable {K : Nat → Prop} {base B : Nat} {m : Mc} {w : World}
theorem i_adr (h : m.ok) (x : Xi) : I64 (adr m x) := i_if (i_wrap _) (i_if (i_rg h 4) (i_if (i_wrap _) (i_wrap _)))
theorem addressK (h : WK K base B m w) (x : Xi) (hx : Xc.rt x = true) (ho : mmK x.op) : Calls Try.prog 36 #[.pointer (some ⟨B, 0, none⟩), xv x] w fun e w' => e = .returned (.int .i64 (adr m x)) ∧ Below w.heap.size w w' := by
  obtain ⟨ra, oa, rc, ss, os, hJ, _, _⟩ := h
  revert ho
  have key : ∀ (op : Int) (wd : Bool) (r b i n : Int), ¬ op = 19 → ¬ op = 20 → (0 ≤ b ∧ b ≤ 15) → (0 ≤ i ∧ i ≤ 16 ∧ i ≠ 5) → AdIs B m ⟨op, wd, r, b, i, 0, n⟩ w := fun op wd r b i n h1 h2 hb hi => by
    obtain ⟨bk, rfl, hb'⟩ := nat_of hb
    by_cases h0 : i = 0
    · subst h0; exact waddr_0 hJ op h1 h2 wd r 0 n bk hb'
    · obtain ⟨ik, rfl⟩ : ∃ ik : Nat, i = (ik : Int) + 1 := ⟨(i - 1).toNat, by omega⟩
      exact waddr_1 hJ op h1 h2 wd r 0 n bk ik hb' (by omega)
  have no : ∀ {op : Int}, ¬ mmK op → mmK op → AdIs B m x w := fun h h' => absurd h' h
  refine Xc.rt_elim (P := fun x => mmK x.op → AdIs B m x w) hx ?mov ?movi ?alu ?alui ?test ?mul ?shift ?div ?idiv ?sign ?load ?store ?set ?byte ?cmov ?widen ?jmp ?jcc ?call ?ret ?hlt ?stop ?host
  case load => exact fun wd r b i n h1 h2 h3 hs _ => key 11 wd r b i n (by decide) (by decide) h2 h3
  case store => exact fun wd r b i n h1 h2 h3 hs _ => key 12 wd r b i n (by decide) (by decide) h2 h3
  case call => exact fun n hs _ => waddr_19 hJ false 0 0 0 0 n
  case ret => exact fun _ => waddr_20 hJ false 0 0 0 0 0
  all_goals intros; exfalso; rename_i h; revert h; simp [mmK]
theorem accessK (h : WK K base B m w) (x : Xi) (hx : Xc.rt x = true) (ho : mmK x.op) (a : Int) (ha : I64 a) : Calls Try.prog 37 #[.pointer (some ⟨B, 0, none⟩), xv x, .int .i64 a] w (AcEnds K base B m (acc m x a) w) := by
  revert ho
  refine Xc.rt_elim (P := fun x => mmK x.op → Calls Try.prog 37 #[.pointer (some ⟨B, 0, none⟩), xv x, .int .i64 a] w (AcEnds K base B m (acc m x a) w)) hx ?mov ?movi ?alu ?alui ?test ?mul ?shift ?div ?idiv ?sign ?load ?store ?set ?byte ?cmov ?widen ?jmp ?jcc ?call ?ret ?hlt ?stop ?host
  case load =>
    intro wd r b i n h1 h2 h3 hs _
    obtain ⟨rk, rfl, hr⟩ := nat_of h1
    cases wd
    · cases hp : rdM m.g a 4 with
      | none => exact access_114n h rk b i 0 n a ha hp
      | some v => exact access_114y h rk hr b i 0 n a ha hp
    · cases hp : rdM m.g a 8 with
      | none => exact access_118n h rk b i 0 n a ha hp
      | some v => exact access_118y h rk hr b i 0 n a ha hp
  case store =>
    intro wd r b i n h1 h2 h3 hs _
    obtain ⟨rk, rfl, hr⟩ := nat_of h1
    cases wd
    · cases hp : ptM m.g a 4 (m.rg (rk : Int)) with
      | none => exact access_124n h rk hr b i 0 n a ha hp
      | some g => exact access_124y h rk hr b i 0 n a ha hp
    · cases hp : ptM m.g a 8 (m.rg (rk : Int)) with
      | none => exact access_128n h rk hr b i 0 n a ha hp
      | some g => exact access_128y h rk hr b i 0 n a ha hp
  case call =>
    intro n hs _
    cases hp : ptM m.g a 8 m.at_ with
    | none => exact access_19n h false 0 0 0 0 n a ha hp
    | some g => exact access_19y h false 0 0 0 0 n a ha hp
  case ret =>
    intro _
    cases hp : rdM m.g a 8 with
    | none => exact access_20n h false 0 0 0 0 0 a ha hp
    | some v => exact access_20y h false 0 0 0 0 0 a ha hp
  all_goals intros; exfalso; rename_i h; revert h; simp [mmK]
theorem holdsK (h : WK K base B m w) (x : Xi) : Calls Try.prog 40 #[.pointer (some ⟨B, 0, none⟩), xv x] w fun e w' => e = .returned (.bool (m.hd x.c)) ∧ Below w.heap.size w w' := by
  obtain ⟨ra, oa, rc, ss, os, hJ, _, _⟩ := h
  exact whold_any hJ x.op x.wide x.r x.b x.i x.c x.n
end
/-- A leak, as a value; in a box. -/
def lkc (l : Lk) : Array Value := #[.int .i64 l.at_, .int .i64 l.ad, .int .i64 l.nm, .int .i64 l.dn]
def lkv (l : Lk) : Value := .agg (lkc l)
def Lb (g : Nat) (l : Lk) (w : World) : Prop := w.heap[g]? = some (.cells (lkc l) 52)
section
variable {g : Nat} {l : Lk} {w w' : World}
theorem Lb.lt (h : Lb g l w) : g < w.heap.size := by
  rcases Nat.lt_or_ge g w.heap.size with h' | h'
  · exact h'
  · simp [Lb, Array.getElem?_eq_none h'] at h
theorem Lb.of (h : Lb g l w) (e : w'.heap[g]? = w.heap[g]?) : Lb g l w' := by unfold Lb at *; rw [e]; exact h
theorem Lb.fr (h : Lb g l w) (k : Nat) : w.frozen? ⟨g, k, none⟩ = false := by simp only [Lb] at h; simp [World.frozen?, h]
theorem Lb.cells (h : Lb g l w) : w.cell? ⟨g, 0, none⟩ = some (.int .i64 l.at_) ∧ w.cell? ⟨g, 1, none⟩ = some (.int .i64 l.ad) ∧ w.cell? ⟨g, 2, none⟩ = some (.int .i64 l.nm) ∧ w.cell? ⟨g, 3, none⟩ = some (.int .i64 l.dn) := by
  simp only [Lb] at h; simp [World.cell?, h, lkc]
theorem Lb.set0 (h : Lb g l w) (v : Int) : Lb g { l with at_ := v } (w.setCell ⟨g, 0, none⟩ (.int .i64 v)) := by
  unfold Lb at *; simp [World.setCell, Array.getElem?_modify, h, lkc]
theorem Lb.set1 (h : Lb g l w) (v : Int) : Lb g { l with ad := v } (w.setCell ⟨g, 1, none⟩ (.int .i64 v)) := by
  unfold Lb at *; simp [World.setCell, Array.getElem?_modify, h, lkc]
theorem Lb.set2 (h : Lb g l w) (v : Int) : Lb g { l with nm := v } (w.setCell ⟨g, 2, none⟩ (.int .i64 v)) := by
  unfold Lb at *; simp [World.setCell, Array.getElem?_modify, h, lkc]
theorem Lb.set3 (h : Lb g l w) (v : Int) : Lb g { l with dn := v } (w.setCell ⟨g, 3, none⟩ (.int .i64 v)) := by
  unfold Lb at *; simp [World.setCell, Array.getElem?_modify, h, lkc]
theorem results_l {fn : Func} {p : Tmp} (h : fn.results = #[.cell p 52]) (tmps : Array Value) (w : World) (g : Nat) (l : Lk) (hp : tmps.getD p undef = .pointer (some ⟨g, 0, none⟩)) (hb : Lb g l w) :
    (results fn tmps).run Try.prog w = .ok (lkv l) w := by
  have hl := run_loadVar_row (P := Try.prog) w g 52 52 _ _ _ hb Try.underlying52 rfl (by kernel_rfl)
  have hp' : tmps[p]?.getD undef = .pointer (some ⟨g, 0, none⟩) := by simpa using hp
  simp [results, h, hp', asAddr, hl, lkv, lkc]
end
section
variable {K : Nat → Prop} {base B rb ob : Nat} {ra oa : Option Addr} {rc : Nat} {ss : Nat → ByteArray} {os : Nat → Option (Nat × Nat)} {m m' : Mc} {w w' V V' : World}
theorem Wn.of2 {g : List Rg} (h : Wn base B rb ob g ss os w) (hs : w.heap.size ≤ w'.heap.size) (e1 : w'.heap[rb]? = w.heap[rb]?) (e2 : w'.heap[ob]? = w.heap[ob]?) (e : ∀ i q c, i < g.length → os i = some (q, c) → w'.heap[q]? = w.heap[q]?) : Wn base B rb ob g ss os w' := by
  refine ⟨h.b1, h.b2, Nat.lt_of_lt_of_le h.l1 hs, Nat.lt_of_lt_of_le h.l2 hs, h.n1, h.n2, h.n3, h.rl.of e1, fun j => frz_of e1 j (h.rf j), fun j => frz_of e2 j (h.of' j), fun i hi => ?_, h.no, h.cd, fun i hi q c hq => ?_, h.cp, h.ap⟩
  · rw [World.cell?_of_block (w := w) e2]; exact h.oc i hi
  · obtain ⟨a1, a2, a3, a4, a5, a6⟩ := h.ow i hi q c hq
    exact ⟨a1, a2, a3, a4, a5.of (e i q c hi hq) hs, a6⟩
/-- A cell of one of K's blocks was written. -/
theorem WK.poke {q : Nat} (h : WK K base B m w) (hq : K q) (k : Nat) (v : Value) : WK K base B m (w.setCell ⟨q, k, none⟩ v) := by
  obtain ⟨ra, oa, rc, ss, os, hJ, ha, hb⟩ := h
  have e : ∀ b, b ≠ q → (w.setCell ⟨q, k, none⟩ v).heap[b]? = w.heap[b]? := fun b hn => Below.heap_setCell w ⟨q, k, none⟩ v b hn
  have hs : w.heap.size ≤ (w.setCell ⟨q, k, none⟩ v).heap.size := by simp [World.setCell]
  have hq' := ha q hq
  refine ⟨ra, oa, rc, ss, os, ⟨?_, hJ.le, ?_, hJ.ok, hJ.sm⟩, ha, fun b hb' => Nat.lt_of_lt_of_le (hb b hb') hs⟩
  · have := hJ.row
    unfold RowW at *; rw [e B (Ne.symm hq'.1)]; exact this
  · rcases hJ.mem with h0 | ⟨rb, ob, e1, e2, hN⟩
    · exact Or.inl h0
    · by_cases hn : 0 < m.g.length
      · exact Or.inr ⟨rb, ob, e1, e2, hN.of2 hs (e rb (hq'.2.1 hn _ e1)) (e ob (hq'.2.2.1 hn _ e2)) fun i q' c hi ho => e q' (hq'.2.2.2 i q' c hi ho)⟩
      · exact Or.inl (List.length_eq_zero_iff.1 (by omega))
/-- What stands while a step is made: its result's box, its leak's, its instruction's. -/
structure SS (K : Nat → Prop) (base B q0 q1 q2 : Nat) (m : Mc) (l : Lk) (x : Xi) (w V : World) : Prop where
  go : Goes K base B m w V
  wk : WK (fun b => ((K b ∨ b = q0) ∨ b = q1) ∨ b = q2) base B m V
  l0 : ∃ z, Lb q0 z V
  l1 : Lb q1 l V
  bx : Xc.Bx q2 x V
  n01 : q0 ≠ q1
  n02 : q0 ≠ q2
  n12 : q1 ≠ q2
  nk : ∀ b, K b → b ≠ q0 ∧ b ≠ q1
  b0 : base ≤ q0
  b1 : base ≤ q1
variable {q0 q1 q2 : Nat} {l : Lk} {x : Xi}
theorem SS.call (h : SS K base B q0 q1 q2 m l x w V) (g : Goes (fun b => ((K b ∨ b = q0) ∨ b = q1) ∨ b = q2) base B m' V V') : SS K base B q0 q1 q2 m' l x w V' := by
  obtain ⟨z, hz⟩ := h.l0
  exact ⟨h.go.trans (g.mono fun b hb => Or.inl (Or.inl (Or.inl hb))), g.wk, ⟨z, hz.of (g.kk q0 (Or.inl (Or.inl (Or.inr rfl))))⟩, h.l1.of (g.kk q1 (Or.inl (Or.inr rfl))), g.bx (Or.inr rfl) h.bx, h.n01, h.n02, h.n12, h.nk, h.b0, h.b1⟩
theorem SS.bel (h : SS K base B q0 q1 q2 m l x w V) (k : Below V.heap.size V V') : SS K base B q0 q1 q2 m l x w V' := h.call (h.wk.bel k)
theorem SS.poke1 {l' : Lk} (h : SS K base B q0 q1 q2 m l x w V) (k : Nat) (v : Value) (hl : Lb q1 l' (V.setCell ⟨q1, k, none⟩ v)) : SS K base B q0 q1 q2 m l' x w (V.setCell ⟨q1, k, none⟩ v) := by
  have e : ∀ b, b ≠ q1 → (V.setCell ⟨q1, k, none⟩ v).heap[b]? = V.heap[b]? := fun b hn => Below.heap_setCell V ⟨q1, k, none⟩ v b hn
  obtain ⟨z, hz⟩ := h.l0
  have w' := h.wk.poke (Or.inl (Or.inr rfl)) k v
  refine ⟨⟨w'.mono fun b hb => Or.inl (Or.inl (Or.inl hb)), h.go.bel.setCell (p := ⟨q1, k, none⟩) h.b1 _, fun b hb => (e b (h.nk b hb).2).trans (h.go.kk b hb)⟩, w', ⟨z, hz.of (e q0 h.n01)⟩, hl, ?_, h.n01, h.n02, h.n12, h.nk, h.b0, h.b1⟩
  have := h.bx
  unfold Xc.Bx at *; rw [e q2 (Ne.symm h.n12)]; exact this
theorem SS.fin (h : SS K base B q0 q1 q2 m l x w V) : Lb q0 l ((((V.setCell ⟨q0, 0, none⟩ (.int .i64 l.at_)).setCell ⟨q0, 1, none⟩ (.int .i64 l.ad)).setCell ⟨q0, 2, none⟩ (.int .i64 l.nm)).setCell ⟨q0, 3, none⟩ (.int .i64 l.dn)) ∧ Goes K base B m w ((((V.setCell ⟨q0, 0, none⟩ (.int .i64 l.at_)).setCell ⟨q0, 1, none⟩ (.int .i64 l.ad)).setCell ⟨q0, 2, none⟩ (.int .i64 l.nm)).setCell ⟨q0, 3, none⟩ (.int .i64 l.dn)) := by
  obtain ⟨z, hz⟩ := h.l0
  have k0 : (fun b => ((K b ∨ b = q0) ∨ b = q1) ∨ b = q2) q0 := Or.inl (Or.inl (Or.inr rfl))
  have w' := (((h.wk.poke k0 0 (.int .i64 l.at_)).poke k0 1 (.int .i64 l.ad)).poke k0 2 (.int .i64 l.nm)).poke k0 3 (.int .i64 l.dn)
  have e : ∀ (U : World) (k : Nat) (v : Value) b, b ≠ q0 → (U.setCell ⟨q0, k, none⟩ v).heap[b]? = U.heap[b]? := fun U k v b hn => Below.heap_setCell U ⟨q0, k, none⟩ v b hn
  refine ⟨(((hz.set0 l.at_).set1 l.ad).set2 l.nm).set3 l.dn, w'.mono fun b hb => Or.inl (Or.inl (Or.inl hb)), (((h.go.bel.setCell (p := ⟨q0, 0, none⟩) h.b0 _).setCell (p := ⟨q0, 1, none⟩) h.b0 _).setCell (p := ⟨q0, 2, none⟩) h.b0 _).setCell (p := ⟨q0, 3, none⟩) h.b0 _, fun b hb => ?_⟩
  have hn := (h.nk b hb).1
  rw [e _ _ _ b hn, e _ _ _ b hn, e _ _ _ b hn, e _ _ _ b hn]; exact h.go.kk b hb
end
end Go.Proofs.Ytielpebokbolbaa
/-
  A step's beginning: its boxes, and the instruction that was fetched.
-/
namespace Go.Proofs.Ytielpebokbolbaa
open Go.RowKit
open Xc (hide bel_one bel_tr bel_al bel_set Xi xv xc)
set_option linter.unusedSimpArgs false
set_option linter.unusedVariables false
def StEnds (K : Nat → Prop) (base B : Nat) (m : Mc) (w : World) (e : Ending) (w' : World) : Prop := e = .returned (lkv (stp m).2) ∧ Goes K base B (stp m).1 w w'
section
variable {K : Nat → Prop} {base B : Nat} {m : Mc} {w w1 : World}
theorem fet_ok {x : Xi} (h : fet m = some x) : Xc.rt x = true ∧ I64 x.n := by
  unfold fet at h
  split at h
  · split at h
    · have := Xc.dc_some h; exact ⟨this.1, this.2.2.1⟩
    · cases h
  · cases h
/-- The two boxes that it begins with. -/
structure S0 (K : Nat → Prop) (base B q0 q1 : Nat) (m : Mc) (w W : World) : Prop where
  go : Goes K base B m w W
  wk : WK (fun b => (K b ∨ b = q0) ∨ b = q1) base B m W
  l0 : Lb q0 ⟨0, 0, 0, 0⟩ W
  l1 : Lb q1 ⟨m.at_, -1, 0, 0⟩ W
  n01 : q0 ≠ q1
  nk : ∀ b, K b → b ≠ q0 ∧ b ≠ q1
  b0 : base ≤ q0
  b1 : base ≤ q1
theorem s0_made (h : WK K base B m w) : S0 K base B w.heap.size (w.heap.size + 1) m w ((w.alloc (.cells #[.int .i64 0, .int .i64 0, .int .i64 0, .int .i64 0] 52)).alloc (.cells #[.int .i64 m.at_, .int .i64 (-1), .int .i64 0, .int .i64 0] 52)) := by
  have k1 := bel_one w (.cells #[.int .i64 0, .int .i64 0, .int .i64 0, .int .i64 0] 52)
  have e1 : (w.alloc (.cells #[.int .i64 0, .int .i64 0, .int .i64 0, .int .i64 0] 52)).heap.size = w.heap.size + 1 := by simp
  have l0 : Lb w.heap.size ⟨0, 0, 0, 0⟩ (w.alloc (.cells #[.int .i64 0, .int .i64 0, .int .i64 0, .int .i64 0] 52)) := heap_alloc_new _ _
  have h1 := h.box k1 (by omega)
  generalize w.alloc (.cells #[.int .i64 0, .int .i64 0, .int .i64 0, .int .i64 0] 52) = U at *
  have k2 := bel_one U (.cells #[.int .i64 m.at_, .int .i64 (-1), .int .i64 0, .int .i64 0] 52)
  have l1 : Lb U.heap.size ⟨m.at_, -1, 0, 0⟩ (U.alloc (.cells #[.int .i64 m.at_, .int .i64 (-1), .int .i64 0, .int .i64 0] 52)) := heap_alloc_new _ _
  have h2 := h1.box k2 (by simp)
  rw [e1] at l1 h2
  have hs := h.bs
  exact ⟨(h.bel k1).to k2, h2, l0.of (k2.block _ (by omega)), l1, by omega, fun b hb => by have := h.kb hb; omega, by omega, by omega⟩
theorem S0.bel {q0 q1 : Nat} (h : S0 K base B q0 q1 m w w1) {w2 : World} (k : Below w1.heap.size w1 w2) : S0 K base B q0 q1 m w w2 :=
  ⟨h.go.to k, (h.wk.bel k).wk, h.l0.of (k.block _ h.l0.lt), h.l1.of (k.block _ h.l1.lt), h.n01, h.nk, h.b0, h.b1⟩
theorem S0.ss {q0 q1 : Nat} (h : S0 K base B q0 q1 m w w1) (x : Xi) (v : Int) (hv : I64 v) : SS K base B q0 q1 w1.heap.size (m.sa v) ⟨m.at_, -1, 0, 0⟩ x w ((w1.setCell ⟨B, 20, none⟩ (.int .i64 v)).alloc (.cells (xc x) 49)) := by
  rw [← World.setCell_alloc_past _ _ _ _ h.wk.lt]
  have k := bel_one w1 (.cells (xc x) 49)
  have w2 := h.wk.box k (by simp)
  have bx : Xc.Bx w1.heap.size x (w1.alloc (.cells (xc x) 49)) := Xc.Bx.made _ _
  have g2 := h.go.to k
  have l0 := h.l0.of (k.block _ h.l0.lt)
  have l1 := h.l1.of (k.block _ h.l1.lt)
  have s1 := h.l0.lt
  have s2 := h.l1.lt
  generalize w1.alloc (.cells (xc x) 49) = U at *
  have s : SS K base B q0 q1 w1.heap.size m ⟨m.at_, -1, 0, 0⟩ x w U := ⟨g2, w2, ⟨_, l0⟩, l1, bx, h.n01, by omega, by omega, h.nk, h.b0, h.b1⟩
  exact s.call (w2.seta v hv)
theorem ft_some {x : Xi} {e : Ending} {w' : World} (h : fet m = some x) (k : FtEnds m w e w') : Below w.heap.size w w' ∧ e = .returned (.tuple #[xv x, .int .i64 ((Xc.enc x).length : Int), .bool true]) := by
  obtain ⟨hb, ⟨x', hx, rfl⟩ | ⟨hx, _⟩⟩ := k
  · rw [h] at hx; injection hx with hx; subst hx; exact ⟨hb, rfl⟩
  · rw [h] at hx; cases hx
theorem stp_some {x : Xi} (h : fet m = some x) : stp m = doX (m.sa (wrap64 (m.at_ + ((Xc.enc x).length : Int)))) x m.at_ := by simp [stp, h]
theorem doX_rk (m : Mc) (x : Xi) (a : Int) (h : rkK x.op = true) : doX m x a = (rck m x, ⟨a, -1, 0, 0⟩) := by
  simp only [rkK, Bool.not_eq_true', Bool.or_eq_false_iff, beq_eq_false_iff_ne] at h
  simp [doX, h]
theorem st_end {M M1 : Mc} {L : Lk} {X : Xi} {q0 q1 q2 : Nat} {V : World} {e : Ending} {w' : World} (hs : stp m = (M1, L)) (he : e = .returned (lkv L)) (hg : Goes K base B M1 w w') : StEnds K base B m w e w' := by
  unfold StEnds; rw [hs]; exact ⟨he, hg⟩
end
end Go.Proofs.Ytielpebokbolbaa

/-
  Merged: REnc RDec Gu0.
-/
import Derived.Test.YtddepkiefkngdaaRE1
import Derived.Test.YtddepkiefkngdaaRE2
import Derived.Test.YtddepkiefkngdaaRE3
import Derived.Test.YtddepkiefkngdaaRE4
import Derived.Test.YtddepkiefkngdaaRE5
import Derived.Test.YtddepkiefkngdaaRE6
import Derived.Test.YtddepkiefkngdaaVA
import Derived.Deep.CutRange
/-
  The document's Encode answers an instruction's bytes, or that it is none.
-/
namespace Go.Proofs.Ytddepkiefkngdaa
open Go.RowKit
set_option linter.unusedSimpArgs false
set_option linter.unusedVariables false
theorem renc_any (x : Xi) (w : World) (hn : I64 x.n) : ReIs x w := by
  cases hq : rt x
  · exact renc_no x w hq
  revert hn
  suffices h : rt x = true → I64 x.n → ReIs x w from h hq
  refine rt_elim (P := fun x => rt x = true → I64 x.n → ReIs x w) hq ?mov ?movi ?alu ?alui ?test ?mul ?shift ?div ?idiv ?sign ?load ?store ?set ?byte ?cmov ?widen ?jmp ?jcc ?call ?ret ?hlt ?stop ?host
  case mov => exact fun wd r b h1 h2 hx hn => renc_1 wd r b w hx h1 h2
  case movi => exact fun r n h1 hx hn => renc_2 r n w hx h1 hn
  case alu => exact fun wd r b c h1 h2 hc hx hn => renc_3 wd r b c w hx h1 h2 hc
  case alui => exact fun wd b c n h2 hc hs hx hn => renc_4 wd b c n w hx h2 hc hs
  case test => exact fun wd r b h1 h2 hx hn => renc_5 wd r b w hx h1 h2
  case mul => exact fun wd r b h1 h2 hx hn => renc_6 wd r b w hx h1 h2
  case shift => exact fun wd b c h2 hc hx hn => renc_7 wd b c w hx h2 hc
  case div => exact fun wd b h2 hx hn => renc_8 wd b w hx h2
  case idiv => exact fun wd b h2 hx hn => renc_9 wd b w hx h2
  case sign => exact fun wd hx hn => renc_10 wd w hx 
  case load =>
    intro wd r b i n h1 h2 h3 hs hx hn
    by_cases hz : i = 0
    · subst hz; exact renc_11z wd r b n w hx h1 h2 hs
    · exact renc_11p wd r b i n w hx h1 h2 h3 hs hz
  case store =>
    intro wd r b i n h1 h2 h3 hs hx hn
    by_cases hz : i = 0
    · subst hz; exact renc_12z wd r b n w hx h1 h2 hs
    · exact renc_12p wd r b i n w hx h1 h2 h3 hs hz
  case set => exact fun c hc hx hn => renc_13 c w hx hc
  case byte => exact fun hx hn => renc_14 w hx 
  case cmov => exact fun wd r b c h1 h2 hc hx hn => renc_15 wd r b c w hx h1 h2 hc
  case widen => exact fun r b h1 h2 hx hn => renc_16 r b w hx h1 h2
  case jmp => exact fun n hs hx hn => renc_17 n w hx hs
  case jcc => exact fun c n hc hs hx hn => renc_18 c n w hx hc hs
  case call => exact fun n hs hx hn => renc_19 n w hx hs
  case ret => exact fun hx hn => renc_20 w hx 
  case hlt => exact fun hx hn => renc_21 w hx 
  case stop => exact fun hx hn => renc_22 w hx 
  case host => exact fun hx hn => renc_23 w hx 
end Go.Proofs.Ytddepkiefkngdaa
/-
  The document's Decode answers what the plain function dcX tells, once its guess answers what gu tells (a premise here: GuAll).
-/
namespace Go.Proofs.Ytddepkiefkngdaa
open Go.RowKit
set_option linter.unusedSimpArgs false
set_option linter.unusedVariables false

/-- What guess answers. -/
def GuAll : Prop := ∀ (t : ByteArray) (w : World), Calls Try.prog 34 #[.string t] w (FaPost (gu t.data.toList) w)
def RdcIs (t : ByteArray) (w : World) : Prop := Calls Try.prog 15 #[.string t] w fun e w' => e = .returned (.tuple #[xv (dX t.data.toList), .int .i64 (dN t.data.toList), .bool (dcX t.data.toList).isSome]) ∧ Below w.heap.size w w'
theorem renc_isc (op : Int) (wd : Bool) (r b i c n : Int) (w : World) (hn : I64 n) {l : List UInt8} {q : Bool} (h1 : enS ⟨op, wd, r, b, i, c, n⟩ = l) (h2 : rt ⟨op, wd, r, b, i, c, n⟩ = q) :
    Calls Try.prog 11 #[.agg #[.int .i64 op, .bool wd, .int .i64 r, .int .i64 b, .int .i64 i, .int .i64 c, .int .i64 n]] w fun e w' => e = .returned (.tuple #[.string (str l), .bool q]) ∧ Below w.heap.size w w' := by
  subst h1 h2; exact renc_any ⟨op, wd, r, b, i, c, n⟩ w hn
theorem dc_of_none {l : List UInt8} (h : rdcX l = none) : dX l = ⟨0, false, 0, 0, 0, 0, 0⟩ ∧ dN l = 0 ∧ (dcX l).isSome = false := by
  rw [rdc_dc] at h
  exact ⟨by unfold dX; rw [h]; rfl, by unfold dN; rw [h], by rw [h]; rfl⟩
theorem dc_of_some {l : List UInt8} {x : Xi} (h : rdcX l = some x) : dX l = x ∧ dN l = ((enc x).length : Int) ∧ (dcX l).isSome = true := by
  rw [rdc_dc] at h
  exact ⟨by unfold dX; rw [h]; rfl, by unfold dN; rw [h], by rw [h]; rfl⟩
set_option maxHeartbeats 4000000 in
theorem rdec_1 (GA : GuAll) (t : ByteArray) (w : World) (hg : gu t.data.toList = none) : RdcIs t w := by
  have hz : t.data.toList.length = t.size := by simp
  have hd : rdcX t.data.toList = none := by unfold rdcX; rw [hg]
  obtain ⟨k1, k2, k3⟩ := dc_of_none hd
  unfold RdcIs
  rw [k1, k2, k3]
  clear k1 k2 k3 hd
  have GG := hide (GA t)
  clear GA
  have HG := hide hg
  clear hg hz
  obtain ⟨W, hW⟩ : ∃ W, W = w.alloc (.cells #[.int .i64 0, .bool false, .int .i64 0, .int .i64 0, .int .i64 0, .int .i64 0, .int .i64 0] 23) := ⟨_, rfl⟩
  have R0 : RowX w.heap.size #[.int .i64 0, .bool false, .int .i64 0, .int .i64 0, .int .i64 0, .int .i64 0, .int .i64 0] W := by rw [hW]; exact heap_alloc_new _ _
  have W0 : Hid (Below w.heap.size w W) := by show Below _ _ _; rw [hW]; exact bel_one _ _
  have HR0 := hide R0
  clear R0
  go_enter Try.func15, Try.ntmps15
  go_wp2_with fail
  rw [← hW]
  refine (GG.out _).mono ?_
  clear hW
  rintro e w1 ⟨y, q, rfl, hgy, hb1⟩
  rw [HG.out] at hgy
  simp only [xv]
  cases q
  case true => simp at hgy
  clear hgy
  have R1 := HR0.out.bel hb1
  have W1 := hide (bel_tr W0.out hb1)
  have R2 := R1.bel (bel_one w1 (.cells (xc y) 23))
  obtain ⟨V, hV⟩ : ∃ V, V = w1.alloc (.cells (xc y) 23) := ⟨_, rfl⟩
  rw [← hV] at R2
  have W2 : Hid (Below w.heap.size w V) := by show Below _ _ _; rw [hV]; exact bel_al W1.out _
  go_upto_region 2 with fail
  simp only [xc] at hV
  rw [← hV]
  clear hV R1 hb1
  have f0 := R2.fr 0
  have f1 := R2.fr 1
  have f2 := R2.fr 2
  have f3 := R2.fr 3
  have f4 := R2.fr 4
  have f5 := R2.fr 5
  have f6 := R2.fr 6
  have x0 := R2.cell 0 _ rfl
  have x1 := R2.cell 1 _ rfl
  have x2 := R2.cell 2 _ rfl
  have x3 := R2.cell 3 _ rfl
  have x4 := R2.cell 4 _ rfl
  have x5 := R2.cell 5 _ rfl
  have x6 := R2.cell 6 _ rfl
  have HR := hide R2
  clear R2
  go_wp2_with fail
  refine bodyPost_ret (results_3 rfl _ _ w.heap.size ⟨0, false, 0, 0, 0, 0, 0⟩ rfl (RowX.of (((((((HR.out.set 0 _).set 1 _).set 2 _).set 3 _).set 4 _).set 5 _).set 6 _) rfl)) rfl ?_
  exact ⟨rfl, bel_set (bel_set (bel_set (bel_set (bel_set (bel_set (bel_set W2.out (Nat.le_refl _) _ _) (Nat.le_refl _) _ _) (Nat.le_refl _) _ _) (Nat.le_refl _) _ _) (Nat.le_refl _) _ _) (Nat.le_refl _) _ _) (Nat.le_refl _) _ _⟩
set_option maxHeartbeats 4000000 in
theorem rdec_2 (GA : GuAll) (t : ByteArray) (w : World) (op : Int) (wd : Bool) (r b i c n : Int) (hg : gu t.data.toList = some ⟨op, wd, r, b, i, c, n⟩) (hq : rt ⟨op, wd, r, b, i, c, n⟩ = false) : RdcIs t w := by
  have hz : t.data.toList.length = t.size := by simp
  have hd : rdcX t.data.toList = none := by unfold rdcX; rw [hg]; simp [hq]
  obtain ⟨k1, k2, k3⟩ := dc_of_none hd
  unfold RdcIs
  rw [k1, k2, k3]
  clear k1 k2 k3 hd
  have GG := hide (GA t)
  clear GA
  have hn : I64 n := gu_n _ _ hg
  have e1 : enS ⟨op, wd, r, b, i, c, n⟩ = [] := by simp [enS, hq]
  have EN := hide (fun U => renc_isc op wd r b i c n U hn e1 hq)
  clear e1 hn
  generalize str [] = own at *
  have HG := hide hg
  clear hg hz
  obtain ⟨W, hW⟩ : ∃ W, W = w.alloc (.cells #[.int .i64 0, .bool false, .int .i64 0, .int .i64 0, .int .i64 0, .int .i64 0, .int .i64 0] 23) := ⟨_, rfl⟩
  have R0 : RowX w.heap.size #[.int .i64 0, .bool false, .int .i64 0, .int .i64 0, .int .i64 0, .int .i64 0, .int .i64 0] W := by rw [hW]; exact heap_alloc_new _ _
  have W0 : Hid (Below w.heap.size w W) := by show Below _ _ _; rw [hW]; exact bel_one _ _
  have HR0 := hide R0
  clear R0
  go_enter Try.func15, Try.ntmps15
  go_wp2_with fail
  rw [← hW]
  refine (GG.out _).mono ?_
  clear hW
  rintro e w1 ⟨y, q, rfl, hgy, hb1⟩
  rw [HG.out] at hgy
  simp only [xv]
  cases q
  case false => simp at hgy
  simp only [if_true, Option.some.injEq] at hgy
  subst hgy
  have R1 := HR0.out.bel hb1
  have W1 := hide (bel_tr W0.out hb1)
  obtain ⟨V, hV⟩ : ∃ V, V = w1.alloc (.cells #[.int .i64 op, .bool wd, .int .i64 r, .int .i64 b, .int .i64 i, .int .i64 c, .int .i64 n] 23) := ⟨_, rfl⟩
  have R2 : RowX w.heap.size #[.int .i64 0, .bool false, .int .i64 0, .int .i64 0, .int .i64 0, .int .i64 0, .int .i64 0] V := by rw [hV]; exact R1.bel (bel_one _ _)
  have BY : Bx w1.heap.size ⟨op, wd, r, b, i, c, n⟩ V := by rw [hV]; exact Bx.made w1 ⟨op, wd, r, b, i, c, n⟩
  have W2 : Hid (Below w.heap.size w V) := by show Below _ _ _; rw [hV]; exact bel_al W1.out _
  go_upto_region 2 with fail
  rw [← hV]
  clear hV R1 hb1
  obtain ⟨v0, v1, v2, v3, v4', v5, v6⟩ := BY.cells
  dsimp only at v0 v1 v2 v3 v4' v5 v6
  go_wp2_with fail
  refine (EN.out _).mono ?_
  rintro e w3 ⟨rfl, hb3⟩
  have R3 := R2.bel hb3
  have BY3 := BY.kept hb3
  have W3 := hide (bel_tr W2.out hb3)
  clear R2 BY W2 hb3 v0 v1 v2 v3 v4' v5 v6
  obtain ⟨v0, v1, v2, v3, v4', v5, v6⟩ := BY3.cells
  dsimp only at v0 v1 v2 v3 v4' v5 v6
  have f0 := R3.fr 0
  have f1 := R3.fr 1
  have f2 := R3.fr 2
  have f3 := R3.fr 3
  have f4 := R3.fr 4
  have f5 := R3.fr 5
  have f6 := R3.fr 6
  have x0 := R3.cell 0 _ rfl
  have x1 := R3.cell 1 _ rfl
  have x2 := R3.cell 2 _ rfl
  have x3 := R3.cell 3 _ rfl
  have x4 := R3.cell 4 _ rfl
  have x5 := R3.cell 5 _ rfl
  have x6 := R3.cell 6 _ rfl
  have HR := hide R3
  clear R3
  go_wp2_with fail
  refine bodyPost_ret (results_3 rfl _ _ w.heap.size ⟨0, false, 0, 0, 0, 0, 0⟩ rfl (RowX.of (((((((HR.out.set 0 _).set 1 _).set 2 _).set 3 _).set 4 _).set 5 _).set 6 _) rfl)) rfl ?_
  exact ⟨rfl, bel_set (bel_set (bel_set (bel_set (bel_set (bel_set (bel_set W3.out (Nat.le_refl _) _ _) (Nat.le_refl _) _ _) (Nat.le_refl _) _ _) (Nat.le_refl _) _ _) (Nat.le_refl _) _ _) (Nat.le_refl _) _ _) (Nat.le_refl _) _ _⟩
set_option maxHeartbeats 4000000 in
theorem rdec_3 (GA : GuAll) (t : ByteArray) (w : World) (op : Int) (wd : Bool) (r b i c n : Int) (hg : gu t.data.toList = some ⟨op, wd, r, b, i, c, n⟩) (hq : rt ⟨op, wd, r, b, i, c, n⟩ = true) (hp : ¬ (enc ⟨op, wd, r, b, i, c, n⟩).length ≤ t.size) : RdcIs t w := by
  have hz : t.data.toList.length = t.size := by simp
  have hd : rdcX t.data.toList = none := by unfold rdcX; rw [hg]; simp only []; rw [hq, isp_no (by rw [hz]; exact hp)]; rfl
  obtain ⟨k1, k2, k3⟩ := dc_of_none hd
  unfold RdcIs
  rw [k1, k2, k3]
  clear k1 k2 k3 hd
  have GG := hide (GA t)
  clear GA
  have hn : I64 n := gu_n _ _ hg
  have e1 : enS ⟨op, wd, r, b, i, c, n⟩ = enc ⟨op, wd, r, b, i, c, n⟩ := by simp [enS, hq]
  have EN := hide (fun U => renc_isc op wd r b i c n U hn e1 hq)
  clear e1 hn
  have y1 : (t.size : Int) < ((str (enc ⟨op, wd, r, b, i, c, n⟩)).size : Int) := by rw [str_size]; omega
  generalize str (enc ⟨op, wd, r, b, i, c, n⟩) = own at *
  have HG := hide hg
  clear hg hz
  obtain ⟨W, hW⟩ : ∃ W, W = w.alloc (.cells #[.int .i64 0, .bool false, .int .i64 0, .int .i64 0, .int .i64 0, .int .i64 0, .int .i64 0] 23) := ⟨_, rfl⟩
  have R0 : RowX w.heap.size #[.int .i64 0, .bool false, .int .i64 0, .int .i64 0, .int .i64 0, .int .i64 0, .int .i64 0] W := by rw [hW]; exact heap_alloc_new _ _
  have W0 : Hid (Below w.heap.size w W) := by show Below _ _ _; rw [hW]; exact bel_one _ _
  have HR0 := hide R0
  clear R0
  go_enter Try.func15, Try.ntmps15
  go_wp2_with fail
  rw [← hW]
  refine (GG.out _).mono ?_
  clear hW
  rintro e w1 ⟨y, q, rfl, hgy, hb1⟩
  rw [HG.out] at hgy
  simp only [xv]
  cases q
  case false => simp at hgy
  simp only [if_true, Option.some.injEq] at hgy
  subst hgy
  have R1 := HR0.out.bel hb1
  have W1 := hide (bel_tr W0.out hb1)
  obtain ⟨V, hV⟩ : ∃ V, V = w1.alloc (.cells #[.int .i64 op, .bool wd, .int .i64 r, .int .i64 b, .int .i64 i, .int .i64 c, .int .i64 n] 23) := ⟨_, rfl⟩
  have R2 : RowX w.heap.size #[.int .i64 0, .bool false, .int .i64 0, .int .i64 0, .int .i64 0, .int .i64 0, .int .i64 0] V := by rw [hV]; exact R1.bel (bel_one _ _)
  have BY : Bx w1.heap.size ⟨op, wd, r, b, i, c, n⟩ V := by rw [hV]; exact Bx.made w1 ⟨op, wd, r, b, i, c, n⟩
  have W2 : Hid (Below w.heap.size w V) := by show Below _ _ _; rw [hV]; exact bel_al W1.out _
  go_upto_region 2 with fail
  rw [← hV]
  clear hV R1 hb1
  obtain ⟨v0, v1, v2, v3, v4', v5, v6⟩ := BY.cells
  dsimp only at v0 v1 v2 v3 v4' v5 v6
  go_wp2_with fail
  refine (EN.out _).mono ?_
  rintro e w3 ⟨rfl, hb3⟩
  have R3 := R2.bel hb3
  have BY3 := BY.kept hb3
  have W3 := hide (bel_tr W2.out hb3)
  clear R2 BY W2 hb3 v0 v1 v2 v3 v4' v5 v6
  obtain ⟨v0, v1, v2, v3, v4', v5, v6⟩ := BY3.cells
  dsimp only at v0 v1 v2 v3 v4' v5 v6
  have f0 := R3.fr 0
  have f1 := R3.fr 1
  have f2 := R3.fr 2
  have f3 := R3.fr 3
  have f4 := R3.fr 4
  have f5 := R3.fr 5
  have f6 := R3.fr 6
  have x0 := R3.cell 0 _ rfl
  have x1 := R3.cell 1 _ rfl
  have x2 := R3.cell 2 _ rfl
  have x3 := R3.cell 3 _ rfl
  have x4 := R3.cell 4 _ rfl
  have x5 := R3.cell 5 _ rfl
  have x6 := R3.cell 6 _ rfl
  have HR := hide R3
  clear R3
  go_wp2_with fail
  refine bodyPost_ret (results_3 rfl _ _ w.heap.size ⟨0, false, 0, 0, 0, 0, 0⟩ rfl (RowX.of (((((((HR.out.set 0 _).set 1 _).set 2 _).set 3 _).set 4 _).set 5 _).set 6 _) rfl)) rfl ?_
  exact ⟨rfl, bel_set (bel_set (bel_set (bel_set (bel_set (bel_set (bel_set W3.out (Nat.le_refl _) _ _) (Nat.le_refl _) _ _) (Nat.le_refl _) _ _) (Nat.le_refl _) _ _) (Nat.le_refl _) _ _) (Nat.le_refl _) _ _) (Nat.le_refl _) _ _⟩
set_option maxHeartbeats 4000000 in
theorem rdec_4 (GA : GuAll) (t : ByteArray) (w : World) (op : Int) (wd : Bool) (r b i c n : Int) (hg : gu t.data.toList = some ⟨op, wd, r, b, i, c, n⟩) (hq : rt ⟨op, wd, r, b, i, c, n⟩ = true) (hl : (enc ⟨op, wd, r, b, i, c, n⟩).length ≤ t.size) (hp : (enc ⟨op, wd, r, b, i, c, n⟩).isPrefixOf t.data.toList = false) : RdcIs t w := by
  have hz : t.data.toList.length = t.size := by simp
  have hd : rdcX t.data.toList = none := by unfold rdcX; rw [hg]; simp only [hq, hp]; rfl
  obtain ⟨k1, k2, k3⟩ := dc_of_none hd
  unfold RdcIs
  rw [k1, k2, k3]
  clear k1 k2 k3 hd
  have GG := hide (GA t)
  clear GA
  have hn : I64 n := gu_n _ _ hg
  have e1 : enS ⟨op, wd, r, b, i, c, n⟩ = enc ⟨op, wd, r, b, i, c, n⟩ := by simp [enS, hq]
  have EN := hide (fun U => renc_isc op wd r b i c n U hn e1 hq)
  clear e1 hn
  have y1 : ((str (enc ⟨op, wd, r, b, i, c, n⟩)).size : Int) ≤ (t.size : Int) := by rw [str_size]; omega
  have y0 : decide ((t.size : Int) < ((str (enc ⟨op, wd, r, b, i, c, n⟩)).size : Int)) = false := decide_eq_false (by omega)
  have y2 : ((t.extract 0 (str (enc ⟨op, wd, r, b, i, c, n⟩)).size).toList == (str (enc ⟨op, wd, r, b, i, c, n⟩)).toList) = false := by
    rw [ByteArray.toList_eq, ByteArray.toList_eq, ext_take, str_size, str_data, ← isp_yes (by omega)]; exact hp
  have y3 : ((t.extract 0 (str (enc ⟨op, wd, r, b, i, c, n⟩)).size).toList != (str (enc ⟨op, wd, r, b, i, c, n⟩)).toList) = true := by simp only [bne, y2]; rfl
  generalize str (enc ⟨op, wd, r, b, i, c, n⟩) = own at *
  have HG := hide hg
  clear hg hz
  obtain ⟨W, hW⟩ : ∃ W, W = w.alloc (.cells #[.int .i64 0, .bool false, .int .i64 0, .int .i64 0, .int .i64 0, .int .i64 0, .int .i64 0] 23) := ⟨_, rfl⟩
  have R0 : RowX w.heap.size #[.int .i64 0, .bool false, .int .i64 0, .int .i64 0, .int .i64 0, .int .i64 0, .int .i64 0] W := by rw [hW]; exact heap_alloc_new _ _
  have W0 : Hid (Below w.heap.size w W) := by show Below _ _ _; rw [hW]; exact bel_one _ _
  have HR0 := hide R0
  clear R0
  go_enter Try.func15, Try.ntmps15
  go_wp2_with fail
  rw [← hW]
  refine (GG.out _).mono ?_
  clear hW
  rintro e w1 ⟨y, q, rfl, hgy, hb1⟩
  rw [HG.out] at hgy
  simp only [xv]
  cases q
  case false => simp at hgy
  simp only [if_true, Option.some.injEq] at hgy
  subst hgy
  have R1 := HR0.out.bel hb1
  have W1 := hide (bel_tr W0.out hb1)
  obtain ⟨V, hV⟩ : ∃ V, V = w1.alloc (.cells #[.int .i64 op, .bool wd, .int .i64 r, .int .i64 b, .int .i64 i, .int .i64 c, .int .i64 n] 23) := ⟨_, rfl⟩
  have R2 : RowX w.heap.size #[.int .i64 0, .bool false, .int .i64 0, .int .i64 0, .int .i64 0, .int .i64 0, .int .i64 0] V := by rw [hV]; exact R1.bel (bel_one _ _)
  have BY : Bx w1.heap.size ⟨op, wd, r, b, i, c, n⟩ V := by rw [hV]; exact Bx.made w1 ⟨op, wd, r, b, i, c, n⟩
  have W2 : Hid (Below w.heap.size w V) := by show Below _ _ _; rw [hV]; exact bel_al W1.out _
  go_upto_region 2 with fail
  rw [← hV]
  clear hV R1 hb1
  obtain ⟨v0, v1, v2, v3, v4', v5, v6⟩ := BY.cells
  dsimp only at v0 v1 v2 v3 v4' v5 v6
  go_wp2_with fail
  refine (EN.out _).mono ?_
  rintro e w3 ⟨rfl, hb3⟩
  have R3 := R2.bel hb3
  have BY3 := BY.kept hb3
  have W3 := hide (bel_tr W2.out hb3)
  clear R2 BY W2 hb3 v0 v1 v2 v3 v4' v5 v6
  obtain ⟨v0, v1, v2, v3, v4', v5, v6⟩ := BY3.cells
  dsimp only at v0 v1 v2 v3 v4' v5 v6
  have f0 := R3.fr 0
  have f1 := R3.fr 1
  have f2 := R3.fr 2
  have f3 := R3.fr 3
  have f4 := R3.fr 4
  have f5 := R3.fr 5
  have f6 := R3.fr 6
  have x0 := R3.cell 0 _ rfl
  have x1 := R3.cell 1 _ rfl
  have x2 := R3.cell 2 _ rfl
  have x3 := R3.cell 3 _ rfl
  have x4 := R3.cell 4 _ rfl
  have x5 := R3.cell 5 _ rfl
  have x6 := R3.cell 6 _ rfl
  have HR := hide R3
  clear R3
  go_wp2_with fail
  refine bodyPost_ret (results_3 rfl _ _ w.heap.size ⟨0, false, 0, 0, 0, 0, 0⟩ rfl (RowX.of (((((((HR.out.set 0 _).set 1 _).set 2 _).set 3 _).set 4 _).set 5 _).set 6 _) rfl)) rfl ?_
  exact ⟨rfl, bel_set (bel_set (bel_set (bel_set (bel_set (bel_set (bel_set W3.out (Nat.le_refl _) _ _) (Nat.le_refl _) _ _) (Nat.le_refl _) _ _) (Nat.le_refl _) _ _) (Nat.le_refl _) _ _) (Nat.le_refl _) _ _) (Nat.le_refl _) _ _⟩
set_option maxHeartbeats 4000000 in
theorem rdec_5 (GA : GuAll) (t : ByteArray) (w : World) (op : Int) (wd : Bool) (r b i c n : Int) (hg : gu t.data.toList = some ⟨op, wd, r, b, i, c, n⟩) (hq : rt ⟨op, wd, r, b, i, c, n⟩ = true) (hl : (enc ⟨op, wd, r, b, i, c, n⟩).length ≤ t.size) (hp : (enc ⟨op, wd, r, b, i, c, n⟩).isPrefixOf t.data.toList = true) : RdcIs t w := by
  have hz : t.data.toList.length = t.size := by simp
  have hd : rdcX t.data.toList = some ⟨op, wd, r, b, i, c, n⟩ := by unfold rdcX; rw [hg]; simp only [hq, hp]; rfl
  obtain ⟨k1, k2, k3⟩ := dc_of_some hd
  unfold RdcIs
  have k2' : dN t.data.toList = ((str (enc ⟨op, wd, r, b, i, c, n⟩)).size : Int) := by rw [k2, str_size]
  rw [k1, k2', k3]
  clear k2'
  clear k1 k2 k3 hd
  have GG := hide (GA t)
  clear GA
  have hn : I64 n := gu_n _ _ hg
  have e1 : enS ⟨op, wd, r, b, i, c, n⟩ = enc ⟨op, wd, r, b, i, c, n⟩ := by simp [enS, hq]
  have EN := hide (fun U => renc_isc op wd r b i c n U hn e1 hq)
  clear e1 hn
  have y1 : ((str (enc ⟨op, wd, r, b, i, c, n⟩)).size : Int) ≤ (t.size : Int) := by rw [str_size]; omega
  have y0 : decide ((t.size : Int) < ((str (enc ⟨op, wd, r, b, i, c, n⟩)).size : Int)) = false := decide_eq_false (by omega)
  have y2 : ((t.extract 0 (str (enc ⟨op, wd, r, b, i, c, n⟩)).size).toList == (str (enc ⟨op, wd, r, b, i, c, n⟩)).toList) = true := by
    rw [ByteArray.toList_eq, ByteArray.toList_eq, ext_take, str_size, str_data, ← isp_yes (by omega)]; exact hp
  have y3 : ((t.extract 0 (str (enc ⟨op, wd, r, b, i, c, n⟩)).size).toList != (str (enc ⟨op, wd, r, b, i, c, n⟩)).toList) = false := by simp only [bne, y2]; rfl
  generalize str (enc ⟨op, wd, r, b, i, c, n⟩) = own at *
  have HG := hide hg
  clear hg hz
  obtain ⟨W, hW⟩ : ∃ W, W = w.alloc (.cells #[.int .i64 0, .bool false, .int .i64 0, .int .i64 0, .int .i64 0, .int .i64 0, .int .i64 0] 23) := ⟨_, rfl⟩
  have R0 : RowX w.heap.size #[.int .i64 0, .bool false, .int .i64 0, .int .i64 0, .int .i64 0, .int .i64 0, .int .i64 0] W := by rw [hW]; exact heap_alloc_new _ _
  have W0 : Hid (Below w.heap.size w W) := by show Below _ _ _; rw [hW]; exact bel_one _ _
  have HR0 := hide R0
  clear R0
  go_enter Try.func15, Try.ntmps15
  go_wp2_with fail
  rw [← hW]
  refine (GG.out _).mono ?_
  clear hW
  rintro e w1 ⟨y, q, rfl, hgy, hb1⟩
  rw [HG.out] at hgy
  simp only [xv]
  cases q
  case false => simp at hgy
  simp only [if_true, Option.some.injEq] at hgy
  subst hgy
  have R1 := HR0.out.bel hb1
  have W1 := hide (bel_tr W0.out hb1)
  obtain ⟨V, hV⟩ : ∃ V, V = w1.alloc (.cells #[.int .i64 op, .bool wd, .int .i64 r, .int .i64 b, .int .i64 i, .int .i64 c, .int .i64 n] 23) := ⟨_, rfl⟩
  have R2 : RowX w.heap.size #[.int .i64 0, .bool false, .int .i64 0, .int .i64 0, .int .i64 0, .int .i64 0, .int .i64 0] V := by rw [hV]; exact R1.bel (bel_one _ _)
  have BY : Bx w1.heap.size ⟨op, wd, r, b, i, c, n⟩ V := by rw [hV]; exact Bx.made w1 ⟨op, wd, r, b, i, c, n⟩
  have W2 : Hid (Below w.heap.size w V) := by show Below _ _ _; rw [hV]; exact bel_al W1.out _
  go_upto_region 2 with fail
  rw [← hV]
  clear hV R1 hb1
  obtain ⟨v0, v1, v2, v3, v4', v5, v6⟩ := BY.cells
  dsimp only at v0 v1 v2 v3 v4' v5 v6
  go_wp2_with fail
  refine (EN.out _).mono ?_
  rintro e w3 ⟨rfl, hb3⟩
  have R3 := R2.bel hb3
  have BY3 := BY.kept hb3
  have W3 := hide (bel_tr W2.out hb3)
  clear R2 BY W2 hb3 v0 v1 v2 v3 v4' v5 v6
  obtain ⟨v0, v1, v2, v3, v4', v5, v6⟩ := BY3.cells
  dsimp only at v0 v1 v2 v3 v4' v5 v6
  have f0 := R3.fr 0
  have f1 := R3.fr 1
  have f2 := R3.fr 2
  have f3 := R3.fr 3
  have f4 := R3.fr 4
  have f5 := R3.fr 5
  have f6 := R3.fr 6
  have x0 := R3.cell 0 _ rfl
  have x1 := R3.cell 1 _ rfl
  have x2 := R3.cell 2 _ rfl
  have x3 := R3.cell 3 _ rfl
  have x4 := R3.cell 4 _ rfl
  have x5 := R3.cell 5 _ rfl
  have x6 := R3.cell 6 _ rfl
  have HR := hide R3
  clear R3
  go_wp2_with fail
  refine bodyPost_ret (results_3 rfl _ _ w.heap.size ⟨op, wd, r, b, i, c, n⟩ rfl (RowX.of (((((((HR.out.set 0 _).set 1 _).set 2 _).set 3 _).set 4 _).set 5 _).set 6 _) rfl)) rfl ?_
  exact ⟨rfl, bel_set (bel_set (bel_set (bel_set (bel_set (bel_set (bel_set W3.out (Nat.le_refl _) _ _) (Nat.le_refl _) _ _) (Nat.le_refl _) _ _) (Nat.le_refl _) _ _) (Nat.le_refl _) _ _) (Nat.le_refl _) _ _) (Nat.le_refl _) _ _⟩
theorem rdec_any (GA : GuAll) (t : ByteArray) (w : World) : RdcIs t w := by
  cases hg : gu t.data.toList with
  | none => exact rdec_1 GA t w hg
  | some y =>
    obtain ⟨op, wd, r, b, i, c, n⟩ := y
    cases hq : rt ⟨op, wd, r, b, i, c, n⟩
    · exact rdec_2 GA t w op wd r b i c n hg hq
    by_cases hl : (enc ⟨op, wd, r, b, i, c, n⟩).length ≤ t.size
    · cases hp : (enc ⟨op, wd, r, b, i, c, n⟩).isPrefixOf t.data.toList
      · exact rdec_4 GA t w op wd r b i c n hg hq hl hp
      · exact rdec_5 GA t w op wd r b i c n hg hq hl hp
    · exact rdec_3 GA t w op wd r b i c n hg hq hl
end Go.Proofs.Ytddepkiefkngdaa
/-
  The document's guess answers what the plain function gu tells.
-/
namespace Go.Proofs.Ytddepkiefkngdaa
open Go.RowKit
set_option linter.unusedSimpArgs false
set_option linter.unusedVariables false
def zx : Xi := ⟨0, false, 0, 0, 0, 0, 0⟩
/-- The two boxes: the result, and what is guessed. -/
def GW (x : Xi) (w W : World) : Prop := Below w.heap.size w W ∧ RowX w.heap.size (xc zx) W ∧ RowX (w.heap.size + 1) (xc x) W
theorem gw_made (w : World) : GW zx w ((w.alloc (.cells (xc zx) 23)).alloc (.cells (xc zx) 23)) := by
  refine ⟨bel_al (bel_one _ _) _, ?_, row_2 w _ zx⟩
  have h := heap_alloc_new w (.cells (xc zx) 23)
  unfold RowX
  have k := bel_one (w.alloc (.cells (xc zx) 23)) (.cells (xc zx) 23)
  exact (k.block _ (by simp)).trans h
theorem ex_u8 {P : Int → Prop} (h : ∀ n : Fin 256, P (n.val : Int)) : ∀ v : Int, 0 ≤ v → v ≤ 255 → P v := fun v h0 h1 => by
  have := h ⟨v.toNat, by omega⟩
  have e : ((v.toNat : Nat) : Int) = v := by omega
  rwa [show ((⟨v.toNat, by omega⟩ : Fin 256).val : Int) = v from e] at this
theorem u8_8 : ∀ v : Int, 0 ≤ v → v ≤ 255 → (bits BinOp.and IntKind.u8 v 8 != 0) = decide (v / 8 % 2 = 1) := ex_u8 (by decide +kernel)
theorem u8_4 : ∀ v : Int, 0 ≤ v → v ≤ 255 → bits BinOp.and IntKind.u8 v 4 * 2 = upr v 4 := ex_u8 (by decide +kernel)
theorem u8_2 : ∀ v : Int, 0 ≤ v → v ≤ 255 → bits BinOp.and IntKind.u8 v 2 * 4 = upr v 2 := ex_u8 (by decide +kernel)
theorem u8_1 : ∀ v : Int, 0 ≤ v → v ≤ 255 → bits BinOp.and IntKind.u8 v 1 * 8 = upr v 1 := ex_u8 (by decide +kernel)
theorem u8_7 : ∀ v : Int, 0 ≤ v → v ≤ 255 → bits BinOp.and IntKind.u8 v 7 = v % 8 := ex_u8 (by decide +kernel)
theorem u8_37 : ∀ v : Int, 0 ≤ v → v ≤ 255 → bits BinOp.and IntKind.u8 (v / 8) 7 = v / 8 % 8 := ex_u8 (by decide +kernel)
theorem u8_s (m : Int) (h : m = 1 ∨ m = 2 ∨ m = 4) : ∀ v : Int, 0 ≤ v → v ≤ 255 → 0 ≤ bits BinOp.and IntKind.u8 v m ∧ bits BinOp.and IntKind.u8 v m ≤ 7 := by
  rcases h with rfl | rfl | rfl
  · exact ex_u8 (by decide +kernel)
  · exact ex_u8 (by decide +kernel)
  · exact ex_u8 (by decide +kernel)
theorem emp_list (s : ByteArray) : s.toList.isEmpty = decide (s.size = 0) := by
  have h : s.toList = s.data.toList := ByteArray.toList_eq _
  rw [h]
  have hz : s.data.toList.length = s.size := by simp
  cases hl : s.data.toList with
  | nil =>
    rw [hl, List.length_nil] at hz
    rw [decide_eq_true hz.symm]; rfl
  | cons a l =>
    rw [hl, List.length_cons] at hz
    rw [decide_eq_false (by omega)]; rfl
theorem ga_at (s : ByteArray) (k : Nat) (h : k < s.size) : ga s.data.toList k = (s[k].toNat : Int) := by
  have hz : k < s.data.toList.length := by simpa using h
  unfold ga
  rw [List.getD_eq_getElem?_getD, List.getElem?_eq_getElem hz, Option.getD_some, list_get s k h]
theorem nil_iff (s : ByteArray) : s.data.toList = [] ↔ s.size = 0 := by
  have hz : s.data.toList.length = s.size := by simp
  constructor
  · intro h; rw [h] at hz; simpa using hz.symm
  · intro h; exact List.length_eq_zero_iff.1 (by omega)
theorem ext_drop (s : ByteArray) (k : Nat) : (s.extract k s.size).data.toList = s.data.toList.drop k := by
  simp [ByteArray.data_extract, Array.toList_extract]
  exact List.take_of_length_le (by simp)
theorem ext_mid (s : ByteArray) (a b : Nat) : (s.extract a b).data.toList = (s.data.toList.drop a).take (b - a) := by
  simp [ByteArray.data_extract, Array.toList_extract, List.extract_eq_take_drop]
/-- As gNear, of the parts. -/
def GN (p : Int) (wd : Bool) (op reg low mod : Int) (t : List UInt8) : Option Xi :=
  if op = 137 ∧ mod = 3 then some ⟨1, wd, reg, low, 0, 0, 0⟩
  else if (op = 139 ∨ op = 137) ∧ mod = 2 then (if t.length < 6 then none else some ⟨if op = 137 then 12 else 11, wd, reg, ga t 1 % 8 + upr p 1, gI (ga t 1 / 8 % 8 + upr p 2 + 1), 0, v4 ((t.drop 2).take 4)⟩)
  else if 184 ≤ op ∧ op < 192 then (if t.length < 8 then none else some ⟨2, wd, op - 184 + upr p 1, 0, 0, 0, jn (t.take 8)⟩)
  else if op < 64 ∧ op % 8 = 1 then some ⟨3, wd, reg, low, 0, op / 8, 0⟩
  else if op = 129 then (if t.length < 5 then none else some ⟨4, wd, 0, low, 0, reg, v4 ((t.drop 1).take 4)⟩)
  else if op = 133 then some ⟨5, wd, reg, low, 0, 0, 0⟩ else if op = 211 then some ⟨7, wd, 0, low, 0, reg, 0⟩
  else if op = 247 ∧ reg = 6 then some ⟨8, wd, 0, low, 0, 0, 0⟩ else if op = 247 then some ⟨9, wd, 0, low, 0, 0, 0⟩
  else if op = 153 then some ⟨10, wd, 0, 0, 0, 0, 0⟩ else if op = 99 then some ⟨16, wd, reg, low, 0, 0, 0⟩
  else if op = 233 ∨ op = 232 then (if t.length < 4 then none else some ⟨if op = 232 then 19 else 17, wd, 0, 0, 0, 0, v4 (t.take 4)⟩)
  else if op = 195 then some ⟨20, wd, 0, 0, 0, 0, 0⟩ else if op = 244 then some ⟨21, wd, 0, 0, 0, 0, 0⟩ else if op = 204 then some ⟨23, wd, 0, 0, 0, 0, 0⟩ else none
theorem gNear_is (p op : Int) (t : List UInt8) : gNear p op t = GN p (decide (p / 8 % 2 = 1)) op (gReg p t) (gLow p t) (gMod t) t := rfl
theorem GW.set {w W : World} {x x' : Xi} (h : GW x w W) (k : Nat) (v : Value) (e : (xc x).setIfInBounds k v = xc x') : GW x' w (W.setCell ⟨w.heap.size + 1, k, none⟩ v) :=
  ⟨bel_set h.1 (Nat.le_succ _) k v, by unfold RowX; rw [heap_set _ _ _ _ (by show w.heap.size ≠ w.heap.size + 1; omega)]; exact h.2.1, RowX.of (h.2.2.set k v) e⟩
theorem GW.rf {x : Xi} {w W : World} (h : GW x w W) : (∀ k v, (xc zx)[k]? = some v → W.cell? ⟨w.heap.size, k, none⟩ = some v) ∧ (∀ k, W.frozen? ⟨w.heap.size, k, none⟩ = false) := ⟨fun k v hv => h.2.1.cell k v hv, fun k => h.2.1.fr k⟩
theorem GW.xf {x : Xi} {w W : World} (h : GW x w W) : (∀ k v, (xc x)[k]? = some v → W.cell? ⟨w.heap.size + 1, k, none⟩ = some v) ∧ (∀ k, W.frozen? ⟨w.heap.size + 1, k, none⟩ = false) := ⟨fun k v hv => h.2.2.cell k v hv, fun k => h.2.2.fr k⟩
/-- The code's place: behind REX. -/
def ncl (l : List UInt8) : List UInt8 := if ga l 0 / 16 = 4 then l.drop 1 else l
end Go.Proofs.Ytddepkiefkngdaa

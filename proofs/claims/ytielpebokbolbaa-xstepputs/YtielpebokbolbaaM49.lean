/-
  XstepPuts: what was put is read as it was; beside it all stays.
-/
import Derived.Test.YtielpebokbolbaaM48
namespace Go.Proofs.Ytielpebokbolbaa
open Go.RowKit
open Xc (hide bel_one bel_tr bel_al bel_set Xi xv xc bys jn)
set_option linter.unusedSimpArgs false
set_option linter.unusedVariables false
set_option maxRecDepth 100000 in
set_option maxHeartbeats 6400000 in
theorem puts_4_1a {m : Mc} {v : Value} {w : World} (h : MV m v w) (a x other : Int) (ia : I64 a) (ix : I64 x) (io : I64 other) {g : List Rg} {was : Int} (iw : I64 was) (hp : ptM m.g a 4 x = some g) (hr : rdM m.g a 4 = some was) (hr2 : rdM g a 4 = some (x % 4294967296)) (hb : ptM g a 4 was = some m.g) (hd : (rdM g other 4).isSome = (rdM m.g other 4).isSome) (h1 : a < other) (h2 : 4 ≤ wrap64 (other - a)) (hl : 1 < m.g.length) : Calls Try.prog 6 #[v, .int .i64 a, .bool false, .int .i64 x, .int .i64 other] w fun e w' => e = .returned (.bool true) ∧ Below w.heap.size w w' := by
  obtain ⟨ra, rc, rfl⟩ := h.sl
  have B0 := hide (bm_arg h)
  rw [mc_is]
  have a32 := and32 x ix
  have IA := hide ia
  have IX := hide ix
  have IO := hide io
  have HRD := hide hr
  have HPT := hide hp
  have HR2 := hide hr2
  have HBK := hide hb
  have HDD := hide hd
  clear hp hr hr2 hb hd iw
  clear h ia ix io
  go_enter Try.func6, Try.ntmps6
  go_wp2_with fail
  refine gw (motive := fun x => Calls _ _ _ x _) (fun W => Hid (BM w.heap.size m (.slice ra m.g.length rc) W) ∧ Hid (Below w.heap.size w W)) ⟨B0.out, bel_one _ _⟩ ?_
  rintro W ⟨BW, KW⟩
  clear B0
  refine (examples_any _).mono ?_
  rintro e w1 ⟨rfl, hb⟩
  have B1 := hide (BW.out.bel hb)
  have K1 := hide (bel_tr KW.out hb)
  clear hb BW KW
  have RR := hide (read_any B1.out.mv a 4 IA.out)
  rw [mc_is] at RR
  unfold RdEnds at RR
  rw [HRD.out] at RR
  simp only [Option.getD_some, Option.isSome_some, Option.getD_none, Option.isSome_none] at RR
  go_wp2_with (first | (refine wpList_load_mid rfl 27 _ rfl w.heap.size 0 rfl _ _ B1.out.rg Try.underlying27 rfl B1.out.il ?_))
  refine RR.out.mono ?_
  rintro e w2 ⟨rfl, hb2⟩
  have B2 := hide (B1.out.bel hb2)
  have K2 := hide (bel_tr K1.out hb2)
  clear RR hb2 B1 K1 a32
  have RR := hide (put_any B2.out.mv a 4 x IA.out)
  rw [mc_is] at RR
  go_wp2_with (first | (refine wpList_load_mid rfl 27 _ rfl w.heap.size 0 rfl _ _ B2.out.rg Try.underlying27 rfl B2.out.il ?_))
  refine RR.out.mono ?_
  rintro e u3 ⟨va, rfl, hma, hb3⟩
  rw [HPT.out] at hma ⊢
  simp only [Option.getD_some, Option.isSome_some, Option.getD_none, Option.isSome_none] at hma ⊢
  generalize hMa : ({ m with g := g } : Mc) = Ma at hma
  have HEa := hide hMa
  clear hMa
  obtain ⟨raa, rca, rfl⟩ := hma.sl
  have HMa := hide hma
  rw [mc_is]
  have B2n := hide (B2.out.bel hb3)
  have K2n := hide (bel_tr K2.out hb3)
  clear hma hb3 RR B2 K2
  have HZ := hide (z_row u3)
  have HI := hide (z_inf HMa.out.len (.slice raa Ma.g.length rca))
  have HZS := hide (z_siz HMa.out.len (.slice raa Ma.g.length rca))
  have HON := hide (ml_one Ma raa Ma.g.length rca)
  have NB := hide (bm_new HMa.out)
  unfold zm at HZ HZS NB
  go_upto_region 9 with (refine wpList_store_row rfl 27 _ _ rfl u3.heap.size _ rfl rfl 27 zm HZ.out HI.out HZS.out HON.out ?_)
  refine gw (motive := fun x => Code.wp _ _ _ _ x) (fun V => Hid (BM u3.heap.size Ma (.slice raa Ma.g.length rca) V) ∧ Hid (BM w.heap.size m (.slice ra m.g.length rc) V) ∧ Hid (Below w.heap.size w V)) ⟨NB.out.1, B2n.out.bel NB.out.2, bel_tr K2n.out NB.out.2⟩ ?_
  rintro Wa ⟨BMa, B2, K2⟩
  clear HZ HI HZS HON NB HMa B2n K2n
  generalize u3.heap.size = qa at *
  rw [← HEa.out] at BMa
  have RR := hide (read_any BMa.out.mv a 4 IA.out)
  rw [mc_is] at RR
  unfold RdEnds at RR
  simp only at RR
  rw [HR2.out] at RR
  simp only [Option.getD_some, Option.isSome_some] at RR
  go_wp2_with (first | (refine wpList_load_mid rfl 27 _ rfl qa 0 rfl _ _ BMa.out.rg Try.underlying27 rfl BMa.out.il ?_))
  refine RR.out.mono ?_
  rintro e w4 ⟨rfl, hb4⟩
  have B4 := hide (B2.out.bel hb4)
  have K4 := hide (bel_tr K2.out hb4)
  have Ba4 := hide (BMa.out.bel hb4)
  clear RR hb4 B2 K2 BMa
  have RR := hide (put_any Ba4.out.mv a 4 was IA.out)
  rw [mc_is] at RR
  go_wp2_with (first | (refine wpList_load_mid rfl 27 _ rfl qa 0 rfl _ _ Ba4.out.rg Try.underlying27 rfl Ba4.out.il ?_))
  refine RR.out.mono ?_
  rintro e u5 ⟨vb, rfl, hmb, hb5⟩
  simp only at hmb ⊢
  rw [HBK.out] at hmb ⊢
  simp only [Option.getD_some, Option.isSome_some] at hmb ⊢
  change MV m vb u5 at hmb
  obtain ⟨rab, rcb, rfl⟩ := hmb.sl
  have HMb := hide hmb
  rw [mc_is]
  have B4n := hide (B4.out.bel hb5)
  have K4n := hide (bel_tr K4.out hb5)
  have Ba4n := hide (Ba4.out.bel hb5)
  clear hmb hb5 RR B4 K4 Ba4
  have HZ := hide (z_row u5)
  have HI := hide (z_inf HMb.out.len (.slice rab m.g.length rcb))
  have HZS := hide (z_siz HMb.out.len (.slice rab m.g.length rcb))
  have HON := hide (ml_one m rab m.g.length rcb)
  have NB := hide (bm_new HMb.out)
  unfold zm at HZ HZS NB
  go_upto_region 14 with (refine wpList_store_row rfl 27 _ _ rfl u5.heap.size _ rfl rfl 27 zm HZ.out HI.out HZS.out HON.out ?_)
  refine gw (motive := fun x => Code.wp _ _ _ _ x) (fun V => Hid (BM u5.heap.size m (.slice rab m.g.length rcb) V) ∧ Hid (BM w.heap.size m (.slice ra m.g.length rc) V) ∧ Hid (Below w.heap.size w V) ∧ Hid (BM qa { m with g := g } (.slice raa g.length rca) V)) ⟨NB.out.1, B4n.out.bel NB.out.2, bel_tr K4n.out NB.out.2, Ba4n.out.bel NB.out.2⟩ ?_
  rintro Wb ⟨BMb, B4, K4, Ba4⟩
  clear HZ HI HZS HON NB HMb B4n K4n Ba4n
  generalize u5.heap.size = qb at *
  have SM := hide (machines_yes BMb.out.mv B4.out.mv)
  rw [mc_is, mc_is] at SM
  go_wp2_with (first | (refine wpList_load_mid rfl 27 _ rfl qb 0 rfl _ _ BMb.out.rg Try.underlying27 rfl BMb.out.il ?_) | (refine wpList_load_mid rfl 27 _ rfl w.heap.size 0 rfl _ _ B4.out.rg Try.underlying27 rfl B4.out.il ?_))
  refine SM.out.mono ?_
  rintro e w6 ⟨rfl, hb6⟩
  have B6 := hide (B4.out.bel hb6)
  have K6 := hide (bel_tr K4.out hb6)
  have Ba6 := hide (Ba4.out.bel hb6)
  clear SM hb6 B4 K4 Ba4 BMb
  have RR := hide (read_any B6.out.mv other 4 IO.out)
  rw [mc_is] at RR
  unfold RdEnds at RR
  go_wp2_with (first | (refine wpList_load_mid rfl 27 _ rfl w.heap.size 0 rfl _ _ B6.out.rg Try.underlying27 rfl B6.out.il ?_))
  refine RR.out.mono ?_
  rintro e w7 ⟨rfl, hb7⟩
  have B7 := hide (B6.out.bel hb7)
  have K7 := hide (bel_tr K6.out hb7)
  have Ba7 := hide (Ba6.out.bel hb7)
  clear RR hb7 B6 K6 Ba6
  have RR := hide (read_any Ba7.out.mv other 4 IO.out)
  rw [mc_is] at RR
  unfold RdEnds at RR
  simp only at RR
  rw [HDD.out] at RR
  go_wp2_with (first | (refine wpList_load_mid rfl 27 _ rfl qa 0 rfl _ _ Ba7.out.rg Try.underlying27 rfl Ba7.out.il ?_))
  refine RR.out.mono ?_
  rintro e w8 ⟨rfl, hb8⟩
  have B8 := hide (B7.out.bel hb8)
  have K8 := hide (bel_tr K7.out hb8)
  clear RR hb8 B7 K7 Ba7
  obtain ⟨_, _, _, _, _, a21, _⟩ := ml_c B8.out.mv.len B8.out.row
  generalize (rdM m.g other 4).getD 0 = A at *
  generalize (rdM m.g other 4).isSome = bA at *
  generalize (rdM g other 4).getD 0 = C at *
  go_wp2_with fail
  all_goals
    go_ret
    exact ⟨by first | (simp; done) | (simp; omega), K8.out⟩
set_option maxRecDepth 100000 in
set_option maxHeartbeats 6400000 in
theorem puts_4_1b {m : Mc} {v : Value} {w : World} (h : MV m v w) (a x other : Int) (ia : I64 a) (ix : I64 x) (io : I64 other) {g : List Rg} {was : Int} (iw : I64 was) (hp : ptM m.g a 4 x = some g) (hr : rdM m.g a 4 = some was) (hr2 : rdM g a 4 = some (x % 4294967296)) (hb : ptM g a 4 was = some m.g) (hd : (rdM g other 4).isSome = (rdM m.g other 4).isSome) (h1 : a < other) (h2 : 4 ≤ wrap64 (other - a)) (hac : (rdM g other 4).getD 0 = (rdM m.g other 4).getD 0) : Calls Try.prog 6 #[v, .int .i64 a, .bool false, .int .i64 x, .int .i64 other] w fun e w' => e = .returned (.bool true) ∧ Below w.heap.size w w' := by
  obtain ⟨ra, rc, rfl⟩ := h.sl
  have B0 := hide (bm_arg h)
  rw [mc_is]
  have a32 := and32 x ix
  have IA := hide ia
  have IX := hide ix
  have IO := hide io
  have HRD := hide hr
  have HPT := hide hp
  have HR2 := hide hr2
  have HBK := hide hb
  have HDD := hide hd
  have HAC := hide hac
  clear hp hr hr2 hb hd iw hac
  clear h ia ix io
  go_enter Try.func6, Try.ntmps6
  go_wp2_with fail
  refine gw (motive := fun x => Calls _ _ _ x _) (fun W => Hid (BM w.heap.size m (.slice ra m.g.length rc) W) ∧ Hid (Below w.heap.size w W)) ⟨B0.out, bel_one _ _⟩ ?_
  rintro W ⟨BW, KW⟩
  clear B0
  refine (examples_any _).mono ?_
  rintro e w1 ⟨rfl, hb⟩
  have B1 := hide (BW.out.bel hb)
  have K1 := hide (bel_tr KW.out hb)
  clear hb BW KW
  have RR := hide (read_any B1.out.mv a 4 IA.out)
  rw [mc_is] at RR
  unfold RdEnds at RR
  rw [HRD.out] at RR
  simp only [Option.getD_some, Option.isSome_some, Option.getD_none, Option.isSome_none] at RR
  go_wp2_with (first | (refine wpList_load_mid rfl 27 _ rfl w.heap.size 0 rfl _ _ B1.out.rg Try.underlying27 rfl B1.out.il ?_))
  refine RR.out.mono ?_
  rintro e w2 ⟨rfl, hb2⟩
  have B2 := hide (B1.out.bel hb2)
  have K2 := hide (bel_tr K1.out hb2)
  clear RR hb2 B1 K1 a32
  have RR := hide (put_any B2.out.mv a 4 x IA.out)
  rw [mc_is] at RR
  go_wp2_with (first | (refine wpList_load_mid rfl 27 _ rfl w.heap.size 0 rfl _ _ B2.out.rg Try.underlying27 rfl B2.out.il ?_))
  refine RR.out.mono ?_
  rintro e u3 ⟨va, rfl, hma, hb3⟩
  rw [HPT.out] at hma ⊢
  simp only [Option.getD_some, Option.isSome_some, Option.getD_none, Option.isSome_none] at hma ⊢
  generalize hMa : ({ m with g := g } : Mc) = Ma at hma
  have HEa := hide hMa
  clear hMa
  obtain ⟨raa, rca, rfl⟩ := hma.sl
  have HMa := hide hma
  rw [mc_is]
  have B2n := hide (B2.out.bel hb3)
  have K2n := hide (bel_tr K2.out hb3)
  clear hma hb3 RR B2 K2
  have HZ := hide (z_row u3)
  have HI := hide (z_inf HMa.out.len (.slice raa Ma.g.length rca))
  have HZS := hide (z_siz HMa.out.len (.slice raa Ma.g.length rca))
  have HON := hide (ml_one Ma raa Ma.g.length rca)
  have NB := hide (bm_new HMa.out)
  unfold zm at HZ HZS NB
  go_upto_region 9 with (refine wpList_store_row rfl 27 _ _ rfl u3.heap.size _ rfl rfl 27 zm HZ.out HI.out HZS.out HON.out ?_)
  refine gw (motive := fun x => Code.wp _ _ _ _ x) (fun V => Hid (BM u3.heap.size Ma (.slice raa Ma.g.length rca) V) ∧ Hid (BM w.heap.size m (.slice ra m.g.length rc) V) ∧ Hid (Below w.heap.size w V)) ⟨NB.out.1, B2n.out.bel NB.out.2, bel_tr K2n.out NB.out.2⟩ ?_
  rintro Wa ⟨BMa, B2, K2⟩
  clear HZ HI HZS HON NB HMa B2n K2n
  generalize u3.heap.size = qa at *
  rw [← HEa.out] at BMa
  have RR := hide (read_any BMa.out.mv a 4 IA.out)
  rw [mc_is] at RR
  unfold RdEnds at RR
  simp only at RR
  rw [HR2.out] at RR
  simp only [Option.getD_some, Option.isSome_some] at RR
  go_wp2_with (first | (refine wpList_load_mid rfl 27 _ rfl qa 0 rfl _ _ BMa.out.rg Try.underlying27 rfl BMa.out.il ?_))
  refine RR.out.mono ?_
  rintro e w4 ⟨rfl, hb4⟩
  have B4 := hide (B2.out.bel hb4)
  have K4 := hide (bel_tr K2.out hb4)
  have Ba4 := hide (BMa.out.bel hb4)
  clear RR hb4 B2 K2 BMa
  have RR := hide (put_any Ba4.out.mv a 4 was IA.out)
  rw [mc_is] at RR
  go_wp2_with (first | (refine wpList_load_mid rfl 27 _ rfl qa 0 rfl _ _ Ba4.out.rg Try.underlying27 rfl Ba4.out.il ?_))
  refine RR.out.mono ?_
  rintro e u5 ⟨vb, rfl, hmb, hb5⟩
  simp only at hmb ⊢
  rw [HBK.out] at hmb ⊢
  simp only [Option.getD_some, Option.isSome_some] at hmb ⊢
  change MV m vb u5 at hmb
  obtain ⟨rab, rcb, rfl⟩ := hmb.sl
  have HMb := hide hmb
  rw [mc_is]
  have B4n := hide (B4.out.bel hb5)
  have K4n := hide (bel_tr K4.out hb5)
  have Ba4n := hide (Ba4.out.bel hb5)
  clear hmb hb5 RR B4 K4 Ba4
  have HZ := hide (z_row u5)
  have HI := hide (z_inf HMb.out.len (.slice rab m.g.length rcb))
  have HZS := hide (z_siz HMb.out.len (.slice rab m.g.length rcb))
  have HON := hide (ml_one m rab m.g.length rcb)
  have NB := hide (bm_new HMb.out)
  unfold zm at HZ HZS NB
  go_upto_region 14 with (refine wpList_store_row rfl 27 _ _ rfl u5.heap.size _ rfl rfl 27 zm HZ.out HI.out HZS.out HON.out ?_)
  refine gw (motive := fun x => Code.wp _ _ _ _ x) (fun V => Hid (BM u5.heap.size m (.slice rab m.g.length rcb) V) ∧ Hid (BM w.heap.size m (.slice ra m.g.length rc) V) ∧ Hid (Below w.heap.size w V) ∧ Hid (BM qa { m with g := g } (.slice raa g.length rca) V)) ⟨NB.out.1, B4n.out.bel NB.out.2, bel_tr K4n.out NB.out.2, Ba4n.out.bel NB.out.2⟩ ?_
  rintro Wb ⟨BMb, B4, K4, Ba4⟩
  clear HZ HI HZS HON NB HMb B4n K4n Ba4n
  generalize u5.heap.size = qb at *
  have SM := hide (machines_yes BMb.out.mv B4.out.mv)
  rw [mc_is, mc_is] at SM
  go_wp2_with (first | (refine wpList_load_mid rfl 27 _ rfl qb 0 rfl _ _ BMb.out.rg Try.underlying27 rfl BMb.out.il ?_) | (refine wpList_load_mid rfl 27 _ rfl w.heap.size 0 rfl _ _ B4.out.rg Try.underlying27 rfl B4.out.il ?_))
  refine SM.out.mono ?_
  rintro e w6 ⟨rfl, hb6⟩
  have B6 := hide (B4.out.bel hb6)
  have K6 := hide (bel_tr K4.out hb6)
  have Ba6 := hide (Ba4.out.bel hb6)
  clear SM hb6 B4 K4 Ba4 BMb
  have RR := hide (read_any B6.out.mv other 4 IO.out)
  rw [mc_is] at RR
  unfold RdEnds at RR
  go_wp2_with (first | (refine wpList_load_mid rfl 27 _ rfl w.heap.size 0 rfl _ _ B6.out.rg Try.underlying27 rfl B6.out.il ?_))
  refine RR.out.mono ?_
  rintro e w7 ⟨rfl, hb7⟩
  have B7 := hide (B6.out.bel hb7)
  have K7 := hide (bel_tr K6.out hb7)
  have Ba7 := hide (Ba6.out.bel hb7)
  clear RR hb7 B6 K6 Ba6
  have RR := hide (read_any Ba7.out.mv other 4 IO.out)
  rw [mc_is] at RR
  unfold RdEnds at RR
  simp only at RR
  rw [HDD.out, HAC.out] at RR
  go_wp2_with (first | (refine wpList_load_mid rfl 27 _ rfl qa 0 rfl _ _ Ba7.out.rg Try.underlying27 rfl Ba7.out.il ?_))
  refine RR.out.mono ?_
  rintro e w8 ⟨rfl, hb8⟩
  have B8 := hide (B7.out.bel hb8)
  have K8 := hide (bel_tr K7.out hb8)
  clear RR hb8 B7 K7 Ba7
  obtain ⟨_, _, _, _, _, a21, _⟩ := ml_c B8.out.mv.len B8.out.row
  generalize (rdM m.g other 4).getD 0 = A at *
  generalize (rdM m.g other 4).isSome = bA at *
  generalize (rdM g other 4).getD 0 = C at *
  go_wp2_with fail
  all_goals
    go_ret
    exact ⟨by first | (simp; done) | (simp; omega), K8.out⟩
set_option maxRecDepth 100000 in
set_option maxHeartbeats 6400000 in
theorem puts_4_2 {m : Mc} {v : Value} {w : World} (h : MV m v w) (a x other : Int) (ia : I64 a) (ix : I64 x) (io : I64 other) {g : List Rg} {was : Int} (iw : I64 was) (hp : ptM m.g a 4 x = some g) (hr : rdM m.g a 4 = some was) (hr2 : rdM g a 4 = some (x % 4294967296)) (hb : ptM g a 4 was = some m.g) (hd : (rdM g other 4).isSome = (rdM m.g other 4).isSome) (h1 : a < other) (h2 : ¬ 4 ≤ wrap64 (other - a)) (h3 : ¬ other < a) : Calls Try.prog 6 #[v, .int .i64 a, .bool false, .int .i64 x, .int .i64 other] w fun e w' => e = .returned (.bool true) ∧ Below w.heap.size w w' := by
  obtain ⟨ra, rc, rfl⟩ := h.sl
  have B0 := hide (bm_arg h)
  rw [mc_is]
  have a32 := and32 x ix
  have IA := hide ia
  have IX := hide ix
  have IO := hide io
  have HRD := hide hr
  have HPT := hide hp
  have HR2 := hide hr2
  have HBK := hide hb
  have HDD := hide hd
  clear hp hr hr2 hb hd iw
  clear h ia ix io
  go_enter Try.func6, Try.ntmps6
  go_wp2_with fail
  refine gw (motive := fun x => Calls _ _ _ x _) (fun W => Hid (BM w.heap.size m (.slice ra m.g.length rc) W) ∧ Hid (Below w.heap.size w W)) ⟨B0.out, bel_one _ _⟩ ?_
  rintro W ⟨BW, KW⟩
  clear B0
  refine (examples_any _).mono ?_
  rintro e w1 ⟨rfl, hb⟩
  have B1 := hide (BW.out.bel hb)
  have K1 := hide (bel_tr KW.out hb)
  clear hb BW KW
  have RR := hide (read_any B1.out.mv a 4 IA.out)
  rw [mc_is] at RR
  unfold RdEnds at RR
  rw [HRD.out] at RR
  simp only [Option.getD_some, Option.isSome_some, Option.getD_none, Option.isSome_none] at RR
  go_wp2_with (first | (refine wpList_load_mid rfl 27 _ rfl w.heap.size 0 rfl _ _ B1.out.rg Try.underlying27 rfl B1.out.il ?_))
  refine RR.out.mono ?_
  rintro e w2 ⟨rfl, hb2⟩
  have B2 := hide (B1.out.bel hb2)
  have K2 := hide (bel_tr K1.out hb2)
  clear RR hb2 B1 K1 a32
  have RR := hide (put_any B2.out.mv a 4 x IA.out)
  rw [mc_is] at RR
  go_wp2_with (first | (refine wpList_load_mid rfl 27 _ rfl w.heap.size 0 rfl _ _ B2.out.rg Try.underlying27 rfl B2.out.il ?_))
  refine RR.out.mono ?_
  rintro e u3 ⟨va, rfl, hma, hb3⟩
  rw [HPT.out] at hma ⊢
  simp only [Option.getD_some, Option.isSome_some, Option.getD_none, Option.isSome_none] at hma ⊢
  generalize hMa : ({ m with g := g } : Mc) = Ma at hma
  have HEa := hide hMa
  clear hMa
  obtain ⟨raa, rca, rfl⟩ := hma.sl
  have HMa := hide hma
  rw [mc_is]
  have B2n := hide (B2.out.bel hb3)
  have K2n := hide (bel_tr K2.out hb3)
  clear hma hb3 RR B2 K2
  have HZ := hide (z_row u3)
  have HI := hide (z_inf HMa.out.len (.slice raa Ma.g.length rca))
  have HZS := hide (z_siz HMa.out.len (.slice raa Ma.g.length rca))
  have HON := hide (ml_one Ma raa Ma.g.length rca)
  have NB := hide (bm_new HMa.out)
  unfold zm at HZ HZS NB
  go_upto_region 9 with (refine wpList_store_row rfl 27 _ _ rfl u3.heap.size _ rfl rfl 27 zm HZ.out HI.out HZS.out HON.out ?_)
  refine gw (motive := fun x => Code.wp _ _ _ _ x) (fun V => Hid (BM u3.heap.size Ma (.slice raa Ma.g.length rca) V) ∧ Hid (BM w.heap.size m (.slice ra m.g.length rc) V) ∧ Hid (Below w.heap.size w V)) ⟨NB.out.1, B2n.out.bel NB.out.2, bel_tr K2n.out NB.out.2⟩ ?_
  rintro Wa ⟨BMa, B2, K2⟩
  clear HZ HI HZS HON NB HMa B2n K2n
  generalize u3.heap.size = qa at *
  rw [← HEa.out] at BMa
  have RR := hide (read_any BMa.out.mv a 4 IA.out)
  rw [mc_is] at RR
  unfold RdEnds at RR
  simp only at RR
  rw [HR2.out] at RR
  simp only [Option.getD_some, Option.isSome_some] at RR
  go_wp2_with (first | (refine wpList_load_mid rfl 27 _ rfl qa 0 rfl _ _ BMa.out.rg Try.underlying27 rfl BMa.out.il ?_))
  refine RR.out.mono ?_
  rintro e w4 ⟨rfl, hb4⟩
  have B4 := hide (B2.out.bel hb4)
  have K4 := hide (bel_tr K2.out hb4)
  have Ba4 := hide (BMa.out.bel hb4)
  clear RR hb4 B2 K2 BMa
  have RR := hide (put_any Ba4.out.mv a 4 was IA.out)
  rw [mc_is] at RR
  go_wp2_with (first | (refine wpList_load_mid rfl 27 _ rfl qa 0 rfl _ _ Ba4.out.rg Try.underlying27 rfl Ba4.out.il ?_))
  refine RR.out.mono ?_
  rintro e u5 ⟨vb, rfl, hmb, hb5⟩
  simp only at hmb ⊢
  rw [HBK.out] at hmb ⊢
  simp only [Option.getD_some, Option.isSome_some] at hmb ⊢
  change MV m vb u5 at hmb
  obtain ⟨rab, rcb, rfl⟩ := hmb.sl
  have HMb := hide hmb
  rw [mc_is]
  have B4n := hide (B4.out.bel hb5)
  have K4n := hide (bel_tr K4.out hb5)
  have Ba4n := hide (Ba4.out.bel hb5)
  clear hmb hb5 RR B4 K4 Ba4
  have HZ := hide (z_row u5)
  have HI := hide (z_inf HMb.out.len (.slice rab m.g.length rcb))
  have HZS := hide (z_siz HMb.out.len (.slice rab m.g.length rcb))
  have HON := hide (ml_one m rab m.g.length rcb)
  have NB := hide (bm_new HMb.out)
  unfold zm at HZ HZS NB
  go_upto_region 14 with (refine wpList_store_row rfl 27 _ _ rfl u5.heap.size _ rfl rfl 27 zm HZ.out HI.out HZS.out HON.out ?_)
  refine gw (motive := fun x => Code.wp _ _ _ _ x) (fun V => Hid (BM u5.heap.size m (.slice rab m.g.length rcb) V) ∧ Hid (BM w.heap.size m (.slice ra m.g.length rc) V) ∧ Hid (Below w.heap.size w V) ∧ Hid (BM qa { m with g := g } (.slice raa g.length rca) V)) ⟨NB.out.1, B4n.out.bel NB.out.2, bel_tr K4n.out NB.out.2, Ba4n.out.bel NB.out.2⟩ ?_
  rintro Wb ⟨BMb, B4, K4, Ba4⟩
  clear HZ HI HZS HON NB HMb B4n K4n Ba4n
  generalize u5.heap.size = qb at *
  have SM := hide (machines_yes BMb.out.mv B4.out.mv)
  rw [mc_is, mc_is] at SM
  go_wp2_with (first | (refine wpList_load_mid rfl 27 _ rfl qb 0 rfl _ _ BMb.out.rg Try.underlying27 rfl BMb.out.il ?_) | (refine wpList_load_mid rfl 27 _ rfl w.heap.size 0 rfl _ _ B4.out.rg Try.underlying27 rfl B4.out.il ?_))
  refine SM.out.mono ?_
  rintro e w6 ⟨rfl, hb6⟩
  have B6 := hide (B4.out.bel hb6)
  have K6 := hide (bel_tr K4.out hb6)
  have Ba6 := hide (Ba4.out.bel hb6)
  clear SM hb6 B4 K4 Ba4 BMb
  have RR := hide (read_any B6.out.mv other 4 IO.out)
  rw [mc_is] at RR
  unfold RdEnds at RR
  go_wp2_with (first | (refine wpList_load_mid rfl 27 _ rfl w.heap.size 0 rfl _ _ B6.out.rg Try.underlying27 rfl B6.out.il ?_))
  refine RR.out.mono ?_
  rintro e w7 ⟨rfl, hb7⟩
  have B7 := hide (B6.out.bel hb7)
  have K7 := hide (bel_tr K6.out hb7)
  have Ba7 := hide (Ba6.out.bel hb7)
  clear RR hb7 B6 K6 Ba6
  have RR := hide (read_any Ba7.out.mv other 4 IO.out)
  rw [mc_is] at RR
  unfold RdEnds at RR
  simp only at RR
  rw [HDD.out] at RR
  go_wp2_with (first | (refine wpList_load_mid rfl 27 _ rfl qa 0 rfl _ _ Ba7.out.rg Try.underlying27 rfl Ba7.out.il ?_))
  refine RR.out.mono ?_
  rintro e w8 ⟨rfl, hb8⟩
  have B8 := hide (B7.out.bel hb8)
  have K8 := hide (bel_tr K7.out hb8)
  clear RR hb8 B7 K7 Ba7
  obtain ⟨_, _, _, _, _, a21, _⟩ := ml_c B8.out.mv.len B8.out.row
  generalize (rdM m.g other 4).getD 0 = A at *
  generalize (rdM m.g other 4).isSome = bA at *
  generalize (rdM g other 4).getD 0 = C at *
  go_wp2_with fail
  all_goals
    go_ret
    exact ⟨by first | (simp; done) | (simp; omega), K8.out⟩
set_option maxRecDepth 100000 in
set_option maxHeartbeats 6400000 in
theorem puts_4_3a {m : Mc} {v : Value} {w : World} (h : MV m v w) (a x other : Int) (ia : I64 a) (ix : I64 x) (io : I64 other) {g : List Rg} {was : Int} (iw : I64 was) (hp : ptM m.g a 4 x = some g) (hr : rdM m.g a 4 = some was) (hr2 : rdM g a 4 = some (x % 4294967296)) (hb : ptM g a 4 was = some m.g) (hd : (rdM g other 4).isSome = (rdM m.g other 4).isSome) (h1 : ¬ a < other) (h3 : other < a) (h4 : 4 ≤ wrap64 (a - other)) (hl : 1 < m.g.length) : Calls Try.prog 6 #[v, .int .i64 a, .bool false, .int .i64 x, .int .i64 other] w fun e w' => e = .returned (.bool true) ∧ Below w.heap.size w w' := by
  obtain ⟨ra, rc, rfl⟩ := h.sl
  have B0 := hide (bm_arg h)
  rw [mc_is]
  have a32 := and32 x ix
  have IA := hide ia
  have IX := hide ix
  have IO := hide io
  have HRD := hide hr
  have HPT := hide hp
  have HR2 := hide hr2
  have HBK := hide hb
  have HDD := hide hd
  clear hp hr hr2 hb hd iw
  clear h ia ix io
  go_enter Try.func6, Try.ntmps6
  go_wp2_with fail
  refine gw (motive := fun x => Calls _ _ _ x _) (fun W => Hid (BM w.heap.size m (.slice ra m.g.length rc) W) ∧ Hid (Below w.heap.size w W)) ⟨B0.out, bel_one _ _⟩ ?_
  rintro W ⟨BW, KW⟩
  clear B0
  refine (examples_any _).mono ?_
  rintro e w1 ⟨rfl, hb⟩
  have B1 := hide (BW.out.bel hb)
  have K1 := hide (bel_tr KW.out hb)
  clear hb BW KW
  have RR := hide (read_any B1.out.mv a 4 IA.out)
  rw [mc_is] at RR
  unfold RdEnds at RR
  rw [HRD.out] at RR
  simp only [Option.getD_some, Option.isSome_some, Option.getD_none, Option.isSome_none] at RR
  go_wp2_with (first | (refine wpList_load_mid rfl 27 _ rfl w.heap.size 0 rfl _ _ B1.out.rg Try.underlying27 rfl B1.out.il ?_))
  refine RR.out.mono ?_
  rintro e w2 ⟨rfl, hb2⟩
  have B2 := hide (B1.out.bel hb2)
  have K2 := hide (bel_tr K1.out hb2)
  clear RR hb2 B1 K1 a32
  have RR := hide (put_any B2.out.mv a 4 x IA.out)
  rw [mc_is] at RR
  go_wp2_with (first | (refine wpList_load_mid rfl 27 _ rfl w.heap.size 0 rfl _ _ B2.out.rg Try.underlying27 rfl B2.out.il ?_))
  refine RR.out.mono ?_
  rintro e u3 ⟨va, rfl, hma, hb3⟩
  rw [HPT.out] at hma ⊢
  simp only [Option.getD_some, Option.isSome_some, Option.getD_none, Option.isSome_none] at hma ⊢
  generalize hMa : ({ m with g := g } : Mc) = Ma at hma
  have HEa := hide hMa
  clear hMa
  obtain ⟨raa, rca, rfl⟩ := hma.sl
  have HMa := hide hma
  rw [mc_is]
  have B2n := hide (B2.out.bel hb3)
  have K2n := hide (bel_tr K2.out hb3)
  clear hma hb3 RR B2 K2
  have HZ := hide (z_row u3)
  have HI := hide (z_inf HMa.out.len (.slice raa Ma.g.length rca))
  have HZS := hide (z_siz HMa.out.len (.slice raa Ma.g.length rca))
  have HON := hide (ml_one Ma raa Ma.g.length rca)
  have NB := hide (bm_new HMa.out)
  unfold zm at HZ HZS NB
  go_upto_region 9 with (refine wpList_store_row rfl 27 _ _ rfl u3.heap.size _ rfl rfl 27 zm HZ.out HI.out HZS.out HON.out ?_)
  refine gw (motive := fun x => Code.wp _ _ _ _ x) (fun V => Hid (BM u3.heap.size Ma (.slice raa Ma.g.length rca) V) ∧ Hid (BM w.heap.size m (.slice ra m.g.length rc) V) ∧ Hid (Below w.heap.size w V)) ⟨NB.out.1, B2n.out.bel NB.out.2, bel_tr K2n.out NB.out.2⟩ ?_
  rintro Wa ⟨BMa, B2, K2⟩
  clear HZ HI HZS HON NB HMa B2n K2n
  generalize u3.heap.size = qa at *
  rw [← HEa.out] at BMa
  have RR := hide (read_any BMa.out.mv a 4 IA.out)
  rw [mc_is] at RR
  unfold RdEnds at RR
  simp only at RR
  rw [HR2.out] at RR
  simp only [Option.getD_some, Option.isSome_some] at RR
  go_wp2_with (first | (refine wpList_load_mid rfl 27 _ rfl qa 0 rfl _ _ BMa.out.rg Try.underlying27 rfl BMa.out.il ?_))
  refine RR.out.mono ?_
  rintro e w4 ⟨rfl, hb4⟩
  have B4 := hide (B2.out.bel hb4)
  have K4 := hide (bel_tr K2.out hb4)
  have Ba4 := hide (BMa.out.bel hb4)
  clear RR hb4 B2 K2 BMa
  have RR := hide (put_any Ba4.out.mv a 4 was IA.out)
  rw [mc_is] at RR
  go_wp2_with (first | (refine wpList_load_mid rfl 27 _ rfl qa 0 rfl _ _ Ba4.out.rg Try.underlying27 rfl Ba4.out.il ?_))
  refine RR.out.mono ?_
  rintro e u5 ⟨vb, rfl, hmb, hb5⟩
  simp only at hmb ⊢
  rw [HBK.out] at hmb ⊢
  simp only [Option.getD_some, Option.isSome_some] at hmb ⊢
  change MV m vb u5 at hmb
  obtain ⟨rab, rcb, rfl⟩ := hmb.sl
  have HMb := hide hmb
  rw [mc_is]
  have B4n := hide (B4.out.bel hb5)
  have K4n := hide (bel_tr K4.out hb5)
  have Ba4n := hide (Ba4.out.bel hb5)
  clear hmb hb5 RR B4 K4 Ba4
  have HZ := hide (z_row u5)
  have HI := hide (z_inf HMb.out.len (.slice rab m.g.length rcb))
  have HZS := hide (z_siz HMb.out.len (.slice rab m.g.length rcb))
  have HON := hide (ml_one m rab m.g.length rcb)
  have NB := hide (bm_new HMb.out)
  unfold zm at HZ HZS NB
  go_upto_region 14 with (refine wpList_store_row rfl 27 _ _ rfl u5.heap.size _ rfl rfl 27 zm HZ.out HI.out HZS.out HON.out ?_)
  refine gw (motive := fun x => Code.wp _ _ _ _ x) (fun V => Hid (BM u5.heap.size m (.slice rab m.g.length rcb) V) ∧ Hid (BM w.heap.size m (.slice ra m.g.length rc) V) ∧ Hid (Below w.heap.size w V) ∧ Hid (BM qa { m with g := g } (.slice raa g.length rca) V)) ⟨NB.out.1, B4n.out.bel NB.out.2, bel_tr K4n.out NB.out.2, Ba4n.out.bel NB.out.2⟩ ?_
  rintro Wb ⟨BMb, B4, K4, Ba4⟩
  clear HZ HI HZS HON NB HMb B4n K4n Ba4n
  generalize u5.heap.size = qb at *
  have SM := hide (machines_yes BMb.out.mv B4.out.mv)
  rw [mc_is, mc_is] at SM
  go_wp2_with (first | (refine wpList_load_mid rfl 27 _ rfl qb 0 rfl _ _ BMb.out.rg Try.underlying27 rfl BMb.out.il ?_) | (refine wpList_load_mid rfl 27 _ rfl w.heap.size 0 rfl _ _ B4.out.rg Try.underlying27 rfl B4.out.il ?_))
  refine SM.out.mono ?_
  rintro e w6 ⟨rfl, hb6⟩
  have B6 := hide (B4.out.bel hb6)
  have K6 := hide (bel_tr K4.out hb6)
  have Ba6 := hide (Ba4.out.bel hb6)
  clear SM hb6 B4 K4 Ba4 BMb
  have RR := hide (read_any B6.out.mv other 4 IO.out)
  rw [mc_is] at RR
  unfold RdEnds at RR
  go_wp2_with (first | (refine wpList_load_mid rfl 27 _ rfl w.heap.size 0 rfl _ _ B6.out.rg Try.underlying27 rfl B6.out.il ?_))
  refine RR.out.mono ?_
  rintro e w7 ⟨rfl, hb7⟩
  have B7 := hide (B6.out.bel hb7)
  have K7 := hide (bel_tr K6.out hb7)
  have Ba7 := hide (Ba6.out.bel hb7)
  clear RR hb7 B6 K6 Ba6
  have RR := hide (read_any Ba7.out.mv other 4 IO.out)
  rw [mc_is] at RR
  unfold RdEnds at RR
  simp only at RR
  rw [HDD.out] at RR
  go_wp2_with (first | (refine wpList_load_mid rfl 27 _ rfl qa 0 rfl _ _ Ba7.out.rg Try.underlying27 rfl Ba7.out.il ?_))
  refine RR.out.mono ?_
  rintro e w8 ⟨rfl, hb8⟩
  have B8 := hide (B7.out.bel hb8)
  have K8 := hide (bel_tr K7.out hb8)
  clear RR hb8 B7 K7 Ba7
  obtain ⟨_, _, _, _, _, a21, _⟩ := ml_c B8.out.mv.len B8.out.row
  generalize (rdM m.g other 4).getD 0 = A at *
  generalize (rdM m.g other 4).isSome = bA at *
  generalize (rdM g other 4).getD 0 = C at *
  go_wp2_with fail
  all_goals
    go_ret
    exact ⟨by first | (simp; done) | (simp; omega), K8.out⟩
set_option maxRecDepth 100000 in
set_option maxHeartbeats 6400000 in
theorem puts_4_3b {m : Mc} {v : Value} {w : World} (h : MV m v w) (a x other : Int) (ia : I64 a) (ix : I64 x) (io : I64 other) {g : List Rg} {was : Int} (iw : I64 was) (hp : ptM m.g a 4 x = some g) (hr : rdM m.g a 4 = some was) (hr2 : rdM g a 4 = some (x % 4294967296)) (hb : ptM g a 4 was = some m.g) (hd : (rdM g other 4).isSome = (rdM m.g other 4).isSome) (h1 : ¬ a < other) (h3 : other < a) (h4 : 4 ≤ wrap64 (a - other)) (hac : (rdM g other 4).getD 0 = (rdM m.g other 4).getD 0) : Calls Try.prog 6 #[v, .int .i64 a, .bool false, .int .i64 x, .int .i64 other] w fun e w' => e = .returned (.bool true) ∧ Below w.heap.size w w' := by
  obtain ⟨ra, rc, rfl⟩ := h.sl
  have B0 := hide (bm_arg h)
  rw [mc_is]
  have a32 := and32 x ix
  have IA := hide ia
  have IX := hide ix
  have IO := hide io
  have HRD := hide hr
  have HPT := hide hp
  have HR2 := hide hr2
  have HBK := hide hb
  have HDD := hide hd
  have HAC := hide hac
  clear hp hr hr2 hb hd iw hac
  clear h ia ix io
  go_enter Try.func6, Try.ntmps6
  go_wp2_with fail
  refine gw (motive := fun x => Calls _ _ _ x _) (fun W => Hid (BM w.heap.size m (.slice ra m.g.length rc) W) ∧ Hid (Below w.heap.size w W)) ⟨B0.out, bel_one _ _⟩ ?_
  rintro W ⟨BW, KW⟩
  clear B0
  refine (examples_any _).mono ?_
  rintro e w1 ⟨rfl, hb⟩
  have B1 := hide (BW.out.bel hb)
  have K1 := hide (bel_tr KW.out hb)
  clear hb BW KW
  have RR := hide (read_any B1.out.mv a 4 IA.out)
  rw [mc_is] at RR
  unfold RdEnds at RR
  rw [HRD.out] at RR
  simp only [Option.getD_some, Option.isSome_some, Option.getD_none, Option.isSome_none] at RR
  go_wp2_with (first | (refine wpList_load_mid rfl 27 _ rfl w.heap.size 0 rfl _ _ B1.out.rg Try.underlying27 rfl B1.out.il ?_))
  refine RR.out.mono ?_
  rintro e w2 ⟨rfl, hb2⟩
  have B2 := hide (B1.out.bel hb2)
  have K2 := hide (bel_tr K1.out hb2)
  clear RR hb2 B1 K1 a32
  have RR := hide (put_any B2.out.mv a 4 x IA.out)
  rw [mc_is] at RR
  go_wp2_with (first | (refine wpList_load_mid rfl 27 _ rfl w.heap.size 0 rfl _ _ B2.out.rg Try.underlying27 rfl B2.out.il ?_))
  refine RR.out.mono ?_
  rintro e u3 ⟨va, rfl, hma, hb3⟩
  rw [HPT.out] at hma ⊢
  simp only [Option.getD_some, Option.isSome_some, Option.getD_none, Option.isSome_none] at hma ⊢
  generalize hMa : ({ m with g := g } : Mc) = Ma at hma
  have HEa := hide hMa
  clear hMa
  obtain ⟨raa, rca, rfl⟩ := hma.sl
  have HMa := hide hma
  rw [mc_is]
  have B2n := hide (B2.out.bel hb3)
  have K2n := hide (bel_tr K2.out hb3)
  clear hma hb3 RR B2 K2
  have HZ := hide (z_row u3)
  have HI := hide (z_inf HMa.out.len (.slice raa Ma.g.length rca))
  have HZS := hide (z_siz HMa.out.len (.slice raa Ma.g.length rca))
  have HON := hide (ml_one Ma raa Ma.g.length rca)
  have NB := hide (bm_new HMa.out)
  unfold zm at HZ HZS NB
  go_upto_region 9 with (refine wpList_store_row rfl 27 _ _ rfl u3.heap.size _ rfl rfl 27 zm HZ.out HI.out HZS.out HON.out ?_)
  refine gw (motive := fun x => Code.wp _ _ _ _ x) (fun V => Hid (BM u3.heap.size Ma (.slice raa Ma.g.length rca) V) ∧ Hid (BM w.heap.size m (.slice ra m.g.length rc) V) ∧ Hid (Below w.heap.size w V)) ⟨NB.out.1, B2n.out.bel NB.out.2, bel_tr K2n.out NB.out.2⟩ ?_
  rintro Wa ⟨BMa, B2, K2⟩
  clear HZ HI HZS HON NB HMa B2n K2n
  generalize u3.heap.size = qa at *
  rw [← HEa.out] at BMa
  have RR := hide (read_any BMa.out.mv a 4 IA.out)
  rw [mc_is] at RR
  unfold RdEnds at RR
  simp only at RR
  rw [HR2.out] at RR
  simp only [Option.getD_some, Option.isSome_some] at RR
  go_wp2_with (first | (refine wpList_load_mid rfl 27 _ rfl qa 0 rfl _ _ BMa.out.rg Try.underlying27 rfl BMa.out.il ?_))
  refine RR.out.mono ?_
  rintro e w4 ⟨rfl, hb4⟩
  have B4 := hide (B2.out.bel hb4)
  have K4 := hide (bel_tr K2.out hb4)
  have Ba4 := hide (BMa.out.bel hb4)
  clear RR hb4 B2 K2 BMa
  have RR := hide (put_any Ba4.out.mv a 4 was IA.out)
  rw [mc_is] at RR
  go_wp2_with (first | (refine wpList_load_mid rfl 27 _ rfl qa 0 rfl _ _ Ba4.out.rg Try.underlying27 rfl Ba4.out.il ?_))
  refine RR.out.mono ?_
  rintro e u5 ⟨vb, rfl, hmb, hb5⟩
  simp only at hmb ⊢
  rw [HBK.out] at hmb ⊢
  simp only [Option.getD_some, Option.isSome_some] at hmb ⊢
  change MV m vb u5 at hmb
  obtain ⟨rab, rcb, rfl⟩ := hmb.sl
  have HMb := hide hmb
  rw [mc_is]
  have B4n := hide (B4.out.bel hb5)
  have K4n := hide (bel_tr K4.out hb5)
  have Ba4n := hide (Ba4.out.bel hb5)
  clear hmb hb5 RR B4 K4 Ba4
  have HZ := hide (z_row u5)
  have HI := hide (z_inf HMb.out.len (.slice rab m.g.length rcb))
  have HZS := hide (z_siz HMb.out.len (.slice rab m.g.length rcb))
  have HON := hide (ml_one m rab m.g.length rcb)
  have NB := hide (bm_new HMb.out)
  unfold zm at HZ HZS NB
  go_upto_region 14 with (refine wpList_store_row rfl 27 _ _ rfl u5.heap.size _ rfl rfl 27 zm HZ.out HI.out HZS.out HON.out ?_)
  refine gw (motive := fun x => Code.wp _ _ _ _ x) (fun V => Hid (BM u5.heap.size m (.slice rab m.g.length rcb) V) ∧ Hid (BM w.heap.size m (.slice ra m.g.length rc) V) ∧ Hid (Below w.heap.size w V) ∧ Hid (BM qa { m with g := g } (.slice raa g.length rca) V)) ⟨NB.out.1, B4n.out.bel NB.out.2, bel_tr K4n.out NB.out.2, Ba4n.out.bel NB.out.2⟩ ?_
  rintro Wb ⟨BMb, B4, K4, Ba4⟩
  clear HZ HI HZS HON NB HMb B4n K4n Ba4n
  generalize u5.heap.size = qb at *
  have SM := hide (machines_yes BMb.out.mv B4.out.mv)
  rw [mc_is, mc_is] at SM
  go_wp2_with (first | (refine wpList_load_mid rfl 27 _ rfl qb 0 rfl _ _ BMb.out.rg Try.underlying27 rfl BMb.out.il ?_) | (refine wpList_load_mid rfl 27 _ rfl w.heap.size 0 rfl _ _ B4.out.rg Try.underlying27 rfl B4.out.il ?_))
  refine SM.out.mono ?_
  rintro e w6 ⟨rfl, hb6⟩
  have B6 := hide (B4.out.bel hb6)
  have K6 := hide (bel_tr K4.out hb6)
  have Ba6 := hide (Ba4.out.bel hb6)
  clear SM hb6 B4 K4 Ba4 BMb
  have RR := hide (read_any B6.out.mv other 4 IO.out)
  rw [mc_is] at RR
  unfold RdEnds at RR
  go_wp2_with (first | (refine wpList_load_mid rfl 27 _ rfl w.heap.size 0 rfl _ _ B6.out.rg Try.underlying27 rfl B6.out.il ?_))
  refine RR.out.mono ?_
  rintro e w7 ⟨rfl, hb7⟩
  have B7 := hide (B6.out.bel hb7)
  have K7 := hide (bel_tr K6.out hb7)
  have Ba7 := hide (Ba6.out.bel hb7)
  clear RR hb7 B6 K6 Ba6
  have RR := hide (read_any Ba7.out.mv other 4 IO.out)
  rw [mc_is] at RR
  unfold RdEnds at RR
  simp only at RR
  rw [HDD.out, HAC.out] at RR
  go_wp2_with (first | (refine wpList_load_mid rfl 27 _ rfl qa 0 rfl _ _ Ba7.out.rg Try.underlying27 rfl Ba7.out.il ?_))
  refine RR.out.mono ?_
  rintro e w8 ⟨rfl, hb8⟩
  have B8 := hide (B7.out.bel hb8)
  have K8 := hide (bel_tr K7.out hb8)
  clear RR hb8 B7 K7 Ba7
  obtain ⟨_, _, _, _, _, a21, _⟩ := ml_c B8.out.mv.len B8.out.row
  generalize (rdM m.g other 4).getD 0 = A at *
  generalize (rdM m.g other 4).isSome = bA at *
  generalize (rdM g other 4).getD 0 = C at *
  go_wp2_with fail
  all_goals
    go_ret
    exact ⟨by first | (simp; done) | (simp; omega), K8.out⟩
set_option maxRecDepth 100000 in
set_option maxHeartbeats 6400000 in
theorem puts_4_4 {m : Mc} {v : Value} {w : World} (h : MV m v w) (a x other : Int) (ia : I64 a) (ix : I64 x) (io : I64 other) {g : List Rg} {was : Int} (iw : I64 was) (hp : ptM m.g a 4 x = some g) (hr : rdM m.g a 4 = some was) (hr2 : rdM g a 4 = some (x % 4294967296)) (hb : ptM g a 4 was = some m.g) (hd : (rdM g other 4).isSome = (rdM m.g other 4).isSome) (h1 : ¬ a < other) (h3 : other < a) (h4 : ¬ 4 ≤ wrap64 (a - other)) : Calls Try.prog 6 #[v, .int .i64 a, .bool false, .int .i64 x, .int .i64 other] w fun e w' => e = .returned (.bool true) ∧ Below w.heap.size w w' := by
  obtain ⟨ra, rc, rfl⟩ := h.sl
  have B0 := hide (bm_arg h)
  rw [mc_is]
  have a32 := and32 x ix
  have IA := hide ia
  have IX := hide ix
  have IO := hide io
  have HRD := hide hr
  have HPT := hide hp
  have HR2 := hide hr2
  have HBK := hide hb
  have HDD := hide hd
  clear hp hr hr2 hb hd iw
  clear h ia ix io
  go_enter Try.func6, Try.ntmps6
  go_wp2_with fail
  refine gw (motive := fun x => Calls _ _ _ x _) (fun W => Hid (BM w.heap.size m (.slice ra m.g.length rc) W) ∧ Hid (Below w.heap.size w W)) ⟨B0.out, bel_one _ _⟩ ?_
  rintro W ⟨BW, KW⟩
  clear B0
  refine (examples_any _).mono ?_
  rintro e w1 ⟨rfl, hb⟩
  have B1 := hide (BW.out.bel hb)
  have K1 := hide (bel_tr KW.out hb)
  clear hb BW KW
  have RR := hide (read_any B1.out.mv a 4 IA.out)
  rw [mc_is] at RR
  unfold RdEnds at RR
  rw [HRD.out] at RR
  simp only [Option.getD_some, Option.isSome_some, Option.getD_none, Option.isSome_none] at RR
  go_wp2_with (first | (refine wpList_load_mid rfl 27 _ rfl w.heap.size 0 rfl _ _ B1.out.rg Try.underlying27 rfl B1.out.il ?_))
  refine RR.out.mono ?_
  rintro e w2 ⟨rfl, hb2⟩
  have B2 := hide (B1.out.bel hb2)
  have K2 := hide (bel_tr K1.out hb2)
  clear RR hb2 B1 K1 a32
  have RR := hide (put_any B2.out.mv a 4 x IA.out)
  rw [mc_is] at RR
  go_wp2_with (first | (refine wpList_load_mid rfl 27 _ rfl w.heap.size 0 rfl _ _ B2.out.rg Try.underlying27 rfl B2.out.il ?_))
  refine RR.out.mono ?_
  rintro e u3 ⟨va, rfl, hma, hb3⟩
  rw [HPT.out] at hma ⊢
  simp only [Option.getD_some, Option.isSome_some, Option.getD_none, Option.isSome_none] at hma ⊢
  generalize hMa : ({ m with g := g } : Mc) = Ma at hma
  have HEa := hide hMa
  clear hMa
  obtain ⟨raa, rca, rfl⟩ := hma.sl
  have HMa := hide hma
  rw [mc_is]
  have B2n := hide (B2.out.bel hb3)
  have K2n := hide (bel_tr K2.out hb3)
  clear hma hb3 RR B2 K2
  have HZ := hide (z_row u3)
  have HI := hide (z_inf HMa.out.len (.slice raa Ma.g.length rca))
  have HZS := hide (z_siz HMa.out.len (.slice raa Ma.g.length rca))
  have HON := hide (ml_one Ma raa Ma.g.length rca)
  have NB := hide (bm_new HMa.out)
  unfold zm at HZ HZS NB
  go_upto_region 9 with (refine wpList_store_row rfl 27 _ _ rfl u3.heap.size _ rfl rfl 27 zm HZ.out HI.out HZS.out HON.out ?_)
  refine gw (motive := fun x => Code.wp _ _ _ _ x) (fun V => Hid (BM u3.heap.size Ma (.slice raa Ma.g.length rca) V) ∧ Hid (BM w.heap.size m (.slice ra m.g.length rc) V) ∧ Hid (Below w.heap.size w V)) ⟨NB.out.1, B2n.out.bel NB.out.2, bel_tr K2n.out NB.out.2⟩ ?_
  rintro Wa ⟨BMa, B2, K2⟩
  clear HZ HI HZS HON NB HMa B2n K2n
  generalize u3.heap.size = qa at *
  rw [← HEa.out] at BMa
  have RR := hide (read_any BMa.out.mv a 4 IA.out)
  rw [mc_is] at RR
  unfold RdEnds at RR
  simp only at RR
  rw [HR2.out] at RR
  simp only [Option.getD_some, Option.isSome_some] at RR
  go_wp2_with (first | (refine wpList_load_mid rfl 27 _ rfl qa 0 rfl _ _ BMa.out.rg Try.underlying27 rfl BMa.out.il ?_))
  refine RR.out.mono ?_
  rintro e w4 ⟨rfl, hb4⟩
  have B4 := hide (B2.out.bel hb4)
  have K4 := hide (bel_tr K2.out hb4)
  have Ba4 := hide (BMa.out.bel hb4)
  clear RR hb4 B2 K2 BMa
  have RR := hide (put_any Ba4.out.mv a 4 was IA.out)
  rw [mc_is] at RR
  go_wp2_with (first | (refine wpList_load_mid rfl 27 _ rfl qa 0 rfl _ _ Ba4.out.rg Try.underlying27 rfl Ba4.out.il ?_))
  refine RR.out.mono ?_
  rintro e u5 ⟨vb, rfl, hmb, hb5⟩
  simp only at hmb ⊢
  rw [HBK.out] at hmb ⊢
  simp only [Option.getD_some, Option.isSome_some] at hmb ⊢
  change MV m vb u5 at hmb
  obtain ⟨rab, rcb, rfl⟩ := hmb.sl
  have HMb := hide hmb
  rw [mc_is]
  have B4n := hide (B4.out.bel hb5)
  have K4n := hide (bel_tr K4.out hb5)
  have Ba4n := hide (Ba4.out.bel hb5)
  clear hmb hb5 RR B4 K4 Ba4
  have HZ := hide (z_row u5)
  have HI := hide (z_inf HMb.out.len (.slice rab m.g.length rcb))
  have HZS := hide (z_siz HMb.out.len (.slice rab m.g.length rcb))
  have HON := hide (ml_one m rab m.g.length rcb)
  have NB := hide (bm_new HMb.out)
  unfold zm at HZ HZS NB
  go_upto_region 14 with (refine wpList_store_row rfl 27 _ _ rfl u5.heap.size _ rfl rfl 27 zm HZ.out HI.out HZS.out HON.out ?_)
  refine gw (motive := fun x => Code.wp _ _ _ _ x) (fun V => Hid (BM u5.heap.size m (.slice rab m.g.length rcb) V) ∧ Hid (BM w.heap.size m (.slice ra m.g.length rc) V) ∧ Hid (Below w.heap.size w V) ∧ Hid (BM qa { m with g := g } (.slice raa g.length rca) V)) ⟨NB.out.1, B4n.out.bel NB.out.2, bel_tr K4n.out NB.out.2, Ba4n.out.bel NB.out.2⟩ ?_
  rintro Wb ⟨BMb, B4, K4, Ba4⟩
  clear HZ HI HZS HON NB HMb B4n K4n Ba4n
  generalize u5.heap.size = qb at *
  have SM := hide (machines_yes BMb.out.mv B4.out.mv)
  rw [mc_is, mc_is] at SM
  go_wp2_with (first | (refine wpList_load_mid rfl 27 _ rfl qb 0 rfl _ _ BMb.out.rg Try.underlying27 rfl BMb.out.il ?_) | (refine wpList_load_mid rfl 27 _ rfl w.heap.size 0 rfl _ _ B4.out.rg Try.underlying27 rfl B4.out.il ?_))
  refine SM.out.mono ?_
  rintro e w6 ⟨rfl, hb6⟩
  have B6 := hide (B4.out.bel hb6)
  have K6 := hide (bel_tr K4.out hb6)
  have Ba6 := hide (Ba4.out.bel hb6)
  clear SM hb6 B4 K4 Ba4 BMb
  have RR := hide (read_any B6.out.mv other 4 IO.out)
  rw [mc_is] at RR
  unfold RdEnds at RR
  go_wp2_with (first | (refine wpList_load_mid rfl 27 _ rfl w.heap.size 0 rfl _ _ B6.out.rg Try.underlying27 rfl B6.out.il ?_))
  refine RR.out.mono ?_
  rintro e w7 ⟨rfl, hb7⟩
  have B7 := hide (B6.out.bel hb7)
  have K7 := hide (bel_tr K6.out hb7)
  have Ba7 := hide (Ba6.out.bel hb7)
  clear RR hb7 B6 K6 Ba6
  have RR := hide (read_any Ba7.out.mv other 4 IO.out)
  rw [mc_is] at RR
  unfold RdEnds at RR
  simp only at RR
  rw [HDD.out] at RR
  go_wp2_with (first | (refine wpList_load_mid rfl 27 _ rfl qa 0 rfl _ _ Ba7.out.rg Try.underlying27 rfl Ba7.out.il ?_))
  refine RR.out.mono ?_
  rintro e w8 ⟨rfl, hb8⟩
  have B8 := hide (B7.out.bel hb8)
  have K8 := hide (bel_tr K7.out hb8)
  clear RR hb8 B7 K7 Ba7
  obtain ⟨_, _, _, _, _, a21, _⟩ := ml_c B8.out.mv.len B8.out.row
  generalize (rdM m.g other 4).getD 0 = A at *
  generalize (rdM m.g other 4).isSome = bA at *
  generalize (rdM g other 4).getD 0 = C at *
  go_wp2_with fail
  all_goals
    go_ret
    exact ⟨by first | (simp; done) | (simp; omega), K8.out⟩
set_option maxRecDepth 100000 in
set_option maxHeartbeats 6400000 in
theorem puts_4_5 {m : Mc} {v : Value} {w : World} (h : MV m v w) (a x other : Int) (ia : I64 a) (ix : I64 x) (io : I64 other) {g : List Rg} {was : Int} (iw : I64 was) (hp : ptM m.g a 4 x = some g) (hr : rdM m.g a 4 = some was) (hr2 : rdM g a 4 = some (x % 4294967296)) (hb : ptM g a 4 was = some m.g) (hd : (rdM g other 4).isSome = (rdM m.g other 4).isSome) (h1 : ¬ a < other) (h3 : ¬ other < a) : Calls Try.prog 6 #[v, .int .i64 a, .bool false, .int .i64 x, .int .i64 other] w fun e w' => e = .returned (.bool true) ∧ Below w.heap.size w w' := by
  obtain ⟨ra, rc, rfl⟩ := h.sl
  have B0 := hide (bm_arg h)
  rw [mc_is]
  have a32 := and32 x ix
  have IA := hide ia
  have IX := hide ix
  have IO := hide io
  have HRD := hide hr
  have HPT := hide hp
  have HR2 := hide hr2
  have HBK := hide hb
  have HDD := hide hd
  clear hp hr hr2 hb hd iw
  clear h ia ix io
  go_enter Try.func6, Try.ntmps6
  go_wp2_with fail
  refine gw (motive := fun x => Calls _ _ _ x _) (fun W => Hid (BM w.heap.size m (.slice ra m.g.length rc) W) ∧ Hid (Below w.heap.size w W)) ⟨B0.out, bel_one _ _⟩ ?_
  rintro W ⟨BW, KW⟩
  clear B0
  refine (examples_any _).mono ?_
  rintro e w1 ⟨rfl, hb⟩
  have B1 := hide (BW.out.bel hb)
  have K1 := hide (bel_tr KW.out hb)
  clear hb BW KW
  have RR := hide (read_any B1.out.mv a 4 IA.out)
  rw [mc_is] at RR
  unfold RdEnds at RR
  rw [HRD.out] at RR
  simp only [Option.getD_some, Option.isSome_some, Option.getD_none, Option.isSome_none] at RR
  go_wp2_with (first | (refine wpList_load_mid rfl 27 _ rfl w.heap.size 0 rfl _ _ B1.out.rg Try.underlying27 rfl B1.out.il ?_))
  refine RR.out.mono ?_
  rintro e w2 ⟨rfl, hb2⟩
  have B2 := hide (B1.out.bel hb2)
  have K2 := hide (bel_tr K1.out hb2)
  clear RR hb2 B1 K1 a32
  have RR := hide (put_any B2.out.mv a 4 x IA.out)
  rw [mc_is] at RR
  go_wp2_with (first | (refine wpList_load_mid rfl 27 _ rfl w.heap.size 0 rfl _ _ B2.out.rg Try.underlying27 rfl B2.out.il ?_))
  refine RR.out.mono ?_
  rintro e u3 ⟨va, rfl, hma, hb3⟩
  rw [HPT.out] at hma ⊢
  simp only [Option.getD_some, Option.isSome_some, Option.getD_none, Option.isSome_none] at hma ⊢
  generalize hMa : ({ m with g := g } : Mc) = Ma at hma
  have HEa := hide hMa
  clear hMa
  obtain ⟨raa, rca, rfl⟩ := hma.sl
  have HMa := hide hma
  rw [mc_is]
  have B2n := hide (B2.out.bel hb3)
  have K2n := hide (bel_tr K2.out hb3)
  clear hma hb3 RR B2 K2
  have HZ := hide (z_row u3)
  have HI := hide (z_inf HMa.out.len (.slice raa Ma.g.length rca))
  have HZS := hide (z_siz HMa.out.len (.slice raa Ma.g.length rca))
  have HON := hide (ml_one Ma raa Ma.g.length rca)
  have NB := hide (bm_new HMa.out)
  unfold zm at HZ HZS NB
  go_upto_region 9 with (refine wpList_store_row rfl 27 _ _ rfl u3.heap.size _ rfl rfl 27 zm HZ.out HI.out HZS.out HON.out ?_)
  refine gw (motive := fun x => Code.wp _ _ _ _ x) (fun V => Hid (BM u3.heap.size Ma (.slice raa Ma.g.length rca) V) ∧ Hid (BM w.heap.size m (.slice ra m.g.length rc) V) ∧ Hid (Below w.heap.size w V)) ⟨NB.out.1, B2n.out.bel NB.out.2, bel_tr K2n.out NB.out.2⟩ ?_
  rintro Wa ⟨BMa, B2, K2⟩
  clear HZ HI HZS HON NB HMa B2n K2n
  generalize u3.heap.size = qa at *
  rw [← HEa.out] at BMa
  have RR := hide (read_any BMa.out.mv a 4 IA.out)
  rw [mc_is] at RR
  unfold RdEnds at RR
  simp only at RR
  rw [HR2.out] at RR
  simp only [Option.getD_some, Option.isSome_some] at RR
  go_wp2_with (first | (refine wpList_load_mid rfl 27 _ rfl qa 0 rfl _ _ BMa.out.rg Try.underlying27 rfl BMa.out.il ?_))
  refine RR.out.mono ?_
  rintro e w4 ⟨rfl, hb4⟩
  have B4 := hide (B2.out.bel hb4)
  have K4 := hide (bel_tr K2.out hb4)
  have Ba4 := hide (BMa.out.bel hb4)
  clear RR hb4 B2 K2 BMa
  have RR := hide (put_any Ba4.out.mv a 4 was IA.out)
  rw [mc_is] at RR
  go_wp2_with (first | (refine wpList_load_mid rfl 27 _ rfl qa 0 rfl _ _ Ba4.out.rg Try.underlying27 rfl Ba4.out.il ?_))
  refine RR.out.mono ?_
  rintro e u5 ⟨vb, rfl, hmb, hb5⟩
  simp only at hmb ⊢
  rw [HBK.out] at hmb ⊢
  simp only [Option.getD_some, Option.isSome_some] at hmb ⊢
  change MV m vb u5 at hmb
  obtain ⟨rab, rcb, rfl⟩ := hmb.sl
  have HMb := hide hmb
  rw [mc_is]
  have B4n := hide (B4.out.bel hb5)
  have K4n := hide (bel_tr K4.out hb5)
  have Ba4n := hide (Ba4.out.bel hb5)
  clear hmb hb5 RR B4 K4 Ba4
  have HZ := hide (z_row u5)
  have HI := hide (z_inf HMb.out.len (.slice rab m.g.length rcb))
  have HZS := hide (z_siz HMb.out.len (.slice rab m.g.length rcb))
  have HON := hide (ml_one m rab m.g.length rcb)
  have NB := hide (bm_new HMb.out)
  unfold zm at HZ HZS NB
  go_upto_region 14 with (refine wpList_store_row rfl 27 _ _ rfl u5.heap.size _ rfl rfl 27 zm HZ.out HI.out HZS.out HON.out ?_)
  refine gw (motive := fun x => Code.wp _ _ _ _ x) (fun V => Hid (BM u5.heap.size m (.slice rab m.g.length rcb) V) ∧ Hid (BM w.heap.size m (.slice ra m.g.length rc) V) ∧ Hid (Below w.heap.size w V) ∧ Hid (BM qa { m with g := g } (.slice raa g.length rca) V)) ⟨NB.out.1, B4n.out.bel NB.out.2, bel_tr K4n.out NB.out.2, Ba4n.out.bel NB.out.2⟩ ?_
  rintro Wb ⟨BMb, B4, K4, Ba4⟩
  clear HZ HI HZS HON NB HMb B4n K4n Ba4n
  generalize u5.heap.size = qb at *
  have SM := hide (machines_yes BMb.out.mv B4.out.mv)
  rw [mc_is, mc_is] at SM
  go_wp2_with (first | (refine wpList_load_mid rfl 27 _ rfl qb 0 rfl _ _ BMb.out.rg Try.underlying27 rfl BMb.out.il ?_) | (refine wpList_load_mid rfl 27 _ rfl w.heap.size 0 rfl _ _ B4.out.rg Try.underlying27 rfl B4.out.il ?_))
  refine SM.out.mono ?_
  rintro e w6 ⟨rfl, hb6⟩
  have B6 := hide (B4.out.bel hb6)
  have K6 := hide (bel_tr K4.out hb6)
  have Ba6 := hide (Ba4.out.bel hb6)
  clear SM hb6 B4 K4 Ba4 BMb
  have RR := hide (read_any B6.out.mv other 4 IO.out)
  rw [mc_is] at RR
  unfold RdEnds at RR
  go_wp2_with (first | (refine wpList_load_mid rfl 27 _ rfl w.heap.size 0 rfl _ _ B6.out.rg Try.underlying27 rfl B6.out.il ?_))
  refine RR.out.mono ?_
  rintro e w7 ⟨rfl, hb7⟩
  have B7 := hide (B6.out.bel hb7)
  have K7 := hide (bel_tr K6.out hb7)
  have Ba7 := hide (Ba6.out.bel hb7)
  clear RR hb7 B6 K6 Ba6
  have RR := hide (read_any Ba7.out.mv other 4 IO.out)
  rw [mc_is] at RR
  unfold RdEnds at RR
  simp only at RR
  rw [HDD.out] at RR
  go_wp2_with (first | (refine wpList_load_mid rfl 27 _ rfl qa 0 rfl _ _ Ba7.out.rg Try.underlying27 rfl Ba7.out.il ?_))
  refine RR.out.mono ?_
  rintro e w8 ⟨rfl, hb8⟩
  have B8 := hide (B7.out.bel hb8)
  have K8 := hide (bel_tr K7.out hb8)
  clear RR hb8 B7 K7 Ba7
  obtain ⟨_, _, _, _, _, a21, _⟩ := ml_c B8.out.mv.len B8.out.row
  generalize (rdM m.g other 4).getD 0 = A at *
  generalize (rdM m.g other 4).isSome = bA at *
  generalize (rdM g other 4).getD 0 = C at *
  go_wp2_with fail
  all_goals
    go_ret
    exact ⟨by first | (simp; done) | (simp; omega), K8.out⟩
end Go.Proofs.Ytielpebokbolbaa

/-
  Boxes of machines, for the statements; runs in two parts. XstepTwo: steps in two parts are the steps in one.
-/
import Derived.Test.YtielpebokbolbaaM44
namespace Go.Proofs.Ytielpebokbolbaa
open Go.RowKit
open Xc (hide bel_one bel_tr bel_al bel_set Xi xv xc)
set_option linter.unusedSimpArgs false
set_option linter.unusedVariables false
set_option maxRecDepth 100000 in
set_option maxHeartbeats 6400000 in
theorem two_nn {m : Mc} {v : Value} {w : World} (h : MV m v w) (one two : Int) (i1 : I64 one) (i2 : I64 two) (hone : one < 0) (htwo : two < 0) : Calls Try.prog 5 #[v, .int .i64 one, .int .i64 two] w fun e w' => e = .returned (.bool true) ∧ Below w.heap.size w w' := by
  obtain ⟨ra, rc, rfl⟩ := h.sl
  have B0 := hide (bm_arg h)
  have onew : wrap64 (one + 1) = one + 1 := wrap_id (by unfold I64 Xc.I64 at *; omega)
  have onev : wrap64 (-1 + -one) = -1 + -one := wrap_id (by unfold I64 Xc.I64 at *; omega)
  have onev2 : wrap64 (-(one + 1)) = -(one + 1) := wrap_id (by unfold I64 Xc.I64 at *; omega)
  have onet := ab61_neg hone
  have twow : wrap64 (two + 1) = two + 1 := wrap_id (by unfold I64 Xc.I64 at *; omega)
  have twov : wrap64 (-1 + -two) = -1 + -two := wrap_id (by unfold I64 Xc.I64 at *; omega)
  have twov2 : wrap64 (-(two + 1)) = -(two + 1) := wrap_id (by unfold I64 Xc.I64 at *; omega)
  have twot := ab61_neg htwo
  have bd1 := ab61_bd one
  have bd2 := ab61_bd two
  have hAB : wrap64 (ab61 one + ab61 two) = ab61 one + ab61 two := wrap_id (by unfold I64 Xc.I64; omega)
  have HT := hide (show (ab61 one + ab61 two).toNat = (ab61 one).toNat + (ab61 two).toNat by omega)
  have H1 : Hid (ab61 one ≤ 60) := bd1.2
  have H2 : Hid (ab61 two ≤ 60) := bd2.2
  rw [mc_is]
  generalize ab61 one = A at *
  generalize ab61 two = B at *
  clear h i1 i2 bd1 bd2
  go_enter Try.func5, Try.ntmps5
  go_wp2_with fail
  refine gw (motive := fun x => Calls _ _ _ x _) (fun W => Hid (BM w.heap.size m (.slice ra m.g.length rc) W) ∧ Hid (Below w.heap.size w W)) ⟨B0.out, bel_one _ _⟩ ?_
  rintro W ⟨BW, KW⟩
  clear B0
  refine (examples_any _).mono ?_
  rintro e w1 ⟨rfl, hb⟩
  have B1 := hide (BW.out.bel hb)
  have K1 := hide (bel_tr KW.out hb)
  clear hb BW KW
  have RR := hide (run_any B1.out.mv (A + B) (by have := H1.out; have := H2.out; omega))
  rw [mc_is] at RR
  go_wp2_with (first | (refine wpList_load_mid rfl 27 _ rfl w.heap.size 0 rfl _ _ B1.out.rg Try.underlying27 rfl B1.out.il ?_))
  refine RR.out.mono ?_
  rintro e ua ⟨va, la, rfl, hma, hla, hba⟩
  clear RR
  generalize hRa : runM ((A + B)).toNat m = Ra at hma hla
  have HRa := hide hRa
  clear hRa
  obtain ⟨raa, rca, rfl⟩ := hma.sl
  have HMa := hide hma
  have HLVa := hide hla
  rw [mc_is]
  have B1n := hide (B1.out.bel hba)
  have K1n := hide (bel_tr K1.out hba)
  clear hma hla hba B1 K1
  have HZ := hide (z_row ua)
  have HI := hide (z_inf HMa.out.len (.slice raa Ra.1.g.length rca))
  have HZS := hide (z_siz HMa.out.len (.slice raa Ra.1.g.length rca))
  have HON := hide (ml_one Ra.1 raa Ra.1.g.length rca)
  have NB := hide (bm_new HMa.out)
  unfold zm at HZ HZS NB
  go_upto_region 9 with (refine wpList_store_row rfl 27 _ _ rfl ua.heap.size _ rfl rfl 27 zm HZ.out HI.out HZS.out HON.out ?_)
  refine gw (motive := fun x => Code.wp _ _ _ _ x) (fun V => Hid (BM ua.heap.size Ra.1 (.slice raa Ra.1.g.length rca) V) ∧ Hid (LV 0 Ra.2 la V) ∧ Hid (BM w.heap.size m (.slice ra m.g.length rc) V) ∧ Hid (Below w.heap.size w V)) ⟨NB.out.1, HLVa.out.bel NB.out.2, B1n.out.bel NB.out.2, bel_tr K1n.out NB.out.2⟩ ?_
  rintro Wa ⟨BMa, LVa, B1, K1⟩
  clear HZ HI HZS HON NB HMa HLVa B1n K1n
  generalize ua.heap.size = qa at *
  have RR := hide (run_any B1.out.mv A (by have := H1.out; have := H2.out; omega))
  rw [mc_is] at RR
  go_wp2_with (first | (refine wpList_load_mid rfl 27 _ rfl w.heap.size 0 rfl _ _ B1.out.rg Try.underlying27 rfl B1.out.il ?_))
  refine RR.out.mono ?_
  rintro e ub ⟨vb, lb, rfl, hmb, hlb, hbb⟩
  clear RR
  generalize hRb : runM (A).toNat m = Rb at hmb hlb
  have HRb := hide hRb
  clear hRb
  obtain ⟨rab, rcb, rfl⟩ := hmb.sl
  have HMb := hide hmb
  have HLVb := hide hlb
  rw [mc_is]
  have K1n := hide (bel_tr K1.out hbb)
  have BMan := hide (BMa.out.bel hbb)
  have LVan := hide (LVa.out.bel hbb)
  clear hmb hlb hbb K1 BMa LVa
  have HZ := hide (z_row ub)
  have HI := hide (z_inf HMb.out.len (.slice rab Rb.1.g.length rcb))
  have HZS := hide (z_siz HMb.out.len (.slice rab Rb.1.g.length rcb))
  have HON := hide (ml_one Rb.1 rab Rb.1.g.length rcb)
  have NB := hide (bm_new HMb.out)
  unfold zm at HZ HZS NB
  go_upto_region 10 with (refine wpList_store_row rfl 27 _ _ rfl ub.heap.size _ rfl rfl 27 zm HZ.out HI.out HZS.out HON.out ?_)
  refine gw (motive := fun x => Code.wp _ _ _ _ x) (fun V => Hid (BM ub.heap.size Rb.1 (.slice rab Rb.1.g.length rcb) V) ∧ Hid (LV 0 Rb.2 lb V) ∧ Hid (Below w.heap.size w V) ∧ Hid (BM qa Ra.1 (.slice raa Ra.1.g.length rca) V) ∧ Hid (LV 0 Ra.2 la V)) ⟨NB.out.1, HLVb.out.bel NB.out.2, bel_tr K1n.out NB.out.2, BMan.out.bel NB.out.2, LVan.out.bel NB.out.2⟩ ?_
  rintro Wb ⟨BMb, LVb, K1, BMa, LVa⟩
  clear HZ HI HZS HON NB HMb HLVb K1n BMan LVan
  generalize ub.heap.size = qb at *
  have RR := hide (run_any BMb.out.mv B (by have := H1.out; have := H2.out; omega))
  rw [mc_is] at RR
  go_wp2_with (first | (refine wpList_load_mid rfl 27 _ rfl qb 0 rfl _ _ BMb.out.rg Try.underlying27 rfl BMb.out.il ?_))
  refine RR.out.mono ?_
  rintro e uc ⟨vc, lc, rfl, hmc, hlc, hbc⟩
  clear RR
  generalize hRc : runM (B).toNat Rb.1 = Rc at hmc hlc
  have HRc := hide hRc
  clear hRc
  obtain ⟨rac, rcc, rfl⟩ := hmc.sl
  have HMc := hide hmc
  have HLVc := hide hlc
  rw [mc_is]
  have K1n := hide (bel_tr K1.out hbc)
  have BMan := hide (BMa.out.bel hbc)
  have LVan := hide (LVa.out.bel hbc)
  have LVbn := hide (LVb.out.bel hbc)
  clear hmc hlc hbc K1 BMa LVa LVb
  have HZ := hide (z_row uc)
  have HI := hide (z_inf HMc.out.len (.slice rac Rc.1.g.length rcc))
  have HZS := hide (z_siz HMc.out.len (.slice rac Rc.1.g.length rcc))
  have HON := hide (ml_one Rc.1 rac Rc.1.g.length rcc)
  have NB := hide (bm_new HMc.out)
  unfold zm at HZ HZS NB
  go_upto_region 11 with (refine wpList_store_row rfl 27 _ _ rfl uc.heap.size _ rfl rfl 27 zm HZ.out HI.out HZS.out HON.out ?_)
  refine gw (motive := fun x => Code.wp _ _ _ _ x) (fun V => Hid (BM uc.heap.size Rc.1 (.slice rac Rc.1.g.length rcc) V) ∧ Hid (LV 0 Rc.2 lc V) ∧ Hid (Below w.heap.size w V) ∧ Hid (BM qa Ra.1 (.slice raa Ra.1.g.length rca) V) ∧ Hid (LV 0 Ra.2 la V) ∧ Hid (LV 0 Rb.2 lb V)) ⟨NB.out.1, HLVc.out.bel NB.out.2, bel_tr K1n.out NB.out.2, BMan.out.bel NB.out.2, LVan.out.bel NB.out.2, LVbn.out.bel NB.out.2⟩ ?_
  rintro Wc ⟨BMc, LVc, K1, BMa, LVa, LVb⟩
  clear HZ HI HZS HON NB HMc HLVc K1n BMan LVan LVbn
  generalize uc.heap.size = qc at *
  have EQ : Ra = (Rc.1, Rb.2 ++ Rc.2) := by
    have h1 := HRa.out
    have h2 := HRb.out
    have h3 := HRc.out
    rw [HT.out, run_two, h2, h3] at h1
    exact h1.symm
  have lnb : Rb.2.length ≤ 60 := by have := run_len A.toNat m; rw [HRb.out] at this; have := H1.out; omega
  have lnc : Rc.2.length ≤ 60 := by have := run_len B.toNat Rb.1; rw [HRc.out] at this; have := H2.out; omega
  rw [EQ] at BMa LVa
  simp only at BMa LVa
  have LN : Hid (Rb.2.length + Rc.2.length ≤ 1000000) := by show _ ≤ _; omega
  have SM := hide (machines_yes BMa.out.mv BMc.out.mv)
  rw [mc_is, mc_is] at SM
  clear EQ lnb lnc HT HRa HRb HRc
  go_wp2_with (first | (refine wpList_load_mid rfl 27 _ rfl qa 0 rfl _ _ BMa.out.rg Try.underlying27 rfl BMa.out.il ?_) | (refine wpList_load_mid rfl 27 _ rfl qc 0 rfl _ _ BMc.out.rg Try.underlying27 rfl BMc.out.il ?_))
  refine SM.out.mono ?_
  rintro e w5 ⟨rfl, hb5⟩
  have K5 := hide (bel_tr K1.out hb5)
  have La := hide (LVa.out.bel hb5)
  have Lb := hide (LVb.out.bel hb5)
  have Lc := hide (LVc.out.bel hb5)
  have NIL : Hid (LV w5.heap.size [] (.slice none 0 0) w5) := ⟨rfl, Or.inl ⟨rfl, rfl⟩⟩
  have LN1 : Hid (([] : List Lk).length + Rb.2.length ≤ 1000000) := by have := LN.out; show _ ≤ _; simp only [List.length_nil]; omega
  have LN2 : Hid (([] ++ Rb.2).length + Rc.2.length ≤ 1000000) := LN.out
  have LN3 : Hid ((Rb.2 ++ Rc.2).length ≤ 1000000) := by show _ ≤ _; rw [List.length_append]; exact LN.out
  clear hb5 SM BMa BMc K1 LVa LVb LVc
  go_wp2_with (at_builtin; (refine wpl_app rfl (.const (.slice none 0 0)) (.tmp 55) rfl rfl rfl NIL.out Lb.out LN1.out (Nat.le_refl _) ?_))
  intro v6 w6 hv6 hb6
  have K6 := hide (bel_tr K5.out hb6)
  have La6 := hide (La.out.bel hb6)
  have La6O : Hid (∀ {b : Nat}, la.ownBlock = some b → b < w5.heap.size) := fun hb => La.out.lt hb
  have Lc6 := hide (Lc.out.bel hb6)
  have L6 := hide hv6
  have S6 := hide hb6.size
  clear hv6 hb6 NIL La Lb Lc LN1
  go_wp2_with (at_builtin; (refine wpl_app rfl (.tmp 56) (.tmp 57) rfl rfl rfl L6.out Lc6.out LN2.out S6.out ?_))
  intro v7 w7 hv7 hb7
  have K7 := hide (K6.out.trans (hb7.mono K5.out.size))
  have La7 := hide (La6.out.of fun b hb => hb7.block b (La6O.out hb))
  have L7 := hide hv7
  clear hv7 hb7 La6 Lc6 L6 S6 LN2
  go_wp2_with fail
  refine (seen_yes La7.out L7.out LN3.out).mono ?_
  rintro e w8 ⟨rfl, hb8⟩
  have K8 := hide (bel_tr K7.out hb8)
  clear hb8
  go_wp2_with fail
  go_ret
  exact ⟨rfl, K8.out⟩
set_option maxRecDepth 100000 in
set_option maxHeartbeats 6400000 in
theorem two_np {m : Mc} {v : Value} {w : World} (h : MV m v w) (one two : Int) (i1 : I64 one) (i2 : I64 two) (hone : one < 0) (htwo : ¬ two < 0) : Calls Try.prog 5 #[v, .int .i64 one, .int .i64 two] w fun e w' => e = .returned (.bool true) ∧ Below w.heap.size w w' := by
  obtain ⟨ra, rc, rfl⟩ := h.sl
  have B0 := hide (bm_arg h)
  have onew : wrap64 (one + 1) = one + 1 := wrap_id (by unfold I64 Xc.I64 at *; omega)
  have onev : wrap64 (-1 + -one) = -1 + -one := wrap_id (by unfold I64 Xc.I64 at *; omega)
  have onev2 : wrap64 (-(one + 1)) = -(one + 1) := wrap_id (by unfold I64 Xc.I64 at *; omega)
  have onet := ab61_neg hone
  have twot := ab61_pos htwo
  have bd1 := ab61_bd one
  have bd2 := ab61_bd two
  have hAB : wrap64 (ab61 one + ab61 two) = ab61 one + ab61 two := wrap_id (by unfold I64 Xc.I64; omega)
  have HT := hide (show (ab61 one + ab61 two).toNat = (ab61 one).toNat + (ab61 two).toNat by omega)
  have H1 : Hid (ab61 one ≤ 60) := bd1.2
  have H2 : Hid (ab61 two ≤ 60) := bd2.2
  rw [mc_is]
  generalize ab61 one = A at *
  generalize ab61 two = B at *
  clear h i1 i2 bd1 bd2
  go_enter Try.func5, Try.ntmps5
  go_wp2_with fail
  refine gw (motive := fun x => Calls _ _ _ x _) (fun W => Hid (BM w.heap.size m (.slice ra m.g.length rc) W) ∧ Hid (Below w.heap.size w W)) ⟨B0.out, bel_one _ _⟩ ?_
  rintro W ⟨BW, KW⟩
  clear B0
  refine (examples_any _).mono ?_
  rintro e w1 ⟨rfl, hb⟩
  have B1 := hide (BW.out.bel hb)
  have K1 := hide (bel_tr KW.out hb)
  clear hb BW KW
  have RR := hide (run_any B1.out.mv (A + B) (by have := H1.out; have := H2.out; omega))
  rw [mc_is] at RR
  go_wp2_with (first | (refine wpList_load_mid rfl 27 _ rfl w.heap.size 0 rfl _ _ B1.out.rg Try.underlying27 rfl B1.out.il ?_))
  refine RR.out.mono ?_
  rintro e ua ⟨va, la, rfl, hma, hla, hba⟩
  clear RR
  generalize hRa : runM ((A + B)).toNat m = Ra at hma hla
  have HRa := hide hRa
  clear hRa
  obtain ⟨raa, rca, rfl⟩ := hma.sl
  have HMa := hide hma
  have HLVa := hide hla
  rw [mc_is]
  have B1n := hide (B1.out.bel hba)
  have K1n := hide (bel_tr K1.out hba)
  clear hma hla hba B1 K1
  have HZ := hide (z_row ua)
  have HI := hide (z_inf HMa.out.len (.slice raa Ra.1.g.length rca))
  have HZS := hide (z_siz HMa.out.len (.slice raa Ra.1.g.length rca))
  have HON := hide (ml_one Ra.1 raa Ra.1.g.length rca)
  have NB := hide (bm_new HMa.out)
  unfold zm at HZ HZS NB
  go_upto_region 9 with (refine wpList_store_row rfl 27 _ _ rfl ua.heap.size _ rfl rfl 27 zm HZ.out HI.out HZS.out HON.out ?_)
  refine gw (motive := fun x => Code.wp _ _ _ _ x) (fun V => Hid (BM ua.heap.size Ra.1 (.slice raa Ra.1.g.length rca) V) ∧ Hid (LV 0 Ra.2 la V) ∧ Hid (BM w.heap.size m (.slice ra m.g.length rc) V) ∧ Hid (Below w.heap.size w V)) ⟨NB.out.1, HLVa.out.bel NB.out.2, B1n.out.bel NB.out.2, bel_tr K1n.out NB.out.2⟩ ?_
  rintro Wa ⟨BMa, LVa, B1, K1⟩
  clear HZ HI HZS HON NB HMa HLVa B1n K1n
  generalize ua.heap.size = qa at *
  have RR := hide (run_any B1.out.mv A (by have := H1.out; have := H2.out; omega))
  rw [mc_is] at RR
  go_wp2_with (first | (refine wpList_load_mid rfl 27 _ rfl w.heap.size 0 rfl _ _ B1.out.rg Try.underlying27 rfl B1.out.il ?_))
  refine RR.out.mono ?_
  rintro e ub ⟨vb, lb, rfl, hmb, hlb, hbb⟩
  clear RR
  generalize hRb : runM (A).toNat m = Rb at hmb hlb
  have HRb := hide hRb
  clear hRb
  obtain ⟨rab, rcb, rfl⟩ := hmb.sl
  have HMb := hide hmb
  have HLVb := hide hlb
  rw [mc_is]
  have K1n := hide (bel_tr K1.out hbb)
  have BMan := hide (BMa.out.bel hbb)
  have LVan := hide (LVa.out.bel hbb)
  clear hmb hlb hbb K1 BMa LVa
  have HZ := hide (z_row ub)
  have HI := hide (z_inf HMb.out.len (.slice rab Rb.1.g.length rcb))
  have HZS := hide (z_siz HMb.out.len (.slice rab Rb.1.g.length rcb))
  have HON := hide (ml_one Rb.1 rab Rb.1.g.length rcb)
  have NB := hide (bm_new HMb.out)
  unfold zm at HZ HZS NB
  go_upto_region 10 with (refine wpList_store_row rfl 27 _ _ rfl ub.heap.size _ rfl rfl 27 zm HZ.out HI.out HZS.out HON.out ?_)
  refine gw (motive := fun x => Code.wp _ _ _ _ x) (fun V => Hid (BM ub.heap.size Rb.1 (.slice rab Rb.1.g.length rcb) V) ∧ Hid (LV 0 Rb.2 lb V) ∧ Hid (Below w.heap.size w V) ∧ Hid (BM qa Ra.1 (.slice raa Ra.1.g.length rca) V) ∧ Hid (LV 0 Ra.2 la V)) ⟨NB.out.1, HLVb.out.bel NB.out.2, bel_tr K1n.out NB.out.2, BMan.out.bel NB.out.2, LVan.out.bel NB.out.2⟩ ?_
  rintro Wb ⟨BMb, LVb, K1, BMa, LVa⟩
  clear HZ HI HZS HON NB HMb HLVb K1n BMan LVan
  generalize ub.heap.size = qb at *
  have RR := hide (run_any BMb.out.mv B (by have := H1.out; have := H2.out; omega))
  rw [mc_is] at RR
  go_wp2_with (first | (refine wpList_load_mid rfl 27 _ rfl qb 0 rfl _ _ BMb.out.rg Try.underlying27 rfl BMb.out.il ?_))
  refine RR.out.mono ?_
  rintro e uc ⟨vc, lc, rfl, hmc, hlc, hbc⟩
  clear RR
  generalize hRc : runM (B).toNat Rb.1 = Rc at hmc hlc
  have HRc := hide hRc
  clear hRc
  obtain ⟨rac, rcc, rfl⟩ := hmc.sl
  have HMc := hide hmc
  have HLVc := hide hlc
  rw [mc_is]
  have K1n := hide (bel_tr K1.out hbc)
  have BMan := hide (BMa.out.bel hbc)
  have LVan := hide (LVa.out.bel hbc)
  have LVbn := hide (LVb.out.bel hbc)
  clear hmc hlc hbc K1 BMa LVa LVb
  have HZ := hide (z_row uc)
  have HI := hide (z_inf HMc.out.len (.slice rac Rc.1.g.length rcc))
  have HZS := hide (z_siz HMc.out.len (.slice rac Rc.1.g.length rcc))
  have HON := hide (ml_one Rc.1 rac Rc.1.g.length rcc)
  have NB := hide (bm_new HMc.out)
  unfold zm at HZ HZS NB
  go_upto_region 11 with (refine wpList_store_row rfl 27 _ _ rfl uc.heap.size _ rfl rfl 27 zm HZ.out HI.out HZS.out HON.out ?_)
  refine gw (motive := fun x => Code.wp _ _ _ _ x) (fun V => Hid (BM uc.heap.size Rc.1 (.slice rac Rc.1.g.length rcc) V) ∧ Hid (LV 0 Rc.2 lc V) ∧ Hid (Below w.heap.size w V) ∧ Hid (BM qa Ra.1 (.slice raa Ra.1.g.length rca) V) ∧ Hid (LV 0 Ra.2 la V) ∧ Hid (LV 0 Rb.2 lb V)) ⟨NB.out.1, HLVc.out.bel NB.out.2, bel_tr K1n.out NB.out.2, BMan.out.bel NB.out.2, LVan.out.bel NB.out.2, LVbn.out.bel NB.out.2⟩ ?_
  rintro Wc ⟨BMc, LVc, K1, BMa, LVa, LVb⟩
  clear HZ HI HZS HON NB HMc HLVc K1n BMan LVan LVbn
  generalize uc.heap.size = qc at *
  have EQ : Ra = (Rc.1, Rb.2 ++ Rc.2) := by
    have h1 := HRa.out
    have h2 := HRb.out
    have h3 := HRc.out
    rw [HT.out, run_two, h2, h3] at h1
    exact h1.symm
  have lnb : Rb.2.length ≤ 60 := by have := run_len A.toNat m; rw [HRb.out] at this; have := H1.out; omega
  have lnc : Rc.2.length ≤ 60 := by have := run_len B.toNat Rb.1; rw [HRc.out] at this; have := H2.out; omega
  rw [EQ] at BMa LVa
  simp only at BMa LVa
  have LN : Hid (Rb.2.length + Rc.2.length ≤ 1000000) := by show _ ≤ _; omega
  have SM := hide (machines_yes BMa.out.mv BMc.out.mv)
  rw [mc_is, mc_is] at SM
  clear EQ lnb lnc HT HRa HRb HRc
  go_wp2_with (first | (refine wpList_load_mid rfl 27 _ rfl qa 0 rfl _ _ BMa.out.rg Try.underlying27 rfl BMa.out.il ?_) | (refine wpList_load_mid rfl 27 _ rfl qc 0 rfl _ _ BMc.out.rg Try.underlying27 rfl BMc.out.il ?_))
  refine SM.out.mono ?_
  rintro e w5 ⟨rfl, hb5⟩
  have K5 := hide (bel_tr K1.out hb5)
  have La := hide (LVa.out.bel hb5)
  have Lb := hide (LVb.out.bel hb5)
  have Lc := hide (LVc.out.bel hb5)
  have NIL : Hid (LV w5.heap.size [] (.slice none 0 0) w5) := ⟨rfl, Or.inl ⟨rfl, rfl⟩⟩
  have LN1 : Hid (([] : List Lk).length + Rb.2.length ≤ 1000000) := by have := LN.out; show _ ≤ _; simp only [List.length_nil]; omega
  have LN2 : Hid (([] ++ Rb.2).length + Rc.2.length ≤ 1000000) := LN.out
  have LN3 : Hid ((Rb.2 ++ Rc.2).length ≤ 1000000) := by show _ ≤ _; rw [List.length_append]; exact LN.out
  clear hb5 SM BMa BMc K1 LVa LVb LVc
  go_wp2_with (at_builtin; (refine wpl_app rfl (.const (.slice none 0 0)) (.tmp 55) rfl rfl rfl NIL.out Lb.out LN1.out (Nat.le_refl _) ?_))
  intro v6 w6 hv6 hb6
  have K6 := hide (bel_tr K5.out hb6)
  have La6 := hide (La.out.bel hb6)
  have La6O : Hid (∀ {b : Nat}, la.ownBlock = some b → b < w5.heap.size) := fun hb => La.out.lt hb
  have Lc6 := hide (Lc.out.bel hb6)
  have L6 := hide hv6
  have S6 := hide hb6.size
  clear hv6 hb6 NIL La Lb Lc LN1
  go_wp2_with (at_builtin; (refine wpl_app rfl (.tmp 56) (.tmp 57) rfl rfl rfl L6.out Lc6.out LN2.out S6.out ?_))
  intro v7 w7 hv7 hb7
  have K7 := hide (K6.out.trans (hb7.mono K5.out.size))
  have La7 := hide (La6.out.of fun b hb => hb7.block b (La6O.out hb))
  have L7 := hide hv7
  clear hv7 hb7 La6 Lc6 L6 S6 LN2
  go_wp2_with fail
  refine (seen_yes La7.out L7.out LN3.out).mono ?_
  rintro e w8 ⟨rfl, hb8⟩
  have K8 := hide (bel_tr K7.out hb8)
  clear hb8
  go_wp2_with fail
  go_ret
  exact ⟨rfl, K8.out⟩
set_option maxRecDepth 100000 in
set_option maxHeartbeats 6400000 in
theorem two_pn {m : Mc} {v : Value} {w : World} (h : MV m v w) (one two : Int) (i1 : I64 one) (i2 : I64 two) (hone : ¬ one < 0) (htwo : two < 0) : Calls Try.prog 5 #[v, .int .i64 one, .int .i64 two] w fun e w' => e = .returned (.bool true) ∧ Below w.heap.size w w' := by
  obtain ⟨ra, rc, rfl⟩ := h.sl
  have B0 := hide (bm_arg h)
  have onet := ab61_pos hone
  have twow : wrap64 (two + 1) = two + 1 := wrap_id (by unfold I64 Xc.I64 at *; omega)
  have twov : wrap64 (-1 + -two) = -1 + -two := wrap_id (by unfold I64 Xc.I64 at *; omega)
  have twov2 : wrap64 (-(two + 1)) = -(two + 1) := wrap_id (by unfold I64 Xc.I64 at *; omega)
  have twot := ab61_neg htwo
  have bd1 := ab61_bd one
  have bd2 := ab61_bd two
  have hAB : wrap64 (ab61 one + ab61 two) = ab61 one + ab61 two := wrap_id (by unfold I64 Xc.I64; omega)
  have HT := hide (show (ab61 one + ab61 two).toNat = (ab61 one).toNat + (ab61 two).toNat by omega)
  have H1 : Hid (ab61 one ≤ 60) := bd1.2
  have H2 : Hid (ab61 two ≤ 60) := bd2.2
  rw [mc_is]
  generalize ab61 one = A at *
  generalize ab61 two = B at *
  clear h i1 i2 bd1 bd2
  go_enter Try.func5, Try.ntmps5
  go_wp2_with fail
  refine gw (motive := fun x => Calls _ _ _ x _) (fun W => Hid (BM w.heap.size m (.slice ra m.g.length rc) W) ∧ Hid (Below w.heap.size w W)) ⟨B0.out, bel_one _ _⟩ ?_
  rintro W ⟨BW, KW⟩
  clear B0
  refine (examples_any _).mono ?_
  rintro e w1 ⟨rfl, hb⟩
  have B1 := hide (BW.out.bel hb)
  have K1 := hide (bel_tr KW.out hb)
  clear hb BW KW
  have RR := hide (run_any B1.out.mv (A + B) (by have := H1.out; have := H2.out; omega))
  rw [mc_is] at RR
  go_wp2_with (first | (refine wpList_load_mid rfl 27 _ rfl w.heap.size 0 rfl _ _ B1.out.rg Try.underlying27 rfl B1.out.il ?_))
  refine RR.out.mono ?_
  rintro e ua ⟨va, la, rfl, hma, hla, hba⟩
  clear RR
  generalize hRa : runM ((A + B)).toNat m = Ra at hma hla
  have HRa := hide hRa
  clear hRa
  obtain ⟨raa, rca, rfl⟩ := hma.sl
  have HMa := hide hma
  have HLVa := hide hla
  rw [mc_is]
  have B1n := hide (B1.out.bel hba)
  have K1n := hide (bel_tr K1.out hba)
  clear hma hla hba B1 K1
  have HZ := hide (z_row ua)
  have HI := hide (z_inf HMa.out.len (.slice raa Ra.1.g.length rca))
  have HZS := hide (z_siz HMa.out.len (.slice raa Ra.1.g.length rca))
  have HON := hide (ml_one Ra.1 raa Ra.1.g.length rca)
  have NB := hide (bm_new HMa.out)
  unfold zm at HZ HZS NB
  go_upto_region 9 with (refine wpList_store_row rfl 27 _ _ rfl ua.heap.size _ rfl rfl 27 zm HZ.out HI.out HZS.out HON.out ?_)
  refine gw (motive := fun x => Code.wp _ _ _ _ x) (fun V => Hid (BM ua.heap.size Ra.1 (.slice raa Ra.1.g.length rca) V) ∧ Hid (LV 0 Ra.2 la V) ∧ Hid (BM w.heap.size m (.slice ra m.g.length rc) V) ∧ Hid (Below w.heap.size w V)) ⟨NB.out.1, HLVa.out.bel NB.out.2, B1n.out.bel NB.out.2, bel_tr K1n.out NB.out.2⟩ ?_
  rintro Wa ⟨BMa, LVa, B1, K1⟩
  clear HZ HI HZS HON NB HMa HLVa B1n K1n
  generalize ua.heap.size = qa at *
  have RR := hide (run_any B1.out.mv A (by have := H1.out; have := H2.out; omega))
  rw [mc_is] at RR
  go_wp2_with (first | (refine wpList_load_mid rfl 27 _ rfl w.heap.size 0 rfl _ _ B1.out.rg Try.underlying27 rfl B1.out.il ?_))
  refine RR.out.mono ?_
  rintro e ub ⟨vb, lb, rfl, hmb, hlb, hbb⟩
  clear RR
  generalize hRb : runM (A).toNat m = Rb at hmb hlb
  have HRb := hide hRb
  clear hRb
  obtain ⟨rab, rcb, rfl⟩ := hmb.sl
  have HMb := hide hmb
  have HLVb := hide hlb
  rw [mc_is]
  have K1n := hide (bel_tr K1.out hbb)
  have BMan := hide (BMa.out.bel hbb)
  have LVan := hide (LVa.out.bel hbb)
  clear hmb hlb hbb K1 BMa LVa
  have HZ := hide (z_row ub)
  have HI := hide (z_inf HMb.out.len (.slice rab Rb.1.g.length rcb))
  have HZS := hide (z_siz HMb.out.len (.slice rab Rb.1.g.length rcb))
  have HON := hide (ml_one Rb.1 rab Rb.1.g.length rcb)
  have NB := hide (bm_new HMb.out)
  unfold zm at HZ HZS NB
  go_upto_region 10 with (refine wpList_store_row rfl 27 _ _ rfl ub.heap.size _ rfl rfl 27 zm HZ.out HI.out HZS.out HON.out ?_)
  refine gw (motive := fun x => Code.wp _ _ _ _ x) (fun V => Hid (BM ub.heap.size Rb.1 (.slice rab Rb.1.g.length rcb) V) ∧ Hid (LV 0 Rb.2 lb V) ∧ Hid (Below w.heap.size w V) ∧ Hid (BM qa Ra.1 (.slice raa Ra.1.g.length rca) V) ∧ Hid (LV 0 Ra.2 la V)) ⟨NB.out.1, HLVb.out.bel NB.out.2, bel_tr K1n.out NB.out.2, BMan.out.bel NB.out.2, LVan.out.bel NB.out.2⟩ ?_
  rintro Wb ⟨BMb, LVb, K1, BMa, LVa⟩
  clear HZ HI HZS HON NB HMb HLVb K1n BMan LVan
  generalize ub.heap.size = qb at *
  have RR := hide (run_any BMb.out.mv B (by have := H1.out; have := H2.out; omega))
  rw [mc_is] at RR
  go_wp2_with (first | (refine wpList_load_mid rfl 27 _ rfl qb 0 rfl _ _ BMb.out.rg Try.underlying27 rfl BMb.out.il ?_))
  refine RR.out.mono ?_
  rintro e uc ⟨vc, lc, rfl, hmc, hlc, hbc⟩
  clear RR
  generalize hRc : runM (B).toNat Rb.1 = Rc at hmc hlc
  have HRc := hide hRc
  clear hRc
  obtain ⟨rac, rcc, rfl⟩ := hmc.sl
  have HMc := hide hmc
  have HLVc := hide hlc
  rw [mc_is]
  have K1n := hide (bel_tr K1.out hbc)
  have BMan := hide (BMa.out.bel hbc)
  have LVan := hide (LVa.out.bel hbc)
  have LVbn := hide (LVb.out.bel hbc)
  clear hmc hlc hbc K1 BMa LVa LVb
  have HZ := hide (z_row uc)
  have HI := hide (z_inf HMc.out.len (.slice rac Rc.1.g.length rcc))
  have HZS := hide (z_siz HMc.out.len (.slice rac Rc.1.g.length rcc))
  have HON := hide (ml_one Rc.1 rac Rc.1.g.length rcc)
  have NB := hide (bm_new HMc.out)
  unfold zm at HZ HZS NB
  go_upto_region 11 with (refine wpList_store_row rfl 27 _ _ rfl uc.heap.size _ rfl rfl 27 zm HZ.out HI.out HZS.out HON.out ?_)
  refine gw (motive := fun x => Code.wp _ _ _ _ x) (fun V => Hid (BM uc.heap.size Rc.1 (.slice rac Rc.1.g.length rcc) V) ∧ Hid (LV 0 Rc.2 lc V) ∧ Hid (Below w.heap.size w V) ∧ Hid (BM qa Ra.1 (.slice raa Ra.1.g.length rca) V) ∧ Hid (LV 0 Ra.2 la V) ∧ Hid (LV 0 Rb.2 lb V)) ⟨NB.out.1, HLVc.out.bel NB.out.2, bel_tr K1n.out NB.out.2, BMan.out.bel NB.out.2, LVan.out.bel NB.out.2, LVbn.out.bel NB.out.2⟩ ?_
  rintro Wc ⟨BMc, LVc, K1, BMa, LVa, LVb⟩
  clear HZ HI HZS HON NB HMc HLVc K1n BMan LVan LVbn
  generalize uc.heap.size = qc at *
  have EQ : Ra = (Rc.1, Rb.2 ++ Rc.2) := by
    have h1 := HRa.out
    have h2 := HRb.out
    have h3 := HRc.out
    rw [HT.out, run_two, h2, h3] at h1
    exact h1.symm
  have lnb : Rb.2.length ≤ 60 := by have := run_len A.toNat m; rw [HRb.out] at this; have := H1.out; omega
  have lnc : Rc.2.length ≤ 60 := by have := run_len B.toNat Rb.1; rw [HRc.out] at this; have := H2.out; omega
  rw [EQ] at BMa LVa
  simp only at BMa LVa
  have LN : Hid (Rb.2.length + Rc.2.length ≤ 1000000) := by show _ ≤ _; omega
  have SM := hide (machines_yes BMa.out.mv BMc.out.mv)
  rw [mc_is, mc_is] at SM
  clear EQ lnb lnc HT HRa HRb HRc
  go_wp2_with (first | (refine wpList_load_mid rfl 27 _ rfl qa 0 rfl _ _ BMa.out.rg Try.underlying27 rfl BMa.out.il ?_) | (refine wpList_load_mid rfl 27 _ rfl qc 0 rfl _ _ BMc.out.rg Try.underlying27 rfl BMc.out.il ?_))
  refine SM.out.mono ?_
  rintro e w5 ⟨rfl, hb5⟩
  have K5 := hide (bel_tr K1.out hb5)
  have La := hide (LVa.out.bel hb5)
  have Lb := hide (LVb.out.bel hb5)
  have Lc := hide (LVc.out.bel hb5)
  have NIL : Hid (LV w5.heap.size [] (.slice none 0 0) w5) := ⟨rfl, Or.inl ⟨rfl, rfl⟩⟩
  have LN1 : Hid (([] : List Lk).length + Rb.2.length ≤ 1000000) := by have := LN.out; show _ ≤ _; simp only [List.length_nil]; omega
  have LN2 : Hid (([] ++ Rb.2).length + Rc.2.length ≤ 1000000) := LN.out
  have LN3 : Hid ((Rb.2 ++ Rc.2).length ≤ 1000000) := by show _ ≤ _; rw [List.length_append]; exact LN.out
  clear hb5 SM BMa BMc K1 LVa LVb LVc
  go_wp2_with (at_builtin; (refine wpl_app rfl (.const (.slice none 0 0)) (.tmp 55) rfl rfl rfl NIL.out Lb.out LN1.out (Nat.le_refl _) ?_))
  intro v6 w6 hv6 hb6
  have K6 := hide (bel_tr K5.out hb6)
  have La6 := hide (La.out.bel hb6)
  have La6O : Hid (∀ {b : Nat}, la.ownBlock = some b → b < w5.heap.size) := fun hb => La.out.lt hb
  have Lc6 := hide (Lc.out.bel hb6)
  have L6 := hide hv6
  have S6 := hide hb6.size
  clear hv6 hb6 NIL La Lb Lc LN1
  go_wp2_with (at_builtin; (refine wpl_app rfl (.tmp 56) (.tmp 57) rfl rfl rfl L6.out Lc6.out LN2.out S6.out ?_))
  intro v7 w7 hv7 hb7
  have K7 := hide (K6.out.trans (hb7.mono K5.out.size))
  have La7 := hide (La6.out.of fun b hb => hb7.block b (La6O.out hb))
  have L7 := hide hv7
  clear hv7 hb7 La6 Lc6 L6 S6 LN2
  go_wp2_with fail
  refine (seen_yes La7.out L7.out LN3.out).mono ?_
  rintro e w8 ⟨rfl, hb8⟩
  have K8 := hide (bel_tr K7.out hb8)
  clear hb8
  go_wp2_with fail
  go_ret
  exact ⟨rfl, K8.out⟩
set_option maxRecDepth 100000 in
set_option maxHeartbeats 6400000 in
theorem two_pp {m : Mc} {v : Value} {w : World} (h : MV m v w) (one two : Int) (i1 : I64 one) (i2 : I64 two) (hone : ¬ one < 0) (htwo : ¬ two < 0) : Calls Try.prog 5 #[v, .int .i64 one, .int .i64 two] w fun e w' => e = .returned (.bool true) ∧ Below w.heap.size w w' := by
  obtain ⟨ra, rc, rfl⟩ := h.sl
  have B0 := hide (bm_arg h)
  have onet := ab61_pos hone
  have twot := ab61_pos htwo
  have bd1 := ab61_bd one
  have bd2 := ab61_bd two
  have hAB : wrap64 (ab61 one + ab61 two) = ab61 one + ab61 two := wrap_id (by unfold I64 Xc.I64; omega)
  have HT := hide (show (ab61 one + ab61 two).toNat = (ab61 one).toNat + (ab61 two).toNat by omega)
  have H1 : Hid (ab61 one ≤ 60) := bd1.2
  have H2 : Hid (ab61 two ≤ 60) := bd2.2
  rw [mc_is]
  generalize ab61 one = A at *
  generalize ab61 two = B at *
  clear h i1 i2 bd1 bd2
  go_enter Try.func5, Try.ntmps5
  go_wp2_with fail
  refine gw (motive := fun x => Calls _ _ _ x _) (fun W => Hid (BM w.heap.size m (.slice ra m.g.length rc) W) ∧ Hid (Below w.heap.size w W)) ⟨B0.out, bel_one _ _⟩ ?_
  rintro W ⟨BW, KW⟩
  clear B0
  refine (examples_any _).mono ?_
  rintro e w1 ⟨rfl, hb⟩
  have B1 := hide (BW.out.bel hb)
  have K1 := hide (bel_tr KW.out hb)
  clear hb BW KW
  have RR := hide (run_any B1.out.mv (A + B) (by have := H1.out; have := H2.out; omega))
  rw [mc_is] at RR
  go_wp2_with (first | (refine wpList_load_mid rfl 27 _ rfl w.heap.size 0 rfl _ _ B1.out.rg Try.underlying27 rfl B1.out.il ?_))
  refine RR.out.mono ?_
  rintro e ua ⟨va, la, rfl, hma, hla, hba⟩
  clear RR
  generalize hRa : runM ((A + B)).toNat m = Ra at hma hla
  have HRa := hide hRa
  clear hRa
  obtain ⟨raa, rca, rfl⟩ := hma.sl
  have HMa := hide hma
  have HLVa := hide hla
  rw [mc_is]
  have B1n := hide (B1.out.bel hba)
  have K1n := hide (bel_tr K1.out hba)
  clear hma hla hba B1 K1
  have HZ := hide (z_row ua)
  have HI := hide (z_inf HMa.out.len (.slice raa Ra.1.g.length rca))
  have HZS := hide (z_siz HMa.out.len (.slice raa Ra.1.g.length rca))
  have HON := hide (ml_one Ra.1 raa Ra.1.g.length rca)
  have NB := hide (bm_new HMa.out)
  unfold zm at HZ HZS NB
  go_upto_region 9 with (refine wpList_store_row rfl 27 _ _ rfl ua.heap.size _ rfl rfl 27 zm HZ.out HI.out HZS.out HON.out ?_)
  refine gw (motive := fun x => Code.wp _ _ _ _ x) (fun V => Hid (BM ua.heap.size Ra.1 (.slice raa Ra.1.g.length rca) V) ∧ Hid (LV 0 Ra.2 la V) ∧ Hid (BM w.heap.size m (.slice ra m.g.length rc) V) ∧ Hid (Below w.heap.size w V)) ⟨NB.out.1, HLVa.out.bel NB.out.2, B1n.out.bel NB.out.2, bel_tr K1n.out NB.out.2⟩ ?_
  rintro Wa ⟨BMa, LVa, B1, K1⟩
  clear HZ HI HZS HON NB HMa HLVa B1n K1n
  generalize ua.heap.size = qa at *
  have RR := hide (run_any B1.out.mv A (by have := H1.out; have := H2.out; omega))
  rw [mc_is] at RR
  go_wp2_with (first | (refine wpList_load_mid rfl 27 _ rfl w.heap.size 0 rfl _ _ B1.out.rg Try.underlying27 rfl B1.out.il ?_))
  refine RR.out.mono ?_
  rintro e ub ⟨vb, lb, rfl, hmb, hlb, hbb⟩
  clear RR
  generalize hRb : runM (A).toNat m = Rb at hmb hlb
  have HRb := hide hRb
  clear hRb
  obtain ⟨rab, rcb, rfl⟩ := hmb.sl
  have HMb := hide hmb
  have HLVb := hide hlb
  rw [mc_is]
  have K1n := hide (bel_tr K1.out hbb)
  have BMan := hide (BMa.out.bel hbb)
  have LVan := hide (LVa.out.bel hbb)
  clear hmb hlb hbb K1 BMa LVa
  have HZ := hide (z_row ub)
  have HI := hide (z_inf HMb.out.len (.slice rab Rb.1.g.length rcb))
  have HZS := hide (z_siz HMb.out.len (.slice rab Rb.1.g.length rcb))
  have HON := hide (ml_one Rb.1 rab Rb.1.g.length rcb)
  have NB := hide (bm_new HMb.out)
  unfold zm at HZ HZS NB
  go_upto_region 10 with (refine wpList_store_row rfl 27 _ _ rfl ub.heap.size _ rfl rfl 27 zm HZ.out HI.out HZS.out HON.out ?_)
  refine gw (motive := fun x => Code.wp _ _ _ _ x) (fun V => Hid (BM ub.heap.size Rb.1 (.slice rab Rb.1.g.length rcb) V) ∧ Hid (LV 0 Rb.2 lb V) ∧ Hid (Below w.heap.size w V) ∧ Hid (BM qa Ra.1 (.slice raa Ra.1.g.length rca) V) ∧ Hid (LV 0 Ra.2 la V)) ⟨NB.out.1, HLVb.out.bel NB.out.2, bel_tr K1n.out NB.out.2, BMan.out.bel NB.out.2, LVan.out.bel NB.out.2⟩ ?_
  rintro Wb ⟨BMb, LVb, K1, BMa, LVa⟩
  clear HZ HI HZS HON NB HMb HLVb K1n BMan LVan
  generalize ub.heap.size = qb at *
  have RR := hide (run_any BMb.out.mv B (by have := H1.out; have := H2.out; omega))
  rw [mc_is] at RR
  go_wp2_with (first | (refine wpList_load_mid rfl 27 _ rfl qb 0 rfl _ _ BMb.out.rg Try.underlying27 rfl BMb.out.il ?_))
  refine RR.out.mono ?_
  rintro e uc ⟨vc, lc, rfl, hmc, hlc, hbc⟩
  clear RR
  generalize hRc : runM (B).toNat Rb.1 = Rc at hmc hlc
  have HRc := hide hRc
  clear hRc
  obtain ⟨rac, rcc, rfl⟩ := hmc.sl
  have HMc := hide hmc
  have HLVc := hide hlc
  rw [mc_is]
  have K1n := hide (bel_tr K1.out hbc)
  have BMan := hide (BMa.out.bel hbc)
  have LVan := hide (LVa.out.bel hbc)
  have LVbn := hide (LVb.out.bel hbc)
  clear hmc hlc hbc K1 BMa LVa LVb
  have HZ := hide (z_row uc)
  have HI := hide (z_inf HMc.out.len (.slice rac Rc.1.g.length rcc))
  have HZS := hide (z_siz HMc.out.len (.slice rac Rc.1.g.length rcc))
  have HON := hide (ml_one Rc.1 rac Rc.1.g.length rcc)
  have NB := hide (bm_new HMc.out)
  unfold zm at HZ HZS NB
  go_upto_region 11 with (refine wpList_store_row rfl 27 _ _ rfl uc.heap.size _ rfl rfl 27 zm HZ.out HI.out HZS.out HON.out ?_)
  refine gw (motive := fun x => Code.wp _ _ _ _ x) (fun V => Hid (BM uc.heap.size Rc.1 (.slice rac Rc.1.g.length rcc) V) ∧ Hid (LV 0 Rc.2 lc V) ∧ Hid (Below w.heap.size w V) ∧ Hid (BM qa Ra.1 (.slice raa Ra.1.g.length rca) V) ∧ Hid (LV 0 Ra.2 la V) ∧ Hid (LV 0 Rb.2 lb V)) ⟨NB.out.1, HLVc.out.bel NB.out.2, bel_tr K1n.out NB.out.2, BMan.out.bel NB.out.2, LVan.out.bel NB.out.2, LVbn.out.bel NB.out.2⟩ ?_
  rintro Wc ⟨BMc, LVc, K1, BMa, LVa, LVb⟩
  clear HZ HI HZS HON NB HMc HLVc K1n BMan LVan LVbn
  generalize uc.heap.size = qc at *
  have EQ : Ra = (Rc.1, Rb.2 ++ Rc.2) := by
    have h1 := HRa.out
    have h2 := HRb.out
    have h3 := HRc.out
    rw [HT.out, run_two, h2, h3] at h1
    exact h1.symm
  have lnb : Rb.2.length ≤ 60 := by have := run_len A.toNat m; rw [HRb.out] at this; have := H1.out; omega
  have lnc : Rc.2.length ≤ 60 := by have := run_len B.toNat Rb.1; rw [HRc.out] at this; have := H2.out; omega
  rw [EQ] at BMa LVa
  simp only at BMa LVa
  have LN : Hid (Rb.2.length + Rc.2.length ≤ 1000000) := by show _ ≤ _; omega
  have SM := hide (machines_yes BMa.out.mv BMc.out.mv)
  rw [mc_is, mc_is] at SM
  clear EQ lnb lnc HT HRa HRb HRc
  go_wp2_with (first | (refine wpList_load_mid rfl 27 _ rfl qa 0 rfl _ _ BMa.out.rg Try.underlying27 rfl BMa.out.il ?_) | (refine wpList_load_mid rfl 27 _ rfl qc 0 rfl _ _ BMc.out.rg Try.underlying27 rfl BMc.out.il ?_))
  refine SM.out.mono ?_
  rintro e w5 ⟨rfl, hb5⟩
  have K5 := hide (bel_tr K1.out hb5)
  have La := hide (LVa.out.bel hb5)
  have Lb := hide (LVb.out.bel hb5)
  have Lc := hide (LVc.out.bel hb5)
  have NIL : Hid (LV w5.heap.size [] (.slice none 0 0) w5) := ⟨rfl, Or.inl ⟨rfl, rfl⟩⟩
  have LN1 : Hid (([] : List Lk).length + Rb.2.length ≤ 1000000) := by have := LN.out; show _ ≤ _; simp only [List.length_nil]; omega
  have LN2 : Hid (([] ++ Rb.2).length + Rc.2.length ≤ 1000000) := LN.out
  have LN3 : Hid ((Rb.2 ++ Rc.2).length ≤ 1000000) := by show _ ≤ _; rw [List.length_append]; exact LN.out
  clear hb5 SM BMa BMc K1 LVa LVb LVc
  go_wp2_with (at_builtin; (refine wpl_app rfl (.const (.slice none 0 0)) (.tmp 55) rfl rfl rfl NIL.out Lb.out LN1.out (Nat.le_refl _) ?_))
  intro v6 w6 hv6 hb6
  have K6 := hide (bel_tr K5.out hb6)
  have La6 := hide (La.out.bel hb6)
  have La6O : Hid (∀ {b : Nat}, la.ownBlock = some b → b < w5.heap.size) := fun hb => La.out.lt hb
  have Lc6 := hide (Lc.out.bel hb6)
  have L6 := hide hv6
  have S6 := hide hb6.size
  clear hv6 hb6 NIL La Lb Lc LN1
  go_wp2_with (at_builtin; (refine wpl_app rfl (.tmp 56) (.tmp 57) rfl rfl rfl L6.out Lc6.out LN2.out S6.out ?_))
  intro v7 w7 hv7 hb7
  have K7 := hide (K6.out.trans (hb7.mono K5.out.size))
  have La7 := hide (La6.out.of fun b hb => hb7.block b (La6O.out hb))
  have L7 := hide hv7
  clear hv7 hb7 La6 Lc6 L6 S6 LN2
  go_wp2_with fail
  refine (seen_yes La7.out L7.out LN3.out).mono ?_
  rintro e w8 ⟨rfl, hb8⟩
  have K8 := hide (bel_tr K7.out hb8)
  clear hb8
  go_wp2_with fail
  go_ret
  exact ⟨rfl, K8.out⟩
theorem two_walk {m : Mc} {v : Value} {w : World} (h : MV m v w) (one two : Int) (i1 : I64 one) (i2 : I64 two) : Calls Try.prog 5 #[v, .int .i64 one, .int .i64 two] w fun e w' => e = .returned (.bool true) ∧ Below w.heap.size w w' := by
  by_cases h1 : one < 0
  · by_cases h2 : two < 0
    · exact two_nn h one two i1 i2 h1 h2
    · exact two_np h one two i1 i2 h1 h2
  · by_cases h2 : two < 0
    · exact two_pn h one two i1 i2 h1 h2
    · exact two_pp h one two i1 i2 h1 h2
end Go.Proofs.Ytielpebokbolbaa

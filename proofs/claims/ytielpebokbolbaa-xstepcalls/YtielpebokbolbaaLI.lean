/-
  Merged: Cx Rdi.
-/
import Derived.Test.YtielpebokbolbaaLH
import Derived.Test.YtielpebokbolbaaLD
import Derived.Test.YtielpebokbolbaaLG
import Derived.ChangeSlices
/-
  The walk of the statement XstepCalls.
-/
namespace Go.Proofs.Ytielpebokbolbaa
open Go.RowKit
open Xc (hide bel_one bel_tr bel_al bel_set Xi xv xc bys jn)
set_option linter.unusedSimpArgs false
set_option linter.unusedVariables false
/-- Numbers that come in. -/
def RdI (n₀ : Nat) (W : World) (a : Option Addr) (len : Nat) (f : Nat → Int) : Prop := ∀ j, j < len → ∃ b off, a = some ⟨b, off, none⟩ ∧ b < n₀ ∧ W.cell? ⟨b, off + j, none⟩ = some (.int .i64 (f j))
theorem kx_ok {n : Nat} (h : n < 40) (W : World) : Calls Try.prog 17 #[xv (kx n)] W fun e w' => e = .returned (.tuple #[.string (Xc.str (kcp n 0)), .int .i64 0]) ∧ Below W.heap.size W w' := by
  have h' := Xc.encode_any (kx n) W Xc.zero_I64 (by show I64 (n : Int); unfold I64 Xc.I64; omega)
  have e1 : Xc.enS (kx n) = kcp n 0 := by unfold Xc.enS; rw [if_pos (kx_rt n h)]; simp [kcp]
  have e2 : Xc.enE (kx n) = 0 := by unfold Xc.enE; rw [if_pos (kx_rt n h)]
  rw [e1, e2] at h'
  exact h'
set_option maxRecDepth 100000 in
set_option maxHeartbeats 6400000 in
theorem calls_walk (a0 : Option Addr) (len cap : Nat) (f : Nat → Int) (n : Int) (w : World) (hlen : len ≤ 9223372036854775807) (hf : ∀ j, I64 (f j)) (hr : RdI w.heap.size w a0 len f) (ia : I64 n) : Calls Try.prog 7 #[.slice a0 len cap, .int .i64 n] w fun e w' => e = .returned (.bool true) ∧ Below w.heap.size w w' := by
  have HF := hide hf
  have HR := hide hr
  unfold I64 Xc.I64 at ia
  clear hf hr
  go_enter Try.func7, Try.ntmps7
  go_wp2_with fail
  refine (examples_any _).mono ?_
  rintro e w1 ⟨rfl, hb⟩
  have K1 := hide hb
  clear hb
  go_upto_if 20 with fail
  go_cut [1] from 21 to 23 (fun s1 wx => ∃ a1 : Int, s1 = .int .i64 a1 ∧ 0 ≤ a1 ∧ a1 ≤ 9223372036854775807 ∧ wx = w1)
  case first =>
    by_cases h : n < 0
    · go_wp2_with fail
      go_meet
      case rel => exact ⟨_, rfl, by omega, by omega, rfl⟩
    · go_wp2_with fail
      go_meet
      case rel => exact ⟨_, rfl, by omega, by omega, rfl⟩
  case rest =>
    obtain ⟨a1, rfl, a11, a12, rfl⟩ := hcut
    obtain ⟨N, hN⟩ : ∃ N : Nat, a1 % 40 = (N : Int) := ⟨(a1 % 40).toNat, by omega⟩
    have hN2 : a1.tmod 40 = (N : Int) := by rw [Int.tmod_eq_emod_of_nonneg a11]; exact hN
    have hN40 : N < 40 := by omega
    clear hN
    go_upto_region 5 with fail
    have KX := hide (kx_ok hN40 wc)
    unfold xv kx at KX
    simp only at KX
    go_wp2_with fail
    refine KX.out.mono ?_
    rintro e w2 ⟨rfl, hb2⟩
    have K2 := hide (bel_tr K1.out hb2)
    clear KX hb2 K1 hN2
    go_wp2_with fail
    go_loopw [8, 9] (fun s8 s9 wr => ∃ k : Nat, k ≤ N ∧ s8 = .string (Xc.str (kcp N k)) ∧ s9 = .int .i64 (k : Int) ∧ Hid (Below w.heap.size w wr)) (fun _ s9 _ => N - (intOf s9).toNat)
    case atStart => exact ⟨0, Nat.zero_le _, rfl, rfl, K2⟩
    case round =>
      clear K2
      obtain ⟨k, hk, rfl, rfl, K2⟩ := hrel
      have hsz : (Xc.str (kcp N k)).size = 5 + k := by rw [← kcp_len hN40 k]; simp [Xc.str, ByteArray.size]
      by_cases hlt : k < N
      · have hno : ¬ 9223372036854775807 < (Xc.str (kcp N k)).size + 1 := by omega
        have HS := hide (str_snoc (kcp N k) 244)
        have HK := hide (kcp_succ N k)
        generalize Xc.str (kcp N k) = s at *
        go_wp2_with fail
        go_roundw
        case rel => exact ⟨k + 1, hlt, by rw [HK.out, ← HS.out], by go_num, K2⟩
        case measure => simp [intOf]; omega
      · have hkN : k = N := by omega
        subst hkN
        have hno : ¬ 9223372036854775807 < (Xc.str (kcp k k)).size + 1 := by omega
        have HS := hide (str_snoc (kcp k k) 195)
        obtain ⟨w3, hw3⟩ : ∃ x, x = wr := ⟨_, rfl⟩
        subst hw3
        obtain ⟨cs, hcs⟩ : ∃ cs, cs = Xc.str (kco k) := ⟨_, rfl⟩
        have HCS := hide hcs
        have HS2 : Hid (Xc.str (kcp k k) ++ (⟨#[195]⟩ : ByteArray) = cs) := by show _ = _; rw [HS.out, hcs]; rfl
        clear HS hcs hsz
        go_upto_region 14 with fail
        rw [HS2.out]
        clear HS2 hno
        obtain ⟨g0, hg0⟩ : ∃ g, g = ([⟨500, kco k, true⟩, ⟨4000, z32, false⟩] : List Rg) := ⟨_, rfl⟩
        have HG0 := hide hg0
        clear hg0
        have hmk := mk32
        have hcv := cv32
        have HZ : Hid ((((w3.alloc (.cells (madeCells #[Value.int .u8 0] 32) 5)).alloc (.cells (c6 cs) 39)).alloc (.cells zm 27)).heap[w3.heap.size + 2]? = some (.cells zm 27)) := by
          have := heap_alloc_new ((w3.alloc (.cells (madeCells #[Value.int .u8 0] 32) 5)).alloc (.cells (c6 cs) 39)) (.cells zm 27)
          rwa [show ((w3.alloc (.cells (madeCells #[Value.int .u8 0] 32) 5)).alloc (.cells (c6 cs) 39)).heap.size = w3.heap.size + 2 by simp] at this
        have HI : Hid ((Try.prog.info? 27).map (·.size) = some (ml (mz g0) (.slice (some ⟨w3.heap.size + 1, 0, none⟩) 2 2)).toArray.size) := by show _ = _; rw [List.size_toArray]; exact i27l (m := mz g0) rfl _
        have HZS : Hid (zm.size = (ml (mz g0) (.slice (some ⟨w3.heap.size + 1, 0, none⟩) 2 2)).toArray.size) := rfl
        have HON := hide (ml_one (mz g0) (some ⟨w3.heap.size + 1, 0, none⟩) 2 2)
        unfold c6 at HZ
        go_upto_region 15 with (first | (refine wpl_build rfl 27 _ rfl [(2, .int .i64 500), (3, .slice (some ⟨w3.heap.size + 1, 0, none⟩) 2 2)] rfl _ (built_m 500 g0 _ 2 2) ?_) | (refine wpList_store_row rfl 27 _ _ rfl (w3.heap.size + 2) _ rfl rfl 27 zm HZ.out HI.out HZS.out HON.out ?_) | fail)
        have MA1 := hide (ma_made cs g0 w w3 K2.out)
        have hq2 : w.heap.size ≤ w3.heap.size + 2 := Nat.le_trans K2.out.size (by omega)
        refine gw (motive := fun x => Code.wp _ _ _ _ x) (fun V => Hid (MA cs w3.heap.size g0 (ml (mz g0) (.slice (some ⟨w3.heap.size + 1, 0, none⟩) 2 2)) w V)) MA1 ?_
        clear MA1 HZ HI HZS HON hmk hcv K2
        rintro V MV1
        generalize w3.heap.size = q at *
        go_wp2_with fail
        go_loopw [11] (fun s11 wr => ∃ j : Nat, j ≤ 16 ∧ j ≤ len ∧ s11 = .int .i64 (j : Int) ∧ Hid (wr.heap[q + 2]? = some (.cells (ml (kA (kre f j) k) (.slice (some ⟨q + 1, 0, none⟩) 2 2)).toArray 27)) ∧ Hid (wr.heap[q + 1]? = some (.cells (c6 cs) 39)) ∧ Hid (Below w.heap.size w wr)) (fun s11 _ => 16 - (intOf s11).toNat)
        case atStart => exact ⟨0, by omega, by omega, rfl, by have := MV1.out.r; rw [HG0.out, kre_zero f] at this; exact this, MV1.out.c, MV1.out.b⟩
        case round =>
          obtain ⟨j, hj16, hjl, rfl, H2, H1, HB⟩ := hrel
          by_cases hx : j < 16 ∧ j < len
          · obtain ⟨h16, hll⟩ := hx
            obtain ⟨b, off, rfl, hbw, hcell⟩ := HR.out j hll
            have hc := (HB.out.cell (p := ⟨b, off + j, none⟩) hbw).trans hcell
            have hfr : wr.frozen? ⟨q + 2, j, none⟩ = false := by simp [World.frozen?, H2.out]
            have hcl : wr.cell? ⟨q + 2, j, none⟩ = some (.int .i64 ((kre f j).getD j 0)) := by
              have hl := kre_len f j
              have hg : (ml (kA (kre f j) k) (.slice (some ⟨q + 1, 0, none⟩) 2 2))[j]? = some (.int .i64 ((kre f j).getD j 0)) := by
                unfold ml kA km
                rw [List.getElem?_append_left (by simp; omega), List.getElem?_map, List.getElem?_eq_getElem (by simp only; omega), List.getD_eq_getElem?_getD, List.getElem?_eq_getElem (by omega)]
                rfl
              simp [World.cell?, H2.out, hg]
            have H2' := hide (row_reg H2.out (k := j) (by rw [kre_len]; exact h16) (f j))
            rw [kre_set f h16] at H2'
            have H1' := hide ((Below.heap_setCell wr ⟨q + 2, j, none⟩ (.int .i64 (f j)) (q + 1) (by show q + 1 ≠ q + 2; omega)).trans H1.out)
            have HB' := hide (HB.out.setCell (p := ⟨q + 2, j, none⟩) hq2 (.int .i64 (f j)))
            clear hcell
            go_wp2_with fail
            go_roundw
            case rel => exact ⟨j + 1, h16, hll, by go_num, H2', H1', HB'⟩
            case measure => simp [intOf]; omega
          · go_upto_region 16 with fail
            go_cut [58] from 51 to 58 (fun s58 wx => s58 = .bool false ∧ wx = wr)
            case first =>
              by_cases h16 : j < 16
              · have hge : ¬ j < len := fun h => hx ⟨h16, h⟩
                clear hx
                go_wp2_with fail
                go_meet
                case rel => exact ⟨rfl, rfl⟩
              · clear hx
                go_wp2_with fail
                go_meet
                case rel => exact ⟨rfl, rfl⟩
            case rest =>
              obtain ⟨rfl, rfl⟩ := hcut
              clear hx
              have hl16 := kre_len f j
              have ff4 : wc.frozen? ⟨q + 2, 4, none⟩ = false := by simp [World.frozen?, H2.out]
              have f4 : wc.cell? ⟨q + 2, 4, none⟩ = some (.int .i64 ((kre f j).getD 4 0)) := by
                have hg : (ml (kA (kre f j) k) (.slice (some ⟨q + 1, 0, none⟩) 2 2))[4]? = some (.int .i64 ((kre f j).getD 4 0)) := by
                  unfold ml kA km
                  rw [List.getElem?_append_left (by simp; omega), List.getElem?_map, List.getElem?_eq_getElem (by simp only; omega), List.getD_eq_getElem?_getD, List.getElem?_eq_getElem (by omega)]
                  rfl
                simp [World.cell?, H2.out, hg]
              go_upto_region 20 with fail
              have hr2 := row_reg H2.out (k := 4) (by rw [kre_len]; omega) 4024
              have hm2 : MV (kA (krs f j) k) (.agg (mc (kA (krs f j) k) (.slice (some ⟨q + 1, 0, none⟩) 2 2))) (wc.setCell ⟨q + 2, 4, none⟩ (.int .i64 4024)) := by
                refine km_mv hN40 (krs_len f j) (krs_I64 HF.out j) ?_
                rw [← HCS.out]
                exact (Below.heap_setCell wc ⟨q + 2, 4, none⟩ (.int .i64 4024) (q + 1) (by show q + 1 ≠ q + 2; omega)).trans H1.out
              have K3 : Below w.heap.size w (wc.setCell ⟨q + 2, 4, none⟩ (.int .i64 4024)) := HB.out.setCell (p := ⟨q + 2, 4, none⟩) hq2 _
              have r4 := krs_4 f j
              have rl := krs_len f j
              refine gw (motive := fun x => Code.wp _ _ _ _ x) (fun V => Hid (BM (q + 2) (kA (krs f j) k) (.slice (some ⟨q + 1, 0, none⟩) 2 2) V) ∧ Hid (Below w.heap.size w V)) ⟨hide ⟨hr2, hm2⟩, hide K3⟩ ?_
              generalize krs f j = r at *
              clear hr2 hm2 K3 f4 ff4 H1 H2 HB hl16 HCS
              have R4 := hide (And.intro r4 rl)
              clear r4 rl
              rintro V2 ⟨B2, K4⟩
              generalize q + 2 = qa at *
              have TP := hide (tp_any B2.out.mv rfl)
              unfold TpEnds at TP
              rw [k_one hN40 R4.out.1, mc_is] at TP
              simp only at TP
              have RG := hide B2.out.rg
              have IL := hide B2.out.il
              go_wp2_with (first | (refine wpList_load_mid rfl 27 _ rfl qa 0 rfl _ _ RG.out Try.underlying27 rfl IL.out ?_) | fail)
              refine TP.out.mono ?_
              rintro e w4 ⟨v', rfl, hm1, hb3⟩
              clear TP RG IL
              obtain ⟨ra, rc, rfl⟩ := hm1.sl
              have TM := hide (two_made ⟨500, 4016, 0, 0⟩ hm1)
              have B2' := hide (B2.out.bel hb3)
              have K5 := hide (bel_tr K4.out hb3)
              have HI := hide (z_inf hm1.len (.slice ra (kB r k).g.length rc))
              have HZS := hide (z_siz hm1.len (.slice ra (kB r k).g.length rc))
              have HON := hide (ml_one (kB r k) ra (kB r k).g.length rc)
              rw [mc_is]
              have HZ1 := hide (z_one w4)
              have HZ2 := hide (z_two w4 (ml (kB r k) (.slice ra (kB r k).g.length rc)).toArray)
              have HI2 := hide (lkc_siz ⟨500, 4016, 0, 0⟩)
              have HON2 := hide (lkc_one ⟨500, 4016, 0, 0⟩)
              unfold lkv
              clear hm1 hb3 B2 K4
              unfold zm lkc lk0 at HZ1 HZ2 TM
              unfold lkc at HI2 HON2 ⊢
              go_upto_region 21 with (first | (refine wpList_store_row rfl 27 _ _ rfl w4.heap.size _ rfl rfl 27 zm HZ1.out HI.out HZS.out HON.out ?_) | (refine wpList_store_row rfl 52 _ _ rfl (w4.heap.size + 1) _ rfl rfl 52 (lkc lk0) HZ2.out HI2.out rfl HON2.out ?_) | fail)
              refine gw (motive := fun x => Code.wp _ _ _ _ x) (fun V => Hid (BM w4.heap.size (kB r k) (.slice ra (kB r k).g.length rc) V) ∧ Hid (Lb (w4.heap.size + 1) ⟨500, 4016, 0, 0⟩ V) ∧ Hid (BM qa (kA r k) (.slice (some ⟨q + 1, 0, none⟩) 2 2) V) ∧ Hid (Below w.heap.size w V)) ⟨TM.out.1, TM.out.2.1, B2'.out.bel TM.out.2.2, bel_tr K5.out TM.out.2.2⟩ ?_
              clear TM HZ1 HZ2 HI HZS HON HI2 HON2 B2' K5
              rintro V3 ⟨B3, L3, A3, K3⟩
              generalize w4.heap.size = qb at *
              have TP := hide (tp_any B3.out.mv rfl)
              unfold TpEnds at TP
              rw [k_two hN40 R4.out.1 R4.out.2, mc_is] at TP
              simp only at TP
              have RG := hide B3.out.rg
              have IL := hide B3.out.il
              go_wp2_with (first | (refine wpList_load_mid rfl 27 _ rfl qb 0 rfl _ _ RG.out Try.underlying27 rfl IL.out ?_) | fail)
              refine TP.out.mono ?_
              rintro e w5 ⟨v', rfl, hm1, hb3⟩
              clear TP RG IL
              obtain ⟨ra2, rc2, rfl⟩ := hm1.sl
              have TM := hide (two_made ⟨505 + (k : Int), 4016, 0, 0⟩ hm1)
              have B3' := hide (B3.out.bel hb3)
              have A3' := hide (A3.out.bel hb3)
              have L3' := hide ((hb3.block _ L3.out.lt).trans L3.out)
              have K5 := hide (bel_tr K3.out hb3)
              have HL3 := hide L3.out.lt
              have HI := hide (z_inf hm1.len (.slice ra2 (kC r k).g.length rc2))
              have HZS := hide (z_siz hm1.len (.slice ra2 (kC r k).g.length rc2))
              have HON := hide (ml_one (kC r k) ra2 (kC r k).g.length rc2)
              rw [mc_is]
              have HZ1 := hide (z_one w5)
              have HZ2 := hide (z_two w5 (ml (kC r k) (.slice ra2 (kC r k).g.length rc2)).toArray)
              have HI2 := hide (lkc_siz ⟨505 + (k : Int), 4016, 0, 0⟩)
              have HON2 := hide (lkc_one ⟨505 + (k : Int), 4016, 0, 0⟩)
              have HLT : Hid (qb + 1 < w5.heap.size) := Nat.lt_of_lt_of_le HL3.out hb3.size
              unfold lkv
              clear hm1 hb3 B3 A3 L3 K3 HL3
              unfold zm lkc lk0 at HZ1 HZ2 TM
              unfold lkc at HI2 HON2 ⊢
              go_upto_region 22 with (first | (refine wpList_store_row rfl 27 _ _ rfl w5.heap.size _ rfl rfl 27 zm HZ1.out HI.out HZS.out HON.out ?_) | (refine wpList_store_row rfl 52 _ _ rfl (w5.heap.size + 1) _ rfl rfl 52 (lkc lk0) HZ2.out HI2.out rfl HON2.out ?_) | fail)
              refine gw (motive := fun x => Code.wp _ _ _ _ x) (fun V => Hid (BM w5.heap.size (kC r k) (.slice ra2 (kC r k).g.length rc2) V) ∧ Hid (Lb (w5.heap.size + 1) ⟨505 + (k : Int), 4016, 0, 0⟩ V) ∧ Hid (BM qb (kB r k) (.slice ra (kB r k).g.length rc) V) ∧ Hid (Lb (qb + 1) ⟨500, 4016, 0, 0⟩ V) ∧ Hid (BM qa (kA r k) (.slice (some ⟨q + 1, 0, none⟩) 2 2) V) ∧ Hid (Below w.heap.size w V)) ⟨TM.out.1, TM.out.2.1, B3'.out.bel TM.out.2.2, (TM.out.2.2.block _ HLT.out).trans L3'.out, A3'.out.bel TM.out.2.2, bel_tr K5.out TM.out.2.2⟩ ?_
              clear TM HZ1 HZ2 HI HZS HON HI2 HON2 B3' A3' L3' K5 HLT
              rintro V4 ⟨C4, M4, B4, L4, A4, K4⟩
              generalize w5.heap.size = qc at *
              have TP := hide (read_any B4.out.mv 4016 8 (by unfold I64 Xc.I64; omega))
              unfold RdEnds at TP
              rw [show (kB r k).g = [⟨500, kco k, true⟩, ⟨4000, kz, false⟩] from rfl, k_rd k, mc_is] at TP
              simp only [Option.getD_some, Option.isSome_some] at TP
              have RG := hide B4.out.rg
              have IL := hide B4.out.il
              go_wp2_with (first | (refine wpList_load_mid rfl 27 _ rfl qb 0 rfl _ _ RG.out Try.underlying27 rfl IL.out ?_) | fail)
              refine TP.out.mono ?_
              rintro e w6 ⟨rfl, hb3⟩
              clear TP RG IL
              have C5 := hide (C4.out.bel hb3)
              have B5 := hide (B4.out.bel hb3)
              have A5 := hide (A4.out.bel hb3)
              obtain ⟨_, l1, _, _⟩ := Lb.cells (show Lb (qb + 1) ⟨500, 4016, 0, 0⟩ w6 from (hb3.block _ L4.out.lt).trans L4.out)
              obtain ⟨_, m1, _, _⟩ := Lb.cells (show Lb (qc + 1) ⟨505 + (k : Int), 4016, 0, 0⟩ w6 from (hb3.block _ M4.out.lt).trans M4.out)
              have K5 := hide (bel_tr K4.out hb3)
              clear hb3 C4 M4 B4 L4 A4 K4
              obtain ⟨_, _, _, _, b20, _, _⟩ := ml_c B5.out.mv.len B5.out.row
              obtain ⟨_, _, _, _, e20, _, e22⟩ := ml_c C5.out.mv.len C5.out.row
              have b4 := B5.out.reg 4 (by omega)
              have hb4 : (kB r k).r.getD 4 0 = 4016 := by
                show (r.set 4 4016).getD 4 0 = 4016
                rw [List.getD_eq_getElem?_getD, List.getElem?_set_self (by rw [R4.out.2]; omega)]; rfl
              rw [hb4] at b4
              rw [show (kB r k).at_ = 505 + (k : Int) from rfl] at b20
              rw [show (kC r k).at_ = 505 from rfl] at e20
              rw [show (kC r k).st = 0 from rfl] at e22
              simp only at l1 m1
              have rC := fun i (hi : i < 16) => C5.out.reg i hi
              have rA := fun i (hi : i < 16) => A5.out.reg i hi
              rw [show (kC r k).r = r from rfl] at rC
              rw [show (kA r k).r = r from rfl] at rA
              have rc0 := rC 0 (by omega)
              have ra0 := rA 0 (by omega)
              have rc1 := rC 1 (by omega)
              have ra1 := rA 1 (by omega)
              have rc2 := rC 2 (by omega)
              have ra2 := rA 2 (by omega)
              have rc3 := rC 3 (by omega)
              have ra3 := rA 3 (by omega)
              have rc4 := rC 4 (by omega)
              have ra4 := rA 4 (by omega)
              have rc5 := rC 5 (by omega)
              have ra5 := rA 5 (by omega)
              have rc6 := rC 6 (by omega)
              have ra6 := rA 6 (by omega)
              have rc7 := rC 7 (by omega)
              have ra7 := rA 7 (by omega)
              have rc8 := rC 8 (by omega)
              have ra8 := rA 8 (by omega)
              have rc9 := rC 9 (by omega)
              have ra9 := rA 9 (by omega)
              have rc10 := rC 10 (by omega)
              have ra10 := rA 10 (by omega)
              have rc11 := rC 11 (by omega)
              have ra11 := rA 11 (by omega)
              have rc12 := rC 12 (by omega)
              have ra12 := rA 12 (by omega)
              have rc13 := rC 13 (by omega)
              have ra13 := rA 13 (by omega)
              have rc14 := rC 14 (by omega)
              have ra14 := rA 14 (by omega)
              have rc15 := rC 15 (by omega)
              have ra15 := rA 15 (by omega)
              clear rC rA hb4 C5 B5 A5
              generalize r.getD 0 0 = x0 at *
              generalize r.getD 1 0 = x1 at *
              generalize r.getD 2 0 = x2 at *
              generalize r.getD 3 0 = x3 at *
              generalize r.getD 4 0 = x4 at *
              generalize r.getD 5 0 = x5 at *
              generalize r.getD 6 0 = x6 at *
              generalize r.getD 7 0 = x7 at *
              generalize r.getD 8 0 = x8 at *
              generalize r.getD 9 0 = x9 at *
              generalize r.getD 10 0 = x10 at *
              generalize r.getD 11 0 = x11 at *
              generalize r.getD 12 0 = x12 at *
              generalize r.getD 13 0 = x13 at *
              generalize r.getD 14 0 = x14 at *
              generalize r.getD 15 0 = x15 at *
              have E16 := eq16 x0 x1 x2 x3 x4 x5 x6 x7 x8 x9 x10 x11 x12 x13 x14 x15
              go_wp2_with fail
              go_ret
              exact ⟨rfl, K5.out⟩
end Go.Proofs.Ytielpebokbolbaa
/-
  Numbers that come in: what they read.
-/
namespace Go.Proofs.Ytielpebokbolbaa
open Go.ChangeShapes Go.WideShapes Go.ChangeAt Go.RowKit
theorem cells3i : Try.prog.cellsOf 3 = 1 := by kernel_rfl
theorem reads_of {H : Type} {enc : TypeId × Value → H} {W : World} {a0 : Option Addr} {len cap : Nat} {d : DataW H} {p : List MemPlace}
    (h : DataW.Trod enc Try.prog W 0 (fun _ => true) true 44 (.slice a0 len cap) d p) :
    ∃ g : Nat → Int, (∀ j, I64 (g j)) ∧ len ≤ 9223372036854775807 ∧ RdI W.heap.size W a0 len g := by
  have zero64 : I64 0 := Xc.zero_I64
  obtain ⟨fuel, hf⟩ := h
  rcases open_ints Try.underlying44 Try.underlying3 cells3i hf with ⟨hcs, hx⟩ | ⟨a, len', cap', zs, hcs, _, hl, hm, hz, hx, hcell, hwz⟩
  · simp [Value.cells] at hcs
    obtain ⟨rfl, rfl, rfl⟩ := hcs
    exact ⟨fun _ => 0, fun _ => zero64, by decide, fun j hj => absurd hj (by omega)⟩
  · simp [Value.cells] at hcs
    obtain ⟨rfl, rfl, rfl⟩ := hcs
    simp only [if_true] at hz
    refine ⟨fun j => zs.getD j 0, fun j => ?_, by unfold maxLen at hm; omega, fun j hj => ?_⟩
    · by_cases hj : j < zs.length
      · have e : zs.getD j 0 = zs[j] := by simp [List.getD, hj]
        show I64 (zs.getD j 0)
        rw [e]; exact wf_i64 (hwz _ (List.getElem_mem hj))
      · have e : zs.getD j 0 = 0 := by simp [List.getD, hj]
        show I64 (zs.getD j 0)
        rw [e]; exact zero64
    · obtain ⟨b, off, spot⟩ := a
      have hspot : spot = none := by simpa [Addr.add] using World.cell?_spot (hcell 0 (by omega))
      subst hspot
      have hc := hcell j (by omega)
      rw [add_plain] at hc
      exact ⟨b, off, rfl, cell_lt hc, hc⟩
end Go.Proofs.Ytielpebokbolbaa

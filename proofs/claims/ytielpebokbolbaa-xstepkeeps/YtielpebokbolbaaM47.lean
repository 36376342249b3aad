/-
  XstepKeeps: no step changes code, or how many regions there are, where they lie, and how long they are; a machine that does not go stays.
-/
import Derived.Test.YtielpebokbolbaaM44
namespace Go.Proofs.Ytielpebokbolbaa
open Go.RowKit
open Xc (hide bel_one bel_tr bel_al bel_set Xi xv xc)
set_option linter.unusedSimpArgs false
set_option linter.unusedVariables false
/-- What no step changes. -/
def KG (g g' : List Rg) : Prop := g'.length = g.length ∧ ∀ i (h : i < g.length) (h' : i < g'.length), g'[i].at_ = g[i].at_ ∧ g'[i].code = g[i].code ∧ g'[i].by_.length = g[i].by_.length ∧ (g[i].code = true → g'[i].by_ = g[i].by_)
theorem KG.refl (g : List Rg) : KG g g := ⟨rfl, fun i h h' => ⟨rfl, rfl, rfl, fun _ => rfl⟩⟩
theorem KG.trans {a b c : List Rg} (h : KG a b) (k : KG b c) : KG a c := ⟨k.1.trans h.1, fun i ha hc => by
  have hb : i < b.length := by rw [h.1]; exact ha
  obtain ⟨x1, x2, x3, x4⟩ := h.2 i ha hb
  obtain ⟨y1, y2, y3, y4⟩ := k.2 i hb hc
  exact ⟨y1.trans x1, y2.trans x2, y3.trans x3, fun e => (y4 (x2.trans e)).trans (x4 e)⟩⟩
theorem kg_pt {g : List Rg} {a n v : Int} : KG g ((ptM g a n v).getD g) := by
  cases hf : fnN g a n with
  | none => rw [ptM_none hf]; exact KG.refl g
  | some i =>
    obtain ⟨hn, hi, hc, hw⟩ := fnN_some hf
    rw [ptM_some hf hi]
    refine ⟨by simp, fun j hj hj' => ?_⟩
    simp only [Option.getD_some, List.getElem_set]
    split
    · rename_i e; subst e
      exact ⟨rfl, rfl, ptR_len hw hn, fun e => by rw [hc] at e; cases e⟩
    · exact ⟨rfl, rfl, rfl, fun _ => rfl⟩
theorem kg_acc (m : Mc) (x : Xi) (a a0 : Int) : KG m.g ((acc m x a).getD ((m.sa a0).ss 4)).g := by
  have pt : ∀ (n v : Int) (f : Mc → Mc) (hf : ∀ u, (f u).g = u.g), KG m.g (((ptM m.g a n v).map fun g => f (m.sg g)).getD ((m.sa a0).ss 4)).g := fun n v f hf => by
    have := kg_pt (g := m.g) (a := a) (n := n) (v := v)
    cases h : ptM m.g a n v with
    | none => exact KG.refl _
    | some g => rw [h] at this; simp only [Option.map_some, Option.getD_some, hf]; exact this
  unfold acc
  split
  · exact pt _ _ id fun _ => rfl
  · split
    · exact pt 8 m.at_ (fun u => (u.sr 4 a).sa (wrap64 (m.at_ + x.n))) fun _ => rfl
    · split
      · cases rdM m.g a 8 <;> exact KG.refl _
      · cases rdM m.g a (szX x) <;> exact KG.refl _
theorem kg_stp (m : Mc) : KG m.g (stp m).1.g := by
  unfold stp
  cases fet m with
  | none => exact KG.refl _
  | some x =>
    show KG m.g (doX _ x _).1.g
    unfold doX
    split
    · exact kg_acc _ _ _ _
    · split
      · show KG m.g (Option.getD (dvd _ x) _).g
        unfold dvd
        split
        · split <;> exact KG.refl _
        · split <;> exact KG.refl _
      · split
        · show KG m.g (if _ then _ else _ : Mc).g
          split <;> exact KG.refl _
        · split
          · exact KG.refl _
          · split
            · exact KG.refl _
            · split
              · exact KG.refl _
              · show KG m.g (rck _ x).g
                rw [rck_g]; exact KG.refl _
theorem kg_run : ∀ (n : Nat) (m : Mc), KG m.g (runM n m).1.g
  | 0, m => KG.refl _
  | n + 1, m => by
    unfold runM
    split
    · exact (kg_stp m).trans (kg_run n _)
    · exact KG.refl _
theorem run_end : ∀ (n : Nat) (m : Mc), (runM n m).1.st ≠ 0 ∨ (runM n m).2.length = n
  | 0, m => Or.inr rfl
  | n + 1, m => by
    unfold runM
    split
    · rcases run_end n (stp m).1 with h | h
      · exact Or.inl h
      · exact Or.inr (by simp [h])
    · rename_i h; exact Or.inl h
theorem MV.rs {m : Mc} {ra : Option Addr} {n rc : Nat} {w : World} (h : MV m (.agg (mc m (.slice ra n rc))) w) : n = m.g.length ∧ ∃ ss, RS w ra m.g ss ∧ (∀ i (h : i < m.g.length), (ss i).data.toList = m.g[i].by_) ∧ m.g.length ≤ 4398046511104 := by
  obtain ⟨ra', rc', ss, e, hR, hs, ok, hl⟩ := h
  injection e with e
  have e2 := congrArg (·.toList[21]?) e
  simp only [mc_is] at e2
  rw [ml_21 ok.1, ml_21 ok.1] at e2
  injection e2 with e2
  injection e2 with e3 e4 e5
  subst e3 e4 e5
  exact ⟨rfl, ss, hR, hs, by omega⟩
theorem cell_lt' {w : World} {b k : Nat} {v : Value} (h : w.cell? ⟨b, k, none⟩ = some v) : b < w.heap.size := World.block_lt_of_cell? w _ h
theorem run_stays (n : Nat) {m : Mc} (h : ¬ m.st = 0) : runM n m = (m, []) := by cases n <;> simp [runM, h]
set_option maxRecDepth 100000 in
set_option maxHeartbeats 6400000 in
theorem keeps_walk {m : Mc} {v : Value} {w : World} (h : MV m v w) (most : Int) (im : I64 most) : Calls Try.prog 4 #[v, .int .i64 most] w fun e w' => e = .returned (.bool true) ∧ Below w.heap.size w w' := by
  obtain ⟨ra, rc, rfl⟩ := h.sl
  have B0 := hide (bm_arg h)
  rw [mc_is]
  have H1 : Hid (min most 100 ≤ 100) := by show _ ≤ _; omega
  have H2 : Hid (0 ≤ 0) := Nat.le_refl 0
  have HMM := hide (show (((min most 100).toNat : Nat) : Int) = min (max most 0) 100 ∧ (((min most 100).toNat : Nat) : Int) ≤ max most 0 by omega)
  clear h im
  go_enter Try.func4, Try.ntmps4
  go_wp2_with fail
  refine gw (motive := fun x => Calls _ _ _ x _) (fun W => Hid (BM w.heap.size m (.slice ra m.g.length rc) W) ∧ Hid (Below w.heap.size w W)) ⟨B0.out, bel_one _ _⟩ ?_
  rintro W ⟨BW, KW⟩
  clear B0
  refine (examples_any _).mono ?_
  rintro e w1 ⟨rfl, hb⟩
  have B1 := hide (BW.out.bel hb)
  have K1 := hide (bel_tr KW.out hb)
  clear hb BW KW
  have RR := hide (run_any B1.out.mv (min most 100) (by have := H1.out; have := H2.out; omega))
  rw [mc_is] at RR
  go_wp2_with (first | (refine wpList_load_mid rfl 27 _ rfl w.heap.size 0 rfl _ _ B1.out.rg Try.underlying27 rfl B1.out.il ?_))
  refine RR.out.mono ?_
  rintro e ua ⟨va, la, rfl, hma, hla, hba⟩
  clear RR
  generalize hRa : runM ((min most 100)).toNat m = Ra at hma hla
  have HRa := hide hRa
  clear hRa
  obtain ⟨raa, rca, rfl⟩ := hma.sl
  have HMa := hide hma
  have HLVa := hide hla
  rw [mc_is]
  have B1n := hide (B1.out.bel hba)
  have K1n := hide (bel_tr K1.out hba)
  clear hma hla hba B1 K1
  have HZ := hide (z_row ua)
  have HI := hide (z_inf HMa.out.len (.slice raa Ra.1.g.length rca))
  have HZS := hide (z_siz HMa.out.len (.slice raa Ra.1.g.length rca))
  have HON := hide (ml_one Ra.1 raa Ra.1.g.length rca)
  have NB := hide (bm_new HMa.out)
  unfold zm at HZ HZS NB
  go_upto_region 3 with (refine wpList_store_row rfl 27 _ _ rfl ua.heap.size _ rfl rfl 27 zm HZ.out HI.out HZS.out HON.out ?_)
  refine gw (motive := fun x => Code.wp _ _ _ _ x) (fun V => Hid (BM ua.heap.size Ra.1 (.slice raa Ra.1.g.length rca) V) ∧ Hid (LV 0 Ra.2 la V) ∧ Hid (BM w.heap.size m (.slice ra m.g.length rc) V) ∧ Hid (Below w.heap.size w V)) ⟨NB.out.1, HLVa.out.bel NB.out.2, B1n.out.bel NB.out.2, bel_tr K1n.out NB.out.2⟩ ?_
  rintro Wa ⟨BMa, LVa, B1, K1⟩
  clear HZ HI HZS HON NB HMa HLVa B1n K1n
  generalize ua.heap.size = qa at *
  have KGa : KG m.g Ra.1.g := by rw [← HRa.out]; exact kg_run _ _
  have HG := hide KGa
  obtain ⟨_, _, _, _, _, a21, a22⟩ := ml_c B1.out.mv.len B1.out.row
  obtain ⟨_, _, _, _, _, b21, b22⟩ := ml_c BMa.out.mv.len BMa.out.row
  rw [KGa.1] at b21
  obtain ⟨a7, c7, rfl⟩ := LVa.out.sl
  obtain ⟨_, ss, hR, hs, hgl⟩ := B1.out.mv.rs
  obtain ⟨_, tt, hT, ht, _⟩ := BMa.out.mv.rs
  have HR := hide hR
  have HS := hide hs
  have HT := hide hT
  have HTT := hide ht
  have hqa : w.heap.size < Wa.heap.size := cell_lt' a21
  have hqb : qa < Wa.heap.size := cell_lt' b21
  have TA := hide a21
  have TB := hide b21
  have TC := hide a22
  have TD := hide b22
  clear KGa hR hs hT ht
  go_wp2_with fail
  go_loopw [8, 9, 10] (fun iv p9 p10 wr => ∃ k : Nat, k ≤ m.g.length ∧ iv = .int .i64 (k : Int) ∧ Hid (Below Wa.heap.size Wa wr)) (fun iv _ _ _ => m.g.length - (intOf iv).toNat)
  case atStart => exact ⟨0, Nat.zero_le _, rfl, Below.refl _ _⟩
  case round =>
    obtain ⟨k, hk, rfl, HB⟩ := hrel
    have a21' : wr.cell? ⟨w.heap.size, 21, none⟩ = some (.slice ra m.g.length rc) := by rw [HB.out.cell (p := ⟨w.heap.size, 21, none⟩) hqa]; exact TA.out
    have b21' : wr.cell? ⟨qa, 21, none⟩ = some (.slice raa m.g.length rca) := by rw [HB.out.cell (p := ⟨qa, 21, none⟩) hqb]; exact TB.out
    have a22' : wr.cell? ⟨w.heap.size, 22, none⟩ = some (.int .i64 m.st) := by rw [HB.out.cell (p := ⟨w.heap.size, 22, none⟩) hqa]; exact TC.out
    have b22' : wr.cell? ⟨qa, 22, none⟩ = some (.int .i64 Ra.1.st) := by rw [HB.out.cell (p := ⟨qa, 22, none⟩) hqb]; exact TD.out
    have hwa : Wa.heap.size ≤ wr.heap.size := HB.out.size
    have hqa' : w.heap.size < wr.heap.size := by omega
    have hqb' : qa < wr.heap.size := by omega
    clear a21 b21 a22 b22
    by_cases hlt : k < m.g.length
    · have hlt' : k < Ra.1.g.length := by rw [HG.out.1]; exact hlt
      obtain ⟨e1, e2, e3, e4⟩ := HG.out.2 k hlt hlt'
      rcases HR.out.bel HB.out with h0 | ⟨b1, o1, rfl, h1⟩
      · rw [h0] at hlt; cases hlt
      rcases HT.out.bel HB.out with h0 | ⟨b2, o2, rfl, h2⟩
      · rw [h0] at hlt'; cases hlt'
      obtain ⟨c0, c1, c2, s1, z1⟩ := h1 k hlt
      obtain ⟨d0, d1, d2, s2, z2⟩ := h2 k hlt'
      have hb1 : b1 < wr.heap.size := cell_lt' c0
      have hb2 : b2 < wr.heap.size := cell_lt' d0
      rw [e1] at d0
      rw [e2] at d2
      have hsz : (tt k).size = (ss k).size := by rw [s1, s2, e3]
      have h4 : m.g[k].code = true → tt k = ss k := fun hc => str_eq (HTT.out k hlt') ((HS.out k hlt).trans (e4 hc).symm)
      clear e1 e2 e3 e4 h1 h2 s1 s2 z1 z2 hlt'
      generalize m.g[k].at_ = x1 at *
      generalize ss k = x2 at *
      generalize tt k = x3 at *
      generalize m.g[k].code = x4 at *
      cases x4
      · clear h4
        go_wp2_with fail
        go_roundw
        case rel => exact ⟨k + 1, hlt, by go_num, (HB.out.trans ((bel_one wr _).mono hwa)).trans ((bel_one _ _).mono (by simp; omega))⟩
        case measure => simp [intOf]; omega
      · have e := h4 rfl
        subst e
        clear h4 hsz
        have qq : (x3.toList == x3.toList) = true := by simp
        go_wp2_with fail
        go_roundw
        case rel => exact ⟨k + 1, hlt, by go_num, (HB.out.trans ((bel_one wr _).mono hwa)).trans ((bel_one _ _).mono (by simp; omega))⟩
        case measure => simp [intOf]; omega
    · have hkn : k = m.g.length := by omega
      have BB1 := hide (B1.out.bel HB.out)
      have BBa := hide (BMa.out.bel HB.out)
      have KB := hide (bel_tr K1.out HB.out)
      have hle : ((Ra.2.length : Nat) : Int) ≤ max most 0 := by have h1 := run_len (min most 100).toNat m; rw [HRa.out] at h1; have := HMM.out.2; omega
      have HLL : Hid (Ra.1.st ≠ 0 ∨ ((Ra.2.length : Nat) : Int) = min (max most 0) 100) := by
        rcases run_end (min most 100).toNat m with h1 | h1
        · rw [HRa.out] at h1; exact Or.inl h1
        · rw [HRa.out] at h1; exact Or.inr (by have := HMM.out.1; omega)
      have HKE : Hid ((k : Int) = (m.g.length : Int)) := by show _ = _; omega
      have hklt : ¬ ((k : Int) < (m.g.length : Int)) := by omega
      clear hkn B1 BMa K1 HB
      by_cases hst : m.st = 0
      · rw [hst] at a22'
        clear hst
        by_cases hs2 : Ra.1.st = 0
        · have hq2 : ((Ra.2.length : Nat) : Int) = min (max most 0) 100 := HLL.out.resolve_left (fun h => h hs2)
          rw [hs2] at b22'
          clear hs2
          go_wp2_with fail
          all_goals
            first
            | (exfalso; omega)
            | (go_ret; exact ⟨by simp [hq2], KB.out⟩)
        · have hs3 : (Ra.1.st != 0) = true := by simpa using hs2
          clear hs2
          go_wp2_with fail
          all_goals
            first
            | (exfalso; omega)
            | (go_ret; exact ⟨rfl, KB.out⟩)
      · have E : Ra = (m, []) := by rw [← HRa.out]; exact run_stays _ hst
        have hs3 : (m.st != 0) = true := by simpa using hst
        subst E
        simp only at BBa b22' hle HLL ⊢
        have SM := hide (machines_yes BB1.out.mv BBa.out.mv)
        rw [mc_is, mc_is] at SM
        clear hst hle
        go_wp2_with (first | (refine wpList_load_mid rfl 27 _ rfl w.heap.size 0 rfl _ _ BB1.out.rg Try.underlying27 rfl BB1.out.il ?_) | (refine wpList_load_mid rfl 27 _ rfl qa 0 rfl _ _ BBa.out.rg Try.underlying27 rfl BBa.out.il ?_))
        refine SM.out.mono ?_
        rintro e w5 ⟨rfl, hb5⟩
        have K5 := hide (bel_tr KB.out hb5)
        clear SM BB1 BBa hb5
        go_wp2_with fail
        go_ret
        exact ⟨rfl, K5.out⟩
end Go.Proofs.Ytielpebokbolbaa

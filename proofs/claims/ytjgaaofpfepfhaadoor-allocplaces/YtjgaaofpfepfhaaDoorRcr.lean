/-
  The document's Crosses.
-/
import Derived.Test.YtjgaaofpfepfhaaDoorR6
import Derived.Test.YtjgaaofpfepfhaaDoorCrn
namespace Go.Proofs.YtjgaaofpfepfhaaDoor
open Go.RowKit
set_option linter.unusedSimpArgs false
set_option linter.unusedVariables false
def RCrEnds (d : Cd) (l : List Ir) (w : World) (e : Ending) (w' : World) : Prop :=
  (fitb d l = false ∧ e = .returned (.tuple #[.int .i64 0, .bool false]) ∧ Below w.heap.size w w') ∨
  (fitb d l = true ∧ ∃ (A F : Nat → Nat), e = .returned (.tuple #[.int .i64 ((crT l F l.length : Nat) : Int), .bool true]) ∧ Sol (sy l) A F ∧ Below w.heap.size w w')
set_option maxRecDepth 100000 in
set_option maxHeartbeats 6400000 in
theorem rcrosses_any (d : Cd) (q : Option Addr) (cap : Nat) (l : List Ir) (w : World) (hl : l.length ≤ 1000) (hr : IR w.heap.size w q l) :
    Calls Tryd.prog 11 #[cv d q l.length cap] w (RCrEnds d l w) := by
  have HL := hide hl
  have HR := hide hr
  have B0 : FB d q l.length cap w.heap.size l w (w.alloc (.cells #[.int .i64 d.cells, .int .i64 d.params, .slice q l.length cap, .int .i64 d.labels] 24)) := ⟨bel_one _ _, by simp, heap_alloc_new _ _⟩
  have BA := hide (fun U (hU : IR U.heap.size U q l) => both_any d q cap l U hl hU)
  clear hl hr
  obtain ⟨cs, ps, ls⟩ := d
  unfold cv at BA ⊢
  simp only at B0 BA ⊢
  go_enter Tryd.func11, Tryd.ntmps11
  go_upto_region 1 with fail
  refine gw (motive := fun x => Code.wp _ _ _ _ x) (fun W => Hid (FB ⟨cs, ps, ls⟩ q l.length cap w.heap.size l w W)) B0 ?_
  rintro W HW
  clear B0
  obtain ⟨c0, c1, c2, c3⟩ := HW.out.cells (Below.refl _ W) HW.out.lt
  simp only at c0 c1 c2 c3
  have hqW := HW.out.lt
  go_wp2_with fail
  refine (BA.out W ((HR.out.bel HW.out.b).up HW.out.b.size)).mono ?_
  clear c0 c1 c2 c3 BA
  rintro e W1 (⟨hf, rfl, k2⟩ | ⟨hf, rb, ra, A, F, rfl, k1, k1', n1, n2, s1, k2⟩)
  · have HB := hide (HW.out.b.trans (k2.mono HW.out.b.size))
    have HF := hide hf
    clear k2 hf
    go_wp2_with fail
    refine bodyPost_ret (results_tmp2 rfl _ _ _) rfl ?_
    exact Or.inl ⟨HF.out, rfl, HB.out⟩
  have HB1 := hide k2
  have HB := hide (HW.out.b.trans (k2.mono HW.out.b.size))
  have HF := hide hf
  have HO := hide (fitb_ok hf)
  have HS := hide s1
  have HN := hide n2
  have LF := hide (show ∀ i, i < l.length → F i < lim from s1.lf)
  have C0 : Hid (crT l F 0 = 0) := rfl
  have HIR := hide (HR.out.bel HB.out)
  clear hf k2 n1 n2 s1
  go_wp2_with fail
  go_loopw [7, 8, 9] (fun s7 s8 _ wr => ∃ k : Nat, k ≤ l.length ∧ s8 = .int .i64 (k : Int) ∧ s7 = .int .i64 ((crT l F k : Nat) : Int) ∧ Hid (Below W1.heap.size W1 wr)) (fun _ s8 _ _ => l.length - (intOf s8).toNat)
  case atStart => exact ⟨0, Nat.zero_le _, rfl, by rw [C0.out]; rfl, Below.refl _ _⟩
  case round =>
    obtain ⟨k, hk, rfl, rfl, HBl⟩ := hrel
    have hk1 := HL.out
    obtain ⟨c0, c1, c2, c3⟩ := HW.out.cells (bel_tr HB1.out HBl.out) hqW
    simp only at c0 c1 c2 c3
    by_cases hlt : k < l.length
    · obtain ⟨g, o, rfl, hb, hcx, hox⟩ := HIR.out k hlt
      have hgW : g < W1.heap.size := Nat.lt_of_lt_of_le hb HB.out.size
      obtain ⟨d0, d1, d2, d3, d4, d5, d6⟩ := hcx.of (HBl.out.block g hgW)
      have hG : l.getD k ir0 = l[k] := by simp [List.getD, hlt]
      have hD := (HO.out l[k] (List.getElem_mem hlt)).2
      have CT := hide (crT_is l F k)
      have hw := wr_lim HO.out k hlt
      have hC := crT_lim HO.out LF.out k hk
      have hFk := LF.out k hlt
      have hy := (HN.out.of (HBl.out.block _ HN.out.lt)).c k hlt
      rw [hG] at CT hw
      have h1 : (k : Int) < (l.length : Int) := by omega
      have h0 : (0 : Int) ≤ (k : Int) := by omega
      clear hcx hG
      generalize hC1 : crT l F (k + 1) = C1 at *
      have HC1 := hide hC1
      clear hC1
      generalize crT l F k = Ck at *
      generalize l[k] = x at *
      obtain ⟨op, dst, aa, bb, cc, nn, mm⟩ := x
      simp only at d0 d1 d2 d3 d4 d5 d6 CT
      generalize hFE : F k = Fk at *
      replace hFE := hide hFE
      by_cases h14 : op = 14
      · subst h14
        have hdf : df ⟨14, dst, aa, bb, cc, nn, mm⟩ = dst := by unfold df; simp
        have hws : wrS ⟨14, dst, aa, bb, cc, nn, mm⟩ = if dst = -1 then 0 else one dst := by unfold wrS; rw [hdf]
        rw [hdf] at hD
        rw [hws] at CT hw
        clear hws hdf
        by_cases hd1 : dst = -1
        · subst hd1
          have C2 : Hid (C1 = Ck ||| Fk) := by show _ = _; rw [CT.out, if_pos rfl, if_pos rfl, dn_zero hFk]
          have hbo := bits_or hC hFk
          rw [← C2.out] at hbo
          clear CT hw
          go_wp2_with fail
          go_roundw
          case rel => exact ⟨k + 1, hlt, by go_num, by rw [HC1.out], HBl⟩
          case measure => simp [intOf]; omega
        · obtain ⟨g0, g1⟩ : 0 ≤ dst ∧ dst < 60 := by
            rcases hD with h | h
            · exact absurd h hd1
            · exact h
          rw [if_neg hd1] at hw
          have C2 : Hid (C1 = Ck ||| dn Fk (one dst)) := by show _ = _; rw [CT.out, if_pos rfl, if_neg hd1]
          obtain ⟨j, rfl⟩ : ∃ j : Nat, dst = (j : Int) := ⟨dst.toNat, by omega⟩
          have hs := shl_nat j (by omega)
          have hbd := bits_dn hFk hw
          have hbo := bits_or hC (dn_lim hFk hw)
          rw [← C2.out] at hbo
          clear CT hD hd1
          generalize one (j : Int) = oj at *
          generalize dn Fk oj = Dw at *
          go_wp2_with fail
          go_roundw
          case rel => exact ⟨k + 1, hlt, by go_num, by rw [HC1.out], HBl⟩
          case measure => simp [intOf]; omega
      · have C2 : Hid (C1 = Ck) := by show _ = _; rw [CT.out, if_neg h14]
        clear CT
        go_wp2_with fail
        go_roundw
        case rel => exact ⟨k + 1, hlt, by go_num, by rw [HC1.out, C2.out], HBl⟩
        case measure => simp [intOf]; omega
    · obtain rfl : k = l.length := by omega
      have h1 : ¬ (l.length : Int) < (l.length : Int) := by omega
      have HBB := hide (HB.out.trans (HBl.out.mono HB.out.size))
      go_wp2_with fail
      refine bodyPost_ret (results_tmp2 rfl _ _ _) rfl ?_
      exact Or.inr ⟨HF.out, A, F, rfl, HS.out, HBB.out⟩
end Go.Proofs.YtjgaaofpfepfhaaDoor

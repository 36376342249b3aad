/-
  Merged: Crn Slo Rcr Rnm.
-/
import Derived.Test.YtjgaaofpfepfhaaDoorAlo
import Derived.Test.YtjgaaofpfepfhaaDoorR6
import Derived.Test.YtjgaaofpfepfhaaDoorR5
import Derived.Test.YtjgaaofpfepfhaaDoorR4
/-
  The program's Crosses and Named.
-/
namespace Go.Proofs.YtjgaaofpfepfhaaDoor
open Go.RowKit
set_option linter.unusedSimpArgs false
set_option linter.unusedVariables false
def CrEnds (d : Cd) (l : List Ir) (w : World) (e : Ending) (w' : World) : Prop :=
  (fitb d l = false ∧ e = .returned (.tuple #[.int .i64 0, .int .i64 4]) ∧ Below w.heap.size w w') ∨
  (fitb d l = true ∧ ∃ (A F : Nat → Nat), e = .returned (.tuple #[.int .i64 ((crT l F l.length : Nat) : Int), .int .i64 0]) ∧ Sol (sy l) A F ∧ Below w.heap.size w w')
def NmEnds (d : Cd) (l : List Ir) (w : World) (e : Ending) (w' : World) : Prop :=
  (fitb d l = false ∧ e = .returned (.tuple #[.int .i64 0, .int .i64 4]) ∧ Below w.heap.size w w') ∨
  (fitb d l = true ∧ ∃ m : Nat, d.params = (m : Int) ∧ e = .returned (.tuple #[.int .i64 ((nmT l m l.length : Nat) : Int), .int .i64 0]) ∧ Below w.heap.size w w')
set_option maxRecDepth 100000 in
set_option maxHeartbeats 6400000 in
theorem crosses_any (d : Cd) (q : Option Addr) (cap : Nat) (l : List Ir) (w : World) (hl : l.length ≤ 1000) (hr : IR w.heap.size w q l) :
    Calls Tryd.prog 10 #[cv d q l.length cap] w (CrEnds d l w) := by
  have HL := hide hl
  have HR := hide hr
  clear hl hr
  have B0 : FB d q l.length cap w.heap.size l w (w.alloc (.cells #[.int .i64 d.cells, .int .i64 d.params, .slice q l.length cap, .int .i64 d.labels] 24)) := ⟨bel_one _ _, by simp, heap_alloc_new _ _⟩
  obtain ⟨cs, ps, ls⟩ := d
  unfold cv
  simp only at B0 ⊢
  go_enter Tryd.func10, Tryd.ntmps10
  go_upto_region 1 with fail
  refine gw (motive := fun x => Code.wp _ _ _ _ x) (fun W => Hid (FB ⟨cs, ps, ls⟩ q l.length cap w.heap.size l w W)) B0 ?_
  rintro W HW
  clear B0
  obtain ⟨c0, c1, c2, c3⟩ := HW.out.cells (Below.refl _ W) HW.out.lt
  simp only at c0 c1 c2 c3
  have hqW := HW.out.lt
  have FA := hide (after_any ⟨cs, ps, ls⟩ q cap l W HL.out ((HR.out.bel HW.out.b).up HW.out.b.size))
  unfold cv at FA
  go_wp2_with fail
  refine FA.out.mono ?_
  clear FA
  rintro e W1 (⟨hf, rfl, k2⟩ | ⟨hf, r1, A, F, rfl, g1, n1, s1, k2⟩)
  · have HF := hide hf
    have HB := hide (HW.out.b.trans (k2.mono HW.out.b.size))
    clear hf k2 c0 c1 c2 c3
    go_wp2_with fail
    refine bodyPost_ret (results_tmp2 rfl _ _ _) rfl ?_
    exact Or.inl ⟨HF.out, rfl, HB.out⟩
  · have HF := hide hf
    have HB := hide (HW.out.b.trans (k2.mono HW.out.b.size))
    obtain ⟨c0, c1, c2, c3⟩ := HW.out.cells k2 hqW
    simp only at c0 c1 c2 c3
    have HS := hide s1
    have n1 : NRow r1 l.length F W1 := n1
    have CA := hide (crossing_any q cap l r1 l.length F W1 HL.out ((HR.out.bel HB.out).up HB.out.size) (fitb_ok HF.out) n1 HS.out.lf)
    clear hf k2 n1 s1
    go_wp2_with fail
    refine CA.out.mono ?_
    rintro e W2 ⟨rfl, k2⟩
    have HB2 := hide (HB.out.trans (k2.mono HB.out.size))
    clear CA k2 c0 c1 c2 c3
    go_wp2_with fail
    refine bodyPost_ret (results_tmp2 rfl _ _ _) rfl ?_
    exact Or.inr ⟨HF.out, A, F, rfl, HS.out, HB2.out⟩
set_option maxRecDepth 100000 in
set_option maxHeartbeats 6400000 in
theorem nam_any (d : Cd) (q : Option Addr) (cap : Nat) (l : List Ir) (w : World) (hl : l.length ≤ 1000) (hr : IR w.heap.size w q l) :
    Calls Tryd.prog 12 #[cv d q l.length cap] w (NmEnds d l w) := by
  have HL := hide hl
  have HR := hide hr
  clear hl hr
  have B0 : FB d q l.length cap w.heap.size l w (w.alloc (.cells #[.int .i64 d.cells, .int .i64 d.params, .slice q l.length cap, .int .i64 d.labels] 24)) := ⟨bel_one _ _, by simp, heap_alloc_new _ _⟩
  obtain ⟨cs, ps, ls⟩ := d
  unfold cv
  simp only at B0 ⊢
  go_enter Tryd.func12, Tryd.ntmps12
  go_upto_region 1 with fail
  refine gw (motive := fun x => Code.wp _ _ _ _ x) (fun W => Hid (FB ⟨cs, ps, ls⟩ q l.length cap w.heap.size l w W)) B0 ?_
  rintro W HW
  clear B0
  obtain ⟨c0, c1, c2, c3⟩ := HW.out.cells (Below.refl _ W) HW.out.lt
  simp only at c0 c1 c2 c3
  have hqW := HW.out.lt
  have FA := hide (fits_any ⟨cs, ps, ls⟩ q cap l W HL.out ((HR.out.bel HW.out.b).up HW.out.b.size))
  unfold cv at FA
  go_wp2_with fail
  refine FA.out.mono ?_
  clear FA
  rintro e W1 ⟨rfl, k2⟩
  have HB := hide (HW.out.b.trans (k2.mono HW.out.b.size))
  obtain ⟨c0, c1, c2, c3⟩ := HW.out.cells k2 hqW
  simp only at c0 c1 c2 c3
  clear k2
  cases hf : fitb ⟨cs, ps, ls⟩ l
  · have HF := hide hf
    clear hf c0 c1 c2 c3
    go_wp2_with fail
    refine bodyPost_ret (results_tmp2 rfl _ _ _) rfl ?_
    exact Or.inl ⟨HF.out, rfl, HB.out⟩
  · have HF := hide hf
    clear hf
    have FP := fit_parts HF.out
    simp only at FP
    obtain ⟨m, hm⟩ : ∃ m : Nat, ps = (m : Int) := ⟨ps.toNat, by omega⟩
    subst hm
    have NA := hide (named_any ⟨cs, (m : Int), ls⟩ q cap l m W1 HL.out ((HR.out.bel HB.out).up HB.out.size) (fitb_ok HF.out) rfl (by omega))
    unfold cv at NA
    clear FP
    go_wp2_with fail
    refine NA.out.mono ?_
    rintro e W2 ⟨rfl, k2⟩
    have HB2 := hide (HB.out.trans (k2.mono HB.out.size))
    clear NA k2 c0 c1 c2 c3
    go_wp2_with fail
    refine bodyPost_ret (results_tmp2 rfl _ _ _) rfl ?_
    exact Or.inr ⟨HF.out, m, rfl, rfl, HB2.out⟩
end Go.Proofs.YtjgaaofpfepfhaaDoor
/-
  The program's Slots: how many slots the places need.
-/
namespace Go.Proofs.YtjgaaofpfepfhaaDoor
open Go.RowKit
set_option linter.unusedSimpArgs false
set_option linter.unusedVariables false
/-- The greatest place of the first k, 5 at least. -/
def grt (pl : Nat → Int) : Nat → Int
  | 0 => 5
  | k + 1 => max (grt pl k) (pl k)
theorem grt_le {pl : Nat → Int} {n : Nat} {b : Int} (hb : 5 ≤ b) (h : ∀ i, i < n → pl i ≤ b) : ∀ k, k ≤ n → 5 ≤ grt pl k ∧ grt pl k ≤ b
  | 0, _ => ⟨by unfold grt; omega, by unfold grt; omega⟩
  | k + 1, hk => by
    have := grt_le hb h k (by omega)
    have := h k (by omega)
    unfold grt
    omega
set_option maxRecDepth 100000 in
set_option maxHeartbeats 6400000 in
theorem slots_any (r n c : Nat) (pl : Nat → Int) (w : World) (hn : n ≤ 1000) (hp : ∀ i, i < n → pl i ≤ 9223372036854775807) (hc : ∀ i, i < n → w.cell? ⟨r, i, none⟩ = some (.int .i64 (pl i))) :
    Calls Tryd.prog 14 #[.slice (some ⟨r, 0, none⟩) n c] w fun e w' => e = .returned (.int .i64 (grt pl n - 5)) ∧ w' = w := by
  have HC := hide hc
  have HG := hide (grt_le (b := 9223372036854775807) (by omega) hp)
  clear hc hp
  go_enter Tryd.func14, Tryd.ntmps14
  go_wp2_with fail
  go_loopw [3, 5, 8] (fun s3 _ s8 wr => ∃ k : Nat, k ≤ n ∧ s8 = .int .i64 (k : Int) ∧ s3 = .int .i64 (grt pl k) ∧ wr = w) (fun _ _ s8 _ => n - (intOf s8).toNat)
  case atStart => exact ⟨0, Nat.zero_le _, rfl, rfl, rfl⟩
  case round =>
    obtain ⟨k, hk, rfl, rfl, rfl⟩ := hrel
    by_cases hlt : k < n
    · have hx := HC.out k hlt
      have h1 : (k : Int) < (n : Int) := by omega
      have h0 : (0 : Int) ≤ (k : Int) := by omega
      have hg : Hid (grt pl (k + 1) = max (grt pl k) (pl k)) := rfl
      go_wp2_with fail
      go_roundw
      case rel => exact ⟨k + 1, hlt, by go_num, by rw [hg.out], trivial⟩
      case measure => simp [intOf]; omega
    · obtain rfl : k = n := by omega
      have h1 : ¬ (k : Int) < (k : Int) := by omega
      have hg := HG.out k (Nat.le_refl _)
      go_wp2_with fail

      go_ret
      refine ⟨?_, rfl⟩
      show Ending.returned (.int .i64 (grt pl k - 6 + 1)) = _
      rw [show grt pl k - 6 + 1 = grt pl k - 5 by omega]
set_option maxRecDepth 100000 in
set_option maxHeartbeats 6400000 in
/-- The document's own. -/
theorem rslots_any (r n c : Nat) (pl : Nat → Int) (w : World) (hn : n ≤ 1000) (hp : ∀ i, i < n → -1099511627776 ≤ pl i ∧ pl i ≤ 9223372036854775807) (hc : ∀ i, i < n → w.cell? ⟨r, i, none⟩ = some (.int .i64 (pl i))) :
    Calls Tryd.prog 15 #[.slice (some ⟨r, 0, none⟩) n c] w fun e w' => e = .returned (.int .i64 (grt pl n - 5)) ∧ w' = w := by
  have HC := hide hc
  have HP := hide hp
  have HG := hide (grt_le (b := 9223372036854775807) (by omega) (fun i hi => (hp i hi).2))
  clear hc hp
  go_enter Tryd.func15, Tryd.ntmps15
  go_wp2_with fail
  go_loopw [3, 4] (fun s3 s4 wr => ∃ k : Nat, k ≤ n ∧ s4 = .int .i64 (k : Int) ∧ s3 = .int .i64 (grt pl k - 5) ∧ wr = w) (fun _ s4 _ => n - (intOf s4).toNat)
  case atStart => exact ⟨0, Nat.zero_le _, rfl, rfl, rfl⟩
  case round =>
    obtain ⟨k, hk, rfl, rfl, rfl⟩ := hrel
    by_cases hlt : k < n
    · have hx := HC.out k hlt
      have h1 : (k : Int) < (n : Int) := by omega
      have h0 : (0 : Int) ≤ (k : Int) := by omega
      have hpk := HP.out k hlt
      have hg : Hid (grt pl (k + 1) - 5 = max (grt pl k - 5) (pl k - 5)) := by
        show max (grt pl k) (pl k) - 5 = _
        omega
      generalize pl k = pk at *
      go_wp2_with fail
      go_roundw
      case rel => exact ⟨k + 1, hlt, by go_num, by rw [hg.out], trivial⟩
      case measure => simp [intOf]; omega
    · obtain rfl : k = n := by omega
      have h1 : ¬ (k : Int) < (k : Int) := by omega
      go_wp2_with fail
      go_ret
      exact ⟨rfl, rfl⟩
end Go.Proofs.YtjgaaofpfepfhaaDoor
/-
  The document's Crosses.
-/
namespace Go.Proofs.YtjgaaofpfepfhaaDoor
open Go.RowKit
set_option linter.unusedSimpArgs false
set_option linter.unusedVariables false
def RCrEnds (d : Cd) (l : List Ir) (w : World) (e : Ending) (w' : World) : Prop :=
  (fitb d l = false ∧ e = .returned (.tuple #[.int .i64 0, .bool false]) ∧ Below w.heap.size w w') ∨
  (fitb d l = true ∧ ∃ (A F : Nat → Nat), e = .returned (.tuple #[.int .i64 ((crT l F l.length : Nat) : Int), .bool true]) ∧ Sol (sy l) A F ∧ Below w.heap.size w w')
set_option maxRecDepth 100000 in
set_option maxHeartbeats 6400000 in
theorem rcrosses_any (d : Cd) (q : Option Addr) (cap : Nat) (l : List Ir) (w : World) (hl : l.length ≤ 1000) (hr : IR w.heap.size w q l) :
    Calls Tryd.prog 11 #[cv d q l.length cap] w (RCrEnds d l w) := by
  have HL := hide hl
  have HR := hide hr
  have B0 : FB d q l.length cap w.heap.size l w (w.alloc (.cells #[.int .i64 d.cells, .int .i64 d.params, .slice q l.length cap, .int .i64 d.labels] 24)) := ⟨bel_one _ _, by simp, heap_alloc_new _ _⟩
  have BA := hide (fun U (hU : IR U.heap.size U q l) => both_any d q cap l U hl hU)
  clear hl hr
  obtain ⟨cs, ps, ls⟩ := d
  unfold cv at BA ⊢
  simp only at B0 BA ⊢
  go_enter Tryd.func11, Tryd.ntmps11
  go_upto_region 1 with fail
  refine gw (motive := fun x => Code.wp _ _ _ _ x) (fun W => Hid (FB ⟨cs, ps, ls⟩ q l.length cap w.heap.size l w W)) B0 ?_
  rintro W HW
  clear B0
  obtain ⟨c0, c1, c2, c3⟩ := HW.out.cells (Below.refl _ W) HW.out.lt
  simp only at c0 c1 c2 c3
  have hqW := HW.out.lt
  go_wp2_with fail
  refine (BA.out W ((HR.out.bel HW.out.b).up HW.out.b.size)).mono ?_
  clear c0 c1 c2 c3 BA
  rintro e W1 (⟨hf, rfl, k2⟩ | ⟨hf, rb, ra, A, F, rfl, k1, k1', n1, n2, s1, k2⟩)
  · have HB := hide (HW.out.b.trans (k2.mono HW.out.b.size))
    have HF := hide hf
    clear k2 hf
    go_wp2_with fail
    refine bodyPost_ret (results_tmp2 rfl _ _ _) rfl ?_
    exact Or.inl ⟨HF.out, rfl, HB.out⟩
  have HB1 := hide k2
  have HB := hide (HW.out.b.trans (k2.mono HW.out.b.size))
  have HF := hide hf
  have HO := hide (fitb_ok hf)
  have HS := hide s1
  have HN := hide n2
  have LF := hide (show ∀ i, i < l.length → F i < lim from s1.lf)
  have C0 : Hid (crT l F 0 = 0) := rfl
  have HIR := hide (HR.out.bel HB.out)
  clear hf k2 n1 n2 s1
  go_wp2_with fail
  go_loopw [7, 8, 9] (fun s7 s8 _ wr => ∃ k : Nat, k ≤ l.length ∧ s8 = .int .i64 (k : Int) ∧ s7 = .int .i64 ((crT l F k : Nat) : Int) ∧ Hid (Below W1.heap.size W1 wr)) (fun _ s8 _ _ => l.length - (intOf s8).toNat)
  case atStart => exact ⟨0, Nat.zero_le _, rfl, by rw [C0.out]; rfl, Below.refl _ _⟩
  case round =>
    obtain ⟨k, hk, rfl, rfl, HBl⟩ := hrel
    have hk1 := HL.out
    obtain ⟨c0, c1, c2, c3⟩ := HW.out.cells (bel_tr HB1.out HBl.out) hqW
    simp only at c0 c1 c2 c3
    by_cases hlt : k < l.length
    · obtain ⟨g, o, rfl, hb, hcx, hox⟩ := HIR.out k hlt
      have hgW : g < W1.heap.size := Nat.lt_of_lt_of_le hb HB.out.size
      obtain ⟨d0, d1, d2, d3, d4, d5, d6⟩ := hcx.of (HBl.out.block g hgW)
      have hG : l.getD k ir0 = l[k] := by simp [List.getD, hlt]
      have hD := (HO.out l[k] (List.getElem_mem hlt)).2
      have CT := hide (crT_is l F k)
      have hw := wr_lim HO.out k hlt
      have hC := crT_lim HO.out LF.out k hk
      have hFk := LF.out k hlt
      have hy := (HN.out.of (HBl.out.block _ HN.out.lt)).c k hlt
      rw [hG] at CT hw
      have h1 : (k : Int) < (l.length : Int) := by omega
      have h0 : (0 : Int) ≤ (k : Int) := by omega
      clear hcx hG
      generalize hC1 : crT l F (k + 1) = C1 at *
      have HC1 := hide hC1
      clear hC1
      generalize crT l F k = Ck at *
      generalize l[k] = x at *
      obtain ⟨op, dst, aa, bb, cc, nn, mm⟩ := x
      simp only at d0 d1 d2 d3 d4 d5 d6 CT
      generalize hFE : F k = Fk at *
      replace hFE := hide hFE
      by_cases h14 : op = 14
      · subst h14
        have hdf : df ⟨14, dst, aa, bb, cc, nn, mm⟩ = dst := by unfold df; simp
        have hws : wrS ⟨14, dst, aa, bb, cc, nn, mm⟩ = if dst = -1 then 0 else one dst := by unfold wrS; rw [hdf]
        rw [hdf] at hD
        rw [hws] at CT hw
        clear hws hdf
        by_cases hd1 : dst = -1
        · subst hd1
          have C2 : Hid (C1 = Ck ||| Fk) := by show _ = _; rw [CT.out, if_pos rfl, if_pos rfl, dn_zero hFk]
          have hbo := bits_or hC hFk
          rw [← C2.out] at hbo
          clear CT hw
          go_wp2_with fail
          go_roundw
          case rel => exact ⟨k + 1, hlt, by go_num, by rw [HC1.out], HBl⟩
          case measure => simp [intOf]; omega
        · obtain ⟨g0, g1⟩ : 0 ≤ dst ∧ dst < 60 := by
            rcases hD with h | h
            · exact absurd h hd1
            · exact h
          rw [if_neg hd1] at hw
          have C2 : Hid (C1 = Ck ||| dn Fk (one dst)) := by show _ = _; rw [CT.out, if_pos rfl, if_neg hd1]
          obtain ⟨j, rfl⟩ : ∃ j : Nat, dst = (j : Int) := ⟨dst.toNat, by omega⟩
          have hs := shl_nat j (by omega)
          have hbd := bits_dn hFk hw
          have hbo := bits_or hC (dn_lim hFk hw)
          rw [← C2.out] at hbo
          clear CT hD hd1
          generalize one (j : Int) = oj at *
          generalize dn Fk oj = Dw at *
          go_wp2_with fail
          go_roundw
          case rel => exact ⟨k + 1, hlt, by go_num, by rw [HC1.out], HBl⟩
          case measure => simp [intOf]; omega
      · have C2 : Hid (C1 = Ck) := by show _ = _; rw [CT.out, if_neg h14]
        clear CT
        go_wp2_with fail
        go_roundw
        case rel => exact ⟨k + 1, hlt, by go_num, by rw [HC1.out, C2.out], HBl⟩
        case measure => simp [intOf]; omega
    · obtain rfl : k = l.length := by omega
      have h1 : ¬ (l.length : Int) < (l.length : Int) := by omega
      have HBB := hide (HB.out.trans (HBl.out.mono HB.out.size))
      go_wp2_with fail
      refine bodyPost_ret (results_tmp2 rfl _ _ _) rfl ?_
      exact Or.inr ⟨HF.out, A, F, rfl, HS.out, HBB.out⟩
end Go.Proofs.YtjgaaofpfepfhaaDoor
/-
  The document's Named.
-/
namespace Go.Proofs.YtjgaaofpfepfhaaDoor
open Go.RowKit
set_option linter.unusedSimpArgs false
set_option linter.unusedVariables false
def RNmEnds (d : Cd) (l : List Ir) (w : World) (e : Ending) (w' : World) : Prop :=
  (fitb d l = false ∧ e = .returned (.tuple #[.int .i64 0, .bool false]) ∧ Below w.heap.size w w') ∨
  (fitb d l = true ∧ ∃ m : Nat, d.params = (m : Int) ∧ e = .returned (.tuple #[.int .i64 ((nmT l m l.length : Nat) : Int), .bool true]) ∧ Below w.heap.size w w')
theorem or_turn (a b c : Nat) : (a ||| b) ||| c = (a ||| c) ||| b := by rw [Nat.or_assoc, Nat.or_comm b c, ← Nat.or_assoc]
set_option maxRecDepth 100000 in
set_option maxHeartbeats 6400000 in
theorem rnamed_any (d : Cd) (q : Option Addr) (cap : Nat) (l : List Ir) (w : World) (hl : l.length ≤ 1000) (hr : IR w.heap.size w q l) :
    Calls Tryd.prog 13 #[cv d q l.length cap] w (RNmEnds d l w) := by
  have HL := hide hl
  have HR := hide hr
  have B0 : FB d q l.length cap w.heap.size l w (w.alloc (.cells #[.int .i64 d.cells, .int .i64 d.params, .slice q l.length cap, .int .i64 d.labels] 24)) := ⟨bel_one _ _, by simp, heap_alloc_new _ _⟩
  have BA := hide (fun U (hU : IR U.heap.size U q l) => rfits_any d q cap l U hl hU)
  clear hl hr
  obtain ⟨cs, ps, ls⟩ := d
  unfold cv at BA ⊢
  simp only at B0 BA ⊢
  go_enter Tryd.func13, Tryd.ntmps13
  go_upto_region 1 with fail
  refine gw (motive := fun x => Code.wp _ _ _ _ x) (fun W => Hid (FB ⟨cs, ps, ls⟩ q l.length cap w.heap.size l w W)) B0 ?_
  rintro W HW
  clear B0
  obtain ⟨c0, c1, c2, c3⟩ := HW.out.cells (Below.refl _ W) HW.out.lt
  simp only at c0 c1 c2 c3
  have hqW := HW.out.lt
  go_wp2_with fail
  refine (BA.out W ((HR.out.bel HW.out.b).up HW.out.b.size)).mono ?_
  clear c0 c1 c2 c3 BA
  rintro e W1 ⟨rfl, k2⟩
  have HB1 := hide k2
  have HB := hide (HW.out.b.trans (k2.mono HW.out.b.size))
  clear k2
  cases hf : fitb ⟨cs, ps, ls⟩ l
  · have HF := hide hf
    clear hf
    go_wp2_with fail
    refine bodyPost_ret (results_tmp2 rfl _ _ _) rfl ?_
    exact Or.inl ⟨HF.out, rfl, HB.out⟩
  have HF := hide hf
  have HO := hide (fitb_ok hf)
  have FP := fit_parts hf
  simp only at FP
  obtain ⟨m, hm⟩ : ∃ m : Nat, ps = (m : Int) := ⟨ps.toNat, by omega⟩
  subst hm
  have hm60 : m ≤ 60 := by omega
  have HFU := hide (full_is hm60)
  have C0 : Hid (nmT l m 0 = full m) := rfl
  have HIR := hide (HR.out.bel HB.out)
  obtain ⟨c0, c1, c2, c3⟩ := HW.out.cells HB1.out hqW
  simp only at c0 c1 c2 c3
  have hs := HFU.out
  clear hf FP
  go_wp2_with fail
  clear c0 c1 c2 c3 hs
  go_loopw [5, 6, 7, 8, 9] (fun s5 s6 _ _ _ wr => ∃ k : Nat, k ≤ l.length ∧ s6 = .int .i64 (k : Int) ∧ s5 = .int .i64 ((nmT l m k : Nat) : Int) ∧ Hid (Below W1.heap.size W1 wr)) (fun _ s6 _ _ _ _ => l.length - (intOf s6).toNat)
  case atStart => exact ⟨0, Nat.zero_le _, rfl, by rw [C0.out], Below.refl _ _⟩
  case round =>
    obtain ⟨k, hk, rfl, rfl, HBl⟩ := hrel
    have hk1 := HL.out
    obtain ⟨c0, c1, c2, c3⟩ := HW.out.cells (bel_tr HB1.out HBl.out) hqW
    simp only at c0 c1 c2 c3
    by_cases hlt : k < l.length
    · obtain ⟨g, o, rfl, hb, hcx, hox⟩ := HIR.out k hlt
      have hgW : g < W1.heap.size := Nat.lt_of_lt_of_le hb HB.out.size
      obtain ⟨d0, d1, d2, d3, d4, d5, d6⟩ := hcx.of (HBl.out.block g hgW)
      have hG : l.getD k ir0 = l[k] := by simp [List.getD, hlt]
      have hD := (HO.out l[k] (List.getElem_mem hlt)).2
      have HU6 := hide (HO.out.us (List.getElem_mem hlt))
      have CT := hide (nmT_is l m k)
      have hw := wr_lim HO.out k hlt
      have hC := nmT_lim HO.out hm60 k hk
      rw [hG] at CT hw
      have UA := hide (fun U => ruses_any l[k] U)
      have DA := hide (fun U => rdefs_any l[k] U)
      have RDS : Hid (ors ((us l[k]).map one) = rdS l[k]) := rfl
      have UL := us_len l[k]
      have hws : wrS l[k] = if df l[k] = -1 then 0 else one (df l[k]) := rfl
      rw [hws] at CT hw
      have h1 : (k : Int) < (l.length : Int) := by omega
      have h0 : (0 : Int) ≤ (k : Int) := by omega
      have HCX := hide (fun U (hU : Below W1.heap.size W1 U) => hcx.of (hU.block g hgW))
      clear hcx hG hws
      generalize hC1 : nmT l m (k + 1) = C1 at *
      have HC1 := hide hC1
      clear hC1
      generalize nmT l m k = Ck at *
      generalize l[k] = x at *
      obtain ⟨op, dst, aa, bb, cc, nn, mm⟩ := x
      unfold xv xc at UA DA
      simp only at d0 d1 d2 d3 d4 d5 d6 HCX
      generalize rdS ⟨op, dst, aa, bb, cc, nn, mm⟩ = RD at *
      generalize us ⟨op, dst, aa, bb, cc, nn, mm⟩ = ux at *
      generalize df ⟨op, dst, aa, bb, cc, nn, mm⟩ = dd at *
      go_wp2_with fail
      refine (UA.out _).mono ?_
      rintro e w4 ⟨v, rfl, hv, hb4⟩
      have HB4 := hide (bel_tr HBl.out hb4)
      have HV4 := hide hv
      obtain ⟨av, cav, hf⟩ := hv.form
      subst hf
      have U0 : Hid (Ck ||| orT ux 0 = Ck) := by show _ = _; simp [orT, ors]
      clear hv hb4 UA d0 d1 d2 d3 d4 d5 d6 c0 c1 c2 c3
      go_wp2_with fail
      go_loopw [5, 8] (fun s5 s8 wr' => ∃ j : Nat, j ≤ ux.length ∧ s8 = .int .i64 (j : Int) ∧ s5 = .int .i64 ((Ck ||| orT ux j : Nat) : Int) ∧ wr' = w4) (fun _ s8 _ => ux.length - (intOf s8).toNat)
      case atStart => exact ⟨0, Nat.zero_le _, rfl, by rw [U0.out], rfl⟩
      case round =>
        obtain ⟨j, hj, rfl, rfl, rfl⟩ := hrel
        by_cases hjl : j < ux.length
        · obtain ⟨g', c', e, hg1, hg2, hx⟩ := HV4.out.at_ hjl
          injection e with ea e3 e2
          subst ea e2
          have hyj := HU6.out _ (List.getElem_mem hjl)
          have HT := hide (orT_succ hjl)
          have hbits := bits_or (or_lim hC (orT_lim HU6.out j)) (one_lim hyj.2)
          obtain ⟨yn, hyn⟩ : ∃ yn : Nat, ux[j] = (yn : Int) := ⟨(ux[j]).toNat, by omega⟩
          rw [hyn] at hx hyj HT hbits
          have hs := shl_nat yn (by omega)
          rw [Nat.or_assoc, ← HT.out] at hbits
          have j1 : (j : Int) < (ux.length : Int) := by omega
          have j0 : (0 : Int) ≤ (j : Int) := by omega
          generalize hR : Ck ||| orT ux (j + 1) = R1 at *
          have HRR := hide hR
          clear hR HT hyn
          generalize Ck ||| orT ux j = R0 at *
          generalize one (yn : Int) = O at *
          go_wp2_with fail
          go_roundw
          case rel => exact ⟨j + 1, hjl, by go_num, by rw [HRR.out], trivial⟩
          case measure => simp [intOf]; omega
        · obtain rfl : j = ux.length := by omega
          have j1 : ¬ (ux.length : Int) < (ux.length : Int) := by omega
          obtain ⟨c0, c1, c2, c3⟩ := HW.out.cells (bel_tr HB1.out HB4.out) hqW
          simp only at c0 c1 c2 c3
          obtain ⟨d0, d1, d2, d3, d4, d5, d6⟩ := HCX.out _ HB4.out
          simp only at d0 d1 d2 d3 d4 d5 d6
          have C2 : Hid (C1 = (Ck ||| orT ux ux.length) ||| (if dd = -1 then 0 else one dd)) := by show _ = _; rw [CT.out, orT_all, RDS.out, or_turn]
          have hCw := or_lim hC (orT_lim HU6.out ux.length)
          clear CT
          generalize Ck ||| orT ux ux.length = R0 at *
          go_wp2_with fail
          refine (DA.out _).mono ?_
          rintro e w5 ⟨rfl, hb5⟩
          have HB5 := hide (bel_tr HB4.out hb5)
          clear hb5 DA c0 c1 c2 c3 d0 d1 d2 d3 d4 d5 d6
          by_cases hd1 : dd = -1
          · subst hd1
            have C3 : Hid (C1 = R0) := by show _ = _; rw [C2.out, if_pos rfl]; simp
            clear C2 hw
            go_wp2_with fail
            go_roundw
            case rel => exact ⟨k + 1, hlt, by go_num, by rw [HC1.out, C3.out], HB5⟩
            case measure => simp [intOf]; omega
          · obtain ⟨g0, g1⟩ : 0 ≤ dd ∧ dd < 60 := by
              rcases hD with h | h
              · exact absurd h hd1
              · exact h
            rw [if_neg hd1] at hw
            have C3 : Hid (C1 = R0 ||| one dd) := by show _ = _; rw [C2.out, if_neg hd1]
            obtain ⟨j, rfl⟩ : ∃ j : Nat, dd = (j : Int) := ⟨dd.toNat, by omega⟩
            have hs := shl_nat j (by omega)
            have hbo := bits_or hCw hw
            rw [← C3.out] at hbo
            clear C2 hD hd1
            generalize one (j : Int) = oj at *
            go_wp2_with fail
            go_roundw
            case rel => exact ⟨k + 1, hlt, by go_num, by rw [HC1.out], HB5⟩
            case measure => simp [intOf]; omega
    · obtain rfl : k = l.length := by omega
      have h1 : ¬ (l.length : Int) < (l.length : Int) := by omega
      have HBB := hide (HB.out.trans (HBl.out.mono HB.out.size))
      go_wp2_with fail
      refine bodyPost_ret (results_tmp2 rfl _ _ _) rfl ?_
      exact Or.inr ⟨HF.out, m, rfl, rfl, HBB.out⟩
end Go.Proofs.YtjgaaofpfepfhaaDoor

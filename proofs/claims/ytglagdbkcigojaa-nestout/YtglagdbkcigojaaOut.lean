/-
  The statement NestOut, walked.
-/
import Derived.Test.YtglagdbkcigojaaLists
import Derived.Deep.CutRange
namespace Go.Proofs.Ytglagdbkcigojaa
open Go.RowKit

/-- what is told of a branch, of a nested body -/
theorem tgt_out {f : Nat → Int} {n p d : Nat} (he : er f n = 0) (hp : p < n) :
    (d ≤ (arL f p (run f p)).length ∧ ((∃ b : Nat, tgt f n p d = ((b : Int), true, 0) ∧ b < p ∧ b < n ∧ f b = 3) ∨ (∃ b : Nat, tgt f n p d = ((b : Int), false, 0) ∧ p ≤ b ∧ b < n ∧ f b = 11))) ∨ (¬ d ≤ (arL f p (run f p)).length ∧ tgt f n p d = (0, false, 3)) := by
  obtain ⟨hw, hd, _⟩ := er_ok he
  have hl : lft f (p : Int) n = arL f p (run f p) := lft_at (p := (p : Int)) (by omega) (by omega)
  rcases Nat.lt_or_ge d (arL f p (run f p)).length with h | h
  · refine .inl ⟨by omega, ?_⟩
    have hmem : (arL f p (run f p)).getD d 0 ∈ arL f p (run f p) := by simp [List.getD_eq_getElem?_getD, List.getElem?_eq_getElem h]
    obtain ⟨b, dd, h1, h2, h3, h4, h5, h6, _, _⟩ := around_is hw hd hp hmem
    rw [tgt_in (p := (p : Int)) he (by omega) (by omega) (by rw [hl]; exact h), hl, h1, h2, Int.toNat_natCast]
    by_cases h3' : f b = 3
    · rw [if_pos h3']; exact .inl ⟨b, rfl, h3, by omega, h3'⟩
    · rw [if_neg h3']; exact .inr ⟨dd, rfl, by omega, h5, h6⟩
  · rcases Nat.eq_or_lt_of_le h with h' | h'
    · refine .inl ⟨by omega, .inr ⟨n - 1, ?_, by omega, by omega, ?_⟩⟩
      · rw [tgt_body (p := (p : Int)) (d := (d : Int)) he (by omega) (by omega) (by rw [hl, h'])]
        rw [show ((n - 1 : Nat) : Int) = (n : Int) - 1 by omega]
      · obtain ⟨m, rfl, _, _, _, hf, _⟩ := fin_run hw hd
        exact hf
    · exact .inr ⟨by omega, tgt_inv (p := (p : Int)) (d := (d : Int)) he (.inr (.inr (.inr ⟨by omega, by omega, by rw [hl]; omega⟩)))⟩
theorem arL_le {f : Nat → Int} {p : Nat} : (arL f p (run f p)).length ≤ p + 1 := by
  have := lft_len f p (p + 1)
  rw [lft_hit f p p rfl] at this
  exact this

set_option maxRecDepth 100000 in
set_option maxHeartbeats 16000000 in
theorem out_walk (a : Option Addr) (n c : Nat) (fo fn fm : Nat → Int) (w : World) (hL : Lst w.heap.size w a n fo fn fm) (hnc : n ≤ c) (hna : a = none → n = 0 ∧ c = 0) :
    Calls Try.prog 6 #[.slice a n c] w fun e w' => e = .returned (.bool true) ∧ Below w.heap.size w w' := by
  have EX := hide (examples_any w)
  have HL := hide hL
  clear hL
  go_enter Try.func6, Try.ntmps6
  go_wp2_with fail
  refine EX.out.mono ?_
  rintro e w1 ⟨rfl, hb1⟩
  clear EX
  go_upto_region 2 with fail
  go_cut [0] from 12 to 16 (fun s0 wx => ∃ m : Nat, s0 = .slice a m c ∧ m ≤ n ∧ m ≤ 100 ∧ wx = w1)
  case first =>
    cases a with
    | none =>
      obtain ⟨rfl, rfl⟩ := hna rfl
      go_wp2_with fail
      go_meet
      case rel => exact ⟨0, rfl, Nat.le_refl _, by omega, rfl⟩
    | some ad =>
      by_cases h2 : n ≤ 100
      · go_wp2_with fail
        go_meet
        case rel => exact ⟨n, rfl, Nat.le_refl _, h2, rfl⟩
      · go_wp2_with fail
        go_meet
        case rel => exact ⟨100, rfl, by omega, Nat.le_refl _, rfl⟩
  case rest =>
    obtain ⟨m, rfl, hmn, hm2, rfl⟩ := hcut
    have L1 := hide ((HL.out.less hmn).below hb1 (Nat.le_refl _)).ops
    have n1 := hb1.size
    have DE := hide (depth_any a m c w.heap.size fo wc L1.out n1 (by omega))
    clear HL
    by_cases he : er fo m = 0
    · rw [he] at DE
      have HE := hide he
      clear he
      go_wp2_with fail
      refine DE.out.mono ?_
      rintro e w2 ⟨v, rfl, h0, _, hb2⟩
      have OW := hide (h0 (by simp))
      obtain ⟨av, cv, rfl⟩ := own_slice OW.out
      have b2 := hb1.trans (hb2.mono n1)
      clear DE h0
      go_wp2_with fail
      go_loopw [6] (fun i wr => ∃ k : Nat, k ≤ m ∧ i = .int .i64 k ∧ Hid (wr.ownsRow wc.heap.size 3 1 (.slice av m cv) m (dcel fo m m)) ∧ Hid (Below wc.heap.size wc wr) ∧ Below w.heap.size w wr) (fun i _ => m - (intOf i).toNat)
      case atStart => exact ⟨0, by omega, rfl, OW, hide hb2, b2⟩
      case round =>
        obtain ⟨W0, rfl⟩ : ∃ W0, W0 = wr := ⟨_, rfl⟩
        obtain ⟨k, hk, rfl, how, hwk, hbk⟩ := hrel
        by_cases hlt : k < m
        · obtain ⟨g, rfl, _, hg, _⟩ := own_some how.out (by omega)
          have hdl := arL_le (f := fo) (p := k)
          have TO := hide (fun j => tgt_out (d := j) HE.out hlt)
          have DC := hide (dcel_at (f := fo) (n := m) (k := m) hlt)
          rw [if_pos hlt] at DC
          generalize (arL fo k (run fo k)).length = dk at *
          clear OW
          go_wp2_with fail
          go_loopw [7] (fun i7 wr => ∃ j : Nat, j ≤ dk + 2 ∧ i7 = .int .i64 j ∧ Hid (wr.ownsRow wc.heap.size 3 1 (.slice (some ⟨g, 0, none⟩) m cv) m (dcel fo m m)) ∧ Hid (Below wc.heap.size wc wr) ∧ Below w.heap.size w wr) (fun i7 _ => dk + 2 - (intOf i7).toNat)
          case atStart => exact ⟨0, by omega, rfl, how, hwk, hbk⟩
          case round =>
            obtain ⟨j, hj, rfl, howj, hwj, hbj⟩ := hrel
            have q1 := (howj.out.cellAt k (by omega)).trans DC.out
            clear how hwk hbk
            by_cases hjd : j ≤ dk + 1
            · have LJ := hide (L1.out.below hwj.out n1)
              have nJ := Nat.le_trans n1 hwj.out.size
              rcases TO.out j with ⟨hjl, ⟨b, ht, hbp, hbm, hfb⟩ | ⟨b, ht, hbp, hbm, hfb⟩⟩ | ⟨hjl, ht⟩
              · have T := hide (target_is a m c w.heap.size fo k j b true 0 ht wr LJ.out nJ (by omega))
                clear ht
                go_wp2_with fail
                refine T.out.mono ?_
                rintro e w3 ⟨rfl, hb3⟩
                have O3 := hide (own_below howj.out hb3)
                have q3 := (O3.out.cellAt k (by omega)).trans DC.out
                have W3 := hide (hwj.out.trans (hb3.mono hwj.out.size))
                have b3 := hbj.trans (hb3.mono hbj.size)
                obtain ⟨bl, off, rfl, hbl, hcl⟩ := (L1.out.below W3.out n1) b hbm
                rw [hfb] at hcl
                clear T hb3 howj hwj hbj q1 hfb
                go_wp2_with fail
                go_roundw
                case rel => exact ⟨j + 1, by omega, by go_num, O3, W3, b3⟩
                case measure => simp [intOf]; omega
              · have T := hide (target_is a m c w.heap.size fo k j b false 0 ht wr LJ.out nJ (by omega))
                clear ht
                go_wp2_with fail
                refine T.out.mono ?_
                rintro e w3 ⟨rfl, hb3⟩
                have O3 := hide (own_below howj.out hb3)
                have q3 := (O3.out.cellAt k (by omega)).trans DC.out
                have W3 := hide (hwj.out.trans (hb3.mono hwj.out.size))
                have b3 := hbj.trans (hb3.mono hbj.size)
                obtain ⟨bl, off, rfl, hbl, hcl⟩ := (L1.out.below W3.out n1) b hbm
                rw [hfb] at hcl
                clear T hb3 howj hwj hbj q1 hfb
                go_wp2_with fail
                go_roundw
                case rel => exact ⟨j + 1, by omega, by go_num, O3, W3, b3⟩
                case measure => simp [intOf]; omega
              · have T := hide (target_is a m c w.heap.size fo k j 0 false 3 ht wr LJ.out nJ (by omega))
                clear ht
                go_wp2_with fail
                refine T.out.mono ?_
                rintro e w3 ⟨rfl, hb3⟩
                have O3 := hide (own_below howj.out hb3)
                have q3 := (O3.out.cellAt k (by omega)).trans DC.out
                have W3 := hide (hwj.out.trans (hb3.mono hwj.out.size))
                have b3 := hbj.trans (hb3.mono hbj.size)
                clear T hb3 howj hwj hbj q1
                go_wp2_with fail
                go_roundw
                case rel => exact ⟨j + 1, by omega, by go_num, O3, W3, b3⟩
                case measure => simp [intOf]; omega
            · go_wp2_with fail
              go_roundw
              case rel => exact ⟨k + 1, by omega, by go_num, howj, hwj, hbj⟩
              case measure => simp [intOf]; omega
        · obtain rfl : k = m := by omega
          clear OW
          go_wp2_with fail
          go_ret
          exact ⟨rfl, hbk⟩
    · obtain ⟨q, hq⟩ : ∃ q, er fo m = q := ⟨_, rfl⟩
      rw [hq] at DE he
      have HE := hide he
      clear hq
      go_wp2_with fail
      refine DE.out.mono ?_
      rintro e w2 ⟨v, rfl, _, hv, hb2⟩
      obtain rfl := hv HE.out
      have b2 := hb1.trans (hb2.mono n1)
      clear DE hb2
      go_wp2_with fail
      go_ret
      exact ⟨rfl, b2⟩
end Go.Proofs.Ytglagdbkcigojaa

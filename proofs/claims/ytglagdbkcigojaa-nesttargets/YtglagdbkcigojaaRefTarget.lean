/-
  The document's Target answers as the plain function does.
-/
import Derived.Test.YtglagdbkcigojaaRefTgt
namespace Go.Proofs.Ytglagdbkcigojaa
open Go.RowKit

set_option maxRecDepth 100000 in
set_option maxHeartbeats 16000000 in
theorem ref_target (a : Option Addr) (n c n₀ : Nat) (f : Nat → Int) (p d : Int) (w : World) (hO : Ops n₀ w a n f) (hn₀ : n₀ ≤ w.heap.size) (hn : n ≤ 1000) (hd1 : d ≤ 9223372036854775807) :
    Calls Try.prog 17 #[.slice a n c, .int .i64 p, .int .i64 d] w fun e w' => e = tri (tgt f n p d) ∧ Below w.heap.size w w' := by
  have SP := hide (ref_spans a n c n₀ f w hO hn₀ hn)
  have HO := hide hO
  have HN := hide hn₀
  clear hO hn₀
  by_cases he : er f n = 0
  · have HZ := hide he
    have SP0 := SP
    rw [he] at SP
    clear SP0
    by_cases hp0 : p < 0
    · have R := hide (tgt_inv (d := d) he (.inl hp0))
      clear he
      go_enter Try.func17, Try.ntmps17
      go_wp2_with fail
      refine SP.out.mono ?_
      rintro e w1 ⟨v, rfl, _, _, hb1⟩
      clear SP
      go_wp2_with fail
      go_ret3
      rw [R.out]; exact ⟨rfl, hb1⟩
    · by_cases hpn : (n : Int) ≤ p
      · have R := hide (tgt_inv (d := d) he (.inr (.inl hpn)))
        clear he
        go_enter Try.func17, Try.ntmps17
        go_wp2_with fail
        refine SP.out.mono ?_
        rintro e w1 ⟨v, rfl, _, _, hb1⟩
        clear SP
        go_wp2_with fail
        go_ret3
        rw [R.out]; exact ⟨rfl, hb1⟩
      · by_cases hd0 : d < 0
        · have R := hide (tgt_inv (p := p) he (.inr (.inr (.inl hd0))))
          clear he
          go_enter Try.func17, Try.ntmps17
          go_wp2_with fail
          refine SP.out.mono ?_
          rintro e w1 ⟨v, rfl, _, _, hb1⟩
          clear SP
          go_wp2_with fail
          go_ret3
          rw [R.out]; exact ⟨rfl, hb1⟩
        · obtain ⟨pn, rfl⟩ := Int.eq_ofNat_of_zero_le (show 0 ≤ p by omega)
          obtain ⟨dn, rfl⟩ := Int.eq_ofNat_of_zero_le (show 0 ≤ d by omega)
          have T := hide (tgt_rst (d := dn) he (show pn < n by omega))
          obtain ⟨sp, hsp⟩ : ∃ sp, sp = (run f n).sp := ⟨_, rfl⟩
          have HE := er_ok he
          have hlen : sp.length ≤ 1000 := by have := (run_len f n).1; rw [hsp]; omega
          have hpos : 0 < sp.length := by
            obtain ⟨m, rfl, _, _, _, _, _, h, _⟩ := fin_run HE.1 HE.2.1
            rw [hsp, h]; simp
          have BEG : Hid (∀ k, holB (spAt sp k) pn = true → k + 1 < sp.length → ∃ b : Nat, (spAt sp k).b = b ∧ b < n) := hide (fun k hk hl => by
            have hm : k ∈ arL f pn (run f pn) := by
              rw [← remL_eq HE.1 HE.2.1 (show pn < n by omega), remL_mem, ← hsp]
              exact ⟨by omega, hk⟩
            obtain ⟨b, dd, h1, _, h2, _⟩ := around_is HE.1 HE.2.1 (show pn < n by omega) hm
            rw [hsp]
            exact ⟨b, h1, by omega⟩)
          rw [← hsp] at SP T
          clear he HE hsp
          have t1 : decide ((pn : Int) < 0) = false := decide_eq_false (by omega)
          have t2 : decide (n ≤ pn) = false := decide_eq_false (by omega)
          have t3 : decide ((dn : Int) < 0) = false := decide_eq_false (by omega)
          go_enter Try.func17, Try.ntmps17
          go_wp2_with fail
          refine SP.out.mono ?_
          rintro e w1 ⟨v, rfl, ho, _, hb1⟩
          have OW := hide (ho (by simp))
          obtain ⟨av, cv, rfl⟩ := own_slice OW.out
          obtain ⟨g, rfl, _, hg, _⟩ := own_some OW.out hpos
          clear SP ho
          go_wp2_with fail
          go_loopw [2, 11] (fun dv i wr => ∃ (K dk : Nat), K + 1 ≤ sp.length ∧ i = .int .i64 ((K : Int) - 1) ∧ dv = .int .i64 dk ∧ dk ≤ dn ∧ Hid (rst f n sp (remL sp pn (sp.length - 1)) dn = rst f n sp (remL sp pn K) dk) ∧ Hid (wr.ownsRow w.heap.size 51 3 (.slice (some ⟨g, 0, none⟩) sp.length cv) sp.length (flat sp)) ∧ Below w.heap.size w wr) (fun _ i _ => (intOf i + 1).toNat)
          case atStart => exact ⟨sp.length - 1, dn, by omega, by go_num, rfl, Nat.le_refl _, hide rfl, OW, hb1⟩
          case round =>
            obtain ⟨K, dk, hK, rfl, rfl, hdk, hR, how, hbk⟩ := hrel
            have OK := hide (HO.out.below hbk HN.out)
            cases K with
            | zero =>
              clear OW
              have hneg : ((0 : Nat) : Int) - 1 = -1 := by omega
              by_cases hd : dk = 0
              · subst hd
                have R : Hid (rst f n sp (remL sp pn 0) 0 = ((n : Int) - 1, false, 0)) := hide rfl
                go_wp2_with fail
                go_ret3
                rw [T.out, hR.out, R.out]; exact ⟨rfl, hbk⟩
              · have R : Hid (rst f n sp (remL sp pn 0) dk = (0, false, 3)) := hide (by simp [rst, remL, hd])
                have hdp : 0 < dk := by omega
                go_wp2_with fail
                go_ret3
                rw [T.out, hR.out, R.out]; exact ⟨rfl, hbk⟩
            | succ j =>
              have hje : ((j + 1 : Nat) : Int) - 1 = (j : Int) := by omega
              rw [hje]
              have F := flat_at sp j (by omega)
              have q1 := (how.out.cellAt (j * 3) (by omega)).trans F.1
              have q2 := (how.out.cellAt (j * 3 + 1) (by omega)).trans F.2.1
              have q3 := (how.out.cellAt (j * 3 + 2) (by omega)).trans F.2.2
              cases hh : holB (spAt sp j) pn with
              | false =>
                have CA := hide (hold_is (spAt sp j) pn false hh wr)
                have R := hide (hR.out.trans (rst_skip hh))
                clear hh F OW hR hje
                go_wp2_with fail
                refine CA.out.mono ?_
                rintro e w2 ⟨rfl, hb2⟩
                have O2 := hide (own_below how.out hb2)
                have b2 := hbk.trans (hb2.mono hbk.size)
                clear CA hb2 how q1 q2 q3
                go_wp2_with fail
                go_roundw
                case rel => exact ⟨j, dk, by omega, rfl, rfl, hdk, R, O2, b2⟩
                case measure => simp [intOf]
              | true =>
                have CA := hide (hold_is (spAt sp j) pn true hh wr)
                cases dk with
                | succ d1 =>
                  have R := hide (hR.out.trans (rst_less hh))
                  clear hh F OW hR hje
                  go_wp2_with fail
                  refine CA.out.mono ?_
                  rintro e w2 ⟨rfl, hb2⟩
                  have O2 := hide (own_below how.out hb2)
                  have b2 := hbk.trans (hb2.mono hbk.size)
                  clear CA hb2 how q1 q2 q3
                  go_wp2_with fail
                  go_roundw
                  case rel => exact ⟨j, d1, by omega, rfl, by go_num, by omega, R, O2, b2⟩
                  case measure => simp [intOf]
                | zero =>
                  have R := hR.out.trans (rst_here hh)
                  obtain ⟨bb, hbb, hbn⟩ := BEG.out j hh (by omega)
                  rw [hbb, Int.toNat_natCast] at R
                  have HBB := hide hbb
                  have RR := hide R
                  clear hh F OW hR hje R hbb
                  go_wp2_with fail
                  refine CA.out.mono ?_
                  rintro e w2 ⟨rfl, hb2⟩
                  have O2 := own_below how.out hb2
                  have b2 := hbk.trans (hb2.mono hbk.size)
                  have F := flat_at sp j (by omega)
                  have q1 := (O2.cellAt (j * 3) (by omega)).trans F.1
                  have q3 := (O2.cellAt (j * 3 + 2) (by omega)).trans F.2.2
                  rw [HBB.out] at q1
                  obtain ⟨bl, off, rfl, hbl, hcl⟩ := (HO.out.below b2 HN.out) bb hbn
                  clear CA hb2 how F O2
                  by_cases h3 : f bb = 3
                  · rw [if_pos h3] at RR
                    rw [h3] at hcl
                    clear h3
                    go_wp2_with fail
                    go_ret3
                    rw [T.out, RR.out]; exact ⟨rfl, b2⟩
                  · rw [if_neg h3] at RR
                    go_wp2_with fail
                    go_ret3
                    rw [T.out, RR.out]; exact ⟨rfl, b2⟩
  · have R := hide (tgt_err (p := p) (d := d) he)
    obtain ⟨q, hq⟩ : ∃ q, er f n = q := ⟨_, rfl⟩
    rw [hq] at SP he R
    clear hq
    go_enter Try.func17, Try.ntmps17
    go_wp2_with fail
    refine SP.out.mono ?_
    rintro e w2 ⟨v, rfl, _, hv, hb2⟩
    clear SP
    go_wp2_with fail
    go_ret3
    rw [R.out]
    exact ⟨rfl, hb2⟩
end Go.Proofs.Ytglagdbkcigojaa

/-
  The document's Apply answers what the program's does.
-/
import Derived.Test.YtcjojphajjoheaaApply
namespace Go.Proofs.Ytcjojphajjoheaa
open Go.RowKit

theorem str_splice (l bs : List UInt8) (q : Nat) : (str l).extract 0 q ++ str bs ++ (str l).extract (q + bs.length) (str l).size = str (splice l q bs) := by
  have := str_cat (str l) bs q bs.length
  rw [str_list] at this
  exact this
set_option maxRecDepth 20000 in
set_option maxHeartbeats 16000000 in
theorem rapply_any (x y : List UInt8) (a : Option Addr) (l : List Da) (c : Nat) (w : World) (hx : x.length ≤ 140737488351232) (hy : y.length ≤ 140737488351232) (hl : l.length ≤ 9223372036854775807) (hd : Hid (SDa w.heap.size w a l)) :
    Calls Try.prog 17 #[two (str x) (str y), .slice a l.length c] w fun e w' => e = .returned (.tuple #[two (str (apA (x, y) l).1.1) (str (apA (x, y) l).1.2), .bool (apA (x, y) l).2]) ∧ Below w.heap.size w w' := by
  have RA := hide ((Row.made w #[.string (str x), .string (str y)] 38).kept (bel_one _ (.cells #[.string ⟨#[]⟩, .string ⟨#[]⟩] 38)))
  have RB := hide (Row.made (w.alloc (.cells #[.string (str x), .string (str y)] 38)) #[.string ⟨#[]⟩, .string ⟨#[]⟩] 38)
  have HW := hide ((bel_one w (.cells #[.string (str x), .string (str y)] 38)).alloc (by simp) (.cells #[.string ⟨#[]⟩, .string ⟨#[]⟩] 38))
  rw [show (w.alloc (.cells #[.string (str x), .string (str y)] 38)).heap.size = w.heap.size + 1 by simp] at RB
  obtain ⟨r, HA⟩ : ∃ r, Hid (apA (x, y) l = r) := ⟨_, rfl⟩
  rw [HA.out]
  have hst0 : Hid (apL (x, y) (l.take 0) = some (x, y)) := rfl
  go_enter Try.func17, Try.ntmps17
  go_wp2_with (fail)
  generalize (w.alloc _).alloc _ = w3 at RA RB HW ⊢
  have hbq : w.heap.size < w.heap.size + 1 := by omega
  generalize w.heap.size + 1 = bq at *
  go_loopw [6] (fun i wr => ∃ (j : Nat) (s : Two), j ≤ l.length ∧ i = .int .i64 j ∧ Hid (apL (x, y) (l.take j) = some s) ∧ Hid (Row wr w.heap.size #[.string (str s.1), .string (str s.2)] 38) ∧ Hid (Row wr bq #[.string ⟨#[]⟩, .string ⟨#[]⟩] 38) ∧ Hid (Below w.heap.size w wr)) (fun i _ => l.length - (intOf i).toNat)
  case atStart => exact ⟨0, (x, y), Nat.zero_le _, rfl, hst0, RA, RB, HW⟩
  case round =>
    obtain ⟨j, s, hj, rfl, HS, PR, PB, PW⟩ := hrel
    clear RA RB HW hst0
    by_cases hlt : j < l.length
    · obtain ⟨b, off, hax, hb, ⟨hi0, hi1, hi2⟩, g0', g1', g2'⟩ := hd.out j hlt
      have x0 := (PW.out.cell (p := ⟨b, off + j * 3, none⟩) hb).trans g0'
      have x1 := (PW.out.cell (p := ⟨b, off + j * 3 + 1, none⟩) hb).trans g1'
      have x2 := (PW.out.cell (p := ⟨b, off + j * 3 + 2, none⟩) hb).trans g2'
      have hsu := hide (apL_succ _ s l j hlt HS.out)
      have hln := apL_len _ HS.out
      simp only at hln
      have hnn := hide (fun q => apL_none (x, y) l (j + 1) q)
      subst hax
      clear g0' g1' g2' hd HS
      generalize l[j] = d at *
      obtain ⟨mem, pos, bs⟩ := d
      simp only at x0 x1 x2 hi0 hi1 hi2
      have QR := hide (PR.out.kept (bel_one wr (.cells #[.int .i64 mem, .int .i64 pos, .string (str bs)] 46)))
      have QB := hide (PB.out.kept (bel_one wr (.cells #[.int .i64 mem, .int .i64 pos, .string (str bs)] 46)))
      have QW := hide (PW.out.alloc PW.out.size (.cells #[.int .i64 mem, .int .i64 pos, .string (str bs)] 46))
      have QD := hide (Row.made wr #[.int .i64 mem, .int .i64 pos, .string (str bs)] 46)
      have hgd : bq < wr.heap.size := PB.out.lt
      clear PR PB PW
      go_wp2_with (fail)
      generalize wr.alloc _ = w5 at QR QB QW QD ⊢
      clear x0 x1 x2
      generalize wr.heap.size = gd at *
      have d0 := QD.out.c 0 _ rfl
      have d1 := QD.out.c 1 _ rfl
      have d2 := QD.out.c 2 _ rfl
      have r0 := QR.out.c 0 _ rfl
      have r1 := QR.out.c 1 _ rfl
      have q0 := QB.out.c 0 _ rfl
      have q1 := QB.out.c 1 _ rfl
      have f0 := QB.out.fr 0
      have f1 := QB.out.fr 1
      have e0 := QR.out.fr 0
      have e1 := QR.out.fr 1
      simp only [List.getElem_toArray, List.getElem_cons_zero, List.getElem_cons_succ] at d0 d1 d2 r0 r1 q0 q1
      have hbz : (str bs).size = bs.length := str_size bs
      have hz0 : (str s.1).size = x.length := by rw [str_size, hln.1]
      have hz1 : (str s.2).size = y.length := by rw [str_size, hln.2]
      obtain ⟨hp1, hp2⟩ := hi1
      by_cases hm0 : mem < 0
      · have hap : ap1 s ⟨mem, pos, bs⟩ = none := by unfold ap1; simp only; rw [if_neg (by omega), if_neg (by omega)]
        have gd0 : decide (mem < 0) = true := by simpa using hm0
        have hr : r = (([], []), false) := by rw [← HA.out, apA, hnn.out (hsu.out.trans hap)]
        subst hr
        go_quiet (fail)
        go_wp2
        refine bodyPost_ret (results_two rfl _ _ bq ⟨#[]⟩ ⟨#[]⟩ rfl (((QB.out.of_block (w' := w5.drewN _) rfl).set 0 (.string ⟨#[]⟩)).set 1 (.string ⟨#[]⟩))) rfl ⟨rfl, ?_⟩
        exact ((QW.out.trans (drewN_below _ _ _)).setCell (Nat.le_of_lt hbq) _).setCell (Nat.le_of_lt hbq) _
      · by_cases hm2 : 1 < mem
        · have hap : ap1 s ⟨mem, pos, bs⟩ = none := by unfold ap1; simp only; rw [if_neg (by omega), if_neg (by omega)]
          have gd0 : decide (mem < 0) = false := by simpa using hm0
          have gd2 : decide (1 < mem) = true := by simpa using hm2
          have hr : r = (([], []), false) := by rw [← HA.out, apA, hnn.out (hsu.out.trans hap)]
          subst hr
          go_quiet (fail)
          go_wp2
          refine bodyPost_ret (results_two rfl _ _ bq ⟨#[]⟩ ⟨#[]⟩ rfl (((QB.out.of_block (w' := w5.drewN _) rfl).set 0 (.string ⟨#[]⟩)).set 1 (.string ⟨#[]⟩))) rfl ⟨rfl, ?_⟩
          exact ((QW.out.trans (drewN_below _ _ _)).setCell (Nat.le_of_lt hbq) _).setCell (Nat.le_of_lt hbq) _
        · have hm01 : mem = 0 ∨ mem = 1 := by omega
          rcases hm01 with rfl | rfl
          · by_cases ha : pos < 0
            · have hap : ap1 s ⟨0, pos, bs⟩ = none := by rw [ap1_0, hln.1, if_neg (by simp only [wit, Bool.and_eq_true, decide_eq_true_eq]; omega)]
              have ga : decide (pos < 0) = true := by simpa using ha
              have hr : r = (([], []), false) := by rw [← HA.out, apA, hnn.out (hsu.out.trans hap)]
              subst hr
              go_quiet (fail)
              go_wp2
              refine bodyPost_ret (results_two rfl _ _ bq ⟨#[]⟩ ⟨#[]⟩ rfl (((QB.out.of_block (w' := w5.drewN _) rfl).set 0 (.string ⟨#[]⟩)).set 1 (.string ⟨#[]⟩))) rfl ⟨rfl, ?_⟩
              exact ((QW.out.trans (drewN_below _ _ _)).setCell (Nat.le_of_lt hbq) _).setCell (Nat.le_of_lt hbq) _
            · obtain ⟨q, rfl⟩ : ∃ q : Nat, pos = q := ⟨pos.toNat, by omega⟩
              by_cases hb1 : x.length < q
              · have hap : ap1 s ⟨0, (q : Int), bs⟩ = none := by rw [ap1_0, hln.1, if_neg (by simp only [wit, Bool.and_eq_true, decide_eq_true_eq]; omega)]
                have hr : r = (([], []), false) := by rw [← HA.out, apA, hnn.out (hsu.out.trans hap)]
                subst hr
                go_quiet (fail)
                go_wp2
                refine bodyPost_ret (results_two rfl _ _ bq ⟨#[]⟩ ⟨#[]⟩ rfl (((QB.out.of_block (w' := w5.drewN _) rfl).set 0 (.string ⟨#[]⟩)).set 1 (.string ⟨#[]⟩))) rfl ⟨rfl, ?_⟩
                exact ((QW.out.trans (drewN_below _ _ _)).setCell (Nat.le_of_lt hbq) _).setCell (Nat.le_of_lt hbq) _
              · have hb2 : q ≤ x.length := by omega
                have gb : decide (x.length < q) = false := by simp; omega
                by_cases hc1 : q + bs.length ≤ x.length
                · have hap : ap1 s ⟨0, (q : Int), bs⟩ = some (splice s.1 q bs, s.2) := by rw [ap1_0, hln.1, if_pos (by simp only [wit, Bool.and_eq_true, decide_eq_true_eq]; omega)]; rfl
                  have gc : decide ((x.length : Int) - q < bs.length) = false := by simp; omega
                  go_quiet (fail)
                  go_wp2_with (fail)
                  have SR := hide (QR.out.of_block (w' := w5.drewN nq) rfl)
                  have SB := hide (QB.out.of_block (w' := w5.drewN nq) rfl)
                  have SW := hide (QW.out.trans (drewN_below _ w5 nq))
                  have SD := hide (QD.out.of_block (w' := w5.drewN nq) rfl)
                  generalize w5.drewN nq = w6 at SR SB SW SD ⊢
                  clear d0 d1 d2 r0 r1 q0 q1 f0 f1 e0 e1 QR QB QW QD
                  have d0 := SD.out.c 0 _ rfl
                  have d1 := SD.out.c 1 _ rfl
                  have d2 := SD.out.c 2 _ rfl
                  have r0 := SR.out.c 0 _ rfl
                  have r1 := SR.out.c 1 _ rfl
                  have e0 := SR.out.fr 0
                  have e1 := SR.out.fr 1
                  simp only [List.getElem_toArray, List.getElem_cons_zero, List.getElem_cons_succ] at d0 d1 d2 r0 r1
                  have hk1 : ¬ 9223372036854775807 < q + bs.length := by omega
                  have hk2 : ¬ 9223372036854775807 < q + bs.length + (x.length - (q + bs.length)) := by omega
                  go_region
                  all_goals
                    have hct : Hid ((str s.1).extract 0 q ++ str bs ++ (str s.1).extract (q + bs.length) x.length = str (splice s.1 q bs)) := by show _ = _; rw [← hz0]; exact str_splice s.1 bs q
                    rw [hct.out]
                    have TR : Hid (Row (w6.setCell ⟨w.heap.size, 0, none⟩ (.string (str (splice s.1 q bs)))) w.heap.size #[.string (str (splice s.1 q bs)), .string (str s.2)] 38) := SR.out.set 0 (.string (str (splice s.1 q bs)))
                    have TB := hide (SB.out.other (c := w.heap.size) 0 (.string (str (splice s.1 q bs))) (by omega))
                    have TW := hide (SW.out.setCell (p := ⟨w.heap.size, 0, none⟩) (Nat.le_refl _) (.string (str (splice s.1 q bs))))
                    generalize w6.setCell _ _ = w7 at TR TB TW ⊢
                    have TR1 : Hid (Row w7.drew w.heap.size #[.string (str (splice s.1 q bs)), .string (str s.2)] 38) := TR.out.of_block rfl
                    have TB1 : Hid (Row w7.drew bq #[.string ⟨#[]⟩, .string ⟨#[]⟩] 38) := TB.out.of_block rfl
                    have TW1 : Hid (Below w.heap.size w w7.drew) := TW.out.trans (drew_below _ _)
                    have HAP := hide (hsu.out.trans hap)
                    generalize w7.drew = w8 at TR1 TB1 TW1 ⊢
                    clear hap hz0 hz1 hbz hln d0 d1 d2 r0 r1 e0 e1 hk1 hk2 gc gb hb1 hb2 hc1 hct hp1 hp2 ha hm0 hm2 hi0 hi2 SR SB SW SD TR TB TW hgd hb HA hnn hsu
                    go_wp2
                    exact ⟨⟨j + 1, (splice s.1 q bs, s.2), hlt, by go_num, HAP, TR1, TB1, TW1⟩, by simp [intOf]; omega⟩
                · have hap : ap1 s ⟨0, (q : Int), bs⟩ = none := by rw [ap1_0, hln.1, if_neg (by simp only [wit, Bool.and_eq_true, decide_eq_true_eq]; omega)]
                  have gc : decide ((x.length : Int) - q < bs.length) = true := by simp; omega
                  have hr : r = (([], []), false) := by rw [← HA.out, apA, hnn.out (hsu.out.trans hap)]
                  subst hr
                  go_quiet (fail)
                  go_wp2
                  refine bodyPost_ret (results_two rfl _ _ bq ⟨#[]⟩ ⟨#[]⟩ rfl (((QB.out.of_block (w' := w5.drewN _) rfl).set 0 (.string ⟨#[]⟩)).set 1 (.string ⟨#[]⟩))) rfl ⟨rfl, ?_⟩
                  exact ((QW.out.trans (drewN_below _ _ _)).setCell (Nat.le_of_lt hbq) _).setCell (Nat.le_of_lt hbq) _
          · by_cases ha : pos < 0
            · have hap : ap1 s ⟨1, pos, bs⟩ = none := by rw [ap1_1, hln.2, if_neg (by simp only [wit, Bool.and_eq_true, decide_eq_true_eq]; omega)]
              have ga : decide (pos < 0) = true := by simpa using ha
              have hr : r = (([], []), false) := by rw [← HA.out, apA, hnn.out (hsu.out.trans hap)]
              subst hr
              go_quiet (fail)
              go_wp2
              refine bodyPost_ret (results_two rfl _ _ bq ⟨#[]⟩ ⟨#[]⟩ rfl (((QB.out.of_block (w' := w5.drewN _) rfl).set 0 (.string ⟨#[]⟩)).set 1 (.string ⟨#[]⟩))) rfl ⟨rfl, ?_⟩
              exact ((QW.out.trans (drewN_below _ _ _)).setCell (Nat.le_of_lt hbq) _).setCell (Nat.le_of_lt hbq) _
            · obtain ⟨q, rfl⟩ : ∃ q : Nat, pos = q := ⟨pos.toNat, by omega⟩
              by_cases hb1 : y.length < q
              · have hap : ap1 s ⟨1, (q : Int), bs⟩ = none := by rw [ap1_1, hln.2, if_neg (by simp only [wit, Bool.and_eq_true, decide_eq_true_eq]; omega)]
                have hr : r = (([], []), false) := by rw [← HA.out, apA, hnn.out (hsu.out.trans hap)]
                subst hr
                go_quiet (fail)
                go_wp2
                refine bodyPost_ret (results_two rfl _ _ bq ⟨#[]⟩ ⟨#[]⟩ rfl (((QB.out.of_block (w' := w5.drewN _) rfl).set 0 (.string ⟨#[]⟩)).set 1 (.string ⟨#[]⟩))) rfl ⟨rfl, ?_⟩
                exact ((QW.out.trans (drewN_below _ _ _)).setCell (Nat.le_of_lt hbq) _).setCell (Nat.le_of_lt hbq) _
              · have hb2 : q ≤ y.length := by omega
                have gb : decide (y.length < q) = false := by simp; omega
                by_cases hc1 : q + bs.length ≤ y.length
                · have hap : ap1 s ⟨1, (q : Int), bs⟩ = some (s.1, splice s.2 q bs) := by rw [ap1_1, hln.2, if_pos (by simp only [wit, Bool.and_eq_true, decide_eq_true_eq]; omega)]; rfl
                  have gc : decide ((y.length : Int) - q < bs.length) = false := by simp; omega
                  go_quiet (fail)
                  go_wp2_with (fail)
                  have SR := hide (QR.out.of_block (w' := w5.drewN nq) rfl)
                  have SB := hide (QB.out.of_block (w' := w5.drewN nq) rfl)
                  have SW := hide (QW.out.trans (drewN_below _ w5 nq))
                  have SD := hide (QD.out.of_block (w' := w5.drewN nq) rfl)
                  generalize w5.drewN nq = w6 at SR SB SW SD ⊢
                  clear d0 d1 d2 r0 r1 q0 q1 f0 f1 e0 e1 QR QB QW QD
                  have d0 := SD.out.c 0 _ rfl
                  have d1 := SD.out.c 1 _ rfl
                  have d2 := SD.out.c 2 _ rfl
                  have r0 := SR.out.c 0 _ rfl
                  have r1 := SR.out.c 1 _ rfl
                  have e0 := SR.out.fr 0
                  have e1 := SR.out.fr 1
                  simp only [List.getElem_toArray, List.getElem_cons_zero, List.getElem_cons_succ] at d0 d1 d2 r0 r1
                  have hk1 : ¬ 9223372036854775807 < q + bs.length := by omega
                  have hk2 : ¬ 9223372036854775807 < q + bs.length + (y.length - (q + bs.length)) := by omega
                  go_region
                  all_goals
                    have hct : Hid ((str s.2).extract 0 q ++ str bs ++ (str s.2).extract (q + bs.length) y.length = str (splice s.2 q bs)) := by show _ = _; rw [← hz1]; exact str_splice s.2 bs q
                    rw [hct.out]
                    have TR : Hid (Row (w6.setCell ⟨w.heap.size, 1, none⟩ (.string (str (splice s.2 q bs)))) w.heap.size #[.string (str s.1), .string (str (splice s.2 q bs))] 38) := SR.out.set 1 (.string (str (splice s.2 q bs)))
                    have TB := hide (SB.out.other (c := w.heap.size) 1 (.string (str (splice s.2 q bs))) (by omega))
                    have TW := hide (SW.out.setCell (p := ⟨w.heap.size, 1, none⟩) (Nat.le_refl _) (.string (str (splice s.2 q bs))))
                    generalize w6.setCell _ _ = w7 at TR TB TW ⊢
                    have TR1 : Hid (Row w7.drew w.heap.size #[.string (str s.1), .string (str (splice s.2 q bs))] 38) := TR.out.of_block rfl
                    have TB1 : Hid (Row w7.drew bq #[.string ⟨#[]⟩, .string ⟨#[]⟩] 38) := TB.out.of_block rfl
                    have TW1 : Hid (Below w.heap.size w w7.drew) := TW.out.trans (drew_below _ _)
                    have HAP := hide (hsu.out.trans hap)
                    generalize w7.drew = w8 at TR1 TB1 TW1 ⊢
                    clear hap hz0 hz1 hbz hln d0 d1 d2 r0 r1 e0 e1 hk1 hk2 gc gb hb1 hb2 hc1 hct hp1 hp2 ha hm0 hm2 hi0 hi2 SR SB SW SD TR TB TW hgd hb HA hnn hsu
                    go_wp2
                    exact ⟨⟨j + 1, (s.1, splice s.2 q bs), hlt, by go_num, HAP, TR1, TB1, TW1⟩, by simp [intOf]; omega⟩
                · have hap : ap1 s ⟨1, (q : Int), bs⟩ = none := by rw [ap1_1, hln.2, if_neg (by simp only [wit, Bool.and_eq_true, decide_eq_true_eq]; omega)]
                  have gc : decide ((y.length : Int) - q < bs.length) = true := by simp; omega
                  have hr : r = (([], []), false) := by rw [← HA.out, apA, hnn.out (hsu.out.trans hap)]
                  subst hr
                  go_quiet (fail)
                  go_wp2
                  refine bodyPost_ret (results_two rfl _ _ bq ⟨#[]⟩ ⟨#[]⟩ rfl (((QB.out.of_block (w' := w5.drewN _) rfl).set 0 (.string ⟨#[]⟩)).set 1 (.string ⟨#[]⟩))) rfl ⟨rfl, ?_⟩
                  exact ((QW.out.trans (drewN_below _ _ _)).setCell (Nat.le_of_lt hbq) _).setCell (Nat.le_of_lt hbq) _
    · have hse : l.take j = l := List.take_of_length_le (by omega)
      have hr : r = (s, true) := by rw [← HA.out, apA, ← hse, HS.out]
      subst hr
      have r0 := PR.out.c 0 _ rfl
      have r1 := PR.out.c 1 _ rfl
      have q0 := PB.out.c 0 _ rfl
      have q1 := PB.out.c 1 _ rfl
      have f0 := PB.out.fr 0
      have f1 := PB.out.fr 1
      simp only [List.getElem_toArray, List.getElem_cons_zero, List.getElem_cons_succ] at r0 r1 q0 q1
      have hc1 : l.length ≤ j := by omega
      go_wp2
      refine bodyPost_ret (results_two rfl _ _ bq (str s.1) (str s.2) rfl ((PB.out.set 0 (.string (str s.1))).set 1 (.string (str s.2)))) rfl ⟨rfl, ?_⟩
      exact (PW.out.setCell (Nat.le_of_lt hbq) _).setCell (Nat.le_of_lt hbq) _
end Go.Proofs.Ytcjojphajjoheaa

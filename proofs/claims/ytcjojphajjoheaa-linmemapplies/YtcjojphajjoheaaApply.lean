/-
  Apply answers the memories with all writes, or two empty ones and false; it makes memory of its own alone.
-/
import Derived.Test.YtcjojphajjoheaaApply0
import Derived.Deep.RegionLaw
import Derived.BigQuiet
import Derived.Deep.QuietTactic
namespace Go.Proofs.Ytcjojphajjoheaa
open Go.RowKit

theorem within_is (s a n : Int) (w : World) (hs : 0 ≤ s) (hs2 : s ≤ 9223372036854775807) (ha : I64 a) {b : Bool} (h : Hid (wit s a n = b)) :
    Calls Try.prog 21 #[.int .i64 s, .int .i64 a, .int .i64 n] w fun e w' => e = .returned (.bool b) ∧ w' = w := by
  rw [← h.out]; exact within_any s a n w hs hs2 ha
theorem ap1_0 (s : Two) (pos : Int) (bs : List UInt8) : ap1 s ⟨0, pos, bs⟩ = if wit s.1.length pos bs.length = true then some (splice s.1 pos.toNat bs, s.2) else none := by unfold ap1; rw [if_pos rfl]
theorem ap1_1 (s : Two) (pos : Int) (bs : List UInt8) : ap1 s ⟨1, pos, bs⟩ = if wit s.2.length pos bs.length = true then some (s.1, splice s.2 pos.toNat bs) else none := by unfold ap1; rw [if_neg (by simp), if_pos rfl]
theorem und51 : Try.prog.underlying 51 = some (.slice 5) := u50
theorem drewN_below (B : Nat) (w : World) (n : Nat) : Below B w (w.drewN n) := ⟨rfl, rfl, rfl, Nat.le_refl _, fun _ _ => rfl⟩
set_option maxRecDepth 20000 in
set_option maxHeartbeats 3200000 in
theorem apply_any (x y : ByteArray) (a : Option Addr) (l : List Da) (c : Nat) (w : World) (hx : x.size ≤ 140737488351232) (hy : y.size ≤ 140737488351232) (hl : l.length ≤ 9223372036854775807) (hd : Hid (SDa w.heap.size w a l)) :
    Calls Try.prog 16 #[two x y, .slice a l.length c] w fun e w' => e = .returned (.tuple #[two (str (apA (x.data.toList, y.data.toList) l).1.1) (str (apA (x.data.toList, y.data.toList) l).1.2), .bool (apA (x.data.toList, y.data.toList) l).2]) ∧ Below w.heap.size w w' := by
  have RA := hide ((Row.made w #[.string x, .string y] 38).kept (bel_one _ (.cells #[.string ⟨#[]⟩, .string ⟨#[]⟩] 38)))
  have RB := hide (Row.made (w.alloc (.cells #[.string x, .string y] 38)) #[.string ⟨#[]⟩, .string ⟨#[]⟩] 38)
  have HZ : Hid (((w.alloc (.cells #[.string x, .string y] 38)).alloc (.cells #[.string ⟨#[]⟩, .string ⟨#[]⟩] 38)).heap.size = w.heap.size + 1 + 1) := by show _ = _; simp
  have HW := hide ((bel_one w (.cells #[.string x, .string y] 38)).alloc (by simp) (.cells #[.string ⟨#[]⟩, .string ⟨#[]⟩] 38))
  rw [show (w.alloc (.cells #[.string x, .string y] 38)).heap.size = w.heap.size + 1 by simp] at RB
  obtain ⟨r, HA⟩ : ∃ r, Hid (apA (x.data.toList, y.data.toList) l = r) := ⟨_, rfl⟩
  rw [HA.out]
  go_enter Try.func16, Try.ntmps16
  go_wp2_with (first | (refine wpList_bytes rfl (.tmp 10) rfl x rfl ?_; intro cap0 w1 hc0 HB0 hW1; have RA1 := hide (RA.out.kept hW1.out); have RB1 := hide (RB.out.kept hW1.out); have HW1 := hide (HW.out.trans (hW1.out.mono (by rw [HZ.out]; omega))); have c1 : w1.cell? ⟨w.heap.size, 1, none⟩ = some (.string y) := RA1.out.c 1 _ rfl; rw [HZ.out] at HB0; clear hW1 RA RB HW HZ) | (refine wpList_bytes rfl (.tmp 13) rfl y rfl ?_; intro cap1 w2 hc1 HB1 hW2; have HB0' := hide (HB0.out.kept hW2.out); have RB2 := hide (RB1.out.kept hW2.out); have HW2 := hide (HW1.out.trans (hW2.out.mono HW1.out.size)); have hgg : w.heap.size + 1 + 1 < w1.heap.size := HB0.out.1; have hg2 : w1.heap.size < w2.heap.size := HB1.out.1; clear hW2 RA1 RB1 HW1 HB0 c1))
  have KR := hide (Row.made w2 #[.slice (some ⟨w.heap.size + 1 + 1, 0, none⟩) x.size cap0, .slice (some ⟨w1.heap.size, 0, none⟩) y.size cap1] 55)
  have K0 := hide (HB0'.out.kept (bel_one w2 (.cells #[.slice (some ⟨w.heap.size + 1 + 1, 0, none⟩) x.size cap0, .slice (some ⟨w1.heap.size, 0, none⟩) y.size cap1] 55)))
  have K1 := hide (HB1.out.kept (bel_one w2 (.cells #[.slice (some ⟨w.heap.size + 1 + 1, 0, none⟩) x.size cap0, .slice (some ⟨w1.heap.size, 0, none⟩) y.size cap1] 55)))
  have KB := hide (RB2.out.kept (bel_one w2 (.cells #[.slice (some ⟨w.heap.size + 1 + 1, 0, none⟩) x.size cap0, .slice (some ⟨w1.heap.size, 0, none⟩) y.size cap1] 55)))
  have KW := hide (HW2.out.alloc HW2.out.size (.cells #[.slice (some ⟨w.heap.size + 1 + 1, 0, none⟩) x.size cap0, .slice (some ⟨w1.heap.size, 0, none⟩) y.size cap1] 55))
  clear HB0' HB1 RB2 HW2
  generalize w2.alloc _ = w3 at KR K0 K1 KB KW ⊢
  have hbq : w.heap.size < w.heap.size + 1 := by omega
  have hq0 : w.heap.size + 1 < w.heap.size + 1 + 1 := by omega
  have hl0 := hc0.out
  have hl1 := hc1.out
  have hst0 : Hid (apL (x.data.toList, y.data.toList) (l.take 0) = some (x.data.toList, y.data.toList)) := rfl
  generalize w.heap.size + 1 + 1 = g0 at *
  generalize w.heap.size + 1 = bq at *
  generalize w1.heap.size = g1 at *
  generalize w2.heap.size = gr at *
  clear hc0 hc1
  go_loopw [18] (fun i wr => ∃ (j : Nat) (s : Two), j ≤ l.length ∧ i = .int .i64 j ∧ Hid (apL (x.data.toList, y.data.toList) (l.take j) = some s) ∧ Hid (BRow wr g0 s.1) ∧ Hid (BRow wr g1 s.2) ∧ Hid (Row wr gr #[.slice (some ⟨g0, 0, none⟩) x.size cap0, .slice (some ⟨g1, 0, none⟩) y.size cap1] 55) ∧ Hid (Row wr bq #[.string ⟨#[]⟩, .string ⟨#[]⟩] 38) ∧ Hid (Below w.heap.size w wr)) (fun i _ => l.length - (intOf i).toNat)
  case atStart => exact ⟨0, (x.data.toList, y.data.toList), Nat.zero_le _, rfl, hst0, K0, K1, KR, KB, KW⟩
  case round =>
    obtain ⟨j, s, hj, rfl, HS, P0, P1, PR, PB, PW⟩ := hrel
    clear K0 K1 KR KB KW hst0
    by_cases hlt : j < l.length
    · obtain ⟨b, off, hax, hb, ⟨hi0, hi1, hi2⟩, g0', g1', g2'⟩ := hd.out j hlt
      have x0 := (PW.out.cell (p := ⟨b, off + j * 3, none⟩) hb).trans g0'
      have x1 := (PW.out.cell (p := ⟨b, off + j * 3 + 1, none⟩) hb).trans g1'
      have x2 := (PW.out.cell (p := ⟨b, off + j * 3 + 2, none⟩) hb).trans g2'
      have hsu := hide (apL_succ _ s l j hlt HS.out)
      have hln := apL_len _ HS.out
      simp only [list_size] at hln
      have hnn := hide (fun q => apL_none (x.data.toList, y.data.toList) l (j + 1) q)
      subst hax
      clear g0' g1' g2' hd HS
      generalize l[j] = d at *
      obtain ⟨mem, pos, bs⟩ := d
      simp only at x0 x1 x2 hi0 hi1 hi2
      have Q0 := hide (P0.out.kept (bel_one wr (.cells #[.int .i64 mem, .int .i64 pos, .string (str bs)] 46)))
      have Q1 := hide (P1.out.kept (bel_one wr (.cells #[.int .i64 mem, .int .i64 pos, .string (str bs)] 46)))
      have QR := hide (PR.out.kept (bel_one wr (.cells #[.int .i64 mem, .int .i64 pos, .string (str bs)] 46)))
      have QB := hide (PB.out.kept (bel_one wr (.cells #[.int .i64 mem, .int .i64 pos, .string (str bs)] 46)))
      have QW := hide (PW.out.alloc PW.out.size (.cells #[.int .i64 mem, .int .i64 pos, .string (str bs)] 46))
      have QD := hide (Row.made wr #[.int .i64 mem, .int .i64 pos, .string (str bs)] 46)
      have hgd : gr < wr.heap.size := PR.out.lt
      clear P0 P1 PR PB PW
      go_wp2_with (fail)
      generalize wr.alloc _ = w5 at Q0 Q1 QR QB QW QD ⊢
      clear x0 x1 x2
      generalize wr.heap.size = gd at *
      have d0 := QD.out.c 0 _ rfl
      have d1 := QD.out.c 1 _ rfl
      have d2 := QD.out.c 2 _ rfl
      have r0 := QR.out.c 0 _ rfl
      have r1 := QR.out.c 1 _ rfl
      have q0 := QB.out.c 0 _ rfl
      have q1 := QB.out.c 1 _ rfl
      have f0 := QB.out.fr 0
      have f1 := QB.out.fr 1
      simp only [List.getElem_toArray, List.getElem_cons_zero, List.getElem_cons_succ] at d0 d1 d2 r0 r1 q0 q1
      have hz0 : x.size ≤ 9223372036854775807 := by omega
      have hz1 : y.size ≤ 9223372036854775807 := by omega
      have hbz : (str bs).size = bs.length := str_size bs
      by_cases hm0 : mem < 0
      · have hap : ap1 s ⟨mem, pos, bs⟩ = none := by unfold ap1; simp only; rw [if_neg (by omega), if_neg (by omega)]
        have gd0 : decide (mem < 0) = true := by simpa using hm0
        have hr : r = (([], []), false) := by rw [← HA.out, apA, hnn.out (hsu.out.trans hap)]
        subst hr
        go_quiet (fail)
        go_wp2
        refine bodyPost_ret (results_two rfl _ _ bq ⟨#[]⟩ ⟨#[]⟩ rfl (((QB.out.of_block (w' := w5.drewN _) rfl).set 0 (.string ⟨#[]⟩)).set 1 (.string ⟨#[]⟩))) rfl ⟨rfl, ?_⟩
        exact ((QW.out.trans (drewN_below _ _ _)).setCell (Nat.le_of_lt hbq) _).setCell (Nat.le_of_lt hbq) _
      · by_cases hm2 : 2 ≤ mem
        · have hap : ap1 s ⟨mem, pos, bs⟩ = none := by unfold ap1; simp only; rw [if_neg (by omega), if_neg (by omega)]
          have gd0 : decide (mem < 0) = false := by simpa using hm0
          have gd2 : decide (2 ≤ mem) = true := by simpa using hm2
          have hr : r = (([], []), false) := by rw [← HA.out, apA, hnn.out (hsu.out.trans hap)]
          subst hr
          go_quiet (fail)
          go_wp2
          refine bodyPost_ret (results_two rfl _ _ bq ⟨#[]⟩ ⟨#[]⟩ rfl (((QB.out.of_block (w' := w5.drewN _) rfl).set 0 (.string ⟨#[]⟩)).set 1 (.string ⟨#[]⟩))) rfl ⟨rfl, ?_⟩
          exact ((QW.out.trans (drewN_below _ _ _)).setCell (Nat.le_of_lt hbq) _).setCell (Nat.le_of_lt hbq) _
        · have hm01 : mem = 0 ∨ mem = 1 := by omega
          rcases hm01 with rfl | rfl
          · cases hwit : wit (x.size : Int) pos ((str bs).size : Int) with
            | false =>
              have hap : ap1 s ⟨0, pos, bs⟩ = none := by rw [ap1_0, hln.1, ← str_size bs, hwit]; rfl
              have HWT := hide hwit
              clear hwit
              have hr : r = (([], []), false) := by rw [← HA.out, apA, hnn.out (hsu.out.trans hap)]
              subst hr
              go_quiet ((go_at_call 21; exact Calls.quiet_of_same (within_is _ _ _ _ (by omega) (by omega) hi1 HWT)))
              go_wp2
              refine bodyPost_ret (results_two rfl _ _ bq ⟨#[]⟩ ⟨#[]⟩ rfl (((QB.out.of_block (w' := w5.drewN _) rfl).set 0 (.string ⟨#[]⟩)).set 1 (.string ⟨#[]⟩))) rfl ⟨rfl, ?_⟩
              exact ((QW.out.trans (drewN_below _ _ _)).setCell (Nat.le_of_lt hbq) _).setCell (Nat.le_of_lt hbq) _
            | true =>
              have HWT := hide hwit
              clear hwit
              have hwt := HWT.out
              obtain ⟨q, rfl, hq⟩ := wit_fit hwt
              rw [hbz] at hq
              have hap : ap1 s ⟨0, (q : Int), bs⟩ = some (splice s.1 q bs, s.2) := by
                rw [ap1_0, hln.1, ← str_size bs, if_pos hwt]; rfl
              clear hwt
              go_quiet ((go_at_call 21; exact Calls.quiet_of_same (within_is _ _ _ _ (by omega) (by omega) hi1 HWT)))
              have S0 := hide (Q0.out.of_block (w' := w5.drewN nq) rfl)
              have S1 := hide (Q1.out.of_block (w' := w5.drewN nq) rfl)
              have SR := hide (QR.out.of_block (w' := w5.drewN nq) rfl)
              have SB := hide (QB.out.of_block (w' := w5.drewN nq) rfl)
              have SW := hide (QW.out.trans (drewN_below _ w5 nq))
              have SD := hide (QD.out.of_block (w' := w5.drewN nq) rfl)
              generalize w5.drewN nq = w6 at S0 S1 SR SB SW SD ⊢
              have d0' := SD.out.c 0 _ rfl
              have d1' := SD.out.c 1 _ rfl
              have d2' := SD.out.c 2 _ rfl
              have r0' := SR.out.c 0 _ rfl
              have r1' := SR.out.c 1 _ rfl
              simp only [List.getElem_toArray, List.getElem_cons_zero, List.getElem_cons_succ] at d0' d1' d2' r0' r1'
              clear d0 d1 d2 r0 r1 q0 q1 f0 f1 Q0 Q1 QR QB QW QD SD
              have hqx : q ≤ x.size := by omega
              by_cases hcp : cap0 = q
              · subst hcp
                have he : Hid (bs = []) := List.eq_nil_of_length_eq_zero (by omega)
                have hfit : Hid (0 + min (str bs).size 0 ≤ s.1.length) := by show _ ≤ _; omega
                go_wp2_with (fail)
                go_region_law (refine step_copy_str rfl (.tmp 51) (.tmp 53) 51 9 rfl 5 und51 z5 g0 0 0 0 (by simp [Act.eval, Act.put]) (str bs) (by simp [Act.eval, Act.put]) s.1 (S0.out.of_block rfl) hfit.out ?_; intro w7 hw7)
                all_goals
                  have hx7 := hw7.out
                  rw [str_list] at hx7
                  have SG : Hid (BRow w7 g0 (splice s.1 cap0 bs)) := by
                    show BRow _ _ _
                    have h := BRow.copied (l := s.1) (off := 0) (x := bs.take 0) (S0.out.of_block (w' := w6.drew) rfl) (by rw [List.length_take, hln.1]; omega) hx7
                    rw [he.out] at h ⊢; simp only [List.take_zero] at h
                    simp only [splice, List.nil_append, List.length_nil, Nat.add_zero, List.take_append_drop] at h ⊢; exact h
                  have SO : Hid (BRow w7 g1 s.2) := S1.out.of_block (set_block hx7 S1.out.1 (by omega))
                  have TR : Hid (Row w7 gr #[.slice (some ⟨g0, 0, none⟩) x.size cap0, .slice (some ⟨g1, 0, none⟩) y.size cap1] 55) := SR.out.of_block (set_block hx7 SR.out.lt (by omega))
                  have TB : Hid (Row w7 bq #[.string ⟨#[]⟩, .string ⟨#[]⟩] 38) := SB.out.of_block (set_block hx7 SB.out.lt (by omega))
                  have TW : Hid (Below w.heap.size w w7) := by
                    show Below _ _ _
                    rw [hx7]
                    exact Lib.below_setCells _ (by omega) _ _ (SW.out.trans (drew_below _ _))
                  clear hx7 hw7
                  go_wp2
                  exact ⟨⟨j + 1, (splice s.1 cap0 bs, s.2), hlt, by go_num, hsu.out.trans hap, SG, SO, TR, TB, TW⟩, by simp [intOf]; omega⟩
              · have hcp' : q < cap0 := by omega
                have hfit : Hid (q + min (str bs).size (x.size - q) ≤ s.1.length) := by show _ ≤ _; rw [hln.1, hbz]; omega
                go_wp2_with (fail)
                go_region_law (refine step_copy_str rfl (.tmp 51) (.tmp 53) 51 9 rfl 5 und51 z5 g0 q (x.size - q) (cap0 - q) (by simp [Act.eval, Act.put]) (str bs) (by simp [Act.eval, Act.put]) s.1 (S0.out.of_block rfl) hfit.out ?_; intro w7 hw7)
                all_goals
                  have hx7 := hw7.out
                  rw [str_list] at hx7
                  have SG : Hid (BRow w7 g0 (splice s.1 q bs)) := by
                    show BRow _ _ _
                    have h := BRow.copied (l := s.1) (off := q) (x := bs.take (x.size - q)) (S0.out.of_block (w' := w6.drew) rfl) (by rw [List.length_take, hln.1]; omega) hx7
                    rw [List.take_of_length_le (by omega)] at h
                    exact h
                  have SO : Hid (BRow w7 g1 s.2) := S1.out.of_block (set_block hx7 S1.out.1 (by omega))
                  have TR : Hid (Row w7 gr #[.slice (some ⟨g0, 0, none⟩) x.size cap0, .slice (some ⟨g1, 0, none⟩) y.size cap1] 55) := SR.out.of_block (set_block hx7 SR.out.lt (by omega))
                  have TB : Hid (Row w7 bq #[.string ⟨#[]⟩, .string ⟨#[]⟩] 38) := SB.out.of_block (set_block hx7 SB.out.lt (by omega))
                  have TW : Hid (Below w.heap.size w w7) := by
                    show Below _ _ _
                    rw [hx7]
                    exact Lib.below_setCells _ (by omega) _ _ (SW.out.trans (drew_below _ _))
                  clear hx7 hw7
                  go_wp2
                  exact ⟨⟨j + 1, (splice s.1 q bs, s.2), hlt, by go_num, hsu.out.trans hap, SG, SO, TR, TB, TW⟩, by simp [intOf]; omega⟩
          · cases hwit : wit (y.size : Int) pos ((str bs).size : Int) with
            | false =>
              have hap : ap1 s ⟨1, pos, bs⟩ = none := by rw [ap1_1, hln.2, ← str_size bs, hwit]; rfl
              have HWT := hide hwit
              clear hwit
              have hr : r = (([], []), false) := by rw [← HA.out, apA, hnn.out (hsu.out.trans hap)]
              subst hr
              go_quiet ((go_at_call 21; exact Calls.quiet_of_same (within_is _ _ _ _ (by omega) (by omega) hi1 HWT)))
              go_wp2
              refine bodyPost_ret (results_two rfl _ _ bq ⟨#[]⟩ ⟨#[]⟩ rfl (((QB.out.of_block (w' := w5.drewN _) rfl).set 0 (.string ⟨#[]⟩)).set 1 (.string ⟨#[]⟩))) rfl ⟨rfl, ?_⟩
              exact ((QW.out.trans (drewN_below _ _ _)).setCell (Nat.le_of_lt hbq) _).setCell (Nat.le_of_lt hbq) _
            | true =>
              have HWT := hide hwit
              clear hwit
              have hwt := HWT.out
              obtain ⟨q, rfl, hq⟩ := wit_fit hwt
              rw [hbz] at hq
              have hap : ap1 s ⟨1, (q : Int), bs⟩ = some (s.1, splice s.2 q bs) := by
                rw [ap1_1, hln.2, ← str_size bs, if_pos hwt]; rfl
              clear hwt
              go_quiet ((go_at_call 21; exact Calls.quiet_of_same (within_is _ _ _ _ (by omega) (by omega) hi1 HWT)))
              have S0 := hide (Q1.out.of_block (w' := w5.drewN nq) rfl)
              have S1 := hide (Q0.out.of_block (w' := w5.drewN nq) rfl)
              have SR := hide (QR.out.of_block (w' := w5.drewN nq) rfl)
              have SB := hide (QB.out.of_block (w' := w5.drewN nq) rfl)
              have SW := hide (QW.out.trans (drewN_below _ w5 nq))
              have SD := hide (QD.out.of_block (w' := w5.drewN nq) rfl)
              generalize w5.drewN nq = w6 at S0 S1 SR SB SW SD ⊢
              have d0' := SD.out.c 0 _ rfl
              have d1' := SD.out.c 1 _ rfl
              have d2' := SD.out.c 2 _ rfl
              have r0' := SR.out.c 0 _ rfl
              have r1' := SR.out.c 1 _ rfl
              simp only [List.getElem_toArray, List.getElem_cons_zero, List.getElem_cons_succ] at d0' d1' d2' r0' r1'
              clear d0 d1 d2 r0 r1 q0 q1 f0 f1 Q0 Q1 QR QB QW QD SD
              have hqx : q ≤ y.size := by omega
              by_cases hcp : cap1 = q
              · subst hcp
                have he : Hid (bs = []) := List.eq_nil_of_length_eq_zero (by omega)
                have hfit : Hid (0 + min (str bs).size 0 ≤ s.2.length) := by show _ ≤ _; omega
                go_wp2_with (fail)
                go_region_law (refine step_copy_str rfl (.tmp 51) (.tmp 53) 51 9 rfl 5 und51 z5 g1 0 0 0 (by simp [Act.eval, Act.put]) (str bs) (by simp [Act.eval, Act.put]) s.2 (S0.out.of_block rfl) hfit.out ?_; intro w7 hw7)
                all_goals
                  have hx7 := hw7.out
                  rw [str_list] at hx7
                  have SG : Hid (BRow w7 g1 (splice s.2 cap1 bs)) := by
                    show BRow _ _ _
                    have h := BRow.copied (l := s.2) (off := 0) (x := bs.take 0) (S0.out.of_block (w' := w6.drew) rfl) (by rw [List.length_take, hln.2]; omega) hx7
                    rw [he.out] at h ⊢; simp only [List.take_zero] at h
                    simp only [splice, List.nil_append, List.length_nil, Nat.add_zero, List.take_append_drop] at h ⊢; exact h
                  have SO : Hid (BRow w7 g0 s.1) := S1.out.of_block (set_block hx7 S1.out.1 (by omega))
                  have TR : Hid (Row w7 gr #[.slice (some ⟨g0, 0, none⟩) x.size cap0, .slice (some ⟨g1, 0, none⟩) y.size cap1] 55) := SR.out.of_block (set_block hx7 SR.out.lt (by omega))
                  have TB : Hid (Row w7 bq #[.string ⟨#[]⟩, .string ⟨#[]⟩] 38) := SB.out.of_block (set_block hx7 SB.out.lt (by omega))
                  have TW : Hid (Below w.heap.size w w7) := by
                    show Below _ _ _
                    rw [hx7]
                    exact Lib.below_setCells _ (by omega) _ _ (SW.out.trans (drew_below _ _))
                  clear hx7 hw7
                  go_wp2
                  exact ⟨⟨j + 1, (s.1, splice s.2 cap1 bs), hlt, by go_num, hsu.out.trans hap, SO, SG, TR, TB, TW⟩, by simp [intOf]; omega⟩
              · have hcp' : q < cap1 := by omega
                have hfit : Hid (q + min (str bs).size (y.size - q) ≤ s.2.length) := by show _ ≤ _; rw [hln.2, hbz]; omega
                go_wp2_with (fail)
                go_region_law (refine step_copy_str rfl (.tmp 51) (.tmp 53) 51 9 rfl 5 und51 z5 g1 q (y.size - q) (cap1 - q) (by simp [Act.eval, Act.put]) (str bs) (by simp [Act.eval, Act.put]) s.2 (S0.out.of_block rfl) hfit.out ?_; intro w7 hw7)
                all_goals
                  have hx7 := hw7.out
                  rw [str_list] at hx7
                  have SG : Hid (BRow w7 g1 (splice s.2 q bs)) := by
                    show BRow _ _ _
                    have h := BRow.copied (l := s.2) (off := q) (x := bs.take (y.size - q)) (S0.out.of_block (w' := w6.drew) rfl) (by rw [List.length_take, hln.2]; omega) hx7
                    rw [List.take_of_length_le (by omega)] at h
                    exact h
                  have SO : Hid (BRow w7 g0 s.1) := S1.out.of_block (set_block hx7 S1.out.1 (by omega))
                  have TR : Hid (Row w7 gr #[.slice (some ⟨g0, 0, none⟩) x.size cap0, .slice (some ⟨g1, 0, none⟩) y.size cap1] 55) := SR.out.of_block (set_block hx7 SR.out.lt (by omega))
                  have TB : Hid (Row w7 bq #[.string ⟨#[]⟩, .string ⟨#[]⟩] 38) := SB.out.of_block (set_block hx7 SB.out.lt (by omega))
                  have TW : Hid (Below w.heap.size w w7) := by
                    show Below _ _ _
                    rw [hx7]
                    exact Lib.below_setCells _ (by omega) _ _ (SW.out.trans (drew_below _ _))
                  clear hx7 hw7
                  go_wp2
                  exact ⟨⟨j + 1, (s.1, splice s.2 q bs), hlt, by go_num, hsu.out.trans hap, SO, SG, TR, TB, TW⟩, by simp [intOf]; omega⟩
    · have hse : l.take j = l := List.take_of_length_le (by omega)
      have hln := apL_len _ HS.out
      simp only [list_size] at hln
      have hr : r = (s, true) := by rw [← HA.out, apA, ← hse, HS.out]
      subst hr
      have hs0 : (convert 51 9 (.slice (some ⟨g0, 0, none⟩) x.size cap0)).run Try.prog wr = .ok (.string (str s.1)) wr := by
        have := run_str_of (P := Try.prog) P0.out 51 9 5 x.size cap0 (by rw [hln.1]; exact Nat.le_refl _) (by kernel_rfl) (by kernel_rfl) (by kernel_rfl)
        rw [List.take_of_length_le (by rw [hln.1]; exact Nat.le_refl _)] at this
        exact this
      have hs1 : (convert 51 9 (.slice (some ⟨g1, 0, none⟩) y.size cap1)).run Try.prog wr = .ok (.string (str s.2)) wr := by
        have := run_str_of (P := Try.prog) P1.out 51 9 5 y.size cap1 (by rw [hln.2]; exact Nat.le_refl _) (by kernel_rfl) (by kernel_rfl) (by kernel_rfl)
        rw [List.take_of_length_le (by rw [hln.2]; exact Nat.le_refl _)] at this
        exact this
      have r0 := PR.out.c 0 _ rfl
      have r1 := PR.out.c 1 _ rfl
      have q0 := PB.out.c 0 _ rfl
      have q1 := PB.out.c 1 _ rfl
      have f0 := PB.out.fr 0
      have f1 := PB.out.fr 1
      simp only [List.getElem_toArray, List.getElem_cons_zero, List.getElem_cons_succ] at r0 r1 q0 q1
      have hc1 : l.length ≤ j := by omega
      clear hln
      go_wp2
      refine bodyPost_ret (results_two rfl _ _ bq (str s.1) (str s.2) rfl ((PB.out.set 0 (.string (str s.1))).set 1 (.string (str s.2)))) rfl ⟨rfl, ?_⟩
      exact (PW.out.setCell (Nat.le_of_lt hbq) _).setCell (Nat.le_of_lt hbq) _
end Go.Proofs.Ytcjojphajjoheaa

/-
  The document's New answers what the program's does: its walk.
-/
import Derived.Test.YtcjojphajjoheaaRefN0
import Derived.Test.YtcjojphajjoheaaDataW
namespace Go.Proofs.Ytcjojphajjoheaa
open Go.RowKit

set_option maxRecDepth 20000 in
set_option maxHeartbeats 3200000 in
theorem rnew_yes0 (a0 a1 a2 a5 a6 : Option Addr) (n0 c0 n1 c1 n2 c2 n5 c5 c6 : Nat) (m m1 : Int) (l : List Da) (w : World) (h3 : 3 ≤ m) (h12 : m ≤ 12) (hl : l.length ≤ 9223372036854775807) (hd : Hid (SDa w.heap.size w a6 l)) :
    Calls Try.prog 15 #[mo a0 a1 a2 a5 a6 n0 c0 n1 c1 n2 c2 n5 c5 l.length c6 m m1, .int .i64 0] w fun e w' => e = .returned (.string (str (rr (pw m) 0 l))) ∧ Below w.heap.size w w' := by
  have hs4 := pw_le m
  have hSz := pw_size m h3 h12
  obtain ⟨sz, hsz⟩ : ∃ sz, pw m = sz := ⟨_, rfl⟩
  rw [hsz] at hs4 hSz ⊢
  clear hsz
  have HR := hide (Row.made w (moC a0 a1 a2 a5 a6 n0 c0 n1 c1 n2 c2 n5 c5 l.length c6 m m1) 29)
  have HW := hide (bel_one w (.cells (moC a0 a1 a2 a5 a6 n0 c0 n1 c1 n2 c2 n5 c5 l.length c6 m m1) 29))
  have hz0 : Hid ((w.alloc (.cells (moC a0 a1 a2 a5 a6 n0 c0 n1 c1 n2 c2 n5 c5 l.length c6 m m1) 29)).heap.size = w.heap.size + 1) := by show _ = _; simp
  have d3 : decide (m < 3) = false := by simp; omega
  have d12 : decide (12 < m) = false := by simp; omega
  go_enter Try.func15, Try.ntmps15
  go_wp2_with (refine wpList_make rfl (.tmp 33) (.tmp 33) rfl sz (congrArg (Value.int .i64) hSz) (congrArg (Value.int .i64) hSz) hs4 ?_; intro w1 HB1 hb1; have HR1 := hide (HR.out.kept hb1.out); have HW1 := hide (HW.out.trans (hb1.out.mono (by rw [hz0.out]; omega))); rw [hz0.out] at HB1; clear hb1 HR HW hz0)
  have hgg : w.heap.size < w.heap.size + 1 := by omega
  generalize w.heap.size + 1 = g at HB1 hgg ⊢
  go_loopw [6] (fun i wr => ∃ j : Nat, j ≤ l.length ∧ i = .int .i64 j ∧ Hid (BRow wr g (rr sz 0 (l.take j))) ∧ Hid (Below w.heap.size w wr) ∧ Hid (Row wr w.heap.size (moC a0 a1 a2 a5 a6 n0 c0 n1 c1 n2 c2 n5 c5 l.length c6 m m1) 29)) (fun i _ => l.length - (intOf i).toNat)
  case atStart => exact ⟨0, Nat.zero_le _, rfl, HB1, HW1, HR1⟩
  case round =>
    obtain ⟨j, hj, rfl, HB, HW, HR⟩ := hrel
    clear HB1 HW1 HR1
    have cc := HR.out.c 6 _ rfl
    simp only [List.getElem_toArray, List.getElem_cons_zero, List.getElem_cons_succ] at cc
    by_cases hlt : j < l.length
    · obtain ⟨b, off, hax, hb, ⟨hi0, hi1, hi2⟩, g0, g1, g2⟩ := hd.out j hlt
      have x0 := (HW.out.cell (p := ⟨b, off + j * 3, none⟩) hb).trans g0
      have x1 := (HW.out.cell (p := ⟨b, off + j * 3 + 1, none⟩) hb).trans g1
      have x2 := (HW.out.cell (p := ⟨b, off + j * 3 + 2, none⟩) hb).trans g2
      have hsu := hide (rr_succ sz 0 l j hlt)
      have hlen := hide (rr_len sz 0 (l.take j))
      subst hax
      clear g0 g1 g2 hd
      generalize l[j] = d at *
      obtain ⟨mem, pos, bs⟩ := d
      simp only at x0 x1 x2 hi0 hi1 hi2
      have HAl := hide (HW.out.alloc HW.out.size (.cells #[.int .i64 mem, .int .i64 pos, .string (str bs)] 48))
      have HBl := hide (HB.out.kept (bel_one wr (.cells #[.int .i64 mem, .int .i64 pos, .string (str bs)] 48)))
      have HRl := hide (HR.out.kept (bel_one wr (.cells #[.int .i64 mem, .int .i64 pos, .string (str bs)] 48)))
      have HDl := hide (Row.made wr #[.int .i64 mem, .int .i64 pos, .string (str bs)] 48)
      obtain ⟨hp1, hp2⟩ := hi1
      by_cases hm : mem = 0
      · subst hm
        have hgd : Hid (g < wr.heap.size) := HB.out.1
        go_wp2
        generalize wr.alloc _ = w2 at HAl HBl HRl HDl ⊢
        have hgw : w.heap.size < wr.heap.size := HR.out.lt
        have hgd' := hgd.out
        clear HB HR HW x0 x1 x2 cc hgd
        generalize wr.heap.size = gd at *
        generalize rr sz 0 (l.take j) = r at hsu hlen HBl
        go_loopw [8] (fun i w3 => ∃ n : Nat, n ≤ bs.length ∧ n ≤ sz ∧ i = .int .i64 n ∧ Hid (BRow w3 g (dj sz r pos bs n)) ∧ Hid (Below w.heap.size w w3) ∧ Hid (Row w3 w.heap.size (moC a0 a1 a2 a5 (some ⟨b, off, none⟩) n0 c0 n1 c1 n2 c2 n5 c5 l.length c6 m m1) 29) ∧ Hid (Row w3 gd #[.int .i64 0, .int .i64 pos, .string (str bs)] 48)) (fun i _ => bs.length - (intOf i).toNat)
        case atStart => exact ⟨0, Nat.zero_le _, Nat.zero_le _, rfl, by rw [dj_zero]; exact HBl, HAl, HRl, HDl⟩
        case round =>
          rename_i w3
          obtain ⟨n, hn1, hn2, rfl, IB, IW, IR, ID⟩ := hrel
          have c1 := ID.out.c 1 _ rfl
          have c2 := ID.out.c 2 _ rfl
          simp only [List.getElem_toArray, List.getElem_cons_zero, List.getElem_cons_succ] at c1 c2
          have hbz : (str bs).size = bs.length := str_size bs
          by_cases hn : n < bs.length
          · by_cases hz : n < sz
            · by_cases hp : pos < 0
              · have dp : decide (0 ≤ pos) = false := by simp; omega
                have hno := hide (dj_none sz r pos bs n (Or.inl hp))
                go_wp2
                exact ⟨⟨n + 1, by omega, by omega, by go_num, by rw [hno.out]; exact IB, IW, IR, ID⟩, by simp [intOf]; omega⟩
              · obtain ⟨q, rfl⟩ : ∃ q : Nat, pos = q := ⟨pos.toNat, by omega⟩
                by_cases hq : q + n < sz
                · have hdl := hide (dj_len (q : Int) bs n hlen.out)
                  obtain ⟨u, c⟩ : ∃ u, wr.cell? ⟨g, q + n, none⟩ = some u := ⟨_, (IB.out.2 (q + n) (by rw [hdl.out]; exact hq)).1⟩
                  have f := (IB.out.2 (q + n) (by rw [hdl.out]; exact hq)).2
                  have hq' : (q : Int) < (sz : Int) - n := by omega
                  have hix : n < (str bs).size := by rw [hbz]; exact hn
                  have NB : Hid (BRow (wr.setCell ⟨g, q + n, none⟩ (.int .u8 ((str bs)[n].toNat : Int))) g (dj sz r q bs (n + 1))) := by
                    show BRow _ _ _
                    rw [← dj_set sz r q bs n hlen.out hn hq, str_get bs n hix]
                    exact IB.out.set (k := q + n) (by rw [hdl.out]; exact hq) _
                  have NW := hide (IW.out.setCell (p := ⟨g, q + n, none⟩) (Nat.le_of_lt hgg) (.int .u8 ((str bs)[n].toNat : Int)))
                  have NR := hide (IR.out.other (c := g) (q + n) (.int .u8 ((str bs)[n].toNat : Int)) (by omega))
                  have ND := hide (ID.out.other (c := g) (q + n) (.int .u8 ((str bs)[n].toNat : Int)) (by omega))
                  clear hdl
                  go_wp2
                  go_region
                  all_goals
                    go_wp2
                    exact ⟨⟨n + 1, by omega, by omega, by go_num, NB.out.of_block rfl, NW.out.trans (drew_below _ _), NR.out.of_block rfl, ND.out.of_block rfl⟩, by simp [intOf]; omega⟩
                · have dq : decide ((q : Int) < (sz : Int) - n) = false := by simp; omega
                  have hno := hide (dj_none sz r q bs n (Or.inr (by omega)))
                  go_wp2
                  exact ⟨⟨n + 1, by omega, by omega, by go_num, by rw [hno.out]; exact IB, IW, IR, ID⟩, by simp [intOf]; omega⟩
            · have he := hide (dj_end sz 0 r pos bs n (Or.inr (by omega)))
              have dz : decide (n < sz) = false := by simp; omega
              go_wp2
              exact ⟨⟨j + 1, hlt, by go_num, by rw [hsu.out, ← he.out]; exact IB, IW, IR⟩, by simp [intOf]; omega⟩
          · have he := hide (dj_end sz 0 r pos bs n (Or.inl (by omega)))
            have dz : decide (n < bs.length) = false := by simp; omega
            go_wp2
            exact ⟨⟨j + 1, hlt, by go_num, by rw [hsu.out, ← he.out]; exact IB, IW, IR⟩, by simp [intOf]; omega⟩
      · have hN' := hide (show rr sz 0 (l.take (j + 1)) = rr sz 0 (l.take j) by rw [hsu.out]; unfold dat1; rw [if_neg (fun q => hm q.1)])
        have hm' : (mem != 0) = true := by simpa using hm
        go_wp2
        exact ⟨⟨j + 1, hlt, by go_num, by rw [hN'.out]; exact HBl, HAl, HRl⟩, by simp [intOf]; omega⟩
    · have hse : l.take j = l := List.take_of_length_le (by omega)
      have hst : (convert 51 9 (.slice (some ⟨g, 0, none⟩) sz sz)).run Try.prog wr = .ok (.string (str (rr sz 0 l))) wr := by
        have h := HB.out
        rw [hse] at h
        have := run_str_of (P := Try.prog) h 51 9 5 sz sz (by rw [rr_len]; exact Nat.le_refl _) (by kernel_rfl) (by kernel_rfl) (by kernel_rfl)
        rw [List.take_of_length_le (by rw [rr_len]; exact Nat.le_refl _)] at this
        exact this
      have hc1 : l.length ≤ j := by omega
      go_wp2
      go_ret
      exact ⟨rfl, HW.out⟩
set_option maxRecDepth 20000 in
set_option maxHeartbeats 3200000 in
theorem rnew_yes1 (a0 a1 a2 a5 a6 : Option Addr) (n0 c0 n1 c1 n2 c2 n5 c5 c6 : Nat) (m0 m : Int) (l : List Da) (w : World) (h3 : 3 ≤ m) (h12 : m ≤ 12) (hl : l.length ≤ 9223372036854775807) (hd : Hid (SDa w.heap.size w a6 l)) :
    Calls Try.prog 15 #[mo a0 a1 a2 a5 a6 n0 c0 n1 c1 n2 c2 n5 c5 l.length c6 m0 m, .int .i64 1] w fun e w' => e = .returned (.string (str (rr (pw m) 1 l))) ∧ Below w.heap.size w w' := by
  have hs4 := pw_le m
  have hSz := pw_size m h3 h12
  obtain ⟨sz, hsz⟩ : ∃ sz, pw m = sz := ⟨_, rfl⟩
  rw [hsz] at hs4 hSz ⊢
  clear hsz
  have HR := hide (Row.made w (moC a0 a1 a2 a5 a6 n0 c0 n1 c1 n2 c2 n5 c5 l.length c6 m0 m) 29)
  have HW := hide (bel_one w (.cells (moC a0 a1 a2 a5 a6 n0 c0 n1 c1 n2 c2 n5 c5 l.length c6 m0 m) 29))
  have hz0 : Hid ((w.alloc (.cells (moC a0 a1 a2 a5 a6 n0 c0 n1 c1 n2 c2 n5 c5 l.length c6 m0 m) 29)).heap.size = w.heap.size + 1) := by show _ = _; simp
  have d3 : decide (m < 3) = false := by simp; omega
  have d12 : decide (12 < m) = false := by simp; omega
  go_enter Try.func15, Try.ntmps15
  go_wp2_with (refine wpList_make rfl (.tmp 33) (.tmp 33) rfl sz (congrArg (Value.int .i64) hSz) (congrArg (Value.int .i64) hSz) hs4 ?_; intro w1 HB1 hb1; have HR1 := hide (HR.out.kept hb1.out); have HW1 := hide (HW.out.trans (hb1.out.mono (by rw [hz0.out]; omega))); rw [hz0.out] at HB1; clear hb1 HR HW hz0)
  have hgg : w.heap.size < w.heap.size + 1 := by omega
  generalize w.heap.size + 1 = g at HB1 hgg ⊢
  go_loopw [6] (fun i wr => ∃ j : Nat, j ≤ l.length ∧ i = .int .i64 j ∧ Hid (BRow wr g (rr sz 1 (l.take j))) ∧ Hid (Below w.heap.size w wr) ∧ Hid (Row wr w.heap.size (moC a0 a1 a2 a5 a6 n0 c0 n1 c1 n2 c2 n5 c5 l.length c6 m0 m) 29)) (fun i _ => l.length - (intOf i).toNat)
  case atStart => exact ⟨0, Nat.zero_le _, rfl, HB1, HW1, HR1⟩
  case round =>
    obtain ⟨j, hj, rfl, HB, HW, HR⟩ := hrel
    clear HB1 HW1 HR1
    have cc := HR.out.c 6 _ rfl
    simp only [List.getElem_toArray, List.getElem_cons_zero, List.getElem_cons_succ] at cc
    by_cases hlt : j < l.length
    · obtain ⟨b, off, hax, hb, ⟨hi0, hi1, hi2⟩, g0, g1, g2⟩ := hd.out j hlt
      have x0 := (HW.out.cell (p := ⟨b, off + j * 3, none⟩) hb).trans g0
      have x1 := (HW.out.cell (p := ⟨b, off + j * 3 + 1, none⟩) hb).trans g1
      have x2 := (HW.out.cell (p := ⟨b, off + j * 3 + 2, none⟩) hb).trans g2
      have hsu := hide (rr_succ sz 1 l j hlt)
      have hlen := hide (rr_len sz 1 (l.take j))
      subst hax
      clear g0 g1 g2 hd
      generalize l[j] = d at *
      obtain ⟨mem, pos, bs⟩ := d
      simp only at x0 x1 x2 hi0 hi1 hi2
      have HAl := hide (HW.out.alloc HW.out.size (.cells #[.int .i64 mem, .int .i64 pos, .string (str bs)] 48))
      have HBl := hide (HB.out.kept (bel_one wr (.cells #[.int .i64 mem, .int .i64 pos, .string (str bs)] 48)))
      have HRl := hide (HR.out.kept (bel_one wr (.cells #[.int .i64 mem, .int .i64 pos, .string (str bs)] 48)))
      have HDl := hide (Row.made wr #[.int .i64 mem, .int .i64 pos, .string (str bs)] 48)
      obtain ⟨hp1, hp2⟩ := hi1
      by_cases hm : mem = 1
      · subst hm
        have hgd : Hid (g < wr.heap.size) := HB.out.1
        go_wp2
        generalize wr.alloc _ = w2 at HAl HBl HRl HDl ⊢
        have hgw : w.heap.size < wr.heap.size := HR.out.lt
        have hgd' := hgd.out
        clear HB HR HW x0 x1 x2 cc hgd
        generalize wr.heap.size = gd at *
        generalize rr sz 1 (l.take j) = r at hsu hlen HBl
        go_loopw [8] (fun i w3 => ∃ n : Nat, n ≤ bs.length ∧ n ≤ sz ∧ i = .int .i64 n ∧ Hid (BRow w3 g (dj sz r pos bs n)) ∧ Hid (Below w.heap.size w w3) ∧ Hid (Row w3 w.heap.size (moC a0 a1 a2 a5 (some ⟨b, off, none⟩) n0 c0 n1 c1 n2 c2 n5 c5 l.length c6 m0 m) 29) ∧ Hid (Row w3 gd #[.int .i64 1, .int .i64 pos, .string (str bs)] 48)) (fun i _ => bs.length - (intOf i).toNat)
        case atStart => exact ⟨0, Nat.zero_le _, Nat.zero_le _, rfl, by rw [dj_zero]; exact HBl, HAl, HRl, HDl⟩
        case round =>
          rename_i w3
          obtain ⟨n, hn1, hn2, rfl, IB, IW, IR, ID⟩ := hrel
          have c1 := ID.out.c 1 _ rfl
          have c2 := ID.out.c 2 _ rfl
          simp only [List.getElem_toArray, List.getElem_cons_zero, List.getElem_cons_succ] at c1 c2
          have hbz : (str bs).size = bs.length := str_size bs
          by_cases hn : n < bs.length
          · by_cases hz : n < sz
            · by_cases hp : pos < 0
              · have dp : decide (0 ≤ pos) = false := by simp; omega
                have hno := hide (dj_none sz r pos bs n (Or.inl hp))
                go_wp2
                exact ⟨⟨n + 1, by omega, by omega, by go_num, by rw [hno.out]; exact IB, IW, IR, ID⟩, by simp [intOf]; omega⟩
              · obtain ⟨q, rfl⟩ : ∃ q : Nat, pos = q := ⟨pos.toNat, by omega⟩
                by_cases hq : q + n < sz
                · have hdl := hide (dj_len (q : Int) bs n hlen.out)
                  obtain ⟨u, c⟩ : ∃ u, wr.cell? ⟨g, q + n, none⟩ = some u := ⟨_, (IB.out.2 (q + n) (by rw [hdl.out]; exact hq)).1⟩
                  have f := (IB.out.2 (q + n) (by rw [hdl.out]; exact hq)).2
                  have hq' : (q : Int) < (sz : Int) - n := by omega
                  have hix : n < (str bs).size := by rw [hbz]; exact hn
                  have NB : Hid (BRow (wr.setCell ⟨g, q + n, none⟩ (.int .u8 ((str bs)[n].toNat : Int))) g (dj sz r q bs (n + 1))) := by
                    show BRow _ _ _
                    rw [← dj_set sz r q bs n hlen.out hn hq, str_get bs n hix]
                    exact IB.out.set (k := q + n) (by rw [hdl.out]; exact hq) _
                  have NW := hide (IW.out.setCell (p := ⟨g, q + n, none⟩) (Nat.le_of_lt hgg) (.int .u8 ((str bs)[n].toNat : Int)))
                  have NR := hide (IR.out.other (c := g) (q + n) (.int .u8 ((str bs)[n].toNat : Int)) (by omega))
                  have ND := hide (ID.out.other (c := g) (q + n) (.int .u8 ((str bs)[n].toNat : Int)) (by omega))
                  clear hdl
                  go_wp2
                  go_region
                  all_goals
                    go_wp2
                    exact ⟨⟨n + 1, by omega, by omega, by go_num, NB.out.of_block rfl, NW.out.trans (drew_below _ _), NR.out.of_block rfl, ND.out.of_block rfl⟩, by simp [intOf]; omega⟩
                · have dq : decide ((q : Int) < (sz : Int) - n) = false := by simp; omega
                  have hno := hide (dj_none sz r q bs n (Or.inr (by omega)))
                  go_wp2
                  exact ⟨⟨n + 1, by omega, by omega, by go_num, by rw [hno.out]; exact IB, IW, IR, ID⟩, by simp [intOf]; omega⟩
            · have he := hide (dj_end sz 1 r pos bs n (Or.inr (by omega)))
              have dz : decide (n < sz) = false := by simp; omega
              go_wp2
              exact ⟨⟨j + 1, hlt, by go_num, by rw [hsu.out, ← he.out]; exact IB, IW, IR⟩, by simp [intOf]; omega⟩
          · have he := hide (dj_end sz 1 r pos bs n (Or.inl (by omega)))
            have dz : decide (n < bs.length) = false := by simp; omega
            go_wp2
            exact ⟨⟨j + 1, hlt, by go_num, by rw [hsu.out, ← he.out]; exact IB, IW, IR⟩, by simp [intOf]; omega⟩
      · have hN' := hide (show rr sz 1 (l.take (j + 1)) = rr sz 1 (l.take j) by rw [hsu.out]; unfold dat1; rw [if_neg (fun q => hm q.1)])
        have hm' : (mem != 1) = true := by simpa using hm
        go_wp2
        exact ⟨⟨j + 1, hlt, by go_num, by rw [hN'.out]; exact HBl, HAl, HRl⟩, by simp [intOf]; omega⟩
    · have hse : l.take j = l := List.take_of_length_le (by omega)
      have hst : (convert 51 9 (.slice (some ⟨g, 0, none⟩) sz sz)).run Try.prog wr = .ok (.string (str (rr sz 1 l))) wr := by
        have h := HB.out
        rw [hse] at h
        have := run_str_of (P := Try.prog) h 51 9 5 sz sz (by rw [rr_len]; exact Nat.le_refl _) (by kernel_rfl) (by kernel_rfl) (by kernel_rfl)
        rw [List.take_of_length_le (by rw [rr_len]; exact Nat.le_refl _)] at this
        exact this
      have hc1 : l.length ≤ j := by omega
      go_wp2
      go_ret
      exact ⟨rfl, HW.out⟩
section
variable (a0 a1 a2 a5 a6 : Option Addr) (n0 c0 n1 c1 n2 c2 n5 c5 n6 c6 : Nat) (m0 m1 : Int)
set_option maxHeartbeats 1600000 in
theorem rnew_no (k : Int) (w : World) (h : k < 0 ∨ 1 < k ∨ (k = 0 ∧ (m0 < 3 ∨ 12 < m0)) ∨ (k = 1 ∧ (m1 < 3 ∨ 12 < m1))) :
    Calls Try.prog 15 #[mo a0 a1 a2 a5 a6 n0 c0 n1 c1 n2 c2 n5 c5 n6 c6 m0 m1, .int .i64 k] w fun e w' => e = .returned (.string (str [])) ∧ Below w.heap.size w w' := by
  rcases h with h | h | ⟨rfl, h | h⟩ | ⟨rfl, h | h⟩
  all_goals
    go_enter Try.func15, Try.ntmps15
    go_wp2
    go_ret
    exact ⟨rfl, bel_one _ _⟩
end
/-- The document's New, whole. -/
theorem rnew_any (a0 a1 a2 a5 a6 : Option Addr) (n0 c0 n1 c1 n2 c2 n5 c5 c6 : Nat) (m0 m1 k : Int) (l : List Da) (w : World) (hl : l.length ≤ 9223372036854775807) (hd : Hid (SDa w.heap.size w a6 l)) :
    Calls Try.prog 15 #[mo a0 a1 a2 a5 a6 n0 c0 n1 c1 n2 c2 n5 c5 l.length c6 m0 m1, .int .i64 k] w fun e w' => e = .returned (.string (str (newL m0 m1 k l))) ∧ Below w.heap.size w w' := by
  have hno : szo m0 m1 k = 0 → newL m0 m1 k l = [] := fun h => by unfold newL; rw [h, List.take_zero]
  by_cases h0 : k = 0
  · subst h0
    by_cases h : 3 ≤ m0 ∧ m0 ≤ 12
    · have e : newL m0 m1 0 l = rr (pw m0) 0 l := by
        have hz : szo m0 m1 0 = pw m0 := by unfold szo; rw [if_pos rfl]
        unfold newL; rw [hz, new_rr _ _ _ (pw_le _)]
      rw [e]
      exact rnew_yes0 a0 a1 a2 a5 a6 n0 c0 n1 c1 n2 c2 n5 c5 c6 m0 m1 l w h.1 h.2 hl hd
    · rw [hno (by unfold szo pw; rw [if_pos rfl, if_neg h])]
      exact rnew_no _ _ _ _ _ _ _ _ _ _ _ _ _ _ _ _ _ _ w (by omega)
  · by_cases h1 : k = 1
    · subst h1
      by_cases h : 3 ≤ m1 ∧ m1 ≤ 12
      · have e : newL m0 m1 1 l = rr (pw m1) 1 l := by
          have hz : szo m0 m1 1 = pw m1 := by unfold szo; rw [if_neg (by decide), if_pos rfl]
          unfold newL; rw [hz, new_rr _ _ _ (pw_le _)]
        rw [e]
        exact rnew_yes1 a0 a1 a2 a5 a6 n0 c0 n1 c1 n2 c2 n5 c5 c6 m0 m1 l w h.1 h.2 hl hd
      · rw [hno (by unfold szo pw; rw [if_neg (by decide), if_pos rfl, if_neg h])]
        exact rnew_no _ _ _ _ _ _ _ _ _ _ _ _ _ _ _ _ _ _ w (by omega)
    · rw [hno (by unfold szo; rw [if_neg h0, if_neg h1])]
      exact rnew_no _ _ _ _ _ _ _ _ _ _ _ _ _ _ _ _ _ _ w (by omega)
end Go.Proofs.Ytcjojphajjoheaa

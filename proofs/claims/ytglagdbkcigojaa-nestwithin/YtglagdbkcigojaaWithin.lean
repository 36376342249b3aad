/-
  The statement NestWithin, walked.
-/
import Derived.Test.YtglagdbkcigojaaLists
namespace Go.Proofs.Ytglagdbkcigojaa
open Go.RowKit

theorem two3 {f : Nat → Int} {n : Nat} (hw : (run f n).wrong = false) (he : (run f n).ended = true) {j k : Nat} (hjk : j < k) (hk : k < (run f n).sp.length) :
    ((spAt (run f n).sp k).b < (spAt (run f n).sp j).b ∧ (spAt (run f n).sp j).d < (spAt (run f n).sp k).d) ∨ ((spAt (run f n).sp j).b < (spAt (run f n).sp k).b ∧ (spAt (run f n).sp k).d < (spAt (run f n).sp j).d) ∨
      ((spAt (run f n).sp j).b < (spAt (run f n).sp k).b ∧ (spAt (run f n).sp j).d < (spAt (run f n).sp k).b ∧ (spAt (run f n).sp k).b < (spAt (run f n).sp k).d) := by
  obtain ⟨m, rfl, hw', he', hop, hf, hwf, hsp, _⟩ := fin_run hw he
  have hcl : ∀ k, k < (run f m).sp.length → (spAt (run f m).sp k).d ≠ -1 := by
    intro k hk hd
    have := (hwf.mem k).2 ⟨hk, hd⟩
    rw [hop] at this; cases this
  rw [hsp] at hk ⊢
  simp at hk
  rcases Nat.lt_or_ge k (run f m).sp.length with hl | hl
  · rw [spAt_lt _ _ hl, spAt_lt _ _ (by omega)]
    have hi := hwf.inc j k hjk hl
    rcases hwf.nest j k hjk hl (hcl j (by omega)) with a | ⟨_, a⟩
    · refine .inr (.inr ⟨hi, a, ?_⟩)
      rcases hwf.fin k hl with e | ⟨d, e, h, _⟩
      · exact absurd e (hcl k hl)
      · omega
    · exact .inr (.inl ⟨hi, a⟩)
  · obtain rfl : k = (run f m).sp.length := by omega
    rw [spAt_new, spAt_lt _ _ hjk]
    obtain ⟨b, hb, _, _⟩ := hwf.beg j hjk
    rcases hwf.fin j hjk with e | ⟨d, e, _, hd, _⟩
    · exact absurd e (hcl j hjk)
    · refine .inl ⟨?_, ?_⟩
      · rw [hb]; show (-1 : Int) < b; omega
      · rw [e]; show (d : Int) < m; omega
theorem row_cells {w : World} {A : Nat} {x y z : Value} {t : TypeId} (h : w.heap[A]? = some (.cells #[x, y, z] t (0, 0))) : w.cell? ⟨A, 0, none⟩ = some x ∧ w.cell? ⟨A, 1, none⟩ = some y ∧ w.cell? ⟨A, 2, none⟩ = some z := by
  refine ⟨?_, ?_, ?_⟩
  · rw [cell_of_row w A 0 _ t (0, 0) h]; rfl
  · rw [cell_of_row w A 1 _ t (0, 0) h]; rfl
  · rw [cell_of_row w A 2 _ t (0, 0) h]; rfl
set_option maxRecDepth 100000 in
set_option maxHeartbeats 16000000 in
theorem within_walk (a : Option Addr) (n c : Nat) (fo fn fm : Nat → Int) (w : World) (hL : Lst w.heap.size w a n fo fn fm) (hnc : n ≤ c) (hna : a = none → n = 0 ∧ c = 0) :
    Calls Try.prog 5 #[.slice a n c] w fun e w' => e = .returned (.bool true) ∧ Below w.heap.size w w' := by
  have EX := hide (examples_any w)
  have HL := hide hL
  clear hL
  go_enter Try.func5, Try.ntmps5
  go_wp2_with fail
  refine EX.out.mono ?_
  rintro e w1 ⟨rfl, hb1⟩
  clear EX
  go_upto_region 2 with fail
  go_cut [0] from 12 to 16 (fun s0 wx => ∃ m : Nat, s0 = .slice a m c ∧ m ≤ n ∧ m ≤ 200 ∧ wx = w1)
  case first =>
    cases a with
    | none =>
      obtain ⟨rfl, rfl⟩ := hna rfl
      go_wp2_with fail
      go_meet
      case rel => exact ⟨0, rfl, Nat.le_refl _, by omega, rfl⟩
    | some ad =>
      by_cases h2 : n ≤ 200
      · go_wp2_with fail
        go_meet
        case rel => exact ⟨n, rfl, Nat.le_refl _, h2, rfl⟩
      · go_wp2_with fail
        go_meet
        case rel => exact ⟨200, rfl, by omega, Nat.le_refl _, rfl⟩
  case rest =>
    obtain ⟨m, rfl, hmn, hm2, rfl⟩ := hcut
    have SP := hide (spans_any a m c w.heap.size fo wc ((HL.out.less hmn).below hb1 (Nat.le_refl _)).ops hb1.size (by omega))
    clear HL
    by_cases he : er fo m = 0
    · rw [he] at SP
      have HE := er_ok he
      obtain ⟨sp, hsp⟩ : ∃ sp, sp = (run fo m).sp := ⟨_, rfl⟩
      have hlen : sp.length ≤ 200 := by have := (run_len fo m).1; rw [hsp]; omega
      have ONE : Hid (∀ k, k < sp.length → _) := hide (fun k hk => one_span HE.1 HE.2.1 (by rw [← hsp]; exact hk))
      have TWO : Hid (∀ k, k < sp.length → ∀ j, j < k → _) := hide (fun k hk j hj => two3 HE.1 HE.2.1 hj (by rw [← hsp]; exact hk))
      rw [← hsp] at SP ONE TWO
      clear he HE hsp
      go_wp2_with fail
      refine SP.out.mono ?_
      rintro e w2 ⟨v, rfl, ho, _, hb2⟩
      have OW := hide (ho (by simp))
      obtain ⟨av, cv, rfl⟩ := own_slice OW.out
      have b2 := hb1.trans (hb2.mono hb1.size)
      clear SP ho hb2
      go_wp2_with fail
      go_loopw [6] (fun i wr => ∃ k : Nat, k ≤ sp.length ∧ i = .int .i64 k ∧ Hid (wr.ownsRow wc.heap.size 45 3 (.slice av sp.length cv) sp.length (flat sp)) ∧ Below w.heap.size w wr) (fun i _ => sp.length - (intOf i).toNat)
      case atStart => exact ⟨0, by omega, rfl, OW, b2⟩
      case round =>
        obtain ⟨W0, rfl⟩ : ∃ W0, W0 = wr := ⟨_, rfl⟩
        obtain ⟨k, hk, rfl, how, hbk⟩ := hrel
        by_cases hlt : k < sp.length
        · obtain ⟨g, rfl, _, _, _⟩ := own_some how.out (by omega)
          have F := flat_at sp k hlt
          have p1 := (how.out.cellAt (k * 3) (by omega)).trans F.1
          have p2 := (how.out.cellAt (k * 3 + 1) (by omega)).trans F.2.1
          have p3 := (how.out.cellAt (k * 3 + 2) (by omega)).trans F.2.2
          have O := ONE.out k hlt
          have HT := hide (TWO.out k hlt)
          generalize (spAt sp k).b = xb at p1 O HT
          generalize (spAt sp k).e = xe at p2 O
          generalize (spAt sp k).d = xd at p3 O HT
          have OA := hide (how.out.alloc (.cells #[.int .i64 xb, .int .i64 xe, .int .i64 xd] 45))
          have HA := hide (heap_alloc_new W0 (.cells #[.int .i64 xb, .int .i64 xe, .int .i64 xd] 45))
          have bA := hbk.alloc hbk.size (.cells #[.int .i64 xb, .int .i64 xe, .int .i64 xd] 45)
          clear F OW
          obtain ⟨o1, o2⟩ := O
          have o1' : xe < 0 ∨ (0 ≤ xe ∧ xb < xe ∧ xe < xd) := by omega
          clear o1
          by_cases hlast : k + 1 = sp.length
          · obtain ⟨o3, o4⟩ := o2 hlast
            clear o2
            subst o3 o4
            rcases o1' with o1 | ⟨o0, o1, o5⟩
            all_goals
              go_wp2_with fail
              go_loopw [8] (fun i8 wi => ∃ j : Nat, j ≤ k ∧ i8 = .int .i64 j ∧ Hid (wi.ownsRow wc.heap.size 45 3 (.slice (some ⟨g, 0, none⟩) sp.length cv) sp.length (flat sp)) ∧ Hid (wi.heap[W0.heap.size]? = some (.cells #[.int .i64 (-1), .int .i64 xe, .int .i64 ((m : Int) - 1)] 45 (0, 0))) ∧ Below w.heap.size w wi) (fun i8 _ => k - (intOf i8).toNat)
              case atStart => exact ⟨0, by omega, rfl, OA, HA, bA⟩
              case round =>
                obtain ⟨j, hj, rfl, howj, hAj, hbj⟩ := hrel
                by_cases hjk : j < k
                · have G := flat_at sp j (by omega)
                  have q1 := (howj.out.cellAt (j * 3) (by omega)).trans G.1
                  have q2 := (howj.out.cellAt (j * 3 + 1) (by omega)).trans G.2.1
                  have q3 := (howj.out.cellAt (j * 3 + 2) (by omega)).trans G.2.2
                  have T := HT.out j hjk
                  generalize (spAt sp j).b = yb at q1 T
                  generalize (spAt sp j).e = ye at q2
                  generalize (spAt sp j).d = yd at q3 T
                  have hAl := lt_of_block hAj.out
                  have cA := row_cells (((bel_one wr (.cells #[.int .i64 yb, .int .i64 ye, .int .i64 yd] 45)).block W0.heap.size hAl).trans hAj.out)
                  have OB := hide (howj.out.alloc (.cells #[.int .i64 yb, .int .i64 ye, .int .i64 yd] 45))
                  have HB := hide (((bel_one wr (.cells #[.int .i64 yb, .int .i64 ye, .int .i64 yd] 45)).block W0.heap.size hAl).trans hAj.out)
                  have bB := hbj.alloc hbj.size (.cells #[.int .i64 yb, .int .i64 ye, .int .i64 yd] 45)
                  have cA0 := cA.1
                  have cA2 := cA.2.2
                  clear G cA howj hAj hbj OA HA bA
                  rcases T with ⟨t1, t2⟩ | ⟨t1, t2⟩ | ⟨t1, t2, t3⟩
                  all_goals
                    go_wp2_with fail
                    go_roundw
                    case rel => exact ⟨j + 1, by omega, by go_num, OB, HB, bB⟩
                    case measure => simp [intOf]; omega
                · obtain rfl : j = k := by omega
                  clear OA HA bA
                  go_wp2_with fail
                  go_roundw
                  case rel => exact ⟨j + 1, by omega, by go_num, howj, hbj⟩
                  case measure => simp [intOf]; omega
          · clear o2
            rcases o1' with o1 | ⟨o0, o1, o5⟩
            all_goals
              go_wp2_with fail
              go_loopw [8] (fun i8 wi => ∃ j : Nat, j ≤ k ∧ i8 = .int .i64 j ∧ Hid (wi.ownsRow wc.heap.size 45 3 (.slice (some ⟨g, 0, none⟩) sp.length cv) sp.length (flat sp)) ∧ Hid (wi.heap[W0.heap.size]? = some (.cells #[.int .i64 xb, .int .i64 xe, .int .i64 xd] 45 (0, 0))) ∧ Below w.heap.size w wi) (fun i8 _ => k - (intOf i8).toNat)
              case atStart => exact ⟨0, by omega, rfl, OA, HA, bA⟩
              case round =>
                obtain ⟨j, hj, rfl, howj, hAj, hbj⟩ := hrel
                by_cases hjk : j < k
                · have G := flat_at sp j (by omega)
                  have q1 := (howj.out.cellAt (j * 3) (by omega)).trans G.1
                  have q2 := (howj.out.cellAt (j * 3 + 1) (by omega)).trans G.2.1
                  have q3 := (howj.out.cellAt (j * 3 + 2) (by omega)).trans G.2.2
                  have T := HT.out j hjk
                  generalize (spAt sp j).b = yb at q1 T
                  generalize (spAt sp j).e = ye at q2
                  generalize (spAt sp j).d = yd at q3 T
                  have hAl := lt_of_block hAj.out
                  have cA := row_cells (((bel_one wr (.cells #[.int .i64 yb, .int .i64 ye, .int .i64 yd] 45)).block W0.heap.size hAl).trans hAj.out)
                  have OB := hide (howj.out.alloc (.cells #[.int .i64 yb, .int .i64 ye, .int .i64 yd] 45))
                  have HB := hide (((bel_one wr (.cells #[.int .i64 yb, .int .i64 ye, .int .i64 yd] 45)).block W0.heap.size hAl).trans hAj.out)
                  have bB := hbj.alloc hbj.size (.cells #[.int .i64 yb, .int .i64 ye, .int .i64 yd] 45)
                  have cA0 := cA.1
                  have cA2 := cA.2.2
                  clear G cA howj hAj hbj OA HA bA
                  rcases T with ⟨t1, t2⟩ | ⟨t1, t2⟩ | ⟨t1, t2, t3⟩
                  all_goals
                    go_wp2_with fail
                    go_roundw
                    case rel => exact ⟨j + 1, by omega, by go_num, OB, HB, bB⟩
                    case measure => simp [intOf]; omega
                · obtain rfl : j = k := by omega
                  clear OA HA bA
                  go_wp2_with fail
                  go_roundw
                  case rel => exact ⟨j + 1, by omega, by go_num, howj, hbj⟩
                  case measure => simp [intOf]; omega
        · obtain rfl : k = sp.length := by omega
          clear OW
          go_wp2_with fail
          go_ret
          exact ⟨rfl, hbk⟩
    · obtain ⟨q, hq⟩ : ∃ q, er fo m = q := ⟨_, rfl⟩
      rw [hq] at SP he
      have HE := hide he
      clear hq
      go_wp2_with fail
      refine SP.out.mono ?_
      rintro e w2 ⟨v, rfl, _, hv, hb2⟩
      obtain rfl := hv HE.out
      have b2 := hb1.trans (hb2.mono hb1.size)
      clear SP hb2
      go_wp2_with fail
      go_ret
      exact ⟨rfl, b2⟩
end Go.Proofs.Ytglagdbkcigojaa

/-
  The document's Spans: the spans of the plain run, or the error.
-/
import Derived.Test.YtglagdbkcigojaaRef
namespace Go.Proofs.Ytglagdbkcigojaa
open Go.RowKit

theorem er_wrong {f : Nat → Int} {n k : Nat} (hk : k < n) (h : (stp f k (run f k)).wrong = true) : er f n = 3 := er_3 (.inl (wrong_on (i := k + 1) h hk))
set_option maxRecDepth 100000 in
set_option maxHeartbeats 16000000 in
theorem ref_spans (a : Option Addr) (n c n₀ : Nat) (f : Nat → Int) (w : World) (hO : Ops n₀ w a n f) (hn₀ : n₀ ≤ w.heap.size) (hn : n ≤ 1000) :
    Calls Try.prog 11 #[.slice a n c] w fun e w' => ∃ v, e = .returned (.tuple #[v, .int .i64 (er f n)]) ∧ (er f n = 0 → w'.ownsRow w.heap.size 51 3 v (run f n).sp.length (flat (run f n).sp)) ∧ (er f n ≠ 0 → v = .slice none 0 0) ∧ Below w.heap.size w w' := by
  have HO := hide hO
  have HN := hide hn₀
  obtain ⟨i3, hi3, hz30, hz31, hz32⟩ := info_parts Try.info3
  obtain ⟨i51, hi51, hprod⟩ := Option.map_eq_some_iff.1 Try.parts51
  simp only [Prod.mk.injEq] at hprod
  obtain ⟨hz510, hz511, hz512⟩ := hprod
  clear hO hn₀
  go_enter Try.func11, Try.ntmps11
  go_wp2_with fail
  go_loopw [4, 5, 6, 7] (fun vs vo mv i wr => ∃ (k : Nat), k ≤ n ∧ i = .int .i64 k ∧ mv = .int .i64 ((run f k).deep : Nat) ∧ Hid (wr.ownsRow w.heap.size 51 3 vs (run f k).sp.length (flat (run f k).sp)) ∧ Hid (wr.ownsRow w.heap.size 3 1 vo (run f k).op.length (ints (run f k).op.reverse)) ∧ Hid ((run f k).wrong = false ∧ (run f k).ended = false) ∧ Below w.heap.size w wr) (fun _ _ _ i _ => n - (intOf i).toNat)
  case atStart => exact ⟨0, by omega, rfl, rfl, hide (World.ownsRow_nil _ _ _ _), hide (World.ownsRow_nil _ _ _ _), hide ⟨rfl, rfl⟩, Below.refl _ _⟩
  case round =>
    obtain ⟨k, hk, rfl, rfl, how, hoo, hwe, hbk⟩ := hrel
    by_cases hlt : k < n
    · obtain ⟨b, off, rfl, hbl, hc⟩ := (HO.out.below hbk HN.out) k hlt
      have OK := hide (HO.out.below hbk HN.out)
      have hbs := hbk.size
      obtain ⟨hw, he⟩ := id hwe.out
      have WFK := hide (wf_run f k hw he)
      have hns := (run_len f k).1
      have hno := (run_len f k).2.1
      have hnd := (run_len f k).2.2
      have E1 : Hid (run f (k + 1) = stp f k (run f k)) := hide rfl
      obtain ⟨as1, cs1, hvs⟩ := own_slice how.out
      obtain ⟨ao, co, hvo⟩ := own_slice hoo.out
      subst hvs hvo
      have WY := way f k (run f k)
      cases WY with
      | stop h0 => rcases h0 with h0 | h0 <;> simp_all
      | opens _ _ h1 =>
        have ST := hide (stp_open hw he h1)
        have OPN := hide (opens_is (f k) true h1 wr)
        have EW : Hid ((run f (k + 1)).wrong = false ∧ (run f (k + 1)).ended = false) := hide (by rw [E1.out, ST.out]; exact ⟨hw, he⟩)
        generalize run f k = s at *
        have hownO := hoo.out
        have RB := row_block hoo.out
        clear h1 hw he HO OK
        go_wp2_with fail
        refine OPN.out.mono ?_
        rintro e w1 ⟨rfl, rfl⟩
        go_wp2_with (at_builtin; refine wpList_append_own _ rfl (.tmp 22) (.tmp 25) 32 rfl w.heap.size 3 i3 (.int .i64 0) 1 8 Try.underlying32 hi3 hz30 hz31 hz32 rfl (by decide) _ _ _ rfl (hownO.alloc _) ⟨w1.heap.size, 0, none⟩ 1 1 [.int .i64 s.sp.length] rfl rfl (at_one _ _ _) (fun x hx => by simp at hx; subst hx; rfl) (by unfold maxLen; omega) (by omega) (by simp; omega) ?_)
        intro v1 w2 own1 grow1 _
        obtain ⟨ao1, co1, rfl⟩ := own_slice own1
        have OO1 := hide own1
        have hownS := (how.out.alloc (.cells #[.int .i64 s.sp.length] 3)).kept grow1 (own_ne how.out hoo.out (by decide))
        have b1 := (hbk.alloc hbs (.cells #[.int .i64 s.sp.length] 3)).grown grow1 (by simp; omega) RB
        have RS := row_block how.out
        have hs2 := b1.size
        clear own1 grow1 hownO RB OPN hc
        go_wp2_with (at_builtin; refine wpList_append_own _ rfl (.tmp 27) (.tmp 30) 28 rfl w.heap.size 51 i51 (.agg #[.int .i64 0, .int .i64 0, .int .i64 0]) 3 24 Try.underlying28 hi51 hz510 hz511 hz512 rfl (by decide) _ _ _ rfl (hownS.alloc _) ⟨w2.heap.size, 0, none⟩ 1 1 [.int .i64 k, .int .i64 (-1), .int .i64 (-1)] rfl rfl (at_cells [.int .i64 k, .int .i64 (-1), .int .i64 (-1)] _ _) (fun x hx => by simp at hx; rcases hx with rfl | rfl | rfl <;> rfl) (by unfold maxLen; omega) (by omega) (by simp; omega) ?_)
        intro v2 w3 own2 grow2 _
        obtain ⟨as2, cs2, rfl⟩ := own_slice own2
        have b2 := (b1.alloc hs2 (.cells #[.int .i64 k, .int .i64 (-1), .int .i64 (-1)] 51)).grown grow2 (by simp; omega) RS
        have OO2 := hide ((OO1.out.alloc (.cells #[.int .i64 k, .int .i64 (-1), .int .i64 (-1)] 51)).kept grow2 (own_ne OO1.out hownS (by decide)))
        have OS2 := hide own2
        clear own2 grow2 hownS how hoo OO1 RS
        by_cases hmx : s.op.length + 1 ≤ s.deep
        · go_wp2_with fail
          go_roundw
          case rel =>
            refine ⟨k + 1, by omega, by go_num, ?_, ?_, ?_, EW, b2⟩
            · rw [E1.out, ST.out]; show Value.int .i64 _ = .int .i64 ((max s.deep (s.op.length + 1) : Nat) : Int); rw [Nat.max_eq_left hmx]
            · rw [E1.out, ST.out]
              show Hid (World.ownsRow _ _ _ _ _ (s.sp ++ [_]).length (flat (s.sp ++ [_])))
              rw [flat_add, List.length_append]; exact OS2
            · rw [E1.out, ST.out]
              show Hid (World.ownsRow _ _ _ _ _ (s.sp.length :: s.op).length (ints (s.sp.length :: s.op).reverse))
              rw [ints_add]; exact OO2
          case measure => simp [intOf]; omega
        · go_wp2_with fail
          go_roundw
          case rel =>
            refine ⟨k + 1, by omega, by go_num, ?_, ?_, ?_, EW, b2⟩
            · rw [E1.out, ST.out]; show Value.int .i64 _ = .int .i64 ((max s.deep (s.op.length + 1) : Nat) : Int); rw [Nat.max_eq_right (by omega)]; simp
            · rw [E1.out, ST.out]
              show Hid (World.ownsRow _ _ _ _ _ (s.sp ++ [_]).length (flat (s.sp ++ [_])))
              rw [flat_add, List.length_append]; exact OS2
            · rw [E1.out, ST.out]
              show Hid (World.ownsRow _ _ _ _ _ (s.sp.length :: s.op).length (ints (s.sp.length :: s.op).reverse))
              rw [ints_add]; exact OO2
          case measure => simp [intOf]; omega
      | else0 _ _ h1 ho =>
        have ER := hide (er_wrong (n := n) hlt (by rw [stp_else0 hw he h1 ho]))
        have hol : (run f k).op.length = 0 := by rw [ho]; rfl
        have OPN := hide (opens_is (f k) false (by rw [h1]; rfl) wr)
        rw [h1] at hc OPN
        generalize run f k = s at *
        clear h1 ho hw he HO OK
        go_wp2_with fail
        refine OPN.out.mono ?_
        rintro e w1 ⟨rfl, rfl⟩
        go_wp2_with fail
        go_ret2
        rw [ER.out]
        exact ⟨_, rfl, fun h => by simp at h, fun _ => rfl, hbk⟩
      | elseN j r _ _ h1 ho hl =>
        have ER := hide (er_wrong (n := n) hlt (by rw [stp_elseN hw he h1 ho hl]))
        have hj := (((WFK.out).mem j).1 (by rw [ho]; simp)).1
        obtain ⟨m, hm, hmk, _⟩ := WFK.out.beg j hj
        have hol : (run f k).op.length = r.length + 1 := by rw [ho]; rfl
        have HOL := hide hol
        have HOP := hide ho
        obtain ⟨g0, rfl, _, _, _⟩ := own_some hoo.out (by omega)
        obtain ⟨g1, rfl, _, hg1, _⟩ := own_some how.out (by omega)
        have hq : (ints (run f k).op.reverse)[r.length]? = some (.int .i64 j) := by rw [ho]; simp [ints]
        have q1 := (hoo.out.cellAt r.length (by omega)).trans hq
        have F := flat_at (run f k).sp j hj
        have q2 := (how.out.cellAt (j * 3) (by omega)).trans F.1
        have q3 := (how.out.cellAt (j * 3 + 1) (by omega)).trans F.2.1
        have q4 := (how.out.cellAt (j * 3 + 2) (by omega)).trans F.2.2
        have y3 := how.out.frozenAt (j * 3 + 1)
        have y4 := how.out.frozenAt (j * 3 + 2)
        rw [hm] at q2
        have hrl : r.length ≤ 1000 := by omega
        obtain ⟨b2, off2, e2, _, hc2⟩ := OK.out m (by omega)
        cases e2
        have hlk : lacks f (spAt (run f k).sp j) = (f m == 4 && (spAt (run f k).sp j).e == -1) := by unfold lacks; rw [hm]; rfl
        have EL := WFK.out.els j hj
        have OPN := hide (opens_is (f k) false (by rw [h1]; rfl) wr)
        rw [h1] at hc OPN
        have hcase : f m ≠ 4 ∨ (f m = 4 ∧ 0 ≤ (spAt (run f k).sp j).e) := by
          by_cases h4 : f m = 4
          · refine .inr ⟨h4, ?_⟩
            rw [hlk, h4] at hl
            have : (spAt (run f k).sp j).e ≠ -1 := by simpa using hl
            rcases EL with e | ⟨x, e, _⟩
            · exact absurd e this
            · omega
          · exact .inl h4
        clear ho hl hw he F hq hlk EL HO OK hm
        generalize run f k = s at *
        clear h1
        rcases hcase with h4 | ⟨h4, h5⟩
        · go_wp2_with fail
          refine OPN.out.mono ?_
          rintro e w1 ⟨rfl, rfl⟩
          go_wp2_with fail
          go_ret2
          rw [ER.out]
          exact ⟨_, rfl, fun h => by simp at h, fun _ => rfl, hbk⟩
        · rw [h4] at hc2
          clear h4
          go_wp2_with fail
          refine OPN.out.mono ?_
          rintro e w1 ⟨rfl, rfl⟩
          go_wp2_with fail
          go_ret2
          rw [ER.out]
          exact ⟨_, rfl, fun h => by simp at h, fun _ => rfl, hbk⟩
      | elseY j r _ _ h1 ho hl =>
        have ST := hide (stp_elseY hw he h1 ho hl)
        have EW : Hid ((run f (k + 1)).wrong = false ∧ (run f (k + 1)).ended = false) := hide (by rw [E1.out, ST.out]; exact ⟨hw, he⟩)
        have hj := (((WFK.out).mem j).1 (by rw [ho]; simp)).1
        obtain ⟨m, hm, hmk, _⟩ := WFK.out.beg j hj
        have hol : (run f k).op.length = r.length + 1 := by rw [ho]; rfl
        have HOL := hide hol
        have HOP := hide ho
        obtain ⟨g0, rfl, _, _, _⟩ := own_some hoo.out (by omega)
        obtain ⟨g1, rfl, _, hg1, _⟩ := own_some how.out (by omega)
        have hq : (ints (run f k).op.reverse)[r.length]? = some (.int .i64 j) := by rw [ho]; simp [ints]
        have q1 := (hoo.out.cellAt r.length (by omega)).trans hq
        have F := flat_at (run f k).sp j hj
        have q2 := (how.out.cellAt (j * 3) (by omega)).trans F.1
        have q3 := (how.out.cellAt (j * 3 + 1) (by omega)).trans F.2.1
        have q4 := (how.out.cellAt (j * 3 + 2) (by omega)).trans F.2.2
        have y3 := how.out.frozenAt (j * 3 + 1)
        have y4 := how.out.frozenAt (j * 3 + 2)
        rw [hm] at q2
        have hrl : r.length ≤ 1000 := by omega
        obtain ⟨b2, off2, e2, _, hc2⟩ := OK.out m (by omega)
        cases e2
        have hlk : lacks f (spAt (run f k).sp j) = (f m == 4 && (spAt (run f k).sp j).e == -1) := by unfold lacks; rw [hm]; rfl
        have OPN := hide (opens_is (f k) false (by rw [h1]; rfl) wr)
        rw [h1] at hc OPN
        have h45 : f m = 4 ∧ (spAt (run f k).sp j).e = -1 := by rw [hlk] at hl; simpa using hl
        rw [h45.1] at hc2
        rw [h45.2] at q3
        have OS1 := hide (World.ownsRow.stored how.out (j * 3 + 1) (.int .i64 k)).1
        rw [flat_set1 _ _ _ hj] at OS1
        have OO1 := hide (ownsRow_setCell_other (a := ⟨g1, j * 3 + 1, none⟩) hoo.out (by
          rcases own_ne hoo.out how.out (by decide) with e | e
          · rw [e]; simp
          · exact e) (.int .i64 k))
        have b1 := hbk.setCell (p := ⟨g1, j * 3 + 1, none⟩) (by show _ ≤ g1; omega) (.int .i64 k)
        clear ho hl hw he F hq hlk h45 HO OK hm h1
        generalize run f k = s at *
        go_wp2_with fail
        refine OPN.out.mono ?_
        rintro e w1 ⟨rfl, rfl⟩
        go_wp2_with fail
        go_roundw
        case rel => exact ⟨k + 1, by omega, by go_num, by rw [E1.out, ST.out], by rw [E1.out, ST.out]; show Hid (World.ownsRow _ _ _ _ _ (s.sp.set j _).length _); rw [List.length_set]; exact OS1, by rw [E1.out, ST.out, ← HOL.out]; exact OO1, EW, b1⟩
        case measure => simp [intOf]; omega
      | end0 _ _ h1 ho =>
        have ST := hide (stp_end0 hw he h1 ho)
        have hol : (run f k).op.length = 0 := by rw [ho]; rfl
        have OPN := hide (opens_is (f k) false (by rw [h1]; rfl) wr)
        rw [h1] at hc OPN
        have hnk : (k : Int) ≤ (n : Int) - 1 := by omega
        by_cases hkn : k + 1 = n
        · subst hkn
          by_cases hd8 : 8 < (run f k).deep
          · have ER : Hid (er f (k + 1) = 1) := hide (er_1 (by rw [E1.out, ST.out]; exact hw) (by rw [E1.out, ST.out]) (by rw [E1.out, ST.out]; exact hd8))
            clear h1 ho hw he HO OK ST E1
            generalize run f k = s at *
            go_wp2_with fail
            refine OPN.out.mono ?_
            rintro e w1 ⟨rfl, rfl⟩
            go_wp2_with fail
            go_ret2
            rw [ER.out]
            exact ⟨_, rfl, fun h => by simp at h, fun _ => rfl, hbk⟩
          · have ER : Hid (er f (k + 1) = 0) := hide (er_0 (by rw [E1.out, ST.out]; exact hw) (by rw [E1.out, ST.out]) (by rw [E1.out, ST.out]; show (run f k).deep ≤ 8; omega))
            clear h1 ho hw he HO OK
            generalize run f k = s at *
            have hownS := how.out
            have RS := row_block how.out
            go_wp2_with fail
            refine OPN.out.mono ?_
            rintro e w1 ⟨rfl, rfl⟩
            go_wp2_with (at_builtin; refine wpList_append_own _ rfl (.tmp 116) (.tmp 119) 28 rfl w.heap.size 51 i51 (.agg #[.int .i64 0, .int .i64 0, .int .i64 0]) 3 24 Try.underlying28 hi51 hz510 hz511 hz512 rfl (by decide) _ _ _ rfl (hownS.alloc _) ⟨w1.heap.size, 0, none⟩ 1 1 [.int .i64 (-1), .int .i64 (-1), .int .i64 k] rfl rfl (at_cells [.int .i64 (-1), .int .i64 (-1), .int .i64 k] _ _) (fun x hx => by simp at hx; rcases hx with rfl | rfl | rfl <;> rfl) (by unfold maxLen; omega) (by omega) (by simp; omega) ?_)
            intro v2 w3 own2 grow2 _
            have b2 := (hbk.alloc hbs (.cells #[.int .i64 (-1), .int .i64 (-1), .int .i64 k] 51)).grown grow2 (by simp; omega) RS
            have OS2 := hide own2
            clear own2 grow2 hownS how hoo RS
            go_wp2_with fail
            go_ret2
            rw [ER.out]
            refine ⟨_, rfl, fun _ => ?_, fun h => absurd rfl h, b2⟩
            rw [E1.out, ST.out]
            show World.ownsRow _ _ _ _ _ (s.sp ++ [_]).length (flat (s.sp ++ [_]))
            rw [flat_add, List.length_append]; exact OS2.out
        · have ER := hide (er_3 (f := f) (n := n) (.inl (ended_on (i := k + 1) (by rw [E1.out, ST.out]) (by omega))))
          clear h1 ho hw he HO OK ST E1
          generalize run f k = s at *
          go_wp2_with fail
          refine OPN.out.mono ?_
          rintro e w1 ⟨rfl, rfl⟩
          go_wp2_with fail
          go_ret2
          rw [ER.out]
          exact ⟨_, rfl, fun h => by simp at h, fun _ => rfl, hbk⟩
      | endY j r _ _ h1 ho =>
        have ST := hide (stp_endY hw he h1 ho)
        have EW : Hid ((run f (k + 1)).wrong = false ∧ (run f (k + 1)).ended = false) := hide (by rw [E1.out, ST.out]; exact ⟨hw, he⟩)
        have hj := (((WFK.out).mem j).1 (by rw [ho]; simp)).1
        obtain ⟨m, hm, hmk, _⟩ := WFK.out.beg j hj
        have hol : (run f k).op.length = r.length + 1 := by rw [ho]; rfl
        have HOL := hide hol
        have HOP := hide ho
        obtain ⟨g0, rfl, _, _, _⟩ := own_some hoo.out (by omega)
        obtain ⟨g1, rfl, _, hg1, _⟩ := own_some how.out (by omega)
        have hq : (ints (run f k).op.reverse)[r.length]? = some (.int .i64 j) := by rw [ho]; simp [ints]
        have q1 := (hoo.out.cellAt r.length (by omega)).trans hq
        have F := flat_at (run f k).sp j hj
        have q2 := (how.out.cellAt (j * 3) (by omega)).trans F.1
        have q3 := (how.out.cellAt (j * 3 + 1) (by omega)).trans F.2.1
        have q4 := (how.out.cellAt (j * 3 + 2) (by omega)).trans F.2.2
        have y3 := how.out.frozenAt (j * 3 + 1)
        have y4 := how.out.frozenAt (j * 3 + 2)
        rw [hm] at q2
        have hrl : r.length ≤ 1000 := by omega
        have OPN := hide (opens_is (f k) false (by rw [h1]; rfl) wr)
        rw [h1] at hc OPN
        have OS1 := hide (World.ownsRow.stored how.out (j * 3 + 2) (.int .i64 k)).1
        rw [flat_set2 _ _ _ hj] at OS1
        have OO0 := own_take (ownsRow_setCell_other (a := ⟨g1, j * 3 + 2, none⟩) hoo.out (by
          rcases own_ne hoo.out how.out (by decide) with e | e
          · rw [e]; simp
          · exact e) (.int .i64 k)) r.length (by omega)
        rw [show (ints (run f k).op.reverse).take r.length = ints r.reverse by rw [ho, ints_add, List.take_left' (by simp [ints])]] at OO0
        have OO1 := hide OO0
        have b1 := hbk.setCell (p := ⟨g1, j * 3 + 2, none⟩) (by show _ ≤ g1; omega) (.int .i64 k)
        have hrc : r.length ≤ co := by omega
        clear ho hw he F hq HO OK hm h1 OO0
        generalize run f k = s at *
        go_wp2_with fail
        refine OPN.out.mono ?_
        rintro e w1 ⟨rfl, rfl⟩
        go_wp2_with fail
        go_roundw
        case rel => exact ⟨k + 1, by omega, by go_num, by rw [E1.out, ST.out], by rw [E1.out, ST.out]; show Hid (World.ownsRow _ _ _ _ _ (s.sp.set j _).length _); rw [List.length_set]; exact OS1, by rw [E1.out, ST.out]; exact OO1, EW, b1⟩
        case measure => simp [intOf]; omega
      | other _ _ h0 h1 h2 =>
        have ST := hide (stp_other hw he h0 h1 h2)
        have OPN := hide (opens_is (f k) false h0 wr)
        have EW : Hid ((run f (k + 1)).wrong = false ∧ (run f (k + 1)).ended = false) := hide (by rw [E1.out, ST.out]; exact ⟨hw, he⟩)
        generalize run f k = s at *
        clear h0 hw he HO OK
        go_wp2_with fail
        refine OPN.out.mono ?_
        rintro e w1 ⟨rfl, rfl⟩
        go_wp2_with fail
        go_roundw
        case rel => exact ⟨k + 1, by omega, by go_num, by rw [E1.out, ST.out], by rw [E1.out, ST.out]; exact how, by rw [E1.out, ST.out]; exact hoo, EW, hbk⟩
        case measure => simp [intOf]; omega
    · obtain rfl : k = n := by omega
      have ER := hide (er_3 (n := k) (.inr hwe.out.2))
      go_wp2_with fail
      go_ret2
      rw [ER.out]
      exact ⟨_, rfl, fun h => by simp at h, fun _ => rfl, hbk⟩
end Go.Proofs.Ytglagdbkcigojaa

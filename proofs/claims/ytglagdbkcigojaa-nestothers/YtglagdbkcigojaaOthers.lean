/-
  The statement NestOthers, walked.
-/
import Derived.Test.YtglagdbkcigojaaOthersA
namespace Go.Proofs.Ytglagdbkcigojaa
open Go.RowKit

set_option maxRecDepth 100000 in
set_option maxHeartbeats 16000000 in
theorem others_walk (a : Option Addr) (n c : Nat) (xo xn xm : Int) (fo fn fm : Nat → Int) (w : World) (hL : Lst w.heap.size w a n fo fn fm) (hnc : n ≤ c) (hna : a = none → n = 0 ∧ c = 0) :
    Calls Try.prog 8 #[.slice a n c, .agg #[.int .i64 xo, .int .i64 xn, .int .i64 xm]] w fun e w' => e = .returned (.bool true) ∧ Below w.heap.size w w' := by
  have hX := heap_alloc_new w (.cells #[.int .i64 xo, .int .i64 xn, .int .i64 xm] 47)
  have bX := bel_one w (.cells #[.int .i64 xo, .int .i64 xn, .int .i64 xm] 47)
  have EX := hide (examples_any (w.alloc (.cells #[.int .i64 xo, .int .i64 xn, .int .i64 xm] 47)))
  have HL := hide hL
  have HX := hide hX
  obtain ⟨i47, hi47, hprod⟩ := Option.map_eq_some_iff.1 Try.parts47
  simp only [Prod.mk.injEq] at hprod
  obtain ⟨hz0, hz1, hz2⟩ := hprod
  clear hL hX
  go_enter Try.func8, Try.ntmps8
  go_wp2_with fail
  refine EX.out.mono ?_
  rintro e w1 ⟨rfl, hb0⟩
  have hb1 := bX.trans (hb0.mono bX.size)
  have HX1 := hide ((hb0.block w.heap.size (lt_of_block HX.out)).trans HX.out)
  clear EX HX hb0 bX
  go_upto_region 2 with fail
  go_cut [0] from 15 to 19 (fun s0 wx => ∃ m : Nat, s0 = .slice a m c ∧ m ≤ n ∧ m ≤ 150 ∧ wx = w1)
  case first =>
    cases a with
    | none =>
      obtain ⟨rfl, rfl⟩ := hna rfl
      go_wp2_with fail
      go_meet
      case rel => exact ⟨0, rfl, Nat.le_refl _, by omega, rfl⟩
    | some ad =>
      by_cases h2 : n ≤ 150
      · go_wp2_with fail
        go_meet
        case rel => exact ⟨n, rfl, Nat.le_refl _, h2, rfl⟩
      · go_wp2_with fail
        go_meet
        case rel => exact ⟨150, rfl, by omega, Nat.le_refl _, rfl⟩
  case rest =>
    obtain ⟨m, rfl, hmn, hm2, rfl⟩ := hcut
    obtain ⟨W1, rfl⟩ : ∃ W1, W1 = wc := ⟨_, rfl⟩
    have n1 := hb1.size
    have cX := (row_cells3 HX1.out).1
    have fX := (row_free HX1.out) 0
    have PA := hide (part_any xo W1)
    go_wp2_with fail
    refine PA.out.mono ?_
    rintro e w2 ⟨rfl, rfl⟩
    go_upto_if 23 with fail
    go_cut [] from 20 to 24 (fun wx => ∃ x : Int, Hid (prt x = false) ∧ Hid (wx.heap[w.heap.size]? = some (.cells #[.int .i64 x, .int .i64 xn, .int .i64 xm] 47 (0, 0))) ∧ Below w.heap.size w wx)
    case first =>
      cases hp : prt xo with
      | true =>
        have HX2 := hide (row_set0 (u := .int .i64 1) HX1.out)
        have b2 := hb1.setCell (p := ⟨w.heap.size, 0, none⟩) (Nat.le_refl _) (.int .i64 1)
        clear PA
        go_wp2_with fail
        go_meet
        case rel => exact ⟨1, hide rfl, HX2, b2⟩
      | false =>
        have HP := hide hp
        clear PA
        go_wp2_with fail
        go_meet
        case rel => exact ⟨xo, HP, HX1, hb1⟩
    case rest =>
      obtain ⟨x, HP, HX2, b2⟩ := hcut
      obtain ⟨W2, rfl⟩ : ∃ W2, W2 = wc := ⟨_, rfl⟩
      have n2 := lt_of_block HX2.out
      have LL := hide ((HL.out.less hmn).below b2 (Nat.le_refl _))
      clear HX1 hb1 n1 cX fX PA
      go_upto_region 6 with fail
      go_cut [7] from 25 to 26 (fun s7 wx => ∃ (a7 : Option Addr) (c7 : Nat), s7 = .slice a7 m c7 ∧ Hid (wx.ownsRow (w.heap.size + 1) 47 3 (.slice a7 m c7) m (lcl fo fn fm m)) ∧ Hid (wx.heap[w.heap.size]? = some (.cells #[.int .i64 x, .int .i64 xn, .int .i64 xm] 47 (0, 0))) ∧ Below w.heap.size w wx)
      case first =>
        cases a with
        | none =>
          obtain ⟨rfl, rfl⟩ := hna rfl
          obtain rfl : m = 0 := by omega
          have hN0 : W2.ownsRow (w.heap.size + 1) 47 3 (.slice none 0 0) 0 [] := World.ownsRow_nil _ _ _ _
          go_wp2_with (at_builtin; refine wpList_append_own_none rfl (.const (.slice none 0 0)) (.tmp 25) 22 rfl (w.heap.size + 1) 47 i47 3 Try.underlying22 hi47 _ 0 [] rfl hN0 rfl ?_)
          go_meet
          case rel => exact ⟨none, 0, rfl, hide hN0, HX2, b2⟩
        | some ad =>
          have hnews : ∀ j u, (lcl fo fn fm m)[j]? = some u → W2.cell? (ad.add j) = some u := by
            intro j u hu
            obtain ⟨q, hq, _⟩ := lcl_cell hu
            obtain ⟨b, off, e, _⟩ := LL.out q hq
            cases e
            exact LL.out.news (Nat.le_refl _) j u hu
          have one4 := lcl_one (fo := fo) (fn := fn) (fm := fm) m
          have len4 := lcl_len (fo := fo) (fn := fn) (fm := fm) m
          have hN0 : W2.ownsRow (w.heap.size + 1) 47 3 (.slice none 0 0) 0 [] := World.ownsRow_nil _ _ _ _
          go_wp2_with (at_builtin; refine wpList_append_own _ rfl (.const (.slice none 0 0)) (.tmp 25) 22 rfl (w.heap.size + 1) 47 i47 (.agg #[.int .i64 0, .int .i64 0, .int .i64 0]) 3 24 Try.underlying22 hi47 hz0 hz1 hz2 rfl (by decide) _ _ _ rfl hN0 ad m c (lcl fo fn fm m) rfl len4 hnews one4 (by unfold maxLen; omega) (by omega) (by omega) ?_)
          intro v7 w7 own7 grow7 _
          obtain ⟨a7, c7, rfl⟩ := own_slice own7
          have B7 := below_of_grown (w := W2) (w' := w7) grow7
          have HX7 := hide ((B7.block w.heap.size n2).trans HX2.out)
          have b7 := b2.trans (B7.mono b2.size)
          have OW7 := hide own7
          clear own7 grow7 hnews one4 B7
          go_wp2_with fail
          go_meet
          case rel => exact ⟨a7, c7, rfl, OW7, HX7, b7⟩
      case rest =>
        obtain ⟨a7, c7, rfl, OW7, HX7, b7⟩ := hcut
        clear HX2 b2 LL n2
        go_wp2_with fail
        go_loopw [8] (fun i wr => ∃ k : Nat, k ≤ m ∧ i = .int .i64 k ∧ Hid (wr.ownsRow (w.heap.size + 1) 47 3 (.slice a7 m c7) m (lcl (mx fo fo x k) (mx fo fn xn k) (mx fo fm xm k) m)) ∧ Hid (wr.heap[w.heap.size]? = some (.cells #[.int .i64 x, .int .i64 xn, .int .i64 xm] 47 (0, 0))) ∧ Below w.heap.size w wr) (fun i _ => m - (intOf i).toNat)
        case atStart => exact ⟨0, by omega, rfl, by rw [mx_0, mx_0, mx_0]; exact OW7, HX7, b7⟩
        case round =>
          obtain ⟨k, hk, rfl, how, hxk, hbk⟩ := hrel
          clear OW7 HX7 b7
          by_cases hlt : k < m
          · obtain ⟨g, rfl, _, hg, _⟩ := own_some how.out (by omega)
            have F := lcl_at (fo := mx fo fo x k) (fn := mx fo fn xn k) (fm := mx fo fm xm k) m k hlt
            rw [mx_at, mx_at, mx_at] at F
            have q0 := (how.out.cellAt (k * 3) (by omega)).trans F.1
            have q1 := (how.out.cellAt (k * 3 + 1) (by omega)).trans F.2.1
            have q2 := (how.out.cellAt (k * 3 + 2) (by omega)).trans F.2.2
            have y0 := how.out.frozenAt (k * 3)
            have y1 := how.out.frozenAt (k * 3 + 1)
            have y2 := how.out.frozenAt (k * 3 + 2)
            have cX := row_cells3 hxk.out
            obtain ⟨x0, x1, x2⟩ := cX
            clear F
            cases hp : prt (fo k) with
            | true =>
              have PA := hide (part_is (fo k) true hp wr)
              have M0 := hide (mx_keep (g := fo) (x := x) hp)
              have M1 := hide (mx_keep (g := fn) (x := xn) hp)
              have M2 := hide (mx_keep (g := fm) (x := xm) hp)
              clear hp
              go_wp2_with fail
              refine PA.out.mono ?_
              rintro e w3 ⟨rfl, rfl⟩
              clear PA
              go_wp2_with fail
              go_roundw
              case rel => exact ⟨k + 1, by omega, by go_num, by rw [M0.out, M1.out, M2.out]; exact how, hxk, hbk⟩
              case measure => simp [intOf]; omega
            | false =>
              have PA := hide (part_is (fo k) false hp wr)
              have M0 := hide (mx_set (g := fo) (x := x) hp)
              have M1 := hide (mx_set (g := fn) (x := xn) hp)
              have M2 := hide (mx_set (g := fm) (x := xm) hp)
              have S1 := (how.out.stored (k * 3) (.int .i64 x)).1
              have S2 := (S1.stored (k * 3 + 1) (.int .i64 xn)).1
              have S3 := hide (S2.stored (k * 3 + 2) (.int .i64 xm)).1
              rw [lcl_set _ _ _ _ _ _ m k hlt] at S3
              have X3 : Hid (((((wr.setCell ⟨g, k * 3, none⟩ (.int .i64 x)).setCell ⟨g, k * 3 + 1, none⟩ (.int .i64 xn)).setCell ⟨g, k * 3 + 2, none⟩ (.int .i64 xm))).heap[w.heap.size]? = some (.cells #[.int .i64 x, .int .i64 xn, .int .i64 xm] 47 (0, 0))) := hide (by
                rw [Below.heap_setCell _ _ _ _ (by show w.heap.size ≠ g; omega), Below.heap_setCell _ _ _ _ (by show w.heap.size ≠ g; omega), Below.heap_setCell _ _ _ _ (by show w.heap.size ≠ g; omega)]
                exact hxk.out)
              have b3 := ((hbk.setCell (p := ⟨g, k * 3, none⟩) (by show _ ≤ g; omega) (.int .i64 x)).setCell (p := ⟨g, k * 3 + 1, none⟩) (by show _ ≤ g; omega) (.int .i64 xn)).setCell (p := ⟨g, k * 3 + 2, none⟩) (by show _ ≤ g; omega) (.int .i64 xm)
              clear hp S1 S2
              go_wp2_with fail
              refine PA.out.mono ?_
              rintro e w3 ⟨rfl, rfl⟩
              clear PA
              go_wp2_with fail
              go_roundw
              case rel => exact ⟨k + 1, by omega, by go_num, by rw [M0.out, M1.out, M2.out]; exact S3, X3, b3⟩
              case measure => simp [intOf]; omega
          · obtain rfl : k = m := by omega
            have O7 := hide (own_ops (f := oth fo x) how.out (fun j hj => by rw [(lcl_at k j hj).1, mx_oth hj]))
            have n7 := hbk.size
            have LK := hide ((HL.out.less hmn).below hbk (Nat.le_refl _)).ops
            obtain ⟨q, hq⟩ : ∃ q, er fo k = q := ⟨_, rfl⟩
            obtain ⟨sp, hsp⟩ : ∃ sp, sp = if q = 0 then (run fo k).sp else [] := ⟨_, rfl⟩
            have hlen : sp.length ≤ 150 := by
              have := (run_len fo k).1
              rw [hsp]; split
              · omega
              · simp
            have SA := hide (spans_sp a k c w.heap.size fo q sp hq hsp wr LK.out n7 (by omega))
            have SB := hide (fun (W : World) (hb : Below wr.heap.size wr W) => spans_sp a7 k c7 wr.heap.size (oth fo x) q sp (by rw [oth_er HP.out]; exact hq) (by rw [oth_run HP.out]; exact hsp) W (ops_on O7.out (Nat.le_refl _) hb) hb.size (by omega))
            clear hq hsp how hxk O7 LK
            go_wp2_with fail
            refine SA.out.mono ?_
            rintro e wA ⟨avA, cvA, rfl, ownA, hbA⟩
            have SB2 := hide (SB.out wA hbA)
            have bA := hbk.trans (hbA.mono n7)
            have OA := hide ownA
            clear SA SB ownA hbA
            go_wp2_with fail
            refine SB2.out.mono ?_
            rintro e wB ⟨avB, cvB, rfl, ownB, hbB⟩
            have bB := bA.trans (hbB.mono bA.size)
            have OB := hide ownB
            have OA2 := hide (own_below OA.out hbB)
            have nq : (q != q) = false := by simp
            clear SB2 ownB hbB OA
            go_wp2_with fail
            go_loopw [13] (fun i wr => ∃ j : Nat, j ≤ sp.length ∧ i = .int .i64 j ∧ Hid (wr.ownsRow 0 45 3 (.slice avA sp.length cvA) sp.length (flat sp)) ∧ Hid (wr.ownsRow 0 45 3 (.slice avB sp.length cvB) sp.length (flat sp)) ∧ Below w.heap.size w wr) (fun i _ => sp.length - (intOf i).toNat)
            case atStart => exact ⟨0, by omega, rfl, OA2, OB, bB⟩
            case round =>
              obtain ⟨j, hj, rfl, hA, hB, hbj⟩ := hrel
              clear OA2 OB bB
              by_cases hjl : j < sp.length
              · obtain ⟨g1, rfl, _, _, _⟩ := own_some hA.out (by omega)
                obtain ⟨g2, rfl, _, _, _⟩ := own_some hB.out (by omega)
                have F := flat_at sp j hjl
                have p1 := (hA.out.cellAt (j * 3) (by omega)).trans F.1
                have p2 := (hA.out.cellAt (j * 3 + 1) (by omega)).trans F.2.1
                have p3 := (hA.out.cellAt (j * 3 + 2) (by omega)).trans F.2.2
                have q1 := (hB.out.cellAt (j * 3) (by omega)).trans F.1
                have q2 := (hB.out.cellAt (j * 3 + 1) (by omega)).trans F.2.1
                have q3 := (hB.out.cellAt (j * 3 + 2) (by omega)).trans F.2.2
                generalize (spAt sp j).b = xb at p1 q1
                generalize (spAt sp j).e = xe at p2 q2
                generalize (spAt sp j).d = xd at p3 q3
                have hi : (j : Int) < (sp.length : Int) := by omega
                have hq2 : ∀ w, (Op.equalIn 10000 45 (.agg #[.int .i64 xb, .int .i64 xe, .int .i64 xd]) (.agg #[.int .i64 xb, .int .i64 xe, .int .i64 xd])).run Try.prog w = .ok true w := fun w => by rw [eql_sp]; simp
                clear F
                go_wp2_with fail
                go_region
                go_wp2_with fail
                go_roundw
                case rel => exact ⟨j + 1, by omega, by go_num, hA.out.drew, hB.out.drew, hbj.drew⟩
                case measure => simp [intOf]; omega
              · obtain rfl : j = sp.length := by omega
                go_wp2_with fail
                go_ret
                exact ⟨rfl, hbj⟩
end Go.Proofs.Ytglagdbkcigojaa

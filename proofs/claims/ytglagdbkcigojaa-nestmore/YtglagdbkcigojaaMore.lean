/-
  The statement NestMore, walked.
-/
import Derived.Test.YtglagdbkcigojaaCopy
import Derived.Deep.QuietTactic
import Derived.BigQuiet
namespace Go.Proofs.Ytglagdbkcigojaa
open Go.RowKit

theorem arL_len1 {f : Nat → Int} {p : Nat} : (arL f p (run f p)).length ≤ p + 1 := by
  have := lft_len f p (p + 1)
  rw [lft_hit f p p rfl] at this
  exact this
/-- the body's first bytes, and an End behind it -/
def fE (fo : Nat → Int) (m : Nat) : Nat → Int := fun j => if j < m then fo j else 11
theorem fE_end (fo : Nat → Int) (m : Nat) : fE fo m m = 11 := if_neg (by omega)
theorem fE_in {fo : Nat → Int} {m j : Nat} (h : j < m) : fE fo m j = fo j := if_pos h
def z3 (x : Int) : List Value := [.int .i64 x, .int .i64 0, .int .i64 0]
theorem one_at (fo fn fm : Nat → Int) (m j : Nat) (hj : j < m + 1) : (lcl fo fn fm m ++ z3 11)[j * 3]? = some (.int .i64 (fE fo m j)) := by
  rcases Nat.lt_or_ge j m with h | h
  · rw [List.getElem?_append_left (by rw [lcl_len]; omega), (lcl_at m j h).1, fE_in h]
  · obtain rfl : j = m := by omega
    rw [List.getElem?_append_right (by rw [lcl_len]; omega), lcl_len, fE_end]
    simp [z3]
theorem more_at (fo fn fm : Nat → Int) (m j : Nat) (hj : j < m + 2) : (z3 2 ++ (lcl fo fn fm m ++ z3 11))[j * 3]? = some (.int .i64 (ins0 (fE fo m) j)) := by
  cases j with
  | zero => rfl
  | succ j =>
    rw [List.getElem?_append_right (by simp [z3]; omega)]
    have e : (j + 1) * 3 - (z3 2).length = j * 3 := by simp [z3]; omega
    rw [e, one_at fo fn fm m j (by omega)]
    rfl
set_option maxRecDepth 100000 in
set_option maxHeartbeats 16000000 in
theorem more_walk (a : Option Addr) (n c : Nat) (fo fn fm : Nat → Int) (w : World) (hL : Lst w.heap.size w a n fo fn fm) (hnc : n ≤ c) (hna : a = none → n = 0 ∧ c = 0) :
    Calls Try.prog 7 #[.slice a n c] w fun e w' => e = .returned (.bool true) ∧ Below w.heap.size w w' := by
  have EX := hide (examples_any w)
  have HL := hide hL
  obtain ⟨i47, hi47, hprod⟩ := Option.map_eq_some_iff.1 Try.parts47
  simp only [Prod.mk.injEq] at hprod
  obtain ⟨hz0, hz1, hz2⟩ := hprod
  clear hL
  go_enter Try.func7, Try.ntmps7
  go_wp2_with fail
  refine EX.out.mono ?_
  rintro e w1 ⟨rfl, hb1⟩
  clear EX
  go_upto_region 2 with fail
  go_cut [0] from 15 to 19 (fun s0 wx => ∃ m : Nat, s0 = .slice a m c ∧ m ≤ n ∧ m ≤ 150 ∧ wx = w1)
  case first =>
    cases a with
    | none =>
      obtain ⟨rfl, rfl⟩ := hna rfl
      go_wp2_with fail
      go_meet
      case rel => exact ⟨0, rfl, Nat.le_refl _, by omega, rfl⟩
    | some ad =>
      by_cases h2 : n ≤ 150
      · go_wp2_with fail
        go_meet
        case rel => exact ⟨n, rfl, Nat.le_refl _, h2, rfl⟩
      · go_wp2_with fail
        go_meet
        case rel => exact ⟨150, rfl, by omega, Nat.le_refl _, rfl⟩
  case rest =>
    obtain ⟨m, rfl, hmn, hm2, rfl⟩ := hcut
    have n1 := hb1.size
    have LL := hide ((HL.out.less hmn).below hb1 (Nat.le_refl _))
    have L1 := hide (LL.out.ops.of (g := fE fo m) (Nat.le_refl _) (fun j hj => (fE_in hj).symm))
    have DE := hide (depth_any a m c w.heap.size (fE fo m) wc L1.out n1 (by omega))
    clear HL
    by_cases he : er (fE fo m) m = 0
    · rw [he] at DE
      obtain ⟨hw, hen, _⟩ := er_ok he
      have G := more_er hw hen (fE_end fo m)
      have MA := hide (fun k (hk : k + 1 < m) => more_arL hw hen hk)
      have h3 : Hid (er (fE fo m) (m + 1) = 3) := hide (er_3 (.inl (ended_on hen (by omega))))
      have hmp : 0 < m := by
        obtain ⟨x, hx, _⟩ := fin_run hw hen
        omega
      have h4 : Hid (er (fE fo m) (m - 1) = 3) := hide (er_3 (.inr (open_back hw (by omega))))
      obtain ⟨b, off, rfl, _⟩ := L1.out 0 hmp
      obtain ⟨mm, rfl⟩ : ∃ mm, m = mm + 1 := ⟨m - 1, by omega⟩
      rw [Nat.add_sub_cancel] at h4
      clear he hw hen hmp
      go_wp2_with fail
      refine DE.out.mono ?_
      rintro e w2 ⟨v, rfl, h0, _, hb2⟩
      have OW := hide (h0 (by simp))
      obtain ⟨av, cv, rfl⟩ := own_slice OW.out
      have b2 := hb1.trans (hb2.mono n1)
      have n2 := Nat.le_trans n1 hb2.size
      have L2 := hide (LL.out.below hb2 n1)
      clear DE h0
      have hN0 : ∀ W : World, W.ownsRow w2.heap.size 47 3 (.slice none 0 0) 0 [] := fun W => World.ownsRow_nil _ _ _ _
      go_wp2_with (at_builtin; refine wpList_append_own _ rfl (.tmp 28) (.tmp 30) 22 rfl w2.heap.size 47 i47 (.agg #[.int .i64 0, .int .i64 0, .int .i64 0]) 3 24 Try.underlying22 hi47 hz0 hz1 hz2 rfl (by decide) _ _ _ rfl (hN0 _) ⟨w2.heap.size, 0, none⟩ 1 1 (z3 2) rfl rfl (at_cells (z3 2) _ _) (fun x hx => by simp [z3] at hx; rcases hx with rfl | rfl <;> rfl) (by unfold maxLen; omega) (by omega) (by simp) ?_)
      intro v3 w3 own3 grow3 _
      have B3 := hide ((bel_one w2 (.cells #[.int .i64 2, .int .i64 0, .int .i64 0] 47)).grown grow3 (by simp) (fun k hk => by cases hk))
      have L3 := hide (L2.out.below B3.out n2)
      have news4 := L3.out.news (Nat.le_refl _)
      have one4 := lcl_one (fo := fo) (fn := fn) (fm := fm) (mm + 1)
      have len4 := lcl_len (fo := fo) (fn := fn) (fm := fm) (mm + 1)
      have s3 := B3.out.size
      have RB3 := row_block own3
      clear grow3
      go_wp2_with (at_builtin; refine wpList_append_own _ rfl (.tmp 32) (.tmp 33) 22 rfl w2.heap.size 47 i47 (.agg #[.int .i64 0, .int .i64 0, .int .i64 0]) 3 24 Try.underlying22 hi47 hz0 hz1 hz2 rfl (by decide) _ _ _ rfl own3 ⟨b, off, none⟩ (mm + 1) c (lcl fo fn fm (mm + 1)) rfl len4 news4 one4 (by unfold maxLen; omega) (by omega) s3 ?_)
      intro v4 w4 own4 grow4 _
      have B4 := hide (B3.out.grown grow4 s3 RB3)
      have s4 := B4.out.size
      have RB4 := row_block own4
      clear grow4 own3 RB3 news4
      go_wp2_with (at_builtin; refine wpList_append_own _ rfl (.tmp 35) (.tmp 37) 22 rfl w2.heap.size 47 i47 (.agg #[.int .i64 0, .int .i64 0, .int .i64 0]) 3 24 Try.underlying22 hi47 hz0 hz1 hz2 rfl (by decide) _ _ _ rfl (own4.alloc _) ⟨w4.heap.size, 0, none⟩ 1 1 (z3 11) rfl rfl (at_cells (z3 11) _ _) (fun x hx => by simp [z3] at hx; rcases hx with rfl | rfl <;> rfl) (by unfold maxLen; omega) (by omega) (by simp; omega) ?_)
      intro v5 w5 own5 grow5 _
      have B5 := hide ((B4.out.alloc s4 (.cells #[.int .i64 11, .int .i64 0, .int .i64 0] 47)).grown grow5 (by simp; omega) RB4)
      rw [show 1 + (mm + 1) + 1 = mm + 3 by omega] at own5
      obtain ⟨a5, c5, rfl⟩ := own_slice own5
      have O5 := hide (own_ops own5 (fun j hj => more_at fo fn fm (mm + 1) j hj))
      have D5 := hide (depth_any a5 (mm + 3) c5 w5.heap.size (ins0 (fE fo (mm + 1))) w5 O5.out (Nat.le_refl _) (by omega))
      have G' : er (ins0 (fE fo (mm + 1))) (mm + 3) = 0 ∨ er (ins0 (fE fo (mm + 1))) (mm + 3) = 1 := G
      have s5 := B5.out.size
      clear own5 grow5 own4 RB4 G O5
      rcases G' with G' | G'
      · rw [G'] at D5
        go_wp2_with fail
        refine D5.out.mono ?_
        rintro e w6 ⟨v6, rfl, h60, h61, hb6⟩
        have OV := hide (h60 (by simp))
        obtain ⟨a6, c6, rfl⟩ := own_slice OV.out
        have B6 := hide (B5.out.trans (hb6.mono s5))
        have L6 := hide (L2.out.below B6.out n2)
        have news7 := L6.out.news (Nat.le_refl _)
        have s6 := B6.out.size
        have hN6 : ∀ W : World, W.ownsRow w6.heap.size 47 3 (.slice none 0 0) 0 [] := fun W => World.ownsRow_nil _ _ _ _
        clear D5 h60 h61
        go_wp2_with (at_builtin; refine wpList_append_own _ rfl (.const (.slice none 0 0)) (.tmp 45) 22 rfl w6.heap.size 47 i47 (.agg #[.int .i64 0, .int .i64 0, .int .i64 0]) 3 24 Try.underlying22 hi47 hz0 hz1 hz2 rfl (by decide) _ _ _ rfl (hN6 _) ⟨b, off, none⟩ (mm + 1) c (lcl fo fn fm (mm + 1)) rfl len4 news7 one4 (by unfold maxLen; omega) (by omega) (Nat.le_refl _) ?_)
        intro v7 w7 own7 grow7 _
        have B7 := hide (below_of_grown (w := w6) (w' := w7) grow7)
        have s7 := B7.out.size
        have RB7 := row_block own7
        clear grow7 news7
        go_wp2_with (at_builtin; refine wpList_append_own _ rfl (.tmp 46) (.tmp 48) 22 rfl w6.heap.size 47 i47 (.agg #[.int .i64 0, .int .i64 0, .int .i64 0]) 3 24 Try.underlying22 hi47 hz0 hz1 hz2 rfl (by decide) _ _ _ rfl (own7.alloc _) ⟨w7.heap.size, 0, none⟩ 1 1 (z3 11) rfl rfl (at_cells (z3 11) _ _) (fun x hx => by simp [z3] at hx; rcases hx with rfl | rfl <;> rfl) (by unfold maxLen; omega) (by omega) (by simp; omega) ?_)
        intro v8 w8 own8 grow8 _
        have B8 := hide ((B7.out.alloc s7 (.cells #[.int .i64 11, .int .i64 0, .int .i64 0] 47)).grown grow8 (by simp; omega) RB7)
        obtain ⟨a8, c8, rfl⟩ := own_slice own8
        have O8 := hide (own_ops own8 (fun j hj => one_at fo fn fm (mm + 1) j hj))
        have D8 := hide (depth_any a8 (mm + 1 + 1) c8 w8.heap.size (fE fo (mm + 1)) w8 O8.out (Nat.le_refl _) (by omega))
        rw [h3.out] at D8
        clear own8 grow8 own7 RB7 O8
        go_wp2_with fail
        refine D8.out.mono ?_
        rintro e w9 ⟨v9, rfl, _, h91, hb9⟩
        obtain rfl := h91 (by simp)
        have B9 := hide (B8.out.trans (hb9.mono B8.out.size))
        have B69 := hide (B6.out.trans (B9.out.mono s6))
        have L9 := hide ((L2.out.below B69.out n2).ops.of (m := mm) (g := fE fo (mm + 1)) (by omega) (fun j hj => (fE_in (by omega)).symm))
        have n9 := Nat.le_trans n2 B69.out.size
        have DA := hide (depth_any (some ⟨b, off, none⟩) mm c w.heap.size (fE fo (mm + 1)) w9 L9.out n9 (by omega))
        rw [h4.out] at DA
        have hmc : mm ≤ c := by omega
        clear D8 hb9
        go_wp2_with fail
        refine DA.out.mono ?_
        rintro e wd ⟨va, rfl, _, ha1, hba⟩
        obtain rfl := ha1 (by simp)
        have B6d := hide (B9.out.trans (hba.mono B9.out.size))
        have B2d := hide (B69.out.trans (hba.mono B69.out.size))
        have bd := b2.trans (B2d.out.mono b2.size)
        have OW8 := hide (own_below OW.out B2d.out)
        have OV8 := hide (own_below OV.out B6d.out)
        clear DA hba B69 L9 B9 B8 B7
        go_wp2_with fail
        go_loopw [13] (fun i wr => ∃ k : Nat, k ≤ mm ∧ i = .int .i64 k ∧ Hid (∃ q, wr = wd.drewN q)) (fun i _ => mm - (intOf i).toNat)
        case atStart => exact ⟨0, by omega, rfl, hide ⟨0, rfl⟩⟩
        case round =>
          obtain ⟨k, hk, rfl, hq⟩ := hrel
          by_cases hlt : k < mm
          · obtain ⟨q, hq'⟩ := hq.out
            have R1 : wr.ownsRow wc.heap.size 3 1 (.slice av (mm + 1) cv) (mm + 1) (dcel (fE fo (mm + 1)) (mm + 1) (mm + 1)) := by rw [hq']; exact own_drew OW8.out q
            have R2 : wr.ownsRow w5.heap.size 3 1 (.slice a6 (mm + 3) c6) (mm + 3) (dcel (ins0 (fE fo (mm + 1))) (mm + 3) (mm + 3)) := by rw [hq']; exact own_drew OV8.out q
            obtain ⟨g1, rfl, _, _, _⟩ := own_some R1 (by omega)
            obtain ⟨g2, rfl, _, _, _⟩ := own_some R2 (by omega)
            have p1 := R1.cellAt k (by omega)
            rw [dcel_at (by omega), if_pos (by omega)] at p1
            have p2 := R2.cellAt (k + 1) (by omega)
            rw [dcel_at (by omega), if_pos (by omega), MA.out k (by omega)] at p2
            have hdl := arL_len1 (f := fE fo (mm + 1)) (p := k)
            generalize (arL (fE fo (mm + 1)) k (run (fE fo (mm + 1)) k)).length = dk at *
            have hi1 : (k : Int) < ((mm + 1 : Nat) : Int) := by omega
            have hi2 : (k : Int) + 1 < ((mm + 3 : Nat) : Int) := by omega
            have nb : (((dk + 1 : Nat) : Int) != (dk : Int) + 1) = false := by simp
            have HQ := hide hq'
            clear R1 R2 hq hq' OW8 OV8 MA
            go_wp2_with fail
            go_quiet (fail)
            go_wp2_with fail
            go_roundw
            case rel => exact ⟨k + 1, by omega, by go_num, hide ⟨_, by rw [HQ.out]; exact (World.drewN_drewN _ _ _)⟩⟩
            case measure => simp [intOf]; omega
          · obtain rfl : k = mm := by omega
            obtain ⟨q, hq'⟩ := hq.out
            have bF : Hid (Below w.heap.size w wr) := hide (by rw [hq']; exact bel_drew bd q)
            clear hq hq'
            go_wp2_with fail
            go_ret
            exact ⟨rfl, bF.out⟩
      · rw [G'] at D5
        go_wp2_with fail
        refine D5.out.mono ?_
        rintro e w6 ⟨v6, rfl, h60, h61, hb6⟩
        obtain rfl := h61 (by simp)
        have B6 := hide (B5.out.trans (hb6.mono s5))
        have L6 := hide (L2.out.below B6.out n2)
        have news7 := L6.out.news (Nat.le_refl _)
        have s6 := B6.out.size
        have hN6 : ∀ W : World, W.ownsRow w6.heap.size 47 3 (.slice none 0 0) 0 [] := fun W => World.ownsRow_nil _ _ _ _
        clear D5 h60 h61
        go_wp2_with (at_builtin; refine wpList_append_own _ rfl (.const (.slice none 0 0)) (.tmp 45) 22 rfl w6.heap.size 47 i47 (.agg #[.int .i64 0, .int .i64 0, .int .i64 0]) 3 24 Try.underlying22 hi47 hz0 hz1 hz2 rfl (by decide) _ _ _ rfl (hN6 _) ⟨b, off, none⟩ (mm + 1) c (lcl fo fn fm (mm + 1)) rfl len4 news7 one4 (by unfold maxLen; omega) (by omega) (Nat.le_refl _) ?_)
        intro v7 w7 own7 grow7 _
        have B7 := hide (below_of_grown (w := w6) (w' := w7) grow7)
        have s7 := B7.out.size
        have RB7 := row_block own7
        clear grow7 news7
        go_wp2_with (at_builtin; refine wpList_append_own _ rfl (.tmp 46) (.tmp 48) 22 rfl w6.heap.size 47 i47 (.agg #[.int .i64 0, .int .i64 0, .int .i64 0]) 3 24 Try.underlying22 hi47 hz0 hz1 hz2 rfl (by decide) _ _ _ rfl (own7.alloc _) ⟨w7.heap.size, 0, none⟩ 1 1 (z3 11) rfl rfl (at_cells (z3 11) _ _) (fun x hx => by simp [z3] at hx; rcases hx with rfl | rfl <;> rfl) (by unfold maxLen; omega) (by omega) (by simp; omega) ?_)
        intro v8 w8 own8 grow8 _
        have B8 := hide ((B7.out.alloc s7 (.cells #[.int .i64 11, .int .i64 0, .int .i64 0] 47)).grown grow8 (by simp; omega) RB7)
        obtain ⟨a8, c8, rfl⟩ := own_slice own8
        have O8 := hide (own_ops own8 (fun j hj => one_at fo fn fm (mm + 1) j hj))
        have D8 := hide (depth_any a8 (mm + 1 + 1) c8 w8.heap.size (fE fo (mm + 1)) w8 O8.out (Nat.le_refl _) (by omega))
        rw [h3.out] at D8
        clear own8 grow8 own7 RB7 O8
        go_wp2_with fail
        refine D8.out.mono ?_
        rintro e w9 ⟨v9, rfl, _, h91, hb9⟩
        obtain rfl := h91 (by simp)
        have B9 := hide (B8.out.trans (hb9.mono B8.out.size))
        have B69 := hide (B6.out.trans (B9.out.mono s6))
        have L9 := hide ((L2.out.below B69.out n2).ops.of (m := mm) (g := fE fo (mm + 1)) (by omega) (fun j hj => (fE_in (by omega)).symm))
        have n9 := Nat.le_trans n2 B69.out.size
        have DA := hide (depth_any (some ⟨b, off, none⟩) mm c w.heap.size (fE fo (mm + 1)) w9 L9.out n9 (by omega))
        rw [h4.out] at DA
        have hmc : mm ≤ c := by omega
        clear D8 hb9
        go_wp2_with fail
        refine DA.out.mono ?_
        rintro e wd ⟨va, rfl, _, ha1, hba⟩
        obtain rfl := ha1 (by simp)
        have B6d := hide (B9.out.trans (hba.mono B9.out.size))
        have B2d := hide (B69.out.trans (hba.mono B69.out.size))
        have bd := b2.trans (B2d.out.mono b2.size)
        clear DA hba B69 L9 B9 B8 B7
        by_cases hm0 : mm = 0
        · subst hm0
          go_wp2_with fail
          refine wp_loop_rounds 1 ?_
          rw [rounds_succ]
          go_wp2_with fail
          go_ret
          exact ⟨rfl, bd⟩
        · have hm1 : (0 : Int) < (mm : Int) := by omega
          go_wp2_with fail
          refine wp_loop_rounds 1 ?_
          rw [rounds_succ]
          go_wp2_with fail
          go_ret
          exact ⟨rfl, bd⟩
    · obtain ⟨q, hq⟩ : ∃ q, er (fE fo m) m = q := ⟨_, rfl⟩
      rw [hq] at DE he
      have HE := hide he
      clear hq
      go_wp2_with fail
      refine DE.out.mono ?_
      rintro e w2 ⟨v, rfl, _, hv, hb2⟩
      have b2 := hb1.trans (hb2.mono n1)
      clear DE hb2
      go_wp2_with fail
      go_ret
      exact ⟨rfl, b2⟩
end Go.Proofs.Ytglagdbkcigojaa

/-
  The statement NestSpans, walked.
-/
import Derived.Test.YtglagdbkcigojaaRefDepth
import Derived.Deep.CutRange
namespace Go.Proofs.Ytglagdbkcigojaa
open Go.RowKit

theorem dcel_ints (f : Nat → Int) (n : Nat) : ∀ j, j < n → ∃ x, (dcel f n n)[j]? = some (.int .i64 x) := fun j hj => ⟨_, by rw [dcel_at hj, if_pos hj]⟩
set_option maxRecDepth 100000 in
set_option maxHeartbeats 8000000 in
theorem spans_walk (a : Option Addr) (n c : Nat) (fo fn fm : Nat → Int) (w : World) (hL : Lst w.heap.size w a n fo fn fm) (hnc : n ≤ c) (hna : a = none → n = 0 ∧ c = 0) :
    Calls Try.prog 3 #[.slice a n c] w fun e w' => e = .returned (.bool true) ∧ Below w.heap.size w w' := by
  have EX := hide (examples_any w)
  have HL := hide hL
  clear hL
  go_enter Try.func3, Try.ntmps3
  go_wp2_with fail
  refine EX.out.mono ?_
  rintro e w1 ⟨rfl, hb1⟩
  clear EX
  go_upto_region 2 with fail
  go_cut [0] from 15 to 19 (fun s0 wx => ∃ m : Nat, s0 = .slice a m c ∧ m ≤ n ∧ m ≤ 300 ∧ wx = w1)
  case first =>
    cases a with
    | none =>
      obtain ⟨rfl, rfl⟩ := hna rfl
      go_wp2_with fail
      go_meet
      case rel => exact ⟨0, rfl, Nat.le_refl _, by omega, rfl⟩
    | some ad =>
      by_cases h2 : n ≤ 300
      · go_wp2_with fail
        go_meet
        case rel => exact ⟨n, rfl, Nat.le_refl _, h2, rfl⟩
      · go_wp2_with fail
        go_meet
        case rel => exact ⟨300, rfl, by omega, Nat.le_refl _, rfl⟩
  case rest =>
    obtain ⟨m, rfl, hmn, hm2, rfl⟩ := hcut
    have L1 := hide ((HL.out.less hmn).below hb1 (Nat.le_refl _)).ops
    have n1 := hb1.size
    have SP := hide (spans_any a m c w.heap.size fo wc L1.out n1 (by omega))
    clear HL
    obtain ⟨q, hq⟩ : ∃ q, er fo m = q := ⟨_, rfl⟩
    rw [hq] at SP
    go_wp2_with fail
    refine SP.out.mono ?_
    rintro e w2 ⟨v2, rfl, h20, h21, hb2⟩
    have b2 := hb1.trans (hb2.mono n1)
    have L2 := hide (ops_on L1.out n1 hb2)
    have n2 := Nat.le_trans n1 hb2.size
    have RS := hide (ref_spans a m c w.heap.size fo w2 L2.out n2 (by omega))
    rw [hq] at RS
    have H20 := hide h20
    have H21 := hide h21
    clear SP h20 h21
    go_wp2_with fail
    refine RS.out.mono ?_
    rintro e w3 ⟨v3, rfl, h30, h31, hb3⟩
    have b3 := b2.trans (hb3.mono n2)
    have L3 := hide (ops_on L2.out n2 hb3)
    have n3 := Nat.le_trans n2 hb3.size
    have EQ : Hid (Calls Try.prog 12 #[v2, v3] w3 fun e w' => e = .returned (.bool true) ∧ ∃ q, w' = w3.drewN q) := hide (by
      by_cases h0 : q = 0
      · exact same_spans v2 v3 _ _ (run fo m).sp w3 (own_below (H20.out h0) hb3) (h30 h0) (by have := (run_len fo m).1; omega)
      · rw [H21.out h0, h31 h0]
        exact same_spans _ _ 0 0 [] w3 (World.ownsRow_nil _ _ _ _) (World.ownsRow_nil _ _ _ _) (by simp))
    clear RS h30 h31 H20 H21 hb3
    go_wp2_with fail
    refine EQ.out.mono ?_
    rintro e w4 ⟨rfl, d4, h4⟩
    have b4 : Below w.heap.size w w4 := by rw [h4]; exact bel_drew b3 d4
    have L4 : Hid (Ops w.heap.size w4 a m fo) := hide (by rw [h4]; exact ops_drew L3.out d4)
    have n4 : w.heap.size ≤ w4.heap.size := by rw [h4]; exact n3
    clear h4 EQ
    have DE := hide (depth_any a m c w.heap.size fo w4 L4.out n4 (by omega))
    rw [hq] at DE
    go_wp2_with fail
    refine DE.out.mono ?_
    rintro e w5 ⟨v5, rfl, h50, h51, hb5⟩
    have b5 := b4.trans (hb5.mono n4)
    have L5 := hide (ops_on L4.out n4 hb5)
    have n5 := Nat.le_trans n4 hb5.size
    have RD := hide (ref_depth a m c w.heap.size fo w5 L5.out n5 (by omega))
    rw [hq] at RD
    have H50 := hide h50
    have H51 := hide h51
    clear DE h50 h51
    go_wp2_with fail
    refine RD.out.mono ?_
    rintro e w6 ⟨v6, rfl, h60, h61, hb6⟩
    have b6 := b5.trans (hb6.mono n5)
    have EI : Hid (Calls Try.prog 15 #[v5, v6] w6 fun e w' => e = .returned (.bool true) ∧ ∃ q, w' = w6.drewN q) := hide (by
      by_cases h0 : q = 0
      · exact same_ints v5 v6 _ _ m (dcel fo m m) (dcel_ints fo m) w6 (own_below (H50.out h0) hb6) (h60 h0) (by omega)
      · rw [H51.out h0, h61 h0]
        exact same_ints _ _ 0 0 0 [] (fun j hj => absurd hj (by omega)) w6 (World.ownsRow_nil _ _ _ _) (World.ownsRow_nil _ _ _ _) (by omega))
    clear RD h60 h61 H50 H51 hb6 hq
    go_wp2_with fail
    refine EI.out.mono ?_
    rintro e w7 ⟨rfl, d7, h7⟩
    have b7 : Below w.heap.size w w7 := by rw [h7]; exact bel_drew b6 d7
    clear h7 EI
    go_wp2_with fail
    go_ret
    exact ⟨rfl, b7⟩
end Go.Proofs.Ytglagdbkcigojaa

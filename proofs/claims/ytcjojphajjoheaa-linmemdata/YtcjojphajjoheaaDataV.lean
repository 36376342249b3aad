/-
  The walk of the statement LinmemData for a number below 0, and for all.
-/
import Derived.Test.YtcjojphajjoheaaDataW
namespace Go.Proofs.Ytcjojphajjoheaa
open Go.RowKit

set_option maxRecDepth 20000 in
set_option maxHeartbeats 3200000 in
theorem data_walk1 (x m1 p1 m2 p2 : Int) (b1 b2 : List UInt8) (w : World) (hx : x < 0) (hx2 : -9223372036854775808 ≤ x) (hp1 : I64 p1) (hp2 : I64 p2) (hb1 : b1.length ≤ 9223372036854775807) (hb2 : b2.length ≤ 9223372036854775807) :
    Calls Try.prog 8 #[.int .i64 x, .agg #[.int .i64 m1, .int .i64 p1, .string (str b1)], .agg #[.int .i64 m2, .int .i64 p2, .string (str b2)]] w fun e w' => e = .returned (.bool true) ∧ Below w.heap.size w w' := by
  have R0 := hide ((Row.made w #[.int .i64 m1, .int .i64 p1, .string (str b1)] 48).kept (bel_one _ (.cells #[.int .i64 m2, .int .i64 p2, .string (str b2)] 48)))
  have R1 := hide (Row.made (w.alloc (.cells #[.int .i64 m1, .int .i64 p1, .string (str b1)] 48)) #[.int .i64 m2, .int .i64 p2, .string (str b2)] 48)
  rw [show (w.alloc (.cells #[.int .i64 m1, .int .i64 p1, .string (str b1)] 48)).heap.size = w.heap.size + 1 by simp] at R1
  have HB := hide ((bel_one w (.cells #[.int .i64 m1, .int .i64 p1, .string (str b1)] 48)).alloc (by simp) (.cells #[.int .i64 m2, .int .i64 p2, .string (str b2)] 48))
  have HZ : Hid (((w.alloc (.cells #[.int .i64 m1, .int .i64 p1, .string (str b1)] 48)).alloc (.cells #[.int .i64 m2, .int .i64 p2, .string (str b2)] 48)).heap.size = w.heap.size + 2) := by show _ = _; simp
  obtain ⟨y, hy⟩ : ∃ y, -(x + 1) = y := ⟨_, rfl⟩
  have hy0 : 0 ≤ y := by omega
  have hy1 : y ≤ 9223372036854775807 := by omega
  go_enter Try.func8, Try.ntmps8
  go_wp2_with (fail)
  refine (examples_any _).mono ?_
  generalize (w.alloc _).alloc _ = w0 at R0 R1 HB HZ ⊢
  rintro e w1 ⟨rfl, hbe⟩
  have Q0 := R0.out.kept hbe
  have Q1 := R1.out.kept hbe
  have HB1 := hide (HB.out.trans (hbe.mono (by rw [HZ.out]; omega)))
  have HZ1 : w.heap.size + 2 ≤ w1.heap.size := by have := hbe.size; rw [HZ.out] at this; exact this
  clear hbe HZ HB R0 R1
  have c00 := Q0.c 0 _ rfl
  have c01 := Q0.c 1 _ rfl
  have c02 := Q0.c 2 _ rfl
  have c10 := Q1.c 0 _ rfl
  have c11 := Q1.c 1 _ rfl
  have c12 := Q1.c 2 _ rfl
  have f0 := Q0.fr 0
  have f1 := Q1.fr 0
  simp only [List.getElem_toArray, List.getElem_cons_zero, List.getElem_cons_succ] at c00 c01 c02 c10 c11 c12
  have HQ0 := hide Q0
  have HQ1 := hide Q1
  clear Q0 Q1
  have hsz : (((w1.setCell ⟨w.heap.size, 0, none⟩ (.int .i64 1)).setCell ⟨w.heap.size + 1, 0, none⟩ (.int .i64 1))).heap.size = w1.heap.size := by simp [World.setCell]
  have K0 := hide ((HQ0.out.set 0 (.int .i64 1)).other (c := w.heap.size + 1) 0 (.int .i64 1) (by omega))
  have K1 := hide ((HQ1.out.other (c := w.heap.size) 0 (.int .i64 1) (by omega)).set 0 (.int .i64 1))
  have KW := hide ((HB1.out.setCell (p := ⟨w.heap.size, 0, none⟩) (Nat.le_refl _) (.int .i64 1)).setCell (p := ⟨w.heap.size + 1, 0, none⟩) (Nat.le_succ _) (.int .i64 1))
  have KG := hide (Row.made ((w1.setCell ⟨w.heap.size, 0, none⟩ (.int .i64 1)).setCell ⟨w.heap.size + 1, 0, none⟩ (.int .i64 1)) #[.int .i64 1, .int .i64 p1, .string (str b1), .int .i64 1, .int .i64 p2, .string (str b2)] 48)
  rw [hsz] at KG
  have HZ2 := hide hsz
  clear hsz
  go_wp2_with (fail)
  generalize (w1.setCell _ _).setCell _ _ = w2 at K0 K1 KW KG HZ2 ⊢
  clear HQ0 HQ1 HB1 c00 c01 c02 c10 c11 c12 f0 f1
  have he3 : 3 ≤ 3 + y % 10 := by omega
  have he12 : 3 + y % 10 ≤ 12 := by omega
  generalize 3 + y % 10 = e at he3 he12 ⊢
  generalize w1.heap.size = g at *
  have KM := hide (Row.made (w2.alloc (.cells #[.int .i64 1, .int .i64 p1, .string (str b1), .int .i64 1, .int .i64 p2, .string (str b2)] 48)) #[.slice none 0 0, .slice none 0 0, .slice none 0 0, .int .i64 0, .int .i64 e, .slice none 0 0, .slice (some ⟨g, 0, none⟩) 2 2] 29)
  rw [show (w2.alloc (.cells #[.int .i64 1, .int .i64 p1, .string (str b1), .int .i64 1, .int .i64 p2, .string (str b2)] 48)).heap.size = g + 1 by simp [HZ2.out]] at KM
  have J0 := hide ((K0.out.alloc (.cells #[.int .i64 1, .int .i64 p1, .string (str b1), .int .i64 1, .int .i64 p2, .string (str b2)] 48)).alloc (.cells #[.slice none 0 0, .slice none 0 0, .slice none 0 0, .int .i64 0, .int .i64 e, .slice none 0 0, .slice (some ⟨g, 0, none⟩) 2 2] 29))
  have J1 := hide ((K1.out.alloc (.cells #[.int .i64 1, .int .i64 p1, .string (str b1), .int .i64 1, .int .i64 p2, .string (str b2)] 48)).alloc (.cells #[.slice none 0 0, .slice none 0 0, .slice none 0 0, .int .i64 0, .int .i64 e, .slice none 0 0, .slice (some ⟨g, 0, none⟩) 2 2] 29))
  have JG := hide (KG.out.alloc (.cells #[.slice none 0 0, .slice none 0 0, .slice none 0 0, .int .i64 0, .int .i64 e, .slice none 0 0, .slice (some ⟨g, 0, none⟩) 2 2] 29))
  have JW := hide ((KW.out.alloc (by rw [HZ2.out]; omega) (.cells #[.int .i64 1, .int .i64 p1, .string (str b1), .int .i64 1, .int .i64 p2, .string (str b2)] 48)).alloc (by simp [HZ2.out]; omega) (.cells #[.slice none 0 0, .slice none 0 0, .slice none 0 0, .int .i64 0, .int .i64 e, .slice none 0 0, .slice (some ⟨g, 0, none⟩) 2 2] 29))
  clear K0 K1 KW KG HZ2
  generalize (w2.alloc _).alloc _ = w3 at KM J0 J1 JG JW ⊢
  have HD := two_da JG.out JG.out.lt hp1 hp2 hb1 hb2
  refine (new_any none none none none (some ⟨g, 0, none⟩) 0 0 0 0 0 0 0 0 2 0 e 1 [⟨1, p1, b1⟩, ⟨1, p2, b2⟩] w3 (by simp) HD).mono ?_
  have hSz := size_is e he3 he12 [⟨1, p1, b1⟩, ⟨1, p2, b2⟩]
  have hS4 : (str (newL 0 e 1 [⟨1, p1, b1⟩, ⟨1, p2, b2⟩])).size ≤ 4096 := by rw [str_size, new_len]; exact szo_le _ _ _
  have HG : Hid (∀ i (h : i < (str (newL 0 e 1 [⟨1, p1, b1⟩, ⟨1, p2, b2⟩])).size), (str (newL 0 e 1 [⟨1, p1, b1⟩, ⟨1, p2, b2⟩]))[i] = wnt ⟨1, p2, b2⟩ i (wnt ⟨1, p1, b1⟩ i 0)) := fun i h => by
    rw [str_get, new_two e ⟨1, p1, b1⟩ ⟨1, p2, b2⟩ rfl rfl]
  generalize str (newL 0 e 1 [⟨1, p1, b1⟩, ⟨1, p2, b2⟩]) = S at hSz hS4 HG ⊢
  rintro e' w4 ⟨rfl, hb4⟩
  have M4 := hide (KM.out.kept hb4)
  have W4 := hide (JW.out.trans (hb4.mono JW.out.size))
  have D4 := HD.step hb4 (Nat.le_refl _)
  have P0 := hide (J0.out.kept hb4)
  have P1 := hide (J1.out.kept hb4)
  clear KM JW HD J0 J1 JG
  have cm0 := M4.out.c 0 _ rfl
  have cm1 := M4.out.c 1 _ rfl
  have cm2 := M4.out.c 2 _ rfl
  have cm3 := M4.out.c 3 _ rfl
  have cm4 := M4.out.c 4 _ rfl
  have cm5 := M4.out.c 5 _ rfl
  have cm6 := M4.out.c 6 _ rfl
  simp only [List.getElem_toArray, List.getElem_cons_zero, List.getElem_cons_succ] at cm0 cm1 cm2 cm3 cm4 cm5 cm6
  have HD4 := hide (D4.step (Below.refl _ _) hb4.size)
  clear D4 hb4
  go_wp2_with (fail)
  refine (new_any none none none none (some ⟨g, 0, none⟩) 0 0 0 0 0 0 0 0 2 0 e 0 [⟨1, p1, b1⟩, ⟨1, p2, b2⟩] w4 (by simp) HD4).mono ?_
  rw [new_none]
  rintro e' w5 ⟨rfl, hb5⟩
  have hem : (str []).toList.isEmpty = true := by decide +kernel
  have Q0 := P0.out.kept hb5
  have Q1 := P1.out.kept hb5
  have W5 := hide (W4.out.trans (hb5.mono W4.out.size))
  have c01 := Q0.c 1 _ rfl
  have c02 := Q0.c 2 _ rfl
  have c11 := Q1.c 1 _ rfl
  have c12 := Q1.c 2 _ rfl
  simp at c01 c02 c11 c12
  clear cm0 cm1 cm2 cm3 cm4 cm5 cm6 M4 W4 HD4 hb5 P0 P1 Q0 Q1
  go_wp2
  go_loop [10, 11] (fun i _ => ∃ n : Nat, n ≤ S.size ∧ i = .int .i64 n) (fun i _ => S.size - (intOf i).toNat)
  case atStart => exact ⟨0, Nat.zero_le _, rfl⟩
  case round =>
    obtain ⟨n, hn, rfl⟩ := hrel
    by_cases hlt : n < S.size
    · have hg := hide (HG.out n hlt)
      rcases dcase p1 b1 n with ⟨a1, v1⟩ | ⟨q1, rfl, a1, v1⟩ | ⟨q1, k1, rfl, a1, e1, l1, v1⟩ | ⟨q1, k1, rfl, a1, e1, l1, v1⟩
      · have d1 : decide (0 ≤ p1) = false := by simp; omega
        rcases dcase p2 b2 n with ⟨a2, v2⟩ | ⟨q2, rfl, a2, v2⟩ | ⟨q2, k2, rfl, a2, e2, l2, v2⟩ | ⟨q2, k2, rfl, a2, e2, l2, v2⟩
        · have d2 : decide (0 ≤ p2) = false := by simp; omega
          have hne : ((S[n].toNat : Int) != (0 : Int)) = false := by rw [hg.out, v2, v1]; simp
          clear hg v1 v2 HG
          go_wp2
          exact ⟨⟨n + 1, hlt, by go_num⟩, by simp [intOf]; omega⟩
        · have d2 : decide (q2 ≤ n) = false := by simp; omega
          have hne : ((S[n].toNat : Int) != (0 : Int)) = false := by rw [hg.out, v2, v1]; simp
          clear hg v1 v2 HG
          go_wp2
          exact ⟨⟨n + 1, hlt, by go_num⟩, by simp [intOf]; omega⟩
        · have d2 : decide (k2 < (str b2).size) = false := by simp; omega
          have hne : ((S[n].toNat : Int) != (0 : Int)) = false := by rw [hg.out, v2, v1]; simp
          clear hg v1 v2 HG
          go_wp2
          exact ⟨⟨n + 1, hlt, by go_num⟩, by simp [intOf]; omega⟩
        · skip
          have hne : ((S[n].toNat : Int) != ((str b2)[k2].toNat : Int)) = false := by rw [hg.out, v2]; simp
          clear hg v1 v2 HG
          go_wp2
          exact ⟨⟨n + 1, hlt, by go_num⟩, by simp [intOf]; omega⟩
      · have d1 : decide (q1 ≤ n) = false := by simp; omega
        rcases dcase p2 b2 n with ⟨a2, v2⟩ | ⟨q2, rfl, a2, v2⟩ | ⟨q2, k2, rfl, a2, e2, l2, v2⟩ | ⟨q2, k2, rfl, a2, e2, l2, v2⟩
        · have d2 : decide (0 ≤ p2) = false := by simp; omega
          have hne : ((S[n].toNat : Int) != (0 : Int)) = false := by rw [hg.out, v2, v1]; simp
          clear hg v1 v2 HG
          go_wp2
          exact ⟨⟨n + 1, hlt, by go_num⟩, by simp [intOf]; omega⟩
        · have d2 : decide (q2 ≤ n) = false := by simp; omega
          have hne : ((S[n].toNat : Int) != (0 : Int)) = false := by rw [hg.out, v2, v1]; simp
          clear hg v1 v2 HG
          go_wp2
          exact ⟨⟨n + 1, hlt, by go_num⟩, by simp [intOf]; omega⟩
        · have d2 : decide (k2 < (str b2).size) = false := by simp; omega
          have hne : ((S[n].toNat : Int) != (0 : Int)) = false := by rw [hg.out, v2, v1]; simp
          clear hg v1 v2 HG
          go_wp2
          exact ⟨⟨n + 1, hlt, by go_num⟩, by simp [intOf]; omega⟩
        · skip
          have hne : ((S[n].toNat : Int) != ((str b2)[k2].toNat : Int)) = false := by rw [hg.out, v2]; simp
          clear hg v1 v2 HG
          go_wp2
          exact ⟨⟨n + 1, hlt, by go_num⟩, by simp [intOf]; omega⟩
      · have d1 : decide (k1 < (str b1).size) = false := by simp; omega
        rcases dcase p2 b2 n with ⟨a2, v2⟩ | ⟨q2, rfl, a2, v2⟩ | ⟨q2, k2, rfl, a2, e2, l2, v2⟩ | ⟨q2, k2, rfl, a2, e2, l2, v2⟩
        · have d2 : decide (0 ≤ p2) = false := by simp; omega
          have hne : ((S[n].toNat : Int) != (0 : Int)) = false := by rw [hg.out, v2, v1]; simp
          clear hg v1 v2 HG
          go_wp2
          exact ⟨⟨n + 1, hlt, by go_num⟩, by simp [intOf]; omega⟩
        · have d2 : decide (q2 ≤ n) = false := by simp; omega
          have hne : ((S[n].toNat : Int) != (0 : Int)) = false := by rw [hg.out, v2, v1]; simp
          clear hg v1 v2 HG
          go_wp2
          exact ⟨⟨n + 1, hlt, by go_num⟩, by simp [intOf]; omega⟩
        · have d2 : decide (k2 < (str b2).size) = false := by simp; omega
          have hne : ((S[n].toNat : Int) != (0 : Int)) = false := by rw [hg.out, v2, v1]; simp
          clear hg v1 v2 HG
          go_wp2
          exact ⟨⟨n + 1, hlt, by go_num⟩, by simp [intOf]; omega⟩
        · skip
          have hne : ((S[n].toNat : Int) != ((str b2)[k2].toNat : Int)) = false := by rw [hg.out, v2]; simp
          clear hg v1 v2 HG
          go_wp2
          exact ⟨⟨n + 1, hlt, by go_num⟩, by simp [intOf]; omega⟩
      · skip
        rcases dcase p2 b2 n with ⟨a2, v2⟩ | ⟨q2, rfl, a2, v2⟩ | ⟨q2, k2, rfl, a2, e2, l2, v2⟩ | ⟨q2, k2, rfl, a2, e2, l2, v2⟩
        · have d2 : decide (0 ≤ p2) = false := by simp; omega
          have hne : ((S[n].toNat : Int) != ((str b1)[k1].toNat : Int)) = false := by rw [hg.out, v2, v1]; simp
          clear hg v1 v2 HG
          go_wp2
          exact ⟨⟨n + 1, hlt, by go_num⟩, by simp [intOf]; omega⟩
        · have d2 : decide (q2 ≤ n) = false := by simp; omega
          have hne : ((S[n].toNat : Int) != ((str b1)[k1].toNat : Int)) = false := by rw [hg.out, v2, v1]; simp
          clear hg v1 v2 HG
          go_wp2
          exact ⟨⟨n + 1, hlt, by go_num⟩, by simp [intOf]; omega⟩
        · have d2 : decide (k2 < (str b2).size) = false := by simp; omega
          have hne : ((S[n].toNat : Int) != ((str b1)[k1].toNat : Int)) = false := by rw [hg.out, v2, v1]; simp
          clear hg v1 v2 HG
          go_wp2
          exact ⟨⟨n + 1, hlt, by go_num⟩, by simp [intOf]; omega⟩
        · skip
          have hne : ((S[n].toNat : Int) != ((str b2)[k2].toNat : Int)) = false := by rw [hg.out, v2]; simp
          clear hg v1 v2 HG
          go_wp2
          exact ⟨⟨n + 1, hlt, by go_num⟩, by simp [intOf]; omega⟩
    · go_wp2
      go_ret
      exact ⟨rfl, W5.out⟩
/-- Whatever the number. -/
theorem data_walk (x : Int) (m1 p1 : Int) (b1 : List UInt8) (m2 p2 : Int) (b2 : List UInt8) (w : World) (hx : I64 x) (hp1 : I64 p1) (hb1 : b1.length ≤ 9223372036854775807) (hp2 : I64 p2) (hb2 : b2.length ≤ 9223372036854775807) :
    Calls Try.prog 8 #[.int .i64 x, .agg #[.int .i64 m1, .int .i64 p1, .string (str b1)], .agg #[.int .i64 m2, .int .i64 p2, .string (str b2)]] w fun e w' => e = .returned (.bool true) ∧ Below w.heap.size w w' := by
  obtain ⟨h1, h2⟩ := hx
  by_cases h : 0 ≤ x
  · exact data_walk0 x m1 p1 m2 p2 b1 b2 w h h2 hp1 hp2 hb1 hb2
  · exact data_walk1 x m1 p1 m2 p2 b1 b2 w (by omega) h1 hp1 hp2 hb1 hb2
end Go.Proofs.Ytcjojphajjoheaa

/-
  Any writes are applied to any memories as the document's own function says: the walk of the statement LinmemApplies.
-/
import Derived.Test.YtcjojphajjoheaaRefA
import Derived.Test.YtcjojphajjoheaaWrites
namespace Go.Proofs.Ytcjojphajjoheaa
open Go.RowKit

theorem rapply_n (x y : ByteArray) (a : Option Addr) (l : List Da) (n c : Nat) (w : World) (hx : x.size ≤ 140737488351232) (hy : y.size ≤ 140737488351232) (hl : l.length ≤ 9223372036854775807) (hn : l.length = n) (hd : SDa w.heap.size w a l) :
    Calls Try.prog 17 #[two x y, .slice a n c] w fun e w' => e = .returned (.tuple #[two (str (apA (x.data.toList, y.data.toList) l).1.1) (str (apA (x.data.toList, y.data.toList) l).1.2), .bool (apA (x.data.toList, y.data.toList) l).2]) ∧ Below w.heap.size w w' := by
  subst hn
  have h := rapply_any x.data.toList y.data.toList a l c w (by rw [list_size]; exact hx) (by rw [list_size]; exact hy) hl hd
  rw [← str_of x, ← str_of y] at h
  exact h
set_option maxRecDepth 20000 in
set_option maxHeartbeats 3200000 in
theorem applies_walk (x y : ByteArray) (a : Option Addr) (l : List Da) (c : Nat) (w : World) (_hx : x.size ≤ 140737488351232) (_hy : y.size ≤ 140737488351232) (hd : SDa w.heap.size w a l) (hc : l.length ≤ c) (_hl : l.length ≤ 9223372036854775807) :
    Calls Try.prog 4 #[.string x, .string y, .slice a l.length c] w fun e w' => e = .returned (.bool true) ∧ Below w.heap.size w w' := by
  obtain ⟨m, hm⟩ : ∃ m, l.length = m := ⟨_, rfl⟩
  rw [hm]
  obtain ⟨L, hL⟩ : ∃ L, L = l.take 20 := ⟨_, rfl⟩
  have hmin : min (m : Int) 20 = (L.length : Int) := by rw [hL, List.length_take]; omega
  have hL20 : L.length ≤ 20 := by rw [hL, List.length_take]; omega
  have hD : Hid (SDa w.heap.size w a L) := by show SDa _ _ _ _; rw [hL]; exact hd.take 20
  have hmc : m ≤ c := by omega
  have hlc : L.length ≤ c := by omega
  clear hL hd hm hc _hl
  have hcx := cut_size x
  have hcy := cut_size y
  go_enter Try.func4, Try.ntmps4
  go_wp2_with (fail)
  refine (examples_any _).mono ?_
  rintro e w1 ⟨rfl, b1⟩
  have B1 := hide b1
  have D1 := hide (hD.out.step b1 b1.size)
  clear b1 hD
  go_upto_region 2 with fail
  go_cut [8] from 14 to 24 (fun s8 wx => ∃ g : Nat, s8 = .pointer (some ⟨g, 0, none⟩) ∧ Hid (Row wx g #[.string (x.extract 0 (min (x.size : Int) 5000).toNat), .string (y.extract 0 (min (y.size : Int) 5000).toNat)] 38) ∧ Hid (Below w1.heap.size w1 wx))
  case first =>
    go_region
    all_goals
      go_wp2_with fail
      go_meet
      case rel => exact ⟨_, rfl, (Row.made _ _ _).of_block rfl, (bel_one w1 _).trans (drew_below _ _)⟩
  case rest =>
    generalize x.extract 0 (min (x.size : Int) 5000).toNat = X at *
    generalize y.extract 0 (min (y.size : Int) 5000).toNat = Y at *
    obtain ⟨g, rfl, RM, K1⟩ := hcut
    have B2 := hide (below_next B1.out K1.out B1.out.size)
    have D2 := hide (D1.out.step K1.out K1.out.size)
    clear B1 D1 K1
    have c0 := RM.out.c 0 _ rfl
    have c1 := RM.out.c 1 _ rfl
    simp only [List.getElem_toArray, List.getElem_cons_zero, List.getElem_cons_succ] at c0 c1
    obtain ⟨r, HA⟩ : ∃ r, Hid (apA (X.data.toList, Y.data.toList) L = r) := ⟨_, rfl⟩
    go_wp2_with (fail)
    refine (apply_n X Y a L L.length c _ hcx hcy (by omega) rfl D2.out).mono ?_
    rw [HA.out]
    rintro e w3 ⟨rfl, b3⟩
    have R3 := hide (RM.out.kept b3)
    have B3 := hide (below_next B2.out b3 B2.out.size)
    have D3 := hide (D2.out.step b3 b3.size)
    clear B2 D2 b3 RM c0 c1
    have RA := hide (Row.made w3 #[.string (str r.1.1), .string (str r.1.2)] 38)
    have R4 := hide (R3.out.kept (bel_one w3 (.cells #[.string (str r.1.1), .string (str r.1.2)] 38)))
    have B4 := hide (below_next B3.out (bel_one w3 (.cells #[.string (str r.1.1), .string (str r.1.2)] 38)) B3.out.size)
    have D4 := hide (D3.out.step (bel_one w3 (.cells #[.string (str r.1.1), .string (str r.1.2)] 38)) (bel_one w3 (.cells #[.string (str r.1.1), .string (str r.1.2)] 38)).size)
    have c0 := R3.out.c 0 _ rfl
    have c1 := R3.out.c 1 _ rfl
    simp only [List.getElem_toArray, List.getElem_cons_zero, List.getElem_cons_succ] at c0 c1
    have hg3 : g < w3.heap.size := R3.out.lt
    clear R3 B3 D3
    go_wp2_with (fail)
    refine (rapply_n X Y a L L.length c _ hcx hcy (by omega) rfl D4.out).mono ?_
    rw [HA.out]
    rintro e w5 ⟨rfl, b5⟩
    have RA5 := hide (RA.out.kept b5)
    have B5 := hide (below_next B4.out b5 B4.out.size)
    have hg5 : w3.heap.size < w5.heap.size := RA5.out.lt
    clear RA R4 B4 D4 b5 c0 c1
    have a0 := RA5.out.c 0 _ rfl
    have a1 := RA5.out.c 1 _ rfl
    simp only [List.getElem_toArray, List.getElem_cons_zero, List.getElem_cons_succ] at a0 a1
    have hE := eq_two (str r.1.1) (str r.1.2)
    go_wp2
    go_ret
    exact ⟨rfl, B5.out.alloc B5.out.size _⟩
end Go.Proofs.Ytcjojphajjoheaa

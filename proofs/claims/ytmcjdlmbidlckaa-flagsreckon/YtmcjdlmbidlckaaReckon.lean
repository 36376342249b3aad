/-
  The statement FlagsReckon, walked: any operation of any values tells the value and the flags that the chapter says, or is refused: it returns true; nothing older is changed.
-/
import Derived.Test.YtmcjdlmbidlckaaIs
import Derived.Test.YtmcjdlmbidlckaaRAlu
namespace Go.Proofs.Ytmcjdlmbidlckaa
open Go.RowKit

theorem ralu_is (k : Int) (wide : Bool) (a b v : Int) (z s c o i : Bool) (w : World) (ha : I64 a) (hb : I64 b) (hv : aV k wide (tr wide a) (tr wide b) = v) (hz : aZ k wide (tr wide a) (tr wide b) = z) (hs : aS k wide (tr wide a) (tr wide b) = s) (hc : aC k wide (tr wide a) (tr wide b) = c) (ho : aO k wide (tr wide a) (tr wide b) = o) (hi : aK k = i) :
    Calls Try.prog 11 #[.int .i64 k, .bool wide, .int .i64 a, .int .i64 b] w fun e w' => e = .returned (.tuple #[.int .i64 v, .agg #[.bool z, .bool s, .bool c, .bool o], .bool i]) ∧ Below w.heap.size w w' := by
  rw [← hv, ← hz, ← hs, ← hc, ← ho, ← hi]; exact ralu_any k wide a b w ha hb
set_option maxHeartbeats 1000000 in
theorem reckon_walk (k : Int) (wide : Bool) (a b : Int) (w : World) (_hk : I64 k) (ha : I64 a) (hb : I64 b) :
    Calls Try.prog 3 #[.int .i64 k, .bool wide, .int .i64 a, .int .i64 b] w fun e w' => e = .returned (.bool true) ∧ Below w.heap.size w w' := by
  obtain ⟨v, hv⟩ : ∃ v, aV k wide (tr wide a) (tr wide b) = v := ⟨_, rfl⟩
  obtain ⟨z, hz⟩ : ∃ v, aZ k wide (tr wide a) (tr wide b) = v := ⟨_, rfl⟩
  obtain ⟨s, hs⟩ : ∃ v, aS k wide (tr wide a) (tr wide b) = v := ⟨_, rfl⟩
  obtain ⟨c, hc⟩ : ∃ v, aC k wide (tr wide a) (tr wide b) = v := ⟨_, rfl⟩
  obtain ⟨o, ho⟩ : ∃ v, aO k wide (tr wide a) (tr wide b) = v := ⟨_, rfl⟩
  obtain ⟨i, hi⟩ : ∃ v, aK k = v := ⟨_, rfl⟩
  have T := hide (alu_is k wide a b v z s c o i · ha hb hv hz hs hc ho hi)
  have U := hide (ralu_is k wide a b v z s c o i · ha hb hv hz hs hc ho hi)
  clear ha hb hv hz hs hc ho hi
  go_enter Try.func3, Try.ntmps3
  go_wp2_with fail
  refine (examples_any _).mono ?_
  rintro e w1 ⟨rfl, B1⟩
  go_wp2_with fail
  refine (T.out _).mono ?_
  rintro e w2 ⟨rfl, B2⟩
  have D2 := hide (bel_tr B1 B2)
  clear B1 B2
  go_wp2_with fail
  refine (U.out _).mono ?_
  rintro e w3 ⟨rfl, B3⟩
  have F3 := hide ((Fl.made w2 z s c o).kept B3)
  have D3 := hide (bel_tr (bel_al D2.out _) B3)
  have c0 := (F3.out.alloc (.cells #[.bool z, .bool s, .bool c, .bool o] 24)).c0
  have c1 := (F3.out.alloc (.cells #[.bool z, .bool s, .bool c, .bool o] 24)).c1
  have c2 := (F3.out.alloc (.cells #[.bool z, .bool s, .bool c, .bool o] 24)).c2
  have c3 := (F3.out.alloc (.cells #[.bool z, .bool s, .bool c, .bool o] 24)).c3
  have q := eql_same z s c o
  clear B3 D2
  go_wp2_with fail
  refine (trim_any _ _ _).mono ?_
  rintro e w4 ⟨rfl, rfl⟩
  go_wp2_with fail
  refine (rtrim_any _ _ _).mono ?_
  rintro e w4 ⟨rfl, rfl⟩
  go_wp2_with fail
  go_ret
  exact ⟨rfl, bel_al D3.out _⟩
end Go.Proofs.Ytmcjdlmbidlckaa

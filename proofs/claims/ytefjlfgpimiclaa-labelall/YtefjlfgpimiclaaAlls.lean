/-
  The statement LabelAll, walked: of any lists it is told whether all flow to all, as the chapter says: for any inputs it returns true; nothing that lay before the call has turned.
-/
import Derived.Test.YtefjlfgpimiclaaRefAll
namespace Go.Proofs.Ytefjlfgpimiclaa
open Go.RowKit

set_option maxRecDepth 100000 in
set_option maxHeartbeats 2000000 in
theorem alls_like (sa sb : Option Addr) (len ca cb : Nat) (f : Nat → P64) (hlen : len ≤ 9223372036854775807) (w : World)
    (hra : Reads w.heap.size w sa len (fun j => (f j).1.1)) (hrb : Reads w.heap.size w sb len (fun j => (f j).1.2)) :
    Calls Try.prog 4 #[.slice sa len ca, .slice sb len cb] w fun e W' => e = .returned (.bool true) ∧ Below w.heap.size w W' := by
  have hra' := hide hra
  have hrb' := hide hrb
  clear hra hrb
  obtain ⟨r, hr⟩ : ∃ r, al f len = r := ⟨_, rfl⟩
  have hr' := hide hr
  clear hr
  go_enter Try.func4, Try.ntmps4
  go_wp2_with fail
  refine (examples_any _).mono ?_
  rintro e w1 ⟨rfl, rfl⟩
  go_wp2_with fail
  refine ((callsIn_wide (n := 3)).1 (all_in 3 (by omega) sa sb len ca cb f hlen _ hra'.out hrb'.out)).mono ?_
  rintro e w2 ⟨rfl, hb⟩
  rw [hr'.out]
  have hb' := hide hb
  clear hb
  go_wp2_with fail
  refine (r_all sa sb len ca cb f hlen _ _ (hra'.out.below hb'.out) (hrb'.out.below hb'.out)).mono ?_
  rintro e w3 ⟨rfl, m, rfl⟩
  rw [hr'.out]
  go_wp2_with fail
  go_ret
  exact ⟨rfl, hb'.out.trans (below_drewN _ m _)⟩

set_option maxRecDepth 100000 in
set_option maxHeartbeats 2000000 in
theorem alls_unlike (sa sb : Option Addr) (la lb ca cb : Nat) (w : World) (h : la ≠ lb) :
    Calls Try.prog 4 #[.slice sa la ca, .slice sb lb cb] w fun e W' => e = .returned (.bool true) ∧ Below w.heap.size w W' := by
  have h' := hide h
  clear h
  go_enter Try.func4, Try.ntmps4
  go_wp2_with fail
  refine (examples_any _).mono ?_
  rintro e w1 ⟨rfl, rfl⟩
  go_wp2_with fail
  refine (all_unlike sa sb la lb ca cb _ h'.out).mono ?_
  rintro e w2 ⟨rfl, hb⟩
  have hb' := hide hb
  clear hb
  go_wp2_with fail
  refine (r_all_unlike sa sb la lb ca cb _ h'.out).mono ?_
  rintro e w3 ⟨rfl, rfl⟩
  go_wp2_with fail
  go_ret
  exact ⟨rfl, hb'.out⟩

theorem alls (sa sb : Option Addr) (la lb ca cb : Nat) (ga gb : Nat → Int) (w : World) (hla : la ≤ 9223372036854775807)
    (ha : ∀ j, I64 (ga j)) (hb : ∀ j, I64 (gb j)) (hra : Reads w.heap.size w sa la ga) (hrb : Reads w.heap.size w sb lb gb) :
    Calls Try.prog 4 #[.slice sa la ca, .slice sb lb cb] w fun e W' => e = .returned (.bool true) ∧ Below w.heap.size w W' := by
  by_cases h : la = lb
  · subst h
    exact alls_like sa sb la ca cb (fun j => ⟨(ga j, gb j), ha j, hb j⟩) hla w hra hrb
  · exact alls_unlike sa sb la lb ca cb w h
end Go.Proofs.Ytefjlfgpimiclaa

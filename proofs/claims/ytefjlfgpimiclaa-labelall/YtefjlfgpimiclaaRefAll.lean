/-
  The document's own function All, of two lists of the same length: whether what stands at each place flows to what stands there in the other list; of two lists of unlike lengths: no (the program's All too). Nothing that lay before the call has turned.
-/
import Derived.Test.YtefjlfgpimiclaaAll
import Derived.Test.YtefjlfgpimiclaaRef
import Derived.BigQuiet
import Derived.Deep.QuietTactic
import Derived.Deep.Draws
namespace Go.Proofs.Ytefjlfgpimiclaa
open Go.RowKit

theorem below_drewN (n₀ m : Nat) (w : World) : Below n₀ w (w.drewN m) := ⟨rfl, rfl, rfl, Nat.le_refl _, fun _ _ => rfl⟩
theorem al_so {f : Nat → P64} {len : Nat} (h : ∀ j, j < len → fl (f j).1.1 (f j).1.2 = true) : al f len = true := al_yes fun p hp => by
  simp only [upto, List.mem_map, List.mem_range] at hp
  obtain ⟨j, hj, rfl⟩ := hp
  exact h j hj
theorem al_not {f : Nat → P64} {len k : Nat} (hk : k < len) (h : fl (f k).1.1 (f k).1.2 = false) : al f len = false :=
  al_no (k := k + 1) (by omega) ⟨f k, by simp only [upto, List.mem_map, List.mem_range]; exact ⟨k, by omega, rfl⟩, h⟩

set_option maxRecDepth 100000 in
set_option maxHeartbeats 2000000 in
theorem r_all (sa sb : Option Addr) (len ca cb : Nat) (f : Nat → P64) (hlen : len ≤ 9223372036854775807) (n₀ : Nat) (w : World)
    (hra : Reads n₀ w sa len (fun j => (f j).1.1)) (hrb : Reads n₀ w sb len (fun j => (f j).1.2)) :
    Calls Try.prog 22 #[.slice sa len ca, .slice sb len cb] w fun e W' => e = .returned (.bool (al f len)) ∧ ∃ m, W' = w.drewN m := by
  have hra' := hide hra
  have hrb' := hide hrb
  clear hra hrb
  go_enter Try.func22, Try.ntmps22
  go_wp2_with fail
  go_loopw [5] (fun i wr => ∃ k m : Nat, k ≤ len ∧ i = .int .i64 k ∧ Hid (wr = w.drewN m) ∧ Hid (∀ j, j < k → fl (f j).1.1 (f j).1.2 = true)) (fun i _ => len - (intOf i).toNat)
  case atStart => exact ⟨0, 0, Nat.zero_le _, rfl, hide rfl, hide (fun j hj => absurd hj (by omega))⟩
  case round =>
    obtain ⟨k, m, hk, rfl, hw, hso⟩ := hrel
    by_cases hlt : k < len
    · obtain ⟨ba, oa, rfl, hba, hxa⟩ := hra'.out k hlt
      obtain ⟨bb, ob, rfl, hbb, hxb⟩ := hrb'.out k hlt
      have hxa' : wr.cell? ⟨ba, oa + k, none⟩ = some (.int .i64 (f k).1.1) := by rw [hw.out]; exact hxa
      have hxb' : wr.cell? ⟨bb, ob + k, none⟩ = some (.int .i64 (f k).1.2) := by rw [hw.out]; exact hxb
      clear hxa hxb
      cases hx : fl (f k).1.1 (f k).1.2
      · have hx' := hide hx
        clear hx
        go_wp2_with fail
        go_quiet (first | (go_at_call 18; refine Calls.quiet_of_same (r_flows_is _ _ false _ hx'.out)))
        go_wp2_with fail
        go_ret
        exact ⟨ret_bool (al_not hlt hx'.out).symm, m + nq, by rw [hw.out]; exact World.drewN_drewN _ _ _⟩
      · have hx' := hide hx
        clear hx
        go_wp2_with fail
        go_quiet (first | (go_at_call 18; refine Calls.quiet_of_same (r_flows_is _ _ true _ hx'.out)))
        go_wp2_with fail
        go_roundw
        case rel => exact ⟨k + 1, m + nq, by omega, by go_num, hide (by rw [hw.out]; exact World.drewN_drewN _ _ _), hide (fun j hj => by
          by_cases e : j = k
          · subst e; exact hx'.out
          · exact hso.out j (by omega))⟩
        case measure => simp [intOf]; omega
    · obtain rfl : k = len := by omega
      go_wp2_with fail
      go_ret
      exact ⟨ret_bool (al_so hso.out).symm, m, hw.out⟩

theorem r_all_unlike (sa sb : Option Addr) (la lb ca cb : Nat) (w : World) (h : la ≠ lb) :
    Calls Try.prog 22 #[.slice sa la ca, .slice sb lb cb] w fun e W' => e = .returned (.bool false) ∧ W' = w := by
  have h' : ((la : Int) != (lb : Int)) = true := by simp; omega
  clear h
  go_enter Try.func22, Try.ntmps22
  go_wp2_with fail
  go_ret
  exact ⟨rfl, rfl⟩
theorem all_unlike (sa sb : Option Addr) (la lb ca cb : Nat) (w : World) (h : la ≠ lb) :
    Calls Try.prog 21 #[.slice sa la ca, .slice sb lb cb] w fun e W' => e = .returned (.bool false) ∧ Below w.heap.size w W' := by
  have h' : ((la : Int) != (lb : Int)) = true := by simp; omega
  clear h
  go_enter Try.func21, Try.ntmps21
  go_wp2_with fail
  have hc := (Boxed.new w 4 (.bool false)).cell
  refine bodyPost_ret (v := .bool false) (by simp [results, Try.f21, go_sem, hc]) rfl ?_
  exact ⟨rfl, (Below.refl _ w).alloc (Nat.le_refl _) _⟩
end Go.Proofs.Ytefjlfgpimiclaa

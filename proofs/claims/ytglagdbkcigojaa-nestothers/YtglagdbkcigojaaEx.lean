/-
  Two lists of numbers that are the same; instructions of some first bytes; the chapter's examples come out.
-/
import Derived.Test.YtglagdbkcigojaaSame
namespace Go.Proofs.Ytglagdbkcigojaa
open Go.RowKit

set_option maxRecDepth 100000 in
set_option maxHeartbeats 4000000 in
theorem same_ints (va vb : Value) (B1 B2 n : Nat) (xs : List Value) (hx : ∀ j, j < n → ∃ x, xs[j]? = some (.int .i64 x)) (w : World) (h1 : w.ownsRow B1 3 1 va n xs) (h2 : w.ownsRow B2 3 1 vb n xs) (hl : n ≤ 1000) :
    Calls Try.prog 15 #[va, vb] w fun e w' => e = .returned (.bool true) ∧ ∃ q, w' = w.drewN q := by
  obtain ⟨a1, c1, rfl⟩ := own_slice h1
  obtain ⟨a2, c2, rfl⟩ := own_slice h2
  have H1 := hide h1
  have H2 := hide h2
  have HX := hide hx
  clear h1 h2 hx
  go_enter Try.func15, Try.ntmps15
  go_wp2_with fail
  go_loopw [5] (fun i wr => ∃ (k : Nat), k ≤ n ∧ i = .int .i64 k ∧ Hid (∃ q, wr = w.drewN q)) (fun i _ => n - (intOf i).toNat)
  case atStart => exact ⟨0, by omega, rfl, hide ⟨0, rfl⟩⟩
  case round =>
    obtain ⟨k, hk, rfl, hw⟩ := hrel
    by_cases hlt : k < n
    · obtain ⟨q, hq⟩ := hw.out
      have R1 : wr.ownsRow B1 3 1 (.slice a1 n c1) n xs := by rw [hq]; exact own_drew H1.out q
      have R2 : wr.ownsRow B2 3 1 (.slice a2 n c2) n xs := by rw [hq]; exact own_drew H2.out q
      obtain ⟨g1, rfl, _, _, _⟩ := own_some R1 (by omega)
      obtain ⟨g2, rfl, _, _, _⟩ := own_some R2 (by omega)
      obtain ⟨x, F⟩ := HX.out k hlt
      have p1 := (R1.cellAt k (by omega)).trans F
      have q1 := (R2.cellAt k (by omega)).trans F
      have HQ := hide hq
      have hi : (k : Int) < (n : Int) := by omega
      have nb : (x != x) = false := by simp
      clear F R1 R2 hq hw H1 H2 HX
      go_wp2_with fail
      go_quiet (fail)
      go_wp2_with fail
      go_roundw
      case rel => exact ⟨k + 1, by omega, by go_num, hide ⟨_, by rw [HQ.out]; exact (World.drewN_drewN _ _ _)⟩⟩
      case measure => simp [intOf]; omega
    · obtain rfl : k = n := by omega
      go_wp2_with fail
      go_ret
      exact ⟨rfl, hw.out⟩

/-- instructions of first bytes alone -/
def opc (f : Nat → Int) (k : Nat) : List Value := (List.range k).flatMap fun j => [.int .i64 (f j), .int .i64 0, .int .i64 0]
theorem opc_succ (f : Nat → Int) (k : Nat) : opc f (k + 1) = opc f k ++ [.int .i64 (f k), .int .i64 0, .int .i64 0] := by simp [opc, List.range_succ, List.flatMap_append]
theorem opc_len (f : Nat → Int) : ∀ k, (opc f k).length = k * 3
  | 0 => rfl
  | k + 1 => by rw [opc_succ, List.length_append, opc_len f k]; simp; omega
theorem opc_at (f : Nat → Int) : ∀ k j, j < k → (opc f k)[j * 3]? = some (.int .i64 (f j))
  | 0, _, h => absurd h (by omega)
  | k + 1, j, h => by
    rw [opc_succ]
    rcases Nat.lt_or_ge j k with hj | hj
    · rw [List.getElem?_append_left (by rw [opc_len]; omega)]
      exact opc_at f k j hj
    · obtain rfl : j = k := by omega
      rw [List.getElem?_append_right (by rw [opc_len]; omega), opc_len]
      simp
theorem Try.parts47 : (Try.prog.info? 47).map (fun i => (i.zero, i.size, i.bytes)) = some (some (.agg #[.int .i64 0, .int .i64 0, .int .i64 0]), 3, 24) := by kernel_rfl
theorem own_ops {w : World} {B n m c : Nat} {a : Option Addr} {xs : List Value} {f : Nat → Int} (h : w.ownsRow B 47 3 (.slice a m c) n xs) (hx : ∀ j, j < n → xs[j * 3]? = some (.int .i64 (f j))) : Ops w.heap.size w a n f := fun j hj => by
  obtain ⟨g, rfl, rfl, _, _⟩ := own_some h (by omega)
  refine ⟨g, 0, rfl, (h.lt g rfl).2, ?_⟩
  rw [Nat.zero_add]
  exact (h.cellAt (j * 3) (by omega)).trans (hx j hj)
set_option maxRecDepth 100000 in
set_option maxHeartbeats 4000000 in
theorem of_any (b n c : Nat) (f : Nat → Int) (w : World) (hb : b < w.heap.size) (hf : ∀ j, j < n → w.cell? ⟨b, j, none⟩ = some (.int .i64 (f j))) (hl : n ≤ 1000) :
    Calls Try.prog 19 #[.slice (some ⟨b, 0, none⟩) n c] w fun e w' => ∃ a c', e = .returned (.slice a n c') ∧ Ops w'.heap.size w' a n f ∧ Below w.heap.size w w' := by
  obtain ⟨i47, hi47, hprod⟩ := Option.map_eq_some_iff.1 Try.parts47
  simp only [Prod.mk.injEq] at hprod
  obtain ⟨hz0, hz1, hz2⟩ := hprod
  have HF := hide hf
  clear hf
  go_enter Try.func19, Try.ntmps19
  go_wp2_with fail
  go_loopw [3, 4] (fun v i wr => ∃ (k : Nat), k ≤ n ∧ i = .int .i64 k ∧ Hid (wr.ownsRow w.heap.size 47 3 v k (opc f k)) ∧ Below w.heap.size w wr) (fun _ i _ => n - (intOf i).toNat)
  case atStart => exact ⟨0, by omega, rfl, hide (World.ownsRow_nil _ _ _ _), Below.refl _ _⟩
  case round =>
    obtain ⟨k, hk, rfl, how, hbk⟩ := hrel
    have hsz := hbk.size
    by_cases hlt : k < n
    · have hc := (hbk.cell (p := ⟨b, k, none⟩) hb).trans (HF.out k hlt)
      have hown := how.out
      have OW := row_block how.out
      go_wp2_with (at_builtin; refine wpList_append_own _ rfl (.tmp 11) (.tmp 17) 22 rfl w.heap.size 47 i47 (.agg #[.int .i64 0, .int .i64 0, .int .i64 0]) 3 24 Try.underlying22 hi47 hz0 hz1 hz2 rfl (by decide) _ _ _ rfl (hown.alloc _) ⟨wr.heap.size, 0, none⟩ 1 1 [.int .i64 (f k), .int .i64 0, .int .i64 0] rfl rfl (at_cells [.int .i64 (f k), .int .i64 0, .int .i64 0] _ _) (fun x hx => by simp at hx; rcases hx with rfl | rfl <;> rfl) (by unfold maxLen; omega) (by omega) (by simp; omega) ?_)
      intro v' w1 own1 grow1 _
      have O1 : Hid (w1.ownsRow w.heap.size 47 3 v' (k + 1) (opc f (k + 1))) := hide (by rw [opc_succ]; exact own1)
      have B1 := (hbk.alloc hsz (.cells #[.int .i64 (f k), .int .i64 0, .int .i64 0] 47)).grown grow1 (by simp; omega) OW
      clear own1 grow1 hown how hc OW
      go_wp2_with fail
      go_roundw
      case rel => exact ⟨k + 1, by omega, by go_num, O1, B1⟩
      case measure => simp [intOf]; omega
    · obtain rfl : k = n := by omega
      obtain ⟨a, c', hv⟩ := own_slice how.out
      have O1 := hide (own_ops (hv ▸ how.out) (fun j hj => opc_at f k j hj))
      subst hv
      go_wp2_with fail
      go_ret
      exact ⟨_, _, rfl, O1.out, hbk⟩
end Go.Proofs.Ytglagdbkcigojaa

/-
  Slots of any places that come in; the numbers that come in.
-/
import Derived.Test.YtjgaaofpfepfhaaDoorSlo
import Derived.Test.YtjgaaofpfepfhaaDoorFr
import Derived.ChangeSlices
namespace Go.Proofs.YtjgaaofpfepfhaaDoor
open Go.RowKit Go.ChangeShapes Go.WideShapes Go.ChangeAt
set_option linter.unusedSimpArgs false
set_option linter.unusedVariables false
set_option maxRecDepth 100000
/-- Numbers at a place, if there are any. -/
def RdI (B : Nat) (W : World) (a : Option Addr) (len : Nat) (g : Nat → Int) : Prop :=
  ∀ j, j < len → ∃ b off, a = some ⟨b, off, none⟩ ∧ b < B ∧ W.cell? ⟨b, off + j, none⟩ = some (.int .i64 (g j))
theorem RdI.bel {B : Nat} {W W' : World} {a : Option Addr} {len : Nat} {g : Nat → Int} (h : RdI B W a len g) (k : Below B W W') : RdI B W' a len g := fun j hj => by
  obtain ⟨b, off, e, hb, hc⟩ := h j hj
  exact ⟨b, off, e, hb, (k.cell (p := ⟨b, off + j, none⟩) hb).trans hc⟩
theorem RdI.take {B : Nat} {W : World} {a : Option Addr} {len m : Nat} {g : Nat → Int} (h : RdI B W a len g) (hm : m ≤ len) : RdI B W a m g := fun j hj => h j (by omega)
theorem RdI.one {B : Nat} {W : World} {a : Option Addr} {len : Nat} {g : Nat → Int} (h : RdI B W a len g) (h0 : 0 < len) : ∃ b off, a = some ⟨b, off, none⟩ ∧ b < B ∧ ∀ j, j < len → W.cell? ⟨b, off + j, none⟩ = some (.int .i64 (g j)) := by
  obtain ⟨b, off, rfl, hb, _⟩ := h 0 h0
  refine ⟨b, off, rfl, hb, fun j hj => ?_⟩
  obtain ⟨b', off', e, _, hc⟩ := h j hj
  injection e with e
  injection e with e1 e2
  subst e1 e2
  exact hc
theorem cells3i : Tryd.prog.cellsOf 3 = 1 := by kernel_rfl
theorem reads_of {H : Type} {enc : TypeId × Value → H} {W : World} {a0 : Option Addr} {len cap : Nat} {d : DataW H} {p : List MemPlace}
    (h : DataW.Trod enc Tryd.prog W 0 (fun _ => true) true 25 (.slice a0 len cap) d p) :
    ∃ g : Nat → Int, (∀ j, I64 (g j)) ∧ len ≤ cap ∧ len ≤ 9223372036854775807 ∧ RdI W.heap.size W a0 len g := by
  have zero64 : I64 0 := ⟨by decide, by decide⟩
  obtain ⟨fuel, hf⟩ := h
  rcases open_ints Tryd.underlying25 Tryd.underlying3 cells3i hf with ⟨hcs, hx⟩ | ⟨a, len', cap', zs, hcs, _, hl, hm, hz, hx, hcell, hwz⟩
  · simp [Value.cells] at hcs
    obtain ⟨rfl, rfl, rfl⟩ := hcs
    exact ⟨fun _ => 0, fun _ => zero64, by omega, by decide, fun j hj => absurd hj (by omega)⟩
  · simp [Value.cells] at hcs
    obtain ⟨rfl, rfl, rfl⟩ := hcs
    simp only [if_true] at hz
    refine ⟨fun j => zs.getD j 0, fun j => ?_, hl, by unfold maxLen at hm; omega, fun j hj => ?_⟩
    · by_cases hj : j < zs.length
      · have e : zs.getD j 0 = zs[j] := by simp [List.getD, hj]
        show I64 (zs.getD j 0)
        rw [e]; exact wf_i64 (hwz _ (List.getElem_mem hj))
      · have e : zs.getD j 0 = 0 := by simp [List.getD, hj]
        show I64 (zs.getD j 0)
        rw [e]; exact zero64
    · obtain ⟨b, off, spot⟩ := a
      have hspot : spot = none := by simpa [Addr.add] using World.cell?_spot (hcell 0 (by omega))
      subst hspot
      have hc := hcell j (by omega)
      rw [add_lit7] at hc
      exact ⟨b, off, rfl, cell_lt hc, hc⟩
theorem open_nums {H : Type} {enc : TypeId × Value → H} {W : World} {base : Nat} {v : Value} {d : DataW H} {p : List MemPlace} (hv : Value.okWide Tryd.prog W .any base 25 v)
    (h : DataW.Trod enc Tryd.prog W 0 (fun _ => true) true 25 v d p) :
    ∃ (a : Option Addr) (len cap : Nat) (g : Nat → Int), v = .slice a len cap ∧ (∀ j, I64 (g j)) ∧ len ≤ cap ∧ len ≤ 9223372036854775807 ∧ RdI W.heap.size W a len g := by
  obtain ⟨a, len, cap, rfl⟩ := okWide_slice Tryd.underlying25 hv
  obtain ⟨g, h1, h2, h3, h4⟩ := reads_of h
  exact ⟨a, len, cap, g, rfl, h1, h2, h3, h4⟩
set_option maxRecDepth 100000 in
set_option maxHeartbeats 6400000 in
theorem slots_none (a : Option Addr) (c : Nat) (w : World) : Calls Tryd.prog 14 #[.slice a 0 c] w fun e w' => e = .returned (.int .i64 0) ∧ w' = w := by
  go_enter Tryd.func14, Tryd.ntmps14
  go_wp2_with fail
  go_loopw [3, 5, 8] (fun s3 _ s8 wr => s8 = .int .i64 0 ∧ s3 = .int .i64 5 ∧ wr = w) (fun _ _ s8 _ => 0)
  case atStart => exact ⟨rfl, rfl, rfl⟩
  case round =>
    obtain ⟨rfl, rfl, rfl⟩ := hrel
    go_wp2_with fail
    go_ret
    exact ⟨rfl, rfl⟩
set_option maxRecDepth 100000 in
set_option maxHeartbeats 6400000 in
theorem rslots_none (a : Option Addr) (c : Nat) (w : World) : Calls Tryd.prog 15 #[.slice a 0 c] w fun e w' => e = .returned (.int .i64 0) ∧ w' = w := by
  go_enter Tryd.func15, Tryd.ntmps15
  go_wp2_with fail
  go_loopw [3, 4] (fun s3 s4 wr => s4 = .int .i64 0 ∧ s3 = .int .i64 0 ∧ wr = w) (fun _ s4 _ => 0)
  case atStart => exact ⟨rfl, rfl, rfl⟩
  case round =>
    obtain ⟨rfl, rfl, rfl⟩ := hrel
    go_wp2_with fail
    go_ret
    exact ⟨rfl, rfl⟩
set_option maxRecDepth 100000 in
set_option maxHeartbeats 6400000 in
theorem slots_at (r o n c : Nat) (pl : Nat → Int) (w : World) (hn : n ≤ 1000) (hp : ∀ i, i < n → pl i ≤ 9223372036854775807) (hc : ∀ i, i < n → w.cell? ⟨r, o + i, none⟩ = some (.int .i64 (pl i))) :
    Calls Tryd.prog 14 #[.slice (some ⟨r, o, none⟩) n c] w fun e w' => e = .returned (.int .i64 (grt pl n - 5)) ∧ w' = w := by
  have HC := hide hc
  have HG := hide (grt_le (b := 9223372036854775807) (by omega) hp)
  clear hc hp
  go_enter Tryd.func14, Tryd.ntmps14
  go_wp2_with fail
  go_loopw [3, 5, 8] (fun s3 _ s8 wr => ∃ k : Nat, k ≤ n ∧ s8 = .int .i64 (k : Int) ∧ s3 = .int .i64 (grt pl k) ∧ wr = w) (fun _ _ s8 _ => n - (intOf s8).toNat)
  case atStart => exact ⟨0, Nat.zero_le _, rfl, rfl, rfl⟩
  case round =>
    obtain ⟨k, hk, rfl, rfl, rfl⟩ := hrel
    by_cases hlt : k < n
    · have hx := HC.out k hlt
      have h1 : (k : Int) < (n : Int) := by omega
      have h0 : (0 : Int) ≤ (k : Int) := by omega
      have hg : Hid (grt pl (k + 1) = max (grt pl k) (pl k)) := rfl
      go_wp2_with fail
      go_roundw
      case rel => exact ⟨k + 1, hlt, by go_num, by rw [hg.out], trivial⟩
      case measure => simp [intOf]; omega
    · obtain rfl : k = n := by omega
      have h1 : ¬ (k : Int) < (k : Int) := by omega
      have hg := HG.out k (Nat.le_refl _)
      go_wp2_with fail
      go_ret
      refine ⟨?_, rfl⟩
      show Ending.returned (.int .i64 (grt pl k - 6 + 1)) = _
      rw [show grt pl k - 6 + 1 = grt pl k - 5 by omega]
set_option maxRecDepth 100000 in
set_option maxHeartbeats 6400000 in
theorem rslots_at (r o n c : Nat) (pl : Nat → Int) (w : World) (hn : n ≤ 1000) (hp : ∀ i, i < n → -1099511627776 ≤ pl i ∧ pl i ≤ 9223372036854775807) (hc : ∀ i, i < n → w.cell? ⟨r, o + i, none⟩ = some (.int .i64 (pl i))) :
    Calls Tryd.prog 15 #[.slice (some ⟨r, o, none⟩) n c] w fun e w' => e = .returned (.int .i64 (grt pl n - 5)) ∧ w' = w := by
  have HC := hide hc
  have HP := hide hp
  have HG := hide (grt_le (b := 9223372036854775807) (by omega) (fun i hi => (hp i hi).2))
  clear hc hp
  go_enter Tryd.func15, Tryd.ntmps15
  go_wp2_with fail
  go_loopw [3, 4] (fun s3 s4 wr => ∃ k : Nat, k ≤ n ∧ s4 = .int .i64 (k : Int) ∧ s3 = .int .i64 (grt pl k - 5) ∧ wr = w) (fun _ s4 _ => n - (intOf s4).toNat)
  case atStart => exact ⟨0, Nat.zero_le _, rfl, rfl, rfl⟩
  case round =>
    obtain ⟨k, hk, rfl, rfl, rfl⟩ := hrel
    by_cases hlt : k < n
    · have hx := HC.out k hlt
      have h1 : (k : Int) < (n : Int) := by omega
      have h0 : (0 : Int) ≤ (k : Int) := by omega
      have hpk := HP.out k hlt
      have hg : Hid (grt pl (k + 1) - 5 = max (grt pl k - 5) (pl k - 5)) := by
        show max (grt pl k) (pl k) - 5 = _
        omega
      generalize pl k = pk at *
      go_wp2_with fail
      go_roundw
      case rel => exact ⟨k + 1, hlt, by go_num, by rw [hg.out], trivial⟩
      case measure => simp [intOf]; omega
    · obtain rfl : k = n := by omega
      have h1 : ¬ (k : Int) < (k : Int) := by omega
      go_wp2_with fail
      go_ret
      exact ⟨rfl, rfl⟩
/-- Of numbers that come in. -/
theorem slots_in {B : Nat} {a : Option Addr} {n c : Nat} {g : Nat → Int} {w : World} (h : RdI B w a n g) (hn : n ≤ 1000) (hp : ∀ i, i < n → g i ≤ 9223372036854775807) :
    Calls Tryd.prog 14 #[.slice a n c] w fun e w' => e = .returned (.int .i64 (grt g n - 5)) ∧ w' = w := by
  rcases Nat.eq_zero_or_pos n with rfl | h0
  · exact slots_none a c w
  · obtain ⟨b, o, rfl, _, hc⟩ := h.one h0
    exact slots_at b o n c g w hn hp hc
theorem rslots_in {B : Nat} {a : Option Addr} {n c : Nat} {g : Nat → Int} {w : World} (h : RdI B w a n g) (hn : n ≤ 1000) (hp : ∀ i, i < n → -1099511627776 ≤ g i ∧ g i ≤ 9223372036854775807) :
    Calls Tryd.prog 15 #[.slice a n c] w fun e w' => e = .returned (.int .i64 (grt g n - 5)) ∧ w' = w := by
  rcases Nat.eq_zero_or_pos n with rfl | h0
  · exact rslots_none a c w
  · obtain ⟨b, o, rfl, _, hc⟩ := h.one h0
    exact rslots_at b o n c g w hn hp hc
end Go.Proofs.YtjgaaofpfepfhaaDoor

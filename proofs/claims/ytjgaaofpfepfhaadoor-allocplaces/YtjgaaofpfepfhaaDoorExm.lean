/-
  The law's examples.
-/
import Derived.Test.YtjgaaofpfepfhaaDoorEx3
import Derived.Test.YtjgaaofpfepfhaaDoorNmv
namespace Go.Proofs.YtjgaaofpfepfhaaDoor
open Go.RowKit
set_option linter.unusedSimpArgs false
set_option linter.unusedVariables false
def row4 : Array Value := #[.int .i64 1, .int .i64 0, .int .i64 0, .int .i64 0, .int .i64 0, .int .i64 0, .int .i64 0, .int .i64 1, .int .i64 1, .int .i64 0, .int .i64 0, .int .i64 0, .int .i64 0, .int .i64 0, .int .i64 3, .int .i64 0, .int .i64 0, .int .i64 1, .int .i64 0, .int .i64 0, .int .i64 0, .int .i64 15, .int .i64 0, .int .i64 0, .int .i64 0, .int .i64 0, .int .i64 0, .int .i64 0]
def row3 : Array Value := #[.int .i64 1, .int .i64 0, .int .i64 0, .int .i64 0, .int .i64 0, .int .i64 0, .int .i64 0, .int .i64 14, .int .i64 (-1), .int .i64 0, .int .i64 0, .int .i64 0, .int .i64 0, .int .i64 0, .int .i64 15, .int .i64 0, .int .i64 0, .int .i64 0, .int .i64 0, .int .i64 0, .int .i64 0]
theorem ir4 (w : World) : IR (w.alloc (.cells row4 43)).heap.size (w.alloc (.cells row4 43)) (some ⟨w.heap.size, 0, none⟩) L4 := fun j hj => by
  have e := heap_alloc_new w (.cells row4 43)
  have hs : w.heap.size < (w.alloc (.cells row4 43)).heap.size := by simp
  generalize w.alloc (.cells row4 43) = W at *
  unfold row4 at e
  refine ⟨w.heap.size, 0, rfl, hs, ?_, ?_⟩
  · match j, hj with
    | 0, _ => constructor <;> simp [World.cell?, e, L4]
    | 1, _ => constructor <;> simp [World.cell?, e, L4]
    | 2, _ => constructor <;> simp [World.cell?, e, L4]
    | 3, _ => constructor <;> simp [World.cell?, e, L4]
    | j + 4, h => exact absurd h (by simp [L4])
  · match j, hj with
    | 0, _ => simp [L4, Ir.ok, I64]
    | 1, _ => simp [L4, Ir.ok, I64]
    | 2, _ => simp [L4, Ir.ok, I64]
    | 3, _ => simp [L4, Ir.ok, I64]
    | j + 4, h => exact absurd h (by simp [L4])
theorem ir3 (w : World) : IR (w.alloc (.cells row3 43)).heap.size (w.alloc (.cells row3 43)) (some ⟨w.heap.size, 0, none⟩) L3 := fun j hj => by
  have e := heap_alloc_new w (.cells row3 43)
  have hs : w.heap.size < (w.alloc (.cells row3 43)).heap.size := by simp
  generalize w.alloc (.cells row3 43) = W at *
  unfold row3 at e
  refine ⟨w.heap.size, 0, rfl, hs, ?_, ?_⟩
  · match j, hj with
    | 0, _ => constructor <;> simp [World.cell?, e, L3]
    | 1, _ => constructor <;> simp [World.cell?, e, L3]
    | 2, _ => constructor <;> simp [World.cell?, e, L3]
    | j + 3, h => exact absurd h (by simp [L3])
  · match j, hj with
    | 0, _ => simp [L3, Ir.ok, I64]
    | 1, _ => simp [L3, Ir.ok, I64]
    | 2, _ => simp [L3, Ir.ok, I64]
    | j + 3, h => exact absurd h (by simp [L3])
theorem two_nv (W : World) : Nv 0 (.slice (some ⟨W.heap.size, 0, none⟩) 2 2) [0, 1] (W.alloc (.cells #[.int .i64 0, .int .i64 1] 3)) := by
  have x := heap_alloc_new W (.cells #[.int .i64 0, .int .i64 1] 3)
  refine Or.inr ⟨_, 2, rfl, Nat.zero_le _, by simp, fun j hj => ?_⟩
  match j, hj with
  | 0, _ => simp only [World.cell?, x]; rfl
  | 1, _ => simp only [World.cell?, x]; rfl
  | j + 2, h => exact absurd h (by simp)
theorem one_nv (W : World) : Nv 0 (.slice (some ⟨W.heap.size, 0, none⟩) 1 1) [6] (W.alloc (.cells #[.int .i64 6] 3)) := by
  have x := heap_alloc_new W (.cells #[.int .i64 6] 3)
  refine Or.inr ⟨_, 1, rfl, Nat.zero_le _, by simp, fun j hj => ?_⟩
  match j, hj with
  | 0, _ => simp only [World.cell?, x]; rfl
  | j + 1, h => exact absurd h (by simp)
theorem vr_nv {r n c : Nat} {pl : Nat → Int} {ns : List Int} {W : World} (h : VRow r n (fun i => .int .i64 (pl i)) W) (hl : ns.length = n) (e : ∀ i (hi : i < ns.length), pl i = ns[i]) : Nv 0 (.slice (some ⟨r, 0, none⟩) n c) ns W := by
  subst hl
  exact Or.inr ⟨r, c, rfl, Nat.zero_le _, h.lt, fun j hj => by rw [h.c j hj, e j hj]⟩
theorem alloc4 (q : Option Addr) (w : World) (hr : IR w.heap.size w q L4) (hT : Laid w) (hw0 : 0 < w.heap.size) : Calls Tryd.prog 7 #[.agg #[.int .i64 2, .int .i64 0, .slice q 4 4, .int .i64 0]] w fun e w' => ∃ (r : Nat) (pl : Nat → Int), e = .returned (.tuple #[.slice (some ⟨r, 0, none⟩) 2 2, .int .i64 0]) ∧ VRow r 2 (fun i => .int .i64 (pl i)) w' ∧ pl 0 = 0 ∧ pl 1 = 1 ∧ Below w.heap.size w w' := by
  have A : Calls Tryd.prog 7 #[.agg #[.int .i64 2, .int .i64 0, .slice q 4 4, .int .i64 0]] w (AEnds ⟨2, 0, 0⟩ L4 w) := callsIn_wide.1 (alloc_in 4 (by omega) ⟨2, 0, 0⟩ q 4 L4 w (by decide) hr hT hw0)
  refine A.mono ?_
  rintro e w' (⟨hf, _⟩ | ⟨hf, n, m, r, A1, F1, S, pl, hn, hm, rfl, hr, hv, hs, hS, hp, b1⟩)
  · rw [fit4] at hf; cases hf
  · obtain rfl : n = 2 := by have : (2 : Int) = n := hn; omega
    obtain rfl : m = 0 := by have : (0 : Int) = m := hm; omega
    have hp' : Plc (nmT L4 0 4) (crT L4 F1 4) S 2 pl := hp
    rw [nm4, cr4] at hp'
    obtain ⟨z0, z1⟩ := pl4 hp' (by rw [hS 1 (by omega) 0]; exact st4 hs)
    exact ⟨r, pl, rfl, hv, z0, z1, b1⟩
theorem alloc3 (q : Option Addr) (w : World) (hr : IR w.heap.size w q L3) (hT : Laid w) (hw0 : 0 < w.heap.size) : Calls Tryd.prog 7 #[.agg #[.int .i64 1, .int .i64 0, .slice q 3 3, .int .i64 0]] w fun e w' => ∃ (r : Nat) (pl : Nat → Int), e = .returned (.tuple #[.slice (some ⟨r, 0, none⟩) 1 1, .int .i64 0]) ∧ VRow r 1 (fun i => .int .i64 (pl i)) w' ∧ pl 0 = 6 ∧ Below w.heap.size w w' := by
  have A : Calls Tryd.prog 7 #[.agg #[.int .i64 1, .int .i64 0, .slice q 3 3, .int .i64 0]] w (AEnds ⟨1, 0, 0⟩ L3 w) := callsIn_wide.1 (alloc_in 4 (by omega) ⟨1, 0, 0⟩ q 3 L3 w (by decide) hr hT hw0)
  refine A.mono ?_
  rintro e w' (⟨hf, _⟩ | ⟨hf, n, m, r, A1, F1, S, pl, hn, hm, rfl, hr, hv, hs, hS, hp, b1⟩)
  · rw [fit3] at hf; cases hf
  · obtain rfl : n = 1 := by have : (1 : Int) = n := hn; omega
    obtain rfl : m = 0 := by have : (0 : Int) = m := hm; omega
    have hp' : Plc (nmT L3 0 3) (crT L3 F1 3) S 1 pl := hp
    rw [nm3, cr3 (sol3 hs)] at hp'
    exact ⟨r, pl, rfl, hv, pl3 hp', b1⟩
set_option maxRecDepth 100000 in
set_option maxHeartbeats 6400000 in
theorem examples_any (w : World) (hT : Laid w) (hw0 : 0 < w.heap.size) : Calls Tryd.prog 6 #[] w fun e w' => e = .returned (.bool true) ∧ Below w.heap.size w w' := by
  have HT := hide hT
  have E0 := ir4 w
  have I3 := hide (fun U => ir3 U)
  unfold row4 at E0
  unfold row3 at I3
  clear hT
  go_enter Tryd.func6, Tryd.ntmps6
  go_wp2_with fail
  refine gw (motive := fun x => Calls _ _ _ x _) (fun W => Hid (IR W.heap.size W (some ⟨w.heap.size, 0, none⟩) L4) ∧ Hid (Below w.heap.size w W)) ⟨E0, bel_one _ _⟩ ?_
  rintro W ⟨HE, HB⟩
  clear E0
  refine (alloc4 _ W HE.out (HT.out.kept HB.out hw0) (by have := HB.out.size; omega)).mono ?_
  rintro e W1 ⟨r, pl, rfl, hv, z0, z1, b1⟩
  have HB1 := hide (HB.out.trans (b1.mono HB.out.size))
  have HV1 := hide hv
  clear b1 hv HE
  have I3W := I3.out W1
  clear I3
  go_wp2_with fail
  refine gw (motive := fun x => Calls _ _ _ x _) (fun W => Hid (IR W.heap.size W (some ⟨W1.heap.size, 0, none⟩) L3) ∧ Hid (Below W1.heap.size W1 W)) ⟨I3W, bel_one _ _⟩ ?_
  rintro W2 ⟨HE2, HK2⟩
  clear I3W
  have HB2 := hide (HB1.out.trans (HK2.out.mono HB1.out.size))
  refine (alloc3 _ W2 HE2.out (HT.out.kept HB2.out hw0) (by have := HB2.out.size; omega)).mono ?_
  rintro e W3 ⟨r3, pl3, rfl, hv3, y0, b3⟩
  have HB3 := hide (HB2.out.trans (b3.mono HB2.out.size))
  have HV1b := hide ((HV1.out.of (HK2.out.block _ HV1.out.lt)).of (b3.block _ (Nat.lt_of_lt_of_le HV1.out.lt HK2.out.size)))
  have HV3 := hide hv3
  clear b3 hv3 HE2 HV1 HK2
  have hk := hide (bel_one W3 (.cells #[.int .i64 0, .int .i64 1] 3))
  have N1 := hide ((vr_nv (ns := [0, 1]) (c := 2) HV1b.out rfl (fun i hi => by match i, hi with | 0, _ => exact z0 | 1, _ => exact z1 | i + 2, h => exact absurd h (by simp))).kept hk.out)
  have N2 := hide (two_nv W3)
  go_wp2_with fail
  refine (numbers_nv N1.out N2.out (by simp)).mono ?_
  rintro e W4 ⟨rfl, b4⟩
  have HB4 := hide ((HB3.out.trans (hk.out.mono HB3.out.size)).trans (b4.mono (Nat.le_trans HB3.out.size hk.out.size)))
  have HV1c := hide ((HV1b.out.of (hk.out.block _ HV1b.out.lt)).of (b4.block _ (Nat.lt_of_lt_of_le HV1b.out.lt hk.out.size)))
  have HV3c := hide ((HV3.out.of (hk.out.block _ HV3.out.lt)).of (b4.block _ (Nat.lt_of_lt_of_le HV3.out.lt hk.out.size)))
  clear b4 N1 N2 hk HV1b HV3
  have hk := hide (bel_one W4 (.cells #[.int .i64 6] 3))
  have N1 := hide ((vr_nv (ns := [6]) (c := 1) HV3c.out rfl (fun i hi => by match i, hi with | 0, _ => exact y0 | i + 1, h => exact absurd h (by simp))).kept hk.out)
  have N2 := hide (one_nv W4)
  go_wp2_with fail
  refine (numbers_nv N1.out N2.out (by simp)).mono ?_
  rintro e W5 ⟨rfl, b5⟩
  have HB5 := hide ((HB4.out.trans (hk.out.mono HB4.out.size)).trans (b5.mono (Nat.le_trans HB4.out.size hk.out.size)))
  have HV1d := hide ((HV1c.out.of (hk.out.block _ HV1c.out.lt)).of (b5.block _ (Nat.lt_of_lt_of_le HV1c.out.lt hk.out.size)))
  have HV3d := hide ((HV3c.out.of (hk.out.block _ HV3c.out.lt)).of (b5.block _ (Nat.lt_of_lt_of_le HV3c.out.lt hk.out.size)))
  clear b5 N1 N2 hk HV1c HV3c
  have S3 := hide (slots_any r3 1 1 pl3 W5 (by omega) (fun i hi => by have e : i = 0 := (by omega); subst e; rw [y0]; omega) HV3d.out.c)
  have S1 := hide (slots_any r 2 2 pl W5 (by omega) (fun i hi => by match i, hi with | 0, _ => rw [z0]; omega | 1, _ => rw [z1]; omega | i + 2, h => omega) HV1d.out.c)
  have g3 : grt pl3 1 - 5 = 1 := by unfold grt; unfold grt; rw [y0]; decide
  have g1 : grt pl 2 - 5 = 0 := by unfold grt; unfold grt; unfold grt; rw [z0, z1]; decide
  rw [g3] at S3
  rw [g1] at S1
  clear g1 g3
  go_wp2_with fail
  refine S3.out.mono ?_
  rintro e W6 ⟨rfl, rfl⟩
  go_wp2_with fail
  refine S1.out.mono ?_
  rintro e W7 ⟨rfl, rfl⟩
  go_wp2_with fail
  go_ret
  exact ⟨rfl, HB5.out⟩
end Go.Proofs.YtjgaaofpfepfhaaDoor

/-
  What becomes of a fault that a check left with: told, and the function that recovers.
  The program's check of a whole module: what leaves by a panic is recovered.
  The heights of all functions in memory, while check goes through them. No walk.
-/
import Derived.Test.YtamofhkmhjckaabGreatDoorChkF
import Derived.Defers
import Derived.Recover
import Derived.Test.YtamofhkmhjckaabGreatDoorChkS
import Derived.Test.YtamofhkmhjckaabGreatDoorChkD
import Derived.Test.YtamofhkmhjckaabGreatDoorFitsB
import Derived.Test.YtamofhkmhjckaabGreatDoorTrustP
import Derived.Deep.AppendLies
namespace Go.Proofs.YtamofhkmhjckaabGreatDoor
open Go.RowKit

theorem Tryz.isErr (v : Value) (xT : TypeId) (w : World) : (Instr.typeAssert (.iface 61 v) xT 32 true).run Tryz.prog w = .ok (.tuple #[.iface 61 v, .bool true]) w := run_typeAssert_hasB Tryz.underlying32 (by kernel_rfl) v xT w
theorem heap_set_one {w : World} {b : Nat} {v : Value} {ty : TypeId} (h : w.heap[b]? = some (.cells #[v] ty (0, 0))) (x : Value) : (w.setCell ⟨b, 0, none⟩ x).heap[b]? = some (.cells #[x] ty (0, 0)) := by
  simp [World.setCell, Array.getElem?_modify, h]
set_option maxRecDepth 100000 in
set_option maxHeartbeats 1600000 in
theorem vtold_fault (p : Nat) (c a : Int) (w : World) (hL : Laid w) (hf : FaultAt w p c a) :
    Calls Tryz.prog 23 #[flt p] w fun e w' => e = .returned (flt p) ∧ FaultAt w' p c a ∧ Below w.heap.size w w' := by
  have hT := Tryz.isErr
  unfold flt
  go_enter Tryz.func23, Tryz.ntmps23
  go_wp2_with (fail)
  refine (vfault_any 3 0 w).mono ?_
  rintro e w1 ⟨rfl, _, b1⟩
  have L1 := hL.kept b1
  have F1 := hf.kept b1
  have hb1 := b1.size
  clear hL hf
  go_wp2_with (fail)
  have L2 : Laid (w1.alloc (.cells #[.pointer (some ⟨w.heap.size, 0, none⟩)] 61)) := L1.kept (bel_one _ _)
  have F2 : FaultAt (w1.alloc (.cells #[.pointer (some ⟨w.heap.size, 0, none⟩)] 61)) p c a := F1.kept (bel_one _ _)
  have hc2 : (w1.alloc (.cells #[.pointer (some ⟨w.heap.size, 0, none⟩)] 61)).cell? ⟨w1.heap.size, 0, none⟩ = some (.pointer (some ⟨w.heap.size, 0, none⟩)) := by simp [go_sem]
  have hf2 : (w1.alloc (.cells #[.pointer (some ⟨w.heap.size, 0, none⟩)] 61)).frozen? ⟨w1.heap.size, 0, none⟩ = false := by simp [go_sem]
  have B2 := b1.alloc hb1 (.cells #[.pointer (some ⟨w.heap.size, 0, none⟩)] 61)
  have hz2 : (w1.alloc (.cells #[.pointer (some ⟨w.heap.size, 0, none⟩)] 61)).heap.size = w1.heap.size + 1 := by simp
  have hpl : p < w1.heap.size := F1.lt
  have hbk : (w1.alloc (.cells #[.pointer (some ⟨w.heap.size, 0, none⟩)] 61)).heap[w1.heap.size]? = some (.cells #[.pointer (some ⟨w.heap.size, 0, none⟩)] 61 (0, 0)) := heap_alloc_new w1 _
  generalize w1.alloc _ = w2 at L2 F2 hc2 hf2 B2 hz2 hbk ⊢
  refine (as_hit ⟨p, 0, none⟩ ⟨w1.heap.size, 0, none⟩ _ w2 L2 hc2 hf2).mono ?_
  rintro e w3 ⟨rfl, h3⟩
  have B3 : Below w.heap.size w w3 := by
    rw [h3]
    exact (((((B2.alloc (by omega) _).alloc (by simp; omega) _).alloc (by simp; omega) _).alloc (by simp; omega) _).setCell (by show _ ≤ w1.heap.size; exact hb1) _)
  have F3 : FaultAt w3 p c a := by
    rw [h3]
    unfold FaultAt at *
    rw [Below.heap_setCell _ _ _ _ (by show p ≠ w1.heap.size; omega)]
    have k : Below w2.heap.size w2 ((((w2.alloc (.cells #[.pointer (some ⟨w1.heap.size, 0, none⟩)] 68)).alloc (.cells #[.pointer (some ⟨1, 68, none⟩), .pointer (some ⟨w2.heap.size, 0, none⟩), .int .u64 150] 80)).alloc (.cells #[.pointer (some ⟨1, 68, none⟩), .pointer (some ⟨w2.heap.size, 0, none⟩), .int .u64 150] 80)).alloc (.cells #[.pointer (some ⟨p, 0, none⟩)] 61)) :=
      ((((Below.refl _ _).alloc (Nat.le_refl _) _).alloc (by simp) _).alloc (by simp; omega) _).alloc (by simp; omega) _
    rw [k.block p (by omega)]; exact F2
  have c3 : w3.cell? ⟨w1.heap.size, 0, none⟩ = some (.pointer (some ⟨p, 0, none⟩)) := by
    rw [h3]
    have k : Below w2.heap.size w2 ((((w2.alloc (.cells #[.pointer (some ⟨w1.heap.size, 0, none⟩)] 68)).alloc (.cells #[.pointer (some ⟨1, 68, none⟩), .pointer (some ⟨w2.heap.size, 0, none⟩), .int .u64 150] 80)).alloc (.cells #[.pointer (some ⟨1, 68, none⟩), .pointer (some ⟨w2.heap.size, 0, none⟩), .int .u64 150] 80)).alloc (.cells #[.pointer (some ⟨p, 0, none⟩)] 61)) :=
      ((((Below.refl _ _).alloc (Nat.le_refl _) _).alloc (by simp) _).alloc (by simp; omega) _).alloc (by simp; omega) _
    have hb3 := k.block w1.heap.size (by omega)
    rw [hbk] at hb3
    exact cell_of (heap_set_one hb3 _)
  clear h3 B2 F2 L2 hc2 hf2
  go_wp2
  go_ret
  exact ⟨rfl, F3, B3⟩
/-- The function that recovers, where nothing was left by a panic. -/
theorem catch_idle (p q : Addr) (w : World) :
    CallsD Tryz.prog 22 #[.pointer (some p), .pointer (some q)] .returning w fun e u' w' => e = .returned (.tuple #[]) ∧ u' = .returning ∧ w' = w := by
  refine callsD_of_wpS Tryz.func22 rfl fun c₀ cs hu => ?_
  apply wpS_seq
  apply wpS_region
  simp [wpOpsS, go_sem, recoverD, hu, Tryz.ntmps22, Exit.thenS]
  refine wpS_of_wp ?_
  go_wp2
  cases c₀
  simp_all [bodyPostS, results, Tryz.results22]
/-- .. where a fault was. -/
theorem catch_fault (b0 b1 : Nat) (v0 v1 : Value) (p : Nat) (c a : Int) (w : World) (hL : Laid w) (hf : FaultAt w p c a) (h0 : w.heap[b0]? = some (.cells #[v0] 58 (0, 0))) (h1 : w.heap[b1]? = some (.cells #[v1] 32 (0, 0))) (hne : b0 ≠ b1) :
    CallsD Tryz.prog 22 #[.pointer (some ⟨b0, 0, none⟩), .pointer (some ⟨b1, 0, none⟩)] (.panicking [{ v := flt p, recovered := false }]) w fun e u' w' =>
      e = .returned (.tuple #[]) ∧ u' = .panicking [{ v := flt p, recovered := true }] ∧ ∃ w1, Below w.heap.size w w1 ∧ FaultAt w1 p c a ∧ w' = (w1.setCell ⟨b0, 0, none⟩ (.slice none 0 0)).setCell ⟨b1, 0, none⟩ (flt p) := by
  have VT := hide (vtold_fault p c a w hL hf)
  unfold flt at *
  refine callsD_of_wpS Tryz.func22 rfl fun c₀ cs hu => ?_
  apply wpS_seq
  apply wpS_region
  simp [wpOpsS, go_sem, recoverD, hu, Tryz.ntmps22, Exit.thenS]
  refine wpS_of_wp ?_
  go_wp2_with (fail)
  refine VT.out.mono ?_
  rintro e w1 ⟨rfl, F1, B1⟩
  have k0 : w1.heap[b0]? = some (.cells #[v0] 58 (0, 0)) := by rw [B1.block b0 (lt_of_block h0)]; exact h0
  have k1 : w1.heap[b1]? = some (.cells #[v1] 32 (0, 0)) := by rw [B1.block b1 (lt_of_block h1)]; exact h1
  have c0 := cell_of k0
  have c1 := cell_of k1
  have f0 : w1.frozen? ⟨b0, 0, none⟩ = false := by simp [World.frozen?, k0]
  have f1 : w1.frozen? ⟨b1, 0, none⟩ = false := by simp [World.frozen?, k1]
  have hne' : b1 ≠ b0 := fun h => hne h.symm
  clear h0 h1 k0 k1 VT
  go_wp2
  simp [bodyPostS, results, Tryz.results22]
  exact ⟨w1, B1, F1, rfl⟩
end Go.Proofs.YtamofhkmhjckaabGreatDoor
namespace Go.Proofs.YtamofhkmhjckaabGreatDoor
open Go.RowKit

/-- The variables of check: the module, the heights, the error. -/
structure ChkAt (w : World) (cs : Array Value) (hv ev : Value) (W : World) : Prop where
  below : Below w.heap.size w W
  m : Row W w.heap.size cs 29
  h : W.heap[w.heap.size + 1]? = some (.cells #[hv] 58 (0, 0))
  e : W.heap[w.heap.size + 1 + 1]? = some (.cells #[ev] 32 (0, 0))
theorem start_at (w : World) (cs : Array Value) : ChkAt w cs (.slice none 0 0) .nilIface (((w.alloc (.cells cs 29)).alloc (.cells #[.slice none 0 0] 58)).alloc (.cells #[.nilIface] 32)) := by
  have z1 : (w.alloc (.cells cs 29)).heap.size = w.heap.size + 1 := by simp
  have z2 : ((w.alloc (.cells cs 29)).alloc (.cells #[.slice none 0 0] 58)).heap.size = w.heap.size + 1 + 1 := by simp
  refine ⟨((bel_one w _).alloc (by simp) _).alloc (by simp; omega) _, ((Row.made w cs 29).kept (bel_one _ _)).kept (bel_one _ _), ?_, ?_⟩
  · have h := (Row.made (w.alloc (.cells cs 29)) #[.slice none 0 0] 58).kept (bel_one _ (.cells #[.nilIface] 32))
    rw [z1] at h; exact h
  · have h := Row.made ((w.alloc (.cells cs 29)).alloc (.cells #[.slice none 0 0] 58)) #[.nilIface] 32
    rw [z2] at h; exact h
theorem ChkAt.next {w W W' : World} {cs : Array Value} {hv ev : Value} (h : ChkAt w cs hv ev W) (k : Below W.heap.size W W') : ChkAt w cs hv ev W' :=
  ⟨h.below.trans (k.mono h.below.size), h.m.kept k, by rw [k.block _ (lt_of_block h.h)]; exact h.h, by rw [k.block _ (lt_of_block h.e)]; exact h.e⟩
/-- What stands in the variables behind a fault that was caught. -/
theorem ChkAt.caught {w w3 : World} {cs : Array Value} {hv ev : Value} {p : Nat} {c a : Int} (A : ChkAt w cs hv ev w3) (F : FaultAt w3 p c a) :
    ((w3.setCell ⟨w.heap.size + 1, 0, none⟩ (.slice none 0 0)).setCell ⟨w.heap.size + 1 + 1, 0, none⟩ (flt p)).cell? ⟨w.heap.size + 1, 0, none⟩ = some (.slice none 0 0) ∧
    ((w3.setCell ⟨w.heap.size + 1, 0, none⟩ (.slice none 0 0)).setCell ⟨w.heap.size + 1 + 1, 0, none⟩ (flt p)).cell? ⟨w.heap.size + 1 + 1, 0, none⟩ = some (flt p) ∧
    FaultAt ((w3.setCell ⟨w.heap.size + 1, 0, none⟩ (.slice none 0 0)).setCell ⟨w.heap.size + 1 + 1, 0, none⟩ (flt p)) p c a ∧
    Below w.heap.size w ((w3.setCell ⟨w.heap.size + 1, 0, none⟩ (.slice none 0 0)).setCell ⟨w.heap.size + 1 + 1, 0, none⟩ (flt p)) := by
  have n1 : p ≠ w.heap.size + 1 := fun e => by
    have h := A.h; unfold FaultAt at F; rw [← e, F] at h; simp at h
  have n2 : p ≠ w.heap.size + 1 + 1 := fun e => by
    have h := A.e; unfold FaultAt at F; rw [← e, F] at h; simp at h
  refine ⟨cell_of (ty := 58) ?_, cell_of (ty := 32) ?_, ?_, ?_⟩
  · rw [Below.heap_setCell _ _ _ _ (by show w.heap.size + 1 ≠ w.heap.size + 1 + 1; omega)]; exact heap_set_one A.h _
  · refine heap_set_one (v := ev) ?_ _
    rw [Below.heap_setCell _ _ _ _ (by show w.heap.size + 1 + 1 ≠ w.heap.size + 1; omega)]; exact A.e
  · unfold FaultAt at *
    rw [Below.heap_setCell _ _ _ _ n2, Below.heap_setCell _ _ _ _ n1]; exact F
  · exact (A.below.setCell (by show _ ≤ w.heap.size + 1; omega) _).setCell (by show _ ≤ w.heap.size + 1 + 1; omega) _
set_option maxRecDepth 100000 in
set_option maxHeartbeats 4000000 in
theorem check_misfit (V : MoV) (M : Mo) (w : World) (hL : Laid w) (h : IsMo w.heap.size w V M) (hf : fitE M ≠ 0) :
    Calls Tryz.prog 16 #[moV V M] w fun e w' => ∃ p, e = .returned (.tuple #[.slice none 0 0, flt p]) ∧ FaultAt w' p (held (fitE M)) 0 ∧ Below w.heap.size w w' := by
  have HM := hide h
  obtain ⟨a0, c0, a1, c1, a2, c2, a5, c5, a6, c6, rfl⟩ := h.forms
  have hmf : ∀ (fn : Go.Fn) (first cap : Array Value) (w : World), (Instr.makeFunc fn first cap).run Tryz.prog w = .ok (.func fn first cap) w := fun _ _ _ _ => rfl
  unfold moV
  dsimp only
  clear h
  have HA := hide (start_at w #[.slice a0 M.sigs.length c0, .slice a1 M.imports.length c1, .slice a2 M.funcs.length c2, .int .i64 M.m0, .int .i64 M.m1, .slice a5 M.globals.length c5, .slice a6 M.data.length c6])
  go_enter_defers Tryz.func16, Tryz.ntmps16
  go_wp2_with (fail)
  generalize ((w.alloc _).alloc _).alloc _ = w0 at HA ⊢
  have B0 := HA.out.below
  refine (fits_any ⟨.slice a0 M.sigs.length c0, .slice a1 M.imports.length c1, .slice a2 M.funcs.length c2, .slice a5 M.globals.length c5, .slice a6 M.data.length c6⟩ M w0 (hL.kept B0) (HM.out.step B0 B0.size)).mono ?_
  rintro e w1 ⟨rfl, b1⟩
  have A1 := hide (HA.out.next b1)
  have L1 := (hL.kept B0).kept b1
  clear HA b1 B0
  go_wp2_with (fail)
  refine (hold_no _ 0 hf _).mono ?_
  rintro e w2 ⟨p, rfl, F2, b2⟩
  have A2 := hide (A1.out.next b2)
  have L2 := L1.kept b2
  clear A1 b2
  go_wp2
  refine leaves_cons (f := 22) (args := #[.pointer (some ⟨w.heap.size + 1, 0, none⟩), .pointer (some ⟨w.heap.size + 1 + 1, 0, none⟩)]) (by simp) (by simp [go_sem]) ?_
  refine (catch_fault (w.heap.size + 1) (w.heap.size + 1 + 1) _ _ p _ 0 w2 L2 F2 A2.out.h A2.out.e (by omega)).mono ?_
  rintro e u' w4 ⟨rfl, rfl, w3, B3, F3, rfl⟩
  obtain ⟨l0, l1, F4, B4⟩ := (A2.out.next B3).caught F3
  generalize (w3.setCell _ _).setCell _ _ = w5 at l0 l1 B4 F4 ⊢
  unfold flt at *
  simp [Leaves, settle, results, Tryz.results16, go_sem, l0, l1]
  exact ⟨F4, B4⟩
set_option maxRecDepth 100000 in
set_option maxHeartbeats 4000000 in
theorem check_nosig (V : MoV) (M : Mo) (w : World) (hL : Laid w) (h : IsMo w.heap.size w V M) (hf : fitE M = 0) (hSm : Small M) (hN : M.imports.length + M.funcs.length ≤ 1000) (hs : ¬ calAll M (M.imports.length + M.funcs.length)) :
    Calls Tryz.prog 16 #[moV V M] w fun e w' => ∃ p, e = .returned (.tuple #[.slice none 0 0, flt p]) ∧ FaultAt w' p 3 0 ∧ Below w.heap.size w w' := by
  have HM := hide h
  obtain ⟨a0, c0, a1, c1, a2, c2, a5, c5, a6, c6, rfl⟩ := h.forms
  have hmf : ∀ (fn : Go.Fn) (first cap : Array Value) (w : World), (Instr.makeFunc fn first cap).run Tryz.prog w = .ok (.func fn first cap) w := fun _ _ _ _ => rfl
  unfold moV
  dsimp only
  clear h
  have HA := hide (start_at w #[.slice a0 M.sigs.length c0, .slice a1 M.imports.length c1, .slice a2 M.funcs.length c2, .int .i64 M.m0, .int .i64 M.m1, .slice a5 M.globals.length c5, .slice a6 M.data.length c6])
  go_enter_defers Tryz.func16, Tryz.ntmps16
  go_wp2_with (fail)
  generalize ((w.alloc _).alloc _).alloc _ = w0 at HA ⊢
  have B0 := HA.out.below
  refine (fits_any ⟨.slice a0 M.sigs.length c0, .slice a1 M.imports.length c1, .slice a2 M.funcs.length c2, .slice a5 M.globals.length c5, .slice a6 M.data.length c6⟩ M w0 (hL.kept B0) (HM.out.step B0 B0.size)).mono ?_
  rintro e w1 ⟨rfl, b1⟩
  have A1 := hide (HA.out.next b1)
  have L1 := (hL.kept B0).kept b1
  clear HA b1 B0
  go_wp2_with (fail)
  refine (hold_yes 0 _).mono ?_
  rintro e w1' ⟨rfl, hw1⟩
  have hw1' := hw1.symm
  subst hw1'
  clear hw1
  have M1 := hide (HM.out.step A1.out.below A1.out.below.size)
  have r0 := A1.out.m.c 0 _ rfl
  have r1 := A1.out.m.c 1 _ rfl
  have r2 := A1.out.m.c 2 _ rfl
  have r3 := A1.out.m.c 3 _ rfl
  have r4 := A1.out.m.c 4 _ rfl
  have r5 := A1.out.m.c 5 _ rfl
  have r6 := A1.out.m.c 6 _ rfl
  simp only [List.getElem_toArray, List.getElem_cons_zero, List.getElem_cons_succ] at r0 r1 r2 r3 r4 r5 r6
  go_wp2_with (fail)
  refine (checkSigs_any ⟨.slice a0 M.sigs.length c0, .slice a1 M.imports.length c1, .slice a2 M.funcs.length c2, .slice a5 M.globals.length c5, .slice a6 M.data.length c6⟩ M w1 M1.out hSm hN).mono ?_
  intro e w2 he
  rcases he with ⟨hp, _⟩ | ⟨_, p, rfl, F2, b2⟩
  · exact absurd hp hs
  clear r0 r1 r2 r3 r4 r5 r6 M1
  have A2 := hide (A1.out.next b2)
  have L2 := L1.kept b2
  clear A1 b2
  go_wp2
  refine leaves_cons (f := 22) (args := #[.pointer (some ⟨w.heap.size + 1, 0, none⟩), .pointer (some ⟨w.heap.size + 1 + 1, 0, none⟩)]) (by simp) (by simp [go_sem]) ?_
  refine (catch_fault (w.heap.size + 1) (w.heap.size + 1 + 1) _ _ p _ 0 w2 L2 F2 A2.out.h A2.out.e (by omega)).mono ?_
  rintro e u' w4 ⟨rfl, rfl, w3, B3, F3, rfl⟩
  obtain ⟨l0, l1, F4, B4⟩ := (A2.out.next B3).caught F3
  generalize (w3.setCell _ _).setCell _ _ = w5 at l0 l1 B4 F4 ⊢
  unfold flt at *
  simp [Leaves, settle, results, Tryz.results16, go_sem, l0, l1]
  exact ⟨F4, B4⟩
set_option maxRecDepth 100000 in
set_option maxHeartbeats 4000000 in
theorem check_nodata (V : MoV) (M : Mo) (w : World) (hL : Laid w) (h : IsMo w.heap.size w V M) (hf : fitE M = 0) (hSm : Small M) (hN : M.imports.length + M.funcs.length ≤ 1000) (hs : calAll M (M.imports.length + M.funcs.length)) (hm0 : smMem M.m0 = true) (hm1 : smMem M.m1 = true) (hd : ∀ d ∈ M.data, whDa d = true) (hy : ∀ d ∈ M.data, d.bytes.length ≤ 4611686018427387904) (hND : M.data.length ≤ 1000) (hno : ¬ datAll M M.data.length) :
    Calls Tryz.prog 16 #[moV V M] w fun e w' => ∃ p, e = .returned (.tuple #[.slice none 0 0, flt p]) ∧ FaultAt w' p 3 0 ∧ Below w.heap.size w w' := by
  have HM := hide h
  obtain ⟨a0, c0, a1, c1, a2, c2, a5, c5, a6, c6, rfl⟩ := h.forms
  have hmf : ∀ (fn : Go.Fn) (first cap : Array Value) (w : World), (Instr.makeFunc fn first cap).run Tryz.prog w = .ok (.func fn first cap) w := fun _ _ _ _ => rfl
  unfold moV
  dsimp only
  clear h
  have HA := hide (start_at w #[.slice a0 M.sigs.length c0, .slice a1 M.imports.length c1, .slice a2 M.funcs.length c2, .int .i64 M.m0, .int .i64 M.m1, .slice a5 M.globals.length c5, .slice a6 M.data.length c6])
  go_enter_defers Tryz.func16, Tryz.ntmps16
  go_wp2_with (fail)
  generalize ((w.alloc _).alloc _).alloc _ = w0 at HA ⊢
  have B0 := HA.out.below
  refine (fits_any ⟨.slice a0 M.sigs.length c0, .slice a1 M.imports.length c1, .slice a2 M.funcs.length c2, .slice a5 M.globals.length c5, .slice a6 M.data.length c6⟩ M w0 (hL.kept B0) (HM.out.step B0 B0.size)).mono ?_
  rintro e w1 ⟨rfl, b1⟩
  have A1 := hide (HA.out.next b1)
  have L1 := (hL.kept B0).kept b1
  clear HA b1 B0
  go_wp2_with (fail)
  refine (hold_yes 0 _).mono ?_
  rintro e w1' ⟨rfl, hw1⟩
  have hw1' := hw1.symm
  subst hw1'
  clear hw1
  have M1 := hide (HM.out.step A1.out.below A1.out.below.size)
  have r0 := A1.out.m.c 0 _ rfl
  have r1 := A1.out.m.c 1 _ rfl
  have r2 := A1.out.m.c 2 _ rfl
  have r3 := A1.out.m.c 3 _ rfl
  have r4 := A1.out.m.c 4 _ rfl
  have r5 := A1.out.m.c 5 _ rfl
  have r6 := A1.out.m.c 6 _ rfl
  simp only [List.getElem_toArray, List.getElem_cons_zero, List.getElem_cons_succ] at r0 r1 r2 r3 r4 r5 r6
  go_wp2_with (fail)
  refine (checkSigs_any ⟨.slice a0 M.sigs.length c0, .slice a1 M.imports.length c1, .slice a2 M.funcs.length c2, .slice a5 M.globals.length c5, .slice a6 M.data.length c6⟩ M w1 M1.out hSm hN).mono ?_
  intro e w1b he
  rcases he with ⟨_, rfl, b1b⟩ | ⟨hp, _⟩
  rotate_left
  · exact absurd hs hp
  have A1b := hide (A1.out.next b1b)
  have L1b := L1.kept b1b
  clear r0 r1 r2 r3 r4 r5 r6 M1 A1 L1 b1b
  have M1 := hide (HM.out.step A1b.out.below A1b.out.below.size)
  have r0 := A1b.out.m.c 0 _ rfl
  have r1 := A1b.out.m.c 1 _ rfl
  have r2 := A1b.out.m.c 2 _ rfl
  have r3 := A1b.out.m.c 3 _ rfl
  have r4 := A1b.out.m.c 4 _ rfl
  have r5 := A1b.out.m.c 5 _ rfl
  have r6 := A1b.out.m.c 6 _ rfl
  simp only [List.getElem_toArray, List.getElem_cons_zero, List.getElem_cons_succ] at r0 r1 r2 r3 r4 r5 r6
  go_wp2_with (fail)
  refine (checkData_any ⟨.slice a0 M.sigs.length c0, .slice a1 M.imports.length c1, .slice a2 M.funcs.length c2, .slice a5 M.globals.length c5, .slice a6 M.data.length c6⟩ M w1b M1.out hm0 hm1 hd hy hND).mono ?_
  intro e w2 he
  rcases he with ⟨hp, _⟩ | ⟨_, p, rfl, F2, b2⟩
  · exact absurd hp hno
  clear r0 r1 r2 r3 r4 r5 r6 M1
  have A2 := hide (A1b.out.next b2)
  have L2 := L1b.kept b2
  clear A1b b2
  go_wp2
  refine leaves_cons (f := 22) (args := #[.pointer (some ⟨w.heap.size + 1, 0, none⟩), .pointer (some ⟨w.heap.size + 1 + 1, 0, none⟩)]) (by simp) (by simp [go_sem]) ?_
  refine (catch_fault (w.heap.size + 1) (w.heap.size + 1 + 1) _ _ p _ 0 w2 L2 F2 A2.out.h A2.out.e (by omega)).mono ?_
  rintro e u' w4 ⟨rfl, rfl, w3, B3, F3, rfl⟩
  obtain ⟨l0, l1, F4, B4⟩ := (A2.out.next B3).caught F3
  generalize (w3.setCell _ _).setCell _ _ = w5 at l0 l1 B4 F4 ⊢
  unfold flt at *
  simp [Leaves, settle, results, Tryz.results16, go_sem, l0, l1]
  exact ⟨F4, B4⟩
end Go.Proofs.YtamofhkmhjckaabGreatDoor
namespace Go.Proofs.YtamofhkmhjckaabGreatDoor
open Go.RowKit

def EHs (S : Nat → Prop) (W : World) (b o : Nat) (l : List Int) : Prop := ∃ a c, W.cell? ⟨b, o, none⟩ = some (.slice a l.length c) ∧ l.length ≤ c ∧ Sl 1 EInt S W (.slice a l.length c) l
theorem keeps_hs : Keeps EHs := fun _ _ _ _ _ _ _ k hc hb ⟨a, c, e, l, h⟩ => ⟨a, c, (k.cell hb).trans e, l, h.to keeps_int k hc⟩
/-- how check ends -/
def ChEnds (w : World) (r : Except (Int × Int) (List (List Int))) (e : Ending) (w' : World) : Prop := match r with
  | .error c => ∃ p, e = .returned (.tuple #[.slice none 0 0, flt p]) ∧ FaultAt w' p c.1 c.2 ∧ Below w.heap.size w w'
  | .ok l => ∃ v, e = .returned (.tuple #[v, .nilIface]) ∧ Sl 1 EHs (NewB w.heap.size w') w' v l ∧ Below w.heap.size w w'
structure HsAt (base : Nat) (vh : Value) (hs : List (List Int)) (vs : List Value) (W : World) : Prop where
  own : W.ownsRow base 23 1 vh hs.length vs
  el : ∀ j (h : j < hs.length), ∃ a c, vs[j]? = some (.slice a hs[j].length c) ∧ hs[j].length ≤ c ∧ Sl 1 EInt (fun b => base ≤ b ∧ b < W.heap.size ∧ vh.ownBlock ≠ some b) W (.slice a hs[j].length c) hs[j]
theorem HsAt.nil (base : Nat) (W : World) : HsAt base (.slice none 0 0) [] [] W := ⟨World.ownsRow_nil _ _ _ _, fun j h => absurd h (by simp)⟩
theorem HsAt.next {base : Nat} {vh : Value} {hs : List (List Int)} {vs : List Value} {W W' : World} (h : HsAt base vh hs vs W) (k : Below W.heap.size W W') : HsAt base vh hs vs W' := by
  refine ⟨h.own.kept (bel_all k) (by cases vh.ownBlock <;> simp), fun j hj => ?_⟩
  obtain ⟨a, c, e, l, s⟩ := h.el j hj
  exact ⟨a, c, e, l, s.to keeps_int (fun i hi => k.block i hi.2.1) (fun i hi => ⟨hi.1, Nat.lt_of_lt_of_le hi.2.1 k.size, hi.2.2⟩)⟩
/-- one more -/
theorem HsAt.more {base : Nat} {vh : Value} {hs : List (List Int)} {vs : List Value} {W W1 W2 W3 : World} {l : List Int} {a1 : Option Addr} {c1 g cap : Nat} (h : HsAt base vh hs vs W) (hb : base ≤ W.heap.size) (b1 : Below W.heap.size W W1)
    (s1 : Sl 1 EInt (NewB W.heap.size W1) W1 (.slice a1 l.length c1) l) (hle : l.length ≤ c1) (b2 : Below W1.heap.size W1 W2) (own : W3.ownsRow base 23 1 (.slice (some ⟨g, 0, none⟩) (hs.length + 1) cap) (hs.length + 1) (vs ++ [.slice a1 l.length c1])) (hg : W2.grownBy W3 vh.ownBlock) (hat : vh.ownBlock = some g ∨ g = W2.heap.size) :
    HsAt base (.slice (some ⟨g, 0, none⟩) (hs.length + 1) cap) (hs ++ [l]) (vs ++ [.slice a1 l.length c1]) W3 := by
  have lt0 := h.own.lt
  have b12 : Below W.heap.size W W2 := below_next b1 b2
  have z1 := b1.size
  have z2 := b2.size
  have z3 := hg.size
  refine ⟨by rw [List.length_append]; exact own, fun j hj => ?_⟩
  by_cases hlt : j < hs.length
  · obtain ⟨a, c, e, lle, s⟩ := h.el j hlt
    have hv : j < vs.length := (List.getElem?_eq_some_iff.1 e).1
    rw [List.getElem_append_left hlt]
    refine ⟨a, c, by rw [List.getElem?_append_left hv]; exact e, lle, ?_⟩
    refine s.to keeps_int (fun i hi => ?_) (fun i hi => ⟨hi.1, by omega, ?_⟩)
    · rw [hg.block i (by omega) (fun e => hi.2.2 e.symm), b12.block i hi.2.1]
    · simp only [Value.ownBlock, ne_eq, Option.some.injEq]
      rintro rfl
      rcases hat with e | e
      · exact hi.2.2 e
      · omega
  · have ej : j = hs.length := by simp at hj; omega
    subst ej
    have hvl : vs.length = hs.length := by have := h.own.1; omega
    rw [List.getElem_append_right (Nat.le_refl _)]
    simp only [Nat.sub_self, List.getElem_cons_zero]
    refine ⟨a1, c1, by rw [← hvl]; simp, hle, ?_⟩
    refine s1.to keeps_int (fun i hi => ?_) (fun i hi => ⟨by have := hi.1; omega, by have := hi.2; omega, ?_⟩)
    · rw [hg.block i (by have := hi.2; omega) (fun e => ?_), b2.block i hi.2]
      have := (lt0 i e.symm).2; have := hi.1; omega
    · simp only [Value.ownBlock, ne_eq, Option.some.injEq]
      rintro rfl
      rcases hat with e | e
      · have := (lt0 _ e).2; have := hi.1; omega
      · have := hi.2; omega
/-- a variable that is written -/
theorem HsAt.store {base : Nat} {vh : Value} {hs : List (List Int)} {vs : List Value} {W : World} (h : HsAt base vh hs vs W) {b : Nat} (hb : b < base) (o : Nat) (u : Value) : HsAt base vh hs vs (W.setCell ⟨b, o, none⟩ u) := by
  refine ⟨ownsRow_setCell_below h.own hb u, fun j hj => ?_⟩
  obtain ⟨a, c, e, l, s⟩ := h.el j hj
  refine ⟨a, c, e, l, s.to keeps_int (fun i hi => Below.heap_setCell _ _ _ _ (by show i ≠ b; have := hi.1; omega)) (fun i hi => ⟨hi.1, by have := hi.2.1; simp; omega, hi.2.2⟩)⟩
theorem HsAt.all {base : Nat} {vh : Value} {hs : List (List Int)} {vs : List Value} {W : World} (h : HsAt base vh hs vs W) {B : Nat} (hB : B ≤ base) : Sl 1 EHs (NewB B W) W vh hs := by
  have lt0 := h.own.lt
  rcases h.own.2 with ⟨rfl, hz⟩ | ⟨g, cap, cur, rfl, hg⟩
  · have : hs = [] := List.length_eq_zero_iff.1 hz
    subst this
    exact Sl.isNil _ _ _ _
  · refine ⟨_, _, rfl, fun j hj => ⟨g, 0, rfl, ⟨by have := (lt0 g rfl).1; omega, (lt0 g rfl).2⟩, ?_⟩⟩
    obtain ⟨a, c, e, l, s⟩ := h.el j hj
    refine ⟨a, c, ?_, l, s.to keeps_int (fun _ _ => rfl) (fun i hi => ⟨by have := hi.1; omega, hi.2.1⟩)⟩
    rw [Nat.zero_add, Nat.mul_one]
    have := h.own.cells rfl j _ e
    rwa [Addr.add_lit, Nat.zero_add] at this
/-- the variables of check while the heights grow -/
theorem ChkAt.grow {w W W' : World} {cs : Array Value} {hv ev : Value} {r : Option Nat} (h : ChkAt w cs hv ev W) (hg : W.grownBy W' r) (hr : ∀ k, r = some k → w.heap.size + 1 + 1 < k) : ChkAt w cs hv ev W' := by
  have zm := h.m.lt
  have zh := lt_of_block h.h
  have ze := lt_of_block h.e
  refine ⟨h.below.grown hg (by omega) (fun k hk => by have := hr k hk; omega), ?_, ?_, ?_⟩
  · have := h.m
    unfold Row at *
    rw [hg.block _ zm (fun e => by have := hr _ e.symm; omega)]; exact this
  · rw [hg.block _ zh (fun e => by have := hr _ e.symm; omega)]; exact h.h
  · rw [hg.block _ ze (fun e => by have := hr _ e.symm; omega)]; exact h.e
theorem ChkAt.store {w W : World} {cs : Array Value} {hv ev : Value} (h : ChkAt w cs hv ev W) (u : Value) : ChkAt w cs u ev (W.setCell ⟨w.heap.size + 1, 0, none⟩ u) := by
  refine ⟨h.below.setCell (by show _ ≤ w.heap.size + 1; omega) _, h.m.other 0 u (by omega), heap_set_one h.h u, ?_⟩
  rw [Below.heap_setCell _ _ _ _ (by show w.heap.size + 1 + 1 ≠ w.heap.size + 1; omega)]; exact h.e
theorem ChkAt.storeE {w W : World} {cs : Array Value} {hv ev : Value} (h : ChkAt w cs hv ev W) (u : Value) : ChkAt w cs hv u (W.setCell ⟨w.heap.size + 1 + 1, 0, none⟩ u) := by
  refine ⟨h.below.setCell (by show _ ≤ w.heap.size + 1 + 1; omega) _, h.m.other 0 u (by omega), ?_, heap_set_one h.e u⟩
  rw [Below.heap_setCell _ _ _ _ (by show w.heap.size + 1 ≠ w.heap.size + 1 + 1; omega)]; exact h.h
end Go.Proofs.YtamofhkmhjckaabGreatDoor

/-
  slices.Clone of numbers, and the program's Callee: what a call calls, with lists of its own; memory that was there stays as it was.
-/
import Derived.Test.YtamofhkmhjckaabGreatDoorNAround
import Derived.Test.YtamofhkmhjckaabGreatDoorNAroundB
import Derived.BigQuiet
import Derived.Deep.QuietTactic
import Derived.Lib.SmallJoins
namespace Go.Proofs.YtamofhkmhjckaabGreatDoor
open Go.RowKit

theorem bel_drewN {B : Nat} {w w' : World} (h : Below B w w') (n : Nat) : Below B w (w'.drewN n) := by
  induction n with
  | zero => exact h
  | succ n ih => exact ih.drew
theorem Row.drewN {w : World} {b : Nat} {cs : Array Value} {ty : TypeId} (h : Row w b cs ty) (n : Nat) : Row (w.drewN n) b cs ty := h
def NewB (B : Nat) (w : World) : Nat → Prop := fun b => B ≤ b ∧ b < w.heap.size
theorem own_sl {w : World} {B n : Nat} {v : Value} {l : List Int} (h : w.ownsRow B 3 1 v n (l.map (Value.int .i64))) (hn : n = l.length) (hi : ∀ x ∈ l, I64 x) : ∃ a c, v = .slice a l.length c ∧ Sl 1 EInt (NewB B w) w v l := by
  subst hn
  obtain ⟨a, c, rfl⟩ := Nest.own_slice h
  refine ⟨a, c, rfl, a, c, rfl, fun j hj => ?_⟩
  obtain ⟨g, rfl, _, hb, _⟩ := Nest.own_some h (by omega)
  have hc := h.cellAt j (by omega)
  refine ⟨g, 0, rfl, ⟨hb, (h.lt g rfl).2⟩, hi _ (List.getElem_mem hj), ?_⟩
  rw [Nat.mul_one, Nat.zero_add, hc]
  simp [hj]
set_option maxRecDepth 100000 in
set_option maxHeartbeats 1000000 in
theorem clone_ints {S : Nat → Prop} (a : Option Addr) (c : Nat) (l : List Int) (w : World) (h : Sl 1 EInt S w (.slice a l.length c) l) (hS : ∀ b, S b → b < w.heap.size) (hm : l.length * 8 ≤ 140737488355328) :
    Calls Tryz.prog 18 #[.slice a l.length c] w fun e w' => ∃ a' c', e = .returned (.slice a' l.length c') ∧ Sl 1 EInt (NewB w.heap.size w') w' (.slice a' l.length c') l ∧ Below w.heap.size w w' := by
  obtain ⟨i3, hi3, hz30, hz31, hz32⟩ := info_parts Nest.Tryz.info3
  have hnil : ∀ (ad : Addr) (w : World), (binOp .eql 23 (.slice (some ad) l.length c) (.slice none 0 0)).run Tryz.prog w = .ok (.bool false) w := fun ad w => by
    exact Lib.run_eql_slice_nil w 23 3 (some ad) l.length c 0 0 Tryz.underlying23
  have hnil0 : ∀ (w : World), (binOp .eql 23 (.slice none l.length c) (.slice none 0 0)).run Tryz.prog w = .ok (.bool true) w := fun w => by
    exact Lib.run_eql_slice_nil w 23 3 none l.length c 0 0 Tryz.underlying23
  obtain ⟨a0, c0, e0, he⟩ := h
  simp only [Value.slice.injEq, true_and] at e0
  cases a with
  | none =>
    have hl0 : l = [] := by
      cases l with
      | nil => rfl
      | cons x r => obtain ⟨b, off, e, _⟩ := he 0 (by simp); rw [← e0.1] at e; cases e
    have HL0 := hide hl0
    clear he e0 hl0
    go_enter Tryz.func18, Tryz.ntmps18
    go_wp2_with fail
    go_ret
    rw [HL0.out]
    exact ⟨none, 0, rfl, Sl.isNil _ _ _ _, Below.refl _ _⟩
  | some ad =>
    have hi : ∀ x ∈ l, I64 x := fun x hx => by
      obtain ⟨j, hj, rfl⟩ := List.getElem_of_mem hx
      obtain ⟨b, off, _, _, h64, _⟩ := he j hj; exact h64
    have hnews : ∀ j u, (l.map (Value.int .i64))[j]? = some u → (w.alloc (.cells #[] 3)).cell? (ad.add j) = some u := by
      intro j u hu
      rw [List.getElem?_map] at hu
      cases hj : l[j]? with
      | none => rw [hj] at hu; simp at hu
      | some x =>
        rw [hj] at hu
        simp only [Option.map_some, Option.some.injEq] at hu
        obtain ⟨hlt, hx⟩ := List.getElem?_eq_some_iff.1 hj
        obtain ⟨b, off, e, hb, _, hc⟩ := he j hlt
        rw [← e0.1, Option.some.injEq] at e
        subst e
        rw [hx, Nat.mul_one] at hc
        rw [← hu, Addr.add_lit]
        exact ((bel_one w _).cell (p := ⟨b, off + j, none⟩) (hS b hb)).trans hc
    have hl1 : (l.map (Value.int .i64)).length = l.length * 1 := by simp
    have hone : ∀ u ∈ l.map (Value.int .i64), u.oneCell' = true := by
      intro u hu
      obtain ⟨x, _, rfl⟩ := List.mem_map.1 hu
      rfl
    have hown0 : (w.alloc (.cells #[] 3)).ownsRow w.heap.size 3 1 (.slice (some ⟨w.heap.size, 0, none⟩) 0 0) 0 [] := World.ownsRow_made w #[] 0 (Nat.le_refl _) (Nat.zero_le _) rfl
    have HI := hide hi
    clear he e0 hi
    go_enter Tryz.func18, Tryz.ntmps18
    go_wp2_with (at_builtin; refine wpList_append_own _ rfl (.tmp 5) (.tmp 6) 23 rfl w.heap.size 3 i3 (.int .i64 0) 1 8 Tryz.underlying23 hi3 hz30 hz31 hz32 rfl (by decide) _ _ _ rfl hown0 ad l.length c (l.map (Value.int .i64)) rfl hl1 hnews hone (by unfold maxLen; omega) (by omega) (by simp) ?_)
    intro v' w1 own1 grow1 _
    obtain ⟨a', c', rfl, hsl⟩ := own_sl own1 (by simp) HI.out
    have N1 := hide hsl
    have L1 := hide ((bel_one w (.cells #[] 3)).grown grow1 (by simp) (fun k hk => by cases hk; exact Nat.le_refl _))
    clear own1 grow1 hnews hone hown0 hsl
    go_wp2_with fail
    go_ret
    exact ⟨a', c', rfl, N1.out, L1.out⟩
/-- how Callee ends -/
def CalEnds (w : World) (r : Option (Sg × Bool × Bool)) (e : Ending) (w' : World) : Prop := match r with
  | none => e = .returned (.tuple #[.agg #[.slice none 0 0, .slice none 0 0], .bool false, .bool false, .bool false]) ∧ Below w.heap.size w w'
  | some (g, host, tr) => ∃ ap cp ar cr, e = .returned (.tuple #[.agg #[.slice ap g.params.length cp, .slice ar g.results.length cr], .bool host, .bool tr, .bool true]) ∧
      Sl 1 EInt (NewB w.heap.size w') w' (.slice ap g.params.length cp) g.params ∧ Sl 1 EInt (NewB w.heap.size w') w' (.slice ar g.results.length cr) g.results ∧ Below w.heap.size w w'
/-- lists that can be copied -/
def Small (M : Mo) : Prop := (∀ g ∈ M.sigs, g.params.length * 8 ≤ 140737488355328 ∧ g.results.length * 8 ≤ 140737488355328) ∧ M.imports.length ≤ 140737488355328 ∧ M.funcs.length ≤ 140737488355328 ∧ M.sigs.length ≤ 140737488355328
set_option maxRecDepth 100000 in
set_option maxHeartbeats 1000000 in
theorem callee_neg (V : MoV) (M : Mo) (n : Int) (w : World) (h : IsMo w.heap.size w V M) (hs : Small M) (hn : n < 0) :
    Calls Tryz.prog 9 #[moV V M, .int .i64 n] w (CalEnds w (callee M n)) := by
  obtain ⟨a0, c0, a1, c1, a2, c2, a5, c5, a6, c6, rfl⟩ := h.forms
  obtain ⟨hs1, hs2, hs3, hs4⟩ := hs
  unfold moV
  have hb0 := bel_one w (.cells #[.slice a0 M.sigs.length c0, .slice a1 M.imports.length c1, .slice a2 M.funcs.length c2, .int .i64 M.m0, .int .i64 M.m1, .slice a5 M.globals.length c5, .slice a6 M.data.length c6] 29)
  have hb1 := hide (below_next hb0 (bel_one _ (.cells #[.slice none 0 0, .slice none 0 0] 42)))
  have HC := hide (show callee M n = none by simp [callee, hn])
  clear h hb0
  go_enter Tryz.func9, Tryz.ntmps9
  go_wp2_with fail
  rw [HC.out]
  exact ⟨rfl, .tuple #[.agg #[.slice none 0 0, .slice none 0 0], .bool false, .bool false, .bool false], by simp [results, Tryz.f9, go_sem], rfl, hb1.out⟩
set_option maxRecDepth 100000 in
set_option maxHeartbeats 1000000 in
theorem callee_far (V : MoV) (M : Mo) (n : Int) (w : World) (h : IsMo w.heap.size w V M) (hs : Small M) (hn0 : 0 ≤ n) (hn1 : n ≤ 9223372036854775807) (hn : (M.imports.length + M.funcs.length : Int) ≤ n) :
    Calls Tryz.prog 9 #[moV V M, .int .i64 n] w (CalEnds w (callee M n)) := by
  obtain ⟨a0, c0, a1, c1, a2, c2, a5, c5, a6, c6, rfl⟩ := h.forms
  obtain ⟨hs1, hs2, hs3, hs4⟩ := hs
  unfold moV
  have hb0 := bel_one w (.cells #[.slice a0 M.sigs.length c0, .slice a1 M.imports.length c1, .slice a2 M.funcs.length c2, .int .i64 M.m0, .int .i64 M.m1, .slice a5 M.globals.length c5, .slice a6 M.data.length c6] 29)
  have hb1 := hide (below_next hb0 (bel_one _ (.cells #[.slice none 0 0, .slice none 0 0] 42)))
  have HC := hide (show callee M n = none by simp [callee, hn])
  have hn2 : ¬ n < 0 := by omega
  have hn3 : (M.funcs.length : Int) ≤ n - M.imports.length := by omega
  clear h hb0 hn
  go_enter Tryz.func9, Tryz.ntmps9
  go_wp2_with fail
  rw [HC.out]
  exact ⟨rfl, .tuple #[.agg #[.slice none 0 0, .slice none 0 0], .bool false, .bool false, .bool false], by simp [results, Tryz.f9, go_sem], rfl, hb1.out⟩
set_option maxRecDepth 100000 in
set_option maxHeartbeats 4000000 in
theorem callee_imp (V : MoV) (M : Mo) (n : Int) (w : World) (h : IsMo w.heap.size w V M) (hs : Small M) (k : Nat) (hn : n = k) (hk : k < M.imports.length) :
    Calls Tryz.prog 9 #[moV V M, .int .i64 n] w (CalEnds w (callee M n)) := by
  obtain ⟨a0, c0, a1, c1, a2, c2, a5, c5, a6, c6, rfl⟩ := h.forms
  obtain ⟨hs1, hs2, hs3, hs4⟩ := hs
  unfold moV
  have hb0 := bel_one w (.cells #[.slice a0 M.sigs.length c0, .slice a1 M.imports.length c1, .slice a2 M.funcs.length c2, .int .i64 M.m0, .int .i64 M.m1, .slice a5 M.globals.length c5, .slice a6 M.data.length c6] 29)
  have hb1 := hide (below_next hb0 (bel_one _ (.cells #[.slice none 0 0, .slice none 0 0] 42)))
  subst hn
  obtain ⟨aa, cc, e1, he⟩ := h.imports
  simp only [Value.slice.injEq, true_and] at e1
  obtain ⟨b, off, e, hb, hi, q⟩ := he k hk
  rw [← e1.1] at e
  subst e
  rw [Nat.mul_one] at q
  have hown : ((k : Int) - M.imports.length) < 0 := by omega
  have hown2 : ¬ (M.funcs.length : Int) ≤ (k : Int) - M.imports.length := by omega
  have hC : callee M k = (M.sigs[M.imports[k].toNat]?).bind fun s => if 0 ≤ M.imports[k] then some (s, true, false) else none := by
    have h1 : ¬ ((k : Int) < 0 ∨ (M.imports.length + M.funcs.length : Int) ≤ k) := by omega
    have h2 : (k : Int) < M.imports.length := by omega
    simp [callee, h1, h2, hk]
  generalize M.imports[k] = sg at *
  clear he e1
  by_cases hs0 : 0 ≤ sg
  · obtain ⟨z, rfl⟩ := Int.eq_ofNat_of_zero_le hs0
    have hz0 : ¬ (z : Int) < 0 := by omega
    by_cases hz : z < M.sigs.length
    · obtain ⟨ab, cb, e2, he2⟩ := h.sigs
      simp only [Value.slice.injEq, true_and] at e2
      obtain ⟨b2, off2, e3, hbb, vp, vr, p0, p1, hp, hr⟩ := he2 z hz
      rw [← e2.1] at e3
      subst e3
      have HC := hide (show callee M _ = some (M.sigs[z], true, false) by rw [hC]; simp [hz])
      obtain ⟨hm1, hm2⟩ := hs1 M.sigs[z] (List.getElem_mem hz)
      clear he2 e2 hC hs1
      generalize M.sigs[z] = G at *
      obtain ⟨ap, cp, evp, _⟩ := id hp
      obtain ⟨ar, cr, evr, _⟩ := id hr
      subst evp evr
      have hz1 : ¬ (M.sigs.length : Int) ≤ (z : Int) := by omega
      have hzz : (z : Int) < M.sigs.length := by omega
      have RM := Row.made w #[.slice (some ⟨b2, off2, none⟩) M.sigs.length c0, .slice (some ⟨b, off, none⟩) M.imports.length c1, .slice a2 M.funcs.length c2, .int .i64 M.m0, .int .i64 M.m1, .slice a5 M.globals.length c5, .slice a6 M.data.length c6] 29
      have RM1 := hide (RM.alloc (.cells #[.slice none 0 0, .slice none 0 0] 42))
      have RS1 := hide (Row.made (w.alloc (.cells #[.slice (some ⟨b2, off2, none⟩) M.sigs.length c0, .slice (some ⟨b, off, none⟩) M.imports.length c1, .slice a2 M.funcs.length c2, .int .i64 M.m0, .int .i64 M.m1, .slice a5 M.globals.length c5, .slice a6 M.data.length c6] 29)) #[.slice none 0 0, .slice none 0 0] 42)
      have HP := hide hp
      have HR := hide hr
      clear h hb0 hp hr RM
      go_enter Tryz.func9, Tryz.ntmps9
      go_wp2_with fail
      have hq := hb1.out
      have RMq := RM1.out
      have RSq := RS1.out
      have HQ := hide hq
      have hsq := hq.size
      refine (clone_ints ap cp G.params _ (HP.out.to keeps_int (same_below hq) (fun _ hi => hi)) (fun b hb => by have : b < w.heap.size := hb; omega) hm1).mono ?_
      rintro e w1 ⟨a', c', rfl, hsl, hbl⟩
      have RM2 := RMq.kept hbl
      have RS2 := RSq.kept hbl
      simp only [World.size_alloc] at RS2
      have hb3 := below_next hq hbl
      have k0 := RM2.c 0 _ rfl
      have k1 := RS2.c 0 _ rfl
      have y1 := RS2.fr 0
      have p1' := (hb3.cell (p := ⟨b2, off2 + z * 2 + 1, none⟩) hbb).trans p1
      have hne1 : ¬ b2 = w.heap.size + 1 := by have : b2 < w.heap.size := hbb; omega
      have HSL := hide hsl
      have HB3 := hide hb3
      have RM3 := hide (RM2.other 0 (.slice a' G.params.length c') (show w.heap.size ≠ w.heap.size + 1 by omega))
      have RS3 := hide (RS2.set 0 (.slice a' G.params.length c'))
      clear RM2 RS2 hsl hb3 RMq RSq hq
      go_wp2_with fail
      have hset := hide (hbl.setCell (p := ⟨w.heap.size + 1, 0, none⟩))
      have HQ2 := hide (HB3.out.setCell (p := ⟨w.heap.size + 1, 0, none⟩) (Nat.le_succ _) (.slice a' G.params.length c'))
      have hsz2 := HQ2.out.size
      have hsz1 := hbl.size
      refine (clone_ints ar cr G.results _ (HR.out.to keeps_int (same_below HQ2.out) (fun _ hi => hi)) (fun b hb => by have : b < w.heap.size := hb; omega) hm2).mono ?_
      rintro e w3 ⟨a'', c'', rfl, hsl2, hbl2⟩
      have RS4 := RS3.out.kept hbl2
      have k2 := RS4.c 0 _ rfl
      have k3 := RS4.c 1 _ rfl
      have y3 := RS4.fr 1
      have y4 := RS4.fr 0
      have HB4 := hide (below_next HQ2.out hbl2)
      have HSL2 := hide hsl2
      have HBL2 := hide hbl2
      have hs2 : w.heap.size + 1 + 1 ≤ w1.heap.size := by have := hbl.size; simp at this; omega
      have HRS4 := hide RS4
      have hsQ : w.heap.size + 1 + 1 ≤ ((w.alloc (.cells #[.slice (some ⟨b2, off2, none⟩) M.sigs.length c0, .slice (some ⟨b, off, none⟩) M.imports.length c1, .slice a2 M.funcs.length c2, .int .i64 M.m0, .int .i64 M.m1, .slice a5 M.globals.length c5, .slice a6 M.data.length c6] 29)).alloc (.cells #[.slice none 0 0, .slice none 0 0] 42)).heap.size := by
        show w.heap.size + 1 + 1 ≤ ((w.alloc (.cells #[.slice (some ⟨b2, off2, none⟩) M.sigs.length c0, .slice (some ⟨b, off, none⟩) M.imports.length c1, .slice a2 M.funcs.length c2, .int .i64 M.m0, .int .i64 M.m1, .slice a5 M.globals.length c5, .slice a6 M.data.length c6] 29)).alloc (.cells #[.slice none 0 0, .slice none 0 0] 42)).heap.size
        simp
      clear RS4 hsl2 hbl2
      go_wp2_with fail
      rw [HC.out]
      have R5 := ((HRS4.out.set 1 (.slice a'' G.results.length c'')).set 0 (.slice a' G.params.length c')).set 1 (.slice a'' G.results.length c'')
      have q0 := R5.c 0 (.slice a' G.params.length c') rfl
      have q1 := R5.c 1 (.slice a'' G.results.length c'') rfl
      have kp : ∀ i, i ≠ w.heap.size + 1 → (((w3.setCell ⟨w.heap.size + 1, 1, none⟩ (.slice a'' G.results.length c'')).setCell ⟨w.heap.size + 1, 0, none⟩ (.slice a' G.params.length c')).setCell ⟨w.heap.size + 1, 1, none⟩ (.slice a'' G.results.length c'')).heap[i]? = w3.heap[i]? := fun i hi =>
        (Below.heap_setCell _ _ _ _ hi).trans ((Below.heap_setCell _ _ _ _ hi).trans (Below.heap_setCell _ _ _ _ hi))
      have hsf : (((w3.setCell ⟨w.heap.size + 1, 1, none⟩ (.slice a'' G.results.length c'')).setCell ⟨w.heap.size + 1, 0, none⟩ (.slice a' G.params.length c')).setCell ⟨w.heap.size + 1, 1, none⟩ (.slice a'' G.results.length c'')).heap.size = w3.heap.size := by simp
      have hs3 : w1.heap.size ≤ w3.heap.size := by have := HBL2.out.size; simp at this; exact this
      refine ⟨rfl, .tuple #[.agg #[.slice a' G.params.length c', .slice a'' G.results.length c''], .bool true, .bool false, .bool true], by simp [results, Tryz.f9, go_sem, q0, q1], a', c', a'', c'', rfl, ?_, ?_, ?_⟩
      · refine HSL.out.to keeps_int (fun i hi => ?_) (fun i hi => ⟨by have := hi.1; omega, by have := hi.2; omega⟩)
        have hne : i ≠ w.heap.size + 1 := by have := hi.1; omega
        rw [kp i hne, HBL2.out.block i (by have := hi.2; simp; omega)]
        exact Below.heap_setCell _ _ _ _ hne
      · have hs4 : w1.heap.size ≤ (w1.setCell ⟨w.heap.size + 1, 0, none⟩ (.slice a' G.params.length c')).heap.size := by simp
        refine HSL2.out.to keeps_int (fun i hi => kp i ?_) (fun i hi => ⟨by have := hi.1; omega, by have := hi.2; omega⟩)
        have := hi.1; omega
      · exact ((HB4.out.setCell (p := ⟨w.heap.size + 1, 1, none⟩) (Nat.le_succ _) _).setCell (p := ⟨w.heap.size + 1, 0, none⟩) (Nat.le_succ _) _).setCell (p := ⟨w.heap.size + 1, 1, none⟩) (Nat.le_succ _) _
    · have HC := hide (show callee M _ = none by rw [hC]; simp [Nat.le_of_not_lt hz])
      have hz1 : (M.sigs.length : Int) ≤ (z : Int) := by omega
      clear h hb0 hC hs1
      go_enter Tryz.func9, Tryz.ntmps9
      go_wp2_with fail


      rw [HC.out]
      exact ⟨rfl, .tuple #[.agg #[.slice none 0 0, .slice none 0 0], .bool false, .bool false, .bool false], by simp [results, Tryz.f9, go_sem], rfl, hb1.out⟩
  · have HC := hide (show callee M _ = none by rw [hC]; cases (M.sigs[sg.toNat]?) <;> simp [hs0])
    have hz0 : sg < 0 := by omega
    clear h hb0 hC hs1
    go_enter Tryz.func9, Tryz.ntmps9
    go_wp2_with fail


    rw [HC.out]
    exact ⟨rfl, .tuple #[.agg #[.slice none 0 0, .slice none 0 0], .bool false, .bool false, .bool false], by simp [results, Tryz.f9, go_sem], rfl, hb1.out⟩
set_option maxRecDepth 100000 in
set_option maxHeartbeats 4000000 in
theorem callee_fun (V : MoV) (M : Mo) (n : Int) (w : World) (h : IsMo w.heap.size w V M) (hs : Small M) (k : Nat) (hn : n = M.imports.length + k) (hk : k < M.funcs.length) :
    Calls Tryz.prog 9 #[moV V M, .int .i64 n] w (CalEnds w (callee M n)) := by
  obtain ⟨a0, c0, a1, c1, a2, c2, a5, c5, a6, c6, rfl⟩ := h.forms
  obtain ⟨hs1, hs2, hs3, hs4⟩ := hs
  unfold moV
  have hb0 := bel_one w (.cells #[.slice a0 M.sigs.length c0, .slice a1 M.imports.length c1, .slice a2 M.funcs.length c2, .int .i64 M.m0, .int .i64 M.m1, .slice a5 M.globals.length c5, .slice a6 M.data.length c6] 29)
  have hb1 := hide (below_next hb0 (bel_one _ (.cells #[.slice none 0 0, .slice none 0 0] 42)))
  subst hn
  obtain ⟨aa, cc, e1, he⟩ := h.funcs
  simp only [Value.slice.injEq, true_and] at e1
  obtain ⟨b, off, e, hb, vl, vb, hi, q, q1, _⟩ := he k hk
  rw [← e1.1] at e
  subst e
  have hown : ¬ ((M.imports.length : Int) + k - M.imports.length) < 0 := by omega
  have hown1 : (M.imports.length : Int) + k - M.imports.length = k := by omega
  have hn2 : ¬ ((M.imports.length : Int) + k) < 0 := by omega
  have hown2 : ¬ (M.funcs.length : Int) ≤ (k : Int) := by omega
  have hkk : (k : Int) < M.funcs.length := by omega
  have hC : callee M (M.imports.length + k) = (M.sigs[M.funcs[k].sig.toNat]?).bind fun s => if 0 ≤ M.funcs[k].sig then some (s, false, M.funcs[k].tr) else none := by
    have h1 : ¬ ((M.imports.length + k : Int) < 0 ∨ (M.imports.length + M.funcs.length : Int) ≤ M.imports.length + k) := by omega
    have h2 : ¬ (M.imports.length + k : Int) < M.imports.length := by omega
    have h3 : ((M.imports.length : Int) + k).toNat - M.imports.length = k := by omega
    unfold callee
    rw [if_neg h1, if_neg h2, h3, List.getElem?_eq_getElem hk]
    rfl
  generalize M.funcs[k].sig = sg at *
  generalize M.funcs[k].tr = tr at *
  clear he e1
  by_cases hs0 : 0 ≤ sg
  · obtain ⟨z, rfl⟩ := Int.eq_ofNat_of_zero_le hs0
    have hz0 : ¬ (z : Int) < 0 := by omega
    by_cases hz : z < M.sigs.length
    · obtain ⟨ab, cb, e2, he2⟩ := h.sigs
      simp only [Value.slice.injEq, true_and] at e2
      obtain ⟨b2, off2, e3, hbb, vp, vr, p0, p1, hp, hr⟩ := he2 z hz
      rw [← e2.1] at e3
      subst e3
      have HC := hide (show callee M _ = some (M.sigs[z], false, tr) by rw [hC]; simp [hz])
      obtain ⟨hm1, hm2⟩ := hs1 M.sigs[z] (List.getElem_mem hz)
      clear he2 e2 hC hs1
      generalize M.sigs[z] = G at *
      obtain ⟨ap, cp, evp, _⟩ := id hp
      obtain ⟨ar, cr, evr, _⟩ := id hr
      subst evp evr
      have hz1 : ¬ (M.sigs.length : Int) ≤ (z : Int) := by omega
      have hzz : (z : Int) < M.sigs.length := by omega
      have RM := Row.made w #[.slice (some ⟨b2, off2, none⟩) M.sigs.length c0, .slice a1 M.imports.length c1, .slice (some ⟨b, off, none⟩) M.funcs.length c2, .int .i64 M.m0, .int .i64 M.m1, .slice a5 M.globals.length c5, .slice a6 M.data.length c6] 29
      have RM1 := hide (RM.alloc (.cells #[.slice none 0 0, .slice none 0 0] 42))
      have RS1 := hide (Row.made (w.alloc (.cells #[.slice (some ⟨b2, off2, none⟩) M.sigs.length c0, .slice a1 M.imports.length c1, .slice (some ⟨b, off, none⟩) M.funcs.length c2, .int .i64 M.m0, .int .i64 M.m1, .slice a5 M.globals.length c5, .slice a6 M.data.length c6] 29)) #[.slice none 0 0, .slice none 0 0] 42)
      have HP := hide hp
      have HR := hide hr
      clear h hb0 hp hr RM
      go_enter Tryz.func9, Tryz.ntmps9
      go_wp2_with fail
      go_quiet (fail)
      go_wp2_with fail
      have hq := bel_drewN hb1.out nq
      have RMq := RM1.out.drewN nq
      have RSq := RS1.out.drewN nq
      have HQ := hide hq
      have hsq := hq.size
      refine (clone_ints ap cp G.params _ (HP.out.to keeps_int (same_below hq) (fun _ hi => hi)) (fun b hb => by have : b < w.heap.size := hb; omega) hm1).mono ?_
      rintro e w1 ⟨a', c', rfl, hsl, hbl⟩
      have RM2 := RMq.kept hbl
      have RS2 := RSq.kept hbl
      simp only [World.size_alloc] at RS2
      have hb3 := below_next hq hbl
      have k0 := RM2.c 0 _ rfl
      have k1 := RS2.c 0 _ rfl
      have y1 := RS2.fr 0
      have p1' := (hb3.cell (p := ⟨b2, off2 + z * 2 + 1, none⟩) hbb).trans p1
      have hne1 : ¬ b2 = w.heap.size + 1 := by have : b2 < w.heap.size := hbb; omega
      have HSL := hide hsl
      have HB3 := hide hb3
      have RM3 := hide (RM2.other 0 (.slice a' G.params.length c') (show w.heap.size ≠ w.heap.size + 1 by omega))
      have RS3 := hide (RS2.set 0 (.slice a' G.params.length c'))
      clear RM2 RS2 hsl hb3 RMq RSq hq
      go_wp2_with fail
      have hset := hide (hbl.setCell (p := ⟨w.heap.size + 1, 0, none⟩))
      have HQ2 := hide (HB3.out.setCell (p := ⟨w.heap.size + 1, 0, none⟩) (Nat.le_succ _) (.slice a' G.params.length c'))
      have hsz2 := HQ2.out.size
      have hsz1 := hbl.size
      refine (clone_ints ar cr G.results _ (HR.out.to keeps_int (same_below HQ2.out) (fun _ hi => hi)) (fun b hb => by have : b < w.heap.size := hb; omega) hm2).mono ?_
      rintro e w3 ⟨a'', c'', rfl, hsl2, hbl2⟩
      have RS4 := RS3.out.kept hbl2
      have k2 := RS4.c 0 _ rfl
      have k3 := RS4.c 1 _ rfl
      have y3 := RS4.fr 1
      have y4 := RS4.fr 0
      have HB4 := hide (below_next HQ2.out hbl2)
      have HSL2 := hide hsl2
      have HBL2 := hide hbl2
      have hs2 : w.heap.size + 1 + 1 ≤ w1.heap.size := by have := hbl.size; simp at this; omega
      have HRS4 := hide RS4
      have hsQ : w.heap.size + 1 + 1 ≤ (((w.alloc (.cells #[.slice (some ⟨b2, off2, none⟩) M.sigs.length c0, .slice a1 M.imports.length c1, .slice (some ⟨b, off, none⟩) M.funcs.length c2, .int .i64 M.m0, .int .i64 M.m1, .slice a5 M.globals.length c5, .slice a6 M.data.length c6] 29)).alloc (.cells #[.slice none 0 0, .slice none 0 0] 42)).drewN nq).heap.size := by
        show w.heap.size + 1 + 1 ≤ ((w.alloc (.cells #[.slice (some ⟨b2, off2, none⟩) M.sigs.length c0, .slice a1 M.imports.length c1, .slice (some ⟨b, off, none⟩) M.funcs.length c2, .int .i64 M.m0, .int .i64 M.m1, .slice a5 M.globals.length c5, .slice a6 M.data.length c6] 29)).alloc (.cells #[.slice none 0 0, .slice none 0 0] 42)).heap.size
        simp
      clear RS4 hsl2 hbl2
      go_wp2_with fail
      rw [HC.out]
      have R5 := ((HRS4.out.set 1 (.slice a'' G.results.length c'')).set 0 (.slice a' G.params.length c')).set 1 (.slice a'' G.results.length c'')
      have q0 := R5.c 0 (.slice a' G.params.length c') rfl
      have q1 := R5.c 1 (.slice a'' G.results.length c'') rfl
      have kp : ∀ i, i ≠ w.heap.size + 1 → (((w3.setCell ⟨w.heap.size + 1, 1, none⟩ (.slice a'' G.results.length c'')).setCell ⟨w.heap.size + 1, 0, none⟩ (.slice a' G.params.length c')).setCell ⟨w.heap.size + 1, 1, none⟩ (.slice a'' G.results.length c'')).heap[i]? = w3.heap[i]? := fun i hi =>
        (Below.heap_setCell _ _ _ _ hi).trans ((Below.heap_setCell _ _ _ _ hi).trans (Below.heap_setCell _ _ _ _ hi))
      have hsf : (((w3.setCell ⟨w.heap.size + 1, 1, none⟩ (.slice a'' G.results.length c'')).setCell ⟨w.heap.size + 1, 0, none⟩ (.slice a' G.params.length c')).setCell ⟨w.heap.size + 1, 1, none⟩ (.slice a'' G.results.length c'')).heap.size = w3.heap.size := by simp
      have hs3 : w1.heap.size ≤ w3.heap.size := by have := HBL2.out.size; simp at this; exact this
      refine ⟨rfl, .tuple #[.agg #[.slice a' G.params.length c', .slice a'' G.results.length c''], .bool false, .bool tr, .bool true], by simp [results, Tryz.f9, go_sem, q0, q1], a', c', a'', c'', rfl, ?_, ?_, ?_⟩
      · refine HSL.out.to keeps_int (fun i hi => ?_) (fun i hi => ⟨by have := hi.1; omega, by have := hi.2; omega⟩)
        have hne : i ≠ w.heap.size + 1 := by have := hi.1; omega
        rw [kp i hne, HBL2.out.block i (by have := hi.2; simp; omega)]
        exact Below.heap_setCell _ _ _ _ hne
      · have hs4 : w1.heap.size ≤ (w1.setCell ⟨w.heap.size + 1, 0, none⟩ (.slice a' G.params.length c')).heap.size := by simp
        refine HSL2.out.to keeps_int (fun i hi => kp i ?_) (fun i hi => ⟨by have := hi.1; omega, by have := hi.2; omega⟩)
        have := hi.1; omega
      · exact ((HB4.out.setCell (p := ⟨w.heap.size + 1, 1, none⟩) (Nat.le_succ _) _).setCell (p := ⟨w.heap.size + 1, 0, none⟩) (Nat.le_succ _) _).setCell (p := ⟨w.heap.size + 1, 1, none⟩) (Nat.le_succ _) _
    · have HC := hide (show callee M _ = none by rw [hC]; simp [Nat.le_of_not_lt hz])
      have hz1 : (M.sigs.length : Int) ≤ (z : Int) := by omega
      clear h hb0 hC hs1
      go_enter Tryz.func9, Tryz.ntmps9
      go_wp2_with fail
      go_quiet (fail)
      go_wp2_with fail
      rw [HC.out]
      exact ⟨rfl, .tuple #[.agg #[.slice none 0 0, .slice none 0 0], .bool false, .bool false, .bool false], by simp [results, Tryz.f9, go_sem], rfl, ((bel_drewN hb1.out _).setCell (p := ⟨w.heap.size + 1, 0, none⟩) (Nat.le_succ _) _).setCell (p := ⟨w.heap.size + 1, 1, none⟩) (Nat.le_succ _) _⟩
  · have HC := hide (show callee M _ = none by rw [hC]; cases (M.sigs[sg.toNat]?) <;> simp [hs0])
    have hz0 : sg < 0 := by omega
    clear h hb0 hC hs1
    go_enter Tryz.func9, Tryz.ntmps9
    go_wp2_with fail
    go_quiet (fail)
    go_wp2_with fail
    rw [HC.out]
    exact ⟨rfl, .tuple #[.agg #[.slice none 0 0, .slice none 0 0], .bool false, .bool false, .bool false], by simp [results, Tryz.f9, go_sem], rfl, ((bel_drewN hb1.out _).setCell (p := ⟨w.heap.size + 1, 0, none⟩) (Nat.le_succ _) _).setCell (p := ⟨w.heap.size + 1, 1, none⟩) (Nat.le_succ _) _⟩
theorem callee_any (V : MoV) (M : Mo) (n : Int) (w : World) (h : IsMo w.heap.size w V M) (hs : Small M) (hn : I64 n) :
    Calls Tryz.prog 9 #[moV V M, .int .i64 n] w (CalEnds w (callee M n)) := by
  by_cases h0 : n < 0
  · exact callee_neg V M n w h hs h0
  · obtain ⟨k, rfl⟩ := Int.eq_ofNat_of_zero_le (Int.not_lt.1 h0)
    by_cases h1 : k < M.imports.length
    · exact callee_imp V M _ w h hs k rfl h1
    · by_cases h2 : k < M.imports.length + M.funcs.length
      · exact callee_fun V M _ w h hs (k - M.imports.length) (by omega) (by omega)
      · exact callee_far V M _ w h hs (by omega) hn.2 (by omega)
end Go.Proofs.YtamofhkmhjckaabGreatDoor

/-
  The walk's push and die: they do the plain step, or leave by a panic.
  slices.Grow of nothing, and slices.Concat of two lists of numbers: a list of its own; memory that was there stays as it was.
  slices.Backward: the iterator yields what stands in a list, the last first, to a body that may panic.
  The walk's popTo: what flows to each of the types is popped, the last one first; or it leaves by a panic.
-/
import Derived.Test.YtamofhkmhjckaabGreatDoorWalk2
import Derived.Test.YtamofhkmhjckaabGreatDoorNAroundB
import Derived.Test.YtamofhkmhjckaabGreatDoorWalk16
import Derived.Lib.AppendZerosOnto
import Derived.Lib.Walk
import Derived.Lib.SliceRun
import Derived.Laws.AppendOwnNone
import Derived.Shelf.Abstract
import Derived.Shelf.RegionOpen
import Derived.OwnWalkIn
import Derived.TacticsInMore
import Derived.LoopNIn
import Derived.LoopIn
import Derived.Sort.QuietIn
namespace Go.Proofs.YtamofhkmhjckaabGreatDoor
open Go.RowKit
/-- nothing is appended -/
theorem append_nothing {P : Program} (w : World) {ops : Array Oper} {rest : List Oper} {o : Oper} {a : Act} {Q : Exit → Act → World → Prop} (hgd : o.guard = none) (s x : Operand) (t : TypeId)
    (ho : o.op = .call { callee := .builtin .append, args := #[s, x], argTypes := #[t, t] }) (e : TypeId) (i : TypeInfo) (ht : P.underlying t = some (.slice e)) (hi : P.info? e = some i)
    (sb : Option Addr) (sl sc : Nat) (hs : a.eval s = .slice sb sl sc) (hle : sl ≤ sc) (xb : Option Addr) (xc : Nat) (hx : a.eval x = .slice xb 0 xc)
    (h : wpList P ops Q rest (a.put o.dst (.slice sb sl sc)) w) : wpList P ops Q (o :: rest) a w := by
  refine wpList_plain hgd fun K hK => ?_
  have hrun : (Builtin.append_ #[t, t] o.type #[.slice sb sl sc, .slice xb 0 xc]).run P w = .ok (.slice sb sl sc) w := by
    cases sb <;> cases xb <;> simp [Builtin.append_, run_underlying ht, sizeOf, typeInfo, hi, hle, storeCells, loadCells, Builtin.lenOf, Builtin.firstCells, loadCellsFrom]
  unfold Oper.wp
  simp [execOp, ho, resolve, invoke, builtin, hs, hx, hrun, Result.andThen]
  exact hK _ _ h
section
variable {K : Kx} {at_ : Int} {s : Wk} {vs vf : Value} {fv : List (Fm × Value)} {w : World}
theorem WJ.growS (h : WJ K at_ s vs vf fv w) (hK : KOk K) {w1 : World} {vs1 : Value} {st' : List Int} (hg : w.grownBy w1 vs.ownBlock) (hn : ∀ k, vs1.ownBlock = some k → vs.ownBlock = some k ∨ w.heap.size ≤ k)
    (ho : w1.ownsRow K.base 3 1 vs1 st'.length (st'.reverse.map (Value.int .i64))) :
    WJ K at_ ⟨st', s.fr⟩ vs1 vf fv (w1.setCell ⟨K.B, 10, none⟩ vs1) ∧ Fr K vs vf vs1 vf w (w1.setCell ⟨K.B, 10, none⟩ vs1) := by
  have hF : Fr K vs vf vs1 vf w (w1.setCell ⟨K.B, 10, none⟩ vs1) := ((Fr.refl K vs vf w).growS hg hn (h.size hK) h.rowS).box hK 10 vs1
  have hrow : Row w1 K.B (wcells K at_ vs vf) 101 := by
    have := h.row
    unfold Row at *
    rw [hg.block K.B h.lt (fun e => h.neS e.symm)]; exact this
  have hneS : vs1.ownBlock ≠ some K.B := fun e => by
    rcases hn _ e with e | e
    · exact h.neS e
    · have := h.lt; omega
  refine ⟨⟨(h.bel.grown hg (h.size hK) h.rowS).setCell hK.bb _, ?_, ownsRow_setCell_other ho hneS _, ownsRow_setCell_other (h.fr.kept hg (Nest.own_ne h.fr h.st (by decide))) h.neF _, h.fs, h.lo.move hF, fun x hx => (h.br x hx).move hF⟩, hF⟩
  have := hrow.set 10 vs1
  simpa [wcells] using this
theorem push_map (l st : List Int) : (l.reverse ++ st).reverse.map (Value.int .i64) = st.reverse.map (Value.int .i64) ++ l.map (Value.int .i64) := by simp
theorem Bri.news {v : Value} {l : List Int} {ad : Addr} {c : Nat} (h : Bri K vs vf w v l) (hv : v = .slice (some ad) l.length c) : ∀ j u, (l.map (Value.int .i64))[j]? = some u → w.cell? (ad.add j) = some u := by
  intro j u hu
  obtain ⟨a, cap, e, he⟩ := h
  rw [hv] at e
  simp only [Value.slice.injEq, true_and] at e
  rw [List.getElem?_map] at hu
  cases hj : l[j]? with
  | none => rw [hj] at hu; simp at hu
  | some x =>
    rw [hj] at hu
    simp only [Option.map_some, Option.some.injEq] at hu
    obtain ⟨hlt, hx⟩ := List.getElem?_eq_some_iff.1 hj
    obtain ⟨b, off, ha, _, hi, hc⟩ := he j hlt
    rw [← e.1, Option.some.injEq] at ha
    subst ha
    rw [hx] at hc
    rw [← hu, Addr.add_lit]
    simpa using hc
set_option maxRecDepth 100000 in
set_option maxHeartbeats 4000000 in
theorem push_some (hK : KOk K) (h : WJ K at_ s vs vf fv w) (hsm : s.st.length ≤ 16) {v : Value} {l : List Int} (hb : Bri K vs vf w v l) (hl : l.length ≤ 4) (hp : 0 < l.length) :
    Calls Tryz.prog 62 #[.pointer (some ⟨K.B, 0, none⟩), v] w (Ends K at_ vs vf w (pushL l s)) := by
  have HK := hide hK
  have H := hide h
  obtain ⟨ad, c, hv⟩ : ∃ ad c, v = .slice (some ad) l.length c := by
    obtain ⟨a, cap, e, he⟩ := hb
    obtain ⟨b, off, ha, _⟩ := he 0 hp
    exact ⟨_, _, by rw [e, ha]⟩
  have NW := hide (hb.news hv)
  subst hv
  have c10 : w.cell? ⟨K.B, 10, none⟩ = some vs := h.row.c 10 _ rfl
  have z10 : w.frozen? ⟨K.B, 10, none⟩ = false := h.row.fr 10
  obtain ⟨a, cs, rfl⟩ := Nest.own_slice h.st
  have hown := hide h.st
  have hbase := h.size hK
  obtain ⟨i3, hi3, hprod⟩ := Option.map_eq_some_iff.1 Nest.Tryz.info3
  simp only [Prod.mk.injEq] at hprod
  obtain ⟨hz30, hz31, hz32⟩ := hprod
  have hM := hide (show ∀ u ∈ l.map (Value.int .i64), u.oneCell' = true from fun u hu => by
    obtain ⟨x, _, rfl⟩ := List.mem_map.1 hu; rfl)
  clear h hK hb
  go_enter Tryz.func62, Tryz.ntmps62
  go_wp2_with (at_builtin; refine Nest.append_mine _ rfl (.tmp 8) (.tmp 9) 23 rfl K.base 3 i3 (.int .i64 0) 1 8 Tryz.underlying23 hi3 hz30 hz31 hz32 rfl (by decide) _ _ _ rfl hown.out ad l.length c (l.map (Value.int .i64)) rfl (by simp) NW.out hM.out hp (by unfold maxLen; omega) (by omega) hbase ?_)
  intro v2 w2 own2 grow2 new2
  obtain ⟨as2, cs2, rfl⟩ := Nest.own_slice own2
  obtain ⟨J, F⟩ := H.out.growS HK.out (st' := l.reverse ++ s.st) grow2 new2 (by
    rw [push_map, show (l.reverse ++ s.st).length = s.st.length + l.length by simp [Nat.add_comm]]; simpa [List.map_reverse] using own2)
  have J := hide J
  have F := hide F
  have d10 : (w2.setCell ⟨K.B, 10, none⟩ (.slice as2 (s.st.length + l.length) cs2)).cell? ⟨K.B, 10, none⟩ = some (.slice as2 (s.st.length + l.length) cs2) := J.out.row.c 10 _ rfl
  have d8 : (w2.setCell ⟨K.B, 10, none⟩ (.slice as2 (s.st.length + l.length) cs2)).cell? ⟨K.B, 8, none⟩ = some (.int .i64 at_) := J.out.row.c 8 _ rfl
  have e10 : w2.cell? ⟨K.B, 10, none⟩ = some (.slice a s.st.length cs) := by
    rw [← c10]; exact World.cell?_of_block (grow2.block K.B H.out.lt (fun e => H.out.neS e.symm))
  have y10 : w2.frozen? ⟨K.B, 10, none⟩ = false := by
    rw [← z10]; exact World.frozen?_of_block (grow2.block K.B H.out.lt (fun e => H.out.neS e.symm))
  clear own2 grow2 new2
  by_cases h16 : 16 < s.st.length + l.length
  · go_wp2_with fail
    refine (vfault_any 1 at_ _).mono ?_
    rintro e w1 ⟨rfl, hf, hb⟩
    have HF := hide hf
    have HB := hide hb
    clear hf hb
    go_wp2_with fail
    rw [show pushL l s = .error 1 by simp [pushL, h16]]
    exact ⟨rfl, _, rfl, by have := HF.out; simpa using this, J.out.bel.trans (HB.out.mono (J.out.size HK.out))⟩
  · go_wp2_with fail
    go_end0
    rw [show pushL l s = .ok ⟨l.reverse ++ s.st, s.fr⟩ by simp [pushL, h16]]
    exact ⟨rfl, _, _, _, J.out, F.out⟩
set_option maxRecDepth 100000 in
set_option maxHeartbeats 4000000 in
theorem push_none (hK : KOk K) (h : WJ K at_ s vs vf fv w) (hsm : s.st.length ≤ 16) (xb : Option Addr) (xc : Nat) :
    Calls Tryz.prog 62 #[.pointer (some ⟨K.B, 0, none⟩), .slice xb 0 xc] w (Ends K at_ vs vf w (pushL [] s)) := by
  have HK := hide hK
  have H := hide h
  have c10 : w.cell? ⟨K.B, 10, none⟩ = some vs := h.row.c 10 _ rfl
  have z10 : w.frozen? ⟨K.B, 10, none⟩ = false := h.row.fr 10
  have ho := h.st
  obtain ⟨a, cs, rfl⟩ := Nest.own_slice h.st
  have hle : s.st.length ≤ cs := by
    rcases ho.2 with ⟨_, hz⟩ | ⟨g, cap, cur, e, _, _, hc, _⟩
    · omega
    · simp only [Value.slice.injEq] at e; omega
  obtain ⟨i3, hi3, hprod⟩ := Option.map_eq_some_iff.1 Nest.Tryz.info3
  clear hprod
  have J := hide (h.setS hK (st' := s.st) (vs' := .slice a s.st.length cs) (fun k hk => hk) ho)
  have F := hide (((Fr.refl K (.slice a s.st.length cs) vf w).box hK 10 (.slice a s.st.length cs)))
  have d10 : (w.setCell ⟨K.B, 10, none⟩ (.slice a s.st.length cs)).cell? ⟨K.B, 10, none⟩ = some (.slice a s.st.length cs) := J.out.row.c 10 _ rfl
  clear h hK ho
  go_enter Tryz.func62, Tryz.ntmps62
  go_wp2_with (at_builtin; refine append_nothing _ rfl (.tmp 8) (.tmp 9) 23 rfl 3 i3 Tryz.underlying23 hi3 a s.st.length cs rfl hle xb xc rfl ?_)
  have h16 : ¬ 16 < s.st.length := by omega
  go_wp2_with fail
  go_end0
  rw [show pushL [] s = .ok ⟨s.st, s.fr⟩ by simp [pushL, h16]]
  exact ⟨rfl, _, _, _, J.out, F.out⟩
theorem push_any (hK : KOk K) (h : WJ K at_ s vs vf fv w) (hw : WF s) {v : Value} {l : List Int} (hb : Bri K vs vf w v l) (hl : l.length ≤ 4) :
    Calls Tryz.prog 62 #[.pointer (some ⟨K.B, 0, none⟩), v] w (Ends K at_ vs vf w (pushL l s)) := by
  cases l with
  | nil =>
    obtain ⟨a, cap, rfl, _⟩ := hb
    exact push_none hK h hw.small _ _
  | cons x r => exact push_some hK h hw.small hb hl (by simp)
end
end Go.Proofs.YtamofhkmhjckaabGreatDoor
namespace Go.Proofs.YtamofhkmhjckaabGreatDoor
open Go.RowKit Go.Lib
set_option maxRecDepth 100000 in
set_option maxHeartbeats 2000000 in
theorem grow_nil (n : Nat) (hn : n ≤ 1000) (w : World) :
    Calls Tryz.prog 82 #[.slice none 0 0, .int .i64 n] w fun e w' => ∃ a c, e = .returned (.slice a 0 c) ∧ w'.ownsRow w.heap.size 3 1 (.slice a 0 c) 0 [] ∧ Below w.heap.size w w' := by
  obtain ⟨i3, hi3, hz30, hz31, hz32⟩ := info_parts Nest.Tryz.info3
  by_cases h0 : n = 0
  · subst h0
    go_enter Tryz.func82, Tryz.ntmps82
    go_wp2
    go_ret
    exact ⟨none, 0, rfl, World.ownsRow_nil _ _ _ _, Below.refl _ _⟩
  · have hrz : ∀ ty, (Builtin.append_ #[23, 3] ty #[.slice none 0 0, .int .i64 n]).run Tryz.prog w =
        .ok (.slice (some ⟨w.heap.size, 0, none⟩) n (grownCap w n 0 3)) (w.drew.alloc (.cells (#[] ++ Builtin.zeroCells (Value.int .i64 0).cells n ++ Builtin.zeroCells (Value.int .i64 0).cells (grownCap w n 0 3 - n)) 3)) := fun ty => by
      have h := Lib.run_append_grow_zeros w 23 3 ty 3 i3 (.int .i64 0) .i64 .i64 Tryz.underlying23 Tryz.underlying3 hi3 hz30 none 0 0 [] (run_firstCells_none w.drew i3.size 0 0 0) n (by omega) (by rw [hz31]; decide) (by omega) (by omega) (by rw [hz32]; omega)
        (by rw [Nat.zero_add]; exact growslice_fits (by omega) (by rw [hz32]; omega))
      simpa using h
    have hGn : n ≤ grownCap w n 0 3 := grownCap_ge w _ _ _
    have hGm : grownCap w n 0 3 ≤ maxLen := grownCap_le_maxLen w n 0 3 (by unfold maxLen; omega)
    obtain ⟨G, hG⟩ : ∃ G, G = grownCap w n 0 3 := ⟨_, rfl⟩
    rw [← hG] at hrz hGn hGm
    have hG63 : G ≤ 9223372036854775807 := by unfold maxLen at hGm; omega
    have h1 : ¬ ((n : Int) < 0) := by omega
    have h4 : (n : Int) > 0 := by omega
    obtain ⟨cs, hcs⟩ : ∃ cs, cs = #[] ++ Builtin.zeroCells (Value.int .i64 0).cells n ++ Builtin.zeroCells (Value.int .i64 0).cells (G - n) := ⟨_, rfl⟩
    have hsz : cs.size = G * 1 := by
      rw [hcs]; simp [size_zeroCells, Value.cells]
      omega
    rw [← hcs] at hrz
    have HSZ := hide hsz
    have HGM := hide hGm
    clear hG hcs hsz hGm
    go_enter Tryz.func82, Tryz.ntmps82
    go_wp2_with (at_builtin; refine Lib.wpList_append_run _ rfl _ _ _ _ rfl _ _ rfl rfl _ _ (hrz _) ?_)
    all_goals
      go_ret
      refine ⟨_, _, rfl, ⟨by simp, .inr ⟨w.heap.size, G, cs, rfl, Nat.le_refl _, heap_alloc_new w.drew _, Nat.zero_le _, HGM.out, HSZ.out, by simp⟩⟩, (bel_one w _).drew⟩
/-- what a list reads, in whatever keeps older memory -/
theorem sl_news {S : Nat → Prop} {a : Option Addr} {c : Nat} {l : List Int} {w W : World} (h : Sl 1 EInt S w (.slice a l.length c) l) (hS : ∀ b, S b → b < w.heap.size) (hW : Below w.heap.size w W) : ∀ ad, a = some ad → ∀ j u, (l.map (Value.int .i64))[j]? = some u → W.cell? (ad.add j) = some u := by
  intro ad ha j u hu
  obtain ⟨a0, c0, e0, he⟩ := h
  simp only [Value.slice.injEq, true_and] at e0
  rw [List.getElem?_map] at hu
  cases hj : l[j]? with
  | none => rw [hj] at hu; simp at hu
  | some x =>
    rw [hj] at hu
    simp only [Option.map_some, Option.some.injEq] at hu
    obtain ⟨hlt, hx⟩ := List.getElem?_eq_some_iff.1 hj
    obtain ⟨b, off, e, hb, _, hc⟩ := he j hlt
    rw [← e0.1, ha, Option.some.injEq] at e
    subst e
    rw [hx, Nat.mul_one] at hc
    rw [← hu, Addr.add_lit]
    exact (hW.cell (p := ⟨b, off + j, none⟩) (hS b hb)).trans hc
theorem sl_nil {S : Nat → Prop} {a : Option Addr} {c : Nat} {l : List Int} {w : World} (h : Sl 1 EInt S w (.slice a l.length c) l) : a = none → l = [] := by
  rintro rfl
  cases l with
  | nil => rfl
  | cons x r =>
    obtain ⟨a0, c0, e0, he⟩ := h
    obtain ⟨b, off, e, _⟩ := he 0 (by simp)
    simp only [Value.slice.injEq, true_and] at e0
    rw [← e0.1] at e; cases e
theorem sl_i64 {S : Nat → Prop} {v : Value} {l : List Int} {w : World} (h : Sl 1 EInt S w v l) : ∀ x ∈ l, I64 x := fun x hx => by
  obtain ⟨a, c, _, he⟩ := h
  obtain ⟨j, hj, rfl⟩ := List.getElem_of_mem hx
  obtain ⟨b, off, _, _, h64, _⟩ := he j hj; exact h64
/-- numbers are appended to a row of one's own -/
theorem append_ints {P : Program} (w : World) {ops : Array Oper} {rest : List Oper} {o : Oper} {a : Act} {Q : Exit → Act → World → Prop} (hgd : o.guard = none) (s x : Operand) (t : TypeId)
    (ho : o.op = .call { callee := .builtin .append, args := #[s, x], argTypes := #[t, t] })
    (base : Nat) (i : TypeInfo) (ht : P.underlying t = some (.slice 3)) (hi : P.info? 3 = some i) (hz : i.zero = some (.int .i64 0)) (hsize : i.size = 1) (hby : i.bytes = 8)
    (sb : Option Addr) (sc n : Nat) (l0 : List Int) (hs : a.eval s = .slice sb n sc) (hown : w.ownsRow base 3 1 (.slice sb n sc) n (l0.map (Value.int .i64)))
    (xa : Option Addr) (xc : Nat) (l : List Int) (hx : a.eval x = .slice xa l.length xc) (hnil : xa = none → l = []) (hnews : ∀ ad, xa = some ad → ∀ j u, (l.map (Value.int .i64))[j]? = some u → w.cell? (ad.add j) = some u)
    (hn : n + l.length ≤ 10000) (hbase : base ≤ w.heap.size)
    (h : ∀ sb' sc' w', w'.ownsRow base 3 1 (.slice sb' (n + l.length) sc') (n + l.length) ((l0 ++ l).map (Value.int .i64)) → w.grownBy w' (Value.slice sb n sc).ownBlock → wpList P ops Q rest (a.put o.dst (.slice sb' (n + l.length) sc')) w') : wpList P ops Q (o :: rest) a w := by
  cases xa with
  | none =>
    have hl := hnil rfl
    subst hl
    have hle : n ≤ sc := by
      rcases hown.2 with ⟨e, hz⟩ | ⟨g, cap, cur, e, _, _, hc, _⟩
      · omega
      · simp only [Value.slice.injEq] at e; omega
    refine append_nothing w hgd s x t ho 3 i ht hi sb n sc hs hle none xc hx ?_
    have := h sb sc w (by simpa using hown) ⟨rfl, rfl, rfl, Nat.le_refl _, fun _ _ _ => rfl⟩
    simpa using this
  | some ad =>
    refine wpList_append_own w hgd s x t ho base 3 i (.int .i64 0) 1 8 ht hi hz hsize hby rfl (by decide) _ n _ hs hown ad l.length xc (l.map (Value.int .i64)) hx (by simp) (hnews ad rfl) (fun u hu => by obtain ⟨x, _, rfl⟩ := List.mem_map.1 hu; rfl) (by unfold maxLen; omega) (by omega) hbase ?_
    intro v' w' own' grow' _
    obtain ⟨sb', sc', rfl⟩ := Nest.own_slice own'
    exact h sb' sc' w' (by rw [List.map_append]; exact own') grow'
set_option maxRecDepth 100000 in
set_option maxHeartbeats 4000000 in
theorem concat_two {S : Nat → Prop} (a1 a2 : Option Addr) (g c1 c2 : Nat) (l1 l2 : List Int) (w : World) (hg1 : w.cell? ⟨g, 0, none⟩ = some (.slice a1 l1.length c1)) (hg2 : w.cell? ⟨g, 1, none⟩ = some (.slice a2 l2.length c2)) (hgl : g < w.heap.size)
    (h1 : Sl 1 EInt S w (.slice a1 l1.length c1) l1) (h2 : Sl 1 EInt S w (.slice a2 l2.length c2) l2) (hS : ∀ b, S b → b < w.heap.size) (hl1 : l1.length ≤ 100) (hl2 : l2.length ≤ 100) :
    Calls Tryz.prog 48 #[.slice (some ⟨g, 0, none⟩) 2 2] w fun e w' => ∃ a c, e = .returned (.slice a (l1 ++ l2).length c) ∧ Sl 1 EInt (NewB w.heap.size w') w' (.slice a (l1 ++ l2).length c) (l1 ++ l2) ∧ Below w.heap.size w w' := by
  obtain ⟨i3, hi3, hz30, hz31, hz32⟩ := info_parts Nest.Tryz.info3
  have HI := hide (show ∀ x ∈ l1 ++ l2, I64 x from fun x hx => (List.mem_append.1 hx).elim (sl_i64 h1 x) (sl_i64 h2 x))
  have E1 := hide (sl_nil h1)
  have E2 := hide (sl_nil h2)
  have N1 := hide (fun (W : World) (hW : Below w.heap.size w W) => sl_news h1 hS hW)
  have N2 := hide (fun (W : World) (hW : Below w.heap.size w W) => sl_news h2 hS hW)
  clear h1 h2 hS
  have GR := hide (grow_nil (l1.length + l2.length) (by omega) w)
  have hneg1 : ¬ ((l1.length : Int) < 0) := by omega
  have hneg2 : ¬ ((l1.length : Int) + l2.length < 0) := by omega
  go_enter Tryz.func48, Tryz.ntmps48
  go_wp2_with fail
  refine wp_loop_rounds 3 ?_
  rw [rounds_succ]
  go_wp2_with fail
  rw [rounds_succ]
  go_wp2_with fail
  rw [rounds_succ]
  go_wp2_with fail
  refine GR.out.mono ?_
  rintro e w1 ⟨a, c, rfl, hown, hb⟩
  have g1 := (hb.cell (p := ⟨g, 0, none⟩) hgl).trans hg1
  have g2 := (hb.cell (p := ⟨g, 1, none⟩) hgl).trans hg2
  have HOWN := hide hown
  have HB := hide hb
  have hbs := hb.size
  clear hown hb
  go_wp2_with fail
  refine wp_loop_rounds 3 ?_
  rw [rounds_succ]
  go_wp2_with (at_builtin; refine append_ints _ rfl (.tmp 31) (.tmp 32) 23 rfl w.heap.size i3 Tryz.underlying23 hi3 hz30 hz31 hz32 a c 0 [] rfl HOWN.out a1 c1 l1 rfl E1.out (N1.out _ HB.out) (by omega) hbs ?_)
  intro a' c' w2 own2 grow2
  have HB2 := hide (HB.out.grown grow2 hbs (fun k hk => (HOWN.out.lt k hk).1))
  have g2' := (HB2.out.cell (p := ⟨g, 1, none⟩) hgl).trans hg2
  have g1' := (HB2.out.cell (p := ⟨g, 0, none⟩) hgl).trans hg1
  have hbs2 := HB2.out.size
  have HOWN2 := hide own2
  clear own2 grow2
  go_wp2_with fail
  rw [rounds_succ]
  go_wp2_with (at_builtin; refine append_ints _ rfl (.tmp 31) (.tmp 32) 23 rfl w.heap.size i3 Tryz.underlying23 hi3 hz30 hz31 hz32 a' c' l1.length l1 rfl HOWN2.out a2 c2 l2 rfl E2.out (N2.out _ HB2.out) (by omega) hbs2 ?_)
  intro a'' c'' w3 own3 grow3
  have HB3 := hide (HB2.out.grown grow3 hbs2 (fun k hk => (HOWN2.out.lt k hk).1))
  have HOWN3 := hide own3
  clear own3 grow3
  go_wp2_with fail
  rw [rounds_succ]
  go_wp2_with fail
  go_ret
  have e1 : l1.length + l2.length = (l1 ++ l2).length := by simp
  obtain ⟨_, _, _, hsl⟩ := own_sl (by rw [List.map_append]; exact HOWN3.out) e1 HI.out
  exact ⟨a'', c'', by simp, by rw [← e1]; exact hsl, HB3.out⟩
end Go.Proofs.YtamofhkmhjckaabGreatDoor
namespace Go.Proofs.YtamofhkmhjckaabGreatDoor
open Go.RowKit Go.Shelf
attribute [local go_sem] Oper.semAt_some
set_option maxRecDepth 100000 in
set_option maxHeartbeats 2000000 in
theorem back_gives (n : Nat) (hn : 1 ≤ n) (Bs len cap : Nat) (a : Option Addr) (g : Nat → Int) (hlen : len ≤ 1000) (I : Nat → World → Prop)
    (hI : ∀ k W, I k W → W.cell? ⟨Bs, 0, none⟩ = some (.slice a len cap) ∧ ∀ j, j < len → ∃ b off, a = some ⟨b, off, none⟩ ∧ W.cell? ⟨b, off + j, none⟩ = some (.int .i64 (g j))) :
    GivesP Fence.wide n Tryz.prog 99 #[.pointer (some ⟨Bs, 0, none⟩)] (fun k => #[.int .i64 ((len - 1 - k : Nat) : Int), .int .i64 (g (len - 1 - k))]) len I := by
  intro l J JP W hJI hdrew hY h0
  refine callsIn_of_wp Tryz.func99 rfl trivial ?_ rfl
  simp only [Tryz.ntmps99, List.size_toArray, List.length_cons, List.length_nil, Nat.reduceAdd, Nat.reduceSub, Array.replicate_succ, Array.replicate_zero, List.push_toArray, List.append_toArray, List.nil_append, List.cons_append]
  have c0 := (hI 0 W (hJI 0 W h0)).1
  gi_wp2
  gi_loopw [3] (fun i wr => ∃ k : Nat, k ≤ len ∧ i = .int .i64 ((len : Int) - 1 - k) ∧ J k wr) (fun i _ => (intOf i + 1).toNat)
  case atStart => exact ⟨0, Nat.zero_le _, by simp, h0⟩
  case round =>
    obtain ⟨k, hk, rfl, hJs⟩ := hrel
    by_cases hlt : k < len
    · obtain ⟨c1, hr⟩ := hI k wr (hJI k wr hJs)
      obtain ⟨b, off, rfl, hx⟩ := hr (len - 1 - k) (by omega)
      obtain ⟨m, hm⟩ : ∃ m : Nat, len = k + 1 + m := ⟨len - (k + 1), by omega⟩
      have em : len - 1 - k = m := by omega
      have ei : (len : Int) - 1 - k = m := by omega
      rw [em] at hx
      rw [ei]
      obtain ⟨fn, tmps, assign, body, hy, hR⟩ := hY k wr hJs hlt
      rw [em] at hy
      have hml : m < len := by omega
      have HM := hide hm
      clear hm em ei
      gi_wp2_with fail
      refine hR.mono ?_
      rintro e W3 (⟨rfl, h3⟩ | ⟨ch, rfl, h3⟩)
      · gi_wp2
        go_roundw
        case rel => exact ⟨k + 1, by omega, by have := HM.out; simp; omega, h3⟩
        case measure => simp [intOf]
      · gi_wp2
        exact ⟨rfl, .inr ⟨ch, rfl, h3⟩⟩
    · obtain rfl : k = len := by omega
      gi_wp2
      go_end0
      exact .inl ⟨_, rfl, hJs⟩
theorem backward_in (n : Nat) (a : Option Addr) (len cap : Nat) (w : World) :
    CallsIn Fence.wide n Tryz.prog 85 #[.slice a len cap] w fun e w' => e = .returned (.func (.func 99) #[] #[.pointer (some ⟨w.heap.size, 0, none⟩)]) ∧ w' = w.alloc (.cells #[.slice a len cap] 23) := by
  refine callsIn_of_wp Tryz.func85 rfl trivial ?_ rfl
  simp only [Tryz.ntmps85, List.size_toArray, List.length_cons, List.length_nil, Nat.reduceAdd, Nat.reduceSub, Array.replicate_succ, Array.replicate_zero, List.push_toArray, List.append_toArray, List.nil_append, List.cons_append]
  gi_wp2
  go_ret
  exact ⟨rfl, rfl⟩
end Go.Proofs.YtamofhkmhjckaabGreatDoor
namespace Go.Proofs.YtamofhkmhjckaabGreatDoor
open Go.RowKit Go.Shelf
attribute [local go_sem] Oper.semAt_some
theorem row_ne {w : World} {base : Nat} {e : TypeId} {z n : Nat} {v : Value} {xs : List Value} (h : w.ownsRow base e z v n xs) {k : Nat} {cs : Array Value} {t : TypeId} {fz : Nat × Nat} (hb : w.heap[k]? = some (.cells cs t fz)) (hte : t ≠ e) : v.ownBlock ≠ some k := by
  rcases h.2 with ⟨rfl, _⟩ | ⟨g, cap, cur, rfl, _, hg, _⟩
  · simp [Value.ownBlock]
  · simp only [Value.ownBlock, ne_eq, Option.some.injEq]
    rintro rfl
    rw [hg] at hb
    simp at hb
    exact hte hb.2.1.symm
theorem popF_app : ∀ (l m : List Int) (b : Bool) (s : Wk), popF (l ++ m) b s = bnd (popF l b s) fun p => popF m p.1 p.2
  | [], m, b, s => rfl
  | t :: l, m, b, s => by
    show bnd (oneW t s) _ = bnd (bnd (oneW t s) _) _
    cases h : oneW t s with
    | error c => rfl
    | ok p => exact popF_app l m (b || p.1) p.2
section
variable {K : Kx} {at_ : Int} {s : Wk} {vs vf vs' vf' : Value} {fv : List (Fm × Value)} {w w' : World}
theorem WJ.own (h : WJ K at_ s vs vf fv w) (hK : KOk K) {row : Option Nat} (hg : w.grownBy w' row) (hr : ∀ r, row = some r → K.base ≤ r ∧ ∃ o : Obj, w.heap[r]? = some o ∧ o.isCells = false) : WJ K at_ s vs vf fv w' := by
  have hr2 : ∀ r, row = some r → ∃ o : Obj, w.heap[r]? = some o ∧ o.isCells = false := fun r e => (hr r e).2
  have own : ∀ {e : TypeId} {z n : Nat} {v : Value} {xs : List Value}, w.ownsRow K.base e z v n xs → w'.ownsRow K.base e z v n xs := by
    intro e z n v xs ho
    refine ho.kept hg ?_
    rcases ho.2 with ⟨rfl, _⟩ | ⟨g, cap, cur, rfl, _, hh, _⟩
    · exact .inl rfl
    · refine .inr fun e => ?_
      obtain ⟨o, ho, hc⟩ := hr2 g e.symm
      rw [hh] at ho; cases ho; cases hc
  have bri : ∀ {v : Value} {l : List Int}, Bri K vs vf w v l → Bri K vs vf w' v l := by
    intro v l h
    obtain ⟨a, cap, hv, he⟩ := h
    refine ⟨a, cap, hv, fun j hj => ?_⟩
    obtain ⟨b, off, ha, hf, hi, hc⟩ := he j hj
    exact ⟨b, off, ha, ⟨hf.1, hf.2.1, hf.2.2.1, by have := hf.2.2.2; have := hg.size; omega⟩, hi, cell_kept hc hg hr2⟩
  refine ⟨h.bel.grown hg (h.size hK) (fun k e => (hr k e).1), ?_, own h.st, own h.fr, h.fs, ⟨by have := h.lo.1; have := hg.size; omega, bri h.lo.2⟩, fun x hx => bri (h.br x hx)⟩
  · have := h.row
    unfold Row at *
    rw [grownBy_keeps_cells hg hr2 this rfl]; exact this
theorem Fr.own {w2 : World} (h : Fr K vs vf vs' vf' w w') (hB : K.base ≤ w.heap.size) {row : Option Nat} (hg : w'.grownBy w2 row) (hr : ∀ r, row = some r → w.heap.size ≤ r) : Fr K vs vf vs' vf' w w2 :=
  ⟨h.bl.grown hg (by have := h.bl.size; omega) (fun k e => by have := hr k e; omega), fun k hk h1 h2 h3 => (hg.block k (by have := h.bl.size; omega) (fun e => by have := hr k e.symm; omega)).trans (h.kp k hk h1 h2 h3), h.ns, h.nf⟩
theorem Fr.others (h : Fr K vs vf vs' vf' w w') (J : WJ K at_ s vs vf fv w) : KeepsOthers w w' := by
  refine ⟨h.bl.size, fun k o hk ho => (h.kp k (Array.getElem?_eq_some_iff.1 hk).1 ?_ ?_ ?_).trans hk⟩
  · rintro rfl
    have := J.row
    unfold Row at this
    rw [hk] at this; cases this; cases ho
  · intro e
    rcases J.st.2 with ⟨rfl, _⟩ | ⟨g, cap, cur, rfl, _, hg, _⟩
    · simp [Value.ownBlock] at e
    · simp only [Value.ownBlock, Option.some.injEq] at e
      subst e
      rw [hk] at hg; cases hg; cases ho
  · intro e
    rcases J.fr.2 with ⟨rfl, _⟩ | ⟨g, cap, cur, rfl, _, hg, _⟩
    · simp [Value.ownBlock] at e
    · simp only [Value.ownBlock, Option.some.injEq] at e
      subst e
      rw [hk] at hg; cases hg; cases ho
theorem bel_others {w w' : World} (h : Below w.heap.size w w') : KeepsOthers w w' := ⟨h.size, fun k _ hk _ => (h.block k (Array.getElem?_eq_some_iff.1 hk).1).trans hk⟩
/-- a variable of the call's own -/
def Bx (W : World) (b : Nat) (v : Value) (t : TypeId) : Prop := W.heap[b]? = some (.cells #[v] t (0, 0))
theorem Bx.keep {W W' : World} {b : Nat} {v : Value} {t : TypeId} (h : Bx W b v t) (J : WJ K at_ s vs vf fv W) (F : Fr K vs vf vs' vf' W W') (h1 : t ≠ 101) (h2 : t ≠ 3) (h3 : t ≠ 127) : Bx W' b v t := by
  refine (F.kp b (Array.getElem?_eq_some_iff.1 h).1 ?_ (row_ne J.st h h2) (row_ne J.fr h h3)).trans h
  rintro rfl
  have := J.row
  unfold Row at this
  unfold Bx at h
  rw [h] at this; simp at this; exact h1 this.2
theorem Bx.own {W W' : World} {b : Nat} {v : Value} {t : TypeId} (h : Bx W b v t) {row : Option Nat} (hg : W.grownBy W' row) (hr : ∀ r, row = some r → ∃ o : Obj, W.heap[r]? = some o ∧ o.isCells = false) : Bx W' b v t :=
  (grownBy_keeps_cells hg hr h rfl).trans h
theorem Fr.far (h : Fr K vs vf vs' vf' w w') (hB : K.base ≤ w.heap.size) {x : Nat} (hx : w.heap.size ≤ x) (u : Value) : Fr K vs vf vs' vf' w (w'.setCell ⟨x, 0, none⟩ u) :=
  ⟨h.bl.setCell (by show K.base ≤ x; omega) u, fun k hk h1 h2 h3 => (Below.heap_setCell _ _ _ _ (by show k ≠ x; omega)).trans (h.kp k hk h1 h2 h3), h.ns, h.nf⟩
theorem WJ.setBx {sk : Wk} {W : World} (J : WJ K at_ sk vs' vf fv W) (hK : KOk K) (h : WJ K at_ s vs vf fv w) (F : Fr K vs vf vs' vf w W) {x : Nat} {v : Value} {t : TypeId} (hx : Bx W x v t) (h1 : t ≠ 101) (h2 : t ≠ 3) (h3 : t ≠ 127) (hw : w.heap.size ≤ x) (u : Value) :
    WJ K at_ sk vs' vf fv (W.setCell ⟨x, 0, none⟩ u) ∧ Fr K vs vf vs' vf w (W.setCell ⟨x, 0, none⟩ u) := by
  have hB := h.size hK
  have F' := F.far hB hw u
  refine ⟨⟨J.bel.setCell (by show K.base ≤ x; omega) u, J.row.other 0 u ?_, ownsRow_setCell_other J.st (a := ⟨x, 0, none⟩) (row_ne J.st hx h2) u, ownsRow_setCell_other J.fr (a := ⟨x, 0, none⟩) (row_ne J.fr hx h3) u, J.fs, h.lo.move F', fun y hy => (h.br y hy).move F'⟩, F'⟩
  rintro rfl
  have := J.row
  unfold Row at this
  unfold Bx at hx
  rw [hx] at this; simp at this; exact h1 this.2
theorem Bx.c {W : World} {b : Nat} {v : Value} {t : TypeId} (h : Bx W b v t) : W.cell? ⟨b, 0, none⟩ = some v := cell_of_one h
theorem Bx.z {W : World} {b : Nat} {v : Value} {t : TypeId} (h : Bx W b v t) : W.frozen? ⟨b, 0, none⟩ = false := by unfold Bx at h; simp [World.frozen?, h]
theorem Bx.set {W : World} {b : Nat} {v : Value} {t : TypeId} (h : Bx W b v t) (u : Value) : Bx (W.setCell ⟨b, 0, none⟩ u) b u t := one_setCell h
theorem Bx.other {W : World} {b c : Nat} {v : Value} {t : TypeId} (h : Bx W b v t) (hc : b ≠ c) (u : Value) : Bx (W.setCell ⟨c, 0, none⟩ u) b v t := (Below.heap_setCell _ _ _ _ hc).trans h
theorem Bx.alloc {W : World} {b : Nat} {v : Value} {t : TypeId} (h : Bx W b v t) (o : Obj) : Bx (W.alloc o) b v t := (Below.heap_alloc W o b (Array.getElem?_eq_some_iff.1 h).1).trans h
theorem Bx.made (W : World) (v : Value) (t : TypeId) : Bx (W.alloc (.cells #[v] t)) W.heap.size v t := heap_alloc_new W _
/-- between two rounds -/
def InvP (K : Kx) (at_ : Int) (s : Wk) (vs vf : Value) (fv : List (Fm × Value)) (w : World) (v : Value) (l : List Int) (k : Nat) (W : World) : Prop :=
  ∃ b sk vs', popF (l.reverse.take k) false s = .ok (b, sk) ∧ WJ K at_ sk vs' vf fv W ∧ Fr K vs vf vs' vf w W ∧ Bx W w.heap.size (.pointer (some ⟨K.B, 0, none⟩)) 97 ∧ Bx W (w.heap.size + 1) (.bool b) 4 ∧ Bx W (w.heap.size + 1 + 1) v 23
theorem InvP.from (hK : KOk K) (hB : K.base ≤ w.heap.size) (v : Value) (l : List Int) {B : Nat} (hBB : w.heap.size ≤ B) : OwnFrom B (InvP K at_ s vs vf fv w v l) := by
  rintro k W W' row ⟨b, sk, vs', hp, J, F, b0, b1, b2⟩ hg hr
  have hr2 : ∀ r, row = some r → ∃ o : Obj, W.heap[r]? = some o ∧ o.isCells = false := fun r e => (hr r e).2
  exact ⟨b, sk, vs', hp, J.own hK hg (fun r e => ⟨by have := (hr r e).1; omega, hr2 r e⟩), F.own hB hg (fun r e => by have := (hr r e).1; omega), b0.own hg hr2, b1.own hg hr2, b2.own hg hr2⟩
theorem InvP.reads {v : Value} {l : List Int} {a : Option Addr} {cap k : Nat} {W : World} (hv : v = .slice a l.length cap) (hb : Bri K vs vf w v l) (h : InvP K at_ s vs vf fv w v l k W) :
    W.cell? ⟨w.heap.size + 1 + 1, 0, none⟩ = some (.slice a l.length cap) ∧ ∀ j, j < l.length → ∃ b off, a = some ⟨b, off, none⟩ ∧ W.cell? ⟨b, off + j, none⟩ = some (.int .i64 (l.getD j 0)) := by
  obtain ⟨b, sk, vs', hp, J, F, b0, b1, b2⟩ := h
  refine ⟨by rw [b2.c, hv], fun j hj => ?_⟩
  obtain ⟨a', cap', e, he⟩ := hb.move F
  rw [hv] at e
  simp only [Value.slice.injEq, true_and] at e
  obtain ⟨b, off, ha, _, _, hc⟩ := he j hj
  refine ⟨b, off, by rw [e.1]; exact ha, ?_⟩
  rw [Nat.mul_one] at hc
  rw [hc]; simp [List.getD, hj]
end
end Go.Proofs.YtamofhkmhjckaabGreatDoor

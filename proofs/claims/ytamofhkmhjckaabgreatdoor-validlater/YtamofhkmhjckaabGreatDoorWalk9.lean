/-
  The walk's open: a frame more.
-/
import Derived.Test.YtamofhkmhjckaabGreatDoorWalk8
import Derived.Deep.RegionLaw
namespace Go.Proofs.YtamofhkmhjckaabGreatDoor
open Go.RowKit
theorem Tryz.info127 : (Tryz.prog.info? 127).map (fun i => (i.zero, i.size, i.bytes)) = some (some (.agg #[.int .i64 0, .slice none 0 0, .int .i64 0, .bool false]), 4, 48) := by kernel_rfl
section
variable {K : Kx} {at_ : Int} {s : Wk} {vs vf : Value} {fv : List (Fm × Value)} {w : World}
theorem WJ.growF (h : WJ K at_ s vs vf fv w) (hK : KOk K) {w1 : World} {vf1 v : Value} {f : Fm} (hg : w.grownBy w1 vf.ownBlock) (hn : ∀ k, vf1.ownBlock = some k → vf.ownBlock = some k ∨ w.heap.size ≤ k)
    (ho : w1.ownsRow K.base 127 4 vf1 (s.fr.length + 1) (flatF fv.reverse ++ fcel (f, v))) (hb : Bri K vs vf w v f.br) :
    WJ K at_ ⟨s.st, f :: s.fr⟩ vs vf1 ((f, v) :: fv) (w1.setCell ⟨K.B, 11, none⟩ vf1) ∧ Fr K vs vf vs vf1 w (w1.setCell ⟨K.B, 11, none⟩ vf1) := by
  have hF : Fr K vs vf vs vf1 w (w1.setCell ⟨K.B, 11, none⟩ vf1) := ((Fr.refl K vs vf w).growF hg hn (h.size hK) h.rowF).box hK 11 vf1
  have hrow : Row w1 K.B (wcells K at_ vs vf) 101 := by
    have := h.row
    unfold Row at *
    rw [hg.block K.B h.lt (fun e => h.neF e.symm)]; exact this
  have hneF : vf1.ownBlock ≠ some K.B := fun e => by
    rcases hn _ e with e | e
    · exact h.neF e
    · have := h.lt; omega
  refine ⟨⟨(h.bel.grown hg (h.size hK) h.rowF).setCell hK.bb _, ?_, ownsRow_setCell_other (h.st.kept hg (Nest.own_ne h.st h.fr (by decide))) h.neS _, ?_, by simp [h.fs], h.lo.move hF, fun x hx => ?_⟩, hF⟩
  · have := hrow.set 11 vf1
    simpa [wcells] using this
  · refine ownsRow_setCell_other ?_ hneF _
    rw [List.reverse_cons, flat_app]
    have e : flatF [(f, v)] = fcel (f, v) := by simp [flatF]
    rw [e]; exact ho
  · rcases List.mem_cons.1 hx with rfl | hx
    · exact hb.move hF
    · exact (h.br x hx).move hF
set_option maxRecDepth 100000 in
set_option maxHeartbeats 4000000 in
theorem open_any (hK : KOk K) (h : WJ K at_ s vs vf fv w) (hn : s.fr.length ≤ 1000) (x : In) (hx : -1000 ≤ x.m ∧ x.m ≤ 1000) :
    Calls Tryz.prog 53 #[.pointer (some ⟨K.B, 0, none⟩), .agg #[.int .i64 x.op, .int .i64 x.n, .int .i64 x.m]] w (Ends K at_ vs vf w (.ok (openW x s))) := by
  obtain ⟨xo, xn, xm⟩ := x
  simp only at hx ⊢
  have hB := h.lt
  have c10 : w.cell? ⟨K.B, 10, none⟩ = some vs := h.row.c 10 _ rfl
  have c11 : w.cell? ⟨K.B, 11, none⟩ = some vf := h.row.c 11 _ rfl
  have z11 : w.frozen? ⟨K.B, 11, none⟩ = false := h.row.fr 11
  obtain ⟨a, c, hvs⟩ := Nest.own_slice h.st
  rw [hvs] at c10
  obtain ⟨af, cf, hvf⟩ := Nest.own_slice h.fr
  have HVF := hide hvf
  rw [hvf] at c11
  obtain ⟨i0, hi0, hz0, hz1, hz2⟩ := info_parts Tryz.info127
  have HK := hide hK
  have H := hide h
  have hbase := h.size hK
  have agB : (Value.slice af s.fr.length cf).ownBlock ≠ some K.B := by rw [← hvf]; exact h.neF
  have agX : (Value.slice af s.fr.length cf).ownBlock ≠ some (w.heap.size + 1) := by
    rw [← hvf]; intro e; have := (h.fr.lt _ e).2; omega
  have hB0 : ¬ K.B = w.heap.size := by omega
  have hB1 : ¬ K.B = w.heap.size + 1 := by omega
  have hB2 : ¬ K.B = w.heap.size + 1 + 1 := by omega
  have hB3 : ¬ K.B = w.heap.size + 1 + 1 + 1 := by omega
  by_cases hm : xm = 0
  · have HE := hide (show openW ⟨xo, xn, xm⟩ s = ⟨s.st, ⟨xo, [], s.st.length, false⟩ :: s.fr⟩ by simp [openW, brM, hm])
    subst hm
    have J := hide (((h.alloc hK (.cells #[.int .i64 xo, .int .i64 xn, .int .i64 0] 44)).alloc hK (.cells #[.int .i64 xo, .slice none 0 0, .int .i64 s.st.length, .bool false] 127)).alloc hK (.cells #[.int .i64 xo, .slice none 0 0, .int .i64 s.st.length, .bool false] 127))
    have F := hide ((((Fr.refl K vs vf w).alloc hbase (.cells #[.int .i64 xo, .int .i64 xn, .int .i64 0] 44)).alloc (by simp; omega) (.cells #[.int .i64 xo, .slice none 0 0, .int .i64 s.st.length, .bool false] 127)).alloc (by simp; omega) (.cells #[.int .i64 xo, .slice none 0 0, .int .i64 s.st.length, .bool false] 127))
    have BR : Hid (Bri K vs vf (((w.alloc (.cells #[.int .i64 xo, .int .i64 xn, .int .i64 0] 44)).alloc (.cells #[.int .i64 xo, .slice none 0 0, .int .i64 s.st.length, .bool false] 127)).alloc (.cells #[.int .i64 xo, .slice none 0 0, .int .i64 s.st.length, .bool false] 127)) (.slice none 0 0) []) := hide (Sl.isNil _ _ _ _)
    have E11 : Hid ((((w.alloc (.cells #[.int .i64 xo, .int .i64 xn, .int .i64 0] 44)).alloc (.cells #[.int .i64 xo, .slice none 0 0, .int .i64 s.st.length, .bool false] 127)).alloc (.cells #[.int .i64 xo, .slice none 0 0, .int .i64 s.st.length, .bool false] 127)).cell? ⟨K.B, 11, none⟩ = some (.slice af s.fr.length cf)) := by
      have := J.out.row.c 11 vf rfl
      rw [hvf] at this; exact hide this
    have Y11 : Hid ((((w.alloc (.cells #[.int .i64 xo, .int .i64 xn, .int .i64 0] 44)).alloc (.cells #[.int .i64 xo, .slice none 0 0, .int .i64 s.st.length, .bool false] 127)).alloc (.cells #[.int .i64 xo, .slice none 0 0, .int .i64 s.st.length, .bool false] 127)).frozen? ⟨K.B, 11, none⟩ = false) := hide (J.out.row.fr 11)
    have NB : Hid ((((w.alloc (.cells #[.int .i64 xo, .int .i64 xn, .int .i64 0] 44)).alloc (.cells #[.int .i64 xo, .slice none 0 0, .int .i64 s.st.length, .bool false] 127)).alloc (.cells #[.int .i64 xo, .slice none 0 0, .int .i64 s.st.length, .bool false] 127)).heap[w.heap.size + 1 + 1]? = some (.cells #[.int .i64 xo, .slice none 0 0, .int .i64 s.st.length, .bool false] 127 (0, 0))) := by
      have := heap_alloc_new ((w.alloc (.cells #[.int .i64 xo, .int .i64 xn, .int .i64 0] 44)).alloc (.cells #[.int .i64 xo, .slice none 0 0, .int .i64 s.st.length, .bool false] 127)) (.cells #[.int .i64 xo, .slice none 0 0, .int .i64 s.st.length, .bool false] 127)
      refine hide ?_
      simpa using this
    have e11x := E11.out
    clear h hK hvs hvf
    go_enter Tryz.func53, Tryz.ntmps53
    go_wp2_with fail
    go_region
    all_goals
      go_wp2_with fail
      go_region_law
        ((refine step_append_lies _ (by rfl) _ _ _ (by rfl) K.base 127 i0 _ 4 48 Tryz.underlying99 hi0 hz0 hz1 hz2 rfl (by omega) (.slice af s.fr.length cf) s.fr.length (flatF fv.reverse) (by rfl) (by have := J.out.fr; rw [HVF.out] at this; exact this) ⟨w.heap.size + 1 + 1, 0, none⟩ 1 1 (fcel (⟨xo, [], s.st.length, false⟩, .slice none 0 0)) (by rfl) (by rfl) (World.news_of_block (cs := #[.int .i64 xo, .slice none 0 0, .int .i64 s.st.length, .bool false]) (t := 127) (fr := (0, 0)) NB.out) (by simp [fcel, Value.oneCell']) (by omega) (by unfold maxLen; omega) (by omega) (by simp; omega) (w.heap.size + 1 + 1 + 1) (by simp) ?_; intro g cap w1 hown hgrow hat hlt; have e11 := (World.cell?_of_block (a := ⟨K.B, 11, none⟩) (hgrow.block K.B (by simp; omega) (Ne.symm agB))).trans E11.out; have y11 := (World.frozen?_of_block (a := ⟨K.B, 11, none⟩) (hgrow.block K.B (by simp; omega) (Ne.symm agB))).trans Y11.out))
      all_goals
        go_wp2_with fail
        go_end0
        rw [HE.out]
        have hgr : (((w.alloc (.cells #[.int .i64 xo, .int .i64 xn, .int .i64 0] 44)).alloc (.cells #[.int .i64 xo, .slice none 0 0, .int .i64 s.st.length, .bool false] 127)).alloc (.cells #[.int .i64 xo, .slice none 0 0, .int .i64 s.st.length, .bool false] 127)).grownBy w1 vf.ownBlock := by
          rw [HVF.out]; exact ⟨hgrow.os, hgrow.tape, hgrow.output, hgrow.size, hgrow.block⟩
        obtain ⟨J2, F2⟩ := J.out.growF HK.out (vf1 := .slice (some ⟨g, 0, none⟩) (s.fr.length + 1) cap) (f := ⟨xo, [], s.st.length, false⟩) (v := .slice none 0 0) hgr (fun k hk => by
          rw [HVF.out]
          simp only [Value.ownBlock, Option.some.injEq] at hk
          subst hk
          rcases hat with e | e
          · exact .inl e
          · exact .inr (by simp; omega)) hown BR.out
        exact ⟨rfl, _, _, _, J2, F.out.trans F2⟩
  · have HE := hide (show openW ⟨xo, xn, xm⟩ s = ⟨s.st, ⟨xo, [xm - 1], s.st.length, false⟩ :: s.fr⟩ by simp [openW, brM, hm])
    have hmm := hide hm
    have J := hide ((((h.alloc hK (.cells #[.int .i64 xo, .int .i64 xn, .int .i64 xm] 44)).alloc hK (.cells #[.int .i64 xo, .slice (some ⟨w.heap.size + 1 + 1, 0, none⟩) 1 1, .int .i64 s.st.length, .bool false] 127)).alloc hK (.cells #[.int .i64 (xm - 1)] 3)).alloc hK (.cells #[.int .i64 xo, .slice (some ⟨w.heap.size + 1 + 1, 0, none⟩) 1 1, .int .i64 s.st.length, .bool false] 127))
    have F := hide (((((Fr.refl K vs vf w).alloc hbase (.cells #[.int .i64 xo, .int .i64 xn, .int .i64 xm] 44)).alloc (by simp; omega) (.cells #[.int .i64 xo, .slice (some ⟨w.heap.size + 1 + 1, 0, none⟩) 1 1, .int .i64 s.st.length, .bool false] 127)).alloc (by simp; omega) (.cells #[.int .i64 (xm - 1)] 3)).alloc (by simp; omega) (.cells #[.int .i64 xo, .slice (some ⟨w.heap.size + 1 + 1, 0, none⟩) 1 1, .int .i64 s.st.length, .bool false] 127))
    have BR : Hid (Bri K vs vf ((((w.alloc (.cells #[.int .i64 xo, .int .i64 xn, .int .i64 xm] 44)).alloc (.cells #[.int .i64 xo, .slice (some ⟨w.heap.size + 1 + 1, 0, none⟩) 1 1, .int .i64 s.st.length, .bool false] 127)).alloc (.cells #[.int .i64 (xm - 1)] 3)).alloc (.cells #[.int .i64 xo, .slice (some ⟨w.heap.size + 1 + 1, 0, none⟩) 1 1, .int .i64 s.st.length, .bool false] 127)) (.slice (some ⟨w.heap.size + 1 + 1, 0, none⟩) 1 1) [xm - 1]) := (by refine hide ?_; have := (((h.alloc hK (.cells #[.int .i64 xo, .int .i64 xn, .int .i64 xm] 44)).alloc hK (.cells #[.int .i64 xo, .slice (some ⟨w.heap.size + 1 + 1, 0, none⟩) 1 1, .int .i64 s.st.length, .bool false] 127))).lit1 (xm - 1) ⟨by omega, by omega⟩; have := this.move ((Fr.refl K vs vf _).alloc (by simp; omega) (.cells #[.int .i64 xo, .slice (some ⟨w.heap.size + 1 + 1, 0, none⟩) 1 1, .int .i64 s.st.length, .bool false] 127)); simpa using this)
    have E11 : Hid (((((w.alloc (.cells #[.int .i64 xo, .int .i64 xn, .int .i64 xm] 44)).alloc (.cells #[.int .i64 xo, .slice (some ⟨w.heap.size + 1 + 1, 0, none⟩) 1 1, .int .i64 s.st.length, .bool false] 127)).alloc (.cells #[.int .i64 (xm - 1)] 3)).alloc (.cells #[.int .i64 xo, .slice (some ⟨w.heap.size + 1 + 1, 0, none⟩) 1 1, .int .i64 s.st.length, .bool false] 127)).cell? ⟨K.B, 11, none⟩ = some (.slice af s.fr.length cf)) := by
      have := J.out.row.c 11 vf rfl
      rw [hvf] at this; exact hide this
    have Y11 : Hid (((((w.alloc (.cells #[.int .i64 xo, .int .i64 xn, .int .i64 xm] 44)).alloc (.cells #[.int .i64 xo, .slice (some ⟨w.heap.size + 1 + 1, 0, none⟩) 1 1, .int .i64 s.st.length, .bool false] 127)).alloc (.cells #[.int .i64 (xm - 1)] 3)).alloc (.cells #[.int .i64 xo, .slice (some ⟨w.heap.size + 1 + 1, 0, none⟩) 1 1, .int .i64 s.st.length, .bool false] 127)).frozen? ⟨K.B, 11, none⟩ = false) := hide (J.out.row.fr 11)
    have NB : Hid (((((w.alloc (.cells #[.int .i64 xo, .int .i64 xn, .int .i64 xm] 44)).alloc (.cells #[.int .i64 xo, .slice (some ⟨w.heap.size + 1 + 1, 0, none⟩) 1 1, .int .i64 s.st.length, .bool false] 127)).alloc (.cells #[.int .i64 (xm - 1)] 3)).alloc (.cells #[.int .i64 xo, .slice (some ⟨w.heap.size + 1 + 1, 0, none⟩) 1 1, .int .i64 s.st.length, .bool false] 127)).heap[w.heap.size + 1 + 1 + 1]? = some (.cells #[.int .i64 xo, .slice (some ⟨w.heap.size + 1 + 1, 0, none⟩) 1 1, .int .i64 s.st.length, .bool false] 127 (0, 0))) := by
      have := heap_alloc_new (((w.alloc (.cells #[.int .i64 xo, .int .i64 xn, .int .i64 xm] 44)).alloc (.cells #[.int .i64 xo, .slice (some ⟨w.heap.size + 1 + 1, 0, none⟩) 1 1, .int .i64 s.st.length, .bool false] 127)).alloc (.cells #[.int .i64 (xm - 1)] 3)) (.cells #[.int .i64 xo, .slice (some ⟨w.heap.size + 1 + 1, 0, none⟩) 1 1, .int .i64 s.st.length, .bool false] 127)
      refine hide ?_
      simpa using this
    have e11y : (((w.alloc (.cells #[.int .i64 xo, .int .i64 xn, .int .i64 xm] 44)).alloc (.cells #[.int .i64 xo, .slice (some ⟨w.heap.size + 1 + 1, 0, none⟩) 1 1, .int .i64 s.st.length, .bool false] 127)).alloc (.cells #[.int .i64 (xm - 1)] 3)).cell? ⟨K.B, 11, none⟩ = some (.slice af s.fr.length cf) := by
      have := (((h.alloc hK (.cells #[.int .i64 xo, .int .i64 xn, .int .i64 xm] 44)).alloc hK (.cells #[.int .i64 xo, .slice (some ⟨w.heap.size + 1 + 1, 0, none⟩) 1 1, .int .i64 s.st.length, .bool false] 127)).alloc hK (.cells #[.int .i64 (xm - 1)] 3)).row.c 11 vf rfl
      rw [hvf] at this; exact this
    have e11x := E11.out
    clear h hK hvs hvf
    go_enter Tryz.func53, Tryz.ntmps53
    go_wp2_with fail
    go_region
    all_goals
      go_wp2_with fail
      go_region_law
        ((refine step_append_lies _ (by rfl) _ _ _ (by rfl) K.base 127 i0 _ 4 48 Tryz.underlying99 hi0 hz0 hz1 hz2 rfl (by omega) (.slice af s.fr.length cf) s.fr.length (flatF fv.reverse) (by rfl) (by have := J.out.fr; rw [HVF.out] at this; exact this) ⟨w.heap.size + 1 + 1 + 1, 0, none⟩ 1 1 (fcel (⟨xo, [xm - 1], s.st.length, false⟩, .slice (some ⟨w.heap.size + 1 + 1, 0, none⟩) 1 1)) (by rfl) (by rfl) (World.news_of_block (cs := #[.int .i64 xo, .slice (some ⟨w.heap.size + 1 + 1, 0, none⟩) 1 1, .int .i64 s.st.length, .bool false]) (t := 127) (fr := (0, 0)) NB.out) (by simp [fcel, Value.oneCell']) (by omega) (by unfold maxLen; omega) (by omega) (by simp; omega) (w.heap.size + 1 + 1 + 1 + 1) (by simp) ?_; intro g cap w1 hown hgrow hat hlt; have e11 := (World.cell?_of_block (a := ⟨K.B, 11, none⟩) (hgrow.block K.B (by simp; omega) (Ne.symm agB))).trans E11.out; have y11 := (World.frozen?_of_block (a := ⟨K.B, 11, none⟩) (hgrow.block K.B (by simp; omega) (Ne.symm agB))).trans Y11.out))
      all_goals
        go_wp2_with fail
        go_end0
        rw [HE.out]
        have hgr : ((((w.alloc (.cells #[.int .i64 xo, .int .i64 xn, .int .i64 xm] 44)).alloc (.cells #[.int .i64 xo, .slice (some ⟨w.heap.size + 1 + 1, 0, none⟩) 1 1, .int .i64 s.st.length, .bool false] 127)).alloc (.cells #[.int .i64 (xm - 1)] 3)).alloc (.cells #[.int .i64 xo, .slice (some ⟨w.heap.size + 1 + 1, 0, none⟩) 1 1, .int .i64 s.st.length, .bool false] 127)).grownBy w1 vf.ownBlock := by
          rw [HVF.out]; exact ⟨hgrow.os, hgrow.tape, hgrow.output, hgrow.size, hgrow.block⟩
        obtain ⟨J2, F2⟩ := J.out.growF HK.out (vf1 := .slice (some ⟨g, 0, none⟩) (s.fr.length + 1) cap) (f := ⟨xo, [xm - 1], s.st.length, false⟩) (v := .slice (some ⟨w.heap.size + 1 + 1, 0, none⟩) 1 1) hgr (fun k hk => by
          rw [HVF.out]
          simp only [Value.ownBlock, Option.some.injEq] at hk
          subst hk
          rcases hat with e | e
          · exact .inl e
          · exact .inr (by simp; omega)) hown BR.out
        exact ⟨rfl, _, _, _, J2, F.out.trans F2⟩
end
end Go.Proofs.YtamofhkmhjckaabGreatDoor

/-
  The program's closure around, called at a place, does the plain step and tells those that are open around it.
-/
import Derived.Test.YtglagdbkcigojaaAroundB
namespace Go.Proofs.Ytglagdbkcigojaa
open Go.RowKit

section
variable (B : Nat) (al : Option Addr) (n cl : Nat) (f : Nat → Int) (p : Nat) (s : St) (vs vo : Value) (w : World)
set_option maxRecDepth 100000 in
set_option maxHeartbeats 2000000 in
theorem around_end0 (hI : Inv B al n cl s vs vo w) (hw : s.wrong = false) (he : s.ended = false) (hO : Ops B w al n f) (hp : p < n) (hsz : s.sp.length ≤ 1000) (h : f p = 11) (ho : s.op = []) :
    Calls Try.prog 24 #[.int .i64 p, .pointer (some ⟨B + 5, 0, none⟩), .pointer (some ⟨B + 4, 0, none⟩), .pointer (some ⟨B + 2, 0, none⟩), .pointer (some ⟨B, 0, none⟩), .pointer (some ⟨B + 1, 0, none⟩), .pointer (some ⟨B + 3, 0, none⟩)] w (AP B al n cl f p s vs vo w) := by
  obtain ⟨ao, co, rfl⟩ := own_slice hI.oo
  obtain ⟨as1, cs1, rfl⟩ := own_slice hI.os
  have k0 := cell_of_one hI.bx.h0
  have k1 := cell_of_one hI.bx.h1
  have k2 := cell_of_one hI.bx.h2
  have k3 := cell_of_one hI.bx.h3
  have k4 := cell_of_one hI.bx.h4
  have k5 := cell_of_one hI.bx.h5
  have z1 := free_of_one hI.bx.h1
  have z2 := free_of_one hI.bx.h2
  have z3 := free_of_one hI.bx.h3
  have z4 := free_of_one hI.bx.h4
  have z5 := free_of_one hI.bx.h5
  have HI := hide hI
  have HW := hide hw
  have HE := hide he
  rw [hw] at k5
  rw [he] at k4
  obtain ⟨b, off, rfl, hlt, hc⟩ := hO p hp
  have HO := hide hO
  have I5 := hide (hI.bx.set5 false)
  have S5 := hide (ownsRow_setCell_below hI.os (a := ⟨B + 5, 0, none⟩) (by show B + 5 < B + 6; omega) (.bool false))
  have O5 := hide (ownsRow_setCell_below hI.oo (a := ⟨B + 5, 0, none⟩) (by show B + 5 < B + 6; omega) (.bool false))
  have hbsz := hI.bx.size
  clear hI hw he hO
  rw [h] at hc
  have HF := hide h
  have HN := hide ho
  clear h
  have hol : s.op.length = 0 := by rw [ho]; rfl
  clear ho
  rw [hol] at k2
  obtain ⟨i45, hi45, hprod⟩ := Option.map_eq_some_iff.1 Try.parts45
  simp only [Prod.mk.injEq] at hprod
  obtain ⟨hz450, hz451, hz452⟩ := hprod
  have X1 := hide (I5.out.set4 true)
  have S1 := hide (ownsRow_setCell_below S5.out (a := ⟨B + 4, 0, none⟩) (by show B + 4 < B + 6; omega) (.bool true))
  have O1 := hide (ownsRow_setCell_below O5.out (a := ⟨B + 4, 0, none⟩) (by show B + 4 < B + 6; omega) (.bool true))
  have L1 := hide (((Fr.refl B (.slice as1 s.sp.length cs1) (.slice ao s.op.length co) w).box (a := ⟨B + 5, 0, none⟩) (by show B ≤ B + 5; omega) (by show B + 5 < B + 6; omega) (.bool false)).box (a := ⟨B + 4, 0, none⟩) (by show B ≤ B + 4; omega) (by show B + 4 < B + 6; omega) (.bool true))
  have hownS := S1.out
  clear I5 S5 O5
  go_enter Try.func24, Try.ntmps24
  go_wp2_with (at_builtin; refine append_mine _ rfl (.tmp 78) (.tmp 81) 24 rfl (B + 6) 45 i45 (.agg #[.int .i64 0, .int .i64 0, .int .i64 0]) 3 24 Try.underlying24 hi45 hz450 hz451 hz452 rfl (by decide) _ _ _ rfl (hownS.alloc _) ⟨w.heap.size, 0, none⟩ 1 1 [.int .i64 (-1), .int .i64 (-1), .int .i64 p] rfl rfl (at_cells' [.int .i64 (-1), .int .i64 (-1), .int .i64 p] _ _ _ (by simp)) (fun x hx => by simp at hx; rcases hx with rfl | rfl | rfl <;> rfl) (by decide) (by unfold maxLen; omega) (by omega) (by simp; omega) ?_)
  intro v2 w2 own2 grow2 new2
  obtain ⟨as2, cs2, rfl⟩ := own_slice own2
  have X3 := hide ((X1.out.alloc (.cells #[.int .i64 (-1), .int .i64 (-1), .int .i64 p] 45)).grow grow2 (row_block S1.out))
  have O3 := hide ((O1.out.alloc (.cells #[.int .i64 (-1), .int .i64 (-1), .int .i64 p] 45)).kept grow2 (own_ne O1.out S1.out (by decide)))
  have L3 := hide ((L1.out.alloc (by simp; omega) (.cells #[.int .i64 (-1), .int .i64 (-1), .int .i64 p] 45)).growS (vs'' := .slice as2 (s.sp.length + 1) cs2) grow2 (fun k hk => by
    rcases new2 k hk with e | e
    · exact .inl e
    · exact .inr (by simp; omega)) (by simp; omega) (fun k hk => by have := row_block S1.out k hk; omega))
  have i1 := cell_of_one X3.out.h1
  have x1 := free_of_one X3.out.h1
  have OS2 := hide own2
  clear own2 grow2 new2 hownS S1 O1 X1 L1 k0 k1 k2 k3 k4 k5 z1 z2 z3 z4 z5 hc
  go_wp2_with fail
  go_ret
  refine ⟨_, _, _, rfl, ?_, .slice as2 (s.sp.length + 1) cs2, .slice ao s.op.length co, ?_, L3.out.box (a := ⟨B + 1, 0, none⟩) (by show B ≤ B + 1; omega) (by show B + 1 < B + 6; omega) _⟩
  · rw [arL_end0 HW.out HE.out HF.out HN.out]; exact Rd.none _
  · rw [stp_end0 HW.out HE.out HF.out HN.out]
    refine ⟨?_, ?_, ownsRow_setCell_below O3.out (a := ⟨B + 1, 0, none⟩) (by show B + 1 < B + 6; omega) _⟩
    · have := X3.out.set1 (.slice as2 (s.sp.length + 1) cs2)
      rw [← HW.out] at this
      exact this
    · show World.ownsRow _ _ _ _ _ (s.sp ++ [_]).length (flat (s.sp ++ [_]))
      rw [flat_add, List.length_append]
      exact ownsRow_setCell_below OS2.out (a := ⟨B + 1, 0, none⟩) (by show B + 1 < B + 6; omega) _
set_option maxRecDepth 100000 in
set_option maxHeartbeats 2000000 in
theorem around_endY (hI : Inv B al n cl s vs vo w) (hw : s.wrong = false) (he : s.ended = false) (hO : Ops B w al n f) (hp : p < n) (hoz : s.op.length ≤ 1000) (hsz : s.sp.length ≤ 1000) (k : Nat) (r : List Nat) (h : f p = 11) (ho : s.op = k :: r) (hk : k < s.sp.length) :
    Calls Try.prog 24 #[.int .i64 p, .pointer (some ⟨B + 5, 0, none⟩), .pointer (some ⟨B + 4, 0, none⟩), .pointer (some ⟨B + 2, 0, none⟩), .pointer (some ⟨B, 0, none⟩), .pointer (some ⟨B + 1, 0, none⟩), .pointer (some ⟨B + 3, 0, none⟩)] w (AP B al n cl f p s vs vo w) := by
  obtain ⟨ao, co, rfl⟩ := own_slice hI.oo
  obtain ⟨as1, cs1, rfl⟩ := own_slice hI.os
  have k0 := cell_of_one hI.bx.h0
  have k1 := cell_of_one hI.bx.h1
  have k2 := cell_of_one hI.bx.h2
  have k3 := cell_of_one hI.bx.h3
  have k4 := cell_of_one hI.bx.h4
  have k5 := cell_of_one hI.bx.h5
  have z1 := free_of_one hI.bx.h1
  have z2 := free_of_one hI.bx.h2
  have z3 := free_of_one hI.bx.h3
  have z4 := free_of_one hI.bx.h4
  have z5 := free_of_one hI.bx.h5
  have HI := hide hI
  have HW := hide hw
  have HE := hide he
  rw [hw] at k5
  rw [he] at k4
  obtain ⟨b, off, rfl, hlt, hc⟩ := hO p hp
  have HO := hide hO
  have I5 := hide (hI.bx.set5 false)
  have S5 := hide (ownsRow_setCell_below hI.os (a := ⟨B + 5, 0, none⟩) (by show B + 5 < B + 6; omega) (.bool false))
  have O5 := hide (ownsRow_setCell_below hI.oo (a := ⟨B + 5, 0, none⟩) (by show B + 5 < B + 6; omega) (.bool false))
  have hbsz := hI.bx.size
  clear hI hw he hO
  rw [h] at hc
  have HF := hide h
  have HN := hide ho
  have hol : s.op.length = r.length + 1 := by rw [ho]; rfl
  have HT := hide hol
  obtain ⟨g0, rfl, _, hg0, hco⟩ := own_some O5.out (by omega)
  obtain ⟨g1, rfl, _, hg1, hcs⟩ := own_some S5.out (by omega)
  have hq : (ints s.op.reverse)[r.length]? = some (.int .i64 k) := by rw [ho]; simp [ints]
  have q1 := (HI.out.oo.cellAt r.length (by omega)).trans hq
  have q4 := (HI.out.os.cellAt (k * 3 + 2) (by omega)).trans (flat_at s.sp k hk).2.2
  have y4 := HI.out.os.frozenAt (k * 3 + 2)
  have hrl : r.length ≤ 1000 := by omega
  have hrc : r.length ≤ co := by omega
  have hdl : decide ((r.length : Int) < 0) = false := decide_eq_false (by omega)
  clear h ho hq
  rw [hol] at k2
  clear hol
  go_enter Try.func24, Try.ntmps24
  go_wp2_with fail
  go_region
  all_goals
    go_wp2_with fail
    go_ret
    have I6 : Inv B (some ⟨b, off, none⟩) n cl s (.slice (some ⟨g1, 0, none⟩) s.sp.length cs1) (.slice (some ⟨g0, 0, none⟩) s.op.length co) ((w.setCell ⟨B + 5, 0, none⟩ (.bool false)).setCell ⟨B + 4, 0, none⟩ (.bool false)) :=
      ⟨by have := I5.out.set4 false; rw [HW.out, HE.out]; exact this, ownsRow_setCell_below S5.out (by show B + 4 < B + 6; omega) _, ownsRow_setCell_below O5.out (by show B + 4 < B + 6; omega) _⟩
    have I8 := I6.put hg1 (k * 3 + 2) p (s.sp.set k { spAt s.sp k with d := p }) (flat_set2 _ _ _ hk) (by simp)
    have O8 : World.ownsRow _ (B + 6) 3 1 (.slice (some ⟨g0, 0, none⟩) s.op.length co) s.op.length (ints s.op.reverse) := I8.oo
    have O9 := own_take O8 r.length (by rw [HT.out]; omega)
    rw [show (ints s.op.reverse).take r.length = ints r.reverse by rw [HN.out, ints_add, List.take_left' (by simp [ints])]] at O9
    have I9 : Inv B (some ⟨b, off, none⟩) n cl { s with sp := s.sp.set k { spAt s.sp k with d := p }, op := r } (.slice (some ⟨g1, 0, none⟩) s.sp.length cs1) (.slice (some ⟨g0, 0, none⟩) r.length co) _ :=
      ⟨I8.bx.set2 (.slice (some ⟨g0, 0, none⟩) r.length co), ownsRow_setCell_below I8.os (by show B + 2 < B + 6; omega) _, ownsRow_setCell_below O9 (by show B + 2 < B + 6; omega) _⟩
    refine ⟨_, _, _, rfl, ?_, _, _, by rw [stp_endY HW.out HE.out HF.out HN.out]; exact I9.drew, ?_⟩
    · rw [arL_endY HW.out HE.out HF.out HN.out]
      exact own_rd I9.drew.oo rfl rfl
    · exact ((((((Fr.refl B (.slice (some ⟨g1, 0, none⟩) s.sp.length cs1) (.slice (some ⟨g0, 0, none⟩) s.op.length co) w).box (a := ⟨B + 5, 0, none⟩) (by show B ≤ B + 5; omega) (by show B + 5 < B + 6; omega) (.bool false)).box (a := ⟨B + 4, 0, none⟩) (by show B ≤ B + 4; omega) (by show B + 4 < B + 6; omega) (.bool false)).rowS (j := k * 3 + 2) rfl (by omega) (.int .i64 p)).cutO (vo'' := .slice (some ⟨g0, 0, none⟩) r.length co) rfl).box (a := ⟨B + 2, 0, none⟩) (by show B ≤ B + 2; omega) (by show B + 2 < B + 6; omega) _).drew
end
end Go.Proofs.Ytglagdbkcigojaa

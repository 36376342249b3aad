/-
  The program's closure around, called at a place, does the plain step and tells those that are open around it.
-/
import Derived.Test.YtamofhkmhjckaabGreatDoorNAround
namespace Go.Proofs.YtamofhkmhjckaabGreatDoor.Nest
open Go.RowKit

theorem Tryz.info3 : (Tryz.prog.info? 3).map (fun i => (i.zero, i.size, i.bytes)) = some (some (.int .i64 0), 1, 8) := by kernel_rfl
theorem Tryz.parts145 : (Tryz.prog.info? 145).map (fun i => (i.zero, i.size, i.bytes)) = some (some (.agg #[.int .i64 0, .int .i64 0, .int .i64 0]), 3, 24) := by kernel_rfl
/-- what a call of around leaves -/
def AP (B : Nat) (al : Option Addr) (n cl : Nat) (f : Nat → Int) (p : Nat) (s : St) (vs vo : Value) (w : World) (e : Ending) (w' : World) : Prop :=
  ∃ a m c, e = .returned (.slice a m c) ∧ Rd w' a m c (arL f p s) ∧ ∃ vs' vo', Inv B al n cl (stp f p s) vs' vo' w' ∧ Fr B vs vo vs' vo' w w'
section
variable (B : Nat) (al : Option Addr) (n cl : Nat) (f : Nat → Int) (p : Nat) (s : St) (vs vo : Value) (w : World)
theorem ints_add (l : List Nat) (k : Nat) : ints (k :: l).reverse = ints l.reverse ++ [.int .i64 k] := by simp [ints]
theorem ints_len (l : List Nat) : (ints l).length = l.length := by simp [ints]
theorem open_fin (hw : s.wrong = false) (he : s.ended = false) (h : opn (f p) = true) {w2 : World} {g1 co1 cs2 : Nat} {as2 : Option Addr} {vs1 : Value}
    (X3 : Bx B (.slice al n cl) vs1 (.slice (some ⟨g1, 0, none⟩) (s.op.length + 1) co1) s.deep s.ended false w2)
    (O3 : w2.ownsRow (B + 6) 3 1 (.slice (some ⟨g1, 0, none⟩) (s.op.length + 1) co1) (s.op.length + 1) (ints s.op.reverse ++ [.int .i64 s.sp.length])) (L3 : Fr B vs vo (.slice as2 (s.sp.length + 1) cs2) (.slice (some ⟨g1, 0, none⟩) (s.op.length + 1) co1) w w2)
    (OS2 : w2.ownsRow (B + 6) 145 3 (.slice as2 (s.sp.length + 1) cs2) (s.sp.length + 1) (flat s.sp ++ [.int .i64 p, .int .i64 (-1), .int .i64 (-1)]))
    (d : Int) (hd : d = (max s.deep (s.op.length + 1) : Nat)) :
    AP B al n cl f p s vs vo w (.returned (.slice (some ⟨g1, 0, none⟩) s.op.length co1)) ((w2.setCell ⟨B + 1, 0, none⟩ (.slice as2 (s.sp.length + 1) cs2)).setCell ⟨B + 3, 0, none⟩ (.int .i64 d)) := by
  have O4 := ownsRow_setCell_below (ownsRow_setCell_below O3 (a := ⟨B + 1, 0, none⟩) (by show B + 1 < B + 6; omega) (.slice as2 (s.sp.length + 1) cs2)) (a := ⟨B + 3, 0, none⟩) (by show B + 3 < B + 6; omega) (.int .i64 d)
  have S4 := ownsRow_setCell_below (ownsRow_setCell_below OS2 (a := ⟨B + 1, 0, none⟩) (by show B + 1 < B + 6; omega) (.slice as2 (s.sp.length + 1) cs2)) (a := ⟨B + 3, 0, none⟩) (by show B + 3 < B + 6; omega) (.int .i64 d)
  refine ⟨_, _, _, rfl, ?_, .slice as2 (s.sp.length + 1) cs2, .slice (some ⟨g1, 0, none⟩) (s.op.length + 1) co1, ?_, ?_⟩
  · rw [arL_open hw he h]
    have := own_take O4 s.op.length (by omega)
    rw [List.take_left' (by simp [ints])] at this
    exact own_rd this rfl rfl
  · rw [stp_open hw he h]
    refine ⟨?_, ?_, ?_⟩
    · have := (X3.set1 (.slice as2 (s.sp.length + 1) cs2)).set3 d
      rw [hd] at this ⊢
      rw [← hw] at this
      exact this
    · show World.ownsRow _ _ _ _ _ (s.sp ++ [_]).length (flat (s.sp ++ [_]))
      rw [flat_add, List.length_append]
      exact S4
    · show World.ownsRow _ _ _ _ _ (s.sp.length :: s.op).length (ints (s.sp.length :: s.op).reverse)
      rw [ints_add]
      exact O4
  · exact (L3.box (a := ⟨B + 1, 0, none⟩) (by show B ≤ B + 1; omega) (by show B + 1 < B + 6; omega) _).box (a := ⟨B + 3, 0, none⟩) (by show B ≤ B + 3; omega) (by show B + 3 < B + 6; omega) _
set_option maxRecDepth 100000 in
set_option maxHeartbeats 1000000 in
theorem around_wrong (hI : Inv B al n cl s vs vo w) (hw : s.wrong = true) :
    Calls Tryz.prog 79 #[.int .i64 p, .pointer (some ⟨B + 5, 0, none⟩), .pointer (some ⟨B + 4, 0, none⟩), .pointer (some ⟨B + 2, 0, none⟩), .pointer (some ⟨B, 0, none⟩), .pointer (some ⟨B + 1, 0, none⟩), .pointer (some ⟨B + 3, 0, none⟩)] w (AP B al n cl f p s vs vo w) := by
  have k0 := cell_of_one hI.bx.h0
  have k1 := cell_of_one hI.bx.h1
  have k2 := cell_of_one hI.bx.h2
  have k3 := cell_of_one hI.bx.h3
  have k4 := cell_of_one hI.bx.h4
  have k5 := cell_of_one hI.bx.h5
  have z1 := free_of_one hI.bx.h1
  have z2 := free_of_one hI.bx.h2
  have z3 := free_of_one hI.bx.h3
  have z4 := free_of_one hI.bx.h4
  have z5 := free_of_one hI.bx.h5
  have HI := hide hI
  have HW := hide hw
  rw [hw] at k5
  clear hI hw
  go_enter Tryz.func79, Tryz.ntmps79
  go_wp2_with fail
  go_ret
  refine ⟨_, _, _, rfl, ?_, vs, vo, ?_, (Fr.refl B _ _ w).box (a := ⟨B + 5, 0, none⟩) (by show B ≤ B + 5; omega) (by show B + 5 < B + 6; omega) (.bool true)⟩
  · rw [arL_stop (.inl HW.out)]; exact Rd.none _
  · rw [stp_stop (.inl HW.out)]
    exact ⟨HI.out.bx.set5 true, ownsRow_setCell_below HI.out.os (by show B + 5 < B + 6; omega) _, ownsRow_setCell_below HI.out.oo (by show B + 5 < B + 6; omega) _⟩
set_option maxRecDepth 100000 in
set_option maxHeartbeats 1000000 in
theorem around_ended (hI : Inv B al n cl s vs vo w) (hw : s.wrong = false) (he : s.ended = true) :
    Calls Tryz.prog 79 #[.int .i64 p, .pointer (some ⟨B + 5, 0, none⟩), .pointer (some ⟨B + 4, 0, none⟩), .pointer (some ⟨B + 2, 0, none⟩), .pointer (some ⟨B, 0, none⟩), .pointer (some ⟨B + 1, 0, none⟩), .pointer (some ⟨B + 3, 0, none⟩)] w (AP B al n cl f p s vs vo w) := by
  have k0 := cell_of_one hI.bx.h0
  have k1 := cell_of_one hI.bx.h1
  have k2 := cell_of_one hI.bx.h2
  have k3 := cell_of_one hI.bx.h3
  have k4 := cell_of_one hI.bx.h4
  have k5 := cell_of_one hI.bx.h5
  have z1 := free_of_one hI.bx.h1
  have z2 := free_of_one hI.bx.h2
  have z3 := free_of_one hI.bx.h3
  have z4 := free_of_one hI.bx.h4
  have z5 := free_of_one hI.bx.h5
  have HI := hide hI
  have HE := hide he
  rw [hw] at k5
  rw [he] at k4
  clear hI hw he
  go_enter Tryz.func79, Tryz.ntmps79
  go_wp2_with fail
  go_ret
  refine ⟨_, _, _, rfl, ?_, vs, vo, ?_, (Fr.refl B _ _ w).box (a := ⟨B + 5, 0, none⟩) (by show B ≤ B + 5; omega) (by show B + 5 < B + 6; omega) (.bool true)⟩
  · rw [arL_stop (.inr HE.out)]; exact Rd.none _
  · rw [stp_stop (.inr HE.out)]
    exact ⟨HI.out.bx.set5 true, ownsRow_setCell_below HI.out.os (by show B + 5 < B + 6; omega) _, ownsRow_setCell_below HI.out.oo (by show B + 5 < B + 6; omega) _⟩
set_option maxRecDepth 100000 in
set_option maxHeartbeats 1000000 in
theorem around_other (hI : Inv B al n cl s vs vo w) (hw : s.wrong = false) (he : s.ended = false) (hO : Ops B w al n f) (hp : p < n) (hoz : s.op.length ≤ 1000) (h0 : opn (f p) = false) (h1 : f p ≠ 5) (h2 : f p ≠ 11) :
    Calls Tryz.prog 79 #[.int .i64 p, .pointer (some ⟨B + 5, 0, none⟩), .pointer (some ⟨B + 4, 0, none⟩), .pointer (some ⟨B + 2, 0, none⟩), .pointer (some ⟨B, 0, none⟩), .pointer (some ⟨B + 1, 0, none⟩), .pointer (some ⟨B + 3, 0, none⟩)] w (AP B al n cl f p s vs vo w) := by
  obtain ⟨ao, co, rfl⟩ := own_slice hI.oo
  obtain ⟨as1, cs1, rfl⟩ := own_slice hI.os
  have k0 := cell_of_one hI.bx.h0
  have k1 := cell_of_one hI.bx.h1
  have k2 := cell_of_one hI.bx.h2
  have k3 := cell_of_one hI.bx.h3
  have k4 := cell_of_one hI.bx.h4
  have k5 := cell_of_one hI.bx.h5
  have z1 := free_of_one hI.bx.h1
  have z2 := free_of_one hI.bx.h2
  have z3 := free_of_one hI.bx.h3
  have z4 := free_of_one hI.bx.h4
  have z5 := free_of_one hI.bx.h5
  have HI := hide hI
  have HW := hide hw
  have HE := hide he
  rw [hw] at k5
  rw [he] at k4
  obtain ⟨b, off, rfl, hlt, hc⟩ := hO p hp
  have HO := hide hO
  have I5 := hide (hI.bx.set5 false)
  have S5 := hide (ownsRow_setCell_below hI.os (a := ⟨B + 5, 0, none⟩) (by show B + 5 < B + 6; omega) (.bool false))
  have O5 := hide (ownsRow_setCell_below hI.oo (a := ⟨B + 5, 0, none⟩) (by show B + 5 < B + 6; omega) (.bool false))
  have hbsz := hI.bx.size
  clear hI hw he hO
  have a2 : f p ≠ 2 := fun e => by rw [e] at h0; cases h0
  have a3 : f p ≠ 3 := fun e => by rw [e] at h0; cases h0
  have a4 : f p ≠ 4 := fun e => by rw [e] at h0; cases h0
  have H0 := hide h0
  clear h0
  go_enter Tryz.func79, Tryz.ntmps79
  go_wp2_with fail
  go_ret
  refine ⟨_, _, _, rfl, ?_, .slice as1 s.sp.length cs1, .slice ao s.op.length co, ?_, (Fr.refl B _ _ w).box (a := ⟨B + 5, 0, none⟩) (by show B ≤ B + 5; omega) (by show B + 5 < B + 6; omega) (.bool false)⟩
  · rw [arL_other HW.out HE.out H0.out h1 h2]; exact own_rd O5.out rfl rfl
  · rw [stp_other HW.out HE.out H0.out h1 h2]
    exact ⟨by have := I5.out; rw [← HW.out] at this; rw [HW.out] at this ⊢; exact this, S5.out, O5.out⟩
set_option maxRecDepth 100000 in
set_option maxHeartbeats 2000000 in
theorem around_open2 (hI : Inv B al n cl s vs vo w) (hw : s.wrong = false) (he : s.ended = false) (hO : Ops B w al n f) (hp : p < n) (hoz : s.op.length ≤ 1000) (hsz : s.sp.length ≤ 1000) (h : f p = 2) :
    Calls Tryz.prog 79 #[.int .i64 p, .pointer (some ⟨B + 5, 0, none⟩), .pointer (some ⟨B + 4, 0, none⟩), .pointer (some ⟨B + 2, 0, none⟩), .pointer (some ⟨B, 0, none⟩), .pointer (some ⟨B + 1, 0, none⟩), .pointer (some ⟨B + 3, 0, none⟩)] w (AP B al n cl f p s vs vo w) := by
  obtain ⟨ao, co, rfl⟩ := own_slice hI.oo
  obtain ⟨as1, cs1, rfl⟩ := own_slice hI.os
  have k0 := cell_of_one hI.bx.h0
  have k1 := cell_of_one hI.bx.h1
  have k2 := cell_of_one hI.bx.h2
  have k3 := cell_of_one hI.bx.h3
  have k4 := cell_of_one hI.bx.h4
  have k5 := cell_of_one hI.bx.h5
  have z1 := free_of_one hI.bx.h1
  have z2 := free_of_one hI.bx.h2
  have z3 := free_of_one hI.bx.h3
  have z4 := free_of_one hI.bx.h4
  have z5 := free_of_one hI.bx.h5
  have HI := hide hI
  have HW := hide hw
  have HE := hide he
  rw [hw] at k5
  rw [he] at k4
  obtain ⟨b, off, rfl, hlt, hc⟩ := hO p hp
  have HO := hide hO
  have I5 := hide (hI.bx.set5 false)
  have S5 := hide (ownsRow_setCell_below hI.os (a := ⟨B + 5, 0, none⟩) (by show B + 5 < B + 6; omega) (.bool false))
  have O5 := hide (ownsRow_setCell_below hI.oo (a := ⟨B + 5, 0, none⟩) (by show B + 5 < B + 6; omega) (.bool false))
  have hbsz := hI.bx.size
  clear hI hw he hO
  rw [h] at hc
  have HF := hide (show opn (f p) = true by rw [h]; decide)
  clear h
  obtain ⟨i3, hi3, hz30, hz31, hz32⟩ := info_parts Tryz.info3
  obtain ⟨i45, hi45, hprod⟩ := Option.map_eq_some_iff.1 Tryz.parts145
  simp only [Prod.mk.injEq] at hprod
  obtain ⟨hz450, hz451, hz452⟩ := hprod
  have hownO := O5.out
  go_enter Tryz.func79, Tryz.ntmps79
  go_wp2_with (at_builtin; refine append_mine _ rfl (.tmp 27) (.tmp 30) 23 rfl (B + 6) 3 i3 (.int .i64 0) 1 8 Tryz.underlying23 hi3 hz30 hz31 hz32 rfl (by decide) _ _ _ rfl (hownO.alloc _) ⟨w.heap.size, 0, none⟩ 1 1 [.int .i64 s.sp.length] rfl rfl (at_one' _ _ _ _ (by simp)) (fun x hx => by simp at hx; subst hx; rfl) (by decide) (by unfold maxLen; omega) (by omega) (by simp; omega) ?_)
  intro v1 w1 own1 grow1 new1
  obtain ⟨ao1, co1, rfl⟩ := own_slice own1
  obtain ⟨g1, rfl, _, hg1, hco1⟩ := own_some own1 (by omega)
  have X1 := hide ((I5.out.alloc (.cells #[.int .i64 s.sp.length] 3)).grow grow1 (row_block O5.out))
  have S1 := hide ((S5.out.alloc (.cells #[.int .i64 s.sp.length] 3)).kept grow1 (own_ne S5.out O5.out (by decide)))
  have L1 := hide (((Fr.refl B (.slice as1 s.sp.length cs1) (.slice ao s.op.length co) w).box (a := ⟨B + 5, 0, none⟩) (by show B ≤ B + 5; omega) (by show B + 5 < B + 6; omega) (.bool false)).alloc (by simp; omega) (.cells #[.int .i64 s.sp.length] 3))
  have L2 := hide (L1.out.growO (vo'' := .slice (some ⟨g1, 0, none⟩) (s.op.length + 1) co1) grow1 (fun k hk => by
    rcases new1 k hk with e | e
    · exact .inl e
    · exact .inr (by simp; omega)) (by simp; omega) (fun k hk => by have := row_block O5.out k hk; omega))
  have X2 := hide (X1.out.set2 (.slice (some ⟨g1, 0, none⟩) (s.op.length + 1) co1))
  have S2 := hide (ownsRow_setCell_below S1.out (a := ⟨B + 2, 0, none⟩) (by show B + 2 < B + 6; omega) (.slice (some ⟨g1, 0, none⟩) (s.op.length + 1) co1))
  have O2 := hide (ownsRow_setCell_below own1 (a := ⟨B + 2, 0, none⟩) (by show B + 2 < B + 6; omega) (.slice (some ⟨g1, 0, none⟩) (s.op.length + 1) co1))
  have hs1 := X1.out.size
  have j1 := cell_of_one X1.out.h1
  have j2 := cell_of_one X1.out.h2
  have j3 := cell_of_one X1.out.h3
  have y1 := free_of_one X1.out.h1
  have y2 := free_of_one X1.out.h2
  have y3 := free_of_one X1.out.h3
  have hownS := S2.out
  clear own1 grow1 new1 hownO O5 S5 I5 L1 k0 k1 k2 k3 k4 k5 z1 z2 z3 z4 z5 hc
  go_wp2_with (at_builtin; refine append_mine _ rfl (.tmp 32) (.tmp 35) 94 rfl (B + 6) 145 i45 (.agg #[.int .i64 0, .int .i64 0, .int .i64 0]) 3 24 Tryz.underlying94 hi45 hz450 hz451 hz452 rfl (by decide) _ _ _ rfl (hownS.alloc _) ⟨w1.heap.size, 0, none⟩ 1 1 [.int .i64 p, .int .i64 (-1), .int .i64 (-1)] rfl rfl (at_cells' [.int .i64 p, .int .i64 (-1), .int .i64 (-1)] _ _ _ (by simp)) (fun x hx => by simp at hx; rcases hx with rfl | rfl | rfl <;> rfl) (by decide) (by unfold maxLen; omega) (by omega) (by simp; omega) ?_)
  intro v2 w2 own2 grow2 new2
  obtain ⟨as2, cs2, rfl⟩ := own_slice own2
  have X3 := hide ((X2.out.alloc (.cells #[.int .i64 p, .int .i64 (-1), .int .i64 (-1)] 145)).grow grow2 (row_block S2.out))
  have O3 := hide ((O2.out.alloc (.cells #[.int .i64 p, .int .i64 (-1), .int .i64 (-1)] 145)).kept grow2 (own_ne O2.out S2.out (by decide)))
  have L3 := hide (((L2.out.box (a := ⟨B + 2, 0, none⟩) (by show B ≤ B + 2; omega) (by show B + 2 < B + 6; omega) (.slice (some ⟨g1, 0, none⟩) (s.op.length + 1) co1)).alloc (by simp; omega) (.cells #[.int .i64 p, .int .i64 (-1), .int .i64 (-1)] 145)).growS (vs'' := .slice as2 (s.sp.length + 1) cs2) grow2 (fun k hk => by
    rcases new2 k hk with e | e
    · exact .inl e
    · exact .inr (by simp; omega)) (by simp; omega) (fun k hk => by have := row_block S2.out k hk; omega))
  have i1 := cell_of_one X3.out.h1
  have i2 := cell_of_one X3.out.h2
  have i3' := cell_of_one X3.out.h3
  have x1 := free_of_one X3.out.h1
  have x3 := free_of_one X3.out.h3
  have OS2 := hide own2
  clear own2 grow2 new2 hownS S1 S2 O2 X1 X2 L2 j1 j2 j3 y1 y2 y3
  by_cases hmx : s.op.length + 1 ≤ s.deep
  · go_wp2_with fail
    go_ret
    exact open_fin _ _ _ _ _ _ _ _ _ _ HW.out HE.out HF.out X3.out O3.out L3.out OS2.out _ (by rw [Nat.max_eq_left hmx])
  · go_wp2_with fail
    go_ret
    exact open_fin _ _ _ _ _ _ _ _ _ _ HW.out HE.out HF.out X3.out O3.out L3.out OS2.out _ (by rw [Nat.max_eq_right (by omega)]; simp)
set_option maxRecDepth 100000 in
set_option maxHeartbeats 2000000 in
theorem around_open3 (hI : Inv B al n cl s vs vo w) (hw : s.wrong = false) (he : s.ended = false) (hO : Ops B w al n f) (hp : p < n) (hoz : s.op.length ≤ 1000) (hsz : s.sp.length ≤ 1000) (h : f p = 3) :
    Calls Tryz.prog 79 #[.int .i64 p, .pointer (some ⟨B + 5, 0, none⟩), .pointer (some ⟨B + 4, 0, none⟩), .pointer (some ⟨B + 2, 0, none⟩), .pointer (some ⟨B, 0, none⟩), .pointer (some ⟨B + 1, 0, none⟩), .pointer (some ⟨B + 3, 0, none⟩)] w (AP B al n cl f p s vs vo w) := by
  obtain ⟨ao, co, rfl⟩ := own_slice hI.oo
  obtain ⟨as1, cs1, rfl⟩ := own_slice hI.os
  have k0 := cell_of_one hI.bx.h0
  have k1 := cell_of_one hI.bx.h1
  have k2 := cell_of_one hI.bx.h2
  have k3 := cell_of_one hI.bx.h3
  have k4 := cell_of_one hI.bx.h4
  have k5 := cell_of_one hI.bx.h5
  have z1 := free_of_one hI.bx.h1
  have z2 := free_of_one hI.bx.h2
  have z3 := free_of_one hI.bx.h3
  have z4 := free_of_one hI.bx.h4
  have z5 := free_of_one hI.bx.h5
  have HI := hide hI
  have HW := hide hw
  have HE := hide he
  rw [hw] at k5
  rw [he] at k4
  obtain ⟨b, off, rfl, hlt, hc⟩ := hO p hp
  have HO := hide hO
  have I5 := hide (hI.bx.set5 false)
  have S5 := hide (ownsRow_setCell_below hI.os (a := ⟨B + 5, 0, none⟩) (by show B + 5 < B + 6; omega) (.bool false))
  have O5 := hide (ownsRow_setCell_below hI.oo (a := ⟨B + 5, 0, none⟩) (by show B + 5 < B + 6; omega) (.bool false))
  have hbsz := hI.bx.size
  clear hI hw he hO
  rw [h] at hc
  have HF := hide (show opn (f p) = true by rw [h]; decide)
  clear h
  obtain ⟨i3, hi3, hz30, hz31, hz32⟩ := info_parts Tryz.info3
  obtain ⟨i45, hi45, hprod⟩ := Option.map_eq_some_iff.1 Tryz.parts145
  simp only [Prod.mk.injEq] at hprod
  obtain ⟨hz450, hz451, hz452⟩ := hprod
  have hownO := O5.out
  go_enter Tryz.func79, Tryz.ntmps79
  go_wp2_with (at_builtin; refine append_mine _ rfl (.tmp 27) (.tmp 30) 23 rfl (B + 6) 3 i3 (.int .i64 0) 1 8 Tryz.underlying23 hi3 hz30 hz31 hz32 rfl (by decide) _ _ _ rfl (hownO.alloc _) ⟨w.heap.size, 0, none⟩ 1 1 [.int .i64 s.sp.length] rfl rfl (at_one' _ _ _ _ (by simp)) (fun x hx => by simp at hx; subst hx; rfl) (by decide) (by unfold maxLen; omega) (by omega) (by simp; omega) ?_)
  intro v1 w1 own1 grow1 new1
  obtain ⟨ao1, co1, rfl⟩ := own_slice own1
  obtain ⟨g1, rfl, _, hg1, hco1⟩ := own_some own1 (by omega)
  have X1 := hide ((I5.out.alloc (.cells #[.int .i64 s.sp.length] 3)).grow grow1 (row_block O5.out))
  have S1 := hide ((S5.out.alloc (.cells #[.int .i64 s.sp.length] 3)).kept grow1 (own_ne S5.out O5.out (by decide)))
  have L1 := hide (((Fr.refl B (.slice as1 s.sp.length cs1) (.slice ao s.op.length co) w).box (a := ⟨B + 5, 0, none⟩) (by show B ≤ B + 5; omega) (by show B + 5 < B + 6; omega) (.bool false)).alloc (by simp; omega) (.cells #[.int .i64 s.sp.length] 3))
  have L2 := hide (L1.out.growO (vo'' := .slice (some ⟨g1, 0, none⟩) (s.op.length + 1) co1) grow1 (fun k hk => by
    rcases new1 k hk with e | e
    · exact .inl e
    · exact .inr (by simp; omega)) (by simp; omega) (fun k hk => by have := row_block O5.out k hk; omega))
  have X2 := hide (X1.out.set2 (.slice (some ⟨g1, 0, none⟩) (s.op.length + 1) co1))
  have S2 := hide (ownsRow_setCell_below S1.out (a := ⟨B + 2, 0, none⟩) (by show B + 2 < B + 6; omega) (.slice (some ⟨g1, 0, none⟩) (s.op.length + 1) co1))
  have O2 := hide (ownsRow_setCell_below own1 (a := ⟨B + 2, 0, none⟩) (by show B + 2 < B + 6; omega) (.slice (some ⟨g1, 0, none⟩) (s.op.length + 1) co1))
  have hs1 := X1.out.size
  have j1 := cell_of_one X1.out.h1
  have j2 := cell_of_one X1.out.h2
  have j3 := cell_of_one X1.out.h3
  have y1 := free_of_one X1.out.h1
  have y2 := free_of_one X1.out.h2
  have y3 := free_of_one X1.out.h3
  have hownS := S2.out
  clear own1 grow1 new1 hownO O5 S5 I5 L1 k0 k1 k2 k3 k4 k5 z1 z2 z3 z4 z5 hc
  go_wp2_with (at_builtin; refine append_mine _ rfl (.tmp 32) (.tmp 35) 94 rfl (B + 6) 145 i45 (.agg #[.int .i64 0, .int .i64 0, .int .i64 0]) 3 24 Tryz.underlying94 hi45 hz450 hz451 hz452 rfl (by decide) _ _ _ rfl (hownS.alloc _) ⟨w1.heap.size, 0, none⟩ 1 1 [.int .i64 p, .int .i64 (-1), .int .i64 (-1)] rfl rfl (at_cells' [.int .i64 p, .int .i64 (-1), .int .i64 (-1)] _ _ _ (by simp)) (fun x hx => by simp at hx; rcases hx with rfl | rfl | rfl <;> rfl) (by decide) (by unfold maxLen; omega) (by omega) (by simp; omega) ?_)
  intro v2 w2 own2 grow2 new2
  obtain ⟨as2, cs2, rfl⟩ := own_slice own2
  have X3 := hide ((X2.out.alloc (.cells #[.int .i64 p, .int .i64 (-1), .int .i64 (-1)] 145)).grow grow2 (row_block S2.out))
  have O3 := hide ((O2.out.alloc (.cells #[.int .i64 p, .int .i64 (-1), .int .i64 (-1)] 145)).kept grow2 (own_ne O2.out S2.out (by decide)))
  have L3 := hide (((L2.out.box (a := ⟨B + 2, 0, none⟩) (by show B ≤ B + 2; omega) (by show B + 2 < B + 6; omega) (.slice (some ⟨g1, 0, none⟩) (s.op.length + 1) co1)).alloc (by simp; omega) (.cells #[.int .i64 p, .int .i64 (-1), .int .i64 (-1)] 145)).growS (vs'' := .slice as2 (s.sp.length + 1) cs2) grow2 (fun k hk => by
    rcases new2 k hk with e | e
    · exact .inl e
    · exact .inr (by simp; omega)) (by simp; omega) (fun k hk => by have := row_block S2.out k hk; omega))
  have i1 := cell_of_one X3.out.h1
  have i2 := cell_of_one X3.out.h2
  have i3' := cell_of_one X3.out.h3
  have x1 := free_of_one X3.out.h1
  have x3 := free_of_one X3.out.h3
  have OS2 := hide own2
  clear own2 grow2 new2 hownS S1 S2 O2 X1 X2 L2 j1 j2 j3 y1 y2 y3
  by_cases hmx : s.op.length + 1 ≤ s.deep
  · go_wp2_with fail
    go_ret
    exact open_fin _ _ _ _ _ _ _ _ _ _ HW.out HE.out HF.out X3.out O3.out L3.out OS2.out _ (by rw [Nat.max_eq_left hmx])
  · go_wp2_with fail
    go_ret
    exact open_fin _ _ _ _ _ _ _ _ _ _ HW.out HE.out HF.out X3.out O3.out L3.out OS2.out _ (by rw [Nat.max_eq_right (by omega)]; simp)
set_option maxRecDepth 100000 in
set_option maxHeartbeats 2000000 in
theorem around_open4 (hI : Inv B al n cl s vs vo w) (hw : s.wrong = false) (he : s.ended = false) (hO : Ops B w al n f) (hp : p < n) (hoz : s.op.length ≤ 1000) (hsz : s.sp.length ≤ 1000) (h : f p = 4) :
    Calls Tryz.prog 79 #[.int .i64 p, .pointer (some ⟨B + 5, 0, none⟩), .pointer (some ⟨B + 4, 0, none⟩), .pointer (some ⟨B + 2, 0, none⟩), .pointer (some ⟨B, 0, none⟩), .pointer (some ⟨B + 1, 0, none⟩), .pointer (some ⟨B + 3, 0, none⟩)] w (AP B al n cl f p s vs vo w) := by
  obtain ⟨ao, co, rfl⟩ := own_slice hI.oo
  obtain ⟨as1, cs1, rfl⟩ := own_slice hI.os
  have k0 := cell_of_one hI.bx.h0
  have k1 := cell_of_one hI.bx.h1
  have k2 := cell_of_one hI.bx.h2
  have k3 := cell_of_one hI.bx.h3
  have k4 := cell_of_one hI.bx.h4
  have k5 := cell_of_one hI.bx.h5
  have z1 := free_of_one hI.bx.h1
  have z2 := free_of_one hI.bx.h2
  have z3 := free_of_one hI.bx.h3
  have z4 := free_of_one hI.bx.h4
  have z5 := free_of_one hI.bx.h5
  have HI := hide hI
  have HW := hide hw
  have HE := hide he
  rw [hw] at k5
  rw [he] at k4
  obtain ⟨b, off, rfl, hlt, hc⟩ := hO p hp
  have HO := hide hO
  have I5 := hide (hI.bx.set5 false)
  have S5 := hide (ownsRow_setCell_below hI.os (a := ⟨B + 5, 0, none⟩) (by show B + 5 < B + 6; omega) (.bool false))
  have O5 := hide (ownsRow_setCell_below hI.oo (a := ⟨B + 5, 0, none⟩) (by show B + 5 < B + 6; omega) (.bool false))
  have hbsz := hI.bx.size
  clear hI hw he hO
  rw [h] at hc
  have HF := hide (show opn (f p) = true by rw [h]; decide)
  clear h
  obtain ⟨i3, hi3, hz30, hz31, hz32⟩ := info_parts Tryz.info3
  obtain ⟨i45, hi45, hprod⟩ := Option.map_eq_some_iff.1 Tryz.parts145
  simp only [Prod.mk.injEq] at hprod
  obtain ⟨hz450, hz451, hz452⟩ := hprod
  have hownO := O5.out
  go_enter Tryz.func79, Tryz.ntmps79
  go_wp2_with (at_builtin; refine append_mine _ rfl (.tmp 27) (.tmp 30) 23 rfl (B + 6) 3 i3 (.int .i64 0) 1 8 Tryz.underlying23 hi3 hz30 hz31 hz32 rfl (by decide) _ _ _ rfl (hownO.alloc _) ⟨w.heap.size, 0, none⟩ 1 1 [.int .i64 s.sp.length] rfl rfl (at_one' _ _ _ _ (by simp)) (fun x hx => by simp at hx; subst hx; rfl) (by decide) (by unfold maxLen; omega) (by omega) (by simp; omega) ?_)
  intro v1 w1 own1 grow1 new1
  obtain ⟨ao1, co1, rfl⟩ := own_slice own1
  obtain ⟨g1, rfl, _, hg1, hco1⟩ := own_some own1 (by omega)
  have X1 := hide ((I5.out.alloc (.cells #[.int .i64 s.sp.length] 3)).grow grow1 (row_block O5.out))
  have S1 := hide ((S5.out.alloc (.cells #[.int .i64 s.sp.length] 3)).kept grow1 (own_ne S5.out O5.out (by decide)))
  have L1 := hide (((Fr.refl B (.slice as1 s.sp.length cs1) (.slice ao s.op.length co) w).box (a := ⟨B + 5, 0, none⟩) (by show B ≤ B + 5; omega) (by show B + 5 < B + 6; omega) (.bool false)).alloc (by simp; omega) (.cells #[.int .i64 s.sp.length] 3))
  have L2 := hide (L1.out.growO (vo'' := .slice (some ⟨g1, 0, none⟩) (s.op.length + 1) co1) grow1 (fun k hk => by
    rcases new1 k hk with e | e
    · exact .inl e
    · exact .inr (by simp; omega)) (by simp; omega) (fun k hk => by have := row_block O5.out k hk; omega))
  have X2 := hide (X1.out.set2 (.slice (some ⟨g1, 0, none⟩) (s.op.length + 1) co1))
  have S2 := hide (ownsRow_setCell_below S1.out (a := ⟨B + 2, 0, none⟩) (by show B + 2 < B + 6; omega) (.slice (some ⟨g1, 0, none⟩) (s.op.length + 1) co1))
  have O2 := hide (ownsRow_setCell_below own1 (a := ⟨B + 2, 0, none⟩) (by show B + 2 < B + 6; omega) (.slice (some ⟨g1, 0, none⟩) (s.op.length + 1) co1))
  have hs1 := X1.out.size
  have j1 := cell_of_one X1.out.h1
  have j2 := cell_of_one X1.out.h2
  have j3 := cell_of_one X1.out.h3
  have y1 := free_of_one X1.out.h1
  have y2 := free_of_one X1.out.h2
  have y3 := free_of_one X1.out.h3
  have hownS := S2.out
  clear own1 grow1 new1 hownO O5 S5 I5 L1 k0 k1 k2 k3 k4 k5 z1 z2 z3 z4 z5 hc
  go_wp2_with (at_builtin; refine append_mine _ rfl (.tmp 32) (.tmp 35) 94 rfl (B + 6) 145 i45 (.agg #[.int .i64 0, .int .i64 0, .int .i64 0]) 3 24 Tryz.underlying94 hi45 hz450 hz451 hz452 rfl (by decide) _ _ _ rfl (hownS.alloc _) ⟨w1.heap.size, 0, none⟩ 1 1 [.int .i64 p, .int .i64 (-1), .int .i64 (-1)] rfl rfl (at_cells' [.int .i64 p, .int .i64 (-1), .int .i64 (-1)] _ _ _ (by simp)) (fun x hx => by simp at hx; rcases hx with rfl | rfl | rfl <;> rfl) (by decide) (by unfold maxLen; omega) (by omega) (by simp; omega) ?_)
  intro v2 w2 own2 grow2 new2
  obtain ⟨as2, cs2, rfl⟩ := own_slice own2
  have X3 := hide ((X2.out.alloc (.cells #[.int .i64 p, .int .i64 (-1), .int .i64 (-1)] 145)).grow grow2 (row_block S2.out))
  have O3 := hide ((O2.out.alloc (.cells #[.int .i64 p, .int .i64 (-1), .int .i64 (-1)] 145)).kept grow2 (own_ne O2.out S2.out (by decide)))
  have L3 := hide (((L2.out.box (a := ⟨B + 2, 0, none⟩) (by show B ≤ B + 2; omega) (by show B + 2 < B + 6; omega) (.slice (some ⟨g1, 0, none⟩) (s.op.length + 1) co1)).alloc (by simp; omega) (.cells #[.int .i64 p, .int .i64 (-1), .int .i64 (-1)] 145)).growS (vs'' := .slice as2 (s.sp.length + 1) cs2) grow2 (fun k hk => by
    rcases new2 k hk with e | e
    · exact .inl e
    · exact .inr (by simp; omega)) (by simp; omega) (fun k hk => by have := row_block S2.out k hk; omega))
  have i1 := cell_of_one X3.out.h1
  have i2 := cell_of_one X3.out.h2
  have i3' := cell_of_one X3.out.h3
  have x1 := free_of_one X3.out.h1
  have x3 := free_of_one X3.out.h3
  have OS2 := hide own2
  clear own2 grow2 new2 hownS S1 S2 O2 X1 X2 L2 j1 j2 j3 y1 y2 y3
  by_cases hmx : s.op.length + 1 ≤ s.deep
  · go_wp2_with fail
    go_ret
    exact open_fin _ _ _ _ _ _ _ _ _ _ HW.out HE.out HF.out X3.out O3.out L3.out OS2.out _ (by rw [Nat.max_eq_left hmx])
  · go_wp2_with fail
    go_ret
    exact open_fin _ _ _ _ _ _ _ _ _ _ HW.out HE.out HF.out X3.out O3.out L3.out OS2.out _ (by rw [Nat.max_eq_right (by omega)]; simp)
end
end Go.Proofs.YtamofhkmhjckaabGreatDoor.Nest

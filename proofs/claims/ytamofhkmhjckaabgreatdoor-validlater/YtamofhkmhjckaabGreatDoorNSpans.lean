/-
  The program's closure around, called at a place, does the plain step and tells those that are open around it.
  The program's opened makes the six variables and the two closures; end tells the spans or the error.
  The program's closure around, at whatever place: the plain step.
  The program's Spans: the spans of the plain run, or the error.
-/
import Derived.Test.YtamofhkmhjckaabGreatDoorNAroundB
import Derived.Test.YtamofhkmhjckaabGreatDoorNAroundC
namespace Go.Proofs.YtamofhkmhjckaabGreatDoor.Nest
open Go.RowKit

section
variable (B : Nat) (al : Option Addr) (n cl : Nat) (f : Nat → Int) (p : Nat) (s : St) (vs vo : Value) (w : World)
set_option maxRecDepth 100000 in
set_option maxHeartbeats 2000000 in
theorem around_end0 (hI : Inv B al n cl s vs vo w) (hw : s.wrong = false) (he : s.ended = false) (hO : Ops B w al n f) (hp : p < n) (hsz : s.sp.length ≤ 1000) (h : f p = 11) (ho : s.op = []) :
    Calls Tryz.prog 79 #[.int .i64 p, .pointer (some ⟨B + 5, 0, none⟩), .pointer (some ⟨B + 4, 0, none⟩), .pointer (some ⟨B + 2, 0, none⟩), .pointer (some ⟨B, 0, none⟩), .pointer (some ⟨B + 1, 0, none⟩), .pointer (some ⟨B + 3, 0, none⟩)] w (AP B al n cl f p s vs vo w) := by
  obtain ⟨ao, co, rfl⟩ := own_slice hI.oo
  obtain ⟨as1, cs1, rfl⟩ := own_slice hI.os
  have k0 := cell_of_one hI.bx.h0
  have k1 := cell_of_one hI.bx.h1
  have k2 := cell_of_one hI.bx.h2
  have k3 := cell_of_one hI.bx.h3
  have k4 := cell_of_one hI.bx.h4
  have k5 := cell_of_one hI.bx.h5
  have z1 := free_of_one hI.bx.h1
  have z2 := free_of_one hI.bx.h2
  have z3 := free_of_one hI.bx.h3
  have z4 := free_of_one hI.bx.h4
  have z5 := free_of_one hI.bx.h5
  have HI := hide hI
  have HW := hide hw
  have HE := hide he
  rw [hw] at k5
  rw [he] at k4
  obtain ⟨b, off, rfl, hlt, hc⟩ := hO p hp
  have HO := hide hO
  have I5 := hide (hI.bx.set5 false)
  have S5 := hide (ownsRow_setCell_below hI.os (a := ⟨B + 5, 0, none⟩) (by show B + 5 < B + 6; omega) (.bool false))
  have O5 := hide (ownsRow_setCell_below hI.oo (a := ⟨B + 5, 0, none⟩) (by show B + 5 < B + 6; omega) (.bool false))
  have hbsz := hI.bx.size
  clear hI hw he hO
  rw [h] at hc
  have HF := hide h
  have HN := hide ho
  clear h
  have hol : s.op.length = 0 := by rw [ho]; rfl
  clear ho
  rw [hol] at k2
  obtain ⟨i45, hi45, hprod⟩ := Option.map_eq_some_iff.1 Tryz.parts145
  simp only [Prod.mk.injEq] at hprod
  obtain ⟨hz450, hz451, hz452⟩ := hprod
  have X1 := hide (I5.out.set4 true)
  have S1 := hide (ownsRow_setCell_below S5.out (a := ⟨B + 4, 0, none⟩) (by show B + 4 < B + 6; omega) (.bool true))
  have O1 := hide (ownsRow_setCell_below O5.out (a := ⟨B + 4, 0, none⟩) (by show B + 4 < B + 6; omega) (.bool true))
  have L1 := hide (((Fr.refl B (.slice as1 s.sp.length cs1) (.slice ao s.op.length co) w).box (a := ⟨B + 5, 0, none⟩) (by show B ≤ B + 5; omega) (by show B + 5 < B + 6; omega) (.bool false)).box (a := ⟨B + 4, 0, none⟩) (by show B ≤ B + 4; omega) (by show B + 4 < B + 6; omega) (.bool true))
  have hownS := S1.out
  clear I5 S5 O5
  go_enter Tryz.func79, Tryz.ntmps79
  go_wp2_with (at_builtin; refine append_mine _ rfl (.tmp 78) (.tmp 81) 94 rfl (B + 6) 145 i45 (.agg #[.int .i64 0, .int .i64 0, .int .i64 0]) 3 24 Tryz.underlying94 hi45 hz450 hz451 hz452 rfl (by decide) _ _ _ rfl (hownS.alloc _) ⟨w.heap.size, 0, none⟩ 1 1 [.int .i64 (-1), .int .i64 (-1), .int .i64 p] rfl rfl (at_cells' [.int .i64 (-1), .int .i64 (-1), .int .i64 p] _ _ _ (by simp)) (fun x hx => by simp at hx; rcases hx with rfl | rfl | rfl <;> rfl) (by decide) (by unfold maxLen; omega) (by omega) (by simp; omega) ?_)
  intro v2 w2 own2 grow2 new2
  obtain ⟨as2, cs2, rfl⟩ := own_slice own2
  have X3 := hide ((X1.out.alloc (.cells #[.int .i64 (-1), .int .i64 (-1), .int .i64 p] 145)).grow grow2 (row_block S1.out))
  have O3 := hide ((O1.out.alloc (.cells #[.int .i64 (-1), .int .i64 (-1), .int .i64 p] 145)).kept grow2 (own_ne O1.out S1.out (by decide)))
  have L3 := hide ((L1.out.alloc (by simp; omega) (.cells #[.int .i64 (-1), .int .i64 (-1), .int .i64 p] 145)).growS (vs'' := .slice as2 (s.sp.length + 1) cs2) grow2 (fun k hk => by
    rcases new2 k hk with e | e
    · exact .inl e
    · exact .inr (by simp; omega)) (by simp; omega) (fun k hk => by have := row_block S1.out k hk; omega))
  have i1 := cell_of_one X3.out.h1
  have x1 := free_of_one X3.out.h1
  have OS2 := hide own2
  clear own2 grow2 new2 hownS S1 O1 X1 L1 k0 k1 k2 k3 k4 k5 z1 z2 z3 z4 z5 hc
  go_wp2_with fail
  go_ret
  refine ⟨_, _, _, rfl, ?_, .slice as2 (s.sp.length + 1) cs2, .slice ao s.op.length co, ?_, L3.out.box (a := ⟨B + 1, 0, none⟩) (by show B ≤ B + 1; omega) (by show B + 1 < B + 6; omega) _⟩
  · rw [arL_end0 HW.out HE.out HF.out HN.out]; exact Rd.none _
  · rw [stp_end0 HW.out HE.out HF.out HN.out]
    refine ⟨?_, ?_, ownsRow_setCell_below O3.out (a := ⟨B + 1, 0, none⟩) (by show B + 1 < B + 6; omega) _⟩
    · have := X3.out.set1 (.slice as2 (s.sp.length + 1) cs2)
      rw [← HW.out] at this
      exact this
    · show World.ownsRow _ _ _ _ _ (s.sp ++ [_]).length (flat (s.sp ++ [_]))
      rw [flat_add, List.length_append]
      exact ownsRow_setCell_below OS2.out (a := ⟨B + 1, 0, none⟩) (by show B + 1 < B + 6; omega) _
set_option maxRecDepth 100000 in
set_option maxHeartbeats 2000000 in
theorem around_endY (hI : Inv B al n cl s vs vo w) (hw : s.wrong = false) (he : s.ended = false) (hO : Ops B w al n f) (hp : p < n) (hoz : s.op.length ≤ 1000) (hsz : s.sp.length ≤ 1000) (k : Nat) (r : List Nat) (h : f p = 11) (ho : s.op = k :: r) (hk : k < s.sp.length) :
    Calls Tryz.prog 79 #[.int .i64 p, .pointer (some ⟨B + 5, 0, none⟩), .pointer (some ⟨B + 4, 0, none⟩), .pointer (some ⟨B + 2, 0, none⟩), .pointer (some ⟨B, 0, none⟩), .pointer (some ⟨B + 1, 0, none⟩), .pointer (some ⟨B + 3, 0, none⟩)] w (AP B al n cl f p s vs vo w) := by
  obtain ⟨ao, co, rfl⟩ := own_slice hI.oo
  obtain ⟨as1, cs1, rfl⟩ := own_slice hI.os
  have k0 := cell_of_one hI.bx.h0
  have k1 := cell_of_one hI.bx.h1
  have k2 := cell_of_one hI.bx.h2
  have k3 := cell_of_one hI.bx.h3
  have k4 := cell_of_one hI.bx.h4
  have k5 := cell_of_one hI.bx.h5
  have z1 := free_of_one hI.bx.h1
  have z2 := free_of_one hI.bx.h2
  have z3 := free_of_one hI.bx.h3
  have z4 := free_of_one hI.bx.h4
  have z5 := free_of_one hI.bx.h5
  have HI := hide hI
  have HW := hide hw
  have HE := hide he
  rw [hw] at k5
  rw [he] at k4
  obtain ⟨b, off, rfl, hlt, hc⟩ := hO p hp
  have HO := hide hO
  have I5 := hide (hI.bx.set5 false)
  have S5 := hide (ownsRow_setCell_below hI.os (a := ⟨B + 5, 0, none⟩) (by show B + 5 < B + 6; omega) (.bool false))
  have O5 := hide (ownsRow_setCell_below hI.oo (a := ⟨B + 5, 0, none⟩) (by show B + 5 < B + 6; omega) (.bool false))
  have hbsz := hI.bx.size
  clear hI hw he hO
  rw [h] at hc
  have HF := hide h
  have HN := hide ho
  have hol : s.op.length = r.length + 1 := by rw [ho]; rfl
  have HT := hide hol
  obtain ⟨g0, rfl, _, hg0, hco⟩ := own_some O5.out (by omega)
  obtain ⟨g1, rfl, _, hg1, hcs⟩ := own_some S5.out (by omega)
  have hq : (ints s.op.reverse)[r.length]? = some (.int .i64 k) := by rw [ho]; simp [ints]
  have q1 := (HI.out.oo.cellAt r.length (by omega)).trans hq
  have q4 := (HI.out.os.cellAt (k * 3 + 2) (by omega)).trans (flat_at s.sp k hk).2.2
  have y4 := HI.out.os.frozenAt (k * 3 + 2)
  have hrl : r.length ≤ 1000 := by omega
  have hrc : r.length ≤ co := by omega
  have hdl : decide ((r.length : Int) < 0) = false := decide_eq_false (by omega)
  clear h ho hq
  rw [hol] at k2
  clear hol
  go_enter Tryz.func79, Tryz.ntmps79
  go_wp2_with fail
  go_region
  all_goals
    go_wp2_with fail
    go_ret
    have I6 : Inv B (some ⟨b, off, none⟩) n cl s (.slice (some ⟨g1, 0, none⟩) s.sp.length cs1) (.slice (some ⟨g0, 0, none⟩) s.op.length co) ((w.setCell ⟨B + 5, 0, none⟩ (.bool false)).setCell ⟨B + 4, 0, none⟩ (.bool false)) :=
      ⟨by have := I5.out.set4 false; rw [HW.out, HE.out]; exact this, ownsRow_setCell_below S5.out (by show B + 4 < B + 6; omega) _, ownsRow_setCell_below O5.out (by show B + 4 < B + 6; omega) _⟩
    have I8 := I6.put hg1 (k * 3 + 2) p (s.sp.set k { spAt s.sp k with d := p }) (flat_set2 _ _ _ hk) (by simp)
    have O8 : World.ownsRow _ (B + 6) 3 1 (.slice (some ⟨g0, 0, none⟩) s.op.length co) s.op.length (ints s.op.reverse) := I8.oo
    have O9 := own_take O8 r.length (by rw [HT.out]; omega)
    rw [show (ints s.op.reverse).take r.length = ints r.reverse by rw [HN.out, ints_add, List.take_left' (by simp [ints])]] at O9
    have I9 : Inv B (some ⟨b, off, none⟩) n cl { s with sp := s.sp.set k { spAt s.sp k with d := p }, op := r } (.slice (some ⟨g1, 0, none⟩) s.sp.length cs1) (.slice (some ⟨g0, 0, none⟩) r.length co) _ :=
      ⟨I8.bx.set2 (.slice (some ⟨g0, 0, none⟩) r.length co), ownsRow_setCell_below I8.os (by show B + 2 < B + 6; omega) _, ownsRow_setCell_below O9 (by show B + 2 < B + 6; omega) _⟩
    refine ⟨_, _, _, rfl, ?_, _, _, by rw [stp_endY HW.out HE.out HF.out HN.out]; exact I9.drew, ?_⟩
    · rw [arL_endY HW.out HE.out HF.out HN.out]
      exact own_rd I9.drew.oo rfl rfl
    · exact ((((((Fr.refl B (.slice (some ⟨g1, 0, none⟩) s.sp.length cs1) (.slice (some ⟨g0, 0, none⟩) s.op.length co) w).box (a := ⟨B + 5, 0, none⟩) (by show B ≤ B + 5; omega) (by show B + 5 < B + 6; omega) (.bool false)).box (a := ⟨B + 4, 0, none⟩) (by show B ≤ B + 4; omega) (by show B + 4 < B + 6; omega) (.bool false)).rowS (j := k * 3 + 2) rfl (by omega) (.int .i64 p)).cutO (vo'' := .slice (some ⟨g0, 0, none⟩) r.length co) rfl).box (a := ⟨B + 2, 0, none⟩) (by show B ≤ B + 2; omega) (by show B + 2 < B + 6; omega) _).drew
end
end Go.Proofs.YtamofhkmhjckaabGreatDoor.Nest
namespace Go.Proofs.YtamofhkmhjckaabGreatDoor.Nest
open Go.RowKit

def erS (s : St) : Int := if s.wrong || !s.ended then 3 else if 8 < s.deep then 1 else 0
theorem er_is (f : Nat → Int) (n : Nat) : er f n = erS (run f n) := rfl
/-- the closure around, and end -/
def cloA (B : Nat) : Value := .func (.func 79) #[] #[.pointer (some ⟨B + 5, 0, none⟩), .pointer (some ⟨B + 4, 0, none⟩), .pointer (some ⟨B + 2, 0, none⟩), .pointer (some ⟨B, 0, none⟩), .pointer (some ⟨B + 1, 0, none⟩), .pointer (some ⟨B + 3, 0, none⟩)]
def cloE (B : Nat) : Value := .func (.func 81) #[] #[.pointer (some ⟨B + 5, 0, none⟩), .pointer (some ⟨B + 4, 0, none⟩), .pointer (some ⟨B + 3, 0, none⟩), .pointer (some ⟨B + 1, 0, none⟩)]

theorem six (w : World) (o0 o1 o2 o3 o4 o5 : Obj) : let W := (((((w.alloc o0).alloc o1).alloc o2).alloc o3).alloc o4).alloc o5
    W.heap[w.heap.size]? = some o0 ∧ W.heap[w.heap.size + 1]? = some o1 ∧ W.heap[w.heap.size + 2]? = some o2 ∧ W.heap[w.heap.size + 3]? = some o3 ∧ W.heap[w.heap.size + 4]? = some o4 ∧ W.heap[w.heap.size + 5]? = some o5 := by
  have n0 := heap_alloc_new w o0
  have n1 := heap_alloc_new (w.alloc o0) o1
  have n2 := heap_alloc_new ((w.alloc o0).alloc o1) o2
  have n3 := heap_alloc_new (((w.alloc o0).alloc o1).alloc o2) o3
  have n4 := heap_alloc_new ((((w.alloc o0).alloc o1).alloc o2).alloc o3) o4
  have n5 := heap_alloc_new (((((w.alloc o0).alloc o1).alloc o2).alloc o3).alloc o4) o5
  have z : ∀ (v : World) (o : Obj), (v.alloc o).heap.size = v.heap.size + 1 := fun v o => by simp
  simp only [z] at n1 n2 n3 n4 n5
  have k : ∀ (v : World) (o : Obj) (i : Nat) (x : Obj), v.heap[i]? = some x → (v.alloc o).heap[i]? = some x := fun v o i x h => by
    exact ((World.grownBy_alloc v o none).block i (lt_of_block h) (by simp)).trans h
  exact ⟨k _ _ _ _ (k _ _ _ _ (k _ _ _ _ (k _ _ _ _ (k _ _ _ _ n0)))), k _ _ _ _ (k _ _ _ _ (k _ _ _ _ (k _ _ _ _ n1))), k _ _ _ _ (k _ _ _ _ (k _ _ _ _ n2)), k _ _ _ _ (k _ _ _ _ n3), k _ _ _ _ n4, n5⟩
set_option maxHeartbeats 1000000 in
theorem opened_any (a : Option Addr) (n c : Nat) (w : World) :
    Calls Tryz.prog 47 #[.slice a n c] w fun e w' => e = .returned (.tuple #[cloA w.heap.size, cloE w.heap.size]) ∧ Inv w.heap.size a n c St0 (.slice none 0 0) (.slice none 0 0) w' ∧ Below w.heap.size w w' := by
  have hmf : ∀ (fn : Go.Fn) (first cap : Array Value) (w : World), (Instr.makeFunc fn first cap).run Tryz.prog w = .ok (.func fn first cap) w := fun _ _ _ _ => rfl
  go_enter Tryz.func47, Tryz.ntmps47
  go_wp2_with fail
  go_ret2
  have hb : Below w.heap.size w (((((((w.alloc (.cells #[.slice a n c] 36)).alloc (.cells #[.slice none 0 0] 94)).alloc (.cells #[.slice none 0 0] 23)).alloc (.cells #[.int .i64 0] 3)).alloc (.cells #[.bool false] 4)).alloc (.cells #[.bool false] 4))) :=
    ((((((Below.refl _ _).alloc (by simp) _).alloc (by simp) _).alloc (by simp; omega) _).alloc (by simp; omega) _).alloc (by simp; omega) _).alloc (by simp; omega) _
  obtain ⟨b0, b1, b2, b3, b4, b5⟩ := six w (.cells #[.slice a n c] 36) (.cells #[.slice none 0 0] 94) (.cells #[.slice none 0 0] 23) (.cells #[.int .i64 0] 3) (.cells #[.bool false] 4) (.cells #[.bool false] 4)
  have I0 : Bx w.heap.size (.slice a n c) (.slice none 0 0) (.slice none 0 0) 0 false false _ := ⟨b0, b1, b2, b3, b4, b5⟩
  exact ⟨rfl, ⟨I0, World.ownsRow_nil _ _ _ _, World.ownsRow_nil _ _ _ _⟩, hb⟩

set_option maxHeartbeats 1000000 in
theorem end_any (B : Nat) (a : Option Addr) (n c : Nat) (s : St) (vs vo : Value) (w : World) (hI : Inv B a n c s vs vo w) (hd : s.deep ≤ 1000) :
    Calls Tryz.prog 81 #[.pointer (some ⟨B + 5, 0, none⟩), .pointer (some ⟨B + 4, 0, none⟩), .pointer (some ⟨B + 3, 0, none⟩), .pointer (some ⟨B + 1, 0, none⟩)] w fun e w' =>
      ∃ v, e = .returned (.tuple #[v, .int .i64 (erS s)]) ∧ (erS s = 0 → v = vs) ∧ (erS s ≠ 0 → v = .slice none 0 0) ∧ w' = w := by
  have k1 := cell_of_one hI.bx.h1
  have k3 := cell_of_one hI.bx.h3
  have k4 := cell_of_one hI.bx.h4
  have k5 := cell_of_one hI.bx.h5
  clear hI
  cases hw : s.wrong with
  | true =>
    have E := hide (show erS s = 3 by simp [erS, hw])
    rw [hw] at k5
    clear hw
    go_enter Tryz.func81, Tryz.ntmps81
    go_wp2_with fail
    go_ret2
    rw [E.out]
    exact ⟨_, rfl, fun h => by simp at h, fun _ => rfl, rfl⟩
  | false =>
    rw [hw] at k5
    cases he : s.ended with
    | false =>
      have E := hide (show erS s = 3 by simp [erS, he])
      rw [he] at k4
      clear hw he
      go_enter Tryz.func81, Tryz.ntmps81
      go_wp2_with fail
      go_ret2
      rw [E.out]
      exact ⟨_, rfl, fun h => by simp at h, fun _ => rfl, rfl⟩
    | true =>
      rw [he] at k4
      by_cases hd8 : 8 < s.deep
      · have E := hide (show erS s = 1 by simp [erS, hw, he, hd8])
        clear hw he
        go_enter Tryz.func81, Tryz.ntmps81
        go_wp2_with fail
        go_ret2
        rw [E.out]
        exact ⟨_, rfl, fun h => by simp at h, fun _ => rfl, rfl⟩
      · have E := hide (show erS s = 0 by simp [erS, hw, he, hd8])
        clear hw he
        go_enter Tryz.func81, Tryz.ntmps81
        go_wp2_with fail
        go_ret2
        rw [E.out]
        exact ⟨_, rfl, fun _ => rfl, fun h => absurd rfl h, rfl⟩
end Go.Proofs.YtamofhkmhjckaabGreatDoor.Nest
namespace Go.Proofs.YtamofhkmhjckaabGreatDoor.Nest
open Go.RowKit

theorem around_any (B n cl : Nat) (al : Option Addr) (f : Nat → Int) (p : Nat) (vs vo : Value) (w : World) (hI : Inv B al n cl (run f p) vs vo w) (hO : Ops B w al n f) (hp : p < n) (hn : n ≤ 1000) :
    Calls Tryz.prog 79 #[.int .i64 p, .pointer (some ⟨B + 5, 0, none⟩), .pointer (some ⟨B + 4, 0, none⟩), .pointer (some ⟨B + 2, 0, none⟩), .pointer (some ⟨B, 0, none⟩), .pointer (some ⟨B + 1, 0, none⟩), .pointer (some ⟨B + 3, 0, none⟩)] w (AP B al n cl f p (run f p) vs vo w) := by
  obtain ⟨h1, h2, _⟩ := run_len f p
  have hsz : (run f p).sp.length ≤ 1000 := by omega
  have hoz : (run f p).op.length ≤ 1000 := by omega
  have hwf := wf_run f p
  cases way f p (run f p) with
  | stop h =>
    cases hw : (run f p).wrong with
    | true => exact around_wrong B al n cl f p _ vs vo w hI hw
    | false =>
      rcases h with h | h
      · rw [hw] at h; cases h
      · exact around_ended B al n cl f p _ vs vo w hI hw h
  | opens hw he h =>
    have : f p = 2 ∨ f p = 3 ∨ f p = 4 := by simpa [opn, or_assoc] using h
    rcases this with e | e | e
    · exact around_open2 B al n cl f p _ vs vo w hI hw he hO hp hoz hsz e
    · exact around_open3 B al n cl f p _ vs vo w hI hw he hO hp hoz hsz e
    · exact around_open4 B al n cl f p _ vs vo w hI hw he hO hp hoz hsz e
  | else0 hw he h ho => exact around_else0 B al n cl f p _ vs vo w hI hw he hO hp h ho
  | elseN k r hw he h ho hl =>
    have hk := (((hwf hw he).mem k).1 (by rw [ho]; simp)).1
    obtain ⟨m, hb, hm, _⟩ := (hwf hw he).beg k hk
    exact around_else1 B al n cl f p _ vs vo w hI hw he hO hp hoz hsz k r h ho hk ⟨m, hb, by omega⟩ false hl
  | elseY k r hw he h ho hl =>
    have hk := (((hwf hw he).mem k).1 (by rw [ho]; simp)).1
    obtain ⟨m, hb, hm, _⟩ := (hwf hw he).beg k hk
    exact around_else1 B al n cl f p _ vs vo w hI hw he hO hp hoz hsz k r h ho hk ⟨m, hb, by omega⟩ true hl
  | end0 hw he h ho => exact around_end0 B al n cl f p _ vs vo w hI hw he hO hp hsz h ho
  | endY k r hw he h ho =>
    have hk := (((hwf hw he).mem k).1 (by rw [ho]; simp)).1
    exact around_endY B al n cl f p _ vs vo w hI hw he hO hp hoz hsz k r h ho hk
  | other hw he h0 h1 h2 => exact around_other B al n cl f p _ vs vo w hI hw he hO hp hoz h0 h1 h2
end Go.Proofs.YtamofhkmhjckaabGreatDoor.Nest
namespace Go.Proofs.YtamofhkmhjckaabGreatDoor.Nest
open Go.RowKit

set_option maxRecDepth 100000 in
set_option maxHeartbeats 2000000 in
theorem spans_any (a : Option Addr) (n c n₀ : Nat) (f : Nat → Int) (w : World) (hO : Ops n₀ w a n f) (hn₀ : n₀ ≤ w.heap.size) (hn : n ≤ 1000) :
    Calls Tryz.prog 38 #[.slice a n c] w fun e w' => ∃ v, e = .returned (.tuple #[v, .int .i64 (er f n)]) ∧ (er f n = 0 → w'.ownsRow w.heap.size 145 3 v (run f n).sp.length (flat (run f n).sp)) ∧ (er f n ≠ 0 → v = .slice none 0 0) ∧ Below w.heap.size w w' := by
  have HO := hide hO
  have HN := hide hn₀
  have OP := hide (opened_any a n c w)
  clear hO hn₀
  go_enter Tryz.func38, Tryz.ntmps38
  go_wp2_with fail
  refine OP.out.mono ?_
  rintro e w1 ⟨rfl, hI, hb⟩
  have HI := hide hI
  clear hI OP
  unfold cloA cloE
  go_wp2_with fail
  go_loopw [14] (fun i wr => ∃ (k : Nat) (vs vo : Value), k ≤ n ∧ i = .int .i64 k ∧ Hid (Inv w.heap.size a n c (run f k) vs vo wr) ∧ Below w.heap.size w wr) (fun i _ => n - (intOf i).toNat)
  case atStart => exact ⟨0, _, _, by omega, rfl, HI, hb⟩
  case round =>
    obtain ⟨k, vs, vo, hk, rfl, hIk, hbk⟩ := hrel
    by_cases hlt : k < n
    · have AR := hide (around_any w.heap.size n c a f k vs vo wr hIk.out ((HO.out.below hbk HN.out).mono HN.out) hlt hn)
      clear hIk HI
      go_wp2_with fail
      refine AR.out.mono ?_
      rintro e w2 ⟨a2, m2, c2, rfl, _, vs2, vo2, hI2, hF2⟩
      have HI2 := hide hI2
      have hb2 := hbk.trans hF2.bl
      clear hI2 hF2 AR
      go_wp2_with fail
      go_roundw
      case rel => exact ⟨k + 1, vs2, vo2, by omega, by go_num, HI2, hb2⟩
      case measure => simp [intOf]; omega
    · obtain rfl : k = n := by omega
      have EN := hide (end_any w.heap.size a k c (run f k) vs vo wr hIk.out (by have := (run_len f k).2.2; omega))
      clear HI
      go_wp2_with fail
      refine EN.out.mono ?_
      rintro e w2 ⟨v, rfl, h0, h1, rfl⟩
      have H0 := hide h0
      have H1 := hide h1
      clear h0 h1 EN
      go_wp2_with fail
      go_ret2
      refine ⟨v, rfl, fun h => ?_, H1.out, hbk⟩
      rw [H0.out h]
      exact own_mono hIk.out.os (by omega)
end Go.Proofs.YtamofhkmhjckaabGreatDoor.Nest

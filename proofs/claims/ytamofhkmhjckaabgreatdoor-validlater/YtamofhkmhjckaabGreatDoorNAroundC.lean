/-
  The program's closure around, called at a place, does the plain step and tells those that are open around it.
-/
import Derived.Test.YtamofhkmhjckaabGreatDoorNAroundB
import Derived.Deep.RegionWith
import Derived.Deep.CutRange
namespace Go.Proofs.YtamofhkmhjckaabGreatDoor.Nest
open Go.RowKit

section
variable (B : Nat) (al : Option Addr) (n cl : Nat) (f : Nat → Int) (p : Nat) (s : St) (vs vo : Value) (w : World)
set_option maxRecDepth 100000 in
set_option maxHeartbeats 1000000 in
theorem around_else0 (hI : Inv B al n cl s vs vo w) (hw : s.wrong = false) (he : s.ended = false) (hO : Ops B w al n f) (hp : p < n) (h : f p = 5) (ho : s.op = []) :
    Calls Tryz.prog 79 #[.int .i64 p, .pointer (some ⟨B + 5, 0, none⟩), .pointer (some ⟨B + 4, 0, none⟩), .pointer (some ⟨B + 2, 0, none⟩), .pointer (some ⟨B, 0, none⟩), .pointer (some ⟨B + 1, 0, none⟩), .pointer (some ⟨B + 3, 0, none⟩)] w (AP B al n cl f p s vs vo w) := by
  obtain ⟨ao, co, rfl⟩ := own_slice hI.oo
  obtain ⟨as1, cs1, rfl⟩ := own_slice hI.os
  have k0 := cell_of_one hI.bx.h0
  have k1 := cell_of_one hI.bx.h1
  have k2 := cell_of_one hI.bx.h2
  have k3 := cell_of_one hI.bx.h3
  have k4 := cell_of_one hI.bx.h4
  have k5 := cell_of_one hI.bx.h5
  have z1 := free_of_one hI.bx.h1
  have z2 := free_of_one hI.bx.h2
  have z3 := free_of_one hI.bx.h3
  have z4 := free_of_one hI.bx.h4
  have z5 := free_of_one hI.bx.h5
  have HI := hide hI
  have HW := hide hw
  have HE := hide he
  rw [hw] at k5
  rw [he] at k4
  obtain ⟨b, off, rfl, hlt, hc⟩ := hO p hp
  have HO := hide hO
  have I5 := hide (hI.bx.set5 false)
  have S5 := hide (ownsRow_setCell_below hI.os (a := ⟨B + 5, 0, none⟩) (by show B + 5 < B + 6; omega) (.bool false))
  have O5 := hide (ownsRow_setCell_below hI.oo (a := ⟨B + 5, 0, none⟩) (by show B + 5 < B + 6; omega) (.bool false))
  have hbsz := hI.bx.size
  clear hI hw he hO
  rw [h] at hc
  have HF := hide h
  have HN := hide ho
  clear h
  have hol : s.op.length = 0 := by rw [ho]; rfl
  clear ho
  rw [hol] at k2
  go_enter Tryz.func79, Tryz.ntmps79
  go_wp2_with fail
  go_region
  all_goals
    go_wp2_with fail
    go_ret
    refine ⟨_, _, _, rfl, ?_, .slice as1 s.sp.length cs1, .slice ao s.op.length co, ?_, (((Fr.refl B _ _ w).box (a := ⟨B + 5, 0, none⟩) (by show B ≤ B + 5; omega) (by show B + 5 < B + 6; omega) (.bool false)).box (a := ⟨B + 5, 0, none⟩) (by show B ≤ B + 5; omega) (by show B + 5 < B + 6; omega) (.bool true)).drew⟩
    · rw [arL_else0 HW.out HE.out HF.out HN.out]; exact Rd.none _
    · rw [stp_else0 HW.out HE.out HF.out HN.out]
      exact ⟨(I5.out.set5 true).drew, (ownsRow_setCell_below S5.out (a := ⟨B + 5, 0, none⟩) (by show B + 5 < B + 6; omega) _).drew, (ownsRow_setCell_below O5.out (a := ⟨B + 5, 0, none⟩) (by show B + 5 < B + 6; omega) _).drew⟩
set_option maxRecDepth 100000 in
set_option maxHeartbeats 8000000 in
theorem around_else1 (hI : Inv B al n cl s vs vo w) (hw : s.wrong = false) (he : s.ended = false) (hO : Ops B w al n f) (hp : p < n) (hoz : s.op.length ≤ 1000) (hsz : s.sp.length ≤ 1000) (k : Nat) (r : List Nat) (h : f p = 5) (ho : s.op = k :: r) (hk : k < s.sp.length) (hbeg : ∃ m : Nat, (spAt s.sp k).b = m ∧ m < n) (lr : Bool) (hl : lacks f (spAt s.sp k) = lr) :
    Calls Tryz.prog 79 #[.int .i64 p, .pointer (some ⟨B + 5, 0, none⟩), .pointer (some ⟨B + 4, 0, none⟩), .pointer (some ⟨B + 2, 0, none⟩), .pointer (some ⟨B, 0, none⟩), .pointer (some ⟨B + 1, 0, none⟩), .pointer (some ⟨B + 3, 0, none⟩)] w (AP B al n cl f p s vs vo w) := by
  obtain ⟨ao, co, rfl⟩ := own_slice hI.oo
  obtain ⟨as1, cs1, rfl⟩ := own_slice hI.os
  have k0 := cell_of_one hI.bx.h0
  have k1 := cell_of_one hI.bx.h1
  have k2 := cell_of_one hI.bx.h2
  have k3 := cell_of_one hI.bx.h3
  have k4 := cell_of_one hI.bx.h4
  have k5 := cell_of_one hI.bx.h5
  have z1 := free_of_one hI.bx.h1
  have z2 := free_of_one hI.bx.h2
  have z3 := free_of_one hI.bx.h3
  have z4 := free_of_one hI.bx.h4
  have z5 := free_of_one hI.bx.h5
  have HI := hide hI
  have HW := hide hw
  have HE := hide he
  rw [hw] at k5
  rw [he] at k4
  obtain ⟨b, off, rfl, hlt, hc⟩ := hO p hp
  have HO := hide hO
  have I5 := hide (hI.bx.set5 false)
  have S5 := hide (ownsRow_setCell_below hI.os (a := ⟨B + 5, 0, none⟩) (by show B + 5 < B + 6; omega) (.bool false))
  have O5 := hide (ownsRow_setCell_below hI.oo (a := ⟨B + 5, 0, none⟩) (by show B + 5 < B + 6; omega) (.bool false))
  have hbsz := hI.bx.size
  clear hI hw he hO
  rw [h] at hc
  have HF := hide h
  have HN := hide ho
  have hol : s.op.length = r.length + 1 := by rw [ho]; rfl
  have HK := hide hk
  obtain ⟨m, hb, hm⟩ := hbeg
  obtain ⟨g0, rfl, _, hg0, hco⟩ := own_some O5.out (by omega)
  obtain ⟨g1, rfl, _, hg1, hcs⟩ := own_some S5.out (by omega)
  have hq : (ints s.op.reverse)[r.length]? = some (.int .i64 k) := by rw [ho]; simp [ints]
  have q1 := (HI.out.oo.cellAt r.length (by omega)).trans hq
  have q2 := (HI.out.os.cellAt (k * 3) (by omega)).trans (flat_at s.sp k hk).1
  have q3 := (HI.out.os.cellAt (k * 3 + 1) (by omega)).trans (flat_at s.sp k hk).2.1
  have q4 := (HI.out.os.cellAt (k * 3 + 2) (by omega)).trans (flat_at s.sp k hk).2.2
  have y3 := HI.out.os.frozenAt (k * 3 + 1)
  have y4 := HI.out.os.frozenAt (k * 3 + 2)
  clear h ho hq
  rw [hol] at k2
  have P1 := hide (HO.out.below ((Below.refl B w).setCell (p := ⟨B + 5, 0, none⟩) (by show B ≤ B + 5; omega) (.bool false)) (Nat.le_refl _))
  have P2 := hide (HO.out.below ((Below.refl B w).setCell (p := ⟨B + 5, 0, none⟩) (by show B ≤ B + 5; omega) (.bool false)).drew (Nat.le_refl _))
  have HM := hide hm
  have HB := hide hb
  have HL := hide hl
  have HT := hide hol
  have hrc : r.length ≤ co := by omega
  have L5 := hide ((Fr.refl B (.slice (some ⟨g1, 0, none⟩) s.sp.length cs1) (.slice (some ⟨g0, 0, none⟩) s.op.length co) w).box (a := ⟨B + 5, 0, none⟩) (by show B ≤ B + 5; omega) (by show B + 5 < B + 6; omega) (.bool false))
  have hrl : r.length ≤ 1000 := by omega
  have hdl : decide ((r.length : Int) < 0) = false := decide_eq_false (by omega)
  clear hb hm hl hol
  go_enter Tryz.func79, Tryz.ntmps79
  go_upto_region 14 with fail
  go_cut [] from 47 to 60 (fun wc => Hid (Bx B (.slice (some ⟨b, off, none⟩) n cl) (.slice (some ⟨g1, 0, none⟩) s.sp.length cs1) (.slice (some ⟨g0, 0, none⟩) (r.length + 1) co) s.deep s.ended (!lr) wc) ∧ Hid (OS B wc (.slice (some ⟨g1, 0, none⟩) s.sp.length cs1) s.sp) ∧ Hid (OO B wc (.slice (some ⟨g0, 0, none⟩) s.op.length co) s.op) ∧ Hid (Fr B (.slice (some ⟨g1, 0, none⟩) s.sp.length cs1) (.slice (some ⟨g0, 0, none⟩) s.op.length co) (.slice (some ⟨g1, 0, none⟩) s.sp.length cs1) (.slice (some ⟨g0, 0, none⟩) s.op.length co) w wc))
  case first =>
    go_region_with (refine (lacks_is (some ⟨b, off, none⟩) n cl B f (spAt s.sp k) lr m HL.out HB.out HM.out _ (by exact P2.out) (by simp; omega)).mono ?_; rintro e wx ⟨rfl, hbl⟩; have X6 := hide (I5.out.drew.below hbl (by simp; omega)); have c5 := cell_of_one X6.out.h5; have e5 := free_of_one X6.out.h5; have B6 := hide hbl)
    all_goals
      go_wp2_with fail
      go_meet
      case rel => exact cut_fin I5.out (by rw [HT.out]) S5.out O5.out L5.out B6.out _
  case rest =>
    obtain ⟨XC, SC, OC, LC⟩ := hcut
    clear k0 k1 k2 k3 k4 k5 z1 z2 z3 z4 z5 q1 q2 q3 q4 y3 y4 hc I5 S5 O5 L5 P1 P2
    have k1 := cell_of_one XC.out.h1
    have k2 := cell_of_one XC.out.h2
    have k5 := cell_of_one XC.out.h5
    have hq : (ints s.op.reverse)[r.length]? = some (.int .i64 k) := by rw [HN.out]; simp [ints]
    have hOC : wc.ownsRow (B + 6) 3 1 (.slice (some ⟨g0, 0, none⟩) s.op.length co) s.op.length (ints s.op.reverse) := OC.out
    have q1 := (hOC.cellAt r.length (by have := HT.out; omega)).trans hq
    have q3 := (SC.out.cellAt (k * 3 + 1) (by omega)).trans (flat_at s.sp k hk).2.1
    have y3 := SC.out.frozenAt (k * 3 + 1)
    clear hq hOC
    cases lr
    · go_wp2_with fail
      go_ret
      refine ⟨_, _, _, rfl, ?_, .slice (some ⟨g1, 0, none⟩) s.sp.length cs1, .slice (some ⟨g0, 0, none⟩) s.op.length co, ?_, LC.out⟩
      · rw [arL_elseN HW.out HE.out HF.out HN.out HL.out]; exact Rd.none _
      · rw [stp_elseN HW.out HE.out HF.out HN.out HL.out]
        exact ⟨by have := XC.out; rw [← HT.out] at this; exact this, SC.out, OC.out⟩
    · go_wp2_with fail
      go_region
      all_goals
        go_wp2_with fail
        go_ret
        have I7 : Inv B (some ⟨b, off, none⟩) n cl s (.slice (some ⟨g1, 0, none⟩) s.sp.length cs1) (.slice (some ⟨g0, 0, none⟩) s.op.length co) wc := ⟨by have := XC.out; rw [← HT.out] at this; rw [HW.out]; exact this, SC.out, OC.out⟩
        have I8 := (I7.put hg1 (k * 3 + 1) p (s.sp.set k { spAt s.sp k with e := p }) (flat_set1 _ _ _ hk) (by simp)).drew
        refine ⟨_, _, _, rfl, ?_, _, _, by rw [stp_elseY HW.out HE.out HF.out HN.out HL.out]; exact I8, (LC.out.rowS (j := k * 3 + 1) rfl (by omega) (.int .i64 p)).drew⟩
        rw [arL_elseY HW.out HE.out HF.out HN.out HL.out]
        exact rd_row I8.oo (by rw [HT.out]; omega) (by show (ints s.op.reverse).take r.length = _; rw [HN.out, ints_add, List.take_left' (by simp [ints])])
end
end Go.Proofs.YtamofhkmhjckaabGreatDoor.Nest

/-
  The walk's instr, by its first byte: branches, calls, locals, globals, memories.
-/
import Derived.Test.YtamofhkmhjckaabGreatDoorWalk12
import Derived.Test.YtamofhkmhjckaabGreatDoorWalk13
import Derived.Test.YtamofhkmhjckaabGreatDoorChkS
import Derived.Test.YtamofhkmhjckaabGreatDoorIns3
import Derived.WalkHide
namespace Go.Proofs.YtamofhkmhjckaabGreatDoor
open Go.RowKit
section
variable {K : Kx} {at_ : Int} {s : Wk} {vs vf : Value} {fv : List (Fm × Value)} {w : World}
set_option maxRecDepth 100000 in
set_option maxHeartbeats 2000000 in
theorem ins_12 (hK : KOk K) (h : WJ K at_ s vs vf fv w) (hw : WF s) (hn : s.fr.length ≤ 1000) (hne : s.fr ≠ []) (xn xm : Int) (hxn : 0 ≤ xn) :
    Calls Tryz.prog 41 #[.pointer (some ⟨K.B, 0, none⟩), .agg #[.int .i64 12, .int .i64 xn, .int .i64 xm]] w (Ends K at_ vs vf w (insW K.C ⟨12, xn, xm⟩ s)) := by
  have HK := hide hK
  have HJ0 := hide (h.alloc hK (.cells #[.int .i64 12, .int .i64 xn, .int .i64 xm] 44))
  have HF0 := hide ((Fr.refl K vs vf w).alloc (h.size hK) (.cells #[.int .i64 12, .int .i64 xn, .int .i64 xm] 44))
  have HR0 := hide (Row.made w #[.int .i64 12, .int .i64 xn, .int .i64 xm] 44)
  have hsz := h.lt
  have HS0 := hide h
  have HW0 := hide hw
  have HN0 := hide hn
  have HX0 := hide hne
  clear hK h hw hn hne
  go_enter Tryz.func41, Tryz.ntmps41
  refine wp_seq_k fun K0 hK0 => ?_
  have HK0 := hide hK0
  clear hK0
  go_wp2
  refine HK0.out _ _ ?_
  clear HK0
  refine wp_seq_k fun K0 hK0 => ?_
  have HK0 := hide hK0
  clear hK0
  go_wp2
  refine HK0.out _ _ ?_
  clear HK0
  refine wp_block ?_
  refine wp_seq_k fun KB17 hKB => ?_
  have HB17 := hide hKB
  clear hKB
  refine wp_block ?_
  refine wp_seq_k fun KB16 hKB => ?_
  have HB16 := hide hKB
  clear hKB
  refine wp_block ?_
  refine wp_seq_k fun KB15 hKB => ?_
  have HB15 := hide hKB
  clear hKB
  refine wp_block ?_
  refine wp_seq_k fun KB14 hKB => ?_
  have HB14 := hide hKB
  clear hKB
  refine wp_block ?_
  refine wp_seq_k fun KB13 hKB => ?_
  have HB13 := hide hKB
  clear hKB
  refine wp_block ?_
  refine wp_seq_k fun KB12 hKB => ?_
  have HB12 := hide hKB
  clear hKB
  refine wp_block ?_
  refine wp_seq_k fun KB11 hKB => ?_
  have HB11 := hide hKB
  clear hKB
  refine wp_block ?_
  refine wp_seq_k fun KB10 hKB => ?_
  have HB10 := hide hKB
  clear hKB
  refine wp_block ?_
  refine wp_seq_k fun KB9 hKB => ?_
  have HB9 := hide hKB
  clear hKB
  refine wp_block ?_
  refine wp_seq_k fun KB8 hKB => ?_
  have HB8 := hide hKB
  clear hKB
  refine wp_block ?_
  refine wp_seq_k fun KB7 hKB => ?_
  have HB7 := hide hKB
  clear hKB
  refine wp_block ?_
  refine wp_seq_k fun KB6 hKB => ?_
  have HB6 := hide hKB
  clear hKB
  refine wp_block ?_
  refine wp_seq_k fun KB5 hKB => ?_
  have HB5 := hide hKB
  clear hKB
  refine wp_block ?_
  refine wp_seq_k fun KB4 hKB => ?_
  have HB4 := hide hKB
  clear hKB
  refine wp_block ?_
  refine wp_seq_k fun KB3 hKB => ?_
  have HB3 := hide hKB
  clear hKB
  refine wp_block ?_
  refine wp_seq_k fun KB2 hKB => ?_
  have HB2 := hide hKB
  clear hKB
  refine wp_block ?_
  refine wp_seq_k fun KB1 hKB => ?_
  have HB1 := hide hKB
  clear hKB
  refine wp_block ?_
  refine wp_hide (fun Q' hQ' => ?_)
  have HQ := hide hQ'
  clear hQ'
  go_wp2
  refine HQ.out _ _ _ ?_
  refine inb_pass (by decide) (then_exit ?_)
  refine inb_pass (by decide) (then_exit ?_)
  refine inb_pass (by decide) (then_exit ?_)
  refine inb_pass (by decide) (then_exit ?_)
  refine inb_pass (by decide) (then_exit ?_)
  refine inb_pass (by decide) (then_exit ?_)
  refine inb_hit (then_norm ?_)
  refine HB7.out _ _ ?_
  refine wp_hide (fun Q2 hQ2 => ?_)
  have HQ2 := hide hQ2
  clear hQ2 HQ
  go_wp2_with fail
  refine (branch_12 HK.out HJ0.out HW0.out HN0.out HX0.out xn xm hxn).mono ?_
  intro e wz he
  cases hz : brW xn s with
  | error c =>
    rw [hz] at he
    obtain ⟨p, rfl, hx⟩ := he
    go_wp2_with fail
    refine HQ2.out _ _ _ ?_
    refine inb_panic (then_panic ?_)
    refine inb_panic (then_panic ?_)
    refine inb_panic (then_panic ?_)
    refine inb_panic (then_panic ?_)
    refine inb_panic (then_panic ?_)
    refine inb_panic (then_panic ?_)
    refine inb_panic (then_panic ?_)
    refine inb_panic (then_panic ?_)
    refine inb_panic (then_panic ?_)
    refine inb_panic (then_panic ?_)
    refine inb_panic ?_
    rw [show (insW K.C ⟨12, xn, xm⟩ s) = .error c by simp [insW, hz]]
    exact ⟨rfl, p, rfl, hx⟩
  | ok sz =>
    rw [hz] at he
    obtain ⟨rfl, vsz, vfz, fvz, Jz, Fz⟩ := he
    have HJz := hide Jz
    have HFz := hide Fz
    clear Jz Fz
    go_wp2_with fail
    refine HQ2.out _ _ _ ?_
    refine inb_pass (by decide) (then_exit ?_)
    refine inb_pass (by decide) (then_exit ?_)
    refine inb_pass (by decide) (then_exit ?_)
    refine inb_pass (by decide) (then_exit ?_)
    refine inb_pass (by decide) (then_exit ?_)
    refine inb_pass (by decide) (then_exit ?_)
    refine inb_pass (by decide) (then_exit ?_)
    refine inb_pass (by decide) (then_exit ?_)
    refine inb_pass (by decide) (then_exit ?_)
    refine inb_pass (by decide) (then_exit ?_)
    refine inb_hit ?_
    go_end0
    rw [show (insW K.C ⟨12, xn, xm⟩ s) = .ok sz by simp [insW, hz]]
    exact ⟨rfl, vsz, vfz, fvz, HJz.out, HF0.out.trans HFz.out⟩
set_option maxRecDepth 100000 in
set_option maxHeartbeats 2000000 in
theorem ins_13 (hK : KOk K) (h : WJ K at_ s vs vf fv w) (hw : WF s) (hn : s.fr.length ≤ 1000) (hne : s.fr ≠ []) (xn xm : Int) (hxn : 0 ≤ xn) :
    Calls Tryz.prog 41 #[.pointer (some ⟨K.B, 0, none⟩), .agg #[.int .i64 13, .int .i64 xn, .int .i64 xm]] w (Ends K at_ vs vf w (insW K.C ⟨13, xn, xm⟩ s)) := by
  have HK := hide hK
  have HJ0 := hide (h.alloc hK (.cells #[.int .i64 13, .int .i64 xn, .int .i64 xm] 44))
  have HF0 := hide ((Fr.refl K vs vf w).alloc (h.size hK) (.cells #[.int .i64 13, .int .i64 xn, .int .i64 xm] 44))
  have HR0 := hide (Row.made w #[.int .i64 13, .int .i64 xn, .int .i64 xm] 44)
  have hsz := h.lt
  have HS0 := hide h
  have HW0 := hide hw
  have HN0 := hide hn
  have HX0 := hide hne
  clear hK h hw hn hne
  go_enter Tryz.func41, Tryz.ntmps41
  refine wp_seq_k fun K0 hK0 => ?_
  have HK0 := hide hK0
  clear hK0
  go_wp2
  refine HK0.out _ _ ?_
  clear HK0
  refine wp_seq_k fun K0 hK0 => ?_
  have HK0 := hide hK0
  clear hK0
  go_wp2
  refine HK0.out _ _ ?_
  clear HK0
  refine wp_block ?_
  refine wp_seq_k fun KB17 hKB => ?_
  have HB17 := hide hKB
  clear hKB
  refine wp_block ?_
  refine wp_seq_k fun KB16 hKB => ?_
  have HB16 := hide hKB
  clear hKB
  refine wp_block ?_
  refine wp_seq_k fun KB15 hKB => ?_
  have HB15 := hide hKB
  clear hKB
  refine wp_block ?_
  refine wp_seq_k fun KB14 hKB => ?_
  have HB14 := hide hKB
  clear hKB
  refine wp_block ?_
  refine wp_seq_k fun KB13 hKB => ?_
  have HB13 := hide hKB
  clear hKB
  refine wp_block ?_
  refine wp_seq_k fun KB12 hKB => ?_
  have HB12 := hide hKB
  clear hKB
  refine wp_block ?_
  refine wp_seq_k fun KB11 hKB => ?_
  have HB11 := hide hKB
  clear hKB
  refine wp_block ?_
  refine wp_seq_k fun KB10 hKB => ?_
  have HB10 := hide hKB
  clear hKB
  refine wp_block ?_
  refine wp_seq_k fun KB9 hKB => ?_
  have HB9 := hide hKB
  clear hKB
  refine wp_block ?_
  refine wp_seq_k fun KB8 hKB => ?_
  have HB8 := hide hKB
  clear hKB
  refine wp_block ?_
  refine wp_seq_k fun KB7 hKB => ?_
  have HB7 := hide hKB
  clear hKB
  refine wp_block ?_
  refine wp_seq_k fun KB6 hKB => ?_
  have HB6 := hide hKB
  clear hKB
  refine wp_block ?_
  refine wp_seq_k fun KB5 hKB => ?_
  have HB5 := hide hKB
  clear hKB
  refine wp_block ?_
  refine wp_seq_k fun KB4 hKB => ?_
  have HB4 := hide hKB
  clear hKB
  refine wp_block ?_
  refine wp_seq_k fun KB3 hKB => ?_
  have HB3 := hide hKB
  clear hKB
  refine wp_block ?_
  refine wp_seq_k fun KB2 hKB => ?_
  have HB2 := hide hKB
  clear hKB
  refine wp_block ?_
  refine wp_seq_k fun KB1 hKB => ?_
  have HB1 := hide hKB
  clear hKB
  refine wp_block ?_
  refine wp_hide (fun Q' hQ' => ?_)
  have HQ := hide hQ'
  clear hQ'
  go_wp2
  refine HQ.out _ _ _ ?_
  refine inb_pass (by decide) (then_exit ?_)
  refine inb_pass (by decide) (then_exit ?_)
  refine inb_pass (by decide) (then_exit ?_)
  refine inb_pass (by decide) (then_exit ?_)
  refine inb_pass (by decide) (then_exit ?_)
  refine inb_pass (by decide) (then_exit ?_)
  refine inb_hit (then_norm ?_)
  refine HB7.out _ _ ?_
  refine wp_hide (fun Q2 hQ2 => ?_)
  have HQ2 := hide hQ2
  clear hQ2 HQ
  go_wp2_with fail
  refine (branch_13 HK.out HJ0.out HW0.out HN0.out HX0.out xn xm hxn).mono ?_
  intro e wz he
  cases hz : brIfW xn s with
  | error c =>
    rw [hz] at he
    obtain ⟨p, rfl, hx⟩ := he
    go_wp2_with fail
    refine HQ2.out _ _ _ ?_
    refine inb_panic (then_panic ?_)
    refine inb_panic (then_panic ?_)
    refine inb_panic (then_panic ?_)
    refine inb_panic (then_panic ?_)
    refine inb_panic (then_panic ?_)
    refine inb_panic (then_panic ?_)
    refine inb_panic (then_panic ?_)
    refine inb_panic (then_panic ?_)
    refine inb_panic (then_panic ?_)
    refine inb_panic (then_panic ?_)
    refine inb_panic ?_
    rw [show (insW K.C ⟨13, xn, xm⟩ s) = .error c by simp [insW, hz]]
    exact ⟨rfl, p, rfl, hx⟩
  | ok sz =>
    rw [hz] at he
    obtain ⟨rfl, vsz, vfz, fvz, Jz, Fz⟩ := he
    have HJz := hide Jz
    have HFz := hide Fz
    clear Jz Fz
    go_wp2_with fail
    refine HQ2.out _ _ _ ?_
    refine inb_pass (by decide) (then_exit ?_)
    refine inb_pass (by decide) (then_exit ?_)
    refine inb_pass (by decide) (then_exit ?_)
    refine inb_pass (by decide) (then_exit ?_)
    refine inb_pass (by decide) (then_exit ?_)
    refine inb_pass (by decide) (then_exit ?_)
    refine inb_pass (by decide) (then_exit ?_)
    refine inb_pass (by decide) (then_exit ?_)
    refine inb_pass (by decide) (then_exit ?_)
    refine inb_pass (by decide) (then_exit ?_)
    refine inb_hit ?_
    go_end0
    rw [show (insW K.C ⟨13, xn, xm⟩ s) = .ok sz by simp [insW, hz]]
    exact ⟨rfl, vsz, vfz, fvz, HJz.out, HF0.out.trans HFz.out⟩
set_option maxRecDepth 100000 in
set_option maxHeartbeats 2000000 in
theorem ins_15 (hK : KOk K) (h : WJ K at_ s vs vf fv w) (hw : WF s) (hn : s.fr.length ≤ 1000) (hne : s.fr ≠ []) (xn xm : Int) :
    Calls Tryz.prog 41 #[.pointer (some ⟨K.B, 0, none⟩), .agg #[.int .i64 15, .int .i64 xn, .int .i64 xm]] w (Ends K at_ vs vf w (insW K.C ⟨15, xn, xm⟩ s)) := by
  have HK := hide hK
  have HJ0 := hide (h.alloc hK (.cells #[.int .i64 15, .int .i64 xn, .int .i64 xm] 44))
  have HF0 := hide ((Fr.refl K vs vf w).alloc (h.size hK) (.cells #[.int .i64 15, .int .i64 xn, .int .i64 xm] 44))
  have HR0 := hide (Row.made w #[.int .i64 15, .int .i64 xn, .int .i64 xm] 44)
  have hsz := h.lt
  have HS0 := hide h
  have HW0 := hide hw
  have HN0 := hide hn
  have HX0 := hide hne
  clear hK h hw hn hne
  go_enter Tryz.func41, Tryz.ntmps41
  refine wp_seq_k fun K0 hK0 => ?_
  have HK0 := hide hK0
  clear hK0
  go_wp2
  refine HK0.out _ _ ?_
  clear HK0
  refine wp_seq_k fun K0 hK0 => ?_
  have HK0 := hide hK0
  clear hK0
  go_wp2
  refine HK0.out _ _ ?_
  clear HK0
  refine wp_block ?_
  refine wp_seq_k fun KB17 hKB => ?_
  have HB17 := hide hKB
  clear hKB
  refine wp_block ?_
  refine wp_seq_k fun KB16 hKB => ?_
  have HB16 := hide hKB
  clear hKB
  refine wp_block ?_
  refine wp_seq_k fun KB15 hKB => ?_
  have HB15 := hide hKB
  clear hKB
  refine wp_block ?_
  refine wp_seq_k fun KB14 hKB => ?_
  have HB14 := hide hKB
  clear hKB
  refine wp_block ?_
  refine wp_seq_k fun KB13 hKB => ?_
  have HB13 := hide hKB
  clear hKB
  refine wp_block ?_
  refine wp_seq_k fun KB12 hKB => ?_
  have HB12 := hide hKB
  clear hKB
  refine wp_block ?_
  refine wp_seq_k fun KB11 hKB => ?_
  have HB11 := hide hKB
  clear hKB
  refine wp_block ?_
  refine wp_seq_k fun KB10 hKB => ?_
  have HB10 := hide hKB
  clear hKB
  refine wp_block ?_
  refine wp_seq_k fun KB9 hKB => ?_
  have HB9 := hide hKB
  clear hKB
  refine wp_block ?_
  refine wp_seq_k fun KB8 hKB => ?_
  have HB8 := hide hKB
  clear hKB
  refine wp_block ?_
  refine wp_seq_k fun KB7 hKB => ?_
  have HB7 := hide hKB
  clear hKB
  refine wp_block ?_
  refine wp_seq_k fun KB6 hKB => ?_
  have HB6 := hide hKB
  clear hKB
  refine wp_block ?_
  refine wp_seq_k fun KB5 hKB => ?_
  have HB5 := hide hKB
  clear hKB
  refine wp_block ?_
  refine wp_seq_k fun KB4 hKB => ?_
  have HB4 := hide hKB
  clear hKB
  refine wp_block ?_
  refine wp_seq_k fun KB3 hKB => ?_
  have HB3 := hide hKB
  clear hKB
  refine wp_block ?_
  refine wp_seq_k fun KB2 hKB => ?_
  have HB2 := hide hKB
  clear hKB
  refine wp_block ?_
  refine wp_seq_k fun KB1 hKB => ?_
  have HB1 := hide hKB
  clear hKB
  refine wp_block ?_
  refine wp_hide (fun Q' hQ' => ?_)
  have HQ := hide hQ'
  clear hQ'
  go_wp2
  refine HQ.out _ _ _ ?_
  refine inb_pass (by decide) (then_exit ?_)
  refine inb_pass (by decide) (then_exit ?_)
  refine inb_pass (by decide) (then_exit ?_)
  refine inb_pass (by decide) (then_exit ?_)
  refine inb_pass (by decide) (then_exit ?_)
  refine inb_pass (by decide) (then_exit ?_)
  refine inb_hit (then_norm ?_)
  refine HB7.out _ _ ?_
  refine wp_hide (fun Q2 hQ2 => ?_)
  have HQ2 := hide hQ2
  clear hQ2 HQ
  go_wp2_with fail
  refine (branch_15 HK.out HJ0.out HW0.out HN0.out HX0.out xn xm).mono ?_
  intro e wz he
  cases hz : retW s with
  | error c =>
    rw [hz] at he
    obtain ⟨p, rfl, hx⟩ := he
    go_wp2_with fail
    refine HQ2.out _ _ _ ?_
    refine inb_panic (then_panic ?_)
    refine inb_panic (then_panic ?_)
    refine inb_panic (then_panic ?_)
    refine inb_panic (then_panic ?_)
    refine inb_panic (then_panic ?_)
    refine inb_panic (then_panic ?_)
    refine inb_panic (then_panic ?_)
    refine inb_panic (then_panic ?_)
    refine inb_panic (then_panic ?_)
    refine inb_panic (then_panic ?_)
    refine inb_panic ?_
    rw [show (insW K.C ⟨15, xn, xm⟩ s) = .error c by simp [insW, hz]]
    exact ⟨rfl, p, rfl, hx⟩
  | ok sz =>
    rw [hz] at he
    obtain ⟨rfl, vsz, vfz, fvz, Jz, Fz⟩ := he
    have HJz := hide Jz
    have HFz := hide Fz
    clear Jz Fz
    go_wp2_with fail
    refine HQ2.out _ _ _ ?_
    refine inb_pass (by decide) (then_exit ?_)
    refine inb_pass (by decide) (then_exit ?_)
    refine inb_pass (by decide) (then_exit ?_)
    refine inb_pass (by decide) (then_exit ?_)
    refine inb_pass (by decide) (then_exit ?_)
    refine inb_pass (by decide) (then_exit ?_)
    refine inb_pass (by decide) (then_exit ?_)
    refine inb_pass (by decide) (then_exit ?_)
    refine inb_pass (by decide) (then_exit ?_)
    refine inb_pass (by decide) (then_exit ?_)
    refine inb_hit ?_
    go_end0
    rw [show (insW K.C ⟨15, xn, xm⟩ s) = .ok sz by simp [insW, hz]]
    exact ⟨rfl, vsz, vfz, fvz, HJz.out, HF0.out.trans HFz.out⟩
set_option maxRecDepth 100000 in
set_option maxHeartbeats 2000000 in
theorem ins_16 (hK : KOk K) (h : WJ K at_ s vs vf fv w) (hw : WF s) (hn : s.fr.length ≤ 1000) (hne : s.fr ≠ []) (xn xm : Int) (hSm : Small K.C.M) (hx64 : I64 xn) :
    Calls Tryz.prog 41 #[.pointer (some ⟨K.B, 0, none⟩), .agg #[.int .i64 16, .int .i64 xn, .int .i64 xm]] w (Ends K at_ vs vf w (insW K.C ⟨16, xn, xm⟩ s)) := by
  have HK := hide hK
  have HJ0 := hide (h.alloc hK (.cells #[.int .i64 16, .int .i64 xn, .int .i64 xm] 44))
  have HF0 := hide ((Fr.refl K vs vf w).alloc (h.size hK) (.cells #[.int .i64 16, .int .i64 xn, .int .i64 xm] 44))
  have HR0 := hide (Row.made w #[.int .i64 16, .int .i64 xn, .int .i64 xm] 44)
  have hsz := h.lt
  have HS0 := hide h
  have HW0 := hide hw
  have HN0 := hide hn
  have HX0 := hide hne
  clear hK h hw hn hne
  go_enter Tryz.func41, Tryz.ntmps41
  refine wp_seq_k fun K0 hK0 => ?_
  have HK0 := hide hK0
  clear hK0
  go_wp2
  refine HK0.out _ _ ?_
  clear HK0
  refine wp_seq_k fun K0 hK0 => ?_
  have HK0 := hide hK0
  clear hK0
  go_wp2
  refine HK0.out _ _ ?_
  clear HK0
  refine wp_block ?_
  refine wp_seq_k fun KB17 hKB => ?_
  have HB17 := hide hKB
  clear hKB
  refine wp_block ?_
  refine wp_seq_k fun KB16 hKB => ?_
  have HB16 := hide hKB
  clear hKB
  refine wp_block ?_
  refine wp_seq_k fun KB15 hKB => ?_
  have HB15 := hide hKB
  clear hKB
  refine wp_block ?_
  refine wp_seq_k fun KB14 hKB => ?_
  have HB14 := hide hKB
  clear hKB
  refine wp_block ?_
  refine wp_seq_k fun KB13 hKB => ?_
  have HB13 := hide hKB
  clear hKB
  refine wp_block ?_
  refine wp_seq_k fun KB12 hKB => ?_
  have HB12 := hide hKB
  clear hKB
  refine wp_block ?_
  refine wp_seq_k fun KB11 hKB => ?_
  have HB11 := hide hKB
  clear hKB
  refine wp_block ?_
  refine wp_seq_k fun KB10 hKB => ?_
  have HB10 := hide hKB
  clear hKB
  refine wp_block ?_
  refine wp_seq_k fun KB9 hKB => ?_
  have HB9 := hide hKB
  clear hKB
  refine wp_block ?_
  refine wp_seq_k fun KB8 hKB => ?_
  have HB8 := hide hKB
  clear hKB
  refine wp_block ?_
  refine wp_seq_k fun KB7 hKB => ?_
  have HB7 := hide hKB
  clear hKB
  refine wp_block ?_
  refine wp_seq_k fun KB6 hKB => ?_
  have HB6 := hide hKB
  clear hKB
  refine wp_block ?_
  refine wp_seq_k fun KB5 hKB => ?_
  have HB5 := hide hKB
  clear hKB
  refine wp_block ?_
  refine wp_seq_k fun KB4 hKB => ?_
  have HB4 := hide hKB
  clear hKB
  refine wp_block ?_
  refine wp_seq_k fun KB3 hKB => ?_
  have HB3 := hide hKB
  clear hKB
  refine wp_block ?_
  refine wp_seq_k fun KB2 hKB => ?_
  have HB2 := hide hKB
  clear hKB
  refine wp_block ?_
  refine wp_seq_k fun KB1 hKB => ?_
  have HB1 := hide hKB
  clear hKB
  refine wp_block ?_
  refine wp_hide (fun Q' hQ' => ?_)
  have HQ := hide hQ'
  clear hQ'
  go_wp2
  refine HQ.out _ _ _ ?_
  refine inb_pass (by decide) (then_exit ?_)
  refine inb_pass (by decide) (then_exit ?_)
  refine inb_pass (by decide) (then_exit ?_)
  refine inb_pass (by decide) (then_exit ?_)
  refine inb_pass (by decide) (then_exit ?_)
  refine inb_pass (by decide) (then_exit ?_)
  refine inb_pass (by decide) (then_exit ?_)
  refine inb_hit (then_norm ?_)
  refine HB8.out _ _ ?_
  refine wp_hide (fun Q2 hQ2 => ?_)
  have HQ2 := hide hQ2
  clear hQ2 HQ
  go_wp2_with fail
  refine (call_any HK.out HJ0.out HW0.out HN0.out HX0.out hSm xn hx64).mono ?_
  intro e wz he
  cases hz : callW K.C xn s with
  | error c =>
    rw [hz] at he
    obtain ⟨p, rfl, hx⟩ := he
    go_wp2_with fail
    refine HQ2.out _ _ _ ?_
    refine inb_panic (then_panic ?_)
    refine inb_panic (then_panic ?_)
    refine inb_panic (then_panic ?_)
    refine inb_panic (then_panic ?_)
    refine inb_panic (then_panic ?_)
    refine inb_panic (then_panic ?_)
    refine inb_panic (then_panic ?_)
    refine inb_panic (then_panic ?_)
    refine inb_panic (then_panic ?_)
    refine inb_panic ?_
    rw [show (insW K.C ⟨16, xn, xm⟩ s) = .error c by simp [insW, hz]]
    exact ⟨rfl, p, rfl, hx⟩
  | ok sz =>
    rw [hz] at he
    obtain ⟨rfl, vsz, vfz, fvz, Jz, Fz⟩ := he
    have HJz := hide Jz
    have HFz := hide Fz
    clear Jz Fz
    go_wp2_with fail
    refine HQ2.out _ _ _ ?_
    refine inb_pass (by decide) (then_exit ?_)
    refine inb_pass (by decide) (then_exit ?_)
    refine inb_pass (by decide) (then_exit ?_)
    refine inb_pass (by decide) (then_exit ?_)
    refine inb_pass (by decide) (then_exit ?_)
    refine inb_pass (by decide) (then_exit ?_)
    refine inb_pass (by decide) (then_exit ?_)
    refine inb_pass (by decide) (then_exit ?_)
    refine inb_pass (by decide) (then_exit ?_)
    refine inb_hit ?_
    go_end0
    rw [show (insW K.C ⟨16, xn, xm⟩ s) = .ok sz by simp [insW, hz]]
    exact ⟨rfl, vsz, vfz, fvz, HJz.out, HF0.out.trans HFz.out⟩
set_option maxRecDepth 100000 in
set_option maxHeartbeats 2000000 in
theorem ins_32 (hK : KOk K) (h : WJ K at_ s vs vf fv w) (hw : WF s) (hn : s.fr.length ≤ 1000) (hne : s.fr ≠ []) (xn xm : Int) (hxn : 0 ≤ xn) :
    Calls Tryz.prog 41 #[.pointer (some ⟨K.B, 0, none⟩), .agg #[.int .i64 32, .int .i64 xn, .int .i64 xm]] w (Ends K at_ vs vf w (insW K.C ⟨32, xn, xm⟩ s)) := by
  have HK := hide hK
  have HJ0 := hide (h.alloc hK (.cells #[.int .i64 32, .int .i64 xn, .int .i64 xm] 44))
  have HF0 := hide ((Fr.refl K vs vf w).alloc (h.size hK) (.cells #[.int .i64 32, .int .i64 xn, .int .i64 xm] 44))
  have HR0 := hide (Row.made w #[.int .i64 32, .int .i64 xn, .int .i64 xm] 44)
  have hsz := h.lt
  have HS0 := hide h
  have HW0 := hide hw
  have HN0 := hide hn
  have HX0 := hide hne
  clear hK h hw hn hne
  go_enter Tryz.func41, Tryz.ntmps41
  refine wp_seq_k fun K0 hK0 => ?_
  have HK0 := hide hK0
  clear hK0
  go_wp2
  refine HK0.out _ _ ?_
  clear HK0
  refine wp_seq_k fun K0 hK0 => ?_
  have HK0 := hide hK0
  clear hK0
  go_wp2
  refine HK0.out _ _ ?_
  clear HK0
  refine wp_block ?_
  refine wp_seq_k fun KB17 hKB => ?_
  have HB17 := hide hKB
  clear hKB
  refine wp_block ?_
  refine wp_seq_k fun KB16 hKB => ?_
  have HB16 := hide hKB
  clear hKB
  refine wp_block ?_
  refine wp_seq_k fun KB15 hKB => ?_
  have HB15 := hide hKB
  clear hKB
  refine wp_block ?_
  refine wp_seq_k fun KB14 hKB => ?_
  have HB14 := hide hKB
  clear hKB
  refine wp_block ?_
  refine wp_seq_k fun KB13 hKB => ?_
  have HB13 := hide hKB
  clear hKB
  refine wp_block ?_
  refine wp_seq_k fun KB12 hKB => ?_
  have HB12 := hide hKB
  clear hKB
  refine wp_block ?_
  refine wp_seq_k fun KB11 hKB => ?_
  have HB11 := hide hKB
  clear hKB
  refine wp_block ?_
  refine wp_seq_k fun KB10 hKB => ?_
  have HB10 := hide hKB
  clear hKB
  refine wp_block ?_
  refine wp_seq_k fun KB9 hKB => ?_
  have HB9 := hide hKB
  clear hKB
  refine wp_block ?_
  refine wp_seq_k fun KB8 hKB => ?_
  have HB8 := hide hKB
  clear hKB
  refine wp_block ?_
  refine wp_seq_k fun KB7 hKB => ?_
  have HB7 := hide hKB
  clear hKB
  refine wp_block ?_
  refine wp_seq_k fun KB6 hKB => ?_
  have HB6 := hide hKB
  clear hKB
  refine wp_block ?_
  refine wp_seq_k fun KB5 hKB => ?_
  have HB5 := hide hKB
  clear hKB
  refine wp_block ?_
  refine wp_seq_k fun KB4 hKB => ?_
  have HB4 := hide hKB
  clear hKB
  refine wp_block ?_
  refine wp_seq_k fun KB3 hKB => ?_
  have HB3 := hide hKB
  clear hKB
  refine wp_block ?_
  refine wp_seq_k fun KB2 hKB => ?_
  have HB2 := hide hKB
  clear hKB
  refine wp_block ?_
  refine wp_seq_k fun KB1 hKB => ?_
  have HB1 := hide hKB
  clear hKB
  refine wp_block ?_
  refine wp_hide (fun Q' hQ' => ?_)
  have HQ := hide hQ'
  clear hQ'
  go_wp2
  refine HQ.out _ _ _ ?_
  refine inb_pass (by decide) (then_exit ?_)
  refine inb_pass (by decide) (then_exit ?_)
  refine inb_pass (by decide) (then_exit ?_)
  refine inb_pass (by decide) (then_exit ?_)
  refine inb_pass (by decide) (then_exit ?_)
  refine inb_pass (by decide) (then_exit ?_)
  refine inb_pass (by decide) (then_exit ?_)
  refine inb_pass (by decide) (then_exit ?_)
  refine inb_pass (by decide) (then_exit ?_)
  refine inb_pass (by decide) (then_exit ?_)
  refine inb_hit (then_norm ?_)
  refine HB11.out _ _ ?_
  refine wp_hide (fun Q2 hQ2 => ?_)
  have HQ2 := hide hQ2
  clear hQ2 HQ
  go_wp2_with fail
  refine (cell_32 HK.out HJ0.out HW0.out HN0.out HX0.out xn xm hxn).mono ?_
  intro e wz he
  cases hz : bnd (locW K.C xn) fun t => pushL [t] s with
  | error c =>
    rw [hz] at he
    obtain ⟨p, rfl, hx⟩ := he
    go_wp2_with fail
    refine HQ2.out _ _ _ ?_
    refine inb_panic (then_panic ?_)
    refine inb_panic (then_panic ?_)
    refine inb_panic (then_panic ?_)
    refine inb_panic (then_panic ?_)
    refine inb_panic (then_panic ?_)
    refine inb_panic (then_panic ?_)
    refine inb_panic ?_
    rw [show (insW K.C ⟨32, xn, xm⟩ s) = .error c by simp [insW, hz]]
    exact ⟨rfl, p, rfl, hx⟩
  | ok sz =>
    rw [hz] at he
    obtain ⟨rfl, vsz, vfz, fvz, Jz, Fz⟩ := he
    have HJz := hide Jz
    have HFz := hide Fz
    clear Jz Fz
    go_wp2_with fail
    refine HQ2.out _ _ _ ?_
    refine inb_pass (by decide) (then_exit ?_)
    refine inb_pass (by decide) (then_exit ?_)
    refine inb_pass (by decide) (then_exit ?_)
    refine inb_pass (by decide) (then_exit ?_)
    refine inb_pass (by decide) (then_exit ?_)
    refine inb_pass (by decide) (then_exit ?_)
    refine inb_hit ?_
    go_end0
    rw [show (insW K.C ⟨32, xn, xm⟩ s) = .ok sz by simp [insW, hz]]
    exact ⟨rfl, vsz, vfz, fvz, HJz.out, HF0.out.trans HFz.out⟩
set_option maxRecDepth 100000 in
set_option maxHeartbeats 2000000 in
theorem ins_33 (hK : KOk K) (h : WJ K at_ s vs vf fv w) (hw : WF s) (hn : s.fr.length ≤ 1000) (hne : s.fr ≠ []) (xn xm : Int) (hxn : 0 ≤ xn) :
    Calls Tryz.prog 41 #[.pointer (some ⟨K.B, 0, none⟩), .agg #[.int .i64 33, .int .i64 xn, .int .i64 xm]] w (Ends K at_ vs vf w (insW K.C ⟨33, xn, xm⟩ s)) := by
  have HK := hide hK
  have HJ0 := hide (h.alloc hK (.cells #[.int .i64 33, .int .i64 xn, .int .i64 xm] 44))
  have HF0 := hide ((Fr.refl K vs vf w).alloc (h.size hK) (.cells #[.int .i64 33, .int .i64 xn, .int .i64 xm] 44))
  have HR0 := hide (Row.made w #[.int .i64 33, .int .i64 xn, .int .i64 xm] 44)
  have hsz := h.lt
  have HS0 := hide h
  have HW0 := hide hw
  have HN0 := hide hn
  have HX0 := hide hne
  clear hK h hw hn hne
  go_enter Tryz.func41, Tryz.ntmps41
  refine wp_seq_k fun K0 hK0 => ?_
  have HK0 := hide hK0
  clear hK0
  go_wp2
  refine HK0.out _ _ ?_
  clear HK0
  refine wp_seq_k fun K0 hK0 => ?_
  have HK0 := hide hK0
  clear hK0
  go_wp2
  refine HK0.out _ _ ?_
  clear HK0
  refine wp_block ?_
  refine wp_seq_k fun KB17 hKB => ?_
  have HB17 := hide hKB
  clear hKB
  refine wp_block ?_
  refine wp_seq_k fun KB16 hKB => ?_
  have HB16 := hide hKB
  clear hKB
  refine wp_block ?_
  refine wp_seq_k fun KB15 hKB => ?_
  have HB15 := hide hKB
  clear hKB
  refine wp_block ?_
  refine wp_seq_k fun KB14 hKB => ?_
  have HB14 := hide hKB
  clear hKB
  refine wp_block ?_
  refine wp_seq_k fun KB13 hKB => ?_
  have HB13 := hide hKB
  clear hKB
  refine wp_block ?_
  refine wp_seq_k fun KB12 hKB => ?_
  have HB12 := hide hKB
  clear hKB
  refine wp_block ?_
  refine wp_seq_k fun KB11 hKB => ?_
  have HB11 := hide hKB
  clear hKB
  refine wp_block ?_
  refine wp_seq_k fun KB10 hKB => ?_
  have HB10 := hide hKB
  clear hKB
  refine wp_block ?_
  refine wp_seq_k fun KB9 hKB => ?_
  have HB9 := hide hKB
  clear hKB
  refine wp_block ?_
  refine wp_seq_k fun KB8 hKB => ?_
  have HB8 := hide hKB
  clear hKB
  refine wp_block ?_
  refine wp_seq_k fun KB7 hKB => ?_
  have HB7 := hide hKB
  clear hKB
  refine wp_block ?_
  refine wp_seq_k fun KB6 hKB => ?_
  have HB6 := hide hKB
  clear hKB
  refine wp_block ?_
  refine wp_seq_k fun KB5 hKB => ?_
  have HB5 := hide hKB
  clear hKB
  refine wp_block ?_
  refine wp_seq_k fun KB4 hKB => ?_
  have HB4 := hide hKB
  clear hKB
  refine wp_block ?_
  refine wp_seq_k fun KB3 hKB => ?_
  have HB3 := hide hKB
  clear hKB
  refine wp_block ?_
  refine wp_seq_k fun KB2 hKB => ?_
  have HB2 := hide hKB
  clear hKB
  refine wp_block ?_
  refine wp_seq_k fun KB1 hKB => ?_
  have HB1 := hide hKB
  clear hKB
  refine wp_block ?_
  refine wp_hide (fun Q' hQ' => ?_)
  have HQ := hide hQ'
  clear hQ'
  go_wp2
  refine HQ.out _ _ _ ?_
  refine inb_pass (by decide) (then_exit ?_)
  refine inb_pass (by decide) (then_exit ?_)
  refine inb_pass (by decide) (then_exit ?_)
  refine inb_pass (by decide) (then_exit ?_)
  refine inb_pass (by decide) (then_exit ?_)
  refine inb_pass (by decide) (then_exit ?_)
  refine inb_pass (by decide) (then_exit ?_)
  refine inb_pass (by decide) (then_exit ?_)
  refine inb_pass (by decide) (then_exit ?_)
  refine inb_pass (by decide) (then_exit ?_)
  refine inb_hit (then_norm ?_)
  refine HB11.out _ _ ?_
  refine wp_hide (fun Q2 hQ2 => ?_)
  have HQ2 := hide hQ2
  clear hQ2 HQ
  go_wp2_with fail
  refine (cell_33 HK.out HJ0.out HW0.out HN0.out HX0.out xn xm hxn).mono ?_
  intro e wz he
  cases hz : bnd (locW K.C xn) fun t => bnd (popTo [t] s) fun p => .ok p.2 with
  | error c =>
    rw [hz] at he
    obtain ⟨p, rfl, hx⟩ := he
    go_wp2_with fail
    refine HQ2.out _ _ _ ?_
    refine inb_panic (then_panic ?_)
    refine inb_panic (then_panic ?_)
    refine inb_panic (then_panic ?_)
    refine inb_panic (then_panic ?_)
    refine inb_panic (then_panic ?_)
    refine inb_panic (then_panic ?_)
    refine inb_panic ?_
    rw [show (insW K.C ⟨33, xn, xm⟩ s) = .error c by simp [insW, hz]]
    exact ⟨rfl, p, rfl, hx⟩
  | ok sz =>
    rw [hz] at he
    obtain ⟨rfl, vsz, vfz, fvz, Jz, Fz⟩ := he
    have HJz := hide Jz
    have HFz := hide Fz
    clear Jz Fz
    go_wp2_with fail
    refine HQ2.out _ _ _ ?_
    refine inb_pass (by decide) (then_exit ?_)
    refine inb_pass (by decide) (then_exit ?_)
    refine inb_pass (by decide) (then_exit ?_)
    refine inb_pass (by decide) (then_exit ?_)
    refine inb_pass (by decide) (then_exit ?_)
    refine inb_pass (by decide) (then_exit ?_)
    refine inb_hit ?_
    go_end0
    rw [show (insW K.C ⟨33, xn, xm⟩ s) = .ok sz by simp [insW, hz]]
    exact ⟨rfl, vsz, vfz, fvz, HJz.out, HF0.out.trans HFz.out⟩
set_option maxRecDepth 100000 in
set_option maxHeartbeats 2000000 in
theorem ins_34 (hK : KOk K) (h : WJ K at_ s vs vf fv w) (hw : WF s) (hn : s.fr.length ≤ 1000) (hne : s.fr ≠ []) (xn xm : Int) (hxn : 0 ≤ xn) :
    Calls Tryz.prog 41 #[.pointer (some ⟨K.B, 0, none⟩), .agg #[.int .i64 34, .int .i64 xn, .int .i64 xm]] w (Ends K at_ vs vf w (insW K.C ⟨34, xn, xm⟩ s)) := by
  have HK := hide hK
  have HJ0 := hide (h.alloc hK (.cells #[.int .i64 34, .int .i64 xn, .int .i64 xm] 44))
  have HF0 := hide ((Fr.refl K vs vf w).alloc (h.size hK) (.cells #[.int .i64 34, .int .i64 xn, .int .i64 xm] 44))
  have HR0 := hide (Row.made w #[.int .i64 34, .int .i64 xn, .int .i64 xm] 44)
  have hsz := h.lt
  have HS0 := hide h
  have HW0 := hide hw
  have HN0 := hide hn
  have HX0 := hide hne
  clear hK h hw hn hne
  go_enter Tryz.func41, Tryz.ntmps41
  refine wp_seq_k fun K0 hK0 => ?_
  have HK0 := hide hK0
  clear hK0
  go_wp2
  refine HK0.out _ _ ?_
  clear HK0
  refine wp_seq_k fun K0 hK0 => ?_
  have HK0 := hide hK0
  clear hK0
  go_wp2
  refine HK0.out _ _ ?_
  clear HK0
  refine wp_block ?_
  refine wp_seq_k fun KB17 hKB => ?_
  have HB17 := hide hKB
  clear hKB
  refine wp_block ?_
  refine wp_seq_k fun KB16 hKB => ?_
  have HB16 := hide hKB
  clear hKB
  refine wp_block ?_
  refine wp_seq_k fun KB15 hKB => ?_
  have HB15 := hide hKB
  clear hKB
  refine wp_block ?_
  refine wp_seq_k fun KB14 hKB => ?_
  have HB14 := hide hKB
  clear hKB
  refine wp_block ?_
  refine wp_seq_k fun KB13 hKB => ?_
  have HB13 := hide hKB
  clear hKB
  refine wp_block ?_
  refine wp_seq_k fun KB12 hKB => ?_
  have HB12 := hide hKB
  clear hKB
  refine wp_block ?_
  refine wp_seq_k fun KB11 hKB => ?_
  have HB11 := hide hKB
  clear hKB
  refine wp_block ?_
  refine wp_seq_k fun KB10 hKB => ?_
  have HB10 := hide hKB
  clear hKB
  refine wp_block ?_
  refine wp_seq_k fun KB9 hKB => ?_
  have HB9 := hide hKB
  clear hKB
  refine wp_block ?_
  refine wp_seq_k fun KB8 hKB => ?_
  have HB8 := hide hKB
  clear hKB
  refine wp_block ?_
  refine wp_seq_k fun KB7 hKB => ?_
  have HB7 := hide hKB
  clear hKB
  refine wp_block ?_
  refine wp_seq_k fun KB6 hKB => ?_
  have HB6 := hide hKB
  clear hKB
  refine wp_block ?_
  refine wp_seq_k fun KB5 hKB => ?_
  have HB5 := hide hKB
  clear hKB
  refine wp_block ?_
  refine wp_seq_k fun KB4 hKB => ?_
  have HB4 := hide hKB
  clear hKB
  refine wp_block ?_
  refine wp_seq_k fun KB3 hKB => ?_
  have HB3 := hide hKB
  clear hKB
  refine wp_block ?_
  refine wp_seq_k fun KB2 hKB => ?_
  have HB2 := hide hKB
  clear hKB
  refine wp_block ?_
  refine wp_seq_k fun KB1 hKB => ?_
  have HB1 := hide hKB
  clear hKB
  refine wp_block ?_
  refine wp_hide (fun Q' hQ' => ?_)
  have HQ := hide hQ'
  clear hQ'
  go_wp2
  refine HQ.out _ _ _ ?_
  refine inb_pass (by decide) (then_exit ?_)
  refine inb_pass (by decide) (then_exit ?_)
  refine inb_pass (by decide) (then_exit ?_)
  refine inb_pass (by decide) (then_exit ?_)
  refine inb_pass (by decide) (then_exit ?_)
  refine inb_pass (by decide) (then_exit ?_)
  refine inb_pass (by decide) (then_exit ?_)
  refine inb_pass (by decide) (then_exit ?_)
  refine inb_pass (by decide) (then_exit ?_)
  refine inb_pass (by decide) (then_exit ?_)
  refine inb_hit (then_norm ?_)
  refine HB11.out _ _ ?_
  refine wp_hide (fun Q2 hQ2 => ?_)
  have HQ2 := hide hQ2
  clear hQ2 HQ
  go_wp2_with fail
  refine (cell_34 HK.out HJ0.out HW0.out HN0.out HX0.out xn xm hxn).mono ?_
  intro e wz he
  cases hz : bnd (locW K.C xn) fun t => bnd (popTo [t] s) fun p => pushL [t] p.2 with
  | error c =>
    rw [hz] at he
    obtain ⟨p, rfl, hx⟩ := he
    go_wp2_with fail
    refine HQ2.out _ _ _ ?_
    refine inb_panic (then_panic ?_)
    refine inb_panic (then_panic ?_)
    refine inb_panic (then_panic ?_)
    refine inb_panic (then_panic ?_)
    refine inb_panic (then_panic ?_)
    refine inb_panic (then_panic ?_)
    refine inb_panic ?_
    rw [show (insW K.C ⟨34, xn, xm⟩ s) = .error c by simp [insW, hz]]
    exact ⟨rfl, p, rfl, hx⟩
  | ok sz =>
    rw [hz] at he
    obtain ⟨rfl, vsz, vfz, fvz, Jz, Fz⟩ := he
    have HJz := hide Jz
    have HFz := hide Fz
    clear Jz Fz
    go_wp2_with fail
    refine HQ2.out _ _ _ ?_
    refine inb_pass (by decide) (then_exit ?_)
    refine inb_pass (by decide) (then_exit ?_)
    refine inb_pass (by decide) (then_exit ?_)
    refine inb_pass (by decide) (then_exit ?_)
    refine inb_pass (by decide) (then_exit ?_)
    refine inb_pass (by decide) (then_exit ?_)
    refine inb_hit ?_
    go_end0
    rw [show (insW K.C ⟨34, xn, xm⟩ s) = .ok sz by simp [insW, hz]]
    exact ⟨rfl, vsz, vfz, fvz, HJz.out, HF0.out.trans HFz.out⟩
set_option maxRecDepth 100000 in
set_option maxHeartbeats 2000000 in
theorem ins_35 (hK : KOk K) (h : WJ K at_ s vs vf fv w) (hw : WF s) (hn : s.fr.length ≤ 1000) (hne : s.fr ≠ []) (xn xm : Int) (hxn : 0 ≤ xn) :
    Calls Tryz.prog 41 #[.pointer (some ⟨K.B, 0, none⟩), .agg #[.int .i64 35, .int .i64 xn, .int .i64 xm]] w (Ends K at_ vs vf w (insW K.C ⟨35, xn, xm⟩ s)) := by
  have HK := hide hK
  have HJ0 := hide (h.alloc hK (.cells #[.int .i64 35, .int .i64 xn, .int .i64 xm] 44))
  have HF0 := hide ((Fr.refl K vs vf w).alloc (h.size hK) (.cells #[.int .i64 35, .int .i64 xn, .int .i64 xm] 44))
  have HR0 := hide (Row.made w #[.int .i64 35, .int .i64 xn, .int .i64 xm] 44)
  have hsz := h.lt
  have HS0 := hide h
  have HW0 := hide hw
  have HN0 := hide hn
  have HX0 := hide hne
  clear hK h hw hn hne
  go_enter Tryz.func41, Tryz.ntmps41
  refine wp_seq_k fun K0 hK0 => ?_
  have HK0 := hide hK0
  clear hK0
  go_wp2
  refine HK0.out _ _ ?_
  clear HK0
  refine wp_seq_k fun K0 hK0 => ?_
  have HK0 := hide hK0
  clear hK0
  go_wp2
  refine HK0.out _ _ ?_
  clear HK0
  refine wp_block ?_
  refine wp_seq_k fun KB17 hKB => ?_
  have HB17 := hide hKB
  clear hKB
  refine wp_block ?_
  refine wp_seq_k fun KB16 hKB => ?_
  have HB16 := hide hKB
  clear hKB
  refine wp_block ?_
  refine wp_seq_k fun KB15 hKB => ?_
  have HB15 := hide hKB
  clear hKB
  refine wp_block ?_
  refine wp_seq_k fun KB14 hKB => ?_
  have HB14 := hide hKB
  clear hKB
  refine wp_block ?_
  refine wp_seq_k fun KB13 hKB => ?_
  have HB13 := hide hKB
  clear hKB
  refine wp_block ?_
  refine wp_seq_k fun KB12 hKB => ?_
  have HB12 := hide hKB
  clear hKB
  refine wp_block ?_
  refine wp_seq_k fun KB11 hKB => ?_
  have HB11 := hide hKB
  clear hKB
  refine wp_block ?_
  refine wp_seq_k fun KB10 hKB => ?_
  have HB10 := hide hKB
  clear hKB
  refine wp_block ?_
  refine wp_seq_k fun KB9 hKB => ?_
  have HB9 := hide hKB
  clear hKB
  refine wp_block ?_
  refine wp_seq_k fun KB8 hKB => ?_
  have HB8 := hide hKB
  clear hKB
  refine wp_block ?_
  refine wp_seq_k fun KB7 hKB => ?_
  have HB7 := hide hKB
  clear hKB
  refine wp_block ?_
  refine wp_seq_k fun KB6 hKB => ?_
  have HB6 := hide hKB
  clear hKB
  refine wp_block ?_
  refine wp_seq_k fun KB5 hKB => ?_
  have HB5 := hide hKB
  clear hKB
  refine wp_block ?_
  refine wp_seq_k fun KB4 hKB => ?_
  have HB4 := hide hKB
  clear hKB
  refine wp_block ?_
  refine wp_seq_k fun KB3 hKB => ?_
  have HB3 := hide hKB
  clear hKB
  refine wp_block ?_
  refine wp_seq_k fun KB2 hKB => ?_
  have HB2 := hide hKB
  clear hKB
  refine wp_block ?_
  refine wp_seq_k fun KB1 hKB => ?_
  have HB1 := hide hKB
  clear hKB
  refine wp_block ?_
  refine wp_hide (fun Q' hQ' => ?_)
  have HQ := hide hQ'
  clear hQ'
  go_wp2
  refine HQ.out _ _ _ ?_
  refine inb_pass (by decide) (then_exit ?_)
  refine inb_pass (by decide) (then_exit ?_)
  refine inb_pass (by decide) (then_exit ?_)
  refine inb_pass (by decide) (then_exit ?_)
  refine inb_pass (by decide) (then_exit ?_)
  refine inb_pass (by decide) (then_exit ?_)
  refine inb_pass (by decide) (then_exit ?_)
  refine inb_pass (by decide) (then_exit ?_)
  refine inb_pass (by decide) (then_exit ?_)
  refine inb_pass (by decide) (then_exit ?_)
  refine inb_hit (then_norm ?_)
  refine HB11.out _ _ ?_
  refine wp_hide (fun Q2 hQ2 => ?_)
  have HQ2 := hide hQ2
  clear hQ2 HQ
  go_wp2_with fail
  refine (cell_35 HK.out HJ0.out HW0.out HN0.out HX0.out xn xm hxn).mono ?_
  intro e wz he
  cases hz : bnd (gloW K.C xn) fun t => pushL [t] s with
  | error c =>
    rw [hz] at he
    obtain ⟨p, rfl, hx⟩ := he
    go_wp2_with fail
    refine HQ2.out _ _ _ ?_
    refine inb_panic (then_panic ?_)
    refine inb_panic (then_panic ?_)
    refine inb_panic (then_panic ?_)
    refine inb_panic (then_panic ?_)
    refine inb_panic (then_panic ?_)
    refine inb_panic (then_panic ?_)
    refine inb_panic ?_
    rw [show (insW K.C ⟨35, xn, xm⟩ s) = .error c by simp [insW, hz]]
    exact ⟨rfl, p, rfl, hx⟩
  | ok sz =>
    rw [hz] at he
    obtain ⟨rfl, vsz, vfz, fvz, Jz, Fz⟩ := he
    have HJz := hide Jz
    have HFz := hide Fz
    clear Jz Fz
    go_wp2_with fail
    refine HQ2.out _ _ _ ?_
    refine inb_pass (by decide) (then_exit ?_)
    refine inb_pass (by decide) (then_exit ?_)
    refine inb_pass (by decide) (then_exit ?_)
    refine inb_pass (by decide) (then_exit ?_)
    refine inb_pass (by decide) (then_exit ?_)
    refine inb_pass (by decide) (then_exit ?_)
    refine inb_hit ?_
    go_end0
    rw [show (insW K.C ⟨35, xn, xm⟩ s) = .ok sz by simp [insW, hz]]
    exact ⟨rfl, vsz, vfz, fvz, HJz.out, HF0.out.trans HFz.out⟩
set_option maxRecDepth 100000 in
set_option maxHeartbeats 2000000 in
theorem ins_36 (hK : KOk K) (h : WJ K at_ s vs vf fv w) (hw : WF s) (hn : s.fr.length ≤ 1000) (hne : s.fr ≠ []) (xn xm : Int) (hxn : 0 ≤ xn) :
    Calls Tryz.prog 41 #[.pointer (some ⟨K.B, 0, none⟩), .agg #[.int .i64 36, .int .i64 xn, .int .i64 xm]] w (Ends K at_ vs vf w (insW K.C ⟨36, xn, xm⟩ s)) := by
  have HK := hide hK
  have HJ0 := hide (h.alloc hK (.cells #[.int .i64 36, .int .i64 xn, .int .i64 xm] 44))
  have HF0 := hide ((Fr.refl K vs vf w).alloc (h.size hK) (.cells #[.int .i64 36, .int .i64 xn, .int .i64 xm] 44))
  have HR0 := hide (Row.made w #[.int .i64 36, .int .i64 xn, .int .i64 xm] 44)
  have hsz := h.lt
  have HS0 := hide h
  have HW0 := hide hw
  have HN0 := hide hn
  have HX0 := hide hne
  clear hK h hw hn hne
  go_enter Tryz.func41, Tryz.ntmps41
  refine wp_seq_k fun K0 hK0 => ?_
  have HK0 := hide hK0
  clear hK0
  go_wp2
  refine HK0.out _ _ ?_
  clear HK0
  refine wp_seq_k fun K0 hK0 => ?_
  have HK0 := hide hK0
  clear hK0
  go_wp2
  refine HK0.out _ _ ?_
  clear HK0
  refine wp_block ?_
  refine wp_seq_k fun KB17 hKB => ?_
  have HB17 := hide hKB
  clear hKB
  refine wp_block ?_
  refine wp_seq_k fun KB16 hKB => ?_
  have HB16 := hide hKB
  clear hKB
  refine wp_block ?_
  refine wp_seq_k fun KB15 hKB => ?_
  have HB15 := hide hKB
  clear hKB
  refine wp_block ?_
  refine wp_seq_k fun KB14 hKB => ?_
  have HB14 := hide hKB
  clear hKB
  refine wp_block ?_
  refine wp_seq_k fun KB13 hKB => ?_
  have HB13 := hide hKB
  clear hKB
  refine wp_block ?_
  refine wp_seq_k fun KB12 hKB => ?_
  have HB12 := hide hKB
  clear hKB
  refine wp_block ?_
  refine wp_seq_k fun KB11 hKB => ?_
  have HB11 := hide hKB
  clear hKB
  refine wp_block ?_
  refine wp_seq_k fun KB10 hKB => ?_
  have HB10 := hide hKB
  clear hKB
  refine wp_block ?_
  refine wp_seq_k fun KB9 hKB => ?_
  have HB9 := hide hKB
  clear hKB
  refine wp_block ?_
  refine wp_seq_k fun KB8 hKB => ?_
  have HB8 := hide hKB
  clear hKB
  refine wp_block ?_
  refine wp_seq_k fun KB7 hKB => ?_
  have HB7 := hide hKB
  clear hKB
  refine wp_block ?_
  refine wp_seq_k fun KB6 hKB => ?_
  have HB6 := hide hKB
  clear hKB
  refine wp_block ?_
  refine wp_seq_k fun KB5 hKB => ?_
  have HB5 := hide hKB
  clear hKB
  refine wp_block ?_
  refine wp_seq_k fun KB4 hKB => ?_
  have HB4 := hide hKB
  clear hKB
  refine wp_block ?_
  refine wp_seq_k fun KB3 hKB => ?_
  have HB3 := hide hKB
  clear hKB
  refine wp_block ?_
  refine wp_seq_k fun KB2 hKB => ?_
  have HB2 := hide hKB
  clear hKB
  refine wp_block ?_
  refine wp_seq_k fun KB1 hKB => ?_
  have HB1 := hide hKB
  clear hKB
  refine wp_block ?_
  refine wp_hide (fun Q' hQ' => ?_)
  have HQ := hide hQ'
  clear hQ'
  go_wp2
  refine HQ.out _ _ _ ?_
  refine inb_pass (by decide) (then_exit ?_)
  refine inb_pass (by decide) (then_exit ?_)
  refine inb_pass (by decide) (then_exit ?_)
  refine inb_pass (by decide) (then_exit ?_)
  refine inb_pass (by decide) (then_exit ?_)
  refine inb_pass (by decide) (then_exit ?_)
  refine inb_pass (by decide) (then_exit ?_)
  refine inb_pass (by decide) (then_exit ?_)
  refine inb_pass (by decide) (then_exit ?_)
  refine inb_pass (by decide) (then_exit ?_)
  refine inb_hit (then_norm ?_)
  refine HB11.out _ _ ?_
  refine wp_hide (fun Q2 hQ2 => ?_)
  have HQ2 := hide hQ2
  clear hQ2 HQ
  go_wp2_with fail
  refine (cell_36 HK.out HJ0.out HW0.out HN0.out HX0.out xn xm hxn).mono ?_
  intro e wz he
  cases hz : bnd (gloW K.C xn) fun t => bnd (popTo [t] s) fun p => .ok p.2 with
  | error c =>
    rw [hz] at he
    obtain ⟨p, rfl, hx⟩ := he
    go_wp2_with fail
    refine HQ2.out _ _ _ ?_
    refine inb_panic (then_panic ?_)
    refine inb_panic (then_panic ?_)
    refine inb_panic (then_panic ?_)
    refine inb_panic (then_panic ?_)
    refine inb_panic (then_panic ?_)
    refine inb_panic (then_panic ?_)
    refine inb_panic ?_
    rw [show (insW K.C ⟨36, xn, xm⟩ s) = .error c by simp [insW, hz]]
    exact ⟨rfl, p, rfl, hx⟩
  | ok sz =>
    rw [hz] at he
    obtain ⟨rfl, vsz, vfz, fvz, Jz, Fz⟩ := he
    have HJz := hide Jz
    have HFz := hide Fz
    clear Jz Fz
    go_wp2_with fail
    refine HQ2.out _ _ _ ?_
    refine inb_pass (by decide) (then_exit ?_)
    refine inb_pass (by decide) (then_exit ?_)
    refine inb_pass (by decide) (then_exit ?_)
    refine inb_pass (by decide) (then_exit ?_)
    refine inb_pass (by decide) (then_exit ?_)
    refine inb_pass (by decide) (then_exit ?_)
    refine inb_hit ?_
    go_end0
    rw [show (insW K.C ⟨36, xn, xm⟩ s) = .ok sz by simp [insW, hz]]
    exact ⟨rfl, vsz, vfz, fvz, HJz.out, HF0.out.trans HFz.out⟩
set_option maxRecDepth 100000 in
set_option maxHeartbeats 2000000 in
theorem ins_40_0 (hK : KOk K) (h : WJ K at_ s vs vf fv w) (hw : WF s) (hn : s.fr.length ≤ 1000) (hne : s.fr ≠ []) (xn : Int) :
    Calls Tryz.prog 41 #[.pointer (some ⟨K.B, 0, none⟩), .agg #[.int .i64 40, .int .i64 xn, .int .i64 0]] w (Ends K at_ vs vf w (insW K.C ⟨40, xn, 0⟩ s)) := by
  have HK := hide hK
  have HJ0 := hide (h.alloc hK (.cells #[.int .i64 40, .int .i64 xn, .int .i64 0] 44))
  have HF0 := hide ((Fr.refl K vs vf w).alloc (h.size hK) (.cells #[.int .i64 40, .int .i64 xn, .int .i64 0] 44))
  have HR0 := hide (Row.made w #[.int .i64 40, .int .i64 xn, .int .i64 0] 44)
  have hsz := h.lt
  have HS0 := hide h
  have HW0 := hide hw
  have HN0 := hide hn
  have HX0 := hide hne
  clear hK h hw hn hne
  go_enter Tryz.func41, Tryz.ntmps41
  refine wp_seq_k fun K0 hK0 => ?_
  have HK0 := hide hK0
  clear hK0
  go_wp2
  refine HK0.out _ _ ?_
  clear HK0
  refine wp_seq_k fun K0 hK0 => ?_
  have HK0 := hide hK0
  clear hK0
  go_wp2
  refine HK0.out _ _ ?_
  clear HK0
  refine wp_block ?_
  refine wp_seq_k fun KB17 hKB => ?_
  have HB17 := hide hKB
  clear hKB
  refine wp_block ?_
  refine wp_seq_k fun KB16 hKB => ?_
  have HB16 := hide hKB
  clear hKB
  refine wp_block ?_
  refine wp_seq_k fun KB15 hKB => ?_
  have HB15 := hide hKB
  clear hKB
  refine wp_block ?_
  refine wp_seq_k fun KB14 hKB => ?_
  have HB14 := hide hKB
  clear hKB
  refine wp_block ?_
  refine wp_seq_k fun KB13 hKB => ?_
  have HB13 := hide hKB
  clear hKB
  refine wp_block ?_
  refine wp_seq_k fun KB12 hKB => ?_
  have HB12 := hide hKB
  clear hKB
  refine wp_block ?_
  refine wp_seq_k fun KB11 hKB => ?_
  have HB11 := hide hKB
  clear hKB
  refine wp_block ?_
  refine wp_seq_k fun KB10 hKB => ?_
  have HB10 := hide hKB
  clear hKB
  refine wp_block ?_
  refine wp_seq_k fun KB9 hKB => ?_
  have HB9 := hide hKB
  clear hKB
  refine wp_block ?_
  refine wp_seq_k fun KB8 hKB => ?_
  have HB8 := hide hKB
  clear hKB
  refine wp_block ?_
  refine wp_seq_k fun KB7 hKB => ?_
  have HB7 := hide hKB
  clear hKB
  refine wp_block ?_
  refine wp_seq_k fun KB6 hKB => ?_
  have HB6 := hide hKB
  clear hKB
  refine wp_block ?_
  refine wp_seq_k fun KB5 hKB => ?_
  have HB5 := hide hKB
  clear hKB
  refine wp_block ?_
  refine wp_seq_k fun KB4 hKB => ?_
  have HB4 := hide hKB
  clear hKB
  refine wp_block ?_
  refine wp_seq_k fun KB3 hKB => ?_
  have HB3 := hide hKB
  clear hKB
  refine wp_block ?_
  refine wp_seq_k fun KB2 hKB => ?_
  have HB2 := hide hKB
  clear hKB
  refine wp_block ?_
  refine wp_seq_k fun KB1 hKB => ?_
  have HB1 := hide hKB
  clear hKB
  refine wp_block ?_
  refine wp_hide (fun Q' hQ' => ?_)
  have HQ := hide hQ'
  clear hQ'
  go_wp2
  refine HQ.out _ _ _ ?_
  refine inb_pass (by decide) (then_exit ?_)
  refine inb_pass (by decide) (then_exit ?_)
  refine inb_pass (by decide) (then_exit ?_)
  refine inb_pass (by decide) (then_exit ?_)
  refine inb_pass (by decide) (then_exit ?_)
  refine inb_pass (by decide) (then_exit ?_)
  refine inb_pass (by decide) (then_exit ?_)
  refine inb_pass (by decide) (then_exit ?_)
  refine inb_pass (by decide) (then_exit ?_)
  refine inb_pass (by decide) (then_exit ?_)
  refine inb_pass (by decide) (then_exit ?_)
  refine inb_hit (then_norm ?_)
  refine HB12.out _ _ ?_
  refine wp_hide (fun Q2 hQ2 => ?_)
  have HQ2 := hide hQ2
  clear hQ2 HQ
  go_wp2_with fail
  refine (access_40_0 HK.out HJ0.out HW0.out HN0.out HX0.out xn).mono ?_
  intro e wz he
  cases hz : loadW K.C false 0 s with
  | error c =>
    rw [hz] at he
    obtain ⟨p, rfl, hx⟩ := he
    go_wp2_with fail
    refine HQ2.out _ _ _ ?_
    refine inb_panic (then_panic ?_)
    refine inb_panic (then_panic ?_)
    refine inb_panic (then_panic ?_)
    refine inb_panic (then_panic ?_)
    refine inb_panic (then_panic ?_)
    refine inb_panic ?_
    rw [show (insW K.C ⟨40, xn, 0⟩ s) = .error c by simp [insW, hz]]
    exact ⟨rfl, p, rfl, hx⟩
  | ok sz =>
    rw [hz] at he
    obtain ⟨rfl, vsz, vfz, fvz, Jz, Fz⟩ := he
    have HJz := hide Jz
    have HFz := hide Fz
    clear Jz Fz
    go_wp2_with fail
    refine HQ2.out _ _ _ ?_
    refine inb_pass (by decide) (then_exit ?_)
    refine inb_pass (by decide) (then_exit ?_)
    refine inb_pass (by decide) (then_exit ?_)
    refine inb_pass (by decide) (then_exit ?_)
    refine inb_pass (by decide) (then_exit ?_)
    refine inb_hit ?_
    go_end0
    rw [show (insW K.C ⟨40, xn, 0⟩ s) = .ok sz by simp [insW, hz]]
    exact ⟨rfl, vsz, vfz, fvz, HJz.out, HF0.out.trans HFz.out⟩
set_option maxRecDepth 100000 in
set_option maxHeartbeats 2000000 in
theorem ins_40_1 (hK : KOk K) (h : WJ K at_ s vs vf fv w) (hw : WF s) (hn : s.fr.length ≤ 1000) (hne : s.fr ≠ []) (xn : Int) :
    Calls Tryz.prog 41 #[.pointer (some ⟨K.B, 0, none⟩), .agg #[.int .i64 40, .int .i64 xn, .int .i64 1]] w (Ends K at_ vs vf w (insW K.C ⟨40, xn, 1⟩ s)) := by
  have HK := hide hK
  have HJ0 := hide (h.alloc hK (.cells #[.int .i64 40, .int .i64 xn, .int .i64 1] 44))
  have HF0 := hide ((Fr.refl K vs vf w).alloc (h.size hK) (.cells #[.int .i64 40, .int .i64 xn, .int .i64 1] 44))
  have HR0 := hide (Row.made w #[.int .i64 40, .int .i64 xn, .int .i64 1] 44)
  have hsz := h.lt
  have HS0 := hide h
  have HW0 := hide hw
  have HN0 := hide hn
  have HX0 := hide hne
  clear hK h hw hn hne
  go_enter Tryz.func41, Tryz.ntmps41
  refine wp_seq_k fun K0 hK0 => ?_
  have HK0 := hide hK0
  clear hK0
  go_wp2
  refine HK0.out _ _ ?_
  clear HK0
  refine wp_seq_k fun K0 hK0 => ?_
  have HK0 := hide hK0
  clear hK0
  go_wp2
  refine HK0.out _ _ ?_
  clear HK0
  refine wp_block ?_
  refine wp_seq_k fun KB17 hKB => ?_
  have HB17 := hide hKB
  clear hKB
  refine wp_block ?_
  refine wp_seq_k fun KB16 hKB => ?_
  have HB16 := hide hKB
  clear hKB
  refine wp_block ?_
  refine wp_seq_k fun KB15 hKB => ?_
  have HB15 := hide hKB
  clear hKB
  refine wp_block ?_
  refine wp_seq_k fun KB14 hKB => ?_
  have HB14 := hide hKB
  clear hKB
  refine wp_block ?_
  refine wp_seq_k fun KB13 hKB => ?_
  have HB13 := hide hKB
  clear hKB
  refine wp_block ?_
  refine wp_seq_k fun KB12 hKB => ?_
  have HB12 := hide hKB
  clear hKB
  refine wp_block ?_
  refine wp_seq_k fun KB11 hKB => ?_
  have HB11 := hide hKB
  clear hKB
  refine wp_block ?_
  refine wp_seq_k fun KB10 hKB => ?_
  have HB10 := hide hKB
  clear hKB
  refine wp_block ?_
  refine wp_seq_k fun KB9 hKB => ?_
  have HB9 := hide hKB
  clear hKB
  refine wp_block ?_
  refine wp_seq_k fun KB8 hKB => ?_
  have HB8 := hide hKB
  clear hKB
  refine wp_block ?_
  refine wp_seq_k fun KB7 hKB => ?_
  have HB7 := hide hKB
  clear hKB
  refine wp_block ?_
  refine wp_seq_k fun KB6 hKB => ?_
  have HB6 := hide hKB
  clear hKB
  refine wp_block ?_
  refine wp_seq_k fun KB5 hKB => ?_
  have HB5 := hide hKB
  clear hKB
  refine wp_block ?_
  refine wp_seq_k fun KB4 hKB => ?_
  have HB4 := hide hKB
  clear hKB
  refine wp_block ?_
  refine wp_seq_k fun KB3 hKB => ?_
  have HB3 := hide hKB
  clear hKB
  refine wp_block ?_
  refine wp_seq_k fun KB2 hKB => ?_
  have HB2 := hide hKB
  clear hKB
  refine wp_block ?_
  refine wp_seq_k fun KB1 hKB => ?_
  have HB1 := hide hKB
  clear hKB
  refine wp_block ?_
  refine wp_hide (fun Q' hQ' => ?_)
  have HQ := hide hQ'
  clear hQ'
  go_wp2
  refine HQ.out _ _ _ ?_
  refine inb_pass (by decide) (then_exit ?_)
  refine inb_pass (by decide) (then_exit ?_)
  refine inb_pass (by decide) (then_exit ?_)
  refine inb_pass (by decide) (then_exit ?_)
  refine inb_pass (by decide) (then_exit ?_)
  refine inb_pass (by decide) (then_exit ?_)
  refine inb_pass (by decide) (then_exit ?_)
  refine inb_pass (by decide) (then_exit ?_)
  refine inb_pass (by decide) (then_exit ?_)
  refine inb_pass (by decide) (then_exit ?_)
  refine inb_pass (by decide) (then_exit ?_)
  refine inb_hit (then_norm ?_)
  refine HB12.out _ _ ?_
  refine wp_hide (fun Q2 hQ2 => ?_)
  have HQ2 := hide hQ2
  clear hQ2 HQ
  go_wp2_with fail
  refine (access_40_1 HK.out HJ0.out HW0.out HN0.out HX0.out xn).mono ?_
  intro e wz he
  cases hz : loadW K.C false 1 s with
  | error c =>
    rw [hz] at he
    obtain ⟨p, rfl, hx⟩ := he
    go_wp2_with fail
    refine HQ2.out _ _ _ ?_
    refine inb_panic (then_panic ?_)
    refine inb_panic (then_panic ?_)
    refine inb_panic (then_panic ?_)
    refine inb_panic (then_panic ?_)
    refine inb_panic (then_panic ?_)
    refine inb_panic ?_
    rw [show (insW K.C ⟨40, xn, 1⟩ s) = .error c by simp [insW, hz]]
    exact ⟨rfl, p, rfl, hx⟩
  | ok sz =>
    rw [hz] at he
    obtain ⟨rfl, vsz, vfz, fvz, Jz, Fz⟩ := he
    have HJz := hide Jz
    have HFz := hide Fz
    clear Jz Fz
    go_wp2_with fail
    refine HQ2.out _ _ _ ?_
    refine inb_pass (by decide) (then_exit ?_)
    refine inb_pass (by decide) (then_exit ?_)
    refine inb_pass (by decide) (then_exit ?_)
    refine inb_pass (by decide) (then_exit ?_)
    refine inb_pass (by decide) (then_exit ?_)
    refine inb_hit ?_
    go_end0
    rw [show (insW K.C ⟨40, xn, 1⟩ s) = .ok sz by simp [insW, hz]]
    exact ⟨rfl, vsz, vfz, fvz, HJz.out, HF0.out.trans HFz.out⟩
set_option maxRecDepth 100000 in
set_option maxHeartbeats 2000000 in
theorem ins_41_0 (hK : KOk K) (h : WJ K at_ s vs vf fv w) (hw : WF s) (hn : s.fr.length ≤ 1000) (hne : s.fr ≠ []) (xn : Int) :
    Calls Tryz.prog 41 #[.pointer (some ⟨K.B, 0, none⟩), .agg #[.int .i64 41, .int .i64 xn, .int .i64 0]] w (Ends K at_ vs vf w (insW K.C ⟨41, xn, 0⟩ s)) := by
  have HK := hide hK
  have HJ0 := hide (h.alloc hK (.cells #[.int .i64 41, .int .i64 xn, .int .i64 0] 44))
  have HF0 := hide ((Fr.refl K vs vf w).alloc (h.size hK) (.cells #[.int .i64 41, .int .i64 xn, .int .i64 0] 44))
  have HR0 := hide (Row.made w #[.int .i64 41, .int .i64 xn, .int .i64 0] 44)
  have hsz := h.lt
  have HS0 := hide h
  have HW0 := hide hw
  have HN0 := hide hn
  have HX0 := hide hne
  clear hK h hw hn hne
  go_enter Tryz.func41, Tryz.ntmps41
  refine wp_seq_k fun K0 hK0 => ?_
  have HK0 := hide hK0
  clear hK0
  go_wp2
  refine HK0.out _ _ ?_
  clear HK0
  refine wp_seq_k fun K0 hK0 => ?_
  have HK0 := hide hK0
  clear hK0
  go_wp2
  refine HK0.out _ _ ?_
  clear HK0
  refine wp_block ?_
  refine wp_seq_k fun KB17 hKB => ?_
  have HB17 := hide hKB
  clear hKB
  refine wp_block ?_
  refine wp_seq_k fun KB16 hKB => ?_
  have HB16 := hide hKB
  clear hKB
  refine wp_block ?_
  refine wp_seq_k fun KB15 hKB => ?_
  have HB15 := hide hKB
  clear hKB
  refine wp_block ?_
  refine wp_seq_k fun KB14 hKB => ?_
  have HB14 := hide hKB
  clear hKB
  refine wp_block ?_
  refine wp_seq_k fun KB13 hKB => ?_
  have HB13 := hide hKB
  clear hKB
  refine wp_block ?_
  refine wp_seq_k fun KB12 hKB => ?_
  have HB12 := hide hKB
  clear hKB
  refine wp_block ?_
  refine wp_seq_k fun KB11 hKB => ?_
  have HB11 := hide hKB
  clear hKB
  refine wp_block ?_
  refine wp_seq_k fun KB10 hKB => ?_
  have HB10 := hide hKB
  clear hKB
  refine wp_block ?_
  refine wp_seq_k fun KB9 hKB => ?_
  have HB9 := hide hKB
  clear hKB
  refine wp_block ?_
  refine wp_seq_k fun KB8 hKB => ?_
  have HB8 := hide hKB
  clear hKB
  refine wp_block ?_
  refine wp_seq_k fun KB7 hKB => ?_
  have HB7 := hide hKB
  clear hKB
  refine wp_block ?_
  refine wp_seq_k fun KB6 hKB => ?_
  have HB6 := hide hKB
  clear hKB
  refine wp_block ?_
  refine wp_seq_k fun KB5 hKB => ?_
  have HB5 := hide hKB
  clear hKB
  refine wp_block ?_
  refine wp_seq_k fun KB4 hKB => ?_
  have HB4 := hide hKB
  clear hKB
  refine wp_block ?_
  refine wp_seq_k fun KB3 hKB => ?_
  have HB3 := hide hKB
  clear hKB
  refine wp_block ?_
  refine wp_seq_k fun KB2 hKB => ?_
  have HB2 := hide hKB
  clear hKB
  refine wp_block ?_
  refine wp_seq_k fun KB1 hKB => ?_
  have HB1 := hide hKB
  clear hKB
  refine wp_block ?_
  refine wp_hide (fun Q' hQ' => ?_)
  have HQ := hide hQ'
  clear hQ'
  go_wp2
  refine HQ.out _ _ _ ?_
  refine inb_pass (by decide) (then_exit ?_)
  refine inb_pass (by decide) (then_exit ?_)
  refine inb_pass (by decide) (then_exit ?_)
  refine inb_pass (by decide) (then_exit ?_)
  refine inb_pass (by decide) (then_exit ?_)
  refine inb_pass (by decide) (then_exit ?_)
  refine inb_pass (by decide) (then_exit ?_)
  refine inb_pass (by decide) (then_exit ?_)
  refine inb_pass (by decide) (then_exit ?_)
  refine inb_pass (by decide) (then_exit ?_)
  refine inb_pass (by decide) (then_exit ?_)
  refine inb_hit (then_norm ?_)
  refine HB12.out _ _ ?_
  refine wp_hide (fun Q2 hQ2 => ?_)
  have HQ2 := hide hQ2
  clear hQ2 HQ
  go_wp2_with fail
  refine (access_41_0 HK.out HJ0.out HW0.out HN0.out HX0.out xn).mono ?_
  intro e wz he
  cases hz : loadW K.C true 0 s with
  | error c =>
    rw [hz] at he
    obtain ⟨p, rfl, hx⟩ := he
    go_wp2_with fail
    refine HQ2.out _ _ _ ?_
    refine inb_panic (then_panic ?_)
    refine inb_panic (then_panic ?_)
    refine inb_panic (then_panic ?_)
    refine inb_panic (then_panic ?_)
    refine inb_panic (then_panic ?_)
    refine inb_panic ?_
    rw [show (insW K.C ⟨41, xn, 0⟩ s) = .error c by simp [insW, hz]]
    exact ⟨rfl, p, rfl, hx⟩
  | ok sz =>
    rw [hz] at he
    obtain ⟨rfl, vsz, vfz, fvz, Jz, Fz⟩ := he
    have HJz := hide Jz
    have HFz := hide Fz
    clear Jz Fz
    go_wp2_with fail
    refine HQ2.out _ _ _ ?_
    refine inb_pass (by decide) (then_exit ?_)
    refine inb_pass (by decide) (then_exit ?_)
    refine inb_pass (by decide) (then_exit ?_)
    refine inb_pass (by decide) (then_exit ?_)
    refine inb_pass (by decide) (then_exit ?_)
    refine inb_hit ?_
    go_end0
    rw [show (insW K.C ⟨41, xn, 0⟩ s) = .ok sz by simp [insW, hz]]
    exact ⟨rfl, vsz, vfz, fvz, HJz.out, HF0.out.trans HFz.out⟩
set_option maxRecDepth 100000 in
set_option maxHeartbeats 2000000 in
theorem ins_41_1 (hK : KOk K) (h : WJ K at_ s vs vf fv w) (hw : WF s) (hn : s.fr.length ≤ 1000) (hne : s.fr ≠ []) (xn : Int) :
    Calls Tryz.prog 41 #[.pointer (some ⟨K.B, 0, none⟩), .agg #[.int .i64 41, .int .i64 xn, .int .i64 1]] w (Ends K at_ vs vf w (insW K.C ⟨41, xn, 1⟩ s)) := by
  have HK := hide hK
  have HJ0 := hide (h.alloc hK (.cells #[.int .i64 41, .int .i64 xn, .int .i64 1] 44))
  have HF0 := hide ((Fr.refl K vs vf w).alloc (h.size hK) (.cells #[.int .i64 41, .int .i64 xn, .int .i64 1] 44))
  have HR0 := hide (Row.made w #[.int .i64 41, .int .i64 xn, .int .i64 1] 44)
  have hsz := h.lt
  have HS0 := hide h
  have HW0 := hide hw
  have HN0 := hide hn
  have HX0 := hide hne
  clear hK h hw hn hne
  go_enter Tryz.func41, Tryz.ntmps41
  refine wp_seq_k fun K0 hK0 => ?_
  have HK0 := hide hK0
  clear hK0
  go_wp2
  refine HK0.out _ _ ?_
  clear HK0
  refine wp_seq_k fun K0 hK0 => ?_
  have HK0 := hide hK0
  clear hK0
  go_wp2
  refine HK0.out _ _ ?_
  clear HK0
  refine wp_block ?_
  refine wp_seq_k fun KB17 hKB => ?_
  have HB17 := hide hKB
  clear hKB
  refine wp_block ?_
  refine wp_seq_k fun KB16 hKB => ?_
  have HB16 := hide hKB
  clear hKB
  refine wp_block ?_
  refine wp_seq_k fun KB15 hKB => ?_
  have HB15 := hide hKB
  clear hKB
  refine wp_block ?_
  refine wp_seq_k fun KB14 hKB => ?_
  have HB14 := hide hKB
  clear hKB
  refine wp_block ?_
  refine wp_seq_k fun KB13 hKB => ?_
  have HB13 := hide hKB
  clear hKB
  refine wp_block ?_
  refine wp_seq_k fun KB12 hKB => ?_
  have HB12 := hide hKB
  clear hKB
  refine wp_block ?_
  refine wp_seq_k fun KB11 hKB => ?_
  have HB11 := hide hKB
  clear hKB
  refine wp_block ?_
  refine wp_seq_k fun KB10 hKB => ?_
  have HB10 := hide hKB
  clear hKB
  refine wp_block ?_
  refine wp_seq_k fun KB9 hKB => ?_
  have HB9 := hide hKB
  clear hKB
  refine wp_block ?_
  refine wp_seq_k fun KB8 hKB => ?_
  have HB8 := hide hKB
  clear hKB
  refine wp_block ?_
  refine wp_seq_k fun KB7 hKB => ?_
  have HB7 := hide hKB
  clear hKB
  refine wp_block ?_
  refine wp_seq_k fun KB6 hKB => ?_
  have HB6 := hide hKB
  clear hKB
  refine wp_block ?_
  refine wp_seq_k fun KB5 hKB => ?_
  have HB5 := hide hKB
  clear hKB
  refine wp_block ?_
  refine wp_seq_k fun KB4 hKB => ?_
  have HB4 := hide hKB
  clear hKB
  refine wp_block ?_
  refine wp_seq_k fun KB3 hKB => ?_
  have HB3 := hide hKB
  clear hKB
  refine wp_block ?_
  refine wp_seq_k fun KB2 hKB => ?_
  have HB2 := hide hKB
  clear hKB
  refine wp_block ?_
  refine wp_seq_k fun KB1 hKB => ?_
  have HB1 := hide hKB
  clear hKB
  refine wp_block ?_
  refine wp_hide (fun Q' hQ' => ?_)
  have HQ := hide hQ'
  clear hQ'
  go_wp2
  refine HQ.out _ _ _ ?_
  refine inb_pass (by decide) (then_exit ?_)
  refine inb_pass (by decide) (then_exit ?_)
  refine inb_pass (by decide) (then_exit ?_)
  refine inb_pass (by decide) (then_exit ?_)
  refine inb_pass (by decide) (then_exit ?_)
  refine inb_pass (by decide) (then_exit ?_)
  refine inb_pass (by decide) (then_exit ?_)
  refine inb_pass (by decide) (then_exit ?_)
  refine inb_pass (by decide) (then_exit ?_)
  refine inb_pass (by decide) (then_exit ?_)
  refine inb_pass (by decide) (then_exit ?_)
  refine inb_hit (then_norm ?_)
  refine HB12.out _ _ ?_
  refine wp_hide (fun Q2 hQ2 => ?_)
  have HQ2 := hide hQ2
  clear hQ2 HQ
  go_wp2_with fail
  refine (access_41_1 HK.out HJ0.out HW0.out HN0.out HX0.out xn).mono ?_
  intro e wz he
  cases hz : loadW K.C true 1 s with
  | error c =>
    rw [hz] at he
    obtain ⟨p, rfl, hx⟩ := he
    go_wp2_with fail
    refine HQ2.out _ _ _ ?_
    refine inb_panic (then_panic ?_)
    refine inb_panic (then_panic ?_)
    refine inb_panic (then_panic ?_)
    refine inb_panic (then_panic ?_)
    refine inb_panic (then_panic ?_)
    refine inb_panic ?_
    rw [show (insW K.C ⟨41, xn, 1⟩ s) = .error c by simp [insW, hz]]
    exact ⟨rfl, p, rfl, hx⟩
  | ok sz =>
    rw [hz] at he
    obtain ⟨rfl, vsz, vfz, fvz, Jz, Fz⟩ := he
    have HJz := hide Jz
    have HFz := hide Fz
    clear Jz Fz
    go_wp2_with fail
    refine HQ2.out _ _ _ ?_
    refine inb_pass (by decide) (then_exit ?_)
    refine inb_pass (by decide) (then_exit ?_)
    refine inb_pass (by decide) (then_exit ?_)
    refine inb_pass (by decide) (then_exit ?_)
    refine inb_pass (by decide) (then_exit ?_)
    refine inb_hit ?_
    go_end0
    rw [show (insW K.C ⟨41, xn, 1⟩ s) = .ok sz by simp [insW, hz]]
    exact ⟨rfl, vsz, vfz, fvz, HJz.out, HF0.out.trans HFz.out⟩
set_option maxRecDepth 100000 in
set_option maxHeartbeats 2000000 in
theorem ins_54_0 (hK : KOk K) (h : WJ K at_ s vs vf fv w) (hw : WF s) (hn : s.fr.length ≤ 1000) (hne : s.fr ≠ []) (xn : Int) :
    Calls Tryz.prog 41 #[.pointer (some ⟨K.B, 0, none⟩), .agg #[.int .i64 54, .int .i64 xn, .int .i64 0]] w (Ends K at_ vs vf w (insW K.C ⟨54, xn, 0⟩ s)) := by
  have HK := hide hK
  have HJ0 := hide (h.alloc hK (.cells #[.int .i64 54, .int .i64 xn, .int .i64 0] 44))
  have HF0 := hide ((Fr.refl K vs vf w).alloc (h.size hK) (.cells #[.int .i64 54, .int .i64 xn, .int .i64 0] 44))
  have HR0 := hide (Row.made w #[.int .i64 54, .int .i64 xn, .int .i64 0] 44)
  have hsz := h.lt
  have HS0 := hide h
  have HW0 := hide hw
  have HN0 := hide hn
  have HX0 := hide hne
  clear hK h hw hn hne
  go_enter Tryz.func41, Tryz.ntmps41
  refine wp_seq_k fun K0 hK0 => ?_
  have HK0 := hide hK0
  clear hK0
  go_wp2
  refine HK0.out _ _ ?_
  clear HK0
  refine wp_seq_k fun K0 hK0 => ?_
  have HK0 := hide hK0
  clear hK0
  go_wp2
  refine HK0.out _ _ ?_
  clear HK0
  refine wp_block ?_
  refine wp_seq_k fun KB17 hKB => ?_
  have HB17 := hide hKB
  clear hKB
  refine wp_block ?_
  refine wp_seq_k fun KB16 hKB => ?_
  have HB16 := hide hKB
  clear hKB
  refine wp_block ?_
  refine wp_seq_k fun KB15 hKB => ?_
  have HB15 := hide hKB
  clear hKB
  refine wp_block ?_
  refine wp_seq_k fun KB14 hKB => ?_
  have HB14 := hide hKB
  clear hKB
  refine wp_block ?_
  refine wp_seq_k fun KB13 hKB => ?_
  have HB13 := hide hKB
  clear hKB
  refine wp_block ?_
  refine wp_seq_k fun KB12 hKB => ?_
  have HB12 := hide hKB
  clear hKB
  refine wp_block ?_
  refine wp_seq_k fun KB11 hKB => ?_
  have HB11 := hide hKB
  clear hKB
  refine wp_block ?_
  refine wp_seq_k fun KB10 hKB => ?_
  have HB10 := hide hKB
  clear hKB
  refine wp_block ?_
  refine wp_seq_k fun KB9 hKB => ?_
  have HB9 := hide hKB
  clear hKB
  refine wp_block ?_
  refine wp_seq_k fun KB8 hKB => ?_
  have HB8 := hide hKB
  clear hKB
  refine wp_block ?_
  refine wp_seq_k fun KB7 hKB => ?_
  have HB7 := hide hKB
  clear hKB
  refine wp_block ?_
  refine wp_seq_k fun KB6 hKB => ?_
  have HB6 := hide hKB
  clear hKB
  refine wp_block ?_
  refine wp_seq_k fun KB5 hKB => ?_
  have HB5 := hide hKB
  clear hKB
  refine wp_block ?_
  refine wp_seq_k fun KB4 hKB => ?_
  have HB4 := hide hKB
  clear hKB
  refine wp_block ?_
  refine wp_seq_k fun KB3 hKB => ?_
  have HB3 := hide hKB
  clear hKB
  refine wp_block ?_
  refine wp_seq_k fun KB2 hKB => ?_
  have HB2 := hide hKB
  clear hKB
  refine wp_block ?_
  refine wp_seq_k fun KB1 hKB => ?_
  have HB1 := hide hKB
  clear hKB
  refine wp_block ?_
  refine wp_hide (fun Q' hQ' => ?_)
  have HQ := hide hQ'
  clear hQ'
  go_wp2
  refine HQ.out _ _ _ ?_
  refine inb_pass (by decide) (then_exit ?_)
  refine inb_pass (by decide) (then_exit ?_)
  refine inb_pass (by decide) (then_exit ?_)
  refine inb_pass (by decide) (then_exit ?_)
  refine inb_pass (by decide) (then_exit ?_)
  refine inb_pass (by decide) (then_exit ?_)
  refine inb_pass (by decide) (then_exit ?_)
  refine inb_pass (by decide) (then_exit ?_)
  refine inb_pass (by decide) (then_exit ?_)
  refine inb_pass (by decide) (then_exit ?_)
  refine inb_pass (by decide) (then_exit ?_)
  refine inb_hit (then_norm ?_)
  refine HB12.out _ _ ?_
  refine wp_hide (fun Q2 hQ2 => ?_)
  have HQ2 := hide hQ2
  clear hQ2 HQ
  go_wp2_with fail
  refine (access_54_0 HK.out HJ0.out HW0.out HN0.out HX0.out xn).mono ?_
  intro e wz he
  cases hz : storeW K.C false 0 s with
  | error c =>
    rw [hz] at he
    obtain ⟨p, rfl, hx⟩ := he
    go_wp2_with fail
    refine HQ2.out _ _ _ ?_
    refine inb_panic (then_panic ?_)
    refine inb_panic (then_panic ?_)
    refine inb_panic (then_panic ?_)
    refine inb_panic (then_panic ?_)
    refine inb_panic (then_panic ?_)
    refine inb_panic ?_
    rw [show (insW K.C ⟨54, xn, 0⟩ s) = .error c by simp [insW, hz]]
    exact ⟨rfl, p, rfl, hx⟩
  | ok sz =>
    rw [hz] at he
    obtain ⟨rfl, vsz, vfz, fvz, Jz, Fz⟩ := he
    have HJz := hide Jz
    have HFz := hide Fz
    clear Jz Fz
    go_wp2_with fail
    refine HQ2.out _ _ _ ?_
    refine inb_pass (by decide) (then_exit ?_)
    refine inb_pass (by decide) (then_exit ?_)
    refine inb_pass (by decide) (then_exit ?_)
    refine inb_pass (by decide) (then_exit ?_)
    refine inb_pass (by decide) (then_exit ?_)
    refine inb_hit ?_
    go_end0
    rw [show (insW K.C ⟨54, xn, 0⟩ s) = .ok sz by simp [insW, hz]]
    exact ⟨rfl, vsz, vfz, fvz, HJz.out, HF0.out.trans HFz.out⟩
set_option maxRecDepth 100000 in
set_option maxHeartbeats 2000000 in
theorem ins_54_1 (hK : KOk K) (h : WJ K at_ s vs vf fv w) (hw : WF s) (hn : s.fr.length ≤ 1000) (hne : s.fr ≠ []) (xn : Int) :
    Calls Tryz.prog 41 #[.pointer (some ⟨K.B, 0, none⟩), .agg #[.int .i64 54, .int .i64 xn, .int .i64 1]] w (Ends K at_ vs vf w (insW K.C ⟨54, xn, 1⟩ s)) := by
  have HK := hide hK
  have HJ0 := hide (h.alloc hK (.cells #[.int .i64 54, .int .i64 xn, .int .i64 1] 44))
  have HF0 := hide ((Fr.refl K vs vf w).alloc (h.size hK) (.cells #[.int .i64 54, .int .i64 xn, .int .i64 1] 44))
  have HR0 := hide (Row.made w #[.int .i64 54, .int .i64 xn, .int .i64 1] 44)
  have hsz := h.lt
  have HS0 := hide h
  have HW0 := hide hw
  have HN0 := hide hn
  have HX0 := hide hne
  clear hK h hw hn hne
  go_enter Tryz.func41, Tryz.ntmps41
  refine wp_seq_k fun K0 hK0 => ?_
  have HK0 := hide hK0
  clear hK0
  go_wp2
  refine HK0.out _ _ ?_
  clear HK0
  refine wp_seq_k fun K0 hK0 => ?_
  have HK0 := hide hK0
  clear hK0
  go_wp2
  refine HK0.out _ _ ?_
  clear HK0
  refine wp_block ?_
  refine wp_seq_k fun KB17 hKB => ?_
  have HB17 := hide hKB
  clear hKB
  refine wp_block ?_
  refine wp_seq_k fun KB16 hKB => ?_
  have HB16 := hide hKB
  clear hKB
  refine wp_block ?_
  refine wp_seq_k fun KB15 hKB => ?_
  have HB15 := hide hKB
  clear hKB
  refine wp_block ?_
  refine wp_seq_k fun KB14 hKB => ?_
  have HB14 := hide hKB
  clear hKB
  refine wp_block ?_
  refine wp_seq_k fun KB13 hKB => ?_
  have HB13 := hide hKB
  clear hKB
  refine wp_block ?_
  refine wp_seq_k fun KB12 hKB => ?_
  have HB12 := hide hKB
  clear hKB
  refine wp_block ?_
  refine wp_seq_k fun KB11 hKB => ?_
  have HB11 := hide hKB
  clear hKB
  refine wp_block ?_
  refine wp_seq_k fun KB10 hKB => ?_
  have HB10 := hide hKB
  clear hKB
  refine wp_block ?_
  refine wp_seq_k fun KB9 hKB => ?_
  have HB9 := hide hKB
  clear hKB
  refine wp_block ?_
  refine wp_seq_k fun KB8 hKB => ?_
  have HB8 := hide hKB
  clear hKB
  refine wp_block ?_
  refine wp_seq_k fun KB7 hKB => ?_
  have HB7 := hide hKB
  clear hKB
  refine wp_block ?_
  refine wp_seq_k fun KB6 hKB => ?_
  have HB6 := hide hKB
  clear hKB
  refine wp_block ?_
  refine wp_seq_k fun KB5 hKB => ?_
  have HB5 := hide hKB
  clear hKB
  refine wp_block ?_
  refine wp_seq_k fun KB4 hKB => ?_
  have HB4 := hide hKB
  clear hKB
  refine wp_block ?_
  refine wp_seq_k fun KB3 hKB => ?_
  have HB3 := hide hKB
  clear hKB
  refine wp_block ?_
  refine wp_seq_k fun KB2 hKB => ?_
  have HB2 := hide hKB
  clear hKB
  refine wp_block ?_
  refine wp_seq_k fun KB1 hKB => ?_
  have HB1 := hide hKB
  clear hKB
  refine wp_block ?_
  refine wp_hide (fun Q' hQ' => ?_)
  have HQ := hide hQ'
  clear hQ'
  go_wp2
  refine HQ.out _ _ _ ?_
  refine inb_pass (by decide) (then_exit ?_)
  refine inb_pass (by decide) (then_exit ?_)
  refine inb_pass (by decide) (then_exit ?_)
  refine inb_pass (by decide) (then_exit ?_)
  refine inb_pass (by decide) (then_exit ?_)
  refine inb_pass (by decide) (then_exit ?_)
  refine inb_pass (by decide) (then_exit ?_)
  refine inb_pass (by decide) (then_exit ?_)
  refine inb_pass (by decide) (then_exit ?_)
  refine inb_pass (by decide) (then_exit ?_)
  refine inb_pass (by decide) (then_exit ?_)
  refine inb_hit (then_norm ?_)
  refine HB12.out _ _ ?_
  refine wp_hide (fun Q2 hQ2 => ?_)
  have HQ2 := hide hQ2
  clear hQ2 HQ
  go_wp2_with fail
  refine (access_54_1 HK.out HJ0.out HW0.out HN0.out HX0.out xn).mono ?_
  intro e wz he
  cases hz : storeW K.C false 1 s with
  | error c =>
    rw [hz] at he
    obtain ⟨p, rfl, hx⟩ := he
    go_wp2_with fail
    refine HQ2.out _ _ _ ?_
    refine inb_panic (then_panic ?_)
    refine inb_panic (then_panic ?_)
    refine inb_panic (then_panic ?_)
    refine inb_panic (then_panic ?_)
    refine inb_panic (then_panic ?_)
    refine inb_panic ?_
    rw [show (insW K.C ⟨54, xn, 1⟩ s) = .error c by simp [insW, hz]]
    exact ⟨rfl, p, rfl, hx⟩
  | ok sz =>
    rw [hz] at he
    obtain ⟨rfl, vsz, vfz, fvz, Jz, Fz⟩ := he
    have HJz := hide Jz
    have HFz := hide Fz
    clear Jz Fz
    go_wp2_with fail
    refine HQ2.out _ _ _ ?_
    refine inb_pass (by decide) (then_exit ?_)
    refine inb_pass (by decide) (then_exit ?_)
    refine inb_pass (by decide) (then_exit ?_)
    refine inb_pass (by decide) (then_exit ?_)
    refine inb_pass (by decide) (then_exit ?_)
    refine inb_hit ?_
    go_end0
    rw [show (insW K.C ⟨54, xn, 1⟩ s) = .ok sz by simp [insW, hz]]
    exact ⟨rfl, vsz, vfz, fvz, HJz.out, HF0.out.trans HFz.out⟩
set_option maxRecDepth 100000 in
set_option maxHeartbeats 2000000 in
theorem ins_55_0 (hK : KOk K) (h : WJ K at_ s vs vf fv w) (hw : WF s) (hn : s.fr.length ≤ 1000) (hne : s.fr ≠ []) (xn : Int) :
    Calls Tryz.prog 41 #[.pointer (some ⟨K.B, 0, none⟩), .agg #[.int .i64 55, .int .i64 xn, .int .i64 0]] w (Ends K at_ vs vf w (insW K.C ⟨55, xn, 0⟩ s)) := by
  have HK := hide hK
  have HJ0 := hide (h.alloc hK (.cells #[.int .i64 55, .int .i64 xn, .int .i64 0] 44))
  have HF0 := hide ((Fr.refl K vs vf w).alloc (h.size hK) (.cells #[.int .i64 55, .int .i64 xn, .int .i64 0] 44))
  have HR0 := hide (Row.made w #[.int .i64 55, .int .i64 xn, .int .i64 0] 44)
  have hsz := h.lt
  have HS0 := hide h
  have HW0 := hide hw
  have HN0 := hide hn
  have HX0 := hide hne
  clear hK h hw hn hne
  go_enter Tryz.func41, Tryz.ntmps41
  refine wp_seq_k fun K0 hK0 => ?_
  have HK0 := hide hK0
  clear hK0
  go_wp2
  refine HK0.out _ _ ?_
  clear HK0
  refine wp_seq_k fun K0 hK0 => ?_
  have HK0 := hide hK0
  clear hK0
  go_wp2
  refine HK0.out _ _ ?_
  clear HK0
  refine wp_block ?_
  refine wp_seq_k fun KB17 hKB => ?_
  have HB17 := hide hKB
  clear hKB
  refine wp_block ?_
  refine wp_seq_k fun KB16 hKB => ?_
  have HB16 := hide hKB
  clear hKB
  refine wp_block ?_
  refine wp_seq_k fun KB15 hKB => ?_
  have HB15 := hide hKB
  clear hKB
  refine wp_block ?_
  refine wp_seq_k fun KB14 hKB => ?_
  have HB14 := hide hKB
  clear hKB
  refine wp_block ?_
  refine wp_seq_k fun KB13 hKB => ?_
  have HB13 := hide hKB
  clear hKB
  refine wp_block ?_
  refine wp_seq_k fun KB12 hKB => ?_
  have HB12 := hide hKB
  clear hKB
  refine wp_block ?_
  refine wp_seq_k fun KB11 hKB => ?_
  have HB11 := hide hKB
  clear hKB
  refine wp_block ?_
  refine wp_seq_k fun KB10 hKB => ?_
  have HB10 := hide hKB
  clear hKB
  refine wp_block ?_
  refine wp_seq_k fun KB9 hKB => ?_
  have HB9 := hide hKB
  clear hKB
  refine wp_block ?_
  refine wp_seq_k fun KB8 hKB => ?_
  have HB8 := hide hKB
  clear hKB
  refine wp_block ?_
  refine wp_seq_k fun KB7 hKB => ?_
  have HB7 := hide hKB
  clear hKB
  refine wp_block ?_
  refine wp_seq_k fun KB6 hKB => ?_
  have HB6 := hide hKB
  clear hKB
  refine wp_block ?_
  refine wp_seq_k fun KB5 hKB => ?_
  have HB5 := hide hKB
  clear hKB
  refine wp_block ?_
  refine wp_seq_k fun KB4 hKB => ?_
  have HB4 := hide hKB
  clear hKB
  refine wp_block ?_
  refine wp_seq_k fun KB3 hKB => ?_
  have HB3 := hide hKB
  clear hKB
  refine wp_block ?_
  refine wp_seq_k fun KB2 hKB => ?_
  have HB2 := hide hKB
  clear hKB
  refine wp_block ?_
  refine wp_seq_k fun KB1 hKB => ?_
  have HB1 := hide hKB
  clear hKB
  refine wp_block ?_
  refine wp_hide (fun Q' hQ' => ?_)
  have HQ := hide hQ'
  clear hQ'
  go_wp2
  refine HQ.out _ _ _ ?_
  refine inb_pass (by decide) (then_exit ?_)
  refine inb_pass (by decide) (then_exit ?_)
  refine inb_pass (by decide) (then_exit ?_)
  refine inb_pass (by decide) (then_exit ?_)
  refine inb_pass (by decide) (then_exit ?_)
  refine inb_pass (by decide) (then_exit ?_)
  refine inb_pass (by decide) (then_exit ?_)
  refine inb_pass (by decide) (then_exit ?_)
  refine inb_pass (by decide) (then_exit ?_)
  refine inb_pass (by decide) (then_exit ?_)
  refine inb_pass (by decide) (then_exit ?_)
  refine inb_hit (then_norm ?_)
  refine HB12.out _ _ ?_
  refine wp_hide (fun Q2 hQ2 => ?_)
  have HQ2 := hide hQ2
  clear hQ2 HQ
  go_wp2_with fail
  refine (access_55_0 HK.out HJ0.out HW0.out HN0.out HX0.out xn).mono ?_
  intro e wz he
  cases hz : storeW K.C true 0 s with
  | error c =>
    rw [hz] at he
    obtain ⟨p, rfl, hx⟩ := he
    go_wp2_with fail
    refine HQ2.out _ _ _ ?_
    refine inb_panic (then_panic ?_)
    refine inb_panic (then_panic ?_)
    refine inb_panic (then_panic ?_)
    refine inb_panic (then_panic ?_)
    refine inb_panic (then_panic ?_)
    refine inb_panic ?_
    rw [show (insW K.C ⟨55, xn, 0⟩ s) = .error c by simp [insW, hz]]
    exact ⟨rfl, p, rfl, hx⟩
  | ok sz =>
    rw [hz] at he
    obtain ⟨rfl, vsz, vfz, fvz, Jz, Fz⟩ := he
    have HJz := hide Jz
    have HFz := hide Fz
    clear Jz Fz
    go_wp2_with fail
    refine HQ2.out _ _ _ ?_
    refine inb_pass (by decide) (then_exit ?_)
    refine inb_pass (by decide) (then_exit ?_)
    refine inb_pass (by decide) (then_exit ?_)
    refine inb_pass (by decide) (then_exit ?_)
    refine inb_pass (by decide) (then_exit ?_)
    refine inb_hit ?_
    go_end0
    rw [show (insW K.C ⟨55, xn, 0⟩ s) = .ok sz by simp [insW, hz]]
    exact ⟨rfl, vsz, vfz, fvz, HJz.out, HF0.out.trans HFz.out⟩
set_option maxRecDepth 100000 in
set_option maxHeartbeats 2000000 in
theorem ins_55_1 (hK : KOk K) (h : WJ K at_ s vs vf fv w) (hw : WF s) (hn : s.fr.length ≤ 1000) (hne : s.fr ≠ []) (xn : Int) :
    Calls Tryz.prog 41 #[.pointer (some ⟨K.B, 0, none⟩), .agg #[.int .i64 55, .int .i64 xn, .int .i64 1]] w (Ends K at_ vs vf w (insW K.C ⟨55, xn, 1⟩ s)) := by
  have HK := hide hK
  have HJ0 := hide (h.alloc hK (.cells #[.int .i64 55, .int .i64 xn, .int .i64 1] 44))
  have HF0 := hide ((Fr.refl K vs vf w).alloc (h.size hK) (.cells #[.int .i64 55, .int .i64 xn, .int .i64 1] 44))
  have HR0 := hide (Row.made w #[.int .i64 55, .int .i64 xn, .int .i64 1] 44)
  have hsz := h.lt
  have HS0 := hide h
  have HW0 := hide hw
  have HN0 := hide hn
  have HX0 := hide hne
  clear hK h hw hn hne
  go_enter Tryz.func41, Tryz.ntmps41
  refine wp_seq_k fun K0 hK0 => ?_
  have HK0 := hide hK0
  clear hK0
  go_wp2
  refine HK0.out _ _ ?_
  clear HK0
  refine wp_seq_k fun K0 hK0 => ?_
  have HK0 := hide hK0
  clear hK0
  go_wp2
  refine HK0.out _ _ ?_
  clear HK0
  refine wp_block ?_
  refine wp_seq_k fun KB17 hKB => ?_
  have HB17 := hide hKB
  clear hKB
  refine wp_block ?_
  refine wp_seq_k fun KB16 hKB => ?_
  have HB16 := hide hKB
  clear hKB
  refine wp_block ?_
  refine wp_seq_k fun KB15 hKB => ?_
  have HB15 := hide hKB
  clear hKB
  refine wp_block ?_
  refine wp_seq_k fun KB14 hKB => ?_
  have HB14 := hide hKB
  clear hKB
  refine wp_block ?_
  refine wp_seq_k fun KB13 hKB => ?_
  have HB13 := hide hKB
  clear hKB
  refine wp_block ?_
  refine wp_seq_k fun KB12 hKB => ?_
  have HB12 := hide hKB
  clear hKB
  refine wp_block ?_
  refine wp_seq_k fun KB11 hKB => ?_
  have HB11 := hide hKB
  clear hKB
  refine wp_block ?_
  refine wp_seq_k fun KB10 hKB => ?_
  have HB10 := hide hKB
  clear hKB
  refine wp_block ?_
  refine wp_seq_k fun KB9 hKB => ?_
  have HB9 := hide hKB
  clear hKB
  refine wp_block ?_
  refine wp_seq_k fun KB8 hKB => ?_
  have HB8 := hide hKB
  clear hKB
  refine wp_block ?_
  refine wp_seq_k fun KB7 hKB => ?_
  have HB7 := hide hKB
  clear hKB
  refine wp_block ?_
  refine wp_seq_k fun KB6 hKB => ?_
  have HB6 := hide hKB
  clear hKB
  refine wp_block ?_
  refine wp_seq_k fun KB5 hKB => ?_
  have HB5 := hide hKB
  clear hKB
  refine wp_block ?_
  refine wp_seq_k fun KB4 hKB => ?_
  have HB4 := hide hKB
  clear hKB
  refine wp_block ?_
  refine wp_seq_k fun KB3 hKB => ?_
  have HB3 := hide hKB
  clear hKB
  refine wp_block ?_
  refine wp_seq_k fun KB2 hKB => ?_
  have HB2 := hide hKB
  clear hKB
  refine wp_block ?_
  refine wp_seq_k fun KB1 hKB => ?_
  have HB1 := hide hKB
  clear hKB
  refine wp_block ?_
  refine wp_hide (fun Q' hQ' => ?_)
  have HQ := hide hQ'
  clear hQ'
  go_wp2
  refine HQ.out _ _ _ ?_
  refine inb_pass (by decide) (then_exit ?_)
  refine inb_pass (by decide) (then_exit ?_)
  refine inb_pass (by decide) (then_exit ?_)
  refine inb_pass (by decide) (then_exit ?_)
  refine inb_pass (by decide) (then_exit ?_)
  refine inb_pass (by decide) (then_exit ?_)
  refine inb_pass (by decide) (then_exit ?_)
  refine inb_pass (by decide) (then_exit ?_)
  refine inb_pass (by decide) (then_exit ?_)
  refine inb_pass (by decide) (then_exit ?_)
  refine inb_pass (by decide) (then_exit ?_)
  refine inb_hit (then_norm ?_)
  refine HB12.out _ _ ?_
  refine wp_hide (fun Q2 hQ2 => ?_)
  have HQ2 := hide hQ2
  clear hQ2 HQ
  go_wp2_with fail
  refine (access_55_1 HK.out HJ0.out HW0.out HN0.out HX0.out xn).mono ?_
  intro e wz he
  cases hz : storeW K.C true 1 s with
  | error c =>
    rw [hz] at he
    obtain ⟨p, rfl, hx⟩ := he
    go_wp2_with fail
    refine HQ2.out _ _ _ ?_
    refine inb_panic (then_panic ?_)
    refine inb_panic (then_panic ?_)
    refine inb_panic (then_panic ?_)
    refine inb_panic (then_panic ?_)
    refine inb_panic (then_panic ?_)
    refine inb_panic ?_
    rw [show (insW K.C ⟨55, xn, 1⟩ s) = .error c by simp [insW, hz]]
    exact ⟨rfl, p, rfl, hx⟩
  | ok sz =>
    rw [hz] at he
    obtain ⟨rfl, vsz, vfz, fvz, Jz, Fz⟩ := he
    have HJz := hide Jz
    have HFz := hide Fz
    clear Jz Fz
    go_wp2_with fail
    refine HQ2.out _ _ _ ?_
    refine inb_pass (by decide) (then_exit ?_)
    refine inb_pass (by decide) (then_exit ?_)
    refine inb_pass (by decide) (then_exit ?_)
    refine inb_pass (by decide) (then_exit ?_)
    refine inb_pass (by decide) (then_exit ?_)
    refine inb_hit ?_
    go_end0
    rw [show (insW K.C ⟨55, xn, 1⟩ s) = .ok sz by simp [insW, hz]]
    exact ⟨rfl, vsz, vfz, fvz, HJz.out, HF0.out.trans HFz.out⟩
end
end Go.Proofs.YtamofhkmhjckaabGreatDoor

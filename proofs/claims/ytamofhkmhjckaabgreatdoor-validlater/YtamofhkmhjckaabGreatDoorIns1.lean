/-
  The walk's instr, by its first byte: those that name no number.
-/
import Derived.Test.YtamofhkmhjckaabGreatDoorWalk12
import Derived.Test.YtamofhkmhjckaabGreatDoorIns3
import Derived.WalkHide
namespace Go.Proofs.YtamofhkmhjckaabGreatDoor
open Go.RowKit
section
variable {K : Kx} {at_ : Int} {s : Wk} {vs vf : Value} {fv : List (Fm × Value)} {w : World}
set_option maxRecDepth 100000 in
set_option maxHeartbeats 2000000 in
theorem ins_1 (hK : KOk K) (h : WJ K at_ s vs vf fv w) (hw : WF s) (hn : s.fr.length ≤ 1000) (hne : s.fr ≠ []) (xn xm : Int) :
    Calls Tryz.prog 41 #[.pointer (some ⟨K.B, 0, none⟩), .agg #[.int .i64 1, .int .i64 xn, .int .i64 xm]] w (Ends K at_ vs vf w (insW K.C ⟨1, xn, xm⟩ s)) := by
  have HK := hide hK
  have HJ0 := hide (h.alloc hK (.cells #[.int .i64 1, .int .i64 xn, .int .i64 xm] 44))
  have HF0 := hide ((Fr.refl K vs vf w).alloc (h.size hK) (.cells #[.int .i64 1, .int .i64 xn, .int .i64 xm] 44))
  have HR0 := hide (Row.made w #[.int .i64 1, .int .i64 xn, .int .i64 xm] 44)
  have hsz := h.lt
  have HS0 := hide h
  have HW0 := hide hw
  have HN0 := hide hn
  have HX0 := hide hne
  clear hK h hw hn hne
  go_enter Tryz.func41, Tryz.ntmps41
  refine wp_seq_k fun K0 hK0 => ?_
  have HK0 := hide hK0
  clear hK0
  go_wp2
  refine HK0.out _ _ ?_
  clear HK0
  refine wp_seq_k fun K0 hK0 => ?_
  have HK0 := hide hK0
  clear hK0
  go_wp2
  refine HK0.out _ _ ?_
  clear HK0
  refine wp_block ?_
  refine wp_seq_k fun KB17 hKB => ?_
  have HB17 := hide hKB
  clear hKB
  refine wp_block ?_
  refine wp_seq_k fun KB16 hKB => ?_
  have HB16 := hide hKB
  clear hKB
  refine wp_block ?_
  refine wp_seq_k fun KB15 hKB => ?_
  have HB15 := hide hKB
  clear hKB
  refine wp_block ?_
  refine wp_seq_k fun KB14 hKB => ?_
  have HB14 := hide hKB
  clear hKB
  refine wp_block ?_
  refine wp_seq_k fun KB13 hKB => ?_
  have HB13 := hide hKB
  clear hKB
  refine wp_block ?_
  refine wp_seq_k fun KB12 hKB => ?_
  have HB12 := hide hKB
  clear hKB
  refine wp_block ?_
  refine wp_seq_k fun KB11 hKB => ?_
  have HB11 := hide hKB
  clear hKB
  refine wp_block ?_
  refine wp_seq_k fun KB10 hKB => ?_
  have HB10 := hide hKB
  clear hKB
  refine wp_block ?_
  refine wp_seq_k fun KB9 hKB => ?_
  have HB9 := hide hKB
  clear hKB
  refine wp_block ?_
  refine wp_seq_k fun KB8 hKB => ?_
  have HB8 := hide hKB
  clear hKB
  refine wp_block ?_
  refine wp_seq_k fun KB7 hKB => ?_
  have HB7 := hide hKB
  clear hKB
  refine wp_block ?_
  refine wp_seq_k fun KB6 hKB => ?_
  have HB6 := hide hKB
  clear hKB
  refine wp_block ?_
  refine wp_seq_k fun KB5 hKB => ?_
  have HB5 := hide hKB
  clear hKB
  refine wp_block ?_
  refine wp_seq_k fun KB4 hKB => ?_
  have HB4 := hide hKB
  clear hKB
  refine wp_block ?_
  refine wp_seq_k fun KB3 hKB => ?_
  have HB3 := hide hKB
  clear hKB
  refine wp_block ?_
  refine wp_seq_k fun KB2 hKB => ?_
  have HB2 := hide hKB
  clear hKB
  refine wp_block ?_
  refine wp_seq_k fun KB1 hKB => ?_
  have HB1 := hide hKB
  clear hKB
  refine wp_block ?_
  refine wp_hide (fun Q' hQ' => ?_)
  have HQ := hide hQ'
  clear hQ'
  go_wp2
  refine HQ.out _ _ _ ?_
  refine inb_hit (then_norm ?_)
  refine HB1.out _ _ ?_
  refine wp_hide (fun Q2 hQ2 => ?_)
  have HQ2 := hide hQ2
  clear hQ2 HQ
  go_wp2_with fail
  refine HQ2.out _ _ _ ?_
  refine inb_pass (by decide) (then_exit ?_)
  refine inb_pass (by decide) (then_exit ?_)
  refine inb_pass (by decide) (then_exit ?_)
  refine inb_pass (by decide) (then_exit ?_)
  refine inb_pass (by decide) (then_exit ?_)
  refine inb_pass (by decide) (then_exit ?_)
  refine inb_pass (by decide) (then_exit ?_)
  refine inb_pass (by decide) (then_exit ?_)
  refine inb_pass (by decide) (then_exit ?_)
  refine inb_pass (by decide) (then_exit ?_)
  refine inb_pass (by decide) (then_exit ?_)
  refine inb_pass (by decide) (then_exit ?_)
  refine inb_pass (by decide) (then_exit ?_)
  refine inb_pass (by decide) (then_exit ?_)
  refine inb_pass (by decide) (then_exit ?_)
  refine inb_pass (by decide) (then_exit ?_)
  refine inb_hit ?_
  go_end0
  rw [show (insW K.C ⟨1, xn, xm⟩ s) = .ok s by simp [insW]]
  exact ⟨rfl, _, _, _, HJ0.out, HF0.out⟩
set_option maxRecDepth 100000 in
set_option maxHeartbeats 2000000 in
theorem ins_0 (hK : KOk K) (h : WJ K at_ s vs vf fv w) (hw : WF s) (hn : s.fr.length ≤ 1000) (hne : s.fr ≠ []) (xn xm : Int) :
    Calls Tryz.prog 41 #[.pointer (some ⟨K.B, 0, none⟩), .agg #[.int .i64 0, .int .i64 xn, .int .i64 xm]] w (Ends K at_ vs vf w (insW K.C ⟨0, xn, xm⟩ s)) := by
  have HK := hide hK
  have HJ0 := hide (h.alloc hK (.cells #[.int .i64 0, .int .i64 xn, .int .i64 xm] 44))
  have HF0 := hide ((Fr.refl K vs vf w).alloc (h.size hK) (.cells #[.int .i64 0, .int .i64 xn, .int .i64 xm] 44))
  have HR0 := hide (Row.made w #[.int .i64 0, .int .i64 xn, .int .i64 xm] 44)
  have hsz := h.lt
  have HS0 := hide h
  have HW0 := hide hw
  have HN0 := hide hn
  have HX0 := hide hne
  clear hK h hw hn hne
  go_enter Tryz.func41, Tryz.ntmps41
  refine wp_seq_k fun K0 hK0 => ?_
  have HK0 := hide hK0
  clear hK0
  go_wp2
  refine HK0.out _ _ ?_
  clear HK0
  refine wp_seq_k fun K0 hK0 => ?_
  have HK0 := hide hK0
  clear hK0
  go_wp2
  refine HK0.out _ _ ?_
  clear HK0
  refine wp_block ?_
  refine wp_seq_k fun KB17 hKB => ?_
  have HB17 := hide hKB
  clear hKB
  refine wp_block ?_
  refine wp_seq_k fun KB16 hKB => ?_
  have HB16 := hide hKB
  clear hKB
  refine wp_block ?_
  refine wp_seq_k fun KB15 hKB => ?_
  have HB15 := hide hKB
  clear hKB
  refine wp_block ?_
  refine wp_seq_k fun KB14 hKB => ?_
  have HB14 := hide hKB
  clear hKB
  refine wp_block ?_
  refine wp_seq_k fun KB13 hKB => ?_
  have HB13 := hide hKB
  clear hKB
  refine wp_block ?_
  refine wp_seq_k fun KB12 hKB => ?_
  have HB12 := hide hKB
  clear hKB
  refine wp_block ?_
  refine wp_seq_k fun KB11 hKB => ?_
  have HB11 := hide hKB
  clear hKB
  refine wp_block ?_
  refine wp_seq_k fun KB10 hKB => ?_
  have HB10 := hide hKB
  clear hKB
  refine wp_block ?_
  refine wp_seq_k fun KB9 hKB => ?_
  have HB9 := hide hKB
  clear hKB
  refine wp_block ?_
  refine wp_seq_k fun KB8 hKB => ?_
  have HB8 := hide hKB
  clear hKB
  refine wp_block ?_
  refine wp_seq_k fun KB7 hKB => ?_
  have HB7 := hide hKB
  clear hKB
  refine wp_block ?_
  refine wp_seq_k fun KB6 hKB => ?_
  have HB6 := hide hKB
  clear hKB
  refine wp_block ?_
  refine wp_seq_k fun KB5 hKB => ?_
  have HB5 := hide hKB
  clear hKB
  refine wp_block ?_
  refine wp_seq_k fun KB4 hKB => ?_
  have HB4 := hide hKB
  clear hKB
  refine wp_block ?_
  refine wp_seq_k fun KB3 hKB => ?_
  have HB3 := hide hKB
  clear hKB
  refine wp_block ?_
  refine wp_seq_k fun KB2 hKB => ?_
  have HB2 := hide hKB
  clear hKB
  refine wp_block ?_
  refine wp_seq_k fun KB1 hKB => ?_
  have HB1 := hide hKB
  clear hKB
  refine wp_block ?_
  refine wp_hide (fun Q' hQ' => ?_)
  have HQ := hide hQ'
  clear hQ'
  go_wp2
  refine HQ.out _ _ _ ?_
  refine inb_pass (by decide) (then_exit ?_)
  refine inb_hit (then_norm ?_)
  refine HB2.out _ _ ?_
  refine wp_hide (fun Q2 hQ2 => ?_)
  have HQ2 := hide hQ2
  clear hQ2 HQ
  go_wp2_with fail
  refine (die_any HK.out HJ0.out HW0.out HN0.out HX0.out).mono ?_
  intro e wz he
  obtain ⟨rfl, vsz, vfz, fvz, Jz, Fz⟩ := he
  have HJz := hide Jz
  have HFz := hide Fz
  clear Jz Fz
  go_wp2_with fail
  refine HQ2.out _ _ _ ?_
  refine inb_pass (by decide) (then_exit ?_)
  refine inb_pass (by decide) (then_exit ?_)
  refine inb_pass (by decide) (then_exit ?_)
  refine inb_pass (by decide) (then_exit ?_)
  refine inb_pass (by decide) (then_exit ?_)
  refine inb_pass (by decide) (then_exit ?_)
  refine inb_pass (by decide) (then_exit ?_)
  refine inb_pass (by decide) (then_exit ?_)
  refine inb_pass (by decide) (then_exit ?_)
  refine inb_pass (by decide) (then_exit ?_)
  refine inb_pass (by decide) (then_exit ?_)
  refine inb_pass (by decide) (then_exit ?_)
  refine inb_pass (by decide) (then_exit ?_)
  refine inb_pass (by decide) (then_exit ?_)
  refine inb_pass (by decide) (then_exit ?_)
  refine inb_hit ?_
  go_end0
  rw [show (insW K.C ⟨0, xn, xm⟩ s) = .ok (dieW s) by simp [insW]]
  exact ⟨rfl, vsz, vfz, fvz, HJz.out, HF0.out.trans HFz.out⟩
set_option maxRecDepth 100000 in
set_option maxHeartbeats 2000000 in
theorem ins_4 (hK : KOk K) (h : WJ K at_ s vs vf fv w) (hw : WF s) (hn : s.fr.length ≤ 1000) (hne : s.fr ≠ []) (xn xm : Int) (hxm : -1000 ≤ xm ∧ xm ≤ 1000) :
    Calls Tryz.prog 41 #[.pointer (some ⟨K.B, 0, none⟩), .agg #[.int .i64 4, .int .i64 xn, .int .i64 xm]] w (Ends K at_ vs vf w (insW K.C ⟨4, xn, xm⟩ s)) := by
  have HK := hide hK
  have HJ0 := hide (h.alloc hK (.cells #[.int .i64 4, .int .i64 xn, .int .i64 xm] 44))
  have HF0 := hide ((Fr.refl K vs vf w).alloc (h.size hK) (.cells #[.int .i64 4, .int .i64 xn, .int .i64 xm] 44))
  have HR0 := hide (Row.made w #[.int .i64 4, .int .i64 xn, .int .i64 xm] 44)
  have hsz := h.lt
  have HS0 := hide h
  have HW0 := hide hw
  have HN0 := hide hn
  have HX0 := hide hne
  clear hK h hw hn hne
  go_enter Tryz.func41, Tryz.ntmps41
  refine wp_seq_k fun K0 hK0 => ?_
  have HK0 := hide hK0
  clear hK0
  go_wp2
  refine HK0.out _ _ ?_
  clear HK0
  refine wp_seq_k fun K0 hK0 => ?_
  have HK0 := hide hK0
  clear hK0
  go_wp2
  refine HK0.out _ _ ?_
  clear HK0
  refine wp_block ?_
  refine wp_seq_k fun KB17 hKB => ?_
  have HB17 := hide hKB
  clear hKB
  refine wp_block ?_
  refine wp_seq_k fun KB16 hKB => ?_
  have HB16 := hide hKB
  clear hKB
  refine wp_block ?_
  refine wp_seq_k fun KB15 hKB => ?_
  have HB15 := hide hKB
  clear hKB
  refine wp_block ?_
  refine wp_seq_k fun KB14 hKB => ?_
  have HB14 := hide hKB
  clear hKB
  refine wp_block ?_
  refine wp_seq_k fun KB13 hKB => ?_
  have HB13 := hide hKB
  clear hKB
  refine wp_block ?_
  refine wp_seq_k fun KB12 hKB => ?_
  have HB12 := hide hKB
  clear hKB
  refine wp_block ?_
  refine wp_seq_k fun KB11 hKB => ?_
  have HB11 := hide hKB
  clear hKB
  refine wp_block ?_
  refine wp_seq_k fun KB10 hKB => ?_
  have HB10 := hide hKB
  clear hKB
  refine wp_block ?_
  refine wp_seq_k fun KB9 hKB => ?_
  have HB9 := hide hKB
  clear hKB
  refine wp_block ?_
  refine wp_seq_k fun KB8 hKB => ?_
  have HB8 := hide hKB
  clear hKB
  refine wp_block ?_
  refine wp_seq_k fun KB7 hKB => ?_
  have HB7 := hide hKB
  clear hKB
  refine wp_block ?_
  refine wp_seq_k fun KB6 hKB => ?_
  have HB6 := hide hKB
  clear hKB
  refine wp_block ?_
  refine wp_seq_k fun KB5 hKB => ?_
  have HB5 := hide hKB
  clear hKB
  refine wp_block ?_
  refine wp_seq_k fun KB4 hKB => ?_
  have HB4 := hide hKB
  clear hKB
  refine wp_block ?_
  refine wp_seq_k fun KB3 hKB => ?_
  have HB3 := hide hKB
  clear hKB
  refine wp_block ?_
  refine wp_seq_k fun KB2 hKB => ?_
  have HB2 := hide hKB
  clear hKB
  refine wp_block ?_
  refine wp_seq_k fun KB1 hKB => ?_
  have HB1 := hide hKB
  clear hKB
  refine wp_block ?_
  refine wp_hide (fun Q' hQ' => ?_)
  have HQ := hide hQ'
  clear hQ'
  go_wp2
  refine HQ.out _ _ _ ?_
  refine inb_pass (by decide) (then_exit ?_)
  refine inb_pass (by decide) (then_exit ?_)
  refine inb_hit (then_norm ?_)
  refine HB3.out _ _ ?_
  refine wp_hide (fun Q2 hQ2 => ?_)
  have HQ2 := hide hQ2
  clear hQ2 HQ
  go_wp2_with fail
  refine (popTo_1 HK.out HJ0.out HW0.out HN0.out HX0.out 0 ⟨by decide, by decide⟩ _ (by simp)).mono ?_
  intro e w1 he
  cases h1 : popTo [0] s with
  | error c =>
    rw [h1] at he
    obtain ⟨p, rfl, hx⟩ := he
    go_wp2_with fail
    refine HQ2.out _ _ _ ?_
    refine inb_panic (then_panic ?_)
    refine inb_panic (then_panic ?_)
    refine inb_panic (then_panic ?_)
    refine inb_panic (then_panic ?_)
    refine inb_panic (then_panic ?_)
    refine inb_panic (then_panic ?_)
    refine inb_panic (then_panic ?_)
    refine inb_panic (then_panic ?_)
    refine inb_panic (then_panic ?_)
    refine inb_panic (then_panic ?_)
    refine inb_panic (then_panic ?_)
    refine inb_panic (then_panic ?_)
    refine inb_panic (then_panic ?_)
    refine inb_panic (then_panic ?_)
    refine inb_panic ?_
    rw [show (insW K.C ⟨4, xn, xm⟩ s) = .error c by simp [insW, bnd_err, h1]]
    exact ⟨rfl, p, rfl, hx⟩
  | ok q =>
    obtain ⟨b1, s1⟩ := q
    rw [h1] at he
    obtain ⟨rfl, vs1, vf1, fv1, J1, F1⟩ := he
    obtain ⟨hw1, e1, _⟩ := popTo_ok HW0.out h1
    have HW1 := hide hw1
    have HN1 := hide (show s1.fr.length ≤ 1000 by rw [e1]; exact HN0.out)
    have HX1 := hide (show s1.fr ≠ [] by rw [e1]; exact HX0.out)
    have HE1 := hide e1
    clear hw1 e1
    have HJ1 := hide J1
    have HF1 := hide (HF0.out.trans F1)
    have H1 := hide h1
    have r1 := HR0.out.keep HJ0.out F1 (by decide) (by decide) (by decide)
    have HR1 := hide r1
    have x0_1 := r1.c 0 _ rfl
    have x1_1 := r1.c 1 _ rfl
    have x2_1 := r1.c 2 _ rfl
    clear r1
    clear J1 F1 h1
    go_wp2_with fail
    refine HQ2.out _ _ _ ?_
    refine inb_norm (then_norm ?_)
    refine HB4.out _ _ ?_
    refine wp_hide (fun Q3 hQ3 => ?_)
    have HQ2 := hide hQ3
    clear hQ3
    go_wp2_with fail
    refine (open_any HK.out HJ1.out HN1.out ⟨4, xn, xm⟩ hxm).mono ?_
    intro e wz he
    obtain ⟨rfl, vsz, vfz, fvz, Jz, Fz⟩ := he
    have HJz := hide Jz
    have HFz := hide Fz
    clear Jz Fz
    go_wp2_with fail
    refine HQ2.out _ _ _ ?_
    refine inb_pass (by decide) (then_exit ?_)
    refine inb_pass (by decide) (then_exit ?_)
    refine inb_pass (by decide) (then_exit ?_)
    refine inb_pass (by decide) (then_exit ?_)
    refine inb_pass (by decide) (then_exit ?_)
    refine inb_pass (by decide) (then_exit ?_)
    refine inb_pass (by decide) (then_exit ?_)
    refine inb_pass (by decide) (then_exit ?_)
    refine inb_pass (by decide) (then_exit ?_)
    refine inb_pass (by decide) (then_exit ?_)
    refine inb_pass (by decide) (then_exit ?_)
    refine inb_pass (by decide) (then_exit ?_)
    refine inb_pass (by decide) (then_exit ?_)
    refine inb_hit ?_
    go_end0
    rw [show (insW K.C ⟨4, xn, xm⟩ s) = .ok (openW ⟨4, xn, xm⟩ s1) by simp [insW, H1.out, bnd_ok]]
    exact ⟨rfl, vsz, vfz, fvz, HJz.out, HF1.out.trans HFz.out⟩
set_option maxRecDepth 100000 in
set_option maxHeartbeats 2000000 in
theorem ins_2 (hK : KOk K) (h : WJ K at_ s vs vf fv w) (hw : WF s) (hn : s.fr.length ≤ 1000) (hne : s.fr ≠ []) (xn xm : Int) (hxm : -1000 ≤ xm ∧ xm ≤ 1000) :
    Calls Tryz.prog 41 #[.pointer (some ⟨K.B, 0, none⟩), .agg #[.int .i64 2, .int .i64 xn, .int .i64 xm]] w (Ends K at_ vs vf w (insW K.C ⟨2, xn, xm⟩ s)) := by
  have HK := hide hK
  have HJ0 := hide (h.alloc hK (.cells #[.int .i64 2, .int .i64 xn, .int .i64 xm] 44))
  have HF0 := hide ((Fr.refl K vs vf w).alloc (h.size hK) (.cells #[.int .i64 2, .int .i64 xn, .int .i64 xm] 44))
  have HR0 := hide (Row.made w #[.int .i64 2, .int .i64 xn, .int .i64 xm] 44)
  have hsz := h.lt
  have HS0 := hide h
  have HW0 := hide hw
  have HN0 := hide hn
  have HX0 := hide hne
  clear hK h hw hn hne
  go_enter Tryz.func41, Tryz.ntmps41
  refine wp_seq_k fun K0 hK0 => ?_
  have HK0 := hide hK0
  clear hK0
  go_wp2
  refine HK0.out _ _ ?_
  clear HK0
  refine wp_seq_k fun K0 hK0 => ?_
  have HK0 := hide hK0
  clear hK0
  go_wp2
  refine HK0.out _ _ ?_
  clear HK0
  refine wp_block ?_
  refine wp_seq_k fun KB17 hKB => ?_
  have HB17 := hide hKB
  clear hKB
  refine wp_block ?_
  refine wp_seq_k fun KB16 hKB => ?_
  have HB16 := hide hKB
  clear hKB
  refine wp_block ?_
  refine wp_seq_k fun KB15 hKB => ?_
  have HB15 := hide hKB
  clear hKB
  refine wp_block ?_
  refine wp_seq_k fun KB14 hKB => ?_
  have HB14 := hide hKB
  clear hKB
  refine wp_block ?_
  refine wp_seq_k fun KB13 hKB => ?_
  have HB13 := hide hKB
  clear hKB
  refine wp_block ?_
  refine wp_seq_k fun KB12 hKB => ?_
  have HB12 := hide hKB
  clear hKB
  refine wp_block ?_
  refine wp_seq_k fun KB11 hKB => ?_
  have HB11 := hide hKB
  clear hKB
  refine wp_block ?_
  refine wp_seq_k fun KB10 hKB => ?_
  have HB10 := hide hKB
  clear hKB
  refine wp_block ?_
  refine wp_seq_k fun KB9 hKB => ?_
  have HB9 := hide hKB
  clear hKB
  refine wp_block ?_
  refine wp_seq_k fun KB8 hKB => ?_
  have HB8 := hide hKB
  clear hKB
  refine wp_block ?_
  refine wp_seq_k fun KB7 hKB => ?_
  have HB7 := hide hKB
  clear hKB
  refine wp_block ?_
  refine wp_seq_k fun KB6 hKB => ?_
  have HB6 := hide hKB
  clear hKB
  refine wp_block ?_
  refine wp_seq_k fun KB5 hKB => ?_
  have HB5 := hide hKB
  clear hKB
  refine wp_block ?_
  refine wp_seq_k fun KB4 hKB => ?_
  have HB4 := hide hKB
  clear hKB
  refine wp_block ?_
  refine wp_seq_k fun KB3 hKB => ?_
  have HB3 := hide hKB
  clear hKB
  refine wp_block ?_
  refine wp_seq_k fun KB2 hKB => ?_
  have HB2 := hide hKB
  clear hKB
  refine wp_block ?_
  refine wp_seq_k fun KB1 hKB => ?_
  have HB1 := hide hKB
  clear hKB
  refine wp_block ?_
  refine wp_hide (fun Q' hQ' => ?_)
  have HQ := hide hQ'
  clear hQ'
  go_wp2
  refine HQ.out _ _ _ ?_
  refine inb_pass (by decide) (then_exit ?_)
  refine inb_pass (by decide) (then_exit ?_)
  refine inb_pass (by decide) (then_exit ?_)
  refine inb_hit (then_norm ?_)
  refine HB4.out _ _ ?_
  refine wp_hide (fun Q2 hQ2 => ?_)
  have HQ2 := hide hQ2
  clear hQ2 HQ
  go_wp2_with fail
  refine (open_any HK.out HJ0.out HN0.out ⟨2, xn, xm⟩ hxm).mono ?_
  intro e wz he
  obtain ⟨rfl, vsz, vfz, fvz, Jz, Fz⟩ := he
  have HJz := hide Jz
  have HFz := hide Fz
  clear Jz Fz
  go_wp2_with fail
  refine HQ2.out _ _ _ ?_
  refine inb_pass (by decide) (then_exit ?_)
  refine inb_pass (by decide) (then_exit ?_)
  refine inb_pass (by decide) (then_exit ?_)
  refine inb_pass (by decide) (then_exit ?_)
  refine inb_pass (by decide) (then_exit ?_)
  refine inb_pass (by decide) (then_exit ?_)
  refine inb_pass (by decide) (then_exit ?_)
  refine inb_pass (by decide) (then_exit ?_)
  refine inb_pass (by decide) (then_exit ?_)
  refine inb_pass (by decide) (then_exit ?_)
  refine inb_pass (by decide) (then_exit ?_)
  refine inb_pass (by decide) (then_exit ?_)
  refine inb_pass (by decide) (then_exit ?_)
  refine inb_hit ?_
  go_end0
  rw [show (insW K.C ⟨2, xn, xm⟩ s) = .ok (openW ⟨2, xn, xm⟩ s) by simp [insW]]
  exact ⟨rfl, vsz, vfz, fvz, HJz.out, HF0.out.trans HFz.out⟩
set_option maxRecDepth 100000 in
set_option maxHeartbeats 2000000 in
theorem ins_3 (hK : KOk K) (h : WJ K at_ s vs vf fv w) (hw : WF s) (hn : s.fr.length ≤ 1000) (hne : s.fr ≠ []) (xn xm : Int) (hxm : -1000 ≤ xm ∧ xm ≤ 1000) :
    Calls Tryz.prog 41 #[.pointer (some ⟨K.B, 0, none⟩), .agg #[.int .i64 3, .int .i64 xn, .int .i64 xm]] w (Ends K at_ vs vf w (insW K.C ⟨3, xn, xm⟩ s)) := by
  have HK := hide hK
  have HJ0 := hide (h.alloc hK (.cells #[.int .i64 3, .int .i64 xn, .int .i64 xm] 44))
  have HF0 := hide ((Fr.refl K vs vf w).alloc (h.size hK) (.cells #[.int .i64 3, .int .i64 xn, .int .i64 xm] 44))
  have HR0 := hide (Row.made w #[.int .i64 3, .int .i64 xn, .int .i64 xm] 44)
  have hsz := h.lt
  have HS0 := hide h
  have HW0 := hide hw
  have HN0 := hide hn
  have HX0 := hide hne
  clear hK h hw hn hne
  go_enter Tryz.func41, Tryz.ntmps41
  refine wp_seq_k fun K0 hK0 => ?_
  have HK0 := hide hK0
  clear hK0
  go_wp2
  refine HK0.out _ _ ?_
  clear HK0
  refine wp_seq_k fun K0 hK0 => ?_
  have HK0 := hide hK0
  clear hK0
  go_wp2
  refine HK0.out _ _ ?_
  clear HK0
  refine wp_block ?_
  refine wp_seq_k fun KB17 hKB => ?_
  have HB17 := hide hKB
  clear hKB
  refine wp_block ?_
  refine wp_seq_k fun KB16 hKB => ?_
  have HB16 := hide hKB
  clear hKB
  refine wp_block ?_
  refine wp_seq_k fun KB15 hKB => ?_
  have HB15 := hide hKB
  clear hKB
  refine wp_block ?_
  refine wp_seq_k fun KB14 hKB => ?_
  have HB14 := hide hKB
  clear hKB
  refine wp_block ?_
  refine wp_seq_k fun KB13 hKB => ?_
  have HB13 := hide hKB
  clear hKB
  refine wp_block ?_
  refine wp_seq_k fun KB12 hKB => ?_
  have HB12 := hide hKB
  clear hKB
  refine wp_block ?_
  refine wp_seq_k fun KB11 hKB => ?_
  have HB11 := hide hKB
  clear hKB
  refine wp_block ?_
  refine wp_seq_k fun KB10 hKB => ?_
  have HB10 := hide hKB
  clear hKB
  refine wp_block ?_
  refine wp_seq_k fun KB9 hKB => ?_
  have HB9 := hide hKB
  clear hKB
  refine wp_block ?_
  refine wp_seq_k fun KB8 hKB => ?_
  have HB8 := hide hKB
  clear hKB
  refine wp_block ?_
  refine wp_seq_k fun KB7 hKB => ?_
  have HB7 := hide hKB
  clear hKB
  refine wp_block ?_
  refine wp_seq_k fun KB6 hKB => ?_
  have HB6 := hide hKB
  clear hKB
  refine wp_block ?_
  refine wp_seq_k fun KB5 hKB => ?_
  have HB5 := hide hKB
  clear hKB
  refine wp_block ?_
  refine wp_seq_k fun KB4 hKB => ?_
  have HB4 := hide hKB
  clear hKB
  refine wp_block ?_
  refine wp_seq_k fun KB3 hKB => ?_
  have HB3 := hide hKB
  clear hKB
  refine wp_block ?_
  refine wp_seq_k fun KB2 hKB => ?_
  have HB2 := hide hKB
  clear hKB
  refine wp_block ?_
  refine wp_seq_k fun KB1 hKB => ?_
  have HB1 := hide hKB
  clear hKB
  refine wp_block ?_
  refine wp_hide (fun Q' hQ' => ?_)
  have HQ := hide hQ'
  clear hQ'
  go_wp2
  refine HQ.out _ _ _ ?_
  refine inb_pass (by decide) (then_exit ?_)
  refine inb_pass (by decide) (then_exit ?_)
  refine inb_pass (by decide) (then_exit ?_)
  refine inb_hit (then_norm ?_)
  refine HB4.out _ _ ?_
  refine wp_hide (fun Q2 hQ2 => ?_)
  have HQ2 := hide hQ2
  clear hQ2 HQ
  go_wp2_with fail
  refine (open_any HK.out HJ0.out HN0.out ⟨3, xn, xm⟩ hxm).mono ?_
  intro e wz he
  obtain ⟨rfl, vsz, vfz, fvz, Jz, Fz⟩ := he
  have HJz := hide Jz
  have HFz := hide Fz
  clear Jz Fz
  go_wp2_with fail
  refine HQ2.out _ _ _ ?_
  refine inb_pass (by decide) (then_exit ?_)
  refine inb_pass (by decide) (then_exit ?_)
  refine inb_pass (by decide) (then_exit ?_)
  refine inb_pass (by decide) (then_exit ?_)
  refine inb_pass (by decide) (then_exit ?_)
  refine inb_pass (by decide) (then_exit ?_)
  refine inb_pass (by decide) (then_exit ?_)
  refine inb_pass (by decide) (then_exit ?_)
  refine inb_pass (by decide) (then_exit ?_)
  refine inb_pass (by decide) (then_exit ?_)
  refine inb_pass (by decide) (then_exit ?_)
  refine inb_pass (by decide) (then_exit ?_)
  refine inb_pass (by decide) (then_exit ?_)
  refine inb_hit ?_
  go_end0
  rw [show (insW K.C ⟨3, xn, xm⟩ s) = .ok (openW ⟨3, xn, xm⟩ s) by simp [insW]]
  exact ⟨rfl, vsz, vfz, fvz, HJz.out, HF0.out.trans HFz.out⟩
set_option maxRecDepth 100000 in
set_option maxHeartbeats 2000000 in
theorem ins_5 (hK : KOk K) (h : WJ K at_ s vs vf fv w) (hw : WF s) (hn : s.fr.length ≤ 1000) (hne : s.fr ≠ []) (xn xm : Int) :
    Calls Tryz.prog 41 #[.pointer (some ⟨K.B, 0, none⟩), .agg #[.int .i64 5, .int .i64 xn, .int .i64 xm]] w (Ends K at_ vs vf w (insW K.C ⟨5, xn, xm⟩ s)) := by
  have HK := hide hK
  have HJ0 := hide (h.alloc hK (.cells #[.int .i64 5, .int .i64 xn, .int .i64 xm] 44))
  have HF0 := hide ((Fr.refl K vs vf w).alloc (h.size hK) (.cells #[.int .i64 5, .int .i64 xn, .int .i64 xm] 44))
  have HR0 := hide (Row.made w #[.int .i64 5, .int .i64 xn, .int .i64 xm] 44)
  have hsz := h.lt
  have HS0 := hide h
  have HW0 := hide hw
  have HN0 := hide hn
  have HX0 := hide hne
  clear hK h hw hn hne
  go_enter Tryz.func41, Tryz.ntmps41
  refine wp_seq_k fun K0 hK0 => ?_
  have HK0 := hide hK0
  clear hK0
  go_wp2
  refine HK0.out _ _ ?_
  clear HK0
  refine wp_seq_k fun K0 hK0 => ?_
  have HK0 := hide hK0
  clear hK0
  go_wp2
  refine HK0.out _ _ ?_
  clear HK0
  refine wp_block ?_
  refine wp_seq_k fun KB17 hKB => ?_
  have HB17 := hide hKB
  clear hKB
  refine wp_block ?_
  refine wp_seq_k fun KB16 hKB => ?_
  have HB16 := hide hKB
  clear hKB
  refine wp_block ?_
  refine wp_seq_k fun KB15 hKB => ?_
  have HB15 := hide hKB
  clear hKB
  refine wp_block ?_
  refine wp_seq_k fun KB14 hKB => ?_
  have HB14 := hide hKB
  clear hKB
  refine wp_block ?_
  refine wp_seq_k fun KB13 hKB => ?_
  have HB13 := hide hKB
  clear hKB
  refine wp_block ?_
  refine wp_seq_k fun KB12 hKB => ?_
  have HB12 := hide hKB
  clear hKB
  refine wp_block ?_
  refine wp_seq_k fun KB11 hKB => ?_
  have HB11 := hide hKB
  clear hKB
  refine wp_block ?_
  refine wp_seq_k fun KB10 hKB => ?_
  have HB10 := hide hKB
  clear hKB
  refine wp_block ?_
  refine wp_seq_k fun KB9 hKB => ?_
  have HB9 := hide hKB
  clear hKB
  refine wp_block ?_
  refine wp_seq_k fun KB8 hKB => ?_
  have HB8 := hide hKB
  clear hKB
  refine wp_block ?_
  refine wp_seq_k fun KB7 hKB => ?_
  have HB7 := hide hKB
  clear hKB
  refine wp_block ?_
  refine wp_seq_k fun KB6 hKB => ?_
  have HB6 := hide hKB
  clear hKB
  refine wp_block ?_
  refine wp_seq_k fun KB5 hKB => ?_
  have HB5 := hide hKB
  clear hKB
  refine wp_block ?_
  refine wp_seq_k fun KB4 hKB => ?_
  have HB4 := hide hKB
  clear hKB
  refine wp_block ?_
  refine wp_seq_k fun KB3 hKB => ?_
  have HB3 := hide hKB
  clear hKB
  refine wp_block ?_
  refine wp_seq_k fun KB2 hKB => ?_
  have HB2 := hide hKB
  clear hKB
  refine wp_block ?_
  refine wp_seq_k fun KB1 hKB => ?_
  have HB1 := hide hKB
  clear hKB
  refine wp_block ?_
  refine wp_hide (fun Q' hQ' => ?_)
  have HQ := hide hQ'
  clear hQ'
  go_wp2
  refine HQ.out _ _ _ ?_
  refine inb_pass (by decide) (then_exit ?_)
  refine inb_pass (by decide) (then_exit ?_)
  refine inb_pass (by decide) (then_exit ?_)
  refine inb_pass (by decide) (then_exit ?_)
  refine inb_hit (then_norm ?_)
  refine HB5.out _ _ ?_
  refine wp_hide (fun Q2 hQ2 => ?_)
  have HQ2 := hide hQ2
  clear hQ2 HQ
  go_wp2_with fail
  refine (turn_any HK.out HJ0.out HW0.out HN0.out HX0.out).mono ?_
  intro e wz he
  cases hz : turnW s with
  | error c =>
    rw [hz] at he
    obtain ⟨p, rfl, hx⟩ := he
    go_wp2_with fail
    refine HQ2.out _ _ _ ?_
    refine inb_panic (then_panic ?_)
    refine inb_panic (then_panic ?_)
    refine inb_panic (then_panic ?_)
    refine inb_panic (then_panic ?_)
    refine inb_panic (then_panic ?_)
    refine inb_panic (then_panic ?_)
    refine inb_panic (then_panic ?_)
    refine inb_panic (then_panic ?_)
    refine inb_panic (then_panic ?_)
    refine inb_panic (then_panic ?_)
    refine inb_panic (then_panic ?_)
    refine inb_panic (then_panic ?_)
    refine inb_panic ?_
    rw [show (insW K.C ⟨5, xn, xm⟩ s) = .error c by simp [insW, hz]]
    exact ⟨rfl, p, rfl, hx⟩
  | ok sz =>
    rw [hz] at he
    obtain ⟨rfl, vsz, vfz, fvz, Jz, Fz⟩ := he
    have HJz := hide Jz
    have HFz := hide Fz
    clear Jz Fz
    go_wp2_with fail
    refine HQ2.out _ _ _ ?_
    refine inb_pass (by decide) (then_exit ?_)
    refine inb_pass (by decide) (then_exit ?_)
    refine inb_pass (by decide) (then_exit ?_)
    refine inb_pass (by decide) (then_exit ?_)
    refine inb_pass (by decide) (then_exit ?_)
    refine inb_pass (by decide) (then_exit ?_)
    refine inb_pass (by decide) (then_exit ?_)
    refine inb_pass (by decide) (then_exit ?_)
    refine inb_pass (by decide) (then_exit ?_)
    refine inb_pass (by decide) (then_exit ?_)
    refine inb_pass (by decide) (then_exit ?_)
    refine inb_pass (by decide) (then_exit ?_)
    refine inb_hit ?_
    go_end0
    rw [show (insW K.C ⟨5, xn, xm⟩ s) = .ok sz by simp [insW, hz]]
    exact ⟨rfl, vsz, vfz, fvz, HJz.out, HF0.out.trans HFz.out⟩
set_option maxRecDepth 100000 in
set_option maxHeartbeats 2000000 in
theorem ins_11 (hK : KOk K) (h : WJ K at_ s vs vf fv w) (hw : WF s) (hn : s.fr.length ≤ 1000) (hne : s.fr ≠ []) (xn xm : Int) :
    Calls Tryz.prog 41 #[.pointer (some ⟨K.B, 0, none⟩), .agg #[.int .i64 11, .int .i64 xn, .int .i64 xm]] w (Ends K at_ vs vf w (insW K.C ⟨11, xn, xm⟩ s)) := by
  have HK := hide hK
  have HJ0 := hide (h.alloc hK (.cells #[.int .i64 11, .int .i64 xn, .int .i64 xm] 44))
  have HF0 := hide ((Fr.refl K vs vf w).alloc (h.size hK) (.cells #[.int .i64 11, .int .i64 xn, .int .i64 xm] 44))
  have HR0 := hide (Row.made w #[.int .i64 11, .int .i64 xn, .int .i64 xm] 44)
  have hsz := h.lt
  have HS0 := hide h
  have HW0 := hide hw
  have HN0 := hide hn
  have HX0 := hide hne
  clear hK h hw hn hne
  go_enter Tryz.func41, Tryz.ntmps41
  refine wp_seq_k fun K0 hK0 => ?_
  have HK0 := hide hK0
  clear hK0
  go_wp2
  refine HK0.out _ _ ?_
  clear HK0
  refine wp_seq_k fun K0 hK0 => ?_
  have HK0 := hide hK0
  clear hK0
  go_wp2
  refine HK0.out _ _ ?_
  clear HK0
  refine wp_block ?_
  refine wp_seq_k fun KB17 hKB => ?_
  have HB17 := hide hKB
  clear hKB
  refine wp_block ?_
  refine wp_seq_k fun KB16 hKB => ?_
  have HB16 := hide hKB
  clear hKB
  refine wp_block ?_
  refine wp_seq_k fun KB15 hKB => ?_
  have HB15 := hide hKB
  clear hKB
  refine wp_block ?_
  refine wp_seq_k fun KB14 hKB => ?_
  have HB14 := hide hKB
  clear hKB
  refine wp_block ?_
  refine wp_seq_k fun KB13 hKB => ?_
  have HB13 := hide hKB
  clear hKB
  refine wp_block ?_
  refine wp_seq_k fun KB12 hKB => ?_
  have HB12 := hide hKB
  clear hKB
  refine wp_block ?_
  refine wp_seq_k fun KB11 hKB => ?_
  have HB11 := hide hKB
  clear hKB
  refine wp_block ?_
  refine wp_seq_k fun KB10 hKB => ?_
  have HB10 := hide hKB
  clear hKB
  refine wp_block ?_
  refine wp_seq_k fun KB9 hKB => ?_
  have HB9 := hide hKB
  clear hKB
  refine wp_block ?_
  refine wp_seq_k fun KB8 hKB => ?_
  have HB8 := hide hKB
  clear hKB
  refine wp_block ?_
  refine wp_seq_k fun KB7 hKB => ?_
  have HB7 := hide hKB
  clear hKB
  refine wp_block ?_
  refine wp_seq_k fun KB6 hKB => ?_
  have HB6 := hide hKB
  clear hKB
  refine wp_block ?_
  refine wp_seq_k fun KB5 hKB => ?_
  have HB5 := hide hKB
  clear hKB
  refine wp_block ?_
  refine wp_seq_k fun KB4 hKB => ?_
  have HB4 := hide hKB
  clear hKB
  refine wp_block ?_
  refine wp_seq_k fun KB3 hKB => ?_
  have HB3 := hide hKB
  clear hKB
  refine wp_block ?_
  refine wp_seq_k fun KB2 hKB => ?_
  have HB2 := hide hKB
  clear hKB
  refine wp_block ?_
  refine wp_seq_k fun KB1 hKB => ?_
  have HB1 := hide hKB
  clear hKB
  refine wp_block ?_
  refine wp_hide (fun Q' hQ' => ?_)
  have HQ := hide hQ'
  clear hQ'
  go_wp2
  refine HQ.out _ _ _ ?_
  refine inb_pass (by decide) (then_exit ?_)
  refine inb_pass (by decide) (then_exit ?_)
  refine inb_pass (by decide) (then_exit ?_)
  refine inb_pass (by decide) (then_exit ?_)
  refine inb_pass (by decide) (then_exit ?_)
  refine inb_hit (then_norm ?_)
  refine HB6.out _ _ ?_
  refine wp_hide (fun Q2 hQ2 => ?_)
  have HQ2 := hide hQ2
  clear hQ2 HQ
  go_wp2_with fail
  refine (close_any HK.out HJ0.out HW0.out HN0.out HX0.out).mono ?_
  intro e wz he
  cases hz : closeW s with
  | error c =>
    rw [hz] at he
    obtain ⟨p, rfl, hx⟩ := he
    go_wp2_with fail
    refine HQ2.out _ _ _ ?_
    refine inb_panic (then_panic ?_)
    refine inb_panic (then_panic ?_)
    refine inb_panic (then_panic ?_)
    refine inb_panic (then_panic ?_)
    refine inb_panic (then_panic ?_)
    refine inb_panic (then_panic ?_)
    refine inb_panic (then_panic ?_)
    refine inb_panic (then_panic ?_)
    refine inb_panic (then_panic ?_)
    refine inb_panic (then_panic ?_)
    refine inb_panic (then_panic ?_)
    refine inb_panic ?_
    rw [show (insW K.C ⟨11, xn, xm⟩ s) = .error c by simp [insW, hz]]
    exact ⟨rfl, p, rfl, hx⟩
  | ok sz =>
    rw [hz] at he
    obtain ⟨rfl, vsz, vfz, fvz, Jz, Fz⟩ := he
    have HJz := hide Jz
    have HFz := hide Fz
    clear Jz Fz
    go_wp2_with fail
    refine HQ2.out _ _ _ ?_
    refine inb_pass (by decide) (then_exit ?_)
    refine inb_pass (by decide) (then_exit ?_)
    refine inb_pass (by decide) (then_exit ?_)
    refine inb_pass (by decide) (then_exit ?_)
    refine inb_pass (by decide) (then_exit ?_)
    refine inb_pass (by decide) (then_exit ?_)
    refine inb_pass (by decide) (then_exit ?_)
    refine inb_pass (by decide) (then_exit ?_)
    refine inb_pass (by decide) (then_exit ?_)
    refine inb_pass (by decide) (then_exit ?_)
    refine inb_pass (by decide) (then_exit ?_)
    refine inb_hit ?_
    go_end0
    rw [show (insW K.C ⟨11, xn, xm⟩ s) = .ok sz by simp [insW, hz]]
    exact ⟨rfl, vsz, vfz, fvz, HJz.out, HF0.out.trans HFz.out⟩
set_option maxRecDepth 100000 in
set_option maxHeartbeats 2000000 in
theorem ins_26 (hK : KOk K) (h : WJ K at_ s vs vf fv w) (hw : WF s) (hn : s.fr.length ≤ 1000) (hne : s.fr ≠ []) (xn xm : Int) :
    Calls Tryz.prog 41 #[.pointer (some ⟨K.B, 0, none⟩), .agg #[.int .i64 26, .int .i64 xn, .int .i64 xm]] w (Ends K at_ vs vf w (insW K.C ⟨26, xn, xm⟩ s)) := by
  have HK := hide hK
  have HJ0 := hide (h.alloc hK (.cells #[.int .i64 26, .int .i64 xn, .int .i64 xm] 44))
  have HF0 := hide ((Fr.refl K vs vf w).alloc (h.size hK) (.cells #[.int .i64 26, .int .i64 xn, .int .i64 xm] 44))
  have HR0 := hide (Row.made w #[.int .i64 26, .int .i64 xn, .int .i64 xm] 44)
  have hsz := h.lt
  have HS0 := hide h
  have HW0 := hide hw
  have HN0 := hide hn
  have HX0 := hide hne
  clear hK h hw hn hne
  go_enter Tryz.func41, Tryz.ntmps41
  refine wp_seq_k fun K0 hK0 => ?_
  have HK0 := hide hK0
  clear hK0
  go_wp2
  refine HK0.out _ _ ?_
  clear HK0
  refine wp_seq_k fun K0 hK0 => ?_
  have HK0 := hide hK0
  clear hK0
  go_wp2
  refine HK0.out _ _ ?_
  clear HK0
  refine wp_block ?_
  refine wp_seq_k fun KB17 hKB => ?_
  have HB17 := hide hKB
  clear hKB
  refine wp_block ?_
  refine wp_seq_k fun KB16 hKB => ?_
  have HB16 := hide hKB
  clear hKB
  refine wp_block ?_
  refine wp_seq_k fun KB15 hKB => ?_
  have HB15 := hide hKB
  clear hKB
  refine wp_block ?_
  refine wp_seq_k fun KB14 hKB => ?_
  have HB14 := hide hKB
  clear hKB
  refine wp_block ?_
  refine wp_seq_k fun KB13 hKB => ?_
  have HB13 := hide hKB
  clear hKB
  refine wp_block ?_
  refine wp_seq_k fun KB12 hKB => ?_
  have HB12 := hide hKB
  clear hKB
  refine wp_block ?_
  refine wp_seq_k fun KB11 hKB => ?_
  have HB11 := hide hKB
  clear hKB
  refine wp_block ?_
  refine wp_seq_k fun KB10 hKB => ?_
  have HB10 := hide hKB
  clear hKB
  refine wp_block ?_
  refine wp_seq_k fun KB9 hKB => ?_
  have HB9 := hide hKB
  clear hKB
  refine wp_block ?_
  refine wp_seq_k fun KB8 hKB => ?_
  have HB8 := hide hKB
  clear hKB
  refine wp_block ?_
  refine wp_seq_k fun KB7 hKB => ?_
  have HB7 := hide hKB
  clear hKB
  refine wp_block ?_
  refine wp_seq_k fun KB6 hKB => ?_
  have HB6 := hide hKB
  clear hKB
  refine wp_block ?_
  refine wp_seq_k fun KB5 hKB => ?_
  have HB5 := hide hKB
  clear hKB
  refine wp_block ?_
  refine wp_seq_k fun KB4 hKB => ?_
  have HB4 := hide hKB
  clear hKB
  refine wp_block ?_
  refine wp_seq_k fun KB3 hKB => ?_
  have HB3 := hide hKB
  clear hKB
  refine wp_block ?_
  refine wp_seq_k fun KB2 hKB => ?_
  have HB2 := hide hKB
  clear hKB
  refine wp_block ?_
  refine wp_seq_k fun KB1 hKB => ?_
  have HB1 := hide hKB
  clear hKB
  refine wp_block ?_
  refine wp_hide (fun Q' hQ' => ?_)
  have HQ := hide hQ'
  clear hQ'
  go_wp2
  refine HQ.out _ _ _ ?_
  refine inb_pass (by decide) (then_exit ?_)
  refine inb_pass (by decide) (then_exit ?_)
  refine inb_pass (by decide) (then_exit ?_)
  refine inb_pass (by decide) (then_exit ?_)
  refine inb_pass (by decide) (then_exit ?_)
  refine inb_pass (by decide) (then_exit ?_)
  refine inb_pass (by decide) (then_exit ?_)
  refine inb_pass (by decide) (then_exit ?_)
  refine inb_hit (then_norm ?_)
  refine HB9.out _ _ ?_
  refine wp_hide (fun Q2 hQ2 => ?_)
  have HQ2 := hide hQ2
  clear hQ2 HQ
  go_wp2_with fail
  refine (pop_v HK.out HJ0.out HW0.out HN0.out HX0.out).mono ?_
  intro e w1 he
  cases h1 : popW s with
  | error c =>
    rw [h1] at he
    obtain ⟨p, rfl, hx⟩ := he
    go_wp2_with fail
    refine HQ2.out _ _ _ ?_
    refine inb_panic (then_panic ?_)
    refine inb_panic (then_panic ?_)
    refine inb_panic (then_panic ?_)
    refine inb_panic (then_panic ?_)
    refine inb_panic (then_panic ?_)
    refine inb_panic (then_panic ?_)
    refine inb_panic (then_panic ?_)
    refine inb_panic (then_panic ?_)
    refine inb_panic ?_
    rw [show (insW K.C ⟨26, xn, xm⟩ s) = .error c by simp [insW, bnd_err, h1]]
    exact ⟨rfl, p, rfl, hx⟩
  | ok q =>
    obtain ⟨t1, s1⟩ := q
    rw [h1] at he
    obtain ⟨rfl, vs1, vf1, fv1, J1, F1⟩ := he
    obtain ⟨hw1, ht1, e1, _⟩ := popW_ok HW0.out h1
    have HW1 := hide hw1
    have HT1 := hide ht1
    have HN1 := hide (show s1.fr.length ≤ 1000 by rw [e1]; exact HN0.out)
    have HX1 := hide (show s1.fr ≠ [] by rw [e1]; exact HX0.out)
    have HE1 := hide e1
    clear hw1 ht1 e1
    have HJ1 := hide J1
    have HF1 := hide (HF0.out.trans F1)
    have H1 := hide h1
    have r1 := HR0.out.keep HJ0.out F1 (by decide) (by decide) (by decide)
    have HR1 := hide r1
    have x0_1 := r1.c 0 _ rfl
    have x1_1 := r1.c 1 _ rfl
    have x2_1 := r1.c 2 _ rfl
    clear r1
    clear J1 F1 h1
    go_wp2_with fail
    refine HQ2.out _ _ _ ?_
    refine inb_pass (by decide) (then_exit ?_)
    refine inb_pass (by decide) (then_exit ?_)
    refine inb_pass (by decide) (then_exit ?_)
    refine inb_pass (by decide) (then_exit ?_)
    refine inb_pass (by decide) (then_exit ?_)
    refine inb_pass (by decide) (then_exit ?_)
    refine inb_pass (by decide) (then_exit ?_)
    refine inb_pass (by decide) (then_exit ?_)
    refine inb_hit ?_
    go_end0
    rw [show (insW K.C ⟨26, xn, xm⟩ s) = .ok s1 by simp [insW, H1.out, bnd_ok]]
    exact ⟨rfl, _, _, _, HJ1.out, HF1.out⟩
set_option maxRecDepth 100000 in
set_option maxHeartbeats 2000000 in
theorem ins_27 (hK : KOk K) (h : WJ K at_ s vs vf fv w) (hw : WF s) (hn : s.fr.length ≤ 1000) (hne : s.fr ≠ []) (xn xm : Int) :
    Calls Tryz.prog 41 #[.pointer (some ⟨K.B, 0, none⟩), .agg #[.int .i64 27, .int .i64 xn, .int .i64 xm]] w (Ends K at_ vs vf w (insW K.C ⟨27, xn, xm⟩ s)) := by
  have HK := hide hK
  have HJ0 := hide (h.alloc hK (.cells #[.int .i64 27, .int .i64 xn, .int .i64 xm] 44))
  have HF0 := hide ((Fr.refl K vs vf w).alloc (h.size hK) (.cells #[.int .i64 27, .int .i64 xn, .int .i64 xm] 44))
  have HR0 := hide (Row.made w #[.int .i64 27, .int .i64 xn, .int .i64 xm] 44)
  have hsz := h.lt
  have HS0 := hide h
  have HW0 := hide hw
  have HN0 := hide hn
  have HX0 := hide hne
  clear hK h hw hn hne
  go_enter Tryz.func41, Tryz.ntmps41
  refine wp_seq_k fun K0 hK0 => ?_
  have HK0 := hide hK0
  clear hK0
  go_wp2
  refine HK0.out _ _ ?_
  clear HK0
  refine wp_seq_k fun K0 hK0 => ?_
  have HK0 := hide hK0
  clear hK0
  go_wp2
  refine HK0.out _ _ ?_
  clear HK0
  refine wp_block ?_
  refine wp_seq_k fun KB17 hKB => ?_
  have HB17 := hide hKB
  clear hKB
  refine wp_block ?_
  refine wp_seq_k fun KB16 hKB => ?_
  have HB16 := hide hKB
  clear hKB
  refine wp_block ?_
  refine wp_seq_k fun KB15 hKB => ?_
  have HB15 := hide hKB
  clear hKB
  refine wp_block ?_
  refine wp_seq_k fun KB14 hKB => ?_
  have HB14 := hide hKB
  clear hKB
  refine wp_block ?_
  refine wp_seq_k fun KB13 hKB => ?_
  have HB13 := hide hKB
  clear hKB
  refine wp_block ?_
  refine wp_seq_k fun KB12 hKB => ?_
  have HB12 := hide hKB
  clear hKB
  refine wp_block ?_
  refine wp_seq_k fun KB11 hKB => ?_
  have HB11 := hide hKB
  clear hKB
  refine wp_block ?_
  refine wp_seq_k fun KB10 hKB => ?_
  have HB10 := hide hKB
  clear hKB
  refine wp_block ?_
  refine wp_seq_k fun KB9 hKB => ?_
  have HB9 := hide hKB
  clear hKB
  refine wp_block ?_
  refine wp_seq_k fun KB8 hKB => ?_
  have HB8 := hide hKB
  clear hKB
  refine wp_block ?_
  refine wp_seq_k fun KB7 hKB => ?_
  have HB7 := hide hKB
  clear hKB
  refine wp_block ?_
  refine wp_seq_k fun KB6 hKB => ?_
  have HB6 := hide hKB
  clear hKB
  refine wp_block ?_
  refine wp_seq_k fun KB5 hKB => ?_
  have HB5 := hide hKB
  clear hKB
  refine wp_block ?_
  refine wp_seq_k fun KB4 hKB => ?_
  have HB4 := hide hKB
  clear hKB
  refine wp_block ?_
  refine wp_seq_k fun KB3 hKB => ?_
  have HB3 := hide hKB
  clear hKB
  refine wp_block ?_
  refine wp_seq_k fun KB2 hKB => ?_
  have HB2 := hide hKB
  clear hKB
  refine wp_block ?_
  refine wp_seq_k fun KB1 hKB => ?_
  have HB1 := hide hKB
  clear hKB
  refine wp_block ?_
  refine wp_hide (fun Q' hQ' => ?_)
  have HQ := hide hQ'
  clear hQ'
  go_wp2
  refine HQ.out _ _ _ ?_
  refine inb_pass (by decide) (then_exit ?_)
  refine inb_pass (by decide) (then_exit ?_)
  refine inb_pass (by decide) (then_exit ?_)
  refine inb_pass (by decide) (then_exit ?_)
  refine inb_pass (by decide) (then_exit ?_)
  refine inb_pass (by decide) (then_exit ?_)
  refine inb_pass (by decide) (then_exit ?_)
  refine inb_pass (by decide) (then_exit ?_)
  refine inb_pass (by decide) (then_exit ?_)
  refine inb_hit (then_norm ?_)
  refine HB10.out _ _ ?_
  refine wp_hide (fun Q2 hQ2 => ?_)
  have HQ2 := hide hQ2
  clear hQ2 HQ
  go_wp2_with fail
  refine (choose_any HK.out HJ0.out HW0.out HN0.out HX0.out).mono ?_
  intro e wz he
  cases hz : chooseW s with
  | error c =>
    rw [hz] at he
    obtain ⟨p, rfl, hx⟩ := he
    go_wp2_with fail
    refine HQ2.out _ _ _ ?_
    refine inb_panic (then_panic ?_)
    refine inb_panic (then_panic ?_)
    refine inb_panic (then_panic ?_)
    refine inb_panic (then_panic ?_)
    refine inb_panic (then_panic ?_)
    refine inb_panic (then_panic ?_)
    refine inb_panic (then_panic ?_)
    refine inb_panic ?_
    rw [show (insW K.C ⟨27, xn, xm⟩ s) = .error c by simp [insW, hz]]
    exact ⟨rfl, p, rfl, hx⟩
  | ok sz =>
    rw [hz] at he
    obtain ⟨rfl, vsz, vfz, fvz, Jz, Fz⟩ := he
    have HJz := hide Jz
    have HFz := hide Fz
    clear Jz Fz
    go_wp2_with fail
    refine HQ2.out _ _ _ ?_
    refine inb_pass (by decide) (then_exit ?_)
    refine inb_pass (by decide) (then_exit ?_)
    refine inb_pass (by decide) (then_exit ?_)
    refine inb_pass (by decide) (then_exit ?_)
    refine inb_pass (by decide) (then_exit ?_)
    refine inb_pass (by decide) (then_exit ?_)
    refine inb_pass (by decide) (then_exit ?_)
    refine inb_hit ?_
    go_end0
    rw [show (insW K.C ⟨27, xn, xm⟩ s) = .ok sz by simp [insW, hz]]
    exact ⟨rfl, vsz, vfz, fvz, HJz.out, HF0.out.trans HFz.out⟩
set_option maxRecDepth 100000 in
set_option maxHeartbeats 2000000 in
theorem ins_65 (hK : KOk K) (h : WJ K at_ s vs vf fv w) (hw : WF s) (hn : s.fr.length ≤ 1000) (hne : s.fr ≠ []) (xn xm : Int) :
    Calls Tryz.prog 41 #[.pointer (some ⟨K.B, 0, none⟩), .agg #[.int .i64 65, .int .i64 xn, .int .i64 xm]] w (Ends K at_ vs vf w (insW K.C ⟨65, xn, xm⟩ s)) := by
  have HK := hide hK
  have HJ0 := hide (h.alloc hK (.cells #[.int .i64 65, .int .i64 xn, .int .i64 xm] 44))
  have HF0 := hide ((Fr.refl K vs vf w).alloc (h.size hK) (.cells #[.int .i64 65, .int .i64 xn, .int .i64 xm] 44))
  have HR0 := hide (Row.made w #[.int .i64 65, .int .i64 xn, .int .i64 xm] 44)
  have hsz := h.lt
  have HS0 := hide h
  have HW0 := hide hw
  have HN0 := hide hn
  have HX0 := hide hne
  clear hK h hw hn hne
  go_enter Tryz.func41, Tryz.ntmps41
  refine wp_seq_k fun K0 hK0 => ?_
  have HK0 := hide hK0
  clear hK0
  go_wp2
  refine HK0.out _ _ ?_
  clear HK0
  refine wp_seq_k fun K0 hK0 => ?_
  have HK0 := hide hK0
  clear hK0
  go_wp2
  refine HK0.out _ _ ?_
  clear HK0
  refine wp_block ?_
  refine wp_seq_k fun KB17 hKB => ?_
  have HB17 := hide hKB
  clear hKB
  refine wp_block ?_
  refine wp_seq_k fun KB16 hKB => ?_
  have HB16 := hide hKB
  clear hKB
  refine wp_block ?_
  refine wp_seq_k fun KB15 hKB => ?_
  have HB15 := hide hKB
  clear hKB
  refine wp_block ?_
  refine wp_seq_k fun KB14 hKB => ?_
  have HB14 := hide hKB
  clear hKB
  refine wp_block ?_
  refine wp_seq_k fun KB13 hKB => ?_
  have HB13 := hide hKB
  clear hKB
  refine wp_block ?_
  refine wp_seq_k fun KB12 hKB => ?_
  have HB12 := hide hKB
  clear hKB
  refine wp_block ?_
  refine wp_seq_k fun KB11 hKB => ?_
  have HB11 := hide hKB
  clear hKB
  refine wp_block ?_
  refine wp_seq_k fun KB10 hKB => ?_
  have HB10 := hide hKB
  clear hKB
  refine wp_block ?_
  refine wp_seq_k fun KB9 hKB => ?_
  have HB9 := hide hKB
  clear hKB
  refine wp_block ?_
  refine wp_seq_k fun KB8 hKB => ?_
  have HB8 := hide hKB
  clear hKB
  refine wp_block ?_
  refine wp_seq_k fun KB7 hKB => ?_
  have HB7 := hide hKB
  clear hKB
  refine wp_block ?_
  refine wp_seq_k fun KB6 hKB => ?_
  have HB6 := hide hKB
  clear hKB
  refine wp_block ?_
  refine wp_seq_k fun KB5 hKB => ?_
  have HB5 := hide hKB
  clear hKB
  refine wp_block ?_
  refine wp_seq_k fun KB4 hKB => ?_
  have HB4 := hide hKB
  clear hKB
  refine wp_block ?_
  refine wp_seq_k fun KB3 hKB => ?_
  have HB3 := hide hKB
  clear hKB
  refine wp_block ?_
  refine wp_seq_k fun KB2 hKB => ?_
  have HB2 := hide hKB
  clear hKB
  refine wp_block ?_
  refine wp_seq_k fun KB1 hKB => ?_
  have HB1 := hide hKB
  clear hKB
  refine wp_block ?_
  refine wp_hide (fun Q' hQ' => ?_)
  have HQ := hide hQ'
  clear hQ'
  go_wp2
  refine HQ.out _ _ _ ?_
  refine inb_pass (by decide) (then_exit ?_)
  refine inb_pass (by decide) (then_exit ?_)
  refine inb_pass (by decide) (then_exit ?_)
  refine inb_pass (by decide) (then_exit ?_)
  refine inb_pass (by decide) (then_exit ?_)
  refine inb_pass (by decide) (then_exit ?_)
  refine inb_pass (by decide) (then_exit ?_)
  refine inb_pass (by decide) (then_exit ?_)
  refine inb_pass (by decide) (then_exit ?_)
  refine inb_pass (by decide) (then_exit ?_)
  refine inb_pass (by decide) (then_exit ?_)
  refine inb_pass (by decide) (then_exit ?_)
  refine inb_hit (then_norm ?_)
  refine HB13.out _ _ ?_
  refine wp_hide (fun Q2 hQ2 => ?_)
  have HQ2 := hide hQ2
  clear hQ2 HQ
  go_wp2_with fail
  refine (push_1 HK.out HJ0.out HW0.out 0 ⟨by decide, by decide⟩ _ (by simp)).mono ?_
  intro e wz he
  cases hz : pushL [0] s with
  | error c =>
    rw [hz] at he
    obtain ⟨p, rfl, hx⟩ := he
    go_wp2_with fail
    refine HQ2.out _ _ _ ?_
    refine inb_panic (then_panic ?_)
    refine inb_panic (then_panic ?_)
    refine inb_panic (then_panic ?_)
    refine inb_panic (then_panic ?_)
    refine inb_panic ?_
    rw [show (insW K.C ⟨65, xn, xm⟩ s) = .error c by simp [insW, hz]]
    exact ⟨rfl, p, rfl, hx⟩
  | ok sz =>
    rw [hz] at he
    obtain ⟨rfl, vsz, vfz, fvz, Jz, Fz⟩ := he
    have HJz := hide Jz
    have HFz := hide Fz
    clear Jz Fz
    go_wp2_with fail
    refine HQ2.out _ _ _ ?_
    refine inb_pass (by decide) (then_exit ?_)
    refine inb_pass (by decide) (then_exit ?_)
    refine inb_pass (by decide) (then_exit ?_)
    refine inb_pass (by decide) (then_exit ?_)
    refine inb_hit ?_
    go_end0
    rw [show (insW K.C ⟨65, xn, xm⟩ s) = .ok sz by simp [insW, hz]]
    exact ⟨rfl, vsz, vfz, fvz, HJz.out, HF0.out.trans HFz.out⟩
set_option maxRecDepth 100000 in
set_option maxHeartbeats 2000000 in
theorem ins_66 (hK : KOk K) (h : WJ K at_ s vs vf fv w) (hw : WF s) (hn : s.fr.length ≤ 1000) (hne : s.fr ≠ []) (xn xm : Int) :
    Calls Tryz.prog 41 #[.pointer (some ⟨K.B, 0, none⟩), .agg #[.int .i64 66, .int .i64 xn, .int .i64 xm]] w (Ends K at_ vs vf w (insW K.C ⟨66, xn, xm⟩ s)) := by
  have HK := hide hK
  have HJ0 := hide (h.alloc hK (.cells #[.int .i64 66, .int .i64 xn, .int .i64 xm] 44))
  have HF0 := hide ((Fr.refl K vs vf w).alloc (h.size hK) (.cells #[.int .i64 66, .int .i64 xn, .int .i64 xm] 44))
  have HR0 := hide (Row.made w #[.int .i64 66, .int .i64 xn, .int .i64 xm] 44)
  have hsz := h.lt
  have HS0 := hide h
  have HW0 := hide hw
  have HN0 := hide hn
  have HX0 := hide hne
  clear hK h hw hn hne
  go_enter Tryz.func41, Tryz.ntmps41
  refine wp_seq_k fun K0 hK0 => ?_
  have HK0 := hide hK0
  clear hK0
  go_wp2
  refine HK0.out _ _ ?_
  clear HK0
  refine wp_seq_k fun K0 hK0 => ?_
  have HK0 := hide hK0
  clear hK0
  go_wp2
  refine HK0.out _ _ ?_
  clear HK0
  refine wp_block ?_
  refine wp_seq_k fun KB17 hKB => ?_
  have HB17 := hide hKB
  clear hKB
  refine wp_block ?_
  refine wp_seq_k fun KB16 hKB => ?_
  have HB16 := hide hKB
  clear hKB
  refine wp_block ?_
  refine wp_seq_k fun KB15 hKB => ?_
  have HB15 := hide hKB
  clear hKB
  refine wp_block ?_
  refine wp_seq_k fun KB14 hKB => ?_
  have HB14 := hide hKB
  clear hKB
  refine wp_block ?_
  refine wp_seq_k fun KB13 hKB => ?_
  have HB13 := hide hKB
  clear hKB
  refine wp_block ?_
  refine wp_seq_k fun KB12 hKB => ?_
  have HB12 := hide hKB
  clear hKB
  refine wp_block ?_
  refine wp_seq_k fun KB11 hKB => ?_
  have HB11 := hide hKB
  clear hKB
  refine wp_block ?_
  refine wp_seq_k fun KB10 hKB => ?_
  have HB10 := hide hKB
  clear hKB
  refine wp_block ?_
  refine wp_seq_k fun KB9 hKB => ?_
  have HB9 := hide hKB
  clear hKB
  refine wp_block ?_
  refine wp_seq_k fun KB8 hKB => ?_
  have HB8 := hide hKB
  clear hKB
  refine wp_block ?_
  refine wp_seq_k fun KB7 hKB => ?_
  have HB7 := hide hKB
  clear hKB
  refine wp_block ?_
  refine wp_seq_k fun KB6 hKB => ?_
  have HB6 := hide hKB
  clear hKB
  refine wp_block ?_
  refine wp_seq_k fun KB5 hKB => ?_
  have HB5 := hide hKB
  clear hKB
  refine wp_block ?_
  refine wp_seq_k fun KB4 hKB => ?_
  have HB4 := hide hKB
  clear hKB
  refine wp_block ?_
  refine wp_seq_k fun KB3 hKB => ?_
  have HB3 := hide hKB
  clear hKB
  refine wp_block ?_
  refine wp_seq_k fun KB2 hKB => ?_
  have HB2 := hide hKB
  clear hKB
  refine wp_block ?_
  refine wp_seq_k fun KB1 hKB => ?_
  have HB1 := hide hKB
  clear hKB
  refine wp_block ?_
  refine wp_hide (fun Q' hQ' => ?_)
  have HQ := hide hQ'
  clear hQ'
  go_wp2
  refine HQ.out _ _ _ ?_
  refine inb_pass (by decide) (then_exit ?_)
  refine inb_pass (by decide) (then_exit ?_)
  refine inb_pass (by decide) (then_exit ?_)
  refine inb_pass (by decide) (then_exit ?_)
  refine inb_pass (by decide) (then_exit ?_)
  refine inb_pass (by decide) (then_exit ?_)
  refine inb_pass (by decide) (then_exit ?_)
  refine inb_pass (by decide) (then_exit ?_)
  refine inb_pass (by decide) (then_exit ?_)
  refine inb_pass (by decide) (then_exit ?_)
  refine inb_pass (by decide) (then_exit ?_)
  refine inb_pass (by decide) (then_exit ?_)
  refine inb_pass (by decide) (then_exit ?_)
  refine inb_hit (then_norm ?_)
  refine HB14.out _ _ ?_
  refine wp_hide (fun Q2 hQ2 => ?_)
  have HQ2 := hide hQ2
  clear hQ2 HQ
  go_wp2_with fail
  refine (push_1 HK.out HJ0.out HW0.out 1 ⟨by decide, by decide⟩ _ (by simp)).mono ?_
  intro e wz he
  cases hz : pushL [1] s with
  | error c =>
    rw [hz] at he
    obtain ⟨p, rfl, hx⟩ := he
    go_wp2_with fail
    refine HQ2.out _ _ _ ?_
    refine inb_panic (then_panic ?_)
    refine inb_panic (then_panic ?_)
    refine inb_panic (then_panic ?_)
    refine inb_panic ?_
    rw [show (insW K.C ⟨66, xn, xm⟩ s) = .error c by simp [insW, hz]]
    exact ⟨rfl, p, rfl, hx⟩
  | ok sz =>
    rw [hz] at he
    obtain ⟨rfl, vsz, vfz, fvz, Jz, Fz⟩ := he
    have HJz := hide Jz
    have HFz := hide Fz
    clear Jz Fz
    go_wp2_with fail
    refine HQ2.out _ _ _ ?_
    refine inb_pass (by decide) (then_exit ?_)
    refine inb_pass (by decide) (then_exit ?_)
    refine inb_pass (by decide) (then_exit ?_)
    refine inb_hit ?_
    go_end0
    rw [show (insW K.C ⟨66, xn, xm⟩ s) = .ok sz by simp [insW, hz]]
    exact ⟨rfl, vsz, vfz, fvz, HJz.out, HF0.out.trans HFz.out⟩
set_option maxRecDepth 100000 in
set_option maxHeartbeats 2000000 in
theorem ins_240 (hK : KOk K) (h : WJ K at_ s vs vf fv w) (hw : WF s) (hn : s.fr.length ≤ 1000) (hne : s.fr ≠ []) (xn xm : Int) :
    Calls Tryz.prog 41 #[.pointer (some ⟨K.B, 0, none⟩), .agg #[.int .i64 240, .int .i64 xn, .int .i64 xm]] w (Ends K at_ vs vf w (insW K.C ⟨240, xn, xm⟩ s)) := by
  have HK := hide hK
  have HJ0 := hide (h.alloc hK (.cells #[.int .i64 240, .int .i64 xn, .int .i64 xm] 44))
  have HF0 := hide ((Fr.refl K vs vf w).alloc (h.size hK) (.cells #[.int .i64 240, .int .i64 xn, .int .i64 xm] 44))
  have HR0 := hide (Row.made w #[.int .i64 240, .int .i64 xn, .int .i64 xm] 44)
  have hsz := h.lt
  have HS0 := hide h
  have HW0 := hide hw
  have HN0 := hide hn
  have HX0 := hide hne
  clear hK h hw hn hne
  go_enter Tryz.func41, Tryz.ntmps41
  refine wp_seq_k fun K0 hK0 => ?_
  have HK0 := hide hK0
  clear hK0
  go_wp2
  refine HK0.out _ _ ?_
  clear HK0
  refine wp_seq_k fun K0 hK0 => ?_
  have HK0 := hide hK0
  clear hK0
  go_wp2
  refine HK0.out _ _ ?_
  clear HK0
  refine wp_block ?_
  refine wp_seq_k fun KB17 hKB => ?_
  have HB17 := hide hKB
  clear hKB
  refine wp_block ?_
  refine wp_seq_k fun KB16 hKB => ?_
  have HB16 := hide hKB
  clear hKB
  refine wp_block ?_
  refine wp_seq_k fun KB15 hKB => ?_
  have HB15 := hide hKB
  clear hKB
  refine wp_block ?_
  refine wp_seq_k fun KB14 hKB => ?_
  have HB14 := hide hKB
  clear hKB
  refine wp_block ?_
  refine wp_seq_k fun KB13 hKB => ?_
  have HB13 := hide hKB
  clear hKB
  refine wp_block ?_
  refine wp_seq_k fun KB12 hKB => ?_
  have HB12 := hide hKB
  clear hKB
  refine wp_block ?_
  refine wp_seq_k fun KB11 hKB => ?_
  have HB11 := hide hKB
  clear hKB
  refine wp_block ?_
  refine wp_seq_k fun KB10 hKB => ?_
  have HB10 := hide hKB
  clear hKB
  refine wp_block ?_
  refine wp_seq_k fun KB9 hKB => ?_
  have HB9 := hide hKB
  clear hKB
  refine wp_block ?_
  refine wp_seq_k fun KB8 hKB => ?_
  have HB8 := hide hKB
  clear hKB
  refine wp_block ?_
  refine wp_seq_k fun KB7 hKB => ?_
  have HB7 := hide hKB
  clear hKB
  refine wp_block ?_
  refine wp_seq_k fun KB6 hKB => ?_
  have HB6 := hide hKB
  clear hKB
  refine wp_block ?_
  refine wp_seq_k fun KB5 hKB => ?_
  have HB5 := hide hKB
  clear hKB
  refine wp_block ?_
  refine wp_seq_k fun KB4 hKB => ?_
  have HB4 := hide hKB
  clear hKB
  refine wp_block ?_
  refine wp_seq_k fun KB3 hKB => ?_
  have HB3 := hide hKB
  clear hKB
  refine wp_block ?_
  refine wp_seq_k fun KB2 hKB => ?_
  have HB2 := hide hKB
  clear hKB
  refine wp_block ?_
  refine wp_seq_k fun KB1 hKB => ?_
  have HB1 := hide hKB
  clear hKB
  refine wp_block ?_
  refine wp_hide (fun Q' hQ' => ?_)
  have HQ := hide hQ'
  clear hQ'
  go_wp2
  refine HQ.out _ _ _ ?_
  refine inb_pass (by decide) (then_exit ?_)
  refine inb_pass (by decide) (then_exit ?_)
  refine inb_pass (by decide) (then_exit ?_)
  refine inb_pass (by decide) (then_exit ?_)
  refine inb_pass (by decide) (then_exit ?_)
  refine inb_pass (by decide) (then_exit ?_)
  refine inb_pass (by decide) (then_exit ?_)
  refine inb_pass (by decide) (then_exit ?_)
  refine inb_pass (by decide) (then_exit ?_)
  refine inb_pass (by decide) (then_exit ?_)
  refine inb_pass (by decide) (then_exit ?_)
  refine inb_pass (by decide) (then_exit ?_)
  refine inb_pass (by decide) (then_exit ?_)
  refine inb_pass (by decide) (then_exit ?_)
  refine inb_hit (then_norm ?_)
  refine HB15.out _ _ ?_
  refine wp_hide (fun Q2 hQ2 => ?_)
  have HQ2 := hide hQ2
  clear hQ2 HQ
  go_wp2_with fail
  refine (pop_v HK.out HJ0.out HW0.out HN0.out HX0.out).mono ?_
  intro e w1 he
  cases h1 : popW s with
  | error c =>
    rw [h1] at he
    obtain ⟨p, rfl, hx⟩ := he
    go_wp2_with fail
    refine HQ2.out _ _ _ ?_
    refine inb_panic (then_panic ?_)
    refine inb_panic (then_panic ?_)
    refine inb_panic ?_
    rw [show (insW K.C ⟨240, xn, xm⟩ s) = .error c by simp [insW, bnd_err, h1]]
    exact ⟨rfl, p, rfl, hx⟩
  | ok q =>
    obtain ⟨t1, s1⟩ := q
    rw [h1] at he
    obtain ⟨rfl, vs1, vf1, fv1, J1, F1⟩ := he
    obtain ⟨hw1, ht1, e1, _⟩ := popW_ok HW0.out h1
    have HW1 := hide hw1
    have HT1 := hide ht1
    have HN1 := hide (show s1.fr.length ≤ 1000 by rw [e1]; exact HN0.out)
    have HX1 := hide (show s1.fr ≠ [] by rw [e1]; exact HX0.out)
    have HE1 := hide e1
    clear hw1 ht1 e1
    have HJ1 := hide J1
    have HF1 := hide (HF0.out.trans F1)
    have H1 := hide h1
    have r1 := HR0.out.keep HJ0.out F1 (by decide) (by decide) (by decide)
    have HR1 := hide r1
    have x0_1 := r1.c 0 _ rfl
    have x1_1 := r1.c 1 _ rfl
    have x2_1 := r1.c 2 _ rfl
    clear r1
    clear J1 F1 h1
    go_wp2_with fail
    refine (relabel_any t1 true HT1.out _).mono ?_
    rintro e wx ⟨rfl, rfl⟩
    go_wp2_with fail
    refine (push_1 HK.out HJ1.out HW1.out (relab t1 true) (ty_relab true) _ (by simp)).mono ?_
    intro e wz he
    cases hz : pushL [(relab t1 true)] s1 with
    | error c =>
      rw [hz] at he
      obtain ⟨p, rfl, hx⟩ := he
      go_wp2_with fail
      refine HQ2.out _ _ _ ?_
      refine inb_panic (then_panic ?_)
      refine inb_panic (then_panic ?_)
      refine inb_panic ?_
      rw [show (insW K.C ⟨240, xn, xm⟩ s) = .error c by simp [insW, H1.out, bnd_ok, hz]]
      exact ⟨rfl, p, rfl, hx⟩
    | ok sz =>
      rw [hz] at he
      obtain ⟨rfl, vsz, vfz, fvz, Jz, Fz⟩ := he
      have HJz := hide Jz
      have HFz := hide Fz
      clear Jz Fz
      go_wp2_with fail
      refine HQ2.out _ _ _ ?_
      refine inb_pass (by decide) (then_exit ?_)
      refine inb_pass (by decide) (then_exit ?_)
      refine inb_hit ?_
      go_end0
      rw [show (insW K.C ⟨240, xn, xm⟩ s) = .ok sz by simp [insW, H1.out, bnd_ok, hz]]
      exact ⟨rfl, vsz, vfz, fvz, HJz.out, HF1.out.trans HFz.out⟩
set_option maxRecDepth 100000 in
set_option maxHeartbeats 2000000 in
theorem ins_241 (hK : KOk K) (h : WJ K at_ s vs vf fv w) (hw : WF s) (hn : s.fr.length ≤ 1000) (hne : s.fr ≠ []) (xn xm : Int) :
    Calls Tryz.prog 41 #[.pointer (some ⟨K.B, 0, none⟩), .agg #[.int .i64 241, .int .i64 xn, .int .i64 xm]] w (Ends K at_ vs vf w (insW K.C ⟨241, xn, xm⟩ s)) := by
  have HK := hide hK
  have HJ0 := hide (h.alloc hK (.cells #[.int .i64 241, .int .i64 xn, .int .i64 xm] 44))
  have HF0 := hide ((Fr.refl K vs vf w).alloc (h.size hK) (.cells #[.int .i64 241, .int .i64 xn, .int .i64 xm] 44))
  have HR0 := hide (Row.made w #[.int .i64 241, .int .i64 xn, .int .i64 xm] 44)
  have hsz := h.lt
  have HS0 := hide h
  have HW0 := hide hw
  have HN0 := hide hn
  have HX0 := hide hne
  have d7 : w.cell? ⟨K.B, 7, none⟩ = some (.bool K.C.tr) := h.row.c 7 _ rfl
  clear hK h hw hn hne
  go_enter Tryz.func41, Tryz.ntmps41
  refine wp_seq_k fun K0 hK0 => ?_
  have HK0 := hide hK0
  clear hK0
  go_wp2
  refine HK0.out _ _ ?_
  clear HK0
  refine wp_seq_k fun K0 hK0 => ?_
  have HK0 := hide hK0
  clear hK0
  go_wp2
  refine HK0.out _ _ ?_
  clear HK0
  refine wp_block ?_
  refine wp_seq_k fun KB17 hKB => ?_
  have HB17 := hide hKB
  clear hKB
  refine wp_block ?_
  refine wp_seq_k fun KB16 hKB => ?_
  have HB16 := hide hKB
  clear hKB
  refine wp_block ?_
  refine wp_seq_k fun KB15 hKB => ?_
  have HB15 := hide hKB
  clear hKB
  refine wp_block ?_
  refine wp_seq_k fun KB14 hKB => ?_
  have HB14 := hide hKB
  clear hKB
  refine wp_block ?_
  refine wp_seq_k fun KB13 hKB => ?_
  have HB13 := hide hKB
  clear hKB
  refine wp_block ?_
  refine wp_seq_k fun KB12 hKB => ?_
  have HB12 := hide hKB
  clear hKB
  refine wp_block ?_
  refine wp_seq_k fun KB11 hKB => ?_
  have HB11 := hide hKB
  clear hKB
  refine wp_block ?_
  refine wp_seq_k fun KB10 hKB => ?_
  have HB10 := hide hKB
  clear hKB
  refine wp_block ?_
  refine wp_seq_k fun KB9 hKB => ?_
  have HB9 := hide hKB
  clear hKB
  refine wp_block ?_
  refine wp_seq_k fun KB8 hKB => ?_
  have HB8 := hide hKB
  clear hKB
  refine wp_block ?_
  refine wp_seq_k fun KB7 hKB => ?_
  have HB7 := hide hKB
  clear hKB
  refine wp_block ?_
  refine wp_seq_k fun KB6 hKB => ?_
  have HB6 := hide hKB
  clear hKB
  refine wp_block ?_
  refine wp_seq_k fun KB5 hKB => ?_
  have HB5 := hide hKB
  clear hKB
  refine wp_block ?_
  refine wp_seq_k fun KB4 hKB => ?_
  have HB4 := hide hKB
  clear hKB
  refine wp_block ?_
  refine wp_seq_k fun KB3 hKB => ?_
  have HB3 := hide hKB
  clear hKB
  refine wp_block ?_
  refine wp_seq_k fun KB2 hKB => ?_
  have HB2 := hide hKB
  clear hKB
  refine wp_block ?_
  refine wp_seq_k fun KB1 hKB => ?_
  have HB1 := hide hKB
  clear hKB
  refine wp_block ?_
  refine wp_hide (fun Q' hQ' => ?_)
  have HQ := hide hQ'
  clear hQ'
  go_wp2
  refine HQ.out _ _ _ ?_
  refine inb_pass (by decide) (then_exit ?_)
  refine inb_pass (by decide) (then_exit ?_)
  refine inb_pass (by decide) (then_exit ?_)
  refine inb_pass (by decide) (then_exit ?_)
  refine inb_pass (by decide) (then_exit ?_)
  refine inb_pass (by decide) (then_exit ?_)
  refine inb_pass (by decide) (then_exit ?_)
  refine inb_pass (by decide) (then_exit ?_)
  refine inb_pass (by decide) (then_exit ?_)
  refine inb_pass (by decide) (then_exit ?_)
  refine inb_pass (by decide) (then_exit ?_)
  refine inb_pass (by decide) (then_exit ?_)
  refine inb_pass (by decide) (then_exit ?_)
  refine inb_pass (by decide) (then_exit ?_)
  refine inb_pass (by decide) (then_exit ?_)
  refine inb_hit (then_norm ?_)
  refine HB16.out _ _ ?_
  refine wp_hide (fun Q2 hQ2 => ?_)
  have HQ2 := hide hQ2
  clear hQ2 HQ
  go_wp2_with fail
  cases htr : K.C.tr with
  | false =>
    refine (wmust_no HK.out HJ0.out).mono ?_
    rintro e wx ⟨⟨p, rfl, hx⟩, _⟩
    go_wp2_with fail
    refine HQ2.out _ _ _ ?_
    refine inb_panic (then_panic ?_)
    refine inb_panic ?_
    rw [show (insW K.C ⟨241, xn, xm⟩ s) = .error 3 by simp [insW, htr]]
    exact ⟨rfl, p, rfl, hx⟩
  | true =>
    have HTR := hide htr
    refine (wmust_yes HJ0.out).mono ?_
    rintro e wx ⟨rfl, rfl⟩
    go_wp2_with fail
    refine (pop_v HK.out HJ0.out HW0.out HN0.out HX0.out).mono ?_
    intro e w1 he
    cases h1 : popW s with
    | error c =>
      rw [h1] at he
      obtain ⟨p, rfl, hx⟩ := he
      go_wp2_with fail
      refine HQ2.out _ _ _ ?_
      refine inb_panic (then_panic ?_)
      refine inb_panic ?_
      rw [show (insW K.C ⟨241, xn, xm⟩ s) = .error c by simp [insW, HTR.out, bnd_err, h1]]
      exact ⟨rfl, p, rfl, hx⟩
    | ok q =>
      obtain ⟨t1, s1⟩ := q
      rw [h1] at he
      obtain ⟨rfl, vs1, vf1, fv1, J1, F1⟩ := he
      obtain ⟨hw1, ht1, e1, _⟩ := popW_ok HW0.out h1
      have HW1 := hide hw1
      have HT1 := hide ht1
      have HN1 := hide (show s1.fr.length ≤ 1000 by rw [e1]; exact HN0.out)
      have HX1 := hide (show s1.fr ≠ [] by rw [e1]; exact HX0.out)
      have HE1 := hide e1
      clear hw1 ht1 e1
      have HJ1 := hide J1
      have HF1 := hide (HF0.out.trans F1)
      have H1 := hide h1
      have r1 := HR0.out.keep HJ0.out F1 (by decide) (by decide) (by decide)
      have HR1 := hide r1
      have x0_1 := r1.c 0 _ rfl
      have x1_1 := r1.c 1 _ rfl
      have x2_1 := r1.c 2 _ rfl
      clear r1
      clear J1 F1 h1
      go_wp2_with fail
      refine (relabel_any t1 false HT1.out _).mono ?_
      rintro e wx ⟨rfl, rfl⟩
      go_wp2_with fail
      refine (push_1 HK.out HJ1.out HW1.out (relab t1 false) (ty_relab false) _ (by simp)).mono ?_
      intro e wz he
      cases hz : pushL [(relab t1 false)] s1 with
      | error c =>
        rw [hz] at he
        obtain ⟨p, rfl, hx⟩ := he
        go_wp2_with fail
        refine HQ2.out _ _ _ ?_
        refine inb_panic (then_panic ?_)
        refine inb_panic ?_
        rw [show (insW K.C ⟨241, xn, xm⟩ s) = .error c by simp [insW, HTR.out, H1.out, bnd_ok, hz]]
        exact ⟨rfl, p, rfl, hx⟩
      | ok sz =>
        rw [hz] at he
        obtain ⟨rfl, vsz, vfz, fvz, Jz, Fz⟩ := he
        have HJz := hide Jz
        have HFz := hide Fz
        clear Jz Fz
        go_wp2_with fail
        refine HQ2.out _ _ _ ?_
        refine inb_pass (by decide) (then_exit ?_)
        refine inb_hit ?_
        go_end0
        rw [show (insW K.C ⟨241, xn, xm⟩ s) = .ok sz by simp [insW, HTR.out, H1.out, bnd_ok, hz]]
        exact ⟨rfl, vsz, vfz, fvz, HJz.out, HF1.out.trans HFz.out⟩
end
end Go.Proofs.YtamofhkmhjckaabGreatDoor

/-
  The walk's reckon, and divides.
  How a block is left.
  The walk's instr: what reckons.
-/
import Derived.Test.YtamofhkmhjckaabGreatDoorWalk12
import Derived.Test.YtamofhkmhjckaabGreatDoorWalk9
import Derived.WalkHide
namespace Go.Proofs.YtamofhkmhjckaabGreatDoor
open Go.RowKit
section
variable {K : Kx} {at_ : Int} {s : Wk} {vs vf : Value} {fv : List (Fm × Value)} {w : World}
end
theorem beq_dec (a b : Int) : (a == b) = decide (a = b) := by
  by_cases h : a = b <;> simp [h]
theorem divides_any (op : Int) (w : World) : Calls Tryz.prog 95 #[.int .i64 op] w fun e w' => e = .returned (.bool (divs op)) ∧ w' = w := by
  by_cases h1 : 109 ≤ op
  · by_cases h2 : op ≤ 112
    · have HD := hide (show divs op = true by simp [divs, h1, h2])
      go_enter Tryz.func95, Tryz.ntmps95
      go_wp2_with fail
      go_ret
      exact ⟨ret_bool HD.out.symm, rfl⟩
    · by_cases h3 : 127 ≤ op
      · have HD := hide (show divs op = decide (op ≤ 130) by simp [divs, h2, h3])
        go_enter Tryz.func95, Tryz.ntmps95
        go_wp2_with fail
        go_ret
        exact ⟨ret_bool HD.out.symm, rfl⟩
      · have HD := hide (show divs op = false by simp [divs, h2, h3])
        go_enter Tryz.func95, Tryz.ntmps95
        go_wp2_with fail
        go_ret
        exact ⟨ret_bool HD.out.symm, rfl⟩
  · have h3 : ¬ 127 ≤ op := by omega
    have HD := hide (show divs op = false by simp [divs, h1, h3])
    go_enter Tryz.func95, Tryz.ntmps95
    go_wp2_with fail
    go_ret
    exact ⟨ret_bool HD.out.symm, rfl⟩
section
variable {K : Kx} {at_ : Int} {s : Wk} {vs vf : Value} {fv : List (Fm × Value)} {w : World}
set_option maxRecDepth 100000 in
set_option maxHeartbeats 4000000 in
theorem reckon_1 (hK : KOk K) (h : WJ K at_ s vs vf fv w) (hw : WF s) (hn : s.fr.length ≤ 1000) (hne : s.fr ≠ []) (op f t : Int) (har : ar op = (1, f, t, true)) :
    Calls Tryz.prog 65 #[.pointer (some ⟨K.B, 0, none⟩), .int .i64 op] w (Ends K at_ vs vf w (reckW op s)) := by
  have HK := hide hK
  have HJ0 := hide h
  have HF0 := hide (Fr.refl K vs vf w)
  have hsz := h.lt
  have HS0 := hide h
  have HW0 := hide hw
  have HN0 := hide hn
  have HX0 := hide hne
  have HA := hide (arity_any op w)
  rw [har] at HA
  unfold four at HA
  have HAR := hide har
  clear har
  clear hK h hw hn hne
  go_enter Tryz.func65, Tryz.ntmps65
  go_wp2_with fail
  refine HA.out.mono ?_
  rintro e wx ⟨rfl, rfl⟩
  go_wp2_with fail
  refine (divides_any op _).mono ?_
  rintro e wx ⟨rfl, rfl⟩
  go_wp2_with fail
  refine (of_any (f == 1) (!divs op) _).mono ?_
  rintro e wx ⟨rfl, rfl⟩
  go_wp2_with fail
  have HTY := hide (ty0_ot (f == 1) (!divs op))
  have HRE := hide (show ∀ s : Wk, reckW op s = bnd (popN 1 (ot (f == 1) (!divs op)) false s) fun p => pushL [ot (t == 1) p.1] p.2 from fun s => by simp only [reckW, HAR.out, beq_dec]; rfl)
  generalize ot (f == 1) (!divs op) = tk at *
  refine wp_loop_rounds 2 ?_
  rw [rounds_succ]
  go_wp2_with fail
  refine (popTo_1 HK.out HJ0.out HW0.out HN0.out HX0.out tk HTY.out _ (by simp)).mono ?_
  intro e w1 he
  cases h1 : popTo [tk] s with
  | error c =>
    rw [h1] at he
    obtain ⟨p, rfl, hx⟩ := he
    go_wp2_with fail
    rw [show (reckW op s) = .error c by simp [HRE.out, popN, bnd_err, h1]]
    exact ⟨rfl, p, rfl, hx⟩
  | ok q =>
    obtain ⟨b1, s1⟩ := q
    rw [h1] at he
    obtain ⟨rfl, vs1, vf1, fv1, J1, F1⟩ := he
    obtain ⟨hw1, e1, _⟩ := popTo_ok HW0.out h1
    have HW1 := hide hw1
    have HN1 := hide (show s1.fr.length ≤ 1000 by rw [e1]; exact HN0.out)
    have HX1 := hide (show s1.fr ≠ [] by rw [e1]; exact HX0.out)
    have HE1 := hide e1
    clear hw1 e1
    have HJ1 := hide J1
    have HF1 := hide (HF0.out.trans F1)
    have H1 := hide h1
    clear J1 F1 h1
    cases b1 with
    | true =>
      go_wp2_with fail
      rw [rounds_succ]
      go_wp2_with fail
      refine (of_any (t == 1) true _).mono ?_
      rintro e wx ⟨rfl, rfl⟩
      go_wp2_with fail
      refine (push_1 HK.out HJ1.out HW1.out (ot (t == 1) true) (ty0_ot _ _).ty _ (by simp)).mono ?_
      intro e wz he
      cases hz : pushL [ot (t == 1) true] s1 with
      | error c =>
        rw [hz] at he
        obtain ⟨p, rfl, hx⟩ := he
        go_wp2_with fail
        rw [show (reckW op s) = .error c by simp [HRE.out, popN, H1.out, bnd_ok, hz]]
        exact ⟨rfl, p, rfl, hx⟩
      | ok sz =>
        rw [hz] at he
        obtain ⟨rfl, vsz, vfz, fvz, Jz, Fz⟩ := he
        have HJz := hide Jz
        have HFz := hide Fz
        clear Jz Fz
        go_wp2_with fail
        go_end0
        rw [show (reckW op s) = .ok sz by simp [HRE.out, popN, H1.out, bnd_ok, hz]]
        exact ⟨rfl, vsz, vfz, fvz, HJz.out, HF1.out.trans HFz.out⟩
    | false =>
      go_wp2_with fail
      rw [rounds_succ]
      go_wp2_with fail
      refine (of_any (t == 1) false _).mono ?_
      rintro e wx ⟨rfl, rfl⟩
      go_wp2_with fail
      refine (push_1 HK.out HJ1.out HW1.out (ot (t == 1) false) (ty0_ot _ _).ty _ (by simp)).mono ?_
      intro e wz he
      cases hz : pushL [ot (t == 1) false] s1 with
      | error c =>
        rw [hz] at he
        obtain ⟨p, rfl, hx⟩ := he
        go_wp2_with fail
        rw [show (reckW op s) = .error c by simp [HRE.out, popN, H1.out, bnd_ok, hz]]
        exact ⟨rfl, p, rfl, hx⟩
      | ok sz =>
        rw [hz] at he
        obtain ⟨rfl, vsz, vfz, fvz, Jz, Fz⟩ := he
        have HJz := hide Jz
        have HFz := hide Fz
        clear Jz Fz
        go_wp2_with fail
        go_end0
        rw [show (reckW op s) = .ok sz by simp [HRE.out, popN, H1.out, bnd_ok, hz]]
        exact ⟨rfl, vsz, vfz, fvz, HJz.out, HF1.out.trans HFz.out⟩
set_option maxRecDepth 100000 in
set_option maxHeartbeats 4000000 in
theorem reckon_2 (hK : KOk K) (h : WJ K at_ s vs vf fv w) (hw : WF s) (hn : s.fr.length ≤ 1000) (hne : s.fr ≠ []) (op f t : Int) (har : ar op = (2, f, t, true)) :
    Calls Tryz.prog 65 #[.pointer (some ⟨K.B, 0, none⟩), .int .i64 op] w (Ends K at_ vs vf w (reckW op s)) := by
  have HK := hide hK
  have HJ0 := hide h
  have HF0 := hide (Fr.refl K vs vf w)
  have hsz := h.lt
  have HS0 := hide h
  have HW0 := hide hw
  have HN0 := hide hn
  have HX0 := hide hne
  have HA := hide (arity_any op w)
  rw [har] at HA
  unfold four at HA
  have HAR := hide har
  clear har
  clear hK h hw hn hne
  go_enter Tryz.func65, Tryz.ntmps65
  go_wp2_with fail
  refine HA.out.mono ?_
  rintro e wx ⟨rfl, rfl⟩
  go_wp2_with fail
  refine (divides_any op _).mono ?_
  rintro e wx ⟨rfl, rfl⟩
  go_wp2_with fail
  refine (of_any (f == 1) (!divs op) _).mono ?_
  rintro e wx ⟨rfl, rfl⟩
  go_wp2_with fail
  have HTY := hide (ty0_ot (f == 1) (!divs op))
  have HRE := hide (show ∀ s : Wk, reckW op s = bnd (popN 2 (ot (f == 1) (!divs op)) false s) fun p => pushL [ot (t == 1) p.1] p.2 from fun s => by simp only [reckW, HAR.out, beq_dec]; rfl)
  generalize ot (f == 1) (!divs op) = tk at *
  refine wp_loop_rounds 3 ?_
  rw [rounds_succ]
  go_wp2_with fail
  refine (popTo_1 HK.out HJ0.out HW0.out HN0.out HX0.out tk HTY.out _ (by simp)).mono ?_
  intro e w1 he
  cases h1 : popTo [tk] s with
  | error c =>
    rw [h1] at he
    obtain ⟨p, rfl, hx⟩ := he
    go_wp2_with fail
    rw [show (reckW op s) = .error c by simp [HRE.out, popN, bnd_err, h1]]
    exact ⟨rfl, p, rfl, hx⟩
  | ok q =>
    obtain ⟨b1, s1⟩ := q
    rw [h1] at he
    obtain ⟨rfl, vs1, vf1, fv1, J1, F1⟩ := he
    obtain ⟨hw1, e1, _⟩ := popTo_ok HW0.out h1
    have HW1 := hide hw1
    have HN1 := hide (show s1.fr.length ≤ 1000 by rw [e1]; exact HN0.out)
    have HX1 := hide (show s1.fr ≠ [] by rw [e1]; exact HX0.out)
    have HE1 := hide e1
    clear hw1 e1
    have HJ1 := hide J1
    have HF1 := hide (HF0.out.trans F1)
    have H1 := hide h1
    clear J1 F1 h1
    cases b1 with
    | true =>
      go_wp2_with fail
      rw [rounds_succ]
      go_wp2_with fail
      refine (popTo_1 HK.out HJ1.out HW1.out HN1.out HX1.out tk HTY.out _ (by simp)).mono ?_
      intro e w2 he
      cases h2 : popTo [tk] s1 with
      | error c =>
        rw [h2] at he
        obtain ⟨p, rfl, hx⟩ := he
        go_wp2_with fail
        rw [show (reckW op s) = .error c by simp [HRE.out, popN, H1.out, bnd_ok, bnd_err, h2]]
        exact ⟨rfl, p, rfl, hx⟩
      | ok q =>
        obtain ⟨b2, s2⟩ := q
        rw [h2] at he
        obtain ⟨rfl, vs2, vf2, fv2, J2, F2⟩ := he
        obtain ⟨hw2, e2, _⟩ := popTo_ok HW1.out h2
        have HW2 := hide hw2
        have HN2 := hide (show s2.fr.length ≤ 1000 by rw [e2]; exact HN1.out)
        have HX2 := hide (show s2.fr ≠ [] by rw [e2]; exact HX1.out)
        have HE2 := hide e2
        clear hw2 e2
        have HJ2 := hide J2
        have HF2 := hide (HF1.out.trans F2)
        have H2 := hide h2
        clear J2 F2 h2
        cases b2 with
        | true =>
          go_wp2_with fail
          rw [rounds_succ]
          go_wp2_with fail
          refine (of_any (t == 1) true _).mono ?_
          rintro e wx ⟨rfl, rfl⟩
          go_wp2_with fail
          refine (push_1 HK.out HJ2.out HW2.out (ot (t == 1) true) (ty0_ot _ _).ty _ (by simp)).mono ?_
          intro e wz he
          cases hz : pushL [ot (t == 1) true] s2 with
          | error c =>
            rw [hz] at he
            obtain ⟨p, rfl, hx⟩ := he
            go_wp2_with fail
            rw [show (reckW op s) = .error c by simp [HRE.out, popN, H1.out, H2.out, bnd_ok, hz]]
            exact ⟨rfl, p, rfl, hx⟩
          | ok sz =>
            rw [hz] at he
            obtain ⟨rfl, vsz, vfz, fvz, Jz, Fz⟩ := he
            have HJz := hide Jz
            have HFz := hide Fz
            clear Jz Fz
            go_wp2_with fail
            go_end0
            rw [show (reckW op s) = .ok sz by simp [HRE.out, popN, H1.out, H2.out, bnd_ok, hz]]
            exact ⟨rfl, vsz, vfz, fvz, HJz.out, HF2.out.trans HFz.out⟩
        | false =>
          go_wp2_with fail
          rw [rounds_succ]
          go_wp2_with fail
          refine (of_any (t == 1) true _).mono ?_
          rintro e wx ⟨rfl, rfl⟩
          go_wp2_with fail
          refine (push_1 HK.out HJ2.out HW2.out (ot (t == 1) true) (ty0_ot _ _).ty _ (by simp)).mono ?_
          intro e wz he
          cases hz : pushL [ot (t == 1) true] s2 with
          | error c =>
            rw [hz] at he
            obtain ⟨p, rfl, hx⟩ := he
            go_wp2_with fail
            rw [show (reckW op s) = .error c by simp [HRE.out, popN, H1.out, H2.out, bnd_ok, hz]]
            exact ⟨rfl, p, rfl, hx⟩
          | ok sz =>
            rw [hz] at he
            obtain ⟨rfl, vsz, vfz, fvz, Jz, Fz⟩ := he
            have HJz := hide Jz
            have HFz := hide Fz
            clear Jz Fz
            go_wp2_with fail
            go_end0
            rw [show (reckW op s) = .ok sz by simp [HRE.out, popN, H1.out, H2.out, bnd_ok, hz]]
            exact ⟨rfl, vsz, vfz, fvz, HJz.out, HF2.out.trans HFz.out⟩
    | false =>
      go_wp2_with fail
      rw [rounds_succ]
      go_wp2_with fail
      refine (popTo_1 HK.out HJ1.out HW1.out HN1.out HX1.out tk HTY.out _ (by simp)).mono ?_
      intro e w2 he
      cases h2 : popTo [tk] s1 with
      | error c =>
        rw [h2] at he
        obtain ⟨p, rfl, hx⟩ := he
        go_wp2_with fail
        rw [show (reckW op s) = .error c by simp [HRE.out, popN, H1.out, bnd_ok, bnd_err, h2]]
        exact ⟨rfl, p, rfl, hx⟩
      | ok q =>
        obtain ⟨b2, s2⟩ := q
        rw [h2] at he
        obtain ⟨rfl, vs2, vf2, fv2, J2, F2⟩ := he
        obtain ⟨hw2, e2, _⟩ := popTo_ok HW1.out h2
        have HW2 := hide hw2
        have HN2 := hide (show s2.fr.length ≤ 1000 by rw [e2]; exact HN1.out)
        have HX2 := hide (show s2.fr ≠ [] by rw [e2]; exact HX1.out)
        have HE2 := hide e2
        clear hw2 e2
        have HJ2 := hide J2
        have HF2 := hide (HF1.out.trans F2)
        have H2 := hide h2
        clear J2 F2 h2
        cases b2 with
        | true =>
          go_wp2_with fail
          rw [rounds_succ]
          go_wp2_with fail
          refine (of_any (t == 1) true _).mono ?_
          rintro e wx ⟨rfl, rfl⟩
          go_wp2_with fail
          refine (push_1 HK.out HJ2.out HW2.out (ot (t == 1) true) (ty0_ot _ _).ty _ (by simp)).mono ?_
          intro e wz he
          cases hz : pushL [ot (t == 1) true] s2 with
          | error c =>
            rw [hz] at he
            obtain ⟨p, rfl, hx⟩ := he
            go_wp2_with fail
            rw [show (reckW op s) = .error c by simp [HRE.out, popN, H1.out, H2.out, bnd_ok, hz]]
            exact ⟨rfl, p, rfl, hx⟩
          | ok sz =>
            rw [hz] at he
            obtain ⟨rfl, vsz, vfz, fvz, Jz, Fz⟩ := he
            have HJz := hide Jz
            have HFz := hide Fz
            clear Jz Fz
            go_wp2_with fail
            go_end0
            rw [show (reckW op s) = .ok sz by simp [HRE.out, popN, H1.out, H2.out, bnd_ok, hz]]
            exact ⟨rfl, vsz, vfz, fvz, HJz.out, HF2.out.trans HFz.out⟩
        | false =>
          go_wp2_with fail
          rw [rounds_succ]
          go_wp2_with fail
          refine (of_any (t == 1) false _).mono ?_
          rintro e wx ⟨rfl, rfl⟩
          go_wp2_with fail
          refine (push_1 HK.out HJ2.out HW2.out (ot (t == 1) false) (ty0_ot _ _).ty _ (by simp)).mono ?_
          intro e wz he
          cases hz : pushL [ot (t == 1) false] s2 with
          | error c =>
            rw [hz] at he
            obtain ⟨p, rfl, hx⟩ := he
            go_wp2_with fail
            rw [show (reckW op s) = .error c by simp [HRE.out, popN, H1.out, H2.out, bnd_ok, hz]]
            exact ⟨rfl, p, rfl, hx⟩
          | ok sz =>
            rw [hz] at he
            obtain ⟨rfl, vsz, vfz, fvz, Jz, Fz⟩ := he
            have HJz := hide Jz
            have HFz := hide Fz
            clear Jz Fz
            go_wp2_with fail
            go_end0
            rw [show (reckW op s) = .ok sz by simp [HRE.out, popN, H1.out, H2.out, bnd_ok, hz]]
            exact ⟨rfl, vsz, vfz, fvz, HJz.out, HF2.out.trans HFz.out⟩
end
end Go.Proofs.YtamofhkmhjckaabGreatDoor
namespace Go.Proofs.YtamofhkmhjckaabGreatDoor
open Go.RowKit
section
variable {K : Kx} {at_ : Int} {s : Wk} {vs vf : Value} {fv : List (Fm × Value)} {w : World}
theorem inb_pass {id j : Nat} {Q : Exit → Act → World → Prop} {a : Act} {w : World} (h : j ≠ id) (q : Q (.exit j) a w) : Exit.inBlock id Q (.exit j) a w := by
  simp only [Exit.inBlock, h, if_false]; exact q
theorem inb_hit {id : Nat} {Q : Exit → Act → World → Prop} {a : Act} {w : World} (q : Q .normal a w) : Exit.inBlock id Q (.exit id) a w := by
  simp only [Exit.inBlock, if_true]; exact q
theorem inb_norm {id : Nat} {Q : Exit → Act → World → Prop} {a : Act} {w : World} (q : Q .normal a w) : Exit.inBlock id Q .normal a w := q
theorem inb_panic {id : Nat} {Q : Exit → Act → World → Prop} {a : Act} {w : World} {ch : List PanicEntry} (q : Q (.panic ch) a w) : Exit.inBlock id Q (.panic ch) a w := q
theorem then_exit {K : Act → World → Prop} {Q : Exit → Act → World → Prop} {a : Act} {w : World} {j : Nat} (q : Q (.exit j) a w) : Exit.then K Q (.exit j) a w := q
theorem then_norm {K : Act → World → Prop} {Q : Exit → Act → World → Prop} {a : Act} {w : World} (q : K a w) : Exit.then K Q .normal a w := q
theorem then_panic {K : Act → World → Prop} {Q : Exit → Act → World → Prop} {a : Act} {w : World} {ch : List PanicEntry} (q : Q (.panic ch) a w) : Exit.then K Q (.panic ch) a w := q
end
end Go.Proofs.YtamofhkmhjckaabGreatDoor
namespace Go.Proofs.YtamofhkmhjckaabGreatDoor
open Go.RowKit
section
variable {K : Kx} {at_ : Int} {s : Wk} {vs vf : Value} {fv : List (Fm × Value)} {w : World}
theorem ins_reck (C : Cx) (op xn xm : Int) (s : Wk) (hr : 69 ≤ op ∧ op ≤ 173) : insW C ⟨op, xn, xm⟩ s = reckW op s := by
  unfold insW
  simp only
  rw [if_neg (by omega)]
  rw [if_neg (by omega)]
  rw [if_neg (by omega)]
  rw [if_neg (by omega)]
  rw [if_neg (by omega)]
  rw [if_neg (by omega)]
  rw [if_neg (by omega)]
  rw [if_neg (by omega)]
  rw [if_neg (by omega)]
  rw [if_neg (by omega)]
  rw [if_neg (by omega)]
  rw [if_neg (by omega)]
  rw [if_neg (by omega)]
  rw [if_neg (by omega)]
  rw [if_neg (by omega)]
  rw [if_neg (by omega)]
  rw [if_neg (by omega)]
  rw [if_neg (by omega)]
  rw [if_neg (by omega)]
  rw [if_neg (by omega)]
  rw [if_neg (by omega)]
  rw [if_neg (by omega)]
  rw [if_neg (by omega)]
  rw [if_neg (by omega)]
  rw [if_neg (by omega)]
set_option maxRecDepth 100000 in
set_option maxHeartbeats 2000000 in
theorem ins_r1 (hK : KOk K) (h : WJ K at_ s vs vf fv w) (hw : WF s) (hn : s.fr.length ≤ 1000) (hne : s.fr ≠ []) (op xn xm f t : Int) (hr : 69 ≤ op ∧ op ≤ 173) (har : ar op = (1, f, t, true)) :
    Calls Tryz.prog 41 #[.pointer (some ⟨K.B, 0, none⟩), .agg #[.int .i64 op, .int .i64 xn, .int .i64 xm]] w (Ends K at_ vs vf w (insW K.C ⟨op, xn, xm⟩ s)) := by
  have HK := hide hK
  have HJ0 := hide (h.alloc hK (.cells #[.int .i64 op, .int .i64 xn, .int .i64 xm] 44))
  have HF0 := hide ((Fr.refl K vs vf w).alloc (h.size hK) (.cells #[.int .i64 op, .int .i64 xn, .int .i64 xm] 44))
  have HR0 := hide (Row.made w #[.int .i64 op, .int .i64 xn, .int .i64 xm] 44)
  have hsz := h.lt
  have HS0 := hide h
  have HW0 := hide hw
  have HN0 := hide hn
  have HX0 := hide hne
  have q1 : (op == 1) = false := by simp; omega
  have q0 : (op == 0) = false := by simp; omega
  have q4 : (op == 4) = false := by simp; omega
  have q2 : (op == 2) = false := by simp; omega
  have q3 : (op == 3) = false := by simp; omega
  have q5 : (op == 5) = false := by simp; omega
  have q11 : (op == 11) = false := by simp; omega
  have q12 : (op == 12) = false := by simp; omega
  have q13 : (op == 13) = false := by simp; omega
  have q15 : (op == 15) = false := by simp; omega
  have q16 : (op == 16) = false := by simp; omega
  have q26 : (op == 26) = false := by simp; omega
  have q27 : (op == 27) = false := by simp; omega
  have q32 : (op == 32) = false := by simp; omega
  have q33 : (op == 33) = false := by simp; omega
  have q34 : (op == 34) = false := by simp; omega
  have q35 : (op == 35) = false := by simp; omega
  have q36 : (op == 36) = false := by simp; omega
  have q40 : (op == 40) = false := by simp; omega
  have q41 : (op == 41) = false := by simp; omega
  have q54 : (op == 54) = false := by simp; omega
  have q55 : (op == 55) = false := by simp; omega
  have q65 : (op == 65) = false := by simp; omega
  have q66 : (op == 66) = false := by simp; omega
  have q240 : (op == 240) = false := by simp; omega
  have q241 : (op == 241) = false := by simp; omega
  have HRI := hide (ins_reck K.C op xn xm s hr)
  clear hr
  clear hK h hw hn hne
  go_enter Tryz.func41, Tryz.ntmps41
  refine wp_seq_k fun K0 hK0 => ?_
  have HK0 := hide hK0
  clear hK0
  go_wp2
  refine HK0.out _ _ ?_
  clear HK0
  refine wp_seq_k fun K0 hK0 => ?_
  have HK0 := hide hK0
  clear hK0
  go_wp2
  refine HK0.out _ _ ?_
  clear HK0
  refine wp_block ?_
  refine wp_seq_k fun KB17 hKB => ?_
  have HB17 := hide hKB
  clear hKB
  refine wp_block ?_
  refine wp_seq_k fun KB16 hKB => ?_
  have HB16 := hide hKB
  clear hKB
  refine wp_block ?_
  refine wp_seq_k fun KB15 hKB => ?_
  have HB15 := hide hKB
  clear hKB
  refine wp_block ?_
  refine wp_seq_k fun KB14 hKB => ?_
  have HB14 := hide hKB
  clear hKB
  refine wp_block ?_
  refine wp_seq_k fun KB13 hKB => ?_
  have HB13 := hide hKB
  clear hKB
  refine wp_block ?_
  refine wp_seq_k fun KB12 hKB => ?_
  have HB12 := hide hKB
  clear hKB
  refine wp_block ?_
  refine wp_seq_k fun KB11 hKB => ?_
  have HB11 := hide hKB
  clear hKB
  refine wp_block ?_
  refine wp_seq_k fun KB10 hKB => ?_
  have HB10 := hide hKB
  clear hKB
  refine wp_block ?_
  refine wp_seq_k fun KB9 hKB => ?_
  have HB9 := hide hKB
  clear hKB
  refine wp_block ?_
  refine wp_seq_k fun KB8 hKB => ?_
  have HB8 := hide hKB
  clear hKB
  refine wp_block ?_
  refine wp_seq_k fun KB7 hKB => ?_
  have HB7 := hide hKB
  clear hKB
  refine wp_block ?_
  refine wp_seq_k fun KB6 hKB => ?_
  have HB6 := hide hKB
  clear hKB
  refine wp_block ?_
  refine wp_seq_k fun KB5 hKB => ?_
  have HB5 := hide hKB
  clear hKB
  refine wp_block ?_
  refine wp_seq_k fun KB4 hKB => ?_
  have HB4 := hide hKB
  clear hKB
  refine wp_block ?_
  refine wp_seq_k fun KB3 hKB => ?_
  have HB3 := hide hKB
  clear hKB
  refine wp_block ?_
  refine wp_seq_k fun KB2 hKB => ?_
  have HB2 := hide hKB
  clear hKB
  refine wp_block ?_
  refine wp_seq_k fun KB1 hKB => ?_
  have HB1 := hide hKB
  clear hKB
  refine wp_block ?_
  refine wp_hide (fun Q' hQ' => ?_)
  have HQ := hide hQ'
  clear hQ'
  go_wp2
  refine HQ.out _ _ _ ?_
  refine inb_pass (by decide) (then_exit ?_)
  refine inb_pass (by decide) (then_exit ?_)
  refine inb_pass (by decide) (then_exit ?_)
  refine inb_pass (by decide) (then_exit ?_)
  refine inb_pass (by decide) (then_exit ?_)
  refine inb_pass (by decide) (then_exit ?_)
  refine inb_pass (by decide) (then_exit ?_)
  refine inb_pass (by decide) (then_exit ?_)
  refine inb_pass (by decide) (then_exit ?_)
  refine inb_pass (by decide) (then_exit ?_)
  refine inb_pass (by decide) (then_exit ?_)
  refine inb_pass (by decide) (then_exit ?_)
  refine inb_pass (by decide) (then_exit ?_)
  refine inb_pass (by decide) (then_exit ?_)
  refine inb_pass (by decide) (then_exit ?_)
  refine inb_pass (by decide) (then_exit ?_)
  refine inb_hit (then_norm ?_)
  refine HB17.out _ _ ?_
  refine wp_hide (fun Q2 hQ2 => ?_)
  have HQ2 := hide hQ2
  clear hQ2 HQ
  go_wp2_with fail
  refine (reckon_1 HK.out HJ0.out HW0.out HN0.out HX0.out op f t har).mono ?_
  intro e wz he
  cases hz : reckW op s with
  | error c =>
    rw [hz] at he
    obtain ⟨p, rfl, hx⟩ := he
    go_wp2_with fail
    refine HQ2.out _ _ _ ?_
    refine inb_panic ?_
    rw [show (insW K.C ⟨op, xn, xm⟩ s) = .error c by simp [HRI.out, hz]]
    exact ⟨rfl, p, rfl, hx⟩
  | ok sz =>
    rw [hz] at he
    obtain ⟨rfl, vsz, vfz, fvz, Jz, Fz⟩ := he
    have HJz := hide Jz
    have HFz := hide Fz
    clear Jz Fz
    go_wp2_with fail
    refine HQ2.out _ _ _ ?_
    refine inb_hit ?_
    go_end0
    rw [show (insW K.C ⟨op, xn, xm⟩ s) = .ok sz by simp [HRI.out, hz]]
    exact ⟨rfl, vsz, vfz, fvz, HJz.out, HF0.out.trans HFz.out⟩
set_option maxRecDepth 100000 in
set_option maxHeartbeats 2000000 in
theorem ins_r2 (hK : KOk K) (h : WJ K at_ s vs vf fv w) (hw : WF s) (hn : s.fr.length ≤ 1000) (hne : s.fr ≠ []) (op xn xm f t : Int) (hr : 69 ≤ op ∧ op ≤ 173) (har : ar op = (2, f, t, true)) :
    Calls Tryz.prog 41 #[.pointer (some ⟨K.B, 0, none⟩), .agg #[.int .i64 op, .int .i64 xn, .int .i64 xm]] w (Ends K at_ vs vf w (insW K.C ⟨op, xn, xm⟩ s)) := by
  have HK := hide hK
  have HJ0 := hide (h.alloc hK (.cells #[.int .i64 op, .int .i64 xn, .int .i64 xm] 44))
  have HF0 := hide ((Fr.refl K vs vf w).alloc (h.size hK) (.cells #[.int .i64 op, .int .i64 xn, .int .i64 xm] 44))
  have HR0 := hide (Row.made w #[.int .i64 op, .int .i64 xn, .int .i64 xm] 44)
  have hsz := h.lt
  have HS0 := hide h
  have HW0 := hide hw
  have HN0 := hide hn
  have HX0 := hide hne
  have q1 : (op == 1) = false := by simp; omega
  have q0 : (op == 0) = false := by simp; omega
  have q4 : (op == 4) = false := by simp; omega
  have q2 : (op == 2) = false := by simp; omega
  have q3 : (op == 3) = false := by simp; omega
  have q5 : (op == 5) = false := by simp; omega
  have q11 : (op == 11) = false := by simp; omega
  have q12 : (op == 12) = false := by simp; omega
  have q13 : (op == 13) = false := by simp; omega
  have q15 : (op == 15) = false := by simp; omega
  have q16 : (op == 16) = false := by simp; omega
  have q26 : (op == 26) = false := by simp; omega
  have q27 : (op == 27) = false := by simp; omega
  have q32 : (op == 32) = false := by simp; omega
  have q33 : (op == 33) = false := by simp; omega
  have q34 : (op == 34) = false := by simp; omega
  have q35 : (op == 35) = false := by simp; omega
  have q36 : (op == 36) = false := by simp; omega
  have q40 : (op == 40) = false := by simp; omega
  have q41 : (op == 41) = false := by simp; omega
  have q54 : (op == 54) = false := by simp; omega
  have q55 : (op == 55) = false := by simp; omega
  have q65 : (op == 65) = false := by simp; omega
  have q66 : (op == 66) = false := by simp; omega
  have q240 : (op == 240) = false := by simp; omega
  have q241 : (op == 241) = false := by simp; omega
  have HRI := hide (ins_reck K.C op xn xm s hr)
  clear hr
  clear hK h hw hn hne
  go_enter Tryz.func41, Tryz.ntmps41
  refine wp_seq_k fun K0 hK0 => ?_
  have HK0 := hide hK0
  clear hK0
  go_wp2
  refine HK0.out _ _ ?_
  clear HK0
  refine wp_seq_k fun K0 hK0 => ?_
  have HK0 := hide hK0
  clear hK0
  go_wp2
  refine HK0.out _ _ ?_
  clear HK0
  refine wp_block ?_
  refine wp_seq_k fun KB17 hKB => ?_
  have HB17 := hide hKB
  clear hKB
  refine wp_block ?_
  refine wp_seq_k fun KB16 hKB => ?_
  have HB16 := hide hKB
  clear hKB
  refine wp_block ?_
  refine wp_seq_k fun KB15 hKB => ?_
  have HB15 := hide hKB
  clear hKB
  refine wp_block ?_
  refine wp_seq_k fun KB14 hKB => ?_
  have HB14 := hide hKB
  clear hKB
  refine wp_block ?_
  refine wp_seq_k fun KB13 hKB => ?_
  have HB13 := hide hKB
  clear hKB
  refine wp_block ?_
  refine wp_seq_k fun KB12 hKB => ?_
  have HB12 := hide hKB
  clear hKB
  refine wp_block ?_
  refine wp_seq_k fun KB11 hKB => ?_
  have HB11 := hide hKB
  clear hKB
  refine wp_block ?_
  refine wp_seq_k fun KB10 hKB => ?_
  have HB10 := hide hKB
  clear hKB
  refine wp_block ?_
  refine wp_seq_k fun KB9 hKB => ?_
  have HB9 := hide hKB
  clear hKB
  refine wp_block ?_
  refine wp_seq_k fun KB8 hKB => ?_
  have HB8 := hide hKB
  clear hKB
  refine wp_block ?_
  refine wp_seq_k fun KB7 hKB => ?_
  have HB7 := hide hKB
  clear hKB
  refine wp_block ?_
  refine wp_seq_k fun KB6 hKB => ?_
  have HB6 := hide hKB
  clear hKB
  refine wp_block ?_
  refine wp_seq_k fun KB5 hKB => ?_
  have HB5 := hide hKB
  clear hKB
  refine wp_block ?_
  refine wp_seq_k fun KB4 hKB => ?_
  have HB4 := hide hKB
  clear hKB
  refine wp_block ?_
  refine wp_seq_k fun KB3 hKB => ?_
  have HB3 := hide hKB
  clear hKB
  refine wp_block ?_
  refine wp_seq_k fun KB2 hKB => ?_
  have HB2 := hide hKB
  clear hKB
  refine wp_block ?_
  refine wp_seq_k fun KB1 hKB => ?_
  have HB1 := hide hKB
  clear hKB
  refine wp_block ?_
  refine wp_hide (fun Q' hQ' => ?_)
  have HQ := hide hQ'
  clear hQ'
  go_wp2
  refine HQ.out _ _ _ ?_
  refine inb_pass (by decide) (then_exit ?_)
  refine inb_pass (by decide) (then_exit ?_)
  refine inb_pass (by decide) (then_exit ?_)
  refine inb_pass (by decide) (then_exit ?_)
  refine inb_pass (by decide) (then_exit ?_)
  refine inb_pass (by decide) (then_exit ?_)
  refine inb_pass (by decide) (then_exit ?_)
  refine inb_pass (by decide) (then_exit ?_)
  refine inb_pass (by decide) (then_exit ?_)
  refine inb_pass (by decide) (then_exit ?_)
  refine inb_pass (by decide) (then_exit ?_)
  refine inb_pass (by decide) (then_exit ?_)
  refine inb_pass (by decide) (then_exit ?_)
  refine inb_pass (by decide) (then_exit ?_)
  refine inb_pass (by decide) (then_exit ?_)
  refine inb_pass (by decide) (then_exit ?_)
  refine inb_hit (then_norm ?_)
  refine HB17.out _ _ ?_
  refine wp_hide (fun Q2 hQ2 => ?_)
  have HQ2 := hide hQ2
  clear hQ2 HQ
  go_wp2_with fail
  refine (reckon_2 HK.out HJ0.out HW0.out HN0.out HX0.out op f t har).mono ?_
  intro e wz he
  cases hz : reckW op s with
  | error c =>
    rw [hz] at he
    obtain ⟨p, rfl, hx⟩ := he
    go_wp2_with fail
    refine HQ2.out _ _ _ ?_
    refine inb_panic ?_
    rw [show (insW K.C ⟨op, xn, xm⟩ s) = .error c by simp [HRI.out, hz]]
    exact ⟨rfl, p, rfl, hx⟩
  | ok sz =>
    rw [hz] at he
    obtain ⟨rfl, vsz, vfz, fvz, Jz, Fz⟩ := he
    have HJz := hide Jz
    have HFz := hide Fz
    clear Jz Fz
    go_wp2_with fail
    refine HQ2.out _ _ _ ?_
    refine inb_hit ?_
    go_end0
    rw [show (insW K.C ⟨op, xn, xm⟩ s) = .ok sz by simp [HRI.out, hz]]
    exact ⟨rfl, vsz, vfz, fvz, HJz.out, HF0.out.trans HFz.out⟩
end
end Go.Proofs.YtamofhkmhjckaabGreatDoor

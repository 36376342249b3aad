/-
  The walk's choose, cell, access, reckon; what calls are to (Callee); the walk's call.
  The walk's branch.
  The walk's turn and close.
  The walk's cell: locals and globals.
-/
import Derived.Test.YtamofhkmhjckaabGreatDoorWalk6
import Derived.Test.YtamofhkmhjckaabGreatDoorWalk9
import Derived.Test.YtamofhkmhjckaabGreatDoorWalk10
namespace Go.Proofs.YtamofhkmhjckaabGreatDoor
open Go.RowKit
section
variable {K : Kx} {at_ : Int} {s : Wk} {vs vf : Value} {fv : List (Fm × Value)} {w : World}
theorem popTo_v (hK : KOk K) (h : WJ K at_ s vs vf fv w) (hw : WF s) (hn : s.fr.length ≤ 1000) (hne : s.fr ≠ []) {v : Value} {l : List Int} (hb : Bri K vs vf w v l) (hl4 : l.length ≤ 4) (hty : ∀ t ∈ l, ty0 t) :
    Calls Tryz.prog 52 #[.pointer (some ⟨K.B, 0, none⟩), v] w (EndsV Value.bool K at_ vs vf w (popTo l s)) := callsIn_wide.1 (popTo_in 5 (by decide) hK h hw hn hne hb hl4 hty)
theorem Row.keep {W W' : World} {b : Nat} {cs : Array Value} {t : TypeId} {vs' vf' : Value} (h : Row W b cs t) (J : WJ K at_ s vs vf fv W) (F : Fr K vs vf vs' vf' W W') (h1 : t ≠ 101) (h2 : t ≠ 3) (h3 : t ≠ 127) : Row W' b cs t := by
  refine (F.kp b h.lt ?_ (row_ne J.st h h2) (row_ne J.fr h h3)).trans h
  rintro rfl
  have := J.row
  unfold Row at this h
  rw [h] at this; simp at this; exact h1 this.2
theorem locW_ty (hK : KOk K) {n t : Int} (h : locW K.C n = .ok t) : ty0 t := by
  unfold locW at h
  split at h
  · rename_i hx; cases h; exact hK.cx.L _ (List.mem_of_getElem? hx)
  · cases h
theorem gloW_ty (hK : KOk K) {n t : Int} (h : gloW K.C n = .ok t) : ty0 t := by
  unfold gloW at h
  split at h
  · rename_i hx; cases h; exact hK.cx.gl _ (List.mem_of_getElem? hx)
  · cases h
/-- popTo of one literal type -/
theorem popTo_1 (hK : KOk K) (h : WJ K at_ s vs vf fv w) (hw : WF s) (hn : s.fr.length ≤ 1000) (hne : s.fr ≠ []) (t : Int) (ht : ty0 t) (n0 : Nat) (h0 : w.heap.size = n0) :
    Calls Tryz.prog 52 #[.pointer (some ⟨K.B, 0, none⟩), .slice (some ⟨n0, 0, none⟩) 1 1] (w.alloc (.cells #[.int .i64 t] 3)) (EndsV Value.bool K at_ vs vf w (popTo [t] s)) := by
  subst h0
  refine (popTo_v hK (h.alloc hK _) hw hn hne (h.lit1 t ht.ty.i64) (by simp) (by simpa using ht)).mono fun e w' he => ?_
  have F := (Fr.refl K vs vf w).alloc (h.size hK) (.cells #[.int .i64 t] 3)
  unfold EndsV at *
  cases hp : popTo [t] s with
  | error c => rw [hp] at he; exact he
  | ok p => rw [hp] at he; obtain ⟨rfl, vs', vf', fv', J, F'⟩ := he; exact ⟨rfl, vs', vf', fv', J, F.trans F'⟩
theorem popTo_2 (hK : KOk K) (h : WJ K at_ s vs vf fv w) (hw : WF s) (hn : s.fr.length ≤ 1000) (hne : s.fr ≠ []) (t u : Int) (ht : ty0 t) (hu : ty0 u) (n0 : Nat) (h0 : w.heap.size = n0) :
    Calls Tryz.prog 52 #[.pointer (some ⟨K.B, 0, none⟩), .slice (some ⟨n0, 0, none⟩) 2 2] (w.alloc (.cells #[.int .i64 t, .int .i64 u] 3)) (EndsV Value.bool K at_ vs vf w (popTo [t, u] s)) := by
  subst h0
  refine (popTo_v hK (h.alloc hK _) hw hn hne (h.lit2 t u ht.ty.i64 hu.ty.i64) (by simp) (by simp [ht, hu])).mono fun e w' he => ?_
  have F := (Fr.refl K vs vf w).alloc (h.size hK) (.cells #[.int .i64 t, .int .i64 u] 3)
  unfold EndsV at *
  cases hp : popTo [t, u] s with
  | error c => rw [hp] at he; exact he
  | ok p => rw [hp] at he; obtain ⟨rfl, vs', vf', fv', J, F'⟩ := he; exact ⟨rfl, vs', vf', fv', J, F.trans F'⟩
/-- push of one literal type -/
theorem push_1 (hK : KOk K) (h : WJ K at_ s vs vf fv w) (hw : WF s) (t : Int) (ht : ty t) (n0 : Nat) (h0 : w.heap.size = n0) :
    Calls Tryz.prog 62 #[.pointer (some ⟨K.B, 0, none⟩), .slice (some ⟨n0, 0, none⟩) 1 1] (w.alloc (.cells #[.int .i64 t] 3)) (Ends K at_ vs vf w (pushL [t] s)) := by
  subst h0
  refine (push_any hK (h.alloc hK _) hw (h.lit1 t ht.i64) (by simp)).mono fun e w' he => ?_
  have F := (Fr.refl K vs vf w).alloc (h.size hK) (.cells #[.int .i64 t] 3)
  unfold Ends at *
  cases hp : pushL [t] s with
  | error c => rw [hp] at he; exact he
  | ok p => rw [hp] at he; obtain ⟨rfl, vs', vf', fv', J, F'⟩ := he; exact ⟨rfl, vs', vf', fv', J, F.trans F'⟩
theorem Ends.from {w1 : World} {vs1 vf1 : Value} {r : Except Int Wk} {e : Ending} {w2 : World} (F : Fr K vs vf vs1 vf1 w w1) (h : Ends K at_ vs1 vf1 w1 r e w2) : Ends K at_ vs vf w r e w2 := by
  cases r with
  | error c => exact h
  | ok s2 => obtain ⟨rfl, vs', vf', fv', J, F'⟩ := h; exact ⟨rfl, vs', vf', fv', J, F.trans F'⟩
theorem joinW_ty {lo up t : Int} (h : joinW lo up = .ok t) (hl : ty lo) (hu : ty up) : ty t := by
  unfold joinW at h
  split at h
  · cases h; exact hl
  · split at h
    · cases h; exact hu
    · split at h
      · rename_i hj
        cases h
        rw [(jn_yes hj).2.2.2]; exact (ty0_ot _ _).ty
      · cases h
set_option maxRecDepth 100000 in
set_option maxHeartbeats 2000000 in
theorem choose_any (hK : KOk K) (h : WJ K at_ s vs vf fv w) (hw : WF s) (hn : s.fr.length ≤ 1000) (hne : s.fr ≠ []) :
    Calls Tryz.prog 59 #[.pointer (some ⟨K.B, 0, none⟩)] w (Ends K at_ vs vf w (chooseW s)) := by
  have HK := hide hK
  have HJ0 := hide h
  have HF0 := hide (Fr.refl K vs vf w)
  have hsz := h.lt
  have HS0 := hide h
  have HW0 := hide hw
  have HN0 := hide hn
  have HX0 := hide hne
  clear hK h hw hn hne
  go_enter Tryz.func59, Tryz.ntmps59
  go_wp2_with fail
  refine (pop_v HK.out HJ0.out HW0.out HN0.out HX0.out).mono ?_
  intro e w1 he
  cases h1 : popW s with
  | error c =>
    rw [h1] at he
    obtain ⟨p, rfl, hx⟩ := he
    go_wp2_with fail
    rw [show chooseW s = .error c by simp [chooseW, bnd_err, h1]]
    exact ⟨rfl, p, rfl, hx⟩
  | ok q =>
    obtain ⟨t1, s1⟩ := q
    rw [h1] at he
    obtain ⟨rfl, vs1, vf1, fv1, J1, F1⟩ := he
    obtain ⟨hw1, ht1, e1, _⟩ := popW_ok HW0.out h1
    have HW1 := hide hw1
    have HT1 := hide ht1
    have HN1 := hide (show s1.fr.length ≤ 1000 by rw [e1]; exact HN0.out)
    have HX1 := hide (show s1.fr ≠ [] by rw [e1]; exact HX0.out)
    have HE1 := hide e1
    clear hw1 ht1 e1
    have HJ1 := hide J1
    have HF1 := hide (HF0.out.trans F1)
    have H1 := hide h1
    clear J1 F1 h1
    go_wp2_with fail
    cases hwi : wi t1 with
    | true =>
      have HWI := hide (wide_is t1 true w1 HT1.out.i64 hwi)
      refine HWI.out.mono ?_
      rintro e wx ⟨rfl, rfl⟩
      go_wp2_with fail
      refine (wmust_no HK.out HJ1.out).mono ?_
      rintro e wx ⟨⟨p, rfl, hx⟩, _⟩
      go_wp2_with fail
      rw [show chooseW s = .error 3 by simp [chooseW, H1.out, bnd_ok, hwi]]
      exact ⟨rfl, p, rfl, hx⟩
    | false =>
      have HWI := hide (wide_is t1 false w1 HT1.out.i64 hwi)
      have HWF := hide hwi
      clear hwi
      refine HWI.out.mono ?_
      rintro e wx ⟨rfl, rfl⟩
      go_wp2_with fail
      refine (wmust_yes HJ1.out).mono ?_
      rintro e wx ⟨rfl, rfl⟩
      go_wp2_with fail
      refine (pop_v HK.out HJ1.out HW1.out HN1.out HX1.out).mono ?_
      intro e w2 he
      cases h2 : popW s1 with
      | error c =>
        rw [h2] at he
        obtain ⟨p, rfl, hx⟩ := he
        go_wp2_with fail
        rw [show chooseW s = .error c by simp [chooseW, H1.out, HWF.out, bnd_ok, bnd_err, h2]]
        exact ⟨rfl, p, rfl, hx⟩
      | ok q =>
        obtain ⟨t2, s2⟩ := q
        rw [h2] at he
        obtain ⟨rfl, vs2, vf2, fv2, J2, F2⟩ := he
        obtain ⟨hw2, ht2, e2, _⟩ := popW_ok HW1.out h2
        have HW2 := hide hw2
        have HT2 := hide ht2
        have HN2 := hide (show s2.fr.length ≤ 1000 by rw [e2]; exact HN1.out)
        have HX2 := hide (show s2.fr ≠ [] by rw [e2]; exact HX1.out)
        have HE2 := hide e2
        clear hw2 ht2 e2
        have HJ2 := hide J2
        have HF2 := hide (HF1.out.trans F2)
        have H2 := hide h2
        clear J2 F2 h2
        go_wp2_with fail
        refine (pop_v HK.out HJ2.out HW2.out HN2.out HX2.out).mono ?_
        intro e w3 he
        cases h3 : popW s2 with
        | error c =>
          rw [h3] at he
          obtain ⟨p, rfl, hx⟩ := he
          go_wp2_with fail
          rw [show chooseW s = .error c by simp [chooseW, H1.out, HWF.out, H2.out, bnd_ok, bnd_err, h3]]
          exact ⟨rfl, p, rfl, hx⟩
        | ok q =>
          obtain ⟨t3, s3⟩ := q
          rw [h3] at he
          obtain ⟨rfl, vs3, vf3, fv3, J3, F3⟩ := he
          obtain ⟨hw3, ht3, e3, _⟩ := popW_ok HW2.out h3
          have HW3 := hide hw3
          have HT3 := hide ht3
          have HN3 := hide (show s3.fr.length ≤ 1000 by rw [e3]; exact HN2.out)
          have HX3 := hide (show s3.fr ≠ [] by rw [e3]; exact HX2.out)
          have HE3 := hide e3
          clear hw3 ht3 e3
          have HJ3 := hide J3
          have HF3 := hide (HF2.out.trans F3)
          have H3 := hide h3
          clear J3 F3 h3
          go_wp2_with fail
          refine (join_w HK.out HJ3.out t3 t2 HT3.out HT2.out).mono ?_
          intro e wj he
          cases hj : joinW t3 t2 with
          | error c =>
            rw [hj] at he
            obtain ⟨p, rfl, hx⟩ := he
            go_wp2_with fail
            rw [show chooseW s = .error c by simp [chooseW, H1.out, HWF.out, H2.out, H3.out, bnd_ok, bnd_err, hj]]
            exact ⟨rfl, p, rfl, hx⟩
          | ok t =>
            rw [hj] at he
            obtain ⟨rfl, hbj⟩ := he
            have HBJ := hide hbj
            have HJJ := hide hj
            have htj := hide (joinW_ty hj HT3.out HT2.out)
            have HJ4 := hide (HJ3.out.below HK.out hbj)
            have HF4 := hide (HF3.out.below hbj (HJ3.out.size HK.out))
            have HW4 := hide HW3.out
            clear hbj hj
            go_wp2_with fail
            cases hse : se t1 with
            | true =>
              have HS := hide (secret_is t1 true wj HT1.out.i64 hse)
              refine HS.out.mono ?_
              rintro e wx ⟨rfl, rfl⟩
              go_wp2_with fail
              refine (relabel_any t true htj.out _).mono ?_
              rintro e wx ⟨rfl, rfl⟩
              go_wp2_with fail
              refine (push_1 HK.out HJ4.out HW4.out (relab t true) (ty_relab true) _ (by simp)).mono ?_
              intro e wz he
              cases hz : pushL [(relab t true)] s3 with
              | error c =>
                rw [hz] at he
                obtain ⟨p, rfl, hx⟩ := he
                go_wp2_with fail
                rw [show chooseW s = .error c by simp [chooseW, H1.out, HWF.out, H2.out, H3.out, HJJ.out, bnd_ok, hz, hse]]
                exact ⟨rfl, p, rfl, hx⟩
              | ok sz =>
                rw [hz] at he
                obtain ⟨rfl, vsz, vfz, fvz, Jz, Fz⟩ := he
                have HJz := hide Jz
                have HFz := hide Fz
                clear Jz Fz
                go_wp2_with fail
                go_end0
                rw [show chooseW s = .ok sz by simp [chooseW, H1.out, HWF.out, H2.out, H3.out, HJJ.out, bnd_ok, hz, hse]]
                exact ⟨rfl, vsz, vfz, fvz, HJz.out, HF4.out.trans HFz.out⟩
            | false =>
              have HS := hide (secret_is t1 false wj HT1.out.i64 hse)
              refine HS.out.mono ?_
              rintro e wx ⟨rfl, rfl⟩
              go_wp2_with fail
              refine (push_1 HK.out HJ4.out HW4.out t htj.out _ (by simp)).mono ?_
              intro e wz he
              cases hz : pushL [t] s3 with
              | error c =>
                rw [hz] at he
                obtain ⟨p, rfl, hx⟩ := he
                go_wp2_with fail
                rw [show chooseW s = .error c by simp [chooseW, H1.out, HWF.out, H2.out, H3.out, HJJ.out, bnd_ok, hz, hse]]
                exact ⟨rfl, p, rfl, hx⟩
              | ok sz =>
                rw [hz] at he
                obtain ⟨rfl, vsz, vfz, fvz, Jz, Fz⟩ := he
                have HJz := hide Jz
                have HFz := hide Fz
                clear Jz Fz
                go_wp2_with fail
                go_end0
                rw [show chooseW s = .ok sz by simp [chooseW, H1.out, HWF.out, H2.out, H3.out, HJJ.out, bnd_ok, hz, hse]]
                exact ⟨rfl, vsz, vfz, fvz, HJz.out, HF4.out.trans HFz.out⟩
end
end Go.Proofs.YtamofhkmhjckaabGreatDoor
namespace Go.Proofs.YtamofhkmhjckaabGreatDoor
open Go.RowKit
section
variable {K : Kx} {at_ : Int} {s : Wk} {vs vf : Value} {fv : List (Fm × Value)} {w : World}
theorem tgt_in {n : Int} {s : Wk} {f : Fm} (h : tgtW n s = .ok f) : f ∈ s.fr := by
  unfold tgtW at h
  split at h
  · rename_i hx; cases h; exact List.mem_of_getElem? hx
  · cases h
theorem takes_len {f : Fm} {s : Wk} (hw : WF s) (hf : f ∈ s.fr) : (takes f).length ≤ 4 ∧ ∀ t ∈ takes f, ty0 t := by
  obtain ⟨h1, h2⟩ := hw.br f hf
  unfold takes
  split
  · simp
  · exact ⟨by omega, h2⟩
theorem fillW_ok {s s' : Wk} (hw : WF s) (h : fillW s = .ok s') : WF s' ∧ s'.fr = s.fr := by
  unfold fillW at h
  split at h
  · cases h
  · obtain ⟨⟨b, s1⟩, h1, h2⟩ := bnd_yes h
    obtain ⟨w1, e1, _⟩ := popTo_ok hw h1
    simp only at h2
    split at h2
    · cases h2; exact ⟨w1, e1⟩
    · cases h2
theorem bottom_at (h : WJ K at_ s vs vf fv w) (hne : s.fr ≠ []) : ∃ g cap v, vf = .slice (some ⟨g, 0, none⟩) s.fr.length cap ∧ Bri K vs vf w v (bottom s).br ∧ w.cell? ⟨g, 1, none⟩ = some v ∧ bottom s ∈ s.fr := by
  have hl : fv.length = s.fr.length := by rw [← h.fs]; simp
  have hp : 0 < s.fr.length := List.length_pos_iff.2 hne
  obtain ⟨g, cap, hvf, _, hf, hb, hc⟩ := h.at (k := s.fr.length - 1) (x := fv[s.fr.length - 1]) (List.getElem?_eq_getElem (by omega))
  have hbt : bottom s = fv[s.fr.length - 1].1 := by
    unfold bottom
    rw [List.getLastD_eq_getLast?, List.getLast?_eq_getElem?, hf]; rfl
  refine ⟨g, cap, fv[s.fr.length - 1].2, hvf, by rw [hbt]; exact hb, ?_, by rw [hbt]; exact List.mem_of_getElem? hf⟩
  have := (fcell hc).2.1
  rw [show (s.fr.length - 1 - (s.fr.length - 1)) * 4 + 1 = 1 by omega] at this
  exact this
set_option maxRecDepth 100000 in
set_option maxHeartbeats 2000000 in
theorem branch_12 (hK : KOk K) (h : WJ K at_ s vs vf fv w) (hw : WF s) (hn : s.fr.length ≤ 1000) (hne : s.fr ≠ []) (xn xm : Int) (hxn : 0 ≤ xn) :
    Calls Tryz.prog 56 #[.pointer (some ⟨K.B, 0, none⟩), .agg #[.int .i64 12, .int .i64 xn, .int .i64 xm]] w (Ends K at_ vs vf w (brW xn s)) := by
  have HK := hide hK
  have HJ0 := hide h
  have HF0 := hide (Fr.refl K vs vf w)
  have hsz := h.lt
  have HS0 := hide h
  have HW0 := hide hw
  have HN0 := hide hn
  have HX0 := hide hne
  have HJ0 := hide (h.alloc HK.out (.cells #[.int .i64 12, .int .i64 xn, .int .i64 xm] 44))
  have HF0 := hide ((Fr.refl K vs vf w).alloc (h.size HK.out) (.cells #[.int .i64 12, .int .i64 xn, .int .i64 xm] 44))
  have HR0 := hide (Row.made w #[.int .i64 12, .int .i64 xn, .int .i64 xm] 44)
  clear hK h hw hn hne
  go_enter Tryz.func56, Tryz.ntmps56
  go_wp2_with fail
  refine (target_any HK.out HJ0.out HN0.out xn hxn).mono ?_
  intro e w1 he
  cases h1 : tgtW xn s with
  | error c =>
    rw [h1] at he
    obtain ⟨p, rfl, hx⟩ := he
    go_wp2_with fail
    rw [show (brW xn s) = .error c by simp [brW, bnd_err, h1]]
    exact ⟨rfl, p, rfl, hx⟩
  | ok f =>
    rw [h1] at he
    obtain ⟨a, c, rfl, hbr, hb1⟩ := he
    unfold fagg
    have HJ1 := hide (HJ0.out.below HK.out hb1)
    have HF1 := hide (HF0.out.below hb1 (HJ0.out.size HK.out))
    have HBR := hide (hbr.move ((Fr.refl K _ _ _).below hb1 (HJ0.out.size HK.out)))
    have H1 := hide h1
    obtain ⟨hl4, htt⟩ := takes_len HW0.out (tgt_in h1)
    have HL4 := hide hl4
    have HTT := hide htt
    have HW1 := hide HW0.out
    have HN1 := hide HN0.out
    have HX1 := hide HX0.out
    clear hb1 h1 hbr hl4 htt
    go_wp2_with fail
    have HTK := hide (takes_any f a f.br.length c w1)
    unfold fagg at HTK
    by_cases h3 : f.op = 3
    · rw [if_pos h3] at HTK
      have HTE := hide (show takes f = [] by simp [takes, h3])
      refine HTK.out.mono ?_
      rintro e w2 ⟨rfl, hb2⟩
      have HJ2 := hide (HJ1.out.below HK.out hb2)
      have HF2 := hide (HF1.out.below hb2 (HJ1.out.size HK.out))
      have HB2 : Hid (Bri K vs vf w2 (.slice none 0 0) (takes f)) := hide (by rw [HTE.out]; exact Sl.isNil _ _ _ _)
      have HW2 := hide HW1.out
      have HN2 := hide HN1.out
      have HX2 := hide HX1.out
      clear hb2
      go_wp2_with fail
      refine (popTo_v HK.out HJ2.out HW2.out HN2.out HX2.out HB2.out HL4.out HTT.out).mono ?_
      intro e w3 he
      cases h3 : popTo (takes f) s with
      | error c =>
        rw [h3] at he
        obtain ⟨p, rfl, hx⟩ := he
        go_wp2_with fail
        rw [show (brW xn s) = .error c by simp [brW, H1.out, bnd_ok, bnd_err, h3]]
        exact ⟨rfl, p, rfl, hx⟩
      | ok q =>
        obtain ⟨b3, s3⟩ := q
        rw [h3] at he
        obtain ⟨rfl, vs3, vf3, fv3, J3, F3⟩ := he
        obtain ⟨hw3, e3, _⟩ := popTo_ok HW2.out h3
        have HW3 := hide hw3
        have HN3 := hide (show s3.fr.length ≤ 1000 by rw [e3]; exact HN2.out)
        have HX3 := hide (show s3.fr ≠ [] by rw [e3]; exact HX2.out)
        have HE3 := hide e3
        clear hw3 e3
        have HJ3 := hide J3
        have HF3 := hide (HF2.out.trans F3)
        have H3 := hide h3
        clear J3 F3 h3
        go_wp2_with fail
        refine (die_any HK.out HJ3.out HW3.out HN3.out HX3.out).mono ?_
        rintro e wz ⟨rfl, vsz, vfz, fvz, Jz, Fz⟩
        have HJz := hide Jz
        have HFz := hide Fz
        clear Jz Fz
        go_wp2_with fail
        go_end0
        rw [show (brW xn s) = .ok (dieW s3) by simp [brW, H1.out, H3.out, bnd_ok]]
        exact ⟨rfl, vsz, vfz, fvz, HJz.out, HF3.out.trans HFz.out⟩
    · rw [if_neg h3] at HTK
      have HTE := hide (show takes f = f.br by simp [takes, h3])
      refine HTK.out.mono ?_
      rintro e w2 ⟨rfl, hb2⟩
      have HJ2 := hide (HJ1.out.below HK.out hb2)
      have HF2 := hide (HF1.out.below hb2 (HJ1.out.size HK.out))
      have HB2 : Hid (Bri K vs vf w2 (.slice a f.br.length c) (takes f)) := hide (by rw [HTE.out]; exact HBR.out.move ((Fr.refl K _ _ _).below hb2 (HJ1.out.size HK.out)))
      have HW2 := hide HW1.out
      have HN2 := hide HN1.out
      have HX2 := hide HX1.out
      clear hb2
      go_wp2_with fail
      refine (popTo_v HK.out HJ2.out HW2.out HN2.out HX2.out HB2.out HL4.out HTT.out).mono ?_
      intro e w3 he
      cases h3 : popTo (takes f) s with
      | error c =>
        rw [h3] at he
        obtain ⟨p, rfl, hx⟩ := he
        go_wp2_with fail
        rw [show (brW xn s) = .error c by simp [brW, H1.out, bnd_ok, bnd_err, h3]]
        exact ⟨rfl, p, rfl, hx⟩
      | ok q =>
        obtain ⟨b3, s3⟩ := q
        rw [h3] at he
        obtain ⟨rfl, vs3, vf3, fv3, J3, F3⟩ := he
        obtain ⟨hw3, e3, _⟩ := popTo_ok HW2.out h3
        have HW3 := hide hw3
        have HN3 := hide (show s3.fr.length ≤ 1000 by rw [e3]; exact HN2.out)
        have HX3 := hide (show s3.fr ≠ [] by rw [e3]; exact HX2.out)
        have HE3 := hide e3
        clear hw3 e3
        have HJ3 := hide J3
        have HF3 := hide (HF2.out.trans F3)
        have H3 := hide h3
        clear J3 F3 h3
        go_wp2_with fail
        refine (die_any HK.out HJ3.out HW3.out HN3.out HX3.out).mono ?_
        rintro e wz ⟨rfl, vsz, vfz, fvz, Jz, Fz⟩
        have HJz := hide Jz
        have HFz := hide Fz
        clear Jz Fz
        go_wp2_with fail
        go_end0
        rw [show (brW xn s) = .ok (dieW s3) by simp [brW, H1.out, H3.out, bnd_ok]]
        exact ⟨rfl, vsz, vfz, fvz, HJz.out, HF3.out.trans HFz.out⟩
set_option maxRecDepth 100000 in
set_option maxHeartbeats 2000000 in
theorem branch_13 (hK : KOk K) (h : WJ K at_ s vs vf fv w) (hw : WF s) (hn : s.fr.length ≤ 1000) (hne : s.fr ≠ []) (xn xm : Int) (hxn : 0 ≤ xn) :
    Calls Tryz.prog 56 #[.pointer (some ⟨K.B, 0, none⟩), .agg #[.int .i64 13, .int .i64 xn, .int .i64 xm]] w (Ends K at_ vs vf w (brIfW xn s)) := by
  have HK := hide hK
  have HJ0 := hide (h.alloc hK (.cells #[.int .i64 13, .int .i64 xn, .int .i64 xm] 44))
  have HF0 := hide ((Fr.refl K vs vf w).alloc (h.size hK) (.cells #[.int .i64 13, .int .i64 xn, .int .i64 xm] 44))
  have HR0 := hide (Row.made w #[.int .i64 13, .int .i64 xn, .int .i64 xm] 44)
  have hsz := h.lt
  have HS0 := hide h
  have HW0 := hide hw
  have HN0 := hide hn
  have HX0 := hide hne
  clear hK h hw hn hne
  go_enter Tryz.func56, Tryz.ntmps56
  go_wp2_with fail
  refine (popTo_1 HK.out HJ0.out HW0.out HN0.out HX0.out 0 ⟨by decide, by decide⟩ _ (by simp)).mono ?_
  intro e w1 he
  cases h1 : popTo [0] s with
  | error c =>
    rw [h1] at he
    obtain ⟨p, rfl, hx⟩ := he
    go_wp2_with fail
    rw [show (brIfW xn s) = .error c by simp [brIfW, bnd_err, h1]]
    exact ⟨rfl, p, rfl, hx⟩
  | ok q =>
    obtain ⟨b1, s1⟩ := q
    rw [h1] at he
    obtain ⟨rfl, vs1, vf1, fv1, J1, F1⟩ := he
    obtain ⟨hw1, e1, _⟩ := popTo_ok HW0.out h1
    have HW1 := hide hw1
    have HN1 := hide (show s1.fr.length ≤ 1000 by rw [e1]; exact HN0.out)
    have HX1 := hide (show s1.fr ≠ [] by rw [e1]; exact HX0.out)
    have HE1 := hide e1
    clear hw1 e1
    have HJ1 := hide J1
    have F1x := hide F1
    have HF1 := hide (HF0.out.trans F1)
    have H1 := hide h1
    have r1 := HR0.out.keep HJ0.out F1 (by decide) (by decide) (by decide)
    have HR1 := hide r1
    have x0_1 := r1.c 0 _ rfl
    have x1_1 := r1.c 1 _ rfl
    have x2_1 := r1.c 2 _ rfl
    clear r1
    clear J1 F1 h1
    go_wp2_with fail
    refine (target_any HK.out HJ1.out HN1.out xn hxn).mono ?_
    intro e w2 he
    cases h2 : tgtW xn s1 with
    | error c =>
      rw [h2] at he
      obtain ⟨p, rfl, hx⟩ := he
      go_wp2_with fail
      rw [show (brIfW xn s) = .error c by simp [brIfW, H1.out, bnd_ok, bnd_err, h2]]
      exact ⟨rfl, p, rfl, hx⟩
    | ok f =>
      rw [h2] at he
      obtain ⟨a, c, rfl, hbr, hb2⟩ := he
      unfold fagg
      have HJ2 := hide (HJ1.out.below HK.out hb2)
      have HF2 := hide (HF1.out.below hb2 (HJ1.out.size HK.out))
      have HBR := hide (hbr.move ((Fr.refl K _ _ _).below hb2 (HJ1.out.size HK.out)))
      have H2 := hide h2
      obtain ⟨hl4, htt⟩ := takes_len HW1.out (tgt_in h2)
      have HL4 := hide hl4
      have HTT := hide htt
      have HW2 := hide HW1.out
      have HN2 := hide HN1.out
      have HX2 := hide HX1.out
      have HR2 := hide (HR1.out.kept hb2)
      clear hb2 h2 hbr hl4 htt
      go_wp2_with fail
      have HTK := hide (takes_any f a f.br.length c w2)
      unfold fagg at HTK
      by_cases h3 : f.op = 3
      · rw [if_pos h3] at HTK
        have HTE := hide (show takes f = [] by simp [takes, h3])
        refine HTK.out.mono ?_
        rintro e w3 ⟨rfl, hb3⟩
        have HJ3 := hide (HJ2.out.below HK.out hb3)
        have HF3 := hide (HF2.out.below hb3 (HJ2.out.size HK.out))
        have HB3 : Hid (Bri K vs1 vf1 w3 (.slice none 0 0) (takes f)) := hide (by rw [HTE.out]; exact Sl.isNil _ _ _ _)
        have HW3 := hide HW2.out
        have HN3 := hide HN2.out
        have HX3 := hide HX2.out
        have HR3 := hide (HR2.out.kept hb3)
        clear hb3
        go_wp2_with fail
        refine (popTo_v HK.out HJ3.out HW3.out HN3.out HX3.out HB3.out HL4.out HTT.out).mono ?_
        intro e w4 he
        cases h4 : popTo (takes f) s1 with
        | error c =>
          rw [h4] at he
          obtain ⟨p, rfl, hx⟩ := he
          go_wp2_with fail
          rw [show (brIfW xn s) = .error c by simp [brIfW, H1.out, H2.out, bnd_ok, bnd_err, h4]]
          exact ⟨rfl, p, rfl, hx⟩
        | ok q =>
          obtain ⟨b4, s4⟩ := q
          rw [h4] at he
          obtain ⟨rfl, vs4, vf4, fv4, J4, F4⟩ := he
          obtain ⟨hw4, e4, _⟩ := popTo_ok HW3.out h4
          have HW4 := hide hw4
          have HN4 := hide (show s4.fr.length ≤ 1000 by rw [e4]; exact HN3.out)
          have HX4 := hide (show s4.fr ≠ [] by rw [e4]; exact HX3.out)
          have HE4 := hide e4
          clear hw4 e4
          have HJ4 := hide J4
          have F4x := hide F4
          have HF4 := hide (HF3.out.trans F4)
          have H4 := hide h4
          have r4 := HR3.out.keep HJ3.out F4 (by decide) (by decide) (by decide)
          have HR4 := hide r4
          have x0_4 := r4.c 0 _ rfl
          have x1_4 := r4.c 1 _ rfl
          have x2_4 := r4.c 2 _ rfl
          clear r4
          clear J4 F4 h4
          go_wp2_with fail
          have HBP := hide (HB3.out.move F4x.out)
          refine (push_any HK.out HJ4.out HW4.out HBP.out HL4.out).mono ?_
          intro e wz he
          cases hz : pushL (takes f) s4 with
          | error c =>
            rw [hz] at he
            obtain ⟨p, rfl, hx⟩ := he
            go_wp2_with fail
            rw [show (brIfW xn s) = .error c by simp [brIfW, H1.out, H2.out, H4.out, bnd_ok, hz]]
            exact ⟨rfl, p, rfl, hx⟩
          | ok sz =>
            rw [hz] at he
            obtain ⟨rfl, vsz, vfz, fvz, Jz, Fz⟩ := he
            have HJz := hide Jz
            have HFz := hide Fz
            clear Jz Fz
            go_wp2_with fail
            go_end0
            rw [show (brIfW xn s) = .ok sz by simp [brIfW, H1.out, H2.out, H4.out, bnd_ok, hz]]
            exact ⟨rfl, vsz, vfz, fvz, HJz.out, HF4.out.trans HFz.out⟩
      · rw [if_neg h3] at HTK
        have HTE := hide (show takes f = f.br by simp [takes, h3])
        refine HTK.out.mono ?_
        rintro e w3 ⟨rfl, hb3⟩
        have HJ3 := hide (HJ2.out.below HK.out hb3)
        have HF3 := hide (HF2.out.below hb3 (HJ2.out.size HK.out))
        have HB3 : Hid (Bri K vs1 vf1 w3 (.slice a f.br.length c) (takes f)) := hide (by rw [HTE.out]; exact HBR.out.move ((Fr.refl K _ _ _).below hb3 (HJ2.out.size HK.out)))
        have HW3 := hide HW2.out
        have HN3 := hide HN2.out
        have HX3 := hide HX2.out
        have HR3 := hide (HR2.out.kept hb3)
        clear hb3
        go_wp2_with fail
        refine (popTo_v HK.out HJ3.out HW3.out HN3.out HX3.out HB3.out HL4.out HTT.out).mono ?_
        intro e w4 he
        cases h4 : popTo (takes f) s1 with
        | error c =>
          rw [h4] at he
          obtain ⟨p, rfl, hx⟩ := he
          go_wp2_with fail
          rw [show (brIfW xn s) = .error c by simp [brIfW, H1.out, H2.out, bnd_ok, bnd_err, h4]]
          exact ⟨rfl, p, rfl, hx⟩
        | ok q =>
          obtain ⟨b4, s4⟩ := q
          rw [h4] at he
          obtain ⟨rfl, vs4, vf4, fv4, J4, F4⟩ := he
          obtain ⟨hw4, e4, _⟩ := popTo_ok HW3.out h4
          have HW4 := hide hw4
          have HN4 := hide (show s4.fr.length ≤ 1000 by rw [e4]; exact HN3.out)
          have HX4 := hide (show s4.fr ≠ [] by rw [e4]; exact HX3.out)
          have HE4 := hide e4
          clear hw4 e4
          have HJ4 := hide J4
          have F4x := hide F4
          have HF4 := hide (HF3.out.trans F4)
          have H4 := hide h4
          have r4 := HR3.out.keep HJ3.out F4 (by decide) (by decide) (by decide)
          have HR4 := hide r4
          have x0_4 := r4.c 0 _ rfl
          have x1_4 := r4.c 1 _ rfl
          have x2_4 := r4.c 2 _ rfl
          clear r4
          clear J4 F4 h4
          go_wp2_with fail
          have HBP := hide (HB3.out.move F4x.out)
          refine (push_any HK.out HJ4.out HW4.out HBP.out HL4.out).mono ?_
          intro e wz he
          cases hz : pushL (takes f) s4 with
          | error c =>
            rw [hz] at he
            obtain ⟨p, rfl, hx⟩ := he
            go_wp2_with fail
            rw [show (brIfW xn s) = .error c by simp [brIfW, H1.out, H2.out, H4.out, bnd_ok, hz]]
            exact ⟨rfl, p, rfl, hx⟩
          | ok sz =>
            rw [hz] at he
            obtain ⟨rfl, vsz, vfz, fvz, Jz, Fz⟩ := he
            have HJz := hide Jz
            have HFz := hide Fz
            clear Jz Fz
            go_wp2_with fail
            go_end0
            rw [show (brIfW xn s) = .ok sz by simp [brIfW, H1.out, H2.out, H4.out, bnd_ok, hz]]
            exact ⟨rfl, vsz, vfz, fvz, HJz.out, HF4.out.trans HFz.out⟩
set_option maxRecDepth 100000 in
set_option maxHeartbeats 2000000 in
theorem branch_15 (hK : KOk K) (h : WJ K at_ s vs vf fv w) (hw : WF s) (hn : s.fr.length ≤ 1000) (hne : s.fr ≠ []) (xn xm : Int) :
    Calls Tryz.prog 56 #[.pointer (some ⟨K.B, 0, none⟩), .agg #[.int .i64 15, .int .i64 xn, .int .i64 xm]] w (Ends K at_ vs vf w (retW s)) := by
  have HK := hide hK
  have HJ0 := hide h
  have HF0 := hide (Fr.refl K vs vf w)
  have hsz := h.lt
  have HS0 := hide h
  have HW0 := hide hw
  have HN0 := hide hn
  have HX0 := hide hne
  have HJ0 := hide (h.alloc HK.out (.cells #[.int .i64 15, .int .i64 xn, .int .i64 xm] 44))
  have HF0 := hide ((Fr.refl K vs vf w).alloc (h.size HK.out) (.cells #[.int .i64 15, .int .i64 xn, .int .i64 xm] 44))
  have HR0 := hide (Row.made w #[.int .i64 15, .int .i64 xn, .int .i64 xm] 44)
  obtain ⟨g, cap, v, hvf, hbv, cg, hbin⟩ := bottom_at HS0.out HX0.out
  have c11 : w.cell? ⟨K.B, 11, none⟩ = some vf := HS0.out.row.c 11 _ rfl
  have hgl : g < w.heap.size := (HS0.out.fr.lt g (by rw [hvf]; rfl)).2
  rw [hvf] at c11
  have HBV := hide (hbv.move HF0.out)
  obtain ⟨hb1, hbt⟩ := HW0.out.br _ hbin
  have HB1 := hide hb1
  have HBT := hide hbt
  obtain ⟨av, cv, hv⟩ : ∃ a c, v = .slice a (bottom s).br.length c := by obtain ⟨a, c, e, _⟩ := hbv; exact ⟨a, c, e⟩
  subst hv
  have hp : 0 < s.fr.length := List.length_pos_iff.2 hne
  have hpi : (0 : Int) < (s.fr.length : Int) := by omega
  clear hbv hbin hb1 hbt hvf
  clear hK h hw hn hne
  go_enter Tryz.func56, Tryz.ntmps56
  go_wp2_with fail
  refine (popTo_v HK.out HJ0.out HW0.out HN0.out HX0.out HBV.out (by have := HB1.out; omega) HBT.out).mono ?_
  intro e w1 he
  cases h1 : popTo (bottom s).br s with
  | error c =>
    rw [h1] at he
    obtain ⟨p, rfl, hx⟩ := he
    go_wp2_with fail
    rw [show (retW s) = .error c by simp [retW, bnd_err, h1]]
    exact ⟨rfl, p, rfl, hx⟩
  | ok q =>
    obtain ⟨b1, s1⟩ := q
    rw [h1] at he
    obtain ⟨rfl, vs1, vf1, fv1, J1, F1⟩ := he
    obtain ⟨hw1, e1, _⟩ := popTo_ok HW0.out h1
    have HW1 := hide hw1
    have HN1 := hide (show s1.fr.length ≤ 1000 by rw [e1]; exact HN0.out)
    have HX1 := hide (show s1.fr ≠ [] by rw [e1]; exact HX0.out)
    have HE1 := hide e1
    clear hw1 e1
    have HJ1 := hide J1
    have HF1 := hide (HF0.out.trans F1)
    have H1 := hide h1
    clear J1 F1 h1
    go_wp2_with fail
    refine (die_any HK.out HJ1.out HW1.out HN1.out HX1.out).mono ?_
    rintro e wz ⟨rfl, vsz, vfz, fvz, Jz, Fz⟩
    have HJz := hide Jz
    have HFz := hide Fz
    clear Jz Fz
    go_wp2_with fail
    go_end0
    rw [show (retW s) = .ok (dieW s1) by simp [retW, H1.out, bnd_ok]]
    exact ⟨rfl, vsz, vfz, fvz, HJz.out, HF1.out.trans HFz.out⟩
end
end Go.Proofs.YtamofhkmhjckaabGreatDoor
namespace Go.Proofs.YtamofhkmhjckaabGreatDoor
open Go.RowKit
section
variable {K : Kx} {at_ : Int} {s : Wk} {vs vf : Value} {fv : List (Fm × Value)} {w : World}
theorem own_takeN {w : World} {base : Nat} {e : TypeId} {z g n c : Nat} {xs : List Value} (h : w.ownsRow base e z (.slice (some ⟨g, 0, none⟩) n c) n xs) (m : Nat) (hm : m ≤ n) : w.ownsRow base e z (.slice (some ⟨g, 0, none⟩) m c) m (xs.take (m * z)) := by
  obtain ⟨h1, h2⟩ := h
  have hmz : m * z ≤ n * z := Nat.mul_le_mul_right z hm
  rcases h2 with ⟨h, _⟩ | ⟨g', cap, cur, hv, hb, hg, hc, hm', hs, ht⟩
  · cases h
  · simp only [Value.slice.injEq, Option.some.injEq, Addr.mk.injEq, and_true, true_and] at hv
    obtain ⟨rfl, rfl⟩ := hv
    refine ⟨by rw [List.length_take, h1]; omega, .inr ⟨g, c, cur, rfl, hb, hg, by omega, hm', hs, ?_⟩⟩
    rw [← ht, List.take_take, Nat.min_eq_left hmz]
theorem fill_close {s s1 : Wk} {f : Fm} {r : List Fm} (hw : WF s) (h : fillW s = .ok s1) (hf : s1.fr = f :: r) : WF ⟨s1.st, r⟩ := by
  obtain ⟨w1, e1⟩ := fillW_ok hw h
  have hl : s1.st.length = f.base := by
    unfold fillW at h
    rw [← e1, hf] at h
    obtain ⟨⟨b, s2⟩, h1, h2⟩ := bnd_yes h
    simp only at h2
    split at h2
    · rename_i he; cases h2; exact he
    · cases h2
  have m := w1.mono
  have hb := w1.br
  rw [hf] at m hb
  exact ⟨by show Mono s1.st.length r; rw [hl]; exact m.2, w1.small, w1.st, fun g hg => hb g (List.mem_cons_of_mem _ hg)⟩
set_option maxRecDepth 100000 in
set_option maxHeartbeats 2000000 in
theorem turn_any (hK : KOk K) (h : WJ K at_ s vs vf fv w) (hw : WF s) (hn : s.fr.length ≤ 1000) (hne : s.fr ≠ []) :
    Calls Tryz.prog 54 #[.pointer (some ⟨K.B, 0, none⟩)] w (Ends K at_ vs vf w (turnW s)) := by
  have HK := hide hK
  have HJ0 := hide h
  have HF0 := hide (Fr.refl K vs vf w)
  have hsz := h.lt
  have HS0 := hide h
  have HW0 := hide hw
  have HN0 := hide hn
  have HX0 := hide hne
  clear hK h hw hn hne
  go_enter Tryz.func54, Tryz.ntmps54
  go_wp2_with fail
  refine (fill_any HK.out HJ0.out HW0.out HN0.out HX0.out).mono ?_
  intro e w1 he
  cases h1 : fillW s with
  | error c =>
    rw [h1] at he
    obtain ⟨p, rfl, hx⟩ := he
    go_wp2_with fail
    rw [show (turnW s) = .error c by simp [turnW, bnd_err, h1]]
    exact ⟨rfl, p, rfl, hx⟩
  | ok s1 =>
    rw [h1] at he
    obtain ⟨rfl, vs1, vf1, fv1, J1, F1⟩ := he
    obtain ⟨hw1, e1⟩ := fillW_ok HW0.out h1
    have HW1 := hide hw1
    have HN1 := hide (show s1.fr.length ≤ 1000 by rw [e1]; exact HN0.out)
    have HX1 := hide (show s1.fr ≠ [] by rw [e1]; exact HX0.out)
    have HE1 := hide e1
    clear hw1 e1
    have HJ1 := hide J1
    have HF1 := hide (HF0.out.trans F1)
    have H1 := hide h1
    clear J1 F1 h1
    go_wp2_with fail
    obtain ⟨f, r, hfr⟩ := List.exists_cons_of_ne_nil HX1.out
    have HFR := hide hfr
    have hr : r.length ≤ 1000 := by have := HN1.out; rw [hfr] at this; simp at this; omega
    obtain ⟨g, cap, v, fv', hvf, hfv, hfs, hg, hcap, hbr, hc, hz⟩ := HJ1.out.top hfr
    obtain ⟨c0, c1, c2, c3⟩ := fcell hc
    rw [Nat.add_zero] at c0
    have c11 : w1.cell? ⟨K.B, 11, none⟩ = some vf1 := HJ1.out.row.c 11 _ rfl
    rw [hvf] at c11
    have z11 : w1.frozen? ⟨K.B, 11, none⟩ = false := HJ1.out.row.fr 11
    have hnB : ¬ K.B = g := fun e => HJ1.out.neF (by rw [hvf, e]; rfl)
    have hnB2 : ¬ g = K.B := fun e => hnB e.symm
    have hgl : g < w1.heap.size := (HJ1.out.fr.lt g (by rw [hvf]; rfl)).2
    have hBl := HJ1.out.lt
    have z0 := hz (r.length * 4)
    have z3 := hz (r.length * 4 + 3)
    obtain ⟨J2, F2⟩ := HJ1.out.drew.putF hfr (f' := ⟨5, f.br, f.base, f.dead⟩) hvf hfv hg (j := 0) (u := .int .i64 5) (by decide) (by simp [fcel]) rfl
    obtain ⟨J3, F3⟩ := J2.drew.putF rfl (f' := ⟨5, f.br, f.base, false⟩) hvf rfl hg (j := 3) (u := .bool false) (by decide) (by simp [fcel]) rfl
    have LA1 := hide (last_any HJ1.out hvf hr)
    have LA2 := hide (last_any J2 hvf hr)
    have HJ3 := hide J3
    have HF3 := hide (((HF1.out.drew.trans F2).drew).trans F3)
    clear J2 F2 J3 F3 hc hz hvf hfv hbr hfr
    refine LA1.out.mono ?_
    rintro e wx ⟨rfl, rfl⟩
    go_wp2_with fail
    refine LA2.out.mono ?_
    rintro e wx ⟨rfl, rfl⟩
    go_wp2_with fail
    go_end0
    rw [show (turnW s) = .ok ⟨s1.st, ⟨5, f.br, f.base, false⟩ :: r⟩ by simp [turnW, H1.out, HFR.out, bnd_ok]]
    exact ⟨rfl, _, _, _, HJ3.out, HF3.out⟩
set_option maxRecDepth 100000 in
set_option maxHeartbeats 4000000 in
theorem close_any (hK : KOk K) (h : WJ K at_ s vs vf fv w) (hw : WF s) (hn : s.fr.length ≤ 1000) (hne : s.fr ≠ []) :
    Calls Tryz.prog 55 #[.pointer (some ⟨K.B, 0, none⟩)] w (Ends K at_ vs vf w (closeW s)) := by
  have HK := hide hK
  have HJ0 := hide h
  have HF0 := hide (Fr.refl K vs vf w)
  have hsz := h.lt
  have HS0 := hide h
  have HW0 := hide hw
  have HN0 := hide hn
  have HX0 := hide hne
  clear hK h hw hn hne
  go_enter Tryz.func55, Tryz.ntmps55
  go_wp2_with fail
  refine (fill_any HK.out HJ0.out HW0.out HN0.out HX0.out).mono ?_
  intro e w1 he
  cases h1 : fillW s with
  | error c =>
    rw [h1] at he
    obtain ⟨p, rfl, hx⟩ := he
    go_wp2_with fail
    rw [show (closeW s) = .error c by simp [closeW, bnd_err, h1]]
    exact ⟨rfl, p, rfl, hx⟩
  | ok s1 =>
    rw [h1] at he
    obtain ⟨rfl, vs1, vf1, fv1, J1, F1⟩ := he
    obtain ⟨hw1, e1⟩ := fillW_ok HW0.out h1
    have HW1 := hide hw1
    have HN1 := hide (show s1.fr.length ≤ 1000 by rw [e1]; exact HN0.out)
    have HX1 := hide (show s1.fr ≠ [] by rw [e1]; exact HX0.out)
    have HE1 := hide e1
    clear hw1 e1
    have HJ1 := hide J1
    have HF1 := hide (HF0.out.trans F1)
    have H1 := hide h1
    clear J1 F1 h1
    go_wp2_with fail
    obtain ⟨f, r, hfr⟩ := List.exists_cons_of_ne_nil HX1.out
    have HFR := hide hfr
    have hr : r.length ≤ 1000 := by have := HN1.out; rw [hfr] at this; simp at this; omega
    obtain ⟨g, cap, v, fv', hvf, hfv, hfs, hg, hcap, hbr, hc, hz⟩ := HJ1.out.top hfr
    obtain ⟨c0, c1, c2, c3⟩ := fcell hc
    rw [Nat.add_zero] at c0
    have c11 : w1.cell? ⟨K.B, 11, none⟩ = some vf1 := HJ1.out.row.c 11 _ rfl
    rw [hvf] at c11
    have z11 : w1.frozen? ⟨K.B, 11, none⟩ = false := HJ1.out.row.fr 11
    have hnB : ¬ K.B = g := fun e => HJ1.out.neF (by rw [hvf, e]; rfl)
    have hnB2 : ¬ g = K.B := fun e => hnB e.symm
    have hgl : g < w1.heap.size := (HJ1.out.fr.lt g (by rw [hvf]; rfl)).2
    have hBl := HJ1.out.lt
    obtain ⟨av, cv, hv⟩ : ∃ a c, v = .slice a f.br.length c := by obtain ⟨a, c, e, _⟩ := hbr; exact ⟨a, c, e⟩
    subst hv
    have LA1 := hide (last_any HJ1.out hvf hr)
    have HJ2 := hide (HJ1.out.drew.alloc HK.out (.cells #[.int .i64 f.op, .slice av f.br.length cv, .int .i64 f.base, .bool f.dead] 127))
    have HF2 := hide (HF1.out.drew.alloc (HJ1.out.size HK.out) (.cells #[.int .i64 f.op, .slice av f.br.length cv, .int .i64 f.base, .bool f.dead] 127))
    have HB1 := hide (HW1.out.br f (by rw [hfr]; exact List.mem_cons_self ..))
    have HBR1 := hide hbr
    have hv11 := hide hvf
    have hfv1 := hide hfv
    have hfs1 := hide hfs
    clear hc hz hvf hfv hbr hfr hfs
    refine LA1.out.mono ?_
    rintro e wx ⟨rfl, rfl⟩
    by_cases hop : f.op = 4
    · by_cases hbl : f.br.length = 0
      · have hb0 : ((f.br.length : Int) == 0) = true := by simp [hbl]
        have hop' : (f.op != 4) = false := by simp [hop]
        have HBL := hide hbl
        clear hop hbl
        go_wp2_with fail
        refine (wmust_yes HJ2.out).mono ?_
        rintro e wx ⟨rfl, rfl⟩
        go_wp2_with fail
        go_region
        all_goals
          go_wp2_with fail
          have JC := ((HJ1.out.setF HK.out (fr' := r) (fv' := fv') (vf' := .slice (some ⟨g, 0, none⟩) r.length cap) (fun k hk => by rw [hv11.out]; exact hk) (by
              have ho := HJ1.out.fr
              rw [hv11.out, HFR.out, hfv1.out] at ho
              have ht := own_takeN ho r.length (by simp)
              have hl : fv'.length = r.length := by rw [← hfs1.out]; simp
              rw [List.reverse_cons, flat_app, List.take_left' (by rw [flat_len, List.length_reverse, hl])] at ht
              exact ht) hfs1.out (fun x hx => by rw [hfv1.out]; exact List.mem_cons_of_mem _ hx)).alloc HK.out (.cells #[.int .i64 f.op, .slice av f.br.length cv, .int .i64 f.base, .bool f.dead] 127)).drew.drew
          have FB := ((((Fr.refl K vs1 vf1 w1).box HK.out 11 (.slice (some ⟨g, 0, none⟩) r.length cap)).cutF (vf'' := .slice (some ⟨g, 0, none⟩) r.length cap) (fun k hk => by rw [hv11.out]; exact hk)).alloc (by simp; exact HJ1.out.size HK.out) (.cells #[.int .i64 f.op, .slice av f.br.length cv, .int .i64 f.base, .bool f.dead] 127)).drew.drew
          have FC := HF1.out.trans FB
          have WC : WF ⟨s1.st, r⟩ := fill_close HW0.out H1.out HFR.out
          have PU := hide (push_any HK.out JC WC (HBR1.out.move FB) (by have := HB1.out.1; omega))
          have HFC := hide FC
          clear JC FC FB WC
          refine PU.out.mono ?_
          intro e wz he
          cases hz : pushL f.br ⟨s1.st, r⟩ with
          | error c =>
            rw [hz] at he
            obtain ⟨p, rfl, hx⟩ := he
            go_wp2_with fail
            rw [show (closeW s) = .error c by simp only [closeW, H1.out, bnd_ok, HFR.out]; rw [if_neg (by intro h; exact h.2 HBL.out)]; exact hz]
            exact ⟨rfl, p, rfl, hx⟩
          | ok sz =>
            rw [hz] at he
            obtain ⟨rfl, vsz, vfz, fvz, Jz, Fz⟩ := he
            have HJz := hide Jz
            have HFz := hide Fz
            clear Jz Fz
            go_wp2_with fail
            go_end0
            rw [show (closeW s) = .ok sz by simp only [closeW, H1.out, bnd_ok, HFR.out]; rw [if_neg (by intro h; exact h.2 HBL.out)]; exact hz]
            exact ⟨rfl, vsz, vfz, fvz, HJz.out, HFC.out.trans HFz.out⟩
      · have hb0 : ((f.br.length : Int) == 0) = false := by simp; exact fun e => hbl (by rw [e]; rfl)
        have hop' : (f.op != 4) = false := by simp [hop]
        have HBL := hide hbl
        have HOP := hide hop
        clear hop hbl
        go_wp2_with fail
        refine (wmust_no HK.out HJ2.out).mono ?_
        rintro e wx ⟨⟨p, rfl, hx⟩, _⟩
        go_wp2_with fail
        rw [show (closeW s) = .error 3 by simp only [closeW, H1.out, bnd_ok, HFR.out]; rw [if_pos ⟨HOP.out, HBL.out⟩]]
        exact ⟨rfl, p, rfl, hx⟩
    · have hop' : (f.op != 4) = true := by simpa using hop
      have HOP := hide hop
      clear hop
      go_wp2_with fail
      refine (wmust_yes HJ2.out).mono ?_
      rintro e wx ⟨rfl, rfl⟩
      go_wp2_with fail
      go_region
      all_goals
        go_wp2_with fail
        have JC := ((HJ1.out.setF HK.out (fr' := r) (fv' := fv') (vf' := .slice (some ⟨g, 0, none⟩) r.length cap) (fun k hk => by rw [hv11.out]; exact hk) (by
            have ho := HJ1.out.fr
            rw [hv11.out, HFR.out, hfv1.out] at ho
            have ht := own_takeN ho r.length (by simp)
            have hl : fv'.length = r.length := by rw [← hfs1.out]; simp
            rw [List.reverse_cons, flat_app, List.take_left' (by rw [flat_len, List.length_reverse, hl])] at ht
            exact ht) hfs1.out (fun x hx => by rw [hfv1.out]; exact List.mem_cons_of_mem _ hx)).alloc HK.out (.cells #[.int .i64 f.op, .slice av f.br.length cv, .int .i64 f.base, .bool f.dead] 127)).drew.drew
        have FB := ((((Fr.refl K vs1 vf1 w1).box HK.out 11 (.slice (some ⟨g, 0, none⟩) r.length cap)).cutF (vf'' := .slice (some ⟨g, 0, none⟩) r.length cap) (fun k hk => by rw [hv11.out]; exact hk)).alloc (by simp; exact HJ1.out.size HK.out) (.cells #[.int .i64 f.op, .slice av f.br.length cv, .int .i64 f.base, .bool f.dead] 127)).drew.drew
        have FC := HF1.out.trans FB
        have WC : WF ⟨s1.st, r⟩ := fill_close HW0.out H1.out HFR.out
        have PU := hide (push_any HK.out JC WC (HBR1.out.move FB) (by have := HB1.out.1; omega))
        have HFC := hide FC
        clear JC FC FB WC
        refine PU.out.mono ?_
        intro e wz he
        cases hz : pushL f.br ⟨s1.st, r⟩ with
        | error c =>
          rw [hz] at he
          obtain ⟨p, rfl, hx⟩ := he
          go_wp2_with fail
          rw [show (closeW s) = .error c by simp only [closeW, H1.out, bnd_ok, HFR.out]; rw [if_neg (by intro h; exact HOP.out h.1)]; exact hz]
          exact ⟨rfl, p, rfl, hx⟩
        | ok sz =>
          rw [hz] at he
          obtain ⟨rfl, vsz, vfz, fvz, Jz, Fz⟩ := he
          have HJz := hide Jz
          have HFz := hide Fz
          clear Jz Fz
          go_wp2_with fail
          go_end0
          rw [show (closeW s) = .ok sz by simp only [closeW, H1.out, bnd_ok, HFR.out]; rw [if_neg (by intro h; exact HOP.out h.1)]; exact hz]
          exact ⟨rfl, vsz, vfz, fvz, HJz.out, HFC.out.trans HFz.out⟩
end
end Go.Proofs.YtamofhkmhjckaabGreatDoor
namespace Go.Proofs.YtamofhkmhjckaabGreatDoor
open Go.RowKit
section
variable {K : Kx} {at_ : Int} {s : Wk} {vs vf : Value} {fv : List (Fm × Value)} {w : World}
set_option maxRecDepth 100000 in
set_option maxHeartbeats 2000000 in
theorem cell_32 (hK : KOk K) (h : WJ K at_ s vs vf fv w) (hw : WF s) (hn : s.fr.length ≤ 1000) (hne : s.fr ≠ []) (xn xm : Int) (hxn : 0 ≤ xn) :
    Calls Tryz.prog 60 #[.pointer (some ⟨K.B, 0, none⟩), .agg #[.int .i64 32, .int .i64 xn, .int .i64 xm]] w (Ends K at_ vs vf w (bnd (locW K.C xn) fun t => pushL [t] s)) := by
  have HK := hide hK
  have HJ0 := hide (h.alloc hK (.cells #[.int .i64 32, .int .i64 xn, .int .i64 xm] 44))
  have HF0 := hide ((Fr.refl K vs vf w).alloc (h.size hK) (.cells #[.int .i64 32, .int .i64 xn, .int .i64 xm] 44))
  have HR0 := hide (Row.made w #[.int .i64 32, .int .i64 xn, .int .i64 xm] 44)
  have hsz := h.lt
  have HS0 := hide h
  have HW0 := hide hw
  have HN0 := hide hn
  have HX0 := hide hne
  clear hK h hw hn hne
  go_enter Tryz.func60, Tryz.ntmps60
  go_wp2_with fail
  refine (local_any HK.out HJ0.out xn hxn).mono ?_
  intro e w1 he
  cases h1 : locW K.C xn with
  | error c =>
    rw [h1] at he
    obtain ⟨p, rfl, hx⟩ := he
    go_wp2_with fail
    rw [show (bnd (locW K.C xn) fun t => pushL [t] s) = .error c by simp [bnd_err, h1]]
    exact ⟨rfl, p, rfl, hx⟩
  | ok t =>
    rw [h1] at he
    obtain ⟨rfl, hb1⟩ := he
    have HT1 := hide (locW_ty HK.out h1)
    have HJ1 := hide (HJ0.out.below HK.out hb1)
    have HF1 := hide (HF0.out.below hb1 (HJ0.out.size HK.out))
    have H1 := hide h1
    have HW1 := hide HW0.out
    have HN1 := hide HN0.out
    have HX1 := hide HX0.out
    have r1 := HR0.out.kept hb1
    have HR1 := hide r1
    have x0_1 := r1.c 0 _ rfl
    have x1_1 := r1.c 1 _ rfl
    have x2_1 := r1.c 2 _ rfl
    clear r1
    clear hb1 h1
    go_wp2_with fail
    refine (push_1 HK.out HJ1.out HW1.out t HT1.out.ty _ (by simp)).mono ?_
    intro e wz he
    cases hz : pushL [t] s with
    | error c =>
      rw [hz] at he
      obtain ⟨p, rfl, hx⟩ := he
      go_wp2_with fail
      rw [show (bnd (locW K.C xn) fun t => pushL [t] s) = .error c by simp [H1.out, bnd_ok, hz]]
      exact ⟨rfl, p, rfl, hx⟩
    | ok sz =>
      rw [hz] at he
      obtain ⟨rfl, vsz, vfz, fvz, Jz, Fz⟩ := he
      have HJz := hide Jz
      have HFz := hide Fz
      clear Jz Fz
      go_wp2_with fail
      go_end0
      rw [show (bnd (locW K.C xn) fun t => pushL [t] s) = .ok sz by simp [H1.out, bnd_ok, hz]]
      exact ⟨rfl, vsz, vfz, fvz, HJz.out, HF1.out.trans HFz.out⟩
set_option maxRecDepth 100000 in
set_option maxHeartbeats 2000000 in
theorem cell_33 (hK : KOk K) (h : WJ K at_ s vs vf fv w) (hw : WF s) (hn : s.fr.length ≤ 1000) (hne : s.fr ≠ []) (xn xm : Int) (hxn : 0 ≤ xn) :
    Calls Tryz.prog 60 #[.pointer (some ⟨K.B, 0, none⟩), .agg #[.int .i64 33, .int .i64 xn, .int .i64 xm]] w (Ends K at_ vs vf w (bnd (locW K.C xn) fun t => bnd (popTo [t] s) fun p => .ok p.2)) := by
  have HK := hide hK
  have HJ0 := hide (h.alloc hK (.cells #[.int .i64 33, .int .i64 xn, .int .i64 xm] 44))
  have HF0 := hide ((Fr.refl K vs vf w).alloc (h.size hK) (.cells #[.int .i64 33, .int .i64 xn, .int .i64 xm] 44))
  have HR0 := hide (Row.made w #[.int .i64 33, .int .i64 xn, .int .i64 xm] 44)
  have hsz := h.lt
  have HS0 := hide h
  have HW0 := hide hw
  have HN0 := hide hn
  have HX0 := hide hne
  clear hK h hw hn hne
  go_enter Tryz.func60, Tryz.ntmps60
  go_wp2_with fail
  refine (local_any HK.out HJ0.out xn hxn).mono ?_
  intro e w1 he
  cases h1 : locW K.C xn with
  | error c =>
    rw [h1] at he
    obtain ⟨p, rfl, hx⟩ := he
    go_wp2_with fail
    rw [show (bnd (locW K.C xn) fun t => bnd (popTo [t] s) fun p => .ok p.2) = .error c by simp [bnd_err, h1]]
    exact ⟨rfl, p, rfl, hx⟩
  | ok t =>
    rw [h1] at he
    obtain ⟨rfl, hb1⟩ := he
    have HT1 := hide (locW_ty HK.out h1)
    have HJ1 := hide (HJ0.out.below HK.out hb1)
    have HF1 := hide (HF0.out.below hb1 (HJ0.out.size HK.out))
    have H1 := hide h1
    have HW1 := hide HW0.out
    have HN1 := hide HN0.out
    have HX1 := hide HX0.out
    have r1 := HR0.out.kept hb1
    have HR1 := hide r1
    have x0_1 := r1.c 0 _ rfl
    have x1_1 := r1.c 1 _ rfl
    have x2_1 := r1.c 2 _ rfl
    clear r1
    clear hb1 h1
    go_wp2_with fail
    refine (popTo_1 HK.out HJ1.out HW1.out HN1.out HX1.out t HT1.out _ (by simp)).mono ?_
    intro e w2 he
    cases h2 : popTo [t] s with
    | error c =>
      rw [h2] at he
      obtain ⟨p, rfl, hx⟩ := he
      go_wp2_with fail
      rw [show (bnd (locW K.C xn) fun t => bnd (popTo [t] s) fun p => .ok p.2) = .error c by simp [H1.out, bnd_ok, bnd_err, h2]]
      exact ⟨rfl, p, rfl, hx⟩
    | ok q =>
      obtain ⟨b2, s2⟩ := q
      rw [h2] at he
      obtain ⟨rfl, vs2, vf2, fv2, J2, F2⟩ := he
      obtain ⟨hw2, e2, _⟩ := popTo_ok HW1.out h2
      have HW2 := hide hw2
      have HN2 := hide (show s2.fr.length ≤ 1000 by rw [e2]; exact HN1.out)
      have HX2 := hide (show s2.fr ≠ [] by rw [e2]; exact HX1.out)
      have HE2 := hide e2
      clear hw2 e2
      have HJ2 := hide J2
      have HF2 := hide (HF1.out.trans F2)
      have H2 := hide h2
      have r2 := HR1.out.keep HJ1.out F2 (by decide) (by decide) (by decide)
      have HR2 := hide r2
      have x0_2 := r2.c 0 _ rfl
      have x1_2 := r2.c 1 _ rfl
      have x2_2 := r2.c 2 _ rfl
      clear r2
      clear J2 F2 h2
      go_wp2_with fail
      go_end0
      rw [show (bnd (locW K.C xn) fun t => bnd (popTo [t] s) fun p => .ok p.2) = .ok s2 by simp [H1.out, H2.out, bnd_ok]]
      exact ⟨rfl, _, _, _, HJ2.out, HF2.out⟩
set_option maxRecDepth 100000 in
set_option maxHeartbeats 2000000 in
theorem cell_34 (hK : KOk K) (h : WJ K at_ s vs vf fv w) (hw : WF s) (hn : s.fr.length ≤ 1000) (hne : s.fr ≠ []) (xn xm : Int) (hxn : 0 ≤ xn) :
    Calls Tryz.prog 60 #[.pointer (some ⟨K.B, 0, none⟩), .agg #[.int .i64 34, .int .i64 xn, .int .i64 xm]] w (Ends K at_ vs vf w (bnd (locW K.C xn) fun t => bnd (popTo [t] s) fun p => pushL [t] p.2)) := by
  have HK := hide hK
  have HJ0 := hide (h.alloc hK (.cells #[.int .i64 34, .int .i64 xn, .int .i64 xm] 44))
  have HF0 := hide ((Fr.refl K vs vf w).alloc (h.size hK) (.cells #[.int .i64 34, .int .i64 xn, .int .i64 xm] 44))
  have HR0 := hide (Row.made w #[.int .i64 34, .int .i64 xn, .int .i64 xm] 44)
  have hsz := h.lt
  have HS0 := hide h
  have HW0 := hide hw
  have HN0 := hide hn
  have HX0 := hide hne
  clear hK h hw hn hne
  go_enter Tryz.func60, Tryz.ntmps60
  go_wp2_with fail
  refine (local_any HK.out HJ0.out xn hxn).mono ?_
  intro e w1 he
  cases h1 : locW K.C xn with
  | error c =>
    rw [h1] at he
    obtain ⟨p, rfl, hx⟩ := he
    go_wp2_with fail
    rw [show (bnd (locW K.C xn) fun t => bnd (popTo [t] s) fun p => pushL [t] p.2) = .error c by simp [bnd_err, h1]]
    exact ⟨rfl, p, rfl, hx⟩
  | ok t =>
    rw [h1] at he
    obtain ⟨rfl, hb1⟩ := he
    have HT1 := hide (locW_ty HK.out h1)
    have HJ1 := hide (HJ0.out.below HK.out hb1)
    have HF1 := hide (HF0.out.below hb1 (HJ0.out.size HK.out))
    have H1 := hide h1
    have HW1 := hide HW0.out
    have HN1 := hide HN0.out
    have HX1 := hide HX0.out
    have r1 := HR0.out.kept hb1
    have HR1 := hide r1
    have x0_1 := r1.c 0 _ rfl
    have x1_1 := r1.c 1 _ rfl
    have x2_1 := r1.c 2 _ rfl
    clear r1
    clear hb1 h1
    go_wp2_with fail
    refine (popTo_1 HK.out HJ1.out HW1.out HN1.out HX1.out t HT1.out _ (by simp)).mono ?_
    intro e w2 he
    cases h2 : popTo [t] s with
    | error c =>
      rw [h2] at he
      obtain ⟨p, rfl, hx⟩ := he
      go_wp2_with fail
      rw [show (bnd (locW K.C xn) fun t => bnd (popTo [t] s) fun p => pushL [t] p.2) = .error c by simp [H1.out, bnd_ok, bnd_err, h2]]
      exact ⟨rfl, p, rfl, hx⟩
    | ok q =>
      obtain ⟨b2, s2⟩ := q
      rw [h2] at he
      obtain ⟨rfl, vs2, vf2, fv2, J2, F2⟩ := he
      obtain ⟨hw2, e2, _⟩ := popTo_ok HW1.out h2
      have HW2 := hide hw2
      have HN2 := hide (show s2.fr.length ≤ 1000 by rw [e2]; exact HN1.out)
      have HX2 := hide (show s2.fr ≠ [] by rw [e2]; exact HX1.out)
      have HE2 := hide e2
      clear hw2 e2
      have HJ2 := hide J2
      have HF2 := hide (HF1.out.trans F2)
      have H2 := hide h2
      have r2 := HR1.out.keep HJ1.out F2 (by decide) (by decide) (by decide)
      have HR2 := hide r2
      have x0_2 := r2.c 0 _ rfl
      have x1_2 := r2.c 1 _ rfl
      have x2_2 := r2.c 2 _ rfl
      clear r2
      clear J2 F2 h2
      go_wp2_with fail
      refine (local_any HK.out HJ2.out xn hxn).mono ?_
      intro e wj he
      rw [H1.out] at he
      obtain ⟨rfl, hbj⟩ := he
      have HJ3 := hide (HJ2.out.below HK.out hbj)
      have HF3 := hide (HF2.out.below hbj (HJ2.out.size HK.out))
      have HW3 := hide HW2.out
      clear hbj
      go_wp2_with fail
      refine (push_1 HK.out HJ3.out HW3.out t HT1.out.ty _ (by simp)).mono ?_
      intro e wz he
      cases hz : pushL [t] s2 with
      | error c =>
        rw [hz] at he
        obtain ⟨p, rfl, hx⟩ := he
        go_wp2_with fail
        rw [show (bnd (locW K.C xn) fun t => bnd (popTo [t] s) fun p => pushL [t] p.2) = .error c by simp [H1.out, H2.out, bnd_ok, hz]]
        exact ⟨rfl, p, rfl, hx⟩
      | ok sz =>
        rw [hz] at he
        obtain ⟨rfl, vsz, vfz, fvz, Jz, Fz⟩ := he
        have HJz := hide Jz
        have HFz := hide Fz
        clear Jz Fz
        go_wp2_with fail
        go_end0
        rw [show (bnd (locW K.C xn) fun t => bnd (popTo [t] s) fun p => pushL [t] p.2) = .ok sz by simp [H1.out, H2.out, bnd_ok, hz]]
        exact ⟨rfl, vsz, vfz, fvz, HJz.out, HF3.out.trans HFz.out⟩
set_option maxRecDepth 100000 in
set_option maxHeartbeats 2000000 in
theorem cell_35 (hK : KOk K) (h : WJ K at_ s vs vf fv w) (hw : WF s) (hn : s.fr.length ≤ 1000) (hne : s.fr ≠ []) (xn xm : Int) (hxn : 0 ≤ xn) :
    Calls Tryz.prog 60 #[.pointer (some ⟨K.B, 0, none⟩), .agg #[.int .i64 35, .int .i64 xn, .int .i64 xm]] w (Ends K at_ vs vf w (bnd (gloW K.C xn) fun t => pushL [t] s)) := by
  have HK := hide hK
  have HJ0 := hide (h.alloc hK (.cells #[.int .i64 35, .int .i64 xn, .int .i64 xm] 44))
  have HF0 := hide ((Fr.refl K vs vf w).alloc (h.size hK) (.cells #[.int .i64 35, .int .i64 xn, .int .i64 xm] 44))
  have HR0 := hide (Row.made w #[.int .i64 35, .int .i64 xn, .int .i64 xm] 44)
  have hsz := h.lt
  have HS0 := hide h
  have HW0 := hide hw
  have HN0 := hide hn
  have HX0 := hide hne
  clear hK h hw hn hne
  go_enter Tryz.func60, Tryz.ntmps60
  go_wp2_with fail
  refine (global_any HK.out HJ0.out xn hxn).mono ?_
  intro e w1 he
  cases h1 : gloW K.C xn with
  | error c =>
    rw [h1] at he
    obtain ⟨p, rfl, hx⟩ := he
    go_wp2_with fail
    rw [show (bnd (gloW K.C xn) fun t => pushL [t] s) = .error c by simp [bnd_err, h1]]
    exact ⟨rfl, p, rfl, hx⟩
  | ok t =>
    rw [h1] at he
    obtain ⟨rfl, hb1⟩ := he
    have HT1 := hide (gloW_ty HK.out h1)
    have HJ1 := hide (HJ0.out.below HK.out hb1)
    have HF1 := hide (HF0.out.below hb1 (HJ0.out.size HK.out))
    have H1 := hide h1
    have HW1 := hide HW0.out
    have HN1 := hide HN0.out
    have HX1 := hide HX0.out
    have r1 := HR0.out.kept hb1
    have HR1 := hide r1
    have x0_1 := r1.c 0 _ rfl
    have x1_1 := r1.c 1 _ rfl
    have x2_1 := r1.c 2 _ rfl
    clear r1
    clear hb1 h1
    go_wp2_with fail
    refine (push_1 HK.out HJ1.out HW1.out t HT1.out.ty _ (by simp)).mono ?_
    intro e wz he
    cases hz : pushL [t] s with
    | error c =>
      rw [hz] at he
      obtain ⟨p, rfl, hx⟩ := he
      go_wp2_with fail
      rw [show (bnd (gloW K.C xn) fun t => pushL [t] s) = .error c by simp [H1.out, bnd_ok, hz]]
      exact ⟨rfl, p, rfl, hx⟩
    | ok sz =>
      rw [hz] at he
      obtain ⟨rfl, vsz, vfz, fvz, Jz, Fz⟩ := he
      have HJz := hide Jz
      have HFz := hide Fz
      clear Jz Fz
      go_wp2_with fail
      go_end0
      rw [show (bnd (gloW K.C xn) fun t => pushL [t] s) = .ok sz by simp [H1.out, bnd_ok, hz]]
      exact ⟨rfl, vsz, vfz, fvz, HJz.out, HF1.out.trans HFz.out⟩
set_option maxRecDepth 100000 in
set_option maxHeartbeats 2000000 in
theorem cell_36 (hK : KOk K) (h : WJ K at_ s vs vf fv w) (hw : WF s) (hn : s.fr.length ≤ 1000) (hne : s.fr ≠ []) (xn xm : Int) (hxn : 0 ≤ xn) :
    Calls Tryz.prog 60 #[.pointer (some ⟨K.B, 0, none⟩), .agg #[.int .i64 36, .int .i64 xn, .int .i64 xm]] w (Ends K at_ vs vf w (bnd (gloW K.C xn) fun t => bnd (popTo [t] s) fun p => .ok p.2)) := by
  have HK := hide hK
  have HJ0 := hide (h.alloc hK (.cells #[.int .i64 36, .int .i64 xn, .int .i64 xm] 44))
  have HF0 := hide ((Fr.refl K vs vf w).alloc (h.size hK) (.cells #[.int .i64 36, .int .i64 xn, .int .i64 xm] 44))
  have HR0 := hide (Row.made w #[.int .i64 36, .int .i64 xn, .int .i64 xm] 44)
  have hsz := h.lt
  have HS0 := hide h
  have HW0 := hide hw
  have HN0 := hide hn
  have HX0 := hide hne
  clear hK h hw hn hne
  go_enter Tryz.func60, Tryz.ntmps60
  go_wp2_with fail
  refine (global_any HK.out HJ0.out xn hxn).mono ?_
  intro e w1 he
  cases h1 : gloW K.C xn with
  | error c =>
    rw [h1] at he
    obtain ⟨p, rfl, hx⟩ := he
    go_wp2_with fail
    rw [show (bnd (gloW K.C xn) fun t => bnd (popTo [t] s) fun p => .ok p.2) = .error c by simp [bnd_err, h1]]
    exact ⟨rfl, p, rfl, hx⟩
  | ok t =>
    rw [h1] at he
    obtain ⟨rfl, hb1⟩ := he
    have HT1 := hide (gloW_ty HK.out h1)
    have HJ1 := hide (HJ0.out.below HK.out hb1)
    have HF1 := hide (HF0.out.below hb1 (HJ0.out.size HK.out))
    have H1 := hide h1
    have HW1 := hide HW0.out
    have HN1 := hide HN0.out
    have HX1 := hide HX0.out
    have r1 := HR0.out.kept hb1
    have HR1 := hide r1
    have x0_1 := r1.c 0 _ rfl
    have x1_1 := r1.c 1 _ rfl
    have x2_1 := r1.c 2 _ rfl
    clear r1
    clear hb1 h1
    go_wp2_with fail
    refine (popTo_1 HK.out HJ1.out HW1.out HN1.out HX1.out t HT1.out _ (by simp)).mono ?_
    intro e w2 he
    cases h2 : popTo [t] s with
    | error c =>
      rw [h2] at he
      obtain ⟨p, rfl, hx⟩ := he
      go_wp2_with fail
      rw [show (bnd (gloW K.C xn) fun t => bnd (popTo [t] s) fun p => .ok p.2) = .error c by simp [H1.out, bnd_ok, bnd_err, h2]]
      exact ⟨rfl, p, rfl, hx⟩
    | ok q =>
      obtain ⟨b2, s2⟩ := q
      rw [h2] at he
      obtain ⟨rfl, vs2, vf2, fv2, J2, F2⟩ := he
      obtain ⟨hw2, e2, _⟩ := popTo_ok HW1.out h2
      have HW2 := hide hw2
      have HN2 := hide (show s2.fr.length ≤ 1000 by rw [e2]; exact HN1.out)
      have HX2 := hide (show s2.fr ≠ [] by rw [e2]; exact HX1.out)
      have HE2 := hide e2
      clear hw2 e2
      have HJ2 := hide J2
      have HF2 := hide (HF1.out.trans F2)
      have H2 := hide h2
      have r2 := HR1.out.keep HJ1.out F2 (by decide) (by decide) (by decide)
      have HR2 := hide r2
      have x0_2 := r2.c 0 _ rfl
      have x1_2 := r2.c 1 _ rfl
      have x2_2 := r2.c 2 _ rfl
      clear r2
      clear J2 F2 h2
      go_wp2_with fail
      go_end0
      rw [show (bnd (gloW K.C xn) fun t => bnd (popTo [t] s) fun p => .ok p.2) = .ok s2 by simp [H1.out, H2.out, bnd_ok]]
      exact ⟨rfl, _, _, _, HJ2.out, HF2.out⟩
end
end Go.Proofs.YtamofhkmhjckaabGreatDoor

/-
  The walk's access: loads and stores.
-/
import Derived.Test.YtamofhkmhjckaabGreatDoorWalk12
namespace Go.Proofs.YtamofhkmhjckaabGreatDoor
open Go.RowKit
section
variable {K : Kx} {at_ : Int} {s : Wk} {vs vf : Value} {fv : List (Fm × Value)} {w : World}
theorem leaveR (w : World) {p : Prop} (h : p) (_ : wpAny Tryz.prog Region.Mode.text #[] (fun _ _ _ => True) 0 #[] { tmps := #[], defers := [] } w) : p := h
set_option maxRecDepth 100000 in
set_option maxHeartbeats 2000000 in
theorem access_40_0 (hK : KOk K) (h : WJ K at_ s vs vf fv w) (hw : WF s) (hn : s.fr.length ≤ 1000) (hne : s.fr ≠ []) (xn : Int) :
    Calls Tryz.prog 61 #[.pointer (some ⟨K.B, 0, none⟩), .agg #[.int .i64 40, .int .i64 xn, .int .i64 0]] w (Ends K at_ vs vf w (loadW K.C false 0 s)) := by
  have HK := hide hK
  have HJ0 := hide (h.alloc hK (.cells #[.int .i64 40, .int .i64 xn, .int .i64 0] 44))
  have HF0 := hide ((Fr.refl K vs vf w).alloc (h.size hK) (.cells #[.int .i64 40, .int .i64 xn, .int .i64 0] 44))
  have HR0 := hide (Row.made w #[.int .i64 40, .int .i64 xn, .int .i64 0] 44)
  have hsz := h.lt
  have HS0 := hide h
  have HW0 := hide hw
  have HN0 := hide hn
  have HX0 := hide hne
  have c3 : w.cell? ⟨K.B, 3, none⟩ = some (.int .i64 K.C.M.m0) := h.row.c 3 _ rfl
  have hB0 : ¬ K.B = w.heap.size := by have := h.lt; omega
  clear hK h hw hn hne
  go_enter Tryz.func61, Tryz.ntmps61
  go_wp2_with fail
  by_cases hm : K.C.M.m0 = 0
  · have hMU := hide (wmust_no HK.out HJ0.out.drew)
    have PAN : Hid (∀ (w' : World) (p : Nat), (FaultAt w' p 3 at_ ∧ Below K.base K.w0 w') → ∀ tm, bodyPost Tryz.prog Tryz.f61 (Ends K at_ vs vf w (loadW K.C false 0 s)) (Exit.panic [{ v := flt p, recovered := false }]) { tmps := tm, defers := [] } w') := hide (fun w' p hx tm => ⟨rfl, by rw [show loadW K.C false 0 s = .error 3 by simp [loadW, memOf, hm]]; exact ⟨p, rfl, hx⟩⟩)
    rw [hm] at c3
    go_region_with (go_at_call 64; refine hMU.out.mono ?_; rintro e w' ⟨⟨p, rfl, hx⟩, _⟩; refine leaveR w' (PAN.out w' p hx _) ?_)
    all_goals trivial
  · have hMU := hide (wmust_yes HJ0.out.drew)
    have HM := hide hm
    have hm' : (K.C.M.m0 != 0) = true := by simpa using hm
    go_region_with (go_at_call 64; refine hMU.out.mono ?_; rintro e w' ⟨rfl, rfl⟩)
    all_goals
      have HJ1 := hide HJ0.out.drew
      have HF1 := hide HF0.out.drew
      have HW1 := hide HW0.out
      have HN1 := hide HN0.out
      have HX1 := hide HX0.out
      go_wp2_with fail
      refine (of_any false false _).mono ?_
      rintro e wx ⟨rfl, rfl⟩
      go_wp2_with fail
      refine (popTo_1 HK.out HJ1.out HW1.out HN1.out HX1.out 0 ⟨by decide, by decide⟩ _ (by simp)).mono ?_
      intro e w2 he
      cases h2 : popTo [0] s with
      | error c =>
        rw [h2] at he
        obtain ⟨p, rfl, hx⟩ := he
        go_wp2_with fail
        rw [show (loadW K.C false 0 s) = .error c by simp [loadW, memOf, HM.out, bnd_err, h2]]
        exact ⟨rfl, p, rfl, hx⟩
      | ok q =>
        obtain ⟨b2, s2⟩ := q
        rw [h2] at he
        obtain ⟨rfl, vs2, vf2, fv2, J2, F2⟩ := he
        obtain ⟨hw2, e2, _⟩ := popTo_ok HW1.out h2
        have HW2 := hide hw2
        have HN2 := hide (show s2.fr.length ≤ 1000 by rw [e2]; exact HN1.out)
        have HX2 := hide (show s2.fr ≠ [] by rw [e2]; exact HX1.out)
        have HE2 := hide e2
        clear hw2 e2
        have HJ2 := hide J2
        have HF2 := hide (HF1.out.trans F2)
        have H2 := hide h2
        clear J2 F2 h2
        go_wp2_with fail
        refine (push_1 HK.out HJ2.out HW2.out (ot false false) (ty0_ot _ _).ty _ (by simp)).mono ?_
        intro e wz he
        cases hz : pushL [(ot false false)] s2 with
        | error c =>
          rw [hz] at he
          obtain ⟨p, rfl, hx⟩ := he
          go_wp2_with fail
          rw [show (loadW K.C false 0 s) = .error c by simp [loadW, memOf, HM.out, H2.out, bnd_ok, hz]]
          exact ⟨rfl, p, rfl, hx⟩
        | ok sz =>
          rw [hz] at he
          obtain ⟨rfl, vsz, vfz, fvz, Jz, Fz⟩ := he
          have HJz := hide Jz
          have HFz := hide Fz
          clear Jz Fz
          go_wp2_with fail
          go_end0
          rw [show (loadW K.C false 0 s) = .ok sz by simp [loadW, memOf, HM.out, H2.out, bnd_ok, hz]]
          exact ⟨rfl, vsz, vfz, fvz, HJz.out, HF2.out.trans HFz.out⟩
set_option maxRecDepth 100000 in
set_option maxHeartbeats 2000000 in
theorem access_40_1 (hK : KOk K) (h : WJ K at_ s vs vf fv w) (hw : WF s) (hn : s.fr.length ≤ 1000) (hne : s.fr ≠ []) (xn : Int) :
    Calls Tryz.prog 61 #[.pointer (some ⟨K.B, 0, none⟩), .agg #[.int .i64 40, .int .i64 xn, .int .i64 1]] w (Ends K at_ vs vf w (loadW K.C false 1 s)) := by
  have HK := hide hK
  have HJ0 := hide (h.alloc hK (.cells #[.int .i64 40, .int .i64 xn, .int .i64 1] 44))
  have HF0 := hide ((Fr.refl K vs vf w).alloc (h.size hK) (.cells #[.int .i64 40, .int .i64 xn, .int .i64 1] 44))
  have HR0 := hide (Row.made w #[.int .i64 40, .int .i64 xn, .int .i64 1] 44)
  have hsz := h.lt
  have HS0 := hide h
  have HW0 := hide hw
  have HN0 := hide hn
  have HX0 := hide hne
  have c4 : w.cell? ⟨K.B, 4, none⟩ = some (.int .i64 K.C.M.m1) := h.row.c 4 _ rfl
  have hB0 : ¬ K.B = w.heap.size := by have := h.lt; omega
  clear hK h hw hn hne
  go_enter Tryz.func61, Tryz.ntmps61
  go_wp2_with fail
  by_cases hm : K.C.M.m1 = 0
  · have hMU := hide (wmust_no HK.out HJ0.out.drew)
    have PAN : Hid (∀ (w' : World) (p : Nat), (FaultAt w' p 3 at_ ∧ Below K.base K.w0 w') → ∀ tm, bodyPost Tryz.prog Tryz.f61 (Ends K at_ vs vf w (loadW K.C false 1 s)) (Exit.panic [{ v := flt p, recovered := false }]) { tmps := tm, defers := [] } w') := hide (fun w' p hx tm => ⟨rfl, by rw [show loadW K.C false 1 s = .error 3 by simp [loadW, memOf, hm]]; exact ⟨p, rfl, hx⟩⟩)
    rw [hm] at c4
    go_region_with (go_at_call 64; refine hMU.out.mono ?_; rintro e w' ⟨⟨p, rfl, hx⟩, _⟩; refine leaveR w' (PAN.out w' p hx _) ?_)
    all_goals trivial
  · have hMU := hide (wmust_yes HJ0.out.drew)
    have HM := hide hm
    have hm' : (K.C.M.m1 != 0) = true := by simpa using hm
    go_region_with (go_at_call 64; refine hMU.out.mono ?_; rintro e w' ⟨rfl, rfl⟩)
    all_goals
      have HJ1 := hide HJ0.out.drew
      have HF1 := hide HF0.out.drew
      have HW1 := hide HW0.out
      have HN1 := hide HN0.out
      have HX1 := hide HX0.out
      go_wp2_with fail
      refine (of_any false true _).mono ?_
      rintro e wx ⟨rfl, rfl⟩
      go_wp2_with fail
      refine (popTo_1 HK.out HJ1.out HW1.out HN1.out HX1.out 0 ⟨by decide, by decide⟩ _ (by simp)).mono ?_
      intro e w2 he
      cases h2 : popTo [0] s with
      | error c =>
        rw [h2] at he
        obtain ⟨p, rfl, hx⟩ := he
        go_wp2_with fail
        rw [show (loadW K.C false 1 s) = .error c by simp [loadW, memOf, HM.out, bnd_err, h2]]
        exact ⟨rfl, p, rfl, hx⟩
      | ok q =>
        obtain ⟨b2, s2⟩ := q
        rw [h2] at he
        obtain ⟨rfl, vs2, vf2, fv2, J2, F2⟩ := he
        obtain ⟨hw2, e2, _⟩ := popTo_ok HW1.out h2
        have HW2 := hide hw2
        have HN2 := hide (show s2.fr.length ≤ 1000 by rw [e2]; exact HN1.out)
        have HX2 := hide (show s2.fr ≠ [] by rw [e2]; exact HX1.out)
        have HE2 := hide e2
        clear hw2 e2
        have HJ2 := hide J2
        have HF2 := hide (HF1.out.trans F2)
        have H2 := hide h2
        clear J2 F2 h2
        go_wp2_with fail
        refine (push_1 HK.out HJ2.out HW2.out (ot false true) (ty0_ot _ _).ty _ (by simp)).mono ?_
        intro e wz he
        cases hz : pushL [(ot false true)] s2 with
        | error c =>
          rw [hz] at he
          obtain ⟨p, rfl, hx⟩ := he
          go_wp2_with fail
          rw [show (loadW K.C false 1 s) = .error c by simp [loadW, memOf, HM.out, H2.out, bnd_ok, hz]]
          exact ⟨rfl, p, rfl, hx⟩
        | ok sz =>
          rw [hz] at he
          obtain ⟨rfl, vsz, vfz, fvz, Jz, Fz⟩ := he
          have HJz := hide Jz
          have HFz := hide Fz
          clear Jz Fz
          go_wp2_with fail
          go_end0
          rw [show (loadW K.C false 1 s) = .ok sz by simp [loadW, memOf, HM.out, H2.out, bnd_ok, hz]]
          exact ⟨rfl, vsz, vfz, fvz, HJz.out, HF2.out.trans HFz.out⟩
set_option maxRecDepth 100000 in
set_option maxHeartbeats 2000000 in
theorem access_41_0 (hK : KOk K) (h : WJ K at_ s vs vf fv w) (hw : WF s) (hn : s.fr.length ≤ 1000) (hne : s.fr ≠ []) (xn : Int) :
    Calls Tryz.prog 61 #[.pointer (some ⟨K.B, 0, none⟩), .agg #[.int .i64 41, .int .i64 xn, .int .i64 0]] w (Ends K at_ vs vf w (loadW K.C true 0 s)) := by
  have HK := hide hK
  have HJ0 := hide (h.alloc hK (.cells #[.int .i64 41, .int .i64 xn, .int .i64 0] 44))
  have HF0 := hide ((Fr.refl K vs vf w).alloc (h.size hK) (.cells #[.int .i64 41, .int .i64 xn, .int .i64 0] 44))
  have HR0 := hide (Row.made w #[.int .i64 41, .int .i64 xn, .int .i64 0] 44)
  have hsz := h.lt
  have HS0 := hide h
  have HW0 := hide hw
  have HN0 := hide hn
  have HX0 := hide hne
  have c3 : w.cell? ⟨K.B, 3, none⟩ = some (.int .i64 K.C.M.m0) := h.row.c 3 _ rfl
  have hB0 : ¬ K.B = w.heap.size := by have := h.lt; omega
  clear hK h hw hn hne
  go_enter Tryz.func61, Tryz.ntmps61
  go_wp2_with fail
  by_cases hm : K.C.M.m0 = 0
  · have hMU := hide (wmust_no HK.out HJ0.out.drew)
    have PAN : Hid (∀ (w' : World) (p : Nat), (FaultAt w' p 3 at_ ∧ Below K.base K.w0 w') → ∀ tm, bodyPost Tryz.prog Tryz.f61 (Ends K at_ vs vf w (loadW K.C true 0 s)) (Exit.panic [{ v := flt p, recovered := false }]) { tmps := tm, defers := [] } w') := hide (fun w' p hx tm => ⟨rfl, by rw [show loadW K.C true 0 s = .error 3 by simp [loadW, memOf, hm]]; exact ⟨p, rfl, hx⟩⟩)
    rw [hm] at c3
    go_region_with (go_at_call 64; refine hMU.out.mono ?_; rintro e w' ⟨⟨p, rfl, hx⟩, _⟩; refine leaveR w' (PAN.out w' p hx _) ?_)
    all_goals trivial
  · have hMU := hide (wmust_yes HJ0.out.drew)
    have HM := hide hm
    have hm' : (K.C.M.m0 != 0) = true := by simpa using hm
    go_region_with (go_at_call 64; refine hMU.out.mono ?_; rintro e w' ⟨rfl, rfl⟩)
    all_goals
      have HJ1 := hide HJ0.out.drew
      have HF1 := hide HF0.out.drew
      have HW1 := hide HW0.out
      have HN1 := hide HN0.out
      have HX1 := hide HX0.out
      go_wp2_with fail
      refine (of_any true false _).mono ?_
      rintro e wx ⟨rfl, rfl⟩
      go_wp2_with fail
      refine (popTo_1 HK.out HJ1.out HW1.out HN1.out HX1.out 0 ⟨by decide, by decide⟩ _ (by simp)).mono ?_
      intro e w2 he
      cases h2 : popTo [0] s with
      | error c =>
        rw [h2] at he
        obtain ⟨p, rfl, hx⟩ := he
        go_wp2_with fail
        rw [show (loadW K.C true 0 s) = .error c by simp [loadW, memOf, HM.out, bnd_err, h2]]
        exact ⟨rfl, p, rfl, hx⟩
      | ok q =>
        obtain ⟨b2, s2⟩ := q
        rw [h2] at he
        obtain ⟨rfl, vs2, vf2, fv2, J2, F2⟩ := he
        obtain ⟨hw2, e2, _⟩ := popTo_ok HW1.out h2
        have HW2 := hide hw2
        have HN2 := hide (show s2.fr.length ≤ 1000 by rw [e2]; exact HN1.out)
        have HX2 := hide (show s2.fr ≠ [] by rw [e2]; exact HX1.out)
        have HE2 := hide e2
        clear hw2 e2
        have HJ2 := hide J2
        have HF2 := hide (HF1.out.trans F2)
        have H2 := hide h2
        clear J2 F2 h2
        go_wp2_with fail
        refine (push_1 HK.out HJ2.out HW2.out (ot true false) (ty0_ot _ _).ty _ (by simp)).mono ?_
        intro e wz he
        cases hz : pushL [(ot true false)] s2 with
        | error c =>
          rw [hz] at he
          obtain ⟨p, rfl, hx⟩ := he
          go_wp2_with fail
          rw [show (loadW K.C true 0 s) = .error c by simp [loadW, memOf, HM.out, H2.out, bnd_ok, hz]]
          exact ⟨rfl, p, rfl, hx⟩
        | ok sz =>
          rw [hz] at he
          obtain ⟨rfl, vsz, vfz, fvz, Jz, Fz⟩ := he
          have HJz := hide Jz
          have HFz := hide Fz
          clear Jz Fz
          go_wp2_with fail
          go_end0
          rw [show (loadW K.C true 0 s) = .ok sz by simp [loadW, memOf, HM.out, H2.out, bnd_ok, hz]]
          exact ⟨rfl, vsz, vfz, fvz, HJz.out, HF2.out.trans HFz.out⟩
set_option maxRecDepth 100000 in
set_option maxHeartbeats 2000000 in
theorem access_41_1 (hK : KOk K) (h : WJ K at_ s vs vf fv w) (hw : WF s) (hn : s.fr.length ≤ 1000) (hne : s.fr ≠ []) (xn : Int) :
    Calls Tryz.prog 61 #[.pointer (some ⟨K.B, 0, none⟩), .agg #[.int .i64 41, .int .i64 xn, .int .i64 1]] w (Ends K at_ vs vf w (loadW K.C true 1 s)) := by
  have HK := hide hK
  have HJ0 := hide (h.alloc hK (.cells #[.int .i64 41, .int .i64 xn, .int .i64 1] 44))
  have HF0 := hide ((Fr.refl K vs vf w).alloc (h.size hK) (.cells #[.int .i64 41, .int .i64 xn, .int .i64 1] 44))
  have HR0 := hide (Row.made w #[.int .i64 41, .int .i64 xn, .int .i64 1] 44)
  have hsz := h.lt
  have HS0 := hide h
  have HW0 := hide hw
  have HN0 := hide hn
  have HX0 := hide hne
  have c4 : w.cell? ⟨K.B, 4, none⟩ = some (.int .i64 K.C.M.m1) := h.row.c 4 _ rfl
  have hB0 : ¬ K.B = w.heap.size := by have := h.lt; omega
  clear hK h hw hn hne
  go_enter Tryz.func61, Tryz.ntmps61
  go_wp2_with fail
  by_cases hm : K.C.M.m1 = 0
  · have hMU := hide (wmust_no HK.out HJ0.out.drew)
    have PAN : Hid (∀ (w' : World) (p : Nat), (FaultAt w' p 3 at_ ∧ Below K.base K.w0 w') → ∀ tm, bodyPost Tryz.prog Tryz.f61 (Ends K at_ vs vf w (loadW K.C true 1 s)) (Exit.panic [{ v := flt p, recovered := false }]) { tmps := tm, defers := [] } w') := hide (fun w' p hx tm => ⟨rfl, by rw [show loadW K.C true 1 s = .error 3 by simp [loadW, memOf, hm]]; exact ⟨p, rfl, hx⟩⟩)
    rw [hm] at c4
    go_region_with (go_at_call 64; refine hMU.out.mono ?_; rintro e w' ⟨⟨p, rfl, hx⟩, _⟩; refine leaveR w' (PAN.out w' p hx _) ?_)
    all_goals trivial
  · have hMU := hide (wmust_yes HJ0.out.drew)
    have HM := hide hm
    have hm' : (K.C.M.m1 != 0) = true := by simpa using hm
    go_region_with (go_at_call 64; refine hMU.out.mono ?_; rintro e w' ⟨rfl, rfl⟩)
    all_goals
      have HJ1 := hide HJ0.out.drew
      have HF1 := hide HF0.out.drew
      have HW1 := hide HW0.out
      have HN1 := hide HN0.out
      have HX1 := hide HX0.out
      go_wp2_with fail
      refine (of_any true true _).mono ?_
      rintro e wx ⟨rfl, rfl⟩
      go_wp2_with fail
      refine (popTo_1 HK.out HJ1.out HW1.out HN1.out HX1.out 0 ⟨by decide, by decide⟩ _ (by simp)).mono ?_
      intro e w2 he
      cases h2 : popTo [0] s with
      | error c =>
        rw [h2] at he
        obtain ⟨p, rfl, hx⟩ := he
        go_wp2_with fail
        rw [show (loadW K.C true 1 s) = .error c by simp [loadW, memOf, HM.out, bnd_err, h2]]
        exact ⟨rfl, p, rfl, hx⟩
      | ok q =>
        obtain ⟨b2, s2⟩ := q
        rw [h2] at he
        obtain ⟨rfl, vs2, vf2, fv2, J2, F2⟩ := he
        obtain ⟨hw2, e2, _⟩ := popTo_ok HW1.out h2
        have HW2 := hide hw2
        have HN2 := hide (show s2.fr.length ≤ 1000 by rw [e2]; exact HN1.out)
        have HX2 := hide (show s2.fr ≠ [] by rw [e2]; exact HX1.out)
        have HE2 := hide e2
        clear hw2 e2
        have HJ2 := hide J2
        have HF2 := hide (HF1.out.trans F2)
        have H2 := hide h2
        clear J2 F2 h2
        go_wp2_with fail
        refine (push_1 HK.out HJ2.out HW2.out (ot true true) (ty0_ot _ _).ty _ (by simp)).mono ?_
        intro e wz he
        cases hz : pushL [(ot true true)] s2 with
        | error c =>
          rw [hz] at he
          obtain ⟨p, rfl, hx⟩ := he
          go_wp2_with fail
          rw [show (loadW K.C true 1 s) = .error c by simp [loadW, memOf, HM.out, H2.out, bnd_ok, hz]]
          exact ⟨rfl, p, rfl, hx⟩
        | ok sz =>
          rw [hz] at he
          obtain ⟨rfl, vsz, vfz, fvz, Jz, Fz⟩ := he
          have HJz := hide Jz
          have HFz := hide Fz
          clear Jz Fz
          go_wp2_with fail
          go_end0
          rw [show (loadW K.C true 1 s) = .ok sz by simp [loadW, memOf, HM.out, H2.out, bnd_ok, hz]]
          exact ⟨rfl, vsz, vfz, fvz, HJz.out, HF2.out.trans HFz.out⟩
set_option maxRecDepth 100000 in
set_option maxHeartbeats 2000000 in
theorem access_54_0 (hK : KOk K) (h : WJ K at_ s vs vf fv w) (hw : WF s) (hn : s.fr.length ≤ 1000) (hne : s.fr ≠ []) (xn : Int) :
    Calls Tryz.prog 61 #[.pointer (some ⟨K.B, 0, none⟩), .agg #[.int .i64 54, .int .i64 xn, .int .i64 0]] w (Ends K at_ vs vf w (storeW K.C false 0 s)) := by
  have HK := hide hK
  have HJ0 := hide (h.alloc hK (.cells #[.int .i64 54, .int .i64 xn, .int .i64 0] 44))
  have HF0 := hide ((Fr.refl K vs vf w).alloc (h.size hK) (.cells #[.int .i64 54, .int .i64 xn, .int .i64 0] 44))
  have HR0 := hide (Row.made w #[.int .i64 54, .int .i64 xn, .int .i64 0] 44)
  have hsz := h.lt
  have HS0 := hide h
  have HW0 := hide hw
  have HN0 := hide hn
  have HX0 := hide hne
  have c3 : w.cell? ⟨K.B, 3, none⟩ = some (.int .i64 K.C.M.m0) := h.row.c 3 _ rfl
  have hB0 : ¬ K.B = w.heap.size := by have := h.lt; omega
  clear hK h hw hn hne
  go_enter Tryz.func61, Tryz.ntmps61
  go_wp2_with fail
  by_cases hm : K.C.M.m0 = 0
  · have hMU := hide (wmust_no HK.out HJ0.out.drew)
    have PAN : Hid (∀ (w' : World) (p : Nat), (FaultAt w' p 3 at_ ∧ Below K.base K.w0 w') → ∀ tm, bodyPost Tryz.prog Tryz.f61 (Ends K at_ vs vf w (storeW K.C false 0 s)) (Exit.panic [{ v := flt p, recovered := false }]) { tmps := tm, defers := [] } w') := hide (fun w' p hx tm => ⟨rfl, by rw [show storeW K.C false 0 s = .error 3 by simp [storeW, memOf, hm]]; exact ⟨p, rfl, hx⟩⟩)
    rw [hm] at c3
    go_region_with (go_at_call 64; refine hMU.out.mono ?_; rintro e w' ⟨⟨p, rfl, hx⟩, _⟩; refine leaveR w' (PAN.out w' p hx _) ?_)
    all_goals trivial
  · have hMU := hide (wmust_yes HJ0.out.drew)
    have HM := hide hm
    have hm' : (K.C.M.m0 != 0) = true := by simpa using hm
    go_region_with (go_at_call 64; refine hMU.out.mono ?_; rintro e w' ⟨rfl, rfl⟩)
    all_goals
      have HJ1 := hide HJ0.out.drew
      have HF1 := hide HF0.out.drew
      have HW1 := hide HW0.out
      have HN1 := hide HN0.out
      have HX1 := hide HX0.out
      go_wp2_with fail
      refine (of_any false false _).mono ?_
      rintro e wx ⟨rfl, rfl⟩
      go_wp2_with fail
      refine (popTo_2 HK.out HJ1.out HW1.out HN1.out HX1.out 0 (ot false false) ⟨by decide, by decide⟩ (ty0_ot _ _) _ (by simp)).mono ?_
      intro e w2 he
      cases h2 : popTo [0, (ot false false)] s with
      | error c =>
        rw [h2] at he
        obtain ⟨p, rfl, hx⟩ := he
        go_wp2_with fail
        rw [show (storeW K.C false 0 s) = .error c by simp [storeW, memOf, HM.out, bnd_err, h2]]
        exact ⟨rfl, p, rfl, hx⟩
      | ok q =>
        obtain ⟨b2, s2⟩ := q
        rw [h2] at he
        obtain ⟨rfl, vs2, vf2, fv2, J2, F2⟩ := he
        obtain ⟨hw2, e2, _⟩ := popTo_ok HW1.out h2
        have HW2 := hide hw2
        have HN2 := hide (show s2.fr.length ≤ 1000 by rw [e2]; exact HN1.out)
        have HX2 := hide (show s2.fr ≠ [] by rw [e2]; exact HX1.out)
        have HE2 := hide e2
        clear hw2 e2
        have HJ2 := hide J2
        have HF2 := hide (HF1.out.trans F2)
        have H2 := hide h2
        clear J2 F2 h2
        go_wp2_with fail
        go_end0
        rw [show (storeW K.C false 0 s) = .ok s2 by simp [storeW, memOf, HM.out, H2.out, bnd_ok]]
        exact ⟨rfl, _, _, _, HJ2.out, HF2.out⟩
set_option maxRecDepth 100000 in
set_option maxHeartbeats 2000000 in
theorem access_54_1 (hK : KOk K) (h : WJ K at_ s vs vf fv w) (hw : WF s) (hn : s.fr.length ≤ 1000) (hne : s.fr ≠ []) (xn : Int) :
    Calls Tryz.prog 61 #[.pointer (some ⟨K.B, 0, none⟩), .agg #[.int .i64 54, .int .i64 xn, .int .i64 1]] w (Ends K at_ vs vf w (storeW K.C false 1 s)) := by
  have HK := hide hK
  have HJ0 := hide (h.alloc hK (.cells #[.int .i64 54, .int .i64 xn, .int .i64 1] 44))
  have HF0 := hide ((Fr.refl K vs vf w).alloc (h.size hK) (.cells #[.int .i64 54, .int .i64 xn, .int .i64 1] 44))
  have HR0 := hide (Row.made w #[.int .i64 54, .int .i64 xn, .int .i64 1] 44)
  have hsz := h.lt
  have HS0 := hide h
  have HW0 := hide hw
  have HN0 := hide hn
  have HX0 := hide hne
  have c4 : w.cell? ⟨K.B, 4, none⟩ = some (.int .i64 K.C.M.m1) := h.row.c 4 _ rfl
  have hB0 : ¬ K.B = w.heap.size := by have := h.lt; omega
  clear hK h hw hn hne
  go_enter Tryz.func61, Tryz.ntmps61
  go_wp2_with fail
  by_cases hm : K.C.M.m1 = 0
  · have hMU := hide (wmust_no HK.out HJ0.out.drew)
    have PAN : Hid (∀ (w' : World) (p : Nat), (FaultAt w' p 3 at_ ∧ Below K.base K.w0 w') → ∀ tm, bodyPost Tryz.prog Tryz.f61 (Ends K at_ vs vf w (storeW K.C false 1 s)) (Exit.panic [{ v := flt p, recovered := false }]) { tmps := tm, defers := [] } w') := hide (fun w' p hx tm => ⟨rfl, by rw [show storeW K.C false 1 s = .error 3 by simp [storeW, memOf, hm]]; exact ⟨p, rfl, hx⟩⟩)
    rw [hm] at c4
    go_region_with (go_at_call 64; refine hMU.out.mono ?_; rintro e w' ⟨⟨p, rfl, hx⟩, _⟩; refine leaveR w' (PAN.out w' p hx _) ?_)
    all_goals trivial
  · have hMU := hide (wmust_yes HJ0.out.drew)
    have HM := hide hm
    have hm' : (K.C.M.m1 != 0) = true := by simpa using hm
    go_region_with (go_at_call 64; refine hMU.out.mono ?_; rintro e w' ⟨rfl, rfl⟩)
    all_goals
      have HJ1 := hide HJ0.out.drew
      have HF1 := hide HF0.out.drew
      have HW1 := hide HW0.out
      have HN1 := hide HN0.out
      have HX1 := hide HX0.out
      go_wp2_with fail
      refine (of_any false true _).mono ?_
      rintro e wx ⟨rfl, rfl⟩
      go_wp2_with fail
      refine (popTo_2 HK.out HJ1.out HW1.out HN1.out HX1.out 0 (ot false true) ⟨by decide, by decide⟩ (ty0_ot _ _) _ (by simp)).mono ?_
      intro e w2 he
      cases h2 : popTo [0, (ot false true)] s with
      | error c =>
        rw [h2] at he
        obtain ⟨p, rfl, hx⟩ := he
        go_wp2_with fail
        rw [show (storeW K.C false 1 s) = .error c by simp [storeW, memOf, HM.out, bnd_err, h2]]
        exact ⟨rfl, p, rfl, hx⟩
      | ok q =>
        obtain ⟨b2, s2⟩ := q
        rw [h2] at he
        obtain ⟨rfl, vs2, vf2, fv2, J2, F2⟩ := he
        obtain ⟨hw2, e2, _⟩ := popTo_ok HW1.out h2
        have HW2 := hide hw2
        have HN2 := hide (show s2.fr.length ≤ 1000 by rw [e2]; exact HN1.out)
        have HX2 := hide (show s2.fr ≠ [] by rw [e2]; exact HX1.out)
        have HE2 := hide e2
        clear hw2 e2
        have HJ2 := hide J2
        have HF2 := hide (HF1.out.trans F2)
        have H2 := hide h2
        clear J2 F2 h2
        go_wp2_with fail
        go_end0
        rw [show (storeW K.C false 1 s) = .ok s2 by simp [storeW, memOf, HM.out, H2.out, bnd_ok]]
        exact ⟨rfl, _, _, _, HJ2.out, HF2.out⟩
set_option maxRecDepth 100000 in
set_option maxHeartbeats 2000000 in
theorem access_55_0 (hK : KOk K) (h : WJ K at_ s vs vf fv w) (hw : WF s) (hn : s.fr.length ≤ 1000) (hne : s.fr ≠ []) (xn : Int) :
    Calls Tryz.prog 61 #[.pointer (some ⟨K.B, 0, none⟩), .agg #[.int .i64 55, .int .i64 xn, .int .i64 0]] w (Ends K at_ vs vf w (storeW K.C true 0 s)) := by
  have HK := hide hK
  have HJ0 := hide (h.alloc hK (.cells #[.int .i64 55, .int .i64 xn, .int .i64 0] 44))
  have HF0 := hide ((Fr.refl K vs vf w).alloc (h.size hK) (.cells #[.int .i64 55, .int .i64 xn, .int .i64 0] 44))
  have HR0 := hide (Row.made w #[.int .i64 55, .int .i64 xn, .int .i64 0] 44)
  have hsz := h.lt
  have HS0 := hide h
  have HW0 := hide hw
  have HN0 := hide hn
  have HX0 := hide hne
  have c3 : w.cell? ⟨K.B, 3, none⟩ = some (.int .i64 K.C.M.m0) := h.row.c 3 _ rfl
  have hB0 : ¬ K.B = w.heap.size := by have := h.lt; omega
  clear hK h hw hn hne
  go_enter Tryz.func61, Tryz.ntmps61
  go_wp2_with fail
  by_cases hm : K.C.M.m0 = 0
  · have hMU := hide (wmust_no HK.out HJ0.out.drew)
    have PAN : Hid (∀ (w' : World) (p : Nat), (FaultAt w' p 3 at_ ∧ Below K.base K.w0 w') → ∀ tm, bodyPost Tryz.prog Tryz.f61 (Ends K at_ vs vf w (storeW K.C true 0 s)) (Exit.panic [{ v := flt p, recovered := false }]) { tmps := tm, defers := [] } w') := hide (fun w' p hx tm => ⟨rfl, by rw [show storeW K.C true 0 s = .error 3 by simp [storeW, memOf, hm]]; exact ⟨p, rfl, hx⟩⟩)
    rw [hm] at c3
    go_region_with (go_at_call 64; refine hMU.out.mono ?_; rintro e w' ⟨⟨p, rfl, hx⟩, _⟩; refine leaveR w' (PAN.out w' p hx _) ?_)
    all_goals trivial
  · have hMU := hide (wmust_yes HJ0.out.drew)
    have HM := hide hm
    have hm' : (K.C.M.m0 != 0) = true := by simpa using hm
    go_region_with (go_at_call 64; refine hMU.out.mono ?_; rintro e w' ⟨rfl, rfl⟩)
    all_goals
      have HJ1 := hide HJ0.out.drew
      have HF1 := hide HF0.out.drew
      have HW1 := hide HW0.out
      have HN1 := hide HN0.out
      have HX1 := hide HX0.out
      go_wp2_with fail
      refine (of_any true false _).mono ?_
      rintro e wx ⟨rfl, rfl⟩
      go_wp2_with fail
      refine (popTo_2 HK.out HJ1.out HW1.out HN1.out HX1.out 0 (ot true false) ⟨by decide, by decide⟩ (ty0_ot _ _) _ (by simp)).mono ?_
      intro e w2 he
      cases h2 : popTo [0, (ot true false)] s with
      | error c =>
        rw [h2] at he
        obtain ⟨p, rfl, hx⟩ := he
        go_wp2_with fail
        rw [show (storeW K.C true 0 s) = .error c by simp [storeW, memOf, HM.out, bnd_err, h2]]
        exact ⟨rfl, p, rfl, hx⟩
      | ok q =>
        obtain ⟨b2, s2⟩ := q
        rw [h2] at he
        obtain ⟨rfl, vs2, vf2, fv2, J2, F2⟩ := he
        obtain ⟨hw2, e2, _⟩ := popTo_ok HW1.out h2
        have HW2 := hide hw2
        have HN2 := hide (show s2.fr.length ≤ 1000 by rw [e2]; exact HN1.out)
        have HX2 := hide (show s2.fr ≠ [] by rw [e2]; exact HX1.out)
        have HE2 := hide e2
        clear hw2 e2
        have HJ2 := hide J2
        have HF2 := hide (HF1.out.trans F2)
        have H2 := hide h2
        clear J2 F2 h2
        go_wp2_with fail
        go_end0
        rw [show (storeW K.C true 0 s) = .ok s2 by simp [storeW, memOf, HM.out, H2.out, bnd_ok]]
        exact ⟨rfl, _, _, _, HJ2.out, HF2.out⟩
set_option maxRecDepth 100000 in
set_option maxHeartbeats 2000000 in
theorem access_55_1 (hK : KOk K) (h : WJ K at_ s vs vf fv w) (hw : WF s) (hn : s.fr.length ≤ 1000) (hne : s.fr ≠ []) (xn : Int) :
    Calls Tryz.prog 61 #[.pointer (some ⟨K.B, 0, none⟩), .agg #[.int .i64 55, .int .i64 xn, .int .i64 1]] w (Ends K at_ vs vf w (storeW K.C true 1 s)) := by
  have HK := hide hK
  have HJ0 := hide (h.alloc hK (.cells #[.int .i64 55, .int .i64 xn, .int .i64 1] 44))
  have HF0 := hide ((Fr.refl K vs vf w).alloc (h.size hK) (.cells #[.int .i64 55, .int .i64 xn, .int .i64 1] 44))
  have HR0 := hide (Row.made w #[.int .i64 55, .int .i64 xn, .int .i64 1] 44)
  have hsz := h.lt
  have HS0 := hide h
  have HW0 := hide hw
  have HN0 := hide hn
  have HX0 := hide hne
  have c4 : w.cell? ⟨K.B, 4, none⟩ = some (.int .i64 K.C.M.m1) := h.row.c 4 _ rfl
  have hB0 : ¬ K.B = w.heap.size := by have := h.lt; omega
  clear hK h hw hn hne
  go_enter Tryz.func61, Tryz.ntmps61
  go_wp2_with fail
  by_cases hm : K.C.M.m1 = 0
  · have hMU := hide (wmust_no HK.out HJ0.out.drew)
    have PAN : Hid (∀ (w' : World) (p : Nat), (FaultAt w' p 3 at_ ∧ Below K.base K.w0 w') → ∀ tm, bodyPost Tryz.prog Tryz.f61 (Ends K at_ vs vf w (storeW K.C true 1 s)) (Exit.panic [{ v := flt p, recovered := false }]) { tmps := tm, defers := [] } w') := hide (fun w' p hx tm => ⟨rfl, by rw [show storeW K.C true 1 s = .error 3 by simp [storeW, memOf, hm]]; exact ⟨p, rfl, hx⟩⟩)
    rw [hm] at c4
    go_region_with (go_at_call 64; refine hMU.out.mono ?_; rintro e w' ⟨⟨p, rfl, hx⟩, _⟩; refine leaveR w' (PAN.out w' p hx _) ?_)
    all_goals trivial
  · have hMU := hide (wmust_yes HJ0.out.drew)
    have HM := hide hm
    have hm' : (K.C.M.m1 != 0) = true := by simpa using hm
    go_region_with (go_at_call 64; refine hMU.out.mono ?_; rintro e w' ⟨rfl, rfl⟩)
    all_goals
      have HJ1 := hide HJ0.out.drew
      have HF1 := hide HF0.out.drew
      have HW1 := hide HW0.out
      have HN1 := hide HN0.out
      have HX1 := hide HX0.out
      go_wp2_with fail
      refine (of_any true true _).mono ?_
      rintro e wx ⟨rfl, rfl⟩
      go_wp2_with fail
      refine (popTo_2 HK.out HJ1.out HW1.out HN1.out HX1.out 0 (ot true true) ⟨by decide, by decide⟩ (ty0_ot _ _) _ (by simp)).mono ?_
      intro e w2 he
      cases h2 : popTo [0, (ot true true)] s with
      | error c =>
        rw [h2] at he
        obtain ⟨p, rfl, hx⟩ := he
        go_wp2_with fail
        rw [show (storeW K.C true 1 s) = .error c by simp [storeW, memOf, HM.out, bnd_err, h2]]
        exact ⟨rfl, p, rfl, hx⟩
      | ok q =>
        obtain ⟨b2, s2⟩ := q
        rw [h2] at he
        obtain ⟨rfl, vs2, vf2, fv2, J2, F2⟩ := he
        obtain ⟨hw2, e2, _⟩ := popTo_ok HW1.out h2
        have HW2 := hide hw2
        have HN2 := hide (show s2.fr.length ≤ 1000 by rw [e2]; exact HN1.out)
        have HX2 := hide (show s2.fr ≠ [] by rw [e2]; exact HX1.out)
        have HE2 := hide e2
        clear hw2 e2
        have HJ2 := hide J2
        have HF2 := hide (HF1.out.trans F2)
        have H2 := hide h2
        clear J2 F2 h2
        go_wp2_with fail
        go_end0
        rw [show (storeW K.C true 1 s) = .ok s2 by simp [storeW, memOf, HM.out, H2.out, bnd_ok]]
        exact ⟨rfl, _, _, _, HJ2.out, HF2.out⟩
end
end Go.Proofs.YtamofhkmhjckaabGreatDoor

/-
  The walk's fill, turn and close.
-/
import Derived.Test.YtamofhkmhjckaabGreatDoorWalk6
import Derived.Test.YtamofhkmhjckaabGreatDoorWalk9
namespace Go.Proofs.YtamofhkmhjckaabGreatDoor
open Go.RowKit
theorem leaveN (w : World) {p : Prop} (h : p) (_ : wpAny Tryz.prog Region.Mode.text #[] (fun _ _ _ => True) 0 #[] { tmps := #[], defers := [] } w) : p := h
section
variable {K : Kx} {at_ : Int} {s : Wk} {vs vf : Value} {fv : List (Fm × Value)} {w : World}
theorem popTo_any (hK : KOk K) (h : WJ K at_ s vs vf fv w) (hw : WF s) (hn : s.fr.length ≤ 1000) (hne : s.fr ≠ []) {v : Value} {l : List Int} (hb : Bri K vs vf w v l) (hl4 : l.length ≤ 4) (hty : ∀ t ∈ l, ty0 t) :
    Calls Tryz.prog 52 #[.pointer (some ⟨K.B, 0, none⟩), v] w (EndsV Value.bool K at_ vs vf w (popTo l s)) := callsIn_wide.1 (popTo_in 5 (by decide) hK h hw hn hne hb hl4 hty)
theorem Goes.trans {w1 w2 : World} {vs1 vf1 : Value} {s2 : Wk} (F : Fr K vs vf vs1 vf1 w w1) (g : Goes K at_ vs1 vf1 w1 s2 w2) : Goes K at_ vs vf w s2 w2 := by
  obtain ⟨vs', vf', fv', J, F'⟩ := g
  exact ⟨vs', vf', fv', J, F.trans F'⟩
set_option maxRecDepth 100000 in
set_option maxHeartbeats 3000000 in
theorem fill_any (hK : KOk K) (h : WJ K at_ s vs vf fv w) (hw : WF s) (hn : s.fr.length ≤ 1000) (hne : s.fr ≠ []) :
    Calls Tryz.prog 87 #[.pointer (some ⟨K.B, 0, none⟩)] w (Ends K at_ vs vf w (fillW s)) := by
  cases hf : s.fr with
  | nil => exact absurd hf hne
  | cons f r =>
    have hr : r.length ≤ 1000 := by rw [hf] at hn; simp at hn; omega
    obtain ⟨g, cap, v, fv', hvf, _, _, _, _, hbr, hc, _⟩ := h.top hf
    obtain ⟨_, c1, _, _⟩ := fcell hc
    obtain ⟨hb1, hbt⟩ := hw.br f (by rw [hf]; exact List.mem_cons_self ..)
    have LA := hide (last_any h hvf hr)
    have PT := hide (popTo_any hK h.drew hw hn hne (hbr.move (Fr.refl K vs vf w).drew) (by omega) hbt)
    obtain ⟨a, c, hv⟩ : ∃ a c, v = .slice a f.br.length c := by obtain ⟨a, c, e, _⟩ := hbr; exact ⟨a, c, e⟩
    subst hv
    have HK := hide hK
    have H := hide h
    have HW := hide hw
    have HFR := hide hf
    have HN := hide hn
    cases hp : popTo f.br s with
    | error cc =>
      have HE := hide (show fillW s = .error cc by simp only [fillW, hf]; rw [hp]; rfl)
      rw [hp] at PT
      clear hp h hw hK hf hc hbr hvf hbt hne hn
      go_enter Tryz.func87, Tryz.ntmps87
      go_wp2_with fail
      refine LA.out.mono ?_
      rintro e w1 ⟨rfl, rfl⟩
      go_wp2_with fail
      refine PT.out.mono ?_
      rintro e w1 ⟨p, rfl, hx⟩
      go_wp2_with fail
      rw [HE.out]
      exact ⟨rfl, p, rfl, hx⟩
    | ok q =>
      obtain ⟨b, s1⟩ := q
      obtain ⟨w1ok, e1, _⟩ := popTo_ok hw hp
      have HP := hide hp
      rw [hp] at PT
      have HW1 := hide w1ok
      have HE1 := hide e1
      clear hp h hw hK hf hc hbr hvf hbt hne w1ok e1 hn
      go_enter Tryz.func87, Tryz.ntmps87
      go_wp2_with fail
      refine LA.out.mono ?_
      rintro e w1 ⟨rfl, rfl⟩
      go_wp2_with fail
      refine PT.out.mono ?_
      rintro e w1 ⟨rfl, vs1, vf1, fv1, J1, F1⟩
      obtain ⟨g1, cap1, v1, fv1', hvf1, _, _, _, _, _, hc1, _⟩ := J1.top (by rw [HE1.out, HFR.out])
      obtain ⟨_, _, d2, _⟩ := fcell hc1
      have d10 : w1.cell? ⟨K.B, 10, none⟩ = some vs1 := J1.row.c 10 _ rfl
      obtain ⟨a1, c1', hvs1⟩ := Nest.own_slice J1.st
      rw [hvs1] at d10
      have LA1 := fun m : Nat => last_any (J1.drewN m) hvf1 hr
      have HJ1 := hide J1
      have HF1 := hide F1
      have hst := HW1.out.small
      clear J1 F1 hc1 hvs1 hvf1
      by_cases hb : s1.st.length = f.base
      · have hMU := hide (wmust_yes HJ1.out.drew.drew)
        have HE := hide (show fillW s = .ok s1 by simp only [fillW, HFR.out]; rw [HP.out]; simp [bnd_ok, hb])
        have HL2 := hide (LA1 1)
        clear LA1
        go_wp2_with fail
        go_region_with (first | (go_at_call 84; refine HL2.out.mono ?_; rintro e w' ⟨rfl, rfl⟩) | (go_at_call 64; refine hMU.out.mono ?_; rintro e w' ⟨rfl, rfl⟩))
        all_goals
          go_wp2_with fail
          go_end0
          rw [HE.out]
          exact ⟨rfl, vs1, vf1, fv1, HJ1.out.drew.drew, ((Fr.refl K vs vf w).drew.trans HF1.out).drew.drew⟩
      · have hb' : ((s1.st.length : Int) == (f.base : Int)) = false := by simp; omega
        have hMU := hide (wmust_no HK.out HJ1.out.drew.drew)
        have HE := hide (show fillW s = .error 3 by simp only [fillW, HFR.out]; rw [HP.out]; simp [bnd_ok, hb])
        have HL2 := hide (LA1 1)
        have PAN : Hid (∀ (w' : World) (p : Nat), (FaultAt w' p 3 at_ ∧ Below K.base K.w0 w') → ∀ tm, bodyPost Tryz.prog Tryz.f87 (Ends K at_ vs vf w (fillW s)) (Exit.panic [{ v := flt p, recovered := false }]) { tmps := tm, defers := [] } w') :=
          hide (fun w' p hx tm => ⟨rfl, by rw [HE.out]; exact ⟨p, rfl, hx⟩⟩)
        clear LA1
        go_wp2_with fail
        go_region_with (first | (go_at_call 84; refine HL2.out.mono ?_; rintro e w' ⟨rfl, rfl⟩) | (go_at_call 64; refine hMU.out.mono ?_; rintro e w' ⟨⟨p, rfl, hx⟩, _⟩; refine leaveN w' (PAN.out w' p hx _) ?_))
        all_goals trivial
end
end Go.Proofs.YtamofhkmhjckaabGreatDoor

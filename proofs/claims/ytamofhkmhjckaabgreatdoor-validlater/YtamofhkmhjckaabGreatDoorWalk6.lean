/-
  The walk's popTo: what flows to each of the types is popped, the last one first; or it leaves by a panic.
-/
import Derived.Test.YtamofhkmhjckaabGreatDoorWalk5
namespace Go.Proofs.YtamofhkmhjckaabGreatDoor
open Go.RowKit Go.Shelf
theorem wide_fn (f : FuncId) : Fence.wide.fn f = True := rfl
attribute [local go_sem] Oper.semAt_some wide_fn
theorem leave (w : World) {p : Prop} (h : p) (_ : wpAnyIn Fence.wide 0 Tryz.prog Region.Mode.text #[] (fun _ _ _ => True) 0 #[] { tmps := #[], defers := [] } w) : p := h
/-- it has left by a panic -/
def IPan (K : Kx) (at_ : Int) (l : List Int) (s : Wk) (ch : List PanicEntry) (W : World) : Prop := ∃ c p, popTo l s = .error c ∧ ch = [{ v := flt p, recovered := false }] ∧ FaultAt W p c at_ ∧ Below K.base K.w0 W
section
variable {K : Kx} {at_ : Int} {s : Wk} {vs vf : Value} {fv : List (Fm × Value)} {w : World}
theorem pop_at (l : List Int) (s : Wk) (k : Nat) (hk : k < l.length) {b : Bool} {sk : Wk} (hp : popF (l.reverse.take k) false s = .ok (b, sk)) :
    popF (l.reverse.take (k + 1)) false s = (bnd (oneW (l.getD (l.length - 1 - k) 0) sk) fun q => .ok (b || q.1, q.2)) ∧ ∀ c, oneW (l.getD (l.length - 1 - k) 0) sk = .error c → popTo l s = .error c := by
  have hk' : k < l.reverse.length := by simpa using hk
  have e1 : l.reverse[k] = l.getD (l.length - 1 - k) 0 := by
    rw [List.getElem_reverse]; simp [List.getD, show l.length - 1 - k < l.length by omega]
  have e2 : l.reverse.take (k + 1) = l.reverse.take k ++ [l.getD (l.length - 1 - k) 0] := by
    rw [List.take_add_one, List.getElem?_eq_getElem hk', e1]; rfl
  refine ⟨?_, fun c hc => ?_⟩
  · rw [e2, popF_app, hp]; rfl
  · unfold popTo
    rw [← List.take_append_drop (k + 1) l.reverse, popF_app, e2, popF_app, hp]
    show bnd (bnd (oneW _ sk) _) _ = _
    rw [hc]; rfl
set_option maxRecDepth 100000 in
set_option maxHeartbeats 4000000 in
theorem popTo_in (n : Nat) (hn3 : 3 ≤ n) (hK : KOk K) (h : WJ K at_ s vs vf fv w) (hw : WF s) (hn : s.fr.length ≤ 1000) (hne : s.fr ≠ []) {v : Value} {l : List Int} (hb : Bri K vs vf w v l) (hl4 : l.length ≤ 4) (hty : ∀ t ∈ l, ty0 t) :
    CallsIn Fence.wide n Tryz.prog 52 #[.pointer (some ⟨K.B, 0, none⟩), v] w (EndsV Value.bool K at_ vs vf w (popTo l s)) := by
  obtain ⟨a, cap, hv⟩ : ∃ a cap, v = .slice a l.length cap := by obtain ⟨a, cap, e, _⟩ := hb; exact ⟨a, cap, e⟩
  have HB := hide hb
  have H := hide h
  have HK := hide hK
  have hB := h.size hK
  have h1 : 1 ≤ n := by omega
  have h2 : 1 ≤ n - 1 - 1 := by omega
  have hmf : ∀ (fn : Go.Fn) (first cap : Array Value) (w : World), (Instr.makeFunc fn first cap).run Tryz.prog w = .ok (.func fn first cap) w := fun _ _ _ _ => rfl
  subst hv
  clear hb h hK
  refine calls_at Tryz.func52 rfl trivial ?_ rfl
  simp only [Tryz.ntmps52, List.size_toArray, List.length_cons, List.length_nil, Nat.reduceAdd, Nat.reduceSub, Array.replicate_succ, Array.replicate_zero, List.push_toArray, List.append_toArray, List.nil_append, List.cons_append]
  refine wpAt_seq_k fun K1 hK1 => ?_
  gi_wp2
  refine wpAt_seq (wpAt_seq_k fun K2 hK2 => ?_)
  gi_wp2_with (gi_at_call 85; refine (backward_in (n - 1) _ _ _ _).mono ?_; rintro e w' ⟨rfl, rfl⟩)
  refine wpAt_block ?_
  have J0 := hide (((H.out.alloc HK.out (.cells #[.pointer (some ⟨K.B, 0, none⟩)] 97)).alloc HK.out (.cells #[.bool false] 4)).alloc HK.out (.cells #[.slice a l.length cap] 23))
  have F0 := hide ((((Fr.refl K vs vf w).alloc hB (.cells #[.pointer (some ⟨K.B, 0, none⟩)] 97)).alloc (by simp; omega) (.cells #[.bool false] 4)).alloc (by simp; omega) (.cells #[.slice a l.length cap] 23))
  have hI0 : InvP K at_ s vs vf fv w (.slice a l.length cap) l 0 (((w.alloc (.cells #[.pointer (some ⟨K.B, 0, none⟩)] 97)).alloc (.cells #[.bool false] 4)).alloc (.cells #[.slice a l.length cap] 23)) := by
    refine ⟨false, s, vs, rfl, J0.out, F0.out, ((Bx.made w _ _).alloc _).alloc _, ?_, ?_⟩
    · have := (Bx.made (w.alloc (.cells #[.pointer (some ⟨K.B, 0, none⟩)] 97)) (.bool false) 4).alloc (.cells #[.slice a l.length cap] 23)
      simpa using this
    · have := Bx.made ((w.alloc (.cells #[.pointer (some ⟨K.B, 0, none⟩)] 97)).alloc (.cells #[.bool false] 4)) (.slice a l.length cap) 23
      simpa using this
  refine range_p Tryz.func52 rfl (by omega) (gf := 99) (lb := #[.pointer (some ⟨w.heap.size + 1 + 1, 0, none⟩)]) rfl trivial (enters_of Tryz.func99 (by kernel_rfl) rfl)
    (InvP K at_ s vs vf fv w (.slice a l.length cap) l) (IPan K at_ l s)
    (back_gives (n - 1) (by omega) (w.heap.size + 1 + 1) l.length cap a (fun j => l.getD j 0) (by omega) _ (fun k W hi => hi.reads rfl HB.out)) (fun _ => rfl)
    (InvP.from HK.out hB _ _ (by simp; omega)) hI0
    (fun k => { tmps := #[.pointer (some ⟨K.B, 0, none⟩), .slice a l.length cap, .pointer (some ⟨w.heap.size, 0, none⟩), undef, .pointer (some ⟨w.heap.size + 1, 0, none⟩), undef, .int .i64 (l.getD (l.length - 1 - k) 0), undef, .slice a l.length cap, .func (.func 99) #[] #[.pointer (some ⟨w.heap.size + 1 + 1, 0, none⟩)], .int .i64 ((l.length - 1 - k : Nat) : Int), .int .i64 (l.getD (l.length - 1 - k) 0), undef, undef, undef, undef, undef, undef, undef, undef, undef, undef, undef, undef, undef, undef, undef, undef, undef], defers := [] }) ?assign ?body ?done ?pan
  case assign =>
    intro lp k W Kc hKc
    gi_wp2
    exact hKc
  case body =>
    rintro lp k W ⟨b, sk, vs', hp, J, F, b0, b1, b2⟩ hk
    obtain ⟨wk, ek, _⟩ := popF_ok _ _ _ hw hp
    obtain ⟨hat, herr⟩ := pop_at l s k hk hp
    have hto : ty0 (l.getD (l.length - 1 - k) 0) := hty _ (by simp [List.getD, show l.length - 1 - k < l.length by omega])
    have POP := hide (pop_any HK.out J wk (by rw [ek]; exact hn) (by rw [ek]; exact hne))
    have c0 := b0.c
    have HJ := hide J
    have HF := hide F
    have HB0 := hide b0
    have HB1 := hide b1
    have HB2 := hide b2
    have HAT := hide hat
    have HERR := hide herr
    have HTO := hide hto
    have HKL := hide hk
    clear J F b0 b1 b2 hat herr hto hk hp
    generalize l.getD (l.length - 1 - k) 0 = tt at *
    cases hpop : popW sk with
    | error c =>
      rw [hpop] at POP
      have HE := hide (HERR.out c (by simp [oneW, hpop, bnd_err]))
      clear hpop
      gi_wp2_with (gi_at_call 58; refine (CallsIn.inRound lp (callsIn_wide.2 POP.out)).mono ?_; rintro e w1 ⟨⟨p, rfl, hx⟩, hbb⟩)
      exact ⟨rfl, bel_others hbb, c, p, HE.out, rfl, hx⟩
    | ok q =>
      obtain ⟨u, s1⟩ := q
      rw [hpop] at POP
      have HPOP := hide hpop
      obtain ⟨ws1, hu, _, _⟩ := popW_ok wk hpop
      clear hpop
      gi_wp2_with fail
      refine (CallsIn.inRound lp (callsIn_wide.2 POP.out)).mono ?_
      rintro e w1 ⟨rfl, vs1, J1, F1⟩
      have d0 := HB0.out.keep HJ.out F1 (by decide) (by decide) (by decide)
      have d1 := HB1.out.keep HJ.out F1 (by decide) (by decide) (by decide)
      have d2 := HB2.out.keep HJ.out F1 (by decide) (by decide) (by decide)
      have x0 := d0.c
      have x1 := d1.c
      have z1 := d1.z
      have FIN : ∀ (m : Nat) (b' : Bool), b' = (b || se u) → (u = -1 ∨ fl u tt = true) →
          KeepsOthers W ((w1.drewN m).setCell ⟨w.heap.size + 1, 0, none⟩ (.bool b')) ∧ InvP K at_ s vs vf fv w (.slice a l.length cap) l (k + 1) ((w1.drewN m).setCell ⟨w.heap.size + 1, 0, none⟩ (.bool b')) := by
        intro m b' hb' hfl
        have d1' : Bx (w1.drewN m) (w.heap.size + 1) (.bool b) 4 := d1
        have d0' : Bx (w1.drewN m) w.heap.size (.pointer (some ⟨K.B, 0, none⟩)) 97 := d0
        have d2' : Bx (w1.drewN m) (w.heap.size + 1 + 1) (.slice a l.length cap) 23 := d2
        obtain ⟨J2, F2⟩ := (J1.drewN m).setBx HK.out H.out ((HF.out.trans F1).drewN m) d1' (by decide) (by decide) (by decide) (by omega) (.bool b')
        have ko : KeepsOthers w1 (w1.drewN m) := ⟨Nat.le_refl _, fun _ _ h _ => h⟩
        refine ⟨((F1.others HJ.out).trans ko).trans (KeepsOthers.setCell _ _ _), b', s1, vs1, ?_, J2, F2, d0'.other (by omega) _, d1'.set _, d2'.other (by omega) _⟩
        have ho : oneW tt sk = .ok (se u, s1) := by simp [oneW, HPOP.out, bnd_ok, hfl]
        rw [HAT.out, ho, hb']; rfl
      have HJ1 := hide J1
      have HF1 := hide F1
      have HFIN := hide FIN
      clear J1 F1 FIN d0 d1 d2
      by_cases hm : u = -1
      · subst hm
        have hMU := hide (wmust_yes HJ1.out.drew)
        cases b with
        | true =>
          gi_wp2_with fail
          gi_region_with (gi_at_call 64; refine (CallsIn.inRound lp (callsIn_wide.2 hMU.out)).mono ?_; rintro e w' ⟨rfl, rfl⟩)
          all_goals
            gi_wp2_with fail
            exact HFIN.out 1 true (by simp) (by simp)
        | false =>
          gi_wp2_with fail
          gi_region_with (gi_at_call 64; refine (CallsIn.inRound lp (callsIn_wide.2 hMU.out)).mono ?_; rintro e w' ⟨rfl, rfl⟩)
          all_goals
            gi_wp2_with (gi_at_call 86; refine (CallsIn.inRound lp (callsIn_wide.2 (secret_is (-1) false _ ⟨by decide, by decide⟩ (by decide)))).mono ?_; rintro e w' ⟨rfl, rfl⟩)
            exact HFIN.out 1 false (by decide) (by simp)
      · have HU := hide hu
        have HM := hide hm
        have hm' : (u == -1) = false := by simpa using hm
        clear hu hm
        cases hfl : fl u tt with
        | false =>
          have hFL := hide (flows_is u tt false w1.drew HU.out.i64 HTO.out.ty.i64 hfl)
          have hMU := hide (wmust_no HK.out HJ1.out.drew)
          have HE := hide (HERR.out 3 (by simp [oneW, HPOP.out, bnd_ok, hfl, HM.out]))
          have PAN : ∀ (w' : World) (p : Nat), (FaultAt w' p 3 at_ ∧ Below K.base K.w0 w') → Below w1.drew.heap.size w1.drew w' → ∀ tm, postP (InvP K at_ s vs vf fv w (.slice a l.length cap) l (k + 1)) (IPan K at_ l s) W (Exit.panic [{ v := flt p, recovered := false }]) { tmps := tm, defers := [] } w' := by
            intro w' p hx hbb tm
            have ko : KeepsOthers w1 w1.drew := ⟨Nat.le_refl _, fun _ _ h _ => h⟩
            exact ⟨rfl, ((HF1.out.others HJ.out).trans ko).trans (bel_others hbb), 3, p, HE.out, rfl, hx⟩
          have HPAN := hide PAN
          clear hfl PAN
          gi_wp2_with fail
          gi_region_with (first | (gi_at_call 11; refine (CallsIn.inRound lp (callsIn_wide.2 hFL.out)).mono ?_; rintro e w' ⟨rfl, rfl⟩) | (gi_at_call 64; refine (CallsIn.inRound lp (callsIn_wide.2 hMU.out)).mono ?_; rintro e w' ⟨⟨p, rfl, hx⟩, hbb⟩; refine leave w' (HPAN.out w' p hx hbb _) ?_))
          all_goals trivial
        | true =>
          have hFL := hide (flows_is u tt true w1.drew HU.out.i64 HTO.out.ty.i64 hfl)
          have hMU := hide (wmust_yes HJ1.out.drew)
          have HFL := hide hfl
          have hSE := hide (secret_any u w1.drew HU.out.i64)
          clear hfl
          cases b with
          | true =>
            gi_wp2_with fail
            gi_region_with (first | (gi_at_call 11; refine (CallsIn.inRound lp (callsIn_wide.2 hFL.out)).mono ?_; rintro e w' ⟨rfl, rfl⟩) | (gi_at_call 64; refine (CallsIn.inRound lp (callsIn_wide.2 hMU.out)).mono ?_; rintro e w' ⟨rfl, rfl⟩))
            all_goals
              gi_wp2_with fail
              exact HFIN.out 1 true (by simp) (.inr HFL.out)
          | false =>
            gi_wp2_with fail
            gi_region_with (first | (gi_at_call 11; refine (CallsIn.inRound lp (callsIn_wide.2 hFL.out)).mono ?_; rintro e w' ⟨rfl, rfl⟩) | (gi_at_call 64; refine (CallsIn.inRound lp (callsIn_wide.2 hMU.out)).mono ?_; rintro e w' ⟨rfl, rfl⟩))
            all_goals
              gi_wp2_with (gi_at_call 86; refine (CallsIn.inRound lp (callsIn_wide.2 hSE.out)).mono ?_; rintro e w' ⟨rfl, rfl⟩)
              exact HFIN.out 1 (se u) (by simp) (.inr HFL.out)
  case done =>
    rintro D W hD ⟨b, sk, vs', hp, J, F, b0, b1, b2⟩ hDef
    have hx : popTo l s = .ok (b, sk) := by
      rw [List.take_of_length_le (by simp)] at hp; exact hp
    rw [hx]
    obtain ⟨J2, F2⟩ := J.setBx HK.out H.out F b1 (by decide) (by decide) (by decide) (by omega) (.bool b)
    have c1 := b1.c
    have z1 := b1.z
    have hD2 : (W.setCell ⟨w.heap.size + 1, 0, none⟩ (.bool b)).heap[D]? = some (.deferred (some [])) := (KeepsOthers.setCell W ⟨w.heap.size + 1, 0, none⟩ (.bool b)).same D _ hDef rfl
    have HJ2 := hide J2
    have HF2 := hide F2
    have HD2 := hide hD2
    have b1' := hide (b1.set (.bool b))
    clear J F b0 b1 b2 J2 F2 hD2 hDef hp
    show wpAt 52 Fence.wide n Tryz.prog _ _ _ W
    refine wpAt_of ?_
    gi_wp2
    refine ⟨by simp, .inl ⟨_, _, rfl, run_takeDeferred HD2.out, ?_⟩⟩
    have hr2 : ∀ r, some D = some r → ∃ o : Obj, (W.setCell ⟨w.heap.size + 1, 0, none⟩ (.bool b)).heap[r]? = some o ∧ o.isCells = false := fun r e => by cases e; exact ⟨_, HD2.out, rfl⟩
    have b1'' := b1'.out.own (grownBy_putObj' _ D (.deferred none)) hr2
    have hc5 := b1''.c
    have hDw : w.heap.size ≤ D := by simp at hD; omega
    refine ⟨.bool b, ?_, rfl, vs', vf, fv, HJ2.out.own HK.out (grownBy_putObj' _ D (.deferred none)) (fun r e => ⟨by cases e; omega, hr2 r e⟩), HF2.out.own hB (grownBy_putObj' _ D (.deferred none)) (fun r e => by cases e; omega)⟩
    simp [results, Tryz.f52, go_sem, hc5]
  case pan =>
    rintro D ch W hD ⟨c, p, herr, rfl, hf, hb⟩ hDef
    have hDw : w.heap.size ≤ D := by simp at hD; omega
    show bodyPostM Fence.wide n Tryz.prog Tryz.f52 _ (Exit.panic _) _ W
    refine ⟨by simp, .inl ⟨_, _, rfl, run_takeDeferred hDef, ?_⟩⟩
    rw [herr]
    have hpD : p ≠ D := by
      rintro rfl
      unfold FaultAt at hf
      rw [hDef] at hf; cases hf
    have hf2 : FaultAt (W.putObj D (.deferred none)) p c at_ := by
      unfold FaultAt at *
      rw [World.putObj_heap_other hpD]; exact hf
    exact ⟨p, rfl, hf2, hb.grown (grownBy_putObj' W D (.deferred none)) (by have := hb.size; have := HK.out.bs; omega) (fun k e => by cases e; omega)⟩
end
end Go.Proofs.YtamofhkmhjckaabGreatDoor

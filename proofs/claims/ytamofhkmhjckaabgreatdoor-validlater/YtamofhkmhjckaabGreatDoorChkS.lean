/-
  The program's hold: it leaves by a panic where a layer ahead told an error.
  The walk's call.
  The program's checkSigs: what can be called has a signature, or it leaves by a panic.
-/
import Derived.Test.YtamofhkmhjckaabGreatDoorWalk2
import Derived.Test.YtamofhkmhjckaabGreatDoorWalk12
import Derived.Test.YtamofhkmhjckaabGreatDoorWalk16
namespace Go.Proofs.YtamofhkmhjckaabGreatDoor
open Go.RowKit Go.Extern.Stop Go.Stop Go.Extern

set_option maxHeartbeats 1600000 in
theorem is_errno (c d : Int) (w : World) :
    Calls Tryz.prog 21 #[.iface 63 (.int .i64 c), .iface 63 (.int .i64 d)] w fun e w' => e = .returned (.bool (c == d)) ∧ w' = w := by
  have h57 := @run_callFunc_extern Tryz.prog 33 _ Extern.ReflectliteType.typeOf Tryz.func33 (by kernel_rfl) (by kernel_rfl) (by kernel_rfl) (by kernel_rfl)
  have h186 := @run_callFunc_extern Tryz.prog 128 _ cmpEntry Tryz.func128 (by kernel_rfl) (by kernel_rfl) (by kernel_rfl) (by kernel_rfl)
  have tT := Tryz.isTypeOf
  have cT := Tryz.isComparable
  have mR := Tryz.isMethodComparable
  have nE := Tryz.noIsE
  have uE := Tryz.noUnwrapE
  have vE := Tryz.noUnwrapsE
  have heq := run_eql_errno c d w
  cases hb : (c == d) with
  | true =>
    rw [hb] at heq
    clear hb
    go_enter Tryz.func21, Tryz.ntmps21
    go_wp2
    refine wp_loop_rounds 1 ?_
    rw [rounds_succ]
    go_wp2
    go_ret
    exact ⟨rfl, rfl⟩
  | false =>
    rw [hb] at heq
    clear hb
    go_enter Tryz.func21, Tryz.ntmps21
    go_wp2
    refine wp_loop_rounds 1 ?_
    rw [rounds_succ]
    go_wp2
    go_ret
    exact ⟨rfl, rfl⟩
/-- it goes on where there is no error -/
theorem hold_yes (a : Int) (w : World) : Calls Tryz.prog 24 #[.int .i64 0, .int .i64 a] w fun e w' => e = .returned (.tuple #[]) ∧ w' = w := by
  go_enter Tryz.func24, Tryz.ntmps24
  go_wp2_with fail
  refine (is_errno 0 1 _).mono ?_
  rintro e w1 ⟨rfl, rfl⟩
  rw [show ((0 : Int) == 1) = false from rfl]
  go_wp2_with fail
  refine (must_yes a _).mono ?_
  rintro e w1 ⟨rfl, rfl⟩
  go_wp2_with fail
  go_end0
  exact ⟨rfl, rfl⟩
def held (c : Int) : Int := if c = 1 then 1 else 3
theorem hold_no (c a : Int) (hc : c ≠ 0) (w : World) : Calls Tryz.prog 24 #[.int .i64 c, .int .i64 a] w fun e w' => ∃ p, e = .panicked [{ v := flt p, recovered := false }] ∧ FaultAt w' p (held c) a ∧ Below w.heap.size w w' := by
  by_cases h1 : c = 1
  · subst h1
    go_enter Tryz.func24, Tryz.ntmps24
    go_wp2_with fail
    refine (is_errno 1 1 _).mono ?_
    rintro e w1 ⟨rfl, rfl⟩
    rw [show ((1 : Int) == 1) = true from rfl]
    go_wp2_with fail
    refine (vfault_any 1 a _).mono ?_
    rintro e w1 ⟨rfl, hf, hb⟩
    have HF := hide hf
    have HB := hide hb
    clear hf hb
    go_wp2_with fail
    exact ⟨rfl, _, rfl, HF.out, HB.out⟩
  · have HC := hide (show held c = 3 from if_neg h1)
    have hb1 : (c == 1) = false := by simpa using h1
    go_enter Tryz.func24, Tryz.ntmps24
    go_wp2_with fail
    refine (is_errno c 1 _).mono ?_
    rintro e w1 ⟨rfl, rfl⟩
    rw [hb1]
    clear hb1
    have hb0 : (c == 0) = false := by simpa using hc
    go_wp2_with fail
    refine (must_no a _).mono ?_
    rintro e w1 ⟨p, rfl, hf, hb⟩
    have HF := hide hf
    have HB := hide hb
    clear hf hb
    go_wp2_with fail
    exact ⟨rfl, _, rfl, by rw [HC.out]; exact HF.out, HB.out⟩
end Go.Proofs.YtamofhkmhjckaabGreatDoor
namespace Go.Proofs.YtamofhkmhjckaabGreatDoor
open Go.RowKit
section
variable {K : Kx} {at_ : Int} {s : Wk} {vs vf : Value} {fv : List (Fm × Value)} {w : World}
theorem bri_new {w' : World} {v : Value} {l : List Int} (h : WJ K at_ s vs vf fv w) (hv : Sl 1 EInt (NewB w.heap.size w') w' v l) : Bri K vs vf w' v l := by
  refine hv.to keeps_int (fun _ _ => rfl) (fun i hi => ⟨⟨by have := hi.1; have := h.lt; omega, by have := hi.1; have := h.lo.1; omega⟩, fun e => ?_, fun e => ?_, hi.2⟩)
  · have := (h.st.lt i e).2; have := hi.1; omega
  · have := (h.fr.lt i e).2; have := hi.1; omega
theorem callee_in {M : Mo} {n : Int} {G : Sg} {host tr : Bool} (h : callee M n = some (G, host, tr)) : G ∈ M.sigs := by
  unfold callee at h
  split at h
  · cases h
  · split at h
    · obtain ⟨g, h1, h2⟩ := Option.bind_eq_some_iff.1 h
      split at h2
      · cases h2; exact List.mem_of_getElem? h1
      · cases h2
    · obtain ⟨f, _, h2⟩ := Option.bind_eq_some_iff.1 h
      obtain ⟨g, h3, h4⟩ := Option.bind_eq_some_iff.1 h2
      split at h4
      · cases h4; exact List.mem_of_getElem? h3
      · cases h4
set_option maxRecDepth 100000 in
set_option maxHeartbeats 2000000 in
theorem call_any (hK : KOk K) (h : WJ K at_ s vs vf fv w) (hw : WF s) (hn : s.fr.length ≤ 1000) (hne : s.fr ≠ []) (hSm : Small K.C.M) (n : Int) (hn64 : I64 n) :
    Calls Tryz.prog 57 #[.pointer (some ⟨K.B, 0, none⟩), .int .i64 n] w (Ends K at_ vs vf w (callW K.C n s)) := by
  have HK := hide hK
  have HJ0 := hide h
  have HF0 := hide (Fr.refl K vs vf w)
  have hsz := h.lt
  have HS0 := hide h
  have HW0 := hide hw
  have HN0 := hide hn
  have HX0 := hide hne
  have c0 : w.cell? ⟨K.B, 0, none⟩ = some (K.V.v0) := h.row.c 0 _ rfl
  have c1 : w.cell? ⟨K.B, 1, none⟩ = some (K.V.v1) := h.row.c 1 _ rfl
  have c2 : w.cell? ⟨K.B, 2, none⟩ = some (K.V.v2) := h.row.c 2 _ rfl
  have c3 : w.cell? ⟨K.B, 3, none⟩ = some (.int .i64 K.C.M.m0) := h.row.c 3 _ rfl
  have c4 : w.cell? ⟨K.B, 4, none⟩ = some (.int .i64 K.C.M.m1) := h.row.c 4 _ rfl
  have c5 : w.cell? ⟨K.B, 5, none⟩ = some (K.V.v5) := h.row.c 5 _ rfl
  have c6 : w.cell? ⟨K.B, 6, none⟩ = some (K.V.v6) := h.row.c 6 _ rfl
  have c7 : w.cell? ⟨K.B, 7, none⟩ = some (.bool K.C.tr) := h.row.c 7 _ rfl
  have CA := hide (callee_any K.V K.C.M n w (h.mo hK) hSm hn64)
  unfold moV at CA
  have HCX := hide hK.cx
  clear hK h hw hn hne
  go_enter Tryz.func57, Tryz.ntmps57
  go_wp2_with fail
  refine CA.out.mono ?_
  intro e w1 he
  cases hc : callee K.C.M n with
  | none =>
    rw [hc] at he
    obtain ⟨rfl, hb1⟩ := he
    have HJ1 := hide ((HJ0.out.below HK.out hb1).alloc HK.out (.cells #[.slice none 0 0, .slice none 0 0] 42))
    have HC := hide hc
    clear hb1 hc
    go_wp2_with fail
    refine (wmust_no HK.out HJ1.out).mono ?_
    rintro e wx ⟨⟨p, rfl, hx⟩, _⟩
    go_wp2_with fail
    rw [show (callW K.C n s) = .error 3 by simp [callW, HC.out]]
    exact ⟨rfl, p, rfl, hx⟩
  | some q =>
    obtain ⟨G, host, tr⟩ := q
    rw [hc] at he
    obtain ⟨ap, cp, ar, cr, rfl, hsp, hsr, hb1⟩ := he
    have hb45 := bel_one w1 (.cells #[.slice ap G.params.length cp, .slice ar G.results.length cr] 42)
    have HJ1 := hide ((HJ0.out.below HK.out hb1).below HK.out hb45)
    have HF1 := hide ((HF0.out.below hb1 (HJ0.out.size HK.out)).below hb45 ((HJ0.out.below HK.out hb1).size HK.out))
    have FB := (Fr.refl K vs vf w1).below hb45 ((HJ0.out.below HK.out hb1).size HK.out)
    have HBP := hide ((bri_new HJ0.out hsp).move FB)
    have HBR := hide ((bri_new HJ0.out hsr).move FB)
    have HRW := hide (Row.made w1 #[.slice ap G.params.length cp, .slice ar G.results.length cr] 42)
    have HG := hide (HCX.out.sg G (callee_in hc))
    have d7 : (w1.alloc (.cells #[.slice ap G.params.length cp, .slice ar G.results.length cr] 42)).cell? ⟨K.B, 7, none⟩ = some (.bool K.C.tr) := HJ1.out.row.c 7 _ rfl
    have hB1 : K.B < w1.heap.size := by have := HJ0.out.lt; have := hb1.size; omega
    have d7' : w1.cell? ⟨K.B, 7, none⟩ = some (.bool K.C.tr) := (HJ0.out.below HK.out hb1).row.c 7 _ rfl
    have HW1 := hide HW0.out
    have HN1 := hide HN0.out
    have HX1 := hide HX0.out
    have HC := hide hc
    clear hb1 hsp hsr hb45 FB hc c0 c1 c2 c3 c4 c5 c6 c7
    cases htr : K.C.tr with
    | true =>
      rw [htr] at d7 d7'
      go_wp2_with fail
      refine (wmust_yes HJ1.out).mono ?_
      rintro e wx ⟨rfl, rfl⟩
      go_wp2_with fail
      refine (wmust_yes HJ1.out).mono ?_
      rintro e wx ⟨rfl, rfl⟩
      go_wp2_with fail
      refine (popTo_v HK.out HJ1.out HW1.out HN1.out HX1.out HBP.out HG.out.1 HG.out.2.2.1).mono ?_
      intro e w2 he
      cases h2 : popTo G.params s with
      | error c =>
        rw [h2] at he
        obtain ⟨p, rfl, hx⟩ := he
        go_wp2_with fail
        rw [show (callW K.C n s) = .error c by simp [callW, HC.out, htr, bnd_err, h2]]
        exact ⟨rfl, p, rfl, hx⟩
      | ok q =>
        obtain ⟨b2, s2⟩ := q
        rw [h2] at he
        obtain ⟨rfl, vs2, vf2, fv2, J2, F2⟩ := he
        obtain ⟨hw2, e2, _⟩ := popTo_ok HW1.out h2
        have HW2 := hide hw2
        have HN2 := hide (show s2.fr.length ≤ 1000 by rw [e2]; exact HN1.out)
        have HX2 := hide (show s2.fr ≠ [] by rw [e2]; exact HX1.out)
        have HE2 := hide e2
        clear hw2 e2
        have HJ2 := hide J2
        have F2x := hide F2
        have HF2 := hide (HF1.out.trans F2)
        have H2 := hide h2
        clear J2 F2 h2
        have HBR2 := hide (HBR.out.move F2x.out)
        have r2 := HRW.out.keep HJ1.out F2x.out (by decide) (by decide) (by decide)
        have x1r := r2.c 1 _ rfl
        clear r2
        go_wp2_with fail
        refine (push_any HK.out HJ2.out HW2.out HBR2.out (by have := HG.out.2.1; omega)).mono ?_
        intro e wz he
        cases hz : pushL G.results s2 with
        | error c =>
          rw [hz] at he
          obtain ⟨p, rfl, hx⟩ := he
          go_wp2_with fail
          rw [show (callW K.C n s) = .error c by simp [callW, HC.out, htr, H2.out, bnd_ok, hz]]
          exact ⟨rfl, p, rfl, hx⟩
        | ok sz =>
          rw [hz] at he
          obtain ⟨rfl, vsz, vfz, fvz, Jz, Fz⟩ := he
          have HJz := hide Jz
          have HFz := hide Fz
          clear Jz Fz
          go_wp2_with fail
          go_end0
          rw [show (callW K.C n s) = .ok sz by simp [callW, HC.out, htr, H2.out, bnd_ok, hz]]
          exact ⟨rfl, vsz, vfz, fvz, HJz.out, HF2.out.trans HFz.out⟩
    | false =>
      rw [htr] at d7 d7'
      cases tr with
      | true =>
        go_wp2_with fail
        refine (wmust_yes HJ1.out).mono ?_
        rintro e wx ⟨rfl, rfl⟩
        go_wp2_with fail
        refine (wmust_no HK.out HJ1.out).mono ?_
        rintro e wx ⟨⟨p, rfl, hx⟩, _⟩
        go_wp2_with fail
        rw [show (callW K.C n s) = .error 3 by simp [callW, HC.out, htr]]
        exact ⟨rfl, p, rfl, hx⟩
      | false =>
        go_wp2_with fail
        refine (wmust_yes HJ1.out).mono ?_
        rintro e wx ⟨rfl, rfl⟩
        go_wp2_with fail
        refine (wmust_yes HJ1.out).mono ?_
        rintro e wx ⟨rfl, rfl⟩
        go_wp2_with fail
        refine (popTo_v HK.out HJ1.out HW1.out HN1.out HX1.out HBP.out HG.out.1 HG.out.2.2.1).mono ?_
        intro e w2 he
        cases h2 : popTo G.params s with
        | error c =>
          rw [h2] at he
          obtain ⟨p, rfl, hx⟩ := he
          go_wp2_with fail
          rw [show (callW K.C n s) = .error c by simp [callW, HC.out, bnd_err, h2]]
          exact ⟨rfl, p, rfl, hx⟩
        | ok q =>
          obtain ⟨b2, s2⟩ := q
          rw [h2] at he
          obtain ⟨rfl, vs2, vf2, fv2, J2, F2⟩ := he
          obtain ⟨hw2, e2, _⟩ := popTo_ok HW1.out h2
          have HW2 := hide hw2
          have HN2 := hide (show s2.fr.length ≤ 1000 by rw [e2]; exact HN1.out)
          have HX2 := hide (show s2.fr ≠ [] by rw [e2]; exact HX1.out)
          have HE2 := hide e2
          clear hw2 e2
          have HJ2 := hide J2
          have F2x := hide F2
          have HF2 := hide (HF1.out.trans F2)
          have H2 := hide h2
          clear J2 F2 h2
          have HBR2 := hide (HBR.out.move F2x.out)
          have r2 := HRW.out.keep HJ1.out F2x.out (by decide) (by decide) (by decide)
          have x1r := r2.c 1 _ rfl
          clear r2
          go_wp2_with fail
          refine (push_any HK.out HJ2.out HW2.out HBR2.out (by have := HG.out.2.1; omega)).mono ?_
          intro e wz he
          cases hz : pushL G.results s2 with
          | error c =>
            rw [hz] at he
            obtain ⟨p, rfl, hx⟩ := he
            go_wp2_with fail
            rw [show (callW K.C n s) = .error c by simp [callW, HC.out, H2.out, bnd_ok, hz]]
            exact ⟨rfl, p, rfl, hx⟩
          | ok sz =>
            rw [hz] at he
            obtain ⟨rfl, vsz, vfz, fvz, Jz, Fz⟩ := he
            have HJz := hide Jz
            have HFz := hide Fz
            clear Jz Fz
            go_wp2_with fail
            go_end0
            rw [show (callW K.C n s) = .ok sz by simp [callW, HC.out, H2.out, bnd_ok, hz]]
            exact ⟨rfl, vsz, vfz, fvz, HJz.out, HF2.out.trans HFz.out⟩
end
end Go.Proofs.YtamofhkmhjckaabGreatDoor
namespace Go.Proofs.YtamofhkmhjckaabGreatDoor
open Go.RowKit
/-- a check without an answer: it holds, or leaves by a panic -/
def MustEnds (w : World) (p : Prop) (e : Ending) (w' : World) : Prop := (p ∧ e = .returned (.tuple #[]) ∧ Below w.heap.size w w') ∨ (¬ p ∧ ∃ q, e = .panicked [{ v := flt q, recovered := false }] ∧ FaultAt w' q 3 0 ∧ Below w.heap.size w w')
def calAll (M : Mo) (k : Nat) : Prop := ∀ n : Nat, n < k → callee M n ≠ none
set_option maxRecDepth 100000 in
set_option maxHeartbeats 4000000 in
theorem checkSigs_any (V : MoV) (M : Mo) (w : World) (h : IsMo w.heap.size w V M) (hSm : Small M) (hN : M.imports.length + M.funcs.length ≤ 1000) :
    Calls Tryz.prog 26 #[moV V M] w (MustEnds w (calAll M (M.imports.length + M.funcs.length))) := by
  have CA := hide (fun (U : World) (hU : IsMo U.heap.size U V M) (n : Int) (hn : I64 n) => callee_any V M n U hU hSm hn)
  have HM := hide h
  obtain ⟨a0, c0, a1, c1, a2, c2, a5, c5, a6, c6, rfl⟩ := h.forms
  unfold moV at CA ⊢
  simp only at CA
  have HB0 := hide (bel_one w (.cells #[.slice a0 M.sigs.length c0, .slice a1 M.imports.length c1, .slice a2 M.funcs.length c2, .int .i64 M.m0, .int .i64 M.m1, .slice a5 M.globals.length c5, .slice a6 M.data.length c6] 29))
  have HR0 := hide (Row.made w #[.slice a0 M.sigs.length c0, .slice a1 M.imports.length c1, .slice a2 M.funcs.length c2, .int .i64 M.m0, .int .i64 M.m1, .slice a5 M.globals.length c5, .slice a6 M.data.length c6] 29)
  generalize hNN : M.imports.length + M.funcs.length = N
  have hadd : (M.imports.length : Int) + M.funcs.length = N := by omega
  have HNN := hide hNN
  rw [hNN] at hN
  clear h hNN
  go_enter Tryz.func26, Tryz.ntmps26
  go_wp2_with fail
  go_loopw [14] (fun i wr => ∃ (k : Nat), k ≤ N ∧ i = .int .i64 k ∧ Hid (calAll M k) ∧ Below w.heap.size w wr ∧ Row wr w.heap.size #[.slice a0 M.sigs.length c0, .slice a1 M.imports.length c1, .slice a2 M.funcs.length c2, .int .i64 M.m0, .int .i64 M.m1, .slice a5 M.globals.length c5, .slice a6 M.data.length c6] 29) (fun i _ => N - (intOf i).toNat)
  case atStart => exact ⟨0, Nat.zero_le _, rfl, hide (fun n hn => by omega), HB0.out, HR0.out⟩
  case round =>
    obtain ⟨k, hk, rfl, HC, hB, hR⟩ := hrel
    by_cases hlt : k < N
    · have m0 := hR.c 0 _ rfl
      have m1 := hR.c 1 _ rfl
      have m2 := hR.c 2 _ rfl
      have m3 := hR.c 3 _ rfl
      have m4 := hR.c 4 _ rfl
      have m5 := hR.c 5 _ rfl
      have m6 := hR.c 6 _ rfl
      have CK := hide (CA.out wr (HM.out.step hB hB.size) k ⟨by omega, by omega⟩)
      have HB := hide hB
      have HR := hide hR
      clear hB hR
      go_wp2_with fail
      refine CK.out.mono ?_
      intro e w1 he
      cases hc : callee M k with
      | none =>
        rw [hc] at he
        obtain ⟨rfl, hb1⟩ := he
        have HB1 := hide (below_next HB.out (below_next hb1 (bel_one w1 (.cells #[.slice none 0 0, .slice none 0 0] 42))))
        have HC2 := hide (show ¬ calAll M N from fun g => g k hlt hc)
        clear hb1 hc
        go_wp2_with fail
        refine (must_no _ _).mono ?_
        rintro e w2 ⟨p, rfl, hf, hb2⟩
        have HF := hide hf
        have HB2 := hide (below_next HB1.out hb2)
        clear hf hb2
        go_wp2_with fail
        exact ⟨rfl, .inr ⟨HC2.out, p, rfl, HF.out, HB2.out⟩⟩
      | some q =>
        obtain ⟨G, host, tr⟩ := q
        rw [hc] at he
        obtain ⟨ap, cp, ar, cr, rfl, _, _, hb1⟩ := he
        have hb2 := below_next hb1 (bel_one w1 (.cells #[.slice ap G.params.length cp, .slice ar G.results.length cr] 42))
        have HB1 := hide (below_next HB.out hb2)
        have HR1 := hide (HR.out.kept hb2)
        have HC2 := hide (show calAll M (k + 1) from fun n hn => by
          rcases Nat.lt_or_ge n k with h | h
          · exact HC.out n h
          · obtain rfl : n = k := by omega
            rw [hc]; simp)
        clear hb1 hb2 hc
        go_wp2_with fail
        refine (must_yes _ _).mono ?_
        rintro e w2 ⟨rfl, rfl⟩
        go_wp2_with fail
        go_roundw
        case rel => exact ⟨k + 1, by omega, by go_num, HC2, HB1.out, HR1.out⟩
        case measure => simp [intOf]; omega
    · obtain rfl : k = N := by omega
      go_wp2_with fail
      go_end0
      exact .inl ⟨HC.out, rfl, hB⟩
end Go.Proofs.YtamofhkmhjckaabGreatDoor

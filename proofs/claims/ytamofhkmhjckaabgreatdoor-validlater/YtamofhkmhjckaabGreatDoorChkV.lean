/-
  The program's check whole, Valid and Heights: as the plain rules tell.
-/
import Derived.Test.YtamofhkmhjckaabGreatDoorChkL
namespace Go.Proofs.YtamofhkmhjckaabGreatDoor
open Go.RowKit

theorem check_any (V : MoV) (M : Mo) (w : World) (hL : Laid w) (h : IsMo w.heap.size w V M) (hy : ∀ d ∈ M.data, d.bytes.length ≤ 4611686018427387904) :
    Calls Tryz.prog 16 #[moV V M] w (ChEnds w (chkM M)) := by
  by_cases hf : fitE M = 0
  · have FF := fit_facts hf
    cases hs : sigsOk M with
    | false =>
      rw [chk_nosig hf hs]
      exact check_nosig V M w hL h hf FF.sm FF.n (fun hc => by rw [(sigsOk_iff M (fit_both hf).2).2 hc] at hs; cases hs)
    | true =>
      have cal := (sigsOk_iff M (fit_both hf).2).1 hs
      cases hd : dataOk M with
      | false =>
        rw [chk_nodata hf hs hd]
        exact check_nodata V M w hL h hf FF.sm FF.n cal FF.m0 FF.m1 FF.da hy FF.nd (fun hc => by rw [(dataOk_iff M).2 hc] at hd; cases hd)
      | true =>
        rw [chk_funs hf hs hd]
        exact check_funs V M w hL h hf hs hd hy
  · rw [chk_misfit hf]
    exact check_misfit V M w hL h hf
/-- how Valid ends -/
def VaEnds (w : World) (r : Except (Int × Int) (List (List Int))) (e : Ending) (w' : World) : Prop := match r with
  | .error c => ∃ p, e = .returned (flt p) ∧ FaultAt w' p c.1 c.2 ∧ Below w.heap.size w w'
  | .ok _ => e = .returned .nilIface ∧ Below w.heap.size w w'
set_option maxRecDepth 100000 in
set_option maxHeartbeats 1600000 in
theorem valid_any (V : MoV) (M : Mo) (w : World) (hL : Laid w) (h : IsMo w.heap.size w V M) (hy : ∀ d ∈ M.data, d.bytes.length ≤ 4611686018427387904) :
    Calls Tryz.prog 7 #[moV V M] w (VaEnds w (chkM M)) := by
  have HB := hide (bel_one w (.cells #[V.v0, V.v1, V.v2, .int .i64 M.m0, .int .i64 M.m1, V.v5, V.v6] 29))
  have CH := hide (check_any V M (w.alloc (.cells #[V.v0, V.v1, V.v2, .int .i64 M.m0, .int .i64 M.m1, V.v5, V.v6] 29)) (hL.kept HB.out) (h.step HB.out HB.out.size) hy)
  obtain ⟨v0, v1, v2, v5, v6⟩ := V
  unfold moV at *
  simp only at *
  clear h hy
  generalize hr : chkM M = r at *
  clear hr
  go_enter Tryz.func7, Tryz.ntmps7
  go_wp2_with fail
  refine CH.out.mono ?_
  intro e w1 he
  cases r with
  | error c =>
    obtain ⟨p, rfl, F, b⟩ := he
    have HF := hide F
    have HB1 := hide (below_next HB.out b)
    clear F b
    unfold flt
    go_wp2_with fail
    go_ret
    exact ⟨p, rfl, HF.out, HB1.out⟩
  | ok l =>
    obtain ⟨v, rfl, _, b⟩ := he
    have HB1 := hide (below_next HB.out b)
    clear b
    go_wp2_with fail
    go_ret
    exact ⟨rfl, HB1.out⟩
/-- how Heights ends -/
def HeEnds (w : World) (r : Except (Int × Int) (List (List Int))) (f : Int) (e : Ending) (w' : World) : Prop := match r with
  | .error c => ∃ p, e = .returned (.tuple #[.slice none 0 0, flt p]) ∧ FaultAt w' p c.1 c.2 ∧ Below w.heap.size w w'
  | .ok l => (¬ (0 ≤ f ∧ f < l.length) ∧ ∃ p, e = .returned (.tuple #[.slice none 0 0, flt p]) ∧ FaultAt w' p 3 0 ∧ Below w.heap.size w w') ∨
      ∃ (k : Nat) (g : List Int) (a : Option Addr) (c : Nat), f = k ∧ l[k]? = some g ∧ g.length ≤ c ∧ e = .returned (.tuple #[.slice a g.length c, .nilIface]) ∧ Sl 1 EInt (NewB w.heap.size w') w' (.slice a g.length c) g ∧ Below w.heap.size w w'
set_option maxRecDepth 100000 in
set_option maxHeartbeats 1600000 in
theorem heights_any (V : MoV) (M : Mo) (f : Int) (w : World) (hL : Laid w) (h : IsMo w.heap.size w V M) (hy : ∀ d ∈ M.data, d.bytes.length ≤ 4611686018427387904) :
    Calls Tryz.prog 8 #[moV V M, .int .i64 f] w (HeEnds w (chkM M) f) := by
  have HB := hide (bel_one w (.cells #[V.v0, V.v1, V.v2, .int .i64 M.m0, .int .i64 M.m1, V.v5, V.v6] 29))
  have CH := hide (check_any V M (w.alloc (.cells #[V.v0, V.v1, V.v2, .int .i64 M.m0, .int .i64 M.m1, V.v5, V.v6] 29)) (hL.kept HB.out) (h.step HB.out HB.out.size) hy)
  obtain ⟨v0, v1, v2, v5, v6⟩ := V
  unfold moV at *
  simp only at *
  clear h hy
  generalize hr : chkM M = r at *
  clear hr
  cases r with
  | error c =>
    go_enter Tryz.func8, Tryz.ntmps8
    go_wp2_with fail
    refine CH.out.mono ?_
    rintro e w1 ⟨p, rfl, F, b⟩
    have HF := hide F
    have HB1 := hide (below_next HB.out b)
    clear F b
    unfold flt
    go_wp2_with fail
    go_ret2
    exact ⟨p, rfl, HF.out, HB1.out⟩
  | ok l =>
    by_cases h0 : f < 0
    · go_enter Tryz.func8, Tryz.ntmps8
      go_wp2_with fail
      refine CH.out.mono ?_
      rintro e w1 ⟨v, rfl, _, b⟩
      have HB1 := hide (below_next HB.out b)
      clear b
      go_wp2_with fail
      refine (vfault_any 3 0 w1).mono ?_
      rintro e w2 ⟨rfl, F, b⟩
      have HF := hide F
      have HB2 := hide (below_next HB1.out b)
      clear F b
      go_wp2_with fail
      go_ret2
      exact .inl ⟨by omega, w1.heap.size, rfl, HF.out, HB2.out⟩
    · obtain ⟨k, rfl⟩ := Int.eq_ofNat_of_zero_le (Int.not_lt.1 h0)
      by_cases hlt : k < l.length
      · have hlt' : (k : Int) < l.length := by omega
        go_enter Tryz.func8, Tryz.ntmps8
        go_wp2_with fail
        refine CH.out.mono ?_
        rintro e w1 ⟨v, rfl, ⟨a, c, rfl, he⟩, b⟩
        have HB1 := hide (below_next HB.out b)
        obtain ⟨g, off, rfl, hg, au, cu', cu, hle, su⟩ := he k hlt
        rw [Nat.mul_one] at cu
        have HS := hide su
        have hz := hide b.size
        have HLE := hide hle
        clear b su he hle
        go_wp2_with fail
        go_ret2
        refine .inr ⟨k, l[k], _, _, rfl, by simp [hlt], HLE.out, rfl, HS.out.to keeps_int (fun _ _ => rfl) (fun i hi => ⟨?_, hi.2⟩), HB1.out⟩
        have h1 := hi.1
        have h2 : (w.alloc (.cells #[v0, v1, v2, .int .i64 M.m0, .int .i64 M.m1, v5, v6] 29)).heap.size = w.heap.size + 1 := by simp
        rw [h2] at h1; omega
      · have hlt' : ¬ (k : Int) < l.length := by omega
        have hle' : (l.length : Int) ≤ k := by omega
        go_enter Tryz.func8, Tryz.ntmps8
        go_wp2_with fail
        refine CH.out.mono ?_
        rintro e w1 ⟨v, rfl, ⟨a, c, rfl, _⟩, b⟩
        have HB1 := hide (below_next HB.out b)
        clear b
        go_wp2_with fail
        refine (vfault_any 3 0 w1).mono ?_
        rintro e w2 ⟨rfl, F, b⟩
        have HF := hide F
        have HB2 := hide (below_next HB1.out b)
        clear F b
        go_wp2_with fail
        go_ret2
        exact .inl ⟨by omega, w1.heap.size, rfl, HF.out, HB2.out⟩
end Go.Proofs.YtamofhkmhjckaabGreatDoor

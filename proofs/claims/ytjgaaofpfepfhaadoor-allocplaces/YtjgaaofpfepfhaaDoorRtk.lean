/-
  The document's taken.
-/
import Derived.Test.YtjgaaofpfepfhaaDoorR8
import Derived.Test.YtjgaaofpfepfhaaDoorSlo
namespace Go.Proofs.YtjgaaofpfepfhaaDoor
open Go.RowKit
set_option linter.unusedSimpArgs false
set_option linter.unusedVariables false
/-- A number of a list, 0 behind its end. -/
def nth (ns : List Int) (i : Nat) : Int := ns.getD i 0
/-- Whether one of the first k that meets is at this place. -/
def rtk (pl : Nat → Int) (cl : Nat → Bool) (p : Int) (k : Nat) : Bool := (List.range k).any fun i => decide (pl i = p) && cl i
set_option maxRecDepth 100000 in
set_option maxHeartbeats 6400000 in
theorem rtaken_any (d : Cd) (q : Option Addr) (cap : Nat) (l : List Ir) (ra rb m : Nat) (A F : Nat → Nat) (v : Value) (ns : List Int) (n : Nat) (p : Int) (w : World) (hl : l.length ≤ 1000) (hr : IR w.heap.size w q l) (hm : d.params = (m : Int)) (hm60 : m ≤ 60)
    (ha : NRow ra l.length A w) (hb : NRow rb l.length F w) (hA : ∀ i, i < l.length → A i < lim) (hF : ∀ i, i < l.length → F i < lim) (hn : n < 60) (hnn : ns.length ≤ 60) (hv : Nv 0 v ns w) :
    Calls Tryd.prog 28 #[cv d q l.length cap, .slice (some ⟨rb, 0, none⟩) l.length l.length, .slice (some ⟨ra, 0, none⟩) l.length l.length, v, .int .i64 (n : Int), .int .i64 p] w
      fun e w' => e = .returned (.bool (rtk (nth ns) (fun i => decide (i ≠ n) && cls d l A F (i : Int) (n : Int)) p ns.length)) ∧ Below w.heap.size w w' := by
  have HL := hide hl
  have HR := hide hr
  have B0 : FB d q l.length cap w.heap.size l w (w.alloc (.cells #[.int .i64 d.cells, .int .i64 d.params, .slice q l.length cap, .int .i64 d.labels] 24)) := ⟨bel_one _ _, by simp, heap_alloc_new _ _⟩
  have MA := hide (fun (i : Nat) (hi : i < 60) U (hU : Below w.heap.size w U) => meets_any d q cap l ra rb m A F i n U hl (IR.up (hr.bel hU) hU.size) hm hm60 (ha.of (hU.block _ ha.lt)) (hb.of (hU.block _ hb.lt)) hA hF hi hn)
  obtain ⟨av, cav, hf⟩ := hv.form
  subst hf
  have HV := hide hv
  clear hl hr ha hb hA hF hv hm
  generalize hcl : (fun i : Nat => decide (i ≠ n) && cls d l A F (i : Int) (n : Int)) = cl
  replace MA : Hid (∀ (i : Nat), i < 60 → ∀ U, Below w.heap.size w U → Calls Tryd.prog 48 #[cv d q l.length cap, .slice (some ⟨rb, 0, none⟩) l.length l.length, .slice (some ⟨ra, 0, none⟩) l.length l.length, .int .i64 (i : Int), .int .i64 (n : Int)] U fun e w' => e = .returned (.bool (cl i)) ∧ Below U.heap.size U w') := fun i hi U hU => by rw [← hcl]; exact MA.out i hi U hU
  clear hcl
  obtain ⟨cs, ps, ls⟩ := d
  unfold cv at MA ⊢
  simp only at B0 MA ⊢
  go_enter Tryd.func28, Tryd.ntmps28
  go_upto_region 1 with fail
  refine gw (motive := fun x => Code.wp _ _ _ _ x) (fun W => Hid (FB ⟨cs, ps, ls⟩ q l.length cap w.heap.size l w W)) B0 ?_
  rintro W HW
  clear B0
  have hqW := HW.out.lt
  go_wp2_with fail
  go_loopw [13] (fun s13 wr => ∃ k : Nat, k ≤ ns.length ∧ s13 = .int .i64 (k : Int) ∧ Hid (Below W.heap.size W wr) ∧ Hid (∀ i, i < k → (decide (nth ns i = p) && cl i) = false)) (fun s13 _ => ns.length - (intOf s13).toNat)
  case atStart => exact ⟨0, Nat.zero_le _, rfl, Below.refl _ _, fun j h => absurd h (Nat.not_lt_zero _)⟩
  case round =>
    obtain ⟨k, hk, rfl, HBl, HM⟩ := hrel
    have HBF := hide (HW.out.b.trans (HBl.out.mono HW.out.b.size))
    by_cases hlt : k < ns.length
    · obtain ⟨c0, c1, c2, c3⟩ := HW.out.cells HBl.out hqW
      simp only at c0 c1 c2 c3
      obtain ⟨g', c', e, hg1, hg2, hx⟩ := (HV.out.kept HBF.out).at_ hlt
      injection e with ea e3 e2
      subst ea e2
      have hgd : nth ns k = ns[k] := by simp [nth, List.getD, hlt]
      have h1 : (k : Int) < (ns.length : Int) := by omega
      have h0 : (0 : Int) ≤ (k : Int) := by omega
      have MK := hide (MA.out k (by omega) _ HBF.out)
      have MN : Hid ((decide (nth ns k = p) && cl k) = false → ∀ j, j < k + 1 → (decide (nth ns j = p) && cl j) = false) := fun h j hj => by
        rcases Nat.lt_succ_iff_lt_or_eq.1 hj with h' | h'
        · exact HM.out j h'
        · subst h'; exact h
      have MY : Hid ((decide (nth ns k = p) && cl k) = true → rtk (nth ns) cl p ns.length = true) := fun h => List.any_eq_true.2 ⟨k, List.mem_range.2 hlt, h⟩
      rw [hgd] at MN MY
      clear hgd
      generalize ns[k] = pk at *
      by_cases e : pk = p
      · have qe : (pk == p) = true := by simpa using e
        subst e
        go_wp2_with fail
        refine MK.out.mono ?_
        rintro e w3 ⟨rfl, hb3⟩
        have HB3 := hide (bel_tr HBl.out hb3)
        have HBF3 := hide (HBF.out.trans (hb3.mono HBF.out.size))
        clear hb3 MK c0 c1 c2 c3
        cases hcl : cl k
        · have N2 := hide (MN.out (by rw [hcl]; simp))
          go_wp2_with fail
          go_roundw
          case rel => exact ⟨k + 1, hlt, by go_num, HB3, N2⟩
          case measure => simp [intOf]; omega
        · have Y2 := hide (MY.out (by rw [hcl]; simp))
          go_wp2_with fail
          go_ret
          exact ⟨by rw [Y2.out]; rfl, HBF3.out⟩
      · have qe : (pk == p) = false := by simpa using e
        have N2 := hide (MN.out (by simp [e]))
        clear MK
        go_wp2_with fail
        go_roundw
        case rel => exact ⟨k + 1, hlt, by go_num, HBl, N2⟩
        case measure => simp [intOf]; omega
    · obtain rfl : k = ns.length := by omega
      have h1 : ¬ (ns.length : Int) < (ns.length : Int) := by omega
      have Y2 : Hid (rtk (nth ns) cl p ns.length = false) := by
        show _ = _
        unfold rtk
        rw [List.any_eq_false]
        intro i hi
        rw [HM.out i (List.mem_range.1 hi)]
        simp
      go_wp2_with fail
      go_ret
      exact ⟨by rw [Y2.out]; rfl, HBF.out⟩
end Go.Proofs.YtjgaaofpfepfhaaDoor

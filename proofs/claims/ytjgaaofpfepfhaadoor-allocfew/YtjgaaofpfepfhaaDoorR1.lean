/-
  The document's find.
-/
import Derived.Test.YtjgaaofpfepfhaaDoorR0
import Derived.Test.YtjgaaofpfepfhaaDoorFits
namespace Go.Proofs.YtjgaaofpfepfhaaDoor
open Go.RowKit
set_option linter.unusedSimpArgs false
set_option linter.unusedVariables false
theorem fst_take {l : List Ir} {k : Nat} (h : k < l.length) (n : Int) : fst (l.take (k + 1)) n = (fst (l.take k) n).or (if lbl n l[k] = true then some k else none) := by
  unfold fst
  rw [List.take_add_one, List.getElem?_eq_getElem h]
  simp only [Option.toList_some]
  rw [List.findIdx?_append]
  congr 1
  rw [List.findIdx?_cons]
  have : (l.take k).length = k := by simp; omega
  rw [this]
  split <;> simp
/-- The first place of a label among the first k; -1: none. -/
def fdk (l : List Ir) (n : Int) (k : Nat) : Int := match fst (l.take k) n with | some p => (p : Int) | none => -1
def fdi (l : List Ir) (n : Int) : Int := fdk l n l.length
theorem fdi_some {l : List Ir} {n : Int} {p : Nat} (h : fst l n = some p) : fdi l n = (p : Int) := by unfold fdi fdk; rw [List.take_length, h]
theorem fdi_none {l : List Ir} {n : Int} (h : fst l n = none) : fdi l n = -1 := by unfold fdi fdk; rw [List.take_length, h]
theorem fdk_yes {l : List Ir} {n : Int} {k : Nat} (h : k < l.length) (hb : lbl n l[k] = true) (h0 : fdk l n k < 0) : fdk l n (k + 1) = (k : Int) := by
  unfold fdk at h0 ⊢
  rw [fst_take h, if_pos hb]
  cases e : fst (l.take k) n with
  | none => rfl
  | some p => rw [e] at h0; simp only at h0; omega
theorem fdk_keep {l : List Ir} {n : Int} {k : Nat} (h : k < l.length) (h0 : ¬ fdk l n k < 0) : fdk l n (k + 1) = fdk l n k := by
  unfold fdk at h0 ⊢
  rw [fst_take h]
  cases e : fst (l.take k) n with
  | none => rw [e] at h0; simp only at h0; omega
  | some p => rfl
theorem fdk_no {l : List Ir} {n : Int} {k : Nat} (h : k < l.length) (hb : lbl n l[k] = false) : fdk l n (k + 1) = fdk l n k := by
  unfold fdk
  rw [fst_take h, if_neg (by rw [hb]; simp)]
  cases fst (l.take k) n <;> rfl
theorem fdk_zero (l : List Ir) (n : Int) : fdk l n 0 = -1 := rfl
theorem fst_lt {l : List Ir} {n : Int} {p : Nat} (h : fst l n = some p) : p < l.length := by
  unfold fst at h
  rw [List.findIdx?_eq_some_iff_findIdx_eq] at h
  exact h.1
theorem fdk_lim (l : List Ir) (n : Int) (k : Nat) : -1 ≤ fdk l n k ∧ fdk l n k < (l.length : Int) + 1 := by
  unfold fdk
  cases e : fst (l.take k) n with
  | none => simp only; omega
  | some p =>
    have := fst_lt e
    rw [List.length_take] at this
    simp only
    omega
set_option maxRecDepth 100000 in
set_option maxHeartbeats 6400000 in
theorem rfind_any (d : Cd) (a : Option Addr) (cap : Nat) (l : List Ir) (n : Int) (w : World) (hl : l.length ≤ 1000) (hr : IR w.heap.size w a l) :
    Calls Tryd.prog 51 #[cv d a l.length cap, .int .i64 n] w fun e w' => e = .returned (.tuple #[.int .i64 (fdi l n), .int .i64 ((cnt l n : Nat) : Int)]) ∧ Below w.heap.size w w' := by
  have HL := hide hl
  have HR := hide hr
  have B0 : FB d a l.length cap w.heap.size l w (w.alloc (.cells #[.int .i64 d.cells, .int .i64 d.params, .slice a l.length cap, .int .i64 d.labels] 24)) := ⟨bel_one _ _, by simp, heap_alloc_new _ _⟩
  have HE : Hid (fdi l n = fdk l n l.length) := rfl
  have HC : Hid (cnt (l.take l.length) n = cnt l n) := by show _ = _; rw [List.take_length]
  clear hl hr
  obtain ⟨cs, ps, ls⟩ := d
  unfold cv
  simp only at B0 ⊢
  go_enter Tryd.func51, Tryd.ntmps51
  go_upto_region 1 with fail
  refine gw (motive := fun x => Code.wp _ _ _ _ x) (fun W => Hid (FB ⟨cs, ps, ls⟩ a l.length cap w.heap.size l w W)) B0 ?_
  rintro W HW
  clear B0
  obtain ⟨c0, c1, c2, c3⟩ := HW.out.cells (Below.refl _ W) HW.out.lt
  simp only at c0 c1 c2 c3
  have HIR := hide (HR.out.bel HW.out.b)
  go_wp2_with fail
  go_loopw [6, 7, 8] (fun s6 s7 s8 wr => ∃ k : Nat, k ≤ l.length ∧ s6 = .int .i64 (fdk l n k) ∧ s7 = .int .i64 ((cnt (l.take k) n : Nat) : Int) ∧ s8 = .int .i64 (k : Int) ∧ wr = W) (fun _ _ s8 _ => l.length - (intOf s8).toNat)
  case atStart => exact ⟨0, Nat.zero_le _, by rw [fdk_zero], by simp [cnt], rfl, rfl⟩
  case round =>
    obtain ⟨k, hk, rfl, rfl, rfl, rfl⟩ := hrel
    have hk1 := HL.out
    by_cases hlt : k < l.length
    · obtain ⟨b, o, rfl, hb, hcx, hox⟩ := HIR.out k hlt
      obtain ⟨d0, d1, d2, d3, d4, d5, d6⟩ := hcx
      have h1 : (k : Int) < (l.length : Int) := by omega
      have h0 : (0 : Int) ≤ (k : Int) := by omega
      have CT := hide (cnt_take hlt n)
      have hcn := cnt_le (l.take k) n
      have hcl : (l.take k).length ≤ 1000 := by rw [List.length_take]; omega
      have FY := hide (fun hb h0 => fdk_yes (n := n) hlt hb h0)
      have FK := hide (fun h0 => fdk_keep (n := n) hlt h0)
      have FN := hide (fun hb => fdk_no (n := n) hlt hb)
      have FL := fdk_lim l n k
      have LB := hide (show lbl n l[k] = (l[k].op == 9 && l[k].n == n) from rfl)
      generalize l[k] = x at *
      obtain ⟨op, dst, aa, bb, cc, nn, mm⟩ := x
      simp only at d0 d1 d2 d3 d4 d5 d6 LB
      have hq : (0 : Int) ≤ ((cnt (l.take k) n : Nat) : Int) := by omega
      have hq2 : ((cnt (l.take k) n : Nat) : Int) ≤ 1000 := by omega
      generalize hF0 : fdk l n k = f0 at *
      generalize hF1 : fdk l n (k + 1) = f1 at *
      generalize hC0 : cnt (l.take k) n = q0 at *
      generalize hC1 : cnt (l.take (k + 1)) n = q1 at *
      have HF := hide (And.intro hF1 hC1)
      clear hF0 hF1 hC0 hC1 hcn hcl
      by_cases h9 : op = 9
      · by_cases hn : nn = n
        · have LB2 : Hid (lbl n ⟨op, dst, aa, bb, cc, nn, mm⟩ = true) := by show _ = _; rw [LB.out]; simp [h9, hn]
          have CT2 : Hid (q1 = q0 + 1) := by show _ = _; rw [CT.out, if_pos LB2.out]
          by_cases hf : f0 < 0
          · have FY2 := hide (FY.out LB2.out hf)
            go_wp2_with fail
            go_roundw
            case rel => exact ⟨k + 1, hlt, by rw [HF.out.1, FY2.out], by rw [HF.out.2, CT2.out]; go_num, by go_num, trivial⟩
            case measure => simp [intOf]; omega
          · have FK2 := hide (FK.out hf)
            go_wp2_with fail
            go_roundw
            case rel => exact ⟨k + 1, hlt, by rw [HF.out.1, FK2.out], by rw [HF.out.2, CT2.out]; go_num, by go_num, trivial⟩
            case measure => simp [intOf]; omega
        · have LB2 : Hid (lbl n ⟨op, dst, aa, bb, cc, nn, mm⟩ = false) := by show _ = _; rw [LB.out]; simp [hn]
          have CT2 : Hid (q1 = q0) := by show _ = _; rw [CT.out, if_neg (by rw [LB2.out]; simp)]; rfl
          have FN2 := hide (FN.out LB2.out)
          go_wp2_with fail
          go_roundw
          case rel => exact ⟨k + 1, hlt, by rw [HF.out.1, FN2.out], by rw [HF.out.2, CT2.out], by go_num, trivial⟩
          case measure => simp [intOf]; omega
      · have LB2 : Hid (lbl n ⟨op, dst, aa, bb, cc, nn, mm⟩ = false) := by show _ = _; rw [LB.out]; simp [h9]
        have CT2 : Hid (q1 = q0) := by show _ = _; rw [CT.out, if_neg (by rw [LB2.out]; simp)]; rfl
        have FN2 := hide (FN.out LB2.out)
        go_wp2_with fail
        go_roundw
        case rel => exact ⟨k + 1, hlt, by rw [HF.out.1, FN2.out], by rw [HF.out.2, CT2.out], by go_num, trivial⟩
        case measure => simp [intOf]; omega
    · have h1 : ¬ (k : Int) < (l.length : Int) := by omega
      obtain rfl : k = l.length := by omega
      rw [HC.out]
      go_wp2_with fail
      refine bodyPost_ret (results_tmp2 rfl _ _ _) rfl ?_
      exact ⟨by rw [HE.out]; rfl, HW.out.b⟩
end Go.Proofs.YtjgaaofpfepfhaaDoor

/-
  The program's namesCells, with its closure, over the library's ContainsFunc.
-/
import Derived.Test.YtjgaaofpfepfhaaDoorNext
namespace Go.Proofs.YtjgaaofpfepfhaaDoor
open Go.RowKit
set_option linter.unusedSimpArgs false
set_option linter.unusedVariables false
theorem no_cell (y m : Int) (b : Nat) (w : World) (hc : w.cell? ⟨b, 0, none⟩ = some (.int .i64 m)) : Calls Tryd.prog 52 #[.int .i64 y, .pointer (some ⟨b, 0, none⟩)] w fun e w' => e = .returned (.bool (!isC y m)) ∧ w' = w := by
  go_enter Tryd.func52, Tryd.ntmps52
  go_wp2_with fail
  refine (isc_any _ _ _).mono ?_
  rintro e w1 ⟨rfl, rfl⟩
  go_wp2_with fail
  go_ret
  exact ⟨rfl, rfl⟩
theorem Nv.at_ {B : Nat} {v : Value} {ns : List Int} {w : World} (h : Nv B v ns w) {k : Nat} (hk : k < ns.length) : ∃ g c, v = .slice (some ⟨g, 0, none⟩) ns.length c ∧ B ≤ g ∧ g < w.heap.size ∧ w.cell? ⟨g, k, none⟩ = some (.int .i64 ns[k]) := by
  rcases h with ⟨rfl, _⟩ | ⟨g, c, e, h1, h2, h3⟩
  · simp at hk
  · exact ⟨g, c, e, h1, h2, h3 k hk⟩
def fdx (m : Int) (ns : List Int) : Int := match ns.findIdx? (fun y => !isC y m) with | some j => (j : Int) | none => -1
theorem fdx_at {m : Int} {ns : List Int} {k : Nat} (hk : k < ns.length) (h : isC ns[k] m = false) (ha : ∀ j (hj : j < ns.length), j < k → isC ns[j] m = true) : fdx m ns = (k : Int) := by
  have : ns.findIdx? (fun y => !isC y m) = some k := List.findIdx?_eq_some_iff_getElem.2 ⟨hk, by simp [h], fun j hj => by simp [ha j (by omega) hj]⟩
  unfold fdx; rw [this]
theorem fdx_none {m : Int} {ns : List Int} (ha : ∀ j (hj : j < ns.length), isC ns[j] m = true) : fdx m ns = -1 := by
  have : ns.findIdx? (fun y => !isC y m) = none := List.findIdx?_eq_none_iff.2 fun x hx => by
    obtain ⟨j, hj, rfl⟩ := List.mem_iff_getElem.1 hx
    simp [ha j hj]
  unfold fdx; rw [this]
theorem fdx_any (m : Int) (ns : List Int) : decide (0 ≤ fdx m ns) = ns.any fun y => !isC y m := by
  unfold fdx
  cases h : ns.findIdx? (fun y => !isC y m) with
  | some j =>
    obtain ⟨hj, hp, _⟩ := List.findIdx?_eq_some_iff_getElem.1 h
    have : ns.any (fun y => !isC y m) = true := List.any_eq_true.2 ⟨ns[j], List.getElem_mem _, hp⟩
    rw [this]; simp
  | none =>
    have : ns.any (fun y => !isC y m) = false := List.any_eq_false.2 fun x hx => by
      have := List.findIdx?_eq_none_iff.1 h x hx
      simp [this]
    rw [this]; simp
set_option maxHeartbeats 2000000 in
theorem index_any {B : Nat} {v : Value} {ns : List Int} {w : World} (h : Nv B v ns w) (hl : ns.length ≤ 1000) (m : Int) (b : Nat) (hc : w.cell? ⟨b, 0, none⟩ = some (.int .i64 m)) :
    Calls Tryd.prog 62 #[v, .func (.func 52) #[] #[.pointer (some ⟨b, 0, none⟩)]] w fun e w' => e = .returned (.int .i64 (fdx m ns)) ∧ w' = w := by
  obtain ⟨a, c, rfl⟩ := h.form
  have H := hide h
  have HC := hide (fun y => no_cell y m b w hc)
  clear h hc
  go_enter Tryd.func62, Tryd.ntmps62
  go_wp2_with fail
  go_loopw [5, 8] (fun _ s8 wr => ∃ k : Nat, k ≤ ns.length ∧ s8 = .int .i64 (k : Int) ∧ wr = w ∧ Hid (∀ j (hj : j < ns.length), j < k → isC ns[j] m = true)) (fun _ s8 _ => ns.length - (intOf s8).toNat)
  case atStart => exact ⟨0, Nat.zero_le _, rfl, rfl, hide (fun j hj h => absurd h (Nat.not_lt_zero _))⟩
  case round =>
    obtain ⟨k, hk, rfl, rfl, HA⟩ := hrel
    by_cases hlt : k < ns.length
    · obtain ⟨g, c', e, _, _, hx⟩ := H.out.at_ hlt
      injection e with e1 e2 e3
      subst e1 e3
      cases hq : isC ns[k] m with
      | true =>
        have C := hide (HC.out ns[k])
        rw [hq] at C
        have HA2 : Hid (∀ j (hj : j < ns.length), j < k + 1 → isC ns[j] m = true) := fun j hj h => by
          rcases Nat.lt_succ_iff_lt_or_eq.1 h with h' | h'
          · exact HA.out j hj h'
          · subst h'; exact hq
        clear hq HA
        generalize ns[k] = y at *
        go_wp2_with fail
        refine C.out.mono ?_
        rintro e w1 ⟨rfl, rfl⟩
        go_wp2_with fail
        go_roundw
        case rel => exact ⟨k + 1, hlt, by go_num, by first | trivial | rfl, HA2⟩
        case measure => simp [intOf]; omega
      | false =>
        have C := hide (HC.out ns[k])
        rw [hq] at C
        have FD := hide (fdx_at hlt hq HA.out)
        clear hq HA
        generalize ns[k] = y at *
        go_wp2_with fail
        refine C.out.mono ?_
        rintro e w1 ⟨rfl, rfl⟩
        go_wp2_with fail
        go_ret
        exact ⟨by rw [FD.out]; rfl, by first | trivial | rfl⟩
    · have hkn : k = ns.length := by omega
      subst hkn
      have FD := hide (fdx_none (m := m) fun j hj => HA.out j hj hj)
      go_wp2_with fail
      go_ret
      exact ⟨by rw [FD.out]; rfl, by first | trivial | rfl⟩
theorem contains_any {B : Nat} {v : Value} {ns : List Int} {w : World} (h : Nv B v ns w) (hl : ns.length ≤ 1000) (m : Int) (b : Nat) (hc : w.cell? ⟨b, 0, none⟩ = some (.int .i64 m)) :
    Calls Tryd.prog 53 #[v, .func (.func 52) #[] #[.pointer (some ⟨b, 0, none⟩)]] w fun e w' => e = .returned (.bool (ns.any fun y => !isC y m)) ∧ w' = w := by
  have C := hide (index_any h hl m b hc)
  have F := hide (fdx_any m ns)
  clear h hc
  go_enter Tryd.func53, Tryd.ntmps53
  go_wp2_with fail
  refine C.out.mono ?_
  rintro e w1 ⟨rfl, rfl⟩
  go_wp2_with fail
  go_ret
  exact ⟨by rw [← F.out]; rfl, rfl⟩
def wrs (x : Ir) : Bool := x.op == 1 || x.op == 2 || x.op == 3 || x.op == 4 || x.op == 5 || x.op == 7
/-- Whether all that it names is one of so many cells. -/
def nam (x : Ir) (m : Int) : Bool := (raw x).all (fun y => isC y m) && (if x.op = 14 then (x.dst == -1 || isC x.dst m) else if wrs x = true then isC x.dst m else true)
theorem us_any (x : Ir) (m : Int) : ((us x).any fun y => !isC y m) = !((raw x).all fun y => isC y m) := by
  rw [Bool.eq_iff_iff]
  simp only [List.any_eq_true, Bool.not_eq_true', List.all_eq_false]
  constructor
  · rintro ⟨y, hy, h⟩; exact ⟨y, (us_mem x y).1 hy, by simp [h]⟩
  · rintro ⟨y, hy, h⟩; exact ⟨y, (us_mem x y).2 hy, by simpa using h⟩
theorem us_len (x : Ir) : (us x).length ≤ 3 := Nat.le_trans (scl _) (raw_len x)
set_option maxHeartbeats 2000000 in
theorem names_any (x : Ir) (m : Int) (w : World) : Calls Tryd.prog 32 #[xv x, .int .i64 m] w fun e w' => e = .returned (.bool (nam x m)) ∧ Below w.heap.size w w' := by
  have UA := hide (us_any x m)
  have UL := hide (us_len x)
  have US := hide (fun U => uses_any x U)
  have NM := hide (show nam x m = ((raw x).all (fun y => isC y m) && (if x.op = 14 then (x.dst == -1 || isC x.dst m) else if wrs x = true then isC x.dst m else true)) from rfl)
  have WR := hide (show wrs x = (x.op == 1 || x.op == 2 || x.op == 3 || x.op == 4 || x.op == 5 || x.op == 7) from rfl)
  have B0 := Bx.made x w
  obtain ⟨op, dst, a, b, c, n, mm⟩ := x
  unfold xv xc at US
  unfold xv
  unfold xc at B0 ⊢
  simp only at NM WR
  have hbx : Boxed ((w.alloc (.cells #[.int .i64 op, .int .i64 dst, .int .i64 a, .int .i64 b, .int .i64 c, .int .i64 n, .int .i64 mm] 43)).alloc (.cells #[.int .i64 m] 3)) (w.heap.size + 1) 3 (.int .i64 m) := by
    have := Boxed.new (w.alloc (.cells #[.int .i64 op, .int .i64 dst, .int .i64 a, .int .i64 b, .int .i64 c, .int .i64 n, .int .i64 mm] 43)) 3 (.int .i64 m)
    rwa [World.size_alloc] at this
  have hb1 := bel_one (w.alloc (.cells #[.int .i64 op, .int .i64 dst, .int .i64 a, .int .i64 b, .int .i64 c, .int .i64 n, .int .i64 mm] 43)) (.cells #[.int .i64 m] 3)
  have hB1 : Bx w.heap.size ⟨op, dst, a, b, c, n, mm⟩ w ((w.alloc (.cells #[.int .i64 op, .int .i64 dst, .int .i64 a, .int .i64 b, .int .i64 c, .int .i64 n, .int .i64 mm] 43)).alloc (.cells #[.int .i64 m] 3)) := ⟨bel_tr B0.b hb1, by first | (simp; done) | (simp; omega), (hb1.block _ B0.lt).trans B0.r⟩
  have hmf : ∀ (fn : Go.Fn) (first cap : Array Value) (w : World), (Instr.makeFunc fn first cap).run Tryd.prog w = .ok (.func fn first cap) w := fun _ _ _ _ => rfl
  go_enter Tryd.func32, Tryd.ntmps32
  go_upto_region 2 with fail
  refine gw (motive := fun x => Code.wp _ _ _ _ x) (fun W => Hid (Bx w.heap.size ⟨op, dst, a, b, c, n, mm⟩ w W) ∧ Hid (W.cell? ⟨w.heap.size + 1, 0, none⟩ = some (.int .i64 m))) ⟨hB1, hbx.cell⟩ ?_
  clear B0 hb1 hB1 hbx hmf
  rintro W ⟨HW, HM⟩
  obtain ⟨c0, c1, c2, c3, c4, c5, c6⟩ := HW.out.c7 (Below.refl _ W)
  simp only at c0 c1 c2 c3 c4 c5 c6
  go_wp2_with fail
  refine (US.out W).mono ?_
  rintro e w1 ⟨v, rfl, hv, hb⟩
  have hlt : w.heap.size + 1 < W.heap.size := World.block_lt_of_cell? W _ HM.out
  have hm1 := (hb.cell (p := ⟨w.heap.size + 1, 0, none⟩) hlt).trans HM.out
  have CO := hide (contains_any hv (Nat.le_trans UL.out (by omega)) m (w.heap.size + 1) hm1)
  rw [UA.out] at CO
  obtain ⟨c0, c1, c2, c3, c4, c5, c6⟩ := HW.out.c7 hb
  simp only at c0 c1 c2 c3 c4 c5 c6
  have HB := hide (bel_tr HW.out.b hb)
  clear hv US UA HM HW hb hlt
  cases hall : (raw ⟨op, dst, a, b, c, n, mm⟩).all (fun y => isC y m) with
  | false =>
    rw [hall] at CO NM
    simp only [Bool.not_false, Bool.false_and] at CO NM
    clear hall
    go_wp2_with fail
    refine CO.out.mono ?_
    rintro e w2 ⟨rfl, rfl⟩
    go_wp2_with fail
    go_ret
    exact ⟨by rw [NM.out]; rfl, HB.out⟩
  | true =>
    rw [hall] at CO NM
    simp only [Bool.not_true, Bool.true_and] at CO NM
    clear hall
    by_cases h14 : op = 14
    · subst h14
      simp only [if_true] at NM
      by_cases hd : dst = -1
      · subst hd
        simp only [BEq.rfl, Bool.true_or] at NM
        go_wp2_with fail
        refine CO.out.mono ?_
        rintro e w2 ⟨rfl, rfl⟩
        go_wp2_with fail
        go_ret
        exact ⟨by rw [NM.out]; rfl, HB.out⟩
      · have hd2 : (dst == -1) = false := by simpa using hd
        rw [hd2, Bool.false_or] at NM
        go_wp2_with fail
        refine CO.out.mono ?_
        rintro e w2 ⟨rfl, rfl⟩
        go_wp2_with fail
        refine (isc_any _ _ _).mono ?_
        rintro e w3 ⟨rfl, rfl⟩
        go_wp2_with fail
        go_ret
        exact ⟨by rw [NM.out]; rfl, HB.out⟩
    · simp only [h14, if_false] at NM
      cases hw : wrs ⟨op, dst, a, b, c, n, mm⟩ with
      | true =>
        rw [hw] at NM WR
        simp only [if_true] at NM
        have hor : op = 1 ∨ op = 2 ∨ op = 3 ∨ op = 4 ∨ op = 5 ∨ op = 7 := by
          have := WR.out
          simp only [Bool.or_eq_true, beq_iff_eq, eq_comm (a := true)] at this
          omega
        clear WR hw
        rcases hor with rfl | rfl | rfl | rfl | rfl | rfl
        all_goals
          go_wp2_with fail
          refine CO.out.mono ?_
          rintro e w2 ⟨rfl, rfl⟩
          go_wp2_with fail
          refine (isc_any _ _ _).mono ?_
          rintro e w3 ⟨rfl, rfl⟩
          go_wp2_with fail
          go_ret
          exact ⟨by rw [NM.out]; rfl, HB.out⟩
      | false =>
        rw [hw] at NM WR
        simp only [Bool.false_eq_true, if_false] at NM
        have hno : ¬ op = 1 ∧ ¬ op = 2 ∧ ¬ op = 3 ∧ ¬ op = 4 ∧ ¬ op = 5 ∧ ¬ op = 7 := by
          have := WR.out.symm
          simp only [Bool.or_eq_false_iff, beq_eq_false_iff_ne] at this
          omega
        obtain ⟨n1, n2, n3, n4, n5, n7⟩ := hno
        clear WR hw
        go_wp2_with fail
        refine CO.out.mono ?_
        rintro e w2 ⟨rfl, rfl⟩
        go_wp2_with fail
        go_ret
        exact ⟨by rw [NM.out]; rfl, HB.out⟩
end Go.Proofs.YtjgaaofpfepfhaaDoor

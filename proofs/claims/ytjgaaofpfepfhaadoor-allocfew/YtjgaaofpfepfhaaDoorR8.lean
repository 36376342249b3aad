/-
  The document's Meets and Clash.
-/
import Derived.Test.YtjgaaofpfepfhaaDoorR6
import Derived.Test.YtjgaaofpfepfhaaDoorStw
import Derived.Test.YtjgaaofpfepfhaaDoorCls
namespace Go.Proofs.YtjgaaofpfepfhaaDoor
open Go.RowKit
set_option linter.unusedSimpArgs false
set_option linter.unusedVariables false
/-- What place i says of two cells. -/
def mts (l : List Ir) (F : Nat → Nat) (a b k : Nat) : Bool := (decide (wri l k = (a : Int)) && (F k).testBit b) || (decide (wri l k = (b : Int)) && (F k).testBit a)
theorem mts_any (l : List Ir) (F : Nat → Nat) (a b : Nat) : (List.range l.length).any (mts l F a b) = (spo l F (b : Int) (a : Int) || spo l F (a : Int) (b : Int)) := by
  unfold spo
  rw [Bool.eq_iff_iff, Bool.or_eq_true, List.any_eq_true, List.any_eq_true, List.any_eq_true]
  have e : ∀ k, mts l F a b k = (spl l F (b : Int) (a : Int) k || spl l F (a : Int) (b : Int) k) := fun k => by
    unfold mts spl wri
    rw [and_one, and_one]
  constructor
  · rintro ⟨k, hk, h⟩
    rw [e, Bool.or_eq_true] at h
    rcases h with h | h
    · exact Or.inl ⟨k, hk, h⟩
    · exact Or.inr ⟨k, hk, h⟩
  · rintro (⟨k, hk, h⟩ | ⟨k, hk, h⟩)
    · exact ⟨k, hk, by rw [e, h]; rfl⟩
    · exact ⟨k, hk, by rw [e, h]; simp⟩
theorem giv_is {d : Cd} {n m a b : Nat} {A : Nat → Nat} (hm : d.params = (m : Int)) : giv d n A (a : Int) (b : Int) = (decide (0 < n) && (decide (a < m) && (decide (b < m) && ((A 0).testBit a || (A 0).testBit b)))) := by
  unfold giv
  rw [hm, and_two]
  have e : decide (max (a : Int) (b : Int) < (m : Int)) = (decide (a < m) && decide (b < m)) := by
    rw [Bool.eq_iff_iff, Bool.and_eq_true, decide_eq_true_eq, decide_eq_true_eq, decide_eq_true_eq]; omega
  rw [e]
  cases decide (a < m) <;> cases decide (b < m) <;> cases decide (0 < n) <;> rfl
theorem bit_nat {s : Nat} (n : Nat) (hs : s < lim) : (bits .and .i64 ((s : Int) / 2 ^ n) 1 == 1) = s.testBit n := bit_at n hs
set_option maxRecDepth 100000 in
set_option maxHeartbeats 6400000 in
theorem meets_any (d : Cd) (q : Option Addr) (cap : Nat) (l : List Ir) (ra rb m : Nat) (A F : Nat → Nat) (a b : Nat) (w : World) (hl : l.length ≤ 1000) (hr : IR w.heap.size w q l) (hm : d.params = (m : Int)) (hm60 : m ≤ 60)
    (ha : NRow ra l.length A w) (hb : NRow rb l.length F w) (hA : ∀ i, i < l.length → A i < lim) (hF : ∀ i, i < l.length → F i < lim) (ha60 : a < 60) (hb60 : b < 60) :
    Calls Tryd.prog 48 #[cv d q l.length cap, .slice (some ⟨rb, 0, none⟩) l.length l.length, .slice (some ⟨ra, 0, none⟩) l.length l.length, .int .i64 (a : Int), .int .i64 (b : Int)] w fun e w' => e = .returned (.bool (decide (a ≠ b) && cls d l A F (a : Int) (b : Int))) ∧ Below w.heap.size w w' := by
  have HL := hide hl
  have HR := hide hr
  have HA := hide ha
  have HB := hide hb
  have LA := hide hA
  have LF := hide hF
  have CL : Hid (cls d l A F (a : Int) (b : Int) = ((decide (0 < l.length) && (decide (a < m) && (decide (b < m) && ((A 0).testBit a || (A 0).testBit b)))) || (List.range l.length).any (mts l F a b))) := by
    show _ = _
    unfold cls
    rw [giv_is hm, mts_any, Bool.or_comm (spo l F (a : Int) (b : Int))]
  have B0 : FB d q l.length cap w.heap.size l w (w.alloc (.cells #[.int .i64 d.cells, .int .i64 d.params, .slice q l.length cap, .int .i64 d.labels] 24)) := ⟨bel_one _ _, by simp, heap_alloc_new _ _⟩
  clear hl hr ha hb hA hF
  obtain ⟨cs, ps, ls⟩ := d
  simp only at hm
  subst hm
  unfold cv
  simp only at B0 ⊢
  go_enter Tryd.func48, Tryd.ntmps48
  go_upto_region 1 with fail
  refine gw (motive := fun x => Code.wp _ _ _ _ x) (fun W => Hid (FB ⟨cs, (m : Int), ls⟩ q l.length cap w.heap.size l w W)) B0 ?_
  rintro W HW
  clear B0
  obtain ⟨c0, c1, c2, c3⟩ := HW.out.cells (Below.refl _ W) HW.out.lt
  simp only at c0 c1 c2 c3
  have ga : ¬ (a : Int) < 0 := by omega
  have gb : ¬ (b : Int) < 0 := by omega
  have CQ := hide (show ∀ x : Bool, x = (decide (a ≠ b) && cls ⟨cs, (m : Int), ls⟩ l A F (a : Int) (b : Int)) → Ending.returned (.bool x) = Ending.returned (.bool (decide (a ≠ b) && cls ⟨cs, (m : Int), ls⟩ l A F (a : Int) (b : Int))) from fun x h => by rw [h])
  by_cases hab : a = b
  · have e : (a : Int) = (b : Int) := by rw [hab]
    go_wp2_with fail
    go_ret
    exact ⟨by simp [hab], HW.out.b⟩
  have hab2 : ¬ (a : Int) = (b : Int) := by omega
  have CE : Hid ((decide (a ≠ b) && cls ⟨cs, (m : Int), ls⟩ l A F (a : Int) (b : Int)) = cls ⟨cs, (m : Int), ls⟩ l A F (a : Int) (b : Int)) := by show _ = _; simp [hab]
  have CQ2 := hide (show ∀ x : Bool, x = cls ⟨cs, (m : Int), ls⟩ l A F (a : Int) (b : Int) → Ending.returned (.bool x) = Ending.returned (.bool (cls ⟨cs, (m : Int), ls⟩ l A F (a : Int) (b : Int))) from fun x h => by rw [h])
  have hqW := HW.out.lt
  have HIR := hide (HR.out.bel HW.out.b)
  have HAR := hide (HA.out.of (HW.out.b.block _ HA.out.lt))
  have HBR := hide (HB.out.of (HW.out.b.block _ HB.out.lt))
  go_wp2_with fail
  clear c0 c1 c2 c3
  go_loopw [11, 12] (fun s11 _ wr => ∃ k : Nat, k ≤ l.length ∧ s11 = .int .i64 (k : Int) ∧ Hid (Below W.heap.size W wr) ∧ Hid (∀ j, j < k → mts l F a b j = false)) (fun s11 _ _ => l.length - (intOf s11).toNat)
  case atStart => exact ⟨0, Nat.zero_le _, rfl, Below.refl _ _, fun j h => absurd h (Nat.not_lt_zero _)⟩
  case round =>
    obtain ⟨k, hk, rfl, HBl, HM⟩ := hrel
    have hk1 := HL.out
    obtain ⟨c0, c1, c2, c3⟩ := HW.out.cells HBl.out hqW
    simp only at c0 c1 c2 c3
    by_cases hlt : k < l.length
    · obtain ⟨g, o, rfl, hb, hcx, hox⟩ := HIR.out k hlt
      have hgW : g < W.heap.size := Nat.lt_of_lt_of_le hb HW.out.b.size
      obtain ⟨d0, d1, d2, d3, d4, d5, d6⟩ := hcx.of (HBl.out.block g hgW)
      have DA := hide (fun U => rdefs_any l[k] U)
      have hG : df l[k] = wri l k := by unfold wri; rw [show l.getD k ir0 = l[k] by simp [List.getD, hlt]]
      rw [hG] at DA
      have hFk := LF.out k hlt
      have MT := hide (show mts l F a b k = ((decide (wri l k = (a : Int)) && (F k).testBit b) || (decide (wri l k = (b : Int)) && (F k).testBit a)) from rfl)
      have MY : Hid (mts l F a b k = true → (List.range l.length).any (mts l F a b) = true) := fun h => List.any_eq_true.2 ⟨k, List.mem_range.2 hlt, h⟩
      have MN : Hid (mts l F a b k = false → ∀ j, j < k + 1 → mts l F a b j = false) := fun h j hj => by
        rcases Nat.lt_succ_iff_lt_or_eq.1 hj with h' | h'
        · exact HM.out j h'
        · subst h'; exact h
      have h1 : (k : Int) < (l.length : Int) := by omega
      have h0 : (0 : Int) ≤ (k : Int) := by omega
      have BA := bit_nat a hFk
      have BB := bit_nat b hFk
      clear hcx hG
      generalize l[k] = x at *
      obtain ⟨op, dst, aa, bb, cc, nn, mm⟩ := x
      unfold xv xc at DA
      simp only at d0 d1 d2 d3 d4 d5 d6
      go_wp2_with fail
      refine (DA.out _).mono ?_
      rintro e w3 ⟨rfl, hb3⟩
      have HB3 := hide (bel_tr HBl.out hb3)
      have HBF := hide (HW.out.b.trans (HB3.out.mono HW.out.b.size))
      have hy := (HBR.out.of (HB3.out.block _ HBR.out.lt)).c k hlt
      clear hb3 DA d0 d1 d2 d3 d4 d5 d6 c0 c1 c2 c3
      generalize wri l k = dd at *
      generalize F k = Fk at *
      by_cases da : dd = (a : Int)
      · have db : ¬ dd = (b : Int) := by omega
        have qa : (dd == (a : Int)) = true := by simpa using da
        have qb : (dd == (b : Int)) = false := by simpa using db
        cases tb : Fk.testBit b
        · rw [tb] at BB MT
          have MN2 := hide (MN.out (by rw [MT.out]; simp [db]))
          go_wp2_with fail
          go_roundw
          case rel => exact ⟨k + 1, hlt, by go_num, HB3, MN2⟩
          case measure => simp [intOf]; omega
        · rw [tb] at BB MT
          have CY : Hid (true = (decide (a ≠ b) && cls ⟨cs, (m : Int), ls⟩ l A F (a : Int) (b : Int))) := by show _ = _; rw [CL.out, MY.out (by rw [MT.out]; simp [da])]; simp [hab]
          go_wp2_with fail
          go_ret
          exact ⟨by first | exact CQ.out _ CY.out | exact CQ2.out _ (CY.out.trans CE.out), HBF.out⟩
      · have qa : (dd == (a : Int)) = false := by simpa using da
        by_cases db : dd = (b : Int)
        · have qb : (dd == (b : Int)) = true := by simpa using db
          cases ta : Fk.testBit a
          · rw [ta] at BA MT
            have MN2 := hide (MN.out (by rw [MT.out]; simp [da]))
            go_wp2_with fail
            go_roundw
            case rel => exact ⟨k + 1, hlt, by go_num, HB3, MN2⟩
            case measure => simp [intOf]; omega
          · rw [ta] at BA MT
            have CY : Hid (true = (decide (a ≠ b) && cls ⟨cs, (m : Int), ls⟩ l A F (a : Int) (b : Int))) := by show _ = _; rw [CL.out, MY.out (by rw [MT.out]; simp [db])]; simp [hab]
            go_wp2_with fail
            go_ret
            exact ⟨by first | exact CQ.out _ CY.out | exact CQ2.out _ (CY.out.trans CE.out), HBF.out⟩
        · have qb : (dd == (b : Int)) = false := by simpa using db
          have MN2 := hide (MN.out (by rw [MT.out]; simp [da, db]))
          go_wp2_with fail
          go_roundw
          case rel => exact ⟨k + 1, hlt, by go_num, HB3, MN2⟩
          case measure => simp [intOf]; omega
    · obtain rfl : k = l.length := by omega
      have h1 : ¬ (l.length : Int) < (l.length : Int) := by omega
      have ANY : Hid ((List.range l.length).any (mts l F a b) = false) := List.any_eq_false.2 fun j hj => by rw [HM.out j (List.mem_range.1 hj)]; simp
      have HBF := hide (HW.out.b.trans (HBl.out.mono HW.out.b.size))
      rw [ANY.out, Bool.or_false] at CL
      by_cases hz : 0 < l.length
      · have z0 : ¬ (l.length : Int) = 0 := by omega
        have zb : ((l.length : Int) == 0) = false := by simpa using (show ¬ l = [] from fun h => by rw [h] at hz; simp at hz)
        have z2 : ¬ l.length = 0 := by omega
        have z3 : ¬ l = [] := fun h => by rw [h] at hz; simp at hz
        have hx := (HAR.out.of (HBl.out.block _ HAR.out.lt)).c 0 hz
        have hA0 := LA.out 0 hz
        have BA := bit_nat a hA0
        have BB := bit_nat b hA0
        have hzp : (0 : Int) < (l.length : Int) := by omega
        by_cases pa : a < m
        · have pa2 : ¬ (m : Int) ≤ (a : Int) := by omega
          by_cases pb : b < m
          · have pb2 : ¬ (m : Int) ≤ (b : Int) := by omega
            cases ta : (A 0).testBit a
            · cases tb : (A 0).testBit b
              · rw [ta] at BA CL
                rw [tb] at BB CL
                have CY : Hid (false = (decide (a ≠ b) && cls ⟨cs, (m : Int), ls⟩ l A F (a : Int) (b : Int))) := by show _ = _; rw [CL.out]; simp
                generalize A 0 = A0 at *
                go_wp2_with fail
                go_ret
                exact ⟨by first | exact CQ.out _ CY.out | exact CQ2.out _ (CY.out.trans CE.out), HBF.out⟩
              · rw [ta] at BA CL
                rw [tb] at BB CL
                have CY : Hid (true = (decide (a ≠ b) && cls ⟨cs, (m : Int), ls⟩ l A F (a : Int) (b : Int))) := by show _ = _; rw [CL.out]; simp [hab, hz, pa, pb]
                generalize A 0 = A0 at *
                go_wp2_with fail
                go_ret
                exact ⟨by first | exact CQ.out _ CY.out | exact CQ2.out _ (CY.out.trans CE.out), HBF.out⟩
            · rw [ta] at BA CL
              have CY : Hid (true = (decide (a ≠ b) && cls ⟨cs, (m : Int), ls⟩ l A F (a : Int) (b : Int))) := by show _ = _; rw [CL.out]; simp [hab, hz, pa, pb]
              generalize A 0 = A0 at *
              go_wp2_with fail
              go_ret
              exact ⟨by first | exact CQ.out _ CY.out | exact CQ2.out _ (CY.out.trans CE.out), HBF.out⟩
          · have pb2 : (m : Int) ≤ (b : Int) := by omega
            have CY : Hid (false = (decide (a ≠ b) && cls ⟨cs, (m : Int), ls⟩ l A F (a : Int) (b : Int))) := by show _ = _; rw [CL.out]; simp [pb]
            go_wp2_with fail
            go_ret
            exact ⟨by first | exact CQ.out _ CY.out | exact CQ2.out _ (CY.out.trans CE.out), HBF.out⟩
        · have pa2 : (m : Int) ≤ (a : Int) := by omega
          have CY : Hid (false = (decide (a ≠ b) && cls ⟨cs, (m : Int), ls⟩ l A F (a : Int) (b : Int))) := by show _ = _; rw [CL.out]; simp [pa]
          go_wp2_with fail
          go_ret
          exact ⟨by first | exact CQ.out _ CY.out | exact CQ2.out _ (CY.out.trans CE.out), HBF.out⟩
      · have z0 : (l.length : Int) = 0 := by omega
        have zb : ((l.length : Int) == 0) = true := by rw [z0]; rfl
        have CY : Hid (false = (decide (a ≠ b) && cls ⟨cs, (m : Int), ls⟩ l A F (a : Int) (b : Int))) := by show _ = _; rw [CL.out]; simp [hz]
        go_wp2_with fail
        go_ret
        exact ⟨by first | exact CQ.out _ CY.out | exact CQ2.out _ (CY.out.trans CE.out), HBF.out⟩
end Go.Proofs.YtjgaaofpfepfhaaDoor

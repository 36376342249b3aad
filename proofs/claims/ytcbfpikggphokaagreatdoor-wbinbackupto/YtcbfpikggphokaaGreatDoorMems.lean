/-
  The program's reader, on: the sizes of the two memories, as the parser tells.
-/
import Derived.Test.YtcbfpikggphokaaGreatDoorDatum
namespace Go.Proofs.YtcbfpikggphokaaGreatDoor
open Go.RowKit

def two (l : List Int) (r : List UInt8) : Option ((Int × Int) × List UInt8) := match l with
  | [a, b] => if a = 0 ∧ b = 0 then none else some ((a, b), r)
  | _ => none
def mmP (l : List UInt8) : Option ((Int × Int) × List UInt8) := (manyP oneP l).bind fun x => two x.1 x.2
theorem mm_bind (s : Option (List UInt8)) : s.bind mmP = (s.bind (manyP oneP)).bind fun x => two x.1 x.2 := by
  cases s <;> rfl
theorem two_no {l : List Int} (h : l.length ≠ 2) (r : List UInt8) : two l r = none := by
  unfold two
  split
  · exact absurd rfl h
  · rfl
theorem But.drew {X : Nat → Prop} {a b : World} (h : But X a b) : But X a b.drew := ⟨h.os, h.tape, h.output, h.size, h.block⟩
theorem RS.drew {w : World} {q : Nat} {s : Option (List UInt8)} (h : RS w q s) : RS w.drew q s := h
theorem enter104 (args : Array Value) (w : World) : (callFunc 104 args).run Tryz.prog w = .ok (.enter 104 args) w := by kernel_rfl
theorem results_25 {fn : Func} {p : Tmp} (h : fn.results = #[.cell p 25]) (tmps : Array Value) (w : World) (g : Nat) (cs : Array Value) (hs : cs.size = 2) (hp : tmps.getD p undef = .pointer (some ⟨g, 0, none⟩)) (hb : Row w g cs 25) :
    (results fn tmps).run Tryz.prog w = .ok (.agg cs) w := by
  have hi : (Tryz.prog.info? 25).map (·.size) = some 2 := by kernel_rfl
  have hl := run_loadVar_row (P := Tryz.prog) w g 25 25 cs _ _ hb Tryz.underlying25 rfl (by rw [hi, hs])
  have hp' : tmps[p]?.getD undef = .pointer (some ⟨g, 0, none⟩) := by simpa using hp
  simp [results, h, hp', asAddr, hl]
set_option maxRecDepth 100000 in
set_option maxHeartbeats 3200000 in
theorem mems_any (q : Nat) (s : Option (List UInt8)) (w : World) (h : RS w q s) :
    Calls Tryz.prog 127 #[ptr q] w fun e w' => ∃ a b, e = .returned (.agg #[.int .i64 a, .int .i64 b]) ∧ (I64 a ∧ I64 b) ∧ RS w' q (rest s mmP) ∧ But (One q) w w' ∧ ∀ x r, s.bind mmP = some (x, r) → x = (a, b) := by
  have hq := h.lt
  have hne : ¬ One q w.heap.size := fun e => by have : w.heap.size = q := e; omega
  have T := hide (many_ints 104 q 0 255 oneP enter104 (oneByte_any q) (by omega) s (w.alloc (.cells #[.int .i64 0, .int .i64 0] 25)) (h.kept (bel_one w _)))
  have RW := hide (Row.made w #[.int .i64 0, .int .i64 0] 25)
  have B0 := hide (bel_one w (.cells #[.int .i64 0, .int .i64 0] 25))
  clear h
  go_enter Tryz.func127, Tryz.ntmps127
  go_wp2_with fail
  refine T.out.mono ?_
  rintro e w1 ⟨v, xs, rfl, ⟨ad, cap, rfl, hel⟩, hs, b1, hx⟩
  have R1 := hide (b1.row RW.out hne)
  have B1 := hide ((But.of (X := One q) B0.out).trans b1)
  have HX := hide hx
  have HS := hide hs
  clear hx hs b1 T RW B0
  by_cases hlen : xs.length = 2
  · obtain ⟨a, b, rfl⟩ : ∃ a b, xs = [a, b] := by
      match xs, hlen with
      | [a, b], _ => exact ⟨a, b, rfl⟩
    obtain ⟨g, off, rfl, _, hia, c0⟩ := hel 0 (by simp)
    obtain ⟨g', off', hh, _, hib, c1⟩ := hel 1 (by simp)
    cases hh
    simp only [Nat.zero_mul, Nat.add_zero, Nat.one_mul, List.getElem_cons_zero, List.getElem_cons_succ] at c0 c1 hia hib
    clear hel
    have hl2 : ([a, b] : List Int).length = 2 := rfl
    rw [hl2]
    by_cases ha : a = 0
    · subst ha
      by_cases hb : b = 0
      · subst hb
        have RN : Hid (s.bind mmP = none) := hide (by
          rw [mm_bind]
          cases ho : s.bind (manyP oneP) with
          | none => rfl
          | some y =>
            have e := HX.out y.1 y.2 ho
            simp only [Option.bind_some, ← e]
            exact by simp [two])
        obtain ⟨_, ev, row⟩ := HS.out.row
        have FA := hide (fail_any q _ _ w1 row)
        clear row HX HS
        go_wp2_with fail
        refine FA.out.mono ?_
        rintro e w2 ⟨rfl, h2, b2⟩
        have R2 := hide (b2.row R1.out hne)
        have B2 := hide (B1.out.trans b2)
        have H2 := hide h2
        have d0 := R2.out.c 0 _ rfl
        have d1 := R2.out.c 1 _ rfl
        have z := R2.out.fr
        clear h2 b2 FA
        go_wp2_with fail
        refine bodyPost_ret (results_25 rfl _ _ w.heap.size _ rfl rfl ((R2.out.set 0 _).set 1 _)) rfl ?_
        refine ⟨0, 0, rfl, ⟨⟨by decide, by decide⟩, ⟨by decide, by decide⟩⟩, ?_, (B2.out.set 0 _ (Or.inr (Nat.le_refl _))).set 1 _ (Or.inr (Nat.le_refl _)), ?_⟩
        · rw [rest_none RN.out]
          exact (H2.out.other R2.out (by decide) (by omega) 0 _).other (R2.out.set 0 _) (by decide) (by omega) 1 _
        · intro x r e; rw [RN.out] at e; cases e
      · have g2 : (b == 0) = false := by simpa using hb
        have RN : Hid (s.bind mmP = (s.bind (manyP oneP)).map fun x => ((0, b), x.2)) := hide (by
          rw [mm_bind]
          cases ho : s.bind (manyP oneP) with
          | none => rfl
          | some y =>
            have e := HX.out y.1 y.2 ho
            simp [← e, two, hb])
        have d0 := R1.out.c 0 _ rfl
        have d1 := R1.out.c 1 _ rfl
        have z := R1.out.fr
        clear HX
        go_wp2_with fail
        go_region
        go_wp2_with fail
        refine bodyPost_ret (results_25 rfl _ _ w.heap.size _ rfl rfl ((R1.out.set 0 _).set 1 _)) rfl ?_
        refine ⟨0, b, rfl, ⟨hia, hib⟩, ?_, ((B1.out.set 0 _ (Or.inr (Nat.le_refl _))).set 1 _ (Or.inr (Nat.le_refl _))).drew, ?_⟩
        · have er : rest s mmP = rest s (manyP oneP) := by
            unfold rest
            rw [show s.bind mmP = _ from RN.out, Option.map_map]
            rfl
          rw [er]
          exact ((HS.out.other R1.out (by decide) (by omega) 0 _).other (R1.out.set 0 _) (by decide) (by omega) 1 _).drew
        · intro x r e
          rw [RN.out] at e
          obtain ⟨y, _, e2⟩ := Option.map_eq_some_iff.1 e
          cases e2
          rfl
    · have g2 : (a == 0) = false := by simpa using ha
      have RN : Hid (s.bind mmP = (s.bind (manyP oneP)).map fun x => ((a, b), x.2)) := hide (by
        rw [mm_bind]
        cases ho : s.bind (manyP oneP) with
        | none => rfl
        | some y =>
          have e := HX.out y.1 y.2 ho
          simp [← e, two, ha])
      have d0 := R1.out.c 0 _ rfl
      have d1 := R1.out.c 1 _ rfl
      have z := R1.out.fr
      clear HX
      go_wp2_with fail
      go_region
      go_wp2_with fail
      refine bodyPost_ret (results_25 rfl _ _ w.heap.size _ rfl rfl ((R1.out.set 0 _).set 1 _)) rfl ?_
      refine ⟨a, b, rfl, ⟨hia, hib⟩, ?_, ((B1.out.set 0 _ (Or.inr (Nat.le_refl _))).set 1 _ (Or.inr (Nat.le_refl _))).drew, ?_⟩
      · have er : rest s mmP = rest s (manyP oneP) := by
          unfold rest
          rw [show s.bind mmP = _ from RN.out, Option.map_map]
          rfl
        rw [er]
        exact ((HS.out.other R1.out (by decide) (by omega) 0 _).other (R1.out.set 0 _) (by decide) (by omega) 1 _).drew
      · intro x r e
        rw [RN.out] at e
        obtain ⟨y, _, e2⟩ := Option.map_eq_some_iff.1 e
        cases e2
        rfl
  · have g1 : (((xs.length : Nat) : Int) != 2) = true := by simp; omega
    have RN : Hid (s.bind mmP = none) := hide (by
      rw [mm_bind]
      cases ho : s.bind (manyP oneP) with
      | none => rfl
      | some y =>
        have e := HX.out y.1 y.2 ho
        simp only [Option.bind_some, ← e]
        exact two_no hlen _)
    obtain ⟨_, ev, row⟩ := HS.out.row
    have FA := hide (fail_any q _ _ w1 row)
    clear row HX HS
    go_wp2_with fail
    refine FA.out.mono ?_
    rintro e w2 ⟨rfl, h2, b2⟩
    have R2 := hide (b2.row R1.out hne)
    have B2 := hide (B1.out.trans b2)
    have H2 := hide h2
    have d0 := R2.out.c 0 _ rfl
    have d1 := R2.out.c 1 _ rfl
    have z := R2.out.fr
    clear h2 b2 FA
    go_wp2_with fail
    refine bodyPost_ret (results_25 rfl _ _ w.heap.size _ rfl rfl ((R2.out.set 0 _).set 1 _)) rfl ?_
    refine ⟨0, 0, rfl, ⟨⟨by decide, by decide⟩, ⟨by decide, by decide⟩⟩, ?_, (B2.out.set 0 _ (Or.inr (Nat.le_refl _))).set 1 _ (Or.inr (Nat.le_refl _)), ?_⟩
    · rw [rest_none RN.out]
      exact (H2.out.other R2.out (by decide) (by omega) 0 _).other (R2.out.set 0 _) (by decide) (by omega) 1 _
    · intro x r e; rw [RN.out] at e; cases e

end Go.Proofs.YtcbfpikggphokaaGreatDoor

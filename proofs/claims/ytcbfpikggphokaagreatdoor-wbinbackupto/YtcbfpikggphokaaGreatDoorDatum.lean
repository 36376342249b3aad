/-
  The program's reader, on: a datum, as the parser tells; strings.Clone by the library's own theorem, laid at this program's numbers.
-/
import Derived.Test.YtcbfpikggphokaaGreatDoorCode
import Derived.Shelf.Pu.Clone
namespace Go.Proofs.YtcbfpikggphokaaGreatDoor
open Go.Shelf Go.RowKit

def renC : Go.Shelf.Ren := ⟨fun | 25 => 157 | n => n, fun | 37 => 55 | 47 => 201 | n => n, fun | n => n⟩
theorem lays25 : Go.Proofs.LaysPu.n25 Tryz.prog renC := {
  mixed := by kernel_rfl
  f25 := Tryz.func157.trans (congrArg some (by kernel_rfl))
  t0 := Tryz.underlying0
  a0 := Tryz.isAgg0
  z0 := Tryz.sizeOf0
  v0 := Tryz.zeroValue0
  i0 := by kernel_rfl
  t3 := Tryz.underlying3
  a3 := Tryz.isAgg3
  z3 := Tryz.sizeOf3
  v3 := Tryz.zeroValue3
  i3 := by kernel_rfl
  t4 := Tryz.underlying4
  a4 := Tryz.isAgg4
  z4 := Tryz.sizeOf4
  v4 := Tryz.zeroValue4
  i4 := by kernel_rfl
  t5 := Tryz.underlying5
  a5 := Tryz.isAgg5
  z5 := Tryz.sizeOf5
  v5 := Tryz.zeroValue5
  i5 := by kernel_rfl
  t9 := Tryz.underlying9
  a9 := Tryz.isAgg9
  z9 := Tryz.sizeOf9
  v9 := Tryz.zeroValue9
  i9 := by kernel_rfl
  t37 := Tryz.underlying55
  a37 := Tryz.isAgg55
  z37 := Tryz.sizeOf55
  v37 := Tryz.zeroValue55
  i37 := by kernel_rfl
  t47 := Tryz.underlying201
  a47 := Tryz.isAgg201
  z47 := Tryz.sizeOf201
  v47 := Tryz.zeroValue201
  i47 := by kernel_rfl }
theorem clone_any (s : ByteArray) (w : World) (h : s.size ≤ 4000) : Calls Tryz.prog 150 #[.string s] w fun e w' => e = .returned (.string s) ∧ Below w.heap.size w w' := by
  have T : Hid (Calls Tryz.prog 157 #[.string s] w fun e w' => e = .returned (.string s) ∧ Below w.heap.size w w') := hide (AnyPu.stringslite_Clone lays25 s w (by omega))
  go_enter Tryz.func150, Tryz.ntmps150
  go_wp2_with fail
  refine T.out.mono ?_
  rintro e w1 ⟨rfl, b1⟩
  go_wp2_with fail
  go_ret
  exact ⟨rfl, b1⟩
theorem da_bind (s : Option (List UInt8)) : s.bind daP = (s.bind numP).bind fun x => (numP x.2).bind fun y => (cntP y.2).map fun z => (⟨x.1, y.1, z.1⟩, z.2) := by
  cases s <;> rfl
theorem da_rest (s : Option (List UInt8)) : rest s daP = rest (rest (rest s numP) numP) cntP := by
  unfold rest
  rw [da_bind]
  cases s.bind numP with
  | none => rfl
  | some x =>
    simp only [Option.bind_some, Option.map_some]
    cases numP x.2 with
    | none => rfl
    | some y =>
      simp only [Option.bind_some, Option.map_some]
      cases cntP y.2 <;> rfl
set_option maxHeartbeats 3200000 in
theorem datum_any (q : Nat) : REda 132 q daP := by
  intro s w h
  have hq := h.lt
  have hne : ¬ One q w.heap.size := fun e => by have : w.heap.size = q := e; omega
  have T := hide (number_any q s (w.alloc (.cells #[.int .i64 0, .int .i64 0, .string ⟨#[]⟩] 73)) (h.kept (bel_one w _)))
  have RW := hide (Row.made w #[.int .i64 0, .int .i64 0, .string ⟨#[]⟩] 73)
  have B0 := hide (bel_one w (.cells #[.int .i64 0, .int .i64 0, .string ⟨#[]⟩] 73))
  clear h
  go_enter Tryz.func132, Tryz.ntmps132
  go_wp2_with fail
  refine T.out.mono ?_
  rintro e w1 ⟨i1, rfl, hi0, hi1, hx, hs, b1⟩
  have R1 := hide (b1.row RW.out hne)
  have B1 := hide ((But.of (X := One q) B0.out).trans b1)
  have HX := hide hx
  have T2 := hide (number_any q _ w1 hs)
  clear hx hs b1 T RW B0
  go_wp2_with fail
  refine T2.out.mono ?_
  rintro e w2 ⟨i2, rfl, hj0, hj1, hx2, hs2, b2⟩
  have R2 := hide (b2.row R1.out hne)
  have B2 := hide (B1.out.trans b2)
  have HX2 := hide hx2
  have hl := got_len hs2
  have T3 := hide (counted_any q _ w2 hs2)
  clear hx2 hs2 b2 T2 R1 B1
  obtain ⟨b, hb⟩ : ∃ b, b = got [] (rest (rest s numP) numP) cntP := ⟨_, rfl⟩
  rw [← hb] at T3 hl
  have HB := hide hb
  clear hb
  go_wp2_with fail
  refine T3.out.mono ?_
  rintro e w3 ⟨rfl, hs3, b3⟩
  have R3 := hide (b3.row R2.out hne)
  have B3 := hide (B2.out.trans b3)
  have HS3 := hide hs3
  have T4 := hide (clone_any (str b) w3 (by rw [str_size]; exact hl))
  clear hs3 b3 T3 R2 B2
  go_wp2_with fail
  refine T4.out.mono ?_
  rintro e w4 ⟨rfl, b4⟩
  have R4 := hide (R3.out.kept b4)
  have B4 := hide (B3.out.trans (But.of b4))
  have HS4 := hide (HS3.out.kept b4)
  have c0 := R4.out.c 0 _ rfl
  have c1 := R4.out.c 1 _ rfl
  have c2 := R4.out.c 2 _ rfl
  have z := R4.out.fr
  clear b4 T4 R3 B3 HS3
  go_wp2_with fail
  refine bodyPost_ret (results_73 rfl _ _ w.heap.size _ rfl rfl (((R4.out.set 0 _).set 1 _).set 2 _)) rfl ?_
  refine ⟨i1, i2, str b, rfl, ?_, ((B4.out.set 0 _ (Or.inr (Nat.le_refl _))).set 1 _ (Or.inr (Nat.le_refl _))).set 2 _ (Or.inr (Nat.le_refl _)), ?_⟩
  · rw [da_rest]
    exact ((HS4.out.other R4.out (by decide) (by omega) 0 _).other (R4.out.set 0 _) (by decide) (by omega) 1 _).other ((R4.out.set 0 _).set 1 _) (by decide) (by omega) 2 _
  · intro x r e
    rw [da_bind] at e
    cases hn : s.bind numP with
    | none => rw [hn] at e; cases e
    | some y =>
      rw [hn] at e
      simp only [Option.bind_some] at e
      have e1 := HX.out y.1 y.2 hn
      have h2 := HX2.out
      have h3 := HB.out
      rw [rest_some (x := y.1) (r := y.2) hn] at h2 h3
      cases hm : numP y.2 with
      | none => rw [hm] at e; cases e
      | some u =>
        rw [hm] at e
        simp only [Option.bind_some] at e
        have e2 := h2 u.1 u.2 (by simpa using hm)
        rw [rest_some (x := u.1) (r := u.2) (by simpa using hm)] at h3
        cases hc : cntP u.2 with
        | none => rw [hc] at e; cases e
        | some t =>
          rw [hc] at e
          simp only [Option.map_some] at e
          rw [got_some (x := t.1) (r := t.2) (by simpa using hc)] at h3
          cases e
          subst e1 e2 h3
          exact ⟨⟨by unfold I64; simp only; omega, by unfold I64; simp only; omega⟩, rfl, rfl, rfl⟩
end Go.Proofs.YtcbfpikggphokaaGreatDoor

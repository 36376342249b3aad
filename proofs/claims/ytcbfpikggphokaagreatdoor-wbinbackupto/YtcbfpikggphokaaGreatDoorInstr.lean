/-
  The program's reader, on: an instruction, as the parser tells.
-/
import Derived.Test.YtcbfpikggphokaaGreatDoorSome
namespace Go.Proofs.YtcbfpikggphokaaGreatDoor
open Go.RowKit

theorem instr_pre (q : Nat) (s : Option (List UInt8)) (w : World) (h : RS w q s) : ∃ l op n m r e, (∃ ev, Row w q #[.string (str l), ev] 129) ∧
    (∀ w1, Calls Tryz.prog 156 #[.string (str l)] w1 fun x w' => x = .returned (.tuple #[ins op n m, .string (str r), .int .i64 e]) ∧ Below w1.heap.size w1 w') ∧
    (∀ w1, RS w1 q s → Calls Tryz.prog 141 #[ptr q, .string (str r), .int .i64 e] w1 fun x w' => x = none0 ∧ RS w' q (rest s tkI) ∧ But (One q) w1 w') ∧
    (∀ x t, s.bind tkI = some (x, t) → x = (op, n, m)) ∧ I64 op ∧ I64 n ∧ I64 m := by
  have z0 : I64 0 := ⟨by decide, by decide⟩
  cases s with
  | none =>
    obtain ⟨p, hp, row, hf⟩ := h
    exact ⟨[], 0, 0, 0, [], 6, ⟨_, row⟩, fun w1 => take_none [] w1 (by simp) rfl, fun w1 h1 => by rw [rest_none rfl]; exact settle_no q none (str []) 6 w1 h1 (by decide), (fun x t e => by cases e), z0, z0, z0⟩
  | some l =>
    have hl := h.1
    cases ht : tkI l with
    | none =>
      have hP : (some l).bind tkI = none := by simpa using ht
      exact ⟨l, 0, 0, 0, [], 6, ⟨_, h.2⟩, fun w1 => take_none l w1 (by omega) ht, fun w1 h1 => by rw [rest_none hP]; exact settle_no q (some l) (str []) 6 w1 h1 (by decide), (fun x t e => by rw [hP] at e; cases e), z0, z0, z0⟩
    | some y =>
      obtain ⟨⟨op, n, m⟩, r⟩ := y
      have hP : (some l).bind tkI = some ((op, n, m), r) := by simpa using ht
      have b := back_2 ht
      have hop : I64 op := by
        cases l with
        | nil => simp [tkI] at ht
        | cons d t =>
          simp only [tkI, Option.map_eq_some_iff] at ht
          obtain ⟨x, _, e⟩ := ht
          simp only [Prod.mk.injEq] at e
          have := d.toNat_lt
          unfold I64
          omega
      exact ⟨l, op, n, m, r, 0, ⟨_, h.2⟩, fun w1 => take_some l op n m r w1 (by omega) ht, fun w1 h1 => by rw [rest_some hP]; exact settle_yes q l r w1 h1 (by have := b.2.2.2.2; omega), (fun x t e => by rw [hP] at e; cases e; rfl), hop, b.2.2.1, b.2.2.2.1⟩
theorem results_52 {fn : Func} {p : Tmp} (h : fn.results = #[.cell p 52]) (tmps : Array Value) (w : World) (g : Nat) (cs : Array Value) (hs : cs.size = 3) (hp : tmps.getD p undef = .pointer (some ⟨g, 0, none⟩)) (hb : Row w g cs 52) :
    (results fn tmps).run Tryz.prog w = .ok (.agg cs) w := by
  have hi : (Tryz.prog.info? 52).map (·.size) = some 3 := by kernel_rfl
  have hl := run_loadVar_row (P := Tryz.prog) w g 52 52 cs _ _ hb Tryz.underlying52 rfl (by rw [hi, hs])
  have hp' : tmps[p]?.getD undef = .pointer (some ⟨g, 0, none⟩) := by simpa using hp
  simp [results, h, hp', asAddr, hl]
set_option maxHeartbeats 3200000 in
theorem instr_any (q : Nat) (s : Option (List UInt8)) (w : World) (h : RS w q s) :
    Calls Tryz.prog 148 #[ptr q] w fun e w' => ∃ op n m, e = .returned (ins op n m) ∧ (I64 op ∧ I64 n ∧ I64 m) ∧ RS w' q (rest s tkI) ∧ But (One q) w w' ∧ ∀ x r, s.bind tkI = some (x, r) → x = (op, n, m) := by
  obtain ⟨l, op, n, m, r, e, ⟨ev, row⟩, hT, hS, hX, hI⟩ := instr_pre q s w h
  have hq := h.lt
  have hne : ¬ One q w.heap.size := fun e => by have : w.heap.size = q := e; omega
  have H := hide h
  have HX := hide hX
  have HI := hide hI
  have T := hide (hT (w.alloc (.cells #[.int .i64 0, .int .i64 0, .int .i64 0] 52)))
  have ST := hide hS
  have RW := hide (Row.made w #[.int .i64 0, .int .i64 0, .int .i64 0] 52)
  have RQ := hide (row.alloc (.cells #[.int .i64 0, .int .i64 0, .int .i64 0] 52))
  have c0 := RQ.out.c 0 _ rfl
  have B0 := hide (bel_one w (.cells #[.int .i64 0, .int .i64 0, .int .i64 0] 52))
  have hA : Hid ((w.alloc (.cells #[.int .i64 0, .int .i64 0, .int .i64 0] 52)).heap.size = w.heap.size + 1) := hide (by simp)
  clear h hX hI hT hS row
  go_enter Tryz.func148, Tryz.ntmps148
  go_wp2_with fail
  refine T.out.mono ?_
  rintro e' w1 ⟨rfl, b1⟩
  have R1 := hide (RW.out.kept b1)
  have B1 := hide (B0.out.trans (b1.mono (by have := hA.out; omega)))
  have hs1 : w.heap.size < w1.heap.size := by have := b1.size; have := hA.out; omega
  clear b1 T RW RQ B0 c0
  unfold ins
  have B2 := hide (B1.out.trans ((bel_one w1 (.cells #[.int .i64 op, .int .i64 n, .int .i64 m] 52)).mono (by omega)))
  have S2 := hide (ST.out _ (H.out.kept B2.out))
  clear ST H
  go_wp2_with fail
  refine S2.out.mono ?_
  rintro e' w2 ⟨rfl, h2, b2⟩
  have R2 := hide (b2.row (R1.out.alloc _) hne)
  have M2 := hide (b2.row (Row.made w1 #[.int .i64 op, .int .i64 n, .int .i64 m] 52) (fun e => by have : w1.heap.size = q := e; omega))
  have B3 := hide ((But.of (X := One q) B2.out).trans b2)
  have H2 := hide h2
  have c0 := R2.out.c 0 _ rfl
  have c1 := R2.out.c 1 _ rfl
  have c2 := R2.out.c 2 _ rfl
  have z := R2.out.fr
  have d0 := M2.out.c 0 _ rfl
  have d1 := M2.out.c 1 _ rfl
  have d2 := M2.out.c 2 _ rfl
  clear h2 b2 S2 R1 B1 B2
  go_wp2_with fail
  refine bodyPost_ret (results_52 rfl _ _ w.heap.size _ rfl rfl (((R2.out.set 0 _).set 1 _).set 2 _)) rfl ?_
  refine ⟨op, n, m, rfl, HI.out, ?_, ((B3.out.set 0 _ (Or.inr (Nat.le_refl _))).set 1 _ (Or.inr (Nat.le_refl _))).set 2 _ (Or.inr (Nat.le_refl _)), HX.out⟩
  exact ((H2.out.other R2.out (by decide) (by omega) 0 _).other (R2.out.set 0 _) (by decide) (by omega) 1 _).other ((R2.out.set 0 _).set 1 _) (by decide) (by omega) 2 _
end Go.Proofs.YtcbfpikggphokaaGreatDoor

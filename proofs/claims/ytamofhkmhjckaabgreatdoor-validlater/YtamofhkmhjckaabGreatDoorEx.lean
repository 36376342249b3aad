/-
  The chapter's examples: the program answers them as they stand.
-/
import Derived.Test.YtamofhkmhjckaabGreatDoorChkV
import Derived.Test.YtamofhkmhjckaabGreatDoorTrustP
namespace Go.Proofs.YtamofhkmhjckaabGreatDoor
open Go.RowKit

def celsI (l : List In) : List Value := l.flatMap fun x => [.int .i64 x.op, .int .i64 x.n, .int .i64 x.m]
theorem celsI_at : ∀ (l : List In) (j : Nat) (h : j < l.length), (celsI l)[j * 3]? = some (.int .i64 l[j].op) ∧ (celsI l)[j * 3 + 1]? = some (.int .i64 l[j].n) ∧ (celsI l)[j * 3 + 2]? = some (.int .i64 l[j].m)
  | x :: r, 0, _ => by simp [celsI]
  | x :: r, j + 1, h => by
    have ih := celsI_at r j (by simpa using h)
    have e : celsI (x :: r) = [.int .i64 x.op, .int .i64 x.n, .int .i64 x.m] ++ celsI r := by simp [celsI]
    rw [e]
    refine ⟨?_, ?_, ?_⟩
    · rw [List.getElem?_append_right (by simp; omega)]; simp only [List.length_cons, List.length_nil]; rw [show (j + 1) * 3 - (0 + 1 + 1 + 1) = j * 3 by omega]; exact ih.1
    · rw [List.getElem?_append_right (by simp; omega)]; simp only [List.length_cons, List.length_nil]; rw [show (j + 1) * 3 + 1 - (0 + 1 + 1 + 1) = j * 3 + 1 by omega]; exact ih.2.1
    · rw [List.getElem?_append_right (by simp; omega)]; simp only [List.length_cons, List.length_nil]; rw [show (j + 1) * 3 + 2 - (0 + 1 + 1 + 1) = j * 3 + 2 by omega]; exact ih.2.2
def I64I (x : In) : Prop := I64 x.op ∧ I64 x.n ∧ I64 x.m
theorem sl_ins {l : List In} (hl : ∀ x ∈ l, I64I x) {W : World} {b : Nat} {cs : Array Value} {ty : TypeId} (h : Row W b cs ty) (hc : cs = (celsI l).toArray) {S : Nat → Prop} (hS : S b) : Sl 3 EIn S W (.slice (some ⟨b, 0, none⟩) l.length l.length) l := by
  subst hc
  refine ⟨_, _, rfl, fun j hj => ⟨b, 0, rfl, hS, hl _ (List.getElem_mem hj), ?_, ?_, ?_⟩⟩
  · rw [Nat.zero_add]; exact h.c _ _ (by simpa using (celsI_at l j hj).1)
  · rw [Nat.zero_add]; exact h.c _ _ (by simpa using (celsI_at l j hj).2.1)
  · rw [Nat.zero_add]; exact h.c _ _ (by simpa using (celsI_at l j hj).2.2)
theorem i64s {op n m : Int} (h : (decide (-1000 ≤ op) && decide (op ≤ 1000) && decide (-1000 ≤ n) && decide (n ≤ 1000) && decide (-1000 ≤ m) && decide (m ≤ 1000)) = true) : I64I ⟨op, n, m⟩ := by
  simp only [Bool.and_eq_true, decide_eq_true_eq] at h
  exact ⟨(⟨by omega, by omega⟩ : I64 op), (⟨by omega, by omega⟩ : I64 n), (⟨by omega, by omega⟩ : I64 m)⟩
def ex1 : List In := [⟨65, 1, 0⟩, ⟨11, 0, 0⟩]
def ex2 : List In := [⟨65, 1, 0⟩, ⟨240, 0, 0⟩, ⟨4, 0, 0⟩, ⟨11, 0, 0⟩, ⟨11, 0, 0⟩]
def ex3 : List In := [⟨0, 0, 0⟩, ⟨106, 0, 0⟩, ⟨26, 0, 0⟩, ⟨11, 0, 0⟩]
def ex4 : List In := [⟨11, 0, 0⟩]
theorem ex1_is : chkM (oneM ex1) = .error (3, 1) := by kernel_rfl
theorem ex2_is : chkM (oneM ex2) = .error (3, 2) := by kernel_rfl
theorem ex3_is : chkM (oneM ex3) = .ok [[0, -1, -1, -1]] := by kernel_rfl
theorem ex4_is : chkM (oneM ex4) = .ok [[0]] := by kernel_rfl
theorem ex_i64 : (∀ x ∈ ex1, I64I x) ∧ (∀ x ∈ ex2, I64I x) ∧ (∀ x ∈ ex3, I64I x) ∧ (∀ x ∈ ex4, I64I x) := by
  refine ⟨?_, ?_, ?_, ?_⟩ <;> intro x hx <;> simp only [ex1, ex2, ex3, ex4, List.mem_cons, List.not_mem_nil, or_false] at hx
  · rcases hx with rfl | rfl <;> exact i64s (by decide)
  · rcases hx with rfl | rfl | rfl | rfl | rfl <;> exact i64s (by decide)
  · rcases hx with rfl | rfl | rfl | rfl <;> exact i64s (by decide)
  · rcases hx with rfl; exact i64s (by decide)
/-- a literal of instructions, made a module -/
theorem one_lit {l : List In} (hl : ∀ x ∈ l, I64I x) (n : Nat) (hn : l.length = n) (cs : Array Value) (hc : cs = (celsI l).toArray) (ty : TypeId) (w : World) (b : Nat) (hb : b = w.heap.size) :
    Calls Tryz.prog 15 #[.slice (some ⟨b, 0, none⟩) n n] (w.alloc (.cells cs ty)) fun e w' => ∃ V, e = .returned (moV V (oneM l)) ∧ IsMo w'.heap.size w' V (oneM l) ∧ Below (w.alloc (.cells cs ty)).heap.size (w.alloc (.cells cs ty)) w' := by
  subst hn
  subst hb
  exact one_any _ _ l _ (sl_ins hl (Row.made w cs ty) hc (by show _ < _; simp))
theorem sl_lits {l : List Int} (hl : ∀ x ∈ l, I64 x) {W : World} {b : Nat} {cs : Array Value} {ty : TypeId} (h : Row W b cs ty) (hc : cs = (l.map (Value.int .i64)).toArray) {S : Nat → Prop} (hS : S b) : Sl 1 EInt S W (.slice (some ⟨b, 0, none⟩) l.length l.length) l := by
  subst hc
  refine ⟨_, _, rfl, fun j hj => ⟨b, 0, rfl, hS, hl _ (List.getElem_mem hj), ?_⟩⟩
  rw [Nat.zero_add, Nat.mul_one]; exact h.c _ _ (by simp [hj])
theorem one_data (l : List In) : ∀ d ∈ (oneM l).data, d.bytes.length ≤ 4611686018427387904 := by simp [oneM]
set_option maxRecDepth 100000 in
set_option maxHeartbeats 4000000 in
theorem examples_any (w : World) (hL : Laid w) : Calls Tryz.prog 6 #[] w fun e w' => e = .returned (.bool true) ∧ Below w.heap.size w w' := by
  have X := hide ex_i64
  have R1 := hide ((Row.made w #[.int .i64 65, .int .i64 1, .int .i64 0] 44).kept (bel_one _ (.cells #[.int .i64 11, .int .i64 0, .int .i64 0] 44)))
  have R2 := hide (show Row ((w.alloc (.cells #[.int .i64 65, .int .i64 1, .int .i64 0] 44)).alloc (.cells #[.int .i64 11, .int .i64 0, .int .i64 0] 44)) (w.heap.size + 1) #[.int .i64 11, .int .i64 0, .int .i64 0] 44 by have := Row.made (w.alloc (.cells #[.int .i64 65, .int .i64 1, .int .i64 0] 44)) #[.int .i64 11, .int .i64 0, .int .i64 0] 44; simpa using this)
  have B0 := hide ((bel_one w (.cells #[.int .i64 65, .int .i64 1, .int .i64 0] 44)).alloc (by simp) (.cells #[.int .i64 11, .int .i64 0, .int .i64 0] 44))
  have HL := hide hL
  clear hL
  go_enter Tryz.func6, Tryz.ntmps6
  go_wp2_with fail
  generalize hW : ((w.alloc (.cells #[.int .i64 65, .int .i64 1, .int .i64 0] 44)).alloc (.cells #[.int .i64 11, .int .i64 0, .int .i64 0] 44)) = W0 at R1 R2 B0 ⊢
  have hz : W0.heap.size = w.heap.size + 1 + 1 := by rw [← hW]; simp
  clear hW
  refine (one_lit X.out.1 2 rfl _ rfl 44 W0 _ hz.symm).mono ?_
  rintro e w1 ⟨V1, rfl, I1, b1⟩
  have R1a := (R1.out.alloc _).kept b1
  have R2a := (R2.out.alloc _).kept b1
  have B1 := hide (below_next (B0.out.alloc B0.out.size _) b1)
  clear b1
  go_wp2_with fail
  refine (valid_any V1 (oneM ex1) w1 (HL.out.kept B1.out) I1 (one_data _)).mono ?_
  intro e w2 he
  rw [ex1_is] at he
  obtain ⟨p1, rfl, F1, b2⟩ := he
  have R1b := R1a.kept b2
  have R2b := R2a.kept b2
  have B2 := hide (below_next B1.out b2)
  clear b2 R1a R2a I1
  go_wp2_with fail
  refine (told_fault p1 3 1 w2 (HL.out.kept B2.out) F1 (by decide)).mono ?_
  rintro e w3 ⟨rfl, b3⟩
  have R1c := R1b.kept b3
  have R2c := R2b.kept b3
  have B3 := hide (below_next B2.out b3)
  clear b3 R1b R2b F1
  have p0 := R1c.c 0 _ rfl
  have p1' := R1c.c 1 _ rfl
  have p2 := R1c.c 2 _ rfl
  have q0 := R2c.c 0 _ rfl
  have q1 := R2c.c 1 _ rfl
  have q2 := R2c.c 2 _ rfl
  go_wp2_with fail
  refine (one_lit X.out.2.1 5 rfl _ rfl 44 w3 _ rfl).mono ?_
  rintro e w4 ⟨V2, rfl, I2, b4⟩
  have R2d := (R2c.alloc _).kept b4
  have B4 := hide (below_next (B3.out.alloc B3.out.size _) b4)
  clear b4 p0 p1' p2 q0 q1 q2 R1c R2c
  go_wp2_with fail
  refine (valid_any V2 (oneM ex2) w4 (HL.out.kept B4.out) I2 (one_data _)).mono ?_
  intro e w5 he
  rw [ex2_is] at he
  obtain ⟨p5, rfl, F5, b5⟩ := he
  have R2e := R2d.kept b5
  have B5 := hide (below_next B4.out b5)
  clear b5 R2d I2
  go_wp2_with fail
  refine (told_fault p5 3 2 w5 (HL.out.kept B5.out) F5 (by decide)).mono ?_
  rintro e w6 ⟨rfl, b6⟩
  have R2f := R2e.kept b6
  have B6 := hide (below_next B5.out b6)
  clear b6 R2e F5
  have q0 := R2f.c 0 _ rfl
  have q1 := R2f.c 1 _ rfl
  have q2 := R2f.c 2 _ rfl
  go_wp2_with fail
  refine (one_lit X.out.2.2.1 4 rfl _ rfl 44 w6 _ rfl).mono ?_
  rintro e w7 ⟨V3, rfl, I3, b7⟩
  have R2g := (R2f.alloc _).kept b7
  have B7 := hide (below_next (B6.out.alloc B6.out.size _) b7)
  clear b7 q0 q1 q2 R2f
  go_wp2_with fail
  refine (heights_any V3 (oneM ex3) 0 w7 (HL.out.kept B7.out) I3 (one_data _)).mono ?_
  intro e w8 he
  rw [ex3_is] at he
  rcases he with ⟨hn, _⟩ | ⟨k, g, av, cv, hk, hg, _, rfl, S8, b8⟩
  · exact absurd ⟨by decide, by decide⟩ hn
  obtain rfl : k = 0 := by omega
  obtain rfl : [0, -1, -1, -1] = g := by simpa using hg
  have R2h := R2g.kept b8
  have B8 := hide (below_next B7.out b8)
  have S9 := hide ((S8.to keeps_int (T := Lt w8.heap.size) (fun _ _ => rfl) (fun i hi => hi.2)).step keeps_int (bel_one w8 (.cells #[.int .i64 0, .int .i64 (-1), .int .i64 (-1), .int .i64 (-1)] 3)) (bel_one w8 (.cells #[.int .i64 0, .int .i64 (-1), .int .i64 (-1), .int .i64 (-1)] 3)).size)
  have T9 := hide (sl_lits (l := [0, -1, -1, -1]) (fun x hx => by simp only [List.mem_cons, List.not_mem_nil, or_false] at hx; rcases hx with rfl | rfl | rfl | rfl <;> exact ⟨by decide, by decide⟩) (Row.made w8 #[.int .i64 0, .int .i64 (-1), .int .i64 (-1), .int .i64 (-1)] 3) rfl (S := Lt (w8.alloc (.cells #[.int .i64 0, .int .i64 (-1), .int .i64 (-1), .int .i64 (-1)] 3)).heap.size) (by show _ < _; simp))
  clear b8 R2g S8 hg hk I3
  go_wp2_with fail
  refine (numbers_is _ _ [0, -1, -1, -1] [0, -1, -1, -1] true _ (by simp) S9.out T9.out rfl).mono ?_
  rintro e w9 ⟨rfl, b9⟩
  have R2i := (R2h.alloc _).kept b9
  have B9 := hide (below_next (B8.out.alloc B8.out.size _) b9)
  clear b9 R2h
  have q0 := R2i.c 0 _ rfl
  have q1 := R2i.c 1 _ rfl
  have q2 := R2i.c 2 _ rfl
  go_wp2_with fail
  refine (one_lit X.out.2.2.2 1 rfl _ rfl 44 w9 _ rfl).mono ?_
  rintro e w10 ⟨V4, rfl, I4, b10⟩
  have B10 := hide (below_next (B9.out.alloc B9.out.size _) b10)
  clear b10 q0 q1 q2 R2i
  go_wp2_with fail
  refine (valid_any V4 (oneM ex4) w10 (HL.out.kept B10.out) I4 (one_data _)).mono ?_
  intro e w11 he
  rw [ex4_is] at he
  obtain ⟨rfl, b11⟩ := he
  have B11 := hide (below_next B10.out b11)
  clear b11 I4
  go_wp2_with fail
  go_ret
  exact ⟨rfl, B11.out⟩
end Go.Proofs.YtamofhkmhjckaabGreatDoor

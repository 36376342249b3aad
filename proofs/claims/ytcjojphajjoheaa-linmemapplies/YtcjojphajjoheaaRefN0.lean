/-
  The document's New answers what the program's does.
-/
import Derived.Test.YtcjojphajjoheaaRefS
import Derived.Deep.OwnRows
namespace Go.Proofs.Ytcjojphajjoheaa
open Go.RowKit

/-- make([]byte, n). -/
theorem made_row (w : World) (n : Nat) : BRow (w.alloc (.cells (madeCells #[.int .u8 0] n) 5)) w.heap.size (List.replicate n 0) := by
  refine BRow.made w _ 5 _ fun j hj => ?_
  simp only [List.length_replicate] at hj
  rw [Array.getElem?_eq_getElem (by rw [size_madeCells]; exact hj), List.getElem_replicate]
  simp [madeCells, Nat.mod_one]
theorem wpList_make {ops : Array Oper} {rest : List Oper} {o : Oper} {a : Act} {w : World} {Q : Exit → Act → World → Prop} (hgd : o.guard = none) (x y : Operand) (ho : o.op = .makeSlice 51 x y) (n : Nat) (hx : a.eval x = .int .i64 (n : Int)) (hy : a.eval y = .int .i64 (n : Int)) (hn : n ≤ 4096)
    (h : ∀ w', Hid (BRow w' w.heap.size (List.replicate n 0)) → Hid (Below w.heap.size w w') → wpList Try.prog ops Q rest (a.put o.dst (.slice (some ⟨w.heap.size, 0, none⟩) n n)) w') : wpList Try.prog ops Q (o :: rest) a w := by
  refine wpList_plain hgd fun K hK => ?_
  have hrun := run_make_row' (P := Try.prog) 51 5 (.int .u8 0) 1 (by kernel_rfl) (by kernel_rfl) rfl .i64 .i64 n (by omega) (by omega) w
  unfold Oper.wp
  simp only [execOp, ho, hx, hy, Sem.run_bind, hrun, Result.andThen_ok]
  exact hK _ _ (h _ (made_row w n) (bel_one w _))
theorem pw_size (e : Int) (h3 : 3 ≤ e) (h12 : e ≤ 12) : wrap64 ((2 : Int) ^ e.toNat) = (pw e : Int) := by
  have : e = 3 ∨ e = 4 ∨ e = 5 ∨ e = 6 ∨ e = 7 ∨ e = 8 ∨ e = 9 ∨ e = 10 ∨ e = 11 ∨ e = 12 := by omega
  rcases this with rfl | rfl | rfl | rfl | rfl | rfl | rfl | rfl | rfl | rfl <;> decide +kernel
/-- The memory of its own size. -/
def rr (sz : Nat) (k : Int) (l : List Da) : List UInt8 := l.foldl (dat1 sz k) (List.replicate sz 0)
theorem rr_len (sz : Nat) (k : Int) (l : List Da) : (rr sz k l).length = sz := by
  unfold rr
  have : ∀ (l : List Da) (r : List UInt8), r.length = sz → (l.foldl (dat1 sz k) r).length = sz := by
    intro l
    induction l with
    | nil => intro r hr; exact hr
    | cons d l ih => intro r hr; exact ih _ (by rw [dat1_len _ _ _ _ (by omega)]; exact hr)
  exact this l _ List.length_replicate
theorem rr_succ (sz : Nat) (k : Int) (l : List Da) (j : Nat) (h : j < l.length) : rr sz k (l.take (j + 1)) = dat1 sz k (rr sz k (l.take j)) l[j] := by
  unfold rr; rw [List.take_succ_eq_append_getElem h, List.foldl_append]; rfl
theorem dat1_take (sz : Nat) (k : Int) (r : List UInt8) (d : Da) (hr : sz ≤ r.length) : (dat1 sz k r d).take sz = dat1 sz k (r.take sz) d := by
  unfold dat1
  split
  · rename_i h
    simp only [splice]
    have h1 : (r.take d.pos.toNat).length = d.pos.toNat := by rw [List.length_take]; omega
    have h2 : (d.bytes.take (sz - d.pos.toNat)).length ≤ sz - d.pos.toNat := by rw [List.length_take]; omega
    rw [List.take_append, h1, List.take_of_length_le (by omega), List.take_append, List.take_of_length_le h2, List.take_take, Nat.min_eq_left (by omega)]
    congr 2
    rw [List.take_drop]
    congr 2
    omega
  · rfl
theorem new_rr (sz : Nat) (k : Int) (l : List Da) (h : sz ≤ 4096) : (room sz k l).take sz = rr sz k l := by
  unfold room rr
  have : ∀ (l : List Da) (r : List UInt8), sz ≤ r.length → (l.foldl (dat1 sz k) r).take sz = l.foldl (dat1 sz k) (r.take sz) := by
    intro l
    induction l with
    | nil => intro r hr; rfl
    | cons d l ih => intro r hr; rw [List.foldl_cons, ih _ (by rw [dat1_len _ _ _ _ hr]; exact hr), dat1_take _ _ _ _ hr]; rfl
  rw [this l _ (by rw [List.length_replicate]; exact h), List.take_replicate, Nat.min_eq_left h]
/-- A datum on its way. -/
def dj (sz : Nat) (r : List UInt8) (p : Int) (bs : List UInt8) (i : Nat) : List UInt8 := if 0 ≤ p ∧ p < sz then splice r p.toNat (bs.take (min i (sz - p.toNat))) else r
theorem dj_len {sz : Nat} {r : List UInt8} (p : Int) (bs : List UInt8) (i : Nat) (h : r.length = sz) : (dj sz r p bs i).length = sz := by
  unfold dj; split
  · rw [length_splice]
    · exact h
    · rw [List.length_take]; omega
  · exact h
theorem dj_zero (sz : Nat) (r : List UInt8) (p : Int) (bs : List UInt8) : dj sz r p bs 0 = r := by
  unfold dj; split
  · simp [splice]
  · rfl
theorem dj_end (sz : Nat) (k : Int) (r : List UInt8) (p : Int) (bs : List UInt8) (i : Nat) (h : bs.length ≤ i ∨ sz ≤ i) : dj sz r p bs i = dat1 sz k r ⟨k, p, bs⟩ := by
  unfold dj dat1
  by_cases hp : 0 ≤ p ∧ p < sz
  · rw [if_pos hp, if_pos ⟨rfl, hp.1, hp.2⟩]
    congr 1
    rcases h with h | h
    · by_cases h2 : sz - p.toNat ≤ i
      · rw [Nat.min_eq_right h2]
      · rw [List.take_of_length_le (by omega), List.take_of_length_le (by simp only; omega)]
    · rw [Nat.min_eq_right (by omega)]
  · rw [if_neg hp, if_neg (fun q => hp ⟨q.2.1, q.2.2⟩)]
theorem dj_none (sz : Nat) (r : List UInt8) (p : Int) (bs : List UInt8) (i : Nat) (h : p < 0 ∨ (sz : Int) - i ≤ p) : dj sz r p bs (i + 1) = dj sz r p bs i := by
  unfold dj
  by_cases hp : 0 ≤ p ∧ p < sz
  · rw [if_pos hp, if_pos hp, Nat.min_eq_right (by omega), Nat.min_eq_right (by omega)]
  · rw [if_neg hp, if_neg hp]
theorem dj_set (sz : Nat) (r : List UInt8) (q : Nat) (bs : List UInt8) (i : Nat) (hr : r.length = sz) (hi : i < bs.length) (h : q + i < sz) : (dj sz r q bs i).set (q + i) bs[i] = dj sz r q bs (i + 1) := by
  unfold dj
  have hp : (0 : Int) ≤ q ∧ (q : Int) < sz := by omega
  rw [if_pos hp, if_pos hp, Int.toNat_natCast, Nat.min_eq_left (by omega), Nat.min_eq_left (by omega)]
  have h1 : (r.take q).length = q := by rw [List.length_take]; omega
  have h2 : (bs.take i).length = i := by rw [List.length_take]; omega
  have h3 : (bs.take (i + 1)).length = i + 1 := by rw [List.length_take]; omega
  simp only [splice, h2, h3]
  rw [List.set_append_right _ _ (by omega), h1, show q + i - q = i by omega, List.set_append_right _ _ (by omega), h2, Nat.sub_self, List.take_succ_eq_append_getElem hi, List.append_assoc]
  congr 2
  rw [List.drop_eq_getElem_cons (show q + i < r.length by omega)]
  simp [Nat.add_assoc]
end Go.Proofs.Ytcjojphajjoheaa

/-
  The statements' examples are so; Load and Store by what they answer; the plain facts of numbers in a memory.
-/
import Derived.Test.YtcjojphajjoheaaNew
namespace Go.Proofs.Ytcjojphajjoheaa
open Go.RowKit

theorem load_is (s : ByteArray) (a o n : Int) (w : World) (hs : s.size ≤ 140737488351232) {v : Int} {ok : Bool} (h : Hid (ldA s.data.toList a o n = (v, ok))) :
    Calls Try.prog 10 #[.string s, .int .i64 a, .int .i64 o, .int .i64 n] w fun e w' => e = .returned (.tuple #[.int .i64 v, .bool ok]) ∧ Below w.heap.size w w' := by
  have := load_any s a o n w hs
  rw [h.out] at this; exact this
theorem store_is (s : ByteArray) (a o n v : Int) (w : World) (hv : I64 v) (hs : s.size ≤ 140737488351232) {l : List UInt8} {ok : Bool} (h : Hid (stA s.data.toList a o n v = (l, ok))) :
    Calls Try.prog 12 #[.string s, .int .i64 a, .int .i64 o, .int .i64 n, .int .i64 v] w fun e w' => e = .returned (.tuple #[.string (str l), .bool ok]) ∧ Below w.heap.size w w' := by
  have := store_any s a o n v w hv hs
  rw [h.out] at this; exact this
theorem ex1 : ldA [1, 2, 3, 4, 5] 1 0 4 = (84148994, true) := by decide +kernel
theorem ex2 : ldA [1, 2, 3, 4, 5] 2 0 4 = (0, false) := by decide +kernel
theorem ex3 : stA [97, 98, 99, 100, 101, 102] 1 1 4 825373492 = ([97, 98, 52, 51, 50, 49], true) := by decide +kernel
theorem ex4 : (str (newL 0 4 1 [])).size = 16 := by
  rw [str_size, newL, List.length_take, room_len _ _ _ (szo_le _ _ _)]; decide
set_option maxHeartbeats 1600000 in
theorem examples_any (w : World) : Calls Try.prog 9 #[] w fun e w' => e = .returned (.bool true) ∧ Below w.heap.size w w' := by
  have E1 := hide ex1
  have E2 := hide ex2
  have E3 := hide ex3
  have E4 := ex4
  have hq : ((str [97, 98, 52, 51, 50, 49]).toList == [97, 98, 52, 51, 50, 49]) = true := by decide +kernel
  have hI : I64 825373492 := by unfold I64; omega
  have N1 : Hid (∀ w, Calls Try.prog 14 #[.agg #[.slice none 0 0, .slice none 0 0, .slice none 0 0, .int .i64 0, .int .i64 4, .slice none 0 0, .slice none 0 0], .int .i64 1] w fun e w' => e = .returned (.string (str (newL 0 4 1 []))) ∧ Below w.heap.size w w') :=
    fun w => new_any none none none none none 0 0 0 0 0 0 0 0 0 0 4 1 [] w (by simp) (SDa.isNil _ _ _)
  generalize str (newL 0 4 1 []) = t at *
  go_enter Try.func9, Try.ntmps9
  go_wp2_with (first | (go_at_call 10; first | (refine (load_is _ _ _ _ _ (by decide) E1).mono ?_; rintro e w1 ⟨rfl, hb1⟩) | (refine (load_is _ _ _ _ _ (by decide) E2).mono ?_; rintro e w2 ⟨rfl, hb2⟩)) | (go_at_call 12; refine (store_is _ _ _ _ _ _ hI (by decide) E3).mono ?_; rintro e w3 ⟨rfl, hb3⟩) | (go_at_call 14; refine (N1.out _).mono ?_; rintro e w4 ⟨rfl, hb4⟩))
  go_ret
  exact ⟨rfl, hb1.trans ((hb2.mono hb1.size).trans ((hb3.mono (Nat.le_trans hb1.size hb2.size)).trans (hb4.mono (Nat.le_trans hb1.size (Nat.le_trans hb2.size hb3.size)))))⟩

/-- Eight bytes are four, and the four behind them. -/
theorem halves (l : List UInt8) (p : Nat) (h : p + 8 ≤ l.length) : bits .or .i64 (ldv l p 4) (wrap64 (ldv l (p + 4) 4 * 4294967296)) = ldv l p 8 := by
  have b4 : ∀ q : List UInt8, le (q.take 4) < 4294967296 := fun q => by
    have h1 := le_lt (q.take 4)
    have h2 : 256 ^ (q.take 4).length ≤ 256 ^ 4 := Nat.pow_le_pow_right (by decide) (by simp; omega)
    have h3 : (256 : Nat) ^ 4 = 4294967296 := by decide
    omega
  have e : (l.drop p).take 8 = (l.drop p).take 4 ++ (l.drop (p + 4)).take 4 := by
    rw [show 8 = 4 + 4 from rfl, List.take_add, List.drop_drop]
  have ha := b4 (l.drop p)
  have hb := b4 (l.drop (p + 4))
  unfold ldv
  rw [e, le_append, w64_id (x := ((le ((l.drop p).take 4) : Nat) : Int)) (by omega) (by omega), w64_id (x := ((le ((l.drop (p + 4)).take 4) : Nat) : Int)) (by omega) (by omega)]
  rw [or64 _ _ 32 (by decide) (by omega) (by omega) (by omega)]
  congr 1
  have : ((l.drop p).take 4).length = 4 := by simp; omega
  rw [this]; omega
theorem four (l : List UInt8) (p : Nat) : 0 ≤ ldv l p 4 ∧ ldv l p 4 < 4294967296 := by
  have h1 := le_lt ((l.drop p).take 4)
  have h2 : 256 ^ ((l.drop p).take 4).length ≤ 256 ^ 4 := Nat.pow_le_pow_right (by decide) (by simp; omega)
  have h3 : (256 : Nat) ^ 4 = 4294967296 := by decide
  unfold ldv
  rw [w64_id (by omega) (by omega)]; omega
theorem ldA_yes {s : List UInt8} {a o n : Int} (h : right n = true ∧ wit s.length (adr a o) n = true) : ldA s a o n = (ldv s (adr a o).toNat n.toNat, true) := by unfold ldA; rw [if_pos h]
theorem ldA_no {s : List UInt8} {a o n : Int} (h : ¬ (right n = true ∧ wit s.length (adr a o) n = true)) : ldA s a o n = (0, false) := by unfold ldA; rw [if_neg h]
theorem halves_is (l : List UInt8) (a : Int) :
    (ldA l a 0 8 = (0, false) ∧ ldA l a 4 4 = (0, false)) ∨ ∃ x y, ldA l a 0 8 = (bits .or .i64 x (wrap64 (y * 4294967296)), true) ∧ ldA l a 0 4 = (x, true) ∧ ldA l a 4 4 = (y, true) ∧ 0 ≤ x ∧ x < 4294967296 := by
  have e0 : adr a 0 = a % 4294967296 := by unfold adr; omega
  have e4 : adr a 4 = a % 4294967296 + 4 := by unfold adr; omega
  by_cases h : 8 ≤ (l.length : Int) - a % 4294967296
  · right
    refine ⟨ldv l (a % 4294967296).toNat 4, ldv l ((a % 4294967296).toNat + 4) 4, ?_, ?_, ?_, four _ _⟩
    · rw [ldA_yes ⟨rfl, by simp [wit, e0]; omega⟩, halves l _ (by omega), e0]; rfl
    · rw [ldA_yes ⟨rfl, by simp [wit, e0]; omega⟩, e0]; rfl
    · rw [ldA_yes ⟨rfl, by simp [wit, e4]; omega⟩, e4, show (a % 4294967296 + 4).toNat = (a % 4294967296).toNat + 4 by omega]; rfl
  · left
    exact ⟨ldA_no (by simp [wit, e0]; omega), ldA_no (by simp [wit, e4]; omega)⟩
end Go.Proofs.Ytcjojphajjoheaa

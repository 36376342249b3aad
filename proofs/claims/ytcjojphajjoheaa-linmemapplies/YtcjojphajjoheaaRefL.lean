/-
  The document's place, Load and Store answer what the program's do.
-/
import Derived.Test.YtcjojphajjoheaaBack
import Derived.Test.YtcjojphajjoheaaBackW
import Derived.Laws.BitsAllLaws
namespace Go.Proofs.Ytcjojphajjoheaa
open Go.RowKit

theorem ret2 {a b : Int} {x y : Bool} (h : a = b) (h' : x = y) : Ending.returned (.tuple #[.int .i64 a, .bool x]) = .returned (.tuple #[.int .i64 b, .bool y]) := by rw [h, h']
theorem place_eq (a o n : Int) (z : Nat) (h : right n = true) : decide (a % 4294967296 + o % 4294967296 ≤ (z : Int) - n) = (right n && wit z (adr a o) n) := by
  have hb := adr_bd a o
  rw [h]
  simp only [Bool.true_and, wit]
  rw [show decide (0 ≤ adr a o) = true by simpa using hb.1]
  simp only [Bool.true_and]
  rw [decide_eq_decide]
  unfold adr; omega
theorem or_u64 (x : Nat) (b : Nat) (hx : x < 72057594037927936) (hb : b < 256) : bits .or .u64 (IntKind.u64.wrap ((x : Int) * 256)) (IntKind.u64.wrap (b : Int)) = ((b + 256 * x : Nat) : Int) := by
  have e1 : IntKind.u64.wrap ((x : Int) * 256) = ((256 * x : Nat) : Int) := by rw [IntKind.wrap_u64]; omega
  have e2 : IntKind.u64.wrap (b : Int) = (b : Int) := by rw [IntKind.wrap_u64]; omega
  rw [e1, e2, u64_or_nat _ _ (by omega) (by omega)]
  rw [nat_join 8 _ _ (by omega) (by omega)]
  congr 1; omega
theorem get_list (s : ByteArray) (k : Nat) (h : k < s.size) : s[k] = s.data.toList[k]'(by rw [list_size]; exact h) := by
  simp [ByteArray.getElem_eq_getElem_data]
/-- A round of the document's Load. -/
theorem rstep (s : ByteArray) (p n k : Nat) (hk : k < n) (hn : n ≤ 8) (_h : p + n ≤ s.size) (h' : p + k < s.size) :
    bits .or .u64 (IntKind.u64.wrap ((le ((s.data.toList.drop (p + (k + 1))).take (n - (k + 1))) : Int) * 256)) (IntKind.u64.wrap (s[p + k].toNat : Int)) = (le ((s.data.toList.drop (p + k)).take (n - k)) : Int) := by
  have hl : p + k < s.data.toList.length := by rw [list_size]; omega
  have e : (s.data.toList.drop (p + k)).take (n - k) = s[p + k] :: (s.data.toList.drop (p + (k + 1))).take (n - (k + 1)) := by
    rw [List.drop_eq_getElem_cons hl, show n - k = (n - (k + 1)) + 1 by omega, List.take_succ_cons, get_list _ _ h']; rfl
  have hlt := le_lt ((s.data.toList.drop (p + (k + 1))).take (n - (k + 1)))
  have hp : 256 ^ ((s.data.toList.drop (p + (k + 1))).take (n - (k + 1))).length ≤ 256 ^ 7 := Nat.pow_le_pow_right (by decide) (by rw [List.length_take]; omega)
  have h7 : (256 : Nat) ^ 7 = 72057594037927936 := by decide
  rw [or_u64 _ _ (by omega) (UInt8.toNat_lt _), e]
  rfl
set_option maxHeartbeats 800000 in
theorem rplace_any (s : ByteArray) (a o n : Int) (w : World) (hs : s.size ≤ 140737488351232) (hn : I64 n) :
    Calls Try.prog 19 #[.string s, .int .i64 a, .int .i64 o, .int .i64 n] w fun e w' => e = .returned (.tuple #[.int .i64 (adr a o), .bool (right n && wit s.size (adr a o) n)]) ∧ w' = w := by
  obtain ⟨h1, h2⟩ := hn
  have ma := and32 a
  have mo := and32 o
  have hb : 0 ≤ a % 4294967296 + o % 4294967296 ∧ a % 4294967296 + o % 4294967296 ≤ 8589934590 := by omega
  by_cases h4 : n = 4
  · subst h4
    go_enter Try.func19, Try.ntmps19
    go_wp2
    go_ret2
    exact ⟨ret2 rfl (place_eq a o 4 s.size rfl), rfl⟩
  · by_cases h8 : n = 8
    · subst h8
      go_enter Try.func19, Try.ntmps19
      go_wp2
      go_ret2
      exact ⟨ret2 rfl (place_eq a o 8 s.size rfl), rfl⟩
    · have h4' : (n == 4) = false := by simpa using h4
      have h8' : (n == 8) = false := by simpa using h8
      go_enter Try.func19, Try.ntmps19
      go_wp2
      go_ret2
      exact ⟨by simp [right, h4', h8']; rfl, rfl⟩
set_option maxHeartbeats 800000 in
theorem rload_no (s : ByteArray) (a o n : Int) (w : World) (hs : s.size ≤ 140737488351232) (hn : I64 n) (hk : Hid ((right n && wit s.size (adr a o) n) = false)) :
    Calls Try.prog 11 #[.string s, .int .i64 a, .int .i64 o, .int .i64 n] w fun e w' => e = .returned (.tuple #[.int .i64 0, .bool false]) ∧ w' = w := by
  go_enter Try.func11, Try.ntmps11
  go_wp2_with (go_at_call 19; refine (rplace_any _ _ _ _ _ hs hn).mono ?_; rw [hk.out]; rintro e w' ⟨rfl, rfl⟩)
  go_ret2
  exact ⟨rfl, rfl⟩
set_option maxHeartbeats 3200000 in
theorem rload_yes4 (s : ByteArray) (a o : Int) (p : Nat) (w : World) (hs : s.size ≤ 140737488351232) (hp : Hid (adr a o = (p : Int))) (hk : Hid ((right 4 && wit s.size (adr a o) 4) = true)) (hfit : p + 4 ≤ s.size) :
    Calls Try.prog 11 #[.string s, .int .i64 a, .int .i64 o, .int .i64 4] w fun e w' => e = .returned (.tuple #[.int .i64 (ldv s.data.toList p 4), .bool true]) ∧ w' = w := by
  obtain ⟨pv, hpv⟩ : ∃ pv : Nat → Int, pv = fun k => (le ((s.data.toList.drop (p + k)).take (4 - k)) : Int) := ⟨_, rfl⟩
  have st : ∀ k (hk : k < 4) (h' : p + k < s.size), bits .or .u64 (IntKind.u64.wrap (pv (k + 1) * 256)) (IntKind.u64.wrap (s[p + k].toNat : Int)) = pv k := fun k hk h' => by rw [hpv]; exact rstep s p 4 k hk (by decide) hfit h'
  have pE : Hid (pv 4 = 0) := by show _ = _; rw [hpv]; simp [le]
  have p0 : Hid (ldv s.data.toList p 4 = wrap64 (pv 0)) := by show _ = _; rw [hpv]; rfl
  have h0 : p + 0 < s.size := by omega
  have h1 : p + 1 < s.size := by omega
  have h2 : p + 2 < s.size := by omega
  have h3 : p + 3 < s.size := by omega
  have t0 := hide (st 0 (by decide) h0)
  have t1 := hide (st 1 (by decide) h1)
  have t2 := hide (st 2 (by decide) h2)
  have t3 := hide (st 3 (by decide) h3)
  have hI : I64 4 := by unfold I64; omega
  clear hpv st
  go_enter Try.func11, Try.ntmps11
  go_wp2_with (go_at_call 19; refine (rplace_any _ _ _ _ _ hs hI).mono ?_; rw [hk.out, hp.out]; rintro e w' ⟨rfl, hw⟩; have hw2 := hw.symm; subst hw2; clear hw)
  go_loop [12, 13] (fun v i => ∃ k : Nat, k ≤ 4 ∧ i = .int .i64 ((k : Int) - 1) ∧ v = .int .u64 (pv k)) (fun _ i => (intOf i + 1).toNat)
  case atStart => exact ⟨4, by omega, rfl, by rw [pE.out]⟩
  case round =>
    obtain ⟨k, hk, rfl, rfl⟩ := hrel
    have hk' : k = 0 ∨ k = 1 ∨ k = 2 ∨ k = 3 ∨ k = 4 := by omega
    rcases hk' with rfl | rfl | rfl | rfl | rfl
    · go_wp2
      go_ret2
      exact ⟨by rw [p0.out]; rfl, rfl⟩
    · go_wp2
      exact ⟨⟨0, by decide, rfl, congrArg (Value.int .u64) t0.out⟩, by simp [intOf]⟩
    · go_wp2
      exact ⟨⟨1, by decide, rfl, congrArg (Value.int .u64) t1.out⟩, by simp [intOf]⟩
    · go_wp2
      exact ⟨⟨2, by decide, rfl, congrArg (Value.int .u64) t2.out⟩, by simp [intOf]⟩
    · go_wp2
      exact ⟨⟨3, by decide, rfl, congrArg (Value.int .u64) t3.out⟩, by simp [intOf]⟩
set_option maxHeartbeats 3200000 in
theorem rload_yes8 (s : ByteArray) (a o : Int) (p : Nat) (w : World) (hs : s.size ≤ 140737488351232) (hp : Hid (adr a o = (p : Int))) (hk : Hid ((right 8 && wit s.size (adr a o) 8) = true)) (hfit : p + 8 ≤ s.size) :
    Calls Try.prog 11 #[.string s, .int .i64 a, .int .i64 o, .int .i64 8] w fun e w' => e = .returned (.tuple #[.int .i64 (ldv s.data.toList p 8), .bool true]) ∧ w' = w := by
  obtain ⟨pv, hpv⟩ : ∃ pv : Nat → Int, pv = fun k => (le ((s.data.toList.drop (p + k)).take (8 - k)) : Int) := ⟨_, rfl⟩
  have st : ∀ k (hk : k < 8) (h' : p + k < s.size), bits .or .u64 (IntKind.u64.wrap (pv (k + 1) * 256)) (IntKind.u64.wrap (s[p + k].toNat : Int)) = pv k := fun k hk h' => by rw [hpv]; exact rstep s p 8 k hk (by decide) hfit h'
  have pE : Hid (pv 8 = 0) := by show _ = _; rw [hpv]; simp [le]
  have p0 : Hid (ldv s.data.toList p 8 = wrap64 (pv 0)) := by show _ = _; rw [hpv]; rfl
  have h0 : p + 0 < s.size := by omega
  have h1 : p + 1 < s.size := by omega
  have h2 : p + 2 < s.size := by omega
  have h3 : p + 3 < s.size := by omega
  have h4 : p + 4 < s.size := by omega
  have h5 : p + 5 < s.size := by omega
  have h6 : p + 6 < s.size := by omega
  have h7 : p + 7 < s.size := by omega
  have t0 := hide (st 0 (by decide) h0)
  have t1 := hide (st 1 (by decide) h1)
  have t2 := hide (st 2 (by decide) h2)
  have t3 := hide (st 3 (by decide) h3)
  have t4 := hide (st 4 (by decide) h4)
  have t5 := hide (st 5 (by decide) h5)
  have t6 := hide (st 6 (by decide) h6)
  have t7 := hide (st 7 (by decide) h7)
  have hI : I64 8 := by unfold I64; omega
  clear hpv st
  go_enter Try.func11, Try.ntmps11
  go_wp2_with (go_at_call 19; refine (rplace_any _ _ _ _ _ hs hI).mono ?_; rw [hk.out, hp.out]; rintro e w' ⟨rfl, hw⟩; have hw2 := hw.symm; subst hw2; clear hw)
  go_loop [12, 13] (fun v i => ∃ k : Nat, k ≤ 8 ∧ i = .int .i64 ((k : Int) - 1) ∧ v = .int .u64 (pv k)) (fun _ i => (intOf i + 1).toNat)
  case atStart => exact ⟨8, by omega, rfl, by rw [pE.out]⟩
  case round =>
    obtain ⟨k, hk, rfl, rfl⟩ := hrel
    have hk' : k = 0 ∨ k = 1 ∨ k = 2 ∨ k = 3 ∨ k = 4 ∨ k = 5 ∨ k = 6 ∨ k = 7 ∨ k = 8 := by omega
    rcases hk' with rfl | rfl | rfl | rfl | rfl | rfl | rfl | rfl | rfl
    · go_wp2
      go_ret2
      exact ⟨by rw [p0.out]; rfl, rfl⟩
    · go_wp2
      exact ⟨⟨0, by decide, rfl, congrArg (Value.int .u64) t0.out⟩, by simp [intOf]⟩
    · go_wp2
      exact ⟨⟨1, by decide, rfl, congrArg (Value.int .u64) t1.out⟩, by simp [intOf]⟩
    · go_wp2
      exact ⟨⟨2, by decide, rfl, congrArg (Value.int .u64) t2.out⟩, by simp [intOf]⟩
    · go_wp2
      exact ⟨⟨3, by decide, rfl, congrArg (Value.int .u64) t3.out⟩, by simp [intOf]⟩
    · go_wp2
      exact ⟨⟨4, by decide, rfl, congrArg (Value.int .u64) t4.out⟩, by simp [intOf]⟩
    · go_wp2
      exact ⟨⟨5, by decide, rfl, congrArg (Value.int .u64) t5.out⟩, by simp [intOf]⟩
    · go_wp2
      exact ⟨⟨6, by decide, rfl, congrArg (Value.int .u64) t6.out⟩, by simp [intOf]⟩
    · go_wp2
      exact ⟨⟨7, by decide, rfl, congrArg (Value.int .u64) t7.out⟩, by simp [intOf]⟩
/-- The document's Load, whole. -/
theorem rload_any (s : ByteArray) (a o n : Int) (w : World) (hs : s.size ≤ 140737488351232) (hn : I64 n) :
    Calls Try.prog 11 #[.string s, .int .i64 a, .int .i64 o, .int .i64 n] w fun e w' => e = .returned (.tuple #[.int .i64 (ldA s.data.toList a o n).1, .bool (ldA s.data.toList a o n).2]) ∧ w' = w := by
  have hb := adr_bd a o
  by_cases h : right n = true ∧ wit s.data.toList.length (adr a o) n = true
  · rw [ldA_yes h]
    rw [list_size] at h
    have hw := h.2
    simp only [wit, Bool.and_eq_true, decide_eq_true_eq] at hw
    rcases right_cases h.1 with rfl | rfl
    · exact rload_yes4 s a o _ w hs (Int.toNat_of_nonneg hb.1).symm (by show _ = _; rw [h.1, h.2]; rfl) (by omega)
    · exact rload_yes8 s a o _ w hs (Int.toNat_of_nonneg hb.1).symm (by show _ = _; rw [h.1, h.2]; rfl) (by omega)
  · rw [ldA_no h]
    rw [list_size] at h
    exact rload_no s a o n w hs hn (by show _ = _; rw [Bool.eq_false_iff]; intro q; rw [Bool.and_eq_true] at q; exact h q)
end Go.Proofs.Ytcjojphajjoheaa

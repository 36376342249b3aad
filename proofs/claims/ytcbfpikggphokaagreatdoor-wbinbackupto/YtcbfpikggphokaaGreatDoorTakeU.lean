/-
  The program's function TakeU reads what the plain function tkU of the text Math says, of any string and any number of bits; memory that was there stays as it was.
-/
import Derived.Test.YtcbfpikggphokaaGreatDoorUS
import Derived.BigQuiet
import Derived.Deep.QuietTactic
import Derived.WalkSmall
namespace Go.Proofs.YtcbfpikggphokaaGreatDoor
open Go.RowKit

theorem ext_take (s : ByteArray) (k : Nat) : (s.extract 0 k).data.toList = s.data.toList.take k := by
  rw [Lib.extract_data]; simp
theorem ext_drop (s : ByteArray) (k : Nat) : s.extract k s.size = str (s.data.toList.drop k) := by
  rw [Lib.extract_eq]; unfold str
  rw [List.take_of_length_le (by simp)]
theorem str_eq_iff (l : List UInt8) (s : ByteArray) : (str l).toList = s.toList ↔ l = s.data.toList := by
  constructor
  · intro h
    have h1 : (str l).toList = l := by unfold str; simp
    have h2 : s.toList = s.data.toList := ByteArray.toList_eq s
    rw [h1, h2] at h; exact h
  · intro h; subst h; unfold str; simp
theorem str_eq_take (l : List UInt8) (s : ByteArray) (k : Nat) : (str l).toList = (s.extract 0 k).toList ↔ l = s.data.toList.take k := by
  rw [str_eq_iff, ext_take]
theorem ret3 {a a' : Int} {s s' : ByteArray} {e e' : Int} (h1 : a = a') (h2 : s = s') (h3 : e = e') :
    Ending.returned (.tuple #[.int .i64 a, .string s, .int .i64 e]) = .returned (.tuple #[.int .i64 a', .string s', .int .i64 e']) := by rw [h1, h2, h3]

set_option maxHeartbeats 400000 in
theorem takeU_arg (s : ByteArray) (b : Int) (w : World) (h : b < 1 ∨ 63 < b) :
    Calls Tryz.prog 140 #[.string s, .int .i64 b] w fun e w' => e = .returned (.tuple #[.int .i64 (tkU s.data.toList b).1, .string (str (tkU s.data.toList b).2.1), .int .i64 (tkU s.data.toList b).2.2]) ∧ Below w.heap.size w w' := by
  have ht : tkU s.data.toList b = (0, [], 4) := by unfold tkU; rw [if_pos h]
  rw [ht]
  clear ht
  rcases h with h | h
  · have hd : decide (b < 1) = true := by simpa using h
    go_enter Tryz.func140, Tryz.ntmps140
    go_wp2
    go_ret3
    exact ⟨rfl, Below.refl _ _⟩
  · have hd : decide (b < 1) = false := by simp; omega
    go_enter Tryz.func140, Tryz.ntmps140
    go_wp2
    go_ret3
    exact ⟨rfl, Below.refl _ _⟩

set_option maxRecDepth 100000 in
set_option maxHeartbeats 800000 in
theorem takeU_any (s : ByteArray) (b : Int) (w : World) (hs : s.size ≤ 9223372036854775807) :
    Calls Tryz.prog 140 #[.string s, .int .i64 b] w fun e w' => e = .returned (.tuple #[.int .i64 (tkU s.data.toList b).1, .string (str (tkU s.data.toList b).2.1), .int .i64 (tkU s.data.toList b).2.2]) ∧ Below w.heap.size w w' := by
  by_cases hbb : b < 1 ∨ 63 < b
  · exact takeU_arg s b w hbb
  have h1 : 1 ≤ b := by omega
  have h2 : b ≤ 63 := by omega
  have hle : spn 10 0 s.data.toList ≤ s.size := (span_le _).1
  have hle10 : spn 10 0 s.data.toList ≤ 10 := (span_le _).2
  have SP := hide (fun w => span_any s w hs)
  have hsz : (s.extract 0 (spn 10 0 s.data.toList)).size ≤ 10 := by simp; omega
  have JN := hide (fun w => join_any (s.extract 0 (spn 10 0 s.data.toList)) w hsz)
  rw [ext_take] at JN
  have HT : Hid (tkU s.data.toList b = if 0 ≤ w64 (jl (s.data.toList.take (spn 10 0 s.data.toList))) ∧ enc (w64 (jl (s.data.toList.take (spn 10 0 s.data.toList)))) (szU (w64 (jl (s.data.toList.take (spn 10 0 s.data.toList))))) = s.data.toList.take (spn 10 0 s.data.toList) ∧ w64 (jl (s.data.toList.take (spn 10 0 s.data.toList))) / 2 ^ b.toNat = 0
    then (w64 (jl (s.data.toList.take (spn 10 0 s.data.toList))), s.data.toList.drop (spn 10 0 s.data.toList), 0) else (0, [], 6)) := by
    refine hide ?_
    unfold tkU
    rw [if_neg hbb]
  generalize w64 (jl (s.data.toList.take (spn 10 0 s.data.toList))) = v at *
  generalize spn 10 0 s.data.toList = k at *
  generalize tkU s.data.toList b = T at *
  clear hsz hbb
  by_cases hv : 0 ≤ v
  · go_enter Tryz.func140, Tryz.ntmps140
    go_wp2_with (first | (go_at_call 153; refine (SP.out _).mono ?_; rintro e w' ⟨rfl, rfl⟩) | (go_at_call 154; refine (JN.out _).mono ?_; rintro e w' ⟨rfl, rfl⟩) | (go_at_call 91; refine (U_any v _ hv).mono ?_; rintro e w1 ⟨rfl, hb⟩))
    · go_ret3
      have hw : (v / 2 ^ b.toNat != 0) = true := by assumption
      have hT : T = (0, [], 6) := by rw [HT.out, if_neg]; intro h; simp [h.2.2] at hw
      subst hT
      exact ⟨rfl, by assumption⟩
    · go_quiet (fail)
      go_wp2
      go_ret3
      have hw : (v / 2 ^ b.toNat != 0) = false := by assumption
      have he : (str (enc v (szU v))).toList = (s.extract 0 k).toList := by assumption
      have hT : T = (v, s.data.toList.drop k, 0) := by rw [HT.out, if_pos]; exact ⟨hv, (str_eq_take _ _ _).1 he, by simpa using hw⟩
      subst hT
      exact ⟨ret3 rfl (ext_drop s k) rfl, below_drewN (by assumption) _⟩
    · go_ret3
      have he : ¬ (str (enc v (szU v))).toList = (s.extract 0 k).toList := by assumption
      have hT : T = (0, [], 6) := by rw [HT.out, if_neg]; intro h; exact he ((str_eq_take _ _ _).2 h.2.1)
      subst hT
      exact ⟨rfl, by assumption⟩
  · have hn : v < 0 := by omega
    have hT : T = (0, [], 6) := by rw [HT.out, if_neg]; intro h; exact hv h.1
    clear HT
    subst hT
    go_enter Tryz.func140, Tryz.ntmps140
    go_wp2_with (first | (go_at_call 153; refine (SP.out _).mono ?_; rintro e w' ⟨rfl, rfl⟩) | (go_at_call 154; refine (JN.out _).mono ?_; rintro e w' ⟨rfl, rfl⟩) | (go_at_call 91; refine (U_no v _ hn).mono ?_; rintro e w1 ⟨rfl, rfl⟩))
    go_ret3
    exact ⟨rfl, Below.refl _ _⟩
end Go.Proofs.YtcbfpikggphokaaGreatDoor

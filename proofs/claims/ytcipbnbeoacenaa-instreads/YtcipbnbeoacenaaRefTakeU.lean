/-
  The document's own TakeU reads what the plain function tkU of the text Math says, of any string and any number of bits; memory that was there stays as it was.
-/
import Derived.Test.YtcipbnbeoacenaaRefTake
namespace Go.Proofs.Ytcipbnbeoacenaa
open Go.RowKit

theorem jl_drop_step (t : List UInt8) (m : Nat) (hm : m < t.length) : jl (t.drop m) = jl (t.drop (m + 1)) * 128 + (t[m].toNat : Int) % 128 := by
  rw [List.drop_eq_getElem_cons hm, jl]; omega
theorem jl_drop_le : ∀ (t : List UInt8) (m : Nat), jl (t.drop m) ≤ jl t
  | [], m => by simp
  | c :: r, 0 => by simp
  | c :: r, m + 1 => by
    have h := jl_drop_le r m
    have hb := (jl_bd r).1
    rw [List.drop_succ_cons, jl]
    omega
theorem tkU_eq (l : List UInt8) (b : Int) (h : ¬ (b < 1 ∨ 63 < b)) : tkU l b = if 0 ≤ w64 (jl (l.take (spn 10 0 l))) ∧ enc (w64 (jl (l.take (spn 10 0 l)))) (szU (w64 (jl (l.take (spn 10 0 l))))) = l.take (spn 10 0 l) ∧ w64 (jl (l.take (spn 10 0 l))) / 2 ^ b.toNat = 0
    then (w64 (jl (l.take (spn 10 0 l))), l.drop (spn 10 0 l), 0) else (0, [], 6) := by
  unfold tkU; rw [if_neg h]
theorem tkU_big (l : List UInt8) (b : Int) (h : ¬ (b < 1 ∨ 63 < b)) (hb : 9223372036854775808 ≤ jl (l.take (spn 10 0 l))) : tkU l b = (0, [], 6) := by
  rw [tkU_eq l b h, if_neg]
  rintro ⟨_, he, _⟩
  have hl := congrArg List.length he
  rw [enc_length] at hl
  have b9 := (szU_bd (w64 (jl (l.take (spn 10 0 l))))).2
  have hj := (jl_bd (l.take (spn 10 0 l))).2
  have hp : (2 : Int) ^ (7 * (l.take (spn 10 0 l)).length) ≤ 2 ^ 63 := by exact_mod_cast Nat.pow_le_pow_right (by decide) (by omega)
  have e : (2 : Int) ^ 63 = 9223372036854775808 := by decide
  omega
theorem tkU_small (l : List UInt8) (b : Int) (h : ¬ (b < 1 ∨ 63 < b)) (hb : jl (l.take (spn 10 0 l)) ≤ 9223372036854775807) :
    tkU l b = if enc (jl (l.take (spn 10 0 l))) (szU (jl (l.take (spn 10 0 l)))) = l.take (spn 10 0 l) ∧ jl (l.take (spn 10 0 l)) < 2 ^ b.toNat then (jl (l.take (spn 10 0 l)), l.drop (spn 10 0 l), 0) else (0, [], 6) := by
  have h0 := (jl_bd (l.take (spn 10 0 l))).1
  rw [tkU_eq l b h, w64_id (by omega) hb]
  have hp := pow_pos2 b.toNat
  by_cases c : jl (l.take (spn 10 0 l)) < 2 ^ b.toNat
  · have e : jl (l.take (spn 10 0 l)) / 2 ^ b.toNat = 0 := Int.ediv_eq_zero_of_lt h0 c
    simp [e, c, h0]
  · have e : ¬ jl (l.take (spn 10 0 l)) / 2 ^ b.toNat = 0 := by
      have := Int.le_ediv_of_mul_le hp (show 1 * 2 ^ b.toNat ≤ jl (l.take (spn 10 0 l)) by omega)
      omega
    simp [e, c]
theorem get_take (s : ByteArray) (k m : Nat) (hm : m < s.size) (_hk : m < k) (h : m < (s.data.toList.take k).length) : (s.data.toList.take k)[m] = s[m] := by
  rw [List.getElem_take, get_list s m hm (by rw [list_length]; exact hm)]
theorem shl_one (b : Nat) (h63 : b ≤ 63) : wrap64 (wrap64 (2 ^ b) - 1) = 2 ^ b - 1 := by
  have hp := pow_pos2 b
  have hq : (2 : Int) ^ b ≤ 9223372036854775808 := by
    have : (2 : Int) ^ b ≤ 2 ^ 63 := by exact_mod_cast Nat.pow_le_pow_right (by decide) h63
    exact this
  rw [w64_is, w64_is]; unfold w64; omega

set_option maxHeartbeats 400000 in
theorem refTakeU_arg (s : ByteArray) (b : Int) (w : World) (h : b < 1 ∨ 63 < b) :
    Calls Try.prog 35 #[.string s, .int .i64 b] w fun e w' => e = .returned (.tuple #[.int .i64 (tkU s.data.toList b).1, .string (str (tkU s.data.toList b).2.1), .int .i64 (tkU s.data.toList b).2.2]) ∧ Below w.heap.size w w' := by
  have ht : tkU s.data.toList b = (0, [], 4) := by unfold tkU; rw [if_pos h]
  rw [ht]
  clear ht
  rcases h with h | h
  · have hd : decide (b < 1) = true := by simpa using h
    go_enter Try.func35, Try.ntmps35
    go_wp2
    go_ret3
    exact ⟨rfl, Below.refl _ _⟩
  · have hd : decide (b < 1) = false := by simp; omega
    go_enter Try.func35, Try.ntmps35
    go_wp2
    go_ret3
    exact ⟨rfl, Below.refl _ _⟩

set_option maxRecDepth 100000 in
set_option maxHeartbeats 1600000 in
theorem refTakeU_any (s : ByteArray) (b : Int) (w : World) (hs : s.size ≤ 9223372036854775807) :
    Calls Try.prog 35 #[.string s, .int .i64 b] w fun e w' => e = .returned (.tuple #[.int .i64 (tkU s.data.toList b).1, .string (str (tkU s.data.toList b).2.1), .int .i64 (tkU s.data.toList b).2.2]) ∧ Below w.heap.size w w' := by
  by_cases hbb : b < 1 ∨ 63 < b
  · exact refTakeU_arg s b w hbb
  have h1 : 1 ≤ b := by omega
  have h2 : b ≤ 63 := by omega
  have hle : spn 10 0 s.data.toList ≤ s.size := (span_le _).1
  have hle10 : spn 10 0 s.data.toList ≤ 10 := (span_le _).2
  have SP := hide (fun w => length_any s w hs)
  have BIG := hide (tkU_big s.data.toList b hbb)
  have SMALL := hide (tkU_small s.data.toList b hbb)
  generalize tkU s.data.toList b = T at *
  have GT := hide (fun m (hm : m < s.size) (hk : m < spn 10 0 s.data.toList) => get_take s (spn 10 0 s.data.toList) m hm hk)
  have HL : Hid ((s.data.toList.take (spn 10 0 s.data.toList)).length = spn 10 0 s.data.toList) := hide (List.length_take_of_le (by rw [list_length]; exact hle))
  have EQ := hide (fun l => str_eq_take l s (spn 10 0 s.data.toList))
  generalize ht : s.data.toList.take (spn 10 0 s.data.toList) = t at *
  clear ht
  generalize spn 10 0 s.data.toList = k at *
  clear hbb
  go_enter Try.func35, Try.ntmps35
  go_wp2_with (go_at_call 46; refine (SP.out _).mono ?_; rintro e w' ⟨rfl, rfl⟩)
  go_loop [8, 9] (fun nv iv => ∃ j : Int, -1 ≤ j ∧ j < k ∧ iv = .int .i64 j ∧ nv = .int .i64 (jl (t.drop (j + 1).toNat)) ∧ jl (t.drop (j + 1).toNat) ≤ 9223372036854775807) (fun _ iv => (intOf iv + 1).toNat)
  case atStart =>
    refine ⟨(k : Int) - 1, by omega, by omega, rfl, ?_, ?_⟩
    · rw [show ((k : Int) - 1 + 1).toNat = k by omega, List.drop_of_length_le (by rw [HL.out]; exact Nat.le_refl _)]; rfl
    · rw [show ((k : Int) - 1 + 1).toNat = k by omega, List.drop_of_length_le (by rw [HL.out]; exact Nat.le_refl _)]; decide
  case round =>
    obtain ⟨j, hj0, hjk, rfl, rfl, hjb⟩ := hrel
    by_cases hj : 0 ≤ j
    · obtain ⟨m, rfl⟩ := Int.eq_ofNat_of_zero_le hj
      have e1 : ((m : Int) + 1).toNat = m + 1 := by omega
      rw [e1] at hjb ⊢
      have hms : m < s.size := by omega
      have hml : m < t.length := by rw [HL.out]; omega
      have hst := jl_drop_step t m hml
      rw [GT.out m hms (by omega) hml] at hst
      have HST := hide hst
      have HLE := hide (jl_drop_le t m)
      have hn0 := (jl_bd (t.drop (m + 1))).1
      clear hst
      generalize jl (t.drop (m + 1)) = x at *
      by_cases hx : 72057594037927936 ≤ x
      · have hT : T = (0, [], 6) := BIG.out (by have := HLE.out; have := HST.out; omega)
        subst hT
        go_wp2
        go_ret3
        exact ⟨rfl, Below.refl _ _⟩
      · go_wp2
        go_round
        case rel =>
          have hx' := HST.out
          have hc : ((m : Int) - 1 + 1).toNat = m := by omega
          refine ⟨(m : Int) - 1, by omega, by omega, rfl, ?_, ?_⟩
          · rw [hc, hx']
          · rw [hc, hx']; omega
        case measure => simp [intOf]
    · have hj1 : j = -1 := by omega
      subst hj1
      have e0 : t.drop ((-1 : Int) + 1).toNat = t := by simp
      rw [e0] at hjb ⊢
      have HT := hide (SMALL.out hjb)
      have hv0 := (jl_bd t).1
      clear BIG SMALL GT SP e0 hj0 hjk
      have hsh := shl_one b.toNat (by omega)
      by_cases hk0 : k = 0
      · have hk0' : ((k : Int) == 0) = true := by simp; omega
        have hT : T = (0, [], 6) := by
          rw [HT.out, if_neg]
          rintro ⟨h, _⟩
          have hl := congrArg List.length h
          rw [enc_length, HL.out] at hl
          have := (szU_bd (jl t)).1
          omega
        subst hT
        clear HT EQ HL hk0
        generalize jl t = v at *
        go_wp2_with (go_at_call 26; refine (refU_any v _ hv0 hjb).mono ?_; rintro e w1 ⟨rfl, hb⟩)
        go_ret3
        exact ⟨rfl, by assumption⟩
      have hk0' : ((k : Int) == 0) = false := by simp; omega
      generalize jl t = v at *
      go_wp2_with (go_at_call 26; refine (refU_any v _ hv0 hjb).mono ?_; rintro e w1 ⟨rfl, hb⟩)
      · go_ret3
        have hw : 2 ^ b.toNat - 1 < v := by assumption
        have hT : T = (0, [], 6) := by rw [HT.out, if_neg]; intro h; have := h.2; omega
        subst hT
        exact ⟨rfl, by assumption⟩
      · go_quiet (fail)
        go_wp2
        go_ret3
        have hw : v ≤ 2 ^ b.toNat - 1 := by assumption
        have he : (str (enc v (szU v))).toList = (s.extract 0 k).toList := by assumption
        have hT : T = (v, s.data.toList.drop k, 0) := by rw [HT.out, if_pos]; exact ⟨(EQ.out _).1 he, by omega⟩
        subst hT
        exact ⟨ret3 rfl (ext_drop s k) rfl, below_drewN (by assumption) _⟩
      · go_ret3
        have he : ¬ (str (enc v (szU v))).toList = (s.extract 0 k).toList := by assumption
        have hT : T = (0, [], 6) := by rw [HT.out, if_neg]; intro h; exact he ((EQ.out _).2 h.1)
        subst hT
        exact ⟨rfl, by assumption⟩
end Go.Proofs.Ytcipbnbeoacenaa

/-
  The document's own small functions of chapter 5: types, index, closed, u, one, kinds, section: the same plain functions as the program's; memory that was there stays as it was.
-/
import Derived.Test.YtcbfpikggphokaaGreatDoorEncC
namespace Go.Proofs.YtcbfpikggphokaaGreatDoor
open Go.RowKit

theorem r_right5 (t : Int) (w : World) : Calls Tryz.prog 62 #[.int .i64 t] w fun e w' => e = .returned (.bool (ri t)) ∧ w' = w := by
  by_cases h0 : 0 ≤ t
  · by_cases h1 : t ≤ 3
    · have H : Hid (ri t = true) := hide (by simp [ri, h0, h1])
      go_enter Tryz.func62, Tryz.ntmps62
      go_wp2_with fail
      go_ret
      exact ⟨ret_bool H.out.symm, rfl⟩
    · have H : Hid (ri t = false) := hide (by simp [ri, h1])
      go_enter Tryz.func62, Tryz.ntmps62
      go_wp2_with fail
      go_ret
      exact ⟨ret_bool H.out.symm, rfl⟩
  · have H : Hid (ri t = false) := hide (by simp [ri, h0])
    go_enter Tryz.func62, Tryz.ntmps62
    go_wp2_with fail
    go_ret
    exact ⟨ret_bool H.out.symm, rfl⟩
theorem r_wide5 (t : Int) (w : World) : Calls Tryz.prog 27 #[.int .i64 t] w fun e w' => e = .returned (.bool (wi t)) ∧ w' = w := by
  by_cases h0 : t = 1
  · subst h0
    go_enter Tryz.func27, Tryz.ntmps27
    go_wp2_with fail
    go_ret
    exact ⟨rfl, rfl⟩
  · have e0 : (t == 1) = false := by simpa using h0
    have H : Hid (wi t = (t == 3)) := hide (by simp [wi, h0]; rfl)
    clear h0
    go_enter Tryz.func27, Tryz.ntmps27
    go_wp2_with fail
    go_ret
    exact ⟨ret_bool H.out.symm, rfl⟩
theorem r_index5 (n : Int) (w : World) : Calls Tryz.prog 60 #[.int .i64 n] w fun e w' => e = .returned (.bool (idx n)) ∧ w' = w := by
  by_cases h0 : 0 ≤ n
  · by_cases h1 : n < 4294967296
    · have H : Hid (idx n = true) := hide (by simp [idx, h0, h1])
      go_enter Tryz.func60, Tryz.ntmps60
      go_wp2_with fail
      go_ret
      exact ⟨ret_bool H.out.symm, rfl⟩
    · have H : Hid (idx n = false) := hide (by simp [idx, h1])
      go_enter Tryz.func60, Tryz.ntmps60
      go_wp2_with fail
      go_ret
      exact ⟨ret_bool H.out.symm, rfl⟩
  · have H : Hid (idx n = false) := hide (by simp [idx, h0])
    go_enter Tryz.func60, Tryz.ntmps60
    go_wp2_with fail
    go_ret
    exact ⟨ret_bool H.out.symm, rfl⟩
theorem r_right5_is (t : Int) (r : Bool) (w : World) (h : ri t = r) : Calls Tryz.prog 62 #[.int .i64 t] w fun e w' => e = .returned (.bool r) ∧ w' = w := by rw [← h]; exact r_right5 t w
theorem r_wide5_is (t : Int) (r : Bool) (w : World) (h : wi t = r) : Calls Tryz.prog 27 #[.int .i64 t] w fun e w' => e = .returned (.bool r) ∧ w' = w := by rw [← h]; exact r_wide5 t w
theorem r_index5_is (t : Int) (r : Bool) (w : World) (h : idx t = r) : Calls Tryz.prog 60 #[.int .i64 t] w fun e w' => e = .returned (.bool r) ∧ w' = w := by rw [← h]; exact r_index5 t w
set_option maxRecDepth 100000 in
set_option maxHeartbeats 800000 in
theorem r_types (v : Value) (l : List Int) (w : World) (hl : l.length ≤ 1000) (hL : SInts w.heap.size w v l) :
    Calls Tryz.prog 59 #[v] w fun e w' => e = .returned (.bool (l.all ri)) ∧ w' = w := by
  obtain ⟨a, cap, rfl, he⟩ := hL
  have HE := hide he
  clear he
  go_enter Tryz.func59, Tryz.ntmps59
  go_wp2_with fail
  go_loopw [3] (fun iv wr => ∃ k : Nat, k ≤ l.length ∧ iv = .int .i64 k ∧ wr = w ∧ Hid ((l.take k).all ri = true)) (fun iv _ => l.length - (intOf iv).toNat)
  case atStart => exact ⟨0, by omega, rfl, rfl, hide (by simp)⟩
  case round =>
    obtain ⟨k, hk, rfl, rfl, hA⟩ := hrel
    by_cases hlt : k < l.length
    · obtain ⟨b, off, rfl, hbb, hi, c0⟩ := HE.out k hlt
      rw [Nat.mul_one] at c0
      cases hP : ri l[k] with
      | true =>
        have CF := hide (r_right5_is l[k] true wr hP)
        have hA2 := hide (all_take_next hA.out hlt hP)
        clear hP hi
        go_wp2_with fail
        refine CF.out.mono ?_
        rintro r w1 ⟨rfl, rfl⟩
        go_wp2_with fail
        go_roundw
        case rel => exact ⟨k + 1, by omega, by go_num, by trivial, hA2⟩
        case measure => simp [intOf]; omega
      | false =>
        have CF := hide (r_right5_is l[k] false wr hP)
        have hN := hide (all_no hlt hP)
        clear hP hi
        go_wp2_with fail
        refine CF.out.mono ?_
        rintro r w1 ⟨rfl, rfl⟩
        go_wp2_with fail
        go_ret
        exact ⟨ret_bool hN.out.symm, rfl⟩
    · have e0 : k = l.length := by omega
      subst e0
      have hY := hide (all_whole hA.out)
      clear hA
      go_wp2_with fail
      go_ret
      exact ⟨ret_bool hY.out.symm, rfl⟩
theorem r_types_is (v : Value) (l : List Int) (r : Bool) (w : World) (hl : l.length ≤ 1000) (hL : SInts w.heap.size w v l) (h : l.all ri = r) :
    Calls Tryz.prog 59 #[v] w fun e w' => e = .returned (.bool r) ∧ w' = w := by rw [← h]; exact r_types v l w hl hL
set_option maxRecDepth 100000 in
set_option maxHeartbeats 1600000 in
theorem r_closed (v : Value) (l : List In) (w : World) (hl : l.length ≤ 1000) (hL : SIns w.heap.size w v l) :
    Calls Tryz.prog 61 #[v] w fun e w' => e = .returned (.bool (cl 1 l)) ∧ w' = w := by
  obtain ⟨a, cap, rfl, he⟩ := hL
  have HE := hide he
  clear he
  go_enter Tryz.func61, Tryz.ntmps61
  go_wp2_with fail
  go_loopw [3, 4] (fun ov iv wr => ∃ (k : Nat) (o : Int), k ≤ l.length ∧ iv = .int .i64 k ∧ ov = .int .i64 o ∧ 0 ≤ o ∧ o ≤ k ∧ wr = w ∧ Hid (cl (o + 1) (l.drop k) = cl 1 l)) (fun _ iv _ => l.length - (intOf iv).toNat)
  case atStart => exact ⟨0, 0, by omega, rfl, rfl, by omega, by omega, rfl, hide (by simp)⟩
  case round =>
    obtain ⟨k, o, hk, rfl, rfl, h1, h2, rfl, hA⟩ := hrel
    by_cases hlt : k < l.length
    · obtain ⟨b, off, rfl, hbb, hi, c0, c1, c2⟩ := HE.out k hlt
      clear hi
      have hS := hide (cl_step (o := o + 1) hlt)
      by_cases m2 : l[k].op = 2
      · have n2 : (l[k].op == 2) = true := by simpa using m2
        have hA2 : Hid (cl (o + 1 + 1) (l.drop (k + 1)) = cl 1 l) := hide (by have e := hS.out; rw [nxt_up (by omega), if_neg (by omega)] at e; rw [← e]; exact hA.out)
        clear hS hA HE m2
        go_wp2_with fail
        go_roundw
        case rel => exact ⟨k + 1, o + 1, by omega, by go_num, by go_num, by omega, by omega, by trivial, hA2⟩
        case measure => simp [intOf]; omega
      have n2 : (l[k].op == 2) = false := by simpa using m2
      by_cases m3 : l[k].op = 3
      · have n3 : (l[k].op == 3) = true := by simpa using m3
        have hA2 : Hid (cl (o + 1 + 1) (l.drop (k + 1)) = cl 1 l) := hide (by have e := hS.out; rw [nxt_up (by omega), if_neg (by omega)] at e; rw [← e]; exact hA.out)
        clear hS hA HE m3
        go_wp2_with fail
        go_roundw
        case rel => exact ⟨k + 1, o + 1, by omega, by go_num, by go_num, by omega, by omega, by trivial, hA2⟩
        case measure => simp [intOf]; omega
      have n3 : (l[k].op == 3) = false := by simpa using m3
      by_cases m4 : l[k].op = 4
      · have n4 : (l[k].op == 4) = true := by simpa using m4
        have hA2 : Hid (cl (o + 1 + 1) (l.drop (k + 1)) = cl 1 l) := hide (by have e := hS.out; rw [nxt_up (by omega), if_neg (by omega)] at e; rw [← e]; exact hA.out)
        clear hS hA HE m4
        go_wp2_with fail
        go_roundw
        case rel => exact ⟨k + 1, o + 1, by omega, by go_num, by go_num, by omega, by omega, by trivial, hA2⟩
        case measure => simp [intOf]; omega
      have n4 : (l[k].op == 4) = false := by simpa using m4
      by_cases m11 : l[k].op = 11
      · have n11 : (l[k].op == 11) = true := by simpa using m11
        rw [m11] at hS
        rw [nxt_dn, show o + 1 - 1 = o by omega] at hS
        by_cases ho : o = 0
        · subst ho
          have H : Hid (decide (k + 1 = l.length) = cl 1 l) := hide (by have e := hS.out; rw [if_pos (by omega)] at e; rw [← e]; exact hA.out)
          clear hS hA HE m2 m3 m4 m11
          by_cases hk1 : k + 1 = l.length
          · have z : ((k : Int) == (l.length : Int) - 1) = true := by simp; omega
            have H2 : Hid (cl 1 l = true) := hide (by rw [← H.out]; simp [hk1])
            clear H
            go_wp2_with fail
            go_ret
            exact ⟨ret_bool (by rw [H2.out]), rfl⟩
          · have z : ((k : Int) == (l.length : Int) - 1) = false := by simp; omega
            have H2 : Hid (cl 1 l = false) := hide (by rw [← H.out]; simp [hk1])
            clear H
            go_wp2_with fail
            go_ret
            exact ⟨ret_bool (by rw [H2.out]), rfl⟩
        · have hA2 : Hid (cl (o - 1 + 1) (l.drop (k + 1)) = cl 1 l) := hide (by have e := hS.out; rw [if_neg (by omega)] at e; rw [← hA.out, e]; rw [show o - 1 + 1 = o by omega])
          have z : (o == 0) = false := by simpa using ho
          clear hS hA HE m2 m3 m4 m11 ho
          go_wp2_with fail
          go_roundw
          case rel => exact ⟨k + 1, o - 1, by omega, by go_num, by go_num, by simp at z; omega, by omega, by trivial, hA2⟩
          case measure => simp [intOf]; omega
      have n11 : (l[k].op == 11) = false := by simpa using m11
      have hA2 : Hid (cl (o + 1) (l.drop (k + 1)) = cl 1 l) := hide (by have e := hS.out; rw [nxt_no m2 m3 m4 m11, if_neg (by omega)] at e; rw [← e]; exact hA.out)
      clear hS hA HE m2 m3 m4 m11
      go_wp2_with fail
      go_roundw
      case rel => exact ⟨k + 1, o, by omega, by go_num, rfl, by omega, by omega, by trivial, hA2⟩
      case measure => simp [intOf]; omega
    · have e0 : k = l.length := by omega
      subst e0
      have hY : Hid (cl 1 l = false) := hide (by rw [← hA.out]; simp [cl])
      clear hA HE
      go_wp2_with fail
      go_ret
      exact ⟨ret_bool hY.out.symm, rfl⟩
theorem r_closed_is (v : Value) (l : List In) (r : Bool) (w : World) (hl : l.length ≤ 1000) (hL : SIns w.heap.size w v l) (h : cl 1 l = r) :
    Calls Tryz.prog 61 #[v] w fun e w' => e = .returned (.bool r) ∧ w' = w := by rw [← h]; exact r_closed v l w hl hL
theorem r_u (n : Int) (w : World) (h : 0 ≤ n) (h2 : n ≤ 9223372036854775807) : Calls Tryz.prog 24 #[.int .i64 n] w fun e w' => e = .returned (.string (str (num n))) ∧ Below w.heap.size w w' := by
  have U := hide (refU_any n w h h2)
  unfold num
  clear h h2
  go_enter Tryz.func24, Tryz.ntmps24
  go_wp2_with fail
  refine U.out.mono ?_
  rintro e w1 ⟨rfl, b1⟩
  go_wp2_with fail
  go_ret
  exact ⟨rfl, b1⟩
theorem r_one (n : Int) (w : World) (h0 : 0 ≤ n) (h1 : n ≤ 255) : Calls Tryz.prog 25 #[.int .i64 n] w fun e w' => e = .returned (.string (str (oneB n))) ∧ Below w.heap.size w w' := by
  have hx : IntKind.u8.wrap n = n := by simp [IntKind.wrap, IntKind.signed, IntKind.bits]; omega
  have hc := one_str w n n rfl h0 h1
  unfold oneB
  clear h0 h1
  go_enter Tryz.func25, Tryz.ntmps25
  go_wp2_with fail
  go_ret
  exact ⟨rfl, bel_one _ _⟩
set_option maxRecDepth 100000 in
set_option maxHeartbeats 800000 in
theorem r_kinds (v : Value) (l : List Int) (w : World) (hl : l.length ≤ 1000) (hr : l.all ri = true) (hL : SInts w.heap.size w v l) :
    Calls Tryz.prog 22 #[v] w fun e w' => e = .returned (.string (str (lst tyB l))) ∧ Below w.heap.size w w' := by
  obtain ⟨a, cap, rfl, he⟩ := hL
  have HE := hide he
  have HR := hide hr
  have NW := hide (r_u l.length w (by omega) (by omega))
  clear he hr
  go_enter Tryz.func22, Tryz.ntmps22
  go_wp2_with fail
  refine NW.out.mono ?_
  rintro r w1 ⟨rfl, b1⟩
  go_wp2_with fail
  go_loopw [3, 4] (fun sv iv wr => ∃ k : Nat, k ≤ l.length ∧ iv = .int .i64 k ∧ sv = .string (str (num l.length ++ flat tyB (l.take k))) ∧ Below w.heap.size w wr) (fun _ iv _ => l.length - (intOf iv).toNat)
  case atStart => exact ⟨0, by omega, rfl, by rw [← num_flat0]; rfl, b1⟩
  case round =>
    obtain ⟨k, hk, rfl, rfl, hb⟩ := hrel
    have hbs := hb.size
    by_cases hlt : k < l.length
    · obtain ⟨b, off, rfl, hbb, hi, c0⟩ := HE.out k hlt
      have d0 := (hb.cell (p := ⟨b, off + k * 1, none⟩) hbb).trans c0
      rw [Nat.mul_one] at d0
      have hx := (ri_iff l[k]).1 (List.all_eq_true.1 HR.out l[k] (List.getElem_mem hlt))
      have ON := hide (r_one (127 - l[k]) wr (by omega) (by omega))
      have hw : wrap64 (127 - l[k]) = 127 - l[k] := by unfold wrap64; omega
      have hz : ¬ 9223372036854775807 < (str (num l.length ++ flat tyB (l.take k))).size + (str (oneB (127 - l[k]))).size := by
        rw [str_size, str_size]; have := part_bd (P := tyB) (fun x _ => Nat.le_trans (tyB_len x) (by decide)) hl k; simp only [oneB, List.length_cons, List.length_nil]; omega
      have hN := hide (flat_next (P := tyB) hlt)
      have HZ := hide hz
      clear hx c0 hi hz
      go_wp2_with fail
      refine ON.out.mono ?_
      rintro r w2 ⟨rfl, b2⟩
      have hb2 := hb.trans (b2.mono hbs)
      have hz := HZ.out
      clear b2
      go_wp2_with fail
      go_roundw
      case rel => exact ⟨k + 1, by omega, by go_num, by rw [str_append, hN.out]; simp only [oneB, tyB, List.append_assoc], hb2⟩
      case measure => simp [intOf]; omega
    · have e0 : k = l.length := by omega
      subst e0
      have e := lst_whole tyB l
      rw [e]
      go_wp2_with fail
      go_ret
      exact ⟨rfl, hb⟩
/-- A section, of how many things there are, and their bytes. -/
def secB (c : Int) (many : Nat) (b : List UInt8) : List UInt8 := if many = 0 then [] else oneB c ++ cnt (num many ++ b)
theorem secB_sec {α : Type} (c : Int) (P : α → List UInt8) (l : List α) : secB c l.length (flat P l) = sec c P l := rfl
set_option maxHeartbeats 800000 in
theorem r_section (c : Int) (many : Nat) (b : List UInt8) (w : World) (hc : 0 ≤ c ∧ c ≤ 255) (hm : many ≤ 1000) (hb : b.length ≤ 100000000000) :
    Calls Tryz.prog 23 #[.int .i64 c, .int .i64 many, .string (str b)] w fun e w' => e = .returned (.string (str (secB c many b))) ∧ Below w.heap.size w w' := by
  by_cases h0 : many = 0
  · subst h0
    clear hc hm hb
    go_enter Tryz.func23, Tryz.ntmps23
    go_wp2_with fail
    go_ret
    exact ⟨rfl, Below.refl _ _⟩
  · have hs : secB c many b = oneB c ++ cnt (num many ++ b) := by simp [secB, h0]
    have hz0 : ((many : Int) == 0) = false := by simpa using h0
    have n1 := num_len many
    have n2 := num_len (num many ++ b).length
    have U1 := hide (r_u many w (by omega) (by omega))
    have O1 := hide (fun w => r_one c w hc.1 hc.2)
    have hl : (num many ++ b).length ≤ 100000000009 := by simp only [List.length_append]; omega
    have U2 := hide (fun w => r_u (num many ++ b).length w (by omega) (by omega))
    have hz1 : ¬ 9223372036854775807 < (str (num many)).size + (str b).size := by rw [str_size, str_size]; omega
    have hz2 : ¬ 9223372036854775807 < (str (oneB c)).size + (str (num (num many ++ b).length)).size := by rw [str_size, str_size]; simp only [oneB, List.length_cons, List.length_nil]; omega
    have hz3 : ¬ 9223372036854775807 < (str (oneB c)).size + (str (num (num many ++ b).length)).size + ((str (num many)).size + (str b).size) := by simp only [str_size]; simp only [oneB, List.length_cons, List.length_nil]; omega
    have HS := hide hs
    have e0 := hide (str_append (num many) b)
    have e1 : ((num many ++ b).length : Int) = (((str (num many)).size : Int) + ((str b).size : Int)) := by simp only [str_size, List.length_append, Int.natCast_add]
    rw [e1] at U2
    have HZ := hide (And.intro hz1 (And.intro hz2 hz3))
    have E1 := hide e1
    clear hs hc hm hb h0 n1 n2 hl hz1 hz2 hz3 e1
    have hz1 := HZ.out.1
    go_enter Tryz.func23, Tryz.ntmps23
    go_wp2_with fail
    refine U1.out.mono ?_
    rintro r w1 ⟨rfl, b1⟩
    go_wp2_with fail
    refine (O1.out _).mono ?_
    rintro r w2 ⟨rfl, b2⟩
    go_wp2_with fail
    refine (U2.out _).mono ?_
    rintro r w3 ⟨rfl, b3⟩
    have hz2 := HZ.out.2.1
    have hz3 := HZ.out.2.2
    rw [E1.out] at hz2 hz3
    go_wp2_with fail
    go_ret
    exact ⟨ret_str (by rw [HS.out, ← E1.out, e0.out, str_append, str_append]; simp only [cnt, List.append_assoc]), below_next (below_next b1 b2) b3⟩
end Go.Proofs.YtcbfpikggphokaaGreatDoor

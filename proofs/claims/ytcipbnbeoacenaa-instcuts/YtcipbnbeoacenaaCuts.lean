/-
  An instruction that is cut off is none; a body is its instructions, each read behind the other: the walk of the statement InstCuts, for every list of instructions and every number.
-/
import Derived.Test.YtcipbnbeoacenaaBody
import Derived.BigQuiet
namespace Go.Proofs.Ytcipbnbeoacenaa
open Go.RowKit

/-- An instruction that is cut off is none. -/
theorem cut_none {op n m : Int} (hn : I64 n) (h : rt op n m = true) {j : Nat} (hj : j < (iby op n m).length) : tkI ((iby op n m).take j) = none := by
  cases e : tkI ((iby op n m).take j) with
  | none => rfl
  | some x =>
    obtain ⟨⟨o2, n2, m2⟩, q⟩ := x
    obtain ⟨k1, k2, k3, _, _⟩ := back_2 e
    have e1 := back_1 op n m [] hn h
    have e2 := back_1 o2 n2 m2 (q ++ (iby op n m).drop j) k3 k1
    rw [← List.append_assoc, k2, List.take_append_drop] at e2
    rw [List.append_nil, e2] at e1
    simp at e1
    omega
/-- The bytes of d instructions from the k-th on. -/
def suf (fo fn fm : Nat → Int) : Nat → Nat → List UInt8
  | _, 0 => []
  | k, d + 1 => iby (fo k) (fn k) (fm k) ++ suf fo fn fm (k + 1) d
theorem suf_body (fo fn fm : Nat → Int) : ∀ d k, bodyL fo fn fm k ++ suf fo fn fm k d = bodyL fo fn fm (k + d)
  | 0, k => by simp [suf]
  | d + 1, k => by
    have := suf_body fo fn fm d (k + 1)
    rw [suf, ← List.append_assoc]
    rw [show k + (d + 1) = k + 1 + d by omega, ← this]
    rfl
theorem suf_len (fo fn fm : Nat → Int) : ∀ d k, (suf fo fn fm k d).length ≤ 20 * d
  | 0, k => by simp [suf]
  | d + 1, k => by
    have := suf_len fo fn fm d (k + 1)
    have := iby_len (fo k) (fn k) (fm k)
    simp [suf]; omega
theorem ext_str' (l : List UInt8) (k : Nat) : (str l).extract 0 k = str (l.take k) := by
  rw [str_back ((str l).extract 0 k), ext_take, str_list]

set_option maxRecDepth 100000 in
set_option maxHeartbeats 1600000 in
theorem cuts_no (b off len cap : Nat) (fo fn fm : Nat → Int) (cut : Int) (k : Nat) (w : World) (hL : Lists w.heap.size w b off k fo fn fm) (hI : ∀ j, I64 (fn j) ∧ I64 (fm j)) (hk : k ≤ len) (hk1 : k ≤ 100) (hcap : len ≤ cap) (hmin : min (len : Int) 100 = k) (hA : ¬ allR fo fn fm k) :
    Calls Try.prog 7 #[.slice (some ⟨b, off, none⟩) len cap, .int .i64 cut] w fun r w' => r = .returned (.bool true) ∧ Below w.heap.size w w' := by
  have BD := hide (fun w hL => body_is b off k cap fo fn fm [] 4 w (by omega) hL hI (fun h => absurd h hA) (fun _ => rfl))
  have HL := hide hL
  have he0 : (str []).toList.isEmpty = true := by unfold str; simp
  clear hL hI hA
  go_enter Try.func7, Try.ntmps7
  go_wp2_with fail
  refine (examples_any _).mono ?_
  rintro e w1 ⟨rfl, b1⟩
  have H1 := hide (HL.out.below b1)
  have s1 := b1.size
  go_wp2_with fail
  refine (BD.out _ (H1.out.more s1)).mono ?_
  rintro e w2 ⟨rfl, b2⟩
  go_wp2_with fail
  go_ret
  exact ⟨rfl, below_next b1 b2⟩
set_option maxRecDepth 100000 in
set_option maxHeartbeats 3200000 in
theorem cuts_pos (b off len cap : Nat) (fo fn fm : Nat → Int) (ct : Int) (k : Nat) (w : World) (hL : Lists w.heap.size w b off k fo fn fm) (hI : ∀ j, I64 (fn j) ∧ I64 (fm j)) (hk : k ≤ len) (hk1 : k ≤ 100) (hcap : len ≤ cap) (hmin : min (len : Int) 100 = k) (hA : allR fo fn fm k)
    (hct : 0 ≤ ct ∧ ct ≤ 9223372036854775807) :
    Calls Try.prog 7 #[.slice (some ⟨b, off, none⟩) len cap, .int .i64 ct] w fun r w' => r = .returned (.bool true) ∧ Below w.heap.size w w' := by
  have BD := hide (fun w hL => body_is b off k cap fo fn fm (bodyL fo fn fm k) 0 w (by omega) hL hI (fun _ => rfl) (fun h => absurd hA h))
  have HL := hide hL
  have HI := hide hI
  have HA := hide hA
  have he0 : (str []).toList.isEmpty = true := by unfold str; simp
  clear hL hI hA
  have hd : decide (ct < 0) = false := by simp; omega
  go_enter Try.func7, Try.ntmps7
  go_wp2_with fail
  refine (examples_any _).mono ?_
  rintro e w1 ⟨rfl, b1⟩
  have H1 := hide (HL.out.below b1)
  have s1 := b1.size
  go_wp2_with fail
  refine (BD.out _ (H1.out.more s1)).mono ?_
  rintro e w2 ⟨rfl, b2⟩
  have b12 := below_next b1 b2
  clear b1 b2 H1 s1
  go_wp2_with fail
  go_loopw [8, 9] (fun sv iv wr => ∃ i : Nat, i ≤ k ∧ iv = .int .i64 i ∧ sv = .string (str (suf fo fn fm i (k - i))) ∧ Below w.heap.size w wr) (fun _ iv _ => k - (intOf iv).toNat)
  case atStart =>
    refine ⟨0, by omega, rfl, ?_, b12⟩
    have := suf_body fo fn fm k 0
    simp [bodyL] at this
    simp [this]
  case round =>
      obtain ⟨i, hi, rfl, rfl, hb⟩ := hrel
      have hbs := hb.size
      by_cases hlt : i < k
      · obtain ⟨hbb, c0, c1, c2⟩ := HL.out i hlt
        have hr := HA.out i hlt
        have hn := (HI.out i).1
        have hX := iby_len (fo i) (fn i) (fm i)
        have hX1 : 1 ≤ (iby (fo i) (fn i) (fm i)).length := by unfold iby; simp
        have hR := suf_len fo fn fm (k - (i + 1)) (i + 1)
        have eS : suf fo fn fm i (k - i) = iby (fo i) (fn i) (fm i) ++ suf fo fn fm (i + 1) (k - (i + 1)) := by
          rw [show k - i = (k - (i + 1)) + 1 by omega]; rfl
        have hx : ct.tmod ((iby (fo i) (fn i) (fm i)).length : Int) = ((ct.toNat % (iby (fo i) (fn i) (fm i)).length : Nat) : Int) := by
          rw [Int.tmod_eq_emod_of_nonneg hct.1, Int.natCast_emod, Int.toNat_of_nonneg hct.1]
        have hj : ct.toNat % (iby (fo i) (fn i) (fm i)).length < (iby (fo i) (fn i) (fm i)).length := Nat.mod_lt _ hX1
        rw [eS]
        have TK := hide (take_some (iby (fo i) (fn i) (fm i) ++ suf fo fn fm (i + 1) (k - (i + 1))) (fo i) (fn i) (fm i) (suf fo fn fm (i + 1) (k - (i + 1))) · (by simp; omega) (back_1 _ _ _ _ hn hr))
        have TN := hide (take_none ((iby (fo i) (fn i) (fm i)).take (ct.toNat % (iby (fo i) (fn i) (fm i)).length)) · (by simp; omega) (cut_none hn hr hj))
        have l1 : (str (iby (fo i) (fn i) (fm i) ++ suf fo fn fm (i + 1) (k - (i + 1)))).size = (iby (fo i) (fn i) (fm i)).length + (suf fo fn fm (i + 1) (k - (i + 1))).length := by rw [str_size]; simp
        have l2 : (str (suf fo fn fm (i + 1) (k - (i + 1)))).size = (suf fo fn fm (i + 1) (k - (i + 1))).length := str_size _
        have l3 : (str (iby (fo i) (fn i) (fm i))).size = (iby (fo i) (fn i) (fm i)).length := str_size _
        have hone : (str (iby (fo i) (fn i) (fm i) ++ suf fo fn fm (i + 1) (k - (i + 1)))).extract 0 (iby (fo i) (fn i) (fm i)).length = str (iby (fo i) (fn i) (fm i)) := by rw [ext_str']; simp
        have htwo : (str (iby (fo i) (fn i) (fm i))).extract 0 (ct.toNat % (iby (fo i) (fn i) (fm i)).length) = str ((iby (fo i) (fn i) (fm i)).take (ct.toNat % (iby (fo i) (fn i) (fm i)).length)) := ext_str' _ _
        have HS : Hid (suf fo fn fm (i + 1) (k - (i + 1)) = suf fo fn fm (i + 1) (k - (i + 1))) := hide rfl
        clear eS hr hn
        unfold ins at TK TN
        generalize (iby (fo i) (fn i) (fm i)).take (ct.toNat % (iby (fo i) (fn i) (fm i)).length) = Y at *
        generalize ct.toNat % (iby (fo i) (fn i) (fm i)).length = j at *
        generalize iby (fo i) (fn i) (fm i) ++ suf fo fn fm (i + 1) (k - (i + 1)) = S at *
        generalize hRe : suf fo fn fm (i + 1) (k - (i + 1)) = R at TK TN l1 l2 hone hR
        generalize iby (fo i) (fn i) (fm i) = X at *
        generalize hc : X.length = c at *
        generalize hrl : R.length = rl at *
        have hz : ((c : Int) == 0) = false := by rw [beq_eq_false_iff_ne]; omega
        have hz' : ¬ ((c : Int) = 0) := by omega
        have HRe := hide hRe
        clear hRe hc hrl HS
        go_wp2_with fail
        refine (TK.out _).mono ?_
        rintro e w3 ⟨rfl, b3⟩
        have hb3 := hb.trans (b3.mono hbs)
        have s3 := hb3.size
        have d0 : ∀ o, (w3.alloc o).cell? ⟨b, off + i * 3, none⟩ = some (.int .i64 (fo i)) := fun o => ((hb3.alloc s3 o).cell (p := ⟨b, off + i * 3, none⟩) hbb).trans c0
        have d1 : ∀ o, (w3.alloc o).cell? ⟨b, off + i * 3 + 1, none⟩ = some (.int .i64 (fn i)) := fun o => ((hb3.alloc s3 o).cell (p := ⟨b, off + i * 3 + 1, none⟩) hbb).trans c1
        have d2 : ∀ o, (w3.alloc o).cell? ⟨b, off + i * 3 + 2, none⟩ = some (.int .i64 (fm i)) := fun o => ((hb3.alloc s3 o).cell (p := ⟨b, off + i * 3 + 2, none⟩) hbb).trans c2
        clear b3 c0 c1 c2
        go_wp2_with fail
        go_quiet (fail)
        go_wp2_with fail
        refine (TN.out _).mono ?_
        rintro e w4 ⟨rfl, b4⟩
        have hb4 := (below_drewN (hb3.alloc s3 _) _).trans (b4.mono (by simp; omega))
        go_wp2_with fail
        go_roundw
        case rel => exact ⟨i + 1, by omega, by go_num, by rw [HRe.out], hb4.alloc hb4.size _⟩
        case measure => simp [intOf]; omega
      · have e0 : i = k := by omega
        subst e0
        rw [show i - i = 0 by omega]
        have hs0 : suf fo fn fm i 0 = [] := rfl
        rw [hs0]
        go_wp2_with fail
        go_ret
        exact ⟨rfl, hb⟩
set_option maxRecDepth 100000 in
set_option maxHeartbeats 3200000 in
theorem cuts_neg (b off len cap : Nat) (fo fn fm : Nat → Int) (cut ct : Int) (k : Nat) (w : World) (hL : Lists w.heap.size w b off k fo fn fm) (hI : ∀ j, I64 (fn j) ∧ I64 (fm j)) (hk : k ≤ len) (hk1 : k ≤ 100) (hcap : len ≤ cap) (hmin : min (len : Int) 100 = k) (hA : allR fo fn fm k)
    (hct : 0 ≤ ct ∧ ct ≤ 9223372036854775807) (hd : decide (cut < 0) = true) (hc1 : wrap64 (-wrap64 (cut + 1)) = ct) :
    Calls Try.prog 7 #[.slice (some ⟨b, off, none⟩) len cap, .int .i64 cut] w fun r w' => r = .returned (.bool true) ∧ Below w.heap.size w w' := by
  have BD := hide (fun w hL => body_is b off k cap fo fn fm (bodyL fo fn fm k) 0 w (by omega) hL hI (fun _ => rfl) (fun h => absurd hA h))
  have HL := hide hL
  have HI := hide hI
  have HA := hide hA
  have he0 : (str []).toList.isEmpty = true := by unfold str; simp
  clear hL hI hA
  go_enter Try.func7, Try.ntmps7
  go_wp2_with fail
  refine (examples_any _).mono ?_
  rintro e w1 ⟨rfl, b1⟩
  have H1 := hide (HL.out.below b1)
  have s1 := b1.size
  go_wp2_with fail
  refine (BD.out _ (H1.out.more s1)).mono ?_
  rintro e w2 ⟨rfl, b2⟩
  have b12 := below_next b1 b2
  clear b1 b2 H1 s1
  go_wp2_with fail
  rw [hc1]
  clear hc1 hd
  go_loopw [8, 9] (fun sv iv wr => ∃ i : Nat, i ≤ k ∧ iv = .int .i64 i ∧ sv = .string (str (suf fo fn fm i (k - i))) ∧ Below w.heap.size w wr) (fun _ iv _ => k - (intOf iv).toNat)
  case atStart =>
    refine ⟨0, by omega, rfl, ?_, b12⟩
    have := suf_body fo fn fm k 0
    simp [bodyL] at this
    simp [this]
  case round =>
      obtain ⟨i, hi, rfl, rfl, hb⟩ := hrel
      have hbs := hb.size
      by_cases hlt : i < k
      · obtain ⟨hbb, c0, c1, c2⟩ := HL.out i hlt
        have hr := HA.out i hlt
        have hn := (HI.out i).1
        have hX := iby_len (fo i) (fn i) (fm i)
        have hX1 : 1 ≤ (iby (fo i) (fn i) (fm i)).length := by unfold iby; simp
        have hR := suf_len fo fn fm (k - (i + 1)) (i + 1)
        have eS : suf fo fn fm i (k - i) = iby (fo i) (fn i) (fm i) ++ suf fo fn fm (i + 1) (k - (i + 1)) := by
          rw [show k - i = (k - (i + 1)) + 1 by omega]; rfl
        have hx : ct.tmod ((iby (fo i) (fn i) (fm i)).length : Int) = ((ct.toNat % (iby (fo i) (fn i) (fm i)).length : Nat) : Int) := by
          rw [Int.tmod_eq_emod_of_nonneg hct.1, Int.natCast_emod, Int.toNat_of_nonneg hct.1]
        have hj : ct.toNat % (iby (fo i) (fn i) (fm i)).length < (iby (fo i) (fn i) (fm i)).length := Nat.mod_lt _ hX1
        rw [eS]
        have TK := hide (take_some (iby (fo i) (fn i) (fm i) ++ suf fo fn fm (i + 1) (k - (i + 1))) (fo i) (fn i) (fm i) (suf fo fn fm (i + 1) (k - (i + 1))) · (by simp; omega) (back_1 _ _ _ _ hn hr))
        have TN := hide (take_none ((iby (fo i) (fn i) (fm i)).take (ct.toNat % (iby (fo i) (fn i) (fm i)).length)) · (by simp; omega) (cut_none hn hr hj))
        have l1 : (str (iby (fo i) (fn i) (fm i) ++ suf fo fn fm (i + 1) (k - (i + 1)))).size = (iby (fo i) (fn i) (fm i)).length + (suf fo fn fm (i + 1) (k - (i + 1))).length := by rw [str_size]; simp
        have l2 : (str (suf fo fn fm (i + 1) (k - (i + 1)))).size = (suf fo fn fm (i + 1) (k - (i + 1))).length := str_size _
        have l3 : (str (iby (fo i) (fn i) (fm i))).size = (iby (fo i) (fn i) (fm i)).length := str_size _
        have hone : (str (iby (fo i) (fn i) (fm i) ++ suf fo fn fm (i + 1) (k - (i + 1)))).extract 0 (iby (fo i) (fn i) (fm i)).length = str (iby (fo i) (fn i) (fm i)) := by rw [ext_str']; simp
        have htwo : (str (iby (fo i) (fn i) (fm i))).extract 0 (ct.toNat % (iby (fo i) (fn i) (fm i)).length) = str ((iby (fo i) (fn i) (fm i)).take (ct.toNat % (iby (fo i) (fn i) (fm i)).length)) := ext_str' _ _
        have HS : Hid (suf fo fn fm (i + 1) (k - (i + 1)) = suf fo fn fm (i + 1) (k - (i + 1))) := hide rfl
        clear eS hr hn
        unfold ins at TK TN
        generalize (iby (fo i) (fn i) (fm i)).take (ct.toNat % (iby (fo i) (fn i) (fm i)).length) = Y at *
        generalize ct.toNat % (iby (fo i) (fn i) (fm i)).length = j at *
        generalize iby (fo i) (fn i) (fm i) ++ suf fo fn fm (i + 1) (k - (i + 1)) = S at *
        generalize hRe : suf fo fn fm (i + 1) (k - (i + 1)) = R at TK TN l1 l2 hone hR
        generalize iby (fo i) (fn i) (fm i) = X at *
        generalize hc : X.length = c at *
        generalize hrl : R.length = rl at *
        have hz : ((c : Int) == 0) = false := by rw [beq_eq_false_iff_ne]; omega
        have hz' : ¬ ((c : Int) = 0) := by omega
        have HRe := hide hRe
        clear hRe hc hrl HS
        go_wp2_with fail
        refine (TK.out _).mono ?_
        rintro e w3 ⟨rfl, b3⟩
        have hb3 := hb.trans (b3.mono hbs)
        have s3 := hb3.size
        have d0 : ∀ o, (w3.alloc o).cell? ⟨b, off + i * 3, none⟩ = some (.int .i64 (fo i)) := fun o => ((hb3.alloc s3 o).cell (p := ⟨b, off + i * 3, none⟩) hbb).trans c0
        have d1 : ∀ o, (w3.alloc o).cell? ⟨b, off + i * 3 + 1, none⟩ = some (.int .i64 (fn i)) := fun o => ((hb3.alloc s3 o).cell (p := ⟨b, off + i * 3 + 1, none⟩) hbb).trans c1
        have d2 : ∀ o, (w3.alloc o).cell? ⟨b, off + i * 3 + 2, none⟩ = some (.int .i64 (fm i)) := fun o => ((hb3.alloc s3 o).cell (p := ⟨b, off + i * 3 + 2, none⟩) hbb).trans c2
        clear b3 c0 c1 c2
        go_wp2_with fail
        go_quiet (fail)
        go_wp2_with fail
        refine (TN.out _).mono ?_
        rintro e w4 ⟨rfl, b4⟩
        have hb4 := (below_drewN (hb3.alloc s3 _) _).trans (b4.mono (by simp; omega))
        go_wp2_with fail
        go_roundw
        case rel => exact ⟨i + 1, by omega, by go_num, by rw [HRe.out], hb4.alloc hb4.size _⟩
        case measure => simp [intOf]; omega
      · have e0 : i = k := by omega
        subst e0
        rw [show i - i = 0 by omega]
        have hs0 : suf fo fn fm i 0 = [] := rfl
        rw [hs0]
        go_wp2_with fail
        go_ret
        exact ⟨rfl, hb⟩
set_option maxRecDepth 100000 in
theorem cuts_nil (cut : Int) (w : World) :
    Calls Try.prog 7 #[.slice none 0 0, .int .i64 cut] w fun r w' => r = .returned (.bool true) ∧ Below w.heap.size w w' := by
  have he0 : (str []).toList.isEmpty = true := by unfold str; simp
  cases hd : decide (cut < 0)
  all_goals
    go_enter Try.func7, Try.ntmps7
    go_wp2_with fail
    refine (examples_any _).mono ?_
    rintro e w1 ⟨rfl, b1⟩
    go_wp2_with fail
    refine (body_nil none 0 _).mono ?_
    rintro e w2 ⟨rfl, b2⟩
    have b12 := below_next b1 b2
    go_wp2_with fail
    go_loopw [8, 9] (fun sv iv wr => sv = .string (str []) ∧ iv = .int .i64 0 ∧ Below w.heap.size w wr) (fun _ _ _ => 0)
    case atStart => exact ⟨rfl, rfl, b12⟩
    case round =>
      obtain ⟨rfl, rfl, hb⟩ := hrel
      go_wp2_with fail
      go_ret
      exact ⟨rfl, hb⟩
set_option maxRecDepth 100000 in
theorem cuts_empty (a : Addr) (cap : Nat) (cut : Int) (w : World) :
    Calls Try.prog 7 #[.slice (some a) 0 cap, .int .i64 cut] w fun r w' => r = .returned (.bool true) ∧ Below w.heap.size w w' := by
  have he0 : (str []).toList.isEmpty = true := by unfold str; simp
  cases hd : decide (cut < 0)
  all_goals
    go_enter Try.func7, Try.ntmps7
    go_wp2_with fail
    refine (examples_any _).mono ?_
    rintro e w1 ⟨rfl, b1⟩
    go_wp2_with fail
    refine (body_nil (some a) cap _).mono ?_
    rintro e w2 ⟨rfl, b2⟩
    have b12 := below_next b1 b2
    go_wp2_with fail
    go_loopw [8, 9] (fun sv iv wr => sv = .string (str []) ∧ iv = .int .i64 0 ∧ Below w.heap.size w wr) (fun _ _ _ => 0)
    case atStart => exact ⟨rfl, rfl, b12⟩
    case round =>
      obtain ⟨rfl, rfl, hb⟩ := hrel
      go_wp2_with fail
      go_ret
      exact ⟨rfl, hb⟩
theorem cuts_walk (b off len cap : Nat) (fo fn fm : Nat → Int) (cut : Int) (w : World) (hL : Lists w.heap.size w b off len fo fn fm) (hI : ∀ j, I64 (fn j) ∧ I64 (fm j)) (hcap : len ≤ cap) (hc : I64 cut) :
    Calls Try.prog 7 #[.slice (some ⟨b, off, none⟩) len cap, .int .i64 cut] w fun r w' => r = .returned (.bool true) ∧ Below w.heap.size w w' := by
  have hL' : Lists w.heap.size w b off (min len 100) fo fn fm := fun j hj => hL j (Nat.lt_of_lt_of_le hj (Nat.min_le_left _ _))
  have h1 : min len 100 ≤ len := Nat.min_le_left _ _
  have h2 : min len 100 ≤ 100 := Nat.min_le_right _ _
  have h3 : min (len : Int) 100 = ((min len 100 : Nat) : Int) := by omega
  unfold I64 at hc
  by_cases hA : allR fo fn fm (min len 100)
  · by_cases hd : cut < 0
    · exact cuts_neg b off len cap fo fn fm cut (-(cut + 1)) (min len 100) w hL' hI h1 h2 hcap h3 hA (by omega) (by simpa using hd) (by unfold wrap64; omega)
    · exact cuts_pos b off len cap fo fn fm cut (min len 100) w hL' hI h1 h2 hcap h3 hA (by omega)
  · exact cuts_no b off len cap fo fn fm cut (min len 100) w hL' hI h1 h2 hcap h3 hA
end Go.Proofs.Ytcipbnbeoacenaa

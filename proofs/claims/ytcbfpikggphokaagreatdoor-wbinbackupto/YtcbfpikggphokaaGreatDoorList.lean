/-
  The program's functions list and section, of each type of things: how many there are, and these, as a function that is asked of each writes it; memory that was there stays as it was.
-/
import Derived.Test.YtcbfpikggphokaaGreatDoorEnc
namespace Go.Proofs.YtcbfpikggphokaaGreatDoor
open Go.RowKit

theorem sec_none {α : Type} {k : Int} {P : α → List UInt8} {l : List α} (h : l.length = 0) : sec k P l = [] := by simp [sec, h]
theorem sec_some {α : Type} {k : Int} {P : α → List UInt8} {l : List α} (h : ¬ l.length = 0) : sec k P l = oneB k ++ cnt (lst P l) := by simp [sec, h]
theorem num_flat0 {α : Type} (P : α → List UInt8) (l : List α) : ([] : List UInt8) ++ num l.length = num l.length ++ flat P (l.take 0) := by simp [flat]
theorem lst_whole {α : Type} (P : α → List UInt8) (l : List α) : num l.length ++ flat P (l.take l.length) = lst P l := by simp [lst]
theorem lst_bd {α : Type} {P : α → List UInt8} {l : List α} (h : ∀ x ∈ l, (P x).length ≤ 10000000) (hl : l.length ≤ 1000) : (lst P l).length ≤ 10000000009 := by
  have h1 := lst_len h
  have h2 : l.length * 10000000 ≤ 1000 * 10000000 := Nat.mul_le_mul_right _ hl
  omega
theorem part_bd {α : Type} {P : α → List UInt8} {l : List α} (h : ∀ x ∈ l, (P x).length ≤ 10000000) (hl : l.length ≤ 1000) (k : Nat) : (num l.length ++ flat P (l.take k)).length ≤ 10000000009 := by
  have h1 := flat_take h k
  have h2 : l.length * 10000000 ≤ 1000 * 10000000 := Nat.mul_le_mul_right _ hl
  have h3 := num_len l.length
  simp only [List.length_append]; omega
set_option maxRecDepth 100000 in
set_option maxHeartbeats 1600000 in
theorem list_int (g : FuncId) (P : Int → List UInt8) (v : Value) (l : List Int) (w : World) (hg : ∀ args w, (callFunc g args).run Tryz.prog w = .ok (.enter g args) w) (hl : l.length ≤ 1000) (hz : ∀ x ∈ l, (P x).length ≤ 10000000) (hL : SInts w.heap.size w v l)
    (hf : ∀ x ∈ l, ∀ (w : World), I64 x → Calls Tryz.prog g #[.int .i64 x] w fun e w' => e = .returned (.string (str (P x))) ∧ Below w.heap.size w w') :
    Calls Tryz.prog 89 #[v, .func (.func g) #[] #[]] w fun e w' => e = .returned (.string (str (lst P l))) ∧ Below w.heap.size w w' := by
  obtain ⟨a, cap, rfl, he⟩ := hL
  have HE := hide he
  have HF := hide hf
  have HZ := hide hz
  have NW := hide (fun w => number_w l.length w (by omega))
  clear he hf hz
  go_enter Tryz.func89, Tryz.ntmps89
  go_wp2_with fail
  refine (NW.out _).mono ?_
  rintro r w1 ⟨rfl, b1⟩
  have B1 := hide (builder_kept (builder_fresh w) b1)
  have hb1 := below_next (bel_one w _) b1
  have q1 := hb1.size
  clear b1
  go_wp2_with fail
  refine (b_text w.heap.size w.heap.size (Lib.byteCells []) (str (num l.length)) _ B1.out (by rw [Lib.byteCells_length, str_size]; have := num_len l.length; simp; omega) q1).mono ?_
  rintro r w2 ⟨rfl, a2, b2⟩
  have B2 := hide (at_text a2 rfl)
  rw [num_flat0 P l] at B2
  have hb2 := hb1.trans b2
  clear a2 b2 B1 NW
  go_wp2_with fail
  go_loopw [14] (fun iv wr => ∃ k : Nat, k ≤ l.length ∧ iv = .int .i64 k ∧ Below w.heap.size w wr ∧ Hid (Lib.IsBuilder 177 5 w.heap.size w.heap.size (Lib.byteCells (num l.length ++ flat P (l.take k))) wr)) (fun iv _ => l.length - (intOf iv).toNat)
  case atStart => exact ⟨0, by omega, rfl, hb2, B2⟩
  case round =>
    obtain ⟨k, hk, rfl, hb, hB⟩ := hrel
    have hbs := hb.size
    by_cases hlt : k < l.length
    · obtain ⟨b, off, rfl, hbb, ⟨hi, c0⟩⟩ := HE.out k hlt
      have d0 := (hb.cell (p := ⟨b, off + k * 1, none⟩) hbb).trans c0
      rw [Nat.mul_one] at d0
      clear c0
      have hb2 := hb
      have q2 := hbs
      have hB1 := hB
      have CF := hide (HF.out l[k] (List.getElem_mem hlt) wr hi)
      have hzk := HZ.out l[k] (List.getElem_mem hlt)
      have hpb := part_bd HZ.out hl k
      have hN := hide (flat_next (P := P) hlt)
      clear hi HF
      go_wp2_with fail
      refine CF.out.mono ?_
      rintro r w3 ⟨rfl, b3⟩
      have hB2 := hide (builder_kept hB1.out b3)
      have hb3 := hb.trans (b3.mono hbs)
      have q3 := hb3.size
      clear b3 CF
      go_wp2_with fail
      refine (b_text w.heap.size w.heap.size (Lib.byteCells (num l.length ++ flat P (l.take k))) (str (P l[k])) _ hB2.out (by rw [Lib.byteCells_length, str_size]; omega) q3).mono ?_
      rintro r w4 ⟨rfl, a4, b4⟩
      have hB3 := hide (at_text a4 rfl)
      rw [List.append_assoc, ← hN.out] at hB3
      have hb4 := hb3.trans b4
      clear a4 b4 hN hzk hpb
      go_wp2_with fail
      go_roundw
      case rel => exact ⟨k + 1, by omega, by go_num, hb4, hB3⟩
      case measure => simp [intOf]; omega
    · have e0 : k = l.length := by omega
      subst e0
      rw [lst_whole P l] at hB
      go_wp2_with fail
      refine (b_string w.heap.size w.heap.size (lst P l) _ hB.out hbs).mono ?_
      rintro r w3 ⟨rfl, b3⟩
      go_wp2_with fail
      go_ret
      exact ⟨rfl, hb.trans b3⟩
set_option maxHeartbeats 800000 in
theorem section_int (c : Int) (g : FuncId) (P : Int → List UInt8) (v : Value) (l : List Int) (w : World) (hc : 0 ≤ c ∧ c ≤ 255) (hg : ∀ args w, (callFunc g args).run Tryz.prog w = .ok (.enter g args) w) (hl : l.length ≤ 1000) (hz : ∀ x ∈ l, (P x).length ≤ 10000000) (hL : SInts w.heap.size w v l)
    (hf : ∀ x ∈ l, ∀ (w : World), I64 x → Calls Tryz.prog g #[.int .i64 x] w fun e w' => e = .returned (.string (str (P x))) ∧ Below w.heap.size w w') :
    Calls Tryz.prog 41 #[.int .i64 c, v, .func (.func g) #[] #[]] w fun e w' => e = .returned (.string (str (sec c P l))) ∧ Below w.heap.size w w' := by
  by_cases h0 : l.length = 0
  · obtain ⟨a, cap, rfl, _⟩ := hL
    rw [sec_none h0, h0]
    clear hg hl hz hf h0 hc
    go_enter Tryz.func41, Tryz.ntmps41
    go_wp2_with fail
    go_ret
    exact ⟨rfl, Below.refl _ _⟩
  · rw [sec_some h0]
    have ON := hide (oneByte_w c w hc.1 hc.2)
    have LI := hide (fun w1 (b1 : Below w.heap.size w w1) => list_int g P v l w1 hg hl hz (hL.step keeps_int b1 b1.size) hf)
    have hq := lst_bd hz hl
    have CN := hide (fun w => counted_w (lst P l) w (by omega))
    have hs : ¬ 9223372036854775807 < (str (oneB c)).size + (str (cnt (lst P l))).size := by
      rw [str_size, str_size]; have := cnt_len (lst P l); simp only [oneB, List.length_cons, List.length_nil]; omega
    obtain ⟨a, cap, rfl, _⟩ := hL
    have hz0 : ((l.length : Int) == 0) = false := by simpa using h0
    have HS := hide hs
    clear hl hz hf h0 hc hq hs
    go_enter Tryz.func41, Tryz.ntmps41
    go_wp2_with fail
    refine ON.out.mono ?_
    rintro r w1 ⟨rfl, b1⟩
    have L1 := hide (LI.out w1 b1)
    clear LI ON
    go_wp2_with fail
    refine L1.out.mono ?_
    rintro r w2 ⟨rfl, b2⟩
    have b12 := below_next b1 b2
    clear b1 b2 L1
    go_wp2_with fail
    refine (CN.out w2).mono ?_
    rintro r w3 ⟨rfl, b3⟩
    have hs := HS.out
    clear HS CN
    go_wp2_with fail
    go_ret
    exact ⟨ret_str (str_append _ _), below_next b12 b3⟩
set_option maxRecDepth 100000 in
set_option maxHeartbeats 1600000 in
theorem list_sg (g : FuncId) (P : Sg → List UInt8) (v : Value) (l : List Sg) (w : World) (hg : ∀ args w, (callFunc g args).run Tryz.prog w = .ok (.enter g args) w) (hl : l.length ≤ 1000) (hz : ∀ x ∈ l, (P x).length ≤ 10000000) (hL : SSgs w.heap.size w v l)
    (hf : ∀ x ∈ l, ∀ vp vr (w : World), SInts w.heap.size w vp x.params → SInts w.heap.size w vr x.results → Calls Tryz.prog g #[.agg #[vp, vr]] w fun e w' => e = .returned (.string (str (P x))) ∧ Below w.heap.size w w') :
    Calls Tryz.prog 88 #[v, .func (.func g) #[] #[]] w fun e w' => e = .returned (.string (str (lst P l))) ∧ Below w.heap.size w w' := by
  obtain ⟨a, cap, rfl, he⟩ := hL
  have HE := hide he
  have HF := hide hf
  have HZ := hide hz
  have NW := hide (fun w => number_w l.length w (by omega))
  clear he hf hz
  go_enter Tryz.func88, Tryz.ntmps88
  go_wp2_with fail
  refine (NW.out _).mono ?_
  rintro r w1 ⟨rfl, b1⟩
  have B1 := hide (builder_kept (builder_fresh w) b1)
  have hb1 := below_next (bel_one w _) b1
  have q1 := hb1.size
  clear b1
  go_wp2_with fail
  refine (b_text w.heap.size w.heap.size (Lib.byteCells []) (str (num l.length)) _ B1.out (by rw [Lib.byteCells_length, str_size]; have := num_len l.length; simp; omega) q1).mono ?_
  rintro r w2 ⟨rfl, a2, b2⟩
  have B2 := hide (at_text a2 rfl)
  rw [num_flat0 P l] at B2
  have hb2 := hb1.trans b2
  clear a2 b2 B1 NW
  go_wp2_with fail
  go_loopw [14] (fun iv wr => ∃ k : Nat, k ≤ l.length ∧ iv = .int .i64 k ∧ Below w.heap.size w wr ∧ Hid (Lib.IsBuilder 177 5 w.heap.size w.heap.size (Lib.byteCells (num l.length ++ flat P (l.take k))) wr)) (fun iv _ => l.length - (intOf iv).toNat)
  case atStart => exact ⟨0, by omega, rfl, hb2, B2⟩
  case round =>
    obtain ⟨k, hk, rfl, hb, hB⟩ := hrel
    have hbs := hb.size
    by_cases hlt : k < l.length
    · obtain ⟨b, off, rfl, hbb, ⟨vp, vr, c0, c1, hp, hr⟩⟩ := HE.out k hlt
      have hp0 := hp
      have hr0 := hr
      obtain ⟨ap, kp, rfl, _⟩ := hp0
      obtain ⟨ar, kr, rfl, _⟩ := hr0
      have d0 := (hb.cell (p := ⟨b, off + k * 2, none⟩) hbb).trans c0
      have d1 := (hb.cell (p := ⟨b, off + k * 2 + 1, none⟩) hbb).trans c1
      clear c0 c1
      have hy := bel_one wr (.cells #[.slice ap l[k].params.length kp, .slice ar l[k].results.length kr] 64)
      have hb2 := hb.trans (hy.mono hbs)
      have q2 := hb2.size
      have hB1 := hide (builder_kept hB.out hy)
      have CF := hide (HF.out l[k] (List.getElem_mem hlt) _ _ (wr.alloc (.cells #[.slice ap l[k].params.length kp, .slice ar l[k].results.length kr] 64)) (hp.step keeps_int hb2 q2) (hr.step keeps_int hb2 q2))
      have hzk := HZ.out l[k] (List.getElem_mem hlt)
      have hpb := part_bd HZ.out hl k
      have hN := hide (flat_next (P := P) hlt)
      clear hp hr HF
      go_wp2_with fail
      refine CF.out.mono ?_
      rintro r w3 ⟨rfl, b3⟩
      have hB2 := hide (builder_kept hB1.out b3)
      have hb3 := hb2.trans (b3.mono q2)
      have q3 := hb3.size
      clear b3 CF
      go_wp2_with fail
      refine (b_text w.heap.size w.heap.size (Lib.byteCells (num l.length ++ flat P (l.take k))) (str (P l[k])) _ hB2.out (by rw [Lib.byteCells_length, str_size]; omega) q3).mono ?_
      rintro r w4 ⟨rfl, a4, b4⟩
      have hB3 := hide (at_text a4 rfl)
      rw [List.append_assoc, ← hN.out] at hB3
      have hb4 := hb3.trans b4
      clear a4 b4 hN hzk hpb
      go_wp2_with fail
      go_roundw
      case rel => exact ⟨k + 1, by omega, by go_num, hb4, hB3⟩
      case measure => simp [intOf]; omega
    · have e0 : k = l.length := by omega
      subst e0
      rw [lst_whole P l] at hB
      go_wp2_with fail
      refine (b_string w.heap.size w.heap.size (lst P l) _ hB.out hbs).mono ?_
      rintro r w3 ⟨rfl, b3⟩
      go_wp2_with fail
      go_ret
      exact ⟨rfl, hb.trans b3⟩
set_option maxHeartbeats 800000 in
theorem section_sg (c : Int) (g : FuncId) (P : Sg → List UInt8) (v : Value) (l : List Sg) (w : World) (hc : 0 ≤ c ∧ c ≤ 255) (hg : ∀ args w, (callFunc g args).run Tryz.prog w = .ok (.enter g args) w) (hl : l.length ≤ 1000) (hz : ∀ x ∈ l, (P x).length ≤ 10000000) (hL : SSgs w.heap.size w v l)
    (hf : ∀ x ∈ l, ∀ vp vr (w : World), SInts w.heap.size w vp x.params → SInts w.heap.size w vr x.results → Calls Tryz.prog g #[.agg #[vp, vr]] w fun e w' => e = .returned (.string (str (P x))) ∧ Below w.heap.size w w') :
    Calls Tryz.prog 39 #[.int .i64 c, v, .func (.func g) #[] #[]] w fun e w' => e = .returned (.string (str (sec c P l))) ∧ Below w.heap.size w w' := by
  by_cases h0 : l.length = 0
  · obtain ⟨a, cap, rfl, _⟩ := hL
    rw [sec_none h0, h0]
    clear hg hl hz hf h0 hc
    go_enter Tryz.func39, Tryz.ntmps39
    go_wp2_with fail
    go_ret
    exact ⟨rfl, Below.refl _ _⟩
  · rw [sec_some h0]
    have ON := hide (oneByte_w c w hc.1 hc.2)
    have LI := hide (fun w1 (b1 : Below w.heap.size w w1) => list_sg g P v l w1 hg hl hz (hL.step keeps_sg b1 b1.size) hf)
    have hq := lst_bd hz hl
    have CN := hide (fun w => counted_w (lst P l) w (by omega))
    have hs : ¬ 9223372036854775807 < (str (oneB c)).size + (str (cnt (lst P l))).size := by
      rw [str_size, str_size]; have := cnt_len (lst P l); simp only [oneB, List.length_cons, List.length_nil]; omega
    obtain ⟨a, cap, rfl, _⟩ := hL
    have hz0 : ((l.length : Int) == 0) = false := by simpa using h0
    have HS := hide hs
    clear hl hz hf h0 hc hq hs
    go_enter Tryz.func39, Tryz.ntmps39
    go_wp2_with fail
    refine ON.out.mono ?_
    rintro r w1 ⟨rfl, b1⟩
    have L1 := hide (LI.out w1 b1)
    clear LI ON
    go_wp2_with fail
    refine L1.out.mono ?_
    rintro r w2 ⟨rfl, b2⟩
    have b12 := below_next b1 b2
    clear b1 b2 L1
    go_wp2_with fail
    refine (CN.out w2).mono ?_
    rintro r w3 ⟨rfl, b3⟩
    have hs := HS.out
    clear HS CN
    go_wp2_with fail
    go_ret
    exact ⟨ret_str (str_append _ _), below_next b12 b3⟩
set_option maxRecDepth 100000 in
set_option maxHeartbeats 1600000 in
theorem list_fn (g : FuncId) (P : Fn → List UInt8) (v : Value) (l : List Fn) (w : World) (hg : ∀ args w, (callFunc g args).run Tryz.prog w = .ok (.enter g args) w) (hl : l.length ≤ 1000) (hz : ∀ x ∈ l, (P x).length ≤ 10000000) (hL : SFns w.heap.size w v l)
    (hf : ∀ x ∈ l, ∀ vl vb (w : World), I64 x.sig → SInts w.heap.size w vl x.locals → SIns w.heap.size w vb x.body → Calls Tryz.prog g #[.agg #[.int .i64 x.sig, .bool x.tr, vl, vb]] w fun e w' => e = .returned (.string (str (P x))) ∧ Below w.heap.size w w') :
    Calls Tryz.prog 92 #[v, .func (.func g) #[] #[]] w fun e w' => e = .returned (.string (str (lst P l))) ∧ Below w.heap.size w w' := by
  obtain ⟨a, cap, rfl, he⟩ := hL
  have HE := hide he
  have HF := hide hf
  have HZ := hide hz
  have NW := hide (fun w => number_w l.length w (by omega))
  clear he hf hz
  go_enter Tryz.func92, Tryz.ntmps92
  go_wp2_with fail
  refine (NW.out _).mono ?_
  rintro r w1 ⟨rfl, b1⟩
  have B1 := hide (builder_kept (builder_fresh w) b1)
  have hb1 := below_next (bel_one w _) b1
  have q1 := hb1.size
  clear b1
  go_wp2_with fail
  refine (b_text w.heap.size w.heap.size (Lib.byteCells []) (str (num l.length)) _ B1.out (by rw [Lib.byteCells_length, str_size]; have := num_len l.length; simp; omega) q1).mono ?_
  rintro r w2 ⟨rfl, a2, b2⟩
  have B2 := hide (at_text a2 rfl)
  rw [num_flat0 P l] at B2
  have hb2 := hb1.trans b2
  clear a2 b2 B1 NW
  go_wp2_with fail
  go_loopw [14] (fun iv wr => ∃ k : Nat, k ≤ l.length ∧ iv = .int .i64 k ∧ Below w.heap.size w wr ∧ Hid (Lib.IsBuilder 177 5 w.heap.size w.heap.size (Lib.byteCells (num l.length ++ flat P (l.take k))) wr)) (fun iv _ => l.length - (intOf iv).toNat)
  case atStart => exact ⟨0, by omega, rfl, hb2, B2⟩
  case round =>
    obtain ⟨k, hk, rfl, hb, hB⟩ := hrel
    have hbs := hb.size
    by_cases hlt : k < l.length
    · obtain ⟨b, off, rfl, hbb, ⟨vl, vb, hi, c0, c1, c2, c3, hp, hr⟩⟩ := HE.out k hlt
      have hp0 := hp
      have hr0 := hr
      obtain ⟨ap, kp, rfl, _⟩ := hp0
      obtain ⟨ar, kr, rfl, _⟩ := hr0
      have d0 := (hb.cell (p := ⟨b, off + k * 4, none⟩) hbb).trans c0
      have d1 := (hb.cell (p := ⟨b, off + k * 4 + 1, none⟩) hbb).trans c1
      have d2 := (hb.cell (p := ⟨b, off + k * 4 + 2, none⟩) hbb).trans c2
      have d3 := (hb.cell (p := ⟨b, off + k * 4 + 3, none⟩) hbb).trans c3
      clear c0 c1 c2 c3
      have hy := bel_one wr (.cells #[.int .i64 l[k].sig, .bool l[k].tr, .slice ap l[k].locals.length kp, .slice ar l[k].body.length kr] 50)
      have hb2 := hb.trans (hy.mono hbs)
      have q2 := hb2.size
      have hB1 := hide (builder_kept hB.out hy)
      have CF := hide (HF.out l[k] (List.getElem_mem hlt) _ _ (wr.alloc (.cells #[.int .i64 l[k].sig, .bool l[k].tr, .slice ap l[k].locals.length kp, .slice ar l[k].body.length kr] 50)) hi (hp.step keeps_int hb2 q2) (hr.step keeps_in hb2 q2))
      have hzk := HZ.out l[k] (List.getElem_mem hlt)
      have hpb := part_bd HZ.out hl k
      have hN := hide (flat_next (P := P) hlt)
      clear hi hp hr HF
      go_wp2_with fail
      refine CF.out.mono ?_
      rintro r w3 ⟨rfl, b3⟩
      have hB2 := hide (builder_kept hB1.out b3)
      have hb3 := hb2.trans (b3.mono q2)
      have q3 := hb3.size
      clear b3 CF
      go_wp2_with fail
      refine (b_text w.heap.size w.heap.size (Lib.byteCells (num l.length ++ flat P (l.take k))) (str (P l[k])) _ hB2.out (by rw [Lib.byteCells_length, str_size]; omega) q3).mono ?_
      rintro r w4 ⟨rfl, a4, b4⟩
      have hB3 := hide (at_text a4 rfl)
      rw [List.append_assoc, ← hN.out] at hB3
      have hb4 := hb3.trans b4
      clear a4 b4 hN hzk hpb
      go_wp2_with fail
      go_roundw
      case rel => exact ⟨k + 1, by omega, by go_num, hb4, hB3⟩
      case measure => simp [intOf]; omega
    · have e0 : k = l.length := by omega
      subst e0
      rw [lst_whole P l] at hB
      go_wp2_with fail
      refine (b_string w.heap.size w.heap.size (lst P l) _ hB.out hbs).mono ?_
      rintro r w3 ⟨rfl, b3⟩
      go_wp2_with fail
      go_ret
      exact ⟨rfl, hb.trans b3⟩
set_option maxHeartbeats 800000 in
theorem section_fn (c : Int) (g : FuncId) (P : Fn → List UInt8) (v : Value) (l : List Fn) (w : World) (hc : 0 ≤ c ∧ c ≤ 255) (hg : ∀ args w, (callFunc g args).run Tryz.prog w = .ok (.enter g args) w) (hl : l.length ≤ 1000) (hz : ∀ x ∈ l, (P x).length ≤ 10000000) (hL : SFns w.heap.size w v l)
    (hf : ∀ x ∈ l, ∀ vl vb (w : World), I64 x.sig → SInts w.heap.size w vl x.locals → SIns w.heap.size w vb x.body → Calls Tryz.prog g #[.agg #[.int .i64 x.sig, .bool x.tr, vl, vb]] w fun e w' => e = .returned (.string (str (P x))) ∧ Below w.heap.size w w') :
    Calls Tryz.prog 43 #[.int .i64 c, v, .func (.func g) #[] #[]] w fun e w' => e = .returned (.string (str (sec c P l))) ∧ Below w.heap.size w w' := by
  by_cases h0 : l.length = 0
  · obtain ⟨a, cap, rfl, _⟩ := hL
    rw [sec_none h0, h0]
    clear hg hl hz hf h0 hc
    go_enter Tryz.func43, Tryz.ntmps43
    go_wp2_with fail
    go_ret
    exact ⟨rfl, Below.refl _ _⟩
  · rw [sec_some h0]
    have ON := hide (oneByte_w c w hc.1 hc.2)
    have LI := hide (fun w1 (b1 : Below w.heap.size w w1) => list_fn g P v l w1 hg hl hz (hL.step keeps_fn b1 b1.size) hf)
    have hq := lst_bd hz hl
    have CN := hide (fun w => counted_w (lst P l) w (by omega))
    have hs : ¬ 9223372036854775807 < (str (oneB c)).size + (str (cnt (lst P l))).size := by
      rw [str_size, str_size]; have := cnt_len (lst P l); simp only [oneB, List.length_cons, List.length_nil]; omega
    obtain ⟨a, cap, rfl, _⟩ := hL
    have hz0 : ((l.length : Int) == 0) = false := by simpa using h0
    have HS := hide hs
    clear hl hz hf h0 hc hq hs
    go_enter Tryz.func43, Tryz.ntmps43
    go_wp2_with fail
    refine ON.out.mono ?_
    rintro r w1 ⟨rfl, b1⟩
    have L1 := hide (LI.out w1 b1)
    clear LI ON
    go_wp2_with fail
    refine L1.out.mono ?_
    rintro r w2 ⟨rfl, b2⟩
    have b12 := below_next b1 b2
    clear b1 b2 L1
    go_wp2_with fail
    refine (CN.out w2).mono ?_
    rintro r w3 ⟨rfl, b3⟩
    have hs := HS.out
    clear HS CN
    go_wp2_with fail
    go_ret
    exact ⟨ret_str (str_append _ _), below_next b12 b3⟩
set_option maxRecDepth 100000 in
set_option maxHeartbeats 1600000 in
theorem list_gl (g : FuncId) (P : Gl → List UInt8) (v : Value) (l : List Gl) (w : World) (hg : ∀ args w, (callFunc g args).run Tryz.prog w = .ok (.enter g args) w) (hl : l.length ≤ 1000) (hz : ∀ x ∈ l, (P x).length ≤ 10000000) (hL : SGls w.heap.size w v l)
    (hf : ∀ x ∈ l, ∀ (w : World), (I64 x.t ∧ I64 x.v) → Calls Tryz.prog g #[.agg #[.int .i64 x.t, .int .i64 x.v]] w fun e w' => e = .returned (.string (str (P x))) ∧ Below w.heap.size w w') :
    Calls Tryz.prog 93 #[v, .func (.func g) #[] #[]] w fun e w' => e = .returned (.string (str (lst P l))) ∧ Below w.heap.size w w' := by
  obtain ⟨a, cap, rfl, he⟩ := hL
  have HE := hide he
  have HF := hide hf
  have HZ := hide hz
  have NW := hide (fun w => number_w l.length w (by omega))
  clear he hf hz
  go_enter Tryz.func93, Tryz.ntmps93
  go_wp2_with fail
  refine (NW.out _).mono ?_
  rintro r w1 ⟨rfl, b1⟩
  have B1 := hide (builder_kept (builder_fresh w) b1)
  have hb1 := below_next (bel_one w _) b1
  have q1 := hb1.size
  clear b1
  go_wp2_with fail
  refine (b_text w.heap.size w.heap.size (Lib.byteCells []) (str (num l.length)) _ B1.out (by rw [Lib.byteCells_length, str_size]; have := num_len l.length; simp; omega) q1).mono ?_
  rintro r w2 ⟨rfl, a2, b2⟩
  have B2 := hide (at_text a2 rfl)
  rw [num_flat0 P l] at B2
  have hb2 := hb1.trans b2
  clear a2 b2 B1 NW
  go_wp2_with fail
  go_loopw [14] (fun iv wr => ∃ k : Nat, k ≤ l.length ∧ iv = .int .i64 k ∧ Below w.heap.size w wr ∧ Hid (Lib.IsBuilder 177 5 w.heap.size w.heap.size (Lib.byteCells (num l.length ++ flat P (l.take k))) wr)) (fun iv _ => l.length - (intOf iv).toNat)
  case atStart => exact ⟨0, by omega, rfl, hb2, B2⟩
  case round =>
    obtain ⟨k, hk, rfl, hb, hB⟩ := hrel
    have hbs := hb.size
    by_cases hlt : k < l.length
    · obtain ⟨b, off, rfl, hbb, ⟨hi, c0, c1⟩⟩ := HE.out k hlt
      have d0 := (hb.cell (p := ⟨b, off + k * 2, none⟩) hbb).trans c0
      have d1 := (hb.cell (p := ⟨b, off + k * 2 + 1, none⟩) hbb).trans c1
      clear c0 c1
      have hy := bel_one wr (.cells #[.int .i64 l[k].t, .int .i64 l[k].v] 70)
      have hb2 := hb.trans (hy.mono hbs)
      have q2 := hb2.size
      have hB1 := hide (builder_kept hB.out hy)
      have CF := hide (HF.out l[k] (List.getElem_mem hlt) (wr.alloc (.cells #[.int .i64 l[k].t, .int .i64 l[k].v] 70)) hi)
      have hzk := HZ.out l[k] (List.getElem_mem hlt)
      have hpb := part_bd HZ.out hl k
      have hN := hide (flat_next (P := P) hlt)
      clear hi HF
      go_wp2_with fail
      refine CF.out.mono ?_
      rintro r w3 ⟨rfl, b3⟩
      have hB2 := hide (builder_kept hB1.out b3)
      have hb3 := hb2.trans (b3.mono q2)
      have q3 := hb3.size
      clear b3 CF
      go_wp2_with fail
      refine (b_text w.heap.size w.heap.size (Lib.byteCells (num l.length ++ flat P (l.take k))) (str (P l[k])) _ hB2.out (by rw [Lib.byteCells_length, str_size]; omega) q3).mono ?_
      rintro r w4 ⟨rfl, a4, b4⟩
      have hB3 := hide (at_text a4 rfl)
      rw [List.append_assoc, ← hN.out] at hB3
      have hb4 := hb3.trans b4
      clear a4 b4 hN hzk hpb
      go_wp2_with fail
      go_roundw
      case rel => exact ⟨k + 1, by omega, by go_num, hb4, hB3⟩
      case measure => simp [intOf]; omega
    · have e0 : k = l.length := by omega
      subst e0
      rw [lst_whole P l] at hB
      go_wp2_with fail
      refine (b_string w.heap.size w.heap.size (lst P l) _ hB.out hbs).mono ?_
      rintro r w3 ⟨rfl, b3⟩
      go_wp2_with fail
      go_ret
      exact ⟨rfl, hb.trans b3⟩
set_option maxHeartbeats 800000 in
theorem section_gl (c : Int) (g : FuncId) (P : Gl → List UInt8) (v : Value) (l : List Gl) (w : World) (hc : 0 ≤ c ∧ c ≤ 255) (hg : ∀ args w, (callFunc g args).run Tryz.prog w = .ok (.enter g args) w) (hl : l.length ≤ 1000) (hz : ∀ x ∈ l, (P x).length ≤ 10000000) (hL : SGls w.heap.size w v l)
    (hf : ∀ x ∈ l, ∀ (w : World), (I64 x.t ∧ I64 x.v) → Calls Tryz.prog g #[.agg #[.int .i64 x.t, .int .i64 x.v]] w fun e w' => e = .returned (.string (str (P x))) ∧ Below w.heap.size w w') :
    Calls Tryz.prog 46 #[.int .i64 c, v, .func (.func g) #[] #[]] w fun e w' => e = .returned (.string (str (sec c P l))) ∧ Below w.heap.size w w' := by
  by_cases h0 : l.length = 0
  · obtain ⟨a, cap, rfl, _⟩ := hL
    rw [sec_none h0, h0]
    clear hg hl hz hf h0 hc
    go_enter Tryz.func46, Tryz.ntmps46
    go_wp2_with fail
    go_ret
    exact ⟨rfl, Below.refl _ _⟩
  · rw [sec_some h0]
    have ON := hide (oneByte_w c w hc.1 hc.2)
    have LI := hide (fun w1 (b1 : Below w.heap.size w w1) => list_gl g P v l w1 hg hl hz (hL.step keeps_gl b1 b1.size) hf)
    have hq := lst_bd hz hl
    have CN := hide (fun w => counted_w (lst P l) w (by omega))
    have hs : ¬ 9223372036854775807 < (str (oneB c)).size + (str (cnt (lst P l))).size := by
      rw [str_size, str_size]; have := cnt_len (lst P l); simp only [oneB, List.length_cons, List.length_nil]; omega
    obtain ⟨a, cap, rfl, _⟩ := hL
    have hz0 : ((l.length : Int) == 0) = false := by simpa using h0
    have HS := hide hs
    clear hl hz hf h0 hc hq hs
    go_enter Tryz.func46, Tryz.ntmps46
    go_wp2_with fail
    refine ON.out.mono ?_
    rintro r w1 ⟨rfl, b1⟩
    have L1 := hide (LI.out w1 b1)
    clear LI ON
    go_wp2_with fail
    refine L1.out.mono ?_
    rintro r w2 ⟨rfl, b2⟩
    have b12 := below_next b1 b2
    clear b1 b2 L1
    go_wp2_with fail
    refine (CN.out w2).mono ?_
    rintro r w3 ⟨rfl, b3⟩
    have hs := HS.out
    clear HS CN
    go_wp2_with fail
    go_ret
    exact ⟨ret_str (str_append _ _), below_next b12 b3⟩
set_option maxRecDepth 100000 in
set_option maxHeartbeats 1600000 in
theorem list_da (g : FuncId) (P : Da → List UInt8) (v : Value) (l : List Da) (w : World) (hg : ∀ args w, (callFunc g args).run Tryz.prog w = .ok (.enter g args) w) (hl : l.length ≤ 1000) (hz : ∀ x ∈ l, (P x).length ≤ 10000000) (hL : SDas w.heap.size w v l)
    (hf : ∀ x ∈ l, ∀ (w : World), (I64 x.mem ∧ I64 x.pos) → Calls Tryz.prog g #[.agg #[.int .i64 x.mem, .int .i64 x.pos, .string (str x.bytes)]] w fun e w' => e = .returned (.string (str (P x))) ∧ Below w.heap.size w w') :
    Calls Tryz.prog 97 #[v, .func (.func g) #[] #[]] w fun e w' => e = .returned (.string (str (lst P l))) ∧ Below w.heap.size w w' := by
  obtain ⟨a, cap, rfl, he⟩ := hL
  have HE := hide he
  have HF := hide hf
  have HZ := hide hz
  have NW := hide (fun w => number_w l.length w (by omega))
  clear he hf hz
  go_enter Tryz.func97, Tryz.ntmps97
  go_wp2_with fail
  refine (NW.out _).mono ?_
  rintro r w1 ⟨rfl, b1⟩
  have B1 := hide (builder_kept (builder_fresh w) b1)
  have hb1 := below_next (bel_one w _) b1
  have q1 := hb1.size
  clear b1
  go_wp2_with fail
  refine (b_text w.heap.size w.heap.size (Lib.byteCells []) (str (num l.length)) _ B1.out (by rw [Lib.byteCells_length, str_size]; have := num_len l.length; simp; omega) q1).mono ?_
  rintro r w2 ⟨rfl, a2, b2⟩
  have B2 := hide (at_text a2 rfl)
  rw [num_flat0 P l] at B2
  have hb2 := hb1.trans b2
  clear a2 b2 B1 NW
  go_wp2_with fail
  go_loopw [14] (fun iv wr => ∃ k : Nat, k ≤ l.length ∧ iv = .int .i64 k ∧ Below w.heap.size w wr ∧ Hid (Lib.IsBuilder 177 5 w.heap.size w.heap.size (Lib.byteCells (num l.length ++ flat P (l.take k))) wr)) (fun iv _ => l.length - (intOf iv).toNat)
  case atStart => exact ⟨0, by omega, rfl, hb2, B2⟩
  case round =>
    obtain ⟨k, hk, rfl, hb, hB⟩ := hrel
    have hbs := hb.size
    by_cases hlt : k < l.length
    · obtain ⟨b, off, rfl, hbb, ⟨hi, c0, c1, c2⟩⟩ := HE.out k hlt
      have d0 := (hb.cell (p := ⟨b, off + k * 3, none⟩) hbb).trans c0
      have d1 := (hb.cell (p := ⟨b, off + k * 3 + 1, none⟩) hbb).trans c1
      have d2 := (hb.cell (p := ⟨b, off + k * 3 + 2, none⟩) hbb).trans c2
      clear c0 c1 c2
      have hy := bel_one wr (.cells #[.int .i64 l[k].mem, .int .i64 l[k].pos, .string (str l[k].bytes)] 73)
      have hb2 := hb.trans (hy.mono hbs)
      have q2 := hb2.size
      have hB1 := hide (builder_kept hB.out hy)
      have CF := hide (HF.out l[k] (List.getElem_mem hlt) (wr.alloc (.cells #[.int .i64 l[k].mem, .int .i64 l[k].pos, .string (str l[k].bytes)] 73)) hi)
      have hzk := HZ.out l[k] (List.getElem_mem hlt)
      have hpb := part_bd HZ.out hl k
      have hN := hide (flat_next (P := P) hlt)
      clear hi HF
      go_wp2_with fail
      refine CF.out.mono ?_
      rintro r w3 ⟨rfl, b3⟩
      have hB2 := hide (builder_kept hB1.out b3)
      have hb3 := hb2.trans (b3.mono q2)
      have q3 := hb3.size
      clear b3 CF
      go_wp2_with fail
      refine (b_text w.heap.size w.heap.size (Lib.byteCells (num l.length ++ flat P (l.take k))) (str (P l[k])) _ hB2.out (by rw [Lib.byteCells_length, str_size]; omega) q3).mono ?_
      rintro r w4 ⟨rfl, a4, b4⟩
      have hB3 := hide (at_text a4 rfl)
      rw [List.append_assoc, ← hN.out] at hB3
      have hb4 := hb3.trans b4
      clear a4 b4 hN hzk hpb
      go_wp2_with fail
      go_roundw
      case rel => exact ⟨k + 1, by omega, by go_num, hb4, hB3⟩
      case measure => simp [intOf]; omega
    · have e0 : k = l.length := by omega
      subst e0
      rw [lst_whole P l] at hB
      go_wp2_with fail
      refine (b_string w.heap.size w.heap.size (lst P l) _ hB.out hbs).mono ?_
      rintro r w3 ⟨rfl, b3⟩
      go_wp2_with fail
      go_ret
      exact ⟨rfl, hb.trans b3⟩
set_option maxHeartbeats 800000 in
theorem section_da (c : Int) (g : FuncId) (P : Da → List UInt8) (v : Value) (l : List Da) (w : World) (hc : 0 ≤ c ∧ c ≤ 255) (hg : ∀ args w, (callFunc g args).run Tryz.prog w = .ok (.enter g args) w) (hl : l.length ≤ 1000) (hz : ∀ x ∈ l, (P x).length ≤ 10000000) (hL : SDas w.heap.size w v l)
    (hf : ∀ x ∈ l, ∀ (w : World), (I64 x.mem ∧ I64 x.pos) → Calls Tryz.prog g #[.agg #[.int .i64 x.mem, .int .i64 x.pos, .string (str x.bytes)]] w fun e w' => e = .returned (.string (str (P x))) ∧ Below w.heap.size w w') :
    Calls Tryz.prog 49 #[.int .i64 c, v, .func (.func g) #[] #[]] w fun e w' => e = .returned (.string (str (sec c P l))) ∧ Below w.heap.size w w' := by
  by_cases h0 : l.length = 0
  · obtain ⟨a, cap, rfl, _⟩ := hL
    rw [sec_none h0, h0]
    clear hg hl hz hf h0 hc
    go_enter Tryz.func49, Tryz.ntmps49
    go_wp2_with fail
    go_ret
    exact ⟨rfl, Below.refl _ _⟩
  · rw [sec_some h0]
    have ON := hide (oneByte_w c w hc.1 hc.2)
    have LI := hide (fun w1 (b1 : Below w.heap.size w w1) => list_da g P v l w1 hg hl hz (hL.step keeps_da b1 b1.size) hf)
    have hq := lst_bd hz hl
    have CN := hide (fun w => counted_w (lst P l) w (by omega))
    have hs : ¬ 9223372036854775807 < (str (oneB c)).size + (str (cnt (lst P l))).size := by
      rw [str_size, str_size]; have := cnt_len (lst P l); simp only [oneB, List.length_cons, List.length_nil]; omega
    obtain ⟨a, cap, rfl, _⟩ := hL
    have hz0 : ((l.length : Int) == 0) = false := by simpa using h0
    have HS := hide hs
    clear hl hz hf h0 hc hq hs
    go_enter Tryz.func49, Tryz.ntmps49
    go_wp2_with fail
    refine ON.out.mono ?_
    rintro r w1 ⟨rfl, b1⟩
    have L1 := hide (LI.out w1 b1)
    clear LI ON
    go_wp2_with fail
    refine L1.out.mono ?_
    rintro r w2 ⟨rfl, b2⟩
    have b12 := below_next b1 b2
    clear b1 b2 L1
    go_wp2_with fail
    refine (CN.out w2).mono ?_
    rintro r w3 ⟨rfl, b3⟩
    have hs := HS.out
    clear HS CN
    go_wp2_with fail
    go_ret
    exact ⟨ret_str (str_append _ _), below_next b12 b3⟩
end Go.Proofs.YtcbfpikggphokaaGreatDoor

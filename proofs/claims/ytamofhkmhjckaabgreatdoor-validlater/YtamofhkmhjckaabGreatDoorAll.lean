/-
  The program's function all, of each type of elements: whether each element is right, as a function that is asked of each tells; memory that was there stays as it was.
-/
import Derived.Test.YtamofhkmhjckaabGreatDoorTold
namespace Go.Proofs.YtamofhkmhjckaabGreatDoor
open Go.RowKit

theorem all_take_next {α : Type} {l : List α} {P : α → Bool} {k : Nat} (h : (l.take k).all P = true) (hk : k < l.length) (hp : P l[k] = true) : (l.take (k + 1)).all P = true := by
  rw [List.take_succ_eq_append_getElem hk]; simp only [List.all_append, h, List.all_cons, hp, List.all_nil, Bool.and_true]
theorem all_no {α : Type} {l : List α} {P : α → Bool} {k : Nat} (hk : k < l.length) (hp : P l[k] = false) : l.all P = false := by
  rw [List.all_eq_false]; exact ⟨l[k], List.getElem_mem hk, by simp [hp]⟩
theorem all_whole {α : Type} {l : List α} {P : α → Bool} (h : (l.take l.length).all P = true) : l.all P = true := by simpa using h
set_option maxRecDepth 100000 in
set_option maxHeartbeats 1600000 in
theorem all_int (g : FuncId) (P : Int → Bool) (v : Value) (l : List Int) (w : World) (hg : ∀ args w, (callFunc g args).run Tryz.prog w = .ok (.enter g args) w) (hl : l.length ≤ 1000) (hL : SInts w.heap.size w v l)
    (hf : ∀ x ∈ l, ∀ (w : World), I64 x → Calls Tryz.prog g #[.int .i64 x] w fun e w' => e = .returned (.bool (P x)) ∧ Below w.heap.size w w') :
    Calls Tryz.prog 70 #[v, .func (.func g) #[] #[]] w fun e w' => e = .returned (.bool (l.all P)) ∧ Below w.heap.size w w' := by
  obtain ⟨a, cap, rfl, he⟩ := hL
  have HE := hide he
  have HF := hide hf
  clear he hf
  go_enter Tryz.func70, Tryz.ntmps70
  go_wp2_with fail
  go_loopw [9] (fun iv wr => ∃ k : Nat, k ≤ l.length ∧ iv = .int .i64 k ∧ Below w.heap.size w wr ∧ Hid ((l.take k).all P = true)) (fun iv _ => l.length - (intOf iv).toNat)
  case atStart => exact ⟨0, by omega, rfl, Below.refl _ _, hide (by simp)⟩
  case round =>
    obtain ⟨k, hk, rfl, hb, hA⟩ := hrel
    have hbs := hb.size
    by_cases hlt : k < l.length
    · obtain ⟨b, off, rfl, hbb, ⟨hi, c0⟩⟩ := HE.out k hlt
      have d0 := (hb.cell (p := ⟨b, off + k * 1, none⟩) hbb).trans c0
      rw [Nat.mul_one] at d0
      clear c0
      have CF := hide (HF.out l[k] (List.getElem_mem hlt) wr hi)
      clear hi
      cases hP : P l[k] with
      | true =>
        rw [hP] at CF
        have hA2 := hide (all_take_next hA.out hlt hP)
        clear hP HF
        go_wp2_with fail
        refine CF.out.mono ?_
        rintro r w1 ⟨rfl, b1⟩
        have b2 := hb.trans (b1.mono hbs)
        clear b1
        go_wp2_with fail
        go_roundw
        case rel => exact ⟨k + 1, by omega, by go_num, b2, hA2⟩
        case measure => simp [intOf]; omega
      | false =>
        rw [hP] at CF
        have hN := hide (all_no hlt hP)
        clear hP HF
        go_wp2_with fail
        refine CF.out.mono ?_
        rintro r w1 ⟨rfl, b1⟩
        have b2 := hb.trans (b1.mono hbs)
        clear b1
        go_wp2_with fail
        go_ret
        exact ⟨ret_bool hN.out.symm, b2⟩
    · have e0 : k = l.length := by omega
      subst e0
      have hY := hide (all_whole hA.out)
      clear hA
      go_wp2_with fail
      go_ret
      exact ⟨ret_bool hY.out.symm, hb⟩
set_option maxRecDepth 100000 in
set_option maxHeartbeats 1600000 in
theorem all_sg (g : FuncId) (P : Sg → Bool) (v : Value) (l : List Sg) (w : World) (hg : ∀ args w, (callFunc g args).run Tryz.prog w = .ok (.enter g args) w) (hl : l.length ≤ 1000) (hL : SSgs w.heap.size w v l)
    (hf : ∀ x ∈ l, ∀ vp vr (w : World), SInts w.heap.size w vp x.params → SInts w.heap.size w vr x.results → Calls Tryz.prog g #[.agg #[vp, vr]] w fun e w' => e = .returned (.bool (P x)) ∧ Below w.heap.size w w') :
    Calls Tryz.prog 66 #[v, .func (.func g) #[] #[]] w fun e w' => e = .returned (.bool (l.all P)) ∧ Below w.heap.size w w' := by
  obtain ⟨a, cap, rfl, he⟩ := hL
  have HE := hide he
  have HF := hide hf
  clear he hf
  go_enter Tryz.func66, Tryz.ntmps66
  go_wp2_with fail
  go_loopw [9] (fun iv wr => ∃ k : Nat, k ≤ l.length ∧ iv = .int .i64 k ∧ Below w.heap.size w wr ∧ Hid ((l.take k).all P = true)) (fun iv _ => l.length - (intOf iv).toNat)
  case atStart => exact ⟨0, by omega, rfl, Below.refl _ _, hide (by simp)⟩
  case round =>
    obtain ⟨k, hk, rfl, hb, hA⟩ := hrel
    have hbs := hb.size
    by_cases hlt : k < l.length
    · obtain ⟨b, off, rfl, hbb, ⟨vp, vr, c0, c1, hp, hr⟩⟩ := HE.out k hlt
      have hp0 := hp
      have hr0 := hr
      obtain ⟨ap, kp, rfl, _⟩ := hp0
      obtain ⟨ar, kr, rfl, _⟩ := hr0
      have d0 := (hb.cell (p := ⟨b, off + k * 2, none⟩) hbb).trans c0
      have d1 := (hb.cell (p := ⟨b, off + k * 2 + 1, none⟩) hbb).trans c1
      clear c0 c1
      have hb1 := bel_one wr (.cells #[.slice ap l[k].params.length kp, .slice ar l[k].results.length kr] 42)
      have hb2 := hb.trans (hb1.mono hbs)
      have q2 := hb2.size
      have CF := hide (HF.out l[k] (List.getElem_mem hlt) _ _ (wr.alloc (.cells #[.slice ap l[k].params.length kp, .slice ar l[k].results.length kr] 42)) (hp.step keeps_int hb2 q2) (hr.step keeps_int hb2 q2))
      clear hp hr
      cases hP : P l[k] with
      | true =>
        rw [hP] at CF
        have hA2 := hide (all_take_next hA.out hlt hP)
        clear hP HF
        go_wp2_with fail
        refine CF.out.mono ?_
        rintro r w1 ⟨rfl, b1⟩
        have b2 := hb2.trans (b1.mono q2)
        clear b1
        go_wp2_with fail
        go_roundw
        case rel => exact ⟨k + 1, by omega, by go_num, b2, hA2⟩
        case measure => simp [intOf]; omega
      | false =>
        rw [hP] at CF
        have hN := hide (all_no hlt hP)
        clear hP HF
        go_wp2_with fail
        refine CF.out.mono ?_
        rintro r w1 ⟨rfl, b1⟩
        have b2 := hb2.trans (b1.mono q2)
        clear b1
        go_wp2_with fail
        go_ret
        exact ⟨ret_bool hN.out.symm, b2⟩
    · have e0 : k = l.length := by omega
      subst e0
      have hY := hide (all_whole hA.out)
      clear hA
      go_wp2_with fail
      go_ret
      exact ⟨ret_bool hY.out.symm, hb⟩
set_option maxRecDepth 100000 in
set_option maxHeartbeats 1600000 in
theorem all_fn (g : FuncId) (P : Fn → Bool) (v : Value) (l : List Fn) (w : World) (hg : ∀ args w, (callFunc g args).run Tryz.prog w = .ok (.enter g args) w) (hl : l.length ≤ 1000) (hL : SFns w.heap.size w v l)
    (hf : ∀ x ∈ l, ∀ vl vb (w : World), I64 x.sig → SInts w.heap.size w vl x.locals → SIns w.heap.size w vb x.body → Calls Tryz.prog g #[.agg #[.int .i64 x.sig, .bool x.tr, vl, vb]] w fun e w' => e = .returned (.bool (P x)) ∧ Below w.heap.size w w') :
    Calls Tryz.prog 68 #[v, .func (.func g) #[] #[]] w fun e w' => e = .returned (.bool (l.all P)) ∧ Below w.heap.size w w' := by
  obtain ⟨a, cap, rfl, he⟩ := hL
  have HE := hide he
  have HF := hide hf
  clear he hf
  go_enter Tryz.func68, Tryz.ntmps68
  go_wp2_with fail
  go_loopw [9] (fun iv wr => ∃ k : Nat, k ≤ l.length ∧ iv = .int .i64 k ∧ Below w.heap.size w wr ∧ Hid ((l.take k).all P = true)) (fun iv _ => l.length - (intOf iv).toNat)
  case atStart => exact ⟨0, by omega, rfl, Below.refl _ _, hide (by simp)⟩
  case round =>
    obtain ⟨k, hk, rfl, hb, hA⟩ := hrel
    have hbs := hb.size
    by_cases hlt : k < l.length
    · obtain ⟨b, off, rfl, hbb, ⟨vl, vb, hi, c0, c1, c2, c3, hp, hr⟩⟩ := HE.out k hlt
      have hp0 := hp
      have hr0 := hr
      obtain ⟨ap, kp, rfl, _⟩ := hp0
      obtain ⟨ar, kr, rfl, _⟩ := hr0
      have d0 := (hb.cell (p := ⟨b, off + k * 4, none⟩) hbb).trans c0
      have d1 := (hb.cell (p := ⟨b, off + k * 4 + 1, none⟩) hbb).trans c1
      have d2 := (hb.cell (p := ⟨b, off + k * 4 + 2, none⟩) hbb).trans c2
      have d3 := (hb.cell (p := ⟨b, off + k * 4 + 3, none⟩) hbb).trans c3
      clear c0 c1 c2 c3
      have hb1 := bel_one wr (.cells #[.int .i64 l[k].sig, .bool l[k].tr, .slice ap l[k].locals.length kp, .slice ar l[k].body.length kr] 38)
      have hb2 := hb.trans (hb1.mono hbs)
      have q2 := hb2.size
      have CF := hide (HF.out l[k] (List.getElem_mem hlt) _ _ (wr.alloc (.cells #[.int .i64 l[k].sig, .bool l[k].tr, .slice ap l[k].locals.length kp, .slice ar l[k].body.length kr] 38)) hi (hp.step keeps_int hb2 q2) (hr.step keeps_in hb2 q2))
      clear hi hp hr
      cases hP : P l[k] with
      | true =>
        rw [hP] at CF
        have hA2 := hide (all_take_next hA.out hlt hP)
        clear hP HF
        go_wp2_with fail
        refine CF.out.mono ?_
        rintro r w1 ⟨rfl, b1⟩
        have b2 := hb2.trans (b1.mono q2)
        clear b1
        go_wp2_with fail
        go_roundw
        case rel => exact ⟨k + 1, by omega, by go_num, b2, hA2⟩
        case measure => simp [intOf]; omega
      | false =>
        rw [hP] at CF
        have hN := hide (all_no hlt hP)
        clear hP HF
        go_wp2_with fail
        refine CF.out.mono ?_
        rintro r w1 ⟨rfl, b1⟩
        have b2 := hb2.trans (b1.mono q2)
        clear b1
        go_wp2_with fail
        go_ret
        exact ⟨ret_bool hN.out.symm, b2⟩
    · have e0 : k = l.length := by omega
      subst e0
      have hY := hide (all_whole hA.out)
      clear hA
      go_wp2_with fail
      go_ret
      exact ⟨ret_bool hY.out.symm, hb⟩
set_option maxRecDepth 100000 in
set_option maxHeartbeats 1600000 in
theorem all_gl (g : FuncId) (P : Gl → Bool) (v : Value) (l : List Gl) (w : World) (hg : ∀ args w, (callFunc g args).run Tryz.prog w = .ok (.enter g args) w) (hl : l.length ≤ 1000) (hL : SGls w.heap.size w v l)
    (hf : ∀ x ∈ l, ∀ (w : World), (I64 x.t ∧ I64 x.v) → Calls Tryz.prog g #[.agg #[.int .i64 x.t, .int .i64 x.v]] w fun e w' => e = .returned (.bool (P x)) ∧ Below w.heap.size w w') :
    Calls Tryz.prog 75 #[v, .func (.func g) #[] #[]] w fun e w' => e = .returned (.bool (l.all P)) ∧ Below w.heap.size w w' := by
  obtain ⟨a, cap, rfl, he⟩ := hL
  have HE := hide he
  have HF := hide hf
  clear he hf
  go_enter Tryz.func75, Tryz.ntmps75
  go_wp2_with fail
  go_loopw [9] (fun iv wr => ∃ k : Nat, k ≤ l.length ∧ iv = .int .i64 k ∧ Below w.heap.size w wr ∧ Hid ((l.take k).all P = true)) (fun iv _ => l.length - (intOf iv).toNat)
  case atStart => exact ⟨0, by omega, rfl, Below.refl _ _, hide (by simp)⟩
  case round =>
    obtain ⟨k, hk, rfl, hb, hA⟩ := hrel
    have hbs := hb.size
    by_cases hlt : k < l.length
    · obtain ⟨b, off, rfl, hbb, ⟨hi, c0, c1⟩⟩ := HE.out k hlt
      have d0 := (hb.cell (p := ⟨b, off + k * 2, none⟩) hbb).trans c0
      have d1 := (hb.cell (p := ⟨b, off + k * 2 + 1, none⟩) hbb).trans c1
      clear c0 c1
      have hb1 := bel_one wr (.cells #[.int .i64 l[k].t, .int .i64 l[k].v] 50)
      have hb2 := hb.trans (hb1.mono hbs)
      have q2 := hb2.size
      have CF := hide (HF.out l[k] (List.getElem_mem hlt) (wr.alloc (.cells #[.int .i64 l[k].t, .int .i64 l[k].v] 50)) hi)
      clear hi
      cases hP : P l[k] with
      | true =>
        rw [hP] at CF
        have hA2 := hide (all_take_next hA.out hlt hP)
        clear hP HF
        go_wp2_with fail
        refine CF.out.mono ?_
        rintro r w1 ⟨rfl, b1⟩
        have b2 := hb2.trans (b1.mono q2)
        clear b1
        go_wp2_with fail
        go_roundw
        case rel => exact ⟨k + 1, by omega, by go_num, b2, hA2⟩
        case measure => simp [intOf]; omega
      | false =>
        rw [hP] at CF
        have hN := hide (all_no hlt hP)
        clear hP HF
        go_wp2_with fail
        refine CF.out.mono ?_
        rintro r w1 ⟨rfl, b1⟩
        have b2 := hb2.trans (b1.mono q2)
        clear b1
        go_wp2_with fail
        go_ret
        exact ⟨ret_bool hN.out.symm, b2⟩
    · have e0 : k = l.length := by omega
      subst e0
      have hY := hide (all_whole hA.out)
      clear hA
      go_wp2_with fail
      go_ret
      exact ⟨ret_bool hY.out.symm, hb⟩
set_option maxRecDepth 100000 in
set_option maxHeartbeats 1600000 in
theorem all_da (g : FuncId) (P : Da → Bool) (v : Value) (l : List Da) (w : World) (hg : ∀ args w, (callFunc g args).run Tryz.prog w = .ok (.enter g args) w) (hl : l.length ≤ 1000) (hL : SDas w.heap.size w v l)
    (hf : ∀ x ∈ l, ∀ (w : World), (I64 x.mem ∧ I64 x.pos) → Calls Tryz.prog g #[.agg #[.int .i64 x.mem, .int .i64 x.pos, .string (str x.bytes)]] w fun e w' => e = .returned (.bool (P x)) ∧ Below w.heap.size w w') :
    Calls Tryz.prog 77 #[v, .func (.func g) #[] #[]] w fun e w' => e = .returned (.bool (l.all P)) ∧ Below w.heap.size w w' := by
  obtain ⟨a, cap, rfl, he⟩ := hL
  have HE := hide he
  have HF := hide hf
  clear he hf
  go_enter Tryz.func77, Tryz.ntmps77
  go_wp2_with fail
  go_loopw [9] (fun iv wr => ∃ k : Nat, k ≤ l.length ∧ iv = .int .i64 k ∧ Below w.heap.size w wr ∧ Hid ((l.take k).all P = true)) (fun iv _ => l.length - (intOf iv).toNat)
  case atStart => exact ⟨0, by omega, rfl, Below.refl _ _, hide (by simp)⟩
  case round =>
    obtain ⟨k, hk, rfl, hb, hA⟩ := hrel
    have hbs := hb.size
    by_cases hlt : k < l.length
    · obtain ⟨b, off, rfl, hbb, ⟨hi, c0, c1, c2⟩⟩ := HE.out k hlt
      have d0 := (hb.cell (p := ⟨b, off + k * 3, none⟩) hbb).trans c0
      have d1 := (hb.cell (p := ⟨b, off + k * 3 + 1, none⟩) hbb).trans c1
      have d2 := (hb.cell (p := ⟨b, off + k * 3 + 2, none⟩) hbb).trans c2
      clear c0 c1 c2
      have hb1 := bel_one wr (.cells #[.int .i64 l[k].mem, .int .i64 l[k].pos, .string (str l[k].bytes)] 35)
      have hb2 := hb.trans (hb1.mono hbs)
      have q2 := hb2.size
      have CF := hide (HF.out l[k] (List.getElem_mem hlt) (wr.alloc (.cells #[.int .i64 l[k].mem, .int .i64 l[k].pos, .string (str l[k].bytes)] 35)) hi)
      clear hi
      cases hP : P l[k] with
      | true =>
        rw [hP] at CF
        have hA2 := hide (all_take_next hA.out hlt hP)
        clear hP HF
        go_wp2_with fail
        refine CF.out.mono ?_
        rintro r w1 ⟨rfl, b1⟩
        have b2 := hb2.trans (b1.mono q2)
        clear b1
        go_wp2_with fail
        go_roundw
        case rel => exact ⟨k + 1, by omega, by go_num, b2, hA2⟩
        case measure => simp [intOf]; omega
      | false =>
        rw [hP] at CF
        have hN := hide (all_no hlt hP)
        clear hP HF
        go_wp2_with fail
        refine CF.out.mono ?_
        rintro r w1 ⟨rfl, b1⟩
        have b2 := hb2.trans (b1.mono q2)
        clear b1
        go_wp2_with fail
        go_ret
        exact ⟨ret_bool hN.out.symm, b2⟩
    · have e0 : k = l.length := by omega
      subst e0
      have hY := hide (all_whole hA.out)
      clear hA
      go_wp2_with fail
      go_ret
      exact ⟨ret_bool hY.out.symm, hb⟩
set_option maxRecDepth 100000 in
set_option maxHeartbeats 1600000 in
theorem all_in (g : FuncId) (P : In → Bool) (v : Value) (l : List In) (w : World) (hg : ∀ args w, (callFunc g args).run Tryz.prog w = .ok (.enter g args) w) (hl : l.length ≤ 1000) (hL : SIns w.heap.size w v l)
    (hf : ∀ x ∈ l, ∀ (w : World), (I64 x.op ∧ I64 x.n ∧ I64 x.m) → Calls Tryz.prog g #[.agg #[.int .i64 x.op, .int .i64 x.n, .int .i64 x.m]] w fun e w' => e = .returned (.bool (P x)) ∧ Below w.heap.size w w') :
    Calls Tryz.prog 96 #[v, .func (.func g) #[] #[]] w fun e w' => e = .returned (.bool (l.all P)) ∧ Below w.heap.size w w' := by
  obtain ⟨a, cap, rfl, he⟩ := hL
  have HE := hide he
  have HF := hide hf
  clear he hf
  go_enter Tryz.func96, Tryz.ntmps96
  go_wp2_with fail
  go_loopw [9] (fun iv wr => ∃ k : Nat, k ≤ l.length ∧ iv = .int .i64 k ∧ Below w.heap.size w wr ∧ Hid ((l.take k).all P = true)) (fun iv _ => l.length - (intOf iv).toNat)
  case atStart => exact ⟨0, by omega, rfl, Below.refl _ _, hide (by simp)⟩
  case round =>
    obtain ⟨k, hk, rfl, hb, hA⟩ := hrel
    have hbs := hb.size
    by_cases hlt : k < l.length
    · obtain ⟨b, off, rfl, hbb, ⟨hi, c0, c1, c2⟩⟩ := HE.out k hlt
      have d0 := (hb.cell (p := ⟨b, off + k * 3, none⟩) hbb).trans c0
      have d1 := (hb.cell (p := ⟨b, off + k * 3 + 1, none⟩) hbb).trans c1
      have d2 := (hb.cell (p := ⟨b, off + k * 3 + 2, none⟩) hbb).trans c2
      clear c0 c1 c2
      have hb1 := bel_one wr (.cells #[.int .i64 l[k].op, .int .i64 l[k].n, .int .i64 l[k].m] 44)
      have hb2 := hb.trans (hb1.mono hbs)
      have q2 := hb2.size
      have CF := hide (HF.out l[k] (List.getElem_mem hlt) (wr.alloc (.cells #[.int .i64 l[k].op, .int .i64 l[k].n, .int .i64 l[k].m] 44)) hi)
      clear hi
      cases hP : P l[k] with
      | true =>
        rw [hP] at CF
        have hA2 := hide (all_take_next hA.out hlt hP)
        clear hP HF
        go_wp2_with fail
        refine CF.out.mono ?_
        rintro r w1 ⟨rfl, b1⟩
        have b2 := hb2.trans (b1.mono q2)
        clear b1
        go_wp2_with fail
        go_roundw
        case rel => exact ⟨k + 1, by omega, by go_num, b2, hA2⟩
        case measure => simp [intOf]; omega
      | false =>
        rw [hP] at CF
        have hN := hide (all_no hlt hP)
        clear hP HF
        go_wp2_with fail
        refine CF.out.mono ?_
        rintro r w1 ⟨rfl, b1⟩
        have b2 := hb2.trans (b1.mono q2)
        clear b1
        go_wp2_with fail
        go_ret
        exact ⟨ret_bool hN.out.symm, b2⟩
    · have e0 : k = l.length := by omega
      subst e0
      have hY := hide (all_whole hA.out)
      clear hA
      go_wp2_with fail
      go_ret
      exact ⟨ret_bool hY.out.symm, hb⟩
theorem at79 (args : Array Value) (w : World) : (callFunc 71 args).run Tryz.prog w = .ok (.enter 71 args) w := by kernel_rfl
theorem at81 (args : Array Value) (w : World) : (callFunc 73 args).run Tryz.prog w = .ok (.enter 73 args) w := by kernel_rfl
theorem at108 (args : Array Value) (w : World) : (callFunc 10 args).run Tryz.prog w = .ok (.enter 10 args) w := by kernel_rfl
theorem at75 (args : Array Value) (w : World) : (callFunc 67 args).run Tryz.prog w = .ok (.enter 67 args) w := by kernel_rfl
theorem at80 (args : Array Value) (w : World) : (callFunc 72 args).run Tryz.prog w = .ok (.enter 72 args) w := by kernel_rfl
theorem at77 (args : Array Value) (w : World) : (callFunc 69 args).run Tryz.prog w = .ok (.enter 69 args) w := by kernel_rfl
theorem at82 (args : Array Value) (w : World) : (callFunc 74 args).run Tryz.prog w = .ok (.enter 74 args) w := by kernel_rfl
theorem at84 (args : Array Value) (w : World) : (callFunc 76 args).run Tryz.prog w = .ok (.enter 76 args) w := by kernel_rfl
theorem at86 (args : Array Value) (w : World) : (callFunc 78 args).run Tryz.prog w = .ok (.enter 78 args) w := by kernel_rfl
theorem at110 (args : Array Value) (w : World) : (callFunc 97 args).run Tryz.prog w = .ok (.enter 97 args) w := by kernel_rfl
end Go.Proofs.YtamofhkmhjckaabGreatDoor

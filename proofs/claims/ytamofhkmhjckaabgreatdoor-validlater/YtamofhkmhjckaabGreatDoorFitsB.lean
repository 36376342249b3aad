/-
  The program's Fits, put together: the plain functions small and whole of a module; memory that was there stays as it was.
-/
import Derived.Test.YtamofhkmhjckaabGreatDoorNAround
namespace Go.Proofs.YtamofhkmhjckaabGreatDoor
open Go.RowKit

set_option maxHeartbeats 800000 in
theorem wholeSig_any (x : Sg) (vp vr : Value) (w : World) (hs : smSg x = true) (hp : SInts w.heap.size w vp x.params) (hr : SInts w.heap.size w vr x.results) :
    Calls Tryz.prog 72 #[.agg #[vp, vr]] w fun e w' => e = .returned (.bool (whSg x)) ∧ Below w.heap.size w w' := by
  have hp0 := hp
  have hr0 := hr
  obtain ⟨ap, kp, rfl, _⟩ := hp0
  obtain ⟨ar, kr, rfl, _⟩ := hr0
  have HP := hide hp
  have HR := hide hr
  have hq : x.params.length ≤ 1000 := by simp [smSg] at hs; omega
  clear hp hr hs
  have hb0 := bel_one w (.cells #[.slice ap x.params.length kp, .slice ar x.results.length kr] 42)
  have R0 := hide (Row.made w #[.slice ap x.params.length kp, .slice ar x.results.length kr] 42)
  by_cases h0 : x.results.length ≤ 1
  · have g0 : (x.results.length : Int) ≤ 1 := by omega
    cases h1 : x.params.all ri with
    | true =>
      cases h2 : x.results.all ri with
      | true =>
        have H : Hid (whSg x = true) := hide (by simp [whSg, h0, h1, h2])
        have D1 := hide (fun (w2 : World) (b2 : Below w.heap.size w w2) => ints_right _ x.params true w2 hq (HP.out.step keeps_int b2 b2.size) h1)
        have D2 := hide (fun (w2 : World) (b2 : Below w.heap.size w w2) => ints_right _ x.results true w2 (Nat.le_trans h0 (by decide)) (HR.out.step keeps_int b2 b2.size) h2)
        clear h0 h1 h2 hq HP HR
        go_enter Tryz.func72, Tryz.ntmps72
        go_wp2_with fail
        refine (D1.out _ hb0).mono ?_
        rintro r w1 ⟨rfl, b⟩
        have hb1 := below_next hb0 b
        have R1 := hide (R0.out.kept (b.mono (by first | exact Nat.le_refl _ | simp)))
        clear b R0 D1
        have e0 := R1.out.c 0 _ rfl
        have e1 := R1.out.c 1 _ rfl
        go_wp2_with fail
        refine (D2.out _ hb1).mono ?_
        rintro r w2 ⟨rfl, b⟩
        have hb2 := below_next hb1 b
        have R2 := hide (R1.out.kept (b.mono (by first | exact Nat.le_refl _ | simp)))
        clear b e0 e1 R1 D2
        have e0 := R2.out.c 0 _ rfl
        have e1 := R2.out.c 1 _ rfl
        go_wp2_with fail
        go_ret
        exact ⟨ret_bool (by exact H.out.symm), hb2⟩
      | false =>
        have H : Hid (whSg x = false) := hide (by simp [whSg, h0, h1, h2])
        have D1 := hide (fun (w2 : World) (b2 : Below w.heap.size w w2) => ints_right _ x.params true w2 hq (HP.out.step keeps_int b2 b2.size) h1)
        have D2 := hide (fun (w2 : World) (b2 : Below w.heap.size w w2) => ints_right _ x.results false w2 (Nat.le_trans h0 (by decide)) (HR.out.step keeps_int b2 b2.size) h2)
        clear h0 h1 h2 hq HP HR
        go_enter Tryz.func72, Tryz.ntmps72
        go_wp2_with fail
        refine (D1.out _ hb0).mono ?_
        rintro r w1 ⟨rfl, b⟩
        have hb1 := below_next hb0 b
        have R1 := hide (R0.out.kept (b.mono (by first | exact Nat.le_refl _ | simp)))
        clear b R0 D1
        have e0 := R1.out.c 0 _ rfl
        have e1 := R1.out.c 1 _ rfl
        go_wp2_with fail
        refine (D2.out _ hb1).mono ?_
        rintro r w2 ⟨rfl, b⟩
        have hb2 := below_next hb1 b
        have R2 := hide (R1.out.kept (b.mono (by first | exact Nat.le_refl _ | simp)))
        clear b e0 e1 R1 D2
        have e0 := R2.out.c 0 _ rfl
        have e1 := R2.out.c 1 _ rfl
        go_wp2_with fail
        go_ret
        exact ⟨ret_bool (by exact H.out.symm), hb2⟩
    | false =>
      have H : Hid (whSg x = false) := hide (by simp [whSg, h0, h1])
      have D1 := hide (fun (w2 : World) (b2 : Below w.heap.size w w2) => ints_right _ x.params false w2 hq (HP.out.step keeps_int b2 b2.size) h1)
      clear h0 h1 hq HP HR
      go_enter Tryz.func72, Tryz.ntmps72
      go_wp2_with fail
      refine (D1.out _ hb0).mono ?_
      rintro r w1 ⟨rfl, b⟩
      have hb1 := below_next hb0 b
      have R1 := hide (R0.out.kept (b.mono (by first | exact Nat.le_refl _ | simp)))
      clear b R0 D1
      have e0 := R1.out.c 0 _ rfl
      have e1 := R1.out.c 1 _ rfl
      go_wp2_with fail
      go_ret
      exact ⟨ret_bool (by exact H.out.symm), hb1⟩
  · have g0 : ¬ (x.results.length : Int) ≤ 1 := by omega
    have H : Hid (whSg x = false) := hide (by simp [whSg, h0])
    clear h0 hq HP HR
    go_enter Tryz.func72, Tryz.ntmps72
    go_wp2_with fail
    go_ret
    exact ⟨ret_bool (by first | exact H.out.symm | simpa [g0] using H.out.symm), hb0⟩
/-- The instruction that comes next. -/
theorem drop_cons {α : Type} {l : List α} {k : Nat} (h : k < l.length) : l.drop k = l[k] :: l.drop (k + 1) := List.drop_eq_getElem_cons h
theorem cl_step {l : List In} {o : Int} {k : Nat} (h : k < l.length) : cl o (l.drop k) = if nxt o l[k].op = 0 then decide (k + 1 = l.length) else cl (nxt o l[k].op) (l.drop (k + 1)) := by
  rw [drop_cons h, cl]
  split
  · by_cases hk : k + 1 = l.length
    · simp [hk]
    · have : l.drop (k + 1) ≠ [] := by simp; omega
      simp [hk, this]
  · rfl
theorem nxt_up {o op : Int} (h : op = 2 ∨ op = 3 ∨ op = 4) : nxt o op = o + 1 := by simp [nxt, h]
theorem nxt_dn {o : Int} : nxt o 11 = o - 1 := by simp [nxt]
theorem nxt_no {o op : Int} (h2 : op ≠ 2) (h3 : op ≠ 3) (h4 : op ≠ 4) (h5 : op ≠ 11) : nxt o op = o := by simp [nxt, h2, h3, h4, h5]
set_option maxRecDepth 100000 in
set_option maxHeartbeats 3200000 in
theorem closed_any (v : Value) (l : List In) (w : World) (hl : l.length ≤ 1000) (hL : SIns w.heap.size w v l) :
    Calls Tryz.prog 98 #[v] w fun e w' => e = .returned (.bool (cl 1 l)) ∧ Below w.heap.size w w' := by
  obtain ⟨a, cap, rfl, he⟩ := hL
  have HE := hide he
  clear he
  go_enter Tryz.func98, Tryz.ntmps98
  go_wp2_with fail
  go_loopw [3, 8] (fun ov iv wr => ∃ (k : Nat) (o : Int), k ≤ l.length ∧ iv = .int .i64 k ∧ ov = .int .i64 o ∧ 1 ≤ o ∧ o ≤ 1 + k ∧ Below w.heap.size w wr ∧ Hid (cl o (l.drop k) = cl 1 l)) (fun _ iv _ => l.length - (intOf iv).toNat)
  case atStart => exact ⟨0, 1, by omega, rfl, rfl, by omega, by omega, Below.refl _ _, hide (by simp)⟩
  case round =>
    obtain ⟨k, o, hk, rfl, rfl, h1, h2, hb, hA⟩ := hrel
    have hbs := hb.size
    by_cases hlt : k < l.length
    · obtain ⟨b, off, rfl, hbb, hi, c0, c1, c2⟩ := HE.out k hlt
      have d0 := (hb.cell (p := ⟨b, off + k * 3, none⟩) hbb).trans c0
      have d1 := (hb.cell (p := ⟨b, off + k * 3 + 1, none⟩) hbb).trans c1
      have d2 := (hb.cell (p := ⟨b, off + k * 3 + 2, none⟩) hbb).trans c2
      clear c0 c1 c2 hi
      have hb1 := hb.trans ((bel_one wr (.cells #[.int .i64 l[k].op, .int .i64 l[k].n, .int .i64 l[k].m] 44)).mono hbs)
      have hS := hide (cl_step (o := o) hlt)
      by_cases m2 : l[k].op = 2
      · have n2 : (l[k].op == 2) = true := by simpa using m2
        have hA2 : Hid (cl (o + 1) (l.drop (k + 1)) = cl 1 l) := hide (by have e := hS.out; rw [nxt_up (by omega), if_neg (by omega)] at e; rw [← e]; exact hA.out)
        have z : (o + 1 == 0) = false := by simp; omega
        clear hS hA HE m2
        go_wp2_with fail
        go_roundw
        case rel => exact ⟨k + 1, o + 1, by omega, by go_num, by go_num, by omega, by omega, hb1, hA2⟩
        case measure => simp [intOf]; omega
      have n2 : (l[k].op == 2) = false := by simpa using m2
      by_cases m3 : l[k].op = 3
      · have n3 : (l[k].op == 3) = true := by simpa using m3
        have hA2 : Hid (cl (o + 1) (l.drop (k + 1)) = cl 1 l) := hide (by have e := hS.out; rw [nxt_up (by omega), if_neg (by omega)] at e; rw [← e]; exact hA.out)
        have z : (o + 1 == 0) = false := by simp; omega
        clear hS hA HE m3
        go_wp2_with fail
        go_roundw
        case rel => exact ⟨k + 1, o + 1, by omega, by go_num, by go_num, by omega, by omega, hb1, hA2⟩
        case measure => simp [intOf]; omega
      have n3 : (l[k].op == 3) = false := by simpa using m3
      by_cases m4 : l[k].op = 4
      · have n4 : (l[k].op == 4) = true := by simpa using m4
        have hA2 : Hid (cl (o + 1) (l.drop (k + 1)) = cl 1 l) := hide (by have e := hS.out; rw [nxt_up (by omega), if_neg (by omega)] at e; rw [← e]; exact hA.out)
        have z : (o + 1 == 0) = false := by simp; omega
        clear hS hA HE m4
        go_wp2_with fail
        go_roundw
        case rel => exact ⟨k + 1, o + 1, by omega, by go_num, by go_num, by omega, by omega, hb1, hA2⟩
        case measure => simp [intOf]; omega
      have n4 : (l[k].op == 4) = false := by simpa using m4
      by_cases m11 : l[k].op = 11
      · have n11 : (l[k].op == 11) = true := by simpa using m11
        rw [m11] at hS
        rw [nxt_dn] at hS
        by_cases ho : o = 1
        · subst ho
          have H : Hid (decide (k + 1 = l.length) = cl 1 l) := hide (by have e := hS.out; rw [if_pos (by omega)] at e; rw [← e]; exact hA.out)
          clear hS hA HE m2 m3 m4 m11
          by_cases hk1 : k + 1 = l.length
          · have z : ((k : Int) == (l.length : Int) - 1) = true := by simp; omega
            have H2 : Hid (cl 1 l = true) := hide (by rw [← H.out]; simp [hk1])
            clear H
            go_wp2_with fail
            go_ret
            exact ⟨ret_bool (by rw [H2.out]), hb1⟩
          · have z : ((k : Int) == (l.length : Int) - 1) = false := by simp; omega
            have H2 : Hid (cl 1 l = false) := hide (by rw [← H.out]; simp [hk1])
            clear H
            go_wp2_with fail
            go_ret
            exact ⟨ret_bool (by rw [H2.out]), hb1⟩
        · have hA2 : Hid (cl (o - 1) (l.drop (k + 1)) = cl 1 l) := hide (by have e := hS.out; rw [if_neg (by omega)] at e; rw [← e]; exact hA.out)
          have z : (o - 1 == 0) = false := by simp; omega
          clear hS hA HE m2 m3 m4 m11
          go_wp2_with fail
          go_roundw
          case rel => exact ⟨k + 1, o - 1, by omega, by go_num, by go_num, by omega, by omega, hb1, hA2⟩
          case measure => simp [intOf]; omega
      have n11 : (l[k].op == 11) = false := by simpa using m11
      have hA2 : Hid (cl o (l.drop (k + 1)) = cl 1 l) := hide (by have e := hS.out; rw [nxt_no m2 m3 m4 m11, if_neg (by omega)] at e; rw [← e]; exact hA.out)
      have z : (o == 0) = false := by simp; omega
      clear hS hA HE m2 m3 m4 m11
      go_wp2_with fail
      go_roundw
      case rel => exact ⟨k + 1, o, by omega, by go_num, rfl, by omega, by omega, hb1, hA2⟩
      case measure => simp [intOf]; omega
    · have e0 : k = l.length := by omega
      subst e0
      have hY : Hid (cl 1 l = false) := hide (by rw [← hA.out]; simp [cl])
      clear hA HE
      go_wp2_with fail
      go_ret
      exact ⟨ret_bool hY.out.symm, hb⟩
theorem closed_is (v : Value) (l : List In) (r : Bool) (w : World) (hl : l.length ≤ 1000) (hL : SIns w.heap.size w v l) (h : cl 1 l = r) :
    Calls Tryz.prog 98 #[v] w fun e w' => e = .returned (.bool r) ∧ Below w.heap.size w w' := by
  rw [← h]; exact closed_any v l w hl hL
theorem ins_right (v : Value) (l : List In) (r : Bool) (w : World) (hl : l.length ≤ 1000) (h : SIns w.heap.size w v l) (hr : l.all rtI = r) :
    Calls Tryz.prog 96 #[v, .func (.func 97) #[] #[]] w fun e w' => e = .returned (.bool r) ∧ Below w.heap.size w w' := by
  rw [← hr]; exact all_in 97 rtI v l w at110 hl h (fun x _ w hx => right_all x.op x.n x.m w hx.2.1 hx.2.2)
set_option maxHeartbeats 800000 in
theorem wholeFunc_any (x : Fn) (vl vb : Value) (w : World) (hs : smFn x = true) (hi : I64 x.sig) (hp : SInts w.heap.size w vl x.locals) (hr : SIns w.heap.size w vb x.body) :
    Calls Tryz.prog 74 #[.agg #[.int .i64 x.sig, .bool x.tr, vl, vb]] w fun e w' => e = .returned (.bool (whFn x)) ∧ Below w.heap.size w w' := by
  have hp0 := hp
  have hr0 := hr
  obtain ⟨ap, kp, rfl, _⟩ := hp0
  obtain ⟨ar, kr, rfl, _⟩ := hr0
  have HP := hide hp
  have HR := hide hr
  have HI := hide hi
  have hq : x.locals.length ≤ 1000 ∧ x.body.length ≤ 1000 := by simp [smFn] at hs; omega
  clear hp hr hs hi
  have hb0 := bel_one w (.cells #[.int .i64 x.sig, .bool x.tr, .slice ap x.locals.length kp, .slice ar x.body.length kr] 38)
  have R0 := hide (Row.made w #[.int .i64 x.sig, .bool x.tr, .slice ap x.locals.length kp, .slice ar x.body.length kr] 38)
  cases h0 : idx x.sig with
  | true =>
    cases h1 : x.locals.all ri with
    | true =>
      cases h2 : x.body.all rtI with
      | true =>
        cases h3 : cl 1 x.body with
        | true =>
          have H : Hid (whFn x = true) := hide (by simp [whFn, h0, h1, h2, h3])
          have D0 := hide (fun (w2 : World) (b2 : Below w.heap.size w w2) => pure_below (index_is x.sig true w2 (have _ := b2; HI.out) h0))
          have D1 := hide (fun (w2 : World) (b2 : Below w.heap.size w w2) => ints_right _ x.locals true w2 hq.1 (HP.out.step keeps_int b2 b2.size) h1)
          have D2 := hide (fun (w2 : World) (b2 : Below w.heap.size w w2) => ins_right _ x.body true w2 hq.2 (HR.out.step keeps_in b2 b2.size) h2)
          have D3 := hide (fun (w2 : World) (b2 : Below w.heap.size w w2) => closed_is _ x.body true w2 hq.2 (HR.out.step keeps_in b2 b2.size) h3)
          clear h0 h1 h2 h3 hq HP HR HI
          go_enter Tryz.func74, Tryz.ntmps74
          go_wp2_with fail
          refine (D0.out _ hb0).mono ?_
          rintro r w1 ⟨rfl, b⟩
          have hb1 := below_next hb0 b
          have R1 := hide (R0.out.kept (b.mono (by first | exact Nat.le_refl _ | simp)))
          clear b R0 D0
          have e0 := R1.out.c 0 _ rfl
          have e2 := R1.out.c 2 _ rfl
          have e3 := R1.out.c 3 _ rfl
          go_wp2_with fail
          refine (D1.out _ hb1).mono ?_
          rintro r w2 ⟨rfl, b⟩
          have hb2 := below_next hb1 b
          have R2 := hide (R1.out.kept (b.mono (by first | exact Nat.le_refl _ | simp)))
          clear b e0 e2 e3 R1 D1
          have e0 := R2.out.c 0 _ rfl
          have e2 := R2.out.c 2 _ rfl
          have e3 := R2.out.c 3 _ rfl
          go_wp2_with fail
          refine (D2.out _ hb2).mono ?_
          rintro r w3 ⟨rfl, b⟩
          have hb3 := below_next hb2 b
          have R3 := hide (R2.out.kept (b.mono (by first | exact Nat.le_refl _ | simp)))
          clear b e0 e2 e3 R2 D2
          have e0 := R3.out.c 0 _ rfl
          have e2 := R3.out.c 2 _ rfl
          have e3 := R3.out.c 3 _ rfl
          go_wp2_with fail
          refine (D3.out _ hb3).mono ?_
          rintro r w4 ⟨rfl, b⟩
          have hb4 := below_next hb3 b
          have R4 := hide (R3.out.kept (b.mono (by first | exact Nat.le_refl _ | simp)))
          clear b e0 e2 e3 R3 D3
          have e0 := R4.out.c 0 _ rfl
          have e2 := R4.out.c 2 _ rfl
          have e3 := R4.out.c 3 _ rfl
          go_wp2_with fail
          go_ret
          exact ⟨ret_bool (by exact H.out.symm), hb4⟩
        | false =>
          have H : Hid (whFn x = false) := hide (by simp [whFn, h0, h1, h2, h3])
          have D0 := hide (fun (w2 : World) (b2 : Below w.heap.size w w2) => pure_below (index_is x.sig true w2 (have _ := b2; HI.out) h0))
          have D1 := hide (fun (w2 : World) (b2 : Below w.heap.size w w2) => ints_right _ x.locals true w2 hq.1 (HP.out.step keeps_int b2 b2.size) h1)
          have D2 := hide (fun (w2 : World) (b2 : Below w.heap.size w w2) => ins_right _ x.body true w2 hq.2 (HR.out.step keeps_in b2 b2.size) h2)
          have D3 := hide (fun (w2 : World) (b2 : Below w.heap.size w w2) => closed_is _ x.body false w2 hq.2 (HR.out.step keeps_in b2 b2.size) h3)
          clear h0 h1 h2 h3 hq HP HR HI
          go_enter Tryz.func74, Tryz.ntmps74
          go_wp2_with fail
          refine (D0.out _ hb0).mono ?_
          rintro r w1 ⟨rfl, b⟩
          have hb1 := below_next hb0 b
          have R1 := hide (R0.out.kept (b.mono (by first | exact Nat.le_refl _ | simp)))
          clear b R0 D0
          have e0 := R1.out.c 0 _ rfl
          have e2 := R1.out.c 2 _ rfl
          have e3 := R1.out.c 3 _ rfl
          go_wp2_with fail
          refine (D1.out _ hb1).mono ?_
          rintro r w2 ⟨rfl, b⟩
          have hb2 := below_next hb1 b
          have R2 := hide (R1.out.kept (b.mono (by first | exact Nat.le_refl _ | simp)))
          clear b e0 e2 e3 R1 D1
          have e0 := R2.out.c 0 _ rfl
          have e2 := R2.out.c 2 _ rfl
          have e3 := R2.out.c 3 _ rfl
          go_wp2_with fail
          refine (D2.out _ hb2).mono ?_
          rintro r w3 ⟨rfl, b⟩
          have hb3 := below_next hb2 b
          have R3 := hide (R2.out.kept (b.mono (by first | exact Nat.le_refl _ | simp)))
          clear b e0 e2 e3 R2 D2
          have e0 := R3.out.c 0 _ rfl
          have e2 := R3.out.c 2 _ rfl
          have e3 := R3.out.c 3 _ rfl
          go_wp2_with fail
          refine (D3.out _ hb3).mono ?_
          rintro r w4 ⟨rfl, b⟩
          have hb4 := below_next hb3 b
          have R4 := hide (R3.out.kept (b.mono (by first | exact Nat.le_refl _ | simp)))
          clear b e0 e2 e3 R3 D3
          have e0 := R4.out.c 0 _ rfl
          have e2 := R4.out.c 2 _ rfl
          have e3 := R4.out.c 3 _ rfl
          go_wp2_with fail
          go_ret
          exact ⟨ret_bool (by exact H.out.symm), hb4⟩
      | false =>
        have H : Hid (whFn x = false) := hide (by simp [whFn, h0, h1, h2])
        have D0 := hide (fun (w2 : World) (b2 : Below w.heap.size w w2) => pure_below (index_is x.sig true w2 (have _ := b2; HI.out) h0))
        have D1 := hide (fun (w2 : World) (b2 : Below w.heap.size w w2) => ints_right _ x.locals true w2 hq.1 (HP.out.step keeps_int b2 b2.size) h1)
        have D2 := hide (fun (w2 : World) (b2 : Below w.heap.size w w2) => ins_right _ x.body false w2 hq.2 (HR.out.step keeps_in b2 b2.size) h2)
        clear h0 h1 h2 hq HP HR HI
        go_enter Tryz.func74, Tryz.ntmps74
        go_wp2_with fail
        refine (D0.out _ hb0).mono ?_
        rintro r w1 ⟨rfl, b⟩
        have hb1 := below_next hb0 b
        have R1 := hide (R0.out.kept (b.mono (by first | exact Nat.le_refl _ | simp)))
        clear b R0 D0
        have e0 := R1.out.c 0 _ rfl
        have e2 := R1.out.c 2 _ rfl
        have e3 := R1.out.c 3 _ rfl
        go_wp2_with fail
        refine (D1.out _ hb1).mono ?_
        rintro r w2 ⟨rfl, b⟩
        have hb2 := below_next hb1 b
        have R2 := hide (R1.out.kept (b.mono (by first | exact Nat.le_refl _ | simp)))
        clear b e0 e2 e3 R1 D1
        have e0 := R2.out.c 0 _ rfl
        have e2 := R2.out.c 2 _ rfl
        have e3 := R2.out.c 3 _ rfl
        go_wp2_with fail
        refine (D2.out _ hb2).mono ?_
        rintro r w3 ⟨rfl, b⟩
        have hb3 := below_next hb2 b
        have R3 := hide (R2.out.kept (b.mono (by first | exact Nat.le_refl _ | simp)))
        clear b e0 e2 e3 R2 D2
        have e0 := R3.out.c 0 _ rfl
        have e2 := R3.out.c 2 _ rfl
        have e3 := R3.out.c 3 _ rfl
        go_wp2_with fail
        go_ret
        exact ⟨ret_bool (by exact H.out.symm), hb3⟩
    | false =>
      have H : Hid (whFn x = false) := hide (by simp [whFn, h0, h1])
      have D0 := hide (fun (w2 : World) (b2 : Below w.heap.size w w2) => pure_below (index_is x.sig true w2 (have _ := b2; HI.out) h0))
      have D1 := hide (fun (w2 : World) (b2 : Below w.heap.size w w2) => ints_right _ x.locals false w2 hq.1 (HP.out.step keeps_int b2 b2.size) h1)
      clear h0 h1 hq HP HR HI
      go_enter Tryz.func74, Tryz.ntmps74
      go_wp2_with fail
      refine (D0.out _ hb0).mono ?_
      rintro r w1 ⟨rfl, b⟩
      have hb1 := below_next hb0 b
      have R1 := hide (R0.out.kept (b.mono (by first | exact Nat.le_refl _ | simp)))
      clear b R0 D0
      have e0 := R1.out.c 0 _ rfl
      have e2 := R1.out.c 2 _ rfl
      have e3 := R1.out.c 3 _ rfl
      go_wp2_with fail
      refine (D1.out _ hb1).mono ?_
      rintro r w2 ⟨rfl, b⟩
      have hb2 := below_next hb1 b
      have R2 := hide (R1.out.kept (b.mono (by first | exact Nat.le_refl _ | simp)))
      clear b e0 e2 e3 R1 D1
      have e0 := R2.out.c 0 _ rfl
      have e2 := R2.out.c 2 _ rfl
      have e3 := R2.out.c 3 _ rfl
      go_wp2_with fail
      go_ret
      exact ⟨ret_bool (by exact H.out.symm), hb2⟩
  | false =>
    have H : Hid (whFn x = false) := hide (by simp [whFn, h0])
    have D0 := hide (fun (w2 : World) (b2 : Below w.heap.size w w2) => pure_below (index_is x.sig false w2 (have _ := b2; HI.out) h0))
    clear h0 hq HP HR HI
    go_enter Tryz.func74, Tryz.ntmps74
    go_wp2_with fail
    refine (D0.out _ hb0).mono ?_
    rintro r w1 ⟨rfl, b⟩
    have hb1 := below_next hb0 b
    have R1 := hide (R0.out.kept (b.mono (by first | exact Nat.le_refl _ | simp)))
    clear b R0 D0
    have e0 := R1.out.c 0 _ rfl
    have e2 := R1.out.c 2 _ rfl
    have e3 := R1.out.c 3 _ rfl
    go_wp2_with fail
    go_ret
    exact ⟨ret_bool (by exact H.out.symm), hb1⟩
theorem wholeGlobal_any (x : Gl) (w : World) (hi : I64 x.t ∧ I64 x.v) :
    Calls Tryz.prog 76 #[.agg #[.int .i64 x.t, .int .i64 x.v]] w fun e w' => e = .returned (.bool (whGl x)) ∧ Below w.heap.size w w' := by
  have HI := hide hi
  have hb0 := bel_one w (.cells #[.int .i64 x.t, .int .i64 x.v] 50)
  clear hi
  cases h0 : ri x.t with
  | false =>
    have H : Hid (whGl x = false) := hide (by simp [whGl, h0])
    have D0 := hide (right_is x.t _ (w.alloc (.cells #[.int .i64 x.t, .int .i64 x.v] 50)) HI.out.1 h0)
    clear h0 HI
    go_enter Tryz.func76, Tryz.ntmps76
    go_wp2_with fail
    refine D0.out.mono ?_
    rintro r w1 ⟨rfl, rfl⟩
    go_wp2_with fail
    go_ret
    exact ⟨ret_bool H.out.symm, hb0⟩
  | true =>
    have D0 := hide (right_is x.t _ (w.alloc (.cells #[.int .i64 x.t, .int .i64 x.v] 50)) HI.out.1 h0)
    cases h1 : wi x.t with
    | true =>
      have H : Hid (whGl x = true) := hide (by simp [whGl, h0, h1])
      have D1 := hide (wide_is x.t _ (w.alloc (.cells #[.int .i64 x.t, .int .i64 x.v] 50)) HI.out.1 h1)
      clear h0 h1 HI
      go_enter Tryz.func76, Tryz.ntmps76
      go_wp2_with fail
      refine D0.out.mono ?_
      rintro r w1 ⟨rfl, rfl⟩
      go_wp2_with fail
      refine D1.out.mono ?_
      rintro r w1 ⟨rfl, rfl⟩
      go_wp2_with fail
      go_ret
      exact ⟨ret_bool H.out.symm, hb0⟩
    | false =>
      have D1 := hide (wide_is x.t _ (w.alloc (.cells #[.int .i64 x.t, .int .i64 x.v] 50)) HI.out.1 h1)
      have H : Hid (whGl x = idx x.v) := hide (by simp [whGl, h0, h1])
      have D2 := hide (index_any x.v (w.alloc (.cells #[.int .i64 x.t, .int .i64 x.v] 50)) HI.out.2)
      clear h0 h1 HI
      go_enter Tryz.func76, Tryz.ntmps76
      go_wp2_with fail
      refine D0.out.mono ?_
      rintro r w1 ⟨rfl, rfl⟩
      go_wp2_with fail
      refine D1.out.mono ?_
      rintro r w1 ⟨rfl, rfl⟩
      go_wp2_with fail
      refine D2.out.mono ?_
      rintro r w1 ⟨rfl, rfl⟩
      go_wp2_with fail
      go_ret
      exact ⟨ret_bool H.out.symm, hb0⟩
theorem wholeDatum_any (x : Da) (w : World) (hi : I64 x.mem ∧ I64 x.pos) :
    Calls Tryz.prog 78 #[.agg #[.int .i64 x.mem, .int .i64 x.pos, .string (str x.bytes)]] w fun e w' => e = .returned (.bool (whDa x)) ∧ Below w.heap.size w w' := by
  have D := hide (index_any x.pos (w.alloc (.cells #[.int .i64 x.mem, .int .i64 x.pos, .string (str x.bytes)] 35)) hi.2)
  have hb0 := bel_one w (.cells #[.int .i64 x.mem, .int .i64 x.pos, .string (str x.bytes)] 35)
  clear hi
  by_cases h0 : x.mem = 0
  · have e0 : (x.mem == 0) = true := by simpa using h0
    have H : Hid (whDa x = idx x.pos) := hide (by simp [whDa, h0])
    clear h0
    go_enter Tryz.func78, Tryz.ntmps78
    go_wp2_with fail
    refine D.out.mono ?_
    rintro r w1 ⟨rfl, rfl⟩
    go_wp2_with fail
    go_ret
    exact ⟨ret_bool H.out.symm, hb0⟩
  · have e0 : (x.mem == 0) = false := by simpa using h0
    by_cases h1 : x.mem = 1
    · have e1 : (x.mem == 1) = true := by simpa using h1
      have H : Hid (whDa x = idx x.pos) := hide (by simp [whDa, h1])
      clear h0 h1
      go_enter Tryz.func78, Tryz.ntmps78
      go_wp2_with fail
      refine D.out.mono ?_
      rintro r w1 ⟨rfl, rfl⟩
      go_wp2_with fail
      go_ret
      exact ⟨ret_bool H.out.symm, hb0⟩
    · have e1 : (x.mem == 1) = false := by simpa using h1
      have H : Hid (whDa x = false) := hide (by simp [whDa, h0, h1])
      clear h0 h1 D
      go_enter Tryz.func78, Tryz.ntmps78
      go_wp2_with fail
      go_ret
      exact ⟨ret_bool H.out.symm, hb0⟩
theorem sgs_small (v : Value) (l : List Sg) (r : Bool) (w : World) (hl : l.length ≤ 1000) (h : SSgs w.heap.size w v l) (hr : l.all smSg = r) :
    Calls Tryz.prog 66 #[v, .func (.func 67) #[] #[]] w fun e w' => e = .returned (.bool r) ∧ Below w.heap.size w w' := by
  rw [← hr]; exact all_sg 67 smSg v l w at75 hl h (fun x _ vp vr w hp hr => smallSig_any x vp vr w hp hr)
theorem fns_small (v : Value) (l : List Fn) (r : Bool) (w : World) (hl : l.length ≤ 1000) (h : SFns w.heap.size w v l) (hr : l.all smFn = r) :
    Calls Tryz.prog 68 #[v, .func (.func 69) #[] #[]] w fun e w' => e = .returned (.bool r) ∧ Below w.heap.size w w' := by
  rw [← hr]; exact all_fn 69 smFn v l w at77 hl h (fun x _ vp vr w _ hp hr => smallFunc_any x vp vr w hp hr)
theorem sgs_whole (v : Value) (l : List Sg) (r : Bool) (w : World) (hl : l.length ≤ 1000) (hs : l.all smSg = true) (h : SSgs w.heap.size w v l) (hr : l.all whSg = r) :
    Calls Tryz.prog 66 #[v, .func (.func 72) #[] #[]] w fun e w' => e = .returned (.bool r) ∧ Below w.heap.size w w' := by
  rw [← hr]; exact all_sg 72 whSg v l w at80 hl h (fun x hx vp vr w hp hr => wholeSig_any x vp vr w (List.all_eq_true.1 hs x hx) hp hr)
theorem fns_whole (v : Value) (l : List Fn) (r : Bool) (w : World) (hl : l.length ≤ 1000) (hs : l.all smFn = true) (h : SFns w.heap.size w v l) (hr : l.all whFn = r) :
    Calls Tryz.prog 68 #[v, .func (.func 74) #[] #[]] w fun e w' => e = .returned (.bool r) ∧ Below w.heap.size w w' := by
  rw [← hr]; exact all_fn 74 whFn v l w at82 hl h (fun x hx vp vr w hi hp hr => wholeFunc_any x vp vr w (List.all_eq_true.1 hs x hx) hi hp hr)
theorem gls_whole (v : Value) (l : List Gl) (r : Bool) (w : World) (hl : l.length ≤ 1000) (h : SGls w.heap.size w v l) (hr : l.all whGl = r) :
    Calls Tryz.prog 75 #[v, .func (.func 76) #[] #[]] w fun e w' => e = .returned (.bool r) ∧ Below w.heap.size w w' := by
  rw [← hr]; exact all_gl 76 whGl v l w at84 hl h (fun x _ w hi => wholeGlobal_any x w hi)
theorem das_whole (v : Value) (l : List Da) (r : Bool) (w : World) (hl : l.length ≤ 1000) (h : SDas w.heap.size w v l) (hr : l.all whDa = r) :
    Calls Tryz.prog 77 #[v, .func (.func 78) #[] #[]] w fun e w' => e = .returned (.bool r) ∧ Below w.heap.size w w' := by
  rw [← hr]; exact all_da 78 whDa v l w at86 hl h (fun x _ w hi => wholeDatum_any x w hi)
theorem box_mems {W : World} {b : Nat} {c0 c1 c2 c5 c6 : Value} {x y : Int} {ty : TypeId} (h : Row W b #[c0, c1, c2, .int .i64 x, .int .i64 y, c5, c6] ty) (hx : I64 x ∧ I64 y) :
    SInts W.heap.size W (.slice (some ⟨b, 3, none⟩) 2 2) [x, y] := by
  refine ⟨_, _, rfl, fun j hj => ⟨b, 3, rfl, h.lt, ?_⟩⟩
  match j, hj with
  | 0, _ => exact ⟨hx.1, h.c 3 _ rfl⟩
  | 1, _ => exact ⟨hx.2, h.c 4 _ rfl⟩
set_option maxHeartbeats 3200000 in
theorem small_any (V : MoV) (M : Mo) (w : World) (h : IsMo w.heap.size w V M) :
    Calls Tryz.prog 44 #[moV V M] w fun e w' => e = .returned (.bool (small M)) ∧ Below w.heap.size w w' := by
  obtain ⟨a0, c0, a1, c1, a2, c2, a5, c5, a6, c6, rfl⟩ := h.forms
  have HM := hide h
  clear h
  unfold moV
  dsimp only
  have hb0 := bel_one w (.cells #[.slice a0 M.sigs.length c0, .slice a1 M.imports.length c1, .slice a2 M.funcs.length c2, .int .i64 M.m0, .int .i64 M.m1, .slice a5 M.globals.length c5, .slice a6 M.data.length c6] 29)
  have R0 := hide (Row.made w #[.slice a0 M.sigs.length c0, .slice a1 M.imports.length c1, .slice a2 M.funcs.length c2, .int .i64 M.m0, .int .i64 M.m1, .slice a5 M.globals.length c5, .slice a6 M.data.length c6] 29)
  by_cases h0 : M.sigs.length ≤ 16
  · have g0 : (M.sigs.length : Int) ≤ 16 := by omega
    by_cases h1 : M.imports.length ≤ 8
    · have g1 : (M.imports.length : Int) ≤ 8 := by omega
      by_cases h2 : M.funcs.length ≤ 8
      · have g2 : (M.funcs.length : Int) ≤ 8 := by omega
        by_cases h3 : M.globals.length ≤ 8
        · have g3 : (M.globals.length : Int) ≤ 8 := by omega
          by_cases h4 : M.data.length ≤ 8
          · have g4 : (M.data.length : Int) ≤ 8 := by omega
            cases h5 : M.sigs.all smSg with
            | true =>
              cases h6 : M.funcs.all smFn with
              | true =>
                cases h7 : [M.m0, M.m1].all smMem with
                | true =>
                  have H : Hid (small M = true) := hide (by simp [small, h0, h1, h2, h3, h4, h5, h6, h7])
                  have D5 := hide (fun (w2 : World) (b2 : Below w.heap.size w w2) => sgs_small _ M.sigs true w2 (Nat.le_trans h0 (by decide)) (HM.out.sigs.step keeps_sg b2 b2.size) h5)
                  have D6 := hide (fun (w2 : World) (b2 : Below w.heap.size w w2) => fns_small _ M.funcs true w2 (Nat.le_trans h2 (by decide)) (HM.out.funcs.step keeps_fn b2 b2.size) h6)
                  have D7 := hide (fun (w2 : World) (b2 : Below w.heap.size w w2) (hrow : Row w2 w.heap.size #[.slice a0 M.sigs.length c0, .slice a1 M.imports.length c1, .slice a2 M.funcs.length c2, .int .i64 M.m0, .int .i64 M.m1, .slice a5 M.globals.length c5, .slice a6 M.data.length c6] 29) => ints_mem _ [M.m0, M.m1] true w2 (by simp) (box_mems hrow HM.out.mems) h7)
                  clear h0 h1 h2 h3 h4 h5 h6 h7 HM
                  go_enter Tryz.func44, Tryz.ntmps44
                  go_wp2_with fail
                  refine (D5.out _ hb0).mono ?_
                  rintro r w1 ⟨rfl, b⟩
                  have hb1 := below_next hb0 b
                  have R1 := hide (R0.out.kept (b.mono (by first | exact Nat.le_refl _ | simp)))
                  clear b R0 D5
                  have e0 := R1.out.c 0 _ rfl
                  have e1 := R1.out.c 1 _ rfl
                  have e2 := R1.out.c 2 _ rfl
                  have e3 := R1.out.c 3 _ rfl
                  have e4 := R1.out.c 4 _ rfl
                  have e5 := R1.out.c 5 _ rfl
                  have e6 := R1.out.c 6 _ rfl
                  go_wp2_with fail
                  refine (D6.out _ hb1).mono ?_
                  rintro r w2 ⟨rfl, b⟩
                  have hb2 := below_next hb1 b
                  have R2 := hide (R1.out.kept (b.mono (by first | exact Nat.le_refl _ | simp)))
                  clear b e0 e1 e2 e3 e4 e5 e6 R1 D6
                  have e0 := R2.out.c 0 _ rfl
                  have e1 := R2.out.c 1 _ rfl
                  have e2 := R2.out.c 2 _ rfl
                  have e3 := R2.out.c 3 _ rfl
                  have e4 := R2.out.c 4 _ rfl
                  have e5 := R2.out.c 5 _ rfl
                  have e6 := R2.out.c 6 _ rfl
                  go_wp2_with fail
                  refine (D7.out _ hb2 R2.out).mono ?_
                  rintro r w3 ⟨rfl, b⟩
                  have hb3 := below_next hb2 b
                  have R3 := hide (R2.out.kept (b.mono (by first | exact Nat.le_refl _ | simp)))
                  clear b e0 e1 e2 e3 e4 e5 e6 R2 D7
                  have e0 := R3.out.c 0 _ rfl
                  have e1 := R3.out.c 1 _ rfl
                  have e2 := R3.out.c 2 _ rfl
                  have e3 := R3.out.c 3 _ rfl
                  have e4 := R3.out.c 4 _ rfl
                  have e5 := R3.out.c 5 _ rfl
                  have e6 := R3.out.c 6 _ rfl
                  go_wp2_with fail
                  go_ret
                  exact ⟨ret_bool (by exact H.out.symm), hb3⟩
                | false =>
                  have H : Hid (small M = false) := hide (by simp [small, h0, h1, h2, h3, h4, h5, h6, h7])
                  have D5 := hide (fun (w2 : World) (b2 : Below w.heap.size w w2) => sgs_small _ M.sigs true w2 (Nat.le_trans h0 (by decide)) (HM.out.sigs.step keeps_sg b2 b2.size) h5)
                  have D6 := hide (fun (w2 : World) (b2 : Below w.heap.size w w2) => fns_small _ M.funcs true w2 (Nat.le_trans h2 (by decide)) (HM.out.funcs.step keeps_fn b2 b2.size) h6)
                  have D7 := hide (fun (w2 : World) (b2 : Below w.heap.size w w2) (hrow : Row w2 w.heap.size #[.slice a0 M.sigs.length c0, .slice a1 M.imports.length c1, .slice a2 M.funcs.length c2, .int .i64 M.m0, .int .i64 M.m1, .slice a5 M.globals.length c5, .slice a6 M.data.length c6] 29) => ints_mem _ [M.m0, M.m1] false w2 (by simp) (box_mems hrow HM.out.mems) h7)
                  clear h0 h1 h2 h3 h4 h5 h6 h7 HM
                  go_enter Tryz.func44, Tryz.ntmps44
                  go_wp2_with fail
                  refine (D5.out _ hb0).mono ?_
                  rintro r w1 ⟨rfl, b⟩
                  have hb1 := below_next hb0 b
                  have R1 := hide (R0.out.kept (b.mono (by first | exact Nat.le_refl _ | simp)))
                  clear b R0 D5
                  have e0 := R1.out.c 0 _ rfl
                  have e1 := R1.out.c 1 _ rfl
                  have e2 := R1.out.c 2 _ rfl
                  have e3 := R1.out.c 3 _ rfl
                  have e4 := R1.out.c 4 _ rfl
                  have e5 := R1.out.c 5 _ rfl
                  have e6 := R1.out.c 6 _ rfl
                  go_wp2_with fail
                  refine (D6.out _ hb1).mono ?_
                  rintro r w2 ⟨rfl, b⟩
                  have hb2 := below_next hb1 b
                  have R2 := hide (R1.out.kept (b.mono (by first | exact Nat.le_refl _ | simp)))
                  clear b e0 e1 e2 e3 e4 e5 e6 R1 D6
                  have e0 := R2.out.c 0 _ rfl
                  have e1 := R2.out.c 1 _ rfl
                  have e2 := R2.out.c 2 _ rfl
                  have e3 := R2.out.c 3 _ rfl
                  have e4 := R2.out.c 4 _ rfl
                  have e5 := R2.out.c 5 _ rfl
                  have e6 := R2.out.c 6 _ rfl
                  go_wp2_with fail
                  refine (D7.out _ hb2 R2.out).mono ?_
                  rintro r w3 ⟨rfl, b⟩
                  have hb3 := below_next hb2 b
                  have R3 := hide (R2.out.kept (b.mono (by first | exact Nat.le_refl _ | simp)))
                  clear b e0 e1 e2 e3 e4 e5 e6 R2 D7
                  have e0 := R3.out.c 0 _ rfl
                  have e1 := R3.out.c 1 _ rfl
                  have e2 := R3.out.c 2 _ rfl
                  have e3 := R3.out.c 3 _ rfl
                  have e4 := R3.out.c 4 _ rfl
                  have e5 := R3.out.c 5 _ rfl
                  have e6 := R3.out.c 6 _ rfl
                  go_wp2_with fail
                  go_ret
                  exact ⟨ret_bool (by exact H.out.symm), hb3⟩
              | false =>
                have H : Hid (small M = false) := hide (by simp [small, h0, h1, h2, h3, h4, h5, h6])
                have D5 := hide (fun (w2 : World) (b2 : Below w.heap.size w w2) => sgs_small _ M.sigs true w2 (Nat.le_trans h0 (by decide)) (HM.out.sigs.step keeps_sg b2 b2.size) h5)
                have D6 := hide (fun (w2 : World) (b2 : Below w.heap.size w w2) => fns_small _ M.funcs false w2 (Nat.le_trans h2 (by decide)) (HM.out.funcs.step keeps_fn b2 b2.size) h6)
                clear h0 h1 h2 h3 h4 h5 h6 HM
                go_enter Tryz.func44, Tryz.ntmps44
                go_wp2_with fail
                refine (D5.out _ hb0).mono ?_
                rintro r w1 ⟨rfl, b⟩
                have hb1 := below_next hb0 b
                have R1 := hide (R0.out.kept (b.mono (by first | exact Nat.le_refl _ | simp)))
                clear b R0 D5
                have e0 := R1.out.c 0 _ rfl
                have e1 := R1.out.c 1 _ rfl
                have e2 := R1.out.c 2 _ rfl
                have e3 := R1.out.c 3 _ rfl
                have e4 := R1.out.c 4 _ rfl
                have e5 := R1.out.c 5 _ rfl
                have e6 := R1.out.c 6 _ rfl
                go_wp2_with fail
                refine (D6.out _ hb1).mono ?_
                rintro r w2 ⟨rfl, b⟩
                have hb2 := below_next hb1 b
                have R2 := hide (R1.out.kept (b.mono (by first | exact Nat.le_refl _ | simp)))
                clear b e0 e1 e2 e3 e4 e5 e6 R1 D6
                have e0 := R2.out.c 0 _ rfl
                have e1 := R2.out.c 1 _ rfl
                have e2 := R2.out.c 2 _ rfl
                have e3 := R2.out.c 3 _ rfl
                have e4 := R2.out.c 4 _ rfl
                have e5 := R2.out.c 5 _ rfl
                have e6 := R2.out.c 6 _ rfl
                go_wp2_with fail
                go_ret
                exact ⟨ret_bool (by exact H.out.symm), hb2⟩
            | false =>
              have H : Hid (small M = false) := hide (by simp [small, h0, h1, h2, h3, h4, h5])
              have D5 := hide (fun (w2 : World) (b2 : Below w.heap.size w w2) => sgs_small _ M.sigs false w2 (Nat.le_trans h0 (by decide)) (HM.out.sigs.step keeps_sg b2 b2.size) h5)
              clear h0 h1 h2 h3 h4 h5 HM
              go_enter Tryz.func44, Tryz.ntmps44
              go_wp2_with fail
              refine (D5.out _ hb0).mono ?_
              rintro r w1 ⟨rfl, b⟩
              have hb1 := below_next hb0 b
              have R1 := hide (R0.out.kept (b.mono (by first | exact Nat.le_refl _ | simp)))
              clear b R0 D5
              have e0 := R1.out.c 0 _ rfl
              have e1 := R1.out.c 1 _ rfl
              have e2 := R1.out.c 2 _ rfl
              have e3 := R1.out.c 3 _ rfl
              have e4 := R1.out.c 4 _ rfl
              have e5 := R1.out.c 5 _ rfl
              have e6 := R1.out.c 6 _ rfl
              go_wp2_with fail
              go_ret
              exact ⟨ret_bool (by exact H.out.symm), hb1⟩
          · have g4 : ¬ (M.data.length : Int) ≤ 8 := by omega
            have H : Hid (small M = false) := hide (by simp [small, h0, h1, h2, h3, h4])
            clear h0 h1 h2 h3 h4 HM
            go_enter Tryz.func44, Tryz.ntmps44
            go_wp2_with fail
            go_ret
            exact ⟨ret_bool (by first | exact H.out.symm | simpa [g4] using H.out.symm), hb0⟩
        · have g3 : ¬ (M.globals.length : Int) ≤ 8 := by omega
          have H : Hid (small M = false) := hide (by simp [small, h0, h1, h2, h3])
          clear h0 h1 h2 h3 HM
          go_enter Tryz.func44, Tryz.ntmps44
          go_wp2_with fail
          go_ret
          exact ⟨ret_bool (by first | exact H.out.symm | simpa [g3] using H.out.symm), hb0⟩
      · have g2 : ¬ (M.funcs.length : Int) ≤ 8 := by omega
        have H : Hid (small M = false) := hide (by simp [small, h0, h1, h2])
        clear h0 h1 h2 HM
        go_enter Tryz.func44, Tryz.ntmps44
        go_wp2_with fail
        go_ret
        exact ⟨ret_bool (by first | exact H.out.symm | simpa [g2] using H.out.symm), hb0⟩
    · have g1 : ¬ (M.imports.length : Int) ≤ 8 := by omega
      have H : Hid (small M = false) := hide (by simp [small, h0, h1])
      clear h0 h1 HM
      go_enter Tryz.func44, Tryz.ntmps44
      go_wp2_with fail
      go_ret
      exact ⟨ret_bool (by first | exact H.out.symm | simpa [g1] using H.out.symm), hb0⟩
  · have g0 : ¬ (M.sigs.length : Int) ≤ 16 := by omega
    have H : Hid (small M = false) := hide (by simp [small, h0])
    clear h0 HM
    go_enter Tryz.func44, Tryz.ntmps44
    go_wp2_with fail
    go_ret
    exact ⟨ret_bool (by first | exact H.out.symm | simpa [g0] using H.out.symm), hb0⟩
set_option maxHeartbeats 3200000 in
theorem whole_any (V : MoV) (M : Mo) (w : World) (hs : small M = true) (h : IsMo w.heap.size w V M) :
    Calls Tryz.prog 46 #[moV V M] w fun e w' => e = .returned (.bool (whole M)) ∧ Below w.heap.size w w' := by
  obtain ⟨a0, c0, a1, c1, a2, c2, a5, c5, a6, c6, rfl⟩ := h.forms
  have HM := hide h
  simp only [small, Bool.and_eq_true, decide_eq_true_eq] at hs
  have HS := hide hs
  clear h hs
  unfold moV
  dsimp only
  have hb0 := bel_one w (.cells #[.slice a0 M.sigs.length c0, .slice a1 M.imports.length c1, .slice a2 M.funcs.length c2, .int .i64 M.m0, .int .i64 M.m1, .slice a5 M.globals.length c5, .slice a6 M.data.length c6] 29)
  have R0 := hide (Row.made w #[.slice a0 M.sigs.length c0, .slice a1 M.imports.length c1, .slice a2 M.funcs.length c2, .int .i64 M.m0, .int .i64 M.m1, .slice a5 M.globals.length c5, .slice a6 M.data.length c6] 29)
  cases h0 : M.sigs.all whSg with
  | true =>
    cases h1 : M.imports.all idx with
    | true =>
      cases h2 : M.funcs.all whFn with
      | true =>
        cases h3 : M.globals.all whGl with
        | true =>
          cases h4 : M.data.all whDa with
          | true =>
            have H : Hid (whole M = true) := hide (by simp [whole, h0, h1, h2, h3, h4])
            have D0 := hide (fun (w2 : World) (b2 : Below w.heap.size w w2) => sgs_whole _ M.sigs true w2 (Nat.le_trans HS.out.1 (by decide)) HS.out.2.2.2.2.2.1 (HM.out.sigs.step keeps_sg b2 b2.size) h0)
            have D1 := hide (fun (w2 : World) (b2 : Below w.heap.size w w2) => ints_index _ M.imports true w2 (Nat.le_trans HS.out.2.1 (by decide)) (HM.out.imports.step keeps_int b2 b2.size) h1)
            have D2 := hide (fun (w2 : World) (b2 : Below w.heap.size w w2) => fns_whole _ M.funcs true w2 (Nat.le_trans HS.out.2.2.1 (by decide)) HS.out.2.2.2.2.2.2.1 (HM.out.funcs.step keeps_fn b2 b2.size) h2)
            have D3 := hide (fun (w2 : World) (b2 : Below w.heap.size w w2) => gls_whole _ M.globals true w2 (Nat.le_trans HS.out.2.2.2.1 (by decide)) (HM.out.globals.step keeps_gl b2 b2.size) h3)
            have D4 := hide (fun (w2 : World) (b2 : Below w.heap.size w w2) => das_whole _ M.data true w2 (Nat.le_trans HS.out.2.2.2.2.1 (by decide)) (HM.out.data.step keeps_da b2 b2.size) h4)
            clear h0 h1 h2 h3 h4 HM HS
            go_enter Tryz.func46, Tryz.ntmps46
            go_wp2_with fail
            refine (D0.out _ hb0).mono ?_
            rintro r w1 ⟨rfl, b⟩
            have hb1 := below_next hb0 b
            have R1 := hide (R0.out.kept (b.mono (by first | exact Nat.le_refl _ | simp)))
            clear b R0 D0
            have e0 := R1.out.c 0 _ rfl
            have e1 := R1.out.c 1 _ rfl
            have e2 := R1.out.c 2 _ rfl
            have e3 := R1.out.c 3 _ rfl
            have e4 := R1.out.c 4 _ rfl
            have e5 := R1.out.c 5 _ rfl
            have e6 := R1.out.c 6 _ rfl
            go_wp2_with fail
            refine (D1.out _ hb1).mono ?_
            rintro r w2 ⟨rfl, b⟩
            have hb2 := below_next hb1 b
            have R2 := hide (R1.out.kept (b.mono (by first | exact Nat.le_refl _ | simp)))
            clear b e0 e1 e2 e3 e4 e5 e6 R1 D1
            have e0 := R2.out.c 0 _ rfl
            have e1 := R2.out.c 1 _ rfl
            have e2 := R2.out.c 2 _ rfl
            have e3 := R2.out.c 3 _ rfl
            have e4 := R2.out.c 4 _ rfl
            have e5 := R2.out.c 5 _ rfl
            have e6 := R2.out.c 6 _ rfl
            go_wp2_with fail
            refine (D2.out _ hb2).mono ?_
            rintro r w3 ⟨rfl, b⟩
            have hb3 := below_next hb2 b
            have R3 := hide (R2.out.kept (b.mono (by first | exact Nat.le_refl _ | simp)))
            clear b e0 e1 e2 e3 e4 e5 e6 R2 D2
            have e0 := R3.out.c 0 _ rfl
            have e1 := R3.out.c 1 _ rfl
            have e2 := R3.out.c 2 _ rfl
            have e3 := R3.out.c 3 _ rfl
            have e4 := R3.out.c 4 _ rfl
            have e5 := R3.out.c 5 _ rfl
            have e6 := R3.out.c 6 _ rfl
            go_wp2_with fail
            refine (D3.out _ hb3).mono ?_
            rintro r w4 ⟨rfl, b⟩
            have hb4 := below_next hb3 b
            have R4 := hide (R3.out.kept (b.mono (by first | exact Nat.le_refl _ | simp)))
            clear b e0 e1 e2 e3 e4 e5 e6 R3 D3
            have e0 := R4.out.c 0 _ rfl
            have e1 := R4.out.c 1 _ rfl
            have e2 := R4.out.c 2 _ rfl
            have e3 := R4.out.c 3 _ rfl
            have e4 := R4.out.c 4 _ rfl
            have e5 := R4.out.c 5 _ rfl
            have e6 := R4.out.c 6 _ rfl
            go_wp2_with fail
            refine (D4.out _ hb4).mono ?_
            rintro r w5 ⟨rfl, b⟩
            have hb5 := below_next hb4 b
            have R5 := hide (R4.out.kept (b.mono (by first | exact Nat.le_refl _ | simp)))
            clear b e0 e1 e2 e3 e4 e5 e6 R4 D4
            have e0 := R5.out.c 0 _ rfl
            have e1 := R5.out.c 1 _ rfl
            have e2 := R5.out.c 2 _ rfl
            have e3 := R5.out.c 3 _ rfl
            have e4 := R5.out.c 4 _ rfl
            have e5 := R5.out.c 5 _ rfl
            have e6 := R5.out.c 6 _ rfl
            go_wp2_with fail
            go_ret
            exact ⟨ret_bool (by exact H.out.symm), hb5⟩
          | false =>
            have H : Hid (whole M = false) := hide (by simp [whole, h0, h1, h2, h3, h4])
            have D0 := hide (fun (w2 : World) (b2 : Below w.heap.size w w2) => sgs_whole _ M.sigs true w2 (Nat.le_trans HS.out.1 (by decide)) HS.out.2.2.2.2.2.1 (HM.out.sigs.step keeps_sg b2 b2.size) h0)
            have D1 := hide (fun (w2 : World) (b2 : Below w.heap.size w w2) => ints_index _ M.imports true w2 (Nat.le_trans HS.out.2.1 (by decide)) (HM.out.imports.step keeps_int b2 b2.size) h1)
            have D2 := hide (fun (w2 : World) (b2 : Below w.heap.size w w2) => fns_whole _ M.funcs true w2 (Nat.le_trans HS.out.2.2.1 (by decide)) HS.out.2.2.2.2.2.2.1 (HM.out.funcs.step keeps_fn b2 b2.size) h2)
            have D3 := hide (fun (w2 : World) (b2 : Below w.heap.size w w2) => gls_whole _ M.globals true w2 (Nat.le_trans HS.out.2.2.2.1 (by decide)) (HM.out.globals.step keeps_gl b2 b2.size) h3)
            have D4 := hide (fun (w2 : World) (b2 : Below w.heap.size w w2) => das_whole _ M.data false w2 (Nat.le_trans HS.out.2.2.2.2.1 (by decide)) (HM.out.data.step keeps_da b2 b2.size) h4)
            clear h0 h1 h2 h3 h4 HM HS
            go_enter Tryz.func46, Tryz.ntmps46
            go_wp2_with fail
            refine (D0.out _ hb0).mono ?_
            rintro r w1 ⟨rfl, b⟩
            have hb1 := below_next hb0 b
            have R1 := hide (R0.out.kept (b.mono (by first | exact Nat.le_refl _ | simp)))
            clear b R0 D0
            have e0 := R1.out.c 0 _ rfl
            have e1 := R1.out.c 1 _ rfl
            have e2 := R1.out.c 2 _ rfl
            have e3 := R1.out.c 3 _ rfl
            have e4 := R1.out.c 4 _ rfl
            have e5 := R1.out.c 5 _ rfl
            have e6 := R1.out.c 6 _ rfl
            go_wp2_with fail
            refine (D1.out _ hb1).mono ?_
            rintro r w2 ⟨rfl, b⟩
            have hb2 := below_next hb1 b
            have R2 := hide (R1.out.kept (b.mono (by first | exact Nat.le_refl _ | simp)))
            clear b e0 e1 e2 e3 e4 e5 e6 R1 D1
            have e0 := R2.out.c 0 _ rfl
            have e1 := R2.out.c 1 _ rfl
            have e2 := R2.out.c 2 _ rfl
            have e3 := R2.out.c 3 _ rfl
            have e4 := R2.out.c 4 _ rfl
            have e5 := R2.out.c 5 _ rfl
            have e6 := R2.out.c 6 _ rfl
            go_wp2_with fail
            refine (D2.out _ hb2).mono ?_
            rintro r w3 ⟨rfl, b⟩
            have hb3 := below_next hb2 b
            have R3 := hide (R2.out.kept (b.mono (by first | exact Nat.le_refl _ | simp)))
            clear b e0 e1 e2 e3 e4 e5 e6 R2 D2
            have e0 := R3.out.c 0 _ rfl
            have e1 := R3.out.c 1 _ rfl
            have e2 := R3.out.c 2 _ rfl
            have e3 := R3.out.c 3 _ rfl
            have e4 := R3.out.c 4 _ rfl
            have e5 := R3.out.c 5 _ rfl
            have e6 := R3.out.c 6 _ rfl
            go_wp2_with fail
            refine (D3.out _ hb3).mono ?_
            rintro r w4 ⟨rfl, b⟩
            have hb4 := below_next hb3 b
            have R4 := hide (R3.out.kept (b.mono (by first | exact Nat.le_refl _ | simp)))
            clear b e0 e1 e2 e3 e4 e5 e6 R3 D3
            have e0 := R4.out.c 0 _ rfl
            have e1 := R4.out.c 1 _ rfl
            have e2 := R4.out.c 2 _ rfl
            have e3 := R4.out.c 3 _ rfl
            have e4 := R4.out.c 4 _ rfl
            have e5 := R4.out.c 5 _ rfl
            have e6 := R4.out.c 6 _ rfl
            go_wp2_with fail
            refine (D4.out _ hb4).mono ?_
            rintro r w5 ⟨rfl, b⟩
            have hb5 := below_next hb4 b
            have R5 := hide (R4.out.kept (b.mono (by first | exact Nat.le_refl _ | simp)))
            clear b e0 e1 e2 e3 e4 e5 e6 R4 D4
            have e0 := R5.out.c 0 _ rfl
            have e1 := R5.out.c 1 _ rfl
            have e2 := R5.out.c 2 _ rfl
            have e3 := R5.out.c 3 _ rfl
            have e4 := R5.out.c 4 _ rfl
            have e5 := R5.out.c 5 _ rfl
            have e6 := R5.out.c 6 _ rfl
            go_wp2_with fail
            go_ret
            exact ⟨ret_bool (by exact H.out.symm), hb5⟩
        | false =>
          have H : Hid (whole M = false) := hide (by simp [whole, h0, h1, h2, h3])
          have D0 := hide (fun (w2 : World) (b2 : Below w.heap.size w w2) => sgs_whole _ M.sigs true w2 (Nat.le_trans HS.out.1 (by decide)) HS.out.2.2.2.2.2.1 (HM.out.sigs.step keeps_sg b2 b2.size) h0)
          have D1 := hide (fun (w2 : World) (b2 : Below w.heap.size w w2) => ints_index _ M.imports true w2 (Nat.le_trans HS.out.2.1 (by decide)) (HM.out.imports.step keeps_int b2 b2.size) h1)
          have D2 := hide (fun (w2 : World) (b2 : Below w.heap.size w w2) => fns_whole _ M.funcs true w2 (Nat.le_trans HS.out.2.2.1 (by decide)) HS.out.2.2.2.2.2.2.1 (HM.out.funcs.step keeps_fn b2 b2.size) h2)
          have D3 := hide (fun (w2 : World) (b2 : Below w.heap.size w w2) => gls_whole _ M.globals false w2 (Nat.le_trans HS.out.2.2.2.1 (by decide)) (HM.out.globals.step keeps_gl b2 b2.size) h3)
          clear h0 h1 h2 h3 HM HS
          go_enter Tryz.func46, Tryz.ntmps46
          go_wp2_with fail
          refine (D0.out _ hb0).mono ?_
          rintro r w1 ⟨rfl, b⟩
          have hb1 := below_next hb0 b
          have R1 := hide (R0.out.kept (b.mono (by first | exact Nat.le_refl _ | simp)))
          clear b R0 D0
          have e0 := R1.out.c 0 _ rfl
          have e1 := R1.out.c 1 _ rfl
          have e2 := R1.out.c 2 _ rfl
          have e3 := R1.out.c 3 _ rfl
          have e4 := R1.out.c 4 _ rfl
          have e5 := R1.out.c 5 _ rfl
          have e6 := R1.out.c 6 _ rfl
          go_wp2_with fail
          refine (D1.out _ hb1).mono ?_
          rintro r w2 ⟨rfl, b⟩
          have hb2 := below_next hb1 b
          have R2 := hide (R1.out.kept (b.mono (by first | exact Nat.le_refl _ | simp)))
          clear b e0 e1 e2 e3 e4 e5 e6 R1 D1
          have e0 := R2.out.c 0 _ rfl
          have e1 := R2.out.c 1 _ rfl
          have e2 := R2.out.c 2 _ rfl
          have e3 := R2.out.c 3 _ rfl
          have e4 := R2.out.c 4 _ rfl
          have e5 := R2.out.c 5 _ rfl
          have e6 := R2.out.c 6 _ rfl
          go_wp2_with fail
          refine (D2.out _ hb2).mono ?_
          rintro r w3 ⟨rfl, b⟩
          have hb3 := below_next hb2 b
          have R3 := hide (R2.out.kept (b.mono (by first | exact Nat.le_refl _ | simp)))
          clear b e0 e1 e2 e3 e4 e5 e6 R2 D2
          have e0 := R3.out.c 0 _ rfl
          have e1 := R3.out.c 1 _ rfl
          have e2 := R3.out.c 2 _ rfl
          have e3 := R3.out.c 3 _ rfl
          have e4 := R3.out.c 4 _ rfl
          have e5 := R3.out.c 5 _ rfl
          have e6 := R3.out.c 6 _ rfl
          go_wp2_with fail
          refine (D3.out _ hb3).mono ?_
          rintro r w4 ⟨rfl, b⟩
          have hb4 := below_next hb3 b
          have R4 := hide (R3.out.kept (b.mono (by first | exact Nat.le_refl _ | simp)))
          clear b e0 e1 e2 e3 e4 e5 e6 R3 D3
          have e0 := R4.out.c 0 _ rfl
          have e1 := R4.out.c 1 _ rfl
          have e2 := R4.out.c 2 _ rfl
          have e3 := R4.out.c 3 _ rfl
          have e4 := R4.out.c 4 _ rfl
          have e5 := R4.out.c 5 _ rfl
          have e6 := R4.out.c 6 _ rfl
          go_wp2_with fail
          go_ret
          exact ⟨ret_bool (by exact H.out.symm), hb4⟩
      | false =>
        have H : Hid (whole M = false) := hide (by simp [whole, h0, h1, h2])
        have D0 := hide (fun (w2 : World) (b2 : Below w.heap.size w w2) => sgs_whole _ M.sigs true w2 (Nat.le_trans HS.out.1 (by decide)) HS.out.2.2.2.2.2.1 (HM.out.sigs.step keeps_sg b2 b2.size) h0)
        have D1 := hide (fun (w2 : World) (b2 : Below w.heap.size w w2) => ints_index _ M.imports true w2 (Nat.le_trans HS.out.2.1 (by decide)) (HM.out.imports.step keeps_int b2 b2.size) h1)
        have D2 := hide (fun (w2 : World) (b2 : Below w.heap.size w w2) => fns_whole _ M.funcs false w2 (Nat.le_trans HS.out.2.2.1 (by decide)) HS.out.2.2.2.2.2.2.1 (HM.out.funcs.step keeps_fn b2 b2.size) h2)
        clear h0 h1 h2 HM HS
        go_enter Tryz.func46, Tryz.ntmps46
        go_wp2_with fail
        refine (D0.out _ hb0).mono ?_
        rintro r w1 ⟨rfl, b⟩
        have hb1 := below_next hb0 b
        have R1 := hide (R0.out.kept (b.mono (by first | exact Nat.le_refl _ | simp)))
        clear b R0 D0
        have e0 := R1.out.c 0 _ rfl
        have e1 := R1.out.c 1 _ rfl
        have e2 := R1.out.c 2 _ rfl
        have e3 := R1.out.c 3 _ rfl
        have e4 := R1.out.c 4 _ rfl
        have e5 := R1.out.c 5 _ rfl
        have e6 := R1.out.c 6 _ rfl
        go_wp2_with fail
        refine (D1.out _ hb1).mono ?_
        rintro r w2 ⟨rfl, b⟩
        have hb2 := below_next hb1 b
        have R2 := hide (R1.out.kept (b.mono (by first | exact Nat.le_refl _ | simp)))
        clear b e0 e1 e2 e3 e4 e5 e6 R1 D1
        have e0 := R2.out.c 0 _ rfl
        have e1 := R2.out.c 1 _ rfl
        have e2 := R2.out.c 2 _ rfl
        have e3 := R2.out.c 3 _ rfl
        have e4 := R2.out.c 4 _ rfl
        have e5 := R2.out.c 5 _ rfl
        have e6 := R2.out.c 6 _ rfl
        go_wp2_with fail
        refine (D2.out _ hb2).mono ?_
        rintro r w3 ⟨rfl, b⟩
        have hb3 := below_next hb2 b
        have R3 := hide (R2.out.kept (b.mono (by first | exact Nat.le_refl _ | simp)))
        clear b e0 e1 e2 e3 e4 e5 e6 R2 D2
        have e0 := R3.out.c 0 _ rfl
        have e1 := R3.out.c 1 _ rfl
        have e2 := R3.out.c 2 _ rfl
        have e3 := R3.out.c 3 _ rfl
        have e4 := R3.out.c 4 _ rfl
        have e5 := R3.out.c 5 _ rfl
        have e6 := R3.out.c 6 _ rfl
        go_wp2_with fail
        go_ret
        exact ⟨ret_bool (by exact H.out.symm), hb3⟩
    | false =>
      have H : Hid (whole M = false) := hide (by simp [whole, h0, h1])
      have D0 := hide (fun (w2 : World) (b2 : Below w.heap.size w w2) => sgs_whole _ M.sigs true w2 (Nat.le_trans HS.out.1 (by decide)) HS.out.2.2.2.2.2.1 (HM.out.sigs.step keeps_sg b2 b2.size) h0)
      have D1 := hide (fun (w2 : World) (b2 : Below w.heap.size w w2) => ints_index _ M.imports false w2 (Nat.le_trans HS.out.2.1 (by decide)) (HM.out.imports.step keeps_int b2 b2.size) h1)
      clear h0 h1 HM HS
      go_enter Tryz.func46, Tryz.ntmps46
      go_wp2_with fail
      refine (D0.out _ hb0).mono ?_
      rintro r w1 ⟨rfl, b⟩
      have hb1 := below_next hb0 b
      have R1 := hide (R0.out.kept (b.mono (by first | exact Nat.le_refl _ | simp)))
      clear b R0 D0
      have e0 := R1.out.c 0 _ rfl
      have e1 := R1.out.c 1 _ rfl
      have e2 := R1.out.c 2 _ rfl
      have e3 := R1.out.c 3 _ rfl
      have e4 := R1.out.c 4 _ rfl
      have e5 := R1.out.c 5 _ rfl
      have e6 := R1.out.c 6 _ rfl
      go_wp2_with fail
      refine (D1.out _ hb1).mono ?_
      rintro r w2 ⟨rfl, b⟩
      have hb2 := below_next hb1 b
      have R2 := hide (R1.out.kept (b.mono (by first | exact Nat.le_refl _ | simp)))
      clear b e0 e1 e2 e3 e4 e5 e6 R1 D1
      have e0 := R2.out.c 0 _ rfl
      have e1 := R2.out.c 1 _ rfl
      have e2 := R2.out.c 2 _ rfl
      have e3 := R2.out.c 3 _ rfl
      have e4 := R2.out.c 4 _ rfl
      have e5 := R2.out.c 5 _ rfl
      have e6 := R2.out.c 6 _ rfl
      go_wp2_with fail
      go_ret
      exact ⟨ret_bool (by exact H.out.symm), hb2⟩
  | false =>
    have H : Hid (whole M = false) := hide (by simp [whole, h0])
    have D0 := hide (fun (w2 : World) (b2 : Below w.heap.size w w2) => sgs_whole _ M.sigs false w2 (Nat.le_trans HS.out.1 (by decide)) HS.out.2.2.2.2.2.1 (HM.out.sigs.step keeps_sg b2 b2.size) h0)
    clear h0 HM HS
    go_enter Tryz.func46, Tryz.ntmps46
    go_wp2_with fail
    refine (D0.out _ hb0).mono ?_
    rintro r w1 ⟨rfl, b⟩
    have hb1 := below_next hb0 b
    have R1 := hide (R0.out.kept (b.mono (by first | exact Nat.le_refl _ | simp)))
    clear b R0 D0
    have e0 := R1.out.c 0 _ rfl
    have e1 := R1.out.c 1 _ rfl
    have e2 := R1.out.c 2 _ rfl
    have e3 := R1.out.c 3 _ rfl
    have e4 := R1.out.c 4 _ rfl
    have e5 := R1.out.c 5 _ rfl
    have e6 := R1.out.c 6 _ rfl
    go_wp2_with fail
    go_ret
    exact ⟨ret_bool (by exact H.out.symm), hb1⟩
/-- The error's code. -/
def fitE (M : Mo) : Int := if small M = true then (if whole M = true then 0 else 4) else 1
theorem misfit_no (V : MoV) (M : Mo) (w : World) (h : IsMo w.heap.size w V M) (hf : fitE M ≠ 0) :
    Calls Tryz.prog 37 #[moV V M] w fun e w' => ∃ p, e = .returned (flt p) ∧ FaultAt w' p (fitE M) 0 ∧ w.heap.size ≤ p ∧ Below w.heap.size w w' := by
  have HM := hide h
  obtain ⟨a0, c0, a1, c1, a2, c2, a5, c5, a6, c6, rfl⟩ := h.forms
  have hb0 := bel_one w (.cells #[.slice a0 M.sigs.length c0, .slice a1 M.imports.length c1, .slice a2 M.funcs.length c2, .int .i64 M.m0, .int .i64 M.m1, .slice a5 M.globals.length c5, .slice a6 M.data.length c6] 29)
  have R0 := hide (Row.made w #[.slice a0 M.sigs.length c0, .slice a1 M.imports.length c1, .slice a2 M.funcs.length c2, .int .i64 M.m0, .int .i64 M.m1, .slice a5 M.globals.length c5, .slice a6 M.data.length c6] 29)
  have S := hide (small_any _ M _ (HM.out.step hb0 hb0.size))
  cases hs : small M with
  | false =>
    have H : Hid (fitE M = 1) := hide (by simp [fitE, hs])
    rw [hs] at S
    clear h hs hf HM
    unfold moV at *
    dsimp only at *
    go_enter Tryz.func37, Tryz.ntmps37
    go_wp2_with fail
    refine S.out.mono ?_
    rintro r w1 ⟨rfl, b1⟩
    have hb1 := below_next hb0 b1
    have q1 := hb1.size
    go_wp2_with fail
    refine (fault_any 1 0 _).mono ?_
    rintro r w2 ⟨rfl, f2, b2⟩
    go_wp2_with fail
    go_ret
    exact ⟨_, rfl, by rw [H.out]; exact f2, q1, below_next hb1 b2⟩
  | true =>
    have HW := hide (fun w2 (b2 : Below w.heap.size w w2) => whole_any _ M w2 hs (HM.out.step b2 b2.size))
    cases hw : whole M with
    | false =>
      have H : Hid (fitE M = 4) := hide (by simp [fitE, hs, hw])
      rw [hs] at S
      rw [hw] at HW
      clear h hs hf HM hw
      unfold moV at *
      dsimp only at *
      go_enter Tryz.func37, Tryz.ntmps37
      go_wp2_with fail
      refine S.out.mono ?_
      rintro r w1 ⟨rfl, b1⟩
      have hb1 := below_next hb0 b1
      have R1 := hide (R0.out.kept b1)
      have e0 := R1.out.c 0 _ rfl
      have e1 := R1.out.c 1 _ rfl
      have e2 := R1.out.c 2 _ rfl
      have e3 := R1.out.c 3 _ rfl
      have e4 := R1.out.c 4 _ rfl
      have e5 := R1.out.c 5 _ rfl
      have e6 := R1.out.c 6 _ rfl
      clear b1 S R0
      go_wp2_with fail
      refine (HW.out _ hb1).mono ?_
      rintro r w2 ⟨rfl, b2⟩
      have hb2 := below_next hb1 b2
      have q2 := hb2.size
      go_wp2_with fail
      refine (fault_any 4 0 _).mono ?_
      rintro r w3 ⟨rfl, f3, b3⟩
      go_wp2_with fail
      go_ret
      exact ⟨_, rfl, by rw [H.out]; exact f3, q2, below_next hb2 b3⟩
    | true => exact absurd (by simp [fitE, hs, hw]) hf
theorem misfit_ok (V : MoV) (M : Mo) (w : World) (h : IsMo w.heap.size w V M) (hf : fitE M = 0) :
    Calls Tryz.prog 37 #[moV V M] w fun e w' => e = .returned .nilIface ∧ Below w.heap.size w w' := by
  have HM := hide h
  obtain ⟨a0, c0, a1, c1, a2, c2, a5, c5, a6, c6, rfl⟩ := h.forms
  have hb0 := bel_one w (.cells #[.slice a0 M.sigs.length c0, .slice a1 M.imports.length c1, .slice a2 M.funcs.length c2, .int .i64 M.m0, .int .i64 M.m1, .slice a5 M.globals.length c5, .slice a6 M.data.length c6] 29)
  have R0 := hide (Row.made w #[.slice a0 M.sigs.length c0, .slice a1 M.imports.length c1, .slice a2 M.funcs.length c2, .int .i64 M.m0, .int .i64 M.m1, .slice a5 M.globals.length c5, .slice a6 M.data.length c6] 29)
  have S := hide (small_any _ M _ (HM.out.step hb0 hb0.size))
  have hs : small M = true := by
    cases hs : small M with
    | true => rfl
    | false => simp [fitE, hs] at hf
  have hw : whole M = true := by
    cases hw : whole M with
    | true => rfl
    | false => simp [fitE, hs, hw] at hf
  have HW := hide (fun w2 (b2 : Below w.heap.size w w2) => whole_any _ M w2 hs (HM.out.step b2 b2.size))
  rw [hs] at S
  rw [hw] at HW
  clear h hs hf HM hw
  unfold moV at *
  dsimp only at *
  go_enter Tryz.func37, Tryz.ntmps37
  go_wp2_with fail
  refine S.out.mono ?_
  rintro r w1 ⟨rfl, b1⟩
  have hb1 := below_next hb0 b1
  have R1 := hide (R0.out.kept b1)
  have e0 := R1.out.c 0 _ rfl
  have e1 := R1.out.c 1 _ rfl
  have e2 := R1.out.c 2 _ rfl
  have e3 := R1.out.c 3 _ rfl
  have e4 := R1.out.c 4 _ rfl
  have e5 := R1.out.c 5 _ rfl
  have e6 := R1.out.c 6 _ rfl
  clear b1 S R0
  go_wp2_with fail
  refine (HW.out _ hb1).mono ?_
  rintro r w2 ⟨rfl, b2⟩
  have hb2 := below_next hb1 b2
  go_wp2_with fail
  go_ret
  exact ⟨rfl, hb2⟩
theorem fits_any (V : MoV) (M : Mo) (w : World) (hL : Laid w) (h : IsMo w.heap.size w V M) :
    Calls Tryz.prog 25 #[moV V M] w fun e w' => e = .returned (.int .i64 (fitE M)) ∧ Below w.heap.size w w' := by
  have HM := hide h
  obtain ⟨a0, c0, a1, c1, a2, c2, a5, c5, a6, c6, rfl⟩ := h.forms
  have hb0 := bel_one w (.cells #[.slice a0 M.sigs.length c0, .slice a1 M.imports.length c1, .slice a2 M.funcs.length c2, .int .i64 M.m0, .int .i64 M.m1, .slice a5 M.globals.length c5, .slice a6 M.data.length c6] 29)
  have L0 := hide (hL.kept hb0)
  by_cases hf : fitE M = 0
  · have S := hide (misfit_ok _ M _ (HM.out.step hb0 hb0.size) hf)
    have H := hide hf
    clear h hf HM hL
    unfold moV at *
    dsimp only at *
    go_enter Tryz.func25, Tryz.ntmps25
    go_wp2_with fail
    refine S.out.mono ?_
    rintro r w1 ⟨rfl, b1⟩
    have hb1 := below_next hb0 b1
    go_wp2_with fail
    refine (kind_nil _).mono ?_
    rintro r w2 ⟨rfl, b2⟩
    go_wp2_with fail
    go_ret
    exact ⟨ret_int H.out.symm, below_next hb1 b2⟩
  · have S := hide (misfit_no _ M _ (HM.out.step hb0 hb0.size) hf)
    clear h hf HM hL
    unfold moV at *
    dsimp only at *
    go_enter Tryz.func25, Tryz.ntmps25
    go_wp2_with fail
    refine S.out.mono ?_
    rintro r w1 ⟨p, rfl, f1, _, b1⟩
    have hb1 := below_next hb0 b1
    have L1 := L0.out.kept b1
    have KF := hide (kind_fault p _ _ _ L1 f1)
    clear f1 L1
    unfold flt at *
    go_wp2_with fail
    refine KF.out.mono ?_
    rintro r w2 ⟨rfl, b2⟩
    go_wp2_with fail
    go_ret
    exact ⟨rfl, below_next hb1 b2⟩
end Go.Proofs.YtamofhkmhjckaabGreatDoor

/-
  The program's many, of numbers: as many things as the number ahead of them says, as a function that is asked for each takes it; only the reader's own block is changed, and new memory made.
-/
import Derived.Test.YtcbfpikggphokaaGreatDoorReader2
namespace Go.Proofs.YtcbfpikggphokaaGreatDoor
open Go.RowKit

theorem But.grown {X : Nat → Prop} {w w' : World} {q : Nat} (h : But X w w') (hX : ∀ i, X i → i = q) : w.grownBy w' (some q) :=
  ⟨h.os, h.tape, h.output, h.size, fun k hk hne => h.block k hk fun hx => hne (by rw [hX k hx])⟩
/-- New memory that holds other things than those of type e. -/
def NewT (e : TypeId) (w w' : World) : Nat → Prop := fun b => w.heap.size ≤ b ∧ ∃ cs t fr, w'.heap[b]? = some (.cells cs t fr) ∧ t ≠ e
theorem NewT.new {e : TypeId} {w w' : World} {b : Nat} (h : NewT e w w' b) : New w w' b := by
  obtain ⟨h1, cs, t, fr, h2, _⟩ := h
  exact ⟨h1, (Array.getElem?_eq_some_iff.1 h2).1⟩
/-- New memory of numbers. -/
def New3 (w w' : World) : Nat → Prop := fun b => w.heap.size ≤ b ∧ ∃ cs fr, w'.heap[b]? = some (.cells cs 3 fr)
theorem New3.newT {e : TypeId} {w w' : World} {b : Nat} (h : New3 w w' b) (he : 3 ≠ e) : NewT e w w' b := by
  obtain ⟨h1, cs, fr, h2⟩ := h
  exact ⟨h1, cs, 3, fr, h2, he⟩
/-- What is told of numbers that lie in a row of the call's own. -/
theorem own_ints {w w' : World} {v : Value} {xs : List Int} (h : w'.ownsRow w.heap.size 3 1 v xs.length (xs.map (Value.int .i64))) (hi : ∀ x ∈ xs, I64 x) : Sl 1 EInt (New3 w w') w' v xs := by
  obtain ⟨_, h2⟩ := id h
  rcases h2 with ⟨rfl, h0⟩ | ⟨g, cap, cur, rfl, hb, hc, _⟩
  · have e : xs = [] := List.eq_nil_of_length_eq_zero h0
    subst e
    exact Sl.isNil _ _ _ _
  · refine ⟨_, _, rfl, fun j hj => ⟨g, 0, rfl, ⟨hb, cur, _, hc⟩, hi _ (List.getElem_mem hj), ?_⟩⟩
    have := h.cellAt j (by omega)
    rw [Nat.zero_add, Nat.mul_one, this]
    simp [List.getElem?_eq_getElem hj]
theorem own_slice {w : World} {B : Nat} {v : Value} {n : Nat} {xs : List Value} {e : TypeId} {sz : Nat} (h : w.ownsRow B e sz v n xs) : ∃ a c, v = .slice a n c := by
  obtain ⟨_, h2⟩ := h
  rcases h2 with ⟨rfl, rfl⟩ | ⟨g, cap, cur, rfl, _⟩
  · exact ⟨_, _, rfl⟩
  · exact ⟨_, _, rfl⟩
theorem rep_step {α : Type} {P : List UInt8 → Option (α × List UInt8)} {l : List UInt8} {m : Nat} {xs : List α} :
    (((some l).bind (repP P (m + 1))).map fun y => (xs ++ y.1, y.2)) = (P l).bind fun x => (repP P m x.2).map fun y => ((xs ++ [x.1]) ++ y.1, y.2) := by
  simp only [Option.bind_some, repP]
  cases P l with
  | none => rfl
  | some x =>
    simp only [Option.bind_some]
    cases repP P m x.2 with
    | none => rfl
    | some y => simp
theorem many_bind {α : Type} (P : List UInt8 → Option (α × List UInt8)) (s : Option (List UInt8)) : s.bind (manyP P) = (s.bind numP).bind fun x => repP P x.1.toNat x.2 := by
  cases s <;> rfl
theorem RS.grow {w w' : World} {q : Nat} {s : Option (List UInt8)} {row : Option Nat} {e : TypeId} (h : RS w q s) (hg : w.grownBy w' row) (he : e ≠ 79) (hr : ∀ j, row = some j → j ≠ q ∧ ∃ cs, w.heap[j]? = some (.cells cs e (0, 0))) : RS w' q s := by
  have hq := h.lt
  have kq : w'.heap[q]? = w.heap[q]? := hg.block q hq (fun e => (hr q e.symm).1 rfl)
  cases s with
  | some l =>
    refine ⟨h.1, ?_⟩
    have := h.2
    unfold Row at *
    rw [kq]; exact this
  | none =>
    obtain ⟨p, hp, row', f⟩ := h
    refine ⟨p, hp, ?_, ?_⟩
    · unfold Row at *
      rw [kq]; exact row'
    · have hlt := f.lt
      unfold FaultAt at *
      rw [hg.block p hlt (fun e => by
        obtain ⟨_, cs, hc⟩ := hr p e.symm
        rw [hc] at f
        simp at f
        exact he f.2)]
      exact f
theorem own_row {w : World} {B : Nat} {v : Value} {n : Nat} {xs : List Value} {e : TypeId} {sz : Nat} (h : w.ownsRow B e sz v n xs) : ∀ j, v.ownBlock = some j → B ≤ j ∧ ∃ cs, w.heap[j]? = some (.cells cs e (0, 0)) := by
  intro j hj
  have hl := h.lt j hj
  obtain ⟨_, h2⟩ := h
  rcases h2 with ⟨rfl, _⟩ | ⟨g, cap, cur, rfl, _, hc, _⟩
  · cases hj
  · cases hj; exact ⟨hl.1, cur, hc⟩
theorem But.grow {X : Nat → Prop} {a w w' : World} {row : Option Nat} (h : But X a w) (hg : w.grownBy w' row) (hr : ∀ j, row = some j → a.heap.size ≤ j) : But X a w' :=
  ⟨hg.os.trans h.os, hg.tape.trans h.tape, hg.output.trans h.output, Nat.le_trans h.size hg.size, fun i hi hx => (hg.block i (Nat.lt_of_lt_of_le hi h.size) (fun e => by have := hr i e.symm; omega)).trans (h.block i hi hx)⟩
theorem many_key {α : Type} {P : List UInt8 → Option (α × List UInt8)} {s : Option (List UInt8)} {n : Nat} (h : ∀ x r, s.bind numP = some (x, r) → (n : Int) = x) : s.bind (manyP P) = (rest s numP).bind (repP P n) := by
  rw [many_bind]
  unfold rest
  cases ho : s.bind numP with
  | none => rfl
  | some y =>
    have e := h y.1 y.2 ho
    simp only [Option.bind_some, Option.map_some, ← e, Int.toNat_natCast]
theorem Tryz.parts3 : (Tryz.prog.info? 3).map (fun i => (i.zero, i.size, i.bytes)) = some (some (.int .i64 0), 1, 8) := by kernel_rfl
theorem at_int (w : World) (x : Int) : ∀ j u, [Value.int .i64 x][j]? = some u → (w.alloc (.cells #[.int .i64 x] 3)).cell? ((⟨w.heap.size, 0, none⟩ : Addr).add j) = some u := by
  intro j u hj
  match j, hj with
  | 0, hj => simp at hj; subst hj; simp [Addr.add]
theorem cell_int (x : Int) : ∀ u, u ∈ [Value.int .i64 x] → u.oneCell' = true := by
  intro u hu
  simp at hu
  subst hu
  rfl
set_option maxRecDepth 100000 in
set_option maxHeartbeats 3200000 in
theorem many_ints (g : FuncId) (q : Nat) (lo hi : Int) (P : List UInt8 → Option (Int × List UInt8)) (hg : ∀ args w, (callFunc g args).run Tryz.prog w = .ok (.enter g args) w) (hR : RI g q lo hi P) (hb : -9223372036854775808 ≤ lo ∧ hi ≤ 9223372036854775807)
    (s : Option (List UInt8)) (w : World) (h : RS w q s) :
    Calls Tryz.prog 143 #[ptr q, .func (.func g) #[] #[]] w fun e w' => ∃ v xs, e = .returned v ∧ Sl 1 EInt (New3 w w') w' v xs ∧ RS w' q (rest s (manyP P)) ∧ But (One q) w w' ∧ ∀ x r, s.bind (manyP P) = some (x, r) → xs = x := by
  obtain ⟨i0, hi0, hprod⟩ := Option.map_eq_some_iff.1 Tryz.parts3
  simp only [Prod.mk.injEq] at hprod
  obtain ⟨hz0, hz1, hz2⟩ := hprod
  have HQ := hide h.lt
  have NU := hide (number_any q s w h)
  have HR := hide hR
  clear h hR
  go_enter Tryz.func143, Tryz.ntmps143
  go_wp2_with fail
  refine NU.out.mono ?_
  rintro e w1 ⟨n0, rfl, hn0, hn1, hx, hs, b1⟩
  obtain ⟨n, rfl⟩ := Int.eq_ofNat_of_zero_le hn0
  have HX := hide hx
  have HS := hide hs
  clear hx hs NU
  go_wp2_with fail
  go_loopw [5, 8] (fun ov iv wr => ∃ (k : Nat) (xs : List Int) (sk : Option (List UInt8)), k ≤ n ∧ iv = .int .i64 k ∧ xs.length = k ∧ Hid (∀ x ∈ xs, I64 x) ∧ Hid (wr.ownsRow w.heap.size 3 1 ov xs.length (xs.map (Value.int .i64))) ∧ Hid (RS wr q sk) ∧ But (One q) w wr ∧ Hid ((rest s numP).bind (repP P n) = (sk.bind (repP P (n - k))).map fun y => (xs ++ y.1, y.2))) (fun _ iv _ => n - (intOf iv).toNat)
  case atStart =>
    refine ⟨0, [], rest s numP, by omega, rfl, rfl, hide (by simp), hide ⟨rfl, Or.inl ⟨rfl, rfl⟩⟩, HS, b1, hide ?_⟩
    cases h : (rest s numP).bind (repP P n) with
    | none => simp
    | some y => simp
  case round =>
    obtain ⟨k, xs, sk, hk, rfl, rfl, hI, hown, hst, hbt, hE⟩ := hrel
    have hbs := hbt.size
    have hq := HQ.out
    have KEY := hide (many_key (P := P) HX.out)
    by_cases hlt : xs.length < n
    · cases sk with
      | none =>
        obtain ⟨p, hp, row, hf⟩ := id hst.out
        have c1 := row.c 1 _ rfl
        have RN : Hid (s.bind (manyP P) = none) := hide (by rw [KEY.out, hE.out]; rfl)
        clear row hf hE KEY HX
        unfold flt at c1
        go_wp2_with fail
        go_ret
        refine ⟨u5, xs, rfl, own_ints hown.out hI.out, ?_, hbt, ?_⟩
        · rw [rest_none RN.out]; exact hst.out
        · intro x r e; rw [RN.out] at e; cases e
      | some l =>
        have c1 := hst.out.2.c 1 _ rfl
        have CF := hide (HR.out (some l) wr hst.out)
        clear HX
        go_wp2_with fail
        refine CF.out.mono ?_
        rintro e w2 ⟨i, rfl, hl1, hl2, hxi, hs2, b2⟩
        have ow := own_row hown.out
        have hown2 := hown.out.kept (b2.grown (q := q) (fun _ h => h)) (by
          cases hb' : u5.ownBlock with
          | none => exact Or.inl rfl
          | some j => exact Or.inr (fun e => by cases e; have := (ow q hb').1; omega))
        have HX2 := hide hxi
        have HS2 := hide hs2
        have B2 := hide (hbt.trans b2)
        have hsz := B2.out.size
        clear hxi hs2 b2 CF hown c1 ow
        have hown := hown2
        go_wp2_with (at_builtin; refine wpList_append_own _ rfl (.tmp 15) (.tmp 19) 23 rfl w.heap.size 3 i0 (.int .i64 0) 1 8 Tryz.underlying23 hi0 hz0 hz1 hz2 rfl (by decide) _ _ _ rfl (hown.alloc _) ⟨w2.heap.size, 0, none⟩ 1 1 [.int .i64 i] rfl rfl (at_int _ _) (cell_int _) (by unfold maxLen; omega) (by omega) (by simp; omega) ?_)
        intro v' w3 hown' hgrow _
        have ow := own_row (hown.alloc (.cells #[.int .i64 i] 3))
        have hs3 := hide ((HS2.out.kept (bel_one w2 (.cells #[.int .i64 i] 3))).grow hgrow (e := 3) (by decide) (fun j hj => ⟨by have := (ow j hj).1; omega, (ow j hj).2⟩))
        have b3 := (B2.out.trans (But.of (bel_one w2 (.cells #[.int .i64 i] 3)))).grow hgrow (fun j hj => (ow j hj).1)
        have hI2 : Hid (∀ x ∈ xs ++ [i], I64 x) := hide (by
          intro x hx
          rcases List.mem_append.1 hx with h | h
          · exact hI.out x h
          · simp at h; subst h; unfold I64; omega)
        have hown4 : Hid (w3.ownsRow w.heap.size 3 1 v' (xs ++ [i]).length ((xs ++ [i]).map (Value.int .i64))) := hide (by
          rw [List.map_append, List.length_append]; exact hown')
        have hE2 : Hid ((rest s numP).bind (repP P n) = ((rest (some l) P).bind (repP P (n - (xs.length + 1)))).map fun y => ((xs ++ [i]) ++ y.1, y.2)) := hide (by
          rw [hE.out, show n - xs.length = (n - (xs.length + 1)) + 1 by omega, rep_step]
          unfold rest
          simp only [Option.bind_some]
          cases hP : P l with
          | none => rfl
          | some y =>
            have ei := HX2.out y.1 y.2 (by simpa using hP)
            simp only [Option.bind_some, Option.map_some, ← ei])
        clear hown' hgrow hown hE hst ow B2 HS2 HX2 hI KEY
        go_wp2
        go_roundw
        case rel => exact ⟨xs.length + 1, xs ++ [i], rest (some l) P, by omega, by go_num, by simp, hI2, hown4, hs3, b3, hE2⟩
        case measure => simp [intOf]; omega
    · have e0 : xs.length = n := by omega
      have RN : Hid (s.bind (manyP P) = sk.map fun l => (xs, l)) := hide (by
        rw [KEY.out, hE.out, e0, Nat.sub_self]
        cases sk <;> simp [repP])
      clear hE KEY HX
      go_wp2_with fail
      go_ret
      refine ⟨u5, xs, rfl, own_ints hown.out hI.out, ?_, hbt, ?_⟩
      · have er : rest s (manyP P) = sk := by unfold rest; rw [RN.out]; cases sk <;> rfl
        rw [er]; exact hst.out
      · intro x r e
        rw [RN.out] at e
        cases sk with
        | none => cases e
        | some l => cases e; rfl
theorem many_int (g : FuncId) (q : Nat) (lo hi : Int) (P : List UInt8 → Option (Int × List UInt8)) (hg : ∀ args w, (callFunc g args).run Tryz.prog w = .ok (.enter g args) w) (hR : RI g q lo hi P) (hb : -9223372036854775808 ≤ lo ∧ hi ≤ 9223372036854775807)
    (s : Option (List UInt8)) (w : World) (h : RS w q s) :
    Calls Tryz.prog 143 #[ptr q, .func (.func g) #[] #[]] w fun e w' => ∃ v, e = .returned v ∧ (∃ a n c, v = .slice a n c) ∧ RS w' q (rest s (manyP P)) ∧ But (One q) w w' ∧ ∀ x r, s.bind (manyP P) = some (x, r) → Sl 1 EInt (New3 w w') w' v x := by
  refine (many_ints g q lo hi P hg hR hb s w h).mono ?_
  rintro e w' ⟨v, xs, rfl, hS, h1, h2, h3⟩
  obtain ⟨a, c, hv⟩ := IsMo_forms_aux hS
  exact ⟨v, rfl, ⟨a, _, c, hv⟩, h1, h2, fun x r e => by have := h3 x r e; subst this; exact hS⟩
end Go.Proofs.YtcbfpikggphokaaGreatDoor

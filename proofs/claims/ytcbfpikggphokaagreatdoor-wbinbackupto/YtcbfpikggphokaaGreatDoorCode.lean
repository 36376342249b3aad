/-
  The program's reader, on: a function of which only its code is told, as the parser tells.
-/
import Derived.Test.YtcbfpikggphokaaGreatDoorInstr
namespace Go.Proofs.YtcbfpikggphokaaGreatDoor
open Go.RowKit

theorem tkI_less {l r : List UInt8} {x : Int × Int × Int} (h : tkI l = some (x, r)) : r.length < l.length := by
  obtain ⟨op, n, m⟩ := x
  have := (back_2 h).2.1
  unfold iby at this
  rw [← this]
  simp
  omega
theorem insP_more : ∀ k (l : List UInt8) (n m : Nat), l.length ≤ k → l.length ≤ n → l.length ≤ m → insP n l = insP m l := by
  intro k
  induction k with
  | zero =>
    intro l n m h _ _
    have e : l = [] := List.eq_nil_of_length_eq_zero (by omega)
    subst e
    cases n <;> cases m <;> rfl
  | succ k ih =>
    intro l n m h h1 h2
    cases l with
    | nil => cases n <;> cases m <;> rfl
    | cons c t =>
      simp only [List.length_cons] at h h1 h2
      obtain ⟨n, rfl⟩ : ∃ n', n = n' + 1 := ⟨n - 1, by omega⟩
      obtain ⟨m, rfl⟩ : ∃ m', m = m' + 1 := ⟨m - 1, by omega⟩
      simp only [insP]
      cases ht : tkI (c :: t) with
      | none => rfl
      | some x =>
        have := tkI_less ht
        simp only [List.length_cons] at this
        simp only [Option.bind_some]
        rw [ih x.2 n m (by omega) (by omega) (by omega)]
def insL (l : List UInt8) : Option (List In) := insP l.length l
def inOf (x : Int × Int × Int) : In := ⟨x.1, x.2.1, x.2.2⟩
theorem insL_nil : insL [] = some [] := rfl
theorem insL_cons (c : UInt8) (l : List UInt8) : insL (c :: l) = (tkI (c :: l)).bind fun x => (insL x.2).map fun y => inOf x.1 :: y := by
  unfold insL
  simp only [List.length_cons, insP]
  cases h : tkI (c :: l) with
  | none => rfl
  | some x =>
    have := tkI_less h
    simp only [List.length_cons] at this
    simp only [Option.bind_some]
    rw [insP_more l.length x.2 l.length x.2.length (by omega) (by omega) (by omega)]
    rfl
/-- Cells of instructions, three each. -/
def Cin (cs : List Value) (x : In) : Prop := (I64 x.op ∧ I64 x.n ∧ I64 x.m) ∧ cs.getD 0 .nilFunc = .int .i64 x.op ∧ cs.getD 1 .nilFunc = .int .i64 x.n ∧ cs.getD 2 .nilFunc = .int .i64 x.m
def EC (cs : List Value) (xs : List In) : Prop := ∀ j (h : j < xs.length), Cin ((cs.drop (j * 3)).take 3) xs[j]
theorem EC.step {cs cs' : List Value} {xs : List In} {x : In} (h : EC cs xs) (hl : cs.length = xs.length * 3) (hl' : cs'.length = 3) (hc : Cin cs' x) : EC (cs ++ cs') (xs ++ [x]) := by
  intro j hj
  by_cases hjx : j < xs.length
  · rw [List.drop_append_of_le_length (by omega), List.take_append_of_le_length (by rw [List.length_drop]; omega), List.getElem_append_left hjx]
    exact h j hjx
  · have ej : j = xs.length := by simp at hj; omega
    subst ej
    have e2 : ((cs ++ cs').drop (xs.length * 3)).take 3 = cs' := by
      rw [← hl, List.drop_left, ← hl', List.take_length]
    rw [e2, List.getElem_append_right (Nat.le_refl _)]
    simpa using hc
theorem EC.sl {cs : List Value} {xs : List In} {v : Value} {w W : World} (h : EC cs xs) (B : Nat) (hB : w.heap.size ≤ B) (hown : W.ownsRow B 52 3 v xs.length cs) : Sl 3 EIn (NewT 50 w W) W v xs := by
  have hlen := hown.1
  obtain ⟨_, h2⟩ := id hown
  rcases h2 with ⟨rfl, h0⟩ | ⟨g, cap, cur, rfl, hb, hc, _⟩
  · have e0 : xs = [] := List.eq_nil_of_length_eq_zero h0
    subst e0
    exact Sl.isNil _ _ _ _
  · refine ⟨_, _, rfl, fun j hj => ⟨g, 0, rfl, ⟨by omega, cur, 52, _, hc, by decide⟩, ?_⟩⟩
    have k : ∀ t, t < 3 → W.cell? ⟨g, 0 + j * 3 + t, none⟩ = ((cs.drop (j * 3)).take 3)[t]? := fun t ht => by
      rw [Nat.zero_add, hown.cellAt (j * 3 + t) (by omega), List.getElem?_take, if_pos ht, List.getElem?_drop]
    have hl3 : ((cs.drop (j * 3)).take 3).length = 3 := by rw [List.length_take, List.length_drop]; omega
    have hx := h j hj
    generalize (cs.drop (j * 3)).take 3 = c3 at k hl3 hx
    obtain ⟨y0, y1, y2, rfl⟩ : ∃ y0 y1 y2, c3 = [y0, y1, y2] := by
      match c3, hl3 with
      | [y0, y1, y2], _ => exact ⟨y0, y1, y2, rfl⟩
    obtain ⟨hi, e0, e1, e2⟩ := hx
    simp at e0 e1 e2
    subst e0 e1 e2
    exact ⟨hi, k 0 (by decide), k 1 (by decide), k 2 (by decide)⟩
/-- What the loop over a body knows. -/
def CI (M : Option (List In)) (k : Nat) (cs : List Value) (sk : Option (List UInt8)) : Prop :=
  k + (sk.getD []).length ≤ 4000 ∧ ((sk = none ∧ M = none) ∨ ∃ l xs, sk = some l ∧ xs.length = k ∧ M = (insL l).map (fun y => xs ++ y) ∧ EC cs xs)
theorem CI.start (l : List UInt8) (hl : l.length ≤ 4000) : CI (insL l) 0 [] (some l) := by
  refine ⟨by simpa using hl, Or.inr ⟨l, [], rfl, rfl, ?_, fun j h => absurd h (by simp)⟩⟩
  cases insL l <;> simp
theorem CI.step {M : Option (List In)} {k : Nat} {cs : List Value} {c : UInt8} {l : List UInt8} {op n m : Int} (h : CI M k cs (some (c :: l))) (hlen : cs.length = k * 3) (hI : I64 op ∧ I64 n ∧ I64 m) (hx : ∀ x r, (some (c :: l)).bind tkI = some (x, r) → x = (op, n, m)) :
    CI M (k + 1) (cs ++ [.int .i64 op, .int .i64 n, .int .i64 m]) (rest (some (c :: l)) tkI) := by
  obtain ⟨hk, h⟩ := h
  simp only [Option.getD_some, List.length_cons] at hk
  rcases h with ⟨h, _⟩ | ⟨l', xs, h, hxs, hM, hE⟩
  · cases h
  · cases h
    rw [insL_cons] at hM
    cases ht : tkI (c :: l) with
    | none =>
      rw [ht] at hM
      rw [rest_none (by simpa using ht)]
      exact ⟨by simp; omega, Or.inl ⟨rfl, hM⟩⟩
    | some y =>
      have hl := tkI_less ht
      simp only [List.length_cons] at hl
      have e := hx y.1 y.2 (by simpa using ht)
      rw [rest_some (x := y.1) (r := y.2) (by simpa using ht)]
      refine ⟨by simp; omega, Or.inr ⟨y.2, xs ++ [⟨op, n, m⟩], rfl, by simp [hxs], ?_, hE.step (by rw [hlen, hxs]) rfl ⟨hI, rfl, rfl, rfl⟩⟩⟩
      rw [hM, ht]
      simp only [Option.bind_some, e]
      cases insL y.2 with
      | none => rfl
      | some z => simp [inOf]
theorem cd_bind (s : Option (List UInt8)) : s.bind cdP = (s.bind (manyP tyP)).bind fun x => (cntP x.2).bind fun y => (insL y.1).map fun z => (⟨0, false, x.1, z⟩, y.2) := by
  cases s <;> rfl
theorem bytP_len {n : Nat} {l a r : List UInt8} (h : bytP n l = some (a, r)) : a.length ≤ l.length := by
  unfold bytP at h
  split at h
  · cases h; rw [List.length_take]; omega
  · cases h
theorem got_len {w : World} {q : Nat} {s : Option (List UInt8)} (h : RS w q s) : (got [] s cntP).length ≤ 4000 := by
  cases s with
  | none => simp [got]
  | some l =>
    have hl := h.1
    unfold got
    cases hn : numP l with
    | none => simp [cntP, hn]
    | some x =>
      have := (numP_bd (n := x.1) (r := x.2) hn).2.2
      cases hb : bytP x.1.toNat x.2 with
      | none => simp [cntP, hn, hb]
      | some y =>
        have := bytP_len (a := y.1) (r := y.2) hb
        simp [cntP, hn, hb]
        omega
theorem Tryz.parts52 : (Tryz.prog.info? 52).map (fun i => (i.zero, i.size, i.bytes)) = some (some (.agg #[.int .i64 0, .int .i64 0, .int .i64 0]), 3, 24) := by kernel_rfl
theorem cd_key (s : Option (List UInt8)) (b : List UInt8) (hb : b = got [] (rest s (manyP tyP)) cntP) : s.bind cdP = (s.bind (manyP tyP)).bind fun x => (cntP x.2).bind fun y => (insL b).map fun z => (⟨0, false, x.1, z⟩, y.2) := by
  rw [cd_bind]
  cases ho : s.bind (manyP tyP) with
  | none => rfl
  | some x =>
    rw [rest_some (x := x.1) (r := x.2) ho] at hb
    simp only [Option.bind_some]
    cases hc : cntP x.2 with
    | none => rfl
    | some y =>
      rw [got_some (x := y.1) (r := y.2) (by simpa using hc)] at hb
      simp only [Option.bind_some, hb]
theorem tk_less (c : UInt8) (l : List UInt8) : ((rest (some (c :: l)) tkI).getD []).length < (c :: l).length := by
  cases ht : tkI (c :: l) with
  | none => rw [rest_none (by simpa using ht)]; simp
  | some y => rw [rest_some (x := y.1) (r := y.2) (by simpa using ht)]; exact tkI_less ht
def mea (b : Nat) (w : World) : Nat := match w.cell? ⟨b, 0, none⟩ with
  | some (.string s) => s.size
  | _ => 0
theorem RS.mea {w : World} {q : Nat} {s : Option (List UInt8)} (h : RS w q s) : mea q w = (s.getD []).length := by
  obtain ⟨_, ev, r⟩ := h.row
  have := r.c 0 _ rfl
  unfold YtcbfpikggphokaaGreatDoor.mea
  rw [this]
  simp [str_size]
set_option maxRecDepth 100000 in
set_option maxHeartbeats 3200000 in
theorem code_any (q : Nat) : REfn 130 q cdP := by
  obtain ⟨i0, hi0, hprod⟩ := Option.map_eq_some_iff.1 Tryz.parts52
  simp only [Prod.mk.injEq] at hprod
  obtain ⟨hz0, hz1, hz2⟩ := hprod
  intro s w h
  have hq := h.lt
  have hne : ¬ One q w.heap.size := fun e => by have : w.heap.size = q := e; omega
  have T := hide (many_int 144 q (-128) 127 tyP enter144 (oneType_any q) (by omega) s (w.alloc (.cells #[.int .i64 0, .bool false, .slice none 0 0, .slice none 0 0] 50)) (h.kept (bel_one w _)))
  have RW := hide (Row.made w #[.int .i64 0, .bool false, .slice none 0 0, .slice none 0 0] 50)
  have B0 := hide (bel_one w (.cells #[.int .i64 0, .bool false, .slice none 0 0, .slice none 0 0] 50))
  have hA : Hid ((w.alloc (.cells #[.int .i64 0, .bool false, .slice none 0 0, .slice none 0 0] 50)).heap.size = w.heap.size + 1) := hide (by simp)
  clear h
  go_enter Tryz.func130, Tryz.ntmps130
  go_wp2_with fail
  refine T.out.mono ?_
  rintro e w1 ⟨v1, rfl, ⟨a1, n1, m1, rfl⟩, hs, b1, hx⟩
  have R1 := hide (b1.row RW.out hne)
  have B1 := hide ((But.of (X := One q) B0.out).trans b1)
  have S1 := hide b1.size
  have HX := hide hx
  have hl := got_len hs
  have T2 := hide (counted_any q _ w1 hs)
  obtain ⟨b, hb⟩ : ∃ b, b = got [] (rest s (manyP tyP)) cntP := ⟨_, rfl⟩
  rw [← hb] at T2 hl
  have HB := hide hb
  clear hx hs b1 T RW B0 hb
  go_wp2_with fail
  refine T2.out.mono ?_
  rintro e w2 ⟨rfl, hs2, b2⟩
  have R2 := hide (b2.row R1.out hne)
  have B2 := hide (B1.out.trans b2)
  have B12 := hide b2
  have HS2 := hide hs2
  have hz2' : w.heap.size + 1 ≤ w2.heap.size := by have := S1.out; have := hA.out; have := b2.size; omega
  clear hs2 b2 T2 R1 B1
  go_wp2_with fail
  go_loopw [5] (fun ov wr => ∃ (k : Nat) (cs : List Value) (sk : Option (List UInt8)), Hid (wr.ownsRow (w2.heap.size + 1) 52 3 ov k cs) ∧ Hid (RS wr w2.heap.size sk) ∧ But (One w2.heap.size) w2 wr ∧ w2.heap.size + 1 ≤ wr.heap.size ∧ Hid (CI (insL b) k cs sk)) (fun _ wr => mea w2.heap.size wr)
  case atStart =>
    exact ⟨0, [], some b, hide ⟨rfl, Or.inl ⟨rfl, rfl⟩⟩, hide ⟨hl, Row.made w2 #[.string (str b), .nilIface] 129⟩, But.of (bel_one w2 _), by simp, hide (CI.start b hl)⟩
  case round =>
    obtain ⟨k, cs, sk, hown, hst, hbt, hgr, hE⟩ := hrel
    have L2 := hide (hbt.below (Nat.le_refl _) (fun i hi e => by have : i = w2.heap.size := e; omega))
    have HQ := hide (HS2.out.kept L2.out)
    have R3 := hide (R2.out.kept L2.out)
    have B3 := hide (B2.out.trans (But.of L2.out))
    have hbnd := hE.out.1
    match sk, hst, hE, hbnd with
    | none, hst, hE, hbnd =>
      obtain ⟨p, hp, row, hf⟩ := id hst.out
      have c0 := row.c 0 _ rfl
      have c1 := row.c 1 _ rfl
      have he : (str []).toList.isEmpty = true := by unfold str; simp
      have RN : Hid (s.bind cdP = none) := hide (by
        rw [cd_key s b HB.out]
        have hm : insL b = none := by
          rcases hE.out.2 with ⟨_, h⟩ | ⟨_, _, h, _⟩
          · exact h
          · cases h
        rw [hm]
        cases s.bind (manyP tyP) with
        | none => rfl
        | some x =>
          simp only [Option.bind_some]
          cases cntP x.2 <;> rfl)
      obtain ⟨_, ev, rowq⟩ := HQ.out.row
      have FA := hide (fail_any q _ _ wr rowq)
      clear row hf rowq hE
      unfold flt at c1
      go_wp2_with fail
      refine FA.out.mono ?_
      rintro e w3 ⟨rfl, h3, b3⟩
      have R4 := hide (b3.row R3.out hne)
      have B4 := hide (B3.out.trans b3)
      have H3 := hide h3
      have d0 := R4.out.c 0 _ rfl
      have d1 := R4.out.c 1 _ rfl
      have d2 := R4.out.c 2 _ rfl
      have d3 := R4.out.c 3 _ rfl
      have z := R4.out.fr
      clear h3 b3 FA c0 c1
      obtain ⟨a2, m2, hv⟩ := own_slice hown.out
      subst hv
      go_wp2_with fail
      refine bodyPost_ret (results_50 rfl _ _ w.heap.size _ rfl rfl ((((R4.out.set 0 _).set 1 _).set 2 _).set 3 _)) rfl ?_
      refine ⟨0, false, a1, n1, m1, a2, k, m2, rfl, ?_, (((B4.out.set 0 _ (Or.inr (Nat.le_refl _))).set 1 _ (Or.inr (Nat.le_refl _))).set 2 _ (Or.inr (Nat.le_refl _))).set 3 _ (Or.inr (Nat.le_refl _)), ?_⟩
      · rw [rest_none RN.out]
        exact (((H3.out.other R4.out (by decide) (by omega) 0 _).other (R4.out.set 0 _) (by decide) (by omega) 1 _).other ((R4.out.set 0 _).set 1 _) (by decide) (by omega) 2 _).other (((R4.out.set 0 _).set 1 _).set 2 _) (by decide) (by omega) 3 _
      · intro x r e; rw [RN.out] at e; cases e
    | some [], hst, hE, hbnd =>
      have c0 := hst.out.2.c 0 _ rfl
      have c1 := hst.out.2.c 1 _ rfl
      have he : (str []).toList.isEmpty = true := by unfold str; simp
      have hM : Hid (∃ xs : List In, xs.length = k ∧ insL b = some xs ∧ EC cs xs) := hide (by
        rcases hE.out.2 with ⟨h, _⟩ | ⟨l, xs, h, h1, h2, h3⟩
        · cases h
        · cases h
          rw [insL_nil] at h2
          exact ⟨xs, h1, by simpa using h2, h3⟩)
      have d0 := R3.out.c 0 _ rfl
      have d1 := R3.out.c 1 _ rfl
      have d2 := R3.out.c 2 _ rfl
      have d3 := R3.out.c 3 _ rfl
      have z := R3.out.fr
      clear hE
      obtain ⟨a2, m2, hv⟩ := own_slice hown.out
      subst hv
      go_wp2_with fail
      refine bodyPost_ret (results_50 rfl _ _ w.heap.size _ rfl rfl ((((R3.out.set 0 _).set 1 _).set 2 _).set 3 _)) rfl ?_
      obtain ⟨xs, hxs, hib, hec⟩ := hM.out
      refine ⟨0, false, a1, n1, m1, a2, k, m2, rfl, ?_, (((B3.out.set 0 _ (Or.inr (Nat.le_refl _))).set 1 _ (Or.inr (Nat.le_refl _))).set 2 _ (Or.inr (Nat.le_refl _))).set 3 _ (Or.inr (Nat.le_refl _)), ?_⟩
      · have er : rest s cdP = rest (rest s (manyP tyP)) cntP := by
          unfold rest
          rw [cd_key s b HB.out, hib]
          cases s.bind (manyP tyP) with
          | none => rfl
          | some x =>
            simp only [Option.bind_some, Option.map_some]
            cases cntP x.2 <;> rfl
        rw [er]
        exact (((HQ.out.other R3.out (by decide) (by omega) 0 _).other (R3.out.set 0 _) (by decide) (by omega) 1 _).other ((R3.out.set 0 _).set 1 _) (by decide) (by omega) 2 _).other (((R3.out.set 0 _).set 1 _).set 2 _) (by decide) (by omega) 3 _
      · intro x r e
        rw [cd_key s b HB.out, hib] at e
        cases ho : s.bind (manyP tyP) with
        | none => rw [ho] at e; cases e
        | some y =>
          rw [ho] at e
          simp only [Option.bind_some] at e
          cases hc : cntP y.2 with
          | none => rw [hc] at e; cases e
          | some u =>
            rw [hc] at e
            simp only [Option.bind_some, Option.map_some] at e
            cases e
            have p1 := HX.out y.1 y.2 ho
            have hA' := hA.out
            have s1 := S1.out
            subst hxs
            have p2 := hec.sl (w := w) (W := wr) (w2.heap.size + 1) (by omega) hown.out
            have k2 : ∀ i, i ≠ w.heap.size → ∀ v0 v1 v2 v3 : Value, ((((wr.setCell ⟨w.heap.size, 0, none⟩ v0).setCell ⟨w.heap.size, 1, none⟩ v1).setCell ⟨w.heap.size, 2, none⟩ v2).setCell ⟨w.heap.size, 3, none⟩ v3).heap[i]? = wr.heap[i]? := fun i hi v0 v1 v2 v3 => by
              rw [Below.heap_setCell _ _ _ _ hi, Below.heap_setCell _ _ _ _ hi, Below.heap_setCell _ _ _ _ hi, Below.heap_setCell _ _ _ _ hi]
            have kk : Same (New3 (w.alloc (.cells #[.int .i64 0, .bool false, .slice none 0 0, .slice none 0 0] 50)) w1) w1 wr := fun i hi => by
              have h1 := hi.1
              have h2 := hi.lt
              have h3 := B12.out.size
              exact (L2.out.block i (by omega)).trans (B12.out.block i h2 (fun e => by have : i = q := e; omega))
            have nn : ∀ i, NewT 50 w wr i → i ≠ w.heap.size := fun i hi e => by
              subst e
              obtain ⟨_, cs, t, fr, h2, h3⟩ := hi
              have r3 := R3.out
              unfold Row at r3
              rw [r3] at h2
              simp at h2
              exact h3 h2.2.1.symm
            have s2 := fun v0 v1 v2 v3 => (fun i hi => k2 i (nn i hi) v0 v1 v2 v3 : Same (NewT 50 w wr) wr _)
            have p3 := p1.to keeps_int kk (new3_to (e := 50) (w := w) (by decide) (by omega) kk)
            exact ⟨⟨by simp, by simp⟩, rfl, rfl, p3.to keeps_int (s2 _ _ _ _) (newT_more (s2 _ _ _ _)), p2.to keeps_in (s2 _ _ _ _) (newT_more (s2 _ _ _ _))⟩
    | some (c :: l), hst, hE, hbnd =>
      have hbnd' : k + (l.length + 1) ≤ 4000 := by simpa using hbnd
      have c0 := hst.out.2.c 0 _ rfl
      have he : (str (c :: l)).toList.isEmpty = false := by unfold str; simp
      have CF := hide (instr_any w2.heap.size (some (c :: l)) wr hst.out)
      clear L2 HQ R3 B3
      go_wp2_with fail
      refine CF.out.mono ?_
      rintro e w3 ⟨op, n, m, rfl, hI, hs3, b3, hx3⟩
      have ow := own_row hown.out
      have hown2 := hown.out.kept (b3.grown (q := w2.heap.size) (fun _ h => h)) (by
        cases hb' : u5.ownBlock with
        | none => exact Or.inl rfl
        | some j => exact Or.inr (fun e => by cases e; have := (ow _ hb').1; omega))
      have HX3 := hide hx3
      have HI := hide hI
      have HS3 := hide hs3
      have BB := hide (hbt.trans b3)
      have hsz := b3.size
      have ME := hide (hst.out.mea)
      clear hx3 hs3 b3 CF hown c0 ow hI hbnd
      have hown := hown2
      unfold ins
      go_wp2_with (at_builtin; refine wpList_append_own _ rfl (.tmp 14) (.tmp 16) 48 rfl (w2.heap.size + 1) 52 i0 (.agg #[.int .i64 0, .int .i64 0, .int .i64 0]) 3 24 Tryz.underlying48 hi0 hz0 hz1 hz2 rfl (by decide) _ _ _ rfl (hown.alloc _) ⟨w3.heap.size, 0, none⟩ 1 1 [.int .i64 op, .int .i64 n, .int .i64 m] rfl rfl (at_cells _ _ _) (fun x hx => by simp at hx; rcases hx with rfl | rfl | rfl <;> rfl) (by unfold maxLen; omega) (by omega) (by simp; omega) ?_)
      intro v' w4 hown' hgrow _
      have ow := own_row (hown.alloc (.cells #[.int .i64 op, .int .i64 n, .int .i64 m] 52))
      have hs4 := hide ((HS3.out.kept (bel_one w3 (.cells #[.int .i64 op, .int .i64 n, .int .i64 m] 52))).grow hgrow (e := 52) (by decide) (fun j hj => ⟨by have := (ow j hj).1; omega, (ow j hj).2⟩))
      have b4 := (BB.out.trans (But.of (bel_one w3 (.cells #[.int .i64 op, .int .i64 n, .int .i64 m] 52)))).grow hgrow (fun j hj => by have := (ow j hj).1; omega)
      have hg4 : w2.heap.size + 1 ≤ w4.heap.size := by have := hgrow.size; simp at this; omega
      have hE2 := hide (hE.out.step hown.1 HI.out HX3.out)
      have hown4 := hide hown'
      have ML : Hid (mea w2.heap.size w4 < mea w2.heap.size wr) := hide (by rw [hs4.out.mea, ME.out]; exact tk_less c l)
      clear hown' hgrow hown hE hst ow BB HS3 HX3 HI ME
      go_wp2
      go_roundw
      case rel => exact ⟨k + 1, cs ++ [.int .i64 op, .int .i64 n, .int .i64 m], rest (some (c :: l)) tkI, hown4, hs4, b4, hg4, hE2⟩
      case measure => exact ML.out
end Go.Proofs.YtcbfpikggphokaaGreatDoor

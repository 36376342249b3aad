/-
  The program's many, walked for each type of things.
-/
import Derived.Test.YtcbfpikggphokaaGreatDoorManys
namespace Go.Proofs.YtcbfpikggphokaaGreatDoor
open Go.RowKit

theorem at_cells (w : World) (a : List Value) (t : TypeId) : ∀ j u, a[j]? = some u → (w.alloc (.cells a.toArray t)).cell? ((⟨w.heap.size, 0, none⟩ : Addr).add j) = some u := by
  intro j u hj
  have : (w.alloc (.cells a.toArray t)).heap[w.heap.size]? = some (.cells a.toArray t (0, 0)) := by unfold World.alloc; simp
  have e : (⟨w.heap.size, 0, none⟩ : Addr).add j = ⟨w.heap.size, j, none⟩ := by simp [Addr.add]; exact fun h => h.symm
  rw [e, cell_of_row _ _ j _ _ _ this]
  simpa using hj
theorem keepsC_sg : KeepsC Csg := fun _ _ _ _ _ _ h k hc => h.to k hc
theorem cellsC_sg : ∀ S W b o cs x, cs.length = 2 → (∀ t, t < 2 → World.cell? W ⟨b, o + t, none⟩ = cs[t]?) → Csg S W cs x → ESg S W b o x := by
  intro S W b o cs x hl hc h
  have c0 := hc 0 (by decide)
  have c1 := hc 1 (by decide)
  obtain ⟨y0, y1, rfl⟩ : ∃ y0 y1, cs = [y0, y1] := by
    match cs, hl with
    | [y0, y1], _ => exact ⟨y0, y1, rfl⟩
  unfold Csg at h
  simp at h c0 c1
  exact ⟨y0, y1, c0, c1, h.1, h.2⟩
/-- A function of a reader that takes one thing. -/
def REsg (g : FuncId) (q : Nat) (P : List UInt8 → Option (Sg × List UInt8)) : Prop :=
  ∀ s w, RS w q s → Calls Tryz.prog g #[ptr q] w fun e w' => ∃ (a1 : Option Addr) (n1 : Nat) (m1 : Nat) (a2 : Option Addr) (n2 : Nat) (m2 : Nat), e = .returned (.agg #[.slice a1 n1 m1, .slice a2 n2 m2]) ∧ RS w' q (rest s P) ∧ But (One q) w w' ∧ ∀ x r, s.bind P = some (x, r) → Csg (NewT 64 w w') w' [.slice a1 n1 m1, .slice a2 n2 m2] x
theorem Tryz.parts64 : (Tryz.prog.info? 64).map (fun i => (i.zero, i.size, i.bytes)) = some (some (.agg #[.slice none 0 0, .slice none 0 0]), 2, 48) := by kernel_rfl
set_option maxRecDepth 100000 in
set_option maxHeartbeats 3200000 in
theorem many_sg (g : FuncId) (q : Nat) (P : List UInt8 → Option (Sg × List UInt8)) (hg : ∀ args w, (callFunc g args).run Tryz.prog w = .ok (.enter g args) w) (hR : REsg g q P)
    (s : Option (List UInt8)) (w : World) (h : RS w q s) :
    Calls Tryz.prog 142 #[ptr q, .func (.func g) #[] #[]] w fun e w' => ∃ v, e = .returned v ∧ (∃ a n c, v = .slice a n c) ∧ RS w' q (rest s (manyP P)) ∧ But (One q) w w' ∧ ∀ x r, s.bind (manyP P) = some (x, r) → Sl 2 ESg (New w w') w' v x := by
  obtain ⟨i0, hi0, hprod⟩ := Option.map_eq_some_iff.1 Tryz.parts64
  simp only [Prod.mk.injEq] at hprod
  obtain ⟨hz0, hz1, hz2⟩ := hprod
  have HQ := hide h.lt
  have NU := hide (number_any q s w h)
  have HR := hide hR
  clear h hR
  go_enter Tryz.func142, Tryz.ntmps142
  go_wp2_with fail
  refine NU.out.mono ?_
  rintro e w1 ⟨n0, rfl, hn0, hn1, hx, hs, b1⟩
  obtain ⟨n, rfl⟩ := Int.eq_ofNat_of_zero_le hn0
  have HX := hide hx
  have HS := hide hs
  clear hx hs NU
  go_wp2_with fail
  go_loopw [5, 8] (fun ov iv wr => ∃ (k : Nat) (cs : List Value) (sk : Option (List UInt8)), k ≤ n ∧ iv = .int .i64 k ∧ Hid (wr.ownsRow w.heap.size 64 2 ov k cs) ∧ Hid (RS wr q sk) ∧ But (One q) w wr ∧ Hid (MI 64 2 Csg P (s.bind (manyP P)) n w wr k cs sk)) (fun _ iv _ => n - (intOf iv).toNat)
  case atStart =>
    exact ⟨0, [], rest s numP, by omega, rfl, hide ⟨rfl, Or.inl ⟨rfl, rfl⟩⟩, HS, b1, hide (MI.start _ _ _ _ _ HX.out)⟩
  case round =>
    obtain ⟨k, cs, sk, hk, rfl, hown, hst, hbt, hE⟩ := hrel
    have hbs := hbt.size
    have hq := HQ.out
    clear HX
    by_cases hlt : k < n
    · cases sk with
      | none =>
        obtain ⟨p, hp, row, hf⟩ := id hst.out
        have c1 := row.c 1 _ rfl
        have RN : Hid (s.bind (manyP P) = none) := hide (by
          rcases hE.out with ⟨_, h⟩ | ⟨_, _, h, _⟩
          · exact h
          · cases h)
        clear row hf hE
        unfold flt at c1
        go_wp2_with fail
        go_ret
        obtain ⟨a, c, hv⟩ := own_slice hown.out
        refine ⟨u5, rfl, ⟨a, _, c, hv⟩, ?_, hbt, ?_⟩
        · rw [rest_none RN.out]; exact hst.out
        · intro x r e; rw [RN.out] at e; cases e
      | some l =>
        have c1 := hst.out.2.c 1 _ rfl
        have CF := hide (HR.out (some l) wr hst.out)
        go_wp2_with fail
        refine CF.out.mono ?_
        rintro e w2 ⟨a1, n1, m1, a2, n2, m2, rfl, hs2, b2, hxi⟩
        have ow := own_row hown.out
        have hown2 := hown.out.kept (b2.grown (q := q) (fun _ h => h)) (by
          cases hb' : u5.ownBlock with
          | none => exact Or.inl rfl
          | some j => exact Or.inr (fun e => by cases e; have := (ow q hb').1; omega))
        have HX2 := hide hxi
        have HS2 := hide hs2
        have B2 := hide (hbt.trans b2)
        have hsz := B2.out.size
        have S1 := hide (newT_keep (e := 64) hq b2)
        clear hxi hs2 b2 CF hown c1 ow
        have hown := hown2
        go_wp2_with (at_builtin; refine wpList_append_own _ rfl (.tmp 15) (.tmp 19) 22 rfl w.heap.size 64 i0 (.agg #[.slice none 0 0, .slice none 0 0]) 2 48 Tryz.underlying22 hi0 hz0 hz1 hz2 rfl (by decide) _ _ _ rfl (hown.alloc _) ⟨w2.heap.size, 0, none⟩ 1 1 [.slice a1 n1 m1, .slice a2 n2 m2] rfl rfl (at_cells _ _ _) (fun x hx => by simp at hx; rcases hx with rfl | rfl <;> rfl) (by unfold maxLen; omega) (by omega) (by simp; omega) ?_)
        intro v' w3 hown' hgrow _
        have ow := own_row (hown.alloc (.cells #[.slice a1 n1 m1, .slice a2 n2 m2] 64))
        have hs3 := hide ((HS2.out.kept (bel_one w2 (.cells #[.slice a1 n1 m1, .slice a2 n2 m2] 64))).grow hgrow (e := 64) (by decide) (fun j hj => ⟨by have := (ow j hj).1; omega, (ow j hj).2⟩))
        have b3 := (B2.out.trans (But.of (bel_one w2 (.cells #[.slice a1 n1 m1, .slice a2 n2 m2] 64)))).grow hgrow (fun j hj => (ow j hj).1)
        have G1 : ∀ W : World, Same (NewT 64 W w2) w2 w3 := fun W i hi => by
          have a1 : Same (NewT 64 W w2) w2 (w2.alloc (.cells #[.slice a1 n1 m1, .slice a2 n2 m2] 64)) := fun i hi => same_below (bel_one w2 (.cells #[.slice a1 n1 m1, .slice a2 n2 m2] 64)) i hi.new.2
          exact (newT_grow (w := W) hgrow (fun j hj => (ow j hj).2) i (newT_more a1 i hi)).trans (a1 i hi)
        have hE2 := hide (hE.out.step (w2 := w2) (w3 := w3) (cs' := [.slice a1 n1 m1, .slice a2 n2 m2]) keepsC_sg hlt hown.1 rfl (fun i hi => (G1 w i (newT_more S1.out i hi)).trans (S1.out i hi)) hbs HX2.out (G1 wr))
        have hown4 := hide hown'
        clear hown' hgrow hown hE hst ow B2 HS2 HX2 S1 G1
        go_wp2
        go_roundw
        case rel => exact ⟨k + 1, cs ++ [.slice a1 n1 m1, .slice a2 n2 m2], rest (some l) P, by omega, by go_num, hown4, hs3, b3, hE2⟩
        case measure => simp [intOf]; omega
    · have e0 : k = n := by omega
      subst e0
      have RN := hide (hE.out.done keepsC_sg cellsC_sg hown.out)
      clear hE
      go_wp2_with fail
      go_ret
      obtain ⟨a, c, hv⟩ := own_slice hown.out
      refine ⟨u5, rfl, ⟨a, _, c, hv⟩, ?_, hbt, RN.out.2⟩
      rw [RN.out.1]; exact hst.out
theorem keepsC_gl : KeepsC Cgl := fun _ _ _ _ _ _ h _ _ => h.to
theorem cellsC_gl : ∀ S W b o cs x, cs.length = 2 → (∀ t, t < 2 → World.cell? W ⟨b, o + t, none⟩ = cs[t]?) → Cgl S W cs x → EGl S W b o x := by
  intro S W b o cs x hl hc h
  have c0 := hc 0 (by decide)
  have c1 := hc 1 (by decide)
  obtain ⟨y0, y1, rfl⟩ : ∃ y0 y1, cs = [y0, y1] := by
    match cs, hl with
    | [y0, y1], _ => exact ⟨y0, y1, rfl⟩
  unfold Cgl at h
  simp at h c0 c1
  obtain ⟨hi, rfl, rfl⟩ := h
  exact ⟨hi, c0, c1⟩
/-- A function of a reader that takes one thing. -/
def REgl (g : FuncId) (q : Nat) (P : List UInt8 → Option (Gl × List UInt8)) : Prop :=
  ∀ s w, RS w q s → Calls Tryz.prog g #[ptr q] w fun e w' => ∃ (i1 : Int) (i2 : Int), e = .returned (.agg #[.int .i64 i1, .int .i64 i2]) ∧ RS w' q (rest s P) ∧ But (One q) w w' ∧ ∀ x r, s.bind P = some (x, r) → Cgl (NewT 70 w w') w' [.int .i64 i1, .int .i64 i2] x
theorem Tryz.parts70 : (Tryz.prog.info? 70).map (fun i => (i.zero, i.size, i.bytes)) = some (some (.agg #[.int .i64 0, .int .i64 0]), 2, 16) := by kernel_rfl
set_option maxRecDepth 100000 in
set_option maxHeartbeats 3200000 in
theorem many_gl (g : FuncId) (q : Nat) (P : List UInt8 → Option (Gl × List UInt8)) (hg : ∀ args w, (callFunc g args).run Tryz.prog w = .ok (.enter g args) w) (hR : REgl g q P)
    (s : Option (List UInt8)) (w : World) (h : RS w q s) :
    Calls Tryz.prog 146 #[ptr q, .func (.func g) #[] #[]] w fun e w' => ∃ v, e = .returned v ∧ (∃ a n c, v = .slice a n c) ∧ RS w' q (rest s (manyP P)) ∧ But (One q) w w' ∧ ∀ x r, s.bind (manyP P) = some (x, r) → Sl 2 EGl (New w w') w' v x := by
  obtain ⟨i0, hi0, hprod⟩ := Option.map_eq_some_iff.1 Tryz.parts70
  simp only [Prod.mk.injEq] at hprod
  obtain ⟨hz0, hz1, hz2⟩ := hprod
  have HQ := hide h.lt
  have NU := hide (number_any q s w h)
  have HR := hide hR
  clear h hR
  go_enter Tryz.func146, Tryz.ntmps146
  go_wp2_with fail
  refine NU.out.mono ?_
  rintro e w1 ⟨n0, rfl, hn0, hn1, hx, hs, b1⟩
  obtain ⟨n, rfl⟩ := Int.eq_ofNat_of_zero_le hn0
  have HX := hide hx
  have HS := hide hs
  clear hx hs NU
  go_wp2_with fail
  go_loopw [5, 8] (fun ov iv wr => ∃ (k : Nat) (cs : List Value) (sk : Option (List UInt8)), k ≤ n ∧ iv = .int .i64 k ∧ Hid (wr.ownsRow w.heap.size 70 2 ov k cs) ∧ Hid (RS wr q sk) ∧ But (One q) w wr ∧ Hid (MI 70 2 Cgl P (s.bind (manyP P)) n w wr k cs sk)) (fun _ iv _ => n - (intOf iv).toNat)
  case atStart =>
    exact ⟨0, [], rest s numP, by omega, rfl, hide ⟨rfl, Or.inl ⟨rfl, rfl⟩⟩, HS, b1, hide (MI.start _ _ _ _ _ HX.out)⟩
  case round =>
    obtain ⟨k, cs, sk, hk, rfl, hown, hst, hbt, hE⟩ := hrel
    have hbs := hbt.size
    have hq := HQ.out
    clear HX
    by_cases hlt : k < n
    · cases sk with
      | none =>
        obtain ⟨p, hp, row, hf⟩ := id hst.out
        have c1 := row.c 1 _ rfl
        have RN : Hid (s.bind (manyP P) = none) := hide (by
          rcases hE.out with ⟨_, h⟩ | ⟨_, _, h, _⟩
          · exact h
          · cases h)
        clear row hf hE
        unfold flt at c1
        go_wp2_with fail
        go_ret
        obtain ⟨a, c, hv⟩ := own_slice hown.out
        refine ⟨u5, rfl, ⟨a, _, c, hv⟩, ?_, hbt, ?_⟩
        · rw [rest_none RN.out]; exact hst.out
        · intro x r e; rw [RN.out] at e; cases e
      | some l =>
        have c1 := hst.out.2.c 1 _ rfl
        have CF := hide (HR.out (some l) wr hst.out)
        go_wp2_with fail
        refine CF.out.mono ?_
        rintro e w2 ⟨i1, i2, rfl, hs2, b2, hxi⟩
        have ow := own_row hown.out
        have hown2 := hown.out.kept (b2.grown (q := q) (fun _ h => h)) (by
          cases hb' : u5.ownBlock with
          | none => exact Or.inl rfl
          | some j => exact Or.inr (fun e => by cases e; have := (ow q hb').1; omega))
        have HX2 := hide hxi
        have HS2 := hide hs2
        have B2 := hide (hbt.trans b2)
        have hsz := B2.out.size
        have S1 := hide (newT_keep (e := 70) hq b2)
        clear hxi hs2 b2 CF hown c1 ow
        have hown := hown2
        go_wp2_with (at_builtin; refine wpList_append_own _ rfl (.tmp 15) (.tmp 19) 26 rfl w.heap.size 70 i0 (.agg #[.int .i64 0, .int .i64 0]) 2 16 Tryz.underlying26 hi0 hz0 hz1 hz2 rfl (by decide) _ _ _ rfl (hown.alloc _) ⟨w2.heap.size, 0, none⟩ 1 1 [.int .i64 i1, .int .i64 i2] rfl rfl (at_cells _ _ _) (fun x hx => by simp at hx; rcases hx with rfl | rfl <;> rfl) (by unfold maxLen; omega) (by omega) (by simp; omega) ?_)
        intro v' w3 hown' hgrow _
        have ow := own_row (hown.alloc (.cells #[.int .i64 i1, .int .i64 i2] 70))
        have hs3 := hide ((HS2.out.kept (bel_one w2 (.cells #[.int .i64 i1, .int .i64 i2] 70))).grow hgrow (e := 70) (by decide) (fun j hj => ⟨by have := (ow j hj).1; omega, (ow j hj).2⟩))
        have b3 := (B2.out.trans (But.of (bel_one w2 (.cells #[.int .i64 i1, .int .i64 i2] 70)))).grow hgrow (fun j hj => (ow j hj).1)
        have G1 : ∀ W : World, Same (NewT 70 W w2) w2 w3 := fun W i hi => by
          have a1 : Same (NewT 70 W w2) w2 (w2.alloc (.cells #[.int .i64 i1, .int .i64 i2] 70)) := fun i hi => same_below (bel_one w2 (.cells #[.int .i64 i1, .int .i64 i2] 70)) i hi.new.2
          exact (newT_grow (w := W) hgrow (fun j hj => (ow j hj).2) i (newT_more a1 i hi)).trans (a1 i hi)
        have hE2 := hide (hE.out.step (w2 := w2) (w3 := w3) (cs' := [.int .i64 i1, .int .i64 i2]) keepsC_gl hlt hown.1 rfl (fun i hi => (G1 w i (newT_more S1.out i hi)).trans (S1.out i hi)) hbs HX2.out (G1 wr))
        have hown4 := hide hown'
        clear hown' hgrow hown hE hst ow B2 HS2 HX2 S1 G1
        go_wp2
        go_roundw
        case rel => exact ⟨k + 1, cs ++ [.int .i64 i1, .int .i64 i2], rest (some l) P, by omega, by go_num, hown4, hs3, b3, hE2⟩
        case measure => simp [intOf]; omega
    · have e0 : k = n := by omega
      subst e0
      have RN := hide (hE.out.done keepsC_gl cellsC_gl hown.out)
      clear hE
      go_wp2_with fail
      go_ret
      obtain ⟨a, c, hv⟩ := own_slice hown.out
      refine ⟨u5, rfl, ⟨a, _, c, hv⟩, ?_, hbt, RN.out.2⟩
      rw [RN.out.1]; exact hst.out
theorem keepsC_da : KeepsC Cda := fun _ _ _ _ _ _ h _ _ => h.to
theorem cellsC_da : ∀ S W b o cs x, cs.length = 3 → (∀ t, t < 3 → World.cell? W ⟨b, o + t, none⟩ = cs[t]?) → Cda S W cs x → EDa S W b o x := by
  intro S W b o cs x hl hc h
  have c0 := hc 0 (by decide)
  have c1 := hc 1 (by decide)
  have c2 := hc 2 (by decide)
  obtain ⟨y0, y1, y2, rfl⟩ : ∃ y0 y1 y2, cs = [y0, y1, y2] := by
    match cs, hl with
    | [y0, y1, y2], _ => exact ⟨y0, y1, y2, rfl⟩
  unfold Cda at h
  simp at h c0 c1 c2
  obtain ⟨hi, rfl, rfl, rfl⟩ := h
  exact ⟨hi, c0, c1, c2⟩
/-- A function of a reader that takes one thing. -/
def REda (g : FuncId) (q : Nat) (P : List UInt8 → Option (Da × List UInt8)) : Prop :=
  ∀ s w, RS w q s → Calls Tryz.prog g #[ptr q] w fun e w' => ∃ (i1 : Int) (i2 : Int) (s1 : ByteArray), e = .returned (.agg #[.int .i64 i1, .int .i64 i2, .string s1]) ∧ RS w' q (rest s P) ∧ But (One q) w w' ∧ ∀ x r, s.bind P = some (x, r) → Cda (NewT 73 w w') w' [.int .i64 i1, .int .i64 i2, .string s1] x
theorem Tryz.parts73 : (Tryz.prog.info? 73).map (fun i => (i.zero, i.size, i.bytes)) = some (some (.agg #[.int .i64 0, .int .i64 0, .string ⟨#[]⟩]), 3, 32) := by kernel_rfl
set_option maxRecDepth 100000 in
set_option maxHeartbeats 3200000 in
theorem many_da (g : FuncId) (q : Nat) (P : List UInt8 → Option (Da × List UInt8)) (hg : ∀ args w, (callFunc g args).run Tryz.prog w = .ok (.enter g args) w) (hR : REda g q P)
    (s : Option (List UInt8)) (w : World) (h : RS w q s) :
    Calls Tryz.prog 149 #[ptr q, .func (.func g) #[] #[]] w fun e w' => ∃ v, e = .returned v ∧ (∃ a n c, v = .slice a n c) ∧ RS w' q (rest s (manyP P)) ∧ But (One q) w w' ∧ ∀ x r, s.bind (manyP P) = some (x, r) → Sl 3 EDa (New w w') w' v x := by
  obtain ⟨i0, hi0, hprod⟩ := Option.map_eq_some_iff.1 Tryz.parts73
  simp only [Prod.mk.injEq] at hprod
  obtain ⟨hz0, hz1, hz2⟩ := hprod
  have HQ := hide h.lt
  have NU := hide (number_any q s w h)
  have HR := hide hR
  clear h hR
  go_enter Tryz.func149, Tryz.ntmps149
  go_wp2_with fail
  refine NU.out.mono ?_
  rintro e w1 ⟨n0, rfl, hn0, hn1, hx, hs, b1⟩
  obtain ⟨n, rfl⟩ := Int.eq_ofNat_of_zero_le hn0
  have HX := hide hx
  have HS := hide hs
  clear hx hs NU
  go_wp2_with fail
  go_loopw [5, 8] (fun ov iv wr => ∃ (k : Nat) (cs : List Value) (sk : Option (List UInt8)), k ≤ n ∧ iv = .int .i64 k ∧ Hid (wr.ownsRow w.heap.size 73 3 ov k cs) ∧ Hid (RS wr q sk) ∧ But (One q) w wr ∧ Hid (MI 73 3 Cda P (s.bind (manyP P)) n w wr k cs sk)) (fun _ iv _ => n - (intOf iv).toNat)
  case atStart =>
    exact ⟨0, [], rest s numP, by omega, rfl, hide ⟨rfl, Or.inl ⟨rfl, rfl⟩⟩, HS, b1, hide (MI.start _ _ _ _ _ HX.out)⟩
  case round =>
    obtain ⟨k, cs, sk, hk, rfl, hown, hst, hbt, hE⟩ := hrel
    have hbs := hbt.size
    have hq := HQ.out
    clear HX
    by_cases hlt : k < n
    · cases sk with
      | none =>
        obtain ⟨p, hp, row, hf⟩ := id hst.out
        have c1 := row.c 1 _ rfl
        have RN : Hid (s.bind (manyP P) = none) := hide (by
          rcases hE.out with ⟨_, h⟩ | ⟨_, _, h, _⟩
          · exact h
          · cases h)
        clear row hf hE
        unfold flt at c1
        go_wp2_with fail
        go_ret
        obtain ⟨a, c, hv⟩ := own_slice hown.out
        refine ⟨u5, rfl, ⟨a, _, c, hv⟩, ?_, hbt, ?_⟩
        · rw [rest_none RN.out]; exact hst.out
        · intro x r e; rw [RN.out] at e; cases e
      | some l =>
        have c1 := hst.out.2.c 1 _ rfl
        have CF := hide (HR.out (some l) wr hst.out)
        go_wp2_with fail
        refine CF.out.mono ?_
        rintro e w2 ⟨i1, i2, s1, rfl, hs2, b2, hxi⟩
        have ow := own_row hown.out
        have hown2 := hown.out.kept (b2.grown (q := q) (fun _ h => h)) (by
          cases hb' : u5.ownBlock with
          | none => exact Or.inl rfl
          | some j => exact Or.inr (fun e => by cases e; have := (ow q hb').1; omega))
        have HX2 := hide hxi
        have HS2 := hide hs2
        have B2 := hide (hbt.trans b2)
        have hsz := B2.out.size
        have S1 := hide (newT_keep (e := 73) hq b2)
        clear hxi hs2 b2 CF hown c1 ow
        have hown := hown2
        go_wp2_with (at_builtin; refine wpList_append_own _ rfl (.tmp 15) (.tmp 19) 27 rfl w.heap.size 73 i0 (.agg #[.int .i64 0, .int .i64 0, .string ⟨#[]⟩]) 3 32 Tryz.underlying27 hi0 hz0 hz1 hz2 rfl (by decide) _ _ _ rfl (hown.alloc _) ⟨w2.heap.size, 0, none⟩ 1 1 [.int .i64 i1, .int .i64 i2, .string s1] rfl rfl (at_cells _ _ _) (fun x hx => by simp at hx; rcases hx with rfl | rfl | rfl <;> rfl) (by unfold maxLen; omega) (by omega) (by simp; omega) ?_)
        intro v' w3 hown' hgrow _
        have ow := own_row (hown.alloc (.cells #[.int .i64 i1, .int .i64 i2, .string s1] 73))
        have hs3 := hide ((HS2.out.kept (bel_one w2 (.cells #[.int .i64 i1, .int .i64 i2, .string s1] 73))).grow hgrow (e := 73) (by decide) (fun j hj => ⟨by have := (ow j hj).1; omega, (ow j hj).2⟩))
        have b3 := (B2.out.trans (But.of (bel_one w2 (.cells #[.int .i64 i1, .int .i64 i2, .string s1] 73)))).grow hgrow (fun j hj => (ow j hj).1)
        have G1 : ∀ W : World, Same (NewT 73 W w2) w2 w3 := fun W i hi => by
          have a1 : Same (NewT 73 W w2) w2 (w2.alloc (.cells #[.int .i64 i1, .int .i64 i2, .string s1] 73)) := fun i hi => same_below (bel_one w2 (.cells #[.int .i64 i1, .int .i64 i2, .string s1] 73)) i hi.new.2
          exact (newT_grow (w := W) hgrow (fun j hj => (ow j hj).2) i (newT_more a1 i hi)).trans (a1 i hi)
        have hE2 := hide (hE.out.step (w2 := w2) (w3 := w3) (cs' := [.int .i64 i1, .int .i64 i2, .string s1]) keepsC_da hlt hown.1 rfl (fun i hi => (G1 w i (newT_more S1.out i hi)).trans (S1.out i hi)) hbs HX2.out (G1 wr))
        have hown4 := hide hown'
        clear hown' hgrow hown hE hst ow B2 HS2 HX2 S1 G1
        go_wp2
        go_roundw
        case rel => exact ⟨k + 1, cs ++ [.int .i64 i1, .int .i64 i2, .string s1], rest (some l) P, by omega, by go_num, hown4, hs3, b3, hE2⟩
        case measure => simp [intOf]; omega
    · have e0 : k = n := by omega
      subst e0
      have RN := hide (hE.out.done keepsC_da cellsC_da hown.out)
      clear hE
      go_wp2_with fail
      go_ret
      obtain ⟨a, c, hv⟩ := own_slice hown.out
      refine ⟨u5, rfl, ⟨a, _, c, hv⟩, ?_, hbt, RN.out.2⟩
      rw [RN.out.1]; exact hst.out
theorem keepsC_fn : KeepsC Cfn := fun _ _ _ _ _ _ h k hc => h.to k hc
theorem cellsC_fn : ∀ S W b o cs x, cs.length = 4 → (∀ t, t < 4 → World.cell? W ⟨b, o + t, none⟩ = cs[t]?) → Cfn S W cs x → EFn S W b o x := by
  intro S W b o cs x hl hc h
  have c0 := hc 0 (by decide)
  have c1 := hc 1 (by decide)
  have c2 := hc 2 (by decide)
  have c3 := hc 3 (by decide)
  obtain ⟨y0, y1, y2, y3, rfl⟩ : ∃ y0 y1 y2 y3, cs = [y0, y1, y2, y3] := by
    match cs, hl with
    | [y0, y1, y2, y3], _ => exact ⟨y0, y1, y2, y3, rfl⟩
  unfold Cfn at h
  simp at h c0 c1 c2 c3
  obtain ⟨hi, rfl, rfl, h1, h2⟩ := h
  exact ⟨y2, y3, hi, c0, c1, c2, c3, h1, h2⟩
/-- A function of a reader that takes one thing. -/
def REfn (g : FuncId) (q : Nat) (P : List UInt8 → Option (Fn × List UInt8)) : Prop :=
  ∀ s w, RS w q s → Calls Tryz.prog g #[ptr q] w fun e w' => ∃ (i1 : Int) (t1 : Bool) (a1 : Option Addr) (n1 : Nat) (m1 : Nat) (a2 : Option Addr) (n2 : Nat) (m2 : Nat), e = .returned (.agg #[.int .i64 i1, .bool t1, .slice a1 n1 m1, .slice a2 n2 m2]) ∧ RS w' q (rest s P) ∧ But (One q) w w' ∧ ∀ x r, s.bind P = some (x, r) → Cfn (NewT 50 w w') w' [.int .i64 i1, .bool t1, .slice a1 n1 m1, .slice a2 n2 m2] x
theorem Tryz.parts50 : (Tryz.prog.info? 50).map (fun i => (i.zero, i.size, i.bytes)) = some (some (.agg #[.int .i64 0, .bool false, .slice none 0 0, .slice none 0 0]), 4, 64) := by kernel_rfl
set_option maxRecDepth 100000 in
set_option maxHeartbeats 3200000 in
theorem many_fn (g : FuncId) (q : Nat) (P : List UInt8 → Option (Fn × List UInt8)) (hg : ∀ args w, (callFunc g args).run Tryz.prog w = .ok (.enter g args) w) (hR : REfn g q P)
    (s : Option (List UInt8)) (w : World) (h : RS w q s) :
    Calls Tryz.prog 145 #[ptr q, .func (.func g) #[] #[]] w fun e w' => ∃ v, e = .returned v ∧ (∃ a n c, v = .slice a n c) ∧ RS w' q (rest s (manyP P)) ∧ But (One q) w w' ∧ ∀ x r, s.bind (manyP P) = some (x, r) → Sl 4 EFn (New w w') w' v x := by
  obtain ⟨i0, hi0, hprod⟩ := Option.map_eq_some_iff.1 Tryz.parts50
  simp only [Prod.mk.injEq] at hprod
  obtain ⟨hz0, hz1, hz2⟩ := hprod
  have HQ := hide h.lt
  have NU := hide (number_any q s w h)
  have HR := hide hR
  clear h hR
  go_enter Tryz.func145, Tryz.ntmps145
  go_wp2_with fail
  refine NU.out.mono ?_
  rintro e w1 ⟨n0, rfl, hn0, hn1, hx, hs, b1⟩
  obtain ⟨n, rfl⟩ := Int.eq_ofNat_of_zero_le hn0
  have HX := hide hx
  have HS := hide hs
  clear hx hs NU
  go_wp2_with fail
  go_loopw [5, 8] (fun ov iv wr => ∃ (k : Nat) (cs : List Value) (sk : Option (List UInt8)), k ≤ n ∧ iv = .int .i64 k ∧ Hid (wr.ownsRow w.heap.size 50 4 ov k cs) ∧ Hid (RS wr q sk) ∧ But (One q) w wr ∧ Hid (MI 50 4 Cfn P (s.bind (manyP P)) n w wr k cs sk)) (fun _ iv _ => n - (intOf iv).toNat)
  case atStart =>
    exact ⟨0, [], rest s numP, by omega, rfl, hide ⟨rfl, Or.inl ⟨rfl, rfl⟩⟩, HS, b1, hide (MI.start _ _ _ _ _ HX.out)⟩
  case round =>
    obtain ⟨k, cs, sk, hk, rfl, hown, hst, hbt, hE⟩ := hrel
    have hbs := hbt.size
    have hq := HQ.out
    clear HX
    by_cases hlt : k < n
    · cases sk with
      | none =>
        obtain ⟨p, hp, row, hf⟩ := id hst.out
        have c1 := row.c 1 _ rfl
        have RN : Hid (s.bind (manyP P) = none) := hide (by
          rcases hE.out with ⟨_, h⟩ | ⟨_, _, h, _⟩
          · exact h
          · cases h)
        clear row hf hE
        unfold flt at c1
        go_wp2_with fail
        go_ret
        obtain ⟨a, c, hv⟩ := own_slice hown.out
        refine ⟨u5, rfl, ⟨a, _, c, hv⟩, ?_, hbt, ?_⟩
        · rw [rest_none RN.out]; exact hst.out
        · intro x r e; rw [RN.out] at e; cases e
      | some l =>
        have c1 := hst.out.2.c 1 _ rfl
        have CF := hide (HR.out (some l) wr hst.out)
        go_wp2_with fail
        refine CF.out.mono ?_
        rintro e w2 ⟨i1, t1, a1, n1, m1, a2, n2, m2, rfl, hs2, b2, hxi⟩
        have ow := own_row hown.out
        have hown2 := hown.out.kept (b2.grown (q := q) (fun _ h => h)) (by
          cases hb' : u5.ownBlock with
          | none => exact Or.inl rfl
          | some j => exact Or.inr (fun e => by cases e; have := (ow q hb').1; omega))
        have HX2 := hide hxi
        have HS2 := hide hs2
        have B2 := hide (hbt.trans b2)
        have hsz := B2.out.size
        have S1 := hide (newT_keep (e := 50) hq b2)
        clear hxi hs2 b2 CF hown c1 ow
        have hown := hown2
        go_wp2_with (at_builtin; refine wpList_append_own _ rfl (.tmp 15) (.tmp 19) 24 rfl w.heap.size 50 i0 (.agg #[.int .i64 0, .bool false, .slice none 0 0, .slice none 0 0]) 4 64 Tryz.underlying24 hi0 hz0 hz1 hz2 rfl (by decide) _ _ _ rfl (hown.alloc _) ⟨w2.heap.size, 0, none⟩ 1 1 [.int .i64 i1, .bool t1, .slice a1 n1 m1, .slice a2 n2 m2] rfl rfl (at_cells _ _ _) (fun x hx => by simp at hx; rcases hx with rfl | rfl | rfl | rfl <;> rfl) (by unfold maxLen; omega) (by omega) (by simp; omega) ?_)
        intro v' w3 hown' hgrow _
        have ow := own_row (hown.alloc (.cells #[.int .i64 i1, .bool t1, .slice a1 n1 m1, .slice a2 n2 m2] 50))
        have hs3 := hide ((HS2.out.kept (bel_one w2 (.cells #[.int .i64 i1, .bool t1, .slice a1 n1 m1, .slice a2 n2 m2] 50))).grow hgrow (e := 50) (by decide) (fun j hj => ⟨by have := (ow j hj).1; omega, (ow j hj).2⟩))
        have b3 := (B2.out.trans (But.of (bel_one w2 (.cells #[.int .i64 i1, .bool t1, .slice a1 n1 m1, .slice a2 n2 m2] 50)))).grow hgrow (fun j hj => (ow j hj).1)
        have G1 : ∀ W : World, Same (NewT 50 W w2) w2 w3 := fun W i hi => by
          have a1 : Same (NewT 50 W w2) w2 (w2.alloc (.cells #[.int .i64 i1, .bool t1, .slice a1 n1 m1, .slice a2 n2 m2] 50)) := fun i hi => same_below (bel_one w2 (.cells #[.int .i64 i1, .bool t1, .slice a1 n1 m1, .slice a2 n2 m2] 50)) i hi.new.2
          exact (newT_grow (w := W) hgrow (fun j hj => (ow j hj).2) i (newT_more a1 i hi)).trans (a1 i hi)
        have hE2 := hide (hE.out.step (w2 := w2) (w3 := w3) (cs' := [.int .i64 i1, .bool t1, .slice a1 n1 m1, .slice a2 n2 m2]) keepsC_fn hlt hown.1 rfl (fun i hi => (G1 w i (newT_more S1.out i hi)).trans (S1.out i hi)) hbs HX2.out (G1 wr))
        have hown4 := hide hown'
        clear hown' hgrow hown hE hst ow B2 HS2 HX2 S1 G1
        go_wp2
        go_roundw
        case rel => exact ⟨k + 1, cs ++ [.int .i64 i1, .bool t1, .slice a1 n1 m1, .slice a2 n2 m2], rest (some l) P, by omega, by go_num, hown4, hs3, b3, hE2⟩
        case measure => simp [intOf]; omega
    · have e0 : k = n := by omega
      subst e0
      have RN := hide (hE.out.done keepsC_fn cellsC_fn hown.out)
      clear hE
      go_wp2_with fail
      go_ret
      obtain ⟨a, c, hv⟩ := own_slice hown.out
      refine ⟨u5, rfl, ⟨a, _, c, hv⟩, ?_, hbt, RN.out.2⟩
      rw [RN.out.1]; exact hst.out
end Go.Proofs.YtcbfpikggphokaaGreatDoor

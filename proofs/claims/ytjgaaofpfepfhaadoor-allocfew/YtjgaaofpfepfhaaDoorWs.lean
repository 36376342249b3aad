/-
  The program's written, crossing, named.
-/
import Derived.Test.YtjgaaofpfepfhaaDoorParts
import Derived.Test.YtjgaaofpfepfhaaDoorFits
import Derived.Test.YtjgaaofpfepfhaaDoorCst
import Derived.Test.YtjgaaofpfepfhaaDoorR0
namespace Go.Proofs.YtjgaaofpfepfhaaDoor
open Go.RowKit
set_option linter.unusedSimpArgs false
set_option linter.unusedVariables false
theorem written_any (x : Ir) (w : World) (h : df x = -1 ∨ (0 ≤ df x ∧ df x < 60)) : Calls Tryd.prog 40 #[xv x] w fun e w' => e = .returned (.int .i64 ((wrS x : Nat) : Int)) ∧ Below w.heap.size w w' := by
  have B0 := Bx.made x w
  have DA := hide (fun U => defs_any x U)
  have WS : Hid (wrS x = if df x = -1 then 0 else one (df x)) := rfl
  generalize wrS x = ws at *
  generalize hd : df x = dd at *
  clear hd
  obtain ⟨op, dst, aa, bb, cc, nn, mm⟩ := x
  unfold xv xc at *
  go_enter Tryd.func40, Tryd.ntmps40
  go_upto_region 1 with fail
  refine gw (motive := fun x => Code.wp _ _ _ _ x) (fun V => Hid (Bx w.heap.size ⟨op, dst, aa, bb, cc, nn, mm⟩ w V)) B0 ?_
  rintro V HV
  clear B0
  obtain ⟨e0, e1, e2, e3, e4, e5, e6⟩ := HV.out.c7 (Below.refl _ V)
  simp only at e0 e1 e2 e3 e4 e5 e6
  go_wp2_with fail
  refine (DA.out _).mono ?_
  rintro e w3 ⟨rfl, hb3⟩
  have HB := hide (bel_tr HV.out.b hb3)
  clear hb3 DA e0 e1 e2 e3 e4 e5 e6
  by_cases h1 : dd = -1
  · subst h1
    have W2 : Hid (ws = 0) := by show _ = _; rw [WS.out, if_pos rfl]
    go_wp2_with fail
    go_ret
    exact ⟨by rw [W2.out]; rfl, HB.out⟩
  · have W2 : Hid (ws = one dd) := by show _ = _; rw [WS.out, if_neg h1]
    obtain ⟨g0, g1⟩ : 0 ≤ dd ∧ dd < 60 := by
      rcases h with h | h
      · exact absurd h h1
      · exact h
    obtain ⟨k, rfl⟩ : ∃ k : Nat, dd = (k : Int) := ⟨dd.toNat, by omega⟩
    have hs := shl_nat k (by omega)
    go_wp2_with fail
    go_ret
    exact ⟨by rw [W2.out]; first | rfl | (rw [← hs]; rfl), HB.out⟩
/-- What is behind the first k that are calls, but what they write. -/
def crT (l : List Ir) (F : Nat → Nat) : Nat → Nat
  | 0 => 0
  | k + 1 => if (l.getD k ir0).op = 14 then crT l F k ||| dn (F k) (wrS (l.getD k ir0)) else crT l F k
theorem crT_is (l : List Ir) (F : Nat → Nat) (k : Nat) : crT l F (k + 1) = if (l.getD k ir0).op = 14 then crT l F k ||| dn (F k) (wrS (l.getD k ir0)) else crT l F k := rfl
theorem wr_lim {l : List Ir} (h : Ok60 l) (k : Nat) (hk : k < l.length) : wrS (l.getD k ir0) < lim := by
  rw [show l.getD k ir0 = l[k] by simp [List.getD, hk]]
  exact h.wr (List.getElem_mem hk)
theorem rd_lim {l : List Ir} (h : Ok60 l) (k : Nat) (hk : k < l.length) : rdS (l.getD k ir0) < lim := by
  rw [show l.getD k ir0 = l[k] by simp [List.getD, hk]]
  exact h.rd (List.getElem_mem hk)
theorem crT_lim {l : List Ir} {F : Nat → Nat} (h : Ok60 l) (hF : ∀ i, i < l.length → F i < lim) : ∀ k, k ≤ l.length → crT l F k < lim
  | 0, _ => by simp [crT]; decide
  | k + 1, hk => by
    rw [crT_is]
    split
    · exact or_lim (crT_lim h hF k (by omega)) (dn_lim (hF k (by omega)) (wr_lim h k (by omega)))
    · exact crT_lim h hF k (by omega)
set_option maxRecDepth 100000 in
set_option maxHeartbeats 6400000 in
theorem crossing_any (q : Option Addr) (cap : Nat) (l : List Ir) (rb c : Nat) (F : Nat → Nat) (w : World) (hl : l.length ≤ 1000) (hr : IR w.heap.size w q l) (ho : Ok60 l) (hb : NRow rb l.length F w) (hF : ∀ i, i < l.length → F i < lim) :
    Calls Tryd.prog 21 #[.slice q l.length cap, .slice (some ⟨rb, 0, none⟩) l.length c] w fun e w' => e = .returned (.int .i64 ((crT l F l.length : Nat) : Int)) ∧ Below w.heap.size w w' := by
  have HL := hide hl
  have HR := hide hr
  have HO := hide ho
  have HN := hide hb
  have HF := hide hF
  have C0 : Hid (crT l F 0 = 0) := rfl
  clear hl hr ho hb hF
  go_enter Tryd.func21, Tryd.ntmps21
  go_wp2_with fail
  go_loopw [4, 5, 6, 9] (fun s4 _ _ s9 wr => ∃ k : Nat, k ≤ l.length ∧ s4 = .int .i64 ((crT l F k : Nat) : Int) ∧ s9 = .int .i64 (k : Int) ∧ Hid (Below w.heap.size w wr)) (fun _ _ _ s9 _ => l.length - (intOf s9).toNat)
  case atStart => exact ⟨0, Nat.zero_le _, by rw [C0.out]; rfl, rfl, Below.refl _ _⟩
  case round =>
    obtain ⟨k, hk, rfl, rfl, HB⟩ := hrel
    have hk1 := HL.out
    by_cases hlt : k < l.length
    · obtain ⟨g, o, rfl, hb, hcx, hox⟩ := HR.out k hlt
      obtain ⟨d0, d1, d2, d3, d4, d5, d6⟩ := hcx.of (HB.out.block g hb)
      have hB0 := Bx.made l[k] wr
      have hG : l.getD k ir0 = l[k] := by simp [List.getD, hlt]
      have HD6 := (HO.out l[k] (List.getElem_mem hlt)).2
      have WA := hide (fun U => written_any l[k] U HD6)
      have CT := hide (crT_is l F k)
      have hw := wr_lim HO.out k hlt
      have hC := crT_lim HO.out HF.out k hk
      have hFk := HF.out k hlt
      rw [hG] at CT hw
      have hbd := bits_dn hFk hw
      have hbo := bits_or hC (dn_lim hFk hw)
      have h1 : (k : Int) < (l.length : Int) := by omega
      have h0 : (0 : Int) ≤ (k : Int) := by omega
      clear hcx hG HD6
      generalize hC1 : crT l F (k + 1) = C1 at *
      have HC1 := hide hC1
      clear hC1
      generalize crT l F k = Ck at *
      generalize l[k] = x at *
      obtain ⟨op, dst, aa, bb, cc, nn, mm⟩ := x
      unfold xv xc at WA
      unfold xc at hB0
      simp only at d0 d1 d2 d3 d4 d5 d6 CT
      generalize wrS ⟨op, dst, aa, bb, cc, nn, mm⟩ = ws at *
      go_upto_region 4 with fail
      refine gw (motive := fun x => Code.wp _ _ _ _ x) (fun V => Hid (Bx wr.heap.size ⟨op, dst, aa, bb, cc, nn, mm⟩ wr V)) hB0 ?_
      rintro V HV
      clear hB0 d0 d1 d2 d3 d4 d5 d6
      obtain ⟨e0, e1, e2, e3, e4, e5, e6⟩ := HV.out.c7 (Below.refl _ V)
      simp only at e0 e1 e2 e3 e4 e5 e6
      have HBV := hide (bel_tr HB.out HV.out.b)
      have HNV := hide (HN.out.of (HBV.out.block _ HN.out.lt))
      have hy := HNV.out.c k hlt
      by_cases h14 : op = 14
      · subst h14
        have C2 : Hid (C1 = Ck ||| dn (F k) ws) := by show _ = _; rw [CT.out, if_pos rfl]
        rw [← C2.out] at hbo
        generalize dn (F k) ws = Dw at *
        generalize hFkE : F k = Fk at *
        replace hFkE := hide hFkE
        go_wp2_with fail
        have e0' : V.cell? ⟨wr.heap.size, 0, none⟩ = some (.int .i64 14) := by simpa using e0
        have e1' : V.cell? ⟨wr.heap.size, 1, none⟩ = some (.int .i64 dst) := by simpa using e1
        have e2' : V.cell? ⟨wr.heap.size, 2, none⟩ = some (.int .i64 aa) := by simpa using e2
        have e3' : V.cell? ⟨wr.heap.size, 3, none⟩ = some (.int .i64 bb) := by simpa using e3
        have e4' : V.cell? ⟨wr.heap.size, 4, none⟩ = some (.int .i64 cc) := by simpa using e4
        have e5' : V.cell? ⟨wr.heap.size, 5, none⟩ = some (.int .i64 nn) := by simpa using e5
        have e6' : V.cell? ⟨wr.heap.size, 6, none⟩ = some (.int .i64 mm) := by simpa using e6
        refine wp_region_held_drew (S := fun X => X.cell? ⟨rb, k, none⟩ = some (.int .i64 ((Fk : Nat) : Int)) ∧ X.cell? ⟨wr.heap.size, 0, none⟩ = some (.int .i64 14) ∧ X.cell? ⟨wr.heap.size, 1, none⟩ = some (.int .i64 dst) ∧ X.cell? ⟨wr.heap.size, 2, none⟩ = some (.int .i64 aa) ∧ X.cell? ⟨wr.heap.size, 3, none⟩ = some (.int .i64 bb) ∧ X.cell? ⟨wr.heap.size, 4, none⟩ = some (.int .i64 cc) ∧ X.cell? ⟨wr.heap.size, 5, none⟩ = some (.int .i64 nn) ∧ X.cell? ⟨wr.heap.size, 6, none⟩ = some (.int .i64 mm)) (by kernel_rfl) ⟨hy, e0', e1', e2', e3', e4', e5', e6'⟩ ?_
        intro hHeld
        change wpAnyH _ _ _ _ _ _ _ _ (World.drew _)
        refine wpAnyH_take (i := 0) (v := ?_) rfl (by kernel_rfl) (by kernel_rfl) (by kernel_rfl) (fun _ _ _ h => h) (Or.inl ⟨by kernel_rfl, ?hy⟩) (by assumption) ?_
        case hy => intro w hSw; obtain ⟨gy, q0, q1, q2, q3, q4, q5, q6⟩ := hSw; go_simp; try with_reducible rfl
        simp only [Act.put, List.getElem_toArray, List.getElem_cons_succ, List.getElem_cons_zero, List.setIfInBounds_toArray, List.set_cons_zero, List.set_cons_succ]
        refine wpAnyH_take (i := 1) (v := ?_) rfl (by kernel_rfl) (by kernel_rfl) (by kernel_rfl) (fun _ _ _ h => h) (Or.inl ⟨by kernel_rfl, ?hy⟩) (by assumption) ?_
        case hy => intro w hSw; obtain ⟨gy, q0, q1, q2, q3, q4, q5, q6⟩ := hSw; go_simp; try with_reducible rfl
        simp only [Act.put, List.getElem_toArray, List.getElem_cons_succ, List.getElem_cons_zero, List.setIfInBounds_toArray, List.set_cons_zero, List.set_cons_succ]
        refine wpAnyH_take (i := 2) (v := ?_) rfl (by kernel_rfl) (by kernel_rfl) (by kernel_rfl) (fun _ _ _ h => h) (Or.inl ⟨by kernel_rfl, ?hy⟩) (by assumption) ?_
        case hy => intro w hSw; obtain ⟨gy, q0, q1, q2, q3, q4, q5, q6⟩ := hSw; go_simp; try with_reducible rfl
        simp only [Act.put, List.getElem_toArray, List.getElem_cons_succ, List.getElem_cons_zero, List.setIfInBounds_toArray, List.set_cons_zero, List.set_cons_succ]
        refine wpAnyH_take (i := 3) (v := ?_) rfl (by kernel_rfl) (by kernel_rfl) (by kernel_rfl) (fun _ _ _ h => h) (Or.inl ⟨by kernel_rfl, ?hy⟩) (by assumption) ?_
        case hy => intro w hSw; obtain ⟨gy, q0, q1, q2, q3, q4, q5, q6⟩ := hSw; go_simp; try with_reducible rfl
        simp only [Act.put, List.getElem_toArray, List.getElem_cons_succ, List.getElem_cons_zero, List.setIfInBounds_toArray, List.set_cons_zero, List.set_cons_succ]
        refine wpAnyH_take (i := 4) (v := ?_) rfl (by kernel_rfl) (by kernel_rfl) (by kernel_rfl) (fun _ _ _ h => h) (Or.inl ⟨by kernel_rfl, ?hy⟩) (by assumption) ?_
        case hy => intro w hSw; obtain ⟨gy, q0, q1, q2, q3, q4, q5, q6⟩ := hSw; go_simp; try with_reducible rfl
        simp only [Act.put, List.getElem_toArray, List.getElem_cons_succ, List.getElem_cons_zero, List.setIfInBounds_toArray, List.set_cons_zero, List.set_cons_succ]
        refine wpAnyH_take (i := 5) (v := ?_) rfl (by kernel_rfl) (by kernel_rfl) (by kernel_rfl) (fun _ _ _ h => h) (Or.inl ⟨by kernel_rfl, ?hy⟩) (by assumption) ?_
        case hy => intro w hSw; obtain ⟨gy, q0, q1, q2, q3, q4, q5, q6⟩ := hSw; go_simp; try with_reducible rfl
        simp only [Act.put, List.getElem_toArray, List.getElem_cons_succ, List.getElem_cons_zero, List.setIfInBounds_toArray, List.set_cons_zero, List.set_cons_succ]
        refine wpAnyH_ready (rs := [6]) (by kernel_rfl) (by simp) ?_
        refine AllReadyH.cons rfl (fun K hK => ?_) AllReadyH.nil
        go_simp
        refine (WA.out _).mono ?_
        rintro e w3 ⟨rfl, hb3⟩
        have hb4 := bel_tr (bel_drew V) hb3
        have HB3 := hide (bel_tr HBV.out hb4)
        have hc3 := fun j => hb4.cell (p := ⟨wr.heap.size, j, none⟩) HV.out.lt
        have hy3 : w3.cell? ⟨rb, k, none⟩ = some (.int .i64 ((Fk : Nat) : Int)) := by rw [← hFkE.out]; exact (HNV.out.of (hb4.block _ HNV.out.lt)).c k hlt
        have k0 := (hc3 0).trans e0'
        have k1 := (hc3 1).trans e1'
        have k2 := (hc3 2).trans e2'
        have k3 := (hc3 3).trans e3'
        have k4 := (hc3 4).trans e4'
        have k5 := (hc3 5).trans e5'
        have k6 := (hc3 6).trans e6'
        clear e0 e1 e2 e3 e4 e5 e6 hc3 hb3
        refine hK.out _ _ ⟨hy3, k0, k1, k2, k3, k4, k5, k6⟩ (fun hHeld => ?_)
        clear hK K
        refine wpAnyH_take (i := 7) (v := ?_) rfl (by kernel_rfl) (by kernel_rfl) (by kernel_rfl) (fun _ _ _ h => h) (Or.inl ⟨by kernel_rfl, ?hy⟩) (by assumption) ?_
        case hy => intro w hSw; obtain ⟨gy, q0, q1, q2, q3, q4, q5, q6⟩ := hSw; go_simp; try with_reducible rfl
        simp only [Act.put, List.getElem_toArray, List.getElem_cons_succ, List.getElem_cons_zero, List.setIfInBounds_toArray, List.set_cons_zero, List.set_cons_succ]
        refine wpAnyH_take (i := 8) (v := ?_) rfl (by kernel_rfl) (by kernel_rfl) (by kernel_rfl) (fun _ _ _ h => h) (Or.inl ⟨by kernel_rfl, ?hy⟩) (by assumption) ?_
        case hy => intro w hSw; obtain ⟨gy, q0, q1, q2, q3, q4, q5, q6⟩ := hSw; go_simp; try with_reducible rfl
        simp only [Act.put, List.getElem_toArray, List.getElem_cons_succ, List.getElem_cons_zero, List.setIfInBounds_toArray, List.set_cons_zero, List.set_cons_succ]
        refine wpAnyH_ready (rs := [9]) (by kernel_rfl) (by simp) ?_
        refine AllReadyH.cons rfl (fun K hK => ?_) AllReadyH.nil
        go_simp
        refine hK.out _ _ hHeld (fun hHeld => ?_)
        clear hK K
        refine wpAnyH_done (by kernel_rfl) ?_ _
        go_wp2_with fail
        go_roundw
        case rel => exact ⟨k + 1, hlt, by rw [HC1.out], by go_num, HB3⟩
        case measure => simp [intOf]; omega
      · have C2 : Hid (C1 = Ck) := by show _ = _; rw [CT.out, if_neg h14]
        go_wp2_with fail
        go_roundw
        case rel => exact ⟨k + 1, hlt, by rw [HC1.out, C2.out], by go_num, HBV⟩
        case measure => simp [intOf]; omega
    · obtain rfl : k = l.length := by omega
      have h1 : ¬ (l.length : Int) < (l.length : Int) := by omega
      go_wp2_with fail
      go_ret
      exact ⟨rfl, HB.out⟩
end Go.Proofs.YtjgaaofpfepfhaaDoor

/-
  ValidLater: with one function more, behind all others, a valid module stays valid, with the same heights; with a wrong one it is not.
-/
import Derived.Test.YtamofhkmhjckaabGreatDoorLat1
namespace Go.Proofs.YtamofhkmhjckaabGreatDoor
open Go.RowKit
set_option linter.unusedSimpArgs false
set_option linter.unusedVariables false

def nil2 : SV := (sg0, .slice none 0 0, .slice none 0 0)
theorem nil2_cells (W : World) : ∀ j u, (sces [nil2])[j]? = some u → (W.alloc (.cells #[.slice none 0 0, .slice none 0 0] 42)).cell? ((⟨W.heap.size, 0, none⟩ : Addr).add j) = some u := by
  intro j u hu
  have R := Row.made W #[.slice none 0 0, .slice none 0 0] 42
  match j, hu with
  | 0, hu => cases hu; exact R.c 0 _ rfl
  | 1, hu => cases hu; exact R.c 1 _ rfl
  | (n + 2), hu => simp [sces, sce, nil2] at hu
theorem nil2_ok (S : Nat → Prop) (W : World) : ∀ x ∈ [nil2], SvOk S W x := fun x hx => by
  rw [List.mem_singleton.1 hx]; exact ⟨Sl.isNil _ _ _ _, Sl.isNil _ _ _ _⟩
theorem SRow.store {lo base b o : Nat} {v u : Value} {fv : List SV} {W : World} (h : SRow lo base v fv W) (h1 : lo ≤ b) (h2 : b < base) : SRow lo base v fv (W.setCell ⟨b, o, none⟩ u) :=
  ⟨ownsRow_setCell_below h.own h2 u, fun _ hx => (h.ok _ hx).to (fun k hk => Below.heap_setCell _ _ _ _ (by show k ≠ b; have hk : k < lo := hk; omega)) (fun _ hk => hk), h.lb, by have := h.le; simp; omega⟩
theorem SRow.below {lo base B : Nat} {v : Value} {fv : List SV} {W W' : World} (h : SRow lo base v fv W) (k : Below B W W') (hB : ∀ g, v.ownBlock = some g → g < B) (hl : lo ≤ B) : SRow lo base v fv W' := by
  refine ⟨⟨h.own.1, ?_⟩, fun x hx => (h.ok x hx).to (fun i hi => k.block i (by have hi : i < lo := hi; omega)) (fun _ hi => hi), h.lb, Nat.le_trans h.le k.size⟩
  rcases h.own.2 with e | ⟨g, cap, cur, e, h1, h2, h3⟩
  · exact .inl e
  · refine .inr ⟨g, cap, cur, e, h1, ?_, h3⟩
    rw [k.block g (hB g (by rw [e]; rfl))]; exact h2
/-- how Heights of a valid module ends -/
theorem he_ends {w : World} {l : List (List Int)} {f : Int} {e : Ending} {w' : World} (h : HeEnds w (.ok l) f e w') : ∃ (a : Option Addr) (n c : Nat) (ev : Value) (g : List Int), e = .returned (.tuple #[.slice a n c, ev]) ∧ Sl 1 EInt (Lt w'.heap.size) w' (.slice a n c) g ∧ Below w.heap.size w w' ∧ ((∃ p, ev = flt p ∧ ¬ (0 ≤ f ∧ f < l.length) ∧ g = []) ∨ (ev = .nilIface ∧ ∃ k : Nat, f = k ∧ l[k]? = some g)) := by
  rcases h with ⟨hn, p, e1, _, b⟩ | ⟨k, g, a, c, e1, e2, _, e3, s, b⟩
  · exact ⟨none, 0, 0, _, [], e1, Sl.isNil _ _ _ _, b, .inl ⟨p, rfl, hn, rfl⟩⟩
  · exact ⟨a, g.length, c, _, g, e3, s.to keeps_int (fun _ _ => rfl) (fun i hi => hi.2), b, .inr ⟨rfl, k, e1, e2⟩⟩
set_option maxRecDepth 100000 in
set_option maxHeartbeats 16000000 in
theorem later_walk (V : MoV) (M : Mo) (f : Int) (w : World) (hL : Laid w) (h : IsMo w.heap.size w V M) (hS : MoSm M) :
    Calls Tryz.prog 5 #[moV V M, .int .i64 f] w fun e w' => e = .returned (.bool true) ∧ Below w.heap.size w w' := by
  obtain ⟨i42, hi42, hz420, hz421, hz422⟩ := info_parts Tryz.info42
  obtain ⟨i38, hi38, hz380, hz381, hz382⟩ := info_parts Tryz.info38
  have HB0 := hide (bel_one w (.cells #[V.v0, V.v1, V.v2, .int .i64 M.m0, .int .i64 M.m1, V.v5, V.v6] 29))
  have R0 := hide (Row.made w #[V.v0, V.v1, V.v2, .int .i64 M.m0, .int .i64 M.m1, V.v5, V.v6] 29)
  have EX := hide (examples_any (w.alloc (.cells #[V.v0, V.v1, V.v2, .int .i64 M.m0, .int .i64 M.m1, V.v5, V.v6] 29)) (hL.kept HB0.out))
  have VA := hide (fun (W : World) (b : Below w.heap.size w W) => valid_any V M W (hL.kept b) (h.step b b.size) hS.da)
  have HA := hide (fun (W : World) (b : Below w.heap.size w W) => heights_any V M f W (hL.kept b) (h.step b b.size) hS.da)
  have HM := hide h
  obtain ⟨a0, c0, a1, c1, a2, c2, a5, c5, a6, c6, rfl⟩ := h.forms
  unfold moV at *
  dsimp only at *
  have HLD := hide hL
  have HY := hide hS.da
  clear h hL hS
  cases hc : chkM M with
  | error c =>
    rw [hc] at VA
    go_enter Tryz.func5, Tryz.ntmps5
    go_wp2_with fail
    refine EX.out.mono ?_
    rintro e w1 ⟨rfl, b1⟩
    have R1 := R0.out.kept b1
    have HB1 := hide (below_next HB0.out b1)
    have m0 := R1.c 0 _ rfl
    have m1 := R1.c 1 _ rfl
    have m2 := R1.c 2 _ rfl
    have m3 := R1.c 3 _ rfl
    have m4 := R1.c 4 _ rfl
    have m5 := R1.c 5 _ rfl
    have m6 := R1.c 6 _ rfl
    have HR1 := hide R1
    clear R1 b1 EX
    go_wp2_with fail
    refine (VA.out w1 HB1.out).mono ?_
    rintro e w2 ⟨p, rfl, _, b2⟩
    have HB2 := hide (below_next HB1.out b2)
    clear b2 m0 m1 m2 m3 m4 m5 m6 HR1 VA
    unfold flt
    go_wp2_with fail
    go_ret
    exact ⟨rfl, HB2.out⟩
  | ok hts =>
    have HC := hide hc
    rw [hc] at VA HA
    clear hc
    by_cases hF : M.funcs.length < 8
    · by_cases hG : M.sigs.length < 16
      · have hF' : ¬ (8 ≤ (M.funcs.length : Int)) := by omega
        have hG' : ¬ (16 ≤ (M.sigs.length : Int)) := by omega
        go_enter Tryz.func5, Tryz.ntmps5
        go_wp2_with fail
        refine EX.out.mono ?_
        rintro e w1 ⟨rfl, b1⟩
        have R1 := R0.out.kept b1
        have HB1 := hide (below_next HB0.out b1)
        have m0 := R1.c 0 _ rfl
        have m1 := R1.c 1 _ rfl
        have m2 := R1.c 2 _ rfl
        have m3 := R1.c 3 _ rfl
        have m4 := R1.c 4 _ rfl
        have m5 := R1.c 5 _ rfl
        have m6 := R1.c 6 _ rfl
        have HR1 := hide R1
        clear R1 b1 EX
        go_wp2_with fail
        refine (VA.out w1 HB1.out).mono ?_
        rintro e w2 ⟨rfl, b2⟩
        have R2 := HR1.out.kept b2
        have HB2 := hide (below_next HB1.out b2)
        clear b2 m0 m1 m2 m3 m4 m5 m6 HR1 VA
        have m0 := R2.c 0 _ rfl
        have m1 := R2.c 1 _ rfl
        have m2 := R2.c 2 _ rfl
        have m3 := R2.c 3 _ rfl
        have m4 := R2.c 4 _ rfl
        have m5 := R2.c 5 _ rfl
        have m6 := R2.c 6 _ rfl
        have HR2 := hide R2
        clear R2
        go_wp2_with fail
        refine (HA.out w2 HB2.out).mono ?_
        intro e w3 he
        obtain ⟨ha, hn, hcap, ev, g, rfl, hsl, b3, hev⟩ := he_ends he
        have HR3 := hide (HR2.out.kept b3)
        have HB3 := hide (below_next HB2.out b3)
        have HSL := hide hsl
        have HEV := hide hev
        clear he hsl b3 hev m0 m1 m2 m3 m4 m5 m6 HR2
        have m0 := HR3.out.c 0 _ rfl
        have m1 := HR3.out.c 1 _ rfl
        have m2 := HR3.out.c 2 _ rfl
        have m3 := HR3.out.c 3 _ rfl
        have m4 := HR3.out.c 4 _ rfl
        have m5 := HR3.out.c 5 _ rfl
        have m6 := HR3.out.c 6 _ rfl
        have A4 := bel_one w3 (.cells #[.slice a0 M.sigs.length c0, .slice a1 M.imports.length c1, .slice a2 M.funcs.length c2, .int .i64 M.m0, .int .i64 M.m1, .slice a5 M.globals.length c5, .slice a6 M.data.length c6] 29)
        have HR4 := hide (HR3.out.kept A4)
        have N4 := hide (Row.made w3 #[.slice a0 M.sigs.length c0, .slice a1 M.imports.length c1, .slice a2 M.funcs.length c2, .int .i64 M.m0, .int .i64 M.m1, .slice a5 M.globals.length c5, .slice a6 M.data.length c6] 29)
        have HB4 := hide (below_next HB3.out A4)
        have p0 := HR4.out.c 0 _ rfl
        have b43 := hide HB3.out.size
        have HR3w := hide HR3.out.lt
        have HA4 := hide A4
        clear A4
        go_wp2_with (at_builtin; refine append_sgs _ rfl _ _ 22 rfl i42 Tryz.underlying22 hi42 hz420 hz421 hz422 rfl a0 c0 M.sigs rfl w3.heap.size (by simp) (HM.out.step HB4.out b43.out).sigs (by omega) ?_)
        intro sb sc w5 sv hsv S5 b5
        have eS : (w3.alloc (.cells #[.slice a0 M.sigs.length c0, .slice a1 M.imports.length c1, .slice a2 M.funcs.length c2, .int .i64 M.m0, .int .i64 M.m1, .slice a5 M.globals.length c5, .slice a6 M.data.length c6] 29)).heap.size = w3.heap.size + 1 := by simp
        rw [← eS] at b5
        have HSV := hide hsv
        have hsl5 : sv.length = M.sigs.length := by rw [← hsv]; simp
        have HR5 := hide (HR4.out.kept b5)
        have N5 := hide (N4.out.kept b5)
        have HB5 := hide (below_next HB4.out b5)
        have HS5 := hide S5
        have b5h := hide b5
        have b35 := hide (show w3.heap.size + 1 ≤ w5.heap.size by have := b5.size; rw [eS] at this; exact this)
        clear eS hsv S5 b5 p0 m0 m1 m2 m3 m4 m5 m6 HR3 HR4 N4
        go_wp2_with (at_builtin; go_loud (refine append_sgs_own _ rfl _ _ 22 rfl i42 Tryz.underlying22 hi42 hz420 hz421 hz422 w3.heap.size _ _ sv rfl (HS5.out.next (bel_one w5 _)) ⟨w5.heap.size, 0, none⟩ 1 1 [nil2] rfl rfl (nil2_cells w5) (nil2_ok _ _) (by omega) ?_))
        intro sb' sc' w6 S6 g6
        have A6 := bel_one w5 (.cells #[.slice none 0 0, .slice none 0 0] 42)
        have B6 : Below (w3.heap.size + 1) (w5.alloc (.cells #[.slice none 0 0, .slice none 0 0] 42)) w6 := (Below.refl _ _).grown g6 (by have := A6.size; have := b35.out; omega) (fun k hk => (HS5.out.own.lt k hk).1)
        have HB6 := hide ((below_next HB5.out A6).trans (B6.mono (by have := b43.out; omega)))
        have HR6 := hide ((HR5.out.kept A6).below B6 (by have := b43.out; omega))
        have N6 := hide ((N5.out.kept A6).below B6 (by omega))
        have HS6 := hide S6
        have b36 := hide (show w3.heap.size + 1 ≤ w6.heap.size by have := A6.size; have := b35.out; have := B6.size; omega)
        have HB36 := hide (((HA4.out.trans (b5h.out.mono (by simp))).trans (A6.mono (by have := b35.out; omega))).trans (B6.mono (by omega)))
        have HSL6 := hide (HSL.out.step keeps_int HB36.out (Nat.le_refl _))
        have hws := hide HR3w.out
        clear A6 B6 S6 g6 HS5 HR5 N5
        have n0 := N6.out.c 0 _ rfl
        have f0 := N6.out.fr 0
        have HB7 := hide (show Below w.heap.size w (w6.setCell ⟨w3.heap.size, 0, none⟩ (.slice sb' (M.sigs.length + 1) sc')) from HB6.out.setCell (by show w.heap.size ≤ w3.heap.size; exact b43.out) _)
        have HR7 := hide (HR6.out.other (c := w3.heap.size) 0 (.slice sb' (M.sigs.length + 1) sc') (by have := hws.out; omega))
        have HN7 := hide (N6.out.set 0 (.slice sb' (M.sigs.length + 1) sc'))
        have HS7 := hide (HS6.out.store (b := w3.heap.size) (o := 0) (u := .slice sb' (M.sigs.length + 1) sc') (Nat.le_refl _) (by omega))
        have HSL7 := hide (HSL6.out.to keeps_int (W := w6.setCell ⟨w3.heap.size, 0, none⟩ (.slice sb' (M.sigs.length + 1) sc')) (T := Lt w3.heap.size) (fun i hi => Below.heap_setCell _ _ _ _ (by show i ≠ w3.heap.size; have hi : i < w3.heap.size := hi; omega)) (fun _ hi => hi))
        have HSZ7 := hide (show w3.heap.size + 1 ≤ (w6.setCell ⟨w3.heap.size, 0, none⟩ (.slice sb' (M.sigs.length + 1) sc')).heap.size by simp [World.setCell]; exact b36.out)
        go_upto_region 7 with fail
        clear n0 f0 HR6 N6 HS6 HSL6 HB6 b36
        generalize w6.setCell ⟨w3.heap.size, 0, none⟩ (.slice sb' (M.sigs.length + 1) sc') = w7 at *
        have x2 := HR7.out.c 2 _ rfl
        have x0 := HR7.out.c 0 _ rfl
        have d2 := HN7.out.c 2 _ rfl
        have dz := HN7.out.fr 2
        have hws' := hws.out
        have hsz7 := HSZ7.out
        have HHF := hide (fun (U : World) (b : Below w.heap.size w U) => (HM.out.step b b43.out).funcs)
        have hms : M.sigs.length ≤ 100 := by omega
        go_cut [] from 46 to 57 (fun wx => ∃ (v : Value) (W : World), Hid (R7 w3.heap.size M w7 v W) ∧ wx = W.setCell ⟨w3.heap.size, 2, none⟩ v)
        case first =>
          rename_i J K' hJ hK'
          refine wp_region_held_drew (S := fun X => X.cell? ⟨w.heap.size, 0, none⟩ = some (.slice a0 M.sigs.length c0) ∧ X.cell? ⟨w.heap.size, 2, none⟩ = some (.slice a2 M.funcs.length c2)) (by kernel_rfl) ⟨x0, x2⟩ ?_
          intro hHeld
          change wpAnyH _ _ _ _ _ _ _ _ (World.drew _)
          have HB0 := hide (show Below w7.heap.size w7 w7.drew from (Below.refl _ _).drew)
          generalize w7.drew = U0 at *
          refine wpAnyH_take (i := 0) (v := ?_) rfl (by kernel_rfl) (by kernel_rfl) (by kernel_rfl) (fun _ _ _ h => h) (Or.inl ⟨by kernel_rfl, ?hy⟩) (by assumption) ?_
          case hy => intro w hSw; obtain ⟨g0, g2⟩ := hSw; go_simp; try with_reducible rfl
          simp only [Act.put, List.getElem_toArray, List.getElem_cons_succ, List.getElem_cons_zero, List.setIfInBounds_toArray, List.set_cons_zero, List.set_cons_succ]
          refine wpAnyH_take (i := 1) (v := ?_) rfl (by kernel_rfl) (by kernel_rfl) (by kernel_rfl) (fun _ _ _ h => h) (Or.inl ⟨by kernel_rfl, ?hy⟩) (by assumption) ?_
          case hy => intro w hSw; obtain ⟨g0, g2⟩ := hSw; go_simp; try with_reducible rfl
          simp only [Act.put, List.getElem_toArray, List.getElem_cons_succ, List.getElem_cons_zero, List.setIfInBounds_toArray, List.set_cons_zero, List.set_cons_succ]
          refine wpAnyH_take (i := 3) (v := ?_) rfl (by kernel_rfl) (by kernel_rfl) (by kernel_rfl) (fun _ _ _ h => h) (Or.inl ⟨by kernel_rfl, ?hy⟩) (by assumption) ?_
          case hy => intro w hSw; obtain ⟨g0, g2⟩ := hSw; go_simp; try with_reducible rfl
          simp only [Act.put, List.getElem_toArray, List.getElem_cons_succ, List.getElem_cons_zero, List.setIfInBounds_toArray, List.set_cons_zero, List.set_cons_succ]
          refine wpAnyH_take (i := 4) (v := ?_) rfl (by kernel_rfl) (by kernel_rfl) (by kernel_rfl) (fun _ _ _ h => h) (Or.inl ⟨by kernel_rfl, ?hy⟩) (by assumption) ?_
          case hy => intro w hSw; obtain ⟨g0, g2⟩ := hSw; go_simp; try with_reducible rfl
          simp only [Act.put, List.getElem_toArray, List.getElem_cons_succ, List.getElem_cons_zero, List.setIfInBounds_toArray, List.set_cons_zero, List.set_cons_succ]
          refine wpAnyH_take (i := 5) (v := ?_) rfl (by kernel_rfl) (by kernel_rfl) (by kernel_rfl) (fun _ _ _ h => h) (Or.inl ⟨by kernel_rfl, ?hy⟩) (by assumption) ?_
          case hy => intro w hSw; obtain ⟨g0, g2⟩ := hSw; go_simp; try with_reducible rfl
          simp only [Act.put, List.getElem_toArray, List.getElem_cons_succ, List.getElem_cons_zero, List.setIfInBounds_toArray, List.set_cons_zero, List.set_cons_succ]
          refine wpAnyH_take (i := 6) (v := ?_) rfl (by kernel_rfl) (by kernel_rfl) (by kernel_rfl) (fun _ _ _ h => h) (Or.inl ⟨by kernel_rfl, ?hy⟩) (by assumption) ?_
          case hy => intro w hSw; obtain ⟨g0, g2⟩ := hSw; go_simp; try with_reducible rfl
          simp only [Act.put, List.getElem_toArray, List.getElem_cons_succ, List.getElem_cons_zero, List.setIfInBounds_toArray, List.set_cons_zero, List.set_cons_succ]
          refine wpAnyH_ready (rs := [2, 7]) (by kernel_rfl) (by simp) ?_
          refine AllReadyH.cons rfl (fun K hK => ?_) ?_
          · rw [if_pos (by kernel_rfl)]
            refine wp_append_fns _ (.const (.slice none 0 0)) (.tmp 47) 24 rfl i38 Tryz.underlying24 hi38 hz380 hz381 hz382 rfl a2 c2 M.funcs rfl w3.heap.size (by have := HB0.out.size; omega) (HHF.out _ (below_next HB7.out HB0.out)) (by omega) ?_
            intro fb0 fc0 U1 fv hfv hF hk
            simp only [Act.put, List.getElem_toArray, List.getElem_cons_succ, List.getElem_cons_zero, List.setIfInBounds_toArray, List.set_cons_zero, List.set_cons_succ]
            have HB1 := hide (below_next HB0.out hk)
            have HFV := hide hfv
            have HBb := hide HB0.out.size
            have FR1 := hide hF
            refine hK.out _ _ ⟨(HR7.out.kept HB1.out).c 0 _ rfl, (HR7.out.kept HB1.out).c 2 _ rfl⟩ (fun hHeld => ?_)
            clear hK K hfv hF hk
            refine wpAnyH_ready (rs := [7]) (by kernel_rfl) (by simp) ?_
            refine AllReadyH.cons rfl (fun K hK => ?_) ?_
            · go_simp
              have hx := Row.made U1 #[.int .i64 11, .int .i64 0, .int .i64 0] 44
              have hk := bel_one U1 (.cells #[.int .i64 11, .int .i64 0, .int .i64 0] 44)
              generalize U1.alloc (.cells #[.int .i64 11, .int .i64 0, .int .i64 0] 44) = U2 at *
              have HB2 := hide (below_next HB1.out hk)
              have RB2 := hide hx
              have GR2 := hide ((FR1.out.next hk).lit hx)
              have HBn := hide HB1.out.size
              refine hK.out _ _ ⟨(HR7.out.kept HB2.out).c 0 _ rfl, (HR7.out.kept HB2.out).c 2 _ rfl⟩ (fun hHeld => ?_)
              clear hK K hx hk
              refine wpAnyH_take (i := 8) (v := ?_) rfl (by kernel_rfl) (by kernel_rfl) (by kernel_rfl) (fun _ _ _ h => h) (Or.inl ⟨by kernel_rfl, ?hy⟩) (by assumption) ?_
              case hy => intro w hSw; obtain ⟨g0, g2⟩ := hSw; go_simp; try with_reducible rfl
              simp only [Act.put, List.getElem_toArray, List.getElem_cons_succ, List.getElem_cons_zero, List.setIfInBounds_toArray, List.set_cons_zero, List.set_cons_succ]
              refine wpAnyH_ready (rs := [9]) (by kernel_rfl) (by simp) ?_
              refine AllReadyH.cons rfl (fun K hK => ?_) ?_
              · go_simp
                have hx := Row.made U2 #[.int .i64 M.sigs.length, .bool false, .slice none 0 0, .slice (some ⟨U1.heap.size, 0, none⟩) 1 1] 38
                have hk := bel_one U2 (.cells #[.int .i64 M.sigs.length, .bool false, .slice none 0 0, .slice (some ⟨U1.heap.size, 0, none⟩) 1 1] 38)
                generalize U2.alloc (.cells #[.int .i64 M.sigs.length, .bool false, .slice none 0 0, .slice (some ⟨U1.heap.size, 0, none⟩) 1 1] 38) = U3 at *
                have HB3 := hide (below_next HB2.out hk)
                have GR3 := hide (GR2.out.next hk)
                have RB3 := hide (RB2.out.kept hk)
                have RC3 := hide hx
                refine hK.out _ _ ⟨(HR7.out.kept HB3.out).c 0 _ rfl, (HR7.out.kept HB3.out).c 2 _ rfl⟩ (fun hHeld => ?_)
                clear hK K hx hk
                refine wpAnyH_ready (rs := [10]) (by kernel_rfl) (by simp) ?_
                refine AllReadyH.cons rfl (fun K hK => ?_) ?_
                · have hG := GR3.out
                  have hfl : fv.length = M.funcs.length := by rw [← HFV.out]; simp
                  rw [if_pos (by kernel_rfl)]
                  refine wp_append_fns_lit _ (.tmp 48) (.tmp 55) 24 rfl i38 Tryz.underlying24 hi38 hz380 hz381 hz382 w3.heap.size U1.heap.size U0.heap.size _ fv rfl hG ⟨U2.heap.size, 0, none⟩ 1 1 [newV M U1.heap.size] rfl rfl (newV_cells RC3.out) (newV_ok hms RB3.out) (by omega) ?_
                  intro fb fc U4 hG' hk
                  simp only [Act.put, List.getElem_toArray, List.getElem_cons_succ, List.getElem_cons_zero, List.setIfInBounds_toArray, List.set_cons_zero, List.set_cons_succ]
                  have HB4 := hide (HB3.out.trans (hk.mono (by have := HBb.out; omega)))
                  refine hK.out _ _ ⟨(HR7.out.kept HB4.out).c 0 _ rfl, (HR7.out.kept HB4.out).c 2 _ rfl⟩ (fun hHeld => ?_)
                  clear hK K hk hG
                  have eb : fv.length + 1 = M.funcs.length + 1 := by omega
                  have HH7 := hide (HN7.out.kept HB4.out)
                  have q2 := HH7.out.c 2 _ rfl
                  have qz := HH7.out.fr 2
                  refine wpAnyH_ready (rs := [11]) (by kernel_rfl) (by simp) ?_
                  refine AllReadyH.cons rfl (fun K hK => ?_) AllReadyH.nil
                  go_simp
                  refine hK.out _ _ ⟨(HR7.out.kept HB4.out).c 0 _ rfl, (HR7.out.kept HB4.out).c 2 _ rfl⟩ (fun hHeld => ?_)
                  clear hK K
                  refine wpAnyH_ready (rs := [12]) (by kernel_rfl) (by simp) ?_
                  refine AllReadyH.cons rfl (fun K hK => ?_) AllReadyH.nil
                  go_simp
                  refine hK.out _ _ ⟨((HR7.out.kept HB4.out).other (c := w3.heap.size) 2 _ (by omega)).c 0 _ rfl, ((HR7.out.kept HB4.out).other (c := w3.heap.size) 2 _ (by omega)).c 2 _ rfl⟩ (fun hHeld => ?_)
                  clear hK K
                  refine wpAnyH_done (by kernel_rfl) ?_ _
                  refine hK' _ _ (Met.intro (hJ _ _ ?_))
                  (repeat apply Exists.intro)
                  exact ⟨⟨.slice fb (M.funcs.length + 1) fc, _, ⟨⟨_, _, fb, fc, fv, rfl, HFV.out, by rw [← hfl]; exact hG', HBb.out, HBn.out⟩, HB4.out⟩, rfl⟩, rfl⟩
                exact AllReadyH.nil
              exact AllReadyH.nil
            exact AllReadyH.nil
          refine AllReadyH.cons rfl (fun K hK => ?_) ?_
          · go_simp
            have hx := Row.made U0 #[.int .i64 11, .int .i64 0, .int .i64 0] 44
            have hk := bel_one U0 (.cells #[.int .i64 11, .int .i64 0, .int .i64 0] 44)
            generalize U0.alloc (.cells #[.int .i64 11, .int .i64 0, .int .i64 0] 44) = U1 at *
            have HB1 := hide (below_next HB0.out hk)
            have RB1 := hide hx
            have HBn := hide HB0.out.size
            refine hK.out _ _ ⟨(HR7.out.kept HB1.out).c 0 _ rfl, (HR7.out.kept HB1.out).c 2 _ rfl⟩ (fun hHeld => ?_)
            clear hK K hx hk
            refine wpAnyH_take (i := 8) (v := ?_) rfl (by kernel_rfl) (by kernel_rfl) (by kernel_rfl) (fun _ _ _ h => h) (Or.inl ⟨by kernel_rfl, ?hy⟩) (by assumption) ?_
            case hy => intro w hSw; obtain ⟨g0, g2⟩ := hSw; go_simp; try with_reducible rfl
            simp only [Act.put, List.getElem_toArray, List.getElem_cons_succ, List.getElem_cons_zero, List.setIfInBounds_toArray, List.set_cons_zero, List.set_cons_succ]
            refine wpAnyH_ready (rs := [2, 9]) (by kernel_rfl) (by simp) ?_
            refine AllReadyH.cons rfl (fun K hK => ?_) ?_
            · rw [if_pos (by kernel_rfl)]
              refine wp_append_fns _ (.const (.slice none 0 0)) (.tmp 47) 24 rfl i38 Tryz.underlying24 hi38 hz380 hz381 hz382 rfl a2 c2 M.funcs rfl w3.heap.size (by have := HB1.out.size; omega) (HHF.out _ (below_next HB7.out HB1.out)) (by omega) ?_
              intro fb0 fc0 U2 fv hfv hF hk
              simp only [Act.put, List.getElem_toArray, List.getElem_cons_succ, List.getElem_cons_zero, List.setIfInBounds_toArray, List.set_cons_zero, List.set_cons_succ]
              have HB2 := hide (below_next HB1.out hk)
              have RB2 := hide (RB1.out.kept hk)
              have HFV := hide hfv
              have HBb := hide HB1.out.size
              have GR2 := hide (hF.lit (RB1.out.kept hk))
              refine hK.out _ _ ⟨(HR7.out.kept HB2.out).c 0 _ rfl, (HR7.out.kept HB2.out).c 2 _ rfl⟩ (fun hHeld => ?_)
              clear hK K hfv hF hk
              refine wpAnyH_ready (rs := [9]) (by kernel_rfl) (by simp) ?_
              refine AllReadyH.cons rfl (fun K hK => ?_) ?_
              · go_simp
                have hx := Row.made U2 #[.int .i64 M.sigs.length, .bool false, .slice none 0 0, .slice (some ⟨U0.heap.size, 0, none⟩) 1 1] 38
                have hk := bel_one U2 (.cells #[.int .i64 M.sigs.length, .bool false, .slice none 0 0, .slice (some ⟨U0.heap.size, 0, none⟩) 1 1] 38)
                generalize U2.alloc (.cells #[.int .i64 M.sigs.length, .bool false, .slice none 0 0, .slice (some ⟨U0.heap.size, 0, none⟩) 1 1] 38) = U3 at *
                have HB3 := hide (below_next HB2.out hk)
                have RB3 := hide (RB2.out.kept hk)
                have GR3 := hide (GR2.out.next hk)
                have RC3 := hide hx
                refine hK.out _ _ ⟨(HR7.out.kept HB3.out).c 0 _ rfl, (HR7.out.kept HB3.out).c 2 _ rfl⟩ (fun hHeld => ?_)
                clear hK K hx hk
                refine wpAnyH_ready (rs := [10]) (by kernel_rfl) (by simp) ?_
                refine AllReadyH.cons rfl (fun K hK => ?_) ?_
                · have hG := GR3.out
                  have hfl : fv.length = M.funcs.length := by rw [← HFV.out]; simp
                  rw [if_pos (by kernel_rfl)]
                  refine wp_append_fns_lit _ (.tmp 48) (.tmp 55) 24 rfl i38 Tryz.underlying24 hi38 hz380 hz381 hz382 w3.heap.size U0.heap.size U1.heap.size _ fv rfl hG ⟨U2.heap.size, 0, none⟩ 1 1 [newV M U0.heap.size] rfl rfl (newV_cells RC3.out) (newV_ok hms RB3.out) (by omega) ?_
                  intro fb fc U4 hG' hk
                  simp only [Act.put, List.getElem_toArray, List.getElem_cons_succ, List.getElem_cons_zero, List.setIfInBounds_toArray, List.set_cons_zero, List.set_cons_succ]
                  have HB4 := hide (HB3.out.trans (hk.mono (by have := HBb.out; omega)))
                  refine hK.out _ _ ⟨(HR7.out.kept HB4.out).c 0 _ rfl, (HR7.out.kept HB4.out).c 2 _ rfl⟩ (fun hHeld => ?_)
                  clear hK K hk hG
                  have eb : fv.length + 1 = M.funcs.length + 1 := by omega
                  have HH7 := hide (HN7.out.kept HB4.out)
                  have q2 := HH7.out.c 2 _ rfl
                  have qz := HH7.out.fr 2
                  refine wpAnyH_ready (rs := [11]) (by kernel_rfl) (by simp) ?_
                  refine AllReadyH.cons rfl (fun K hK => ?_) AllReadyH.nil
                  go_simp
                  refine hK.out _ _ ⟨(HR7.out.kept HB4.out).c 0 _ rfl, (HR7.out.kept HB4.out).c 2 _ rfl⟩ (fun hHeld => ?_)
                  clear hK K
                  refine wpAnyH_ready (rs := [12]) (by kernel_rfl) (by simp) ?_
                  refine AllReadyH.cons rfl (fun K hK => ?_) AllReadyH.nil
                  go_simp
                  refine hK.out _ _ ⟨((HR7.out.kept HB4.out).other (c := w3.heap.size) 2 _ (by omega)).c 0 _ rfl, ((HR7.out.kept HB4.out).other (c := w3.heap.size) 2 _ (by omega)).c 2 _ rfl⟩ (fun hHeld => ?_)
                  clear hK K
                  refine wpAnyH_done (by kernel_rfl) ?_ _
                  refine hK' _ _ (Met.intro (hJ _ _ ?_))
                  (repeat apply Exists.intro)
                  exact ⟨⟨.slice fb (M.funcs.length + 1) fc, _, ⟨⟨_, _, fb, fc, fv, rfl, HFV.out, by rw [← hfl]; exact hG', HBb.out, HBn.out⟩, HB4.out⟩, rfl⟩, rfl⟩
                exact AllReadyH.nil
              exact AllReadyH.nil
            refine AllReadyH.cons rfl (fun K hK => ?_) ?_
            · go_simp
              have hx := Row.made U1 #[.int .i64 M.sigs.length, .bool false, .slice none 0 0, .slice (some ⟨U0.heap.size, 0, none⟩) 1 1] 38
              have hk := bel_one U1 (.cells #[.int .i64 M.sigs.length, .bool false, .slice none 0 0, .slice (some ⟨U0.heap.size, 0, none⟩) 1 1] 38)
              generalize U1.alloc (.cells #[.int .i64 M.sigs.length, .bool false, .slice none 0 0, .slice (some ⟨U0.heap.size, 0, none⟩) 1 1] 38) = U2 at *
              have HB2 := hide (below_next HB1.out hk)
              have RB2 := hide (RB1.out.kept hk)
              have RC2 := hide hx
              refine hK.out _ _ ⟨(HR7.out.kept HB2.out).c 0 _ rfl, (HR7.out.kept HB2.out).c 2 _ rfl⟩ (fun hHeld => ?_)
              clear hK K hx hk
              refine wpAnyH_ready (rs := [2]) (by kernel_rfl) (by simp) ?_
              refine AllReadyH.cons rfl (fun K hK => ?_) ?_
              · rw [if_pos (by kernel_rfl)]
                refine wp_append_fns _ (.const (.slice none 0 0)) (.tmp 47) 24 rfl i38 Tryz.underlying24 hi38 hz380 hz381 hz382 rfl a2 c2 M.funcs rfl w3.heap.size (by have := HB2.out.size; omega) (HHF.out _ (below_next HB7.out HB2.out)) (by omega) ?_
                intro fb0 fc0 U3 fv hfv hF hk
                simp only [Act.put, List.getElem_toArray, List.getElem_cons_succ, List.getElem_cons_zero, List.setIfInBounds_toArray, List.set_cons_zero, List.set_cons_succ]
                have HB3 := hide (below_next HB2.out hk)
                have RB3 := hide (RB2.out.kept hk)
                have RC3 := hide (RC2.out.kept hk)
                have HFV := hide hfv
                have HBb := hide HB2.out.size
                have GR3 := hide (hF.lit (RB2.out.kept hk))
                refine hK.out _ _ ⟨(HR7.out.kept HB3.out).c 0 _ rfl, (HR7.out.kept HB3.out).c 2 _ rfl⟩ (fun hHeld => ?_)
                clear hK K hfv hF hk
                refine wpAnyH_ready (rs := [10]) (by kernel_rfl) (by simp) ?_
                refine AllReadyH.cons rfl (fun K hK => ?_) ?_
                · have hG := GR3.out
                  have hfl : fv.length = M.funcs.length := by rw [← HFV.out]; simp
                  rw [if_pos (by kernel_rfl)]
                  refine wp_append_fns_lit _ (.tmp 48) (.tmp 55) 24 rfl i38 Tryz.underlying24 hi38 hz380 hz381 hz382 w3.heap.size U0.heap.size U2.heap.size _ fv rfl hG ⟨U1.heap.size, 0, none⟩ 1 1 [newV M U0.heap.size] rfl rfl (newV_cells RC3.out) (newV_ok hms RB3.out) (by omega) ?_
                  intro fb fc U4 hG' hk
                  simp only [Act.put, List.getElem_toArray, List.getElem_cons_succ, List.getElem_cons_zero, List.setIfInBounds_toArray, List.set_cons_zero, List.set_cons_succ]
                  have HB4 := hide (HB3.out.trans (hk.mono (by have := HBb.out; omega)))
                  refine hK.out _ _ ⟨(HR7.out.kept HB4.out).c 0 _ rfl, (HR7.out.kept HB4.out).c 2 _ rfl⟩ (fun hHeld => ?_)
                  clear hK K hk hG
                  have eb : fv.length + 1 = M.funcs.length + 1 := by omega
                  have HH7 := hide (HN7.out.kept HB4.out)
                  have q2 := HH7.out.c 2 _ rfl
                  have qz := HH7.out.fr 2
                  refine wpAnyH_ready (rs := [11]) (by kernel_rfl) (by simp) ?_
                  refine AllReadyH.cons rfl (fun K hK => ?_) AllReadyH.nil
                  go_simp
                  refine hK.out _ _ ⟨(HR7.out.kept HB4.out).c 0 _ rfl, (HR7.out.kept HB4.out).c 2 _ rfl⟩ (fun hHeld => ?_)
                  clear hK K
                  refine wpAnyH_ready (rs := [12]) (by kernel_rfl) (by simp) ?_
                  refine AllReadyH.cons rfl (fun K hK => ?_) AllReadyH.nil
                  go_simp
                  refine hK.out _ _ ⟨((HR7.out.kept HB4.out).other (c := w3.heap.size) 2 _ (by omega)).c 0 _ rfl, ((HR7.out.kept HB4.out).other (c := w3.heap.size) 2 _ (by omega)).c 2 _ rfl⟩ (fun hHeld => ?_)
                  clear hK K
                  refine wpAnyH_done (by kernel_rfl) ?_ _
                  refine hK' _ _ (Met.intro (hJ _ _ ?_))
                  (repeat apply Exists.intro)
                  exact ⟨⟨.slice fb (M.funcs.length + 1) fc, _, ⟨⟨_, _, fb, fc, fv, rfl, HFV.out, by rw [← hfl]; exact hG', HBb.out, HBn.out⟩, HB4.out⟩, rfl⟩, rfl⟩
                exact AllReadyH.nil
              exact AllReadyH.nil
            exact AllReadyH.nil
          exact AllReadyH.nil
        case rest =>
          obtain ⟨v, W, hR, rfl⟩ := hcut
          obtain ⟨⟨nb, base, fb, fc, fv, hv, hfv, hG, hbase, hnb⟩, hBW⟩ := hR.out
          subst hv
          have HS8 := hide ((HS7.out.next hBW).store (b := w3.heap.size) (o := 2) (u := .slice fb (M.funcs.length + 1) fc) (Nat.le_refl _) (by omega))
          have HG8 := hide (hG.store (b := w3.heap.size) (o := 2) (u := .slice fb (M.funcs.length + 1) fc) (Nat.le_refl _) (by omega) (by omega))
          have HN8 := hide ((HN7.out.kept hBW).set 2 (.slice fb (M.funcs.length + 1) fc))
          have HR8 := hide ((HR7.out.kept hBW).other (c := w3.heap.size) 2 (.slice fb (M.funcs.length + 1) fc) (by omega))
          have HB8 := hide ((below_next HB7.out hBW).setCell (p := ⟨w3.heap.size, 2, none⟩) b43.out (.slice fb (M.funcs.length + 1) fc))
          have HSL8 := hide ((HSL7.out.step keeps_int (hBW.mono (by omega)) (Nat.le_refl _)).to keeps_int (W := W.setCell ⟨w3.heap.size, 2, none⟩ (.slice fb (M.funcs.length + 1) fc)) (T := Lt w3.heap.size) (fun i hi => Below.heap_setCell _ _ _ _ (by show i ≠ w3.heap.size; have hi : i < w3.heap.size := hi; omega)) (fun _ hi => hi))
          have HS8s := hide (show w3.heap.size + 1 ≤ (W.setCell ⟨w3.heap.size, 2, none⟩ (.slice fb (M.funcs.length + 1) fc)).heap.size by have := hBW.size; simp [World.setCell]; omega)
          have HFV := hide hfv
          clear hG hBW hR HS7 HN7 HR7 HB7 HSL7 HSZ7 x0 x2 d2 dz hfv hbase HHF
          generalize W.setCell ⟨w3.heap.size, 2, none⟩ (.slice fb (M.funcs.length + 1) fc) = w8 at *
          have hsg : (sv ++ [nil2]).map (·.1) = M.sigs ++ [sg0] := by rw [List.map_append, HSV.out]; rfl
          have hfg : (fv ++ [newV M nb]).map (·.1) = M.funcs ++ [latF M enI] := by rw [List.map_append, HFV.out]; rfl
          have IN := fun (U : World) (b : Below w8.heap.size w8 U) => (show IsMo U.heap.size U ⟨.slice sb' (M.sigs.length + 1) sc', .slice a1 M.imports.length c1, .slice fb (M.funcs.length + 1) fc, .slice a5 M.globals.length c5, .slice a6 M.data.length c6⟩ (latM M enI) from
            have h0 := HM.out.step (HB8.out.trans (b.mono HB8.out.size)) (Nat.le_trans HB8.out.size b.size)
            ⟨by have := (HS8.out.next b).sl; rw [hsg] at this; exact this, h0.imports, by have := (HG8.out.next b).sl; rw [hfg] at this; exact this, h0.mems, h0.globals, h0.data⟩)
          have HIN := hide IN
          clear IN HS8 HG8 hsg hfg
          obtain ⟨hck1, hck2⟩ := lat_chk HC.out (by omega) (by omega)
          have HCK1 := hide hck1
          have HCK2 := hide hck2
          clear hck1 hck2
          have n0 := HN8.out.c 0 _ rfl
          have n1 := HN8.out.c 1 _ rfl
          have n2 := HN8.out.c 2 _ rfl
          have n3 := HN8.out.c 3 _ rfl
          have n4 := HN8.out.c 4 _ rfl
          have n5 := HN8.out.c 5 _ rfl
          have n6 := HN8.out.c 6 _ rfl
          have HE8 := hide (heights_any _ (latM M enI) f w8 (HLD.out.kept HB8.out) (HIN.out w8 (Below.refl _ _)) HY.out)
          rw [HCK1.out] at HE8
          go_wp2_with fail
          refine HE8.out.mono ?_
          intro e w9 he
          obtain ⟨hb, hm, hcap2, ev2, g2, rfl, hsl2, b9, hev2⟩ := he_ends he
          have HB9 := hide b9
          have HSL9 := hide hsl2
          have HEV2 := hide hev2
          have HN9 := hide (HN8.out.kept b9)
          have HR9 := hide (HR8.out.kept b9)
          clear he b9 hsl2 hev2 n0 n1 n2 n3 n4 n5 n6 HE8 HN8 HR8
          have n0 := HN9.out.c 0 _ rfl
          have n1 := HN9.out.c 1 _ rfl
          have n2 := HN9.out.c 2 _ rfl
          have n3 := HN9.out.c 3 _ rfl
          have n4 := HN9.out.c 4 _ rfl
          have n5 := HN9.out.c 5 _ rfl
          have n6 := HN9.out.c 6 _ rfl
          have A10 := bel_one w9 (.cells #[.slice sb' (M.sigs.length + 1) sc', .slice a1 M.imports.length c1, .slice fb (M.funcs.length + 1) fc, .int .i64 M.m0, .int .i64 M.m1, .slice a5 M.globals.length c5, .slice a6 M.data.length c6] 29)
          have e10 : (w9.alloc (.cells #[.slice sb' (M.sigs.length + 1) sc', .slice a1 M.imports.length c1, .slice fb (M.funcs.length + 1) fc, .int .i64 M.m0, .int .i64 M.m1, .slice a5 M.globals.length c5, .slice a6 M.data.length c6] 29)).heap.size = w9.heap.size + 1 := by simp
          have HK10 := hide (Row.made w9 #[.slice sb' (M.sigs.length + 1) sc', .slice a1 M.imports.length c1, .slice fb (M.funcs.length + 1) fc, .int .i64 M.m0, .int .i64 M.m1, .slice a5 M.globals.length c5, .slice a6 M.data.length c6] 29)
          have HB10 := hide (below_next HB9.out A10)
          have HN10 := hide (HN9.out.kept A10)
          have HR10 := hide (HR9.out.kept A10)
          have HSL10 := hide (HSL9.out.step keeps_int A10 (Nat.le_refl _))
          have HFN := hide ((HIN.out w9 HB9.out).funcs.step keeps_fn A10 (Nat.le_refl _))
          have HE10 := hide e10
          go_upto_region 10 with fail
          generalize w9.alloc (.cells #[.slice sb' (M.sigs.length + 1) sc', .slice a1 M.imports.length c1, .slice fb (M.funcs.length + 1) fc, .int .i64 M.m0, .int .i64 M.m1, .slice a5 M.globals.length c5, .slice a6 M.data.length c6] 29) = w10 at *
          clear A10 e10 n0 n1 n2 n3 n4 n5 n6 HN9 HR9 HSL9
          have k2 := HK10.out.c 2 _ rfl
          have n2 := HN10.out.c 2 _ rfl
          have hlf : (M.funcs ++ [latF M enI]).length = M.funcs.length + 1 := by simp
          have hfn10 : Sl 4 EFn (Lt w9.heap.size) w10 (.slice fb (M.funcs ++ [latF M enI]).length fc) (M.funcs ++ [latF M enI]) := by rw [hlf]; exact HFN.out
          have HF10 := hide hfn10
          clear hfn10
          go_wp2_with (at_builtin; refine append_fns _ rfl _ _ 24 rfl i38 Tryz.underlying24 hi38 hz380 hz381 hz382 rfl fb fc (M.funcs ++ [latF M enI]) (by rw [hlf]; rfl) w9.heap.size (by rw [HE10.out]; omega) HF10.out (by rw [hlf]; omega) ?_)
          intro gb gc w11 fv2 hfv2 hF2 b11
          rw [HE10.out] at hF2
          have hl2 : fv2.length = M.funcs.length + 1 := by rw [← hlf, ← hfv2]; simp
          obtain ⟨g1, rfl, hn2, hg1⟩ := hF2.form (by omega)
          have HL2 := hide hl2
          clear hn2 hl2 hlf
          have HFV2 := hide hfv2
          have HK11 := hide (HK10.out.kept b11)
          have kz := HK11.out.fr 2
          have k2' : w11.cell? ⟨w9.heap.size, 2, none⟩ = some (.slice fb (M.funcs.length + 1) fc) := HK11.out.c 2 _ rfl
          have h39 : w3.heap.size < w9.heap.size := by have := HB9.out.size; have := HS8s.out; omega
          have HK12 := hide (HK11.out.set 2 (.slice (some ⟨g1, 0, none⟩) (M.funcs.length + 1) gc))
          have HN12 := hide ((HN10.out.kept b11).other (c := w9.heap.size) 2 (.slice (some ⟨g1, 0, none⟩) (M.funcs.length + 1) gc) (by omega))
          have HR12 := hide ((HR10.out.kept b11).other (c := w9.heap.size) 2 (.slice (some ⟨g1, 0, none⟩) (M.funcs.length + 1) gc) (by omega))
          have HB11 := hide (below_next HB10.out b11)
          have HB12 := hide (HB11.out.setCell (p := ⟨w9.heap.size, 2, none⟩) HB9.out.size (.slice (some ⟨g1, 0, none⟩) (M.funcs.length + 1) gc))
          have HF12 := hide (hF2.store (b := w9.heap.size) (o := 2) (u := .slice (some ⟨g1, 0, none⟩) (M.funcs.length + 1) gc) (Nat.le_refl _) (by omega))
          have HSL12 := hide (((HSL10.out.to keeps_int (W := w11) (T := Lt w9.heap.size) (fun i hi => b11.block i (by have hi : i < w9.heap.size := hi; have := HE10.out; omega)) (fun _ hi => hi)).to keeps_int (W := w11.setCell ⟨w9.heap.size, 2, none⟩ (.slice (some ⟨g1, 0, none⟩) (M.funcs.length + 1) gc)) (T := Lt w9.heap.size) (fun i hi => Below.heap_setCell _ _ _ _ (by show i ≠ w9.heap.size; have hi : i < w9.heap.size := hi; omega)) (fun _ hi => hi)))
          have hgw : g1 < w11.heap.size := (hF2.own.lt g1 rfl).2
          have e12 : (w11.setCell ⟨w9.heap.size, 2, none⟩ (.slice (some ⟨g1, 0, none⟩) (M.funcs.length + 1) gc)).heap.size = w11.heap.size := by simp [World.setCell]
          go_upto_region 11 with fail
          clear hF2 hfv2 b11 kz k2' k2 n2 HK11 HK10 HN10 HR10 HB11 HSL10
          generalize w11.setCell ⟨w9.heap.size, 2, none⟩ (.slice (some ⟨g1, 0, none⟩) (M.funcs.length + 1) gc) = w12 at *
          have A13 := bel_one w12 (.cells #[.int .i64 66, .int .i64 0, .int .i64 0, .int .i64 11, .int .i64 0, .int .i64 0] 44)
          have RC := Row.made w12 #[.int .i64 66, .int .i64 0, .int .i64 0, .int .i64 11, .int .i64 0, .int .i64 0] 44
          have hk2 := HK12.out.c 2 _ rfl
          have hr2 := HR12.out.c 2 _ rfl
          have hj : M.funcs.length < fv2.length := by rw [HL2.out]; omega
          have G13 := (HF12.out.next A13).lit RC
          have q3 := (HF12.out.next A13).c HL2.out.symm M.funcs.length hj 3 (by omega)
          have e3 : (fce fv2[M.funcs.length])[3]? = some fv2[M.funcs.length].2.2 := rfl
          rw [e3] at q3
          have f3 : (w12.alloc (.cells #[.int .i64 66, .int .i64 0, .int .i64 0, .int .i64 11, .int .i64 0, .int .i64 0] 44)).frozen? ⟨g1, M.funcs.length * 4 + 3, none⟩ = false := by
            have h := (HF12.out.next A13).own
            rw [HL2.out] at h
            exact h.frozenAt _
          have i0 : (0 : Int) ≤ (M.funcs.length : Int) := by omega
          have i1 : (M.funcs.length : Int) < (M.funcs.length : Int) + 1 := by omega
          have HG13 := hide G13
          have HA13 := hide A13
          have HRC := hide RC
          clear G13 A13 RC
          have eW : (w12.alloc (.cells #[.int .i64 66, .int .i64 0, .int .i64 0, .int .i64 11, .int .i64 0, .int .i64 0] 44)).setCell ⟨g1, M.funcs.length * 4 + 3, none⟩ (.slice (some ⟨w11.heap.size, 0, none⟩) 2 2) = (w12.setCell ⟨g1, M.funcs.length * 4 + 3, none⟩ (.slice (some ⟨w11.heap.size, 0, none⟩) 2 2)).alloc (.cells #[.int .i64 66, .int .i64 0, .int .i64 0, .int .i64 11, .int .i64 0, .int .i64 0] 44) := World.setCell_alloc_past _ _ _ _ (by omega)
          have hbm := bad_map (cb := w11.heap.size) HFV2.out hj
          have hrc := HRC.out
          rw [e12] at hrc
          have hg13 := HG13.out
          rw [e12] at hg13
          have G14 := hg13.set HL2.out.symm M.funcs.length hj 3 (by omega) (.slice (some ⟨w11.heap.size, 0, none⟩) 2 2) (badV M fv2[M.funcs.length] w11.heap.size) (badV_cell hbm.1) (badV_ok hbm.1 (hg13.ok _ (List.getElem_mem hj)) hrc)
          have N14 := ((HN12.out.kept HA13.out).other (c := g1) (M.funcs.length * 4 + 3) (.slice (some ⟨w11.heap.size, 0, none⟩) 2 2) (by omega))
          have R14 := ((HR12.out.kept HA13.out).other (c := g1) (M.funcs.length * 4 + 3) (.slice (some ⟨w11.heap.size, 0, none⟩) 2 2) (by have := hws.out; omega))
          have K14 := ((HK12.out.kept HA13.out).other (c := g1) (M.funcs.length * 4 + 3) (.slice (some ⟨w11.heap.size, 0, none⟩) 2 2) (by omega))
          have B14 := ((below_next HB12.out HA13.out).setCell (p := ⟨g1, M.funcs.length * 4 + 3, none⟩) (by have := HB9.out.size; show _ ≤ g1; omega) (.slice (some ⟨w11.heap.size, 0, none⟩) 2 2))
          have S14 := ((HSL12.out.step keeps_int (HA13.out.mono (show w9.heap.size ≤ w12.heap.size by omega)) (Nat.le_refl _)).to keeps_int (W := (w12.alloc (.cells #[.int .i64 66, .int .i64 0, .int .i64 0, .int .i64 11, .int .i64 0, .int .i64 0] 44)).setCell ⟨g1, M.funcs.length * 4 + 3, none⟩ (.slice (some ⟨w11.heap.size, 0, none⟩) 2 2)) (T := Lt w9.heap.size) (fun i hi => Below.heap_setCell _ _ _ _ (by show i ≠ g1; have hi : i < w9.heap.size := hi; omega)) (fun _ hi => hi))
          have L14 : w9.heap.size ≤ ((w12.alloc (.cells #[.int .i64 66, .int .i64 0, .int .i64 0, .int .i64 11, .int .i64 0, .int .i64 0] 44)).setCell ⟨g1, M.funcs.length * 4 + 3, none⟩ (.slice (some ⟨w11.heap.size, 0, none⟩) 2 2)).heap.size := by simp [World.setCell]; omega
          rw [eW] at G14 N14 R14 K14 B14 S14 L14
          have HG14 := hide G14
          have HN14 := hide N14
          have HR14 := hide R14
          have HK14 := hide K14
          have HB14 := hide B14
          have HS14 := hide S14
          have HL14 := hide L14
          have HBM := hide hbm.2
          go_upto_region 12 with fail
          clear G14 N14 R14 K14 B14 S14 L14 eW hrc hg13 hbm HG13 HRC HA13 HN12 HR12 HK12 HB12 HSL12 hk2 hr2 q3 e3 f3 e12
          generalize (w12.setCell ⟨g1, M.funcs.length * 4 + 3, none⟩ (.slice (some ⟨w11.heap.size, 0, none⟩) 2 2)).alloc (.cells #[.int .i64 66, .int .i64 0, .int .i64 0, .int .i64 11, .int .i64 0, .int .i64 0] 44) = w14 at *
          have IB : IsMo w14.heap.size w14 ⟨.slice sb' (M.sigs.length + 1) sc', .slice a1 M.imports.length c1, .slice (some ⟨g1, 0, none⟩) (M.funcs.length + 1) gc, .slice a5 M.globals.length c5, .slice a6 M.data.length c6⟩ (latM M coI) := by
            have h0 := HIN.out w14 HB14.out
            exact ⟨h0.sigs, h0.imports, by have := HG14.out.sl; rw [HBM.out] at this; exact this, h0.mems, h0.globals, h0.data⟩
          have HVB := hide (valid_any _ (latM M coI) w14 (HLD.out.kept (HB8.out.trans (HB14.out.mono HB8.out.size))) IB HY.out)
          rw [HCK2.out] at HVB
          clear IB
          have k0 := HK14.out.c 0 _ rfl
          have k1 := HK14.out.c 1 _ rfl
          have k2 := HK14.out.c 2 _ rfl
          have k3 := HK14.out.c 3 _ rfl
          have k4 := HK14.out.c 4 _ rfl
          have k5 := HK14.out.c 5 _ rfl
          have k6 := HK14.out.c 6 _ rfl
          go_wp2_with fail
          refine HVB.out.mono ?_
          rintro e w15 ⟨p15, rfl, hfa, b15⟩
          have HB15 := hide (below_next HB14.out b15)
          have HT15 := hide (told_fault p15 3 (1000 * (M.funcs.length : Int) + 1) w15 (HLD.out.kept (HB8.out.trans (HB15.out.mono HB8.out.size))) hfa (by decide))
          have HN15 := hide (HN14.out.kept b15)
          have HR15 := hide (HR14.out.kept b15)
          have HS15 := hide (HS14.out.step keeps_int (b15.mono HL14.out) (Nat.le_trans HL14.out b15.size))
          clear k0 k1 k2 k3 k4 k5 k6 hfa b15 HVB HK14 HG14 HBM
          go_wp2_with fail
          refine HT15.out.mono ?_
          rintro e w16 ⟨rfl, b16⟩
          have HB16 := hide (below_next HB15.out b16)
          have HN16 := hide (HN15.out.kept b16)
          have HR16 := hide (HR15.out.kept b16)
          have HS16 := hide (HS15.out.step keeps_int b16 b16.size)
          have HH16 := hide (HSL8.out.step keeps_int (HB16.out.mono (show w3.heap.size ≤ w8.heap.size by have := HS8s.out; omega)) (show w3.heap.size ≤ w16.heap.size by have := HS8s.out; have := HB16.out.size; omega))
          obtain ⟨hgl, hend⟩ := two_hts HC.out HEV.out HEV2.out
          have HNU := hide (numbers_any _ _ g g2 w16 (by omega) HH16.out HS16.out)
          have HEND := hide hend
          clear b16 hend HT15 HN15 HR15 HS15 HN14 HR14 HS14 HSL8 HSL
          go_wp2_with fail
          refine HNU.out.mono ?_
          rintro e w17 ⟨rfl, b17⟩
          have HB17 := hide (below_next HB16.out b17)
          have HN17 := hide (HN16.out.kept b17)
          have HR17 := hide (HR16.out.kept b17)
          have HVN := hide (valid_any _ (latM M enI) w17 (HLD.out.kept (HB8.out.trans (HB17.out.mono HB8.out.size))) (HIN.out w17 HB17.out) HY.out)
          rw [HCK1.out] at HVN
          clear b17 HN16 HR16 HNU
          have n0 := HN17.out.c 0 _ rfl
          have n1 := HN17.out.c 1 _ rfl
          have n2 := HN17.out.c 2 _ rfl
          have n3 := HN17.out.c 3 _ rfl
          have n4 := HN17.out.c 4 _ rfl
          have n5 := HN17.out.c 5 _ rfl
          have n6 := HN17.out.c 6 _ rfl
          rcases HEND.out with ⟨p, rfl⟩ | ⟨rfl, rfl, rfl⟩
          · generalize decide (g = g2) = bb
            unfold flt
            go_wp2_with fail
            refine HVN.out.mono ?_
            rintro e w18 ⟨rfl, b18⟩
            have HB18 := hide (HB8.out.trans ((below_next HB17.out b18).mono HB8.out.size))
            have r2 := (HR17.out.kept b18).c 2 _ rfl
            clear b18
            go_wp2_with fail
            go_ret
            exact ⟨rfl, HB18.out⟩
          · rw [decide_eq_true rfl]
            go_wp2_with fail
            refine HVN.out.mono ?_
            rintro e w18 ⟨rfl, b18⟩
            have HB18 := hide (HB8.out.trans ((below_next HB17.out b18).mono HB8.out.size))
            have r2 := (HR17.out.kept b18).c 2 _ rfl
            clear b18
            go_wp2_with fail
            go_ret
            exact ⟨rfl, HB18.out⟩
      · have hF2 : ¬ (8 ≤ (M.funcs.length : Int)) := by omega
        have hG2 : 16 ≤ (M.sigs.length : Int) := by omega
        go_enter Tryz.func5, Tryz.ntmps5
        go_wp2_with fail
        refine EX.out.mono ?_
        rintro e w1 ⟨rfl, b1⟩
        have R1 := R0.out.kept b1
        have HB1 := hide (below_next HB0.out b1)
        have m0 := R1.c 0 _ rfl
        have m1 := R1.c 1 _ rfl
        have m2 := R1.c 2 _ rfl
        have m3 := R1.c 3 _ rfl
        have m4 := R1.c 4 _ rfl
        have m5 := R1.c 5 _ rfl
        have m6 := R1.c 6 _ rfl
        have HR1 := hide R1
        clear R1 b1 EX
        go_wp2_with fail
        refine (VA.out w1 HB1.out).mono ?_
        rintro e w2 ⟨rfl, b2⟩
        have R2 := HR1.out.kept b2
        have HB2 := hide (below_next HB1.out b2)
        clear b2 m0 m1 m2 m3 m4 m5 m6 HR1 VA
        have m0 := R2.c 0 _ rfl
        have m2 := R2.c 2 _ rfl
        go_wp2_with fail
        go_ret
        exact ⟨rfl, HB2.out⟩
    · have hF2 : 8 ≤ (M.funcs.length : Int) := by omega
      go_enter Tryz.func5, Tryz.ntmps5
      go_wp2_with fail
      refine EX.out.mono ?_
      rintro e w1 ⟨rfl, b1⟩
      have R1 := R0.out.kept b1
      have HB1 := hide (below_next HB0.out b1)
      have m0 := R1.c 0 _ rfl
      have m1 := R1.c 1 _ rfl
      have m2 := R1.c 2 _ rfl
      have m3 := R1.c 3 _ rfl
      have m4 := R1.c 4 _ rfl
      have m5 := R1.c 5 _ rfl
      have m6 := R1.c 6 _ rfl
      have HR1 := hide R1
      clear R1 b1 EX
      go_wp2_with fail
      refine (VA.out w1 HB1.out).mono ?_
      rintro e w2 ⟨rfl, b2⟩
      have R2 := HR1.out.kept b2
      have HB2 := hide (below_next HB1.out b2)
      clear b2 m0 m1 m2 m3 m4 m5 m6 HR1 VA
      have m0 := R2.c 0 _ rfl
      have m2 := R2.c 2 _ rfl
      go_wp2_with fail
      go_ret
      exact ⟨rfl, HB2.out⟩
end Go.Proofs.YtamofhkmhjckaabGreatDoor

/-
  The program's begin: it stands ahead of a body's first instruction.
-/
import Derived.Test.YtamofhkmhjckaabGreatDoorWalk5
import Derived.Test.YtamofhkmhjckaabGreatDoorWalk2
import Derived.Deep.RegionHeld3
namespace Go.Proofs.YtamofhkmhjckaabGreatDoor
open Go.RowKit
theorem sl_in {S T : Nat → Prop} {A W : World} {v : Value} {l : List Int} (h : Sl 1 EInt S A v l) (k : Same S A W) (hc : ∀ i, S i → T i) : Sl 1 EInt T W v l := h.to keeps_int k hc
theorem row_drew {w : World} {b : Nat} {cs : Array Value} {ty : TypeId} (h : Row w b cs ty) : Row w.drew b cs ty := h
/-- the walk's block is made last -/
theorem begin_wj {w Y : World} {V : MoV} {C : Cx} {res : List Int} {v vl : Value} {g : Nat} (hB : Below w.heap.size w Y) (hg : w.heap.size ≤ g) (hr : Row Y g #[.int .i64 2, v, .int .i64 0, .bool false] 127)
    (hv : SInts w.heap.size w v res) {S : Nat → Prop} (hl : Sl 1 EInt S Y vl C.L) (hS : ∀ b, S b → b ≠ g ∧ b < Y.heap.size) :
    WJ ⟨w.heap.size, Y.heap.size, w, V, C, vl, Y.heap.size⟩ 0 (begW res) (.slice none 0 0) (.slice (some ⟨g, 0, none⟩) 1 1) [(⟨2, res, 0, false⟩, v)] (Y.alloc (.cells #[V.v0, V.v1, V.v2, .int .i64 C.M.m0, .int .i64 C.M.m1, V.v5, V.v6, .bool C.tr, .int .i64 0, vl, .slice none 0 0, .slice (some ⟨g, 0, none⟩) 1 1] 101)) := by
  have hgl := hr.lt
  have hs := hB.size
  have hk := bel_one Y (.cells #[V.v0, V.v1, V.v2, .int .i64 C.M.m0, .int .i64 C.M.m1, V.v5, V.v6, .bool C.tr, .int .i64 0, vl, .slice none 0 0, .slice (some ⟨g, 0, none⟩) 1 1] 101)
  refine ⟨below_next hB hk, Row.made Y _ 101, World.ownsRow_nil _ _ _ _, ?_, rfl, ?_, fun x hx => ?_⟩
  · exact ⟨rfl, .inr ⟨g, 1, #[.int .i64 2, v, .int .i64 0, .bool false], rfl, hg, hr.kept hk, Nat.le_refl _, by unfold maxLen; omega, rfl, rfl⟩⟩
  · refine ⟨by show Y.heap.size < _; simp, sl_in hl (fun i hi => hk.block i (hS i hi).2) (fun i hi => ⟨⟨by have := (hS i hi).2; show i ≠ Y.heap.size; omega, by have := (hS i hi).2; show i ≠ Y.heap.size; omega⟩, by simp [Value.ownBlock], fun e => (hS i hi).1 ?_, by have := (hS i hi).2; simp; omega⟩)⟩
    simp only [Value.ownBlock, Option.some.injEq] at e; exact e.symm
  · cases List.mem_singleton.1 hx
    refine sl_in hv (same_below (below_next hB hk)) (fun i hi => ?_)
    have hi : i < w.heap.size := hi
    exact ⟨⟨by show i ≠ Y.heap.size; omega, by show i ≠ Y.heap.size; omega⟩, by simp [Value.ownBlock], fun e => by simp only [Value.ownBlock, Option.some.injEq] at e; omega, by simp; omega⟩
set_option maxRecDepth 100000 in
set_option maxHeartbeats 4000000 in
theorem begin_any (V : MoV) (M : Mo) (w : World) (h : IsMo w.heap.size w V M) (f : Nat) (hf : f < M.funcs.length) (z : Nat) (hz : z < M.sigs.length) (hsig : M.funcs[f].sig = z)
    (hp : M.sigs[z].params.length ≤ 100) (hl : M.funcs[f].locals.length ≤ 100) :
    Calls Tryz.prog 39 #[moV V M, .int .i64 f] w fun e w' => ∃ B vl vf v, e = .returned (.pointer (some ⟨B, 0, none⟩)) ∧ w.heap.size ≤ B ∧
      WJ ⟨w.heap.size, B, w, V, ⟨M, M.funcs[f].tr, M.sigs[z].params ++ M.funcs[f].locals⟩, vl, B⟩ 0 (begW M.sigs[z].results) (.slice none 0 0) vf [(⟨2, M.sigs[z].results, 0, false⟩, v)] w' := by
  obtain ⟨v0, v1, v2, v5, v6⟩ := V
  unfold moV
  obtain ⟨aa, c2, e1, he⟩ := h.funcs
  simp only at e1
  subst e1
  obtain ⟨b, off, e, hb, vl, vb, hi, q0, q1, q2, q3, hlo, hbo⟩ := he f hf
  subst e
  obtain ⟨ab, c0, e2, he2⟩ := h.sigs
  simp only at e2
  subst e2
  obtain ⟨b2, off2, e3, hbb, vp, vr, p0, p1, hpa, hre⟩ := he2 z hz
  subst e3
  rw [hsig] at q0
  clear he he2
  generalize M.sigs[z] = G at *
  generalize M.funcs[f] = F at *
  obtain ⟨ap, cp, evp, _⟩ := id hpa
  obtain ⟨ar, cr, evr, _⟩ := id hre
  obtain ⟨al, cl, evl, _⟩ := id hlo
  obtain ⟨ax, cx, evx, _⟩ := id hbo
  subst evp evr evl evx
  have hff : (f : Int) < M.funcs.length := by omega
  have hzz : (z : Int) < M.sigs.length := by omega
  obtain ⟨W1, hW1⟩ : ∃ W1, W1 = w.alloc (.cells #[.slice (some ⟨b2, off2, none⟩) M.sigs.length c0, v1, .slice (some ⟨b, off, none⟩) M.funcs.length c2, .int .i64 M.m0, .int .i64 M.m1, v5, v6] 29) := ⟨_, rfl⟩
  obtain ⟨W2, hW2⟩ : ∃ W2, W2 = W1.alloc (.cells #[.int .i64 (z : Int), .bool F.tr, .slice al F.locals.length cl, .slice ax F.body.length cx] 38) := ⟨_, rfl⟩
  obtain ⟨W, hW⟩ : ∃ W, W = W2.alloc (.cells #[.slice ap G.params.length cp, .slice ar G.results.length cr] 42) := ⟨_, rfl⟩
  have z1 : W1.heap.size = w.heap.size + 1 := by rw [hW1]; simp
  have z2 : W2.heap.size = w.heap.size + 1 + 1 := by rw [hW2]; simp [z1]
  have z3 : W.heap.size = w.heap.size + 1 + 1 + 1 := by rw [hW]; simp [z2]
  have B1 : Below w.heap.size w W1 := by rw [hW1]; exact bel_one _ _
  have B2 : Below W1.heap.size W1 W2 := by rw [hW2]; exact bel_one _ _
  have B3 : Below W2.heap.size W2 W := by rw [hW]; exact bel_one _ _
  have R1 : Row W w.heap.size #[.slice (some ⟨b2, off2, none⟩) M.sigs.length c0, v1, .slice (some ⟨b, off, none⟩) M.funcs.length c2, .int .i64 M.m0, .int .i64 M.m1, v5, v6] 29 := by
    have : Row W1 w.heap.size #[.slice (some ⟨b2, off2, none⟩) M.sigs.length c0, v1, .slice (some ⟨b, off, none⟩) M.funcs.length c2, .int .i64 M.m0, .int .i64 M.m1, v5, v6] 29 := by rw [hW1]; exact Row.made w _ 29
    exact (this.kept B2).kept B3
  have R2 : Row W (w.heap.size + 1) #[.int .i64 (z : Int), .bool F.tr, .slice al F.locals.length cl, .slice ax F.body.length cx] 38 := by
    have : Row W2 (w.heap.size + 1) #[.int .i64 (z : Int), .bool F.tr, .slice al F.locals.length cl, .slice ax F.body.length cx] 38 := by rw [hW2, ← z1]; exact Row.made W1 _ 38
    exact this.kept B3
  have R3 : Row W (w.heap.size + 1 + 1) #[.slice ap G.params.length cp, .slice ar G.results.length cr] 42 := by rw [hW, ← z2]; exact Row.made W2 _ 42
  have HB := hide (below_next (below_next B1 B2) B3)
  have HP := hide hpa
  have HL := hide hlo
  have HR := hide hre
  have HM := hide h
  have m0 := R1.c 0 _ rfl
  have m1 := R1.c 1 _ rfl
  have m2 := R1.c 2 _ rfl
  have m3 := R1.c 3 _ rfl
  have m4 := R1.c 4 _ rfl
  have m5 := R1.c 5 _ rfl
  have m6 := R1.c 6 _ rfl
  have o1 := R2.c 1 _ rfl
  have o2 := R2.c 2 _ rfl
  have s0 := R3.c 0 _ rfl
  have s1 := R3.c 1 _ rfl
  have RR := hide (And.intro R1 (And.intro R2 R3))
  clear B1 B2 B3 R1 R2 R3 hpa hlo hre hbo h
  go_enter Tryz.func39, Tryz.ntmps39
  go_wp2_with fail
  rw [← hW1, ← hW2, ← hW]
  clear hW hW1 hW2 z1 z2 q0 q1 q2 q3 p0 p1
  have CC := hide (fun (U : World) (g : Nat) (hU : Below W.heap.size W U) (hg : Row U g #[.slice ap G.params.length cp, .slice al F.locals.length cl] 23) =>
    (concat_two ap al g cp cl G.params F.locals U (hg.c 0 _ rfl) (hg.c 1 _ rfl) hg.lt (sl_in HP.out (same_below (below_next HB.out hU)) (fun _ hi => hi)) (sl_in HL.out (same_below (below_next HB.out hU)) (fun _ hi => hi)) (fun b hb => by have hb : b < w.heap.size := hb; have := HB.out.size; have := hU.size; omega) hp hl).mono
      (R' := fun e w' => ∃ a c, e = .returned (.slice a (G.params ++ F.locals).length c) ∧ Hid (Sl 1 EInt (NewB U.heap.size w') w' (.slice a (G.params ++ F.locals).length c) (G.params ++ F.locals) ∧ Below U.heap.size U w') ∧ Below W.heap.size W w')
      (fun e w' ⟨a, c, h1, h2, h3⟩ => ⟨a, c, h1, hide ⟨h2, h3⟩, below_next hU h3⟩))
  have RA := hide (show Row (W.alloc (.cells #[.slice ap G.params.length cp, .slice al F.locals.length cl] 23)) (w.heap.size + 1 + 1 + 1) #[.slice ap G.params.length cp, .slice al F.locals.length cl] 23 by have T := Row.made W #[.slice ap G.params.length cp, .slice al F.locals.length cl] 23; rw [z3] at T; exact T)
  have RB := hide (show Row ((W.alloc (.cells #[.slice ap G.params.length cp, .slice al F.locals.length cl] 23)).alloc (.cells #[.int .i64 2, .slice ar G.results.length cr, .int .i64 0, .bool false] 127)) (w.heap.size + 1 + 1 + 1) #[.slice ap G.params.length cp, .slice al F.locals.length cl] 23 from RA.out.kept (bel_one _ _))
  have RB' := hide (show Row ((W.alloc (.cells #[.slice ap G.params.length cp, .slice al F.locals.length cl] 23)).alloc (.cells #[.int .i64 2, .slice ar G.results.length cr, .int .i64 0, .bool false] 127)) (w.heap.size + 1 + 1 + 1 + 1) #[.int .i64 2, .slice ar G.results.length cr, .int .i64 0, .bool false] 127 by have T := Row.made (W.alloc (.cells #[.slice ap G.params.length cp, .slice al F.locals.length cl] 23)) #[.int .i64 2, .slice ar G.results.length cr, .int .i64 0, .bool false] 127; rw [show (W.alloc (.cells #[.slice ap G.params.length cp, .slice al F.locals.length cl] 23)).heap.size = w.heap.size + 1 + 1 + 1 + 1 by simp [z3]] at T; exact T)
  have RC0 := hide (show Row (W.alloc (.cells #[.int .i64 2, .slice ar G.results.length cr, .int .i64 0, .bool false] 127)) (w.heap.size + 1 + 1 + 1) #[.int .i64 2, .slice ar G.results.length cr, .int .i64 0, .bool false] 127 by have T := Row.made W #[.int .i64 2, .slice ar G.results.length cr, .int .i64 0, .bool false] 127; rw [z3] at T; exact T)
  have RC := hide (show Row ((W.alloc (.cells #[.int .i64 2, .slice ar G.results.length cr, .int .i64 0, .bool false] 127)).alloc (.cells #[.slice ap G.params.length cp, .slice al F.locals.length cl] 23)) (w.heap.size + 1 + 1 + 1 + 1) #[.slice ap G.params.length cp, .slice al F.locals.length cl] 23 by have T := Row.made (W.alloc (.cells #[.int .i64 2, .slice ar G.results.length cr, .int .i64 0, .bool false] 127)) #[.slice ap G.params.length cp, .slice al F.locals.length cl] 23; rw [show (W.alloc (.cells #[.int .i64 2, .slice ar G.results.length cr, .int .i64 0, .bool false] 127)).heap.size = w.heap.size + 1 + 1 + 1 + 1 by simp [z3]] at T; exact T)
  have RC' := hide (show Row ((W.alloc (.cells #[.int .i64 2, .slice ar G.results.length cr, .int .i64 0, .bool false] 127)).alloc (.cells #[.slice ap G.params.length cp, .slice al F.locals.length cl] 23)) (w.heap.size + 1 + 1 + 1) #[.int .i64 2, .slice ar G.results.length cr, .int .i64 0, .bool false] 127 from RC0.out.kept (bel_one _ _))
  go_region_held3 (fun X => X.cell? ⟨w.heap.size, 0, none⟩ = some (Value.slice (some ⟨b2, off2, none⟩) M.sigs.length c0) ∧ X.cell? ⟨w.heap.size, 1, none⟩ = some (v1) ∧ X.cell? ⟨w.heap.size, 2, none⟩ = some (Value.slice (some ⟨b, off, none⟩) M.funcs.length c2) ∧ X.cell? ⟨w.heap.size, 3, none⟩ = some (Value.int .i64 M.m0) ∧ X.cell? ⟨w.heap.size, 4, none⟩ = some (Value.int .i64 M.m1) ∧ X.cell? ⟨w.heap.size, 5, none⟩ = some (v5) ∧ X.cell? ⟨w.heap.size, 6, none⟩ = some (v6) ∧ X.cell? ⟨w.heap.size + 1, 1, none⟩ = some (Value.bool F.tr) ∧ X.cell? ⟨w.heap.size + 1, 2, none⟩ = some (Value.slice al F.locals.length cl) ∧ X.cell? ⟨w.heap.size + 1 + 1, 0, none⟩ = some (Value.slice ap G.params.length cp) ∧ X.cell? ⟨w.heap.size + 1 + 1, 1, none⟩ = some (Value.slice ar G.results.length cr)) (go_keep)
    (first | (go_at_call 48; refine (CC.out _ _ (by first | exact (bel_one W _).drew | exact (bel_one W _).drew.drew | exact ((bel_one W _).alloc (by simp) _) | exact ((bel_one W _).alloc (by simp) _).drew | exact ((bel_one W _).drew.alloc (by simp) _).drew ) (by first | exact RA.out | exact RB.out | exact RC.out)).mono ?_; rintro e w' ⟨a, c, rfl, HS, hb⟩; have k0 := hb.size; have x0 := (hb.cell (p := ⟨w.heap.size, 0, none⟩) (by show w.heap.size < W.heap.size; omega)).trans m0; have x1 := (hb.cell (p := ⟨w.heap.size, 1, none⟩) (by show w.heap.size < W.heap.size; omega)).trans m1; have x2 := (hb.cell (p := ⟨w.heap.size, 2, none⟩) (by show w.heap.size < W.heap.size; omega)).trans m2; have x3 := (hb.cell (p := ⟨w.heap.size, 3, none⟩) (by show w.heap.size < W.heap.size; omega)).trans m3; have x4 := (hb.cell (p := ⟨w.heap.size, 4, none⟩) (by show w.heap.size < W.heap.size; omega)).trans m4; have x5 := (hb.cell (p := ⟨w.heap.size, 5, none⟩) (by show w.heap.size < W.heap.size; omega)).trans m5; have x6 := (hb.cell (p := ⟨w.heap.size, 6, none⟩) (by show w.heap.size < W.heap.size; omega)).trans m6; have x7 := (hb.cell (p := ⟨w.heap.size + 1, 1, none⟩) (by show w.heap.size + 1 < W.heap.size; omega)).trans o1; have x8 := (hb.cell (p := ⟨w.heap.size + 1, 2, none⟩) (by show w.heap.size + 1 < W.heap.size; omega)).trans o2; have x9 := (hb.cell (p := ⟨w.heap.size + 1 + 1, 0, none⟩) (by show w.heap.size + 1 + 1 < W.heap.size; omega)).trans s0; have x10 := (hb.cell (p := ⟨w.heap.size + 1 + 1, 1, none⟩) (by show w.heap.size + 1 + 1 < W.heap.size; omega)).trans s1))
  · go_wp2_with fail
    go_ret
    have hS := HS.out.1
    rw [List.length_append] at hS
    have hlt := HS.out.2.size
    simp [z3] at hlt
    have T := begin_wj (Y := w'.alloc (.cells #[.int .i64 2, .slice ar G.results.length cr, .int .i64 0, .bool false] 127)) (V := ⟨.slice (some ⟨b2, off2, none⟩) M.sigs.length c0, v1, .slice (some ⟨b, off, none⟩) M.funcs.length c2, v5, v6⟩) (C := ⟨M, F.tr, G.params ++ F.locals⟩) (below_next (below_next HB.out hb) (bel_one _ _)) (by have := HB.out.size; omega) (Row.made w' _ 127) HR.out (sl_in hS (fun i hi => (bel_one w' _).block i hi.2) (fun i hi => hi)) (fun i hi => ⟨by have := hi.2; omega, by have := hi.2; simp; omega⟩)
    rw [show (w'.alloc (.cells #[.int .i64 2, .slice ar G.results.length cr, .int .i64 0, .bool false] 127)).heap.size = w'.heap.size + 1 by simp] at T
    exact ⟨_, _, _, _, rfl, by omega, T⟩
  · go_wp2_with fail
    go_ret
    have hS := HS.out.1
    rw [List.length_append] at hS
    have hlt := HS.out.2.size
    simp [z3] at hlt
    have T := begin_wj (Y := w') (V := ⟨.slice (some ⟨b2, off2, none⟩) M.sigs.length c0, v1, .slice (some ⟨b, off, none⟩) M.funcs.length c2, v5, v6⟩) (C := ⟨M, F.tr, G.params ++ F.locals⟩) (below_next HB.out hb) (by omega) ((row_drew RB'.out).kept HS.out.2) HR.out hS (fun i hi => ⟨by have := hi.1; simp [z3] at this; omega, hi.2⟩)
    exact ⟨_, _, _, _, rfl, by omega, T⟩
  · go_wp2_with fail
    go_ret
    have hS := HS.out.1
    rw [List.length_append] at hS
    have hlt := HS.out.2.size
    simp [z3] at hlt
    have T := begin_wj (Y := w') (V := ⟨.slice (some ⟨b2, off2, none⟩) M.sigs.length c0, v1, .slice (some ⟨b, off, none⟩) M.funcs.length c2, v5, v6⟩) (C := ⟨M, F.tr, G.params ++ F.locals⟩) (below_next HB.out hb) (by omega) ((row_drew RC'.out).kept HS.out.2) HR.out hS (fun i hi => ⟨by have := hi.1; simp [z3] at this; omega, hi.2⟩)
    exact ⟨_, _, _, _, rfl, by omega, T⟩
end Go.Proofs.YtamofhkmhjckaabGreatDoor

/-
  The worker puts a number into its memory, or lets it be.
-/
import Derived.Test.YtielpebokbolbaaWp
import Derived.WalkSpells
import Derived.Lib.SmallJoins
namespace Go.Proofs.Ytielpebokbolbaa
open Go.RowKit
open Xc (hide bel_one bel_tr bel_al bel_set le by8 bys jn)
set_option linter.unusedSimpArgs false
set_option linter.unusedVariables false
theorem bytes_row (w : World) (s : ByteArray) (cap : Nat) : BR (w.drew.alloc (.cells (bytesRow s cap) 5 ((bytesRow s cap).size, (bytesRow s cap).size + 1))) w.heap.size s.data.toList := by
  have hz : w.drew.heap.size = w.heap.size := rfl
  refine ⟨by simp, fun j hj => ?_⟩
  have hj' : j < s.data.size := by simpa using hj
  have h1 := World.cell?_alloc_mark w.drew (bytesRow s cap) 5 ((bytesRow s cap).size, (bytesRow s cap).size + 1) j
  have h2 := World.frozen?_alloc_mark w.drew (bytesRow s cap) 5 (bytesRow s cap).size ((bytesRow s cap).size + 1) j
  rw [hz] at h1 h2
  refine ⟨?_, ?_⟩
  · rw [h1, bytesRow_at s cap j hj']; simp
  · rw [h2]
    have : j < (bytesRow s cap).size := by simp only [bytesRow, Array.size_append, Array.size_map]; omega
    simp; omega
theorem step_bytes {ops : Array Oper} {o : Oper} {a : Act} {w : World} {K : Act → World → Prop} {Q : Exit → Act → World → Prop} {E : Prop}
    (hg : o.guard = none) (x : Operand) (ho : o.op = .convert 9 50 x) (s : ByteArray) (hx : a.eval x = .string s)
    (hK : ∀ cap w', Hid (s.size ≤ cap) → Hid (BR w' w.heap.size s.data.toList) → Hid (Below w.heap.size w w') → K (a.put o.dst (.slice (some ⟨w.heap.size, 0, none⟩) s.size cap)) w') :
    if Region.wanted o (yielded ops a.tmps) = true then Oper.wp Try.prog o a w K Q else E := by
  have hw : Region.wanted o (yielded ops a.tmps) = true := by simp [Region.wanted, hg]
  rw [if_pos hw]
  have hrun := run_bytes_of_string (P := Try.prog) w 9 50 5 s (by kernel_rfl) (by kernel_rfl) (by kernel_rfl)
  unfold Oper.wp
  simp only [execOp, ho, hx, Sem.run_bind, hrun, Result.andThen_ok]
  exact hK _ _ (grownCap_ge _ _ _ _) (bytes_row w s _) ((drew_below _ _).trans (bel_one w.drew _))
theorem ptM_none {g : List Rg} {a n v : Int} (h : fnN g a n = none) : ptM g a n v = none := by simp [ptM, h]
theorem ptM_some {g : List Rg} {a n v : Int} {i : Nat} (h : fnN g a n = some i) (hi : i < g.length) : ptM g a n v = some (g.set i (ptR g[i] a n v)) := by simp [ptM, h, hi]
/-- The blocks of bytes of its own are the old ones, or new ones. -/
def Grow (s : Nat) (os os' : Nat → Option (Nat × Nat)) : Prop := ∀ j q c, os' j = some (q, c) → os j = some (q, c) ∨ s ≤ q
theorem Grow.refl (s : Nat) (os : Nat → Option (Nat × Nat)) : Grow s os os := fun _ _ _ h => Or.inl h
theorem Grow.upd (s : Nat) (os : Nat → Option (Nat × Nat)) (i q c : Nat) (h : s ≤ q) : Grow s os (updo os i (some (q, c))) := fun j q' c' hj => by
  by_cases e : j = i
  · subst e; rw [updo_at] at hj; injection hj with hj; injection hj with h1 h2; subst h1; exact Or.inr h
  · rw [updo_ne _ e] at hj; exact Or.inl hj
/-- All but its own is kept. -/
def Kp (n : Nat) (oa : Option Addr) (os : Nat → Option (Nat × Nat)) (w w' : World) : Prop := ∀ b, b < w.heap.size → (0 < n → ∀ x, oa = some x → x.block ≠ b) → (∀ j q c, j < n → os j = some (q, c) → q ≠ b) → w'.heap[b]? = w.heap[b]?
def PtEnds (base B : Nat) (ra oa : Option Addr) (rc : Nat) (os : Nat → Option (Nat × Nat)) (m : Mc) (a n v : Int) (w : World) (e : Ending) (w' : World) : Prop := e = .returned (.bool (ptM m.g a n v).isSome) ∧ (∃ ss' os', WJ base B ra oa rc ss' os' { m with g := (ptM m.g a n v).getD m.g } w' ∧ Grow w.heap.size os os') ∧ Below base w w' ∧ Kp m.g.length oa os w w'
theorem pt_yes {base B : Nat} {ra oa : Option Addr} {rc : Nat} {ss' : Nat → ByteArray} {os os' : Nat → Option (Nat × Nat)} {m : Mc} {a n v : Int} {w : World} {g' : List Rg} (h : ptM m.g a n v = some g') {e : Ending} {w' : World} (h1 : e = .returned (.bool true)) (h2 : WJ base B ra oa rc ss' os' { m with g := g' } w') (h4 : Grow w.heap.size os os') (h3 : Below base w w') (h5 : Kp m.g.length oa os w w') : PtEnds base B ra oa rc os m a n v w e w' := by
  unfold PtEnds; rw [h]; exact ⟨h1, ⟨ss', os', h2, h4⟩, h3, h5⟩
theorem pt_no {base B : Nat} {ra oa : Option Addr} {rc : Nat} {ss' : Nat → ByteArray} {os : Nat → Option (Nat × Nat)} {m : Mc} {a n v : Int} {w : World} (h : ptM m.g a n v = none) {e : Ending} {w' : World} (h1 : e = .returned (.bool false)) (h2 : WJ base B ra oa rc ss' os m w') (h3 : Below base w w') (h5 : Kp m.g.length oa os w w') : PtEnds base B ra oa rc os m a n v w e w' := by
  unfold PtEnds; rw [h]; exact ⟨h1, ⟨ss', os, h2, Grow.refl _ _⟩, h3, h5⟩
section
variable {base B : Nat} {ra oa : Option Addr} {rc : Nat} {ss : Nat → ByteArray} {os : Nat → Option (Nat × Nat)} {m : Mc} {w : World}
theorem WJ.bs (h : WJ base B ra oa rc ss os m w) : base ≤ w.heap.size := Nat.le_of_lt (Nat.lt_of_le_of_lt h.le h.row.lt)
set_option maxHeartbeats 3200000 in
theorem wput_no (hJ : WJ base B ra oa rc ss os m w) (a n v : Int) (ha : I64 a) (hf : fnN m.g a n = none) :
    Calls Try.prog 24 #[.pointer (some ⟨B, 0, none⟩), .int .i64 a, .int .i64 n, .int .i64 v] w (PtEnds base B ra oa rc os m a n v w) := by
  have F := hide (number_rs ra rc m.g ss a n w ha hJ.sm hJ.mem.rs (fn_no hf))
  have cg := hJ.cg
  have HJ := hide hJ
  have E := hide (ptM_none (v := v) hf)
  clear hJ hf ha
  go_enter Try.func24, Try.ntmps24
  go_wp2_with fail
  refine F.out.mono ?_
  rintro e w1 ⟨rfl, hb1⟩
  clear cg F
  go_wp2_with fail
  go_ret
  exact pt_no E.out rfl (HJ.out.bel hb1) (hb1.mono HJ.out.bs) (fun b hb _ _ => hb1.block b hb)
/-- The machine behind a put. -/
theorem WJ.put {rb ob : Nat} {w2 : World} (hJ : WJ base B (some ⟨rb, 0, none⟩) (some ⟨ob, 0, none⟩) rc ss os m w) (hN : Wn base B rb ob m.g ss os w) (i : Nat) (hi : i < m.g.length) (q c : Nat) (ho : os i = some (q, c)) (a n v : Int) (hw : wn m.g[i] a n = true) (hn : n = 4 ∨ n = 8) (hw2 : w2 = w.setCells q (a - m.g[i].at_).toNat (Lib.byteCells (bys n.toNat v))) :
    WJ base B (some ⟨rb, 0, none⟩) (some ⟨ob, 0, none⟩) rc ss os { m with g := m.g.set i (ptR m.g[i] a n v) } w2 := by
  obtain ⟨a1, a2, a3, a4, a5, a6⟩ := hN.ow i hi q c ho
  refine ⟨?_, hJ.le, Or.inr ⟨rb, ob, rfl, rfl, hN.put i hi q c ho a n v hw hn hw2⟩, ⟨hJ.ok.1, hJ.ok.2.1, hJ.ok.2.2.1, fun r hr => ?_⟩, by simp; exact hJ.sm⟩
  · have hr := hJ.row
    unfold RowW at *
    rw [hw2, World.heap_setCells_other w q _ _ hJ.row.lt (Ne.symm a2), hr]
    simp [wc, wl]
  · rcases List.mem_or_eq_of_mem_set hr with hr | rfl
    · exact hJ.ok.2.2.2 r hr
    · have := hJ.ok.2.2.2 m.g[i] (List.getElem_mem _)
      exact ⟨this.1, by rw [ptR_len hw hn]; exact this.2⟩
/-- The machine behind a region's first put. -/
theorem WJ.fresh {rb ob : Nat} {w2 : World} (hJ : WJ base B (some ⟨rb, 0, none⟩) (some ⟨ob, 0, none⟩) rc ss os m w) (hN : Wn base B rb ob m.g ss os w) (i : Nat) (hi : i < m.g.length) (hcd : m.g[i].code = false) (hlen : 0 < m.g[i].by_.length) (q cap : Nat) (hq : w.heap.size ≤ q) (hk : Below w.heap.size w w2) (hcap : m.g[i].by_.length ≤ cap) (hB : BR w2 q m.g[i].by_) :
    WJ base B (some ⟨rb, 0, none⟩) (some ⟨ob, 0, none⟩) rc ss (updo os i (some (q, cap))) m (w2.setCell ⟨ob, i, none⟩ (.slice (some ⟨q, 0, none⟩) m.g[i].by_.length cap)) := by
  have hl := hJ.row.lt
  have hle := hJ.le
  refine ⟨?_, hJ.le, Or.inr ⟨rb, ob, rfl, rfl, hN.fresh i hi hcd hlen q cap hq (by omega) (by omega) hk hcap hB⟩, hJ.ok, hJ.sm⟩
  have hr := hJ.row.bel hk
  unfold RowW at *
  rw [Below.heap_setCell w2 ⟨ob, i, none⟩ _ B (Ne.symm hN.n2)]; exact hr
theorem by8_take (v : Int) (n : Nat) (h : n ≤ 8) : (bys 8 v).take n = bys n v := by
  apply List.ext_getElem
  · simp [Xc.bys_len]; omega
  · intro j h1 h2
    simp [bys_get]
set_option maxHeartbeats 3200000 in
theorem wput_own4 (hJ : WJ base B ra oa rc ss os m w) (a v : Int) (ha : I64 a) (i : Nat) (hi : i < m.g.length) (hf : fnN m.g a 4 = some i) (bq bc : Nat) (ho : os i = some (bq, bc)) :
    Calls Try.prog 24 #[.pointer (some ⟨B, 0, none⟩), .int .i64 a, .int .i64 4, .int .i64 v] w (PtEnds base B ra oa rc os m a 4 v w) := by
  have F := hide (number_rs ra rc m.g ss a 4 w ha hJ.sm hJ.mem.rs (fn_yes hf hi))
  obtain ⟨rb, ob, rfl, rfl, hN⟩ := hJ.mem.at_ hi
  have hwn : wn m.g[i] a 4 = true := (fnN_some hf).2.2.2
  obtain ⟨p, hp⟩ : ∃ p : Nat, a - m.g[i].at_ = (p : Int) := ⟨(a - m.g[i].at_).toNat, by have := wn_iff.1 hwn; omega⟩
  have hfit : p + 4 ≤ m.g[i].by_.length := by have h1 := wn_iff.1 hwn; omega
  rw [hp] at F
  have HP := hide hp
  have E := hide (ptM_some (v := v) hf hi)
  have HW := hide hwn
  have cg := hJ.cg
  have HJ := hide hJ
  have HN := hide hN
  have q50 := eqn50
  clear hJ hN hf ha hp hwn
  go_enter Try.func24, Try.ntmps24
  go_wp2_with fail
  refine F.out.mono ?_
  rintro e w1 ⟨rfl, hb1⟩
  clear cg F
  have J1 := hide (HJ.out.bel hb1)
  have N1 := hide (HN.out.of hb1.size fun b _ hb => hb1.block b hb)
  have w1B := hide (hb1.mono HJ.out.bs)
  have w1K := hide hb1
  have cw := J1.out.cw
  have c24 : w1.cell? ⟨ob, i, none⟩ = some (.slice (some ⟨bq, 0, none⟩) m.g[i].by_.length bc) := by rw [N1.out.oc i hi, ho]; rfl
  clear HJ HN hb1
  go_wp2_with fail
  refine (split_any v w1).mono ?_
  rintro e u1 ⟨rfl, hu1⟩
  have JU := J1.out.bel hu1
  have NU := N1.out.of hu1.size fun b _ hb => hu1.block b hb
  have HU := hide (w1B.out.trans (hu1.mono J1.out.bs))
  have HK := hide (bel_tr w1K.out hu1)
  clear J1 N1 w1B hu1 w1K
  have h8 := Xc.bys_len 8 v
  obtain ⟨b0, b1, b2, b3, b4, b5, b6, b7, e8⟩ := eight h8
  have HV : Hid ([b0, b1, b2, b3, b4, b5, b6, b7].take 4 = bys 4 v) := by show _ = _; rw [← e8]; exact by8_take v 4 (by decide)
  clear h8
  rw [e8]
  clear e8
  simp only [bv, List.map_cons, List.map_nil]
  have cw0 := JU.cw
  have c240 : u1.cell? ⟨ob, i, none⟩ = some (.slice (some ⟨bq, 0, none⟩) m.g[i].by_.length bc) := by rw [NU.oc i hi, ho]; rfl
  have hBu : B < u1.heap.size := JU.row.lt
  have hou : ob < u1.heap.size := NU.l2
  have JUH := hide JU
  have NUH := hide NU
  have hlen : Hid (p + 4 ≤ m.g[i].by_.length) := hfit
  have hcap := NU.cp i hi bq bc ho
  have hne : ¬ bc = p := by omega
  have hpl : p ≤ m.g[i].by_.length := by omega
  have hqB := NU.ow i hi bq bc ho
  clear JU NU hfit
  go_wp2_with fail
  have hA : BR (u1.alloc (.cells #[.int .u8 (b0.toNat : Int), .int .u8 (b1.toNat : Int), .int .u8 (b2.toNat : Int), .int .u8 (b3.toNat : Int), .int .u8 (b4.toNat : Int), .int .u8 (b5.toNat : Int), .int .u8 (b6.toNat : Int), .int .u8 (b7.toNat : Int)] 61)) u1.heap.size [b0, b1, b2, b3, b4, b5, b6, b7] := by
    refine BR.made u1 _ 61 _ fun j hj => ?_
    simp at hj
    match j, hj with
    | 0, _ => rfl
    | 1, _ => rfl
    | 2, _ => rfl
    | 3, _ => rfl
    | 4, _ => rfl
    | 5, _ => rfl
    | 6, _ => rfl
    | 7, _ => rfl
  have hal := bel_one u1 (.cells #[.int .u8 (b0.toNat : Int), .int .u8 (b1.toNat : Int), .int .u8 (b2.toNat : Int), .int .u8 (b3.toNat : Int), .int .u8 (b4.toNat : Int), .int .u8 (b5.toNat : Int), .int .u8 (b6.toNat : Int), .int .u8 (b7.toNat : Int)] 61)
  have J2 := hide (JUH.out.bel hal)
  have N2 := hide (NUH.out.of hal.size fun b _ hb => hal.block b hb)
  have HU2 := hide (HU.out.trans (hal.mono JUH.out.bs))
  have HK2 := hide (bel_tr HK.out hal)
  have hq2 := hqB.2.2.2.2.1.kept hal
  have hbq : base ≤ bq := hqB.1
  have cw2 := J2.out.cw
  have c242 : _ = some (Value.slice (some ⟨bq, 0, none⟩) m.g[i].by_.length bc) := (hal.cell (p := ⟨ob, i, none⟩) hou).trans c240
  clear cw0 c240 hal JUH NUH HU HK hBu hou hqB
  generalize u1.alloc _ = u2 at *
  generalize u1.heap.size = qa at *
  have hmn : Nat.min 4 (m.g[i].by_.length - p) = 4 := by have := hlen.out; show min _ _ = _; omega
  have hyl : Hid ((([b0, b1, b2, b3, b4, b5, b6, b7].drop 0).take (Nat.min 4 (m.g[i].by_.length - p))).length = Nat.min 4 (m.g[i].by_.length - p)) := by show _ = _; rw [hmn]; rfl
  have hff : Hid (p + (([b0, b1, b2, b3, b4, b5, b6, b7].drop 0).take (Nat.min 4 (m.g[i].by_.length - p))).length ≤ m.g[i].by_.length) := by show _ ≤ _; rw [hyl.out, hmn]; exact hlen.out
  have HMN := hide hmn
  clear hmn hcap
  go_region_law (refine step_copy_br rfl (.tmp 61) (.tmp 63) 50 50 rfl 5 ubytes i5 bq p (m.g[i].by_.length - p) (bc - p) (by simp [Act.eval, Act.put]) qa 0 4 8 (by simp [Act.eval, Act.put]) m.g[i].by_ [b0, b1, b2, b3, b4, b5, b6, b7] _ (hq2.of_block rfl) (hA.of_block rfl) rfl hyl.out hff.out ?_; intro w3 hw3)
  have hw4 := hw3.out
  rw [HMN.out, List.drop_zero, HV.out] at hw4
  have hp3 : (a - m.g[i].at_).toNat = p := by rw [HP.out]; rfl
  have J3 := hide (WJ.put (w2 := w3) (J2.out.bel (drew_below _ _)) (N2.out.of (Nat.le_refl _) fun b _ _ => rfl) i hi bq bc ho a 4 v HW.out (by decide) (by rw [hp3]; exact hw4))
  have B3 := hide (show Below base w w3 by rw [hw4]; exact Lib.below_setCells _ hbq _ _ (HU2.out.trans (drew_below _ _)))
  have K3 : Hid (Kp m.g.length (some ⟨ob, 0, none⟩) os w w3) := fun b hb _ hq => by
    have hne : b ≠ bq := (hq i bq bc hi ho).symm
    rw [hw4, World.heap_setCells_other u2.drew _ _ _ (Nat.lt_of_lt_of_le hb HK2.out.size) hne]; exact HK2.out.block b hb
  clear HK2 hw3 hw4 hp3 hyl hff HMN hA hq2 J2 N2 HU2 cw2 c242 hlen hne hpl
  go_wp2_with fail
  go_ret
  exact pt_yes E.out rfl J3.out (Grow.refl _ _) B3.out K3.out
set_option maxHeartbeats 3200000 in
theorem wput_own8 (hJ : WJ base B ra oa rc ss os m w) (a v : Int) (ha : I64 a) (i : Nat) (hi : i < m.g.length) (hf : fnN m.g a 8 = some i) (bq bc : Nat) (ho : os i = some (bq, bc)) :
    Calls Try.prog 24 #[.pointer (some ⟨B, 0, none⟩), .int .i64 a, .int .i64 8, .int .i64 v] w (PtEnds base B ra oa rc os m a 8 v w) := by
  have F := hide (number_rs ra rc m.g ss a 8 w ha hJ.sm hJ.mem.rs (fn_yes hf hi))
  obtain ⟨rb, ob, rfl, rfl, hN⟩ := hJ.mem.at_ hi
  have hwn : wn m.g[i] a 8 = true := (fnN_some hf).2.2.2
  obtain ⟨p, hp⟩ : ∃ p : Nat, a - m.g[i].at_ = (p : Int) := ⟨(a - m.g[i].at_).toNat, by have := wn_iff.1 hwn; omega⟩
  have hfit : p + 8 ≤ m.g[i].by_.length := by have h1 := wn_iff.1 hwn; omega
  rw [hp] at F
  have HP := hide hp
  have E := hide (ptM_some (v := v) hf hi)
  have HW := hide hwn
  have cg := hJ.cg
  have HJ := hide hJ
  have HN := hide hN
  have q50 := eqn50
  clear hJ hN hf ha hp hwn
  go_enter Try.func24, Try.ntmps24
  go_wp2_with fail
  refine F.out.mono ?_
  rintro e w1 ⟨rfl, hb1⟩
  clear cg F
  have J1 := hide (HJ.out.bel hb1)
  have N1 := hide (HN.out.of hb1.size fun b _ hb => hb1.block b hb)
  have w1B := hide (hb1.mono HJ.out.bs)
  have w1K := hide hb1
  have cw := J1.out.cw
  have c24 : w1.cell? ⟨ob, i, none⟩ = some (.slice (some ⟨bq, 0, none⟩) m.g[i].by_.length bc) := by rw [N1.out.oc i hi, ho]; rfl
  clear HJ HN hb1
  go_wp2_with fail
  refine (split_any v w1).mono ?_
  rintro e u1 ⟨rfl, hu1⟩
  have JU := J1.out.bel hu1
  have NU := N1.out.of hu1.size fun b _ hb => hu1.block b hb
  have HU := hide (w1B.out.trans (hu1.mono J1.out.bs))
  have HK := hide (bel_tr w1K.out hu1)
  clear J1 N1 w1B hu1 w1K
  have h8 := Xc.bys_len 8 v
  obtain ⟨b0, b1, b2, b3, b4, b5, b6, b7, e8⟩ := eight h8
  have HV : Hid ([b0, b1, b2, b3, b4, b5, b6, b7].take 8 = bys 8 v) := by show _ = _; rw [← e8]; exact by8_take v 8 (by decide)
  clear h8
  rw [e8]
  clear e8
  simp only [bv, List.map_cons, List.map_nil]
  have cw0 := JU.cw
  have c240 : u1.cell? ⟨ob, i, none⟩ = some (.slice (some ⟨bq, 0, none⟩) m.g[i].by_.length bc) := by rw [NU.oc i hi, ho]; rfl
  have hBu : B < u1.heap.size := JU.row.lt
  have hou : ob < u1.heap.size := NU.l2
  have JUH := hide JU
  have NUH := hide NU
  have hlen : Hid (p + 8 ≤ m.g[i].by_.length) := hfit
  have hcap := NU.cp i hi bq bc ho
  have hne : ¬ bc = p := by omega
  have hpl : p ≤ m.g[i].by_.length := by omega
  have hqB := NU.ow i hi bq bc ho
  clear JU NU hfit
  go_wp2_with fail
  have hA : BR (u1.alloc (.cells #[.int .u8 (b0.toNat : Int), .int .u8 (b1.toNat : Int), .int .u8 (b2.toNat : Int), .int .u8 (b3.toNat : Int), .int .u8 (b4.toNat : Int), .int .u8 (b5.toNat : Int), .int .u8 (b6.toNat : Int), .int .u8 (b7.toNat : Int)] 61)) u1.heap.size [b0, b1, b2, b3, b4, b5, b6, b7] := by
    refine BR.made u1 _ 61 _ fun j hj => ?_
    simp at hj
    match j, hj with
    | 0, _ => rfl
    | 1, _ => rfl
    | 2, _ => rfl
    | 3, _ => rfl
    | 4, _ => rfl
    | 5, _ => rfl
    | 6, _ => rfl
    | 7, _ => rfl
  have hal := bel_one u1 (.cells #[.int .u8 (b0.toNat : Int), .int .u8 (b1.toNat : Int), .int .u8 (b2.toNat : Int), .int .u8 (b3.toNat : Int), .int .u8 (b4.toNat : Int), .int .u8 (b5.toNat : Int), .int .u8 (b6.toNat : Int), .int .u8 (b7.toNat : Int)] 61)
  have J2 := hide (JUH.out.bel hal)
  have N2 := hide (NUH.out.of hal.size fun b _ hb => hal.block b hb)
  have HU2 := hide (HU.out.trans (hal.mono JUH.out.bs))
  have HK2 := hide (bel_tr HK.out hal)
  have hq2 := hqB.2.2.2.2.1.kept hal
  have hbq : base ≤ bq := hqB.1
  have cw2 := J2.out.cw
  have c242 : _ = some (Value.slice (some ⟨bq, 0, none⟩) m.g[i].by_.length bc) := (hal.cell (p := ⟨ob, i, none⟩) hou).trans c240
  clear cw0 c240 hal JUH NUH HU HK hBu hou hqB
  generalize u1.alloc _ = u2 at *
  generalize u1.heap.size = qa at *
  have hmn : Nat.min 8 (m.g[i].by_.length - p) = 8 := by have := hlen.out; show min _ _ = _; omega
  have hyl : Hid ((([b0, b1, b2, b3, b4, b5, b6, b7].drop 0).take (Nat.min 8 (m.g[i].by_.length - p))).length = Nat.min 8 (m.g[i].by_.length - p)) := by show _ = _; rw [hmn]; rfl
  have hff : Hid (p + (([b0, b1, b2, b3, b4, b5, b6, b7].drop 0).take (Nat.min 8 (m.g[i].by_.length - p))).length ≤ m.g[i].by_.length) := by show _ ≤ _; rw [hyl.out, hmn]; exact hlen.out
  have HMN := hide hmn
  clear hmn hcap
  go_region_law (refine step_copy_br rfl (.tmp 61) (.tmp 63) 50 50 rfl 5 ubytes i5 bq p (m.g[i].by_.length - p) (bc - p) (by simp [Act.eval, Act.put]) qa 0 8 8 (by simp [Act.eval, Act.put]) m.g[i].by_ [b0, b1, b2, b3, b4, b5, b6, b7] _ (hq2.of_block rfl) (hA.of_block rfl) rfl hyl.out hff.out ?_; intro w3 hw3)
  have hw4 := hw3.out
  rw [HMN.out, List.drop_zero, HV.out] at hw4
  have hp3 : (a - m.g[i].at_).toNat = p := by rw [HP.out]; rfl
  have J3 := hide (WJ.put (w2 := w3) (J2.out.bel (drew_below _ _)) (N2.out.of (Nat.le_refl _) fun b _ _ => rfl) i hi bq bc ho a 8 v HW.out (by decide) (by rw [hp3]; exact hw4))
  have B3 := hide (show Below base w w3 by rw [hw4]; exact Lib.below_setCells _ hbq _ _ (HU2.out.trans (drew_below _ _)))
  have K3 : Hid (Kp m.g.length (some ⟨ob, 0, none⟩) os w w3) := fun b hb _ hq => by
    have hne : b ≠ bq := (hq i bq bc hi ho).symm
    rw [hw4, World.heap_setCells_other u2.drew _ _ _ (Nat.lt_of_lt_of_le hb HK2.out.size) hne]; exact HK2.out.block b hb
  clear HK2 hw3 hw4 hp3 hyl hff HMN hA hq2 J2 N2 HU2 cw2 c242 hlen hne hpl
  go_wp2_with fail
  go_ret
  exact pt_yes E.out rfl J3.out (Grow.refl _ _) B3.out K3.out
set_option maxHeartbeats 3200000 in
theorem wput_new4 (hJ : WJ base B ra oa rc ss os m w) (a v : Int) (ha : I64 a) (i : Nat) (hi : i < m.g.length) (hf : fnN m.g a 4 = some i) (ho : os i = none) :
    Calls Try.prog 24 #[.pointer (some ⟨B, 0, none⟩), .int .i64 a, .int .i64 4, .int .i64 v] w (PtEnds base B ra oa rc os m a 4 v w) := by
  have F := hide (number_rs ra rc m.g ss a 4 w ha hJ.sm hJ.mem.rs (fn_yes hf hi))
  obtain ⟨rb, ob, rfl, rfl, hN⟩ := hJ.mem.at_ hi
  have hwn : wn m.g[i] a 4 = true := (fnN_some hf).2.2.2
  have hcd : Hid (m.g[i].code = false) := (fnN_some hf).2.2.1
  obtain ⟨p, hp⟩ : ∃ p : Nat, a - m.g[i].at_ = (p : Int) := ⟨(a - m.g[i].at_).toNat, by have := wn_iff.1 hwn; omega⟩
  have hfit : p + 4 ≤ m.g[i].by_.length := by have h1 := wn_iff.1 hwn; omega
  rw [hp] at F
  have HP := hide hp
  have E := hide (ptM_some (v := v) hf hi)
  have HW := hide hwn
  have cg := hJ.cg
  have HJ := hide hJ
  have HN := hide hN
  have q50 := eqn50
  have rbs := fun W => run_bytes_of_string (P := Try.prog) W 9 50 5 (ss i) (by kernel_rfl) (by kernel_rfl) (by kernel_rfl)
  have hss : Hid ((ss i).data.toList = m.g[i].by_) := hN.no i hi ho
  have HF := hide hfit
  clear hJ hN hf ha hp hwn hfit
  go_enter Try.func24, Try.ntmps24
  go_wp2_with fail
  refine F.out.mono ?_
  rintro e w1 ⟨rfl, hb1⟩
  clear cg F
  have J1 := hide (HJ.out.bel hb1)
  have N1 := hide (HN.out.of hb1.size fun b _ hb => hb1.block b hb)
  have w1B := hide (hb1.mono HJ.out.bs)
  have w1K := hide hb1
  have cw := J1.out.cw
  have cg := J1.out.cg
  have c24 : w1.cell? ⟨ob, i, none⟩ = some (.slice none 0 0) := by rw [N1.out.oc i hi, ho]; rfl
  have cst : w1.cell? ⟨rb, i * 3 + 1, none⟩ = some (.string (ss i)) := by have := (N1.out.rl i hi).2.1; rwa [Nat.zero_add] at this
  have fo := N1.out.of' i
  have hB1 : B < w1.heap.size := J1.out.row.lt
  have ho1 : ob < w1.heap.size := N1.out.l2
  have hr1 : rb < w1.heap.size := N1.out.l1
  clear HJ HN hb1
  go_wp2_with fail
  go_region
  have hws : ((w1.setCell ⟨ob, i, none⟩ (Value.slice (some ⟨w1.heap.size, 0, none⟩) (ss i).size (grownCap w1.drew (ss i).size 0 5))).alloc (Obj.cells (bytesRow (ss i) (grownCap w1.drew (ss i).size 0 5)) 5 ((bytesRow (ss i) (grownCap w1.drew (ss i).size 0 5)).size, (bytesRow (ss i) (grownCap w1.drew (ss i).size 0 5)).size + 1))).drew.drew = ((w1.drew.drew.alloc (Obj.cells (bytesRow (ss i) (grownCap w1.drew (ss i).size 0 5)) 5 ((bytesRow (ss i) (grownCap w1.drew (ss i).size 0 5)).size, (bytesRow (ss i) (grownCap w1.drew (ss i).size 0 5)).size + 1))).setCell ⟨ob, i, none⟩ (Value.slice (some ⟨w1.heap.size, 0, none⟩) (ss i).size (grownCap w1.drew (ss i).size 0 5))) := by
    rw [← World.setCell_alloc_past _ _ _ _ ho1]; rfl
  have hsz : (ss i).size = m.g[i].by_.length := by rw [← hss.out]; simp
  have hcap : (ss i).size ≤ grownCap w1.drew (ss i).size 0 5 := grownCap_ge _ _ _ _
  have hBq := bytes_row w1.drew (ss i) (grownCap w1.drew (ss i).size 0 5)
  have hk2 : Below w1.heap.size w1 (w1.drew.drew.alloc (Obj.cells (bytesRow (ss i) (grownCap w1.drew (ss i).size 0 5)) 5 ((bytesRow (ss i) (grownCap w1.drew (ss i).size 0 5)).size, (bytesRow (ss i) (grownCap w1.drew (ss i).size 0 5)).size + 1))) := ((drew_below _ _).trans (drew_below _ _)).trans (bel_one w1.drew.drew _)
  rw [hws]
  clear hws rbs cst cg c24 cw fo
  rw [hss.out] at hBq
  rw [hsz] at hcap hBq hk2 ⊢
  generalize grownCap w1.drew m.g[i].by_.length 0 5 = bc at *
  obtain ⟨w2, hw2⟩ : ∃ w2, w2 = w1.drew.drew.alloc (Obj.cells (bytesRow (ss i) bc) 5 ((bytesRow (ss i) bc).size, (bytesRow (ss i) bc).size + 1)) := ⟨_, rfl⟩
  have hBq' : BR w2 w1.heap.size m.g[i].by_ := by rw [hw2]; exact hBq
  have hk2' : Below w1.heap.size w1 w2 := by rw [hw2]; exact hk2
  rw [← hw2]
  clear hw2 hBq hk2
  have hBq := hBq'
  have hk2 := hk2'
  clear hBq' hk2'
  have hbq0 : w1.heap.size ≤ w1.heap.size := Nat.le_refl _
  have hpos : 0 < m.g[i].by_.length := by have := HF.out; omega
  have J2 := hide (J1.out.fresh N1.out i hi hcd.out hpos w1.heap.size bc hbq0 hk2 hcap hBq)
  have N2 := hide (N1.out.fresh i hi hcd.out hpos w1.heap.size bc hbq0 (by have := J1.out.le; omega) (by omega) hk2 hcap hBq)
  have ho := updo_at os i (some (w1.heap.size, bc))
  have hbB := J1.out.bs
  have w3B := hide (show Below base w (w2.setCell ⟨ob, i, none⟩ (Value.slice (some ⟨w1.heap.size, 0, none⟩) m.g[i].by_.length bc)) from (w1B.out.trans (hk2.mono hbB)).setCell (p := ⟨ob, i, none⟩) N1.out.b2 _)
  have w3K := hide (show w.heap.size ≤ (w2.setCell ⟨ob, i, none⟩ (Value.slice (some ⟨w1.heap.size, 0, none⟩) m.g[i].by_.length bc)).heap.size ∧ ∀ b, b < w.heap.size → b ≠ ob → (w2.setCell ⟨ob, i, none⟩ (Value.slice (some ⟨w1.heap.size, 0, none⟩) m.g[i].by_.length bc)).heap[b]? = w.heap[b]? from ⟨by have h1 := w1K.out.size; have h2 := hk2.size; simp only [World.setCell, Array.size_modify]; omega, fun b hb hne => (Below.heap_setCell w2 ⟨ob, i, none⟩ _ b hne).trans ((hk2.block b (Nat.lt_of_lt_of_le hb w1K.out.size)).trans (w1K.out.block b hb))⟩)
  have GR := hide (Grow.upd w.heap.size os i w1.heap.size bc w1K.out.size)
  have hge := hide w1K.out.size
  clear w1K J1 N1 w1B hk2 hcap hBq hss hsz hpos hbq0 hcd
  generalize updo os i (some (w1.heap.size, bc)) = os2 at *
  generalize w1.heap.size = bq at *
  generalize w2.setCell _ _ = w3 at J2 N2 w3B w3K ⊢
  clear hB1 ho1 hr1 hbB
  have hfit := HF.out
  clear HF
  go_wp2_with fail
  refine (split_any v w3).mono ?_
  rintro e u1 ⟨rfl, hu1⟩
  have JU := J2.out.bel hu1
  have NU := N2.out.of hu1.size fun b _ hb => hu1.block b hb
  have HU := hide (w3B.out.trans (hu1.mono J2.out.bs))
  have HK : Hid (w.heap.size ≤ u1.heap.size ∧ ∀ b, b < w.heap.size → b ≠ ob → u1.heap[b]? = w.heap[b]?) := ⟨Nat.le_trans w3K.out.1 hu1.size, fun b hb hne => (hu1.block b (Nat.lt_of_lt_of_le hb w3K.out.1)).trans (w3K.out.2 b hb hne)⟩
  clear J2 N2 w3B hu1 w3K
  have h8 := Xc.bys_len 8 v
  obtain ⟨b0, b1, b2, b3, b4, b5, b6, b7, e8⟩ := eight h8
  have HV : Hid ([b0, b1, b2, b3, b4, b5, b6, b7].take 4 = bys 4 v) := by show _ = _; rw [← e8]; exact by8_take v 4 (by decide)
  clear h8
  rw [e8]
  clear e8
  simp only [bv, List.map_cons, List.map_nil]
  have cw0 := JU.cw
  have c240 : u1.cell? ⟨ob, i, none⟩ = some (.slice (some ⟨bq, 0, none⟩) m.g[i].by_.length bc) := by rw [NU.oc i hi, ho]; rfl
  have hBu : B < u1.heap.size := JU.row.lt
  have hou : ob < u1.heap.size := NU.l2
  have JUH := hide JU
  have NUH := hide NU
  have hlen : Hid (p + 4 ≤ m.g[i].by_.length) := hfit
  have hcap := NU.cp i hi bq bc ho
  have hne : ¬ bc = p := by omega
  have hpl : p ≤ m.g[i].by_.length := by omega
  have hqB := NU.ow i hi bq bc ho
  clear JU NU hfit
  go_wp2_with fail
  have hA : BR (u1.alloc (.cells #[.int .u8 (b0.toNat : Int), .int .u8 (b1.toNat : Int), .int .u8 (b2.toNat : Int), .int .u8 (b3.toNat : Int), .int .u8 (b4.toNat : Int), .int .u8 (b5.toNat : Int), .int .u8 (b6.toNat : Int), .int .u8 (b7.toNat : Int)] 61)) u1.heap.size [b0, b1, b2, b3, b4, b5, b6, b7] := by
    refine BR.made u1 _ 61 _ fun j hj => ?_
    simp at hj
    match j, hj with
    | 0, _ => rfl
    | 1, _ => rfl
    | 2, _ => rfl
    | 3, _ => rfl
    | 4, _ => rfl
    | 5, _ => rfl
    | 6, _ => rfl
    | 7, _ => rfl
  have hal := bel_one u1 (.cells #[.int .u8 (b0.toNat : Int), .int .u8 (b1.toNat : Int), .int .u8 (b2.toNat : Int), .int .u8 (b3.toNat : Int), .int .u8 (b4.toNat : Int), .int .u8 (b5.toNat : Int), .int .u8 (b6.toNat : Int), .int .u8 (b7.toNat : Int)] 61)
  have J2 := hide (JUH.out.bel hal)
  have N2 := hide (NUH.out.of hal.size fun b _ hb => hal.block b hb)
  have HU2 := hide (HU.out.trans (hal.mono JUH.out.bs))
  have HK2 := hide (show w.heap.size ≤ (u1.alloc (.cells #[.int .u8 (b0.toNat : Int), .int .u8 (b1.toNat : Int), .int .u8 (b2.toNat : Int), .int .u8 (b3.toNat : Int), .int .u8 (b4.toNat : Int), .int .u8 (b5.toNat : Int), .int .u8 (b6.toNat : Int), .int .u8 (b7.toNat : Int)] 61)).heap.size ∧ ∀ b, b < w.heap.size → b ≠ ob → (u1.alloc (.cells #[.int .u8 (b0.toNat : Int), .int .u8 (b1.toNat : Int), .int .u8 (b2.toNat : Int), .int .u8 (b3.toNat : Int), .int .u8 (b4.toNat : Int), .int .u8 (b5.toNat : Int), .int .u8 (b6.toNat : Int), .int .u8 (b7.toNat : Int)] 61)).heap[b]? = w.heap[b]? from ⟨Nat.le_trans HK.out.1 hal.size, fun b hb hne => (hal.block b (Nat.lt_of_lt_of_le hb HK.out.1)).trans (HK.out.2 b hb hne)⟩)
  have hq2 := hqB.2.2.2.2.1.kept hal
  have hbq : base ≤ bq := hqB.1
  have cw2 := J2.out.cw
  have c242 : _ = some (Value.slice (some ⟨bq, 0, none⟩) m.g[i].by_.length bc) := (hal.cell (p := ⟨ob, i, none⟩) hou).trans c240
  clear cw0 c240 hal JUH NUH HU HK hBu hou hqB
  generalize u1.alloc _ = u2 at *
  generalize u1.heap.size = qa at *
  have hmn : Nat.min 4 (m.g[i].by_.length - p) = 4 := by have := hlen.out; show min _ _ = _; omega
  have hyl : Hid ((([b0, b1, b2, b3, b4, b5, b6, b7].drop 0).take (Nat.min 4 (m.g[i].by_.length - p))).length = Nat.min 4 (m.g[i].by_.length - p)) := by show _ = _; rw [hmn]; rfl
  have hff : Hid (p + (([b0, b1, b2, b3, b4, b5, b6, b7].drop 0).take (Nat.min 4 (m.g[i].by_.length - p))).length ≤ m.g[i].by_.length) := by show _ ≤ _; rw [hyl.out, hmn]; exact hlen.out
  have HMN := hide hmn
  clear hmn hcap
  go_region_law (refine step_copy_br rfl (.tmp 61) (.tmp 63) 50 50 rfl 5 ubytes i5 bq p (m.g[i].by_.length - p) (bc - p) (by simp [Act.eval, Act.put]) qa 0 4 8 (by simp [Act.eval, Act.put]) m.g[i].by_ [b0, b1, b2, b3, b4, b5, b6, b7] _ (hq2.of_block rfl) (hA.of_block rfl) rfl hyl.out hff.out ?_; intro w3 hw3)
  have hw4 := hw3.out
  rw [HMN.out, List.drop_zero, HV.out] at hw4
  have hp3 : (a - m.g[i].at_).toNat = p := by rw [HP.out]; rfl
  have J3 := hide (WJ.put (w2 := w3) (J2.out.bel (drew_below _ _)) (N2.out.of (Nat.le_refl _) fun b _ _ => rfl) i hi bq bc ho a 4 v HW.out (by decide) (by rw [hp3]; exact hw4))
  have B3 := hide (show Below base w w3 by rw [hw4]; exact Lib.below_setCells _ hbq _ _ (HU2.out.trans (drew_below _ _)))
  have K3 : Hid (Kp m.g.length (some ⟨ob, 0, none⟩) os w w3) := fun b hb ho' _ => by
    have hne : b ≠ ob := (ho' (by omega) _ rfl).symm
    have hnq : b ≠ bq := by have := hge.out; omega
    rw [hw4, World.heap_setCells_other u2.drew _ _ _ (Nat.lt_of_lt_of_le hb HK2.out.1) hnq]; exact HK2.out.2 b hb hne
  clear HK2 hge hw3 hw4 hp3 hyl hff HMN hA hq2 J2 N2 HU2 cw2 c242 hlen hne hpl
  go_wp2_with fail
  go_ret
  exact pt_yes E.out rfl J3.out GR.out B3.out K3.out
set_option maxHeartbeats 3200000 in
theorem wput_new8 (hJ : WJ base B ra oa rc ss os m w) (a v : Int) (ha : I64 a) (i : Nat) (hi : i < m.g.length) (hf : fnN m.g a 8 = some i) (ho : os i = none) :
    Calls Try.prog 24 #[.pointer (some ⟨B, 0, none⟩), .int .i64 a, .int .i64 8, .int .i64 v] w (PtEnds base B ra oa rc os m a 8 v w) := by
  have F := hide (number_rs ra rc m.g ss a 8 w ha hJ.sm hJ.mem.rs (fn_yes hf hi))
  obtain ⟨rb, ob, rfl, rfl, hN⟩ := hJ.mem.at_ hi
  have hwn : wn m.g[i] a 8 = true := (fnN_some hf).2.2.2
  have hcd : Hid (m.g[i].code = false) := (fnN_some hf).2.2.1
  obtain ⟨p, hp⟩ : ∃ p : Nat, a - m.g[i].at_ = (p : Int) := ⟨(a - m.g[i].at_).toNat, by have := wn_iff.1 hwn; omega⟩
  have hfit : p + 8 ≤ m.g[i].by_.length := by have h1 := wn_iff.1 hwn; omega
  rw [hp] at F
  have HP := hide hp
  have E := hide (ptM_some (v := v) hf hi)
  have HW := hide hwn
  have cg := hJ.cg
  have HJ := hide hJ
  have HN := hide hN
  have q50 := eqn50
  have rbs := fun W => run_bytes_of_string (P := Try.prog) W 9 50 5 (ss i) (by kernel_rfl) (by kernel_rfl) (by kernel_rfl)
  have hss : Hid ((ss i).data.toList = m.g[i].by_) := hN.no i hi ho
  have HF := hide hfit
  clear hJ hN hf ha hp hwn hfit
  go_enter Try.func24, Try.ntmps24
  go_wp2_with fail
  refine F.out.mono ?_
  rintro e w1 ⟨rfl, hb1⟩
  clear cg F
  have J1 := hide (HJ.out.bel hb1)
  have N1 := hide (HN.out.of hb1.size fun b _ hb => hb1.block b hb)
  have w1B := hide (hb1.mono HJ.out.bs)
  have w1K := hide hb1
  have cw := J1.out.cw
  have cg := J1.out.cg
  have c24 : w1.cell? ⟨ob, i, none⟩ = some (.slice none 0 0) := by rw [N1.out.oc i hi, ho]; rfl
  have cst : w1.cell? ⟨rb, i * 3 + 1, none⟩ = some (.string (ss i)) := by have := (N1.out.rl i hi).2.1; rwa [Nat.zero_add] at this
  have fo := N1.out.of' i
  have hB1 : B < w1.heap.size := J1.out.row.lt
  have ho1 : ob < w1.heap.size := N1.out.l2
  have hr1 : rb < w1.heap.size := N1.out.l1
  clear HJ HN hb1
  go_wp2_with fail
  go_region
  have hws : ((w1.setCell ⟨ob, i, none⟩ (Value.slice (some ⟨w1.heap.size, 0, none⟩) (ss i).size (grownCap w1.drew (ss i).size 0 5))).alloc (Obj.cells (bytesRow (ss i) (grownCap w1.drew (ss i).size 0 5)) 5 ((bytesRow (ss i) (grownCap w1.drew (ss i).size 0 5)).size, (bytesRow (ss i) (grownCap w1.drew (ss i).size 0 5)).size + 1))).drew.drew = ((w1.drew.drew.alloc (Obj.cells (bytesRow (ss i) (grownCap w1.drew (ss i).size 0 5)) 5 ((bytesRow (ss i) (grownCap w1.drew (ss i).size 0 5)).size, (bytesRow (ss i) (grownCap w1.drew (ss i).size 0 5)).size + 1))).setCell ⟨ob, i, none⟩ (Value.slice (some ⟨w1.heap.size, 0, none⟩) (ss i).size (grownCap w1.drew (ss i).size 0 5))) := by
    rw [← World.setCell_alloc_past _ _ _ _ ho1]; rfl
  have hsz : (ss i).size = m.g[i].by_.length := by rw [← hss.out]; simp
  have hcap : (ss i).size ≤ grownCap w1.drew (ss i).size 0 5 := grownCap_ge _ _ _ _
  have hBq := bytes_row w1.drew (ss i) (grownCap w1.drew (ss i).size 0 5)
  have hk2 : Below w1.heap.size w1 (w1.drew.drew.alloc (Obj.cells (bytesRow (ss i) (grownCap w1.drew (ss i).size 0 5)) 5 ((bytesRow (ss i) (grownCap w1.drew (ss i).size 0 5)).size, (bytesRow (ss i) (grownCap w1.drew (ss i).size 0 5)).size + 1))) := ((drew_below _ _).trans (drew_below _ _)).trans (bel_one w1.drew.drew _)
  rw [hws]
  clear hws rbs cst cg c24 cw fo
  rw [hss.out] at hBq
  rw [hsz] at hcap hBq hk2 ⊢
  generalize grownCap w1.drew m.g[i].by_.length 0 5 = bc at *
  obtain ⟨w2, hw2⟩ : ∃ w2, w2 = w1.drew.drew.alloc (Obj.cells (bytesRow (ss i) bc) 5 ((bytesRow (ss i) bc).size, (bytesRow (ss i) bc).size + 1)) := ⟨_, rfl⟩
  have hBq' : BR w2 w1.heap.size m.g[i].by_ := by rw [hw2]; exact hBq
  have hk2' : Below w1.heap.size w1 w2 := by rw [hw2]; exact hk2
  rw [← hw2]
  clear hw2 hBq hk2
  have hBq := hBq'
  have hk2 := hk2'
  clear hBq' hk2'
  have hbq0 : w1.heap.size ≤ w1.heap.size := Nat.le_refl _
  have hpos : 0 < m.g[i].by_.length := by have := HF.out; omega
  have J2 := hide (J1.out.fresh N1.out i hi hcd.out hpos w1.heap.size bc hbq0 hk2 hcap hBq)
  have N2 := hide (N1.out.fresh i hi hcd.out hpos w1.heap.size bc hbq0 (by have := J1.out.le; omega) (by omega) hk2 hcap hBq)
  have ho := updo_at os i (some (w1.heap.size, bc))
  have hbB := J1.out.bs
  have w3B := hide (show Below base w (w2.setCell ⟨ob, i, none⟩ (Value.slice (some ⟨w1.heap.size, 0, none⟩) m.g[i].by_.length bc)) from (w1B.out.trans (hk2.mono hbB)).setCell (p := ⟨ob, i, none⟩) N1.out.b2 _)
  have w3K := hide (show w.heap.size ≤ (w2.setCell ⟨ob, i, none⟩ (Value.slice (some ⟨w1.heap.size, 0, none⟩) m.g[i].by_.length bc)).heap.size ∧ ∀ b, b < w.heap.size → b ≠ ob → (w2.setCell ⟨ob, i, none⟩ (Value.slice (some ⟨w1.heap.size, 0, none⟩) m.g[i].by_.length bc)).heap[b]? = w.heap[b]? from ⟨by have h1 := w1K.out.size; have h2 := hk2.size; simp only [World.setCell, Array.size_modify]; omega, fun b hb hne => (Below.heap_setCell w2 ⟨ob, i, none⟩ _ b hne).trans ((hk2.block b (Nat.lt_of_lt_of_le hb w1K.out.size)).trans (w1K.out.block b hb))⟩)
  have GR := hide (Grow.upd w.heap.size os i w1.heap.size bc w1K.out.size)
  have hge := hide w1K.out.size
  clear w1K J1 N1 w1B hk2 hcap hBq hss hsz hpos hbq0 hcd
  generalize updo os i (some (w1.heap.size, bc)) = os2 at *
  generalize w1.heap.size = bq at *
  generalize w2.setCell _ _ = w3 at J2 N2 w3B w3K ⊢
  clear hB1 ho1 hr1 hbB
  have hfit := HF.out
  clear HF
  go_wp2_with fail
  refine (split_any v w3).mono ?_
  rintro e u1 ⟨rfl, hu1⟩
  have JU := J2.out.bel hu1
  have NU := N2.out.of hu1.size fun b _ hb => hu1.block b hb
  have HU := hide (w3B.out.trans (hu1.mono J2.out.bs))
  have HK : Hid (w.heap.size ≤ u1.heap.size ∧ ∀ b, b < w.heap.size → b ≠ ob → u1.heap[b]? = w.heap[b]?) := ⟨Nat.le_trans w3K.out.1 hu1.size, fun b hb hne => (hu1.block b (Nat.lt_of_lt_of_le hb w3K.out.1)).trans (w3K.out.2 b hb hne)⟩
  clear J2 N2 w3B hu1 w3K
  have h8 := Xc.bys_len 8 v
  obtain ⟨b0, b1, b2, b3, b4, b5, b6, b7, e8⟩ := eight h8
  have HV : Hid ([b0, b1, b2, b3, b4, b5, b6, b7].take 8 = bys 8 v) := by show _ = _; rw [← e8]; exact by8_take v 8 (by decide)
  clear h8
  rw [e8]
  clear e8
  simp only [bv, List.map_cons, List.map_nil]
  have cw0 := JU.cw
  have c240 : u1.cell? ⟨ob, i, none⟩ = some (.slice (some ⟨bq, 0, none⟩) m.g[i].by_.length bc) := by rw [NU.oc i hi, ho]; rfl
  have hBu : B < u1.heap.size := JU.row.lt
  have hou : ob < u1.heap.size := NU.l2
  have JUH := hide JU
  have NUH := hide NU
  have hlen : Hid (p + 8 ≤ m.g[i].by_.length) := hfit
  have hcap := NU.cp i hi bq bc ho
  have hne : ¬ bc = p := by omega
  have hpl : p ≤ m.g[i].by_.length := by omega
  have hqB := NU.ow i hi bq bc ho
  clear JU NU hfit
  go_wp2_with fail
  have hA : BR (u1.alloc (.cells #[.int .u8 (b0.toNat : Int), .int .u8 (b1.toNat : Int), .int .u8 (b2.toNat : Int), .int .u8 (b3.toNat : Int), .int .u8 (b4.toNat : Int), .int .u8 (b5.toNat : Int), .int .u8 (b6.toNat : Int), .int .u8 (b7.toNat : Int)] 61)) u1.heap.size [b0, b1, b2, b3, b4, b5, b6, b7] := by
    refine BR.made u1 _ 61 _ fun j hj => ?_
    simp at hj
    match j, hj with
    | 0, _ => rfl
    | 1, _ => rfl
    | 2, _ => rfl
    | 3, _ => rfl
    | 4, _ => rfl
    | 5, _ => rfl
    | 6, _ => rfl
    | 7, _ => rfl
  have hal := bel_one u1 (.cells #[.int .u8 (b0.toNat : Int), .int .u8 (b1.toNat : Int), .int .u8 (b2.toNat : Int), .int .u8 (b3.toNat : Int), .int .u8 (b4.toNat : Int), .int .u8 (b5.toNat : Int), .int .u8 (b6.toNat : Int), .int .u8 (b7.toNat : Int)] 61)
  have J2 := hide (JUH.out.bel hal)
  have N2 := hide (NUH.out.of hal.size fun b _ hb => hal.block b hb)
  have HU2 := hide (HU.out.trans (hal.mono JUH.out.bs))
  have HK2 := hide (show w.heap.size ≤ (u1.alloc (.cells #[.int .u8 (b0.toNat : Int), .int .u8 (b1.toNat : Int), .int .u8 (b2.toNat : Int), .int .u8 (b3.toNat : Int), .int .u8 (b4.toNat : Int), .int .u8 (b5.toNat : Int), .int .u8 (b6.toNat : Int), .int .u8 (b7.toNat : Int)] 61)).heap.size ∧ ∀ b, b < w.heap.size → b ≠ ob → (u1.alloc (.cells #[.int .u8 (b0.toNat : Int), .int .u8 (b1.toNat : Int), .int .u8 (b2.toNat : Int), .int .u8 (b3.toNat : Int), .int .u8 (b4.toNat : Int), .int .u8 (b5.toNat : Int), .int .u8 (b6.toNat : Int), .int .u8 (b7.toNat : Int)] 61)).heap[b]? = w.heap[b]? from ⟨Nat.le_trans HK.out.1 hal.size, fun b hb hne => (hal.block b (Nat.lt_of_lt_of_le hb HK.out.1)).trans (HK.out.2 b hb hne)⟩)
  have hq2 := hqB.2.2.2.2.1.kept hal
  have hbq : base ≤ bq := hqB.1
  have cw2 := J2.out.cw
  have c242 : _ = some (Value.slice (some ⟨bq, 0, none⟩) m.g[i].by_.length bc) := (hal.cell (p := ⟨ob, i, none⟩) hou).trans c240
  clear cw0 c240 hal JUH NUH HU HK hBu hou hqB
  generalize u1.alloc _ = u2 at *
  generalize u1.heap.size = qa at *
  have hmn : Nat.min 8 (m.g[i].by_.length - p) = 8 := by have := hlen.out; show min _ _ = _; omega
  have hyl : Hid ((([b0, b1, b2, b3, b4, b5, b6, b7].drop 0).take (Nat.min 8 (m.g[i].by_.length - p))).length = Nat.min 8 (m.g[i].by_.length - p)) := by show _ = _; rw [hmn]; rfl
  have hff : Hid (p + (([b0, b1, b2, b3, b4, b5, b6, b7].drop 0).take (Nat.min 8 (m.g[i].by_.length - p))).length ≤ m.g[i].by_.length) := by show _ ≤ _; rw [hyl.out, hmn]; exact hlen.out
  have HMN := hide hmn
  clear hmn hcap
  go_region_law (refine step_copy_br rfl (.tmp 61) (.tmp 63) 50 50 rfl 5 ubytes i5 bq p (m.g[i].by_.length - p) (bc - p) (by simp [Act.eval, Act.put]) qa 0 8 8 (by simp [Act.eval, Act.put]) m.g[i].by_ [b0, b1, b2, b3, b4, b5, b6, b7] _ (hq2.of_block rfl) (hA.of_block rfl) rfl hyl.out hff.out ?_; intro w3 hw3)
  have hw4 := hw3.out
  rw [HMN.out, List.drop_zero, HV.out] at hw4
  have hp3 : (a - m.g[i].at_).toNat = p := by rw [HP.out]; rfl
  have J3 := hide (WJ.put (w2 := w3) (J2.out.bel (drew_below _ _)) (N2.out.of (Nat.le_refl _) fun b _ _ => rfl) i hi bq bc ho a 8 v HW.out (by decide) (by rw [hp3]; exact hw4))
  have B3 := hide (show Below base w w3 by rw [hw4]; exact Lib.below_setCells _ hbq _ _ (HU2.out.trans (drew_below _ _)))
  have K3 : Hid (Kp m.g.length (some ⟨ob, 0, none⟩) os w w3) := fun b hb ho' _ => by
    have hne : b ≠ ob := (ho' (by omega) _ rfl).symm
    have hnq : b ≠ bq := by have := hge.out; omega
    rw [hw4, World.heap_setCells_other u2.drew _ _ _ (Nat.lt_of_lt_of_le hb HK2.out.1) hnq]; exact HK2.out.2 b hb hne
  clear HK2 hge hw3 hw4 hp3 hyl hff HMN hA hq2 J2 N2 HU2 cw2 c242 hlen hne hpl
  go_wp2_with fail
  go_ret
  exact pt_yes E.out rfl J3.out GR.out B3.out K3.out
theorem wput_any (hJ : WJ base B ra oa rc ss os m w) (a n v : Int) (ha : I64 a) :
    Calls Try.prog 24 #[.pointer (some ⟨B, 0, none⟩), .int .i64 a, .int .i64 n, .int .i64 v] w (PtEnds base B ra oa rc os m a n v w) := by
  cases hf : fnN m.g a n with
  | none => exact wput_no hJ a n v ha hf
  | some i =>
    obtain ⟨hn, hi, _⟩ := fnN_some hf
    cases ho : os i with
    | none => rcases hn with rfl | rfl
              · exact wput_new4 hJ a v ha i hi hf ho
              · exact wput_new8 hJ a v ha i hi hf ho
    | some q => rcases hn with rfl | rfl
                · exact wput_own4 hJ a v ha i hi hf q.1 q.2 ho
                · exact wput_own8 hJ a v ha i hi hf q.1 q.2 ho
end
end Go.Proofs.Ytielpebokbolbaa

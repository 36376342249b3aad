/-
  The worker reads a number of its memory, of what was written too.
-/
import Derived.Test.YtielpebokbolbaaRd
import Derived.WalkSpells
import Derived.Deep.MidRow
namespace Go.Proofs.Ytielpebokbolbaa
open Go.RowKit
open Xc (hide bel_one bel_tr bel_al bel_set le by8 bys jn)
set_option linter.unusedSimpArgs false
set_option linter.unusedVariables false
theorem Wm.at_ {base B : Nat} {ra oa : Option Addr} {g : List Rg} {ss : Nat → ByteArray} {os : Nat → Option (Nat × Nat)} {w : World} (h : Wm base B ra oa g ss os w) {i : Nat} (hi : i < g.length) : ∃ rb ob, ra = some ⟨rb, 0, none⟩ ∧ oa = some ⟨ob, 0, none⟩ ∧ Wn base B rb ob g ss os w := by
  rcases h with h | h
  · subst h; simp at hi
  · exact h
theorem eqn50 (w : World) (a : Option Addr) (n c : Nat) : (binOp .eql 50 (.slice a n c) (.slice none 0 0)).run Try.prog w = .ok (.bool a.isNone) w := Lib.run_eql_slice_nil w 50 5 a n c 0 0 ubytes
theorem neq50 (w : World) (a : Option Addr) (n c : Nat) : (binOp .neq 50 (.slice a n c) (.slice none 0 0)).run Try.prog w = .ok (.bool (!a.isNone)) w := run_neq_slice_nil w 50 5 a n c ubytes
/-- A machine's cells. -/
def ml (m : Mc) (vr : Value) : List Value := m.r.map (Value.int .i64) ++ [.bool m.z, .bool m.s, .bool m.c, .bool m.o, .int .i64 m.at_, vr, .int .i64 m.st]
theorem mc_is (m : Mc) (vr : Value) : mc m vr = (ml m vr).toArray := rfl
theorem ml_len {m : Mc} (h : m.r.length = 16) (vr : Value) : (ml m vr).length = 23 := by simp [ml, h]
theorem i27 : (Try.prog.info? 27).map (·.size) = some 23 := by kernel_rfl
theorem i27l {m : Mc} (h : m.r.length = 16) (vr : Value) : (Try.prog.info? 27).map (·.size) = some (ml m vr).length := by rw [ml_len h]; exact i27
theorem WJ.rng {base B : Nat} {ra oa : Option Addr} {rc : Nat} {ss : Nat → ByteArray} {os : Nat → Option (Nat × Nat)} {m : Mc} {w : World} (h : WJ base B ra oa rc ss os m w) : w.rangeAt B 0 (ml m (.slice ra m.g.length rc)) := fun j v hj => by
  have hl : j < 23 := by rw [← ml_len h.ok.1 (.slice ra m.g.length rc)]; exact (List.getElem?_eq_some_iff.1 hj).1
  rw [Nat.zero_add]
  refine h.row.cell j v ?_
  have e : wl m (.slice ra m.g.length rc) (.slice oa m.g.length m.g.length) = ml m (.slice ra m.g.length rc) ++ [.slice oa m.g.length m.g.length] := by simp [wl, ml]
  rw [wc, List.getElem?_toArray, e, List.getElem?_append_left (by rw [ml_len h.ok.1]; exact hl)]
  exact hj
set_option maxHeartbeats 3200000 in
theorem wread_no {base B : Nat} {ra oa : Option Addr} {rc : Nat} {ss : Nat → ByteArray} {os : Nat → Option (Nat × Nat)} {m : Mc} {w : World} (hJ : WJ base B ra oa rc ss os m w) (a n : Int) (ha : I64 a) (hf : fnN m.g a n = none) :
    Calls Try.prog 56 #[.pointer (some ⟨B, 0, none⟩), .int .i64 a, .int .i64 n] w (RdEnds m.g a n w) := by
  have F := hide (number_rs ra rc m.g ss a n w ha hJ.sm hJ.mem.rs (fn_no hf))
  have RN := hide (fun U (k : Below w.heap.size w U) => read_no m ra rc ss a n U hJ.ok.1 ha hJ.sm (hJ.mem.rs.bel k) hf)
  have cg := hJ.cg
  have HJ := hide hJ
  have E := hide (rdM_none hf)
  have IL := hide (i27l hJ.ok.1 (.slice ra m.g.length rc))
  simp only [mc_is] at RN
  clear hJ hf ha
  go_enter Try.func56, Try.ntmps56
  go_wp2_with fail
  refine F.out.mono ?_
  rintro e w1 ⟨rfl, hb1⟩
  clear cg F
  have J1 := HJ.out.bel hb1
  have HB1 := hide hb1
  have rg := hide J1.rng
  clear J1 hb1 HJ
  go_wp2_with (refine wpList_load_mid rfl 27 _ rfl B 0 rfl _ _ rg.out Try.underlying27 rfl IL.out ?_)
  refine (RN.out _ HB1.out).mono ?_
  rintro e w2 hE
  obtain ⟨rfl, hb2⟩ := hE
  clear RN rg
  go_wp2_with fail
  go_ret2
  exact ⟨rfl, bel_tr HB1.out hb2⟩
set_option maxHeartbeats 3200000 in
theorem wread_str4 {base B : Nat} {ra oa : Option Addr} {rc : Nat} {ss : Nat → ByteArray} {os : Nat → Option (Nat × Nat)} {m : Mc} {w : World} (hJ : WJ base B ra oa rc ss os m w) (a : Int) (ha : I64 a) (i : Nat) (hi : i < m.g.length) (hf : fnN m.g a 4 = some i) (ho : os i = none) :
    Calls Try.prog 56 #[.pointer (some ⟨B, 0, none⟩), .int .i64 a, .int .i64 4] w (RdEnds m.g a 4 w) := by
  have F := hide (number_rs ra rc m.g ss a 4 w ha hJ.sm hJ.mem.rs (fn_yes hf hi))
  obtain ⟨rb, ob, rfl, rfl, hN⟩ := hJ.mem.at_ hi
  have RN := hide (fun U (k : Below w.heap.size w U) => read_yes4 m (some ⟨rb, 0, none⟩) rc ss a U hJ.ok.1 ha hJ.sm (hJ.mem.rs.bel k) i hi hf (hN.no i hi ho))
  have oc : Hid (∀ U, Below w.heap.size w U → U.cell? ⟨ob, i, none⟩ = some (.slice none 0 0)) := fun U k => by
    rw [k.cell (p := ⟨ob, i, none⟩) hN.l2, hN.oc i hi, ho]; rfl
  have cg := hJ.cg
  have HJ := hide hJ
  have q50 := eqn50
  have IL := hide (i27l hJ.ok.1 (.slice (some ⟨rb, 0, none⟩) m.g.length rc))
  simp only [mc_is] at RN
  clear hJ hf ha hN ho
  generalize a - m.g[i].at_ = pl at F
  go_enter Try.func56, Try.ntmps56
  go_wp2_with fail
  refine F.out.mono ?_
  rintro e w1 ⟨rfl, hb1⟩
  clear cg F
  have J1 := HJ.out.bel hb1
  have HB1 := hide hb1
  have rg := hide J1.rng
  have cw := J1.cw
  have c24 := oc.out w1 hb1
  clear J1 hb1 HJ
  go_wp2_with (refine wpList_load_mid rfl 27 _ rfl B 0 rfl _ _ rg.out Try.underlying27 rfl IL.out ?_)
  refine (RN.out _ HB1.out).mono ?_
  rintro e w2 hE
  obtain ⟨rfl, hb2⟩ := hE
  clear RN rg cw c24
  go_wp2_with fail
  go_ret2
  exact ⟨rfl, bel_tr HB1.out hb2⟩
set_option maxHeartbeats 3200000 in
theorem wread_own4 {base B : Nat} {ra oa : Option Addr} {rc : Nat} {ss : Nat → ByteArray} {os : Nat → Option (Nat × Nat)} {m : Mc} {w : World} (hJ : WJ base B ra oa rc ss os m w) (a : Int) (ha : I64 a) (i : Nat) (hi : i < m.g.length) (hf : fnN m.g a 4 = some i) (bq bc : Nat) (ho : os i = some (bq, bc)) :
    Calls Try.prog 56 #[.pointer (some ⟨B, 0, none⟩), .int .i64 a, .int .i64 4] w (RdEnds m.g a 4 w) := by
  have F := hide (number_rs ra rc m.g ss a 4 w ha hJ.sm hJ.mem.rs (fn_yes hf hi))
  obtain ⟨rb, ob, rfl, rfl, hN⟩ := hJ.mem.at_ hi
  obtain ⟨p, hp⟩ : ∃ p : Nat, a - m.g[i].at_ = (p : Int) := ⟨(a - m.g[i].at_).toNat, by have := wn_iff.1 (fnN_some hf).2.2.2; omega⟩
  rw [hp] at F
  have hfit : p + 4 ≤ m.g[i].by_.length := by have h1 := wn_iff.1 (fnN_some hf).2.2.2; omega
  have E : Hid (rdM m.g a 4 = some (jn ((m.g[i].by_.drop p).take 4))) := by
    show _ = _
    rw [rdM_some hf hi, rdV, hp]; rfl
  have oc : Hid (∀ U, Below w.heap.size w U → U.cell? ⟨ob, i, none⟩ = some (.slice (some ⟨bq, 0, none⟩) m.g[i].by_.length bc)) := fun U k => by
    rw [k.cell (p := ⟨ob, i, none⟩) hN.l2, hN.oc i hi, ho]; rfl
  have hQ := (hN.ow i hi bq bc ho).2.2.2.2.1
  have hcap : m.g[i].by_.length ≤ bc := hN.cp i hi bq bc ho
  have hbB : Hid (∀ U, Below w.heap.size w U → BR U bq m.g[i].by_) := fun U k => hQ.kept k
  have cg := hJ.cg
  have HJ := hide hJ
  have q50 := eqn50
  have hlq := hQ.1
  clear hf ha hN ho hp hQ
  generalize m.g[i].by_ = bys_ at *
  have hB0 : B < w.heap.size := hJ.row.lt
  have hpl : p ≤ bys_.length := by omega
  have hne : ¬ bc = p := by omega
  clear hJ
  go_enter Try.func56, Try.ntmps56
  go_wp2_with fail
  refine F.out.mono ?_
  rintro e w1 ⟨rfl, hb1⟩
  clear cg F
  have J1 := HJ.out.bel hb1
  have B1 := hide hb1
  have cw0 := J1.cw
  have c240 := oc.out w1 hb1
  have hB1 : B < w1.heap.size := J1.row.lt
  have ho1 : ob < w1.heap.size := World.block_lt_of_cell? w1 _ c240
  have hq1 := hbB.out w1 hb1
  have h0 : w.heap.size ≤ w1.heap.size := hb1.size
  clear J1 hb1 HJ oc hbB
  go_wp2_with fail
  have hB := zeros8 w1
  have hb2 := hide (bel_al B1.out (.cells z8 61))
  have hq2 := hq1.kept (bel_one w1 (.cells z8 61))
  have cw : (w1.alloc (.cells z8 61)).cell? ⟨B, 23, none⟩ = some (.slice (some ⟨ob, 0, none⟩) m.g.length m.g.length) := by rw [(bel_one w1 _).cell (p := ⟨B, 23, none⟩) hB1]; exact cw0
  have c24 : (w1.alloc (.cells z8 61)).cell? ⟨ob, i, none⟩ = some (.slice (some ⟨bq, 0, none⟩) bys_.length bc) := by rw [(bel_one w1 _).cell (p := ⟨ob, i, none⟩) ho1]; exact c240
  unfold z8 at hB hb2 hq2 cw c24
  clear cw0 c240 hq1 ho1 hB1
  generalize w1.alloc _ = w2 at hB hb2 hq2 cw c24 ⊢
  generalize w1.heap.size = q at *
  have hyl : Hid (((bys_.drop p).take (Nat.min (bys_.length - p) 4)).length = Nat.min (bys_.length - p) 4) := by show _ = _; simp <;> omega
  have hmn : Nat.min (bys_.length - p) 4 = 4 := by show min _ _ = _; omega
  have hff : Hid (0 + ((bys_.drop p).take (Nat.min (bys_.length - p) 4)).length ≤ (List.replicate 8 (0 : UInt8)).length) := by show _ ≤ _; rw [hyl.out, hmn]; simp
  have HMN := hide hmn
  clear hmn
  go_region_law (refine step_copy_br rfl (.tmp 46) (.tmp 55) 50 50 rfl 5 ubytes i5 q 0 4 8 (by simp [Act.eval, Act.put]) bq p (bys_.length - p) (bc - p) (by simp [Act.eval, Act.put]) (List.replicate 8 0) bys_ _ (hB.of_block rfl) (hq2.of_block rfl) rfl hyl.out hff.out ?_; intro w3 hw3)
  have hb3 : Below w.heap.size w w3 := by rw [hw3.out]; exact Lib.below_setCells _ h0 _ _ (hb2.out.trans ⟨rfl, rfl, rfl, Nat.le_refl _, fun _ _ => rfl⟩)
  have hB3 := BR.copied (l := List.replicate 8 0) (off := 0) (hB.of_block (w' := w2.drew) rfl) (by rw [hyl.out, HMN.out]; simp) hw3.out
  rw [HMN.out] at hB3
  have hle := nb_jn (bys_.drop p) 4
  have h8 := nb_len (bys_.drop p) 4 (by decide)
  change BR w3 q (nb (bys_.drop p) 4) at hB3
  rw [← hle] at E
  clear hw3 hB hb2 hle hff hyl HMN cw c24 B1 hq2
  generalize nb (bys_.drop p) 4 = l at *
  have JJ := hide (fun U => join_any l U h8)
  obtain ⟨b0, b1, b2, b3, b4, b5, b6, b7, rfl, c0, c1, c2, c3, c4, c5, c6, c7⟩ := hB3.cells8 h8
  simp only [bv, List.map_cons, List.map_nil] at JJ
  have HB3 := hide hb3
  clear hb3 hB3
  generalize jn [b0, b1, b2, b3, b4, b5, b6, b7] = J at *
  clear h8 hfit hpl hcap hne
  go_wp2_with fail
  refine (JJ.out _).mono ?_
  rintro e w4 ⟨rfl, hb4⟩
  clear JJ c0 c1 c2 c3 c4 c5 c6 c7
  go_wp2_with fail
  go_ret2
  exact rdE E.out rfl (bel_tr HB3.out hb4)
set_option maxHeartbeats 3200000 in
theorem wread_str8 {base B : Nat} {ra oa : Option Addr} {rc : Nat} {ss : Nat → ByteArray} {os : Nat → Option (Nat × Nat)} {m : Mc} {w : World} (hJ : WJ base B ra oa rc ss os m w) (a : Int) (ha : I64 a) (i : Nat) (hi : i < m.g.length) (hf : fnN m.g a 8 = some i) (ho : os i = none) :
    Calls Try.prog 56 #[.pointer (some ⟨B, 0, none⟩), .int .i64 a, .int .i64 8] w (RdEnds m.g a 8 w) := by
  have F := hide (number_rs ra rc m.g ss a 8 w ha hJ.sm hJ.mem.rs (fn_yes hf hi))
  obtain ⟨rb, ob, rfl, rfl, hN⟩ := hJ.mem.at_ hi
  have RN := hide (fun U (k : Below w.heap.size w U) => read_yes8 m (some ⟨rb, 0, none⟩) rc ss a U hJ.ok.1 ha hJ.sm (hJ.mem.rs.bel k) i hi hf (hN.no i hi ho))
  have oc : Hid (∀ U, Below w.heap.size w U → U.cell? ⟨ob, i, none⟩ = some (.slice none 0 0)) := fun U k => by
    rw [k.cell (p := ⟨ob, i, none⟩) hN.l2, hN.oc i hi, ho]; rfl
  have cg := hJ.cg
  have HJ := hide hJ
  have q50 := eqn50
  have IL := hide (i27l hJ.ok.1 (.slice (some ⟨rb, 0, none⟩) m.g.length rc))
  simp only [mc_is] at RN
  clear hJ hf ha hN ho
  generalize a - m.g[i].at_ = pl at F
  go_enter Try.func56, Try.ntmps56
  go_wp2_with fail
  refine F.out.mono ?_
  rintro e w1 ⟨rfl, hb1⟩
  clear cg F
  have J1 := HJ.out.bel hb1
  have HB1 := hide hb1
  have rg := hide J1.rng
  have cw := J1.cw
  have c24 := oc.out w1 hb1
  clear J1 hb1 HJ
  go_wp2_with (refine wpList_load_mid rfl 27 _ rfl B 0 rfl _ _ rg.out Try.underlying27 rfl IL.out ?_)
  refine (RN.out _ HB1.out).mono ?_
  rintro e w2 hE
  obtain ⟨rfl, hb2⟩ := hE
  clear RN rg cw c24
  go_wp2_with fail
  go_ret2
  exact ⟨rfl, bel_tr HB1.out hb2⟩
set_option maxHeartbeats 3200000 in
theorem wread_own8 {base B : Nat} {ra oa : Option Addr} {rc : Nat} {ss : Nat → ByteArray} {os : Nat → Option (Nat × Nat)} {m : Mc} {w : World} (hJ : WJ base B ra oa rc ss os m w) (a : Int) (ha : I64 a) (i : Nat) (hi : i < m.g.length) (hf : fnN m.g a 8 = some i) (bq bc : Nat) (ho : os i = some (bq, bc)) :
    Calls Try.prog 56 #[.pointer (some ⟨B, 0, none⟩), .int .i64 a, .int .i64 8] w (RdEnds m.g a 8 w) := by
  have F := hide (number_rs ra rc m.g ss a 8 w ha hJ.sm hJ.mem.rs (fn_yes hf hi))
  obtain ⟨rb, ob, rfl, rfl, hN⟩ := hJ.mem.at_ hi
  obtain ⟨p, hp⟩ : ∃ p : Nat, a - m.g[i].at_ = (p : Int) := ⟨(a - m.g[i].at_).toNat, by have := wn_iff.1 (fnN_some hf).2.2.2; omega⟩
  rw [hp] at F
  have hfit : p + 8 ≤ m.g[i].by_.length := by have h1 := wn_iff.1 (fnN_some hf).2.2.2; omega
  have E : Hid (rdM m.g a 8 = some (jn ((m.g[i].by_.drop p).take 8))) := by
    show _ = _
    rw [rdM_some hf hi, rdV, hp]; rfl
  have oc : Hid (∀ U, Below w.heap.size w U → U.cell? ⟨ob, i, none⟩ = some (.slice (some ⟨bq, 0, none⟩) m.g[i].by_.length bc)) := fun U k => by
    rw [k.cell (p := ⟨ob, i, none⟩) hN.l2, hN.oc i hi, ho]; rfl
  have hQ := (hN.ow i hi bq bc ho).2.2.2.2.1
  have hcap : m.g[i].by_.length ≤ bc := hN.cp i hi bq bc ho
  have hbB : Hid (∀ U, Below w.heap.size w U → BR U bq m.g[i].by_) := fun U k => hQ.kept k
  have cg := hJ.cg
  have HJ := hide hJ
  have q50 := eqn50
  have hlq := hQ.1
  clear hf ha hN ho hp hQ
  generalize m.g[i].by_ = bys_ at *
  have hB0 : B < w.heap.size := hJ.row.lt
  have hpl : p ≤ bys_.length := by omega
  have hne : ¬ bc = p := by omega
  clear hJ
  go_enter Try.func56, Try.ntmps56
  go_wp2_with fail
  refine F.out.mono ?_
  rintro e w1 ⟨rfl, hb1⟩
  clear cg F
  have J1 := HJ.out.bel hb1
  have B1 := hide hb1
  have cw0 := J1.cw
  have c240 := oc.out w1 hb1
  have hB1 : B < w1.heap.size := J1.row.lt
  have ho1 : ob < w1.heap.size := World.block_lt_of_cell? w1 _ c240
  have hq1 := hbB.out w1 hb1
  have h0 : w.heap.size ≤ w1.heap.size := hb1.size
  clear J1 hb1 HJ oc hbB
  go_wp2_with fail
  have hB := zeros8 w1
  have hb2 := hide (bel_al B1.out (.cells z8 61))
  have hq2 := hq1.kept (bel_one w1 (.cells z8 61))
  have cw : (w1.alloc (.cells z8 61)).cell? ⟨B, 23, none⟩ = some (.slice (some ⟨ob, 0, none⟩) m.g.length m.g.length) := by rw [(bel_one w1 _).cell (p := ⟨B, 23, none⟩) hB1]; exact cw0
  have c24 : (w1.alloc (.cells z8 61)).cell? ⟨ob, i, none⟩ = some (.slice (some ⟨bq, 0, none⟩) bys_.length bc) := by rw [(bel_one w1 _).cell (p := ⟨ob, i, none⟩) ho1]; exact c240
  unfold z8 at hB hb2 hq2 cw c24
  clear cw0 c240 hq1 ho1 hB1
  generalize w1.alloc _ = w2 at hB hb2 hq2 cw c24 ⊢
  generalize w1.heap.size = q at *
  have hyl : Hid (((bys_.drop p).take (Nat.min (bys_.length - p) 8)).length = Nat.min (bys_.length - p) 8) := by show _ = _; simp <;> omega
  have hmn : Nat.min (bys_.length - p) 8 = 8 := by show min _ _ = _; omega
  have hff : Hid (0 + ((bys_.drop p).take (Nat.min (bys_.length - p) 8)).length ≤ (List.replicate 8 (0 : UInt8)).length) := by show _ ≤ _; rw [hyl.out, hmn]; simp
  have HMN := hide hmn
  clear hmn
  go_region_law (refine step_copy_br rfl (.tmp 46) (.tmp 55) 50 50 rfl 5 ubytes i5 q 0 8 8 (by simp [Act.eval, Act.put]) bq p (bys_.length - p) (bc - p) (by simp [Act.eval, Act.put]) (List.replicate 8 0) bys_ _ (hB.of_block rfl) (hq2.of_block rfl) rfl hyl.out hff.out ?_; intro w3 hw3)
  have hb3 : Below w.heap.size w w3 := by rw [hw3.out]; exact Lib.below_setCells _ h0 _ _ (hb2.out.trans ⟨rfl, rfl, rfl, Nat.le_refl _, fun _ _ => rfl⟩)
  have hB3 := BR.copied (l := List.replicate 8 0) (off := 0) (hB.of_block (w' := w2.drew) rfl) (by rw [hyl.out, HMN.out]; simp) hw3.out
  rw [HMN.out] at hB3
  have hle := nb_jn (bys_.drop p) 8
  have h8 := nb_len (bys_.drop p) 8 (by decide)
  change BR w3 q (nb (bys_.drop p) 8) at hB3
  rw [← hle] at E
  clear hw3 hB hb2 hle hff hyl HMN cw c24 B1 hq2
  generalize nb (bys_.drop p) 8 = l at *
  have JJ := hide (fun U => join_any l U h8)
  obtain ⟨b0, b1, b2, b3, b4, b5, b6, b7, rfl, c0, c1, c2, c3, c4, c5, c6, c7⟩ := hB3.cells8 h8
  simp only [bv, List.map_cons, List.map_nil] at JJ
  have HB3 := hide hb3
  clear hb3 hB3
  generalize jn [b0, b1, b2, b3, b4, b5, b6, b7] = J at *
  clear h8 hfit hpl hcap hne
  go_wp2_with fail
  refine (JJ.out _).mono ?_
  rintro e w4 ⟨rfl, hb4⟩
  clear JJ c0 c1 c2 c3 c4 c5 c6 c7
  go_wp2_with fail
  go_ret2
  exact rdE E.out rfl (bel_tr HB3.out hb4)
theorem wread_any {base B : Nat} {m : Mc} {w : World} (hJ : WX base B m w) (a n : Int) (ha : I64 a) :
    Calls Try.prog 56 #[.pointer (some ⟨B, 0, none⟩), .int .i64 a, .int .i64 n] w (RdEnds m.g a n w) := by
  obtain ⟨ra, oa, rc, ss, os, hJ⟩ := hJ
  cases hf : fnN m.g a n with
  | none => exact wread_no hJ a n ha hf
  | some i =>
    obtain ⟨hn, hi, _⟩ := fnN_some hf
    cases ho : os i with
    | none => rcases hn with rfl | rfl
              · exact wread_str4 hJ a ha i hi hf ho
              · exact wread_str8 hJ a ha i hi hf ho
    | some q => rcases hn with rfl | rfl
                · exact wread_own4 hJ a ha i hi hf q.1 q.2 ho
                · exact wread_own8 hJ a ha i hi hf q.1 q.2 ho
end Go.Proofs.Ytielpebokbolbaa

/-
  The worker reads a number of its memory, of what was written too.
  What the worker's memory is behind a put: bytes of its own, and what was laid into them.
-/
import Derived.Test.YtielpebokbolbaaM9
import Derived.WalkSpells
import Derived.Deep.MidRow
import Derived.Lib.SlBuf
namespace Go.Proofs.Ytielpebokbolbaa
open Go.RowKit
open Xc (hide bel_one bel_tr bel_al bel_set le by8 bys jn)
set_option linter.unusedSimpArgs false
set_option linter.unusedVariables false
theorem Wm.at_ {base B : Nat} {ra oa : Option Addr} {g : List Rg} {ss : Nat → ByteArray} {os : Nat → Option (Nat × Nat)} {w : World} (h : Wm base B ra oa g ss os w) {i : Nat} (hi : i < g.length) : ∃ rb ob, ra = some ⟨rb, 0, none⟩ ∧ oa = some ⟨ob, 0, none⟩ ∧ Wn base B rb ob g ss os w := by
  rcases h with h | h
  · subst h; simp at hi
  · exact h
theorem eqn50 (w : World) (a : Option Addr) (n c : Nat) : (binOp .eql 50 (.slice a n c) (.slice none 0 0)).run Try.prog w = .ok (.bool a.isNone) w := Lib.run_eql_slice_nil w 50 5 a n c 0 0 ubytes
theorem neq50 (w : World) (a : Option Addr) (n c : Nat) : (binOp .neq 50 (.slice a n c) (.slice none 0 0)).run Try.prog w = .ok (.bool (!a.isNone)) w := run_neq_slice_nil w 50 5 a n c ubytes
/-- A machine's cells. -/
def ml (m : Mc) (vr : Value) : List Value := m.r.map (Value.int .i64) ++ [.bool m.z, .bool m.s, .bool m.c, .bool m.o, .int .i64 m.at_, vr, .int .i64 m.st]
theorem mc_is (m : Mc) (vr : Value) : mc m vr = (ml m vr).toArray := rfl
theorem ml_len {m : Mc} (h : m.r.length = 16) (vr : Value) : (ml m vr).length = 23 := by simp [ml, h]
theorem i27 : (Try.prog.info? 27).map (·.size) = some 23 := by kernel_rfl
theorem i27l {m : Mc} (h : m.r.length = 16) (vr : Value) : (Try.prog.info? 27).map (·.size) = some (ml m vr).length := by rw [ml_len h]; exact i27
theorem WJ.rng {base B : Nat} {ra oa : Option Addr} {rc : Nat} {ss : Nat → ByteArray} {os : Nat → Option (Nat × Nat)} {m : Mc} {w : World} (h : WJ base B ra oa rc ss os m w) : w.rangeAt B 0 (ml m (.slice ra m.g.length rc)) := fun j v hj => by
  have hl : j < 23 := by rw [← ml_len h.ok.1 (.slice ra m.g.length rc)]; exact (List.getElem?_eq_some_iff.1 hj).1
  rw [Nat.zero_add]
  refine h.row.cell j v ?_
  have e : wl m (.slice ra m.g.length rc) (.slice oa m.g.length m.g.length) = ml m (.slice ra m.g.length rc) ++ [.slice oa m.g.length m.g.length] := by simp [wl, ml]
  rw [wc, List.getElem?_toArray, e, List.getElem?_append_left (by rw [ml_len h.ok.1]; exact hl)]
  exact hj
set_option maxHeartbeats 3200000 in
theorem wread_no {base B : Nat} {ra oa : Option Addr} {rc : Nat} {ss : Nat → ByteArray} {os : Nat → Option (Nat × Nat)} {m : Mc} {w : World} (hJ : WJ base B ra oa rc ss os m w) (a n : Int) (ha : I64 a) (hf : fnN m.g a n = none) :
    Calls Try.prog 56 #[.pointer (some ⟨B, 0, none⟩), .int .i64 a, .int .i64 n] w (RdEnds m.g a n w) := by
  have F := hide (number_rs ra rc m.g ss a n w ha hJ.sm hJ.mem.rs (fn_no hf))
  have RN := hide (fun U (k : Below w.heap.size w U) => read_no m ra rc ss a n U hJ.ok.1 ha hJ.sm (hJ.mem.rs.bel k) hf)
  have cg := hJ.cg
  have HJ := hide hJ
  have E := hide (rdM_none hf)
  have IL := hide (i27l hJ.ok.1 (.slice ra m.g.length rc))
  simp only [mc_is] at RN
  clear hJ hf ha
  go_enter Try.func56, Try.ntmps56
  go_wp2_with fail
  refine F.out.mono ?_
  rintro e w1 ⟨rfl, hb1⟩
  clear cg F
  have J1 := HJ.out.bel hb1
  have HB1 := hide hb1
  have rg := hide J1.rng
  clear J1 hb1 HJ
  go_wp2_with (refine wpList_load_mid rfl 27 _ rfl B 0 rfl _ _ rg.out Try.underlying27 rfl IL.out ?_)
  refine (RN.out _ HB1.out).mono ?_
  rintro e w2 hE
  obtain ⟨rfl, hb2⟩ := hE
  clear RN rg
  go_wp2_with fail
  go_ret2
  exact ⟨rfl, bel_tr HB1.out hb2⟩
set_option maxHeartbeats 3200000 in
theorem wread_str4 {base B : Nat} {ra oa : Option Addr} {rc : Nat} {ss : Nat → ByteArray} {os : Nat → Option (Nat × Nat)} {m : Mc} {w : World} (hJ : WJ base B ra oa rc ss os m w) (a : Int) (ha : I64 a) (i : Nat) (hi : i < m.g.length) (hf : fnN m.g a 4 = some i) (ho : os i = none) :
    Calls Try.prog 56 #[.pointer (some ⟨B, 0, none⟩), .int .i64 a, .int .i64 4] w (RdEnds m.g a 4 w) := by
  have F := hide (number_rs ra rc m.g ss a 4 w ha hJ.sm hJ.mem.rs (fn_yes hf hi))
  obtain ⟨rb, ob, rfl, rfl, hN⟩ := hJ.mem.at_ hi
  have RN := hide (fun U (k : Below w.heap.size w U) => read_yes4 m (some ⟨rb, 0, none⟩) rc ss a U hJ.ok.1 ha hJ.sm (hJ.mem.rs.bel k) i hi hf (hN.no i hi ho))
  have oc : Hid (∀ U, Below w.heap.size w U → U.cell? ⟨ob, i, none⟩ = some (.slice none 0 0)) := fun U k => by
    rw [k.cell (p := ⟨ob, i, none⟩) hN.l2, hN.oc i hi, ho]; rfl
  have cg := hJ.cg
  have HJ := hide hJ
  have q50 := eqn50
  have IL := hide (i27l hJ.ok.1 (.slice (some ⟨rb, 0, none⟩) m.g.length rc))
  simp only [mc_is] at RN
  clear hJ hf ha hN ho
  generalize a - m.g[i].at_ = pl at F
  go_enter Try.func56, Try.ntmps56
  go_wp2_with fail
  refine F.out.mono ?_
  rintro e w1 ⟨rfl, hb1⟩
  clear cg F
  have J1 := HJ.out.bel hb1
  have HB1 := hide hb1
  have rg := hide J1.rng
  have cw := J1.cw
  have c24 := oc.out w1 hb1
  clear J1 hb1 HJ
  go_wp2_with (refine wpList_load_mid rfl 27 _ rfl B 0 rfl _ _ rg.out Try.underlying27 rfl IL.out ?_)
  refine (RN.out _ HB1.out).mono ?_
  rintro e w2 hE
  obtain ⟨rfl, hb2⟩ := hE
  clear RN rg cw c24
  go_wp2_with fail
  go_ret2
  exact ⟨rfl, bel_tr HB1.out hb2⟩
set_option maxHeartbeats 3200000 in
theorem wread_own4 {base B : Nat} {ra oa : Option Addr} {rc : Nat} {ss : Nat → ByteArray} {os : Nat → Option (Nat × Nat)} {m : Mc} {w : World} (hJ : WJ base B ra oa rc ss os m w) (a : Int) (ha : I64 a) (i : Nat) (hi : i < m.g.length) (hf : fnN m.g a 4 = some i) (bq bc : Nat) (ho : os i = some (bq, bc)) :
    Calls Try.prog 56 #[.pointer (some ⟨B, 0, none⟩), .int .i64 a, .int .i64 4] w (RdEnds m.g a 4 w) := by
  have F := hide (number_rs ra rc m.g ss a 4 w ha hJ.sm hJ.mem.rs (fn_yes hf hi))
  obtain ⟨rb, ob, rfl, rfl, hN⟩ := hJ.mem.at_ hi
  obtain ⟨p, hp⟩ : ∃ p : Nat, a - m.g[i].at_ = (p : Int) := ⟨(a - m.g[i].at_).toNat, by have := wn_iff.1 (fnN_some hf).2.2.2; omega⟩
  rw [hp] at F
  have hfit : p + 4 ≤ m.g[i].by_.length := by have h1 := wn_iff.1 (fnN_some hf).2.2.2; omega
  have E : Hid (rdM m.g a 4 = some (jn ((m.g[i].by_.drop p).take 4))) := by
    show _ = _
    rw [rdM_some hf hi, rdV, hp]; rfl
  have oc : Hid (∀ U, Below w.heap.size w U → U.cell? ⟨ob, i, none⟩ = some (.slice (some ⟨bq, 0, none⟩) m.g[i].by_.length bc)) := fun U k => by
    rw [k.cell (p := ⟨ob, i, none⟩) hN.l2, hN.oc i hi, ho]; rfl
  have hQ := (hN.ow i hi bq bc ho).2.2.2.2.1
  have hcap : m.g[i].by_.length ≤ bc := hN.cp i hi bq bc ho
  have hbB : Hid (∀ U, Below w.heap.size w U → BR U bq m.g[i].by_) := fun U k => hQ.kept k
  have cg := hJ.cg
  have HJ := hide hJ
  have q50 := eqn50
  have hlq := hQ.1
  clear hf ha hN ho hp hQ
  generalize m.g[i].by_ = bys_ at *
  have hB0 : B < w.heap.size := hJ.row.lt
  have hpl : p ≤ bys_.length := by omega
  have hne : ¬ bc = p := by omega
  clear hJ
  go_enter Try.func56, Try.ntmps56
  go_wp2_with fail
  refine F.out.mono ?_
  rintro e w1 ⟨rfl, hb1⟩
  clear cg F
  have J1 := HJ.out.bel hb1
  have B1 := hide hb1
  have cw0 := J1.cw
  have c240 := oc.out w1 hb1
  have hB1 : B < w1.heap.size := J1.row.lt
  have ho1 : ob < w1.heap.size := World.block_lt_of_cell? w1 _ c240
  have hq1 := hbB.out w1 hb1
  have h0 : w.heap.size ≤ w1.heap.size := hb1.size
  clear J1 hb1 HJ oc hbB
  go_wp2_with fail
  have hB := zeros8 w1
  have hb2 := hide (bel_al B1.out (.cells z8 61))
  have hq2 := hq1.kept (bel_one w1 (.cells z8 61))
  have cw : (w1.alloc (.cells z8 61)).cell? ⟨B, 23, none⟩ = some (.slice (some ⟨ob, 0, none⟩) m.g.length m.g.length) := by rw [(bel_one w1 _).cell (p := ⟨B, 23, none⟩) hB1]; exact cw0
  have c24 : (w1.alloc (.cells z8 61)).cell? ⟨ob, i, none⟩ = some (.slice (some ⟨bq, 0, none⟩) bys_.length bc) := by rw [(bel_one w1 _).cell (p := ⟨ob, i, none⟩) ho1]; exact c240
  unfold z8 at hB hb2 hq2 cw c24
  clear cw0 c240 hq1 ho1 hB1
  generalize w1.alloc _ = w2 at hB hb2 hq2 cw c24 ⊢
  generalize w1.heap.size = q at *
  have hyl : Hid (((bys_.drop p).take (Nat.min (bys_.length - p) 4)).length = Nat.min (bys_.length - p) 4) := by show _ = _; simp <;> omega
  have hmn : Nat.min (bys_.length - p) 4 = 4 := by show min _ _ = _; omega
  have hff : Hid (0 + ((bys_.drop p).take (Nat.min (bys_.length - p) 4)).length ≤ (List.replicate 8 (0 : UInt8)).length) := by show _ ≤ _; rw [hyl.out, hmn]; simp
  have HMN := hide hmn
  clear hmn
  go_region_law (refine step_copy_br rfl (.tmp 46) (.tmp 55) 50 50 rfl 5 ubytes i5 q 0 4 8 (by simp [Act.eval, Act.put]) bq p (bys_.length - p) (bc - p) (by simp [Act.eval, Act.put]) (List.replicate 8 0) bys_ _ (hB.of_block rfl) (hq2.of_block rfl) rfl hyl.out hff.out ?_; intro w3 hw3)
  have hb3 : Below w.heap.size w w3 := by rw [hw3.out]; exact Lib.below_setCells _ h0 _ _ (hb2.out.trans ⟨rfl, rfl, rfl, Nat.le_refl _, fun _ _ => rfl⟩)
  have hB3 := BR.copied (l := List.replicate 8 0) (off := 0) (hB.of_block (w' := w2.drew) rfl) (by rw [hyl.out, HMN.out]; simp) hw3.out
  rw [HMN.out] at hB3
  have hle := nb_jn (bys_.drop p) 4
  have h8 := nb_len (bys_.drop p) 4 (by decide)
  change BR w3 q (nb (bys_.drop p) 4) at hB3
  rw [← hle] at E
  clear hw3 hB hb2 hle hff hyl HMN cw c24 B1 hq2
  generalize nb (bys_.drop p) 4 = l at *
  have JJ := hide (fun U => join_any l U h8)
  obtain ⟨b0, b1, b2, b3, b4, b5, b6, b7, rfl, c0, c1, c2, c3, c4, c5, c6, c7⟩ := hB3.cells8 h8
  simp only [bv, List.map_cons, List.map_nil] at JJ
  have HB3 := hide hb3
  clear hb3 hB3
  generalize jn [b0, b1, b2, b3, b4, b5, b6, b7] = J at *
  clear h8 hfit hpl hcap hne
  go_wp2_with fail
  refine (JJ.out _).mono ?_
  rintro e w4 ⟨rfl, hb4⟩
  clear JJ c0 c1 c2 c3 c4 c5 c6 c7
  go_wp2_with fail
  go_ret2
  exact rdE E.out rfl (bel_tr HB3.out hb4)
set_option maxHeartbeats 3200000 in
theorem wread_str8 {base B : Nat} {ra oa : Option Addr} {rc : Nat} {ss : Nat → ByteArray} {os : Nat → Option (Nat × Nat)} {m : Mc} {w : World} (hJ : WJ base B ra oa rc ss os m w) (a : Int) (ha : I64 a) (i : Nat) (hi : i < m.g.length) (hf : fnN m.g a 8 = some i) (ho : os i = none) :
    Calls Try.prog 56 #[.pointer (some ⟨B, 0, none⟩), .int .i64 a, .int .i64 8] w (RdEnds m.g a 8 w) := by
  have F := hide (number_rs ra rc m.g ss a 8 w ha hJ.sm hJ.mem.rs (fn_yes hf hi))
  obtain ⟨rb, ob, rfl, rfl, hN⟩ := hJ.mem.at_ hi
  have RN := hide (fun U (k : Below w.heap.size w U) => read_yes8 m (some ⟨rb, 0, none⟩) rc ss a U hJ.ok.1 ha hJ.sm (hJ.mem.rs.bel k) i hi hf (hN.no i hi ho))
  have oc : Hid (∀ U, Below w.heap.size w U → U.cell? ⟨ob, i, none⟩ = some (.slice none 0 0)) := fun U k => by
    rw [k.cell (p := ⟨ob, i, none⟩) hN.l2, hN.oc i hi, ho]; rfl
  have cg := hJ.cg
  have HJ := hide hJ
  have q50 := eqn50
  have IL := hide (i27l hJ.ok.1 (.slice (some ⟨rb, 0, none⟩) m.g.length rc))
  simp only [mc_is] at RN
  clear hJ hf ha hN ho
  generalize a - m.g[i].at_ = pl at F
  go_enter Try.func56, Try.ntmps56
  go_wp2_with fail
  refine F.out.mono ?_
  rintro e w1 ⟨rfl, hb1⟩
  clear cg F
  have J1 := HJ.out.bel hb1
  have HB1 := hide hb1
  have rg := hide J1.rng
  have cw := J1.cw
  have c24 := oc.out w1 hb1
  clear J1 hb1 HJ
  go_wp2_with (refine wpList_load_mid rfl 27 _ rfl B 0 rfl _ _ rg.out Try.underlying27 rfl IL.out ?_)
  refine (RN.out _ HB1.out).mono ?_
  rintro e w2 hE
  obtain ⟨rfl, hb2⟩ := hE
  clear RN rg cw c24
  go_wp2_with fail
  go_ret2
  exact ⟨rfl, bel_tr HB1.out hb2⟩
set_option maxHeartbeats 3200000 in
theorem wread_own8 {base B : Nat} {ra oa : Option Addr} {rc : Nat} {ss : Nat → ByteArray} {os : Nat → Option (Nat × Nat)} {m : Mc} {w : World} (hJ : WJ base B ra oa rc ss os m w) (a : Int) (ha : I64 a) (i : Nat) (hi : i < m.g.length) (hf : fnN m.g a 8 = some i) (bq bc : Nat) (ho : os i = some (bq, bc)) :
    Calls Try.prog 56 #[.pointer (some ⟨B, 0, none⟩), .int .i64 a, .int .i64 8] w (RdEnds m.g a 8 w) := by
  have F := hide (number_rs ra rc m.g ss a 8 w ha hJ.sm hJ.mem.rs (fn_yes hf hi))
  obtain ⟨rb, ob, rfl, rfl, hN⟩ := hJ.mem.at_ hi
  obtain ⟨p, hp⟩ : ∃ p : Nat, a - m.g[i].at_ = (p : Int) := ⟨(a - m.g[i].at_).toNat, by have := wn_iff.1 (fnN_some hf).2.2.2; omega⟩
  rw [hp] at F
  have hfit : p + 8 ≤ m.g[i].by_.length := by have h1 := wn_iff.1 (fnN_some hf).2.2.2; omega
  have E : Hid (rdM m.g a 8 = some (jn ((m.g[i].by_.drop p).take 8))) := by
    show _ = _
    rw [rdM_some hf hi, rdV, hp]; rfl
  have oc : Hid (∀ U, Below w.heap.size w U → U.cell? ⟨ob, i, none⟩ = some (.slice (some ⟨bq, 0, none⟩) m.g[i].by_.length bc)) := fun U k => by
    rw [k.cell (p := ⟨ob, i, none⟩) hN.l2, hN.oc i hi, ho]; rfl
  have hQ := (hN.ow i hi bq bc ho).2.2.2.2.1
  have hcap : m.g[i].by_.length ≤ bc := hN.cp i hi bq bc ho
  have hbB : Hid (∀ U, Below w.heap.size w U → BR U bq m.g[i].by_) := fun U k => hQ.kept k
  have cg := hJ.cg
  have HJ := hide hJ
  have q50 := eqn50
  have hlq := hQ.1
  clear hf ha hN ho hp hQ
  generalize m.g[i].by_ = bys_ at *
  have hB0 : B < w.heap.size := hJ.row.lt
  have hpl : p ≤ bys_.length := by omega
  have hne : ¬ bc = p := by omega
  clear hJ
  go_enter Try.func56, Try.ntmps56
  go_wp2_with fail
  refine F.out.mono ?_
  rintro e w1 ⟨rfl, hb1⟩
  clear cg F
  have J1 := HJ.out.bel hb1
  have B1 := hide hb1
  have cw0 := J1.cw
  have c240 := oc.out w1 hb1
  have hB1 : B < w1.heap.size := J1.row.lt
  have ho1 : ob < w1.heap.size := World.block_lt_of_cell? w1 _ c240
  have hq1 := hbB.out w1 hb1
  have h0 : w.heap.size ≤ w1.heap.size := hb1.size
  clear J1 hb1 HJ oc hbB
  go_wp2_with fail
  have hB := zeros8 w1
  have hb2 := hide (bel_al B1.out (.cells z8 61))
  have hq2 := hq1.kept (bel_one w1 (.cells z8 61))
  have cw : (w1.alloc (.cells z8 61)).cell? ⟨B, 23, none⟩ = some (.slice (some ⟨ob, 0, none⟩) m.g.length m.g.length) := by rw [(bel_one w1 _).cell (p := ⟨B, 23, none⟩) hB1]; exact cw0
  have c24 : (w1.alloc (.cells z8 61)).cell? ⟨ob, i, none⟩ = some (.slice (some ⟨bq, 0, none⟩) bys_.length bc) := by rw [(bel_one w1 _).cell (p := ⟨ob, i, none⟩) ho1]; exact c240
  unfold z8 at hB hb2 hq2 cw c24
  clear cw0 c240 hq1 ho1 hB1
  generalize w1.alloc _ = w2 at hB hb2 hq2 cw c24 ⊢
  generalize w1.heap.size = q at *
  have hyl : Hid (((bys_.drop p).take (Nat.min (bys_.length - p) 8)).length = Nat.min (bys_.length - p) 8) := by show _ = _; simp <;> omega
  have hmn : Nat.min (bys_.length - p) 8 = 8 := by show min _ _ = _; omega
  have hff : Hid (0 + ((bys_.drop p).take (Nat.min (bys_.length - p) 8)).length ≤ (List.replicate 8 (0 : UInt8)).length) := by show _ ≤ _; rw [hyl.out, hmn]; simp
  have HMN := hide hmn
  clear hmn
  go_region_law (refine step_copy_br rfl (.tmp 46) (.tmp 55) 50 50 rfl 5 ubytes i5 q 0 8 8 (by simp [Act.eval, Act.put]) bq p (bys_.length - p) (bc - p) (by simp [Act.eval, Act.put]) (List.replicate 8 0) bys_ _ (hB.of_block rfl) (hq2.of_block rfl) rfl hyl.out hff.out ?_; intro w3 hw3)
  have hb3 : Below w.heap.size w w3 := by rw [hw3.out]; exact Lib.below_setCells _ h0 _ _ (hb2.out.trans ⟨rfl, rfl, rfl, Nat.le_refl _, fun _ _ => rfl⟩)
  have hB3 := BR.copied (l := List.replicate 8 0) (off := 0) (hB.of_block (w' := w2.drew) rfl) (by rw [hyl.out, HMN.out]; simp) hw3.out
  rw [HMN.out] at hB3
  have hle := nb_jn (bys_.drop p) 8
  have h8 := nb_len (bys_.drop p) 8 (by decide)
  change BR w3 q (nb (bys_.drop p) 8) at hB3
  rw [← hle] at E
  clear hw3 hB hb2 hle hff hyl HMN cw c24 B1 hq2
  generalize nb (bys_.drop p) 8 = l at *
  have JJ := hide (fun U => join_any l U h8)
  obtain ⟨b0, b1, b2, b3, b4, b5, b6, b7, rfl, c0, c1, c2, c3, c4, c5, c6, c7⟩ := hB3.cells8 h8
  simp only [bv, List.map_cons, List.map_nil] at JJ
  have HB3 := hide hb3
  clear hb3 hB3
  generalize jn [b0, b1, b2, b3, b4, b5, b6, b7] = J at *
  clear h8 hfit hpl hcap hne
  go_wp2_with fail
  refine (JJ.out _).mono ?_
  rintro e w4 ⟨rfl, hb4⟩
  clear JJ c0 c1 c2 c3 c4 c5 c6 c7
  go_wp2_with fail
  go_ret2
  exact rdE E.out rfl (bel_tr HB3.out hb4)
theorem wread_any {base B : Nat} {m : Mc} {w : World} (hJ : WX base B m w) (a n : Int) (ha : I64 a) :
    Calls Try.prog 56 #[.pointer (some ⟨B, 0, none⟩), .int .i64 a, .int .i64 n] w (RdEnds m.g a n w) := by
  obtain ⟨ra, oa, rc, ss, os, hJ⟩ := hJ
  cases hf : fnN m.g a n with
  | none => exact wread_no hJ a n ha hf
  | some i =>
    obtain ⟨hn, hi, _⟩ := fnN_some hf
    cases ho : os i with
    | none => rcases hn with rfl | rfl
              · exact wread_str4 hJ a ha i hi hf ho
              · exact wread_str8 hJ a ha i hi hf ho
    | some q => rcases hn with rfl | rfl
                · exact wread_own4 hJ a ha i hi hf q.1 q.2 ho
                · exact wread_own8 hJ a ha i hi hf q.1 q.2 ho
end Go.Proofs.Ytielpebokbolbaa
namespace Go.Proofs.Ytielpebokbolbaa
open Go.RowKit
open Xc (hide bel_one bel_tr bel_al bel_set le by8 bys jn)
set_option linter.unusedSimpArgs false
set_option linter.unusedVariables false
theorem drew_below (n : Nat) (w : World) : Below n w w.drew := ⟨rfl, rfl, rfl, Nat.le_refl _, fun _ _ => rfl⟩
def updo (os : Nat → Option (Nat × Nat)) (i : Nat) (v : Option (Nat × Nat)) : Nat → Option (Nat × Nat) := fun j => if j = i then v else os j
theorem updo_at (os : Nat → Option (Nat × Nat)) (i : Nat) (v : Option (Nat × Nat)) : updo os i v i = v := by simp [updo]
theorem updo_ne {os : Nat → Option (Nat × Nat)} {i j : Nat} (v : Option (Nat × Nat)) (h : j ≠ i) : updo os i v j = os j := by simp [updo, h]
section
variable {base B rb ob : Nat} {g : List Rg} {ss : Nat → ByteArray} {os : Nat → Option (Nat × Nat)} {w w2 : World}
/-- A region has got bytes of its own. -/
theorem Wn.fresh (h : Wn base B rb ob g ss os w) (i : Nat) (hi : i < g.length) (hcd : g[i].code = false) (hlen : 0 < g[i].by_.length) (q cap : Nat) (hq : w.heap.size ≤ q) (hb : base ≤ q) (hBq : B ≠ q) (hk : Below w.heap.size w w2) (hcap : g[i].by_.length ≤ cap) (hB : BR w2 q g[i].by_) :
    Wn base B rb ob g ss (updo os i (some (q, cap))) (w2.setCell ⟨ob, i, none⟩ (.slice (some ⟨q, 0, none⟩) g[i].by_.length cap)) := by
  have hr := h.l1
  have ho := h.l2
  have e : ∀ b, b ≠ ob → b < w.heap.size → (w2.setCell ⟨ob, i, none⟩ (.slice (some ⟨q, 0, none⟩) g[i].by_.length cap)).heap[b]? = w.heap[b]? := fun b hb hl => (Below.heap_setCell w2 ⟨ob, i, none⟩ _ b hb).trans (hk.block b hl)
  have hs : (w2.setCell ⟨ob, i, none⟩ (.slice (some ⟨q, 0, none⟩) g[i].by_.length cap)).heap.size = w2.heap.size := by simp [World.setCell]
  have hsz := hk.size
  refine ⟨h.b1, h.b2, by omega, by omega, h.n1, h.n2, h.n3, h.rl.of (e rb h.n3 hr), fun j => frz_of (e rb h.n3 hr) j (h.rf j), fun j => ?_, fun j hj => ?_, fun j hj hn => ?_, fun j hj hc => ?_, fun j hj q' c' hq' => ?_, fun j hj q' c' hq' => ?_, fun j j' q' c c' hj hj' h1 h2 => ?_⟩
  · rw [World.frozen?_setCell]; exact frz_of (hk.block ob ho) j (h.of' j)
  · by_cases hji : j = i
    · subst hji
      rw [updo_at]
      have := h.oc j hj
      rw [← hk.cell (p := ⟨ob, j, none⟩) ho] at this
      rw [World.cell?_setCell_same _ _ _ this]; rfl
    · rw [updo_ne _ hji, World.cell?_setCell_other _ _ _ _ (by intro e; apply hji; injection e with _ e2; exact e2.symm), hk.cell (p := ⟨ob, j, none⟩) ho]
      exact h.oc j hj
  · by_cases hji : j = i
    · subst hji; rw [updo_at] at hn; cases hn
    · rw [updo_ne _ hji] at hn; exact h.no j hj hn
  · by_cases hji : j = i
    · subst hji; rw [hcd] at hc; cases hc
    · rw [updo_ne _ hji]; exact h.cd j hj hc
  · by_cases hji : j = i
    · subst hji
      rw [updo_at] at hq'
      injection hq' with e'; injection e' with e1 e2; subst e1 e2
      exact ⟨hb, Ne.symm hBq, by omega, by omega, hB.of (Below.heap_setCell w2 ⟨ob, j, none⟩ _ q (by show q ≠ ob; omega)) (by omega), hlen⟩
    · rw [updo_ne _ hji] at hq'
      obtain ⟨a1, a2, a3, a4, a5, a6⟩ := h.ow j hj q' c' hq'
      exact ⟨a1, a2, a3, a4, a5.of (e q' a4 a5.1) (by omega), a6⟩
  · by_cases hji : j = i
    · subst hji
      rw [updo_at] at hq'
      injection hq' with e'; injection e' with e1 e2; subst e1 e2
      exact hcap
    · rw [updo_ne _ hji] at hq'; exact h.cp j hj q' c' hq'
  · by_cases hji : j = i
    · by_cases hji' : j' = i
      · rw [hji, hji']
      · subst hji
        rw [updo_at] at h1; rw [updo_ne _ hji'] at h2
        injection h1 with e'; injection e' with e1 e2; subst e1
        have := (h.ow j' hj' _ _ h2).2.2.2.2.1.1
        omega
    · by_cases hji' : j' = i
      · subst hji'
        rw [updo_at] at h2; rw [updo_ne _ hji] at h1
        injection h2 with e'; injection e' with e1 e2; subst e1
        have := (h.ow j hj _ _ h1).2.2.2.2.1.1
        omega
      · rw [updo_ne _ hji] at h1; rw [updo_ne _ hji'] at h2; exact h.ap j j' q' c c' hj hj' h1 h2
theorem ptR_len {r : Rg} {a n v : Int} (h : wn r a n = true) (hn : n = 4 ∨ n = 8) : (ptR r a n v).by_.length = r.by_.length := by
  have := wn_iff.1 h
  simp only [ptR]
  rw [spl_len]
  rw [Xc.bys_len]; omega
/-- Bytes are laid into a region's own. -/
theorem Wn.put (h : Wn base B rb ob g ss os w) (i : Nat) (hi : i < g.length) (q c : Nat) (ho : os i = some (q, c)) (a n v : Int) (hw : wn g[i] a n = true) (hn : n = 4 ∨ n = 8) (hw2 : w2 = w.setCells q (a - g[i].at_).toNat (Lib.byteCells (bys n.toNat v))) :
    Wn base B rb ob (g.set i (ptR g[i] a n v)) ss os w2 := by
  obtain ⟨a1, a2, a3, a4, a5, a6⟩ := h.ow i hi q c ho
  have hl := ptR_len (v := v) hw hn
  have hwn := wn_iff.1 hw
  have hs2 : w2.heap.size = w.heap.size := by rw [hw2]; exact setCells_size q _ _ w
  have e : ∀ b, b ≠ q → b < w.heap.size → w2.heap[b]? = w.heap[b]? := fun b hb hlt => by
    rw [hw2]; exact World.heap_setCells_other w q _ _ hlt hb
  have er := e rb (Ne.symm a3) h.l1
  have eo := e ob (Ne.symm a4) h.l2
  have hg : ∀ j (hj : j < (g.set i (ptR g[i] a n v)).length) (hj' : j < g.length), (g.set i (ptR g[i] a n v))[j].at_ = g[j].at_ ∧ (g.set i (ptR g[i] a n v))[j].code = g[j].code ∧ (g.set i (ptR g[i] a n v))[j].by_.length = g[j].by_.length ∧ (j ≠ i → (g.set i (ptR g[i] a n v))[j].by_ = g[j].by_) := fun j hj hj' => by
    by_cases hji : i = j
    · subst hji
      simp only [List.getElem_set_self]
      exact ⟨rfl, rfl, hl, fun h => absurd rfl h⟩
    · rw [List.getElem_set_ne hji]; exact ⟨rfl, rfl, rfl, fun _ => rfl⟩
  have hgl : (g.set i (ptR g[i] a n v)).length = g.length := by simp
  refine ⟨h.b1, h.b2, by rw [hs2]; exact h.l1, by rw [hs2]; exact h.l2, h.n1, h.n2, h.n3, fun j hj => ?_, fun j => frz_of er j (h.rf j), fun j => frz_of eo j (h.of' j), fun j hj => ?_, fun j hj hn => ?_, fun j hj hc => ?_, fun j hj q' c' hq' => ?_, fun j hj q' c' hq' => ?_, fun j j' q' c c' hj hj' h1 h2 => h.ap j j' q' c c' (by omega) (by omega) h1 h2⟩
  · have hj' : j < g.length := by omega
    obtain ⟨g1, g2, g3, g4⟩ := hg j hj hj'
    obtain ⟨r1, r2, r3, r4, r5⟩ := h.rl.of er j hj'
    rw [g1, g2, g3]
    refine ⟨r1, r2, r3, r4, ?_⟩
    unfold Rg.ok at *
    rw [g1, g3]; exact r5
  · have hj' : j < g.length := by omega
    rw [World.cell?_of_block (w := w) eo, (hg j hj hj').2.2.1]; exact h.oc j hj'
  · have hj' : j < g.length := by omega
    have hji : j ≠ i := by intro e; subst e; rw [ho] at hn; cases hn
    rw [(hg j hj hj').2.2.2 hji]; exact h.no j hj' hn
  · have hj' : j < g.length := by omega
    rw [(hg j hj hj').2.1] at hc; exact h.cd j hj' hc
  · have hj' : j < g.length := by omega
    obtain ⟨k1, k2, k3, k4, k5, k6⟩ := h.ow j hj' q' c' hq'
    refine ⟨k1, k2, k3, k4, ?_, by rw [(hg j hj hj').2.2.1]; exact k6⟩
    by_cases hji : j = i
    · subst hji
      have hq2 : q' = q := by rw [ho] at hq'; injection hq' with e'; injection e' with e1; exact e1.symm
      subst hq2
      have := BR.copied k5 (off := (a - g[j].at_).toNat) (x := bys n.toNat v) (by rw [Xc.bys_len]; omega) hw2
      rw [spl_is] at this
      simpa [ptR] using this
    · rw [(hg j hj hj').2.2.2 hji]
      have hqq : q' ≠ q := by intro e; subst e; exact hji (h.ap j i q' c' c hj' hi hq' ho)
      exact k5.of (e q' hqq k5.1) (by omega)
  · have hj' : j < g.length := by omega
    rw [(hg j hj hj').2.2.1]; exact h.cp j hj' q' c' hq'
end
end Go.Proofs.Ytielpebokbolbaa

/-
  The program's Read, of a machine by value.
-/
import Derived.Test.YtielpebokbolbaaBy
namespace Go.Proofs.Ytielpebokbolbaa
open Go.RowKit
open Xc (hide bel_one bel_tr bel_al bel_set le by8 bys jn)
set_option linter.unusedSimpArgs false
set_option linter.unusedVariables false
theorem sixteen {α : Type} {l : List α} (h : l.length = 16) : ∃ r0 r1 r2 r3 r4 r5 r6 r7 r8 r9 r10 r11 r12 r13 r14 r15, l = [r0, r1, r2, r3, r4, r5, r6, r7, r8, r9, r10, r11, r12, r13, r14, r15] := by
  match l, h with
  | [r0, r1, r2, r3, r4, r5, r6, r7, r8, r9, r10, r11, r12, r13, r14, r15], _ => exact ⟨r0, r1, r2, r3, r4, r5, r6, r7, r8, r9, r10, r11, r12, r13, r14, r15, rfl⟩
/-- A machine, as a value. -/
def mc (m : Mc) (vr : Value) : Array Value := (m.r.map (Value.int .i64) ++ [.bool m.z, .bool m.s, .bool m.c, .bool m.o, .int .i64 m.at_, vr, .int .i64 m.st]).toArray
def RdEnds (g : List Rg) (a n : Int) (w : World) (e : Ending) (w' : World) : Prop := e = .returned (.tuple #[.int .i64 ((rdM g a n).getD 0), .bool (rdM g a n).isSome]) ∧ Below w.heap.size w w'
theorem rdM_none {g : List Rg} {a n : Int} (h : fnN g a n = none) : rdM g a n = none := by simp [rdM, h]
theorem rdM_some {g : List Rg} {a n : Int} {i : Nat} (h : fnN g a n = some i) (hi : i < g.length) : rdM g a n = some (rdV g[i] a n) := by simp [rdM, h, hi]
set_option maxHeartbeats 1600000 in
theorem read_no (m : Mc) (ra : Option Addr) (rc : Nat) (ss : Nat → ByteArray) (a n : Int) (w : World) (hr : m.r.length = 16) (ha : I64 a) (hg : m.g.length ≤ 4398046511104) (hR : RS w ra m.g ss) (hf : fnN m.g a n = none) :
    Calls Try.prog 10 #[.agg (mc m (.slice ra m.g.length rc)), .int .i64 a, .int .i64 n] w (RdEnds m.g a n w) := by
  obtain ⟨r, z, s, c, o, at_, g, st⟩ := m
  obtain ⟨r0, r1, r2, r3, r4, r5, r6, r7, r8, r9, r10, r11, r12, r13, r14, r15, rfl⟩ := sixteen hr
  simp only [mc, List.map_cons, List.map_nil, List.cons_append, List.nil_append] at *
  have F := hide (fun U (k : Below w.heap.size w U) => number_rs ra rc g ss a n U ha hg (hR.bel k) (fn_no hf))
  have E := hide (rdM_none hf)
  clear hR ha hg hf hr
  go_enter Try.func10, Try.ntmps10
  go_wp2_with (go_at_call 20; refine (F.out _ (bel_one _ _)).mono ?_; rintro e w1 ⟨rfl, hb1⟩)
  go_ret2
  unfold RdEnds
  rw [E.out]
  exact ⟨rfl, bel_tr (bel_one _ _) hb1⟩
theorem rdE {g : List Rg} {a n : Int} {w : World} {J : Int} (h : rdM g a n = some J) {e : Ending} {w' : World} (h1 : e = .returned (.tuple #[.int .i64 J, .bool true])) (h2 : Below w.heap.size w w') : RdEnds g a n w e w' := by
  unfold RdEnds
  rw [h]
  exact ⟨h1, h2⟩
set_option maxHeartbeats 1600000 in
theorem read_yes4 (m : Mc) (ra : Option Addr) (rc : Nat) (ss : Nat → ByteArray) (a : Int) (w : World) (hr : m.r.length = 16) (ha : I64 a) (hg : m.g.length ≤ 4398046511104) (hR : RS w ra m.g ss) (i : Nat) (hi : i < m.g.length) (hf : fnN m.g a 4 = some i) (hs : (ss i).data.toList = m.g[i].by_) :
    Calls Try.prog 10 #[.agg (mc m (.slice ra m.g.length rc)), .int .i64 a, .int .i64 4] w (RdEnds m.g a 4 w) := by
  obtain ⟨r, z, s, c, o, at_, g, st⟩ := m
  obtain ⟨r0, r1, r2, r3, r4, r5, r6, r7, r8, r9, r10, r11, r12, r13, r14, r15, rfl⟩ := sixteen hr
  simp only [mc, List.map_cons, List.map_nil, List.cons_append, List.nil_append] at *
  have F := hide (fun U (k : Below w.heap.size w U) => number_rs ra rc g ss a 4 U ha hg (hR.bel k) (fn_yes hf hi))
  obtain ⟨p, hp⟩ : ∃ p : Nat, a - g[i].at_ = (p : Int) := ⟨(a - g[i].at_).toNat, by have := wn_iff.1 (fnN_some hf).2.2.2; omega⟩
  have hfit : p + 4 ≤ (ss i).size := by
    have h1 := wn_iff.1 (fnN_some hf).2.2.2
    have h2 := str_len (ss i)
    rw [hs] at h2
    omega
  have E : Hid (rdM g a 4 = some (jn (((ss i).data.toList.drop p).take 4))) := by
    show _ = _
    rw [rdM_some hf hi, rdV, hp, hs]; rfl
  rcases hR with hR | ⟨b, off, rfl, hR⟩
  · subst hR; simp at hi
  rw [hp] at F
  have RB := hide (fun U (k : Below w.heap.size w U) => (hR.bel k i hi).2.1)
  have hpl : p ≤ (ss i).size := by omega
  have hff : Hid (0 + min ((ss i).extract p (ss i).size).size 4 ≤ (List.replicate 8 (0 : UInt8)).length) := by show _ ≤ _; simp; omega
  clear hR ha hg hf hr hs hp
  generalize hsi : ss i = str at *
  clear hsi
  go_enter Try.func10, Try.ntmps10
  go_wp2_with fail
  refine (F.out _ (bel_one _ _)).mono ?_
  rintro e w1 ⟨rfl, hb1⟩
  have B1 := hide (bel_tr (bel_one _ _) hb1)
  have y21 := hb1.cell (p := ⟨w.heap.size, 21, none⟩) (by simp)
  have c1 := RB.out w1 B1.out
  have hlt : b < w1.heap.size := World.block_lt_of_cell? w1 _ c1
  have hw0 : w.heap.size < w1.heap.size := by have := hb1.size; simp at this; omega
  clear F hb1 RB
  simp at y21
  go_wp2_with fail
  have hB := zeros8 w1
  have hb2 := hide (bel_al B1.out (.cells z8 61))
  have y21' : (w1.alloc (.cells z8 61)).cell? ⟨w.heap.size, 21, none⟩ = some (Value.slice (some ⟨b, off, none⟩) g.length rc) := by rw [(bel_one w1 _).cell (p := ⟨w.heap.size, 21, none⟩) hw0]; exact y21
  have c1' : (w1.alloc (.cells z8 61)).cell? ⟨b, off + i * 3 + 1, none⟩ = some (.string str) := by rw [(bel_one w1 _).cell (p := ⟨b, off + i * 3 + 1, none⟩) hlt]; exact c1
  unfold z8 at hB hb2 y21' c1'
  clear y21 c1 hlt
  have h0 : w.heap.size ≤ w1.heap.size := Nat.le_of_lt hw0
  generalize w1.alloc _ = w2 at hB hb2 y21' c1' ⊢
  generalize w1.heap.size = q at *
  go_region_law (refine step_copy_str rfl (.tmp 24) (.tmp 32) 50 9 rfl 5 ubytes z5 q 0 4 8 (by simp [Act.eval, Act.put]) (str.extract p str.size) (by simp [Act.eval, Act.put]) (List.replicate 8 0) (hB.of_block rfl) hff.out ?_; intro w3 hw3)
  have hb3 : Below w.heap.size w w3 := by rw [hw3.out]; exact Lib.below_setCells _ h0 _ _ (hb2.out.trans ⟨rfl, rfl, rfl, Nat.le_refl _, fun _ _ => rfl⟩)
  have hB3 := BR.copied (l := List.replicate 8 0) (off := 0) (x := (str.extract p str.size).data.toList.take 4) (hB.of_block (w' := w2.drew) rfl) (by simp; omega) hw3.out
  rw [ext_list] at hB3
  have hle := nb_jn (str.data.toList.drop p) 4
  have h8 := nb_len (str.data.toList.drop p) 4 (by decide)
  change BR w3 q (nb (str.data.toList.drop p) 4) at hB3
  rw [← hle] at E
  clear hw3 hB hb2 hle hff y21' c1' B1
  generalize nb (str.data.toList.drop p) 4 = l at *
  have JJ := hide (fun U => join_any l U h8)
  obtain ⟨b0, b1, b2, b3, b4, b5, b6, b7, rfl, c0, c1, c2, c3, c4, c5, c6, c7⟩ := hB3.cells8 h8
  simp only [bv, List.map_cons, List.map_nil] at JJ
  have HB3 := hide hb3
  clear hb3 hB3
  generalize jn [b0, b1, b2, b3, b4, b5, b6, b7] = J at *
  clear h8 hfit hpl
  go_wp2_with fail
  refine (JJ.out _).mono ?_
  rintro e w4 ⟨rfl, hb4⟩
  clear JJ c0 c1 c2 c3 c4 c5 c6 c7
  go_wp2_with fail
  go_ret2
  exact rdE E.out rfl (bel_tr HB3.out hb4)
set_option maxHeartbeats 1600000 in
theorem read_yes8 (m : Mc) (ra : Option Addr) (rc : Nat) (ss : Nat → ByteArray) (a : Int) (w : World) (hr : m.r.length = 16) (ha : I64 a) (hg : m.g.length ≤ 4398046511104) (hR : RS w ra m.g ss) (i : Nat) (hi : i < m.g.length) (hf : fnN m.g a 8 = some i) (hs : (ss i).data.toList = m.g[i].by_) :
    Calls Try.prog 10 #[.agg (mc m (.slice ra m.g.length rc)), .int .i64 a, .int .i64 8] w (RdEnds m.g a 8 w) := by
  obtain ⟨r, z, s, c, o, at_, g, st⟩ := m
  obtain ⟨r0, r1, r2, r3, r4, r5, r6, r7, r8, r9, r10, r11, r12, r13, r14, r15, rfl⟩ := sixteen hr
  simp only [mc, List.map_cons, List.map_nil, List.cons_append, List.nil_append] at *
  have F := hide (fun U (k : Below w.heap.size w U) => number_rs ra rc g ss a 8 U ha hg (hR.bel k) (fn_yes hf hi))
  obtain ⟨p, hp⟩ : ∃ p : Nat, a - g[i].at_ = (p : Int) := ⟨(a - g[i].at_).toNat, by have := wn_iff.1 (fnN_some hf).2.2.2; omega⟩
  have hfit : p + 8 ≤ (ss i).size := by
    have h1 := wn_iff.1 (fnN_some hf).2.2.2
    have h2 := str_len (ss i)
    rw [hs] at h2
    omega
  have E : Hid (rdM g a 8 = some (jn (((ss i).data.toList.drop p).take 8))) := by
    show _ = _
    rw [rdM_some hf hi, rdV, hp, hs]; rfl
  rcases hR with hR | ⟨b, off, rfl, hR⟩
  · subst hR; simp at hi
  rw [hp] at F
  have RB := hide (fun U (k : Below w.heap.size w U) => (hR.bel k i hi).2.1)
  have hpl : p ≤ (ss i).size := by omega
  have hff : Hid (0 + min ((ss i).extract p (ss i).size).size 8 ≤ (List.replicate 8 (0 : UInt8)).length) := by show _ ≤ _; simp; omega
  clear hR ha hg hf hr hs hp
  generalize hsi : ss i = str at *
  clear hsi
  go_enter Try.func10, Try.ntmps10
  go_wp2_with fail
  refine (F.out _ (bel_one _ _)).mono ?_
  rintro e w1 ⟨rfl, hb1⟩
  have B1 := hide (bel_tr (bel_one _ _) hb1)
  have y21 := hb1.cell (p := ⟨w.heap.size, 21, none⟩) (by simp)
  have c1 := RB.out w1 B1.out
  have hlt : b < w1.heap.size := World.block_lt_of_cell? w1 _ c1
  have hw0 : w.heap.size < w1.heap.size := by have := hb1.size; simp at this; omega
  clear F hb1 RB
  simp at y21
  go_wp2_with fail
  have hB := zeros8 w1
  have hb2 := hide (bel_al B1.out (.cells z8 61))
  have y21' : (w1.alloc (.cells z8 61)).cell? ⟨w.heap.size, 21, none⟩ = some (Value.slice (some ⟨b, off, none⟩) g.length rc) := by rw [(bel_one w1 _).cell (p := ⟨w.heap.size, 21, none⟩) hw0]; exact y21
  have c1' : (w1.alloc (.cells z8 61)).cell? ⟨b, off + i * 3 + 1, none⟩ = some (.string str) := by rw [(bel_one w1 _).cell (p := ⟨b, off + i * 3 + 1, none⟩) hlt]; exact c1
  unfold z8 at hB hb2 y21' c1'
  clear y21 c1 hlt
  have h0 : w.heap.size ≤ w1.heap.size := Nat.le_of_lt hw0
  generalize w1.alloc _ = w2 at hB hb2 y21' c1' ⊢
  generalize w1.heap.size = q at *
  go_region_law (refine step_copy_str rfl (.tmp 24) (.tmp 32) 50 9 rfl 5 ubytes z5 q 0 8 8 (by simp [Act.eval, Act.put]) (str.extract p str.size) (by simp [Act.eval, Act.put]) (List.replicate 8 0) (hB.of_block rfl) hff.out ?_; intro w3 hw3)
  have hb3 : Below w.heap.size w w3 := by rw [hw3.out]; exact Lib.below_setCells _ h0 _ _ (hb2.out.trans ⟨rfl, rfl, rfl, Nat.le_refl _, fun _ _ => rfl⟩)
  have hB3 := BR.copied (l := List.replicate 8 0) (off := 0) (x := (str.extract p str.size).data.toList.take 8) (hB.of_block (w' := w2.drew) rfl) (by simp; omega) hw3.out
  rw [ext_list] at hB3
  have hle := nb_jn (str.data.toList.drop p) 8
  have h8 := nb_len (str.data.toList.drop p) 8 (by decide)
  change BR w3 q (nb (str.data.toList.drop p) 8) at hB3
  rw [← hle] at E
  clear hw3 hB hb2 hle hff y21' c1' B1
  generalize nb (str.data.toList.drop p) 8 = l at *
  have JJ := hide (fun U => join_any l U h8)
  obtain ⟨b0, b1, b2, b3, b4, b5, b6, b7, rfl, c0, c1, c2, c3, c4, c5, c6, c7⟩ := hB3.cells8 h8
  simp only [bv, List.map_cons, List.map_nil] at JJ
  have HB3 := hide hb3
  clear hb3 hB3
  generalize jn [b0, b1, b2, b3, b4, b5, b6, b7] = J at *
  clear h8 hfit hpl
  go_wp2_with fail
  refine (JJ.out _).mono ?_
  rintro e w4 ⟨rfl, hb4⟩
  clear JJ c0 c1 c2 c3 c4 c5 c6 c7
  go_wp2_with fail
  go_ret2
  exact rdE E.out rfl (bel_tr HB3.out hb4)
end Go.Proofs.Ytielpebokbolbaa

/-
  The document's Same and Leaks, walked.
  The statements' machines and seen, of what is the same.
  The statements' examples: they hold.
-/
import Derived.Test.YtielpebokbolbaaM42
namespace Go.Proofs.Ytielpebokbolbaa
open Go.RowKit
open Xc (hide bel_one bel_tr bel_al bel_set Xi xv xc)
set_option linter.unusedSimpArgs false
set_option linter.unusedVariables false
/-- Two machines in boxes. -/
structure T2 (m : Mc) (va vb : Value) (q : Nat) (w W : World) : Prop where
  b : Below w.heap.size w W
  ra : W.heap[q]? = some (.cells (ml m va).toArray 27)
  rb : W.heap[q + 1]? = some (.cells (ml m vb).toArray 27)
theorem t2_made (m : Mc) (va vb : Value) (w : World) : T2 m va vb w.heap.size w ((w.alloc (.cells (ml m va).toArray 27)).alloc (.cells (ml m vb).toArray 27)) := by
  have k1 := bel_one w (.cells (ml m va).toArray 27)
  have r1 : (w.alloc (.cells (ml m va).toArray 27)).heap[w.heap.size]? = _ := heap_alloc_new w (.cells (ml m va).toArray 27)
  have s1 : (w.alloc (.cells (ml m va).toArray 27)).heap.size = w.heap.size + 1 := by simp
  generalize w.alloc (.cells (ml m va).toArray 27) = U at *
  have k2 := bel_one U (.cells (ml m vb).toArray 27)
  have z2 : (U.alloc (.cells (ml m vb).toArray 27)).heap[U.heap.size]? = _ := heap_alloc_new U (.cells (ml m vb).toArray 27)
  rw [s1] at z2
  exact ⟨bel_tr k1 k2, (k2.block _ (by omega)).trans r1, z2⟩
section
variable {m : Mc} {w : World} {q : Nat} {v : Value}
theorem ml_x (h : m.r.length = 16) (v : Value) (k : Nat) : (ml m v)[16 + k]? = [.bool m.z, .bool m.s, .bool m.c, .bool m.o, .int .i64 m.at_, v, .int .i64 m.st][k]? := by
  unfold ml
  rw [List.getElem?_append_right (by simp; omega)]
  simp [h]
theorem ml_c (h : m.r.length = 16) (hr : w.heap[q]? = some (.cells (ml m v).toArray 27)) : w.cell? ⟨q, 16, none⟩ = some (.bool m.z) ∧ w.cell? ⟨q, 17, none⟩ = some (.bool m.s) ∧ w.cell? ⟨q, 18, none⟩ = some (.bool m.c) ∧ w.cell? ⟨q, 19, none⟩ = some (.bool m.o) ∧ w.cell? ⟨q, 20, none⟩ = some (.int .i64 m.at_) ∧ w.cell? ⟨q, 21, none⟩ = some v ∧ w.cell? ⟨q, 22, none⟩ = some (.int .i64 m.st) := by
  have e := fun k => ml_x h v k
  simp only [World.cell?, hr, List.getElem?_toArray]
  exact ⟨e 0, e 1, e 2, e 3, e 4, e 5, e 6⟩
theorem ml_r (hr : w.heap[q]? = some (.cells (ml m v).toArray 27)) : w.rangeAt q 0 (m.r.map (Value.int .i64)) := fun j u hj => by
  refine rng_row hr j u ?_
  unfold ml
  rw [List.getElem?_append_left (List.getElem?_eq_some_iff.1 hj).1]; exact hj
theorem i22 (h : m.r.length = 16) : (Try.prog.info? 22).map (·.size) = some (m.r.map (Value.int .i64)).length := by
  rw [List.length_map, h]; kernel_rfl
theorem str_eq {s t : ByteArray} {l : List UInt8} (h1 : s.data.toList = l) (h2 : t.data.toList = l) : s = t := by
  cases s; cases t; simp only at h1 h2; congr 1; exact Array.toList_inj.1 (h1.trans h2.symm)
set_option maxRecDepth 100000 in
set_option maxHeartbeats 6400000 in
theorem same_yes {va vb : Value} (ha : MV m va w) (hb : MV m vb w) : Calls Try.prog 26 #[va, vb] w fun e w' => e = .returned (.bool true) ∧ Below w.heap.size w w' := by
  obtain ⟨ra, rc, ss, rfl, hR, hs, hok, hl⟩ := ha
  obtain ⟨rb, rd, tt, rfl, hT, ht, _, _⟩ := hb
  rw [mc_is, mc_is]
  have T := hide (t2_made m (.slice ra m.g.length rc) (.slice rb m.g.length rd) w)
  have E16 := eq_regs m.r hok.1
  have EF := eq_fl m.z m.s m.c m.o
  have I22 := hide (i22 hok.1)
  have HOK := hide hok
  have HS := hide hs
  have HT' := hide ht
  have HR := hide hR
  have HT := hide hT
  have HL := hide hl
  clear hs ht hR hT hl hok
  go_enter Try.func26, Try.ntmps26
  go_upto_region 1 with fail
  refine gw (motive := fun x => Code.wp _ _ _ _ x) (fun W => Hid (T2 m (.slice ra m.g.length rc) (.slice rb m.g.length rd) w.heap.size w W)) T.out ?_
  rintro W TW
  clear T
  obtain ⟨a16, a17, a18, a19, a20, a21, a22⟩ := ml_c HOK.out.1 TW.out.ra
  obtain ⟨b16, b17, b18, b19, b20, b21, b22⟩ := ml_c HOK.out.1 TW.out.rb
  have RA := hide (ml_r TW.out.ra)
  have RB := hide (ml_r TW.out.rb)
  go_wp2_with (first | (refine wpList_load_mid rfl 22 _ rfl w.heap.size 0 rfl _ _ RA.out Try.underlying22 rfl I22.out ?_) | (refine wpList_load_mid rfl 22 _ rfl (w.heap.size + 1) 0 rfl _ _ RB.out Try.underlying22 rfl I22.out ?_))
  have hqa : w.heap.size < W.heap.size := World.block_lt_of_cell? W _ a21
  have hqb : w.heap.size + 1 < W.heap.size := World.block_lt_of_cell? W _ b21
  have TA := hide a21
  have TB := hide b21
  clear a16 a17 a18 a19 a20 a22 b16 b17 b18 b19 b20 b22 RA RB E16 EF I22
  go_loopw [5] (fun iv wr => ∃ k : Nat, k ≤ m.g.length ∧ iv = .int .i64 (k : Int) ∧ Hid (Below W.heap.size W wr)) (fun iv _ => m.g.length - (intOf iv).toNat)
  case atStart => exact ⟨0, Nat.zero_le _, rfl, Below.refl _ _⟩
  case round =>
    obtain ⟨k, hk, rfl, HB⟩ := hrel
    have a21' : wr.cell? ⟨w.heap.size, 21, none⟩ = some (.slice ra m.g.length rc) := by rw [HB.out.cell (p := ⟨w.heap.size, 21, none⟩) hqa]; exact TA.out
    have b21' : wr.cell? ⟨w.heap.size + 1, 21, none⟩ = some (.slice rb m.g.length rd) := by rw [HB.out.cell (p := ⟨w.heap.size + 1, 21, none⟩) hqb]; exact TB.out
    have hgl : m.g.length ≤ 4398046511104 := by have := HL.out; omega
    clear a21 b21
    by_cases hlt : k < m.g.length
    · have kb := TW.out.b.trans (HB.out.mono TW.out.b.size)
      rcases HR.out.bel kb with h0 | ⟨b1, o1, rfl, h1⟩
      · rw [h0] at hlt; cases hlt
      rcases HT.out.bel kb with h0 | ⟨b2, o2, rfl, h2⟩
      · rw [h0] at hlt; cases hlt
      obtain ⟨c0, c1, c2, _, _⟩ := h1 k hlt
      obtain ⟨d0, d1, d2, _, _⟩ := h2 k hlt
      rw [← str_eq (HS.out k hlt) (HT'.out k hlt)] at d1
      have ER := eq_rg m.g[k].at_ (ss k) m.g[k].code
      clear kb h1 h2
      generalize m.g[k].at_ = g1 at *
      generalize m.g[k].code = g2 at *
      generalize ss k = g3 at *
      go_wp2_with fail
      go_quiet (fail)
      go_wp2_with fail
      go_roundw
      case rel => exact ⟨k + 1, hlt, by go_num, bel_dr HB.out _⟩
      case measure => simp [intOf]; omega
    · have hkn : k = m.g.length := by omega
      subst hkn
      go_wp2_with fail
      go_ret
      exact ⟨rfl, TW.out.b.trans (HB.out.mono TW.out.b.size)⟩
end
end Go.Proofs.Ytielpebokbolbaa
namespace Go.Proofs.Ytielpebokbolbaa
open Go.RowKit
open Xc (hide bel_one bel_tr bel_al bel_set Xi xv xc)
set_option linter.unusedSimpArgs false
set_option linter.unusedVariables false
section
variable {m : Mc} {w : World} {L : List Lk}
set_option maxRecDepth 100000 in
set_option maxHeartbeats 6400000 in
theorem machines_yes {va vb : Value} (ha : MV m va w) (hb : MV m vb w) : Calls Try.prog 14 #[va, vb] w fun e w' => e = .returned (.bool true) ∧ Below w.heap.size w w' := by
  have S := hide (fun U (k : Below w.heap.size w U) => same_yes (ha.bel k) (hb.bel k))
  obtain ⟨ra, rc, ss, rfl, hR, hs, hok, hl⟩ := ha
  obtain ⟨rb, rd, tt, rfl, hT, ht, _, _⟩ := hb
  rw [mc_is, mc_is] at *
  have T := hide (t2_made m (.slice ra m.g.length rc) (.slice rb m.g.length rd) w)
  have RA := hide (rng_row T.out.ra)
  have RB := hide (rng_row T.out.rb)
  have IA := hide (i27l hok.1 (.slice ra m.g.length rc))
  have IB := hide (i27l hok.1 (.slice rb m.g.length rd))
  clear hR hs hok hl hT ht
  go_enter Try.func14, Try.ntmps14
  go_wp2_with (first | (refine wpList_load_mid rfl 27 _ rfl w.heap.size 0 rfl _ _ RA.out Try.underlying27 rfl IA.out ?_) | (refine wpList_load_mid rfl 27 _ rfl (w.heap.size + 1) 0 rfl _ _ RB.out Try.underlying27 rfl IB.out ?_))
  refine (S.out _ T.out.b).mono ?_
  rintro e w1 ⟨rfl, hb⟩
  have HB := hide (bel_tr T.out.b hb)
  clear RA RB T hb S
  go_wp2_with fail
  go_ret
  exact ⟨rfl, HB.out⟩
theorem lkl_get : ∀ (L : List Lk) (i : Nat) (h : i < L.length), (lkl L)[i * 4]? = some (.int .i64 L[i].at_) ∧ (lkl L)[i * 4 + 1]? = some (.int .i64 L[i].ad) ∧ (lkl L)[i * 4 + 2]? = some (.int .i64 L[i].nm) ∧ (lkl L)[i * 4 + 3]? = some (.int .i64 L[i].dn)
  | l :: L, 0, _ => ⟨rfl, rfl, rfl, rfl⟩
  | l :: L, i + 1, h => by
    have := lkl_get L i (by simpa using h)
    have e : (i + 1) * 4 = i * 4 + 1 + 1 + 1 + 1 := by omega
    rw [e]
    exact this
theorem LV.cells {b0 : Nat} {v : Value} (h : LV b0 L v w) (hn : 0 < L.length) : ∃ g c, v = .slice (some ⟨g, 0, none⟩) L.length c ∧ ∀ i (hi : i < L.length), w.cell? ⟨g, i * 4, none⟩ = some (.int .i64 L[i].at_) ∧ w.cell? ⟨g, i * 4 + 1, none⟩ = some (.int .i64 L[i].ad) ∧ w.cell? ⟨g, i * 4 + 2, none⟩ = some (.int .i64 L[i].nm) ∧ w.cell? ⟨g, i * 4 + 3, none⟩ = some (.int .i64 L[i].dn) := by
  rcases h.2 with ⟨_, e⟩ | ⟨g, cap, cur, rfl, h1, h2, h3, h4, h5, h6⟩
  · omega
  · refine ⟨g, cap, rfl, fun i hi => ?_⟩
    obtain ⟨e0, e1, e2, e3⟩ := lkl_get L i hi
    have k : ∀ j u, j < L.length * 4 → (lkl L)[j]? = some u → w.cell? ⟨g, j, none⟩ = some u := fun j u hj hu => by
      rw [← h6, List.getElem?_take, if_pos hj] at hu
      simp only [World.cell?, h2]
      simpa using hu
    exact ⟨k _ _ (by omega) e0, k _ _ (by omega) e1, k _ _ (by omega) e2, k _ _ (by omega) e3⟩
set_option maxRecDepth 100000 in
set_option maxHeartbeats 6400000 in
theorem leaks_yes {b0 b1 : Nat} {va vb : Value} (ha : LV b0 L va w) (hb : LV b1 L vb w) (hl : L.length ≤ 1000000) : Calls Try.prog 28 #[va, vb] w fun e w' => e = .returned (.bool true) ∧ Below w.heap.size w w' := by
  rcases Nat.eq_zero_or_pos L.length with h0 | h0
  · obtain ⟨a, c, rfl⟩ := ha.sl
    obtain ⟨b, d, rfl⟩ := hb.sl
    rw [h0]
    clear ha hb h0 hl
    go_enter Try.func28, Try.ntmps28
    go_wp2_with fail
    go_loopw [5] (fun iv wr => iv = .int .i64 0 ∧ wr = w) (fun _ _ => 0)
    case atStart => exact ⟨rfl, rfl⟩
    case round =>
      obtain ⟨rfl, rfl⟩ := hrel
      go_wp2_with fail
      go_ret
      exact ⟨rfl, Below.refl _ _⟩
  · obtain ⟨g, c, rfl, hc⟩ := ha.cells h0
    obtain ⟨g', c', rfl, hd⟩ := hb.cells h0
    have HC := hide hc
    have HD := hide hd
    have HL := hide hl
    have HB0 := hide h0
    clear ha hb hc hd hl h0
    go_enter Try.func28, Try.ntmps28
    go_wp2_with fail
    go_loopw [5] (fun iv wr => ∃ k : Nat, k ≤ L.length ∧ iv = .int .i64 (k : Int) ∧ Hid (Below w.heap.size w wr)) (fun iv _ => L.length - (intOf iv).toNat)
    case atStart => exact ⟨0, Nat.zero_le _, rfl, Below.refl _ _⟩
    case round =>
      obtain ⟨k, hk, rfl, HB⟩ := hrel
      have hgl : L.length ≤ 1000000 := HL.out
      by_cases hlt : k < L.length
      · obtain ⟨c0, c1, c2, c3⟩ := HC.out k hlt
        obtain ⟨d0, d1, d2, d3⟩ := HD.out k hlt
        have lg : g < w.heap.size := World.block_lt_of_cell? w _ c0
        have lg' : g' < w.heap.size := World.block_lt_of_cell? w _ d0
        rw [← HB.out.cell (p := ⟨g, k * 4, none⟩) lg] at c0
        rw [← HB.out.cell (p := ⟨g, k * 4 + 1, none⟩) lg] at c1
        rw [← HB.out.cell (p := ⟨g, k * 4 + 2, none⟩) lg] at c2
        rw [← HB.out.cell (p := ⟨g, k * 4 + 3, none⟩) lg] at c3
        rw [← HB.out.cell (p := ⟨g', k * 4, none⟩) lg'] at d0
        rw [← HB.out.cell (p := ⟨g', k * 4 + 1, none⟩) lg'] at d1
        rw [← HB.out.cell (p := ⟨g', k * 4 + 2, none⟩) lg'] at d2
        rw [← HB.out.cell (p := ⟨g', k * 4 + 3, none⟩) lg'] at d3
        have ER : ∀ W : World, (Op.equalIn 10000 52 (.agg #[.int .i64 L[k].at_, .int .i64 L[k].ad, .int .i64 L[k].nm, .int .i64 L[k].dn]) (.agg #[.int .i64 L[k].at_, .int .i64 L[k].ad, .int .i64 L[k].nm, .int .i64 L[k].dn])).run Try.prog W = .ok true W := fun W => by rw [eq_lk]; simp
        clear lg lg'
        generalize L[k].at_ = g1 at *
        generalize L[k].ad = g2 at *
        generalize L[k].nm = g3 at *
        generalize L[k].dn = g4 at *
        go_wp2_with fail
        go_quiet (fail)
        go_wp2_with fail
        go_roundw
        case rel => exact ⟨k + 1, hlt, by go_num, bel_dr HB.out _⟩
        case measure => simp [intOf]; omega
      · have hkn : k = L.length := by omega
        subst hkn
        go_wp2_with fail
        go_ret
        exact ⟨rfl, HB.out⟩
theorem seen_yes {b0 b1 : Nat} {va vb : Value} (ha : LV b0 L va w) (hb : LV b1 L vb w) (hl : L.length ≤ 1000000) : Calls Try.prog 16 #[va, vb] w fun e w' => e = .returned (.bool true) ∧ Below w.heap.size w w' := by
  have S := hide (leaks_yes ha hb hl)
  clear ha hb hl
  go_enter Try.func16, Try.ntmps16
  go_wp2_with fail
  refine S.out.mono ?_
  rintro e w1 ⟨rfl, hb⟩
  clear S
  go_wp2_with fail
  go_ret
  exact ⟨rfl, hb⟩
end
end Go.Proofs.Ytielpebokbolbaa
namespace Go.Proofs.Ytielpebokbolbaa
open Go.RowKit
open Xc (hide bel_one bel_tr bel_al bel_set Xi xv xc)
set_option linter.unusedSimpArgs false
set_option linter.unusedVariables false
theorem read_any {m : Mc} {v : Value} {w : World} (h : MV m v w) (a n : Int) (ha : I64 a) : Calls Try.prog 10 #[v, .int .i64 a, .int .i64 n] w (RdEnds m.g a n w) := by
  obtain ⟨ra, rc, ss, rfl, hR, hs, hok, hl⟩ := h
  have hg : m.g.length ≤ 4398046511104 := by omega
  cases hf : fnN m.g a n with
  | none => exact read_no m ra rc ss a n w hok.1 ha hg hR hf
  | some i =>
    obtain ⟨hn, hi, _⟩ := fnN_some hf
    rcases hn with rfl | rfl
    · exact read_yes4 m ra rc ss a w hok.1 ha hg hR i hi hf (hs i hi)
    · exact read_yes8 m ra rc ss a w hok.1 ha hg hR i hi hf (hs i hi)
def g0 : List Rg := [⟨50, [72, 184, 7, 0, 0, 0, 0, 0, 0, 0, 244], true⟩, ⟨100, [49, 50, 51, 52, 53, 54, 55, 56], false⟩]
def m0 : Mc := ⟨[0, 0, 0, 0, 0, 0, 0, 0, 0, 0, 0, 0, 0, 0, 0, 0], false, false, false, false, 50, g0, 0⟩
def m1 : Mc := ⟨[7, 0, 0, 0, 0, 0, 0, 0, 0, 0, 0, 0, 0, 0, 0, 0], false, false, false, false, 61, g0, 1⟩
theorem ex_run : runM 10 m0 = (m1, [⟨50, -1, 0, 0⟩, ⟨60, -1, 0, 0⟩]) := by kernel_rfl
theorem ex_yes : rdM m0.g 104 4 = some 943142453 := by kernel_rfl
theorem ex_no : rdM m0.g 105 4 = none := by kernel_rfl
theorem m0_ok : m0.ok := by
  refine ⟨rfl, ?_, ?_, ?_⟩
  · intro v hv
    simp [m0] at hv
    subst hv; unfold I64 Xc.I64; decide
  · unfold I64 Xc.I64 m0; decide
  · intro r hr
    simp [m0, g0] at hr
    rcases hr with rfl | rfl
    · exact ⟨by unfold I64 Xc.I64; decide, by simp⟩
    · exact ⟨by unfold I64 Xc.I64; decide, by simp⟩
def s1 : ByteArray := { data := #[72, 184, 7, 0, 0, 0, 0, 0, 0, 0, 244] }
def s2 : ByteArray := { data := #[49, 50, 51, 52, 53, 54, 55, 56] }
theorem m0_mv {w : World} {b rc : Nat} (h : w.heap[b]? = some (.cells #[.int .i64 50, .string s1, .bool true, .int .i64 100, .string s2, .bool false] 39)) : MV m0 (.agg (mc m0 (.slice (some ⟨b, 0, none⟩) 2 rc))) w := by
  refine ⟨some ⟨b, 0, none⟩, rc, fun i => if i = 0 then s1 else s2, rfl, Or.inr ⟨b, 0, rfl, fun i hi => ?_⟩, fun i hi => ?_, m0_ok, by show 32 * 2 ≤ 140737488351232; omega⟩
  · have ok := m0_ok.2.2.2
    match i, hi with
    | 0, _ => exact ⟨by simp [World.cell?, h]; rfl, by simp [World.cell?, h], by simp [World.cell?, h]; rfl, by rfl, ok _ (by simp [m0, g0])⟩
    | 1, _ => exact ⟨by simp [World.cell?, h]; rfl, by simp [World.cell?, h], by simp [World.cell?, h]; rfl, by rfl, ok _ (by simp [m0, g0])⟩
  · match i, hi with
    | 0, _ => rfl
    | 1, _ => rfl
/-- What stands when the example's machine is laid. -/
structure EA (w W : World) : Prop where
  b : Below w.heap.size w W
  row : W.heap[w.heap.size + 1]? = some (.cells (ml m0 (.slice (some ⟨w.heap.size, 0, none⟩) 2 2)).toArray 27)
  mv : MV m0 (.agg (mc m0 (.slice (some ⟨w.heap.size, 0, none⟩) 2 2))) W
theorem EA.bel {w W W' : World} (h : EA w W) (k : Below W.heap.size W W') : EA w W' := by
  have hlt : w.heap.size + 1 < W.heap.size := by
    rcases Nat.lt_or_ge (w.heap.size + 1) W.heap.size with h' | h'
    · exact h'
    · have := h.row; rw [Array.getElem?_eq_none h'] at this; cases this
  exact ⟨bel_tr h.b k, (k.block _ hlt).trans h.row, h.mv.bel k⟩
theorem ea_made (w : World) : EA w (((w.alloc (.cells #[.int .i64 50, .string s1, .bool true, .int .i64 100, .string s2, .bool false] 39)).alloc (.cells zm 27)).setRow (w.heap.size + 1) (ml m0 (.slice (some ⟨w.heap.size, 0, none⟩) 2 2)).toArray) := by
  have k1 := bel_one w (.cells #[.int .i64 50, .string s1, .bool true, .int .i64 100, .string s2, .bool false] 39)
  have r1 : (w.alloc (.cells #[.int .i64 50, .string s1, .bool true, .int .i64 100, .string s2, .bool false] 39)).heap[w.heap.size]? = _ := heap_alloc_new w (.cells #[.int .i64 50, .string s1, .bool true, .int .i64 100, .string s2, .bool false] 39)
  have s1' : (w.alloc (.cells #[.int .i64 50, .string s1, .bool true, .int .i64 100, .string s2, .bool false] 39)).heap.size = w.heap.size + 1 := by simp
  generalize w.alloc (.cells #[.int .i64 50, .string s1, .bool true, .int .i64 100, .string s2, .bool false] 39) = U at *
  have k2 := bel_one U (.cells zm 27)
  have z2 : (U.alloc (.cells zm 27)).heap[U.heap.size]? = _ := heap_alloc_new U (.cells zm 27)
  rw [s1'] at z2
  have r2 := (k2.block w.heap.size (by omega)).trans r1
  have b2 := bel_tr k1 k2
  generalize U.alloc (.cells zm 27) = V at *
  exact ⟨below_setRow b2 (by omega) _, setRow_heap V _ _ _ _ (0, 0) z2, m0_mv ((setRow_other V (w.heap.size + 1) w.heap.size _ (by omega)).trans r2)⟩
structure EB (w : World) (q g : Nat) (v : Value) (W : World) : Prop where
  a : EA w W
  r : W.heap[q]? = some (.cells (ml m1 v).toArray 27)
  l : W.cell? ⟨g, 4, none⟩ = some (.int .i64 60) ∧ W.cell? ⟨g, 5, none⟩ = some (.int .i64 (-1)) ∧ W.cell? ⟨g, 6, none⟩ = some (.int .i64 0) ∧ W.cell? ⟨g, 7, none⟩ = some (.int .i64 0)
theorem cells4 {g : Nat} {w w' : World} {a b c d : Value} (h : w.cell? ⟨g, 4, none⟩ = some a ∧ w.cell? ⟨g, 5, none⟩ = some b ∧ w.cell? ⟨g, 6, none⟩ = some c ∧ w.cell? ⟨g, 7, none⟩ = some d) (hg : g < w.heap.size) (k : Below w.heap.size w w') : w'.cell? ⟨g, 4, none⟩ = some a ∧ w'.cell? ⟨g, 5, none⟩ = some b ∧ w'.cell? ⟨g, 6, none⟩ = some c ∧ w'.cell? ⟨g, 7, none⟩ = some d := by
  rw [k.cell (p := ⟨g, 4, none⟩) hg, k.cell (p := ⟨g, 5, none⟩) hg, k.cell (p := ⟨g, 6, none⟩) hg, k.cell (p := ⟨g, 7, none⟩) hg]; exact h
theorem EB.bel {w : World} {q g : Nat} {v : Value} {W W' : World} (h : EB w q g v W) (k : Below W.heap.size W W') : EB w q g v W' := by
  have hlt : q < W.heap.size := by
    rcases Nat.lt_or_ge q W.heap.size with h' | h'
    · exact h'
    · have := h.r; rw [Array.getElem?_eq_none h'] at this; cases this
  exact ⟨h.a.bel k, (k.block _ hlt).trans h.r, cells4 h.l (World.block_lt_of_cell? W _ h.l.1) k⟩
theorem wpl_build {P : Program} {ops : Array Oper} {rest : List Oper} {o : Oper} {a : Act} {w : World} {Q : Exit → Act → World → Prop} (hg : o.guard = none) (t : TypeId) (parts : Array (Nat × Operand)) (ho : o.op = .build t parts) (l : List (Nat × Value))
    (hp : (parts.map fun (i, x) => (i, a.eval x)).toList = l) (cells : Array Value) (hb : P.built t l = some cells) (h : wpList P ops Q rest (a.put o.dst (.agg cells)) w) : wpList P ops Q (o :: rest) a w :=
  wpList_plain hg fun K hK => wp_build_is t parts ho l hp cells hb (hK _ _ h)
theorem built_m (x : Int) (g : List Rg) (a : Option Addr) (n c : Nat) : Try.prog.built 27 [(2, .int .i64 x), (3, .slice a n c)] = some (ml ⟨[0, 0, 0, 0, 0, 0, 0, 0, 0, 0, 0, 0, 0, 0, 0, 0], false, false, false, false, x, g, 0⟩ (.slice a n c)).toArray := by kernel_rfl
set_option maxRecDepth 100000 in
set_option maxHeartbeats 6400000 in
theorem examples_any (w : World) : Calls Try.prog 9 #[] w fun e w' => e = .returned (.bool true) ∧ Below w.heap.size w w' := by
  have HZ : Hid (((w.alloc (.cells #[.int .i64 50, .string s1, .bool true, .int .i64 100, .string s2, .bool false] 39)).alloc (.cells zm 27)).heap[w.heap.size + 1]? = some (.cells zm 27)) := by
    have := heap_alloc_new (w.alloc (.cells #[.int .i64 50, .string s1, .bool true, .int .i64 100, .string s2, .bool false] 39)) (.cells zm 27)
    rwa [show (w.alloc (.cells #[.int .i64 50, .string s1, .bool true, .int .i64 100, .string s2, .bool false] 39)).heap.size = w.heap.size + 1 by simp] at this
  have HI : Hid ((Try.prog.info? 27).map (·.size) = some (ml m0 (.slice (some ⟨w.heap.size, 0, none⟩) 2 2)).toArray.size) := by show _ = _; kernel_rfl
  have HZS : Hid (zm.size = (ml m0 (.slice (some ⟨w.heap.size, 0, none⟩) 2 2)).toArray.size) := rfl
  have HON := hide (ml_one m0 (some ⟨w.heap.size, 0, none⟩) 2 2)
  go_enter Try.func9, Try.ntmps9
  go_upto_region 2 with (first | (refine wpl_build rfl 27 _ rfl [(2, .int .i64 50), (3, .slice (some ⟨w.heap.size, 0, none⟩) 2 2)] rfl _ (built_m 50 g0 _ 2 2) ?_) | (refine wpList_store_row rfl 27 _ _ rfl (w.heap.size + 1) _ rfl rfl 27 zm HZ.out HI.out HZS.out HON.out ?_))
  refine gw (motive := fun x => Code.wp _ _ _ _ x) (fun W => Hid (EA w W)) (ea_made w) ?_
  rintro W EW
  clear HZ HI HZS HON
  have RG := hide (rng_row EW.out.row)
  have IL := hide (i27l (m := m0) rfl (.slice (some ⟨w.heap.size, 0, none⟩) 2 2))
  have RR := hide (run_any EW.out.mv 10 (by decide))
  rw [mc_is] at RR
  go_wp2_with (refine wpList_load_mid rfl 27 _ rfl (w.heap.size + 1) 0 rfl _ _ RG.out Try.underlying27 rfl IL.out ?_)
  refine RR.out.mono ?_
  rintro e w1 ⟨v', v7, rfl, hm1, hlv, hb1⟩
  rw [show (10 : Int).toNat = 10 from rfl, ex_run] at hm1 hlv
  obtain ⟨ra, rc, ss, rfl, hR, hs, hok, hl⟩ := hm1
  rw [mc_is, show m1.g.length = 2 from rfl]
  obtain ⟨g, c7, rfl, hc⟩ := hlv.cells (by decide)
  have HC := hide (hc 1 (by decide))
  have hg7 : g < w1.heap.size := World.block_lt_of_cell? w1 _ (hc 1 (by decide)).1
  have E1 := hide (EW.out.bel hb1)
  have HZ : Hid ((w1.alloc (.cells zm 27)).heap[w1.heap.size]? = some (.cells zm 27)) := heap_alloc_new w1 _
  have HI : Hid ((Try.prog.info? 27).map (·.size) = some (ml m1 (.slice ra 2 rc)).toArray.size) := by show _ = _; rw [List.size_toArray]; exact i27l (m := m1) rfl _
  have HZS : Hid (zm.size = (ml m1 (.slice ra 2 rc)).toArray.size) := rfl
  have HON := hide (ml_one m1 ra 2 rc)
  clear RG RR EW hR hs hok hl hc hb1 hlv
  unfold zm at HZ HZS
  go_upto_region 3 with (refine wpList_store_row rfl 27 _ _ rfl w1.heap.size _ rfl rfl 27 zm HZ.out HI.out HZS.out HON.out ?_)
  have kb := below_setRow (bel_one w1 (.cells zm 27)) (Nat.le_refl _) (ml m1 (.slice ra 2 rc)).toArray
  refine gw (motive := fun x => Code.wp _ _ _ _ x) (fun W => Hid (EB w w1.heap.size g (.slice ra 2 rc) W)) ⟨E1.out.bel kb, setRow_heap _ _ _ _ _ (0, 0) HZ.out, cells4 HC.out hg7 kb⟩ ?_
  rintro W2 E2
  clear kb HZ HI HZS HON E1 HC hg7
  generalize w1.heap.size = q2 at *
  have RG := hide (rng_row E2.out.a.row)
  have RR := hide (read_any E2.out.a.mv 104 4 (by unfold I64 Xc.I64; decide))
  rw [mc_is] at RR
  unfold RdEnds at RR
  rw [ex_yes] at RR
  simp only [Option.getD_some, Option.isSome_some] at RR
  go_wp2_with (refine wpList_load_mid rfl 27 _ rfl (w.heap.size + 1) 0 rfl _ _ RG.out Try.underlying27 rfl IL.out ?_)
  refine RR.out.mono ?_
  rintro e w3 ⟨rfl, hb3⟩
  have E3 := hide (E2.out.bel hb3)
  clear RG RR E2 hb3
  have RG := hide (rng_row E3.out.a.row)
  have RR := hide (read_any E3.out.a.mv 105 4 (by unfold I64 Xc.I64; decide))
  rw [mc_is] at RR
  unfold RdEnds at RR
  rw [ex_no] at RR
  simp only [Option.getD_none, Option.isSome_none] at RR
  go_wp2_with (refine wpList_load_mid rfl 27 _ rfl (w.heap.size + 1) 0 rfl _ _ RG.out Try.underlying27 rfl IL.out ?_)
  refine RR.out.mono ?_
  rintro e w4 ⟨rfl, hb4⟩
  have E4 := hide (E3.out.bel hb4)
  clear RG RR E3 hb4 IL
  obtain ⟨_, _, _, _, a20, _, a22⟩ := ml_c (m := m1) rfl E4.out.r
  rw [show m1.at_ = 61 from rfl] at a20
  rw [show m1.st = 1 from rfl] at a22
  have a0 : w4.cell? ⟨q2, 0, none⟩ = some (.int .i64 7) := by
    have := E4.out.r
    simp only [World.cell?, this]; rfl
  obtain ⟨l0, l1, l2, l3⟩ := E4.out.l
  have EL := eq_lk 60 (-1) 0 0 60 (-1) 0 0
  go_wp2_with fail
  go_ret
  exact ⟨rfl, E4.out.a.b⟩
end Go.Proofs.Ytielpebokbolbaa

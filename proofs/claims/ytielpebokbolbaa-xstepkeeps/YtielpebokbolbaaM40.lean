/-
  The program closes a worker: what it has of its own becomes its regions' bytes.
  The program's open: a list of regions that is nobody else's, and a worker over it.
-/
import Derived.Test.YtielpebokbolbaaM11
import Derived.Test.YtielpebokbolbaaM10
import Derived.WalkSpells
import Derived.Maps.AppendAt
namespace Go.Proofs.Ytielpebokbolbaa
open Go.RowKit
open Xc (hide bel_one bel_tr bel_al bel_set le by8 bys jn)
set_option linter.unusedSimpArgs false
set_option linter.unusedVariables false
/-- The strings by round k: those behind it are as they were. -/
def sk (ss : Nat → ByteArray) (g : List Rg) (k : Nat) : Nat → ByteArray := fun i => if i < k then ⟨(g.getD i ⟨0, [], false⟩).by_.toArray⟩ else ss i
theorem sk_lt {ss : Nat → ByteArray} {g : List Rg} {k i : Nat} (h : i < k) (hi : i < g.length) : sk ss g k i = ⟨g[i].by_.toArray⟩ := by simp [sk, h, hi]
theorem sk_ge {ss : Nat → ByteArray} {g : List Rg} {k i : Nat} (h : k ≤ i) : sk ss g k i = ss i := by simp [sk]; omega
theorem sk_same {ss : Nat → ByteArray} {g : List Rg} {k : Nat} (hk : k < g.length) (h : (ss k).data.toList = g[k].by_) : sk ss g (k + 1) = sk ss g k := by
  funext i
  by_cases h1 : i < k
  · rw [sk_lt (by omega) (by omega), sk_lt h1 (by omega)]
  · by_cases h2 : i = k
    · subst h2
      rw [sk_lt (by omega) hk, sk_ge (Nat.le_refl _), ← h]
    · rw [sk_ge (by omega), sk_ge (by omega)]
/-- What stands at a round's beginning. -/
structure Ck (base B rb ob : Nat) (g : List Rg) (ss : Nat → ByteArray) (os : Nat → Option (Nat × Nat)) (k : Nat) (w : World) : Prop where
  rl : RL w rb 0 g (sk ss g k)
  rf : ∀ j, w.frozen? ⟨rb, j, none⟩ = false
  lt : rb < w.heap.size
theorem RL.store {w : World} {rb : Nat} {g : List Rg} {f : Nat → ByteArray} (h : RL w rb 0 g f) (k : Nat) (hk : k < g.length) (s : ByteArray) (hs : s.size = g[k].by_.length) (f' : Nat → ByteArray) (h1 : f' k = s) (h2 : ∀ i, i ≠ k → i < g.length → f' i = f i) :
    RL (w.setCell ⟨rb, k * 3 + 1, none⟩ (.string s)) rb 0 g f' := fun i hi => by
  obtain ⟨c1, c2, c3, c4, c5⟩ := h i hi
  have ne : ∀ a b : Nat, a ≠ b → (⟨rb, a, none⟩ : Addr) ≠ ⟨rb, b, none⟩ := fun a b hab e => hab (by injection e)
  by_cases e : i = k
  · subst e
    refine ⟨?_, ?_, ?_, by rw [h1, hs], c5⟩
    · rw [World.cell?_setCell_other _ _ _ _ (ne _ _ (by omega))]; exact c1
    · rw [h1]
      have e2 : 0 + i * 3 + 1 = i * 3 + 1 := by omega
      rw [e2] at c2 ⊢
      exact World.cell?_setCell_same _ _ _ c2
    · rw [World.cell?_setCell_other _ _ _ _ (ne _ _ (by omega))]; exact c3
  · refine ⟨?_, ?_, ?_, by rw [h2 i e hi]; exact c4, c5⟩
    · rw [World.cell?_setCell_other _ _ _ _ (ne _ _ (by omega))]; exact c1
    · rw [World.cell?_setCell_other _ _ _ _ (ne _ _ (by omega)), h2 i e hi]; exact c2
    · rw [World.cell?_setCell_other _ _ _ _ (ne _ _ (by omega))]; exact c3
section
variable {base B : Nat} {ra oa : Option Addr} {rc : Nat} {ss : Nat → ByteArray} {os : Nat → Option (Nat × Nat)} {m : Mc} {w : World}
theorem oc_is (rb ob : Nat) (hN : Wn base B rb ob m.g ss os w) (k : Nat) (hk : k < m.g.length) : os k = none ∧ w.cell? ⟨ob, k, none⟩ = some (.slice none 0 0) ∨ ∃ q c, os k = some (q, c) ∧ w.cell? ⟨ob, k, none⟩ = some (.slice (some ⟨q, 0, none⟩) m.g[k].by_.length c) := by
  have := hN.oc k hk
  cases ho : os k with
  | none => rw [ho] at this; exact Or.inl ⟨rfl, this⟩
  | some p => rw [ho] at this; exact Or.inr ⟨p.1, p.2, rfl, this⟩
def ClEnds (base : Nat) (r0 : Option Addr) (m : Mc) (w : World) (e : Ending) (w' : World) : Prop := (∀ b, b < w.heap.size → (0 < m.g.length → ∀ x, r0 = some x → x.block ≠ b) → w'.heap[b]? = w.heap[b]?) ∧ ∃ ra rc ss, e = .returned (.agg (mc m (.slice ra m.g.length rc))) ∧ RS w' ra m.g ss ∧ (∀ i (h : i < m.g.length), (ss i).data.toList = m.g[i].by_) ∧ Below base w w'
set_option maxHeartbeats 6400000 in
theorem closed_1 (hJ : WJ base B ra oa rc ss os m w) (hpos : 0 < m.g.length) : Calls Try.prog 25 #[.pointer (some ⟨B, 0, none⟩)] w (ClEnds base ra m w) := by
  obtain ⟨rb, ob, rfl, rfl, hN⟩ := hJ.mem.at_ hpos
  have q50 := neq50
  obtain ⟨w1, hw1⟩ : ∃ w1, w1 = w.alloc (.cells #[.int .i64 0, .int .i64 0, .int .i64 0, .int .i64 0, .int .i64 0, .int .i64 0, .int .i64 0, .int .i64 0, .int .i64 0, .int .i64 0, .int .i64 0, .int .i64 0, .int .i64 0, .int .i64 0, .int .i64 0, .int .i64 0, .bool false, .bool false, .bool false, .bool false, .int .i64 0, .slice none 0 0, .int .i64 0] 27) := ⟨_, rfl⟩
  have b1 : Below w.heap.size w w1 := by rw [hw1]; exact bel_one _ _
  have J1 := hJ.bel b1
  have N1 := hN.of b1.size fun b _ hb => b1.block b hb
  have hz : ∃ C : Array Value, C.size = 23 ∧ w1.heap[w.heap.size]? = some (.cells C 27) := ⟨_, rfl, by rw [hw1]; exact heap_alloc_new _ _⟩
  have HZ := hide hz
  have BW : Hid (Below base w w1) := b1.mono hJ.bs
  have HB1 := hide b1
  have hws : w.heap.size < w1.heap.size := by rw [hw1]; simp
  have hrw : rb < w.heap.size := hN.l1
  have hBw : B < w.heap.size := hJ.row.lt
  have how : ob < w.heap.size := hN.l2
  have hbr : base ≤ rb := hN.b1
  have cw := J1.cw
  have HJ := hide J1
  have HN := hide N1
  have HGL := hide hJ.sm
  clear hJ hN b1 J1 N1 hz
  have cw2 := cw
  rw [hw1] at cw2
  go_enter Try.func25, Try.ntmps25
  go_wp2_with fail
  rw [← hw1]
  clear hw1 cw2
  go_loopw [10] (fun iv wr => ∃ k : Nat, k ≤ m.g.length ∧ iv = .int .i64 (k : Int) ∧ Hid (RL wr rb 0 m.g (sk ss m.g k)) ∧ Hid (∀ j, wr.frozen? ⟨rb, j, none⟩ = false) ∧ Hid (w1.heap.size ≤ wr.heap.size ∧ ∀ b, b ≠ rb → b < w1.heap.size → wr.heap[b]? = w1.heap[b]?) ∧ Hid (Below base w wr)) (fun iv _ => m.g.length - (intOf iv).toNat)
  case atStart => exact ⟨0, Nat.zero_le _, rfl, by have := HN.out.rl; rwa [show sk ss m.g 0 = ss from by funext i; exact sk_ge (Nat.zero_le _)], HN.out.rf, ⟨Nat.le_refl _, fun _ _ _ => rfl⟩, BW⟩
  case round =>
    obtain ⟨k, hk, rfl, HRL, HRF, HEQ, HBW⟩ := hrel
    have hB1 : B < w1.heap.size := by omega
    have ho1 : ob < w1.heap.size := by omega
    by_cases hlt : k < m.g.length
    · have hgl : m.g.length ≤ 4398046511104 := HGL.out
      have cg : wr.cell? ⟨B, 21, none⟩ = some (.slice (some ⟨rb, 0, none⟩) m.g.length rc) := by rw [World.cell?_of_block (w := w1) (HEQ.out.2 B (Ne.symm HN.out.n1) hB1)]; exact HJ.out.cg
      have eo := HEQ.out.2 ob (Ne.symm HN.out.n3) ho1
      rcases oc_is rb ob HN.out k hlt with ⟨hok, hoc⟩ | ⟨q, c, hok, hoc⟩
      · have c0 : wr.cell? ⟨ob, k, none⟩ = some (.slice none 0 0) := by rw [World.cell?_of_block (w := w1) eo]; exact hoc
        have hsk := hide (sk_same (ss := ss) hlt (HN.out.no k hlt hok))
        clear cw hoc eo
        go_wp2_with fail
        go_roundw
        case rel => exact ⟨k + 1, hlt, by go_num, by rw [hsk.out]; exact HRL, HRF, HEQ, HBW⟩
        case measure => simp [intOf]; omega
      · have c0 : wr.cell? ⟨ob, k, none⟩ = some (.slice (some ⟨q, 0, none⟩) m.g[k].by_.length c) := by rw [World.cell?_of_block (w := w1) eo]; exact hoc
        obtain ⟨a1, a2, a3, a4, a5, a6⟩ := HN.out.ow k hlt q c hok
        have hbr' : BR wr q m.g[k].by_ := a5.of (HEQ.out.2 q a3 a5.1) HEQ.out.1
        have hcv : (convert 50 9 (.slice (some ⟨q, 0, none⟩) m.g[k].by_.length c)).run Try.prog wr.drew = .ok (.string ⟨(m.g[k].by_.take m.g[k].by_.length).toArray⟩) wr.drew := run_str_of (hbr'.of_block (w' := wr.drew) rfl) 50 9 5 m.g[k].by_.length c (Nat.le_refl _) ubytes Try.underlying5 Try.underlying9
        rw [List.take_length] at hcv
        obtain ⟨_, cst, _, _, _⟩ := HRL.out k hlt
        rw [Nat.zero_add] at cst
        have fst := HRF.out (k * 3 + 1)
        clear cw hoc eo a1 a2 a3 a4 a5 a6 hbr'
        go_wp2_with fail
        go_region
        go_wp2_with fail
        go_roundw
        case rel =>
          refine ⟨k + 1, hlt, by go_num, ?_, fun j => ?_, ⟨by simpa [World.setCell] using HEQ.out.1, fun b hb hl => ?_⟩, ?_⟩
          · refine RL.store (w := wr.drew) HRL.out k hlt ⟨m.g[k].by_.toArray⟩ (by simp [ByteArray.size]) _ (sk_lt (Nat.lt_succ_self k) hlt) fun i hne hi => ?_
            by_cases h1 : i < k
            · rw [sk_lt (by omega) hi, sk_lt h1 hi]
            · rw [sk_ge (by omega), sk_ge (by omega)]
          · have := HRF.out j
            simpa [World.frozen?_setCell] using this
          · exact (Below.heap_setCell wr.drew ⟨rb, k * 3 + 1, none⟩ _ b hb).trans (HEQ.out.2 b hb hl)
          · exact (HBW.out.trans (drew_below _ _)).setCell (p := ⟨rb, k * 3 + 1, none⟩) hbr _
        case measure => simp [intOf]; omega
    · have hkn : k = m.g.length := by omega
      have J2 : WJ base B (some ⟨rb, 0, none⟩) (some ⟨ob, 0, none⟩) rc ss os m w1 := HJ.out
      have rgB : wr.rangeAt B 0 (ml m (.slice (some ⟨rb, 0, none⟩) m.g.length rc)) := fun j v hj => by
        rw [World.cell?_of_block (w := w1) (HEQ.out.2 B (Ne.symm HN.out.n1) hB1)]; exact J2.rng j v hj
      obtain ⟨C, hC1, hC2⟩ := HZ.out
      have hC3 : wr.heap[w.heap.size]? = some (.cells C 27) := (HEQ.out.2 w.heap.size (by omega) hws).trans hC2
      have hlen := ml_len J2.ok.1 (.slice (some ⟨rb, 0, none⟩) m.g.length rc)
      have RG := hide rgB
      have IL := hide (i27l J2.ok.1 (.slice (some ⟨rb, 0, none⟩) m.g.length rc))
      have H3 := hide hC3
      have HL := hide hlen
      have HC1 := hide hC1
      have HONE : Hid ((ml m (.slice (some ⟨rb, 0, none⟩) m.g.length rc)).toArray.all (·.oneCell') = true) := by
        refine all_oneCell_toArray fun v hv => ?_
        simp only [ml, List.mem_append, List.mem_map, List.mem_cons, List.not_mem_nil, or_false] at hv
        rcases hv with ⟨_, _, rfl⟩ | rfl | rfl | rfl | rfl | rfl | rfl | rfl <;> rfl
      subst hkn
      clear cw rgB hC1 hC2 hC3 hlen J2
      go_wp2_with (first | (refine wpList_load_mid rfl 27 _ rfl B 0 rfl _ _ RG.out Try.underlying27 rfl IL.out ?_) | (refine wpList_store_row rfl 27 _ _ rfl w.heap.size _ rfl rfl 27 C H3.out (by rw [List.size_toArray]; exact IL.out) (by rw [HC1.out, List.size_toArray, HL.out]) HONE.out ?_))
      refine bodyPost_ret (results_cell_row rfl _ _ w.heap.size 27 _ (0, 0) _ rfl (setRow_heap wr w.heap.size C _ 27 (0, 0) H3.out) Try.underlying27 rfl (by rw [List.size_toArray]; exact IL.out)) rfl ?_
      have hne : rb ≠ w.heap.size := by omega
      have hbw : base ≤ w.heap.size := by omega
      refine ⟨fun b hb hr => (setRow_other wr w.heap.size b _ (by omega)).trans ((HEQ.out.2 b (Ne.symm (hr hpos _ rfl)) (by omega)).trans (HB1.out.block b hb)), some ⟨rb, 0, none⟩, rc, sk ss m.g m.g.length, rfl, Or.inr ⟨rb, 0, rfl, HRL.out.of (setRow_other wr w.heap.size rb _ hne)⟩, fun i hi => ?_, below_setRow HBW.out hbw _⟩
      rw [sk_lt hi hi]
set_option maxHeartbeats 6400000 in
theorem closed_0 (hJ : WJ base B ra oa rc ss os m w) (hg : m.g = []) : Calls Try.prog 25 #[.pointer (some ⟨B, 0, none⟩)] w (ClEnds base ra m w) := by
  obtain ⟨w1, hw1⟩ : ∃ w1, w1 = w.alloc (.cells #[.int .i64 0, .int .i64 0, .int .i64 0, .int .i64 0, .int .i64 0, .int .i64 0, .int .i64 0, .int .i64 0, .int .i64 0, .int .i64 0, .int .i64 0, .int .i64 0, .int .i64 0, .int .i64 0, .int .i64 0, .int .i64 0, .bool false, .bool false, .bool false, .bool false, .int .i64 0, .slice none 0 0, .int .i64 0] 27) := ⟨_, rfl⟩
  have b1 : Below w.heap.size w w1 := by rw [hw1]; exact bel_one _ _
  have J1 := hJ.bel b1
  have hz : ∃ C : Array Value, C.size = 23 ∧ w1.heap[w.heap.size]? = some (.cells C 27) := ⟨_, rfl, by rw [hw1]; exact heap_alloc_new _ _⟩
  obtain ⟨C, hC1, hC2⟩ := hz
  have BW : Hid (Below base w w1) := b1.mono hJ.bs
  have HB1 := hide b1
  have hbs := hide hJ.bs
  have cw := J1.cw
  have RG := hide J1.rng
  have IL := hide (i27l J1.ok.1 (.slice ra m.g.length rc))
  have H3 := hide hC2
  have HL := hide (ml_len J1.ok.1 (.slice ra m.g.length rc))
  have HC1 := hide hC1
  have HONE : Hid ((ml m (.slice ra m.g.length rc)).toArray.all (·.oneCell') = true) := by
    refine all_oneCell_toArray fun v hv => ?_
    simp only [ml, List.mem_append, List.mem_map, List.mem_cons, List.not_mem_nil, or_false] at hv
    rcases hv with ⟨_, _, rfl⟩ | rfl | rfl | rfl | rfl | rfl | rfl | rfl <;> rfl
  have HG0 := hide hg
  have hl0 : m.g.length = 0 := by rw [hg]; rfl
  rw [hl0] at cw
  have HL0 := hide hl0
  have cw2 := cw
  rw [hw1] at cw2
  clear hJ b1 J1 hg hC1 hC2 hl0
  go_enter Try.func25, Try.ntmps25
  go_wp2_with fail
  rw [← hw1]
  clear hw1 cw2
  go_loopw [10] (fun iv wr => iv = .int .i64 0 ∧ wr = w1) (fun _ _ => 0)
  case atStart => exact ⟨rfl, rfl⟩
  case round =>
    obtain ⟨rfl, rfl⟩ := hrel
    go_wp2_with (first | (refine wpList_load_mid rfl 27 _ rfl B 0 rfl _ _ RG.out Try.underlying27 rfl IL.out ?_) | (refine wpList_store_row rfl 27 _ _ rfl w.heap.size _ rfl rfl 27 C H3.out (by rw [List.size_toArray]; exact IL.out) (by rw [HC1.out, List.size_toArray, HL.out]) HONE.out ?_))
    refine bodyPost_ret (results_cell_row rfl _ _ w.heap.size 27 _ (0, 0) _ rfl (setRow_heap _ w.heap.size C _ 27 (0, 0) H3.out) Try.underlying27 rfl (by rw [List.size_toArray]; exact IL.out)) rfl ?_
    refine ⟨fun b hb _ => (setRow_other _ w.heap.size b _ (by omega)).trans (HB1.out.block b hb), ra, rc, ss, rfl, Or.inl HG0.out, fun i hi => ?_, below_setRow BW.out hbs.out _⟩
    rw [HL0.out] at hi; omega
theorem closed_any (hJ : WJ base B ra oa rc ss os m w) : Calls Try.prog 25 #[.pointer (some ⟨B, 0, none⟩)] w (ClEnds base ra m w) := by
  rcases Nat.eq_zero_or_pos m.g.length with h | h
  · exact closed_0 hJ (List.length_eq_zero_iff.1 h)
  · exact closed_1 hJ h
end
end Go.Proofs.Ytielpebokbolbaa
namespace Go.Proofs.Ytielpebokbolbaa
open Go.RowKit
open Xc (hide bel_one bel_tr bel_al bel_set le by8 bys jn)
set_option linter.unusedSimpArgs false
set_option linter.unusedVariables false
/-- The regions' cells, one behind the other. -/
def rcl : List Rg → (Nat → ByteArray) → List Value
  | [], _ => []
  | r :: g, ss => .int .i64 r.at_ :: .string (ss 0) :: .bool r.code :: rcl g (fun k => ss (k + 1))
theorem rcl_len : ∀ (g : List Rg) (ss : Nat → ByteArray), (rcl g ss).length = g.length * 3
  | [], _ => rfl
  | r :: g, ss => by simp only [rcl, List.length_cons, rcl_len g]; omega
theorem rcl_get : ∀ (g : List Rg) (ss : Nat → ByteArray) (i : Nat) (h : i < g.length), (rcl g ss)[i * 3]? = some (.int .i64 g[i].at_) ∧ (rcl g ss)[i * 3 + 1]? = some (.string (ss i)) ∧ (rcl g ss)[i * 3 + 2]? = some (.bool g[i].code)
  | r :: g, ss, 0, _ => ⟨rfl, rfl, rfl⟩
  | r :: g, ss, i + 1, h => by
    have := rcl_get g (fun k => ss (k + 1)) i (by simpa using h)
    have e : (i + 1) * 3 = i * 3 + 1 + 1 + 1 := by omega
    rw [e]
    exact this
theorem rcl_cells {w : World} {b off : Nat} {g : List Rg} {ss : Nat → ByteArray} (h : RL w b off g ss) : ∀ j u, (rcl g ss)[j]? = some u → w.cell? ((⟨b, off, none⟩ : Addr).add j) = some u := fun j u hj => by
  have hlt : j < (rcl g ss).length := (List.getElem?_eq_some_iff.1 hj).1
  rw [rcl_len] at hlt
  rw [add_at]
  obtain ⟨h1, h2, h3⟩ := rcl_get g ss (j / 3) (by omega)
  obtain ⟨c1, c2, c3, _⟩ := h (j / 3) (by omega)
  have : j = j / 3 * 3 ∨ j = j / 3 * 3 + 1 ∨ j = j / 3 * 3 + 2 := by omega
  rcases this with e | e | e
  · rw [← e] at h1 c1; rw [c1, ← h1, hj]
  · rw [← e] at h2; rw [Nat.add_assoc, ← e] at c2; rw [c2, ← h2, hj]
  · rw [← e] at h3; rw [Nat.add_assoc, ← e] at c3; rw [c3, ← h3, hj]
theorem rcl_one : ∀ (g : List Rg) (ss : Nat → ByteArray), ∀ u ∈ rcl g ss, u.oneCell' = true
  | [], _, u, hu => by cases hu
  | r :: g, ss, u, hu => by
    simp only [rcl, List.mem_cons] at hu
    rcases hu with rfl | rfl | rfl | hu
    · rfl
    · rfl
    · rfl
    · exact rcl_one g _ u hu
theorem own_slice {w : World} {base e size n : Nat} {v : Value} {xs : List Value} (h : w.ownsRow base e size v n xs) : ∃ a c, v = .slice a n c := by
  rcases h.2 with ⟨rfl, rfl⟩ | ⟨g, cap, cur, rfl, _⟩
  · exact ⟨_, _, rfl⟩
  · exact ⟨_, _, rfl⟩
/-- A copy of regions, in a block of its own. -/
def Cln (base : Nat) (ra : Option Addr) (g : List Rg) (ss : Nat → ByteArray) (w : World) : Prop := g = [] ∨ ∃ rb, ra = some ⟨rb, 0, none⟩ ∧ base ≤ rb ∧ rb < w.heap.size ∧ RL w rb 0 g ss ∧ ∀ j, w.frozen? ⟨rb, j, none⟩ = false
theorem cln_of {w w0 : World} {base b off : Nat} {g : List Rg} {ss : Nat → ByteArray} {ra : Option Addr} {rc : Nat} (hR : RL w0 b off g ss) (h : w.ownsRow base 39 3 (.slice ra g.length rc) g.length (rcl g ss)) : Cln base ra g ss w := by
  rcases h.2 with ⟨e1, e2⟩ | ⟨q, cap, cur, e1, hb, hh, h4, h5, h6, h7⟩
  · exact Or.inl (List.length_eq_zero_iff.1 e2)
  · simp only [Value.slice.injEq] at e1
    obtain ⟨rfl, _, rfl⟩ := e1
    have hlt : q < w.heap.size := by
      rcases Nat.lt_or_ge q w.heap.size with h' | h'
      · exact h'
      · rw [Array.getElem?_eq_none h'] at hh; cases hh
    refine Or.inr ⟨q, rfl, hb, hlt, fun i hi => ?_, fun j => h.frozenAt j⟩
    obtain ⟨c1, c2, c3⟩ := rcl_get g ss i hi
    obtain ⟨_, _, _, k1, k2⟩ := hR i hi
    refine ⟨?_, ?_, ?_, k1, k2⟩
    · rw [Nat.zero_add, h.cellAt (i * 3) (by omega)]; exact c1
    · rw [Nat.zero_add, h.cellAt (i * 3 + 1) (by omega)]; exact c2
    · rw [Nat.zero_add, h.cellAt (i * 3 + 2) (by omega)]; exact c3
theorem Try.info39' : (Try.prog.info? 39).map (fun i => (i.zero, i.size, i.bytes)) = some (some (.agg #[.int .i64 0, .string ByteArray.empty, .bool false]), 3, 32) := by kernel_rfl
theorem eqn25 (w : World) (a : Option Addr) (n c : Nat) : (binOp .eql 25 (.slice a n c) (.slice none 0 0)).run Try.prog w = .ok (.bool a.isNone) w := Lib.run_eql_slice_nil w 25 39 a n c 0 0 Try.underlying25
set_option maxHeartbeats 1600000 in
theorem clone_some (b off cap : Nat) (g : List Rg) (ss : Nat → ByteArray) (w : World) (hg : 32 * g.length ≤ 140737488351232) (hR : RL w b off g ss) :
    Calls Try.prog 33 #[.slice (some ⟨b, off, none⟩) g.length cap] w fun e w' => ∃ ra rc, e = .returned (.slice ra g.length rc) ∧ Below w.heap.size w w' ∧ Cln w.heap.size ra g ss w' := by
  have q25 := eqn25
  obtain ⟨i0, hi, hz0, hz1, hz2⟩ := info_parts Try.info39'
  have HR := hide hR
  have HG := hide hg
  clear hR hg
  have E0 : Hid ((w.alloc (.cells #[] 39)).ownsRow w.heap.size 39 3 (.slice (some ⟨w.heap.size, 0, none⟩) 0 0) 0 []) := ⟨by simp, Or.inr ⟨w.heap.size, 0, #[], rfl, Nat.le_refl _, heap_alloc_new _ _, Nat.le_refl _, by decide, by simp, by simp⟩⟩
  go_enter Try.func33, Try.ntmps33
  go_wp2_with (at_builtin; refine wpList_append_own _ rfl (.tmp 5) (.tmp 6) 25 rfl w.heap.size 39 i0 _ 3 32 Try.underlying25 hi hz0 hz1 hz2 rfl (by decide) _ 0 [] rfl E0.out ⟨b, off, none⟩ g.length cap (rcl g ss) rfl (rcl_len g ss) (rcl_cells (HR.out.bel (bel_one _ _))) (rcl_one g ss) (by have := HG.out; unfold maxLen; omega) (by have := HG.out; omega) (by simp) ?_)
  intro v' w1 hown hgrow _
  obtain ⟨ra, rc, rfl⟩ := own_slice hown
  have B1 := hide (show Below w.heap.size w w1 from (bel_one w _).trans ⟨hgrow.os, hgrow.tape, hgrow.output, hgrow.size, fun k hk => hgrow.block k (by simp; omega) (by simp [Value.ownBlock]; omega)⟩)
  have C1 := hide (cln_of HR.out hown)
  clear hown hgrow
  go_wp2_with fail
  go_ret
  exact ⟨ra, rc, rfl, B1.out, C1.out⟩
theorem clone_none (n cap : Nat) (w : World) : Calls Try.prog 33 #[.slice none n cap] w fun e w' => e = .returned (.slice none 0 0) ∧ w' = w := by
  have q25 := eqn25
  go_enter Try.func33, Try.ntmps33
  go_wp2_with fail
  go_ret
  exact ⟨rfl, rfl⟩
theorem append_nothing {P : Program} (w : World) {ops : Array Oper} {rest : List Oper} {o : Oper} {a : Act} {Q : Exit → Act → World → Prop} (hgd : o.guard = none) (s x : Operand) (t : TypeId)
    (ho : o.op = .call { callee := .builtin .append, args := #[s, x], argTypes := #[t, t] }) (e : TypeId) (i : TypeInfo) (ht : P.underlying t = some (.slice e)) (hi : P.info? e = some i)
    (sb : Option Addr) (sl sc : Nat) (hs : a.eval s = .slice sb sl sc) (hle : sl ≤ sc) (xb : Option Addr) (xc : Nat) (hx : a.eval x = .slice xb 0 xc)
    (h : wpList P ops Q rest (a.put o.dst (.slice sb sl sc)) w) : wpList P ops Q (o :: rest) a w := by
  refine wpList_plain hgd fun K hK => ?_
  have hrun : (Builtin.append_ #[t, t] o.type #[.slice sb sl sc, .slice xb 0 xc]).run P w = .ok (.slice sb sl sc) w := by
    cases sb <;> cases xb <;> simp [Builtin.append_, run_underlying ht, sizeOf, typeInfo, hi, hle, storeCells, loadCells, Builtin.lenOf, Builtin.firstCells, loadCellsFrom]
  unfold Oper.wp
  simp [execOp, ho, resolve, invoke, builtin, hs, hx, hrun, Result.andThen]
  exact hK _ _ h
theorem clone_empty (ad : Addr) (cap : Nat) (w : World) : Calls Try.prog 33 #[.slice (some ad) 0 cap] w fun e w' => (∃ ra rc, e = .returned (.slice ra 0 rc)) ∧ Below w.heap.size w w' := by
  have q25 := eqn25
  obtain ⟨i0, hi, hz0, hz1, hz2⟩ := info_parts Try.info39'
  go_enter Try.func33, Try.ntmps33
  go_wp2_with (at_builtin; refine append_nothing _ rfl (.tmp 5) (.tmp 6) 25 rfl 39 i0 Try.underlying25 hi _ 0 0 rfl (Nat.le_refl _) _ cap rfl ?_)
  go_ret
  exact ⟨⟨_, _, rfl⟩, bel_one _ _⟩
theorem clone_rs (a : Option Addr) (cap : Nat) (g : List Rg) (ss : Nat → ByteArray) (w : World) (hg : 32 * g.length ≤ 140737488351232) (hR : RS w a g ss) :
    Calls Try.prog 33 #[.slice a g.length cap] w fun e w' => ∃ ra rc, e = .returned (.slice ra g.length rc) ∧ Below w.heap.size w w' ∧ Cln w.heap.size ra g ss w' := by
  rcases hR with rfl | ⟨b, off, rfl, hR⟩
  · cases a with
    | none => exact (clone_none _ cap w).mono fun e w' ⟨h1, h2⟩ => ⟨none, 0, h1, by rw [h2]; exact Below.refl _ _, Or.inl rfl⟩
    | some ad => exact (clone_empty ad cap w).mono fun e w' ⟨⟨ra, rc, h1⟩, h2⟩ => ⟨ra, rc, h1, h2, Or.inl rfl⟩
  · exact clone_some b off cap g ss w hg hR
end Go.Proofs.Ytielpebokbolbaa

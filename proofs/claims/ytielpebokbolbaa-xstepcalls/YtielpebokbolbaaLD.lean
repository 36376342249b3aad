/-
  Merged: Sp Cl Op Oq Mv Rn Ru Sa Sb Sc Ex Tl.
-/
import Derived.Test.YtielpebokbolbaaLB
import Derived.Test.YtielpebokbolbaaLC
import Derived.Test.YtielpebokbolbaaPt
import Derived.Test.YtielpebokbolbaaWp
import Derived.WalkSpells
import Derived.Maps.AppendAt
import Derived.Test.YtielpebokbolbaaWr
import Derived.Laws.MakeOwn
import Derived.Deep.RegionHeld3
import Derived.Laws.StructEq
import Derived.ChangeKeysEq
/-
  The worker's step: any.
-/
namespace Go.Proofs.Ytielpebokbolbaa
open Go.RowKit
open Xc (hide bel_one bel_tr bel_al bel_set Xi xv xc)
set_option linter.unusedSimpArgs false
set_option linter.unusedVariables false
section
variable {K : Nat → Prop} {base B : Nat} {m : Mc} {w w1 : World}
theorem S0.ss22 {q0 q1 : Nat} (h : S0 K base B q0 q1 m w w1) (x : Xi) (v : Int) : SS K base B q0 q1 w1.heap.size (m.ss v) ⟨m.at_, -1, 0, 0⟩ x w ((w1.setCell ⟨B, 22, none⟩ (.int .i64 v)).alloc (.cells (xc x) 49)) := by
  rw [← World.setCell_alloc_past _ _ _ _ h.wk.lt]
  have k := bel_one w1 (.cells (xc x) 49)
  have w2 := h.wk.box k (by simp)
  have bx : Xc.Bx w1.heap.size x (w1.alloc (.cells (xc x) 49)) := Xc.Bx.made _ _
  have g2 := h.go.to k
  have l0 := h.l0.of (k.block _ h.l0.lt)
  have l1 := h.l1.of (k.block _ h.l1.lt)
  have s1 := h.l0.lt
  have s2 := h.l1.lt
  generalize w1.alloc (.cells (xc x) 49) = U at *
  have s : SS K base B q0 q1 w1.heap.size m ⟨m.at_, -1, 0, 0⟩ x w U := ⟨g2, w2, ⟨_, l0⟩, l1, bx, h.n01, by omega, by omega, h.nk, h.b0, h.b1⟩
  exact s.call (w2.sett v)
theorem ft_none {e : Ending} {w' : World} (h : fet m = none) (k : FtEnds m w e w') : Below w.heap.size w w' ∧ ∃ x n, e = .returned (.tuple #[xv x, .int .i64 n, .bool false]) := by
  obtain ⟨hb, ⟨x', hx, rfl⟩ | ⟨hx, k⟩⟩ := k
  · rw [h] at hx; cases hx
  · exact ⟨hb, k⟩
set_option maxRecDepth 100000 in
set_option maxHeartbeats 6400000 in
theorem step_none (h : WK K base B m w) (hf : fet m = none) : Calls Try.prog 27 #[.pointer (some ⟨B, 0, none⟩)] w (StEnds K base B m w) := by
  have HF := hide hf
  have HS : Hid (stp m = (m.ss 4, ⟨m.at_, -1, 0, 0⟩)) := by show _ = _; simp [stp, hf]
  have H := hide h
  have hB : B < w.heap.size := h.lt
  have c20 := h.ca
  clear h hf
  go_enter Try.func27, Try.ntmps27
  go_wp2_with fail
  refine gw (motive := fun x => Calls _ _ _ x _) (fun W => Hid (S0 K base B w.heap.size (w.heap.size + 1) m w W)) (s0_made H.out) ?_
  rintro W SW
  refine (fetch_any SW.out.wk.wx).mono ?_
  intro e w1 hft
  obtain ⟨hb1, ⟨op, wd, r, b, i, c, n⟩, len, rfl⟩ := ft_none HF.out hft
  clear hft
  simp only [xv]
  have S1 := hide (SW.out.bel hb1)
  clear hb1 SW c20 H hB
  have c22 := S1.out.wk.ct
  have f22 := S1.out.wk.fr 22
  have hB1 := S1.out.wk.lt
  go_upto_region 5 with fail
  refine gw (motive := fun x => Code.wp _ _ _ _ x) (fun V => Hid (SS K base B w.heap.size (w.heap.size + 1) w1.heap.size (m.ss 4) ⟨m.at_, -1, 0, 0⟩ ⟨op, wd, r, b, i, c, n⟩ w V)) (S1.out.ss22 _ _) ?_
  rintro V S2
  clear S1 c22 f22 hB1
  generalize w1.heap.size = q2 at *
  generalize w.heap.size + 1 = q1 at *
  generalize w.heap.size = q0 at *
  obtain ⟨z, hz⟩ := S2.out.l0
  obtain ⟨z0, z1, z2, z3⟩ := hz.cells
  have zf0 := hz.fr 0
  have zf1 := hz.fr 1
  have zf2 := hz.fr 2
  have zf3 := hz.fr 3
  obtain ⟨y0, y1, y2, y3⟩ := S2.out.l1.cells
  simp only at y0 y1 y2 y3
  clear hz
  go_wp2_with fail
  refine bodyPost_ret (results_l rfl _ _ q0 _ rfl S2.out.fin.1) rfl ?_
  exact st_end (M := m) (X := ⟨0, false, 0, 0, 0, 0, 0⟩) (q0 := 0) (q1 := 0) (q2 := 0) (V := w) HS.out rfl S2.out.fin.2
theorem step_any (h : WK K base B m w) : Calls Try.prog 27 #[.pointer (some ⟨B, 0, none⟩)] w (StEnds K base B m w) := by
  cases hf : fet m with
  | none => exact step_none h hf
  | some x =>
    have hx := (fet_ok hf).1
    revert hf
    refine Xc.rt_elim (P := fun x => fet m = some x → Calls Try.prog 27 #[.pointer (some ⟨B, 0, none⟩)] w (StEnds K base B m w)) hx ?mov ?movi ?alu ?alui ?test ?mul ?shift ?div ?idiv ?sign ?load ?store ?set ?byte ?cmov ?widen ?jmp ?jcc ?call ?ret ?hlt ?stop ?host
    case div =>
      intro wd b h2 hf
      obtain ⟨bk, rfl, hb⟩ := nat_of h2
      cases hd : dvd (m.sa (wrap64 (m.at_ + ((Xc.enc ⟨8, wd, 0, bk, 0, 0, 0⟩).length : Int)))) ⟨8, wd, 0, bk, 0, 0, 0⟩ with
      | none => exact step_8n h wd bk hb hf hd
      | some m2 => exact step_8y h wd bk hb hf hd
    case idiv =>
      intro wd b h2 hf
      obtain ⟨bk, rfl, hb⟩ := nat_of h2
      cases hd : dvd (m.sa (wrap64 (m.at_ + ((Xc.enc ⟨9, wd, 0, bk, 0, 0, 0⟩).length : Int)))) ⟨9, wd, 0, bk, 0, 0, 0⟩ with
      | none => exact step_9n h wd bk hb hf hd
      | some m2 => exact step_9y h wd bk hb hf hd
    case load =>
      intro wd r b i n _ _ _ _ hf
      cases hd : acc (m.sa (wrap64 (m.at_ + ((Xc.enc ⟨11, wd, r, b, i, 0, n⟩).length : Int)))) ⟨11, wd, r, b, i, 0, n⟩ (adr (m.sa (wrap64 (m.at_ + ((Xc.enc ⟨11, wd, r, b, i, 0, n⟩).length : Int)))) ⟨11, wd, r, b, i, 0, n⟩) with
      | none => exact step_11n h wd r b i 0 n hf hd
      | some m2 => exact step_11y h wd r b i 0 n hf hd
    case store =>
      intro wd r b i n _ _ _ _ hf
      cases hd : acc (m.sa (wrap64 (m.at_ + ((Xc.enc ⟨12, wd, r, b, i, 0, n⟩).length : Int)))) ⟨12, wd, r, b, i, 0, n⟩ (adr (m.sa (wrap64 (m.at_ + ((Xc.enc ⟨12, wd, r, b, i, 0, n⟩).length : Int)))) ⟨12, wd, r, b, i, 0, n⟩) with
      | none => exact step_12n h wd r b i 0 n hf hd
      | some m2 => exact step_12y h wd r b i 0 n hf hd
    case jmp => exact fun n _ hf => step_17 h false 0 0 0 0 n hf
    case jcc =>
      intro c n _ _ hf
      cases hq : m.hd c with
      | true => exact step_18t h false 0 0 0 c n hf hq
      | false => exact step_18f h false 0 0 0 c n hf hq
    case call =>
      intro n _ hf
      cases hd : acc (m.sa (wrap64 (m.at_ + ((Xc.enc ⟨19, false, 0, 0, 0, 0, n⟩).length : Int)))) ⟨19, false, 0, 0, 0, 0, n⟩ (adr (m.sa (wrap64 (m.at_ + ((Xc.enc ⟨19, false, 0, 0, 0, 0, n⟩).length : Int)))) ⟨19, false, 0, 0, 0, 0, n⟩) with
      | none => exact step_19n h false 0 0 0 0 n hf hd
      | some m2 => exact step_19y h false 0 0 0 0 n hf hd
    case ret =>
      intro hf
      cases hd : acc (m.sa (wrap64 (m.at_ + ((Xc.enc ⟨20, false, 0, 0, 0, 0, 0⟩).length : Int)))) ⟨20, false, 0, 0, 0, 0, 0⟩ (adr (m.sa (wrap64 (m.at_ + ((Xc.enc ⟨20, false, 0, 0, 0, 0, 0⟩).length : Int)))) ⟨20, false, 0, 0, 0, 0, 0⟩) with
      | none => exact step_20n h false 0 0 0 0 0 hf hd
      | some m2 => exact step_20y h false 0 0 0 0 0 hf hd
    case hlt => exact fun hf => step_21 h false 0 0 0 0 0 hf
    case stop => exact fun hf => step_22 h false 0 0 0 0 0 hf
    case host => exact fun hf => step_23 h false 0 0 0 0 0 hf
    all_goals intros; rename_i hf; exact step_rk h _ _ _ _ _ _ _ hf rfl
end
end Go.Proofs.Ytielpebokbolbaa
/-
  The program closes a worker: what it has of its own becomes its regions' bytes.
-/
namespace Go.Proofs.Ytielpebokbolbaa
open Go.RowKit
open Xc (hide bel_one bel_tr bel_al bel_set le by8 bys jn)
set_option linter.unusedSimpArgs false
set_option linter.unusedVariables false
/-- The strings by round k: those behind it are as they were. -/
def sk (ss : Nat → ByteArray) (g : List Rg) (k : Nat) : Nat → ByteArray := fun i => if i < k then ⟨(g.getD i ⟨0, [], false⟩).by_.toArray⟩ else ss i
theorem sk_lt {ss : Nat → ByteArray} {g : List Rg} {k i : Nat} (h : i < k) (hi : i < g.length) : sk ss g k i = ⟨g[i].by_.toArray⟩ := by simp [sk, h, hi]
theorem sk_ge {ss : Nat → ByteArray} {g : List Rg} {k i : Nat} (h : k ≤ i) : sk ss g k i = ss i := by simp [sk]; omega
theorem sk_same {ss : Nat → ByteArray} {g : List Rg} {k : Nat} (hk : k < g.length) (h : (ss k).data.toList = g[k].by_) : sk ss g (k + 1) = sk ss g k := by
  funext i
  by_cases h1 : i < k
  · rw [sk_lt (by omega) (by omega), sk_lt h1 (by omega)]
  · by_cases h2 : i = k
    · subst h2
      rw [sk_lt (by omega) hk, sk_ge (Nat.le_refl _), ← h]
    · rw [sk_ge (by omega), sk_ge (by omega)]
/-- What stands at a round's beginning. -/
structure Ck (base B rb ob : Nat) (g : List Rg) (ss : Nat → ByteArray) (os : Nat → Option (Nat × Nat)) (k : Nat) (w : World) : Prop where
  rl : RL w rb 0 g (sk ss g k)
  rf : ∀ j, w.frozen? ⟨rb, j, none⟩ = false
  lt : rb < w.heap.size
theorem RL.store {w : World} {rb : Nat} {g : List Rg} {f : Nat → ByteArray} (h : RL w rb 0 g f) (k : Nat) (hk : k < g.length) (s : ByteArray) (hs : s.size = g[k].by_.length) (f' : Nat → ByteArray) (h1 : f' k = s) (h2 : ∀ i, i ≠ k → i < g.length → f' i = f i) :
    RL (w.setCell ⟨rb, k * 3 + 1, none⟩ (.string s)) rb 0 g f' := fun i hi => by
  obtain ⟨c1, c2, c3, c4, c5⟩ := h i hi
  have ne : ∀ a b : Nat, a ≠ b → (⟨rb, a, none⟩ : Addr) ≠ ⟨rb, b, none⟩ := fun a b hab e => hab (by injection e)
  by_cases e : i = k
  · subst e
    refine ⟨?_, ?_, ?_, by rw [h1, hs], c5⟩
    · rw [World.cell?_setCell_other _ _ _ _ (ne _ _ (by omega))]; exact c1
    · rw [h1]
      have e2 : 0 + i * 3 + 1 = i * 3 + 1 := by omega
      rw [e2] at c2 ⊢
      exact World.cell?_setCell_same _ _ _ c2
    · rw [World.cell?_setCell_other _ _ _ _ (ne _ _ (by omega))]; exact c3
  · refine ⟨?_, ?_, ?_, by rw [h2 i e hi]; exact c4, c5⟩
    · rw [World.cell?_setCell_other _ _ _ _ (ne _ _ (by omega))]; exact c1
    · rw [World.cell?_setCell_other _ _ _ _ (ne _ _ (by omega)), h2 i e hi]; exact c2
    · rw [World.cell?_setCell_other _ _ _ _ (ne _ _ (by omega))]; exact c3
section
variable {base B : Nat} {ra oa : Option Addr} {rc : Nat} {ss : Nat → ByteArray} {os : Nat → Option (Nat × Nat)} {m : Mc} {w : World}
theorem oc_is (rb ob : Nat) (hN : Wn base B rb ob m.g ss os w) (k : Nat) (hk : k < m.g.length) : os k = none ∧ w.cell? ⟨ob, k, none⟩ = some (.slice none 0 0) ∨ ∃ q c, os k = some (q, c) ∧ w.cell? ⟨ob, k, none⟩ = some (.slice (some ⟨q, 0, none⟩) m.g[k].by_.length c) := by
  have := hN.oc k hk
  cases ho : os k with
  | none => rw [ho] at this; exact Or.inl ⟨rfl, this⟩
  | some p => rw [ho] at this; exact Or.inr ⟨p.1, p.2, rfl, this⟩
def ClEnds (base : Nat) (r0 : Option Addr) (m : Mc) (w : World) (e : Ending) (w' : World) : Prop := (∀ b, b < w.heap.size → (0 < m.g.length → ∀ x, r0 = some x → x.block ≠ b) → w'.heap[b]? = w.heap[b]?) ∧ ∃ ra rc ss, e = .returned (.agg (mc m (.slice ra m.g.length rc))) ∧ RS w' ra m.g ss ∧ (∀ i (h : i < m.g.length), (ss i).data.toList = m.g[i].by_) ∧ Below base w w'
set_option maxHeartbeats 6400000 in
theorem closed_1 (hJ : WJ base B ra oa rc ss os m w) (hpos : 0 < m.g.length) : Calls Try.prog 25 #[.pointer (some ⟨B, 0, none⟩)] w (ClEnds base ra m w) := by
  obtain ⟨rb, ob, rfl, rfl, hN⟩ := hJ.mem.at_ hpos
  have q50 := neq50
  obtain ⟨w1, hw1⟩ : ∃ w1, w1 = w.alloc (.cells #[.int .i64 0, .int .i64 0, .int .i64 0, .int .i64 0, .int .i64 0, .int .i64 0, .int .i64 0, .int .i64 0, .int .i64 0, .int .i64 0, .int .i64 0, .int .i64 0, .int .i64 0, .int .i64 0, .int .i64 0, .int .i64 0, .bool false, .bool false, .bool false, .bool false, .int .i64 0, .slice none 0 0, .int .i64 0] 27) := ⟨_, rfl⟩
  have b1 : Below w.heap.size w w1 := by rw [hw1]; exact bel_one _ _
  have J1 := hJ.bel b1
  have N1 := hN.of b1.size fun b _ hb => b1.block b hb
  have hz : ∃ C : Array Value, C.size = 23 ∧ w1.heap[w.heap.size]? = some (.cells C 27) := ⟨_, rfl, by rw [hw1]; exact heap_alloc_new _ _⟩
  have HZ := hide hz
  have BW : Hid (Below base w w1) := b1.mono hJ.bs
  have HB1 := hide b1
  have hws : w.heap.size < w1.heap.size := by rw [hw1]; simp
  have hrw : rb < w.heap.size := hN.l1
  have hBw : B < w.heap.size := hJ.row.lt
  have how : ob < w.heap.size := hN.l2
  have hbr : base ≤ rb := hN.b1
  have cw := J1.cw
  have HJ := hide J1
  have HN := hide N1
  have HGL := hide hJ.sm
  clear hJ hN b1 J1 N1 hz
  have cw2 := cw
  rw [hw1] at cw2
  go_enter Try.func25, Try.ntmps25
  go_wp2_with fail
  rw [← hw1]
  clear hw1 cw2
  go_loopw [10] (fun iv wr => ∃ k : Nat, k ≤ m.g.length ∧ iv = .int .i64 (k : Int) ∧ Hid (RL wr rb 0 m.g (sk ss m.g k)) ∧ Hid (∀ j, wr.frozen? ⟨rb, j, none⟩ = false) ∧ Hid (w1.heap.size ≤ wr.heap.size ∧ ∀ b, b ≠ rb → b < w1.heap.size → wr.heap[b]? = w1.heap[b]?) ∧ Hid (Below base w wr)) (fun iv _ => m.g.length - (intOf iv).toNat)
  case atStart => exact ⟨0, Nat.zero_le _, rfl, by have := HN.out.rl; rwa [show sk ss m.g 0 = ss from by funext i; exact sk_ge (Nat.zero_le _)], HN.out.rf, ⟨Nat.le_refl _, fun _ _ _ => rfl⟩, BW⟩
  case round =>
    obtain ⟨k, hk, rfl, HRL, HRF, HEQ, HBW⟩ := hrel
    have hB1 : B < w1.heap.size := by omega
    have ho1 : ob < w1.heap.size := by omega
    by_cases hlt : k < m.g.length
    · have hgl : m.g.length ≤ 4398046511104 := HGL.out
      have cg : wr.cell? ⟨B, 21, none⟩ = some (.slice (some ⟨rb, 0, none⟩) m.g.length rc) := by rw [World.cell?_of_block (w := w1) (HEQ.out.2 B (Ne.symm HN.out.n1) hB1)]; exact HJ.out.cg
      have eo := HEQ.out.2 ob (Ne.symm HN.out.n3) ho1
      rcases oc_is rb ob HN.out k hlt with ⟨hok, hoc⟩ | ⟨q, c, hok, hoc⟩
      · have c0 : wr.cell? ⟨ob, k, none⟩ = some (.slice none 0 0) := by rw [World.cell?_of_block (w := w1) eo]; exact hoc
        have hsk := hide (sk_same (ss := ss) hlt (HN.out.no k hlt hok))
        clear cw hoc eo
        go_wp2_with fail
        go_roundw
        case rel => exact ⟨k + 1, hlt, by go_num, by rw [hsk.out]; exact HRL, HRF, HEQ, HBW⟩
        case measure => simp [intOf]; omega
      · have c0 : wr.cell? ⟨ob, k, none⟩ = some (.slice (some ⟨q, 0, none⟩) m.g[k].by_.length c) := by rw [World.cell?_of_block (w := w1) eo]; exact hoc
        obtain ⟨a1, a2, a3, a4, a5, a6⟩ := HN.out.ow k hlt q c hok
        have hbr' : BR wr q m.g[k].by_ := a5.of (HEQ.out.2 q a3 a5.1) HEQ.out.1
        have hcv : (convert 50 9 (.slice (some ⟨q, 0, none⟩) m.g[k].by_.length c)).run Try.prog wr.drew = .ok (.string ⟨(m.g[k].by_.take m.g[k].by_.length).toArray⟩) wr.drew := run_str_of (hbr'.of_block (w' := wr.drew) rfl) 50 9 5 m.g[k].by_.length c (Nat.le_refl _) ubytes Try.underlying5 Try.underlying9
        rw [List.take_length] at hcv
        obtain ⟨_, cst, _, _, _⟩ := HRL.out k hlt
        rw [Nat.zero_add] at cst
        have fst := HRF.out (k * 3 + 1)
        clear cw hoc eo a1 a2 a3 a4 a5 a6 hbr'
        go_wp2_with fail
        go_region
        go_wp2_with fail
        go_roundw
        case rel =>
          refine ⟨k + 1, hlt, by go_num, ?_, fun j => ?_, ⟨by simpa [World.setCell] using HEQ.out.1, fun b hb hl => ?_⟩, ?_⟩
          · refine RL.store (w := wr.drew) HRL.out k hlt ⟨m.g[k].by_.toArray⟩ (by simp [ByteArray.size]) _ (sk_lt (Nat.lt_succ_self k) hlt) fun i hne hi => ?_
            by_cases h1 : i < k
            · rw [sk_lt (by omega) hi, sk_lt h1 hi]
            · rw [sk_ge (by omega), sk_ge (by omega)]
          · have := HRF.out j
            simpa [World.frozen?_setCell] using this
          · exact (Below.heap_setCell wr.drew ⟨rb, k * 3 + 1, none⟩ _ b hb).trans (HEQ.out.2 b hb hl)
          · exact (HBW.out.trans (drew_below _ _)).setCell (p := ⟨rb, k * 3 + 1, none⟩) hbr _
        case measure => simp [intOf]; omega
    · have hkn : k = m.g.length := by omega
      have J2 : WJ base B (some ⟨rb, 0, none⟩) (some ⟨ob, 0, none⟩) rc ss os m w1 := HJ.out
      have rgB : wr.rangeAt B 0 (ml m (.slice (some ⟨rb, 0, none⟩) m.g.length rc)) := fun j v hj => by
        rw [World.cell?_of_block (w := w1) (HEQ.out.2 B (Ne.symm HN.out.n1) hB1)]; exact J2.rng j v hj
      obtain ⟨C, hC1, hC2⟩ := HZ.out
      have hC3 : wr.heap[w.heap.size]? = some (.cells C 27) := (HEQ.out.2 w.heap.size (by omega) hws).trans hC2
      have hlen := ml_len J2.ok.1 (.slice (some ⟨rb, 0, none⟩) m.g.length rc)
      have RG := hide rgB
      have IL := hide (i27l J2.ok.1 (.slice (some ⟨rb, 0, none⟩) m.g.length rc))
      have H3 := hide hC3
      have HL := hide hlen
      have HC1 := hide hC1
      have HONE : Hid ((ml m (.slice (some ⟨rb, 0, none⟩) m.g.length rc)).toArray.all (·.oneCell') = true) := by
        refine all_oneCell_toArray fun v hv => ?_
        simp only [ml, List.mem_append, List.mem_map, List.mem_cons, List.not_mem_nil, or_false] at hv
        rcases hv with ⟨_, _, rfl⟩ | rfl | rfl | rfl | rfl | rfl | rfl | rfl <;> rfl
      subst hkn
      clear cw rgB hC1 hC2 hC3 hlen J2
      go_wp2_with (first | (refine wpList_load_mid rfl 27 _ rfl B 0 rfl _ _ RG.out Try.underlying27 rfl IL.out ?_) | (refine wpList_store_row rfl 27 _ _ rfl w.heap.size _ rfl rfl 27 C H3.out (by rw [List.size_toArray]; exact IL.out) (by rw [HC1.out, List.size_toArray, HL.out]) HONE.out ?_))
      refine bodyPost_ret (results_cell_row rfl _ _ w.heap.size 27 _ (0, 0) _ rfl (setRow_heap wr w.heap.size C _ 27 (0, 0) H3.out) Try.underlying27 rfl (by rw [List.size_toArray]; exact IL.out)) rfl ?_
      have hne : rb ≠ w.heap.size := by omega
      have hbw : base ≤ w.heap.size := by omega
      refine ⟨fun b hb hr => (setRow_other wr w.heap.size b _ (by omega)).trans ((HEQ.out.2 b (Ne.symm (hr hpos _ rfl)) (by omega)).trans (HB1.out.block b hb)), some ⟨rb, 0, none⟩, rc, sk ss m.g m.g.length, rfl, Or.inr ⟨rb, 0, rfl, HRL.out.of (setRow_other wr w.heap.size rb _ hne)⟩, fun i hi => ?_, below_setRow HBW.out hbw _⟩
      rw [sk_lt hi hi]
set_option maxHeartbeats 6400000 in
theorem closed_0 (hJ : WJ base B ra oa rc ss os m w) (hg : m.g = []) : Calls Try.prog 25 #[.pointer (some ⟨B, 0, none⟩)] w (ClEnds base ra m w) := by
  obtain ⟨w1, hw1⟩ : ∃ w1, w1 = w.alloc (.cells #[.int .i64 0, .int .i64 0, .int .i64 0, .int .i64 0, .int .i64 0, .int .i64 0, .int .i64 0, .int .i64 0, .int .i64 0, .int .i64 0, .int .i64 0, .int .i64 0, .int .i64 0, .int .i64 0, .int .i64 0, .int .i64 0, .bool false, .bool false, .bool false, .bool false, .int .i64 0, .slice none 0 0, .int .i64 0] 27) := ⟨_, rfl⟩
  have b1 : Below w.heap.size w w1 := by rw [hw1]; exact bel_one _ _
  have J1 := hJ.bel b1
  have hz : ∃ C : Array Value, C.size = 23 ∧ w1.heap[w.heap.size]? = some (.cells C 27) := ⟨_, rfl, by rw [hw1]; exact heap_alloc_new _ _⟩
  obtain ⟨C, hC1, hC2⟩ := hz
  have BW : Hid (Below base w w1) := b1.mono hJ.bs
  have HB1 := hide b1
  have hbs := hide hJ.bs
  have cw := J1.cw
  have RG := hide J1.rng
  have IL := hide (i27l J1.ok.1 (.slice ra m.g.length rc))
  have H3 := hide hC2
  have HL := hide (ml_len J1.ok.1 (.slice ra m.g.length rc))
  have HC1 := hide hC1
  have HONE : Hid ((ml m (.slice ra m.g.length rc)).toArray.all (·.oneCell') = true) := by
    refine all_oneCell_toArray fun v hv => ?_
    simp only [ml, List.mem_append, List.mem_map, List.mem_cons, List.not_mem_nil, or_false] at hv
    rcases hv with ⟨_, _, rfl⟩ | rfl | rfl | rfl | rfl | rfl | rfl | rfl <;> rfl
  have HG0 := hide hg
  have hl0 : m.g.length = 0 := by rw [hg]; rfl
  rw [hl0] at cw
  have HL0 := hide hl0
  have cw2 := cw
  rw [hw1] at cw2
  clear hJ b1 J1 hg hC1 hC2 hl0
  go_enter Try.func25, Try.ntmps25
  go_wp2_with fail
  rw [← hw1]
  clear hw1 cw2
  go_loopw [10] (fun iv wr => iv = .int .i64 0 ∧ wr = w1) (fun _ _ => 0)
  case atStart => exact ⟨rfl, rfl⟩
  case round =>
    obtain ⟨rfl, rfl⟩ := hrel
    go_wp2_with (first | (refine wpList_load_mid rfl 27 _ rfl B 0 rfl _ _ RG.out Try.underlying27 rfl IL.out ?_) | (refine wpList_store_row rfl 27 _ _ rfl w.heap.size _ rfl rfl 27 C H3.out (by rw [List.size_toArray]; exact IL.out) (by rw [HC1.out, List.size_toArray, HL.out]) HONE.out ?_))
    refine bodyPost_ret (results_cell_row rfl _ _ w.heap.size 27 _ (0, 0) _ rfl (setRow_heap _ w.heap.size C _ 27 (0, 0) H3.out) Try.underlying27 rfl (by rw [List.size_toArray]; exact IL.out)) rfl ?_
    refine ⟨fun b hb _ => (setRow_other _ w.heap.size b _ (by omega)).trans (HB1.out.block b hb), ra, rc, ss, rfl, Or.inl HG0.out, fun i hi => ?_, below_setRow BW.out hbs.out _⟩
    rw [HL0.out] at hi; omega
theorem closed_any (hJ : WJ base B ra oa rc ss os m w) : Calls Try.prog 25 #[.pointer (some ⟨B, 0, none⟩)] w (ClEnds base ra m w) := by
  rcases Nat.eq_zero_or_pos m.g.length with h | h
  · exact closed_0 hJ (List.length_eq_zero_iff.1 h)
  · exact closed_1 hJ h
end
end Go.Proofs.Ytielpebokbolbaa
/-
  The program's open: a list of regions that is nobody else's, and a worker over it.
-/
namespace Go.Proofs.Ytielpebokbolbaa
open Go.RowKit
open Xc (hide bel_one bel_tr bel_al bel_set le by8 bys jn)
set_option linter.unusedSimpArgs false
set_option linter.unusedVariables false
/-- The regions' cells, one behind the other. -/
def rcl : List Rg → (Nat → ByteArray) → List Value
  | [], _ => []
  | r :: g, ss => .int .i64 r.at_ :: .string (ss 0) :: .bool r.code :: rcl g (fun k => ss (k + 1))
theorem rcl_len : ∀ (g : List Rg) (ss : Nat → ByteArray), (rcl g ss).length = g.length * 3
  | [], _ => rfl
  | r :: g, ss => by simp only [rcl, List.length_cons, rcl_len g]; omega
theorem rcl_get : ∀ (g : List Rg) (ss : Nat → ByteArray) (i : Nat) (h : i < g.length), (rcl g ss)[i * 3]? = some (.int .i64 g[i].at_) ∧ (rcl g ss)[i * 3 + 1]? = some (.string (ss i)) ∧ (rcl g ss)[i * 3 + 2]? = some (.bool g[i].code)
  | r :: g, ss, 0, _ => ⟨rfl, rfl, rfl⟩
  | r :: g, ss, i + 1, h => by
    have := rcl_get g (fun k => ss (k + 1)) i (by simpa using h)
    have e : (i + 1) * 3 = i * 3 + 1 + 1 + 1 := by omega
    rw [e]
    exact this
theorem rcl_cells {w : World} {b off : Nat} {g : List Rg} {ss : Nat → ByteArray} (h : RL w b off g ss) : ∀ j u, (rcl g ss)[j]? = some u → w.cell? ((⟨b, off, none⟩ : Addr).add j) = some u := fun j u hj => by
  have hlt : j < (rcl g ss).length := (List.getElem?_eq_some_iff.1 hj).1
  rw [rcl_len] at hlt
  rw [add_at]
  obtain ⟨h1, h2, h3⟩ := rcl_get g ss (j / 3) (by omega)
  obtain ⟨c1, c2, c3, _⟩ := h (j / 3) (by omega)
  have : j = j / 3 * 3 ∨ j = j / 3 * 3 + 1 ∨ j = j / 3 * 3 + 2 := by omega
  rcases this with e | e | e
  · rw [← e] at h1 c1; rw [c1, ← h1, hj]
  · rw [← e] at h2; rw [Nat.add_assoc, ← e] at c2; rw [c2, ← h2, hj]
  · rw [← e] at h3; rw [Nat.add_assoc, ← e] at c3; rw [c3, ← h3, hj]
theorem rcl_one : ∀ (g : List Rg) (ss : Nat → ByteArray), ∀ u ∈ rcl g ss, u.oneCell' = true
  | [], _, u, hu => by cases hu
  | r :: g, ss, u, hu => by
    simp only [rcl, List.mem_cons] at hu
    rcases hu with rfl | rfl | rfl | hu
    · rfl
    · rfl
    · rfl
    · exact rcl_one g _ u hu
theorem own_slice {w : World} {base e size n : Nat} {v : Value} {xs : List Value} (h : w.ownsRow base e size v n xs) : ∃ a c, v = .slice a n c := by
  rcases h.2 with ⟨rfl, rfl⟩ | ⟨g, cap, cur, rfl, _⟩
  · exact ⟨_, _, rfl⟩
  · exact ⟨_, _, rfl⟩
/-- A copy of regions, in a block of its own. -/
def Cln (base : Nat) (ra : Option Addr) (g : List Rg) (ss : Nat → ByteArray) (w : World) : Prop := g = [] ∨ ∃ rb, ra = some ⟨rb, 0, none⟩ ∧ base ≤ rb ∧ rb < w.heap.size ∧ RL w rb 0 g ss ∧ ∀ j, w.frozen? ⟨rb, j, none⟩ = false
theorem cln_of {w w0 : World} {base b off : Nat} {g : List Rg} {ss : Nat → ByteArray} {ra : Option Addr} {rc : Nat} (hR : RL w0 b off g ss) (h : w.ownsRow base 39 3 (.slice ra g.length rc) g.length (rcl g ss)) : Cln base ra g ss w := by
  rcases h.2 with ⟨e1, e2⟩ | ⟨q, cap, cur, e1, hb, hh, h4, h5, h6, h7⟩
  · exact Or.inl (List.length_eq_zero_iff.1 e2)
  · simp only [Value.slice.injEq] at e1
    obtain ⟨rfl, _, rfl⟩ := e1
    have hlt : q < w.heap.size := by
      rcases Nat.lt_or_ge q w.heap.size with h' | h'
      · exact h'
      · rw [Array.getElem?_eq_none h'] at hh; cases hh
    refine Or.inr ⟨q, rfl, hb, hlt, fun i hi => ?_, fun j => h.frozenAt j⟩
    obtain ⟨c1, c2, c3⟩ := rcl_get g ss i hi
    obtain ⟨_, _, _, k1, k2⟩ := hR i hi
    refine ⟨?_, ?_, ?_, k1, k2⟩
    · rw [Nat.zero_add, h.cellAt (i * 3) (by omega)]; exact c1
    · rw [Nat.zero_add, h.cellAt (i * 3 + 1) (by omega)]; exact c2
    · rw [Nat.zero_add, h.cellAt (i * 3 + 2) (by omega)]; exact c3
theorem Try.info39' : (Try.prog.info? 39).map (fun i => (i.zero, i.size, i.bytes)) = some (some (.agg #[.int .i64 0, .string ByteArray.empty, .bool false]), 3, 32) := by kernel_rfl
theorem eqn25 (w : World) (a : Option Addr) (n c : Nat) : (binOp .eql 25 (.slice a n c) (.slice none 0 0)).run Try.prog w = .ok (.bool a.isNone) w := Lib.run_eql_slice_nil w 25 39 a n c 0 0 Try.underlying25
set_option maxHeartbeats 1600000 in
theorem clone_some (b off cap : Nat) (g : List Rg) (ss : Nat → ByteArray) (w : World) (hg : 32 * g.length ≤ 140737488351232) (hR : RL w b off g ss) :
    Calls Try.prog 33 #[.slice (some ⟨b, off, none⟩) g.length cap] w fun e w' => ∃ ra rc, e = .returned (.slice ra g.length rc) ∧ Below w.heap.size w w' ∧ Cln w.heap.size ra g ss w' := by
  have q25 := eqn25
  obtain ⟨i0, hi, hz0, hz1, hz2⟩ := info_parts Try.info39'
  have HR := hide hR
  have HG := hide hg
  clear hR hg
  have E0 : Hid ((w.alloc (.cells #[] 39)).ownsRow w.heap.size 39 3 (.slice (some ⟨w.heap.size, 0, none⟩) 0 0) 0 []) := ⟨by simp, Or.inr ⟨w.heap.size, 0, #[], rfl, Nat.le_refl _, heap_alloc_new _ _, Nat.le_refl _, by decide, by simp, by simp⟩⟩
  go_enter Try.func33, Try.ntmps33
  go_wp2_with (at_builtin; refine wpList_append_own _ rfl (.tmp 5) (.tmp 6) 25 rfl w.heap.size 39 i0 _ 3 32 Try.underlying25 hi hz0 hz1 hz2 rfl (by decide) _ 0 [] rfl E0.out ⟨b, off, none⟩ g.length cap (rcl g ss) rfl (rcl_len g ss) (rcl_cells (HR.out.bel (bel_one _ _))) (rcl_one g ss) (by have := HG.out; unfold maxLen; omega) (by have := HG.out; omega) (by simp) ?_)
  intro v' w1 hown hgrow _
  obtain ⟨ra, rc, rfl⟩ := own_slice hown
  have B1 := hide (show Below w.heap.size w w1 from (bel_one w _).trans ⟨hgrow.os, hgrow.tape, hgrow.output, hgrow.size, fun k hk => hgrow.block k (by simp; omega) (by simp [Value.ownBlock]; omega)⟩)
  have C1 := hide (cln_of HR.out hown)
  clear hown hgrow
  go_wp2_with fail
  go_ret
  exact ⟨ra, rc, rfl, B1.out, C1.out⟩
theorem clone_none (n cap : Nat) (w : World) : Calls Try.prog 33 #[.slice none n cap] w fun e w' => e = .returned (.slice none 0 0) ∧ w' = w := by
  have q25 := eqn25
  go_enter Try.func33, Try.ntmps33
  go_wp2_with fail
  go_ret
  exact ⟨rfl, rfl⟩
theorem append_nothing {P : Program} (w : World) {ops : Array Oper} {rest : List Oper} {o : Oper} {a : Act} {Q : Exit → Act → World → Prop} (hgd : o.guard = none) (s x : Operand) (t : TypeId)
    (ho : o.op = .call { callee := .builtin .append, args := #[s, x], argTypes := #[t, t] }) (e : TypeId) (i : TypeInfo) (ht : P.underlying t = some (.slice e)) (hi : P.info? e = some i)
    (sb : Option Addr) (sl sc : Nat) (hs : a.eval s = .slice sb sl sc) (hle : sl ≤ sc) (xb : Option Addr) (xc : Nat) (hx : a.eval x = .slice xb 0 xc)
    (h : wpList P ops Q rest (a.put o.dst (.slice sb sl sc)) w) : wpList P ops Q (o :: rest) a w := by
  refine wpList_plain hgd fun K hK => ?_
  have hrun : (Builtin.append_ #[t, t] o.type #[.slice sb sl sc, .slice xb 0 xc]).run P w = .ok (.slice sb sl sc) w := by
    cases sb <;> cases xb <;> simp [Builtin.append_, run_underlying ht, sizeOf, typeInfo, hi, hle, storeCells, loadCells, Builtin.lenOf, Builtin.firstCells, loadCellsFrom]
  unfold Oper.wp
  simp [execOp, ho, resolve, invoke, builtin, hs, hx, hrun, Result.andThen]
  exact hK _ _ h
theorem clone_empty (ad : Addr) (cap : Nat) (w : World) : Calls Try.prog 33 #[.slice (some ad) 0 cap] w fun e w' => (∃ ra rc, e = .returned (.slice ra 0 rc)) ∧ Below w.heap.size w w' := by
  have q25 := eqn25
  obtain ⟨i0, hi, hz0, hz1, hz2⟩ := info_parts Try.info39'
  go_enter Try.func33, Try.ntmps33
  go_wp2_with (at_builtin; refine append_nothing _ rfl (.tmp 5) (.tmp 6) 25 rfl 39 i0 Try.underlying25 hi _ 0 0 rfl (Nat.le_refl _) _ cap rfl ?_)
  go_ret
  exact ⟨⟨_, _, rfl⟩, bel_one _ _⟩
theorem clone_rs (a : Option Addr) (cap : Nat) (g : List Rg) (ss : Nat → ByteArray) (w : World) (hg : 32 * g.length ≤ 140737488351232) (hR : RS w a g ss) :
    Calls Try.prog 33 #[.slice a g.length cap] w fun e w' => ∃ ra rc, e = .returned (.slice ra g.length rc) ∧ Below w.heap.size w w' ∧ Cln w.heap.size ra g ss w' := by
  rcases hR with rfl | ⟨b, off, rfl, hR⟩
  · cases a with
    | none => exact (clone_none _ cap w).mono fun e w' ⟨h1, h2⟩ => ⟨none, 0, h1, by rw [h2]; exact Below.refl _ _, Or.inl rfl⟩
    | some ad => exact (clone_empty ad cap w).mono fun e w' ⟨⟨ra, rc, h1⟩, h2⟩ => ⟨ra, rc, h1, h2, Or.inl rfl⟩
  · exact clone_some b off cap g ss w hg hR
end Go.Proofs.Ytielpebokbolbaa
/-
  The program opens a worker over a machine.
-/
namespace Go.Proofs.Ytielpebokbolbaa
open Go.RowKit
open Xc (hide bel_one bel_tr bel_al bel_set le by8 bys jn)
set_option linter.unusedSimpArgs false
set_option linter.unusedVariables false
theorem Try.info50' : (Try.prog.info? 50).map (fun i => (i.zero, i.size, i.bytes)) = some (some (.slice none 0 0), 1, 24) := by kernel_rfl
theorem ml_21 {m : Mc} (h : m.r.length = 16) (vr : Value) : (ml m vr)[21]? = some vr := by
  unfold ml; rw [List.getElem?_append_right (by simp; omega)]; simp [h]
theorem ml_set {m : Mc} (h : m.r.length = 16) (vr v : Value) : (ml m vr).set 21 v = ml m v := by
  unfold ml; rw [List.set_append_right _ _ (by simp; omega)]; simp [h]
theorem rng_row {w : World} {b : Nat} {l : List Value} {t : TypeId} (h : w.heap[b]? = some (.cells l.toArray t)) : w.rangeAt b 0 l := fun j v hj => by
  simp [World.cell?, h, hj]
theorem rng_al {w : World} {b : Nat} {l : List Value} (h : w.rangeAt b 0 l) (hb : b < w.heap.size) (o : Obj) : (w.alloc o).rangeAt b 0 l := fun j v hj => ((bel_one w o).cell (p := ⟨b, 0 + j, none⟩) hb).trans (h j v hj)
theorem made_get (n i : Nat) (h : i < n) : (madeCells #[.slice none 0 0] n)[i]? = some (Value.slice none 0 0) := by
  simp [madeCells, h, Nat.mod_one]
theorem open_mem {m : Mc} {ra ra1 : Option Addr} {ss : Nat → ByteArray} {w w1 w2 : World} {q : Nat} (hm : m.ok) (hg : m.g.length ≤ 4398046511104) (hs : ∀ i (h : i < m.g.length), (ss i).data.toList = m.g[i].by_) (hR : RS w ra m.g ss) (hC : Cln q ra1 m.g ss w1) (h1 : w.heap.size < w1.heap.size) (hq : q = w.heap.size + 1) (s2 : w2.heap.size = w1.heap.size) (e2 : ∀ b, b ≠ w.heap.size → w2.heap[b]? = w1.heap[b]?) (B2 : Below w.heap.size w w2) (rc1 : Nat) :
    WX w.heap.size (w2.heap.size + 1) m ((w2.alloc (.cells (madeCells #[.slice none 0 0] m.g.length) 50)).alloc (.cells (wc m (.slice ra1 m.g.length rc1) (.slice (some ⟨w2.heap.size, 0, none⟩) m.g.length m.g.length)) 72)).drew ∧ Below w.heap.size w ((w2.alloc (.cells (madeCells #[.slice none 0 0] m.g.length) 50)).alloc (.cells (wc m (.slice ra1 m.g.length rc1) (.slice (some ⟨w2.heap.size, 0, none⟩) m.g.length m.g.length)) 72)).drew := by
  have b3 := bel_one w2 (.cells (madeCells #[.slice none 0 0] m.g.length) 50)
  have hz3 : (w2.alloc (.cells (madeCells #[.slice none 0 0] m.g.length) 50)).heap.size = w2.heap.size + 1 := by simp
  have r3 : (w2.alloc (.cells (madeCells #[.slice none 0 0] m.g.length) 50)).heap[w2.heap.size]? = some (.cells (madeCells #[.slice none 0 0] m.g.length) 50) := heap_alloc_new _ _
  generalize w2.alloc (.cells (madeCells #[.slice none 0 0] m.g.length) 50) = w3 at *
  have b4 := bel_one w3 (.cells (wc m (.slice ra1 m.g.length rc1) (.slice (some ⟨w2.heap.size, 0, none⟩) m.g.length m.g.length)) 72)
  have hz4 : (w3.alloc (.cells (wc m (.slice ra1 m.g.length rc1) (.slice (some ⟨w2.heap.size, 0, none⟩) m.g.length m.g.length)) 72)).heap.size = w2.heap.size + 1 + 1 := by simp [hz3]
  have r4 : (w3.alloc (.cells (wc m (.slice ra1 m.g.length rc1) (.slice (some ⟨w2.heap.size, 0, none⟩) m.g.length m.g.length)) 72)).heap[w2.heap.size + 1]? = some (.cells (wc m (.slice ra1 m.g.length rc1) (.slice (some ⟨w2.heap.size, 0, none⟩) m.g.length m.g.length)) 72) := by rw [← hz3]; exact heap_alloc_new _ _
  generalize w3.alloc (.cells (wc m (.slice ra1 m.g.length rc1) (.slice (some ⟨w2.heap.size, 0, none⟩) m.g.length m.g.length)) 72) = w4 at *
  have r34 : w4.heap[w2.heap.size]? = some (.cells (madeCells #[.slice none 0 0] m.g.length) 50) := (b4.block w2.heap.size (by omega)).trans r3
  refine ⟨⟨ra1, some ⟨w2.heap.size, 0, none⟩, rc1, ss, fun _ => none, ⟨r4, by omega, ?_, hm, hg⟩⟩, ((B2.trans (b3.mono (by omega))).trans (b4.mono (by omega))).drew⟩
  rcases hC with h | ⟨rb, h2, h3, h4, h5, h6⟩
  · exact Or.inl h
  · have er : w4.heap[rb]? = w1.heap[rb]? := ((b4.block rb (by omega)).trans (b3.block rb (by omega))).trans (e2 rb (by omega))
    refine Or.inr ⟨rb, w2.heap.size, h2, rfl, ⟨by omega, by omega, by show rb < w4.heap.size; omega, by show w2.heap.size < w4.heap.size; omega, by omega, by omega, by omega, h5.of er, fun j => frz_of er j (h6 j), fun j => ?_, fun i hi => ?_, fun i hi _ => hs i hi, fun _ _ _ => rfl, fun i hi q c hq => (by cases hq), fun i hi q c hq => (by cases hq), fun i j q c c' _ _ hq => (by cases hq)⟩⟩
    · show w4.frozen? _ = false; simp [World.frozen?, r34]
    · show w4.cell? _ = _; simp [World.cell?, r34, made_get _ _ hi, ov]
theorem wp_build_is {P : Program} {o : Oper} {a : Act} {w : World} {K : Act → World → Prop} {Q : Exit → Act → World → Prop} (t : TypeId) (parts : Array (Nat × Operand)) (ho : o.op = .build t parts) (l : List (Nat × Value))
    (hp : (parts.map fun (i, x) => (i, a.eval x)).toList = l) (cells : Array Value) (hb : P.built t l = some cells) (h : K (a.put o.dst (.agg cells)) w) : o.wp P a w K Q :=
  wp_build t parts ho (by rw [hp, hb]; rfl) (by rw [hp, hb]; exact h)
theorem built_w {m : Mc} (h : m.r.length = 16) (vr : Value) (a : Option Addr) (n c : Nat) : Try.prog.built 72 [(0, .agg (ml m vr).toArray), (1, .slice a n c)] = some (wc m vr (.slice a n c)) := by
  obtain ⟨r, z, s, c, o, at_, g, st⟩ := m
  obtain ⟨r0, r1, r2, r3, r4, r5, r6, r7, r8, r9, r10, r11, r12, r13, r14, r15, rfl⟩ := sixteen h
  kernel_rfl
set_option maxHeartbeats 6400000 in
set_option maxRecDepth 100000 in
theorem open_any (m : Mc) (ra : Option Addr) (rc : Nat) (ss : Nat → ByteArray) (w : World) (hm : m.ok) (hg : 32 * m.g.length ≤ 140737488351232) (hR : RS w ra m.g ss) (hss : ∀ i (h : i < m.g.length), (ss i).data.toList = m.g[i].by_) :
    Calls Try.prog 23 #[.agg (mc m (.slice ra m.g.length rc))] w fun e w' => ∃ B, e = .returned (.pointer (some ⟨B, 0, none⟩)) ∧ WX w.heap.size B m w' ∧ Below w.heap.size w w' := by
  have CL := hide (fun U (k : Below w.heap.size w U) => clone_rs ra rc m.g ss U hg (hR.bel k))
  rw [mc_is]
  obtain ⟨i0, hi, hz0, hz1, hz2⟩ := info_parts Try.info50'
  have hgl : m.g.length ≤ 4398046511104 := by omega
  have MK : ∀ W, (Instr.makeSlice 70 (.int .i64 (m.g.length : Int)) (.int .i64 (m.g.length : Int))).run Try.prog W = .ok (.slice (some ⟨W.heap.size, 0, none⟩) m.g.length m.g.length) (W.alloc (.cells (madeCells #[.slice none 0 0] m.g.length) 50)) := fun W => by
    have := run_make (P := Try.prog) W 70 50 i0 _ Try.underlying70 hi hz0 .i64 .i64 (m.g.length : Int) (m.g.length : Int) (by omega) (by omega) (by rw [hz2]; omega) (by omega)
    rw [hz1, Int.toNat_natCast, Nat.mul_one] at this; exact this
  have HM := hide hm
  have HG := hide hgl
  have HS := hide hss
  have HR := hide hR
  have e21 := ml_21 hm.1 (.slice ra m.g.length rc)
  clear hm hg hR hss hgl hz0 hz1 hz2 hi
  have b0 := hide (bel_one w (.cells (ml m (.slice ra m.g.length rc)).toArray 27))
  go_enter Try.func23, Try.ntmps23
  go_wp2_with fail
  refine (CL.out _ b0.out).mono ?_
  rintro e w1 ⟨ra1, rc1, rfl, hb1, hC⟩
  clear e21
  have hlt : w.heap.size < (w.alloc (.cells (ml m (.slice ra m.g.length rc)).toArray 27)).heap.size := by simp
  have hrow : w1.heap[w.heap.size]? = some (.cells (ml m (.slice ra m.g.length rc)).toArray 27) := (hb1.block w.heap.size hlt).trans (heap_alloc_new _ _)
  have y21 : w1.cell? ⟨w.heap.size, 21, none⟩ = some (.slice ra m.g.length rc) := by simp [World.cell?, hrow, ml_21 HM.out.1]
  have f21 : w1.frozen? ⟨w.heap.size, 21, none⟩ = false := by simp [World.frozen?, hrow]
  have B1 := hide (bel_tr b0.out hb1)
  have HC := hide hC
  have w1s : w.heap.size + 1 ≤ w1.heap.size := by have := hb1.size; simpa using this
  clear CL b0 hb1 hC hlt
  obtain ⟨w2, hw2⟩ : ∃ w2, w2 = w1.setCell ⟨w.heap.size, 21, none⟩ (.slice ra1 m.g.length rc1) := ⟨_, rfl⟩
  have hrow2 : w2.heap[w.heap.size]? = some (.cells (ml m (.slice ra1 m.g.length rc1)).toArray 27) := by
    rw [hw2]; simp [World.setCell, Array.getElem?_modify, hrow, ml_set HM.out.1]
  have e2 : Hid (∀ b, b ≠ w.heap.size → w2.heap[b]? = w1.heap[b]?) := fun b hb => by rw [hw2]; exact Below.heap_setCell w1 ⟨w.heap.size, 21, none⟩ _ b hb
  have s2 : Hid (w2.heap.size = w1.heap.size) := by show _ = _; rw [hw2]; simp [World.setCell]
  have B2 : Hid (Below w.heap.size w w2) := by show Below _ _ _; rw [hw2]; exact bel_set B1.out (Nat.le_refl _) _ _
  have hrg : (w2.drew).rangeAt w.heap.size 0 (ml m (.slice ra1 m.g.length rc1)) := rng_row hrow2
  have x21 : w2.cell? ⟨w.heap.size, 21, none⟩ = some (.slice ra1 m.g.length rc1) := by simp [World.cell?, hrow2, ml_21 HM.out.1]
  have IL := i27l HM.out.1 (.slice ra1 m.g.length rc1)
  clear hrow hrow2 B1
  have w1s' := hide w1s
  clear w1s
  go_wp2_with fail
  rw [← hw2]
  clear hw2 y21 f21
  refine wp_region_held_drew (S := fun X => X.rangeAt w.heap.size 0 (ml m (.slice ra1 m.g.length rc1))) (by kernel_rfl) hrg (fun hHeld => ?_)
  refine' wpAnyH_take (i := 0) (oi := _) (v := _) rfl (by kernel_rfl) (by kernel_rfl) (by kernel_rfl) (fun _ _ _ h => h) (yieldsIf_load_mid (by rfl) 27 _ rfl w.heap.size 0 rfl _ _ (fun w h => h) Try.underlying27 rfl IL) hHeld ?_
  simp only [Act.put, List.setIfInBounds_toArray, List.set_cons_zero, List.set_cons_succ]
  clear hHeld
  have hsz2 : w.heap.size < w2.heap.size := by have := s2.out; have := w1s'.out; omega
  have hrg1 : ((w2.drew).alloc (.cells (madeCells #[.slice none 0 0] m.g.length) 50)).rangeAt w.heap.size 0 (ml m (.slice ra1 m.g.length rc1)) := rng_al hrg hsz2 _
  refine wpAnyH_ready (rs := [1]) (by kernel_rfl) (by simp) ?_
  refine AllReadyH.cons rfl (fun K hK => ?_) AllReadyH.nil
  go_simp
  refine hK.out _ _ hrg (fun hHeld => ?_)
  clear hK K
  clear hHeld
  refine wpAnyH_ready (rs := [2]) (by kernel_rfl) (by simp) ?_
  refine AllReadyH.cons rfl (fun K hK => ?_) AllReadyH.nil
  go_simp
  refine hK.out _ _ hrg (fun hHeld => ?_)
  clear hK K
  clear hHeld
  refine wpAnyH_ready (rs := [3]) (by kernel_rfl) (by simp) ?_
  refine AllReadyH.cons rfl (fun K hK => ?_) AllReadyH.nil
  go_simp
  refine hK.out _ _ hrg (fun hHeld => ?_)
  clear hK K
  clear hHeld
  refine wpAnyH_ready (rs := [4]) (by kernel_rfl) (by simp) ?_
  refine AllReadyH.cons rfl (fun K hK => ?_) AllReadyH.nil
  go_simp
  refine hK.out _ _ hrg1 (fun hHeld => ?_)
  clear hK K
  clear hHeld
  refine wpAnyH_ready (rs := [5]) (by kernel_rfl) (by simp) ?_
  refine AllReadyH.cons rfl (fun K hK => ?_) AllReadyH.nil
  rw [if_pos (by rfl)]
  refine wp_build_is 72 _ rfl [(0, .agg (ml m (.slice ra1 m.g.length rc1)).toArray), (1, .slice (some ⟨w2.heap.size, 0, none⟩) m.g.length m.g.length)] (by simp [Act.eval]) _ (built_w HM.out.1 _ _ _ _) ?_
  refine hK.out _ _ hrg1 (fun hHeld => ?_)
  clear hK K hHeld
  simp only [Act.put, List.setIfInBounds_toArray, List.set_cons_zero, List.set_cons_succ]
  refine wpAnyH_ready (rs := [6]) (by kernel_rfl) (by simp) ?_
  refine AllReadyH.cons rfl (fun K hK => ?_) AllReadyH.nil
  go_simp
  have hrg2 := rng_al hrg1 (show w.heap.size < (w2.drew.alloc (.cells (madeCells #[.slice none 0 0] m.g.length) 50)).heap.size by simp; have := s2.out; have := w1s'.out; show w.heap.size < w2.heap.size + 1; omega) (.cells (wc m (.slice ra1 m.g.length rc1) (.slice (some ⟨w2.heap.size, 0, none⟩) m.g.length m.g.length)) 72)
  refine hK.out _ _ hrg2 (fun hHeld => ?_)
  clear hK K hHeld
  refine wpAnyH_ready (rs := [7]) (by kernel_rfl) (by simp) ?_
  refine AllReadyH.cons rfl (fun K hK => ?_) AllReadyH.nil
  go_simp
  refine hK.out _ _ hrg2 (fun hHeld => ?_)
  clear hK K hHeld
  refine wpAnyH_done (by kernel_rfl) ?_ _
  have X := hide (open_mem HM.out HG.out HS.out HR.out HC.out (by have := w1s'.out; omega) (by simp) s2.out e2.out B2.out rc1)
  clear hrg hrg1 hrg2 x21 IL MK hsz2 HC B2 e2 s2 w1s' HM HG HS HR
  go_wp2_with fail
  go_ret
  exact ⟨_, rfl, X.out⟩
end Go.Proofs.Ytielpebokbolbaa
/-
  A machine by value, over memory; the program's Put.
-/
namespace Go.Proofs.Ytielpebokbolbaa
open Go.RowKit
open Xc (hide bel_one bel_tr bel_al bel_set Xi xv xc)
set_option linter.unusedSimpArgs false
set_option linter.unusedVariables false
/-- A machine as a value, its regions in memory. -/
def MV (m : Mc) (v : Value) (w : World) : Prop := ∃ ra rc ss, v = .agg (mc m (.slice ra m.g.length rc)) ∧ RS w ra m.g ss ∧ (∀ i (h : i < m.g.length), (ss i).data.toList = m.g[i].by_) ∧ m.ok ∧ 32 * m.g.length ≤ 140737488351232
theorem MV.bel {m : Mc} {v : Value} {w w' : World} (h : MV m v w) (k : Below w.heap.size w w') : MV m v w' := by
  obtain ⟨ra, rc, ss, e, hR, hs, ho, hl⟩ := h
  exact ⟨ra, rc, ss, e, hR.bel k, hs, ho, hl⟩
def zm : Array Value := #[.int .i64 0, .int .i64 0, .int .i64 0, .int .i64 0, .int .i64 0, .int .i64 0, .int .i64 0, .int .i64 0, .int .i64 0, .int .i64 0, .int .i64 0, .int .i64 0, .int .i64 0, .int .i64 0, .int .i64 0, .int .i64 0, .bool false, .bool false, .bool false, .bool false, .int .i64 0, .slice none 0 0, .int .i64 0]
theorem ml_one (m : Mc) (ra : Option Addr) (n rc : Nat) : (ml m (.slice ra n rc)).toArray.all (·.oneCell') = true := by
  refine all_oneCell_toArray fun v hv => ?_
  simp only [ml, List.mem_append, List.mem_map, List.mem_cons, List.not_mem_nil, or_false] at hv
  rcases hv with ⟨_, _, rfl⟩ | rfl | rfl | rfl | rfl | rfl | rfl | rfl <;> rfl
theorem results_ct {fn : Func} {p u : Tmp} (h : fn.results = #[.cell p 27, .tmp u]) (tmps : Array Value) (w : World) (g : Nat) (l : List Value) (hp : tmps.getD p undef = .pointer (some ⟨g, 0, none⟩)) (hb : w.heap[g]? = some (.cells l.toArray 27)) (hi : (Try.prog.info? 27).map (·.size) = some l.length) :
    (results fn tmps).run Try.prog w = .ok (.tuple #[.agg l.toArray, tmps.getD u undef]) w := by
  have hl := run_loadVar_row (P := Try.prog) w g 27 27 _ _ _ hb Try.underlying27 rfl (by rw [List.size_toArray]; exact hi)
  have hp' : tmps[p]?.getD undef = .pointer (some ⟨g, 0, none⟩) := by simpa using hp
  simp [results, h, hp', asAddr, hl]
theorem WX.k0 {base B : Nat} {m : Mc} {w : World} (h : WX base B m w) : WK (fun _ => False) base B m w := by
  obtain ⟨ra, oa, rc, ss, os, hJ⟩ := h
  exact ⟨ra, oa, rc, ss, os, hJ, fun _ h => h.elim, fun _ h => h.elim⟩
def noStr : Value → Bool
  | .string _ => false
  | _ => true
theorem zm_str (k : Nat) (s : ByteArray) : zm[k]? ≠ some (.string s) := fun h => by
  have : zm.all noStr = true := by simp [zm, noStr]
  rw [Array.all_eq_true] at this
  obtain ⟨hk, e⟩ := Array.getElem?_eq_some_iff.1 h
  have := this k hk
  rw [e] at this
  cases this
/-- Regions don't lie in a result's box. -/
theorem RS.row {w : World} {ra : Option Addr} {g : List Rg} {ss : Nat → ByteArray} {q : Nat} (h : RS w ra g ss) (hz : w.heap[q]? = some (.cells zm 27)) (cs : Array Value) : RS (w.setRow q cs) ra g ss := by
  rcases h with h | ⟨b, off, e, h⟩
  · exact Or.inl h
  · rcases Nat.eq_zero_or_pos g.length with h0 | h0
    · exact Or.inl (List.length_eq_zero_iff.1 h0)
    · refine Or.inr ⟨b, off, e, h.of (setRow_other w q b cs ?_)⟩
      intro hb
      subst hb
      have := (h 0 h0).2.1
      simp only [World.cell?, hz] at this
      exact zm_str _ _ this
theorem closedK {K : Nat → Prop} {base B : Nat} {m : Mc} {w : World} (h : WK K base B m w) : Calls Try.prog 25 #[.pointer (some ⟨B, 0, none⟩)] w fun e w' => (∀ b, K b → w'.heap[b]? = w.heap[b]?) ∧ ∃ ra rc ss, e = .returned (.agg (mc m (.slice ra m.g.length rc))) ∧ RS w' ra m.g ss ∧ (∀ i (h : i < m.g.length), (ss i).data.toList = m.g[i].by_) ∧ Below base w w' := by
  obtain ⟨ra, oa, rc, ss, os, hJ, ha, hk⟩ := h
  refine (closed_any hJ).mono ?_
  rintro e w' ⟨h1, h2⟩
  exact ⟨fun b hb => h1 b (hk b hb) (ha b hb).2.1, h2⟩
/-- The boxes that a function of a machine begins with: its argument, its result. -/
structure M2 (m : Mc) (vr : Value) (q : Nat) (w W : World) : Prop where
  b : Below w.heap.size w W
  r : W.heap[q]? = some (.cells (ml m vr).toArray 27)
  z : W.heap[q + 1]? = some (.cells zm 27)
  e : q = w.heap.size
  s : q + 1 < W.heap.size
theorem m2_made (m : Mc) (vr : Value) (w : World) : M2 m vr w.heap.size w ((w.alloc (.cells (ml m vr).toArray 27)).alloc (.cells zm 27)) := by
  have k1 := bel_one w (.cells (ml m vr).toArray 27)
  have r1 : (w.alloc (.cells (ml m vr).toArray 27)).heap[w.heap.size]? = _ := heap_alloc_new w (.cells (ml m vr).toArray 27)
  have s1 : (w.alloc (.cells (ml m vr).toArray 27)).heap.size = w.heap.size + 1 := by simp
  generalize w.alloc (.cells (ml m vr).toArray 27) = U at *
  have k2 := bel_one U (.cells zm 27)
  have z2 : (U.alloc (.cells zm 27)).heap[U.heap.size]? = _ := heap_alloc_new U (.cells zm 27)
  rw [s1] at z2
  exact ⟨bel_tr k1 k2, (k2.block _ (by omega)).trans r1, z2, rfl, by simp; omega⟩
section
variable {m : Mc} {v : Value} {w : World}
def PuEnds (m : Mc) (a n x : Int) (w : World) (e : Ending) (w' : World) : Prop := ∃ v', e = .returned (.tuple #[v', .bool (ptM m.g a n x).isSome]) ∧ MV { m with g := (ptM m.g a n x).getD m.g } v' w' ∧ Below w.heap.size w w'
set_option maxRecDepth 100000 in
set_option maxHeartbeats 6400000 in
theorem put_any (h : MV m v w) (a n x : Int) (ha : I64 a) : Calls Try.prog 12 #[v, .int .i64 a, .int .i64 n, .int .i64 x] w (PuEnds m a n x w) := by
  obtain ⟨ra, rc, ss, rfl, hR, hs, hok, hg⟩ := h
  have OP := hide (fun U (k : Below w.heap.size w U) => open_any m ra rc ss U hok hg (hR.bel k) hs)
  rw [mc_is] at OP
  rw [mc_is]
  have IL := hide (i27l hok.1 (.slice ra m.g.length rc))
  have M := hide (m2_made m (.slice ra m.g.length rc) w)
  have HA := hide ha
  have HL := hide hg
  have RG := hide (rng_row M.out.r)
  unfold zm at M RG
  clear hR hs hok hg ha
  go_enter Try.func12, Try.ntmps12
  go_wp2_with (refine wpList_load_mid rfl 27 _ rfl w.heap.size 0 rfl _ _ RG.out Try.underlying27 rfl IL.out ?_)
  refine gw (motive := fun x => Calls _ _ _ x _) (fun W => Hid (M2 m (.slice ra m.g.length rc) w.heap.size w W)) M.out ?_
  rintro W MW
  clear M RG
  refine (OP.out _ MW.out.b).mono ?_
  rintro e w1 ⟨B, rfl, hx, hb⟩
  have W1 := hide hx.k0
  have B1 := hide hb
  clear OP hx hb
  go_wp2_with fail
  refine (putK W1.out a n x HA.out).mono ?_
  rintro e w2 ⟨rfl, g2⟩
  have G2 := hide g2
  clear g2
  go_wp2_with fail
  refine (closedK G2.out.wk).mono ?_
  rintro e w3 ⟨_, ra', rc', ss', rfl, hR', hs', hb3⟩
  generalize hm' : ({ m with g := (ptM m.g a n x).getD m.g } : Mc) = m' at *
  have hz : w3.heap[w.heap.size + 1]? = some (.cells zm 27) := by
    have h1 := MW.out.s
    rw [hb3.block _ h1, G2.out.bel.block _ h1, B1.out.block _ h1]; exact MW.out.z
  have OK' := hide G2.out.wk.ok
  have HZ := hide hz
  have BB := hide (show Below w.heap.size w w3 from MW.out.b.trans (((B1.out.trans G2.out.bel).trans hb3).mono MW.out.b.size))
  have HR' := hide hR'
  have HS' := hide hs'
  have IL' := hide (i27l G2.out.wk.ok.1 (.slice ra' m'.g.length rc'))
  have HL' := hide (ml_len G2.out.wk.ok.1 (.slice ra' m'.g.length rc'))
  rw [mc_is]
  have HM' : Hid (32 * m'.g.length ≤ 140737488351232) := by show _ ≤ _; rw [← hm']; simp only [ptM_len]; exact HL.out
  have HE := hide hm'
  clear hR' hs' hb3 hz hm' W1 B1 G2 MW IL HA HL
  have HZS : Hid (zm.size = (ml m' (.slice ra' m'.g.length rc')).toArray.size) := (show zm.size = 23 from rfl).trans (by rw [List.size_toArray, HL'.out])
  have IL2 : Hid ((Try.prog.info? 27).map (·.size) = some (ml m' (.slice ra' m'.g.length rc')).toArray.size) := by show _ = _; rw [List.size_toArray]; exact IL'.out
  have HON := hide (ml_one m' ra' m'.g.length rc')
  go_wp2_with (refine wpList_store_row rfl 27 _ _ rfl (w.heap.size + 1) _ rfl rfl 27 zm HZ.out IL2.out HZS.out HON.out ?_)
  refine bodyPost_ret (results_ct rfl _ _ (w.heap.size + 1) _ rfl (setRow_heap _ _ _ _ _ (0, 0) HZ.out) IL'.out) rfl ?_
  refine ⟨_, rfl, ?_, below_setRow BB.out (by omega) _⟩
  rw [HE.out]
  exact ⟨ra', rc', ss', rfl, HR'.out.row HZ.out _, HS'.out, OK'.out, HM'.out⟩
end
end Go.Proofs.Ytielpebokbolbaa
/-
  The program's Run: steps one behind the other, and their leaks in a row.
-/
namespace Go.Proofs.Ytielpebokbolbaa
open Go.RowKit
open Xc (hide bel_one bel_tr bel_al bel_set Xi xv xc)
set_option linter.unusedSimpArgs false
set_option linter.unusedVariables false
/-- So many steps, whatever the status. -/
def rn : Nat → Mc → Mc × List Lk
  | 0, m => (m, [])
  | k + 1, m => ((stp (rn k m).1).1, (rn k m).2 ++ [(stp (rn k m).1).2])
theorem rn_len : ∀ (k : Nat) (m : Mc), (rn k m).2.length = k
  | 0, _ => rfl
  | k + 1, m => by simp [rn, rn_len k m]
theorem rn_shift : ∀ (k : Nat) (m : Mc), rn (k + 1) m = ((rn k (stp m).1).1, (stp m).2 :: (rn k (stp m).1).2)
  | 0, _ => rfl
  | k + 1, m => by
    have h := rn_shift k m
    show ((stp (rn (k + 1) m).1).1, (rn (k + 1) m).2 ++ [(stp (rn (k + 1) m).1).2]) = _
    rw [h]
    rfl
theorem run_rn : ∀ (n k : Nat) (m : Mc), k ≤ n → (∀ j, j < k → (rn j m).1.st = 0) → ((rn k m).1.st ≠ 0 ∨ k = n) → runM n m = rn k m
  | 0, k, m, hk, _, _ => by
    have : k = 0 := by omega
    subst this; rfl
  | n + 1, 0, m, hk, hj, he => by
    have h : ¬ m.st = 0 := by
      rcases he with h | h
      · exact h
      · omega
    simp [runM, h, rn]
  | n + 1, k + 1, m, hk, hj, he => by
    have h0 : m.st = 0 := hj 0 (by omega)
    have ih := run_rn n k (stp m).1 (by omega) (fun j hj' => by
      have := hj (j + 1) (by omega)
      rw [rn_shift] at this; exact this) (by
      rcases he with h | h
      · rw [rn_shift] at h; exact Or.inl h
      · exact Or.inr (by omega))
    rw [rn_shift]
    simp only [runM, h0, if_true, ih]
/-- The leaks' cells. -/
def lkl (L : List Lk) : List Value := L.flatMap fun l => [.int .i64 l.at_, .int .i64 l.ad, .int .i64 l.nm, .int .i64 l.dn]
theorem lkl_len (L : List Lk) : (lkl L).length = L.length * 4 := by
  induction L with
  | nil => rfl
  | cons l L ih => simp only [lkl, List.flatMap_cons, List.length_append, List.length_cons] at *; simp only [List.length_nil]; omega
theorem lkl_snoc (L : List Lk) (l : Lk) : lkl (L ++ [l]) = lkl L ++ [.int .i64 l.at_, .int .i64 l.ad, .int .i64 l.nm, .int .i64 l.dn] := by simp [lkl]
/-- A slice of leaks. -/
def LV (b0 : Nat) (L : List Lk) (v : Value) (w : World) : Prop := w.ownsRow b0 52 4 v L.length (lkl L)
theorem LV.of {b0 : Nat} {L : List Lk} {v : Value} {w w' : World} (h : LV b0 L v w) (k : ∀ b, v.ownBlock = some b → w'.heap[b]? = w.heap[b]?) : LV b0 L v w' := by
  refine ⟨h.1, ?_⟩
  rcases h.2 with h | ⟨g, cap, cur, e, h1, h2, h3⟩
  · exact Or.inl h
  · exact Or.inr ⟨g, cap, cur, e, h1, by rw [k g (by rw [e]; rfl)]; exact h2, h3⟩
theorem LV.lt {b0 : Nat} {L : List Lk} {v : Value} {w : World} (h : LV b0 L v w) {b : Nat} (hb : v.ownBlock = some b) : b < w.heap.size := by
  rcases h.2 with ⟨e, _⟩ | ⟨g, cap, cur, e, h1, h2, h3⟩
  · rw [e] at hb; cases hb
  · rw [e] at hb
    injection hb with hb
    have : g = b := hb
    subst this
    rcases Nat.lt_or_ge g w.heap.size with h' | h'
    · exact h'
    · rw [Array.getElem?_eq_none h'] at h2; cases h2
theorem LV.ge {b0 : Nat} {L : List Lk} {v : Value} {w : World} (h : LV b0 L v w) {b : Nat} (hb : v.ownBlock = some b) : b0 ≤ b := by
  rcases h.2 with ⟨e, _⟩ | ⟨g, cap, cur, e, h1, h2, h3⟩
  · rw [e] at hb; cases hb
  · rw [e] at hb
    injection hb with hb
    have : g = b := hb
    subst this; exact h1
theorem LV.mono {b0 b1 : Nat} {L : List Lk} {v : Value} {w : World} (h : LV b0 L v w) (hb : b1 ≤ b0) : LV b1 L v w := by
  refine ⟨h.1, ?_⟩
  rcases h.2 with h | ⟨g, cap, cur, e, h1, h2⟩
  · exact Or.inl h
  · exact Or.inr ⟨g, cap, cur, e, Nat.le_trans hb h1, h2⟩
theorem LV.bel {b0 : Nat} {L : List Lk} {v : Value} {w w' : World} (h : LV b0 L v w) (k : Below w.heap.size w w') : LV b0 L v w' := h.of fun b hb => k.block b (h.lt hb)
theorem LV.row {b0 : Nat} {L : List Lk} {v : Value} {w : World} (h : LV b0 L v w) (hn : 0 < L.length) {b : Nat} (hb : v.ownBlock = some b) : ∃ cur x y, w.heap[b]? = some (.cells cur 52 (0, 0)) ∧ cur[0]? = some (.int .i64 x) ∧ cur[1]? = some (.int .i64 y) := by
  rcases h.2 with ⟨e, _⟩ | ⟨g, cap, cur, e, h1, h2, h3, h4, h5, h6⟩
  · rw [e] at hb; cases hb
  · rw [e] at hb
    injection hb with hb
    have : g = b := hb
    subst this
    obtain ⟨l, L', rfl⟩ : ∃ l L', L = l :: L' := by
      cases L with
      | nil => cases hn
      | cons l L' => exact ⟨l, L', rfl⟩
    refine ⟨cur, l.at_, l.ad, h2, ?_, ?_⟩
    · have := congrArg (·[0]?) h6
      simp only [List.getElem?_take, lkl, List.flatMap_cons, List.length_cons] at this
      rw [if_pos (by omega)] at this
      simpa using this
    · have := congrArg (·[1]?) h6
      simp only [List.getElem?_take, lkl, List.flatMap_cons, List.length_cons] at this
      rw [if_pos (by omega)] at this
      simpa using this
section
variable {K K' : Nat → Prop} {base B : Nat} {m : Mc} {w w' : World}
/-- K's blocks have changed, and there are new ones, which hold leaks. -/
theorem WK.grow (h : WK K base B m w) (hs : w.heap.size ≤ w'.heap.size) (e : ∀ b, b < w.heap.size → ¬ K b → w'.heap[b]? = w.heap[b]?) (hk : ∀ b, K' b → ∃ cur x y, w'.heap[b]? = some (.cells cur 52 (0, 0)) ∧ cur[0]? = some (.int .i64 x) ∧ cur[1]? = some (.int .i64 y)) : WK K' base B m w' := by
  obtain ⟨ra, oa, rc, ss, os, hJ, ha, hb⟩ := h
  have eB : w'.heap[B]? = w.heap[B]? := e B hJ.row.lt fun h => (ha B h).1 rfl
  have row' : RowW B (wc m (.slice ra m.g.length rc) (.slice oa m.g.length m.g.length)) w' := by
    have := hJ.row
    unfold RowW at *; rw [eB]; exact this
  have mem' : Wm base B ra oa m.g ss os w' := by
    rcases hJ.mem with h0 | ⟨rb, ob, e1, e2, hN⟩
    · exact Or.inl h0
    · by_cases hn : 0 < m.g.length
      · exact Or.inr ⟨rb, ob, e1, e2, hN.of2 hs (e rb hN.l1 fun h => (ha rb h).2.1 hn _ e1 rfl) (e ob hN.l2 fun h => (ha ob h).2.2.1 hn _ e2 rfl) fun i q c hi ho => e q (hN.ow i hi q c ho).2.2.2.2.1.1 fun h => (ha q h).2.2.2 i q c hi ho rfl⟩
      · exact Or.inl (List.length_eq_zero_iff.1 (by omega))
  have lt' : ∀ b, K' b → b < w'.heap.size := fun b hb' => by
    obtain ⟨cur, x, y, h1, _⟩ := hk b hb'
    rcases Nat.lt_or_ge b w'.heap.size with h' | h'
    · exact h'
    · rw [Array.getElem?_eq_none h'] at h1; cases h1
  refine ⟨ra, oa, rc, ss, os, ⟨row', hJ.le, mem', hJ.ok, hJ.sm⟩, fun b hb' => ?_, lt'⟩
  obtain ⟨cur, x, y, h1, h2, h3⟩ := hk b hb'
  have c0 : w'.cell? ⟨b, 0, none⟩ = some (.int .i64 x) := by simp [World.cell?, h1, h2]
  have c1 : w'.cell? ⟨b, 1, none⟩ = some (.int .i64 y) := by simp [World.cell?, h1, h3]
  refine ⟨fun hE => ?_, fun hn z hz hE => ?_, fun hn z hz hE => ?_, fun j q c hj hq hE => ?_⟩
  · subst hE
    rw [show w'.heap[b]? = _ from row'] at h1
    injection h1 with h1
    injection h1 with _ h1
    exact absurd h1 (by decide)
  · rcases mem' with h0 | ⟨rb, ob, e1, e2, hN⟩
    · rw [h0] at hn; cases hn
    · rw [e1] at hz; injection hz with hz; subst hz
      have hE' : rb = b := hE
      subst hE'
      have := (hN.rl 0 hn).2.1
      rw [show (0 + 0 * 3 + 1 : Nat) = 1 from rfl, c1] at this; cases this
  · rcases mem' with h0 | ⟨rb, ob, e1, e2, hN⟩
    · rw [h0] at hn; cases hn
    · rw [e2] at hz; injection hz with hz; subst hz
      have hE' : ob = b := hE
      subst hE'
      have := hN.oc 0 hn
      rw [c0] at this
      cases ho : os 0 with
      | none => rw [ho] at this; cases this
      | some p => rw [ho] at this; cases this
  · rcases mem' with h0 | ⟨rb, ob, e1, e2, hN⟩
    · rw [h0] at hj; cases hj
    · obtain ⟨_, _, _, _, a5, a6⟩ := hN.ow j hj q c hq
      subst hE
      have := (a5.2 0 a6).1
      rw [c0] at this
      injection this with this
      injection this with h1 _
      cases h1
end
end Go.Proofs.Ytielpebokbolbaa
/-
  The program's Run, walked.
-/
namespace Go.Proofs.Ytielpebokbolbaa
open Go.RowKit
open Xc (hide bel_one bel_tr bel_al bel_set Xi xv xc)
set_option linter.unusedSimpArgs false
set_option linter.unusedVariables false
theorem infoLk : (Try.prog.info? 52).map (fun i => (i.zero, i.size, i.bytes)) = some (some (.agg #[.int .i64 0, .int .i64 0, .int .i64 0, .int .i64 0]), 4, 32) := by kernel_rfl
def lenV : Value → Nat
  | .slice _ n _ => n
  | _ => 0
def RuEnds (m : Mc) (n : Nat) (w : World) (e : Ending) (w' : World) : Prop := ∃ v' v7, e = .returned (.tuple #[v', v7]) ∧ MV (runM n m).1 v' w' ∧ LV 0 (runM n m).2 v7 w' ∧ Below w.heap.size w w'
theorem LV.sl {b0 : Nat} {L : List Lk} {v : Value} {w : World} (h : LV b0 L v w) : ∃ a c, v = .slice a L.length c := by
  rcases h.2 with ⟨rfl, e⟩ | ⟨g, cap, cur, rfl, _⟩
  · rw [e]; exact ⟨_, _, rfl⟩
  · exact ⟨_, _, rfl⟩
theorem new_cells (w : World) (l : Lk) (t : TypeId) : ∀ j u, [Value.int .i64 l.at_, .int .i64 l.ad, .int .i64 l.nm, .int .i64 l.dn][j]? = some u → (w.alloc (.cells #[.int .i64 l.at_, .int .i64 l.ad, .int .i64 l.nm, .int .i64 l.dn] t)).cell? ((⟨w.heap.size, 0, none⟩ : Addr).add j) = some u := fun j u hj => by
  have e : (w.alloc (.cells #[.int .i64 l.at_, .int .i64 l.ad, .int .i64 l.nm, .int .i64 l.dn] t)).heap[w.heap.size]? = _ := heap_alloc_new w (.cells #[.int .i64 l.at_, .int .i64 l.ad, .int .i64 l.nm, .int .i64 l.dn] t)
  rw [add_at]
  simp only [World.cell?, Nat.zero_add, e]
  simpa using hj
theorem g_stp (m : Mc) : (stp m).1.g.length = m.g.length := by
  have acc_g : ∀ (m : Mc) (x : Xi) (a a0 : Int) (k : Int), ((acc m x a).getD ((m.sa a0).ss k)).g.length = m.g.length := fun m x a a0 k => by
    have pt : ∀ n v, ((ptM m.g a n v).map fun g => m.sg g) = none ∨ ∃ g, ((ptM m.g a n v).map fun g => m.sg g) = some (m.sg g) ∧ g.length = m.g.length := fun n v => by
      have := ptM_len (g := m.g) (a := a) (n := n) (v := v)
      cases h : ptM m.g a n v with
      | none => exact Or.inl rfl
      | some g => rw [h] at this; exact Or.inr ⟨g, rfl, this⟩
    unfold acc
    split
    · rcases pt (szX x) (m.rg x.r) with h | ⟨g, h, hg⟩
      · rw [h]; rfl
      · rw [h]; exact hg
    · split
      · have := ptM_len (g := m.g) (a := a) (n := 8) (v := m.at_)
        cases h : ptM m.g a 8 m.at_ with
        | none => rfl
        | some g => rw [h] at this; exact this
      · split
        · cases rdM m.g a 8 <;> rfl
        · cases rdM m.g a (szX x) <;> rfl
  unfold stp
  cases fet m with
  | none => rfl
  | some x =>
    show (doX _ x _).1.g.length = _
    unfold doX
    split
    · exact acc_g _ _ _ _ _
    · split
      · show (Option.getD (dvd _ x) _).g.length = _
        unfold dvd
        split
        · split <;> rfl
        · split <;> rfl
      · split
        · show (if _ then _ else _ : Mc).g.length = _
          split <;> rfl
        · split
          · rfl
          · split
            · rfl
            · split
              · rfl
              · show (rck _ x).g.length = _
                rw [rck_g]; rfl
theorem g_rn : ∀ (k : Nat) (m : Mc), (rn k m).1.g.length = m.g.length
  | 0, _ => rfl
  | k + 1, m => (g_stp _).trans (g_rn k m)
section
variable {m : Mc} {v : Value} {w : World}
set_option maxRecDepth 100000 in
set_option maxHeartbeats 6400000 in
theorem run_any (h : MV m v w) (most : Int) (hmost : most ≤ 1000000) : Calls Try.prog 15 #[v, .int .i64 most] w (RuEnds m most.toNat w) := by
  obtain ⟨ra, rc, ss, rfl, hR, hs, hok, hg⟩ := h
  have OP := hide (fun U (k : Below w.heap.size w U) => open_any m ra rc ss U hok hg (hR.bel k) hs)
  rw [mc_is] at OP
  rw [mc_is]
  have IL := hide (i27l hok.1 (.slice ra m.g.length rc))
  have M := hide (m2_made m (.slice ra m.g.length rc) w)
  have HL := hide hg
  have HMO := hide hmost
  have RG := hide (rng_row M.out.r)
  obtain ⟨i0, hi, hz0, hz1, hz2⟩ := info_parts infoLk
  unfold zm at M RG
  clear hR hs hok hg hmost
  go_enter Try.func15, Try.ntmps15
  go_wp2_with (refine wpList_load_mid rfl 27 _ rfl w.heap.size 0 rfl _ _ RG.out Try.underlying27 rfl IL.out ?_)
  refine gw (motive := fun x => Calls _ _ _ x _) (fun W => Hid (M2 m (.slice ra m.g.length rc) w.heap.size w W)) M.out ?_
  rintro W MW
  clear M RG
  refine (OP.out _ MW.out.b).mono ?_
  rintro e w1 ⟨B, rfl, hx, hb⟩
  have W1 := hide hx.k0
  have B1 := hide hb
  clear OP hx hb IL
  go_wp2_with fail
  go_loopw [7] (fun iv wr => ∃ k : Nat, (k ≤ most.toNat) ∧ Hid (∀ j, j < k → (rn j m).1.st = 0) ∧ Hid (WK (fun b => iv.ownBlock = some b) W.heap.size B (rn k m).1 wr) ∧ Hid (LV W.heap.size (rn k m).2 iv wr) ∧ Hid (Below W.heap.size w1 wr)) (fun iv _ => most.toNat - lenV iv)
  case atStart => exact ⟨0, Nat.zero_le _, fun j hj => absurd hj (Nat.not_lt_zero _), W1.out.mono (fun b hb => by cases hb), ⟨rfl, Or.inl ⟨rfl, rfl⟩⟩, Below.refl _ _⟩
  case round =>
    obtain ⟨k, hk, HJ, HW, HLV, HB⟩ := hrel
    obtain ⟨a7, c7, hv7⟩ := HLV.out.sl
    rw [rn_len] at hv7
    subst hv7
    have c22 := HW.out.ct
    by_cases hst : (rn k m).1.st = 0
    · by_cases hlt : (k : Int) < most
      · have HSK := hide hst
        rw [hst] at c22
        clear hst
        go_wp2_with fail
        refine (step_any HW.out).mono ?_
        rintro e w2 ⟨rfl, g2⟩
        have G2 := hide g2
        have L2 := hide (HLV.out.of fun b hb => g2.kk b hb)
        clear g2 c22
        unfold lkv lkc
        generalize hl : (stp (rn k m).1).2 = l at *
        have HBS : Hid (W.heap.size ≤ (w2.alloc (.cells #[.int .i64 l.at_, .int .i64 l.ad, .int .i64 l.nm, .int .i64 l.dn] 52)).heap.size) := (G2.out.to (bel_one w2 _)).wk.bs
        have OWN : Hid (((w2.alloc (.cells #[.int .i64 l.at_, .int .i64 l.ad, .int .i64 l.nm, .int .i64 l.dn] 52))).ownsRow W.heap.size 52 4 (.slice a7 k c7) k (lkl (rn k m).2)) := by
          have := L2.out.bel (bel_one w2 (.cells #[.int .i64 l.at_, .int .i64 l.ad, .int .i64 l.nm, .int .i64 l.dn] 52))
          unfold LV at this
          rw [rn_len] at this; exact this
        go_wp2_with (at_builtin; (refine wpList_append_own _ rfl (.tmp 22) (.tmp 25) 35 rfl W.heap.size 52 i0 _ 4 32 Try.underlying35 hi hz0 hz1 hz2 rfl (by decide) _ k _ rfl OWN.out ⟨w2.heap.size, 0, none⟩ 1 1 [.int .i64 l.at_, .int .i64 l.ad, .int .i64 l.nm, .int .i64 l.dn] rfl rfl (new_cells w2 l 52) (by simp [Value.oneCell']) (by have := HMO.out; unfold maxLen; omega) (by have := HMO.out; omega) HBS.out ?_))
        intro v' w3 hown hgrow _
        have hL : (rn (k + 1) m).2 = (rn k m).2 ++ [l] := by rw [← hl]; rfl
        have L3 : LV W.heap.size (rn (k + 1) m).2 v' w3 := by
          unfold LV
          rw [hL, lkl_snoc, List.length_append, rn_len]; exact hown
        have GA := G2.out.to (bel_one w2 (.cells #[.int .i64 l.at_, .int .i64 l.ad, .int .i64 l.nm, .int .i64 l.dn] 52))
        have W3 : Hid (WK (fun b => v'.ownBlock = some b) W.heap.size B (rn (k + 1) m).1 w3) := GA.wk.grow hgrow.size (fun b hb hnk => hgrow.block b hb fun e => hnk e.symm) (fun b hb => L3.row (by rw [rn_len]; omega) hb)
        have hsz : W.heap.size ≤ (w2.alloc (.cells #[.int .i64 l.at_, .int .i64 l.ad, .int .i64 l.nm, .int .i64 l.dn] 52)).heap.size := GA.wk.bs
        have B3 : Hid (Below W.heap.size w1 w3) := (HB.out.trans GA.bel).trans ⟨hgrow.os, hgrow.tape, hgrow.output, hgrow.size, fun b hb => hgrow.block b (by omega) fun e => by have := HLV.out.ge e.symm; omega⟩
        have J3 : Hid (∀ j, j < k + 1 → (rn j m).1.st = 0) := fun j hj => by
          rcases Nat.lt_succ_iff_lt_or_eq.1 hj with h | h
          · exact HJ.out j h
          · subst h; exact HSK.out
        have HL3 := hide L3
        obtain ⟨a8, c8, hv8⟩ := L3.sl
        rw [rn_len] at hv8
        subst hv8
        clear hown hgrow hL L3 GA OWN G2 L2 hsz
        go_wp2_with fail
        go_roundw
        case rel => exact ⟨k + 1, by omega, J3, W3, HL3, B3⟩
        case measure => simp only [lenV]; omega
      · have hlt' : ¬ ((k : Int) < most) := hlt
        go_wp2_with fail
        refine (closedK HW.out).mono ?_
        rintro e w3 ⟨hkk, ra', rc', ss', rfl, hR', hs', hb3⟩
        have HRUN := hide (run_rn most.toNat k m hk HJ.out (Or.inr (by omega)))
        have hz : w3.heap[w.heap.size + 1]? = some (.cells zm 27) := by
          have h1 := MW.out.s
          rw [hb3.block _ h1, HB.out.block _ h1, B1.out.block _ h1]; exact MW.out.z
        have OK' := hide HW.out.ok
        have HZ := hide hz
        have BB := hide (show Below w.heap.size w w3 from MW.out.b.trans (((B1.out.trans HB.out).trans hb3).mono MW.out.b.size))
        have L3 := hide (HLV.out.of hkk)
        have HR' := hide hR'
        have HS' := hide hs'
        have HM' : Hid (32 * (rn k m).1.g.length ≤ 140737488351232) := by show _ ≤ _; rw [g_rn]; exact HL.out
        have HSS := hide MW.out.s
        generalize hm' : (rn k m).1 = m' at *
        have HE' := hide hm'
        clear hm'
        have IL' := hide (i27l OK'.out.1 (.slice ra' m'.g.length rc'))
        have HL' := hide (ml_len OK'.out.1 (.slice ra' m'.g.length rc'))
        rw [mc_is]
        have HZS : Hid (zm.size = (ml m' (.slice ra' m'.g.length rc')).toArray.size) := (show zm.size = 23 from rfl).trans (by rw [List.size_toArray, HL'.out])
        have IL2 : Hid ((Try.prog.info? 27).map (·.size) = some (ml m' (.slice ra' m'.g.length rc')).toArray.size) := by show _ = _; rw [List.size_toArray]; exact IL'.out
        have HON := hide (ml_one m' ra' m'.g.length rc')
        clear hR' hs' hb3 hz hkk W1 B1 MW HL HW HB HLV c22
        go_wp2_with (refine wpList_store_row rfl 27 _ _ rfl (w.heap.size + 1) _ rfl rfl 27 zm HZ.out IL2.out HZS.out HON.out ?_)
        refine bodyPost_ret (results_ct rfl _ _ (w.heap.size + 1) _ rfl (setRow_heap _ _ _ _ _ (0, 0) HZ.out) IL'.out) rfl ?_
        refine ⟨_, _, rfl, ?_, ?_, below_setRow BB.out (by omega) _⟩
        · rw [HRUN.out, HE'.out]
          exact ⟨ra', rc', ss', rfl, HR'.out.row HZ.out _, HS'.out, OK'.out, HM'.out⟩
        · rw [HRUN.out]
          refine (L3.out.of fun b hb => setRow_other w3 (w.heap.size + 1) b _ ?_).mono (Nat.zero_le _)
          have := L3.out.ge hb
          have := HSS.out
          omega
    · have hst' : ((rn k m).1.st == 0) = false := by simpa using hst
      go_wp2_with fail
      refine (closedK HW.out).mono ?_
      rintro e w3 ⟨hkk, ra', rc', ss', rfl, hR', hs', hb3⟩
      have HRUN := hide (run_rn most.toNat k m hk HJ.out (Or.inl hst))
      have hz : w3.heap[w.heap.size + 1]? = some (.cells zm 27) := by
        have h1 := MW.out.s
        rw [hb3.block _ h1, HB.out.block _ h1, B1.out.block _ h1]; exact MW.out.z
      have OK' := hide HW.out.ok
      have HZ := hide hz
      have BB := hide (show Below w.heap.size w w3 from MW.out.b.trans (((B1.out.trans HB.out).trans hb3).mono MW.out.b.size))
      have L3 := hide (HLV.out.of hkk)
      have HR' := hide hR'
      have HS' := hide hs'
      have HM' : Hid (32 * (rn k m).1.g.length ≤ 140737488351232) := by show _ ≤ _; rw [g_rn]; exact HL.out
      have HSS := hide MW.out.s
      generalize hm' : (rn k m).1 = m' at *
      have HE' := hide hm'
      clear hm'
      have IL' := hide (i27l OK'.out.1 (.slice ra' m'.g.length rc'))
      have HL' := hide (ml_len OK'.out.1 (.slice ra' m'.g.length rc'))
      rw [mc_is]
      have HZS : Hid (zm.size = (ml m' (.slice ra' m'.g.length rc')).toArray.size) := (show zm.size = 23 from rfl).trans (by rw [List.size_toArray, HL'.out])
      have IL2 : Hid ((Try.prog.info? 27).map (·.size) = some (ml m' (.slice ra' m'.g.length rc')).toArray.size) := by show _ = _; rw [List.size_toArray]; exact IL'.out
      have HON := hide (ml_one m' ra' m'.g.length rc')
      clear hR' hs' hb3 hz hkk W1 B1 MW HL HW HB HLV c22
      go_wp2_with (refine wpList_store_row rfl 27 _ _ rfl (w.heap.size + 1) _ rfl rfl 27 zm HZ.out IL2.out HZS.out HON.out ?_)
      refine bodyPost_ret (results_ct rfl _ _ (w.heap.size + 1) _ rfl (setRow_heap _ _ _ _ _ (0, 0) HZ.out) IL'.out) rfl ?_
      refine ⟨_, _, rfl, ?_, ?_, below_setRow BB.out (by omega) _⟩
      · rw [HRUN.out, HE'.out]
        exact ⟨ra', rc', ss', rfl, HR'.out.row HZ.out _, HS'.out, OK'.out, HM'.out⟩
      · rw [HRUN.out]
        refine (L3.out.of fun b hb => setRow_other w3 (w.heap.size + 1) b _ ?_).mono (Nat.zero_le _)
        have := L3.out.ge hb
        have := HSS.out
        omega
end
end Go.Proofs.Ytielpebokbolbaa
/-
  The document's Same and Leaks, of two machines, or two lists of leaks, that are the same.
-/
namespace Go.Proofs.Ytielpebokbolbaa
open Go.RowKit
open Xc (hide bel_one bel_tr bel_al bel_set Xi xv xc)
set_option linter.unusedSimpArgs false
set_option linter.unusedVariables false
theorem eqi (x y : Int) (w : World) : (Op.equalIn 9999 3 (.int .i64 x) (.int .i64 y)).run Try.prog w = .ok (x == y) w := run_equalIn_int w 9998 3 .i64 .i64 x y Try.underlying3
theorem eqb (x y : Bool) (w : World) : (Op.equalIn 9999 4 (.bool x) (.bool y)).run Try.prog w = .ok (x == y) w := run_equalIn_bool w 9998 4 x y Try.underlying4
theorem part_i (l : List Int) (i : Nat) (h : i < l.length) (w : World) : (part 3 (l.map (Value.int .i64)).toArray (i * 1)).run Try.prog w = .ok (.int .i64 (l.getD i 0)) w := by
  simp [part, isAgg, run_underlying Try.underlying3, List.getD, List.getElem?_eq_getElem h]
theorem items_same (l : List Int) (w : World) : ∀ is : List Nat, (∀ i ∈ is, i < l.length) → (Op.eqItems 9999 3 1 (l.map (Value.int .i64)).toArray (l.map (Value.int .i64)).toArray is).run Try.prog w = .ok true w
  | [], _ => by simp [Op.eqItems]
  | i :: is, h => by
    have hi := h i (by simp)
    simp only [Op.eqItems, Sem.run_bind, part_i l i hi, Result.andThen_ok, eqi, beq_self_eq_true, Bool.not_true, Bool.false_eq_true, if_false]
    exact items_same l w is fun j hj => h j (by simp [hj])
theorem cells3 : Try.prog.cellsOf 3 = 1 := by kernel_rfl
theorem info3 : ∃ i, Try.prog.info? 3 = some i := by
  cases h : Try.prog.info? 3 with
  | none => have : (Try.prog.info? 3).isSome = true := by kernel_rfl
            rw [h] at this; cases this
  | some i => exact ⟨i, rfl⟩
theorem eq_regs (l : List Int) (h : l.length = 16) (w : World) : (Op.equalIn 10000 22 (.agg (l.map (Value.int .i64)).toArray) (.agg (l.map (Value.int .i64)).toArray)).run Try.prog w = .ok true w := by
  obtain ⟨i, hi⟩ := info3
  rw [show (10000 : Nat) = 9999 + 1 from rfl, run_equalIn_array w 9999 _ _ Try.underlying22 hi, cells3]
  exact items_same l w _ fun j hj => by rw [h]; exact List.mem_range.1 hj
theorem p4_0 (x y z u : Value) (w : World) : (part 3 #[x, y, z, u] 0).run Try.prog w = .ok x w := by kernel_rfl
theorem p4_1 (x y z u : Value) (w : World) : (part 3 #[x, y, z, u] 1).run Try.prog w = .ok y w := by kernel_rfl
theorem p4_2 (x y z u : Value) (w : World) : (part 3 #[x, y, z, u] 2).run Try.prog w = .ok z w := by kernel_rfl
theorem p4_3 (x y z u : Value) (w : World) : (part 3 #[x, y, z, u] 3).run Try.prog w = .ok u w := by kernel_rfl
theorem b4_0 (x y z u : Value) (w : World) : (part 4 #[x, y, z, u] 0).run Try.prog w = .ok x w := by kernel_rfl
theorem b4_1 (x y z u : Value) (w : World) : (part 4 #[x, y, z, u] 1).run Try.prog w = .ok y w := by kernel_rfl
theorem b4_2 (x y z u : Value) (w : World) : (part 4 #[x, y, z, u] 2).run Try.prog w = .ok z w := by kernel_rfl
theorem b4_3 (x y z u : Value) (w : World) : (part 4 #[x, y, z, u] 3).run Try.prog w = .ok u w := by kernel_rfl
theorem r3_0 (x y z : Value) (w : World) : (part 3 #[x, y, z] 0).run Try.prog w = .ok x w := by kernel_rfl
theorem r3_1 (x y z : Value) (w : World) : (part 9 #[x, y, z] 1).run Try.prog w = .ok y w := by kernel_rfl
theorem r3_2 (x y z : Value) (w : World) : (part 4 #[x, y, z] 2).run Try.prog w = .ok z w := by kernel_rfl
theorem eqs (s : ByteArray) (w : World) : (Op.equalIn 9999 9 (.string s) (.string s)).run Try.prog w = .ok true w := by
  have := run_equalIn_string (P := Try.prog) w 9998 9 s s Try.underlying9
  simpa using this
theorem eq_lk (a b c d a' b' c' d' : Int) (w : World) : (Op.equalIn 10000 52 (.agg #[.int .i64 a, .int .i64 b, .int .i64 c, .int .i64 d]) (.agg #[.int .i64 a', .int .i64 b', .int .i64 c', .int .i64 d'])).run Try.prog w = .ok (a == a' && (b == b' && (c == c' && d == d'))) w := by
  rw [show (10000 : Nat) = 9999 + 1 from rfl, run_equalIn_struct w 9999 52 _ _ (by rw [Try.underlying52]; kernel_rfl) (by kernel_rfl)]
  simp [Program.fieldsOf, Try.underlying52, Op.eqFields, Sem.run_bind, p4_0, p4_1, p4_2, p4_3, eqi]
  cases h1 : (a == a') <;> cases h2 : (b == b') <;> cases h3 : (c == c') <;> cases h4 : (d == d') <;> simp_all
theorem eq_fl (z s c o : Bool) (w : World) : (Op.equalIn 10000 24 (.agg #[.bool z, .bool s, .bool c, .bool o]) (.agg #[.bool z, .bool s, .bool c, .bool o])).run Try.prog w = .ok true w := by
  rw [show (10000 : Nat) = 9999 + 1 from rfl, run_equalIn_struct w 9999 24 _ _ (by rw [Try.underlying24]; kernel_rfl) (by kernel_rfl)]
  simp [Program.fieldsOf, Try.underlying24, Op.eqFields, Sem.run_bind, b4_0, b4_1, b4_2, b4_3, eqb]
theorem eq_rg (a : Int) (s : ByteArray) (c : Bool) (w : World) : (Op.equalIn 10000 39 (.agg #[.int .i64 a, .string s, .bool c]) (.agg #[.int .i64 a, .string s, .bool c])).run Try.prog w = .ok true w := by
  rw [show (10000 : Nat) = 9999 + 1 from rfl, run_equalIn_struct w 9999 39 _ _ (by rw [Try.underlying39]; kernel_rfl) (by kernel_rfl)]
  simp [Program.fieldsOf, Try.underlying39, Op.eqFields, Sem.run_bind, r3_0, r3_1, r3_2, eqi, eqb, eqs]
end Go.Proofs.Ytielpebokbolbaa
/-
  The document's Same and Leaks, walked.
-/
namespace Go.Proofs.Ytielpebokbolbaa
open Go.RowKit
open Xc (hide bel_one bel_tr bel_al bel_set Xi xv xc)
set_option linter.unusedSimpArgs false
set_option linter.unusedVariables false
/-- Two machines in boxes. -/
structure T2 (m : Mc) (va vb : Value) (q : Nat) (w W : World) : Prop where
  b : Below w.heap.size w W
  ra : W.heap[q]? = some (.cells (ml m va).toArray 27)
  rb : W.heap[q + 1]? = some (.cells (ml m vb).toArray 27)
theorem t2_made (m : Mc) (va vb : Value) (w : World) : T2 m va vb w.heap.size w ((w.alloc (.cells (ml m va).toArray 27)).alloc (.cells (ml m vb).toArray 27)) := by
  have k1 := bel_one w (.cells (ml m va).toArray 27)
  have r1 : (w.alloc (.cells (ml m va).toArray 27)).heap[w.heap.size]? = _ := heap_alloc_new w (.cells (ml m va).toArray 27)
  have s1 : (w.alloc (.cells (ml m va).toArray 27)).heap.size = w.heap.size + 1 := by simp
  generalize w.alloc (.cells (ml m va).toArray 27) = U at *
  have k2 := bel_one U (.cells (ml m vb).toArray 27)
  have z2 : (U.alloc (.cells (ml m vb).toArray 27)).heap[U.heap.size]? = _ := heap_alloc_new U (.cells (ml m vb).toArray 27)
  rw [s1] at z2
  exact ⟨bel_tr k1 k2, (k2.block _ (by omega)).trans r1, z2⟩
section
variable {m : Mc} {w : World} {q : Nat} {v : Value}
theorem ml_x (h : m.r.length = 16) (v : Value) (k : Nat) : (ml m v)[16 + k]? = [.bool m.z, .bool m.s, .bool m.c, .bool m.o, .int .i64 m.at_, v, .int .i64 m.st][k]? := by
  unfold ml
  rw [List.getElem?_append_right (by simp; omega)]
  simp [h]
theorem ml_c (h : m.r.length = 16) (hr : w.heap[q]? = some (.cells (ml m v).toArray 27)) : w.cell? ⟨q, 16, none⟩ = some (.bool m.z) ∧ w.cell? ⟨q, 17, none⟩ = some (.bool m.s) ∧ w.cell? ⟨q, 18, none⟩ = some (.bool m.c) ∧ w.cell? ⟨q, 19, none⟩ = some (.bool m.o) ∧ w.cell? ⟨q, 20, none⟩ = some (.int .i64 m.at_) ∧ w.cell? ⟨q, 21, none⟩ = some v ∧ w.cell? ⟨q, 22, none⟩ = some (.int .i64 m.st) := by
  have e := fun k => ml_x h v k
  simp only [World.cell?, hr, List.getElem?_toArray]
  exact ⟨e 0, e 1, e 2, e 3, e 4, e 5, e 6⟩
theorem ml_r (hr : w.heap[q]? = some (.cells (ml m v).toArray 27)) : w.rangeAt q 0 (m.r.map (Value.int .i64)) := fun j u hj => by
  refine rng_row hr j u ?_
  unfold ml
  rw [List.getElem?_append_left (List.getElem?_eq_some_iff.1 hj).1]; exact hj
theorem i22 (h : m.r.length = 16) : (Try.prog.info? 22).map (·.size) = some (m.r.map (Value.int .i64)).length := by
  rw [List.length_map, h]; kernel_rfl
theorem str_eq {s t : ByteArray} {l : List UInt8} (h1 : s.data.toList = l) (h2 : t.data.toList = l) : s = t := by
  cases s; cases t; simp only at h1 h2; congr 1; exact Array.toList_inj.1 (h1.trans h2.symm)
set_option maxRecDepth 100000 in
set_option maxHeartbeats 6400000 in
theorem same_yes {va vb : Value} (ha : MV m va w) (hb : MV m vb w) : Calls Try.prog 26 #[va, vb] w fun e w' => e = .returned (.bool true) ∧ Below w.heap.size w w' := by
  obtain ⟨ra, rc, ss, rfl, hR, hs, hok, hl⟩ := ha
  obtain ⟨rb, rd, tt, rfl, hT, ht, _, _⟩ := hb
  rw [mc_is, mc_is]
  have T := hide (t2_made m (.slice ra m.g.length rc) (.slice rb m.g.length rd) w)
  have E16 := eq_regs m.r hok.1
  have EF := eq_fl m.z m.s m.c m.o
  have I22 := hide (i22 hok.1)
  have HOK := hide hok
  have HS := hide hs
  have HT' := hide ht
  have HR := hide hR
  have HT := hide hT
  have HL := hide hl
  clear hs ht hR hT hl hok
  go_enter Try.func26, Try.ntmps26
  go_upto_region 1 with fail
  refine gw (motive := fun x => Code.wp _ _ _ _ x) (fun W => Hid (T2 m (.slice ra m.g.length rc) (.slice rb m.g.length rd) w.heap.size w W)) T.out ?_
  rintro W TW
  clear T
  obtain ⟨a16, a17, a18, a19, a20, a21, a22⟩ := ml_c HOK.out.1 TW.out.ra
  obtain ⟨b16, b17, b18, b19, b20, b21, b22⟩ := ml_c HOK.out.1 TW.out.rb
  have RA := hide (ml_r TW.out.ra)
  have RB := hide (ml_r TW.out.rb)
  go_wp2_with (first | (refine wpList_load_mid rfl 22 _ rfl w.heap.size 0 rfl _ _ RA.out Try.underlying22 rfl I22.out ?_) | (refine wpList_load_mid rfl 22 _ rfl (w.heap.size + 1) 0 rfl _ _ RB.out Try.underlying22 rfl I22.out ?_))
  have hqa : w.heap.size < W.heap.size := World.block_lt_of_cell? W _ a21
  have hqb : w.heap.size + 1 < W.heap.size := World.block_lt_of_cell? W _ b21
  have TA := hide a21
  have TB := hide b21
  clear a16 a17 a18 a19 a20 a22 b16 b17 b18 b19 b20 b22 RA RB E16 EF I22
  go_loopw [5] (fun iv wr => ∃ k : Nat, k ≤ m.g.length ∧ iv = .int .i64 (k : Int) ∧ Hid (Below W.heap.size W wr)) (fun iv _ => m.g.length - (intOf iv).toNat)
  case atStart => exact ⟨0, Nat.zero_le _, rfl, Below.refl _ _⟩
  case round =>
    obtain ⟨k, hk, rfl, HB⟩ := hrel
    have a21' : wr.cell? ⟨w.heap.size, 21, none⟩ = some (.slice ra m.g.length rc) := by rw [HB.out.cell (p := ⟨w.heap.size, 21, none⟩) hqa]; exact TA.out
    have b21' : wr.cell? ⟨w.heap.size + 1, 21, none⟩ = some (.slice rb m.g.length rd) := by rw [HB.out.cell (p := ⟨w.heap.size + 1, 21, none⟩) hqb]; exact TB.out
    have hgl : m.g.length ≤ 4398046511104 := by have := HL.out; omega
    clear a21 b21
    by_cases hlt : k < m.g.length
    · have kb := TW.out.b.trans (HB.out.mono TW.out.b.size)
      rcases HR.out.bel kb with h0 | ⟨b1, o1, rfl, h1⟩
      · rw [h0] at hlt; cases hlt
      rcases HT.out.bel kb with h0 | ⟨b2, o2, rfl, h2⟩
      · rw [h0] at hlt; cases hlt
      obtain ⟨c0, c1, c2, _, _⟩ := h1 k hlt
      obtain ⟨d0, d1, d2, _, _⟩ := h2 k hlt
      rw [← str_eq (HS.out k hlt) (HT'.out k hlt)] at d1
      have ER := eq_rg m.g[k].at_ (ss k) m.g[k].code
      clear kb h1 h2
      generalize m.g[k].at_ = g1 at *
      generalize m.g[k].code = g2 at *
      generalize ss k = g3 at *
      go_wp2_with fail
      go_quiet (fail)
      go_wp2_with fail
      go_roundw
      case rel => exact ⟨k + 1, hlt, by go_num, bel_dr HB.out _⟩
      case measure => simp [intOf]; omega
    · have hkn : k = m.g.length := by omega
      subst hkn
      go_wp2_with fail
      go_ret
      exact ⟨rfl, TW.out.b.trans (HB.out.mono TW.out.b.size)⟩
end
end Go.Proofs.Ytielpebokbolbaa
/-
  The statements' machines and seen, of what is the same.
-/
namespace Go.Proofs.Ytielpebokbolbaa
open Go.RowKit
open Xc (hide bel_one bel_tr bel_al bel_set Xi xv xc)
set_option linter.unusedSimpArgs false
set_option linter.unusedVariables false
section
variable {m : Mc} {w : World} {L : List Lk}
set_option maxRecDepth 100000 in
set_option maxHeartbeats 6400000 in
theorem machines_yes {va vb : Value} (ha : MV m va w) (hb : MV m vb w) : Calls Try.prog 14 #[va, vb] w fun e w' => e = .returned (.bool true) ∧ Below w.heap.size w w' := by
  have S := hide (fun U (k : Below w.heap.size w U) => same_yes (ha.bel k) (hb.bel k))
  obtain ⟨ra, rc, ss, rfl, hR, hs, hok, hl⟩ := ha
  obtain ⟨rb, rd, tt, rfl, hT, ht, _, _⟩ := hb
  rw [mc_is, mc_is] at *
  have T := hide (t2_made m (.slice ra m.g.length rc) (.slice rb m.g.length rd) w)
  have RA := hide (rng_row T.out.ra)
  have RB := hide (rng_row T.out.rb)
  have IA := hide (i27l hok.1 (.slice ra m.g.length rc))
  have IB := hide (i27l hok.1 (.slice rb m.g.length rd))
  clear hR hs hok hl hT ht
  go_enter Try.func14, Try.ntmps14
  go_wp2_with (first | (refine wpList_load_mid rfl 27 _ rfl w.heap.size 0 rfl _ _ RA.out Try.underlying27 rfl IA.out ?_) | (refine wpList_load_mid rfl 27 _ rfl (w.heap.size + 1) 0 rfl _ _ RB.out Try.underlying27 rfl IB.out ?_))
  refine (S.out _ T.out.b).mono ?_
  rintro e w1 ⟨rfl, hb⟩
  have HB := hide (bel_tr T.out.b hb)
  clear RA RB T hb S
  go_wp2_with fail
  go_ret
  exact ⟨rfl, HB.out⟩
theorem lkl_get : ∀ (L : List Lk) (i : Nat) (h : i < L.length), (lkl L)[i * 4]? = some (.int .i64 L[i].at_) ∧ (lkl L)[i * 4 + 1]? = some (.int .i64 L[i].ad) ∧ (lkl L)[i * 4 + 2]? = some (.int .i64 L[i].nm) ∧ (lkl L)[i * 4 + 3]? = some (.int .i64 L[i].dn)
  | l :: L, 0, _ => ⟨rfl, rfl, rfl, rfl⟩
  | l :: L, i + 1, h => by
    have := lkl_get L i (by simpa using h)
    have e : (i + 1) * 4 = i * 4 + 1 + 1 + 1 + 1 := by omega
    rw [e]
    exact this
theorem LV.cells {b0 : Nat} {v : Value} (h : LV b0 L v w) (hn : 0 < L.length) : ∃ g c, v = .slice (some ⟨g, 0, none⟩) L.length c ∧ ∀ i (hi : i < L.length), w.cell? ⟨g, i * 4, none⟩ = some (.int .i64 L[i].at_) ∧ w.cell? ⟨g, i * 4 + 1, none⟩ = some (.int .i64 L[i].ad) ∧ w.cell? ⟨g, i * 4 + 2, none⟩ = some (.int .i64 L[i].nm) ∧ w.cell? ⟨g, i * 4 + 3, none⟩ = some (.int .i64 L[i].dn) := by
  rcases h.2 with ⟨_, e⟩ | ⟨g, cap, cur, rfl, h1, h2, h3, h4, h5, h6⟩
  · omega
  · refine ⟨g, cap, rfl, fun i hi => ?_⟩
    obtain ⟨e0, e1, e2, e3⟩ := lkl_get L i hi
    have k : ∀ j u, j < L.length * 4 → (lkl L)[j]? = some u → w.cell? ⟨g, j, none⟩ = some u := fun j u hj hu => by
      rw [← h6, List.getElem?_take, if_pos hj] at hu
      simp only [World.cell?, h2]
      simpa using hu
    exact ⟨k _ _ (by omega) e0, k _ _ (by omega) e1, k _ _ (by omega) e2, k _ _ (by omega) e3⟩
set_option maxRecDepth 100000 in
set_option maxHeartbeats 6400000 in
theorem leaks_yes {b0 b1 : Nat} {va vb : Value} (ha : LV b0 L va w) (hb : LV b1 L vb w) (hl : L.length ≤ 1000000) : Calls Try.prog 28 #[va, vb] w fun e w' => e = .returned (.bool true) ∧ Below w.heap.size w w' := by
  rcases Nat.eq_zero_or_pos L.length with h0 | h0
  · obtain ⟨a, c, rfl⟩ := ha.sl
    obtain ⟨b, d, rfl⟩ := hb.sl
    rw [h0]
    clear ha hb h0 hl
    go_enter Try.func28, Try.ntmps28
    go_wp2_with fail
    go_loopw [5] (fun iv wr => iv = .int .i64 0 ∧ wr = w) (fun _ _ => 0)
    case atStart => exact ⟨rfl, rfl⟩
    case round =>
      obtain ⟨rfl, rfl⟩ := hrel
      go_wp2_with fail
      go_ret
      exact ⟨rfl, Below.refl _ _⟩
  · obtain ⟨g, c, rfl, hc⟩ := ha.cells h0
    obtain ⟨g', c', rfl, hd⟩ := hb.cells h0
    have HC := hide hc
    have HD := hide hd
    have HL := hide hl
    have HB0 := hide h0
    clear ha hb hc hd hl h0
    go_enter Try.func28, Try.ntmps28
    go_wp2_with fail
    go_loopw [5] (fun iv wr => ∃ k : Nat, k ≤ L.length ∧ iv = .int .i64 (k : Int) ∧ Hid (Below w.heap.size w wr)) (fun iv _ => L.length - (intOf iv).toNat)
    case atStart => exact ⟨0, Nat.zero_le _, rfl, Below.refl _ _⟩
    case round =>
      obtain ⟨k, hk, rfl, HB⟩ := hrel
      have hgl : L.length ≤ 1000000 := HL.out
      by_cases hlt : k < L.length
      · obtain ⟨c0, c1, c2, c3⟩ := HC.out k hlt
        obtain ⟨d0, d1, d2, d3⟩ := HD.out k hlt
        have lg : g < w.heap.size := World.block_lt_of_cell? w _ c0
        have lg' : g' < w.heap.size := World.block_lt_of_cell? w _ d0
        rw [← HB.out.cell (p := ⟨g, k * 4, none⟩) lg] at c0
        rw [← HB.out.cell (p := ⟨g, k * 4 + 1, none⟩) lg] at c1
        rw [← HB.out.cell (p := ⟨g, k * 4 + 2, none⟩) lg] at c2
        rw [← HB.out.cell (p := ⟨g, k * 4 + 3, none⟩) lg] at c3
        rw [← HB.out.cell (p := ⟨g', k * 4, none⟩) lg'] at d0
        rw [← HB.out.cell (p := ⟨g', k * 4 + 1, none⟩) lg'] at d1
        rw [← HB.out.cell (p := ⟨g', k * 4 + 2, none⟩) lg'] at d2
        rw [← HB.out.cell (p := ⟨g', k * 4 + 3, none⟩) lg'] at d3
        have ER : ∀ W : World, (Op.equalIn 10000 52 (.agg #[.int .i64 L[k].at_, .int .i64 L[k].ad, .int .i64 L[k].nm, .int .i64 L[k].dn]) (.agg #[.int .i64 L[k].at_, .int .i64 L[k].ad, .int .i64 L[k].nm, .int .i64 L[k].dn])).run Try.prog W = .ok true W := fun W => by rw [eq_lk]; simp
        clear lg lg'
        generalize L[k].at_ = g1 at *
        generalize L[k].ad = g2 at *
        generalize L[k].nm = g3 at *
        generalize L[k].dn = g4 at *
        go_wp2_with fail
        go_quiet (fail)
        go_wp2_with fail
        go_roundw
        case rel => exact ⟨k + 1, hlt, by go_num, bel_dr HB.out _⟩
        case measure => simp [intOf]; omega
      · have hkn : k = L.length := by omega
        subst hkn
        go_wp2_with fail
        go_ret
        exact ⟨rfl, HB.out⟩
theorem seen_yes {b0 b1 : Nat} {va vb : Value} (ha : LV b0 L va w) (hb : LV b1 L vb w) (hl : L.length ≤ 1000000) : Calls Try.prog 16 #[va, vb] w fun e w' => e = .returned (.bool true) ∧ Below w.heap.size w w' := by
  have S := hide (leaks_yes ha hb hl)
  clear ha hb hl
  go_enter Try.func16, Try.ntmps16
  go_wp2_with fail
  refine S.out.mono ?_
  rintro e w1 ⟨rfl, hb⟩
  clear S
  go_wp2_with fail
  go_ret
  exact ⟨rfl, hb⟩
end
end Go.Proofs.Ytielpebokbolbaa
/-
  The statements' examples: they hold.
-/
namespace Go.Proofs.Ytielpebokbolbaa
open Go.RowKit
open Xc (hide bel_one bel_tr bel_al bel_set Xi xv xc)
set_option linter.unusedSimpArgs false
set_option linter.unusedVariables false
theorem read_any {m : Mc} {v : Value} {w : World} (h : MV m v w) (a n : Int) (ha : I64 a) : Calls Try.prog 10 #[v, .int .i64 a, .int .i64 n] w (RdEnds m.g a n w) := by
  obtain ⟨ra, rc, ss, rfl, hR, hs, hok, hl⟩ := h
  have hg : m.g.length ≤ 4398046511104 := by omega
  cases hf : fnN m.g a n with
  | none => exact read_no m ra rc ss a n w hok.1 ha hg hR hf
  | some i =>
    obtain ⟨hn, hi, _⟩ := fnN_some hf
    rcases hn with rfl | rfl
    · exact read_yes4 m ra rc ss a w hok.1 ha hg hR i hi hf (hs i hi)
    · exact read_yes8 m ra rc ss a w hok.1 ha hg hR i hi hf (hs i hi)
def g0 : List Rg := [⟨50, [72, 184, 7, 0, 0, 0, 0, 0, 0, 0, 244], true⟩, ⟨100, [49, 50, 51, 52, 53, 54, 55, 56], false⟩]
def m0 : Mc := ⟨[0, 0, 0, 0, 0, 0, 0, 0, 0, 0, 0, 0, 0, 0, 0, 0], false, false, false, false, 50, g0, 0⟩
def m1 : Mc := ⟨[7, 0, 0, 0, 0, 0, 0, 0, 0, 0, 0, 0, 0, 0, 0, 0], false, false, false, false, 61, g0, 1⟩
theorem ex_run : runM 10 m0 = (m1, [⟨50, -1, 0, 0⟩, ⟨60, -1, 0, 0⟩]) := by kernel_rfl
theorem ex_yes : rdM m0.g 104 4 = some 943142453 := by kernel_rfl
theorem ex_no : rdM m0.g 105 4 = none := by kernel_rfl
theorem m0_ok : m0.ok := by
  refine ⟨rfl, ?_, ?_, ?_⟩
  · intro v hv
    simp [m0] at hv
    subst hv; unfold I64 Xc.I64; decide
  · unfold I64 Xc.I64 m0; decide
  · intro r hr
    simp [m0, g0] at hr
    rcases hr with rfl | rfl
    · exact ⟨by unfold I64 Xc.I64; decide, by simp⟩
    · exact ⟨by unfold I64 Xc.I64; decide, by simp⟩
def s1 : ByteArray := { data := #[72, 184, 7, 0, 0, 0, 0, 0, 0, 0, 244] }
def s2 : ByteArray := { data := #[49, 50, 51, 52, 53, 54, 55, 56] }
theorem m0_mv {w : World} {b rc : Nat} (h : w.heap[b]? = some (.cells #[.int .i64 50, .string s1, .bool true, .int .i64 100, .string s2, .bool false] 39)) : MV m0 (.agg (mc m0 (.slice (some ⟨b, 0, none⟩) 2 rc))) w := by
  refine ⟨some ⟨b, 0, none⟩, rc, fun i => if i = 0 then s1 else s2, rfl, Or.inr ⟨b, 0, rfl, fun i hi => ?_⟩, fun i hi => ?_, m0_ok, by show 32 * 2 ≤ 140737488351232; omega⟩
  · have ok := m0_ok.2.2.2
    match i, hi with
    | 0, _ => exact ⟨by simp [World.cell?, h]; rfl, by simp [World.cell?, h], by simp [World.cell?, h]; rfl, by rfl, ok _ (by simp [m0, g0])⟩
    | 1, _ => exact ⟨by simp [World.cell?, h]; rfl, by simp [World.cell?, h], by simp [World.cell?, h]; rfl, by rfl, ok _ (by simp [m0, g0])⟩
  · match i, hi with
    | 0, _ => rfl
    | 1, _ => rfl
/-- What stands when the example's machine is laid. -/
structure EA (w W : World) : Prop where
  b : Below w.heap.size w W
  row : W.heap[w.heap.size + 1]? = some (.cells (ml m0 (.slice (some ⟨w.heap.size, 0, none⟩) 2 2)).toArray 27)
  mv : MV m0 (.agg (mc m0 (.slice (some ⟨w.heap.size, 0, none⟩) 2 2))) W
theorem EA.bel {w W W' : World} (h : EA w W) (k : Below W.heap.size W W') : EA w W' := by
  have hlt : w.heap.size + 1 < W.heap.size := by
    rcases Nat.lt_or_ge (w.heap.size + 1) W.heap.size with h' | h'
    · exact h'
    · have := h.row; rw [Array.getElem?_eq_none h'] at this; cases this
  exact ⟨bel_tr h.b k, (k.block _ hlt).trans h.row, h.mv.bel k⟩
theorem ea_made (w : World) : EA w (((w.alloc (.cells #[.int .i64 50, .string s1, .bool true, .int .i64 100, .string s2, .bool false] 39)).alloc (.cells zm 27)).setRow (w.heap.size + 1) (ml m0 (.slice (some ⟨w.heap.size, 0, none⟩) 2 2)).toArray) := by
  have k1 := bel_one w (.cells #[.int .i64 50, .string s1, .bool true, .int .i64 100, .string s2, .bool false] 39)
  have r1 : (w.alloc (.cells #[.int .i64 50, .string s1, .bool true, .int .i64 100, .string s2, .bool false] 39)).heap[w.heap.size]? = _ := heap_alloc_new w (.cells #[.int .i64 50, .string s1, .bool true, .int .i64 100, .string s2, .bool false] 39)
  have s1' : (w.alloc (.cells #[.int .i64 50, .string s1, .bool true, .int .i64 100, .string s2, .bool false] 39)).heap.size = w.heap.size + 1 := by simp
  generalize w.alloc (.cells #[.int .i64 50, .string s1, .bool true, .int .i64 100, .string s2, .bool false] 39) = U at *
  have k2 := bel_one U (.cells zm 27)
  have z2 : (U.alloc (.cells zm 27)).heap[U.heap.size]? = _ := heap_alloc_new U (.cells zm 27)
  rw [s1'] at z2
  have r2 := (k2.block w.heap.size (by omega)).trans r1
  have b2 := bel_tr k1 k2
  generalize U.alloc (.cells zm 27) = V at *
  exact ⟨below_setRow b2 (by omega) _, setRow_heap V _ _ _ _ (0, 0) z2, m0_mv ((setRow_other V (w.heap.size + 1) w.heap.size _ (by omega)).trans r2)⟩
structure EB (w : World) (q g : Nat) (v : Value) (W : World) : Prop where
  a : EA w W
  r : W.heap[q]? = some (.cells (ml m1 v).toArray 27)
  l : W.cell? ⟨g, 4, none⟩ = some (.int .i64 60) ∧ W.cell? ⟨g, 5, none⟩ = some (.int .i64 (-1)) ∧ W.cell? ⟨g, 6, none⟩ = some (.int .i64 0) ∧ W.cell? ⟨g, 7, none⟩ = some (.int .i64 0)
theorem cells4 {g : Nat} {w w' : World} {a b c d : Value} (h : w.cell? ⟨g, 4, none⟩ = some a ∧ w.cell? ⟨g, 5, none⟩ = some b ∧ w.cell? ⟨g, 6, none⟩ = some c ∧ w.cell? ⟨g, 7, none⟩ = some d) (hg : g < w.heap.size) (k : Below w.heap.size w w') : w'.cell? ⟨g, 4, none⟩ = some a ∧ w'.cell? ⟨g, 5, none⟩ = some b ∧ w'.cell? ⟨g, 6, none⟩ = some c ∧ w'.cell? ⟨g, 7, none⟩ = some d := by
  rw [k.cell (p := ⟨g, 4, none⟩) hg, k.cell (p := ⟨g, 5, none⟩) hg, k.cell (p := ⟨g, 6, none⟩) hg, k.cell (p := ⟨g, 7, none⟩) hg]; exact h
theorem EB.bel {w : World} {q g : Nat} {v : Value} {W W' : World} (h : EB w q g v W) (k : Below W.heap.size W W') : EB w q g v W' := by
  have hlt : q < W.heap.size := by
    rcases Nat.lt_or_ge q W.heap.size with h' | h'
    · exact h'
    · have := h.r; rw [Array.getElem?_eq_none h'] at this; cases this
  exact ⟨h.a.bel k, (k.block _ hlt).trans h.r, cells4 h.l (World.block_lt_of_cell? W _ h.l.1) k⟩
theorem wpl_build {P : Program} {ops : Array Oper} {rest : List Oper} {o : Oper} {a : Act} {w : World} {Q : Exit → Act → World → Prop} (hg : o.guard = none) (t : TypeId) (parts : Array (Nat × Operand)) (ho : o.op = .build t parts) (l : List (Nat × Value))
    (hp : (parts.map fun (i, x) => (i, a.eval x)).toList = l) (cells : Array Value) (hb : P.built t l = some cells) (h : wpList P ops Q rest (a.put o.dst (.agg cells)) w) : wpList P ops Q (o :: rest) a w :=
  wpList_plain hg fun K hK => wp_build_is t parts ho l hp cells hb (hK _ _ h)
theorem built_m (x : Int) (g : List Rg) (a : Option Addr) (n c : Nat) : Try.prog.built 27 [(2, .int .i64 x), (3, .slice a n c)] = some (ml ⟨[0, 0, 0, 0, 0, 0, 0, 0, 0, 0, 0, 0, 0, 0, 0, 0], false, false, false, false, x, g, 0⟩ (.slice a n c)).toArray := by kernel_rfl
set_option maxRecDepth 100000 in
set_option maxHeartbeats 6400000 in
theorem examples_any (w : World) : Calls Try.prog 9 #[] w fun e w' => e = .returned (.bool true) ∧ Below w.heap.size w w' := by
  have HZ : Hid (((w.alloc (.cells #[.int .i64 50, .string s1, .bool true, .int .i64 100, .string s2, .bool false] 39)).alloc (.cells zm 27)).heap[w.heap.size + 1]? = some (.cells zm 27)) := by
    have := heap_alloc_new (w.alloc (.cells #[.int .i64 50, .string s1, .bool true, .int .i64 100, .string s2, .bool false] 39)) (.cells zm 27)
    rwa [show (w.alloc (.cells #[.int .i64 50, .string s1, .bool true, .int .i64 100, .string s2, .bool false] 39)).heap.size = w.heap.size + 1 by simp] at this
  have HI : Hid ((Try.prog.info? 27).map (·.size) = some (ml m0 (.slice (some ⟨w.heap.size, 0, none⟩) 2 2)).toArray.size) := by show _ = _; kernel_rfl
  have HZS : Hid (zm.size = (ml m0 (.slice (some ⟨w.heap.size, 0, none⟩) 2 2)).toArray.size) := rfl
  have HON := hide (ml_one m0 (some ⟨w.heap.size, 0, none⟩) 2 2)
  go_enter Try.func9, Try.ntmps9
  go_upto_region 2 with (first | (refine wpl_build rfl 27 _ rfl [(2, .int .i64 50), (3, .slice (some ⟨w.heap.size, 0, none⟩) 2 2)] rfl _ (built_m 50 g0 _ 2 2) ?_) | (refine wpList_store_row rfl 27 _ _ rfl (w.heap.size + 1) _ rfl rfl 27 zm HZ.out HI.out HZS.out HON.out ?_))
  refine gw (motive := fun x => Code.wp _ _ _ _ x) (fun W => Hid (EA w W)) (ea_made w) ?_
  rintro W EW
  clear HZ HI HZS HON
  have RG := hide (rng_row EW.out.row)
  have IL := hide (i27l (m := m0) rfl (.slice (some ⟨w.heap.size, 0, none⟩) 2 2))
  have RR := hide (run_any EW.out.mv 10 (by decide))
  rw [mc_is] at RR
  go_wp2_with (refine wpList_load_mid rfl 27 _ rfl (w.heap.size + 1) 0 rfl _ _ RG.out Try.underlying27 rfl IL.out ?_)
  refine RR.out.mono ?_
  rintro e w1 ⟨v', v7, rfl, hm1, hlv, hb1⟩
  rw [show (10 : Int).toNat = 10 from rfl, ex_run] at hm1 hlv
  obtain ⟨ra, rc, ss, rfl, hR, hs, hok, hl⟩ := hm1
  rw [mc_is, show m1.g.length = 2 from rfl]
  obtain ⟨g, c7, rfl, hc⟩ := hlv.cells (by decide)
  have HC := hide (hc 1 (by decide))
  have hg7 : g < w1.heap.size := World.block_lt_of_cell? w1 _ (hc 1 (by decide)).1
  have E1 := hide (EW.out.bel hb1)
  have HZ : Hid ((w1.alloc (.cells zm 27)).heap[w1.heap.size]? = some (.cells zm 27)) := heap_alloc_new w1 _
  have HI : Hid ((Try.prog.info? 27).map (·.size) = some (ml m1 (.slice ra 2 rc)).toArray.size) := by show _ = _; rw [List.size_toArray]; exact i27l (m := m1) rfl _
  have HZS : Hid (zm.size = (ml m1 (.slice ra 2 rc)).toArray.size) := rfl
  have HON := hide (ml_one m1 ra 2 rc)
  clear RG RR EW hR hs hok hl hc hb1 hlv
  unfold zm at HZ HZS
  go_upto_region 3 with (refine wpList_store_row rfl 27 _ _ rfl w1.heap.size _ rfl rfl 27 zm HZ.out HI.out HZS.out HON.out ?_)
  have kb := below_setRow (bel_one w1 (.cells zm 27)) (Nat.le_refl _) (ml m1 (.slice ra 2 rc)).toArray
  refine gw (motive := fun x => Code.wp _ _ _ _ x) (fun W => Hid (EB w w1.heap.size g (.slice ra 2 rc) W)) ⟨E1.out.bel kb, setRow_heap _ _ _ _ _ (0, 0) HZ.out, cells4 HC.out hg7 kb⟩ ?_
  rintro W2 E2
  clear kb HZ HI HZS HON E1 HC hg7
  generalize w1.heap.size = q2 at *
  have RG := hide (rng_row E2.out.a.row)
  have RR := hide (read_any E2.out.a.mv 104 4 (by unfold I64 Xc.I64; decide))
  rw [mc_is] at RR
  unfold RdEnds at RR
  rw [ex_yes] at RR
  simp only [Option.getD_some, Option.isSome_some] at RR
  go_wp2_with (refine wpList_load_mid rfl 27 _ rfl (w.heap.size + 1) 0 rfl _ _ RG.out Try.underlying27 rfl IL.out ?_)
  refine RR.out.mono ?_
  rintro e w3 ⟨rfl, hb3⟩
  have E3 := hide (E2.out.bel hb3)
  clear RG RR E2 hb3
  have RG := hide (rng_row E3.out.a.row)
  have RR := hide (read_any E3.out.a.mv 105 4 (by unfold I64 Xc.I64; decide))
  rw [mc_is] at RR
  unfold RdEnds at RR
  rw [ex_no] at RR
  simp only [Option.getD_none, Option.isSome_none] at RR
  go_wp2_with (refine wpList_load_mid rfl 27 _ rfl (w.heap.size + 1) 0 rfl _ _ RG.out Try.underlying27 rfl IL.out ?_)
  refine RR.out.mono ?_
  rintro e w4 ⟨rfl, hb4⟩
  have E4 := hide (E3.out.bel hb4)
  clear RG RR E3 hb4 IL
  obtain ⟨_, _, _, _, a20, _, a22⟩ := ml_c (m := m1) rfl E4.out.r
  rw [show m1.at_ = 61 from rfl] at a20
  rw [show m1.st = 1 from rfl] at a22
  have a0 : w4.cell? ⟨q2, 0, none⟩ = some (.int .i64 7) := by
    have := E4.out.r
    simp only [World.cell?, this]; rfl
  obtain ⟨l0, l1, l2, l3⟩ := E4.out.l
  have EL := eq_lk 60 (-1) 0 0 60 (-1) 0 0
  go_wp2_with fail
  go_ret
  exact ⟨rfl, E4.out.a.b⟩
end Go.Proofs.Ytielpebokbolbaa
/-
  Boxes of machines, for the statements; runs in two parts. XstepTwo: steps in two parts are the steps in one.
-/
namespace Go.Proofs.Ytielpebokbolbaa
open Go.RowKit
open Xc (hide bel_one bel_tr bel_al bel_set Xi xv xc)
set_option linter.unusedSimpArgs false
set_option linter.unusedVariables false
/-- A machine in a box. -/
structure BM (q : Nat) (m : Mc) (vr : Value) (W : World) : Prop where
  row : W.heap[q]? = some (.cells (ml m vr).toArray 27)
  mv : MV m (.agg (mc m vr)) W
theorem BM.lt {q : Nat} {m : Mc} {vr : Value} {W : World} (h : BM q m vr W) : q < W.heap.size := by
  rcases Nat.lt_or_ge q W.heap.size with h' | h'
  · exact h'
  · have := h.row; rw [Array.getElem?_eq_none h'] at this; cases this
theorem BM.bel {q : Nat} {m : Mc} {vr : Value} {W W' : World} (h : BM q m vr W) (k : Below W.heap.size W W') : BM q m vr W' := ⟨(k.block _ h.lt).trans h.row, h.mv.bel k⟩
theorem BM.rg {q : Nat} {m : Mc} {vr : Value} {W : World} (h : BM q m vr W) : W.rangeAt q 0 (ml m vr) := rng_row h.row
theorem BM.il {q : Nat} {m : Mc} {vr : Value} {W : World} (h : BM q m vr W) : (Try.prog.info? 27).map (·.size) = some (ml m vr).length := by
  obtain ⟨ra, rc, ss, e, _, _, ok, _⟩ := h.mv
  exact i27l ok.1 vr
theorem bm_arg {m : Mc} {vr : Value} {w : World} (h : MV m (.agg (mc m vr)) w) : BM w.heap.size m vr (w.alloc (.cells (ml m vr).toArray 27)) := ⟨heap_alloc_new w _, h.bel (bel_one w _)⟩
/-- A machine is laid into a new box. -/
theorem bm_new {m : Mc} {vr : Value} {w : World} (h : MV m (.agg (mc m vr)) w) : BM w.heap.size m vr ((w.alloc (.cells zm 27)).setRow w.heap.size (ml m vr).toArray) ∧ Below w.heap.size w ((w.alloc (.cells zm 27)).setRow w.heap.size (ml m vr).toArray) := by
  have k := below_setRow (bel_one w (.cells zm 27)) (Nat.le_refl _) (ml m vr).toArray
  exact ⟨⟨setRow_heap _ _ _ _ _ (0, 0) (heap_alloc_new w (.cells zm 27)), h.bel k⟩, k⟩
theorem MV.sl {m : Mc} {v : Value} {w : World} (h : MV m v w) : ∃ ra rc, v = .agg (mc m (.slice ra m.g.length rc)) := by
  obtain ⟨ra, rc, ss, e, _⟩ := h
  exact ⟨ra, rc, e⟩
theorem MV.len {m : Mc} {v : Value} {w : World} (h : MV m v w) : m.r.length = 16 := by
  obtain ⟨ra, rc, ss, e, _, _, ok, _⟩ := h
  exact ok.1
theorem z_row (w : World) : (w.alloc (.cells zm 27)).heap[w.heap.size]? = some (.cells zm 27) := heap_alloc_new w _
theorem z_inf {m : Mc} (h : m.r.length = 16) (vr : Value) : (Try.prog.info? 27).map (·.size) = some (ml m vr).toArray.size := by rw [List.size_toArray]; exact i27l h vr
theorem z_siz {m : Mc} (h : m.r.length = 16) (vr : Value) : zm.size = (ml m vr).toArray.size := (show zm.size = 23 from rfl).trans (by rw [List.size_toArray, ml_len h])
theorem run_two : ∀ (a b : Nat) (m : Mc), runM (a + b) m = ((runM b (runM a m).1).1, (runM a m).2 ++ (runM b (runM a m).1).2)
  | 0, b, m => by simp [runM]
  | a + 1, b, m => by
    rw [show a + 1 + b = (a + b) + 1 by omega]
    by_cases h : m.st = 0
    · simp only [runM, h, if_true, run_two a b, List.cons_append]
    · have : ∀ n, runM n m = (m, []) := fun n => by cases n <;> simp [runM, h]
      rw [this, this, this]; rfl
theorem run_len : ∀ (n : Nat) (m : Mc), (runM n m).2.length ≤ n
  | 0, _ => Nat.le_refl _
  | n + 1, m => by
    unfold runM
    split
    · simp only [List.length_cons]; have := run_len n (stp m).1; omega
    · simp
/-- A number of steps, as the statements take it. -/
def ab61 (x : Int) : Int := if x < 0 then (-(x + 1)).tmod 61 else x.tmod 61
theorem ab61_neg {x : Int} (h : x < 0) : (x + 1).tmod 61 = - ab61 x := by unfold ab61; rw [if_pos h, Int.neg_tmod]; omega
theorem ab61_pos {x : Int} (h : ¬ x < 0) : x.tmod 61 = ab61 x := by unfold ab61; rw [if_neg h]
theorem ab61_bd (x : Int) : 0 ≤ ab61 x ∧ ab61 x ≤ 60 := by
  unfold ab61
  split
  · have h1 := Int.tmod_nonneg (b := 61) (a := -(x + 1)) (by omega)
    have h2 := Int.tmod_lt_of_pos (-(x + 1)) (b := 61) (by decide)
    omega
  · have h1 := Int.tmod_nonneg (b := 61) (a := x) (by omega)
    have h2 := Int.tmod_lt_of_pos x (b := 61) (by decide)
    omega
theorem LV.cellj {b0 : Nat} {L : List Lk} {v : Value} {w : World} (h : LV b0 L v w) (hn : 0 < L.length) : ∃ g c, v = .slice (some ⟨g, 0, none⟩) L.length c ∧ ∀ j u, (lkl L)[j]? = some u → w.cell? ((⟨g, 0, none⟩ : Addr).add j) = some u := by
  rcases h.2 with ⟨_, e⟩ | ⟨g, cap, cur, rfl, h1, h2, h3, h4, h5, h6⟩
  · omega
  · refine ⟨g, cap, rfl, fun j u hu => ?_⟩
    have hj : j < L.length * 4 := by rw [← lkl_len]; exact (List.getElem?_eq_some_iff.1 hu).1
    rw [← h6, List.getElem?_take, if_pos hj] at hu
    rw [add_at]
    simp only [World.cell?, h2, Nat.zero_add]
    simpa using hu
theorem LV.cap {b0 : Nat} {L : List Lk} {v : Value} {w : World} (h : LV b0 L v w) : ∃ a c, v = .slice a L.length c ∧ L.length ≤ c := by
  rcases h.2 with ⟨rfl, e⟩ | ⟨g, cap, cur, rfl, _, _, h3, _⟩
  · rw [e]; exact ⟨_, _, rfl, Nat.le_refl _⟩
  · exact ⟨_, _, rfl, h3⟩
theorem lkl_app (L L2 : List Lk) : lkl (L ++ L2) = lkl L ++ lkl L2 := by simp [lkl]
theorem lkl_one (L : List Lk) : ∀ u ∈ lkl L, u.oneCell' = true := fun u hu => by
  simp only [lkl, List.mem_flatMap, List.mem_cons, List.not_mem_nil, or_false] at hu
  obtain ⟨l, _, rfl | rfl | rfl | rfl⟩ := hu <;> rfl
/-- Leaks behind leaks. -/
theorem wpl_app {ops : Array Oper} {rest : List Oper} {o : Oper} {a : Act} {w : World} {Q : Exit → Act → World → Prop} (hg : o.guard = none) (s x : Operand) (ho : o.op = .call { callee := .builtin .append, args := #[s, x], argTypes := #[35, 35] })
    {b0 b1 : Nat} {L L2 : List Lk} {va vb : Value} (hs : a.eval s = va) (hx : a.eval x = vb) (ha : LV b0 L va w) (hb : LV b1 L2 vb w) (hn : L.length + L2.length ≤ 1000000) (hb0 : b0 ≤ w.heap.size)
    (h : ∀ v' w', LV b0 (L ++ L2) v' w' → Below b0 w w' → wpList Try.prog ops Q rest (a.put o.dst v') w') : wpList Try.prog ops Q (o :: rest) a w := by
  obtain ⟨i0, hi, hz0, hz1, hz2⟩ := info_parts infoLk
  cases L2 with
  | nil =>
    obtain ⟨xb, xc, rfl⟩ := hb.sl
    obtain ⟨sb, sc, rfl, hle⟩ := ha.cap
    refine append_nothing w hg s x 35 ho 52 i0 Try.underlying35 hi sb _ sc hs hle xb xc hx ?_
    exact h _ _ (by rw [List.append_nil]; exact ha) (Below.refl _ _)
  | cons l L2 =>
    obtain ⟨g, c, rfl, hc⟩ := hb.cellj (by simp)
    refine wpList_append_own w hg s x 35 ho b0 52 i0 _ 4 32 Try.underlying35 hi hz0 hz1 hz2 rfl (by decide) va L.length (lkl L) hs ha ⟨g, 0, none⟩ (l :: L2).length c (lkl (l :: L2)) hx (lkl_len _) hc (lkl_one _) (by unfold maxLen; omega) (by omega) hb0 ?_
    intro v' w' hown hgrow _
    refine h v' w' ?_ ⟨hgrow.os, hgrow.tape, hgrow.output, hgrow.size, fun k hk => hgrow.block k (by omega) fun e => ?_⟩
    · unfold LV
      rw [lkl_app, List.length_append]; exact hown
    · have := ha.ge e.symm; omega
end Go.Proofs.Ytielpebokbolbaa

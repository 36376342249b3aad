/-
  Merged: Pr3 Fr Slx Fq.
-/
import Derived.Test.YtjgaaofpfepfhaaDoorX3
import Derived.Test.YtjgaaofpfepfhaaDoorX1
import Derived.Test.YtjgaaofpfepfhaaDoorRows
import Derived.ProofKit
import Derived.OpenShut
import Derived.Deep.Slices
import Derived.SizedLaws
import Derived.ChangeSlices
import Derived.Test.YtjgaaofpfepfhaaDoorAlo
import Derived.Test.YtjgaaofpfepfhaaDoorX2
/-
  What crosses and what is named, of the program and of the document, side by side.
-/
namespace Go.Proofs.YtjgaaofpfepfhaaDoor
open Go.RowKit
set_option linter.unusedSimpArgs false
set_option linter.unusedVariables false
theorem cross_both {d : Cd} {l : List Ir} {w w1 w2 : World} {e e2 : Ending} (h : CrEnds d l w e w1) (k : RCrEnds d l w1 e2 w2) :
    ∃ (x n : Int) (b : Bool), e = .returned (.tuple #[.int .i64 x, .int .i64 n]) ∧ e2 = .returned (.tuple #[.int .i64 x, .bool b]) ∧ ((fitb d l = true ∧ b = true ∧ n = 0) ∨ (fitb d l = false ∧ b = false ∧ n = 4)) ∧ Below w.heap.size w w1 ∧ Below w1.heap.size w1 w2 := by
  rcases h with ⟨hf, rfl, b1⟩ | ⟨hf, A, F, rfl, hs, b1⟩ <;> rcases k with ⟨kf, rfl, b2⟩ | ⟨kf, A', F', rfl, ks, b2⟩
  · exact ⟨_, _, _, rfl, rfl, Or.inr ⟨hf, rfl, rfl⟩, b1, b2⟩
  · rw [hf] at kf; cases kf
  · rw [hf] at kf; cases kf
  · refine ⟨_, _, _, rfl, ?_, Or.inl ⟨hf, rfl, rfl⟩, b1, b2⟩
    rw [crT_same (fun i hi => (hs.one ks (show i < (sy l).n from hi)).2) l.length (Nat.le_refl _)]
theorem named_both {d : Cd} {l : List Ir} {w w1 w2 : World} {e e2 : Ending} (h : NmEnds d l w e w1) (k : RNmEnds d l w1 e2 w2) :
    ∃ (x n : Int) (b : Bool), e = .returned (.tuple #[.int .i64 x, .int .i64 n]) ∧ e2 = .returned (.tuple #[.int .i64 x, .bool b]) ∧ ((fitb d l = true ∧ b = true ∧ n = 0) ∨ (fitb d l = false ∧ b = false ∧ n = 4)) ∧ Below w.heap.size w w1 ∧ Below w1.heap.size w1 w2 := by
  rcases h with ⟨hf, rfl, b1⟩ | ⟨hf, m, hm, rfl, b1⟩ <;> rcases k with ⟨kf, rfl, b2⟩ | ⟨kf, m', hm', rfl, b2⟩
  · exact ⟨_, _, _, rfl, rfl, Or.inr ⟨hf, rfl, rfl⟩, b1, b2⟩
  · rw [hf] at kf; cases kf
  · rw [hf] at kf; cases kf
  · obtain rfl : m' = m := by omega
    exact ⟨_, _, _, rfl, rfl, Or.inl ⟨hf, rfl, rfl⟩, b1, b2⟩
/-- The two places' rows, and their owners, whether the code fits or not. -/
theorem alloc_rows {d : Cd} {l : List Ir} {w w1 w2 : World} {e e2 : Ending} (h : AEnds d l w e w1) (k : RAEnds d l w1 e2 w2) (hc : d.cells ≤ 60 ∨ fitb d l = false) :
    ∃ (v v2 : Value) (n : Int) (b : Bool), e = .returned (.tuple #[v, .int .i64 n]) ∧ e2 = .returned (.tuple #[v2, .bool b]) ∧ ((b = true ∧ n = 0) ∨ (b = false ∧ n = 4)) ∧ Below w.heap.size w w1 ∧ Below w1.heap.size w1 w2 ∧
      ∀ W, Below w2.heap.size w2 W → Calls Tryd.prog 9 #[v, v2] W fun e w' => e = .returned (.bool true) ∧ Below W.heap.size W w' := by
  rcases alloc_both h k with ⟨hf, rfl, rfl, b1, b2⟩ | ⟨hf, r, n, v, ns, hn, hl, rfl, rfl, hr, hv, nv, b1, b2⟩
  · exact ⟨_, _, _, _, rfl, rfl, Or.inr ⟨rfl, rfl⟩, b1, b2, fun W _ => numbers_none _ _ _ _ W⟩
  · refine ⟨_, _, _, _, rfl, rfl, Or.inl ⟨rfl, rfl⟩, b1, b2, fun W hW => numbers_nv ((vrow_nv (c := n) hl hv).kept (b2.trans (hW.mono b2.size))) (nv.kept hW) ?_⟩
    rcases hc with hc | hc
    · omega
    · rw [hf] at hc; cases hc
end Go.Proofs.YtjgaaofpfepfhaaDoor
/-
  A code that comes in: what lies in its memory; no condition.
-/
namespace Go.Proofs.YtjgaaofpfepfhaaDoor
open Go.ChangeShapes Go.WideShapes Go.ChangeAt Go.RowKit
set_option linter.unusedSimpArgs false
set_option linter.unusedVariables false
set_option maxRecDepth 100000
theorem wf_i64 {x : Int} (h : (Lit.int .i64 x).wf = true) : I64 x := by
  simp [Lit.wf, IntKind.min, IntKind.max, IntKind.signed, IntKind.bits] at h
  exact ⟨by omega, by omega⟩
theorem cell_lt {w : World} {a : Addr} {v : Value} (h : w.cell? a = some v) : a.block < w.heap.size := by
  unfold World.cell? at h
  cases hb : w.heap[a.block]? with
  | none => rw [hb] at h; cases h
  | some o => exact (Array.getElem?_eq_some_iff.1 hb).1
theorem add_lit7 (b off i : Nat) : (⟨b, off, none⟩ : Addr).add i = ⟨b, off + i, none⟩ := by
  unfold Addr.add; split <;> simp_all
theorem c_3 : Tryd.prog.cellsOf 3 = 1 := by kernel_rfl
theorem c_22 : Tryd.prog.cellsOf 22 = 1 := by kernel_rfl
theorem c_24 : Tryd.prog.cellsOf 24 = 4 := by kernel_rfl
theorem c_43 : Tryd.prog.cellsOf 43 = 7 := by kernel_rfl
section
variable {H : Type} {enc : TypeId × Value → H} {W : World}
theorem open_seven {n : Nat} {cs : List Value} {x : DataW H × List MemPlace} (hl : cs.length = 7) (h : DataW.trod enc Tryd.prog W 0 (fun _ => true) true n 43 cs = some x) :
    ∃ y : Ir, cs = (xc y).toList ∧ y.ok := by
  obtain ⟨xs, k, _, _, _, hxl, hf⟩ := DataW.trod_struct Tryd.underlying43 h
  match cs, hl with
  | [v0, v1, v2, v3, v4, v5, v6], _ =>
    match xs, hxl with
    | [y0, y1, y2, y3, y4, y5, y6], _ =>
      have g0 := hf 0 _ rfl
      have g1 := hf 1 _ rfl
      have g2 := hf 2 _ rfl
      have g3 := hf 3 _ rfl
      have g4 := hf 4 _ rfl
      have g5 := hf 5 _ rfl
      have g6 := hf 6 _ rfl
      simp [c_3] at g0 g1 g2 g3 g4 g5 g6
      obtain ⟨a0, e0, _, w0⟩ := DataW.trod_int Tryd.underlying3 g0
      obtain ⟨a1, e1, _, w1⟩ := DataW.trod_int Tryd.underlying3 g1
      obtain ⟨a2, e2, _, w2⟩ := DataW.trod_int Tryd.underlying3 g2
      obtain ⟨a3, e3, _, w3⟩ := DataW.trod_int Tryd.underlying3 g3
      obtain ⟨a4, e4, _, w4⟩ := DataW.trod_int Tryd.underlying3 g4
      obtain ⟨a5, e5, _, w5⟩ := DataW.trod_int Tryd.underlying3 g5
      obtain ⟨a6, e6, _, w6⟩ := DataW.trod_int Tryd.underlying3 g6
      simp at e0 e1 e2 e3 e4 e5 e6
      subst e0 e1 e2 e3 e4 e5 e6
      exact ⟨⟨a0, a1, a2, a3, a4, a5, a6⟩, rfl, wf_i64 w0, wf_i64 w1, wf_i64 w2, wf_i64 w3, wf_i64 w4, wf_i64 w5, wf_i64 w6⟩
theorem open_irs {fuel : Nat} {cs : List Value} {x : DataW H × List MemPlace} (h : DataW.trod enc Tryd.prog W 0 (fun _ => true) true fuel 22 cs = some x) :
    ∃ (a : Option Addr) (l : List Ir) (c : Nat), cs = [.slice a (List.length l) c] ∧ IR W.heap.size W a l ∧ l.length ≤ c := by
  rcases Deep.open_slice Tryd.underlying22 h with ⟨hcs, hx⟩ | ⟨a, len, cap, m, n, D, Pl, hcs, _, hl, hm, hmm, hx, hcell⟩
  · exact ⟨_, [], _, hcs, fun j hj => absurd hj (Nat.not_lt_zero _), Nat.zero_le _⟩
  rcases Nat.eq_zero_or_pos len with h0 | h0
  · subst h0
    exact ⟨_, [], _, hcs, fun j hj => absurd hj (Nat.not_lt_zero _), Nat.zero_le _⟩
  simp only [if_true] at hmm
  have each : ∀ i, i < len → ∃ q : Ir, q.ok ∧ ∀ k v, (xc q).toList[k]? = some v → W.cell? (a.add (i * 7 + k)) = some v := by
    intro i hi
    obtain ⟨cs', h1, h2⟩ := hcell i (by omega)
    rw [c_43] at h1
    obtain ⟨_, hlen, hc⟩ := World.cells?_some h1
    obtain ⟨y, e, hy⟩ := open_seven hlen h2
    refine ⟨y, hy, fun k v hk => ?_⟩
    have hk7 : k < 7 := by
      have := (List.getElem?_eq_some_iff.1 hk).1
      simpa [xc] using this
    have := hc k hk7
    rw [Deep.add_add] at this
    rw [this, e]
    exact hk
  haveI : Inhabited Ir := ⟨ir0⟩
  obtain ⟨q, hq⟩ := Deep.choose_lt each
  obtain ⟨b, off, spot⟩ := a
  have hspot : spot = none := by simpa [Addr.add] using World.cell?_spot ((hq 0 h0).2 0 _ rfl)
  subst hspot
  refine ⟨some ⟨b, off, none⟩, (List.range len).map q, cap, by rw [hcs]; simp, fun j hj => ?_, by simpa using hl⟩
  have hj' : j < len := by simpa using hj
  have hc := (hq j hj').2
  have get : ((List.range len).map q)[j] = q j := by simp
  rw [get]
  have cc := fun k v hk => by have := hc k v hk; rw [add_lit7] at this; exact this
  exact ⟨b, off, rfl, cell_lt (cc 0 _ rfl), ⟨cc 0 _ rfl, cc 1 _ rfl, cc 2 _ rfl, cc 3 _ rfl, cc 4 _ rfl, cc 5 _ rfl, cc 6 _ rfl⟩, (hq j hj').1⟩
theorem open_code {base : Nat} {v : Value} {d : DataW H} {p : List MemPlace} (hv : Value.okWide Tryd.prog W .any base 24 v) (h : DataW.Trod enc Tryd.prog W 0 (fun _ => true) true 24 v d p) :
    ∃ (c : Cd) (a : Option Addr) (l : List Ir) (cap : Nat), v = cv c a l.length cap ∧ IR W.heap.size W a l ∧ l.length ≤ cap := by
  obtain ⟨cs, rfl, hsz⟩ := okWide_struct Tryd.underlying24 hv
  rw [c_24] at hsz
  obtain ⟨fuel, hf0⟩ := h
  obtain ⟨xs, k, _, hx, _, hxl, hf⟩ := DataW.trod_struct Tryd.underlying24 hf0
  obtain ⟨l⟩ := cs
  match l, hsz with
  | [v0, v1, v2, v3], _ =>
    match xs, hxl with
    | [y0, y1, y2, y3], _ =>
      have g0 := hf 0 _ rfl
      have g1 := hf 1 _ rfl
      have g2 := hf 2 _ rfl
      have g3 := hf 3 _ rfl
      simp [Value.cells, c_3, c_22] at g0 g1 g2 g3
      obtain ⟨a0, e0, _, _⟩ := DataW.trod_int Tryd.underlying3 g0
      obtain ⟨a1, e1, _, _⟩ := DataW.trod_int Tryd.underlying3 g1
      obtain ⟨a, l, c, e2, q, q2⟩ := open_irs g2
      obtain ⟨a3, e3, _, _⟩ := DataW.trod_int Tryd.underlying3 g3
      simp at e0 e1 e2 e3
      subst e0 e1 e2 e3
      exact ⟨⟨a0, a1, a3⟩, a, l, c, rfl, q, q2⟩
end
end Go.Proofs.YtjgaaofpfepfhaaDoor
/-
  Slots of any places that come in; the numbers that come in.
-/
namespace Go.Proofs.YtjgaaofpfepfhaaDoor
open Go.RowKit Go.ChangeShapes Go.WideShapes Go.ChangeAt
set_option linter.unusedSimpArgs false
set_option linter.unusedVariables false
set_option maxRecDepth 100000
/-- Numbers at a place, if there are any. -/
def RdI (B : Nat) (W : World) (a : Option Addr) (len : Nat) (g : Nat → Int) : Prop :=
  ∀ j, j < len → ∃ b off, a = some ⟨b, off, none⟩ ∧ b < B ∧ W.cell? ⟨b, off + j, none⟩ = some (.int .i64 (g j))
theorem RdI.bel {B : Nat} {W W' : World} {a : Option Addr} {len : Nat} {g : Nat → Int} (h : RdI B W a len g) (k : Below B W W') : RdI B W' a len g := fun j hj => by
  obtain ⟨b, off, e, hb, hc⟩ := h j hj
  exact ⟨b, off, e, hb, (k.cell (p := ⟨b, off + j, none⟩) hb).trans hc⟩
theorem RdI.take {B : Nat} {W : World} {a : Option Addr} {len m : Nat} {g : Nat → Int} (h : RdI B W a len g) (hm : m ≤ len) : RdI B W a m g := fun j hj => h j (by omega)
theorem RdI.one {B : Nat} {W : World} {a : Option Addr} {len : Nat} {g : Nat → Int} (h : RdI B W a len g) (h0 : 0 < len) : ∃ b off, a = some ⟨b, off, none⟩ ∧ b < B ∧ ∀ j, j < len → W.cell? ⟨b, off + j, none⟩ = some (.int .i64 (g j)) := by
  obtain ⟨b, off, rfl, hb, _⟩ := h 0 h0
  refine ⟨b, off, rfl, hb, fun j hj => ?_⟩
  obtain ⟨b', off', e, _, hc⟩ := h j hj
  injection e with e
  injection e with e1 e2
  subst e1 e2
  exact hc
theorem cells3i : Tryd.prog.cellsOf 3 = 1 := by kernel_rfl
theorem reads_of {H : Type} {enc : TypeId × Value → H} {W : World} {a0 : Option Addr} {len cap : Nat} {d : DataW H} {p : List MemPlace}
    (h : DataW.Trod enc Tryd.prog W 0 (fun _ => true) true 25 (.slice a0 len cap) d p) :
    ∃ g : Nat → Int, (∀ j, I64 (g j)) ∧ len ≤ cap ∧ len ≤ 9223372036854775807 ∧ RdI W.heap.size W a0 len g := by
  have zero64 : I64 0 := ⟨by decide, by decide⟩
  obtain ⟨fuel, hf⟩ := h
  rcases open_ints Tryd.underlying25 Tryd.underlying3 cells3i hf with ⟨hcs, hx⟩ | ⟨a, len', cap', zs, hcs, _, hl, hm, hz, hx, hcell, hwz⟩
  · simp [Value.cells] at hcs
    obtain ⟨rfl, rfl, rfl⟩ := hcs
    exact ⟨fun _ => 0, fun _ => zero64, by omega, by decide, fun j hj => absurd hj (by omega)⟩
  · simp [Value.cells] at hcs
    obtain ⟨rfl, rfl, rfl⟩ := hcs
    simp only [if_true] at hz
    refine ⟨fun j => zs.getD j 0, fun j => ?_, hl, by unfold maxLen at hm; omega, fun j hj => ?_⟩
    · by_cases hj : j < zs.length
      · have e : zs.getD j 0 = zs[j] := by simp [List.getD, hj]
        show I64 (zs.getD j 0)
        rw [e]; exact wf_i64 (hwz _ (List.getElem_mem hj))
      · have e : zs.getD j 0 = 0 := by simp [List.getD, hj]
        show I64 (zs.getD j 0)
        rw [e]; exact zero64
    · obtain ⟨b, off, spot⟩ := a
      have hspot : spot = none := by simpa [Addr.add] using World.cell?_spot (hcell 0 (by omega))
      subst hspot
      have hc := hcell j (by omega)
      rw [add_lit7] at hc
      exact ⟨b, off, rfl, cell_lt hc, hc⟩
theorem open_nums {H : Type} {enc : TypeId × Value → H} {W : World} {base : Nat} {v : Value} {d : DataW H} {p : List MemPlace} (hv : Value.okWide Tryd.prog W .any base 25 v)
    (h : DataW.Trod enc Tryd.prog W 0 (fun _ => true) true 25 v d p) :
    ∃ (a : Option Addr) (len cap : Nat) (g : Nat → Int), v = .slice a len cap ∧ (∀ j, I64 (g j)) ∧ len ≤ cap ∧ len ≤ 9223372036854775807 ∧ RdI W.heap.size W a len g := by
  obtain ⟨a, len, cap, rfl⟩ := okWide_slice Tryd.underlying25 hv
  obtain ⟨g, h1, h2, h3, h4⟩ := reads_of h
  exact ⟨a, len, cap, g, rfl, h1, h2, h3, h4⟩
set_option maxRecDepth 100000 in
set_option maxHeartbeats 6400000 in
theorem slots_none (a : Option Addr) (c : Nat) (w : World) : Calls Tryd.prog 14 #[.slice a 0 c] w fun e w' => e = .returned (.int .i64 0) ∧ w' = w := by
  go_enter Tryd.func14, Tryd.ntmps14
  go_wp2_with fail
  go_loopw [3, 5, 8] (fun s3 _ s8 wr => s8 = .int .i64 0 ∧ s3 = .int .i64 5 ∧ wr = w) (fun _ _ s8 _ => 0)
  case atStart => exact ⟨rfl, rfl, rfl⟩
  case round =>
    obtain ⟨rfl, rfl, rfl⟩ := hrel
    go_wp2_with fail
    go_ret
    exact ⟨rfl, rfl⟩
set_option maxRecDepth 100000 in
set_option maxHeartbeats 6400000 in
theorem rslots_none (a : Option Addr) (c : Nat) (w : World) : Calls Tryd.prog 15 #[.slice a 0 c] w fun e w' => e = .returned (.int .i64 0) ∧ w' = w := by
  go_enter Tryd.func15, Tryd.ntmps15
  go_wp2_with fail
  go_loopw [3, 4] (fun s3 s4 wr => s4 = .int .i64 0 ∧ s3 = .int .i64 0 ∧ wr = w) (fun _ s4 _ => 0)
  case atStart => exact ⟨rfl, rfl, rfl⟩
  case round =>
    obtain ⟨rfl, rfl, rfl⟩ := hrel
    go_wp2_with fail
    go_ret
    exact ⟨rfl, rfl⟩
set_option maxRecDepth 100000 in
set_option maxHeartbeats 6400000 in
theorem slots_at (r o n c : Nat) (pl : Nat → Int) (w : World) (hn : n ≤ 1000) (hp : ∀ i, i < n → pl i ≤ 9223372036854775807) (hc : ∀ i, i < n → w.cell? ⟨r, o + i, none⟩ = some (.int .i64 (pl i))) :
    Calls Tryd.prog 14 #[.slice (some ⟨r, o, none⟩) n c] w fun e w' => e = .returned (.int .i64 (grt pl n - 5)) ∧ w' = w := by
  have HC := hide hc
  have HG := hide (grt_le (b := 9223372036854775807) (by omega) hp)
  clear hc hp
  go_enter Tryd.func14, Tryd.ntmps14
  go_wp2_with fail
  go_loopw [3, 5, 8] (fun s3 _ s8 wr => ∃ k : Nat, k ≤ n ∧ s8 = .int .i64 (k : Int) ∧ s3 = .int .i64 (grt pl k) ∧ wr = w) (fun _ _ s8 _ => n - (intOf s8).toNat)
  case atStart => exact ⟨0, Nat.zero_le _, rfl, rfl, rfl⟩
  case round =>
    obtain ⟨k, hk, rfl, rfl, rfl⟩ := hrel
    by_cases hlt : k < n
    · have hx := HC.out k hlt
      have h1 : (k : Int) < (n : Int) := by omega
      have h0 : (0 : Int) ≤ (k : Int) := by omega
      have hg : Hid (grt pl (k + 1) = max (grt pl k) (pl k)) := rfl
      go_wp2_with fail
      go_roundw
      case rel => exact ⟨k + 1, hlt, by go_num, by rw [hg.out], trivial⟩
      case measure => simp [intOf]; omega
    · obtain rfl : k = n := by omega
      have h1 : ¬ (k : Int) < (k : Int) := by omega
      have hg := HG.out k (Nat.le_refl _)
      go_wp2_with fail
      go_ret
      refine ⟨?_, rfl⟩
      show Ending.returned (.int .i64 (grt pl k - 6 + 1)) = _
      rw [show grt pl k - 6 + 1 = grt pl k - 5 by omega]
set_option maxRecDepth 100000 in
set_option maxHeartbeats 6400000 in
theorem rslots_at (r o n c : Nat) (pl : Nat → Int) (w : World) (hn : n ≤ 1000) (hp : ∀ i, i < n → -1099511627776 ≤ pl i ∧ pl i ≤ 9223372036854775807) (hc : ∀ i, i < n → w.cell? ⟨r, o + i, none⟩ = some (.int .i64 (pl i))) :
    Calls Tryd.prog 15 #[.slice (some ⟨r, o, none⟩) n c] w fun e w' => e = .returned (.int .i64 (grt pl n - 5)) ∧ w' = w := by
  have HC := hide hc
  have HP := hide hp
  have HG := hide (grt_le (b := 9223372036854775807) (by omega) (fun i hi => (hp i hi).2))
  clear hc hp
  go_enter Tryd.func15, Tryd.ntmps15
  go_wp2_with fail
  go_loopw [3, 4] (fun s3 s4 wr => ∃ k : Nat, k ≤ n ∧ s4 = .int .i64 (k : Int) ∧ s3 = .int .i64 (grt pl k - 5) ∧ wr = w) (fun _ s4 _ => n - (intOf s4).toNat)
  case atStart => exact ⟨0, Nat.zero_le _, rfl, rfl, rfl⟩
  case round =>
    obtain ⟨k, hk, rfl, rfl, rfl⟩ := hrel
    by_cases hlt : k < n
    · have hx := HC.out k hlt
      have h1 : (k : Int) < (n : Int) := by omega
      have h0 : (0 : Int) ≤ (k : Int) := by omega
      have hpk := HP.out k hlt
      have hg : Hid (grt pl (k + 1) - 5 = max (grt pl k - 5) (pl k - 5)) := by
        show max (grt pl k) (pl k) - 5 = _
        omega
      generalize pl k = pk at *
      go_wp2_with fail
      go_roundw
      case rel => exact ⟨k + 1, hlt, by go_num, by rw [hg.out], trivial⟩
      case measure => simp [intOf]; omega
    · obtain rfl : k = n := by omega
      have h1 : ¬ (k : Int) < (k : Int) := by omega
      go_wp2_with fail
      go_ret
      exact ⟨rfl, rfl⟩
/-- Of numbers that come in. -/
theorem slots_in {B : Nat} {a : Option Addr} {n c : Nat} {g : Nat → Int} {w : World} (h : RdI B w a n g) (hn : n ≤ 1000) (hp : ∀ i, i < n → g i ≤ 9223372036854775807) :
    Calls Tryd.prog 14 #[.slice a n c] w fun e w' => e = .returned (.int .i64 (grt g n - 5)) ∧ w' = w := by
  rcases Nat.eq_zero_or_pos n with rfl | h0
  · exact slots_none a c w
  · obtain ⟨b, o, rfl, _, hc⟩ := h.one h0
    exact slots_at b o n c g w hn hp hc
theorem rslots_in {B : Nat} {a : Option Addr} {n c : Nat} {g : Nat → Int} {w : World} (h : RdI B w a n g) (hn : n ≤ 1000) (hp : ∀ i, i < n → -1099511627776 ≤ g i ∧ g i ≤ 9223372036854775807) :
    Calls Tryd.prog 15 #[.slice a n c] w fun e w' => e = .returned (.int .i64 (grt g n - 5)) ∧ w' = w := by
  rcases Nat.eq_zero_or_pos n with rfl | h0
  · exact rslots_none a c w
  · obtain ⟨b, o, rfl, _, hc⟩ := h.one h0
    exact rslots_at b o n c g w hn hp hc
end Go.Proofs.YtjgaaofpfepfhaaDoor
/-
  A code's box whose body was cut.
-/
namespace Go.Proofs.YtjgaaofpfepfhaaDoor
open Go.RowKit
set_option linter.unusedSimpArgs false
set_option linter.unusedVariables false
/-- The box. -/
structure FQ (cs ps ls : Int) (q : Option Addr) (n cap q0 : Nat) (w W : World) : Prop where
  b : Below w.heap.size w W
  lt : q0 < W.heap.size
  c0 : W.cell? ⟨q0, 0, none⟩ = some (.int .i64 cs)
  c1 : W.cell? ⟨q0, 1, none⟩ = some (.int .i64 ps)
  c2 : W.cell? ⟨q0, 2, none⟩ = some (.slice q n cap)
  c3 : W.cell? ⟨q0, 3, none⟩ = some (.int .i64 ls)
theorem FQ.bel {cs ps ls : Int} {q : Option Addr} {n cap q0 : Nat} {w W U : World} (h : FQ cs ps ls q n cap q0 w W) (k : Below W.heap.size W U) : FQ cs ps ls q n cap q0 w U :=
  ⟨h.b.trans (k.mono h.b.size), Nat.lt_of_lt_of_le h.lt k.size, (k.cell (p := ⟨q0, 0, none⟩) h.lt).trans h.c0, (k.cell (p := ⟨q0, 1, none⟩) h.lt).trans h.c1, (k.cell (p := ⟨q0, 2, none⟩) h.lt).trans h.c2, (k.cell (p := ⟨q0, 3, none⟩) h.lt).trans h.c3⟩
theorem IR.take {n₀ : Nat} {W : World} {a : Option Addr} {l : List Ir} (h : IR n₀ W a l) (m : Nat) : IR n₀ W a (l.take m) := fun j hj => by
  rw [List.length_take] at hj
  rw [List.getElem_take]
  exact h j (by omega)
theorem cells_60 (d : Cd) (l : List Ir) : d.cells ≤ 60 ∨ fitb d l = false := by
  cases hf : fitb d l
  · exact Or.inr rfl
  · have FP := fit_parts hf
    exact Or.inl (by omega)
theorem alloc_any (d : Cd) (q : Option Addr) (cap : Nat) (l : List Ir) (w : World) (hl : l.length ≤ 1000) (hr : IR w.heap.size w q l) (hT : Laid w) (hw0 : 0 < w.heap.size) :
    Calls Tryd.prog 7 #[cv d q l.length cap] w (AEnds d l w) := callsIn_wide.1 (alloc_in 4 (by omega) d q cap l w hl hr hT hw0)
end Go.Proofs.YtjgaaofpfepfhaaDoor

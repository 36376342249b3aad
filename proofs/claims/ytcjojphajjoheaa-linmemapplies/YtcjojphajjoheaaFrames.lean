/-
  What comes in by value or in a slice: a datum, a list of writes, a module: what it reads as; no condition.
-/
import Derived.Test.YtcjojphajjoheaaData
import Derived.ProofKit
import Derived.OpenShut
import Derived.Lib.SmallJoins
import Derived.Deep.Slices
import Derived.SizedLaws
import Derived.ShutString
namespace Go.Proofs.Ytcjojphajjoheaa
open Go.ChangeShapes Go.WideShapes Go.ChangeAt Go.RowKit Go.Joins

theorem Try.cells48 : Try.prog.cellsOf 48 = 3 := by kernel_rfl
theorem Try.cells46 : Try.prog.cellsOf 46 = 3 := by kernel_rfl
theorem Try.c3 : Try.prog.cellsOf 3 = 1 := by kernel_rfl
theorem Try.c9 : Try.prog.cellsOf 9 = 1 := by kernel_rfl
theorem wf_i64 {x : Int} (h : (Lit.int .i64 x).wf = true) : I64 x := by
  simp [Lit.wf, IntKind.min, IntKind.max, IntKind.signed, IntKind.bits] at h
  exact ⟨by omega, by omega⟩
/-- A datum, as data. -/
def dat (H : Type) (m p : Int) (b : List UInt8) : DataW H := .agg [.lit (.int .i64 m), .lit (.int .i64 p), .lit (.string b)]
theorem open_da {H : Type} {enc : TypeId × Value → H} {W : World} {base : Nat} {v : Value} {d : DataW H} {p : List MemPlace} (hv : Value.okWide Try.prog W .any base 48 v)
    (h : DataW.Trod enc Try.prog W 0 (fun _ => true) true 48 v d p) :
    ∃ m q b, v = .agg #[.int .i64 m, .int .i64 q, .string (str b)] ∧ d = dat H m q b ∧ p = [] ∧ (Lit.int .i64 m).wf = true ∧ (Lit.int .i64 q).wf = true ∧ b.length ≤ maxLen := by
  obtain ⟨c0, c1, c2, y0, y1, y2, k, rfl, rfl, rfl, h0, h1, h2⟩ := open_agg3 Try.underlying48 (by kernel_rfl) Try.cells48 hv h
  obtain ⟨a, e0, rfl, wa⟩ := DataW.trod_int Try.underlying3 h0
  obtain ⟨b, e1, rfl, wb⟩ := DataW.trod_int Try.underlying3 h1
  obtain ⟨c, e2, rfl, wc⟩ := DataW.trod_string Try.underlying9 h2
  simp at e0 e1 e2
  subst e0 e1 e2
  exact ⟨a, b, c.data.toList, by rw [← str_of], rfl, rfl, wa, wb, by rw [list_size]; exact wc⟩
theorem shut_da {H : Type} {enc : TypeId × Value → H} {W : World} {base : Nat} {spare : Nat → Bool} {held : Bool} {m q : Int} {b : List UInt8} (wa : (Lit.int .i64 m).wf = true) (wb : (Lit.int .i64 q).wf = true) (wc : b.length ≤ maxLen) :
    DataW.Trod enc Try.prog W base spare held 48 (.agg #[.int .i64 m, .int .i64 q, .string (str b)]) (dat H m q b) [] :=
  shut_agg3 (y0 := (.lit (.int .i64 m), [])) (y1 := (.lit (.int .i64 q), [])) (y2 := (.lit (.string b), [])) Try.underlying48 (by kernel_rfl) Try.cells48
    ⟨1, by simp [DataW.trod, Try.underlying3, wa]⟩ ⟨1, by simp [DataW.trod, Try.underlying3, wb]⟩ ⟨1, by simp [DataW.trod, Try.underlying9, str_size, wc, str_list]⟩
theorem cell_lt {w : World} {a : Addr} {v : Value} (h : w.cell? a = some v) : a.block < w.heap.size := by
  unfold World.cell? at h
  cases hb : w.heap[a.block]? with
  | none => rw [hb] at h; cases h
  | some o => exact (Array.getElem?_eq_some_iff.1 hb).1
theorem add_lit3 (b off i : Nat) : (⟨b, off, none⟩ : Addr).add i = ⟨b, off + i, none⟩ := by
  unfold Addr.add; split <;> simp_all
section
variable {H : Type} {enc : TypeId × Value → H} {W : World}
/-- A slice of elements of three cells: data or writes. -/
theorem open_sl {t e : TypeId} (ht : Try.prog.underlying t = some (.slice e)) (hsz : Try.prog.cellsOf e = 3)
    (op : ∀ n cs x, cs.length = 3 → DataW.trod enc Try.prog W 0 (fun _ => true) true n e cs = some x → ∃ m q b, cs = [.int .i64 m, .int .i64 q, .string (str b)] ∧ I64 m ∧ I64 q ∧ b.length ≤ 9223372036854775807)
    {fuel : Nat} {cs : List Value} {x : DataW H × List MemPlace} (h : DataW.trod enc Try.prog W 0 (fun _ => true) true fuel t cs = some x) :
    ∃ a l c, cs = [.slice a (List.length l) c] ∧ SDa W.heap.size W a l ∧ l.length ≤ c ∧ l.length ≤ 9223372036854775807 := by
  rcases Deep.open_slice ht h with ⟨hcs, hx⟩ | ⟨a, len, cap, m, n, D, Pl, hcs, _, hl, hm, hmm, hx, hcell⟩
  · exact ⟨_, [], 0, hcs, SDa.isNil _ _ _, by simp, by simp⟩
  simp only [if_true] at hmm
  rcases Nat.eq_zero_or_pos len with h0 | h0
  · subst h0
    exact ⟨_, [], cap, hcs, SDa.isNil _ _ _, by simp, by simp⟩
  obtain ⟨b, off, spot⟩ := a
  have hspot : spot = none := by
    obtain ⟨cs', h1, _⟩ := hcell 0 (by omega)
    rw [hsz] at h1
    obtain ⟨_, hlen, hc⟩ := World.cells?_some h1
    have := hc 0 (by omega)
    rw [List.getElem?_eq_getElem (show 0 < cs'.length by omega)] at this
    simpa [Addr.add] using World.cell?_spot this
  subst hspot
  have each : ∀ i, i < len → ∃ y : Da, b < W.heap.size ∧ EDa W b (off + i * 3) y := by
    intro i hi
    obtain ⟨cs', h1, h2⟩ := hcell i (by omega)
    rw [hsz] at h1
    obtain ⟨_, hlen, hc⟩ := World.cells?_some h1
    have hcc : ∀ j v, cs'[j]? = some v → W.cell? ⟨b, off + i * 3 + j, none⟩ = some v := by
      intro j v hv
      have hj : j < 3 := by rw [← hlen]; exact (List.getElem?_eq_some_iff.1 hv).1
      have := hc j hj
      rw [add_lit3, add_lit3] at this
      rw [this]; exact hv
    obtain ⟨mm, q, bs, rfl, w1, w2, w3⟩ := op n cs' (D i, Pl i) hlen h2
    have z := hcc 0 _ rfl
    exact ⟨⟨mm, q, bs⟩, cell_lt z, ⟨w1, w2, w3⟩, z, hcc 1 _ rfl, hcc 2 _ rfl⟩
  haveI : Inhabited Da := ⟨⟨0, 0, []⟩⟩
  obtain ⟨f, hf⟩ := Deep.choose_lt each
  have hmax : len ≤ 9223372036854775807 := by have h1 := hm; simp only [maxLen] at h1; omega
  refine ⟨some ⟨b, off, none⟩, (List.range len).map f, cap, by simpa using hcs, fun j hj => ?_, by simpa using hl, by simpa using hmax⟩
  have hj' : j < len := by simpa using hj
  refine ⟨b, off, rfl, (hf j hj').1, ?_⟩
  simpa using (hf j hj').2
theorem op_wr (e : TypeId) (hu : Try.prog.underlying e = Try.prog.underlying 48) (n : Nat) (cs : List Value) (x : DataW H × List MemPlace) (hl : cs.length = 3) (h : DataW.trod enc Try.prog W 0 (fun _ => true) true n e cs = some x) :
    ∃ m q b, cs = [.int .i64 m, .int .i64 q, .string (str b)] ∧ I64 m ∧ I64 q ∧ b.length ≤ 9223372036854775807 := by
  obtain ⟨xs, k, _, _, _, hxl, hf⟩ := DataW.trod_struct (hu.trans Try.underlying48) h
  match cs, hl with
  | [v0, v1, v2], _ =>
    match xs, hxl with
    | [y0, y1, y2], _ =>
      have g0 := hf 0 _ rfl
      have g1 := hf 1 _ rfl
      have g2 := hf 2 _ rfl
      simp [Try.c3, Try.c9] at g0 g1 g2
      obtain ⟨a, e0, _, wa⟩ := DataW.trod_int Try.underlying3 g0
      obtain ⟨c, e1, _, wb⟩ := DataW.trod_int Try.underlying3 g1
      obtain ⟨d, e2, _, wc⟩ := DataW.trod_string Try.underlying9 g2
      simp at e0 e1 e2
      subst e0 e1 e2
      exact ⟨a, c, d.data.toList, by rw [← str_of], wf_i64 wa, wf_i64 wb, by rw [list_size]; simpa [maxLen] using wc⟩
/-- A slice of any kind. -/
theorem open_any {t e : TypeId} (ht : Try.prog.underlying t = some (.slice e)) {fuel : Nat} {cs : List Value} {x : DataW H × List MemPlace} (h : DataW.trod enc Try.prog W 0 (fun _ => true) true fuel t cs = some x) :
    ∃ a n c, cs = [.slice a n c] := by
  rcases Deep.open_slice ht h with ⟨hcs, _⟩ | ⟨a, len, cap, m, n, D, Pl, hcs, _⟩
  · exact ⟨_, _, _, hcs⟩
  · exact ⟨_, _, _, hcs⟩
/-- Writes that come in. -/
theorem open_writes {base : Nat} {v : Value} {d : DataW H} {p : List MemPlace} (hv : Value.okWide Try.prog W .any base 37 v) (h : DataW.Trod enc Try.prog W 0 (fun _ => true) true 37 v d p) :
    ∃ a l c, v = .slice a (List.length l) c ∧ SDa W.heap.size W a l ∧ l.length ≤ c ∧ l.length ≤ 9223372036854775807 := by
  obtain ⟨a, n, c, rfl⟩ := okWide_slice Try.underlying37 hv
  obtain ⟨fuel, hf⟩ := h
  obtain ⟨a', l, c', hcs, h1, h2, h3⟩ := open_sl Try.underlying37 Try.cells46 (op_wr 46 rfl) hf
  simp [Value.cells] at hcs
  obtain ⟨rfl, rfl, rfl⟩ := hcs
  exact ⟨_, l, _, rfl, h1, h2, h3⟩
theorem Try.c22 : Try.prog.cellsOf 22 = 1 := by kernel_rfl
theorem Try.c23 : Try.prog.cellsOf 23 = 1 := by kernel_rfl
theorem Try.c24 : Try.prog.cellsOf 24 = 1 := by kernel_rfl
theorem Try.c25 : Try.prog.cellsOf 25 = 2 := by kernel_rfl
theorem Try.c26 : Try.prog.cellsOf 26 = 1 := by kernel_rfl
theorem Try.c27 : Try.prog.cellsOf 27 = 1 := by kernel_rfl
theorem Try.c29 : Try.prog.cellsOf 29 = 7 := by kernel_rfl
/-- A module that comes in: its data and its memories. -/
theorem open_mo {base : Nat} {v : Value} {d : DataW H} {p : List MemPlace} (hv : Value.okWide Try.prog W .any base 29 v) (h : DataW.Trod enc Try.prog W 0 (fun _ => true) true 29 v d p) :
    ∃ a0 n0 c0 a1 n1 c1 a2 n2 c2 m0 m1 a5 n5 c5 a6 l c6, v = .agg #[.slice a0 n0 c0, .slice a1 n1 c1, .slice a2 n2 c2, .int .i64 m0, .int .i64 m1, .slice a5 n5 c5, .slice a6 (List.length l) c6] ∧ SDa W.heap.size W a6 l ∧ l.length ≤ 9223372036854775807 := by
  obtain ⟨cs, rfl, hsz⟩ := okWide_struct Try.underlying29 hv
  rw [Try.c29] at hsz
  obtain ⟨fuel, hf0⟩ := h
  obtain ⟨xs, k, _, hx, _, hxl, hf⟩ := DataW.trod_struct Try.underlying29 hf0
  obtain ⟨l⟩ := cs
  match l, hsz with
  | [v0, v1, v2, v3, v4, v5, v6], _ =>
    match xs, hxl with
    | [y0, y1, y2, y3, y4, y5], _ =>
      have g0 := hf 0 _ rfl
      have g1 := hf 1 _ rfl
      have g2 := hf 2 _ rfl
      have g3 := hf 3 _ rfl
      have g4 := hf 4 _ rfl
      have g5 := hf 5 _ rfl
      simp [Value.cells, Try.c22, Try.c23, Try.c24, Try.c25, Try.c26, Try.c27] at g0 g1 g2 g3 g4 g5
      obtain ⟨a0, n0, c0, e0⟩ := open_any Try.underlying22 g0
      obtain ⟨a1, n1, c1, e1⟩ := open_any Try.underlying23 g1
      obtain ⟨a2, n2, c2, e2⟩ := open_any Try.underlying24 g2
      obtain ⟨a5, n5, c5, e5⟩ := open_any Try.underlying26 g4
      obtain ⟨a6, l6, c6, e6, s6, _, q6⟩ := open_sl Try.underlying27 Try.cells48 (op_wr 48 rfl) g5
      obtain ⟨zs, k2, _, _, _, hzl, hz⟩ := DataW.trod_array Try.underlying25 g3
      match zs, hzl with
      | [z0, z1], _ =>
        have i0 := hz 0 (by omega)
        have i1 := hz 1 (by omega)
        simp [Try.c3] at i0 i1
        obtain ⟨m0, f0, _, wm0⟩ := DataW.trod_int Try.underlying3 i0
        obtain ⟨m1, f1, _, wm1⟩ := DataW.trod_int Try.underlying3 i1
        simp at e0 e1 e2 e5 e6 f0 f1
        subst e0 e1 e2 e5 e6 f0 f1
        exact ⟨a0, n0, c0, a1, n1, c1, a2, n2, c2, m0, m1, a5, n5, c5, a6, l6, c6, rfl, s6, q6⟩
end
end Go.Proofs.Ytcjojphajjoheaa

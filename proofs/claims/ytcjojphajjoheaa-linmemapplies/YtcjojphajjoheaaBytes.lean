/-
  Bytes in memory: a row of bytes, what a copy of a string's bytes into it leaves, what a string of it is. No program.
-/
import Derived.Test.YtcjojphajjoheaaPlace
import Derived.Test.YtcjojphajjoheaaMath
import Derived.Laws.CopyOwn
import Derived.Laws.IdiomStrings
import Derived.Lib.UnsafeStr
import Derived.Lib.LazyBuf
import Derived.Lib.SlBuf
import Derived.Deep.Upon
namespace Go.Proofs.Ytcjojphajjoheaa
open Go.RowKit

/-- Bytes in a row, from its first cell on. -/
def BRow (w : World) (b : Nat) (l : List UInt8) : Prop :=
  b < w.heap.size ∧ ∀ j (h : j < l.length), w.cell? ⟨b, j, none⟩ = some (.int .u8 (l[j].toNat : Int)) ∧ w.frozen? ⟨b, j, none⟩ = false
theorem BRow.of_block {w w' : World} {b : Nat} {l : List UInt8} (h : BRow w b l) (e : w'.heap[b]? = w.heap[b]?) : BRow w' b l := by
  obtain ⟨hb, hc⟩ := h
  have hb' : b < w'.heap.size := by
    rcases Nat.lt_or_ge b w'.heap.size with h' | h'
    · exact h'
    · rw [Array.getElem?_eq_none h', Array.getElem?_eq_getElem hb] at e; cases e
  refine ⟨hb', fun j hj => ?_⟩
  obtain ⟨h1, h2⟩ := hc j hj
  exact ⟨by rw [← h1]; simp [World.cell?, e], by rw [← h2]; simp [World.frozen?, e]⟩
theorem BRow.below {B : Nat} {w w' : World} {b : Nat} {l : List UInt8} (h : BRow w b l) (k : Below B w w') (hb : b < B) : BRow w' b l := h.of_block (k.block b hb)
theorem BRow.kept {w w' : World} {b : Nat} {l : List UInt8} (h : BRow w b l) (k : Below w.heap.size w w') : BRow w' b l := h.below k h.1
/-- A row of bytes that was laid as cells. -/
theorem BRow.made (w : World) (cs : Array Value) (t : TypeId) (l : List UInt8) (hs : ∀ j (h : j < l.length), cs[j]? = some (.int .u8 (l[j].toNat : Int))) : BRow (w.alloc (.cells cs t)) w.heap.size l := by
  refine ⟨by simp, fun j hj => ⟨?_, ?_⟩⟩
  · rw [World.cell?_alloc_mark, hs j hj]
  · rw [World.frozen?_alloc_mark]; simp

/-- copy(dst, s), s a string: as many bytes as there is room for go over. -/
theorem run_copy_str {P : Program} (w : World) (dT sT ty elem : TypeId) (b o dLen dCap : Nat) (t : ByteArray)
    (hu : P.underlying dT = some (.slice elem)) (hz : ∀ w, (Go.sizeOf elem).run P w = .ok 1 w)
    (hc : ∀ j, j < min t.size dLen → (w.cell? ⟨b, o + j, none⟩).isSome = true) (hf : ∀ j, j < min t.size dLen → w.frozen? ⟨b, o + j, none⟩ = false) :
    (Builtin.copy_ #[dT, sT] ty #[.slice (some ⟨b, o, none⟩) dLen dCap, .string t]).run P w = .ok (goInt ((min t.size dLen : Nat) : Int)) (w.setCells b o (Lib.byteCells (t.data.toList.take dLen))) := by
  have hl : (Lib.byteCells (t.data.toList.take dLen)).length = min t.size dLen := by rw [Lib.byteCells_length, List.length_take, ← Lib.size_eq, Nat.min_comm]
  have hst := run_storeCells_cells (P := P) b o (Lib.byteCells (t.data.toList.take dLen)) 0 w (by rw [hl]; simpa using hc) (by rw [hl]; simpa using hf) (fun v hv => by obtain ⟨x, _, rfl⟩ := List.mem_map.1 hv; rfl)
  have e : ((t.extract 0 (Nat.min t.size dLen)).data.map fun b => Value.int .u8 (b.toNat : Int)).toList = Lib.byteCells (t.data.toList.take dLen) := by
    rw [Array.toList_map]
    unfold Lib.byteCells
    congr 1
    have e1 : t.size = t.data.toList.length := by simp
    apply List.ext_getElem
    · simp; omega
    · intro i h1 h2
      simp [ByteArray.data_extract]
  simp only [Builtin.copy_, Sem.run_bind, run_underlying hu, Builtin.lenOf, Builtin.firstCells, hz, Sem.run_pure, Result.andThen_ok, List.getElem?_toArray, List.getElem?_cons_zero, List.getElem?_cons_succ]
  rw [e, hst]
  rfl
theorem step_copy_str {P : Program} {ops : Array Oper} {o : Oper} {a : Act} {w : World} {K : Act → World → Prop} {Q : Exit → Act → World → Prop} {E : Prop}
    (hg : o.guard = none) (d x : Operand) (dT sT : TypeId) (hop : o.op = Op.call { callee := Callee.builtin Builtin.copy, args := #[d, x], argTypes := #[dT, sT] })
    (elem : TypeId) (hu : P.underlying dT = some (.slice elem)) (hz : ∀ w, (Go.sizeOf elem).run P w = .ok 1 w)
    (b off dLen dCap : Nat) (hd : a.eval d = .slice (some ⟨b, off, none⟩) dLen dCap) (t : ByteArray) (hx : a.eval x = .string t)
    (l : List UInt8) (hl : BRow w b l) (hfit : off + min t.size dLen ≤ l.length)
    (hK : ∀ w', Hid (w' = w.setCells b off (Lib.byteCells (t.data.toList.take dLen))) → K (a.put o.dst (goInt ((min t.size dLen : Nat) : Int))) w') :
    if Region.wanted o (yielded ops a.tmps) = true then Oper.wp P o a w K Q else E := by
  have hw : Region.wanted o (yielded ops a.tmps) = true := by simp [Region.wanted, hg]
  rw [if_pos hw]
  have hrun := run_copy_str (P := P) w dT sT o.type elem b off dLen dCap t hu hz (fun j hj => by rw [(hl.2 (off + j) (by omega)).1]; rfl) (fun j hj => (hl.2 (off + j) (by omega)).2)
  unfold Oper.wp
  simp [execOp, hop, resolve, invoke, builtin, hd, hx, hrun, Result.andThen]
  exact hK _ rfl
theorem setCells_size (b : Nat) : ∀ (vs : List Value) (o : Nat) (w : World), (w.setCells b o vs).heap.size = w.heap.size
  | [], _, _ => rfl
  | v :: vs, o, w => by
    show ((w.setCell ⟨b, o, none⟩ v).setCells b (o + 1) vs).heap.size = _
    rw [setCells_size b vs]; simp [World.setCell]
theorem BRow.copied {w w' : World} {b off : Nat} {l x : List UInt8} (h : BRow w b l) (hfit : off + x.length ≤ l.length) (e : w' = w.setCells b off (Lib.byteCells x)) : BRow w' b (splice l off x) := by
  subst e
  have hx : (Lib.byteCells x).length = x.length := Lib.byteCells_length x
  have hsz : (w.setCells b off (Lib.byteCells x)).heap.size = w.heap.size := by
    exact setCells_size b _ off w
  refine ⟨by rw [hsz]; exact h.1, fun j hj => ?_⟩
  rw [length_splice _ _ _ hfit] at hj
  refine ⟨?_, ?_⟩
  · by_cases hin : off ≤ j ∧ j < off + x.length
    · obtain ⟨k, rfl⟩ : ∃ k, j = off + k := ⟨j - off, by omega⟩
      rw [World.cell?_setCells_in b (Lib.byteCells x) off w (fun i hi => by rw [(h.2 (off + i) (by omega)).1]; rfl) k (by omega)]
      simp only [Lib.byteCells, List.getElem_map, splice]
      rw [List.getElem_append_right (by simp; omega), List.getElem_append_left (by simp; omega)]
      have hk : off + k - (l.take off).length = k := by rw [List.length_take]; omega
      simp only [hk]
    · rw [World.cell?_setCells_out b (Lib.byteCells x) off w ⟨b, j, none⟩ (fun _ _ => by rw [hx]; show j < off ∨ off + x.length ≤ j; omega), (h.2 j hj).1]
      congr 4
      simp only [splice]
      by_cases hj' : j < off
      · rw [List.getElem_append_left (by simp; omega)]; simp
      · rw [List.getElem_append_right (by simp; omega), List.getElem_append_right (by simp; omega)]
        simp only [List.getElem_drop]
        congr 1
        simp; omega
  · rw [World.frozen?_setCells]; exact (h.2 j hj).2
/-- A string of a row's first bytes. -/
theorem run_str_of {P : Program} {w : World} {b : Nat} {l : List UInt8} (h : BRow w b l) (src dst e : TypeId) (n cap : Nat) (hn : n ≤ l.length) (hs : P.underlying src = some (.slice e)) (he : P.underlying e = some (.int .u8)) (hd : P.underlying dst = some .string) :
    (convert src dst (.slice (some ⟨b, 0, none⟩) n cap)).run P w = .ok (.string ⟨(l.take n).toArray⟩) w := by
  have hl : (l.take n).length = n := by simp; omega
  have := run_convert_bytes_back (P := P) w src dst e ⟨b, 0, none⟩ cap (l.take n) hs he hd (fun j hj => by
    have hj' : j < l.length := by omega
    have ha : (⟨b, 0, none⟩ : Addr).add j = ⟨b, j, none⟩ := by unfold Addr.add; split <;> simp_all
    rw [ha, (h.2 j hj').1]; simp)
  rw [hl] at this
  exact this
end Go.Proofs.Ytcjojphajjoheaa

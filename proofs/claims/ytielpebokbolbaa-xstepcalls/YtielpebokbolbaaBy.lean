/-
  Bytes in memory: what a copy leaves, of a string's bytes and of another row's; what a string of a row is. No program.
-/
import Derived.Test.YtielpebokbolbaaW
import Derived.Laws.IdiomCopy
import Derived.Deep.RegionLaw
namespace Go.Proofs.Ytielpebokbolbaa
open Go.RowKit
open Xc (hide bel_one bel_tr bel_al bel_set le by8 bys jn)
set_option linter.unusedSimpArgs false
set_option linter.unusedVariables false
theorem BR.of_block {w w' : World} {b : Nat} {l : List UInt8} (h : BR w b l) (e : w'.heap[b]? = w.heap[b]?) : BR w' b l := by
  obtain ⟨hb, hc⟩ := h
  have hb' : b < w'.heap.size := by
    rcases Nat.lt_or_ge b w'.heap.size with h' | h'
    · exact h'
    · rw [Array.getElem?_eq_none h', Array.getElem?_eq_getElem hb] at e; cases e
  refine ⟨hb', fun j hj => ?_⟩
  obtain ⟨h1, h2⟩ := hc j hj
  exact ⟨by rw [← h1]; simp [World.cell?, e], by rw [← h2]; simp [World.frozen?, e]⟩
theorem BR.below {B : Nat} {w w' : World} {b : Nat} {l : List UInt8} (h : BR w b l) (k : Below B w w') (hb : b < B) : BR w' b l := h.of_block (k.block b hb)
theorem BR.kept {w w' : World} {b : Nat} {l : List UInt8} (h : BR w b l) (k : Below w.heap.size w w') : BR w' b l := h.below k h.1
/-- A row of bytes that was laid as cells. -/
theorem BR.made (w : World) (cs : Array Value) (t : TypeId) (l : List UInt8) (hs : ∀ j (h : j < l.length), cs[j]? = some (.int .u8 (l[j].toNat : Int))) : BR (w.alloc (.cells cs t)) w.heap.size l := by
  refine ⟨by simp, fun j hj => ⟨?_, ?_⟩⟩
  · rw [World.cell?_alloc_mark, hs j hj]
  · rw [World.frozen?_alloc_mark]; simp

theorem step_copy_str {P : Program} {ops : Array Oper} {o : Oper} {a : Act} {w : World} {K : Act → World → Prop} {Q : Exit → Act → World → Prop} {E : Prop}
    (hg : o.guard = none) (d x : Operand) (dT sT : TypeId) (hop : o.op = Op.call { callee := Callee.builtin Builtin.copy, args := #[d, x], argTypes := #[dT, sT] })
    (elem : TypeId) (hu : P.underlying dT = some (.slice elem)) (hz : ∀ w, (Go.sizeOf elem).run P w = .ok 1 w)
    (b off dLen dCap : Nat) (hd : a.eval d = .slice (some ⟨b, off, none⟩) dLen dCap) (t : ByteArray) (hx : a.eval x = .string t)
    (l : List UInt8) (hl : BR w b l) (hfit : off + min t.size dLen ≤ l.length)
    (hK : ∀ w', Hid (w' = w.setCells b off (Lib.byteCells (t.data.toList.take dLen))) → K (a.put o.dst (goInt ((min t.size dLen : Nat) : Int))) w') :
    if Region.wanted o (yielded ops a.tmps) = true then Oper.wp P o a w K Q else E := by
  have hw : Region.wanted o (yielded ops a.tmps) = true := by simp [Region.wanted, hg]
  rw [if_pos hw]
  have hrun := Xc.run_copy_str (P := P) w dT sT o.type elem b off dLen dCap t hu hz (fun j hj => by rw [(hl.2 (off + j) (by omega)).1]; rfl) (fun j hj => (hl.2 (off + j) (by omega)).2)
  unfold Oper.wp
  simp [execOp, hop, resolve, invoke, builtin, hd, hx, hrun, Result.andThen]
  exact hK _ rfl
theorem setCells_size (b : Nat) : ∀ (vs : List Value) (o : Nat) (w : World), (w.setCells b o vs).heap.size = w.heap.size
  | [], _, _ => rfl
  | v :: vs, o, w => by
    show ((w.setCell ⟨b, o, none⟩ v).setCells b (o + 1) vs).heap.size = _
    rw [setCells_size b vs]; simp [World.setCell]
theorem BR.copied {w w' : World} {b off : Nat} {l x : List UInt8} (h : BR w b l) (hfit : off + x.length ≤ l.length) (e : w' = w.setCells b off (Lib.byteCells x)) : BR w' b (splice l off x) := by
  subst e
  have hx : (Lib.byteCells x).length = x.length := Lib.byteCells_length x
  have hsz : (w.setCells b off (Lib.byteCells x)).heap.size = w.heap.size := by
    exact setCells_size b _ off w
  refine ⟨by rw [hsz]; exact h.1, fun j hj => ?_⟩
  rw [length_splice _ _ _ hfit] at hj
  refine ⟨?_, ?_⟩
  · by_cases hin : off ≤ j ∧ j < off + x.length
    · obtain ⟨k, rfl⟩ : ∃ k, j = off + k := ⟨j - off, by omega⟩
      rw [World.cell?_setCells_in b (Lib.byteCells x) off w (fun i hi => by rw [(h.2 (off + i) (by omega)).1]; rfl) k (by omega)]
      simp only [Lib.byteCells, List.getElem_map, splice]
      rw [List.getElem_append_right (by simp; omega), List.getElem_append_left (by simp; omega)]
      have hk : off + k - (l.take off).length = k := by rw [List.length_take]; omega
      simp only [hk]
    · rw [World.cell?_setCells_out b (Lib.byteCells x) off w ⟨b, j, none⟩ (fun _ _ => by rw [hx]; show j < off ∨ off + x.length ≤ j; omega), (h.2 j hj).1]
      congr 4
      simp only [splice]
      by_cases hj' : j < off
      · rw [List.getElem_append_left (by simp; omega)]; simp
      · rw [List.getElem_append_right (by simp; omega), List.getElem_append_right (by simp; omega)]
        simp only [List.getElem_drop]
        congr 1
        simp; omega
  · rw [World.frozen?_setCells]; exact (h.2 j hj).2
/-- A string of a row's first bytes. -/
theorem run_str_of {P : Program} {w : World} {b : Nat} {l : List UInt8} (h : BR w b l) (src dst e : TypeId) (n cap : Nat) (hn : n ≤ l.length) (hs : P.underlying src = some (.slice e)) (he : P.underlying e = some (.int .u8)) (hd : P.underlying dst = some .string) :
    (convert src dst (.slice (some ⟨b, 0, none⟩) n cap)).run P w = .ok (.string ⟨(l.take n).toArray⟩) w := by
  have hl : (l.take n).length = n := by simp; omega
  have := run_convert_bytes_back (P := P) w src dst e ⟨b, 0, none⟩ cap (l.take n) hs he hd (fun j hj => by
    have hj' : j < l.length := by omega
    have ha : (⟨b, 0, none⟩ : Addr).add j = ⟨b, j, none⟩ := by unfold Addr.add; split <;> simp_all
    rw [ha, (h.2 j hj').1]; simp)
  rw [hl] at this
  exact this
theorem add_at (q off j : Nat) : (⟨q, off, none⟩ : Addr).add j = ⟨q, off + j, none⟩ := by unfold Addr.add; split <;> simp_all
/-- copy(dst, src), both rows of bytes. -/
theorem step_copy_br {P : Program} {ops : Array Oper} {o : Oper} {a : Act} {w : World} {K : Act → World → Prop} {Q : Exit → Act → World → Prop} {E : Prop}
    (hg : o.guard = none) (d x : Operand) (dT sT : TypeId) (hop : o.op = Op.call { callee := Callee.builtin Builtin.copy, args := #[d, x], argTypes := #[dT, sT] })
    (elem : TypeId) (hu : P.underlying dT = some (.slice elem)) (hz : (P.info? elem).map (·.size) = some 1)
    (b off dLen dCap : Nat) (hd : a.eval d = .slice (some ⟨b, off, none⟩) dLen dCap) (q so sLen sCap : Nat) (hx : a.eval x = .slice (some ⟨q, so, none⟩) sLen sCap)
    (l xs y : List UInt8) (hl : BR w b l) (hxs : BR w q xs) (hy : y = (xs.drop so).take (Nat.min sLen dLen)) (hyl : y.length = Nat.min sLen dLen) (hfit : off + y.length ≤ l.length)
    (hK : ∀ w', Hid (w' = w.setCells b off (Lib.byteCells y)) → K (a.put o.dst (goInt (y.length : Int))) w') :
    if Region.wanted o (yielded ops a.tmps) = true then Oper.wp P o a w K Q else E := by
  have hw : Region.wanted o (yielded ops a.tmps) = true := by simp [Region.wanted, hg]
  rw [if_pos hw]
  have hbl : (Lib.byteCells y).length = y.length := Lib.byteCells_length y
  have hrun := run_copy_cells (P := P) w dT sT o.type elem b off dLen dCap ⟨q, so, none⟩ sLen sCap (Lib.byteCells y) hu hz (by rw [hbl, hyl])
    (fun j v hj => by
      have hj' : j < y.length := by rw [← hbl]; exact (List.getElem?_eq_some_iff.1 hj).1
      have hq : so + j < xs.length := by
        have : y.length ≤ xs.length - so := by rw [hy]; simp; omega
        omega
      rw [add_at, (hxs.2 (so + j) hq).1]
      have e : y[j] = xs[so + j] := by subst hy; simp
      simp only [Lib.byteCells, List.getElem?_map, List.getElem?_eq_getElem hj', Option.map_some, Option.some.injEq] at hj
      rw [← hj, e])
    (fun j hj => by rw [(hl.2 (off + j) (by omega)).1]; rfl) (fun j hj => (hl.2 (off + j) (by omega)).2) (fun v hv => by obtain ⟨x, _, rfl⟩ := List.mem_map.1 hv; rfl)
  unfold Oper.wp
  rw [hbl] at hrun
  simp [execOp, hop, resolve, invoke, builtin, hd, hx, hrun, Result.andThen]
  exact hK _ rfl
theorem spl_is (l : List UInt8) (k : Nat) (x : List UInt8) : splice l k x = spl l k x := by simp [splice, spl]
theorem ubytes : Try.prog.underlying 50 = some (.slice 5) := by kernel_rfl
theorem z5 (w : World) : (Go.sizeOf 5).run Try.prog w = .ok 1 w := by kernel_rfl
theorem i5 : (Try.prog.info? 5).map (·.size) = some 1 := by kernel_rfl
def z8 : Array Value := #[.int .u8 0, .int .u8 0, .int .u8 0, .int .u8 0, .int .u8 0, .int .u8 0, .int .u8 0, .int .u8 0]
theorem z8_is : z8 = bv (List.replicate 8 0) := rfl
theorem zeros8 (w : World) : BR (w.alloc (.cells z8 61)) w.heap.size (List.replicate 8 0) := by
  refine BR.made w _ 61 _ fun j hj => ?_
  simp at hj
  match j, hj with
  | 0, _ => rfl
  | 1, _ => rfl
  | 2, _ => rfl
  | 3, _ => rfl
  | 4, _ => rfl
  | 5, _ => rfl
  | 6, _ => rfl
  | 7, _ => rfl
theorem ext_list (s : ByteArray) (p : Nat) : (s.extract p s.size).data.toList = s.data.toList.drop p := by
  apply List.ext_getElem
  · simp [ByteArray.data_extract]
  · intro i h1 h2
    simp [ByteArray.data_extract]
/-- What stands in the eight cells. -/
def nb (l : List UInt8) (n : Nat) : List UInt8 := splice (List.replicate 8 0) 0 (l.take n)
theorem nb_len (l : List UInt8) (n : Nat) (h : n ≤ 8) : (nb l n).length = 8 := by
  unfold nb; rw [length_splice]
  · simp
  · simp; omega
theorem le_zeros (n : Nat) : le (List.replicate n 0) = 0 := by
  induction n with
  | zero => rfl
  | succ n ih => simp [List.replicate_succ, le, ih]
theorem nb_jn (l : List UInt8) (n : Nat) : jn (nb l n) = jn (l.take n) := by
  simp only [nb, splice, List.take_zero, List.nil_append, jn, Xc.le_append, List.drop_replicate, le_zeros]
  simp
/-- Eight bytes in a block, as a value. -/
theorem BR.cells8 {w : World} {b : Nat} {l : List UInt8} (h : BR w b l) (h8 : l.length = 8) : ∃ b0 b1 b2 b3 b4 b5 b6 b7, l = [b0, b1, b2, b3, b4, b5, b6, b7] ∧ w.cell? ⟨b, 0, none⟩ = some (.int .u8 (b0.toNat : Int)) ∧ w.cell? ⟨b, 1, none⟩ = some (.int .u8 (b1.toNat : Int)) ∧ w.cell? ⟨b, 2, none⟩ = some (.int .u8 (b2.toNat : Int)) ∧ w.cell? ⟨b, 3, none⟩ = some (.int .u8 (b3.toNat : Int)) ∧ w.cell? ⟨b, 4, none⟩ = some (.int .u8 (b4.toNat : Int)) ∧ w.cell? ⟨b, 5, none⟩ = some (.int .u8 (b5.toNat : Int)) ∧ w.cell? ⟨b, 6, none⟩ = some (.int .u8 (b6.toNat : Int)) ∧ w.cell? ⟨b, 7, none⟩ = some (.int .u8 (b7.toNat : Int)) := by
  obtain ⟨b0, b1, b2, b3, b4, b5, b6, b7, rfl⟩ := eight h8
  exact ⟨b0, b1, b2, b3, b4, b5, b6, b7, rfl, (h.2 0 (by simp)).1, (h.2 1 (by simp)).1, (h.2 2 (by simp)).1, (h.2 3 (by simp)).1, (h.2 4 (by simp)).1, (h.2 5 (by simp)).1, (h.2 6 (by simp)).1, (h.2 7 (by simp)).1⟩
end Go.Proofs.Ytielpebokbolbaa

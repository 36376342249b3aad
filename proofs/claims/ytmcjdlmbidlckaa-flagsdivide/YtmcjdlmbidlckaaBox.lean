/-
  Flags in a block of their own: kept by whatever keeps older memory; two flags compared.
-/
import Derived.Test.YtmcjdlmbidlckaaAlu
import Derived.Laws.StructEq
namespace Go.Proofs.Ytmcjdlmbidlckaa
open Go.RowKit

theorem Fl.c0 {g : Nat} {z s c o : Bool} {w : World} (h : Fl g z s c o w) : w.cell? ⟨g, 0, none⟩ = some (.bool z) := by
  simp only [Fl] at h; simp [World.cell?, h]
theorem Fl.c1 {g : Nat} {z s c o : Bool} {w : World} (h : Fl g z s c o w) : w.cell? ⟨g, 1, none⟩ = some (.bool s) := by
  simp only [Fl] at h; simp [World.cell?, h]
theorem Fl.c2 {g : Nat} {z s c o : Bool} {w : World} (h : Fl g z s c o w) : w.cell? ⟨g, 2, none⟩ = some (.bool c) := by
  simp only [Fl] at h; simp [World.cell?, h]
theorem Fl.c3 {g : Nat} {z s c o : Bool} {w : World} (h : Fl g z s c o w) : w.cell? ⟨g, 3, none⟩ = some (.bool o) := by
  simp only [Fl] at h; simp [World.cell?, h]
theorem Fl.fr {g : Nat} {z s c o : Bool} {w : World} (h : Fl g z s c o w) (j : Nat) : w.frozen? ⟨g, j, none⟩ = false := by
  simp only [Fl] at h; simp [World.frozen?, h]
theorem Fl.lt {g : Nat} {z s c o : Bool} {w : World} (h : Fl g z s c o w) : g < w.heap.size := by
  rcases Nat.lt_or_ge g w.heap.size with h' | h'
  · exact h'
  · simp [Fl, Array.getElem?_eq_none h'] at h
theorem Fl.kept {g : Nat} {z s c o : Bool} {w w' : World} (h : Fl g z s c o w) (k : Below w.heap.size w w') : Fl g z s c o w' := by
  have hl := h.lt
  unfold Fl at *; rw [k.block g hl]; exact h
theorem Fl.alloc {g : Nat} {z s c o : Bool} {w : World} (h : Fl g z s c o w) (x : Obj) : Fl g z s c o (w.alloc x) := h.kept (bel_one w x)
theorem bel_next {b : Nat} {a w w' : World} (h : Below b a w) (k : Below w.heap.size w w') (hb : b ≤ w.heap.size) : Below b a w' := h.trans (k.mono hb)
theorem bel_tr {a w w' : World} (h : Below a.heap.size a w) (k : Below w.heap.size w w') : Below a.heap.size a w' := h.trans (k.mono h.size)
theorem bel_al {a w : World} (h : Below a.heap.size a w) (x : Obj) : Below a.heap.size a (w.alloc x) := bel_tr h (bel_one w x)

theorem part_0 (x y z u : Value) (w : World) : (part 4 #[x, y, z, u] 0).run Try.prog w = .ok x w := by kernel_rfl
theorem part_1 (x y z u : Value) (w : World) : (part 4 #[x, y, z, u] 1).run Try.prog w = .ok y w := by kernel_rfl
theorem part_2 (x y z u : Value) (w : World) : (part 4 #[x, y, z, u] 2).run Try.prog w = .ok z w := by kernel_rfl
theorem part_3 (x y z u : Value) (w : World) : (part 4 #[x, y, z, u] 3).run Try.prog w = .ok u w := by kernel_rfl
theorem eql_bool (x y : Bool) (w : World) : (Op.equalIn 9999 4 (.bool x) (.bool y)).run Try.prog w = .ok (x == y) w := run_equalIn_bool w 9998 4 x y Try.underlying4
theorem eql_fl (z s c o z' s' c' o' : Bool) (w : World) : (Op.equalIn 10000 24 (.agg #[.bool z, .bool s, .bool c, .bool o]) (.agg #[.bool z', .bool s', .bool c', .bool o'])).run Try.prog w = .ok (z == z' && (s == s' && (c == c' && o == o'))) w := by
  rw [show (10000 : Nat) = 9999 + 1 from rfl, run_equalIn_struct w 9999 24 _ _ (by rw [Try.underlying24]; kernel_rfl) (by kernel_rfl)]
  simp [Program.fieldsOf, Try.underlying24, Op.eqFields, Sem.run_bind, part_0, part_1, part_2, part_3, eql_bool]
  cases h1 : (z == z') <;> cases h2 : (s == s') <;> cases h3 : (c == c') <;> cases h4 : (o == o') <;> simp_all
theorem eql_same (z s c o : Bool) (w : World) : (Op.equalIn 10000 24 (.agg #[.bool z, .bool s, .bool c, .bool o]) (.agg #[.bool z, .bool s, .bool c, .bool o])).run Try.prog w = .ok true w := by
  rw [eql_fl]; simp
end Go.Proofs.Ytmcjdlmbidlckaa

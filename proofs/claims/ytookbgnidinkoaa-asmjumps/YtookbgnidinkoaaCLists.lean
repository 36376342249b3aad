/-
  A list of instructions that comes in: what lies in its memory; no condition.
-/
import Derived.Test.YtookbgnidinkoaaCAllP
import Derived.Test.YtookbgnidinkoaaCFrames
namespace Go.Proofs.Ytookbgnidinkoaa.Xc
open Go.ChangeShapes Go.WideShapes Go.ChangeAt Go.RowKit Go.Joins
set_option linter.unusedSimpArgs false
set_option linter.unusedVariables false

theorem Try.bytes40 : Try.prog.bytesOf 40 = 56 := by kernel_rfl
theorem cell_lt {w : World} {a : Addr} {v : Value} (h : w.cell? a = some v) : a.block < w.heap.size := by
  unfold World.cell? at h
  cases hb : w.heap[a.block]? with
  | none => rw [hb] at h; cases h
  | some o => exact (Array.getElem?_eq_some_iff.1 hb).1
theorem add_lit7 (b off i : Nat) : (⟨b, off, none⟩ : Addr).add i = ⟨b, off + i, none⟩ := by
  unfold Addr.add; split <;> simp_all
/-- What a slice of instructions is: empty, or a row. -/
def XS (W : World) (a : Option Addr) (l : List Xi) : Prop := l = [] ∨ ∃ b off, a = some ⟨b, off, none⟩ ∧ XL W.heap.size W b off l
theorem open_xs {H : Type} {enc : TypeId × Value → H} {W : World} {base : Nat} {v : Value} {d : DataW H} {p : List MemPlace} (hv : Value.okWide Try.prog W .any base 46 v) (h : DataW.Trod enc Try.prog W 0 (fun _ => true) true 46 v d p) :
    ∃ (a : Option Addr) (l : List Xi) (c : Nat) (elems spare : List (DataW H)), v = .slice a (List.length l) c ∧ (l ≠ [] → d = .slice elems spare) ∧ XS W a l ∧ (l ≠ [] → elems.length = l.length) := by
  obtain ⟨a, len, cap, rfl⟩ := okWide_slice Try.underlying46 hv
  obtain ⟨fuel, hf⟩ := h
  rcases Deep.open_slice Try.underlying46 hf with ⟨hcs, hx⟩ | ⟨a, len', cap', m, n, D, Pl, hcs, _, hl, hm, hmm, hx, hcell⟩
  · simp [Value.cells] at hcs
    exact ⟨a, [], cap, [], [], by rw [hcs.2.1]; rfl, fun h => absurd rfl h, Or.inl rfl, fun h => absurd rfl h⟩
  · simp [Value.cells] at hcs
    obtain ⟨rfl, rfl, rfl⟩ := hcs
    rcases Nat.eq_zero_or_pos len with h0 | h0
    · subst h0
      exact ⟨some a, [], cap, [], [], rfl, fun h => absurd rfl h, Or.inl rfl, fun h => absurd rfl h⟩
    simp only [if_true] at hmm
    have each : ∀ i, i < len → ∃ q : Xi, q.ok ∧ ∀ k v, (xc q)[k]? = some v → W.cell? (a.add (i * 7 + k)) = some v := by
      intro i hi
      obtain ⟨cs', h1, h2⟩ := hcell i (by omega)
      rw [Try.cells40] at h1
      obtain ⟨_, hlen, hc⟩ := World.cells?_some h1
      obtain ⟨y, e, hy⟩ := open_seven hlen h2
      refine ⟨y, hy, fun k v hk => ?_⟩
      have hk7 : k < 7 := by
        have := (Array.getElem?_eq_some_iff.1 hk).1
        simpa [xc] using this
      have := hc k hk7
      rw [Deep.add_add] at this
      rw [this, e]
      simpa using hk
    haveI : Inhabited Xi := ⟨⟨0, false, 0, 0, 0, 0, 0⟩⟩
    obtain ⟨q, hq⟩ := Deep.choose_lt each
    obtain ⟨b, off, spot⟩ := a
    have hspot : spot = none := by simpa [Addr.add] using World.cell?_spot ((hq 0 h0).2 0 _ rfl)
    subst hspot
    have hx1 : d = .slice ((List.range len).map D) ((List.range (m - len)).map fun j => D (len + j)) := congrArg Prod.fst hx
    refine ⟨some ⟨b, off, none⟩, (List.range len).map q, cap, _, _, by simp, fun _ => hx1, Or.inr ⟨b, off, rfl, fun j hj => ?_⟩, by simp⟩
    have hj' : j < len := by simpa using hj
    have hc := (hq j hj').2
    have get : ((List.range len).map q)[j] = q j := by simp
    rw [get]
    have z := hc 0 _ rfl
    have cc := fun k v hk => by have := hc k v hk; rw [add_lit7] at this; exact this
    exact ⟨by have := cell_lt (cc 0 _ rfl); exact this, (hq j hj').1, cc 0 _ rfl, cc 1 _ rfl, cc 2 _ rfl, cc 3 _ rfl, cc 4 _ rfl, cc 5 _ rfl, cc 6 _ rfl⟩
theorem reach_xs {H : Type} {ts : List TypeId} {ds : List (DataW H)} (h : (DataW.weightsEach Try.prog ts ds).all (· ≤ reachBytes) = true) {j : Nat} {elems spare : List (DataW H)} (ht : ts[j]? = some 46) (hd : ds[j]? = some (.slice elems spare)) :
    56 * elems.length ≤ 140737488351232 := by
  have := sized_slice h ht hd Try.underlying46
  rw [Try.bytes40] at this
  simp only [reachBytes] at this
  omega
/-- All, of no instruction. -/
theorem all_nil (a : Option Addr) (cap : Nat) (w : World) : Calls Try.prog 17 #[.slice a 0 cap] w fun e w' => e = .returned (.tuple #[.string (str []), .int .i64 0]) ∧ Below w.heap.size w w' := by
  have hcv := cv_nil w
  go_enter Try.func17, Try.ntmps17
  go_wp2
  go_loopw [4, 9] (fun sv iv wr => sv = .slice none 0 0 ∧ iv = .int .i64 0 ∧ wr = w) (fun _ _ _ => 0)
  case atStart => exact ⟨rfl, rfl, rfl⟩
  case round =>
    obtain ⟨rfl, rfl, rfl⟩ := hrel
    go_wp2_with fail
    go_ret2
    exact ⟨rfl, Below.refl _ _⟩
theorem XS.below {W U : World} {a : Option Addr} {l : List Xi} (h : XS W a l) (k : Below W.heap.size W U) : XS U a l := by
  rcases h with h | ⟨b, off, e, hX⟩
  · exact Or.inl h
  · refine Or.inr ⟨b, off, e, fun j hj => ?_⟩
    obtain ⟨hb, ho, c0, c1, c2, c3, c4, c5, c6⟩ := hX j hj
    have cc : ∀ n v, W.cell? ⟨b, n, none⟩ = some v → U.cell? ⟨b, n, none⟩ = some v := fun n v h => (k.cell (p := ⟨b, n, none⟩) hb).trans h
    exact ⟨Nat.lt_of_lt_of_le hb k.size, ho, cc _ _ c0, cc _ _ c1, cc _ _ c2, cc _ _ c3, cc _ _ c4, cc _ _ c5, cc _ _ c6⟩
theorem all_xs (a : Option Addr) (l : List Xi) (cap : Nat) (w : World) (hX : XS w a l) (hl : 56 * l.length ≤ 140737488351232) :
    Calls Try.prog 17 #[.slice a l.length cap] w fun e w' => e = .returned (.tuple #[.string (str (aS l)), .int .i64 (aE l)]) ∧ Below w.heap.size w w' := by
  rcases hX with rfl | ⟨b, off, rfl, hX⟩
  · exact all_nil a cap w
  · exact all_any b off cap l w hl hX
end Go.Proofs.Ytookbgnidinkoaa.Xc

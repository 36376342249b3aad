/-
  The program's many, of each type of things; only the reader's own block is changed, and new memory made.
-/
import Derived.Test.YtcbfpikggphokaaGreatDoorMany
namespace Go.Proofs.YtcbfpikggphokaaGreatDoor
open Go.RowKit

theorem newT_keep {e : TypeId} {w a b : World} {q : Nat} (hq : q < w.heap.size) (h : But (One q) a b) : Same (NewT e w a) a b := fun i hi => h.block i hi.new.2 (by have := hi.1; intro x; have : i = q := x; omega)
theorem newT_more {e : TypeId} {w a b : World} (h : Same (NewT e w a) a b) : ∀ i, NewT e w a i → NewT e w b i := fun i hi => by
  obtain ⟨h1, cs, t, fr, h2, h3⟩ := id hi
  exact ⟨h1, cs, t, fr, by rw [h i hi]; exact h2, h3⟩
theorem newT_grow {e : TypeId} {w a b : World} {row : Option Nat} (hg : a.grownBy b row) (hr : ∀ j, row = some j → ∃ cs, a.heap[j]? = some (.cells cs e (0, 0))) : Same (NewT e w a) a b := fun i hi => by
  refine hg.block i hi.new.2 (fun x => ?_)
  obtain ⟨cs, hc⟩ := hr i x.symm
  obtain ⟨_, cs', t, fr, h2, h3⟩ := hi
  rw [hc] at h2
  simp at h2
  exact h3 h2.2.1.symm
theorem newT_late {e : TypeId} {w a b : World} (h : w.heap.size ≤ a.heap.size) : ∀ i, NewT e a b i → NewT e w b i := fun _ hi => ⟨Nat.le_trans h hi.1, hi.2⟩
def Csg (S : Nat → Prop) (W : World) (cs : List Value) (x : Sg) : Prop := Sl 1 EInt S W (cs.getD 0 .nilFunc) x.params ∧ Sl 1 EInt S W (cs.getD 1 .nilFunc) x.results
theorem Csg.to {S T : Nat → Prop} {A W : World} {cs : List Value} {x : Sg} (h : Csg S A cs x) (k : Same S A W) (hc : ∀ i, S i → T i) : Csg T W cs x := by
  exact ⟨h.1.to keeps_int k hc, h.2.to keeps_int k hc⟩
def Cgl (_S : Nat → Prop) (_W : World) (cs : List Value) (x : Gl) : Prop := (I64 x.t ∧ I64 x.v) ∧ cs.getD 0 .nilFunc = .int .i64 x.t ∧ cs.getD 1 .nilFunc = .int .i64 x.v
theorem Cgl.to {S T : Nat → Prop} {A W : World} {cs : List Value} {x : Gl} (h : Cgl S A cs x) : Cgl T W cs x := h
def Cda (_S : Nat → Prop) (_W : World) (cs : List Value) (x : Da) : Prop := (I64 x.mem ∧ I64 x.pos) ∧ cs.getD 0 .nilFunc = .int .i64 x.mem ∧ cs.getD 1 .nilFunc = .int .i64 x.pos ∧ cs.getD 2 .nilFunc = .string (str x.bytes)
theorem Cda.to {S T : Nat → Prop} {A W : World} {cs : List Value} {x : Da} (h : Cda S A cs x) : Cda T W cs x := h
def Cfn (S : Nat → Prop) (W : World) (cs : List Value) (x : Fn) : Prop := I64 x.sig ∧ cs.getD 0 .nilFunc = .int .i64 x.sig ∧ cs.getD 1 .nilFunc = .bool x.tr ∧ Sl 1 EInt S W (cs.getD 2 .nilFunc) x.locals ∧ Sl 3 EIn S W (cs.getD 3 .nilFunc) x.body
theorem Cfn.to {S T : Nat → Prop} {A W : World} {cs : List Value} {x : Fn} (h : Cfn S A cs x) (k : Same S A W) (hc : ∀ i, S i → T i) : Cfn T W cs x := by
  exact ⟨h.1, h.2.1, h.2.2.1, h.2.2.2.1.to keeps_int k hc, h.2.2.2.2.to keeps_in k hc⟩
theorem same_self (S : Nat → Prop) (W : World) : Same S W W := fun _ _ => rfl
/-- What a loop over things knows: it failed for good, or so many things are read, each told by its cells. -/
def MI {α : Type} (e : TypeId) (sz : Nat) (C : (Nat → Prop) → World → List Value → α → Prop) (P : List UInt8 → Option (α × List UInt8)) (M : Option (List α × List UInt8)) (n : Nat) (w wr : World) (k : Nat) (cs : List Value) (sk : Option (List UInt8)) : Prop :=
  (sk = none ∧ M = none) ∨ ∃ l xs, sk = some l ∧ xs.length = k ∧ M = (repP P (n - k) l).map (fun y => (xs ++ y.1, y.2)) ∧ ∀ j (h : j < xs.length), C (NewT e w wr) wr ((cs.drop (j * sz)).take sz) xs[j]
def KeepsC {α : Type} (C : (Nat → Prop) → World → List Value → α → Prop) : Prop := ∀ (S T : Nat → Prop) (A W : World) cs x, C S A cs x → Same S A W → (∀ i, S i → T i) → C T W cs x
theorem MI.start {α : Type} (e : TypeId) (sz : Nat) (C : (Nat → Prop) → World → List Value → α → Prop) {P : List UInt8 → Option (α × List UInt8)} {s : Option (List UInt8)} {n : Nat} (w wr : World) (h : ∀ x r, s.bind numP = some (x, r) → (n : Int) = x) :
    MI e sz C P (s.bind (manyP P)) n w wr 0 [] (rest s numP) := by
  rw [many_key (P := P) h]
  cases rest s numP with
  | none => exact Or.inl ⟨rfl, rfl⟩
  | some l =>
    refine Or.inr ⟨l, [], rfl, rfl, ?_, fun j h => absurd h (by simp)⟩
    simp only [Option.bind_some, Nat.sub_zero]
    cases repP P n l with
    | none => rfl
    | some y => simp
theorem MI.step {α : Type} {e : TypeId} {sz : Nat} {C : (Nat → Prop) → World → List Value → α → Prop} {P : List UInt8 → Option (α × List UInt8)} {M : Option (List α × List UInt8)} {n : Nat} {w wr w2 w3 : World} {k : Nat} {cs cs' : List Value} {l : List UInt8}
    (h : MI e sz C P M n w wr k cs (some l)) (hC : KeepsC C) (hk : k < n) (hl : cs.length = k * sz) (hl' : cs'.length = sz) (h1 : Same (NewT e w wr) wr w3) (hsz : w.heap.size ≤ wr.heap.size)
    (hc : ∀ x r, (some l).bind P = some (x, r) → C (NewT e wr w2) w2 cs' x) (h2 : Same (NewT e wr w2) w2 w3) : MI e sz C P M n w w3 (k + 1) (cs ++ cs') (rest (some l) P) := by
  rcases h with ⟨h, _⟩ | ⟨l', xs, h, hx, hM, he⟩
  · cases h
  · cases h
    have hn : n - k = (n - (k + 1)) + 1 := by omega
    cases hP : P l with
    | none =>
      refine Or.inl ⟨by unfold rest; simp [hP], ?_⟩
      rw [hM, hn]
      simp [repP, hP]
    | some y =>
      refine Or.inr ⟨y.2, xs ++ [y.1], by unfold rest; simp [hP], by simp [hx], ?_, ?_⟩
      · rw [hM, hn]
        simp only [repP, hP, Option.bind_some]
        cases repP P (n - (k + 1)) y.2 with
        | none => rfl
        | some z => simp
      · intro j hj
        by_cases hjx : j < xs.length
        · have hle : j * sz + sz ≤ cs.length := by
            rw [hl, ← hx]
            have : (j + 1) * sz ≤ xs.length * sz := Nat.mul_le_mul_right sz (by omega)
            rw [Nat.add_mul] at this
            omega
          rw [List.drop_append_of_le_length (by omega), List.take_append_of_le_length (by rw [List.length_drop]; omega), List.getElem_append_left hjx]
          exact hC _ _ _ _ _ _ (he j hjx) h1 (newT_more h1)
        · have ej : j = xs.length := by simp at hj; omega
          subst ej
          have e2 : ((cs ++ cs').drop (xs.length * sz)).take sz = cs' := by
            rw [hx, ← hl, List.drop_left, ← hl', List.take_length]
          rw [e2, List.getElem_append_right (Nat.le_refl _)]
          simp only [Nat.sub_self, List.getElem_cons_zero]
          refine hC _ _ _ _ _ _ (hc y.1 y.2 (by simpa using hP)) h2 (fun i hi => ?_)
          exact newT_late hsz i (newT_more h2 i hi)
theorem MI.done {α : Type} {e : TypeId} {sz : Nat} {C : (Nat → Prop) → World → List Value → α → Prop} {P : List UInt8 → Option (α × List UInt8)} {n : Nat} {w wr : World} {cs : List Value} {sk s : Option (List UInt8)} {v : Value}
    {R : (Nat → Prop) → World → Nat → Nat → α → Prop} (h : MI e sz C P (s.bind (manyP P)) n w wr n cs sk) (hC : KeepsC C) (hR : ∀ S W b o cs x, cs.length = sz → (∀ t, t < sz → W.cell? ⟨b, o + t, none⟩ = cs[t]?) → C S W cs x → R S W b o x)
    (hown : wr.ownsRow w.heap.size e sz v n cs) : rest s (manyP P) = sk ∧ ∀ x r, s.bind (manyP P) = some (x, r) → Sl sz R (New w wr) wr v x := by
  rcases h with ⟨rfl, h⟩ | ⟨l, xs, rfl, hx, hM, he⟩
  · exact ⟨by unfold rest; rw [h]; rfl, fun x r hh => by rw [h] at hh; cases hh⟩
  · rw [Nat.sub_self] at hM
    simp only [repP, Option.map_some, List.append_nil] at hM
    refine ⟨by unfold rest; rw [hM]; rfl, fun x r hh => ?_⟩
    rw [hM] at hh
    cases hh
    have hlen := hown.1
    have hlt := hown.lt
    obtain ⟨_, h2⟩ := id hown
    rcases h2 with ⟨rfl, h0⟩ | ⟨g, cap, cur, rfl, hb, _⟩
    · have e0 : xs = [] := List.eq_nil_of_length_eq_zero (by omega)
      subst e0
      exact Sl.isNil _ _ _ _
    · refine ⟨_, _, by rw [hx], fun j hj => ⟨g, 0, rfl, hlt g rfl, ?_⟩⟩
      have hle : j * sz + sz ≤ cs.length := by
        rw [hlen, ← hx]
        have : (j + 1) * sz ≤ xs.length * sz := Nat.mul_le_mul_right sz (by omega)
        rw [Nat.add_mul] at this
        omega
      refine hR _ _ _ _ ((cs.drop (j * sz)).take sz) _ (by rw [List.length_take, List.length_drop]; omega) (fun t ht => ?_) (hC _ _ _ _ _ _ (he j hj) (same_self _ _) (fun i hi => hi.new))
      rw [Nat.zero_add, hown.cellAt (j * sz + t) (by omega), List.getElem?_take, if_pos ht, List.getElem?_drop]
end Go.Proofs.YtcbfpikggphokaaGreatDoor

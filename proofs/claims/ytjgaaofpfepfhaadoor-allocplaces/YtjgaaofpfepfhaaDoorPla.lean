/-
  The program's places and the document's are the same.
-/
import Derived.Test.YtjgaaofpfepfhaaDoorRal
import Derived.Test.YtjgaaofpfepfhaaDoorSym
namespace Go.Proofs.YtjgaaofpfepfhaaDoor
open Go.RowKit
set_option linter.unusedSimpArgs false
set_option linter.unusedVariables false
theorem mu_sym {A : Nat → Nat → Bool} {n i j : Nat} (hi : i < n) (hj : j < n) : mu A n i j = mu A n j i := by
  unfold mu
  rw [if_pos ⟨hi, hj⟩, if_pos ⟨hj, hi⟩, Bool.or_comm]
  congr 1
  rw [decide_eq_decide]
  exact ⟨Ne.symm, Ne.symm⟩
theorem st_meets {d : Cd} {l : List Ir} {A F : Nat → Nat} {n m i j : Nat} (hm : d.params = (m : Int)) (hi : i < n) (hj : j < n) : mu (stB l A F m) n i j = meetsB d l A F i j := by
  rw [mu_sym hi hj, st_cls hm hj hi]
  rfl
theorem tkn_rtk {pl pl' : Nat → Int} {set n : Nat} {cl : Nat → Bool} {p : Int} (h1 : ∀ j, j < n → pl j = pl' j) (h2 : ∀ j, j < n → set.testBit j = cl j) : tkn pl set n p = rtk pl' cl p n := by
  unfold tkn rtk
  rw [Bool.eq_iff_iff, List.any_eq_true, List.any_eq_true]
  constructor
  · rintro ⟨x, hx, e⟩; exact ⟨x, hx, by rw [← h1 x (List.mem_range.1 hx), ← h2 x (List.mem_range.1 hx)]; exact e⟩
  · rintro ⟨x, hx, e⟩; exact ⟨x, hx, by rw [h1 x (List.mem_range.1 hx), h2 x (List.mem_range.1 hx)]; exact e⟩
theorem places_one {d : Cd} {l : List Ir} {A F : Nat → Nat} {nm cr n : Nat} {S : Nat → Nat} {pl : Nat → Int} {ns : List Int} (hn : ns.length = n) (hS : ∀ i, i < n → ∀ j, j < n → (S i).testBit j = meetsB d l A F i j)
    (h1 : Plc nm cr S n pl) (h2 : RPl d l A F nm cr ns) : ∀ i, i < n → pl i = nth ns i := by
  intro i
  induction i using Nat.strongRecOn with
  | _ i ih =>
    intro hi
    obtain ⟨a1, a2⟩ := h1 i hi
    obtain ⟨b1, b2⟩ := h2 i (by omega)
    cases hb : nm.testBit i
    · rw [a1 hb, b1 hb]
    · obtain ⟨g1, g2, g3⟩ := a2 hb
      obtain ⟨k1, k2, k3⟩ := b2 hb
      have e : ∀ p, tkn pl (S i) i p = rtk (nth ns) (meetsB d l A F i) p i := fun p => tkn_rtk (fun j hj => ih j hj (by omega)) (fun j hj => hS i hi j (by omega))
      rcases Int.lt_trichotomy (pl i) (nth ns i) with h | h | h
      · have := k3 _ g1 h
        rw [← e, g2] at this; cases this
      · exact h
      · have := g3 _ k1 h
        rw [e, k2] at this; cases this
theorem crT_same {l : List Ir} {F F' : Nat → Nat} (h : ∀ i, i < l.length → F i = F' i) : ∀ k, k ≤ l.length → crT l F k = crT l F' k
  | 0, _ => rfl
  | k + 1, hk => by rw [crT_is, crT_is, crT_same h k (by omega), h k (by omega)]
theorem meets_same {d : Cd} {l : List Ir} {A F A' F' : Nat → Nat} (hA : ∀ i, i < l.length → A i = A' i) (hF : ∀ i, i < l.length → F i = F' i) (i : Nat) : meetsB d l A F i = meetsB d l A' F' i := by
  funext j
  unfold meetsB cls
  rw [giv_same hA, spo_same hF, spo_same hF]
/-- What the two bring, one beside the other. -/
theorem alloc_both {d : Cd} {l : List Ir} {w w1 w2 : World} {e e2 : Ending} (h : AEnds d l w e w1) (k : RAEnds d l w1 e2 w2) :
    (fitb d l = false ∧ e = .returned (.tuple #[.slice none 0 0, .int .i64 4]) ∧ e2 = .returned (.tuple #[.slice none 0 0, .bool false]) ∧ Below w.heap.size w w1 ∧ Below w1.heap.size w1 w2) ∨
    (fitb d l = true ∧ ∃ (r n : Nat) (v : Value) (ns : List Int), d.cells = (n : Int) ∧ ns.length = n ∧ e = .returned (.tuple #[.slice (some ⟨r, 0, none⟩) n n, .int .i64 0]) ∧ e2 = .returned (.tuple #[v, .bool true]) ∧ w.heap.size ≤ r ∧
      VRow r n (fun i => .int .i64 (nth ns i)) w1 ∧ Nv w1.heap.size v ns w2 ∧ Below w.heap.size w w1 ∧ Below w1.heap.size w1 w2) := by
  rcases h with ⟨hf, rfl, b1⟩ | ⟨hf, n, m, r, A, F, S, pl, hn, hm, rfl, hr, hv, hs, hS, hp, b1⟩ <;> rcases k with ⟨kf, rfl, b2⟩ | ⟨kf, n', m', A1, F1, A2, F2, v, ns, hn', hm', s1, s2, hl, rfl, nv, rp, b2⟩
  · exact Or.inl ⟨hf, rfl, rfl, b1, b2⟩
  · rw [hf] at kf; cases kf
  · rw [hf] at kf; cases kf
  · obtain rfl : n' = n := by omega
    obtain rfl : m' = m := by omega
    have hA : ∀ i, i < l.length → A i = A2 i := fun i hi => (hs.one s2 (show i < (sy l).n from hi)).1
    have hF : ∀ i, i < l.length → F i = F2 i := fun i hi => (hs.one s2 (show i < (sy l).n from hi)).2
    have hF1 : ∀ i, i < l.length → F1 i = F i := fun i hi => (s1.one hs (show i < (sy l).n from hi)).2
    rw [crT_same hF1 l.length (Nat.le_refl _)] at rp
    have P := places_one hl (fun i hi j hj => by rw [hS i hi j, st_meets hm hi hj, meets_same hA hF]) hp rp
    exact Or.inr ⟨hf, r, n', v, ns, hn, hl, rfl, rfl, hr, hv.congr fun i hi => by rw [P i hi], nv, b1, b2⟩
end Go.Proofs.YtjgaaofpfepfhaaDoor

/-
  Merged: Fwp Iap Few.
-/
import Derived.Test.YtjgaaofpfepfhaaDoorApx
import Derived.Test.YtjgaaofpfepfhaaDoorX4
import Derived.Laws.AppendOwn
import Derived.Laws.AppendOwnNone
/-
  A call that brings nothing, behind a code: its places are the same. Plain.
-/
namespace Go.Proofs.YtjgaaofpfepfhaaDoor
open Go.RowKit
set_option linter.unusedSimpArgs false
set_option linter.unusedVariables false
def irC : Ir := ⟨14, -1, 0, 0, 0, 0, 0⟩
section
variable {l : List Ir} {i : Nat}
theorem at_old (hi : i < l.length) : (l ++ [irC]).getD i ir0 = l.getD i ir0 := by
  simp [List.getD, List.getElem?_append_left hi]
theorem at_new : (l ++ [irC]).getD l.length ir0 = irC := by
  simp [List.getD]
theorem rdC : rdS irC = 0 := by kernel_rfl
theorem wrC : wrS irC = 0 := by kernel_rfl
theorem cnt_two (n : Int) : cnt (l ++ [irC]) n = cnt l n := by
  unfold cnt
  rw [List.countP_append]
  have : List.countP (lbl n) [irC] = 0 := by
    simp [List.countP_cons, lbl, irC]
  omega
theorem fit_two {d : Cd} (h : fitb d l = true) : fitb d (l ++ [irC]) = true := by
  unfold fitb at h ⊢
  simp only [Bool.and_eq_true, decide_eq_true_eq] at h ⊢
  refine ⟨h.1, h.2.1, h.2.2.1, ?_⟩
  rw [List.all_append, Bool.and_eq_true]
  constructor
  · rw [List.all_eq_true]
    intro x hx
    have := List.all_eq_true.1 h.2.2.2 x hx
    unfold okx at this ⊢
    rw [cnt_two]; exact this
  · simp [okx, nam, irC, raw, jmp]
theorem nm_two {m : Nat} : ∀ k, k ≤ l.length → nmT (l ++ [irC]) m k = nmT l m k
  | 0, _ => rfl
  | k + 1, hk => by rw [nmT_is, nmT_is, nm_two k (by omega), at_old hk]
theorem nm_new {m : Nat} : nmT (l ++ [irC]) m (l ++ [irC]).length = nmT l m l.length := by
  rw [List.length_append, List.length_singleton, nmT_is, at_new, rdC, wrC, nm_two _ (Nat.le_refl _)]
  simp
theorem fst_two (n : Int) : fst (l ++ [irC]) n = fst l n := by
  unfold fst
  rw [List.findIdx?_append]
  cases h : List.findIdx? (lbl n) l with
  | some p => rfl
  | none => simp [List.findIdx?_cons, lbl, irC]
theorem nxr_mem_old {x : Ir} (hi : i < l.length) (p : Int) : p ∈ nxr l x i → p ∈ nxr (l ++ [irC]) x i := by
  unfold nxr
  rw [fst_two]
  split
  · exact fun h => h
  · rw [List.mem_append, List.mem_append]
    rintro (h | h)
    · exact Or.inl h
    · refine Or.inr ?_
      by_cases hc : x.op ≠ 10 ∧ i + 1 < l.length
      · rw [if_pos hc] at h
        rw [if_pos ⟨hc.1, by rw [List.length_append]; omega⟩]; exact h
      · rw [if_neg hc] at h; cases h
theorem nxr_mem_new {x : Ir} (hi : i < l.length) (p : Int) : p ∈ nxr (l ++ [irC]) x i → p ∈ nxr l x i ∨ p = (l.length : Int) := by
  unfold nxr
  rw [fst_two]
  split
  · exact fun h => Or.inl h
  · rw [List.mem_append, List.mem_append]
    rintro (h | h)
    · exact Or.inl (Or.inl h)
    · by_cases hc : x.op ≠ 10 ∧ i + 1 < (l ++ [irC]).length
      · rw [if_pos hc] at h
        rcases Nat.lt_or_ge (i + 1) l.length with h1 | h1
        · rw [if_pos (show x.op ≠ 10 ∧ i + 1 < l.length from ⟨hc.1, h1⟩)]; exact Or.inl (Or.inr h)
        · refine Or.inr ?_
          rw [List.mem_singleton] at h
          omega
      · rw [if_neg hc] at h; cases h
theorem sy_n : (sy (l ++ [irC])).n = l.length + 1 := by simp [sy]
theorem nx_old (hi : i < l.length) {p : Nat} (hp : p ∈ (sy l).nx i) : p ∈ (sy (l ++ [irC])).nx i := by
  obtain ⟨z, hz, rfl⟩ := List.mem_map.1 hp
  refine List.mem_map.2 ⟨z, ?_, rfl⟩
  unfold nxt at hz ⊢
  rw [sc_mem] at hz ⊢
  rw [at_old hi]
  exact nxr_mem_old hi z hz
theorem nx_new (hi : i < l.length) {p : Nat} (hp : p ∈ (sy (l ++ [irC])).nx i) : p ∈ (sy l).nx i ∨ p = l.length := by
  obtain ⟨z, hz, rfl⟩ := List.mem_map.1 hp
  unfold nxt at hz
  rw [sc_mem, at_old hi] at hz
  rcases nxr_mem_new hi z hz with h | h
  · exact Or.inl (List.mem_map.2 ⟨z, by unfold nxt; rw [sc_mem]; exact h, rfl⟩)
  · exact Or.inr (by omega)
theorem nx_end : (sy (l ++ [irC])).nx l.length = [] := by
  show (nxt (l ++ [irC]) l.length).map Int.toNat = []
  have : nxr (l ++ [irC]) irC l.length = [] := by
    unfold nxr
    simp [irC, jmp]
  unfold nxt
  rw [at_new, this]
  have h : ∀ y, y ∉ sc [] := fun y hy => by rw [sc_mem] at hy; cases hy
  rw [List.eq_nil_iff_forall_not_mem.2 h]; rfl
theorem dn_nil : dn 0 0 = 0 := by decide
theorem end_zero {A F : Nat → Nat} (h : Sol (sy (l ++ [irC])) A F) : A l.length = 0 ∧ F l.length = 0 := by
  have hi : l.length < (sy (l ++ [irC])).n := by rw [sy_n]; omega
  have hF : F l.length = 0 := by
    rw [h.f _ hi]
    unfold un
    rw [nx_end]; rfl
  refine ⟨?_, hF⟩
  rw [h.a _ hi]
  unfold lv
  rw [hF]
  show rdS ((l ++ [irC]).getD l.length ir0) ||| dn 0 (wrS ((l ++ [irC]).getD l.length ir0)) = 0
  rw [at_new, rdC, wrC, dn_nil]; rfl
theorem nx_in (hi : i < l.length) {p : Nat} (hp : p ∈ (sy l).nx i) : p < l.length := by
  obtain ⟨z, hz, rfl⟩ := List.mem_map.1 hp
  unfold nxt at hz
  rw [sc_mem] at hz
  have := nxr_in z hz
  omega
theorem lv_two (hi : i < l.length) (f : Nat) : lv (sy (l ++ [irC])) i f = lv (sy l) i f := by
  show rdS ((l ++ [irC]).getD i ir0) ||| dn f (wrS ((l ++ [irC]).getD i ir0)) = rdS (l.getD i ir0) ||| dn f (wrS (l.getD i ir0))
  rw [at_old hi]
/-- What is live in the code with the call is what is live in the code. -/
theorem sol_two {A F : Nat → Nat} (h : Sol (sy (l ++ [irC])) A F) : Sol (sy l) A F := by
  obtain ⟨hA, hF⟩ := end_zero h
  have lt : ∀ i, i < l.length → i < (sy (l ++ [irC])).n := fun i hi => by rw [sy_n]; omega
  refine ⟨fun i hi => h.la i (lt i hi), fun i hi => h.lf i (lt i hi), fun i hi => ?_, fun i hi => ?_, fun A' F' hc i hi => ?_⟩
  · rw [h.f i (lt i hi)]
    refine sub.antisymm (ors_sub fun s hs => ?_) (ors_sub fun s hs => ?_)
    · obtain ⟨p, hp, rfl⟩ := List.mem_map.1 hs
      rcases nx_new hi hp with h1 | h1
      · exact sub_ors (List.mem_map.2 ⟨p, h1, rfl⟩)
      · rw [h1, hA]; exact zero_sub _
    · obtain ⟨p, hp, rfl⟩ := List.mem_map.1 hs
      exact sub_ors (List.mem_map.2 ⟨p, nx_old hi hp, rfl⟩)
  · rw [h.a i (lt i hi), lv_two hi]
  · let A2 : Nat → Nat := fun j => if j < l.length then A' j else 0
    let F2 : Nat → Nat := fun j => if j < l.length then F' j else 0
    have eA : ∀ j, j < l.length → A2 j = A' j := fun j hj => if_pos hj
    have eF : ∀ j, j < l.length → F2 j = F' j := fun j hj => if_pos hj
    have zA : A2 l.length = 0 := if_neg (by omega)
    have zF : F2 l.length = 0 := if_neg (by omega)
    have cl : Clo (sy (l ++ [irC])) A2 F2 := by
      refine ⟨fun j hj => ?_, fun j hj => ?_, fun j hj p hp => ?_, fun j hj => ?_⟩
      · rw [sy_n] at hj
        rcases Nat.lt_succ_iff_lt_or_eq.1 hj with h1 | rfl
        · rw [eA j h1]; exact hc.la j h1
        · rw [zA]; decide
      · rw [sy_n] at hj
        rcases Nat.lt_succ_iff_lt_or_eq.1 hj with h1 | rfl
        · rw [eF j h1]; exact hc.lf j h1
        · rw [zF]; decide
      · rw [sy_n] at hj
        rcases Nat.lt_succ_iff_lt_or_eq.1 hj with h1 | rfl
        · rw [eF j h1]
          rcases nx_new h1 hp with h2 | rfl
          · rw [eA p (nx_in h1 h2)]; exact hc.f j h1 p h2
          · rw [zA]; exact zero_sub _
        · rw [nx_end] at hp; cases hp
      · rw [sy_n] at hj
        rcases Nat.lt_succ_iff_lt_or_eq.1 hj with h1 | rfl
        · rw [eA j h1, eF j h1, lv_two h1]; exact hc.a j h1
        · rw [zA, zF]
          show sub (rdS ((l ++ [irC]).getD l.length ir0) ||| dn 0 (wrS ((l ++ [irC]).getD l.length ir0))) 0
          rw [at_new, rdC, wrC, dn_nil]; exact zero_sub _
    have := h.least A2 F2 cl i (lt i hi)
    rw [eA i hi, eF i hi] at this
    exact this
theorem cr_two {F : Nat → Nat} : ∀ k, k ≤ l.length → crT (l ++ [irC]) F k = crT l F k
  | 0, _ => rfl
  | k + 1, hk => by rw [crT_is, crT_is, cr_two k (by omega), at_old hk]
theorem cr_new {A F : Nat → Nat} (h : Sol (sy (l ++ [irC])) A F) : crT (l ++ [irC]) F (l ++ [irC]).length = crT l F l.length := by
  rw [List.length_append, List.length_singleton, crT_is, at_new, wrC, (end_zero h).2, dn_nil, cr_two _ (Nat.le_refl _)]
  simp
theorem spo_two (F : Nat → Nat) (a b : Nat) : spo (l ++ [irC]) F (a : Int) (b : Int) = spo l F (a : Int) (b : Int) := by
  unfold spo
  rw [List.length_append, List.length_singleton, List.range_succ, List.any_append]
  have h1 : (List.range l.length).any (spl (l ++ [irC]) F a b) = (List.range l.length).any (spl l F a b) := by
    rw [Bool.eq_iff_iff, List.any_eq_true, List.any_eq_true]
    constructor <;> rintro ⟨x, hx, e⟩ <;> refine ⟨x, hx, ?_⟩ <;> unfold spl at e ⊢ <;> rw [at_old (List.mem_range.1 hx)] at * <;> exact e
  have h2 : spl (l ++ [irC]) F a b l.length = false := by
    unfold spl
    rw [at_new]
    have : df irC = -1 := by kernel_rfl
    rw [this, decide_eq_false (by omega)]; rfl
  simp only [List.any_cons, List.any_nil]
  rw [h1, h2]; simp
theorem stB_two {A F : Nat → Nat} (h : Sol (sy (l ++ [irC])) A F) (m i j : Nat) : stB (l ++ [irC]) A F m i j = stB l A F m i j := by
  rw [stB_is, stB_is, spo_two]
  congr 2
  rcases Nat.eq_zero_or_pos l.length with h0 | h0
  · have e := (end_zero h).1
    rw [h0] at e
    rw [e]; simp
  · rw [List.length_append, List.length_singleton, decide_eq_true h0, decide_eq_true (by omega)]
theorem mu_two {A F : Nat → Nat} (h : Sol (sy (l ++ [irC])) A F) (m n i j : Nat) : mu (stB (l ++ [irC]) A F m) n i j = mu (stB l A F m) n i j := by
  unfold mu
  rw [stB_two h, stB_two h]
end
theorem stB_same {l : List Ir} {A F A' F' : Nat → Nat} (hA : ∀ i, i < l.length → A i = A' i) (hF : ∀ i, i < l.length → F i = F' i) (m i j : Nat) : stB l A F m i j = stB l A' F' m i j := by
  rw [stB_is, stB_is, spo_same hF]
  congr 2
  rcases Nat.eq_zero_or_pos l.length with h0 | h0
  · rw [h0]; simp
  · rw [hA 0 h0]
theorem plc_one {nm cr n : Nat} {S S' : Nat → Nat} {pl pl' : Nat → Int} (hS : ∀ i, i < n → ∀ j, (S i).testBit j = (S' i).testBit j) (h1 : Plc nm cr S n pl) (h2 : Plc nm cr S' n pl') : ∀ i, i < n → pl i = pl' i := by
  intro i
  induction i using Nat.strongRecOn with
  | _ i ih =>
    intro hi
    obtain ⟨a1, a2⟩ := h1 i hi
    obtain ⟨b1, b2⟩ := h2 i hi
    cases hb : nm.testBit i
    · rw [a1 hb, b1 hb]
    · have e : S i = S' i := Nat.eq_of_testBit_eq (hS i hi)
      have g := (a2 hb).congr (pl' := pl') fun j hj => ih j hj (by omega)
      rw [e] at g
      exact g.one (b2 hb)
/-- Without calls nothing crosses one. -/
theorem cr_none {l : List Ir} {F : Nat → Nat} (h : l.any (fun x => decide (x.op = 14)) = false) : ∀ k, k ≤ l.length → crT l F k = 0
  | 0, _ => rfl
  | k + 1, hk => by
    rw [crT_is, cr_none h k (by omega), if_neg]
    have := List.any_eq_false.1 h (l.getD k ir0) (getD_mem (by omega))
    simpa using this
theorem plc_less {nm n : Nat} {S : Nat → Nat} {pl : Nat → Int} (h : Plc nm 0 S n pl) {i : Nat} (hi : i < n) : pl i ≤ (i : Int) := by
  obtain ⟨h0, h1⟩ := h i hi
  cases hb : nm.testBit i
  · have := h0 hb; omega
  · have g := h1 hb
    have hf : fsz 0 i = 0 := by unfold fsz; simp
    rw [hf] at g
    have gg := g.ge
    obtain ⟨k, hk⟩ : ∃ k : Nat, pl i = (k : Int) := ⟨(pl i).toNat, by omega⟩
    have := pig_tkn (pl := pl) (set := S i) (n := i) (k := k) (a := 0) fun q h1 h2 => g.all q h1 (by omega)
    omega
theorem grt_five {pl : Nat → Int} {n : Nat} (h : ∀ i, i < n → pl i ≤ 5) : grt pl n = 5 := by
  have := grt_le (b := 5) (by omega) h n (Nat.le_refl _)
  omega
/-- Two rows of places that the two codes get. -/
theorem two_same {d : Cd} {l : List Ir} {w w1 w2 w3 : World} {e e2 : Ending} (h : AEnds d l w e w1) (k : AEnds d (l ++ [irC]) w2 e2 w3) (hb : Below w1.heap.size w1 w3) :
    (fitb d l = false ∧ e = .returned (.tuple #[.slice none 0 0, .int .i64 4]) ∧ Below w.heap.size w w1) ∨
    (fitb d l = true ∧ ∃ (r r' n : Nat) (pl : Nat → Int), d.cells = (n : Int) ∧ n ≤ 60 ∧ e = .returned (.tuple #[.slice (some ⟨r, 0, none⟩) n n, .int .i64 0]) ∧ e2 = .returned (.tuple #[.slice (some ⟨r', 0, none⟩) n n, .int .i64 0]) ∧
      VRow r n (fun i => .int .i64 (pl i)) w3 ∧ VRow r' n (fun i => .int .i64 (pl i)) w3 ∧ (l.any (fun x => decide (x.op = 14)) = false → n ≤ 6 → grt pl n = 5) ∧ (∀ i, i < n → pl i ≤ 66) ∧ Below w.heap.size w w1 ∧ Below w2.heap.size w2 w3) := by
  rcases h with ⟨hf, rfl, b1⟩ | ⟨hf, n, m, r, A, F, S, pl, hn, hm, rfl, hr, hv, hs, hS, hp, b1⟩
  · exact Or.inl ⟨hf, rfl, b1⟩
  · refine Or.inr ⟨hf, ?_⟩
    rcases k with ⟨kf, rfl, b2⟩ | ⟨kf, n', m', r', A', F', S', pl', kn, km, rfl, kr, kv, ks, kS, kp, b2⟩
    · rw [fit_two hf] at kf; cases kf
    · obtain rfl : n' = n := by omega
      obtain rfl : m' = m := by omega
      have ks' := sol_two ks
      have hA : ∀ i, i < l.length → A' i = A i := fun i hi => (ks'.one hs (show i < (sy l).n from hi)).1
      have hF : ∀ i, i < l.length → F' i = F i := fun i hi => (ks'.one hs (show i < (sy l).n from hi)).2
      rw [nm_new, cr_new ks, crT_same hF l.length (Nat.le_refl _)] at kp
      have P := plc_one (fun i hi j => by
        rw [hS i hi j, kS i hi j, mu_two ks]
        unfold mu
        rw [stB_same hA hF, stB_same hA hF]) hp kp
      have FP := fit_parts hf
      have hle : ∀ i, i < n' → pl i ≤ 66 := fun i hi => by
        have := (plc_at hp (cr_nm hs (fit_ok hf) (by omega) _ (Nat.le_refl _)) hi).2.2
        omega
      refine ⟨r, r', n', pl, hn, by omega, rfl, rfl, hv.of (hb.block _ hv.lt), kv.congr fun i hi => by rw [P i hi], fun hc h6 => ?_, hle, b1, b2⟩
      rw [cr_none hc _ (Nat.le_refl _)] at hp
      exact grt_five fun i hi => by have := plc_less hp hi; omega
end Go.Proofs.YtjgaaofpfepfhaaDoor
/-
  Instructions appended to a row of one's own.
-/
namespace Go.Proofs.YtjgaaofpfepfhaaDoor
open Go.RowKit Go.ChangeShapes Go.WideShapes Go.ChangeAt
set_option linter.unusedSimpArgs false
set_option linter.unusedVariables false
set_option maxRecDepth 100000
def cel7 (l : List Ir) : List Value := l.flatMap fun x => (xc x).toList
theorem cel7_app (l m : List Ir) : cel7 (l ++ m) = cel7 l ++ cel7 m := by simp [cel7]
theorem cel7_len : ∀ l : List Ir, (cel7 l).length = l.length * 7
  | [] => rfl
  | x :: r => by
    have := cel7_len r
    simp only [cel7, List.flatMap_cons, List.length_append, List.length_cons] at this ⊢
    rw [this]; simp [xc]; omega
theorem cel7_one (l : List Ir) : ∀ u ∈ cel7 l, u.oneCell' = true := by
  intro u hu
  obtain ⟨x, _, hu⟩ := List.mem_flatMap.1 hu
  simp only [xc, List.mem_cons, List.not_mem_nil, or_false] at hu
  rcases hu with rfl | rfl | rfl | rfl | rfl | rfl | rfl <;> rfl
theorem cel7_get : ∀ (l : List Ir) (q : Nat) (h : q < l.length) (r : Nat), r < 7 → (cel7 l)[q * 7 + r]? = (xc l[q]).toList[r]?
  | x :: l, 0, h, r, hr => by
    simp only [cel7, List.flatMap_cons, Nat.zero_mul, Nat.zero_add, List.getElem_cons_zero]
    rw [List.getElem?_append_left (by simp [xc]; omega)]
  | x :: l, q + 1, h, r, hr => by
    have := cel7_get l q (by simpa using h) r hr
    simp only [cel7, List.flatMap_cons, List.getElem_cons_succ] at this ⊢
    rw [List.getElem?_append_right (by simp [xc]; omega), ← this]
    congr 1
    simp [xc]; omega
theorem ir_news {n₀ : Nat} {W : World} {ad : Addr} {l : List Ir} (h : IR n₀ W (some ad) l) : ∀ j u, (cel7 l)[j]? = some u → W.cell? (ad.add j) = some u := by
  intro j u hu
  have hj : j < (cel7 l).length := (List.getElem?_eq_some_iff.1 hu).1
  rw [cel7_len] at hj
  have hq : j / 7 < l.length := by omega
  have hr : j % 7 < 7 := Nat.mod_lt _ (by omega)
  have ej : j = j / 7 * 7 + j % 7 := by omega
  rw [ej, cel7_get l (j / 7) hq (j % 7) hr] at hu
  obtain ⟨b, off, e, hbb, ⟨c0, c1, c2, c3, c4, c5, c6⟩, ho⟩ := h (j / 7) hq
  injection e with e
  subst e
  rw [add_lit7]
  have eo : off + j = off + j / 7 * 7 + j % 7 := by omega
  rw [eo]
  generalize j % 7 = r at *
  generalize j / 7 = q at *
  clear ej eo hj
  match r, hr with
  | 0, _ => rw [Nat.add_zero, c0]; exact hu
  | 1, _ => rw [c1]; exact hu
  | 2, _ => rw [c2]; exact hu
  | 3, _ => rw [c3]; exact hu
  | 4, _ => rw [c4]; exact hu
  | 5, _ => rw [c5]; exact hu
  | 6, _ => rw [c6]; exact hu
theorem info43 : (Tryd.prog.info? 43).map (fun i => (i.zero, i.size, i.bytes)) = some (some (.agg #[.int .i64 0, .int .i64 0, .int .i64 0, .int .i64 0, .int .i64 0, .int .i64 0, .int .i64 0]), 7, 56) := by kernel_rfl
/-- A row of one's own. -/
def IO (B : Nat) (v : Value) (l : List Ir) (w : World) : Prop := w.ownsRow B 43 7 v l.length (cel7 l)
theorem IO.nil (B : Nat) (w : World) : IO B (.slice none 0 0) [] w := World.ownsRow_nil _ _ _ _
theorem IO.kept {B : Nat} {v : Value} {l : List Ir} {w w' : World} (h : IO B v l w) (k : Below w.heap.size w w') : IO B v l w' := own_kept h k
/-- append, as a law for the walk. -/
theorem append_irs {ops : Array Oper} {rest : List Oper} {o : Oper} {a : Act} {Q : Exit → Act → World → Prop} {w : World} (hgd : o.guard = none) (s x : Operand)
    (ho : o.op = .call { callee := .builtin .append, args := #[s, x], argTypes := #[22, 22] }) (B : Nat) (v : Value) (l0 : List Ir) (hs : a.eval s = v) (hown : IO B v l0 w) (hB : B ≤ w.heap.size)
    (ad : Option Addr) (c : Nat) (l : List Ir) (hx : a.eval x = .slice ad l.length c) (hn : ad = none → c = 0 ∧ l = []) (n₀ : Nat) (hI : IR n₀ w ad l) (hl : l0.length + l.length ≤ 2000)
    (h : ∀ v' w', IO B v' (l0 ++ l) w' → Below B w w' → wpList Tryd.prog ops Q rest (a.put o.dst v') w') : wpList Tryd.prog ops Q (o :: rest) a w := by
  obtain ⟨i0, hi, hz0, hz1, hz2⟩ := info_parts info43
  cases ad with
  | none =>
    obtain ⟨rfl, rfl⟩ := hn rfl
    refine wpList_append_own_none hgd s x 22 ho B 43 i0 7 Tryd.underlying22 hi _ l0.length (cel7 l0) hs hown hx (h _ _ ?_ (Below.refl _ _))
    rw [List.append_nil]; exact hown
  | some ad =>
    refine wpList_append_own _ hgd s x 22 ho B 43 i0 _ 7 56 Tryd.underlying22 hi hz0 hz1 hz2 rfl (by decide) _ l0.length (cel7 l0) hs hown ad l.length c (cel7 l) hx (by rw [cel7_len]) (ir_news hI) (cel7_one l) (by unfold maxLen; omega) (by omega) hB fun v' w' h2 h3 _ => ?_
    refine h v' w' ?_ (own_bel hown hB h3)
    show w'.ownsRow _ _ _ _ _ _
    rw [List.length_append, cel7_app]
    exact h2
theorem IO.ir {B : Nat} {v : Value} {l : List Ir} {w : World} (h : IO B v l w) (hok : ∀ x ∈ l, x.ok) : ∃ a c, v = .slice a l.length c ∧ IR w.heap.size w a l := by
  have lt0 := h.lt
  rcases h.2 with ⟨rfl, e⟩ | ⟨g, cap, cur, rfl, hb, _⟩
  · have : l = [] := List.length_eq_zero_iff.1 e
    subst this
    exact ⟨none, 0, rfl, fun j hj => absurd hj (Nat.not_lt_zero _)⟩
  · refine ⟨some ⟨g, 0, none⟩, cap, rfl, fun j hj => ⟨g, 0, rfl, (lt0 g rfl).2, ?_, hok _ (List.getElem_mem hj)⟩⟩
    have at_ : ∀ r, r < 7 → w.cell? ⟨g, 0 + j * 7 + r, none⟩ = (xc l[j]).toList[r]? := fun r hr => by
      rw [Nat.zero_add, ← cel7_get l j hj r hr]
      exact h.cellAt _ (by omega)
    exact ⟨at_ 0 (by omega), at_ 1 (by omega), at_ 2 (by omega), at_ 3 (by omega), at_ 4 (by omega), at_ 5 (by omega), at_ 6 (by omega)⟩
theorem ir_lit (U : World) : IR (U.alloc (.cells #[.int .i64 14, .int .i64 (-1), .int .i64 0, .int .i64 0, .int .i64 0, .int .i64 0, .int .i64 0] 43)).heap.size (U.alloc (.cells #[.int .i64 14, .int .i64 (-1), .int .i64 0, .int .i64 0, .int .i64 0, .int .i64 0, .int .i64 0] 43)) (some ⟨U.heap.size, 0, none⟩) [irC] := fun j hj => by
  have e := heap_alloc_new U (.cells #[.int .i64 14, .int .i64 (-1), .int .i64 0, .int .i64 0, .int .i64 0, .int .i64 0, .int .i64 0] 43)
  have hs : U.heap.size < (U.alloc (.cells #[.int .i64 14, .int .i64 (-1), .int .i64 0, .int .i64 0, .int .i64 0, .int .i64 0, .int .i64 0] 43)).heap.size := by simp
  generalize U.alloc (.cells #[.int .i64 14, .int .i64 (-1), .int .i64 0, .int .i64 0, .int .i64 0, .int .i64 0, .int .i64 0] 43) = W at *
  refine ⟨U.heap.size, 0, rfl, hs, ?_, ?_⟩
  · match j, hj with
    | 0, _ => constructor <;> simp [World.cell?, e, irC]
    | j + 1, h => exact absurd h (by simp)
  · match j, hj with
    | 0, _ => simp [irC, Ir.ok, I64]
    | j + 1, h => exact absurd h (by simp)
/- A code that comes in: nil has no room. -/
section
variable {H : Type} {enc : TypeId × Value → H} {W : World}
theorem open_irs_nil {fuel : Nat} {cs : List Value} {x : DataW H × List MemPlace} (h : DataW.trod enc Tryd.prog W 0 (fun _ => true) true fuel 22 cs = some x) :
    ∃ (a : Option Addr) (l : List Ir) (c : Nat), cs = [.slice a (List.length l) c] ∧ IR W.heap.size W a l ∧ l.length ≤ c ∧ (a = none → c = 0) := by
  rcases Deep.open_slice Tryd.underlying22 h with ⟨hcs, hx⟩ | ⟨a, len, cap, m, n, D, Pl, hcs, _, hl, hm, hmm, hx, hcell⟩
  · exact ⟨_, [], _, hcs, fun j hj => absurd hj (Nat.not_lt_zero _), Nat.zero_le _, fun _ => rfl⟩
  rcases Nat.eq_zero_or_pos len with h0 | h0
  · subst h0
    exact ⟨_, [], _, hcs, fun j hj => absurd hj (Nat.not_lt_zero _), Nat.zero_le _, fun h => by cases h⟩
  simp only [if_true] at hmm
  have each : ∀ i, i < len → ∃ q : Ir, q.ok ∧ ∀ k v, (xc q).toList[k]? = some v → W.cell? (a.add (i * 7 + k)) = some v := by
    intro i hi
    obtain ⟨cs', h1, h2⟩ := hcell i (by omega)
    rw [c_43] at h1
    obtain ⟨_, hlen, hc⟩ := World.cells?_some h1
    obtain ⟨y, e, hy⟩ := open_seven hlen h2
    refine ⟨y, hy, fun k v hk => ?_⟩
    have hk7 : k < 7 := by
      have := (List.getElem?_eq_some_iff.1 hk).1
      simpa [xc] using this
    have := hc k hk7
    rw [Deep.add_add] at this
    rw [this, e]
    exact hk
  haveI : Inhabited Ir := ⟨ir0⟩
  obtain ⟨q, hq⟩ := Deep.choose_lt each
  obtain ⟨b, off, spot⟩ := a
  have hspot : spot = none := by simpa [Addr.add] using World.cell?_spot ((hq 0 h0).2 0 _ rfl)
  subst hspot
  refine ⟨some ⟨b, off, none⟩, (List.range len).map q, cap, by rw [hcs]; simp, fun j hj => ?_, by simpa using hl, fun h => by cases h⟩
  have hj' : j < len := by simpa using hj
  have hc := (hq j hj').2
  have get : ((List.range len).map q)[j] = q j := by simp
  rw [get]
  have cc := fun k v hk => by have := hc k v hk; rw [add_lit7] at this; exact this
  exact ⟨b, off, rfl, cell_lt (cc 0 _ rfl), ⟨cc 0 _ rfl, cc 1 _ rfl, cc 2 _ rfl, cc 3 _ rfl, cc 4 _ rfl, cc 5 _ rfl, cc 6 _ rfl⟩, (hq j hj').1⟩
theorem open_code_nil {base : Nat} {v : Value} {d : DataW H} {p : List MemPlace} (hv : Value.okWide Tryd.prog W .any base 24 v) (h : DataW.Trod enc Tryd.prog W 0 (fun _ => true) true 24 v d p) :
    ∃ (c : Cd) (a : Option Addr) (l : List Ir) (cap : Nat), v = cv c a l.length cap ∧ IR W.heap.size W a l ∧ l.length ≤ cap ∧ (a = none → cap = 0) := by
  obtain ⟨cs, rfl, hsz⟩ := okWide_struct Tryd.underlying24 hv
  rw [c_24] at hsz
  obtain ⟨fuel, hf0⟩ := h
  obtain ⟨xs, k, _, hx, _, hxl, hf⟩ := DataW.trod_struct Tryd.underlying24 hf0
  obtain ⟨l⟩ := cs
  match l, hsz with
  | [v0, v1, v2, v3], _ =>
    match xs, hxl with
    | [y0, y1, y2, y3], _ =>
      have g0 := hf 0 _ rfl
      have g1 := hf 1 _ rfl
      have g2 := hf 2 _ rfl
      have g3 := hf 3 _ rfl
      simp [Value.cells, c_3, c_22] at g0 g1 g2 g3
      obtain ⟨a0, e0, _, _⟩ := DataW.trod_int Tryd.underlying3 g0
      obtain ⟨a1, e1, _, _⟩ := DataW.trod_int Tryd.underlying3 g1
      obtain ⟨a, l, c, e2, q, q2, q3⟩ := open_irs_nil g2
      obtain ⟨a3, e3, _, _⟩ := DataW.trod_int Tryd.underlying3 g3
      simp at e0 e1 e2 e3
      subst e0 e1 e2 e3
      exact ⟨⟨a0, a1, a3⟩, a, l, c, rfl, q, q2, q3⟩
end
end Go.Proofs.YtjgaaofpfepfhaaDoor
/-
  The law AllocFew.
-/
namespace Go.Proofs.YtjgaaofpfepfhaaDoor
open Go.RowKit
set_option linter.unusedSimpArgs false
set_option linter.unusedVariables false
def isCall (x : Ir) : Bool := decide (x.op = 14)
theorem any_next {l : List Ir} {k : Nat} (hk : k < l.length) : (l.take (k + 1)).any isCall = ((l.take k).any isCall || isCall l[k]) := by
  rw [List.take_succ_eq_append_getElem hk, List.any_append]; simp
theorem box_lit (U : World) (v0 v1 v2 v3 : Value) : (U.alloc (.cells #[v0, v1, v2, v3] 24)).cell? ⟨U.heap.size, 0, none⟩ = some v0 ∧ (U.alloc (.cells #[v0, v1, v2, v3] 24)).cell? ⟨U.heap.size, 1, none⟩ = some v1 ∧ (U.alloc (.cells #[v0, v1, v2, v3] 24)).cell? ⟨U.heap.size, 2, none⟩ = some v2 ∧ (U.alloc (.cells #[v0, v1, v2, v3] 24)).cell? ⟨U.heap.size, 3, none⟩ = some v3 := by
  have e := heap_alloc_new U (.cells #[v0, v1, v2, v3] 24)
  generalize U.alloc _ = W at *
  refine ⟨?_, ?_, ?_, ?_⟩ <;> simp only [World.cell?, e] <;> rfl
theorem IO.put {B D : Nat} {a : Option Addr} {n c : Nat} {l : List Ir} {w : World} (h : IO B (.slice a n c) l w) (hok : ∀ x ∈ l, x.ok) (hD : D < B) (u : Value) : IR (w.setCell ⟨D, 2, none⟩ u).heap.size (w.setCell ⟨D, 2, none⟩ u) a l := by
  have k : IO B (.slice a n c) l (w.setCell ⟨D, 2, none⟩ u) := ownsRow_setCell_below h hD u
  obtain ⟨a', c', e, hI⟩ := k.ir hok
  injection e with e1 e2 e3
  subst e1
  exact hI
/-- A code's box of one's own. -/
structure FD (cs ps ls : Int) (v : Value) (q0 : Nat) (W : World) : Prop where
  lt : q0 < W.heap.size
  c0 : W.cell? ⟨q0, 0, none⟩ = some (.int .i64 cs)
  c1 : W.cell? ⟨q0, 1, none⟩ = some (.int .i64 ps)
  c2 : W.cell? ⟨q0, 2, none⟩ = some v
  c3 : W.cell? ⟨q0, 3, none⟩ = some (.int .i64 ls)
  fz : W.frozen? ⟨q0, 2, none⟩ = false
theorem FD.lit (U : World) (cs ps ls : Int) (v : Value) : FD cs ps ls v U.heap.size (U.alloc (.cells #[.int .i64 cs, .int .i64 ps, v, .int .i64 ls] 24)) := by
  obtain ⟨h0, h1, h2, h3⟩ := box_lit U (.int .i64 cs) (.int .i64 ps) v (.int .i64 ls)
  have e := heap_alloc_new U (.cells #[.int .i64 cs, .int .i64 ps, v, .int .i64 ls] 24)
  have hs : U.heap.size < (U.alloc (.cells #[.int .i64 cs, .int .i64 ps, v, .int .i64 ls] 24)).heap.size := by simp
  generalize U.alloc (.cells #[.int .i64 cs, .int .i64 ps, v, .int .i64 ls] 24) = W at *
  exact ⟨hs, h0, h1, h2, h3, by unfold World.frozen?; rw [e]; rfl⟩
theorem FD.bel {cs ps ls : Int} {v : Value} {q0 : Nat} {W U : World} (h : FD cs ps ls v q0 W) {B : Nat} (k : Below B W U) (hq : q0 < B) : FD cs ps ls v q0 U :=
  ⟨Nat.lt_of_lt_of_le h.lt k.size, (k.cell (p := ⟨q0, 0, none⟩) hq).trans h.c0, (k.cell (p := ⟨q0, 1, none⟩) hq).trans h.c1, (k.cell (p := ⟨q0, 2, none⟩) hq).trans h.c2, (k.cell (p := ⟨q0, 3, none⟩) hq).trans h.c3, by
    have := h.fz
    simp only [World.frozen?, k.block _ hq] at this ⊢
    exact this⟩
theorem FD.put {cs ps ls : Int} {v : Value} {q0 : Nat} {W : World} (h : FD cs ps ls v q0 W) (u : Value) : FD cs ps ls u q0 (W.setCell ⟨q0, 2, none⟩ u) :=
  ⟨by simpa [World.setCell] using h.lt, (World.cell?_setCell_other _ _ _ _ (by simp)).trans h.c0, (World.cell?_setCell_other _ _ _ _ (by simp)).trans h.c1, World.cell?_setCell_same' _ _ _ (by rw [h.c2]; rfl), (World.cell?_setCell_other _ _ _ _ (by simp)).trans h.c3, by
    rw [← h.fz]; simp⟩
set_option maxRecDepth 100000 in
set_option maxHeartbeats 6400000 in
theorem few_walk (d : Cd) (q : Option Addr) (cap : Nat) (l : List Ir) (w : World) (hc : l.length ≤ cap) (hqn : q = none → cap = 0) (hr : IR w.heap.size w q l) (hT : Laid w) (hw0 : 0 < w.heap.size) :
    Calls Tryd.prog 5 #[cv d q l.length cap] w fun e w' => e = .returned (.bool true) ∧ Below w.heap.size w w' := by
  have HR := hide hr
  have HTb := hide hT
  clear hr hT
  obtain ⟨cs, ps, ls⟩ := d
  have B0 : FB ⟨cs, ps, ls⟩ q l.length cap w.heap.size l w (w.alloc (.cells #[.int .i64 cs, .int .i64 ps, .slice q l.length cap, .int .i64 ls] 24)) := ⟨bel_one _ _, by simp, heap_alloc_new _ _⟩
  have HE := hide (examples_any _ (HTb.out.kept B0.b hw0) (by have := B0.b.size; omega))
  unfold cv
  go_enter Tryd.func5, Tryd.ntmps5
  go_wp2_with fail
  refine HE.out.mono ?_
  rintro e W1 ⟨rfl, h1⟩
  have F1 : FB ⟨cs, ps, ls⟩ q l.length cap w.heap.size l w W1 := ⟨B0.b.trans (h1.mono B0.b.size), Nat.lt_of_lt_of_le B0.lt h1.size, (h1.block _ B0.lt).trans B0.r⟩
  have HF1 := hide F1
  have hfz : W1.frozen? ⟨w.heap.size, 2, none⟩ = false := by simp [World.frozen?, F1.r]
  obtain ⟨c0, c1, c2, c3⟩ := F1.cells (Below.refl _ W1) F1.lt
  simp only at c0 c1 c2 c3
  clear B0 F1 h1 HE
  obtain ⟨m, hm⟩ : ∃ m : Nat, min l.length 80 = m := ⟨_, rfl⟩
  have hmm : min (l.length : Int) 80 = (m : Int) := by omega
  have hmc : (m : Int) ≤ (cap : Int) := by omega
  have hm0 : (0 : Int) ≤ (m : Int) := by omega
  go_upto_region 3 with fail
  obtain ⟨t, ht⟩ : ∃ t, l.take m = t := ⟨_, rfl⟩
  have htl : m = t.length := by rw [← ht, List.length_take]; omega
  have htc := hide (show t.length ≤ cap by omega)
  have htn : t.length ≤ 80 := by omega
  have HT := hide (HR.out.take m)
  rw [ht] at HT
  have hq0 : w.heap.size < W1.heap.size := HF1.out.lt
  have Q0 : FQ cs ps ls q m cap w.heap.size w (W1.setCell ⟨w.heap.size, 2, none⟩ (.slice q m cap)) := by
    refine ⟨HF1.out.b.setCell (p := ⟨w.heap.size, 2, none⟩) (Nat.le_refl _) _, by simpa [World.setCell] using hq0, ?_, ?_, World.cell?_setCell_same' _ _ _ (by rw [c2]; rfl), ?_⟩
    · exact (World.cell?_setCell_other _ _ _ _ (by simp)).trans c0
    · exact (World.cell?_setCell_other _ _ _ _ (by simp)).trans c1
    · exact (World.cell?_setCell_other _ _ _ _ (by simp)).trans c3
  clear c0 c1 c2 c3 hfz HF1 hmm hmc hm0 HR hm ht
  subst htl
  refine gw (motive := fun x => Code.wp _ _ _ _ x) (fun U => Hid (FQ cs ps ls q t.length cap w.heap.size w U)) Q0 ?_
  rintro W HQ
  clear Q0
  have htn2 : t.length ≤ 1000 := by omega
  have RD := hide (fun U (h : FQ cs ps ls q t.length cap w.heap.size w U) => (HT.out.bel h.b).up h.b.size)
  have PA := hide (fun U (h : FQ cs ps ls q t.length cap w.heap.size w U) => alloc_any ⟨cs, ps, ls⟩ q cap t U htn2 (RD.out U h) (HTb.out.kept h.b hw0) (by have := h.b.size; omega))
  have PZ : Hid (∀ a c U, IR U.heap.size U a (t ++ [irC]) → Laid U → 0 < U.heap.size → Calls Tryd.prog 7 #[cv ⟨cs, ps, ls⟩ a (t.length + 1) c] U (AEnds ⟨cs, ps, ls⟩ (t ++ [irC]) U)) := hide (fun a c U h hl h0 => by
    have := alloc_any ⟨cs, ps, ls⟩ a c (t ++ [irC]) U (by rw [List.length_append, List.length_singleton]; omega) h hl h0
    rw [List.length_append, List.length_singleton] at this
    exact this)
  unfold cv at PA PZ
  simp only at PA PZ
  have HRD := RD
  have HTT := HT
  clear HT RD
  obtain ⟨c0, c1, c2, c3⟩ : _ ∧ _ ∧ _ ∧ _ := ⟨HQ.out.c0, HQ.out.c1, HQ.out.c2, HQ.out.c3⟩
  go_wp2_with fail
  refine (PA.out W HQ.out).mono ?_
  clear c0 c1 c2 c3 PA
  rintro e W2 hA
  have HA := hide hA
  rcases hA with ⟨hf, rfl, k2⟩ | ⟨hf, n, m, r, A, F, S, pl, hn, hm, rfl, hr, hv, hs, hS, hp, k2⟩
  · have HB2 := hide (HQ.out.bel k2).b
    clear k2 HA
    go_wp2_with fail
    go_ret
    exact ⟨rfl, HB2.out⟩
  have HQ2 := hide (HQ.out.bel k2)
  have HV2 := hide hv
  have HF := hide hf
  obtain rfl : cs = (n : Int) := hn
  clear k2 hv hS hp hf HQ hs hm
  obtain ⟨c0, c1, c2, c3⟩ : _ ∧ _ ∧ _ ∧ _ := ⟨HQ2.out.c0, HQ2.out.c1, HQ2.out.c2, HQ2.out.c3⟩
  go_wp2_with fail
  clear c0 c1 c2 c3
  go_loopw [6, 7] (fun s6 s7 wr => ∃ k : Nat, k ≤ t.length ∧ s7 = .int .i64 (k : Int) ∧ s6 = .bool ((t.take k).any isCall) ∧ wr = W2) (fun _ s7 _ => t.length - (intOf s7).toNat)
  case atStart => exact ⟨0, Nat.zero_le _, rfl, rfl, rfl⟩
  case round =>
    obtain ⟨k, hk, rfl, rfl, rfl⟩ := hrel
    obtain ⟨c0, c1, c2, c3⟩ : _ ∧ _ ∧ _ ∧ _ := ⟨HQ2.out.c0, HQ2.out.c1, HQ2.out.c2, HQ2.out.c3⟩
    by_cases hlt : k < t.length
    · have h1 : (k : Int) < (t.length : Int) := by omega
      have h0 : (0 : Int) ≤ (k : Int) := by omega
      have HNX := hide (any_next hlt)
      obtain ⟨b0, o0, rfl, hbb, C7k, _⟩ := HTT.out.bel HQ2.out.b k hlt
      have x0 := C7k.c0
      clear C7k
      generalize hacc : (t.take k).any isCall = acc at *
      cases acc
      · have HOP := hide (show isCall t[k] = decide (t[k].op = 14) from rfl)
        generalize t[k] = x at *
        by_cases hop : x.op = 14
        · have hop2 : (x.op == 14) = true := by simpa using hop
          go_wp2_with fail
          go_roundw
          case rel => exact ⟨k + 1, hlt, by go_num, by rw [HNX.out, HOP.out, decide_eq_true hop]; rfl, trivial⟩
          case measure => simp [intOf]; omega
        · have hop2 : (x.op == 14) = false := by simpa using hop
          go_wp2_with fail
          go_roundw
          case rel => exact ⟨k + 1, hlt, by go_num, by rw [HNX.out, HOP.out, decide_eq_false hop]; rfl, trivial⟩
          case measure => simp [intOf]; omega
      · go_wp2_with fail
        go_roundw
        case rel => exact ⟨k + 1, hlt, by go_num, by rw [HNX.out]; rfl, trivial⟩
        case measure => simp [intOf]; omega
    · obtain rfl : k = t.length := by omega
      have h1 : ¬ (t.length : Int) < (t.length : Int) := by omega
      rw [List.take_length]
      generalize hcalls : t.any isCall = calls at *
      have hqw := HQ2.out.lt
      go_upto_region 12 with fail
      refine gw (motive := fun x => Code.wp _ _ _ _ x) (fun U => Hid (FD (n : Int) ps ls (.slice q t.length cap) wr.heap.size U) ∧ Hid (Below wr.heap.size wr U)) ⟨FD.lit _ _ _ _ _, bel_one _ _⟩ ?_
      rintro U ⟨HD, HBU⟩
      clear c0 c1 c2 c3
      obtain ⟨d0, d1, d2, d3⟩ : _ ∧ _ ∧ _ ∧ _ := ⟨HQ2.out.bel HBU.out |>.c0, HQ2.out.bel HBU.out |>.c1, HQ2.out.bel HBU.out |>.c2, HQ2.out.bel HBU.out |>.c3⟩
      have HIR := hide (HTT.out.bel (HQ2.out.bel HBU.out).b)
      have NIL := hide (show q = none → cap = 0 ∧ t = [] from fun h => ⟨hqn h, by
        have := hqn h
        exact List.length_eq_zero_iff.1 (by have := htc.out; omega)⟩)
      have ht80 : t.length ≤ 1000 := by omega
      have hDU : wr.heap.size < U.heap.size := HD.out.lt
      have fzs : ∀ V, Below U.heap.size U V → V.frozen? ⟨wr.heap.size, 2, none⟩ = false ∧ V.cell? ⟨wr.heap.size, 2, none⟩ = some (.slice q t.length cap) := fun V hV => ⟨(HD.out.bel hV hDU).fz, (HD.out.bel hV hDU).c2⟩
      have FZS := hide fzs
      clear fzs
      have OKT := hide (show ∀ x ∈ t ++ [irC], x.ok from fun x hx => by
        rw [List.mem_append, List.mem_singleton] at hx
        rcases hx with hx | rfl
        · obtain ⟨j, hj, rfl⟩ := List.getElem_of_mem hx
          obtain ⟨_, _, _, _, _, ho⟩ := HTT.out j hj
          exact ho
        · simp [irC, Ir.ok, I64])
      go_upto_region 13 with (first | (at_builtin; refine append_irs rfl _ _ rfl U.heap.size (.slice none 0 0) [] rfl (IO.nil _ _) (Nat.le_refl _) q cap t rfl NIL.out w.heap.size HIR.out (by simp; omega) ?_; intro v1 w1 hI1 hB1) | (at_builtin; refine append_irs rfl _ _ rfl U.heap.size v1 t rfl (IO.kept hI1 (bel_one _ _)) (Nat.le_trans hB1.size (bel_one _ _).size) (some ⟨w1.heap.size, 0, none⟩) 1 [irC] rfl (fun h => by cases h) _ (ir_lit w1) (by simp; omega) ?_; intro v2 w2 hI2 hB2; obtain ⟨a2, c2, rfl, hI3⟩ := IO.ir hI2 OKT.out; have hB3 := hide ((hB1.trans ((bel_one w1 _).mono hB1.size)).trans hB2); obtain ⟨fz2, cl2⟩ := FZS.out w2 hB3.out; clear hI1 hB1 hB2) | fail)
      clear d0 d1 d2 d3
      have HI2 := hide hI2
      have HB4 := hide (HBU.out.trans (hB3.out.mono HBU.out.size))
      clear hI2 hI3 NIL HIR FZS
      refine gw (motive := fun x => Code.wp _ _ _ _ x) (fun V => Hid (FD (n : Int) ps ls (.slice a2 (t.length + 1) c2) wr.heap.size V) ∧ Hid (Below wr.heap.size wr V) ∧ Hid (IR V.heap.size V a2 (t ++ [irC]))) ⟨hide ((HD.out.bel hB3.out hDU).put _), hide (HB4.out.setCell (p := ⟨wr.heap.size, 2, none⟩) (Nat.le_refl _) _), hide (IO.put HI2.out OKT.out hDU _)⟩ ?_
      rintro V ⟨HDV, HBV, HIV⟩
      clear HI2 HB4 hB3 HD HBU
      have HQV := hide (HQ2.out.bel HBV.out)
      obtain ⟨d0, d1, d2, d3⟩ : _ ∧ _ ∧ _ ∧ _ := ⟨HDV.out.c0, HDV.out.c1, HDV.out.c2, HDV.out.c3⟩
      have PZV := hide (PZ.out a2 c2 V HIV.out (HTb.out.kept HQV.out.b hw0) (by have := HQV.out.b.size; omega))
      clear PZ
      go_wp2_with fail
      refine PZV.out.mono ?_
      clear d0 d1 d2 d3 PZV
      rintro e W4 hB
      have k4 : Below V.heap.size V W4 := by
        rcases hB with ⟨_, _, k⟩ | ⟨_, _, _, _, _, _, _, _, _, _, _, _, _, _, _, _, k⟩
        · exact k
        · exact k
      rcases two_same HA.out hB (HBV.out.trans (k4.mono HBV.out.size)) with ⟨hf, _⟩ | ⟨_, r0, r', n0, pl0, hn0, h60, e1, rfl, va, vb, hfew, hle, _, _⟩
      · rw [HF.out] at hf; cases hf
      have e1' : r = r0 ∧ n = n0 := by
        injection e1 with e1
        injection e1 with e1
        simp at e1
        omega
      obtain ⟨rfl, rfl⟩ := e1'
      have HQ4 := hide (HQV.out.bel k4)
      have HVA := hide va
      have NA := hide (vr_nv (c := n) (ns := (List.range n).map pl0) va (by simp) (fun i hi => by simp))
      have NB := hide (vr_nv (c := n) (ns := (List.range n).map pl0) vb (by simp) (fun i hi => by simp))
      have HNUM := hide (numbers_nv NA.out NB.out (by simp; omega))
      have HFEW := hide hfew
      have HLE := hide hle
      clear va vb hfew hle k4 hB hn0 e1 NA NB
      go_wp2_with fail
      refine HNUM.out.mono ?_
      rintro e W5 ⟨rfl, k5⟩
      have HQ5 := hide (HQ4.out.bel k5)
      have HVA5 := hide (HVA.out.of (k5.block _ HVA.out.lt))
      have SLO := hide (slots_any r n n pl0 W5 (by omega) (fun i hi => by have := HLE.out i hi; omega) HVA5.out.c)
      clear k5 HVA HNUM HQ4
      obtain ⟨c0, c1, c2, c3⟩ : _ ∧ _ ∧ _ ∧ _ := ⟨HQ5.out.c0, HQ5.out.c1, HQ5.out.c2, HQ5.out.c3⟩
      have HCA := hide hcalls
      clear hcalls
      cases calls
      · by_cases h6 : (6 : Int) < (n : Int)
        · go_wp2_with fail
          go_ret
          exact ⟨rfl, HQ5.out.b⟩
        · have hs5 : grt pl0 n - 5 = 0 := by rw [HFEW.out HCA.out (by omega)]; rfl
          rw [hs5] at SLO
          clear hs5
          go_wp2_with fail
          refine SLO.out.mono ?_
          rintro e W6 ⟨rfl, rfl⟩
          go_wp2_with fail
          go_ret
          exact ⟨rfl, HQ5.out.b⟩
      · go_wp2_with fail
        go_ret
        exact ⟨rfl, HQ5.out.b⟩
end Go.Proofs.YtjgaaofpfepfhaaDoor

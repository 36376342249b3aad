/-
  Plain mathematics of layer 6: those around a place told by the spans; where a branch goes; spans within one another; a body within a Block; what plays no part. No program.
-/
import Derived.Test.YtglagdbkcigojaaMath
namespace Go.Proofs.Ytglagdbkcigojaa

theorem desc_eq : ∀ {a b : List Nat}, a.Pairwise (· > ·) → b.Pairwise (· > ·) → (∀ k, k ∈ a ↔ k ∈ b) → a = b
  | [], [], _, _, _ => rfl
  | [], y :: b, _, _, h => absurd ((h y).2 (by simp)) (by simp)
  | x :: a, [], _, _, h => absurd ((h x).1 (by simp)) (by simp)
  | x :: a, y :: b, ha, hb, h => by
    obtain ⟨ha1, ha2⟩ := List.pairwise_cons.1 ha
    obtain ⟨hb1, hb2⟩ := List.pairwise_cons.1 hb
    have hxy : x = y := by
      have h1 := (h x).1 (by simp)
      have h2 := (h y).2 (by simp)
      rw [List.mem_cons] at h1 h2
      rcases h1 with h1 | h1
      · exact h1
      · rcases h2 with h2 | h2
        · exact h2.symm
        · have := ha1 y h2; have := hb1 x h1; omega
    subst hxy
    have : a = b := desc_eq ha2 hb2 fun k => by
      constructor
      · intro hk
        have := (h k).1 (by simp [hk])
        rw [List.mem_cons] at this
        rcases this with rfl | e
        · exact absurd (ha1 k hk) (by omega)
        · exact e
      · intro hk
        have := (h k).2 (by simp [hk])
        rw [List.mem_cons] at this
        rcases this with rfl | e
        · exact absurd (hb1 k hk) (by omega)
        · exact e
    rw [this]

/-- a span holds a place -/
def holB (x : Sp) (p : Nat) : Bool := decide (x.b < (p : Int)) && decide ((p : Int) < x.d) && !((p : Int) == x.e)
/-- of the first K spans those that hold a place, the last first -/
def remL (l : List Sp) (p : Nat) : Nat → List Nat
  | 0 => []
  | K + 1 => if holB (spAt l K) p then K :: remL l p K else remL l p K
theorem remL_mem (l : List Sp) (p : Nat) : ∀ K k, k ∈ remL l p K ↔ k < K ∧ holB (spAt l k) p = true
  | 0, k => by simp [remL]
  | K + 1, k => by
    unfold remL
    have ih := remL_mem l p K k
    cases hK : holB (spAt l K) p with
    | true =>
      rw [if_pos rfl, List.mem_cons, ih]
      constructor
      · rintro (rfl | ⟨a, b⟩)
        · exact ⟨by omega, hK⟩
        · exact ⟨by omega, b⟩
      · rintro ⟨a, b⟩
        rcases Nat.lt_or_ge k K with h | h
        · exact .inr ⟨h, b⟩
        · exact .inl (by omega)
    | false =>
      rw [if_neg (by simp), ih]
      constructor
      · rintro ⟨a, b⟩; exact ⟨by omega, b⟩
      · rintro ⟨a, b⟩
        rcases Nat.lt_or_ge k K with h | h
        · exact ⟨h, b⟩
        · obtain rfl : k = K := by omega
          rw [hK] at b; cases b
theorem remL_desc (l : List Sp) (p : Nat) : ∀ K, (remL l p K).Pairwise (· > ·)
  | 0 => .nil
  | K + 1 => by
    unfold remL
    split
    · exact List.Pairwise.cons (fun k hk => ((remL_mem l p K k).1 hk).1) (remL_desc l p K)
    · exact remL_desc l p K
theorem remL_le (l : List Sp) (p : Nat) : ∀ K, (remL l p K).length ≤ K
  | 0 => Nat.le_refl _
  | K + 1 => by
    have := remL_le l p K
    unfold remL
    split
    · simp; omega
    · omega
theorem remL_eq {f : Nat → Int} {n p : Nat} (hw : (run f n).wrong = false) (he : (run f n).ended = true) (hp : p < n) :
    remL (run f n).sp p ((run f n).sp.length - 1) = arL f p (run f p) := by
  refine desc_eq (remL_desc _ _ _) (arL_desc' hw hp) fun k => ?_
  rw [remL_mem, ← around_iff hw he hp k]
  simp only [holB, Bool.and_eq_true, decide_eq_true_eq, Bool.not_eq_true', beq_eq_false_iff_ne, ne_eq]
  constructor
  · rintro ⟨a, ⟨b, c⟩, d⟩; exact ⟨by omega, b, c, d⟩
  · rintro ⟨a, b, c, d⟩; exact ⟨by omega, ⟨b, c⟩, d⟩

/-! the errors -/
theorem er_cases (f : Nat → Int) (n : Nat) : er f n = 0 ∨ er f n = 1 ∨ er f n = 3 := by
  unfold er; split
  · exact .inr (.inr rfl)
  · split
    · exact .inr (.inl rfl)
    · exact .inl rfl
theorem er_ok {f : Nat → Int} {n : Nat} (h : er f n = 0) : (run f n).wrong = false ∧ (run f n).ended = true ∧ (run f n).deep ≤ 8 := by
  unfold er at h
  cases hw : (run f n).wrong <;> cases he : (run f n).ended <;> simp [hw, he] at h
  exact ⟨rfl, rfl, by omega⟩
theorem er_3 {f : Nat → Int} {n : Nat} (h : (run f n).wrong = true ∨ (run f n).ended = false) : er f n = 3 := by
  unfold er
  rcases h with h | h <;> simp [h]
theorem er_1 {f : Nat → Int} {n : Nat} (hw : (run f n).wrong = false) (he : (run f n).ended = true) (hd : 8 < (run f n).deep) : er f n = 1 := by
  unfold er; simp [hw, he, hd]
theorem er_0 {f : Nat → Int} {n : Nat} (hw : (run f n).wrong = false) (he : (run f n).ended = true) (hd : (run f n).deep ≤ 8) : er f n = 0 := by
  unfold er; simp [hw, he]; omega

/-! sizes -/
theorem run_len (f : Nat → Int) : ∀ i, (run f i).sp.length ≤ i ∧ (run f i).op.length ≤ i ∧ (run f i).deep ≤ i
  | 0 => by simp [run, St0]
  | i + 1 => by
    obtain ⟨h1, h2, h3⟩ := run_len f i
    have e : run f (i + 1) = stp f i (run f i) := rfl
    rw [e]
    cases way f i (run f i) with
    | stop h0 => rw [stp_stop h0]; exact ⟨by show (run f i).sp.length ≤ _; omega, by show (run f i).op.length ≤ _; omega, by show (run f i).deep ≤ _; omega⟩
    | opens hw he h1 => rw [stp_open hw he h1]; simp; omega
    | else0 hw he h1 ho => rw [stp_else0 hw he h1 ho]; exact ⟨by show (run f i).sp.length ≤ _; omega, by show (run f i).op.length ≤ _; omega, by show (run f i).deep ≤ _; omega⟩
    | elseN k r hw he h1 ho hl => rw [stp_elseN hw he h1 ho hl]; exact ⟨by show (run f i).sp.length ≤ _; omega, by show (run f i).op.length ≤ _; omega, by show (run f i).deep ≤ _; omega⟩
    | elseY k r hw he h1 ho hl => rw [stp_elseY hw he h1 ho hl]; simp; omega
    | end0 hw he h1 ho => rw [stp_end0 hw he h1 ho]; simp; omega
    | endY k r hw he h1 ho => rw [stp_endY hw he h1 ho]; rw [ho] at h2; simp at h2 ⊢; omega
    | other hw he h0 h1 h2 => rw [stp_other hw he h0 h1 h2]; omega

/-- where a branch goes: the place, whether back, the error -/
def tgt (f : Nat → Int) (n : Nat) (p d : Int) : Int × Bool × Int :=
  if er f n ≠ 0 then (0, false, er f n)
  else if p < 0 ∨ (n : Int) ≤ p ∨ d < 0 ∨ ((arL f p.toNat (run f p.toNat)).length : Int) < d then (0, false, 3)
  else if d = (arL f p.toNat (run f p.toNat)).length then ((n : Int) - 1, false, 0)
  else if f (spAt (run f n).sp ((arL f p.toNat (run f p.toNat)).getD d.toNat 0)).b.toNat = 3 then
    ((spAt (run f n).sp ((arL f p.toNat (run f p.toNat)).getD d.toNat 0)).b, true, 0)
  else ((spAt (run f n).sp ((arL f p.toNat (run f p.toNat)).getD d.toNat 0)).d, false, 0)
/-- what is known of one that is open around a place of a nested body -/
theorem around_is {f : Nat → Int} {n p : Nat} (hw : (run f n).wrong = false) (he : (run f n).ended = true) (hp : p < n) {k : Nat} (hk : k ∈ arL f p (run f p)) :
    ∃ b d : Nat, (spAt (run f n).sp k).b = b ∧ (spAt (run f n).sp k).d = d ∧ b < p ∧ p < d ∧ d < n ∧ f d = 11 ∧ k + 1 < (run f n).sp.length ∧ opn (f b) = true := by
  obtain ⟨h1, h2, h3, _⟩ := (around_iff hw he hp k).2 hk
  obtain ⟨m, rfl, hw', he', hop, hf, hwf, hsp, _⟩ := fin_run hw he
  have hk' : k < (run f m).sp.length := by rw [hsp] at h1; simpa using h1
  rw [hsp, spAt_lt _ _ hk'] at h2 h3 ⊢
  obtain ⟨b, hb, hbm, hop⟩ := hwf.beg k hk'
  rcases hwf.fin k hk' with e | ⟨d, e, _, hd, hfd⟩
  · rw [e] at h3; omega
  · rw [hb] at h2
    rw [e] at h3
    exact ⟨b, d, hb, e, by omega, by omega, by omega, hfd, by simpa using hk', hop⟩

/-! two spans -/
theorem two_spans {f : Nat → Int} {n : Nat} (hw : (run f n).wrong = false) (he : (run f n).ended = true) {j k : Nat} (hjk : j < k) (hk : k < (run f n).sp.length) :
    (((spAt (run f n).sp k).b < (spAt (run f n).sp j).b ∧ (spAt (run f n).sp j).d < (spAt (run f n).sp k).d) ∨ ((spAt (run f n).sp j).b < (spAt (run f n).sp k).b ∧ (spAt (run f n).sp k).d < (spAt (run f n).sp j).d)) ∨
      ¬ ((spAt (run f n).sp j).b < (spAt (run f n).sp k).d) ∨ ¬ ((spAt (run f n).sp k).b < (spAt (run f n).sp j).d) := by
  obtain ⟨m, rfl, hw', he', hop, hf, hwf, hsp, _⟩ := fin_run hw he
  have hcl : ∀ k, k < (run f m).sp.length → (spAt (run f m).sp k).d ≠ -1 := by
    intro k hk hd
    have := (hwf.mem k).2 ⟨hk, hd⟩
    rw [hop] at this; cases this
  rw [hsp] at hk ⊢
  simp at hk
  rcases Nat.lt_or_ge k (run f m).sp.length with hl | hl
  · rw [spAt_lt _ _ hl, spAt_lt _ _ (by omega)]
    have hi := hwf.inc j k hjk hl
    rcases hwf.nest j k hjk hl (hcl j (by omega)) with a | ⟨_, a⟩
    · exact .inr (.inr (by omega))
    · exact .inl (.inr ⟨hi, a⟩)
  · obtain rfl : k = (run f m).sp.length := by omega
    rw [spAt_new, spAt_lt _ _ hjk]
    obtain ⟨b, hb, _, _⟩ := hwf.beg j hjk
    rcases hwf.fin j hjk with e | ⟨d, e, _, hd, _⟩
    · exact absurd e (hcl j hjk)
    · refine .inl (.inl ⟨?_, ?_⟩)
      · rw [hb]; show (-1 : Int) < b; omega
      · rw [e]; show (d : Int) < m; omega
theorem one_span {f : Nat → Int} {n : Nat} (hw : (run f n).wrong = false) (he : (run f n).ended = true) {k : Nat} (hk : k < (run f n).sp.length) :
    ((spAt (run f n).sp k).e < 0 ∨ ((spAt (run f n).sp k).b < (spAt (run f n).sp k).e ∧ (spAt (run f n).sp k).e < (spAt (run f n).sp k).d)) ∧
      (k + 1 = (run f n).sp.length → (spAt (run f n).sp k).b = -1 ∧ (spAt (run f n).sp k).d = (n : Int) - 1) := by
  obtain ⟨m, rfl, hw', he', hop, hf, hwf, hsp, _⟩ := fin_run hw he
  have hcl : ∀ k, k < (run f m).sp.length → (spAt (run f m).sp k).d ≠ -1 := by
    intro k hk hd
    have := (hwf.mem k).2 ⟨hk, hd⟩
    rw [hop] at this; cases this
  rw [hsp] at hk ⊢
  simp only [List.length_append, List.length_cons, List.length_nil] at hk ⊢
  rcases Nat.lt_or_ge k (run f m).sp.length with hl | hl
  · rw [spAt_lt _ _ hl]
    refine ⟨?_, fun h => by omega⟩
    rcases hwf.els k hl with a | ⟨x, a, b, _, c⟩
    · exact .inl (by omega)
    · rcases c with c | c
      · exact absurd c (hcl k hl)
      · exact .inr ⟨by omega, by omega⟩
  · obtain rfl : k = (run f m).sp.length := by omega
    rw [spAt_new]
    exact ⟨.inl (by show (-1 : Int) < 0; omega), fun _ => ⟨rfl, by show (m : Int) = (m + 1 : Nat) - 1; omega⟩⟩

/-! a body within a Block -/
def sh (x : Sp) : Sp := ⟨x.b + 1, if x.e = -1 then -1 else x.e + 1, if x.d = -1 then -1 else x.d + 1⟩
def ins0 (f : Nat → Int) : Nat → Int
  | 0 => 2
  | j + 1 => f j
theorem spAt_sh (l : List Sp) {k : Nat} (h : k < l.length) : spAt (⟨0, -1, -1⟩ :: l.map sh) (k + 1) = sh (spAt l k) := by
  simp [spAt, h]
def shS (s : St) : St := ⟨⟨0, -1, -1⟩ :: s.sp.map sh, s.op.map (· + 1) ++ [0], s.deep + 1, false, false⟩
theorem lacks_sh {f : Nat → Int} {i : Nat} {s : St} (h : WF f i s) {k : Nat} (hk : k < s.sp.length) : lacks (ins0 f) (sh (spAt s.sp k)) = lacks f (spAt s.sp k) := by
  obtain ⟨m, hb, _, _⟩ := h.beg k hk
  have h1 : ins0 f (sh (spAt s.sp k)).b.toNat = f (spAt s.sp k).b.toNat := by
    have e : (sh (spAt s.sp k)).b.toNat = (spAt s.sp k).b.toNat + 1 := by
      show ((spAt s.sp k).b + 1).toNat = _
      rw [hb]; omega
    rw [e]; rfl
  have h2 : ((sh (spAt s.sp k)).e == -1) = ((spAt s.sp k).e == -1) := by
    show ((if (spAt s.sp k).e = -1 then (-1 : Int) else (spAt s.sp k).e + 1) == -1) = _
    rcases h.els k hk with a | ⟨x, a, _⟩
    · simp [a]
    · rw [a]
      rw [if_neg (by omega)]
      have e1 : (((x : Int) + 1) == -1) = false := by simp; omega
      have e2 : ((x : Int) == -1) = false := by simp
      rw [e1, e2]
  unfold lacks
  rw [h1, h2]
theorem more_run {f : Nat → Int} {m : Nat} (hw : (run f m).wrong = false) (he : (run f m).ended = false) : ∀ i, i ≤ m → run (ins0 f) (i + 1) = shS (run f i)
  | 0, _ => by
    show stp (ins0 f) 0 St0 = _
    rw [stp_open (s := St0) rfl rfl rfl]
    simp [shS, run, St0]
  | i + 1, hi => by
    have ih := more_run hw he i (by omega)
    have hw1 := right_back hw hi
    have he1 : (run f (i + 1)).ended = false := by
      rcases Nat.lt_or_ge (i + 1) m with h | h
      · exact open_back hw h
      · obtain rfl : m = i + 1 := by omega
        exact he
    have hw' := right_back hw1 (Nat.le_succ i)
    have he' := open_back hw1 (Nat.lt_succ_self i)
    have h := wf_run f i hw' he'
    show stp (ins0 f) (i + 1) (run (ins0 f) (i + 1)) = shS (stp f i (run f i))
    have e : run f (i + 1) = stp f i (run f i) := rfl
    rw [e] at hw1 he1
    rw [ih]
    have hfi : ins0 f (i + 1) = f i := rfl
    cases way f i (run f i) with
    | stop h0 => rcases h0 with h0 | h0 <;> simp_all
    | opens _ _ h1 =>
      rw [stp_open hw' he' h1, stp_open (s := shS (run f i)) rfl rfl (by rw [hfi]; exact h1)]
      simp [shS, sh]
    | else0 _ _ h1 ho => rw [stp_else0 hw' he' h1 ho] at hw1; cases hw1
    | elseN k r _ _ h1 ho hl => rw [stp_elseN hw' he' h1 ho hl] at hw1; cases hw1
    | elseY k r _ _ h1 ho hl =>
      have hk := ((h.mem k).1 (by rw [ho]; simp)).1
      rw [stp_elseY hw' he' h1 ho hl, stp_elseY (s := shS (run f i)) (k := k + 1) (r := r.map (· + 1) ++ [0]) rfl rfl (by rw [hfi]; exact h1) (by simp [shS, ho])
        (by show lacks (ins0 f) (spAt (⟨0, -1, -1⟩ :: (run f i).sp.map sh) (k + 1)) = true; rw [spAt_sh _ hk, lacks_sh h hk]; exact hl)]
      have e2 : spAt (shS (run f i)).sp (k + 1) = sh (spAt (run f i).sp k) := spAt_sh _ hk
      rw [e2]
      simp [shS, sh, List.map_set, ho]
    | end0 _ _ h1 ho => rw [stp_end0 hw' he' h1 ho] at he1; cases he1
    | endY k r _ _ h1 ho =>
      have hk := ((h.mem k).1 (by rw [ho]; simp)).1
      rw [stp_endY hw' he' h1 ho, stp_endY (s := shS (run f i)) (k := k + 1) (r := r.map (· + 1) ++ [0]) rfl rfl (by rw [hfi]; exact h1) (by simp [shS, ho])]
      have e2 : spAt (shS (run f i)).sp (k + 1) = sh (spAt (run f i).sp k) := spAt_sh _ hk
      rw [e2]
      simp [shS, sh, List.map_set]
    | other _ _ h0 h1 h2 => rw [stp_other hw' he' h0 h1 h2, stp_other (s := shS (run f i)) rfl rfl (by rw [hfi]; exact h0) (by rw [hfi]; exact h1) (by rw [hfi]; exact h2)]
/-- a nested body, followed by an End, within a Block -/
theorem more_er {f : Nat → Int} {n : Nat} (hw : (run f n).wrong = false) (he : (run f n).ended = true) (hf : f n = 11) :
    er (ins0 f) (n + 2) = 0 ∨ er (ins0 f) (n + 2) = 1 := by
  obtain ⟨m, rfl, hw', he', hop, hfm, hwf, hsp, _⟩ := fin_run hw he
  have h1 := more_run hw' he' m (Nat.le_refl m)
  have h2' : run (ins0 f) (m + 2) = stp (ins0 f) (m + 1) (shS (run f m)) := by
    show stp (ins0 f) (m + 1) (run (ins0 f) (m + 1)) = _
    rw [h1]
  rw [stp_endY (f := ins0 f) (i := m + 1) (s := shS (run f m)) (k := 0) (r := []) rfl rfl hfm (by simp [shS, hop])] at h2'
  have h2 : ∃ z, run (ins0 f) (m + 2) = ⟨z, [], (run f m).deep + 1, false, false⟩ := ⟨_, h2'⟩
  obtain ⟨z, h2⟩ := h2
  have h3 : run (ins0 f) (m + 3) = stp (ins0 f) (m + 2) (run (ins0 f) (m + 2)) := rfl
  rw [h2, stp_end0 (f := ins0 f) (i := m + 2) rfl rfl hf rfl] at h3
  unfold er
  have e : m + 1 + 2 = m + 3 := rfl
  rw [e, h3]
  simp
  omega
theorem more_arL {f : Nat → Int} {n k : Nat} (hw : (run f n).wrong = false) (he : (run f n).ended = true) (hk : k + 1 < n) :
    (arL (ins0 f) (k + 1) (run (ins0 f) (k + 1))).length = (arL f k (run f k)).length + 1 := by
  obtain ⟨m, rfl, hw', he', hop, hfm, hwf, hsp, _⟩ := fin_run hw he
  have hkm : k < m := by omega
  rw [more_run hw' he' k (by omega)]
  have hwk := right_back hw' (show k ≤ m by omega)
  have hek := open_back hw' hkm
  have h := wf_run f k hwk hek
  have hw1 := right_back hw' (show k + 1 ≤ m by omega)
  have he1 : (run f (k + 1)).ended = false := by
    rcases Nat.lt_or_ge (k + 1) m with h | h
    · exact open_back hw' h
    · obtain rfl : m = k + 1 := by omega
      exact he'
  have e : run f (k + 1) = stp f k (run f k) := rfl
  rw [e] at hw1 he1
  have hfi : ins0 f (k + 1) = f k := rfl
  cases way f k (run f k) with
  | stop h0 => rcases h0 with h0 | h0 <;> simp_all
  | opens _ _ h1 =>
    rw [arL_open hwk hek h1, arL_open (s := shS (run f k)) rfl rfl (by rw [hfi]; exact h1)]
    simp [shS]
  | else0 _ _ h1 ho => rw [stp_else0 hwk hek h1 ho] at hw1; cases hw1
  | elseN k r _ _ h1 ho hl => rw [stp_elseN hwk hek h1 ho hl] at hw1; cases hw1
  | elseY j r _ _ h1 ho hl =>
    have hj := ((h.mem j).1 (by rw [ho]; simp)).1
    rw [arL_elseY hwk hek h1 ho hl, arL_elseY (s := shS (run f k)) (k := j + 1) (r := r.map (· + 1) ++ [0]) rfl rfl (by rw [hfi]; exact h1) (by simp [shS, ho])
      (by show lacks (ins0 f) (spAt (⟨0, -1, -1⟩ :: (run f k).sp.map sh) (j + 1)) = true; rw [spAt_sh _ hj, lacks_sh h hj]; exact hl)]
    simp
  | end0 _ _ h1 ho => rw [stp_end0 hwk hek h1 ho] at he1; cases he1
  | endY j r _ _ h1 ho =>
    rw [arL_endY hwk hek h1 ho, arL_endY (s := shS (run f k)) (k := j + 1) (r := r.map (· + 1) ++ [0]) rfl rfl (by rw [hfi]; exact h1) (by simp [shS, ho])]
    simp
  | other _ _ h0 h1 h2 =>
    rw [arL_other hwk hek h0 h1 h2, arL_other (s := shS (run f k)) rfl rfl (by rw [hfi]; exact h0) (by rw [hfi]; exact h1) (by rw [hfi]; exact h2)]
    simp [shS]

/-! what plays no part -/
def prt (x : Int) : Bool := x == 2 || x == 3 || x == 4 || x == 5 || x == 11
def oth (f : Nat → Int) (x : Int) : Nat → Int := fun j => if prt (f j) then f j else x
theorem oth_opn {f : Nat → Int} {x : Int} (hx : prt x = false) (j : Nat) : opn (oth f x j) = opn (f j) := by
  unfold oth
  cases h : prt (f j) with
  | true => simp
  | false =>
    rw [if_neg (by simp)]
    simp [prt] at h hx
    have e : ∀ y : Int, ¬ y = 2 → ¬ y = 3 → ¬ y = 4 → opn y = false := fun y a b c => by simp [opn, a, b, c]
    rw [e x hx.1.1.1.1 hx.1.1.1.2 hx.1.1.2, e (f j) h.1.1.1.1 h.1.1.1.2 h.1.1.2]
theorem oth_eq {f : Nat → Int} {x : Int} (hx : prt x = false) (j : Nat) {c : Int} (hc : prt c = true) : (oth f x j = c) ↔ f j = c := by
  unfold oth
  cases h : prt (f j) with
  | true => simp
  | false =>
    rw [if_neg (by simp)]
    constructor
    · rintro rfl; rw [hx] at hc; cases hc
    · rintro rfl; rw [h] at hc; cases hc
theorem oth_lacks {f : Nat → Int} {x : Int} (hx : prt x = false) (s : Sp) : lacks (oth f x) s = lacks f s := by
  unfold lacks
  have : (oth f x s.b.toNat == 4) = (f s.b.toNat == 4) := by
    rw [Bool.eq_iff_iff]
    simp only [beq_iff_eq]
    exact oth_eq hx _ (by decide)
  rw [this]
theorem oth_stp {f : Nat → Int} {x : Int} (hx : prt x = false) (i : Nat) (s : St) : stp (oth f x) i s = stp f i s := by
  unfold stp
  rw [oth_opn hx]
  simp only [oth_eq hx i (c := 5) (by decide), oth_eq hx i (c := 11) (by decide), oth_lacks hx]
theorem oth_run {f : Nat → Int} {x : Int} (hx : prt x = false) : ∀ n, run (oth f x) n = run f n
  | 0 => rfl
  | n + 1 => by
    show stp (oth f x) n (run (oth f x) n) = _
    rw [oth_run hx n, oth_stp hx]; rfl
theorem oth_er {f : Nat → Int} {x : Int} (hx : prt x = false) (n : Nat) : er (oth f x) n = er f n := by
  unfold er; rw [oth_run hx]
end Go.Proofs.Ytglagdbkcigojaa

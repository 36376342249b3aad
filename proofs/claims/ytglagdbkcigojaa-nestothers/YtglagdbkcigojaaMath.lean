/-
  Plain mathematics of layer 6: what is open at each place of a body, the spans, the errors. No program.
-/
import Derived.WalkKit
namespace Go.Proofs.Ytglagdbkcigojaa

/-- a span: where it begins, its Else, its End -/
structure Sp where
  b : Int
  e : Int
  d : Int
/-- what is known ahead of a place: the spans, those that are open (the innermost first), the most that were open, whether the body has ended, whether it is wrong -/
structure St where
  sp : List Sp
  op : List Nat
  deep : Nat
  ended : Bool
  wrong : Bool
def opn (x : Int) : Bool := x == 2 || x == 3 || x == 4
def St0 : St := ⟨[], [], 0, false, false⟩
def spAt (l : List Sp) (k : Nat) : Sp := l.getD k ⟨0, 0, 0⟩
def lacks (f : Nat → Int) (x : Sp) : Bool := f x.b.toNat == 4 && x.e == -1
def stp (f : Nat → Int) (i : Nat) (s : St) : St :=
  if s.wrong || s.ended then { s with wrong := true }
  else if opn (f i) then { s with sp := s.sp ++ [⟨i, -1, -1⟩], op := s.sp.length :: s.op, deep := max s.deep (s.op.length + 1) }
  else if f i = 5 then
    match s.op with
    | [] => { s with wrong := true }
    | k :: _ => if lacks f (spAt s.sp k) then { s with sp := s.sp.set k { spAt s.sp k with e := i } } else { s with wrong := true }
  else if f i = 11 then
    match s.op with
    | [] => { s with ended := true, sp := s.sp ++ [⟨-1, -1, i⟩] }
    | k :: r => { s with sp := s.sp.set k { spAt s.sp k with d := i }, op := r }
  else s
/-- those that are open around a place, the innermost first -/
def arL (f : Nat → Int) (i : Nat) (s : St) : List Nat :=
  if s.wrong || s.ended then []
  else if opn (f i) then s.op
  else if f i = 5 then
    match s.op with
    | [] => []
    | k :: r => if lacks f (spAt s.sp k) then r else []
  else if f i = 11 then s.op.tail
  else s.op
def run (f : Nat → Int) : Nat → St
  | 0 => St0
  | i + 1 => stp f i (run f i)
def er (f : Nat → Int) (n : Nat) : Int := if (run f n).wrong || !(run f n).ended then 3 else if 8 < (run f n).deep then 1 else 0

theorem stp_stop {f : Nat → Int} {i : Nat} {s : St} (h : s.wrong = true ∨ s.ended = true) : stp f i s = { s with wrong := true } := by
  rcases h with h | h <;> simp [stp, h]
theorem arL_stop {f : Nat → Int} {i : Nat} {s : St} (h : s.wrong = true ∨ s.ended = true) : arL f i s = [] := by
  rcases h with h | h <;> simp [arL, h]
theorem stp_open {f : Nat → Int} {i : Nat} {s : St} (hw : s.wrong = false) (he : s.ended = false) (h : opn (f i) = true) :
    stp f i s = { s with sp := s.sp ++ [⟨i, -1, -1⟩], op := s.sp.length :: s.op, deep := max s.deep (s.op.length + 1) } := by simp [stp, hw, he, h]
theorem arL_open {f : Nat → Int} {i : Nat} {s : St} (hw : s.wrong = false) (he : s.ended = false) (h : opn (f i) = true) : arL f i s = s.op := by simp [arL, hw, he, h]
theorem opn5 : opn 5 = false := by decide
theorem opn11 : opn 11 = false := by decide
theorem stp_else0 {f : Nat → Int} {i : Nat} {s : St} (hw : s.wrong = false) (he : s.ended = false) (h : f i = 5) (ho : s.op = []) : stp f i s = { s with wrong := true } := by
  simp [stp, hw, he, h, opn5, ho]
theorem arL_else0 {f : Nat → Int} {i : Nat} {s : St} (hw : s.wrong = false) (he : s.ended = false) (h : f i = 5) (ho : s.op = []) : arL f i s = [] := by
  simp [arL, hw, he, h, opn5, ho]
theorem stp_elseN {f : Nat → Int} {i : Nat} {s : St} {k : Nat} {r : List Nat} (hw : s.wrong = false) (he : s.ended = false) (h : f i = 5) (ho : s.op = k :: r) (hl : lacks f (spAt s.sp k) = false) : stp f i s = { s with wrong := true } := by
  simp [stp, hw, he, h, opn5, ho, hl]
theorem arL_elseN {f : Nat → Int} {i : Nat} {s : St} {k : Nat} {r : List Nat} (hw : s.wrong = false) (he : s.ended = false) (h : f i = 5) (ho : s.op = k :: r) (hl : lacks f (spAt s.sp k) = false) : arL f i s = [] := by
  simp [arL, hw, he, h, opn5, ho, hl]
theorem stp_elseY {f : Nat → Int} {i : Nat} {s : St} {k : Nat} {r : List Nat} (hw : s.wrong = false) (he : s.ended = false) (h : f i = 5) (ho : s.op = k :: r) (hl : lacks f (spAt s.sp k) = true) : stp f i s = { s with sp := s.sp.set k { spAt s.sp k with e := i } } := by
  simp [stp, hw, he, h, opn5, ho, hl]
theorem arL_elseY {f : Nat → Int} {i : Nat} {s : St} {k : Nat} {r : List Nat} (hw : s.wrong = false) (he : s.ended = false) (h : f i = 5) (ho : s.op = k :: r) (hl : lacks f (spAt s.sp k) = true) : arL f i s = r := by
  simp [arL, hw, he, h, opn5, ho, hl]
theorem stp_end0 {f : Nat → Int} {i : Nat} {s : St} (hw : s.wrong = false) (he : s.ended = false) (h : f i = 11) (ho : s.op = []) : stp f i s = { s with ended := true, sp := s.sp ++ [⟨-1, -1, i⟩] } := by
  simp [stp, hw, he, h, opn11, ho]
theorem arL_end0 {f : Nat → Int} {i : Nat} {s : St} (hw : s.wrong = false) (he : s.ended = false) (h : f i = 11) (ho : s.op = []) : arL f i s = [] := by
  simp [arL, hw, he, h, opn11, ho]
theorem stp_endY {f : Nat → Int} {i : Nat} {s : St} {k : Nat} {r : List Nat} (hw : s.wrong = false) (he : s.ended = false) (h : f i = 11) (ho : s.op = k :: r) : stp f i s = { s with sp := s.sp.set k { spAt s.sp k with d := i }, op := r } := by
  simp [stp, hw, he, h, opn11, ho]
theorem arL_endY {f : Nat → Int} {i : Nat} {s : St} {k : Nat} {r : List Nat} (hw : s.wrong = false) (he : s.ended = false) (h : f i = 11) (ho : s.op = k :: r) : arL f i s = r := by
  simp [arL, hw, he, h, opn11, ho]
theorem stp_other {f : Nat → Int} {i : Nat} {s : St} (hw : s.wrong = false) (he : s.ended = false) (h0 : opn (f i) = false) (h1 : f i ≠ 5) (h2 : f i ≠ 11) : stp f i s = s := by
  simp [stp, hw, he, h0, h1, h2]
theorem arL_other {f : Nat → Int} {i : Nat} {s : St} (hw : s.wrong = false) (he : s.ended = false) (h0 : opn (f i) = false) (h1 : f i ≠ 5) (h2 : f i ≠ 11) : arL f i s = s.op := by
  simp [arL, hw, he, h0, h1, h2]
/-- the ways of a step -/
inductive Way (f : Nat → Int) (i : Nat) (s : St) : Prop
  | stop (h : s.wrong = true ∨ s.ended = true)
  | opens (hw : s.wrong = false) (he : s.ended = false) (h : opn (f i) = true)
  | else0 (hw : s.wrong = false) (he : s.ended = false) (h : f i = 5) (ho : s.op = [])
  | elseN (k : Nat) (r : List Nat) (hw : s.wrong = false) (he : s.ended = false) (h : f i = 5) (ho : s.op = k :: r) (hl : lacks f (spAt s.sp k) = false)
  | elseY (k : Nat) (r : List Nat) (hw : s.wrong = false) (he : s.ended = false) (h : f i = 5) (ho : s.op = k :: r) (hl : lacks f (spAt s.sp k) = true)
  | end0 (hw : s.wrong = false) (he : s.ended = false) (h : f i = 11) (ho : s.op = [])
  | endY (k : Nat) (r : List Nat) (hw : s.wrong = false) (he : s.ended = false) (h : f i = 11) (ho : s.op = k :: r)
  | other (hw : s.wrong = false) (he : s.ended = false) (h0 : opn (f i) = false) (h1 : f i ≠ 5) (h2 : f i ≠ 11)
theorem way (f : Nat → Int) (i : Nat) (s : St) : Way f i s := by
  cases hw : s.wrong with
  | true => exact .stop (.inl hw)
  | false =>
    cases he : s.ended with
    | true => exact .stop (.inr he)
    | false =>
      cases h : opn (f i) with
      | true => exact .opens hw he h
      | false =>
        by_cases h1 : f i = 5
        · cases ho : s.op with
          | nil => exact .else0 hw he h1 ho
          | cons k r =>
            cases hl : lacks f (spAt s.sp k) with
            | true => exact .elseY k r hw he h1 ho hl
            | false => exact .elseN k r hw he h1 ho hl
        · by_cases h2 : f i = 11
          · cases ho : s.op with
            | nil => exact .end0 hw he h2 ho
            | cons k r => exact .endY k r hw he h2 ho
          · exact .other hw he h h1 h2

/-! what is wrong stays wrong -/
theorem wrong_step {f : Nat → Int} {i : Nat} (h : (run f i).wrong = true) : (run f (i + 1)).wrong = true := by
  show (stp f i (run f i)).wrong = true
  rw [stp_stop (.inl h)]
theorem wrong_on {f : Nat → Int} {i j : Nat} (h : (run f i).wrong = true) (hij : i ≤ j) : (run f j).wrong = true := by
  induction hij with
  | refl => exact h
  | step _ ih => exact wrong_step ih
theorem ended_on {f : Nat → Int} {i j : Nat} (h : (run f i).ended = true) (hij : i < j) : (run f j).wrong = true := by
  refine wrong_on (i := i + 1) ?_ hij
  show (stp f i (run f i)).wrong = true
  rw [stp_stop (.inr h)]
theorem right_back {f : Nat → Int} {i j : Nat} (h : (run f j).wrong = false) (hij : i ≤ j) : (run f i).wrong = false := by
  cases hc : (run f i).wrong with
  | false => rfl
  | true => rw [wrong_on hc hij] at h; cases h
theorem open_back {f : Nat → Int} {i j : Nat} (h : (run f j).wrong = false) (hij : i < j) : (run f i).ended = false := by
  cases hc : (run f i).ended with
  | false => rfl
  | true => rw [ended_on hc hij] at h; cases h

/-! lists of spans -/
theorem spAt_lt (l : List Sp) (x : Sp) {k : Nat} (h : k < l.length) : spAt (l ++ [x]) k = spAt l k := by simp [spAt, List.getElem?_append_left h]
theorem spAt_new (l : List Sp) (x : Sp) : spAt (l ++ [x]) l.length = x := by simp [spAt]
theorem spAt_set (l : List Sp) (x : Sp) {k : Nat} (h : k < l.length) : spAt (l.set k x) k = x := by simp [spAt, h]
theorem spAt_ne (l : List Sp) (x : Sp) {k j : Nat} (h : k ≠ j) : spAt (l.set k x) j = spAt l j := by simp [spAt, List.getElem?_set_ne h]

/-- what holds of the spans ahead of place i, as long as the body is neither wrong nor ended -/
structure WF (f : Nat → Int) (i : Nat) (s : St) : Prop where
  beg : ∀ k, k < s.sp.length → ∃ m : Nat, (spAt s.sp k).b = m ∧ m < i ∧ opn (f m) = true
  inc : ∀ j k, j < k → k < s.sp.length → (spAt s.sp j).b < (spAt s.sp k).b
  desc : s.op.Pairwise (· > ·)
  mem : ∀ k, k ∈ s.op ↔ k < s.sp.length ∧ (spAt s.sp k).d = -1
  fin : ∀ k, k < s.sp.length → (spAt s.sp k).d = -1 ∨ ∃ m : Nat, (spAt s.sp k).d = m ∧ (spAt s.sp k).b < m ∧ m < i ∧ f m = 11
  els : ∀ k, k < s.sp.length → (spAt s.sp k).e = -1 ∨ ∃ m : Nat, (spAt s.sp k).e = m ∧ (spAt s.sp k).b < m ∧ m < i ∧ ((spAt s.sp k).d = -1 ∨ (m : Int) < (spAt s.sp k).d)
  nest : ∀ j k, j < k → k < s.sp.length → (spAt s.sp j).d ≠ -1 → (spAt s.sp j).d < (spAt s.sp k).b ∨ ((spAt s.sp k).d ≠ -1 ∧ (spAt s.sp k).d < (spAt s.sp j).d)
  opb : s.op.length ≤ s.deep
theorem WF.start (f : Nat → Int) : WF f 0 St0 := by
  refine ⟨?_, ?_, ?_, ?_, ?_, ?_, ?_, ?_⟩ <;> simp [St0]
theorem WF.later {f : Nat → Int} {i : Nat} {s : St} (h : WF f i s) : WF f (i + 1) s :=
  ⟨fun k hk => by obtain ⟨m, a, b, c⟩ := h.beg k hk; exact ⟨m, a, by omega, c⟩, h.inc, h.desc, h.mem,
    fun k hk => by
      rcases h.fin k hk with a | ⟨m, a, b, c, d⟩
      · exact .inl a
      · exact .inr ⟨m, a, b, by omega, d⟩,
    fun k hk => by
      rcases h.els k hk with a | ⟨m, a, b, c, d⟩
      · exact .inl a
      · exact .inr ⟨m, a, b, by omega, d⟩, h.nest, h.opb⟩
theorem WF.opens {f : Nat → Int} {i : Nat} {s : St} (h : WF f i s) (ho : opn (f i) = true) :
    WF f (i + 1) { s with sp := s.sp ++ [⟨i, -1, -1⟩], op := s.sp.length :: s.op, deep := max s.deep (s.op.length + 1) } := by
  have h' := h.later
  have split : ∀ k, k < (s.sp ++ [(⟨i, -1, -1⟩ : Sp)]).length → k < s.sp.length ∨ k = s.sp.length := by intro k hk; simp at hk; omega
  refine ⟨?_, ?_, ?_, ?_, ?_, ?_, ?_, ?_⟩
  · intro k hk
    rcases split k hk with hk | rfl
    · rw [spAt_lt _ _ hk]; exact h'.beg k hk
    · rw [spAt_new]; exact ⟨i, rfl, by omega, ho⟩
  · intro j k hjk hk
    rcases split k hk with hk | rfl
    · rw [spAt_lt _ _ hk, spAt_lt _ _ (by omega)]; exact h.inc j k hjk hk
    · rw [spAt_new, spAt_lt _ _ hjk]
      obtain ⟨m, a, b, _⟩ := h.beg j hjk
      rw [a]; show (m : Int) < i; omega
  · refine List.Pairwise.cons ?_ h.desc
    intro k hk
    exact ((h.mem k).1 hk).1
  · intro k
    show k ∈ s.sp.length :: s.op ↔ _
    rw [List.mem_cons, h.mem]
    constructor
    · rintro (rfl | ⟨a, b⟩)
      · exact ⟨by simp, by rw [spAt_new]⟩
      · exact ⟨by simp; omega, by rw [spAt_lt _ _ a]; exact b⟩
    · rintro ⟨a, b⟩
      rcases split k a with hk | rfl
      · rw [spAt_lt _ _ hk] at b; exact .inr ⟨hk, b⟩
      · exact .inl rfl
  · intro k hk
    rcases split k hk with hk | rfl
    · rw [spAt_lt _ _ hk]; exact h'.fin k hk
    · rw [spAt_new]; exact .inl rfl
  · intro k hk
    rcases split k hk with hk | rfl
    · rw [spAt_lt _ _ hk]; exact h'.els k hk
    · rw [spAt_new]; exact .inl rfl
  · intro j k hjk hk
    rcases split k hk with hk | rfl
    · rw [spAt_lt _ _ hk, spAt_lt _ _ (by omega)]; exact h.nest j k hjk hk
    · rw [spAt_new, spAt_lt _ _ hjk]
      intro hd
      rcases h.fin j hjk with a | ⟨m, a, b, c, _⟩
      · exact absurd a hd
      · refine .inl ?_
        rw [a]; show (m : Int) < i; omega
  · show (s.sp.length :: s.op).length ≤ max s.deep (s.op.length + 1)
    simp; omega
theorem WF.elseY {f : Nat → Int} {i : Nat} {s : St} {k : Nat} {r : List Nat} (h : WF f i s) (ho : s.op = k :: r) :
    WF f (i + 1) { s with sp := s.sp.set k { spAt s.sp k with e := i } } := by
  have h' := h.later
  have hk := (h.mem k).1 (by rw [ho]; simp)
  have eqb : ∀ j, (spAt (s.sp.set k { spAt s.sp k with e := i }) j).b = (spAt s.sp j).b := by
    intro j
    by_cases hj : k = j
    · subst hj; rw [spAt_set _ _ hk.1]
    · rw [spAt_ne _ _ hj]
  have eqd : ∀ j, (spAt (s.sp.set k { spAt s.sp k with e := i }) j).d = (spAt s.sp j).d := by
    intro j
    by_cases hj : k = j
    · subst hj; rw [spAt_set _ _ hk.1]
    · rw [spAt_ne _ _ hj]
  have hlen : (s.sp.set k { spAt s.sp k with e := i }).length = s.sp.length := by simp
  refine ⟨?_, ?_, h.desc, ?_, ?_, ?_, ?_, h.opb⟩
  · intro j hj; rw [eqb]; exact h'.beg j (by rw [← hlen]; exact hj)
  · intro j m hjm hm; rw [eqb, eqb]; exact h.inc j m hjm (by rw [← hlen]; exact hm)
  · intro j; rw [eqd, hlen]; exact h.mem j
  · intro j hj; rw [eqd, eqb]; exact h'.fin j (by rw [← hlen]; exact hj)
  · intro j hj
    by_cases hkj : k = j
    · subst hkj
      obtain ⟨m, a, b, _⟩ := h.beg k hk.1
      rw [eqd, eqb, spAt_set _ _ hk.1]
      exact .inr ⟨i, rfl, by rw [a]; omega, by omega, .inl hk.2⟩
    · rw [spAt_ne _ _ hkj]; exact h'.els j (by rw [← hlen]; exact hj)
  · intro j m hjm hm; rw [eqb, eqd, eqd]; exact h.nest j m hjm (by rw [← hlen]; exact hm)
theorem WF.endY {f : Nat → Int} {i : Nat} {s : St} {k : Nat} {r : List Nat} (h : WF f i s) (hf : f i = 11) (ho : s.op = k :: r) :
    WF f (i + 1) { s with sp := s.sp.set k { spAt s.sp k with d := i }, op := r } := by
  have h' := h.later
  have hk := (h.mem k).1 (by rw [ho]; simp)
  have hd := h.desc
  rw [ho] at hd
  obtain ⟨hgt, hr⟩ := List.pairwise_cons.1 hd
  have eqb : ∀ j, (spAt (s.sp.set k { spAt s.sp k with d := i }) j).b = (spAt s.sp j).b := by
    intro j
    by_cases hj : k = j
    · subst hj; rw [spAt_set _ _ hk.1]
    · rw [spAt_ne _ _ hj]
  have eqe : ∀ j, (spAt (s.sp.set k { spAt s.sp k with d := i }) j).e = (spAt s.sp j).e := by
    intro j
    by_cases hj : k = j
    · subst hj; rw [spAt_set _ _ hk.1]
    · rw [spAt_ne _ _ hj]
  have hlen : (s.sp.set k { spAt s.sp k with d := i }).length = s.sp.length := by simp
  obtain ⟨mb, hb1, hb2, _⟩ := h.beg k hk.1
  refine ⟨?_, ?_, hr, ?_, ?_, ?_, ?_, ?_⟩
  · intro j hj; rw [eqb]; exact h'.beg j (by rw [← hlen]; exact hj)
  · intro j m hjm hm; rw [eqb, eqb]; exact h.inc j m hjm (by rw [← hlen]; exact hm)
  · intro j
    show j ∈ r ↔ _
    rw [hlen]
    have hm := h.mem j
    rw [ho, List.mem_cons] at hm
    by_cases hkj : k = j
    · subst hkj
      rw [spAt_set _ _ hk.1]
      constructor
      · intro hj; exact absurd (hgt k hj) (by omega)
      · rintro ⟨_, hj⟩; exact absurd hj (by show (i : Int) ≠ -1; omega)
    · rw [spAt_ne _ _ hkj, ← hm]
      constructor
      · exact .inr
      · rintro (rfl | hj)
        · exact absurd rfl hkj
        · exact hj
  · intro j hj
    rw [eqb]
    by_cases hkj : k = j
    · subst hkj
      rw [spAt_set _ _ hk.1]
      exact .inr ⟨i, rfl, by rw [hb1]; omega, by omega, hf⟩
    · rw [spAt_ne _ _ hkj]; exact h'.fin j (by rw [← hlen]; exact hj)
  · intro j hj
    rw [eqe, eqb]
    by_cases hkj : k = j
    · subst hkj
      rw [spAt_set _ _ hk.1]
      rcases h.els k hk.1 with a | ⟨m, a, b, c, _⟩
      · exact .inl a
      · exact .inr ⟨m, a, b, by omega, .inr (by show (m : Int) < i; omega)⟩
    · rw [spAt_ne _ _ hkj]; exact h'.els j (by rw [← hlen]; exact hj)
  · intro j m hjm hm hne
    rw [hlen] at hm
    rw [eqb]
    by_cases hkj : k = j
    · subst hkj
      rw [spAt_set _ _ hk.1, spAt_ne _ _ (by omega)]
      have hnm : m ∉ s.op := by
        rw [ho, List.mem_cons]
        rintro (e | e)
        · omega
        · exact absurd (hgt m e) (by omega)
      rcases h.fin m hm with a | ⟨x, a, b, c, _⟩
      · exact absurd ((h.mem m).2 ⟨hm, a⟩) hnm
      · refine .inr ⟨by omega, ?_⟩
        rw [a]; show (x : Int) < i; omega
    · rw [spAt_ne _ _ hkj] at hne ⊢
      by_cases hkm : k = m
      · subst hkm
        rcases h.nest j k hjm hm hne with a | ⟨a, _⟩
        · exact .inl a
        · exact absurd hk.2 a
      · rw [spAt_ne _ _ hkm]; exact h.nest j m hjm hm hne
  · show r.length ≤ s.deep
    have := h.opb
    rw [ho] at this
    simp at this
    omega
theorem wf_run (f : Nat → Int) : ∀ i, (run f i).wrong = false → (run f i).ended = false → WF f i (run f i)
  | 0, _, _ => WF.start f
  | i + 1, hw, he => by
    have hw' := right_back hw (Nat.le_succ i)
    have he' := open_back hw (Nat.lt_succ_self i)
    have h := wf_run f i hw' he'
    show WF f (i + 1) (stp f i (run f i))
    have hw2 : (stp f i (run f i)).wrong = false := hw
    have he2 : (stp f i (run f i)).ended = false := he
    cases way f i (run f i) with
    | stop h0 => rcases h0 with h0 | h0 <;> simp_all
    | opens _ _ h1 => rw [stp_open hw' he' h1]; exact h.opens h1
    | else0 _ _ h1 ho => rw [stp_else0 hw' he' h1 ho] at hw2; cases hw2
    | elseN k r _ _ h1 ho hl => rw [stp_elseN hw' he' h1 ho hl] at hw2; cases hw2
    | elseY k r _ _ h1 ho hl => rw [stp_elseY hw' he' h1 ho hl]; exact h.elseY ho
    | end0 _ _ h1 ho => rw [stp_end0 hw' he' h1 ho] at he2; cases he2
    | endY k r _ _ h1 ho => rw [stp_endY hw' he' h1 ho]; exact h.endY h1 ho
    | other _ _ h0 h1 h2 => rw [stp_other hw' he' h0 h1 h2]; exact h.later

/-- how a nested body ends -/
theorem fin_run {f : Nat → Int} {n : Nat} (hw : (run f n).wrong = false) (he : (run f n).ended = true) :
    ∃ m, n = m + 1 ∧ (run f m).wrong = false ∧ (run f m).ended = false ∧ (run f m).op = [] ∧ f m = 11 ∧ WF f m (run f m) ∧ (run f n).sp = (run f m).sp ++ [⟨-1, -1, m⟩] ∧ (run f n).deep = (run f m).deep := by
  cases n with
  | zero => simp [run, St0] at he
  | succ m =>
    have hw' := right_back hw (Nat.le_succ m)
    have he' := open_back hw (Nat.lt_succ_self m)
    have hwf := wf_run f m hw' he'
    have e : run f (m + 1) = stp f m (run f m) := rfl
    rw [e] at hw he ⊢
    cases way f m (run f m) with
    | stop h0 => rcases h0 with h0 | h0 <;> simp_all
    | opens _ _ h1 => rw [stp_open hw' he' h1] at he; simp [he'] at he
    | else0 _ _ h1 ho => rw [stp_else0 hw' he' h1 ho] at hw; cases hw
    | elseN k r _ _ h1 ho hl => rw [stp_elseN hw' he' h1 ho hl] at hw; cases hw
    | elseY k r _ _ h1 ho hl => rw [stp_elseY hw' he' h1 ho hl] at he; simp [he'] at he
    | end0 _ _ h1 ho => exact ⟨m, rfl, hw', he', ho, h1, hwf, by rw [stp_end0 hw' he' h1 ho], by rw [stp_end0 hw' he' h1 ho]⟩
    | endY k r _ _ h1 ho => rw [stp_endY hw' he' h1 ho] at he; simp [he'] at he
    | other _ _ h0 h1 h2 => rw [stp_other hw' he' h0 h1 h2] at he; simp [he'] at he

/-- a span holds a place, as far as is known -/
def hol (x : Sp) (at' : Nat) : Prop := x.b < at' ∧ (x.d = -1 ∨ (at' : Int) < x.d) ∧ (at' : Int) ≠ x.e
theorem arL_desc {f : Nat → Int} {i : Nat} {s : St} (h : WF f i s) : (arL f i s).Pairwise (· > ·) := by
  have hd := h.desc
  cases way f i s with
  | stop h0 => rw [arL_stop h0]; exact .nil
  | opens hw he h1 => rw [arL_open hw he h1]; exact hd
  | else0 hw he h1 ho => rw [arL_else0 hw he h1 ho]; exact .nil
  | elseN k r hw he h1 ho hl => rw [arL_elseN hw he h1 ho hl]; exact .nil
  | elseY k r hw he h1 ho hl => rw [arL_elseY hw he h1 ho hl]; rw [ho] at hd; exact (List.pairwise_cons.1 hd).2
  | end0 hw he h1 ho => rw [arL_end0 hw he h1 ho]; exact .nil
  | endY k r hw he h1 ho => rw [arL_endY hw he h1 ho]; rw [ho] at hd; exact (List.pairwise_cons.1 hd).2
  | other hw he h0 h1 h2 => rw [arL_other hw he h0 h1 h2]; exact hd
/-- those in whose middle a place stands, at the place itself -/
theorem hol_now {f : Nat → Int} {i : Nat} {s : St} (h : WF f i s) {k : Nat} (hk : k < s.sp.length) : hol (spAt s.sp k) i ↔ k ∈ s.op := by
  obtain ⟨m, hb, hm, _⟩ := h.beg k hk
  rw [h.mem]
  unfold hol
  rw [hb]
  constructor
  · rintro ⟨_, hd, _⟩
    refine ⟨hk, ?_⟩
    rcases h.fin k hk with a | ⟨x, a, _, c, _⟩
    · exact a
    · rcases hd with e | e
      · exact e
      · rw [a] at e; omega
  · rintro ⟨_, hd⟩
    refine ⟨by omega, .inl hd, ?_⟩
    rcases h.els k hk with a | ⟨x, a, _, c, _⟩
    · rw [a]; omega
    · rw [a]; omega
/-- behind the place's own step -/
theorem hol_step {f : Nat → Int} {i : Nat} (hw : (run f (i + 1)).wrong = false) (he : (run f (i + 1)).ended = false) {k : Nat} :
    (k < (run f (i + 1)).sp.length ∧ hol (spAt (run f (i + 1)).sp k) i) ↔ k ∈ arL f i (run f i) := by
  have hw' := right_back hw (Nat.le_succ i)
  have he' := open_back hw (Nat.lt_succ_self i)
  have h := wf_run f i hw' he'
  have e : run f (i + 1) = stp f i (run f i) := rfl
  rw [e] at hw he ⊢
  have inop : ∀ k, k ∈ (run f i).op → k < (run f i).sp.length := fun k hk => ((h.mem k).1 hk).1
  cases way f i (run f i) with
  | stop h0 => rcases h0 with h0 | h0 <;> simp_all
  | opens _ _ h1 =>
    rw [stp_open hw' he' h1, arL_open hw' he' h1]
    constructor
    · rintro ⟨hk, hh⟩
      simp at hk
      rcases Nat.lt_or_ge k (run f i).sp.length with hl | hl
      · rw [spAt_lt _ _ hl] at hh
        exact (hol_now h hl).1 hh
      · obtain rfl : k = (run f i).sp.length := by omega
        rw [spAt_new] at hh
        have := hh.1
        simp at this
    · intro hk
      have hl := inop k hk
      exact ⟨by simp; omega, by rw [spAt_lt _ _ hl]; exact (hol_now h hl).2 hk⟩
  | else0 _ _ h1 ho => rw [stp_else0 hw' he' h1 ho] at hw; cases hw
  | elseN k r _ _ h1 ho hl => rw [stp_elseN hw' he' h1 ho hl] at hw; cases hw
  | elseY j r _ _ h1 ho hl =>
    rw [stp_elseY hw' he' h1 ho hl, arL_elseY hw' he' h1 ho hl]
    have hj := inop j (by rw [ho]; simp)
    have hd := h.desc
    rw [ho] at hd
    obtain ⟨hgt, _⟩ := List.pairwise_cons.1 hd
    by_cases hjk : j = k
    · subst hjk
      rw [spAt_set _ _ hj]
      constructor
      · rintro ⟨_, hh⟩; exact absurd rfl hh.2.2
      · intro hk; exact absurd (hgt j hk) (by omega)
    · rw [spAt_ne _ _ hjk]
      simp only [List.length_set]
      constructor
      · rintro ⟨hk, hh⟩
        have := (hol_now h hk).1 hh
        rw [ho, List.mem_cons] at this
        rcases this with e | e
        · exact absurd e.symm hjk
        · exact e
      · intro hk
        have hk' : k ∈ (run f i).op := by rw [ho]; simp [hk]
        exact ⟨inop k hk', (hol_now h (inop k hk')).2 hk'⟩
  | end0 _ _ h1 ho => rw [stp_end0 hw' he' h1 ho] at he; cases he
  | endY j r _ _ h1 ho =>
    rw [stp_endY hw' he' h1 ho, arL_endY hw' he' h1 ho]
    have hj := inop j (by rw [ho]; simp)
    have hd := h.desc
    rw [ho] at hd
    obtain ⟨hgt, _⟩ := List.pairwise_cons.1 hd
    by_cases hjk : j = k
    · subst hjk
      rw [spAt_set _ _ hj]
      constructor
      · rintro ⟨_, hh⟩
        rcases hh.2.1 with e | e
        · simp at e
        · simp at e
      · intro hk; exact absurd (hgt j hk) (by omega)
    · rw [spAt_ne _ _ hjk]
      simp only [List.length_set]
      constructor
      · rintro ⟨hk, hh⟩
        have := (hol_now h hk).1 hh
        rw [ho, List.mem_cons] at this
        rcases this with e | e
        · exact absurd e.symm hjk
        · exact e
      · intro hk
        have hk' : k ∈ (run f i).op := by rw [ho]; simp [hk]
        exact ⟨inop k hk', (hol_now h (inop k hk')).2 hk'⟩
  | other _ _ h0 h1 h2 =>
    rw [stp_other hw' he' h0 h1 h2, arL_other hw' he' h0 h1 h2]
    constructor
    · rintro ⟨hk, hh⟩; exact (hol_now h hk).1 hh
    · intro hk; exact ⟨inop k hk, (hol_now h (inop k hk)).2 hk⟩
/-- and ever after -/
theorem hol_on {f : Nat → Int} {p i : Nat} (hpi : p < i) : (run f i).wrong = false → (run f i).ended = false → ∀ k,
    ((k < (run f i).sp.length ∧ hol (spAt (run f i).sp k) p) ↔ k ∈ arL f p (run f p)) := by
  induction i with
  | zero => omega
  | succ i ih =>
    intro hw he k
    rcases Nat.lt_or_ge p i with hp | hp
    · have hw' := right_back hw (Nat.le_succ i)
      have he' := open_back hw (Nat.lt_succ_self i)
      have h := wf_run f i hw' he'
      rw [← ih hp hw' he' k]
      have e : run f (i + 1) = stp f i (run f i) := rfl
      rw [e] at hw he ⊢
      cases way f i (run f i) with
      | stop h0 => rcases h0 with h0 | h0 <;> simp_all
      | opens _ _ h1 =>
        rw [stp_open hw' he' h1]
        constructor
        · rintro ⟨hk, hh⟩
          simp at hk
          rcases Nat.lt_or_ge k (run f i).sp.length with hl | hl
          · rw [spAt_lt _ _ hl] at hh
            exact ⟨hl, hh⟩
          · obtain rfl : k = (run f i).sp.length := by omega
            rw [spAt_new] at hh
            have := hh.1
            simp at this
            omega
        · rintro ⟨hl, hh⟩
          exact ⟨by simp; omega, by rw [spAt_lt _ _ hl]; exact hh⟩
      | else0 _ _ h1 ho => rw [stp_else0 hw' he' h1 ho] at hw; cases hw
      | elseN k r _ _ h1 ho hl => rw [stp_elseN hw' he' h1 ho hl] at hw; cases hw
      | elseY j r _ _ h1 ho hl =>
        rw [stp_elseY hw' he' h1 ho hl]
        have hj := ((h.mem j).1 (by rw [ho]; simp)).1
        simp only [List.length_set]
        by_cases hjk : j = k
        · subst hjk
          rw [spAt_set _ _ hj]
          have hl2 : (spAt (run f i).sp j).e = -1 := by
            have := hl
            simp [lacks] at this
            exact this.2
          simp only [hol, hl2]
          constructor
          · rintro ⟨a, b, c, d⟩; exact ⟨a, b, c, by omega⟩
          · rintro ⟨a, b, c, d⟩; exact ⟨a, b, c, by omega⟩
        · rw [spAt_ne _ _ hjk]
      | end0 _ _ h1 ho => rw [stp_end0 hw' he' h1 ho] at he; cases he
      | endY j r _ _ h1 ho =>
        rw [stp_endY hw' he' h1 ho]
        have hj := (h.mem j).1 (by rw [ho]; simp)
        simp only [List.length_set]
        by_cases hjk : j = k
        · subst hjk
          rw [spAt_set _ _ hj.1]
          simp only [hol, hj.2]
          constructor
          · rintro ⟨a, b, c, d⟩; exact ⟨a, b, by simp, d⟩
          · rintro ⟨a, b, c, d⟩; exact ⟨a, b, .inr (by omega), d⟩
        · rw [spAt_ne _ _ hjk]
      | other _ _ h0 h1 h2 => rw [stp_other hw' he' h0 h1 h2]
    · obtain rfl : p = i := by omega
      exact hol_step hw he
/-- of a nested body: those in whose middle a place stands -/
theorem around_iff {f : Nat → Int} {n p : Nat} (hw : (run f n).wrong = false) (he : (run f n).ended = true) (hp : p < n) (k : Nat) :
    (k + 1 < (run f n).sp.length ∧ (spAt (run f n).sp k).b < p ∧ (p : Int) < (spAt (run f n).sp k).d ∧ (p : Int) ≠ (spAt (run f n).sp k).e) ↔ k ∈ arL f p (run f p) := by
  obtain ⟨m, rfl, hw', he', hop, hf, hwf, hsp, _⟩ := fin_run hw he
  rw [hsp]
  have hcl : ∀ k, k < (run f m).sp.length → (spAt (run f m).sp k).d ≠ -1 := by
    intro k hk hd
    have := (hwf.mem k).2 ⟨hk, hd⟩
    rw [hop] at this; cases this
  rcases Nat.lt_or_ge p m with hpm | hpm
  · rw [← hol_on hpm hw' he' k]
    constructor
    · rintro ⟨hk, a, b, c⟩
      have hk' : k < (run f m).sp.length := by simpa using hk
      rw [spAt_lt _ _ hk'] at a b c
      exact ⟨hk', a, .inr b, c⟩
    · rintro ⟨hk, a, b, c⟩
      rw [spAt_lt _ _ hk]
      refine ⟨by simpa using hk, a, ?_, c⟩
      rcases b with b | b
      · exact absurd b (hcl k hk)
      · exact b
  · obtain rfl : p = m := by omega
    rw [arL_end0 hw' he' hf hop]
    constructor
    · rintro ⟨hk, a, b, c⟩
      have hk' : k < (run f p).sp.length := by simpa using hk
      rw [spAt_lt _ _ hk'] at a b c
      rcases hwf.fin k hk' with e | ⟨x, e, _, hx, _⟩
      · exact absurd e (hcl k hk')
      · rw [e] at b; omega
    · intro h; cases h
theorem arL_desc' {f : Nat → Int} {n p : Nat} (hw : (run f n).wrong = false) (hp : p < n) : (arL f p (run f p)).Pairwise (· > ·) :=
  arL_desc (wf_run f p (right_back hw (by omega)) (open_back hw hp))
end Go.Proofs.Ytglagdbkcigojaa

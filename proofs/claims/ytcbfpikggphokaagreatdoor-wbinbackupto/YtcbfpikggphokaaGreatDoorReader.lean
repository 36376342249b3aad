/-
  The program's reader: the bytes that are left, or an error and no bytes: what it takes, as parsers tell; only its own block is changed, and new memory made.
-/
import Derived.Test.YtcbfpikggphokaaGreatDoorMods
import Derived.Test.YtcbfpikggphokaaGreatDoorTold
import Derived.Test.YtcbfpikggphokaaGreatDoorTake
namespace Go.Proofs.YtcbfpikggphokaaGreatDoor
open Go.RowKit

/-- All older blocks but those of X are as they were. -/
structure But (X : Nat → Prop) (w w' : World) : Prop where
  os : w'.os = w.os
  tape : w'.tape = w.tape
  output : w'.output = w.output
  size : w.heap.size ≤ w'.heap.size
  block : ∀ i, i < w.heap.size → ¬ X i → w'.heap[i]? = w.heap[i]?
theorem But.refl (X : Nat → Prop) (w : World) : But X w w := ⟨rfl, rfl, rfl, Nat.le_refl _, fun _ _ _ => rfl⟩
theorem But.trans {X : Nat → Prop} {a b c : World} (h : But X a b) (k : But X b c) : But X a c :=
  ⟨k.os.trans h.os, k.tape.trans h.tape, k.output.trans h.output, Nat.le_trans h.size k.size, fun i hi hx => (k.block i (Nat.lt_of_lt_of_le hi h.size) hx).trans (h.block i hi hx)⟩
theorem But.of {X : Nat → Prop} {w w' : World} (h : Below w.heap.size w w') : But X w w' := ⟨h.os, h.tape, h.output, h.size, fun i hi _ => h.block i hi⟩
theorem But.more {X Y : Nat → Prop} {w w' : World} (h : But X w w') (k : ∀ i, i < w.heap.size → X i → Y i) : But Y w w' := ⟨h.os, h.tape, h.output, h.size, fun i hi hy => h.block i hi fun hx => hy (k i hi hx)⟩
theorem But.below {X : Nat → Prop} {w w' : World} {B : Nat} (h : But X w w') (hB : B ≤ w.heap.size) (hx : ∀ i, i < B → ¬ X i) : Below B w w' := ⟨h.os, h.tape, h.output, h.size, fun i hi => h.block i (Nat.lt_of_lt_of_le hi hB) (hx i hi)⟩
theorem But.set {X : Nat → Prop} {a w : World} (h : But X a w) {b : Nat} (j : Nat) (x : Value) (hb : X b ∨ a.heap.size ≤ b) : But X a (w.setCell ⟨b, j, none⟩ x) :=
  ⟨h.os, h.tape, h.output, by simp [World.setCell]; exact h.size, fun i hi hx => by
    rw [Below.heap_setCell w _ x i (by intro e; have e2 : i = b := e; subst e2; rcases hb with hb | hb; exact hx hb; omega)]; exact h.block i hi hx⟩
theorem But.row {X : Nat → Prop} {w w' : World} (h : But X w w') {b : Nat} {cs : Array Value} {ty : TypeId} (r : Row w b cs ty) (hb : ¬ X b) : Row w' b cs ty := by
  have hl := r.lt
  unfold Row at *; rw [h.block b hl hb]; exact r
theorem But.fault {X : Nat → Prop} {w w' : World} (h : But X w w') {p : Nat} {c a : Int} (r : FaultAt w p c a) (hb : ¬ X p) : FaultAt w' p c a := by
  have hl := r.lt
  unfold FaultAt at *; rw [h.block p hl hb]; exact r
theorem But.laid {X : Nat → Prop} {w w' : World} (h : But X w w') (r : Laid w) (hb : ¬ X 0) : Laid w' := by
  have e := h.block 0 r.pos hb
  unfold Laid at *
  rw [← r]; simp [World.cell?, e]
abbrev One (q : Nat) : Nat → Prop := fun i => i = q
/-- New memory. -/
abbrev New (w w' : World) : Nat → Prop := fun b => w.heap.size ≤ b ∧ b < w'.heap.size
theorem But.same {X : Nat → Prop} {w w' w'' : World} (h : But X w' w'') (hX : ∀ i, X i → i < w.heap.size) : Same (New w w') w' w'' := fun i hi => h.block i hi.2 fun hx => absurd (hX i hx) (by omega)
theorem new_more {w w' w'' : World} (h : w'.heap.size ≤ w''.heap.size) : ∀ i, New w w' i → New w w'' i := fun _ hi => ⟨hi.1, Nat.lt_of_lt_of_le hi.2 h⟩
theorem new_late {w w' w'' : World} (h : w.heap.size ≤ w'.heap.size) : ∀ i, New w' w'' i → New w w'' i := fun _ hi => ⟨Nat.le_trans h hi.1, hi.2⟩

/-- A reader's state: the bytes that are left; none, once something was not there. -/
def RS (w : World) (q : Nat) : Option (List UInt8) → Prop
  | some l => l.length ≤ 4000 ∧ Row w q #[.string (str l), .nilIface] 129
  | none => ∃ p, p ≠ q ∧ Row w q #[.string (str []), flt p] 129 ∧ FaultAt w p 2 0
theorem RS.row {w : World} {q : Nat} {s : Option (List UInt8)} (h : RS w q s) : (s.getD []).length ≤ 4000 ∧ ∃ ev, Row w q #[.string (str (s.getD [])), ev] 129 := by
  cases s with
  | some l => exact ⟨h.1, _, h.2⟩
  | none => obtain ⟨p, _, r, _⟩ := h; exact ⟨by simp, _, r⟩
theorem RS.lt {w : World} {q : Nat} {s : Option (List UInt8)} (h : RS w q s) : q < w.heap.size := by
  obtain ⟨_, ev, r⟩ := h.row; exact r.lt
theorem RS.kept {w w' : World} {q : Nat} {s : Option (List UInt8)} (h : RS w q s) (k : Below w.heap.size w w') : RS w' q s := by
  cases s with
  | some l => exact ⟨h.1, h.2.kept k⟩
  | none => obtain ⟨p, n, r, f⟩ := h; exact ⟨p, n, r.kept k, f.kept k⟩
abbrev ptr (q : Nat) : Value := .pointer (some ⟨q, 0, none⟩)
abbrev none0 : Ending := .returned (.tuple #[])

theorem fail_any (q : Nat) (s ev : Value) (w : World) (h : Row w q #[s, ev] 129) :
    Calls Tryz.prog 106 #[ptr q] w fun e w' => e = none0 ∧ RS w' q none ∧ But (One q) w w' := by
  have hq := h.lt
  have H := hide h
  clear h
  go_enter Tryz.func106, Tryz.ntmps106
  go_wp2_with fail
  refine (fault_any 2 0 _).mono ?_
  rintro e w1 ⟨rfl, f1, b1⟩
  have R1 := hide (H.out.kept b1)
  have c0 := R1.out.c 0 _ rfl
  have c1 := R1.out.c 1 _ rfl
  have z0 := R1.out.fr 0
  have z1 := R1.out.fr 1
  have F1 := hide f1
  have B1 := hide b1
  clear f1 b1
  unfold flt
  go_wp2_with fail
  go_end0
  refine ⟨rfl, ⟨w.heap.size, Nat.ne_of_gt hq, (R1.out.set 0 (.string (str []))).set 1 _, ?_⟩, ((But.of (X := One q) B1.out).set 0 _ (Or.inl rfl)).set 1 _ (Or.inl rfl)⟩
  have hn : w.heap.size ≠ q := Nat.ne_of_gt hq
  have f := F1.out
  unfold FaultAt at *
  rw [Below.heap_setCell _ _ _ _ hn, Below.heap_setCell _ _ _ _ hn]
  exact f
theorem settle_no (q : Nat) (s : Option (List UInt8)) (t : ByteArray) (e : Int) (w : World) (h : RS w q s) (he : e ≠ 0) :
    Calls Tryz.prog 141 #[ptr q, .string t, .int .i64 e] w fun r w' => r = none0 ∧ RS w' q none ∧ But (One q) w w' := by
  obtain ⟨_, ev, hr⟩ := h.row
  have F := hide (fail_any q _ _ w hr)
  have z : (e != 0) = true := by simpa using he
  clear h hr he
  go_enter Tryz.func141, Tryz.ntmps141
  go_wp2_with fail
  refine F.out.mono ?_
  rintro r w1 ⟨rfl, h1, b1⟩
  go_wp2_with fail
  refine bodyPost_ret (results_none rfl _ _ _) rfl ?_
  exact ⟨rfl, h1, b1⟩
theorem settle_yes (q : Nat) (l t : List UInt8) (w : World) (h : RS w q (some l)) (ht : t.length ≤ 4000) :
    Calls Tryz.prog 141 #[ptr q, .string (str t), .int .i64 0] w fun r w' => r = none0 ∧ RS w' q (some t) ∧ But (One q) w w' := by
  have H := hide h.2
  have c0 := h.2.c 0 _ rfl
  have z0 := h.2.fr 0
  clear h
  go_enter Tryz.func141, Tryz.ntmps141
  go_wp2_with fail
  go_end0
  exact ⟨rfl, ⟨ht, H.out.set 0 _⟩, (But.refl _ w).set 0 _ (Or.inl rfl)⟩
/-- What is left, and what was taken, behind a parser. -/
def rest {α : Type} (s : Option (List UInt8)) (P : List UInt8 → Option (α × List UInt8)) : Option (List UInt8) := (s.bind P).map (·.2)
def got {α : Type} (d : α) (s : Option (List UInt8)) (P : List UInt8 → Option (α × List UInt8)) : α := ((s.bind P).map (·.1)).getD d
theorem rest_some {α : Type} {s : Option (List UInt8)} {P : List UInt8 → Option (α × List UInt8)} {x : α} {r : List UInt8} (h : s.bind P = some (x, r)) : rest s P = some r := by simp [rest, h]
theorem rest_none {α : Type} {s : Option (List UInt8)} {P : List UInt8 → Option (α × List UInt8)} (h : s.bind P = none) : rest s P = none := by simp [rest, h]
theorem got_some {α : Type} {d : α} {s : Option (List UInt8)} {P : List UInt8 → Option (α × List UInt8)} {x : α} {r : List UInt8} (h : s.bind P = some (x, r)) : got d s P = x := by simp [got, h]
theorem got_none {α : Type} {d : α} {s : Option (List UInt8)} {P : List UInt8 → Option (α × List UInt8)} (h : s.bind P = none) : got d s P = d := by simp [got, h]
/-- Numbers without a sign. -/
def numP (l : List UInt8) : Option (Int × List UInt8) := ok3 (tkU l 32)
theorem numP_nil : numP [] = none := by decide
theorem numP_bd {l r : List UInt8} {n : Int} (h : numP l = some (n, r)) : 0 ≤ n ∧ n < 4294967296 ∧ r.length ≤ l.length := by
  unfold numP ok3 tkU at h
  rw [if_neg (show ¬ ((32 : Int) < 1 ∨ 63 < (32 : Int)) by omega)] at h
  split at h
  · split at h
    · rename_i h1 _
      simp only [Option.some.injEq, Prod.mk.injEq] at h
      obtain ⟨rfl, rfl⟩ := h
      refine ⟨h1.1, ?_, by simp⟩
      have h2 := h1.2.2
      have e : (2 : Int) ^ Int.toNat 32 = 4294967296 := by decide
      rw [e] at h2
      omega
    · cases h
  · split at h
    · rename_i h2; simp at h2
    · cases h
theorem numP_cases (l : List UInt8) : (∃ n r, tkU l 32 = (n, r, 0) ∧ numP l = some (n, r)) ∨ (tkU l 32 = (0, [], 6) ∧ numP l = none) := by
  rcases tkU_two l 32 (by omega) with h | ⟨a, r, h⟩
  · exact Or.inr ⟨h, by simp [numP, ok3, h]⟩
  · exact Or.inl ⟨a, r, h, by simp [numP, ok3, h]⟩
/-- A function of a reader that takes a number. -/
def RI (g : FuncId) (q : Nat) (lo hi : Int) (P : List UInt8 → Option (Int × List UInt8)) : Prop :=
  ∀ s w, RS w q s → Calls Tryz.prog g #[ptr q] w fun e w' => ∃ i, e = .returned (.int .i64 i) ∧ lo ≤ i ∧ i ≤ hi ∧ (∀ x r, s.bind P = some (x, r) → i = x) ∧ RS w' q (rest s P) ∧ But (One q) w w'
theorem number_any (q : Nat) : RI 121 q 0 4294967295 numP := by
  intro s w h
  cases s with
  | some l =>
    have hl := h.1
    have R := hide h.2
    have c0 := h.2.c 0 _ rfl
    rcases numP_cases l with ⟨n, r, ht, hP⟩ | ⟨ht, hP⟩
    · have bd := numP_bd hP
      have T := hide (takeU_is l 32 n r 0 w (by omega) ht)
      have hr : r.length ≤ 4000 := by omega
      have S := hide (fun w1 (b1 : Below w.heap.size w w1) => settle_yes q l r w1 (h.kept b1) hr)
      have HP := hide hP
      clear h ht hP
      go_enter Tryz.func121, Tryz.ntmps121
      go_wp2_with fail
      refine T.out.mono ?_
      rintro e w1 ⟨rfl, b1⟩
      have S1 := hide (S.out w1 b1)
      clear S T
      go_wp2_with fail
      refine S1.out.mono ?_
      rintro e w2 ⟨rfl, h2, b2⟩
      go_wp2_with fail
      go_ret
      refine ⟨n, rfl, bd.1, by omega, ?_, ?_, (But.of b1).trans b2⟩
      · intro x y e
        have e2 : numP l = some (x, y) := e
        rw [HP.out] at e2
        cases e2; rfl
      · have e2 : (Option.bind (some l) numP) = some (n, r) := HP.out
        rw [rest_some e2]; exact h2
    · have T := hide (takeU_is l 32 0 [] 6 w (by omega) ht)
      have S := hide (fun w1 (b1 : Below w.heap.size w w1) => settle_no q _ (str []) 6 w1 (h.kept b1) (by decide))
      have HP := hide hP
      clear h ht hP
      go_enter Tryz.func121, Tryz.ntmps121
      go_wp2_with fail
      refine T.out.mono ?_
      rintro e w1 ⟨rfl, b1⟩
      have S1 := hide (S.out w1 b1)
      clear S T
      go_wp2_with fail
      refine S1.out.mono ?_
      rintro e w2 ⟨rfl, h2, b2⟩
      go_wp2_with fail
      go_ret
      have e2 : (Option.bind (some l) numP) = none := HP.out
      rw [rest_none e2, e2]
      exact ⟨0, rfl, by omega, by omega, (fun x y e => by cases e), h2, (But.of b1).trans b2⟩
  | none =>
    obtain ⟨p, hp, hr, hf⟩ := id h
    have c0 := hr.c 0 _ rfl
    have T := hide (takeU_is [] 32 0 [] 6 w (by simp) (by decide))
    have S := hide (fun w1 (b1 : Below w.heap.size w w1) => settle_no q _ (str []) 6 w1 (h.kept b1) (by decide))
    clear h hr hf
    go_enter Tryz.func121, Tryz.ntmps121
    go_wp2_with fail
    refine T.out.mono ?_
    rintro e w1 ⟨rfl, b1⟩
    have S1 := hide (S.out w1 b1)
    clear S T
    go_wp2_with fail
    refine S1.out.mono ?_
    rintro e w2 ⟨rfl, h2, b2⟩
    go_wp2_with fail
    go_ret
    exact ⟨0, rfl, by omega, by omega, (fun x y e => by cases e), by rw [rest_none rfl]; exact h2, (But.of b1).trans b2⟩
/-- So many bytes. -/
def bytP (n : Nat) (l : List UInt8) : Option (List UInt8 × List UInt8) := if n ≤ l.length then some (l.take n, l.drop n) else none
theorem str_take (l : List UInt8) (n : Nat) : (str l).extract 0 n = str (l.take n) := by
  apply ByteArray.ext; simp [str, ByteArray.data_extract]
theorem str_drop (l : List UInt8) (n : Nat) : (str l).extract n (str l).size = str (l.drop n) := by
  rw [ext_drop, str_list]
theorem bytes_any (q n : Nat) (s : Option (List UInt8)) (w : World) (h : RS w q s) :
    Calls Tryz.prog 120 #[ptr q, .int .i64 n] w fun e w' => e = .returned (.string (str (got [] s (bytP n)))) ∧ RS w' q (rest s (bytP n)) ∧ But (One q) w w' := by
  obtain ⟨hl, ev, hr⟩ := h.row
  have c0 := hr.c 0 _ rfl
  have z0 := hr.fr 0
  have R := hide hr
  by_cases hn : n ≤ (s.getD []).length
  · have g : ¬ ((str (s.getD [])).size : Int) < (n : Int) := by rw [str_size]; omega
    have g2 : n ≤ (str (s.getD [])).size := by rw [str_size]; omega
    have g3 : (n : Int) ≤ ((str (s.getD [])).size : Int) := by omega
    have e1 := hide (str_take (s.getD []) n)
    have e2 := hide (str_drop (s.getD []) n)
    have HS := hide h
    have HN := hide hn
    clear h hr hn hl
    go_enter Tryz.func120, Tryz.ntmps120
    go_wp2_with fail
    go_ret
    rw [e1.out, e2.out]
    cases s with
    | some l =>
      have hb : (some l).bind (bytP n) = some (l.take n, l.drop n) := by
        have := HN.out; simp only [Option.getD_some] at this; simp [bytP, this]
      rw [rest_some hb, got_some hb]
      have h := HS.out
      refine ⟨rfl, ⟨by have := h.1; simp; omega, h.2.set 0 _⟩, (But.refl _ w).set 0 _ (Or.inl rfl)⟩
    | none =>
      obtain ⟨p, hp, hr, hf⟩ := HS.out
      have e3 : ([] : List UInt8).drop n = [] := by simp
      have e4 : ([] : List UInt8).take n = [] := by simp
      rw [rest_none rfl, got_none rfl]
      simp only [Option.getD_none, e3, e4]
      refine ⟨rfl, ⟨p, hp, hr.set 0 _, ?_⟩, (But.refl _ w).set 0 _ (Or.inl rfl)⟩
      unfold FaultAt at *
      rw [Below.heap_setCell _ _ _ _ hp]; exact hf
  · have g : ((str (s.getD [])).size : Int) < (n : Int) := by rw [str_size]; omega
    have F := hide (fail_any q _ _ w hr)
    have HS := hide h
    have HN := hide hn
    clear h hr hn hl
    go_enter Tryz.func120, Tryz.ntmps120
    go_wp2_with fail
    refine F.out.mono ?_
    rintro e w1 ⟨rfl, h1, b1⟩
    go_wp2_with fail
    go_ret
    have hb : s.bind (bytP n) = none := by
      cases s with
      | none => rfl
      | some l => have := HN.out; simp only [Option.getD_some] at this; simp [bytP]; omega
    rw [rest_none hb, got_none hb]
    exact ⟨rfl, h1, b1⟩
/-- As many bytes as the number ahead of them says. -/
def cntP (l : List UInt8) : Option (List UInt8 × List UInt8) := (numP l).bind fun x => bytP x.1.toNat x.2
theorem counted_any (q : Nat) (s : Option (List UInt8)) (w : World) (h : RS w q s) :
    Calls Tryz.prog 105 #[ptr q] w fun e w' => e = .returned (.string (str (got [] s cntP))) ∧ RS w' q (rest s cntP) ∧ But (One q) w w' := by
  have N := hide (number_any q s w h)
  clear h
  go_enter Tryz.func105, Tryz.ntmps105
  go_wp2_with fail
  refine N.out.mono ?_
  rintro e w1 ⟨i, rfl, hi0, _, hx, h1, b1⟩
  obtain ⟨n, rfl⟩ := Int.eq_ofNat_of_zero_le hi0
  have BY := hide (bytes_any q n _ w1 h1)
  have HX := hide hx
  clear h1 hi0 hx N
  go_wp2_with fail
  refine BY.out.mono ?_
  rintro e w2 ⟨rfl, h2, b2⟩
  go_wp2_with fail
  go_ret
  have key : (rest s numP).bind (bytP n) = s.bind cntP := by
    cases s with
    | none => rfl
    | some l =>
      cases hp : numP l with
      | none => simp [rest, cntP, hp]
      | some x =>
        have e := HX.out x.1 x.2 (by simpa using hp)
        simp [rest, cntP, hp, ← e]
  have k1 : rest (rest s numP) (bytP n) = rest s cntP := by unfold rest; unfold rest at key; rw [key]
  have k2 : got [] (rest s numP) (bytP n) = got [] s cntP := by unfold got; rw [key]
  rw [k1] at h2
  rw [k2]
  exact ⟨rfl, h2, b1.trans b2⟩
/-- One byte. -/
def oneP : List UInt8 → Option (Int × List UInt8)
  | [] => none
  | c :: r => some ((c.toNat : Int), r)
theorem oneByte_any (q : Nat) : RI 104 q 0 255 oneP := by
  intro s w h
  have BY := hide (bytes_any q 1 s w h)
  cases hs : s.bind (bytP 1) with
  | none =>
    rw [rest_none hs, got_none hs] at BY
    have he : (str []).toList.isEmpty = true := by unfold str; simp
    clear h
    go_enter Tryz.func104, Tryz.ntmps104
    go_wp2_with fail
    refine BY.out.mono ?_
    rintro e w1 ⟨rfl, h1, b1⟩
    go_wp2_with fail
    go_ret
    have e2 : s.bind oneP = none := by
      cases s with
      | none => rfl
      | some l => cases l with
        | nil => rfl
        | cons c r => simp [bytP] at hs
    rw [rest_none e2, e2]
    exact ⟨0, rfl, by omega, by omega, (fun x y e => by cases e), h1, b1⟩
  | some x =>
    rw [rest_some hs, got_some hs] at BY
    obtain ⟨c, r, rfl, rfl⟩ : ∃ c r, s = some (c :: r) ∧ x = ([c], r) := by
      cases s with
      | none => cases hs
      | some l => cases l with
        | nil => simp [bytP] at hs
        | cons c r => simp [bytP] at hs; exact ⟨c, r, rfl, hs.symm⟩
    have he : (str [c]).toList.isEmpty = false := by unfold str; simp
    have hz : (str [c]).size = 1 := by rw [str_size]; rfl
    clear h hs
    go_enter Tryz.func104, Tryz.ntmps104
    go_wp2_with fail
    refine BY.out.mono ?_
    rintro e w1 ⟨rfl, h1, b1⟩
    go_wp2_with fail
    go_ret
    have hc := c.toNat_lt
    exact ⟨c.toNat, ret_int (by show wrap64 (c.toNat : Int) = _; unfold wrap64; omega), by omega, by omega, (fun x y e => by cases e; rfl), h1, b1⟩
end Go.Proofs.YtcbfpikggphokaaGreatDoor

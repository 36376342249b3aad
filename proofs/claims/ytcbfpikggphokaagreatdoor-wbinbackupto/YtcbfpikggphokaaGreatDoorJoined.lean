/-
  The program's parts.fill: a section's things, put into their cell of the parts; other memory than the parts' and the reader's is kept.
  What was read so far: the parts of a module, plain and in memory; a section put into them.
  The program's parts.fill over the parts, plain and in memory.
  The program's parts.next: a whole section, put into the parts.
  The program's joined: each function with its code; or a fault where there is more or less of it than functions.
-/
import Derived.Test.YtcbfpikggphokaaGreatDoorManyR
namespace Go.Proofs.YtcbfpikggphokaaGreatDoor
open Go.RowKit

theorem enter123 (args : Array Value) (w : World) : (callFunc 123 args).run Tryz.prog w = .ok (.enter 123 args) w := by kernel_rfl
theorem enter121 (args : Array Value) (w : World) : (callFunc 121 args).run Tryz.prog w = .ok (.enter 121 args) w := by kernel_rfl
theorem enter129 (args : Array Value) (w : World) : (callFunc 129 args).run Tryz.prog w = .ok (.enter 129 args) w := by kernel_rfl
theorem enter132 (args : Array Value) (w : World) : (callFunc 132 args).run Tryz.prog w = .ok (.enter 132 args) w := by kernel_rfl
theorem enter126 (args : Array Value) (w : World) : (callFunc 126 args).run Tryz.prog w = .ok (.enter 126 args) w := by kernel_rfl
theorem enter130 (args : Array Value) (w : World) : (callFunc 130 args).run Tryz.prog w = .ok (.enter 130 args) w := by kernel_rfl
/-- Two blocks. -/
abbrev Duo (p q : Nat) : Nat → Prop := fun i => i = p ∨ i = q
theorem But.duo {p q : Nat} {w w' : World} (h : But (One q) w w') : But (Duo p q) w w' := h.more (fun _ _ hx => Or.inr hx)
theorem same_set {S : Nat → Prop} {w : World} {b : Nat} (hb : ¬ S b) (j : Nat) (v : Value) : Same S w (w.setCell ⟨b, j, none⟩ v) := fun i hi => Below.heap_setCell w _ v i (by intro e; have e2 : i = b := e; subst e2; exact hb hi)
theorem same_trans {S : Nat → Prop} {a b c : World} (h : Same S a b) (k : Same S b c) : Same S a c := fun i hi => (k i hi).trans (h i hi)
set_option maxHeartbeats 3200000 in
theorem fill_1 (P0 q : Nat) (v0 v1 v2 v3 v4 v5 v6 v7 v8 : Value) (s : Option (List UInt8)) (w : World) (hp : Row w P0 #[v0, v1, v2, v3, v4, v5, v6, v7, v8] 127) (h : RS w q s) (hpq : P0 ≠ q) :
    Calls Tryz.prog 107 #[ptr P0, .int .i64 1, ptr q] w fun e w' => ∃ v, e = none0 ∧ (∃ a n c, v = .slice a n c) ∧ Row w' P0 #[v, v1, v2, v3, v4, v5, v6, v7, v8] 127 ∧ RS w' q (rest s (someP sgP)) ∧ But (Duo P0 q) w w' ∧ ∀ x r, s.bind (someP sgP) = some (x, r) → Sl 2 ESg (New w w') w' v x := by
  have hP := hp.lt
  have hq := h.lt
  have T := hide (some_sg 123 q sgP enter123 (sig_any q) s w h)
  have RP := hide hp
  have hne : ¬ One q P0 := hpq
  clear h hp
  go_enter Tryz.func107, Tryz.ntmps107
  go_wp2_with fail
  refine T.out.mono ?_
  rintro e w1 ⟨v, rfl, ⟨a1, n1, m1, rfl⟩, hs, b1, hx⟩
  have R1 := hide (b1.row RP.out hne)
  have B1 := hide b1
  have HX := hide hx
  have HS := hide hs
  have d0 := R1.out.c 0 _ rfl
  have z := R1.out.fr
  clear hx hs b1 T RP
  go_wp2_with fail
  go_end0
  refine ⟨_, rfl, ⟨a1, n1, m1, rfl⟩, R1.out.set 0 _, HS.out.other R1.out (by decide) (Ne.symm hpq) 0 _, B1.out.duo.set 0 _ (Or.inl (Or.inl rfl)), fun x r e => ?_⟩
  have hn : ¬ New w w1 P0 := fun h => by have := h.1; omega
  exact (HX.out x r e).to keeps_sg (same_set hn 0 _) (fun i hi => ⟨hi.1, by simpa [World.setCell] using hi.2⟩)
set_option maxHeartbeats 3200000 in
theorem fill_2 (P0 q : Nat) (v0 v1 v2 v3 v4 v5 v6 v7 v8 : Value) (s : Option (List UInt8)) (w : World) (hp : Row w P0 #[v0, v1, v2, v3, v4, v5, v6, v7, v8] 127) (h : RS w q s) (hpq : P0 ≠ q) :
    Calls Tryz.prog 107 #[ptr P0, .int .i64 2, ptr q] w fun e w' => ∃ v, e = none0 ∧ (∃ a n c, v = .slice a n c) ∧ Row w' P0 #[v0, v, v2, v3, v4, v5, v6, v7, v8] 127 ∧ RS w' q (rest s (someP numP)) ∧ But (Duo P0 q) w w' ∧ ∀ x r, s.bind (someP numP) = some (x, r) → Sl 1 EInt (New3 w w') w' v x := by
  have hP := hp.lt
  have hq := h.lt
  have T := hide (some_int 121 q 0 4294967295 numP enter121 (number_any q) (by omega) s w h)
  have RP := hide hp
  have hne : ¬ One q P0 := hpq
  clear h hp
  go_enter Tryz.func107, Tryz.ntmps107
  go_wp2_with fail
  refine T.out.mono ?_
  rintro e w1 ⟨v, rfl, ⟨a1, n1, m1, rfl⟩, hs, b1, hx⟩
  have R1 := hide (b1.row RP.out hne)
  have B1 := hide b1
  have HX := hide hx
  have HS := hide hs
  have d1 := R1.out.c 1 _ rfl
  have z := R1.out.fr
  clear hx hs b1 T RP
  go_wp2_with fail
  go_end0
  refine ⟨_, rfl, ⟨a1, n1, m1, rfl⟩, R1.out.set 1 _, HS.out.other R1.out (by decide) (Ne.symm hpq) 1 _, B1.out.duo.set 1 _ (Or.inl (Or.inl rfl)), fun x r e => ?_⟩
  have hn : ¬ New3 w w1 P0 := fun h => by have := h.1; omega
  exact (HX.out x r e).to keeps_int (same_set hn 1 _) (fun i hi => by obtain ⟨h1, cs, fr, h2⟩ := id hi; exact ⟨h1, cs, fr, by rw [same_set hn 1 _ i hi]; exact h2⟩)
set_option maxHeartbeats 3200000 in
theorem fill_6 (P0 q : Nat) (v0 v1 v2 v3 v4 v5 v6 v7 v8 : Value) (s : Option (List UInt8)) (w : World) (hp : Row w P0 #[v0, v1, v2, v3, v4, v5, v6, v7, v8] 127) (h : RS w q s) (hpq : P0 ≠ q) :
    Calls Tryz.prog 107 #[ptr P0, .int .i64 6, ptr q] w fun e w' => ∃ v, e = none0 ∧ (∃ a n c, v = .slice a n c) ∧ Row w' P0 #[v0, v1, v2, v3, v4, v, v6, v7, v8] 127 ∧ RS w' q (rest s (someP glP)) ∧ But (Duo P0 q) w w' ∧ ∀ x r, s.bind (someP glP) = some (x, r) → Sl 2 EGl (New w w') w' v x := by
  have hP := hp.lt
  have hq := h.lt
  have T := hide (some_gl 129 q glP enter129 (global_any q) s w h)
  have RP := hide hp
  have hne : ¬ One q P0 := hpq
  clear h hp
  go_enter Tryz.func107, Tryz.ntmps107
  go_wp2_with fail
  refine T.out.mono ?_
  rintro e w1 ⟨v, rfl, ⟨a1, n1, m1, rfl⟩, hs, b1, hx⟩
  have R1 := hide (b1.row RP.out hne)
  have B1 := hide b1
  have HX := hide hx
  have HS := hide hs
  have d5 := R1.out.c 5 _ rfl
  have z := R1.out.fr
  clear hx hs b1 T RP
  go_wp2_with fail
  go_end0
  refine ⟨_, rfl, ⟨a1, n1, m1, rfl⟩, R1.out.set 5 _, HS.out.other R1.out (by decide) (Ne.symm hpq) 5 _, B1.out.duo.set 5 _ (Or.inl (Or.inl rfl)), fun x r e => ?_⟩
  have hn : ¬ New w w1 P0 := fun h => by have := h.1; omega
  exact (HX.out x r e).to keeps_gl (same_set hn 5 _) (fun i hi => ⟨hi.1, by simpa [World.setCell] using hi.2⟩)
set_option maxHeartbeats 3200000 in
theorem fill_11 (P0 q : Nat) (v0 v1 v2 v3 v4 v5 v6 v7 v8 : Value) (s : Option (List UInt8)) (w : World) (hp : Row w P0 #[v0, v1, v2, v3, v4, v5, v6, v7, v8] 127) (h : RS w q s) (hpq : P0 ≠ q) :
    Calls Tryz.prog 107 #[ptr P0, .int .i64 11, ptr q] w fun e w' => ∃ v, e = none0 ∧ (∃ a n c, v = .slice a n c) ∧ Row w' P0 #[v0, v1, v2, v3, v4, v5, v, v7, v8] 127 ∧ RS w' q (rest s (someP daP)) ∧ But (Duo P0 q) w w' ∧ ∀ x r, s.bind (someP daP) = some (x, r) → Sl 3 EDa (New w w') w' v x := by
  have hP := hp.lt
  have hq := h.lt
  have T := hide (some_da 132 q daP enter132 (datum_any q) s w h)
  have RP := hide hp
  have hne : ¬ One q P0 := hpq
  clear h hp
  go_enter Tryz.func107, Tryz.ntmps107
  go_wp2_with fail
  refine T.out.mono ?_
  rintro e w1 ⟨v, rfl, ⟨a1, n1, m1, rfl⟩, hs, b1, hx⟩
  have R1 := hide (b1.row RP.out hne)
  have B1 := hide b1
  have HX := hide hx
  have HS := hide hs
  have d6 := R1.out.c 6 _ rfl
  have z := R1.out.fr
  clear hx hs b1 T RP
  go_wp2_with fail
  go_end0
  refine ⟨_, rfl, ⟨a1, n1, m1, rfl⟩, R1.out.set 6 _, HS.out.other R1.out (by decide) (Ne.symm hpq) 6 _, B1.out.duo.set 6 _ (Or.inl (Or.inl rfl)), fun x r e => ?_⟩
  have hn : ¬ New w w1 P0 := fun h => by have := h.1; omega
  exact (HX.out x r e).to keeps_da (same_set hn 6 _) (fun i hi => ⟨hi.1, by simpa [World.setCell] using hi.2⟩)
set_option maxHeartbeats 3200000 in
theorem fill_3 (P0 q : Nat) (v0 v1 v2 v3 v4 v5 v6 v7 v8 : Value) (s : Option (List UInt8)) (w : World) (hp : Row w P0 #[v0, v1, v2, v3, v4, v5, v6, v7, v8] 127) (h : RS w q s) (hpq : P0 ≠ q) :
    Calls Tryz.prog 107 #[ptr P0, .int .i64 3, ptr q] w fun e w' => ∃ v n cs, e = none0 ∧ w'.ownsRow w.heap.size 50 4 v n cs ∧ Row w' P0 #[v0, v1, v, v3, v4, v5, v6, v7, v8] 127 ∧ RS w' q (rest s (someP fnP)) ∧ But (Duo P0 q) w w' ∧ ∀ x r, s.bind (someP fnP) = some (x, r) → x.length = n ∧ ∀ j (h : j < x.length), Cfn (NewT 50 w w') w' ((cs.drop (j * 4)).take 4) x[j] := by
  have hP := hp.lt
  have hq := h.lt
  have T := hide (some_fnr 126 q fnP enter126 (function_any q) s w h)
  have RP := hide hp
  have hne : ¬ One q P0 := hpq
  clear h hp
  go_enter Tryz.func107, Tryz.ntmps107
  go_wp2_with fail
  refine T.out.mono ?_
  rintro e w1 ⟨v, n1, cs, rfl, hown, hs, b1, hx⟩
  obtain ⟨a1, m1, hv⟩ := own_slice hown
  subst hv
  have R1 := hide (b1.row RP.out hne)
  have B1 := hide b1
  have HX := hide hx
  have HS := hide hs
  have OW := hide hown
  have d2 := R1.out.c 2 _ rfl
  have z := R1.out.fr
  clear hx hs b1 T RP hown
  go_wp2_with fail
  go_end0
  refine ⟨_, _, _, rfl, OW.out.kept (((But.refl (One P0) w1).set 2 _ (Or.inl rfl)).grown (q := P0) (fun _ h => h)) (by
      cases hb' : (Value.slice a1 n1 m1).ownBlock with
      | none => exact Or.inl rfl
      | some j => exact Or.inr (fun e => by cases e; have := (own_row OW.out P0 hb').1; omega)), R1.out.set 2 _, HS.out.other R1.out (by decide) (Ne.symm hpq) 2 _, B1.out.duo.set 2 _ (Or.inl (Or.inl rfl)), fun x r e => ?_⟩
  have hn : ¬ NewT 50 w w1 P0 := fun h => by have := h.1; omega
  obtain ⟨h1, h2⟩ := HX.out x r e
  exact ⟨h1, fun j hj => (h2 j hj).to (same_set hn 2 _) (newT_more (same_set hn 2 _))⟩
set_option maxHeartbeats 3200000 in
theorem fill_10 (P0 q : Nat) (v0 v1 v2 v3 v4 v5 v6 v7 v8 : Value) (s : Option (List UInt8)) (w : World) (hp : Row w P0 #[v0, v1, v2, v3, v4, v5, v6, v7, v8] 127) (h : RS w q s) (hpq : P0 ≠ q) :
    Calls Tryz.prog 107 #[ptr P0, .int .i64 10, ptr q] w fun e w' => ∃ v n cs, e = none0 ∧ w'.ownsRow w.heap.size 50 4 v n cs ∧ Row w' P0 #[v0, v1, v2, v3, v4, v5, v6, v, v8] 127 ∧ RS w' q (rest s (someP cdP)) ∧ But (Duo P0 q) w w' ∧ ∀ x r, s.bind (someP cdP) = some (x, r) → x.length = n ∧ ∀ j (h : j < x.length), Cfn (NewT 50 w w') w' ((cs.drop (j * 4)).take 4) x[j] := by
  have hP := hp.lt
  have hq := h.lt
  have T := hide (some_fnr 130 q cdP enter130 (code_any q) s w h)
  have RP := hide hp
  have hne : ¬ One q P0 := hpq
  clear h hp
  go_enter Tryz.func107, Tryz.ntmps107
  go_wp2_with fail
  refine T.out.mono ?_
  rintro e w1 ⟨v, n1, cs, rfl, hown, hs, b1, hx⟩
  obtain ⟨a1, m1, hv⟩ := own_slice hown
  subst hv
  have R1 := hide (b1.row RP.out hne)
  have B1 := hide b1
  have HX := hide hx
  have HS := hide hs
  have OW := hide hown
  have d7 := R1.out.c 7 _ rfl
  have z := R1.out.fr
  clear hx hs b1 T RP hown
  go_wp2_with fail
  go_end0
  refine ⟨_, _, _, rfl, OW.out.kept (((But.refl (One P0) w1).set 7 _ (Or.inl rfl)).grown (q := P0) (fun _ h => h)) (by
      cases hb' : (Value.slice a1 n1 m1).ownBlock with
      | none => exact Or.inl rfl
      | some j => exact Or.inr (fun e => by cases e; have := (own_row OW.out P0 hb').1; omega)), R1.out.set 7 _, HS.out.other R1.out (by decide) (Ne.symm hpq) 7 _, B1.out.duo.set 7 _ (Or.inl (Or.inl rfl)), fun x r e => ?_⟩
  have hn : ¬ NewT 50 w w1 P0 := fun h => by have := h.1; omega
  obtain ⟨h1, h2⟩ := HX.out x r e
  exact ⟨h1, fun j hj => (h2 j hj).to (same_set hn 7 _) (newT_more (same_set hn 7 _))⟩
set_option maxHeartbeats 3200000 in
theorem fill_5 (P0 q : Nat) (v0 v1 v2 v3 v4 v5 v6 v7 v8 : Value) (s : Option (List UInt8)) (w : World) (hp : Row w P0 #[v0, v1, v2, v3, v4, v5, v6, v7, v8] 127) (h : RS w q s) (hpq : P0 ≠ q) :
    Calls Tryz.prog 107 #[ptr P0, .int .i64 5, ptr q] w fun e w' => ∃ a b, e = none0 ∧ (I64 a ∧ I64 b) ∧ Row w' P0 #[v0, v1, v2, .int .i64 a, .int .i64 b, v5, v6, v7, v8] 127 ∧ RS w' q (rest s mmP) ∧ But (Duo P0 q) w w' ∧ ∀ x r, s.bind mmP = some (x, r) → x = (a, b) := by
  have hP := hp.lt
  have hq := h.lt
  have T := hide (mems_any q s w h)
  have RP := hide hp
  have hne : ¬ One q P0 := hpq
  clear h hp
  go_enter Tryz.func107, Tryz.ntmps107
  go_wp2_with fail
  refine T.out.mono ?_
  rintro e w1 ⟨a, b, rfl, hab, hs, b1, hx⟩
  have R1 := hide (b1.row RP.out hne)
  have B1 := hide b1
  have HX := hide hx
  have HS := hide hs
  have HA := hide hab
  have d3 := R1.out.c 3 _ rfl
  have d4 := R1.out.c 4 _ rfl
  have z := R1.out.fr
  clear hx hs b1 T RP hab
  go_wp2_with fail
  go_end0
  exact ⟨a, b, rfl, HA.out, (R1.out.set 3 _).set 4 _, (HS.out.other R1.out (by decide) (Ne.symm hpq) 3 _).other (R1.out.set 3 _) (by decide) (Ne.symm hpq) 4 _, (B1.out.duo.set 3 _ (Or.inl (Or.inl rfl))).set 4 _ (Or.inl (Or.inl rfl)), HX.out⟩
set_option maxHeartbeats 3200000 in
theorem fill_no (c : Int) (P0 q : Nat) (v0 v1 v2 v3 v4 v5 v6 v7 v8 : Value) (s : Option (List UInt8)) (w : World) (hp : Row w P0 #[v0, v1, v2, v3, v4, v5, v6, v7, v8] 127) (h : RS w q s) (hpq : P0 ≠ q) (hc : c ≠ 1 ∧ c ≠ 2 ∧ c ≠ 3 ∧ c ≠ 5 ∧ c ≠ 6 ∧ c ≠ 10 ∧ c ≠ 11) :
    Calls Tryz.prog 107 #[ptr P0, .int .i64 c, ptr q] w fun e w' => e = none0 ∧ Row w' P0 #[v0, v1, v2, v3, v4, v5, v6, v7, v8] 127 ∧ RS w' q none ∧ But (Duo P0 q) w w' := by
  obtain ⟨_, ev, row⟩ := h.row
  have FA := hide (fail_any q _ _ w row)
  have RP := hide hp
  have g1 : (c == 1) = false := by simp; omega
  have g2 : (c == 2) = false := by simp; omega
  have g3 : (c == 3) = false := by simp; omega
  have g5 : (c == 5) = false := by simp; omega
  have g6 : (c == 6) = false := by simp; omega
  have g10 : (c == 10) = false := by simp; omega
  have g11 : (c == 11) = false := by simp; omega
  clear h hp row hc
  go_enter Tryz.func107, Tryz.ntmps107
  go_wp2_with fail
  refine FA.out.mono ?_
  rintro e w1 ⟨rfl, h1, b1⟩
  go_wp2_with fail
  go_end0
  exact ⟨rfl, b1.row RP.out hpq, h1, b1.duo⟩
end Go.Proofs.YtcbfpikggphokaaGreatDoor
namespace Go.Proofs.YtcbfpikggphokaaGreatDoor
open Go.RowKit

structure Pa where
  m : Mo
  codes : List Fn
def fillP (c : Int) (p : Pa) (l : List UInt8) : Option (Pa × List UInt8) :=
  if c = 1 then (someP sgP l).map fun x => (⟨{p.m with sigs := x.1}, p.codes⟩, x.2)
  else if c = 2 then (someP numP l).map fun x => (⟨{p.m with imports := x.1}, p.codes⟩, x.2)
  else if c = 3 then (someP fnP l).map fun x => (⟨{p.m with funcs := x.1}, p.codes⟩, x.2)
  else if c = 5 then (mmP l).map fun x => (⟨{p.m with m0 := x.1.1, m1 := x.1.2}, p.codes⟩, x.2)
  else if c = 6 then (someP glP l).map fun x => (⟨{p.m with globals := x.1}, p.codes⟩, x.2)
  else if c = 10 then (someP cdP l).map fun x => (⟨p.m, x.1⟩, x.2)
  else if c = 11 then (someP daP l).map fun x => (⟨{p.m with data := x.1}, p.codes⟩, x.2)
  else none
/-- Parts that lie in memory: the functions' row is apart from all the rest. -/
structure PaIn (S : Nat → Prop) (B : Nat) (w : World) (v0 v1 v2 v5 v6 v7 : Value) (n : Nat) (cs : List Value) (p : Pa) : Prop where
  inS : ∀ i, S i → B ≤ i ∧ i < w.heap.size
  apart : ∀ j, v2.ownBlock = some j → ¬ S j
  sigs : Sl 2 ESg S w v0 p.m.sigs
  imports : Sl 1 EInt S w v1 p.m.imports
  own : w.ownsRow B 50 4 v2 n cs
  len : p.m.funcs.length = n
  funcs : ∀ j (h : j < p.m.funcs.length), Cfn S w ((cs.drop (j * 4)).take 4) p.m.funcs[j]
  mems : I64 p.m.m0 ∧ I64 p.m.m1
  globals : Sl 2 EGl S w v5 p.m.globals
  data : Sl 3 EDa S w v6 p.m.data
  codes : Sl 4 EFn S w v7 p.codes
theorem own_but {X : Nat → Prop} {w w' : World} {B : Nat} {e : TypeId} {sz : Nat} {v : Value} {n : Nat} {cs : List Value} (h : w.ownsRow B e sz v n cs) (k : But X w w') (hv : ∀ j, v.ownBlock = some j → ¬ X j) : w'.ownsRow B e sz v n cs := by
  refine ⟨h.1, ?_⟩
  rcases h.2 with h2 | ⟨g, cap, cur, rfl, hb, hc, r⟩
  · exact Or.inl h2
  · exact Or.inr ⟨g, cap, cur, rfl, hb, by rw [k.block g (Array.getElem?_eq_some_iff.1 hc).1 (hv g rfl)]; exact hc, r⟩
/-- More memory behind it, other blocks changed. -/
theorem PaIn.but {S N X : Nat → Prop} {B : Nat} {w w' : World} {v0 v1 v2 v5 v6 v7 : Value} {n : Nat} {cs : List Value} {p : Pa} (h : PaIn S B w v0 v1 v2 v5 v6 v7 n cs p) (k : But X w w') (hB : B ≤ w.heap.size) (hS : ∀ i, X i → ¬ S i) (hv : ∀ j, v2.ownBlock = some j → ¬ X j)
    (hN : ∀ i, N i → w.heap.size ≤ i ∧ i < w'.heap.size) : PaIn (fun i => S i ∨ N i) B w' v0 v1 v2 v5 v6 v7 n cs p := by
  have sm : Same S w w' := fun i hi => k.block i (h.inS i hi).2 (fun hx => hS i hx hi)
  have hc : ∀ i, S i → S i ∨ N i := fun i hi => Or.inl hi
  refine ⟨fun i hi => ?_, fun j hj hx => ?_, h.sigs.to keeps_sg sm hc, h.imports.to keeps_int sm hc, own_but h.own k hv, h.len, fun j hj => (h.funcs j hj).to sm hc, h.mems, h.globals.to keeps_gl sm hc, h.data.to keeps_da sm hc, h.codes.to keeps_fn sm hc⟩
  · rcases hi with hi | hi
    · exact ⟨(h.inS i hi).1, Nat.lt_of_lt_of_le (h.inS i hi).2 k.size⟩
    · exact ⟨Nat.le_trans hB (hN i hi).1, (hN i hi).2⟩
  · rcases hx with hx | hx
    · exact h.apart j hj hx
    · have := (h.own.lt j hj).2
      have := (hN j hx).1
      omega
theorem own_base {w : World} {B B' : Nat} {e : TypeId} {sz : Nat} {v : Value} {n : Nat} {cs : List Value} (h : w.ownsRow B e sz v n cs) (hb : B' ≤ B) : w.ownsRow B' e sz v n cs := by
  refine ⟨h.1, ?_⟩
  rcases h.2 with h2 | ⟨g, cap, cur, rfl, hb2, r⟩
  · exact Or.inl h2
  · exact Or.inr ⟨g, cap, cur, rfl, Nat.le_trans hb hb2, r⟩
/-- Functions in a row of their own, as a slice of them. -/
theorem own_fns {w W : World} {v : Value} {n : Nat} {cs : List Value} {x : List Fn} (hown : W.ownsRow w.heap.size 50 4 v n cs) (hx : x.length = n) (he : ∀ j (h : j < x.length), Cfn (NewT 50 w W) W ((cs.drop (j * 4)).take 4) x[j]) : Sl 4 EFn (New w W) W v x := by
  have hlen := hown.1
  have hlt := hown.lt
  obtain ⟨_, h2⟩ := id hown
  rcases h2 with ⟨rfl, h0⟩ | ⟨g, cap, cur, rfl, hb, _⟩
  · have e0 : x = [] := List.eq_nil_of_length_eq_zero (by omega)
    subst e0
    exact Sl.isNil _ _ _ _
  · refine ⟨_, _, by rw [hx], fun j hj => ⟨g, 0, rfl, hlt g rfl, ?_⟩⟩
    refine cellsC_fn _ _ _ _ ((cs.drop (j * 4)).take 4) _ (by rw [List.length_take, List.length_drop]; omega) (fun t ht => ?_) (keepsC_fn _ _ _ _ _ _ (he j hj) (same_self _ _) (fun i hi => hi.new))
    rw [Nat.zero_add, hown.cellAt (j * 4 + t) (by omega), List.getElem?_take, if_pos ht, List.getElem?_drop]
end Go.Proofs.YtcbfpikggphokaaGreatDoor
namespace Go.Proofs.YtcbfpikggphokaaGreatDoor
open Go.RowKit

theorem fill_any (c : Int) (P0 q B : Nat) (S : Nat → Prop) (v0 v1 v2 v5 v6 v7 lv : Value) (n : Nat) (cs : List Value) (p : Pa) (s : Option (List UInt8)) (w : World)
    (hp : Row w P0 #[v0, v1, v2, .int .i64 p.m.m0, .int .i64 p.m.m1, v5, v6, v7, lv] 127) (h : RS w q s) (hpq : P0 ≠ q) (hP : P0 < B) (hB : B ≤ w.heap.size) (hS : ¬ S q) (hv : v2.ownBlock ≠ some q) (hi : PaIn S B w v0 v1 v2 v5 v6 v7 n cs p) :
    Calls Tryz.prog 107 #[ptr P0, .int .i64 c, ptr q] w fun e w' => e = none0 ∧ RS w' q (rest s (fillP c p)) ∧ But (Duo P0 q) w w' ∧ ∀ p' r, s.bind (fillP c p) = some (p', r) →
      ∃ S' v0' v1' v2' v5' v6' v7' n' cs', Row w' P0 #[v0', v1', v2', .int .i64 p'.m.m0, .int .i64 p'.m.m1, v5', v6', v7', lv] 127 ∧ PaIn S' B w' v0' v1' v2' v5' v6' v7' n' cs' p' := by
  have hX : ∀ i, Duo P0 q i → ¬ S i := by
    rintro i (rfl | rfl)
    · intro hs; have := (hi.inS _ hs).1; omega
    · exact hS
  have hV : ∀ j, v2.ownBlock = some j → ¬ Duo P0 q j := by
    rintro j hj (rfl | rfl)
    · have := (hi.own.lt _ hj).1; omega
    · exact hv hj
  by_cases h1 : c = 1
  · subst h1
    refine (fill_1 P0 q _ _ _ _ _ _ _ _ _ s w hp h hpq).mono ?_
    rintro e w' ⟨v, rfl, _, row, hs, bt, hx⟩
    have eq : s.bind (fillP 1 p) = (s.bind (someP sgP)).map fun x => ((fun y => (⟨{p.m with sigs := y}, p.codes⟩ : Pa)) x.1, x.2) := by cases s <;> rfl
    refine ⟨rfl, by rw [map_rest (f := fun y => (⟨{p.m with sigs := y}, p.codes⟩ : Pa)) eq]; exact hs, bt, fun p' r e => ?_⟩
    rw [eq] at e
    obtain ⟨y, hy, e2⟩ := Option.map_eq_some_iff.1 e
    cases e2
    have h' := hi.but (N := New w w') bt hB hX hV (fun i hi => hi)
    exact ⟨_, v, v1, v2, v5, v6, v7, n, cs, row, h'.inS, h'.apart, (hx y.1 y.2 hy).to keeps_sg (same_self _ _) (fun i hi => Or.inr hi), h'.imports, h'.own, h'.len, h'.funcs, h'.mems, h'.globals, h'.data, h'.codes⟩
  by_cases h2 : c = 2
  · subst h2
    refine (fill_2 P0 q _ _ _ _ _ _ _ _ _ s w hp h hpq).mono ?_
    rintro e w' ⟨v, rfl, _, row, hs, bt, hx⟩
    have eq : s.bind (fillP 2 p) = (s.bind (someP numP)).map fun x => ((fun y => (⟨{p.m with imports := y}, p.codes⟩ : Pa)) x.1, x.2) := by cases s <;> rfl
    refine ⟨rfl, by rw [map_rest (f := fun y => (⟨{p.m with imports := y}, p.codes⟩ : Pa)) eq]; exact hs, bt, fun p' r e => ?_⟩
    rw [eq] at e
    obtain ⟨y, hy, e2⟩ := Option.map_eq_some_iff.1 e
    cases e2
    have h' := hi.but (N := New3 w w') bt hB hX hV (fun i hi => ⟨hi.1, hi.lt⟩)
    exact ⟨_, v0, v, v2, v5, v6, v7, n, cs, row, h'.inS, h'.apart, h'.sigs, (hx y.1 y.2 hy).to keeps_int (same_self _ _) (fun i hi => Or.inr hi), h'.own, h'.len, h'.funcs, h'.mems, h'.globals, h'.data, h'.codes⟩
  by_cases h3 : c = 3
  · subst h3
    refine (fill_3 P0 q _ _ _ _ _ _ _ _ _ s w hp h hpq).mono ?_
    rintro e w' ⟨v, n', cs', rfl, hown, row, hs, bt, hx⟩
    have eq : s.bind (fillP 3 p) = (s.bind (someP fnP)).map fun x => ((fun y => (⟨{p.m with funcs := y}, p.codes⟩ : Pa)) x.1, x.2) := by cases s <;> rfl
    refine ⟨rfl, by rw [map_rest (f := fun y => (⟨{p.m with funcs := y}, p.codes⟩ : Pa)) eq]; exact hs, bt, fun p' r e => ?_⟩
    rw [eq] at e
    obtain ⟨y, hy, e2⟩ := Option.map_eq_some_iff.1 e
    cases e2
    obtain ⟨g1, g2⟩ := hx y.1 y.2 hy
    have h' := hi.but (N := NewT 50 w w') bt hB hX hV (fun i hi => hi.new)
    refine ⟨_, v0, v1, v, v5, v6, v7, n', cs', row, h'.inS, fun j hj hx => ?_, h'.sigs, h'.imports, own_base hown hB, g1, fun j hj => (g2 j hj).to (same_self _ _) (fun i hi => Or.inr hi), h'.mems, h'.globals, h'.data, h'.codes⟩
    obtain ⟨o1, cur, o2⟩ := own_row hown j hj
    rcases hx with hx | ⟨_, cs2, t, fr, k2, k3⟩
    · have := (hi.inS j hx).2; omega
    · rw [o2] at k2
      simp at k2
      exact k3 k2.2.1.symm
  by_cases h5 : c = 5
  · subst h5
    refine (fill_5 P0 q _ _ _ _ _ _ _ _ _ s w hp h hpq).mono ?_
    rintro e w' ⟨a, b, rfl, hab, row, hs, bt, hx⟩
    have eq : s.bind (fillP 5 p) = (s.bind mmP).map fun x => ((fun (y : Int × Int) => (⟨{p.m with m0 := y.1, m1 := y.2}, p.codes⟩ : Pa)) x.1, x.2) := by cases s <;> rfl
    refine ⟨rfl, by rw [map_rest (f := fun (y : Int × Int) => (⟨{p.m with m0 := y.1, m1 := y.2}, p.codes⟩ : Pa)) eq]; exact hs, bt, fun p' r e => ?_⟩
    rw [eq] at e
    obtain ⟨y, hy, e2⟩ := Option.map_eq_some_iff.1 e
    cases e2
    obtain ⟨⟨a', b'⟩, r'⟩ := y
    cases hx _ _ hy
    have h' := hi.but (N := fun _ => False) bt hB hX hV (fun i hi => hi.elim)
    exact ⟨_, v0, v1, v2, v5, v6, v7, n, cs, row, h'.inS, h'.apart, h'.sigs, h'.imports, h'.own, h'.len, h'.funcs, hab, h'.globals, h'.data, h'.codes⟩
  by_cases h6 : c = 6
  · subst h6
    refine (fill_6 P0 q _ _ _ _ _ _ _ _ _ s w hp h hpq).mono ?_
    rintro e w' ⟨v, rfl, _, row, hs, bt, hx⟩
    have eq : s.bind (fillP 6 p) = (s.bind (someP glP)).map fun x => ((fun y => (⟨{p.m with globals := y}, p.codes⟩ : Pa)) x.1, x.2) := by cases s <;> rfl
    refine ⟨rfl, by rw [map_rest (f := fun y => (⟨{p.m with globals := y}, p.codes⟩ : Pa)) eq]; exact hs, bt, fun p' r e => ?_⟩
    rw [eq] at e
    obtain ⟨y, hy, e2⟩ := Option.map_eq_some_iff.1 e
    cases e2
    have h' := hi.but (N := New w w') bt hB hX hV (fun i hi => hi)
    exact ⟨_, v0, v1, v2, v, v6, v7, n, cs, row, h'.inS, h'.apart, h'.sigs, h'.imports, h'.own, h'.len, h'.funcs, h'.mems, (hx y.1 y.2 hy).to keeps_gl (same_self _ _) (fun i hi => Or.inr hi), h'.data, h'.codes⟩
  by_cases h10 : c = 10
  · subst h10
    refine (fill_10 P0 q _ _ _ _ _ _ _ _ _ s w hp h hpq).mono ?_
    rintro e w' ⟨v, n', cs', rfl, hown, row, hs, bt, hx⟩
    have eq : s.bind (fillP 10 p) = (s.bind (someP cdP)).map fun x => ((fun y => (⟨p.m, y⟩ : Pa)) x.1, x.2) := by cases s <;> rfl
    refine ⟨rfl, by rw [map_rest (f := fun y => (⟨p.m, y⟩ : Pa)) eq]; exact hs, bt, fun p' r e => ?_⟩
    rw [eq] at e
    obtain ⟨y, hy, e2⟩ := Option.map_eq_some_iff.1 e
    cases e2
    obtain ⟨g1, g2⟩ := hx y.1 y.2 hy
    have h' := hi.but (N := New w w') bt hB hX hV (fun i hi => hi)
    exact ⟨_, v0, v1, v2, v5, v6, v, n, cs, row, h'.inS, h'.apart, h'.sigs, h'.imports, h'.own, h'.len, h'.funcs, h'.mems, h'.globals, h'.data, (own_fns hown g1 g2).to keeps_fn (same_self _ _) (fun i hi => Or.inr hi)⟩
  by_cases h11 : c = 11
  · subst h11
    refine (fill_11 P0 q _ _ _ _ _ _ _ _ _ s w hp h hpq).mono ?_
    rintro e w' ⟨v, rfl, _, row, hs, bt, hx⟩
    have eq : s.bind (fillP 11 p) = (s.bind (someP daP)).map fun x => ((fun y => (⟨{p.m with data := y}, p.codes⟩ : Pa)) x.1, x.2) := by cases s <;> rfl
    refine ⟨rfl, by rw [map_rest (f := fun y => (⟨{p.m with data := y}, p.codes⟩ : Pa)) eq]; exact hs, bt, fun p' r e => ?_⟩
    rw [eq] at e
    obtain ⟨y, hy, e2⟩ := Option.map_eq_some_iff.1 e
    cases e2
    have h' := hi.but (N := New w w') bt hB hX hV (fun i hi => hi)
    exact ⟨_, v0, v1, v2, v5, v, v7, n, cs, row, h'.inS, h'.apart, h'.sigs, h'.imports, h'.own, h'.len, h'.funcs, h'.mems, h'.globals, (hx y.1 y.2 hy).to keeps_da (same_self _ _) (fun i hi => Or.inr hi), h'.codes⟩
  · have eq : s.bind (fillP c p) = none := by
      cases s with
      | none => rfl
      | some l => simp [fillP, h1, h2, h3, h5, h6, h10, h11]
    refine (fill_no c P0 q _ _ _ _ _ _ _ _ _ s w hp h hpq ⟨h1, h2, h3, h5, h6, h10, h11⟩).mono ?_
    rintro e w' ⟨rfl, row, hs, bt⟩
    exact ⟨rfl, by rw [rest_none eq]; exact hs, bt, fun p' r e => by rw [eq] at e; cases e⟩
end Go.Proofs.YtcbfpikggphokaaGreatDoor
namespace Go.Proofs.YtcbfpikggphokaaGreatDoor
open Go.RowKit

def nextP (p : Pa) (last : Int) (l : List UInt8) : Option ((Pa × Int) × List UInt8) :=
  (oneP l).bind fun x => (cntP x.2).bind fun y => if x.1 ≤ last then none else (fillP x.1 p y.1).bind fun z => if z.2.length = 0 then some ((z.1, x.1), y.2) else none
theorem But.then {X Y : Nat → Prop} {a b c : World} (h : But X a b) (k : But Y b c) (hY : ∀ i, i < a.heap.size → Y i → X i) : But X a c :=
  ⟨k.os.trans h.os, k.tape.trans h.tape, k.output.trans h.output, Nat.le_trans h.size k.size, fun i hi hx => (k.block i (Nat.lt_of_lt_of_le hi h.size) (fun hy => hx (hY i hi hy))).trans (h.block i hi hx)⟩
theorem fault_other {w : World} {P0 pf : Nat} {cs : Array Value} (r : Row w P0 cs 127) (hf : FaultAt w pf 2 0) (j : Nat) (v : Value) : FaultAt (w.setCell ⟨P0, j, none⟩ v) pf 2 0 := by
  have hn : pf ≠ P0 := by
    intro e
    subst e
    unfold Row at r
    unfold FaultAt at hf
    rw [r] at hf
    simp at hf
  unfold FaultAt at *
  rw [Below.heap_setCell _ _ _ _ hn]
  exact hf
theorem rest_got {α : Type} {P : List UInt8 → Option (α × List UInt8)} {b t : List UInt8} (h : rest (some b) P = some t) : ∃ x, P b = some (x, t) := by
  unfold rest at h
  obtain ⟨y, hy, e⟩ := Option.map_eq_some_iff.1 h
  subst e
  exact ⟨y.1, hy⟩
theorem rest_not {α : Type} {P : List UInt8 → Option (α × List UInt8)} {b : List UInt8} (h : rest (some b) P = none) : P b = none := by
  unfold rest at h
  exact Option.map_eq_none_iff.1 h
/-- The same, as the program goes. -/
theorem next_key (p : Pa) (last i : Int) (l b : List UInt8) (hx : ∀ x r, (some l).bind oneP = some (x, r) → i = x) (hb : b = got [] (rest (some l) oneP) cntP) :
    nextP p last l = (rest (rest (some l) oneP) cntP).bind fun r => if i ≤ last then none else (fillP i p b).bind fun z => if z.2.length = 0 then some ((z.1, i), r) else none := by
  unfold nextP
  cases ho : oneP l with
  | none => rw [rest_none (s := some l) (P := oneP) (by simpa using ho)]; rfl
  | some x =>
    have e := hx x.1 x.2 (by simpa using ho)
    rw [rest_some (x := x.1) (r := x.2) (by simpa using ho)] at hb ⊢
    simp only [Option.bind_some]
    cases hc : cntP x.2 with
    | none => rw [rest_none (by simpa using hc)]; rfl
    | some y =>
      rw [rest_some (x := y.1) (r := y.2) (by simpa using hc)]
      rw [got_some (x := y.1) (r := y.2) (by simpa using hc)] at hb
      simp only [Option.bind_some, e, hb]
set_option maxRecDepth 100000 in
set_option maxHeartbeats 3200000 in
theorem next_any (P0 q B : Nat) (S : Nat → Prop) (v0 v1 v2 v5 v6 v7 : Value) (last : Int) (n : Nat) (cs : List Value) (p : Pa) (l : List UInt8) (w : World)
    (hp : Row w P0 #[v0, v1, v2, .int .i64 p.m.m0, .int .i64 p.m.m1, v5, v6, v7, .int .i64 last] 127) (h : RS w q (some l)) (hpq : P0 ≠ q) (hP : P0 < B) (hQ : q < B) (hB : B ≤ w.heap.size) (hi : PaIn S B w v0 v1 v2 v5 v6 v7 n cs p) :
    Calls Tryz.prog 72 #[ptr P0, ptr q] w fun e w' => But (Duo P0 q) w w' ∧ ((∃ p' c r, nextP p last l = some ((p', c), r) ∧ e = .returned .nilIface ∧ RS w' q (some r) ∧ (0 ≤ c ∧ c ≤ 255) ∧
        ∃ S' v0' v1' v2' v5' v6' v7' n' cs', Row w' P0 #[v0', v1', v2', .int .i64 p'.m.m0, .int .i64 p'.m.m1, v5', v6', v7', .int .i64 c] 127 ∧ PaIn S' B w' v0' v1' v2' v5' v6' v7' n' cs' p') ∨
      (nextP p last l = none ∧ ∃ pf, e = .returned (flt pf) ∧ FaultAt w' pf 2 0)) := by
  have O := hide (oneByte_any q _ w h)
  have HP := hide hp
  have HI := hide hi
  have hne : ¬ One q P0 := hpq
  clear h hp hi
  go_enter Tryz.func72, Tryz.ntmps72
  go_wp2_with fail
  refine O.out.mono ?_
  rintro e w1 ⟨i, rfl, hi0, hi1, hx, hs, b1⟩
  have HX := hide hx
  have C := hide (counted_any q _ w1 hs)
  obtain ⟨b, hb⟩ : ∃ b, b = got [] (rest (some l) oneP) cntP := ⟨_, rfl⟩
  have hbl := got_len hs
  rw [← hb] at C hbl
  have KE := hide (next_key p last i l b hx hb)
  have B1 := hide b1
  clear hx hs O b1 hb HX
  go_wp2_with fail
  refine C.out.mono ?_
  rintro e w2 ⟨rfl, hs2, b2⟩
  have hW := bel_one w2 (.cells #[.string (str b), .nilIface] 129)
  have hz2 : w.heap.size ≤ w2.heap.size := by have := B1.out.size; have := b2.size; omega
  have R3 := hide (((B1.out.trans b2).row HP.out hne).kept hW)
  have B3 := hide ((B1.out.trans b2).trans (But.of (X := One q) hW))
  have RQ := hide (hs2.kept hW)
  have Q2 : Hid (RS (w2.alloc (.cells #[.string (str b), .nilIface] 129)) w2.heap.size (some b)) := hide ⟨hbl, Row.made w2 _ 129⟩
  obtain ⟨s2, hs2e⟩ : ∃ s2, s2 = rest (rest (some l) oneP) cntP := ⟨_, rfl⟩
  rw [← hs2e] at KE RQ
  have d8 := R3.out.c 8 _ rfl
  have z := R3.out.fr
  clear hs2 hs2e b2 C HP B1 hW
  by_cases hle : i ≤ last
  · have NN : Hid (nextP p last l = none) := hide (by rw [KE.out]; cases s2 <;> simp [hle])
    obtain ⟨_, ev, row⟩ := RQ.out.row
    have FA := hide (fail_any q _ _ _ row)
    clear row KE
    go_wp2_with fail
    refine FA.out.mono ?_
    rintro e w4 ⟨rfl, h4, b4⟩
    have R4 := hide (b4.row R3.out hne)
    have e8 := R4.out.c 8 _ rfl
    have z4 := R4.out.fr
    have B4 := hide (B3.out.trans b4)
    obtain ⟨pf, hpf, rowq, hf⟩ := id h4
    have H5 := hide (h4.other R4.out (by decide) (Ne.symm hpq) 8 (.int .i64 i))
    have q1 := (rowq.other (c := P0) 8 (.int .i64 i) (Ne.symm hpq)).c 1 _ rfl
    have HF := hide (show FaultAt (w4.setCell ⟨P0, 8, none⟩ (.int .i64 i)) pf 2 0 from by
      have hn : pf ≠ P0 := by
        intro e
        subst e
        have r := R4.out
        unfold Row at r
        unfold FaultAt at hf
        rw [r] at hf
        simp at hf
      unfold FaultAt at *
      rw [Below.heap_setCell _ _ _ _ hn]
      exact hf)
    clear h4 b4 FA rowq hf d8 z
    unfold flt at q1
    go_wp2_with fail
    go_ret
    exact ⟨B4.out.duo.set 8 _ (Or.inl (Or.inl rfl)), Or.inr ⟨NN.out, pf, rfl, HF.out⟩⟩
  · cases s2 with
    | none =>
      have NN : Hid (nextP p last l = none) := hide (by rw [KE.out]; rfl)
      obtain ⟨pf, hpf, rowq, hf⟩ := id RQ.out
      have q1 := (rowq.other (c := P0) 8 (.int .i64 i) (Ne.symm hpq)).c 1 _ rfl
      have HF := hide (fault_other R3.out hf 8 (.int .i64 i))
      clear rowq hf KE
      unfold flt at q1
      go_wp2_with fail
      go_ret
      exact ⟨B3.out.duo.set 8 _ (Or.inl (Or.inl rfl)), Or.inr ⟨NN.out, pf, rfl, HF.out⟩⟩
    | some r =>
      have rq5 := RQ.out.2.other (c := P0) 8 (.int .i64 i) (Ne.symm hpq)
      have q1 := rq5.c 1 _ rfl
      have RQ5 := hide rq5
      have B5 := hide ((B3.out.duo (p := P0)).set 8 (.int .i64 i) (Or.inl (Or.inl rfl)))
      have hX : ∀ i, Duo P0 q i → ¬ S i := by
        rintro i (rfl | rfl) hs
        · have := (HI.out.inS _ hs).1; omega
        · have := (HI.out.inS _ hs).1; omega
      have hV : ∀ j, v2.ownBlock = some j → ¬ Duo P0 q j := by
        rintro j hj (rfl | rfl)
        · have := (HI.out.own.lt _ hj).1; omega
        · have := (HI.out.own.lt _ hj).1; omega
      have PI := HI.out.but (N := fun _ => False) B5.out hB hX hV (fun i hi => hi.elim)
      have FI := hide (fill_any i P0 w2.heap.size B _ v0 v1 v2 v5 v6 v7 (.int .i64 i) n cs p (some b) _ (R3.out.set 8 (.int .i64 i)) (Q2.out.other R3.out (by decide) (by omega) 8 (.int .i64 i)) (by omega) hP (Nat.le_trans hB B5.out.size)
        (by rintro (hs | hs)
            · have := (HI.out.inS _ hs).2; omega
            · exact hs) (fun hj => by have := (HI.out.own.lt _ hj).2; omega) PI)
      have RL := hide RQ.out.1
      clear rq5 hX hV PI Q2 RQ B3 R3 HI
      go_wp2_with fail
      refine FI.out.mono ?_
      rintro e w6 ⟨rfl, h6, b6, hx6⟩
      have QR : Hid (Row w6 q #[.string (str r), .nilIface] 129) := hide (b6.row RQ5.out (by rintro (h | h) <;> omega))
      have B6 := hide (B5.out.then b6 (by
        rintro j hj (h | h)
        · exact Or.inl h
        · omega))
      have HX6 := hide hx6
      clear hx6 b6 FI RQ5 B5 d8 z q1
      cases hsi : rest (some b) (fillP i p) with
      | none =>
        rw [hsi] at h6
        have NN : Hid (nextP p last l = none) := hide (by rw [KE.out, rest_not hsi]; simp)
        obtain ⟨pf, hpf, row6, hf⟩ := id h6
        have c0 := row6.c 0 _ rfl
        have c1 := row6.c 1 _ rfl
        have he : (str []).toList.isEmpty = true := by unfold str; simp
        have HF := hide hf
        clear row6 hf h6 hsi KE HX6
        unfold flt at c1
        go_wp2_with fail
        go_ret
        exact ⟨B6.out, Or.inr ⟨NN.out, pf, rfl, HF.out⟩⟩
      | some t =>
        rw [hsi] at h6
        obtain ⟨p', hp'⟩ := rest_got hsi
        cases t with
        | nil =>
          have c0 := h6.2.c 0 _ rfl
          have c1 := h6.2.c 1 _ rfl
          have NN : Hid (nextP p last l = some ((p', i), r)) := hide (by rw [KE.out, hp']; simp [hle])
          have he : (str []).toList.isEmpty = true := by unfold str; simp
          have HE := hide (HX6.out p' [] (by simpa using hp'))
          clear hp' h6 hsi KE HX6
          go_wp2_with fail
          go_ret
          exact ⟨B6.out, Or.inl ⟨p', i, r, NN.out, rfl, ⟨RL.out, QR.out⟩, ⟨hi0, hi1⟩, HE.out⟩⟩
        | cons c t =>
          have c0 := h6.2.c 0 _ rfl
          have c1 := h6.2.c 1 _ rfl
          have NN : Hid (nextP p last l = none) := hide (by rw [KE.out, hp']; simp)
          have he : (str (c :: t)).toList.isEmpty = false := by unfold str; simp
          have FA := hide (fail_any w2.heap.size _ _ w6 h6.2)
          clear hp' h6 hsi KE HX6
          go_wp2_with fail
          refine FA.out.mono ?_
          rintro e w7 ⟨rfl, h7, b7⟩
          obtain ⟨pf, hpf, row7, hf⟩ := id h7
          have e1 := row7.c 1 _ rfl
          have HF := hide hf
          have B7 := hide (B6.out.then b7 (fun j hj h => by have : j = w2.heap.size := h; omega))
          clear row7 hf h7 b7 FA c0 c1
          unfold flt at e1
          go_wp2_with fail
          go_ret
          exact ⟨B7.out, Or.inr ⟨NN.out, pf, rfl, HF.out⟩⟩
end Go.Proofs.YtcbfpikggphokaaGreatDoor
namespace Go.Proofs.YtcbfpikggphokaaGreatDoor
open Go.RowKit

def joinF (f c : Fn) : Fn := ⟨f.sig, f.tr, c.locals, c.body⟩
def joinM (p : Pa) : Mo := { p.m with funcs := List.zipWith joinF p.m.funcs p.codes }
/-- the one old block that may change: a row's own -/
def Ob (v : Value) : Nat → Prop := fun i => v.ownBlock = some i
def seg (c : List Value) (j : Nat) : List Value := (c.drop (j * 4)).take 4
theorem seg_at (c : List Value) (j t : Nat) (ht : t < 4) : (seg c j)[t]? = c[j * 4 + t]? := by
  unfold seg
  rw [List.getElem?_take, if_pos ht, List.getElem?_drop]
theorem seg_ne {c : List Value} {j k : Nat} (h : j ≠ k) (x y : Value) : seg ((c.set (k * 4 + 2) x).set (k * 4 + 3) y) j = seg c j := by
  apply List.ext_getElem?
  intro t
  by_cases ht : t < 4
  · rw [seg_at _ _ _ ht, seg_at _ _ _ ht, List.getElem?_set_ne (by omega), List.getElem?_set_ne (by omega)]
  · unfold seg
    rw [List.getElem?_eq_none (by rw [List.length_take]; omega), List.getElem?_eq_none (by rw [List.length_take]; omega)]
theorem seg_eq {c : List Value} {k : Nat} (h : k * 4 + 3 < c.length) (x y : Value) :
    (seg ((c.set (k * 4 + 2) x).set (k * 4 + 3) y) k).getD 0 .nilFunc = (seg c k).getD 0 .nilFunc ∧ (seg ((c.set (k * 4 + 2) x).set (k * 4 + 3) y) k).getD 1 .nilFunc = (seg c k).getD 1 .nilFunc ∧
      (seg ((c.set (k * 4 + 2) x).set (k * 4 + 3) y) k).getD 2 .nilFunc = x ∧ (seg ((c.set (k * 4 + 2) x).set (k * 4 + 3) y) k).getD 3 .nilFunc = y := by
  simp only [List.getD_eq_getElem?_getD, seg_at _ _ 0 (by omega), seg_at _ _ 1 (by omega), seg_at _ _ 2 (by omega), seg_at _ _ 3 (by omega)]
  refine ⟨?_, ?_, ?_, ?_⟩
  · rw [List.getElem?_set_ne (by omega), List.getElem?_set_ne (by omega)]
  · rw [List.getElem?_set_ne (by omega), List.getElem?_set_ne (by omega)]
  · rw [List.getElem?_set_ne (by omega), List.getElem?_set_self (by omega)]; rfl
  · rw [List.getElem?_set_self (by rw [List.length_set]; omega)]; rfl
/-- so many functions have their code -/
structure JI (S : Nat → Prop) (B : Nat) (w wr : World) (v2 : Value) (n : Nat) (cs : List Value) (fs cd : List Fn) (k : Nat) (ck : List Value) : Prop where
  own : wr.ownsRow B 50 4 v2 n ck
  done : ∀ j (h1 : j < fs.length) (h2 : j < cd.length), j < k → Cfn S w (seg ck j) (joinF fs[j] cd[j])
  left : ∀ j, k ≤ j → j < n → seg ck j = seg cs j
theorem own_get {w : World} {B g n c : Nat} {cs : List Value} (h : w.ownsRow B 50 4 (.slice (some ⟨g, 0, none⟩) n c) n cs) {j : Nat} (hj : j < n * 4) : ∃ v, w.cell? ⟨g, j, none⟩ = some v := by
  have hl : j < cs.length := by rw [h.1]; exact hj
  exact ⟨cs[j], by rw [h.cellAt j hj, List.getElem?_eq_getElem hl]⟩
theorem bel_ob {v : Value} {w w' : World} (h : Below w.heap.size w w') : But (Ob v) w w' := But.of h
theorem own_below5 {w w' : World} {B : Nat} {e : TypeId} {z n : Nat} {v : Value} {xs : List Value} (h : w.ownsRow B e z v n xs) (hb : Below w.heap.size w w') : w'.ownsRow B e z v n xs :=
  h.kept (row := none) ⟨hb.os, hb.tape, hb.output, hb.size, fun k hk _ => hb.block k hk⟩ (by cases v.ownBlock <;> simp)
/-- seven cells written over -/
def all7 (w : World) (b : Nat) (x0 x1 x2 x3 x4 x5 x6 : Value) : World := ((((((w.setCell ⟨b, 0, none⟩ x0).setCell ⟨b, 1, none⟩ x1).setCell ⟨b, 2, none⟩ x2).setCell ⟨b, 3, none⟩ x3).setCell ⟨b, 4, none⟩ x4).setCell ⟨b, 5, none⟩ x5).setCell ⟨b, 6, none⟩ x6
theorem all7_size (w : World) (b : Nat) (x0 x1 x2 x3 x4 x5 x6 : Value) : (all7 w b x0 x1 x2 x3 x4 x5 x6).heap.size = w.heap.size := by simp [all7, World.setCell]
theorem bel_but7 {X : Nat → Prop} {a w : World} (h : But X a w) {b : Nat} (hb : X b ∨ a.heap.size ≤ b) (x0 x1 x2 x3 x4 x5 x6 : Value) : But X a (all7 w b x0 x1 x2 x3 x4 x5 x6) :=
  (((((((h.set 0 x0 hb).set 1 x1 hb).set 2 x2 hb).set 3 x3 hb).set 4 x4 hb).set 5 x5 hb).set 6 x6 hb)
theorem same7 {S : Nat → Prop} (w : World) {b : Nat} (hb : ¬ S b) (x0 x1 x2 x3 x4 x5 x6 : Value) : Same S w (all7 w b x0 x1 x2 x3 x4 x5 x6) := fun i hi => by
  have hn : i ≠ b := fun e => hb (e ▸ hi)
  unfold all7
  rw [Below.heap_setCell _ _ _ _ hn, Below.heap_setCell _ _ _ _ hn, Below.heap_setCell _ _ _ _ hn, Below.heap_setCell _ _ _ _ hn, Below.heap_setCell _ _ _ _ hn, Below.heap_setCell _ _ _ _ hn, Below.heap_setCell _ _ _ _ hn]
theorem But.drew5 {X : Nat → Prop} {a w : World} (h : But X a w) : But X a w.drew := ⟨h.os, h.tape, h.output, h.size, h.block⟩
theorem joined_no (P0 B : Nat) (S : Nat → Prop) (v0 v1 v2 v5 v6 v7 lv : Value) (n : Nat) (cs : List Value) (p : Pa) (w : World)
    (hp : Row w P0 #[v0, v1, v2, .int .i64 p.m.m0, .int .i64 p.m.m1, v5, v6, v7, lv] 127) (hi : PaIn S B w v0 v1 v2 v5 v6 v7 n cs p) (hne : p.codes.length ≠ n) :
    Calls Tryz.prog 73 #[ptr P0] w fun e w' => ∃ pf, e = .returned (.tuple #[.agg mod0, flt pf]) ∧ FaultAt w' pf 2 0 ∧ w.heap.size ≤ pf ∧ Below w.heap.size w w' := by
  obtain ⟨a0, k0, rfl⟩ := IsMo_forms_aux hi.sigs
  obtain ⟨a1, k1, rfl⟩ := IsMo_forms_aux hi.imports
  obtain ⟨a5, k5, rfl⟩ := IsMo_forms_aux hi.globals
  obtain ⟨a6, k6, rfl⟩ := IsMo_forms_aux hi.data
  obtain ⟨a7, k7, rfl⟩ := IsMo_forms_aux hi.codes
  obtain ⟨a2, k2, rfl⟩ := own_slice hi.own
  have hl := hp.lt
  have e0 := hp.c 0 _ rfl
  have e1 := hp.c 1 _ rfl
  have e2 := hp.c 2 _ rfl
  have e3 := hp.c 3 _ rfl
  have e4 := hp.c 4 _ rfl
  have e5 := hp.c 5 _ rfl
  have e6 := hp.c 6 _ rfl
  have e7 := hp.c 7 _ rfl
  have hcn : ((p.codes.length : Int) != (n : Int)) = true := by simp; omega
  clear hp hi
  go_enter Tryz.func73, Tryz.ntmps73
  go_wp2_with fail
  go_region
  go_wp2_with fail
  obtain ⟨W, hW⟩ : ∃ W, W = ((w.alloc (.cells mod0 29)).alloc (.cells #[.slice a0 p.m.sigs.length k0, .slice a1 p.m.imports.length k1, .slice a2 n k2, .int .i64 p.m.m0, .int .i64 p.m.m1, .slice a5 p.m.globals.length k5, .slice a6 p.m.data.length k6] 29)).drew := ⟨_, rfl⟩
  have bW : Below w.heap.size w W := by rw [hW]; exact ((bel_one w _).alloc (by simp) _).drew
  have RW : Row W w.heap.size mod0 29 := by rw [hW]; exact (Row.made w mod0 29).alloc _
  have FA := hide (fault_any 2 0 W)
  rw [hW] at FA
  refine FA.out.mono ?_
  rw [← hW]
  rintro e w4 ⟨rfl, f4, b4⟩
  have hb4 := below_next bW b4
  have R4 := hide (RW.kept b4)
  have hn : W.heap.size ≠ w.heap.size := by have := RW.lt; omega
  have F4 := hide f4
  unfold mod0 at R4
  have c0 := R4.out.c 0 _ rfl
  have c1 := R4.out.c 1 _ rfl
  have c2 := R4.out.c 2 _ rfl
  have c3 := R4.out.c 3 _ rfl
  have c4 := R4.out.c 4 _ rfl
  have c5 := R4.out.c 5 _ rfl
  have c6 := R4.out.c 6 _ rfl
  have z := R4.out.fr
  clear b4 f4 FA hW RW
  unfold flt
  go_wp2_with fail
  refine bodyPost_ret (results_mo rfl _ _ w.heap.size _ rfl rfl (Row.all7 R4.out _ _ _ _ _ _ _)) rfl ?_
  refine ⟨W.heap.size, rfl, ?_, bW.size, bel_all7 hb4 (Nat.le_refl _) _ _ _ _ _ _ _⟩
  have f := F4.out
  unfold FaultAt at *
  rw [Below.heap_setCell _ _ _ _ hn, Below.heap_setCell _ _ _ _ hn, Below.heap_setCell _ _ _ _ hn, Below.heap_setCell _ _ _ _ hn, Below.heap_setCell _ _ _ _ hn, Below.heap_setCell _ _ _ _ hn, Below.heap_setCell _ _ _ _ hn]
  exact f
theorem JI.step {S : Nat → Prop} {B : Nat} {w wr wr' : World} {g2 n k2 : Nat} {cs : List Value} {fs cd : List Fn} {k : Nat} {ck : List Value} {vl vb : Value} (h : JI S B w wr (.slice (some ⟨g2, 0, none⟩) n k2) n cs fs cd k ck)
    (hc : cd.length = n) (hk : k < n) (hf : ∀ j (h : j < fs.length), Cfn S w (seg cs j) fs[j]) (hl : Sl 1 EInt S w vl (cd[k]'(by omega)).locals) (hb : Sl 3 EIn S w vb (cd[k]'(by omega)).body)
    (hr : wr'.ownsRow B 50 4 (.slice (some ⟨g2, 0, none⟩) n k2) n ck) :
    JI S B w ((wr'.setCell ⟨g2, k * 4 + 2, none⟩ vl).setCell ⟨g2, k * 4 + 3, none⟩ vb) (.slice (some ⟨g2, 0, none⟩) n k2) n cs fs cd (k + 1) ((ck.set (k * 4 + 2) vl).set (k * 4 + 3) vb) := by
  have hlen : k * 4 + 3 < ck.length := by rw [h.own.1]; omega
  refine ⟨((hr.stored (k * 4 + 2) vl).1.stored (k * 4 + 3) vb).1, fun j h1 h2 hj => ?_, fun j h1 h2 => ?_⟩
  · by_cases e : j = k
    · subst e
      obtain ⟨s0, s1, s2, s3⟩ := seg_eq hlen vl vb
      have hs := h.left j (Nat.le_refl _) hk
      obtain ⟨f0, f1, f2, _, _⟩ := hf j h1
      refine ⟨f0, ?_, ?_, ?_, ?_⟩
      · rw [s0, hs]; exact f1
      · rw [s1, hs]; exact f2
      · rw [s2]; exact hl
      · rw [s3]; exact hb
    · rw [seg_ne e]; exact h.done j h1 h2 (by omega)
  · rw [seg_ne (by omega)]; exact h.left j (by omega) h2
theorem JI.fin {S : Nat → Prop} {B : Nat} {w wr : World} {v2 : Value} {n : Nat} {cs : List Value} {fs cd : List Fn} {ck : List Value} (h : JI S B w wr v2 n cs fs cd n ck) (hn : fs.length = n) (hc : cd.length = n) (sm : Same S w wr) :
    Sl 4 EFn (fun i => S i ∨ Ob v2 i) wr v2 (List.zipWith joinF fs cd) := by
  have hl : (List.zipWith joinF fs cd).length = n := by rw [List.length_zipWith]; omega
  have hlen := h.own.1
  rcases h.own.2 with ⟨rfl, h0⟩ | ⟨g, cap, cur, hv, hb, _⟩
  · have : List.zipWith joinF fs cd = [] := List.eq_nil_of_length_eq_zero (by omega)
    rw [this]
    exact Sl.isNil _ _ _ _
  · subst hv
    refine ⟨_, _, by rw [hl], fun j hj => ⟨g, 0, rfl, Or.inr rfl, ?_⟩⟩
    have h1 : j < fs.length := by omega
    have h2 : j < cd.length := by omega
    have hD := (h.done j h1 h2 (by omega)).to (T := fun i => S i ∨ Ob (.slice (some ⟨g, 0, none⟩) n cap) i) sm (fun i hi => Or.inl hi)
    rw [List.getElem_zipWith]
    refine cellsC_fn _ _ _ _ (seg ck j) _ (by unfold seg; rw [List.length_take, List.length_drop]; omega) (fun t ht => ?_) hD
    rw [Nat.zero_add, h.own.cellAt (j * 4 + t) (by omega), ← seg_at ck j t ht]
set_option maxRecDepth 100000 in
set_option maxHeartbeats 3200000 in
theorem joined_any (P0 B : Nat) (S : Nat → Prop) (v0 v1 v2 v5 v6 v7 lv : Value) (n : Nat) (cs : List Value) (p : Pa) (w : World)
    (hp : Row w P0 #[v0, v1, v2, .int .i64 p.m.m0, .int .i64 p.m.m1, v5, v6, v7, lv] 127) (hi : PaIn S B w v0 v1 v2 v5 v6 v7 n cs p) (hcl : p.codes.length = n) (hn : n ≤ 9223372036854775807) :
    Calls Tryz.prog 73 #[ptr P0] w fun e w' => e = .returned (.tuple #[moV ⟨v0, v1, v2, v5, v6⟩ (joinM p), .nilIface]) ∧ IsMoS (fun i => S i ∨ Ob v2 i) w' ⟨v0, v1, v2, v5, v6⟩ (joinM p) ∧ But (Ob v2) w w' := by
  obtain ⟨a0, k0, rfl⟩ := IsMo_forms_aux hi.sigs
  obtain ⟨a1, k1, rfl⟩ := IsMo_forms_aux hi.imports
  obtain ⟨a5, k5, rfl⟩ := IsMo_forms_aux hi.globals
  obtain ⟨a6, k6, rfl⟩ := IsMo_forms_aux hi.data
  obtain ⟨a7, k7, rfl⟩ := IsMo_forms_aux hi.codes
  obtain ⟨a2, k2, rfl⟩ := own_slice hi.own
  have hl := hp.lt
  have e0 := hp.c 0 _ rfl
  have e1 := hp.c 1 _ rfl
  have e2 := hp.c 2 _ rfl
  have e3 := hp.c 3 _ rfl
  have e4 := hp.c 4 _ rfl
  have e5 := hp.c 5 _ rfl
  have e6 := hp.c 6 _ rfl
  have e7 := hp.c 7 _ rfl
  have hcn : ((p.codes.length : Int) != (n : Int)) = false := by simp; omega
  have HI := hide hi
  have HC := hide hcl
  clear hp hi
  go_enter Tryz.func73, Tryz.ntmps73
  go_wp2_with fail
  go_region
  go_wp2_with fail
  have b0 := (((bel_one w (.cells mod0 29)).alloc (by simp) (.cells #[.slice a0 p.m.sigs.length k0, .slice a1 p.m.imports.length k1, .slice a2 n k2, .int .i64 p.m.m0, .int .i64 p.m.m1, .slice a5 p.m.globals.length k5, .slice a6 p.m.data.length k6] 29))).drew
  have R0 : Hid (Row ((w.alloc (.cells mod0 29)).alloc (.cells #[.slice a0 p.m.sigs.length k0, .slice a1 p.m.imports.length k1, .slice a2 n k2, .int .i64 p.m.m0, .int .i64 p.m.m1, .slice a5 p.m.globals.length k5, .slice a6 p.m.data.length k6] 29)).drew w.heap.size mod0 29) := hide ((Row.made w mod0 29).alloc _)
  have M0 : Hid (Row ((w.alloc (.cells mod0 29)).alloc (.cells #[.slice a0 p.m.sigs.length k0, .slice a1 p.m.imports.length k1, .slice a2 n k2, .int .i64 p.m.m0, .int .i64 p.m.m1, .slice a5 p.m.globals.length k5, .slice a6 p.m.data.length k6] 29)).drew (w.heap.size + 1) #[.slice a0 p.m.sigs.length k0, .slice a1 p.m.imports.length k1, .slice a2 n k2, .int .i64 p.m.m0, .int .i64 p.m.m1, .slice a5 p.m.globals.length k5, .slice a6 p.m.data.length k6] 29) := hide (by
    have := Row.made (w.alloc (.cells mod0 29)) #[.slice a0 p.m.sigs.length k0, .slice a1 p.m.imports.length k1, .slice a2 n k2, .int .i64 p.m.m0, .int .i64 p.m.m1, .slice a5 p.m.globals.length k5, .slice a6 p.m.data.length k6] 29
    have e : (w.alloc (.cells mod0 29)).heap.size = w.heap.size + 1 := by simp
    rw [e] at this
    exact this)
  clear e0 e1 e2 e3 e4 e5 e6 e7 hcn hcl
  have SUB : Hid (∀ i, S i → i < w.heap.size ∧ ¬ Ob (.slice a2 n k2) i) := hide (fun i hi => ⟨(HI.out.inS i hi).2, fun h => HI.out.apart i h hi⟩)
  go_loopw [27] (fun iv wr => ∃ (k : Nat) (ck : List Value), k ≤ n ∧ iv = .int .i64 k ∧ Hid (Row wr w.heap.size mod0 29) ∧ Hid (Row wr (w.heap.size + 1) #[.slice a0 p.m.sigs.length k0, .slice a1 p.m.imports.length k1, .slice a2 n k2, .int .i64 p.m.m0, .int .i64 p.m.m1, .slice a5 p.m.globals.length k5, .slice a6 p.m.data.length k6] 29) ∧ Hid (JI S B w wr (.slice a2 n k2) n cs p.m.funcs p.codes k ck) ∧ Hid (But (Ob (.slice a2 n k2)) w wr)) (fun iv _ => n - (intOf iv).toNat)
  case atStart =>
    unfold mod0 at *
    exact ⟨0, cs, by omega, rfl, R0, M0, hide ⟨own_below5 HI.out.own b0, fun j _ _ h => absurd h (by omega), fun j _ _ => rfl⟩, hide (But.of b0)⟩
  case round =>
    obtain ⟨k, ck, hk, rfl, hR, hM, hJ, hB⟩ := hrel
    clear R0 M0 b0
    by_cases hlt : k < n
    · have hkc : k < p.codes.length := by rw [HC.out]; exact hlt
      obtain ⟨g2, rfl⟩ : ∃ g2, a2 = some ⟨g2, 0, none⟩ := by
        rcases hJ.out.own.2 with ⟨e, h0⟩ | ⟨g, cap, cur, e, _⟩
        · omega
        · cases e; exact ⟨g, rfl⟩
      have sm : Same S w wr := fun i hi => hB.out.block i (SUB.out i hi).1 (SUB.out i hi).2
      obtain ⟨a, cap, ha, hE⟩ := HI.out.codes
      cases ha
      obtain ⟨b7, off, hb7, hS7, hF⟩ := hE k hkc
      obtain ⟨vl, vb, i0, c0, c1, c2, c3, hvl, hvb⟩ := hF
      subst hb7
      have d0 := (sm.cell hS7).trans c0
      have d1 := (sm.cell hS7).trans c1
      have d2 := (sm.cell hS7).trans c2
      have d3 := (sm.cell hS7).trans c3
      obtain ⟨al, kl, rfl⟩ := IsMo_forms_aux hvl
      obtain ⟨ab, kb, rfl⟩ := IsMo_forms_aux hvb
      obtain ⟨sg, hsg⟩ : ∃ x, x = p.codes[k].sig := ⟨_, rfl⟩
      obtain ⟨tr, htr⟩ : ∃ x, x = p.codes[k].tr := ⟨_, rfl⟩
      obtain ⟨nl, hnl⟩ : ∃ x, x = p.codes[k].locals.length := ⟨_, rfl⟩
      obtain ⟨nb, hnb⟩ : ∃ x, x = p.codes[k].body.length := ⟨_, rfl⟩
      rw [← hsg] at d0
      rw [← htr] at d1
      rw [← hnl] at d2 hvl
      rw [← hnb] at d3 hvb
      have m2 := (hM.out.alloc (.cells #[.int .i64 sg, .bool tr, .slice al nl kl, .slice ab nb kb] 50)).c 2 _ rfl
      have hg := hJ.out.own.lt g2 rfl
      have hgB := HI.out.own.lt g2 rfl
      have m2a := ((hM.out.other (c := g2) (k * 4 + 2) (.slice al nl kl) (by omega)).alloc (.cells #[.int .i64 sg, .bool tr, .slice al nl kl, .slice ab nb kb] 50)).c 2 _ rfl
      have m2b := ((hM.out.other (c := g2) (k * 4 + 3) (.slice ab nb kb) (by omega)).alloc (.cells #[.int .i64 sg, .bool tr, .slice al nl kl, .slice ab nb kb] 50)).c 2 _ rfl
      obtain ⟨x2, q2⟩ := own_get hJ.out.own (j := k * 4 + 2) (by omega)
      obtain ⟨x3, q3⟩ := own_get hJ.out.own (j := k * 4 + 3) (by omega)
      have y2 := hJ.out.own.frozenAt (k * 4 + 2)
      have y3 := hJ.out.own.frozenAt (k * 4 + 3)
      have hOA := hJ.out.own.alloc (.cells #[.int .i64 sg, .bool tr, .slice al nl kl, .slice ab nb kb] 50)
      obtain ⟨x2', q2'⟩ := own_get hOA (j := k * 4 + 2) (by omega)
      obtain ⟨x3', q3'⟩ := own_get hOA (j := k * 4 + 3) (by omega)
      have y2' := hOA.frozenAt (k * 4 + 2)
      have y3' := hOA.frozenAt (k * 4 + 3)
      clear hOA
      have J1 := hide (hJ.out.step (vl := .slice al nl kl) (vb := .slice ab nb kb) HC.out hlt HI.out.funcs hvl hvb hJ.out.own)
      have hR1 := hide ((hR.out.other (c := g2) (k * 4 + 2) (.slice al nl kl) (by omega)).other (c := g2) (k * 4 + 3) (.slice ab nb kb) (by omega))
      have hM1 := hide ((hM.out.other (c := g2) (k * 4 + 2) (.slice al nl kl) (by omega)).other (c := g2) (k * 4 + 3) (.slice ab nb kb) (by omega))
      have hB1 := hide ((hB.out.set (k * 4 + 2) (.slice al nl kl) (b := g2) (Or.inl rfl)).set (k * 4 + 3) (.slice ab nb kb) (b := g2) (Or.inl rfl))
      have hi1 : (k : Int) < (n : Int) := by omega
      clear c0 c1 c2 c3 hvl hvb sm hE i0 hsg htr hnl hnb hR hM hJ hB
      go_wp2_with fail
      go_region
      all_goals
        go_wp2_with fail
        go_roundw
        case rel => exact ⟨k + 1, _, by omega, by go_num, hR1.out.alloc _, hM1.out.alloc _, ⟨(J1.out.own.alloc _).drew, J1.out.done, J1.out.left⟩, (hB1.out.trans (But.of (bel_one _ _))).drew5⟩
        case measure => simp [intOf]; omega
    · obtain rfl : k = n := by omega
      have sm : Same S w wr := fun i hi => hB.out.block i (SUB.out i hi).1 (SUB.out i hi).2
      have HF := hide (hJ.out.fin HI.out.len HC.out sm)
      have SM := hide sm
      have m0 := hM.out.c 0 _ rfl
      have m1 := hM.out.c 1 _ rfl
      have m2 := hM.out.c 2 _ rfl
      have m3 := hM.out.c 3 _ rfl
      have m4 := hM.out.c 4 _ rfl
      have m5 := hM.out.c 5 _ rfl
      have m6 := hM.out.c 6 _ rfl
      have hRR := hR.out
      unfold mod0 at hRR
      have c0 := hRR.c 0 _ rfl
      have c1 := hRR.c 1 _ rfl
      have c2 := hRR.c 2 _ rfl
      have c3 := hRR.c 3 _ rfl
      have c4 := hRR.c 4 _ rfl
      have c5 := hRR.c 5 _ rfl
      have c6 := hRR.c 6 _ rfl
      have z := hRR.fr
      have HRR := hide hRR
      clear sm hRR
      go_wp2_with fail
      refine bodyPost_ret (results_mo rfl _ _ w.heap.size _ rfl rfl (Row.all7 HRR.out _ _ _ _ _ _ _)) rfl ?_
      have hbR : ¬ Ob (.slice a2 k k2) w.heap.size := fun h => by have := (HI.out.own.lt _ h).2; omega
      have hB9 := bel_but7 hB.out (b := w.heap.size) (Or.inr (Nat.le_refl _)) (.slice a0 p.m.sigs.length k0) (.slice a1 p.m.imports.length k1) (.slice a2 k k2) (.int .i64 p.m.m0) (.int .i64 p.m.m1) (.slice a5 p.m.globals.length k5) (.slice a6 p.m.data.length k6)
      have hs7 := same7 (S := fun i => S i ∨ Ob (.slice a2 k k2) i) wr (b := w.heap.size) (by
        rintro (h | h)
        · have := (SUB.out _ h).1; omega
        · exact hbR h) (.slice a0 p.m.sigs.length k0) (.slice a1 p.m.imports.length k1) (.slice a2 k k2) (.int .i64 p.m.m0) (.int .i64 p.m.m1) (.slice a5 p.m.globals.length k5) (.slice a6 p.m.data.length k6)
      have hS1 : ∀ i, S i → S i ∨ Ob (.slice a2 k k2) i := fun i hi => Or.inl hi
      refine ⟨rfl, ?_, hB9⟩
      have I1 : IsMoS (fun i => S i ∨ Ob (.slice a2 k k2) i) wr ⟨.slice a0 p.m.sigs.length k0, .slice a1 p.m.imports.length k1, .slice a2 k k2, .slice a5 p.m.globals.length k5, .slice a6 p.m.data.length k6⟩ (joinM p) :=
        ⟨HI.out.sigs.to keeps_sg SM.out hS1, HI.out.imports.to keeps_int SM.out hS1, HF.out, HI.out.mems, HI.out.globals.to keeps_gl SM.out hS1, HI.out.data.to keeps_da SM.out hS1⟩
      exact ⟨I1.sigs.to keeps_sg hs7 (fun _ hi => hi), I1.imports.to keeps_int hs7 (fun _ hi => hi), I1.funcs.to keeps_fn hs7 (fun _ hi => hi), I1.mems, I1.globals.to keeps_gl hs7 (fun _ hi => hi), I1.data.to keeps_da hs7 (fun _ hi => hi)⟩
end Go.Proofs.YtcbfpikggphokaaGreatDoor

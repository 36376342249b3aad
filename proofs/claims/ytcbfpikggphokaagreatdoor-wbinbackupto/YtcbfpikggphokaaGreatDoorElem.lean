/-
  The program's reader, on: a global, a signature, a function without its code, as parsers tell.
-/
import Derived.Test.YtcbfpikggphokaaGreatDoorManyW
import Derived.Test.YtcbfpikggphokaaGreatDoorFitsB
import Derived.Test.YtcbfpikggphokaaGreatDoorReadE
namespace Go.Proofs.YtcbfpikggphokaaGreatDoor
open Go.RowKit

theorem RS.other {w : World} {q : Nat} {s : Option (List UInt8)} {b : Nat} {cs : Array Value} {ty : TypeId} (h : RS w q s) (r : Row w b cs ty) (ht : ty ≠ 79) (hq : q ≠ b) (j : Nat) (x : Value) : RS (w.setCell ⟨b, j, none⟩ x) q s := by
  cases s with
  | some l => exact ⟨h.1, h.2.other j x hq⟩
  | none =>
    obtain ⟨p, hp, row, f⟩ := h
    refine ⟨p, hp, row.other j x hq, ?_⟩
    have hn : p ≠ b := by
      intro e
      subst e
      unfold Row at r
      unfold FaultAt at f
      rw [r] at f
      simp at f
      exact ht f.2
    unfold FaultAt at *
    rw [Below.heap_setCell _ _ _ _ hn]
    exact f
theorem map_rest {α β : Type} {s t : Option (List UInt8)} {P : List UInt8 → Option (α × List UInt8)} {Q : List UInt8 → Option (β × List UInt8)} {f : β → α} (h : s.bind P = (t.bind Q).map fun y => (f y.1, y.2)) : rest s P = rest t Q := by
  unfold rest
  rw [h, Option.map_map]
  rfl
theorem results_70 {fn : Func} {p : Tmp} (h : fn.results = #[.cell p 70]) (tmps : Array Value) (w : World) (g : Nat) (cs : Array Value) (hs : cs.size = 2) (hp : tmps.getD p undef = .pointer (some ⟨g, 0, none⟩)) (hb : Row w g cs 70) :
    (results fn tmps).run Tryz.prog w = .ok (.agg cs) w := by
  have hi : (Tryz.prog.info? 70).map (·.size) = some 2 := by kernel_rfl
  have hl := run_loadVar_row (P := Tryz.prog) w g 70 70 cs _ _ hb Tryz.underlying70 rfl (by rw [hi, hs])
  have hp' : tmps[p]?.getD undef = .pointer (some ⟨g, 0, none⟩) := by simpa using hp
  simp [results, h, hp', asAddr, hl]
theorem results_64 {fn : Func} {p : Tmp} (h : fn.results = #[.cell p 64]) (tmps : Array Value) (w : World) (g : Nat) (cs : Array Value) (hs : cs.size = 2) (hp : tmps.getD p undef = .pointer (some ⟨g, 0, none⟩)) (hb : Row w g cs 64) :
    (results fn tmps).run Tryz.prog w = .ok (.agg cs) w := by
  have hi : (Tryz.prog.info? 64).map (·.size) = some 2 := by kernel_rfl
  have hl := run_loadVar_row (P := Tryz.prog) w g 64 64 cs _ _ hb Tryz.underlying64 rfl (by rw [hi, hs])
  have hp' : tmps[p]?.getD undef = .pointer (some ⟨g, 0, none⟩) := by simpa using hp
  simp [results, h, hp', asAddr, hl]
theorem results_50 {fn : Func} {p : Tmp} (h : fn.results = #[.cell p 50]) (tmps : Array Value) (w : World) (g : Nat) (cs : Array Value) (hs : cs.size = 4) (hp : tmps.getD p undef = .pointer (some ⟨g, 0, none⟩)) (hb : Row w g cs 50) :
    (results fn tmps).run Tryz.prog w = .ok (.agg cs) w := by
  have hi : (Tryz.prog.info? 50).map (·.size) = some 4 := by kernel_rfl
  have hl := run_loadVar_row (P := Tryz.prog) w g 50 50 cs _ _ hb Tryz.underlying50 rfl (by rw [hi, hs])
  have hp' : tmps[p]?.getD undef = .pointer (some ⟨g, 0, none⟩) := by simpa using hp
  simp [results, h, hp', asAddr, hl]
theorem results_73 {fn : Func} {p : Tmp} (h : fn.results = #[.cell p 73]) (tmps : Array Value) (w : World) (g : Nat) (cs : Array Value) (hs : cs.size = 3) (hp : tmps.getD p undef = .pointer (some ⟨g, 0, none⟩)) (hb : Row w g cs 73) :
    (results fn tmps).run Tryz.prog w = .ok (.agg cs) w := by
  have hi : (Tryz.prog.info? 73).map (·.size) = some 3 := by kernel_rfl
  have hl := run_loadVar_row (P := Tryz.prog) w g 73 73 cs _ _ hb Tryz.underlying73 rfl (by rw [hi, hs])
  have hp' : tmps[p]?.getD undef = .pointer (some ⟨g, 0, none⟩) := by simpa using hp
  simp [results, h, hp', asAddr, hl]
theorem gl_bind (s : Option (List UInt8)) : s.bind glP = (s.bind tyP).bind fun x => if wi x.1 = true then (sgnP 64 x.2).map (fun y => (⟨x.1, y.1⟩, y.2)) else (sgnP 32 x.2).map (fun y => (⟨x.1, y.1 % 4294967296⟩, y.2)) := by
  cases s <;> rfl
set_option maxHeartbeats 3200000 in
theorem global_any (q : Nat) : REgl 129 q glP := by
  intro s w h
  have hq := h.lt
  have hne : ¬ One q w.heap.size := fun e => by have : w.heap.size = q := e; omega
  have T := hide (oneType_any q s (w.alloc (.cells #[.int .i64 0, .int .i64 0] 70)) (h.kept (bel_one w _)))
  have RW := hide (Row.made w #[.int .i64 0, .int .i64 0] 70)
  have B0 := hide (bel_one w (.cells #[.int .i64 0, .int .i64 0] 70))
  clear h
  go_enter Tryz.func129, Tryz.ntmps129
  go_wp2_with fail
  refine T.out.mono ?_
  rintro e w1 ⟨t, rfl, ht0, ht1, hx, hs, b1⟩
  have R1 := hide (b1.row RW.out hne)
  have B1 := hide ((But.of (X := One q) B0.out).trans b1)
  have HX := hide hx
  have HS := hide hs
  clear hx hs b1 T RW B0
  cases hw : wi t with
  | true =>
    have W1 := hide (wide_is t true w1 (by unfold I64; omega) hw)
    have SG := hide (signed_any q 64 (Or.inr rfl) _ w1 HS.out)
    have KE : Hid (s.bind glP = ((rest s tyP).bind (sgnP 64)).map fun y => ((fun z => ⟨t, z⟩ : Int → Gl) y.1, y.2)) := hide (by
      rw [gl_bind]
      unfold rest
      cases ho : s.bind tyP with
      | none => rfl
      | some y =>
        have e := HX.out y.1 y.2 ho
        subst e
        simp [hw])
    clear HS HX hw
    go_wp2_with fail
    refine W1.out.mono ?_
    rintro e w' ⟨rfl, rfl⟩
    go_wp2_with fail
    refine SG.out.mono ?_
    rintro e w2 ⟨v, rfl, hv, hxv, hs2, b2⟩
    have R2 := hide (b2.row R1.out hne)
    have B2 := hide (B1.out.trans b2)
    have c0 := R2.out.c 0 _ rfl
    have c1 := R2.out.c 1 _ rfl
    have z := R2.out.fr
    have HX2 := hide hxv
    have HS2 := hide hs2
    clear hxv hs2 b2 R1 B1 SG W1
    go_wp2_with fail
    refine bodyPost_ret (results_70 rfl _ _ w.heap.size _ rfl rfl ((R2.out.set 0 _).set 1 _)) rfl ?_
    refine ⟨t, v, rfl, ?_, (B2.out.set 0 _ (Or.inr (Nat.le_refl _))).set 1 _ (Or.inr (Nat.le_refl _)), ?_⟩
    · rw [map_rest (f := fun z => ⟨t, z⟩) KE.out]
      exact (HS2.out.other R2.out (by decide) (by omega) 0 _).other (R2.out.set 0 _) (by decide) (by omega) 1 _
    · intro x r e
      rw [KE.out] at e
      obtain ⟨y, hy, e2⟩ := Option.map_eq_some_iff.1 e
      have ev := HX2.out y.1 y.2 hy
      cases e2
      subst ev
      exact ⟨⟨by unfold I64; simp only; omega, by unfold I64 at *; simp only; omega⟩, rfl, rfl⟩
  | false =>
    have W1 := hide (wide_is t false w1 (by unfold I64; omega) hw)
    have SG := hide (signed_any q 32 (Or.inl rfl) _ w1 HS.out)
    have KE : Hid (s.bind glP = ((rest s tyP).bind (sgnP 32)).map fun y => ((fun z => ⟨t, z % 4294967296⟩ : Int → Gl) y.1, y.2)) := hide (by
      rw [gl_bind]
      unfold rest
      cases ho : s.bind tyP with
      | none => rfl
      | some y =>
        have e := HX.out y.1 y.2 ho
        subst e
        simp [hw])
    clear HS HX hw
    go_wp2_with fail
    refine W1.out.mono ?_
    rintro e w' ⟨rfl, rfl⟩
    go_wp2_with fail
    refine SG.out.mono ?_
    rintro e w2 ⟨v, rfl, hv, hxv, hs2, b2⟩
    have R2 := hide (b2.row R1.out hne)
    have B2 := hide (B1.out.trans b2)
    have c0 := R2.out.c 0 _ rfl
    have c1 := R2.out.c 1 _ rfl
    have z := R2.out.fr
    have HX2 := hide hxv
    have HS2 := hide hs2
    clear hxv hs2 b2 R1 B1 SG W1
    go_wp2_with fail
    refine bodyPost_ret (results_70 rfl _ _ w.heap.size _ rfl rfl ((R2.out.set 0 _).set 1 _)) rfl ?_
    refine ⟨t, v % 4294967296, rfl, ?_, (B2.out.set 0 _ (Or.inr (Nat.le_refl _))).set 1 _ (Or.inr (Nat.le_refl _)), ?_⟩
    · rw [map_rest (f := fun z => ⟨t, z % 4294967296⟩) KE.out]
      exact (HS2.out.other R2.out (by decide) (by omega) 0 _).other (R2.out.set 0 _) (by decide) (by omega) 1 _
    · intro x r e
      rw [KE.out] at e
      obtain ⟨y, hy, e2⟩ := Option.map_eq_some_iff.1 e
      have ev := HX2.out y.1 y.2 hy
      cases e2
      subst ev
      exact ⟨⟨by unfold I64; simp only; omega, by unfold I64 at *; simp only; omega⟩, rfl, by simp⟩
theorem enter144 (args : Array Value) (w : World) : (callFunc 144 args).run Tryz.prog w = .ok (.enter 144 args) w := by kernel_rfl
theorem new3_to {e : TypeId} {w A a b : World} (he : 3 ≠ e) (hA : w.heap.size ≤ A.heap.size) (h : Same (New3 A a) a b) : ∀ i, New3 A a i → NewT e w b i := fun i hi => by
  have k := h i hi
  obtain ⟨h1, cs, fr, h2⟩ := hi
  exact ⟨Nat.le_trans hA h1, cs, 3, fr, by rw [k]; exact h2, he⟩
theorem New3.lt {w w' : World} {b : Nat} (h : New3 w w' b) : b < w'.heap.size := by
  obtain ⟨_, cs, fr, h2⟩ := h
  exact (Array.getElem?_eq_some_iff.1 h2).1
theorem sg_bind (s : Option (List UInt8)) : s.bind sgP = (s.bind (manyP tyP)).bind fun x => (manyP tyP x.2).map fun y => (⟨x.1, y.1⟩, y.2) := by
  cases s <;> rfl
theorem sg_rest (s : Option (List UInt8)) : rest s sgP = rest (rest s (manyP tyP)) (manyP tyP) := by
  unfold rest
  rw [sg_bind]
  cases s.bind (manyP tyP) with
  | none => rfl
  | some x =>
    simp only [Option.bind_some, Option.map_some]
    cases manyP tyP x.2 <;> rfl
set_option maxHeartbeats 3200000 in
theorem sig_any (q : Nat) : REsg 123 q sgP := by
  intro s w h
  have hq := h.lt
  have hne : ¬ One q w.heap.size := fun e => by have : w.heap.size = q := e; omega
  have T := hide (many_int 144 q (-128) 127 tyP enter144 (oneType_any q) (by omega) s (w.alloc (.cells #[.slice none 0 0, .slice none 0 0] 64)) (h.kept (bel_one w _)))
  have RW := hide (Row.made w #[.slice none 0 0, .slice none 0 0] 64)
  have B0 := hide (bel_one w (.cells #[.slice none 0 0, .slice none 0 0] 64))
  have hA : Hid ((w.alloc (.cells #[.slice none 0 0, .slice none 0 0] 64)).heap.size = w.heap.size + 1) := hide (by simp)
  clear h
  go_enter Tryz.func123, Tryz.ntmps123
  go_wp2_with fail
  refine T.out.mono ?_
  rintro e w1 ⟨v1, rfl, ⟨a1, n1, m1, rfl⟩, hs, b1, hx⟩
  have R1 := hide (b1.row RW.out hne)
  have B1 := hide ((But.of (X := One q) B0.out).trans b1)
  have S1 := hide b1.size
  have HX := hide hx
  have T2 := hide (many_int 144 q (-128) 127 tyP enter144 (oneType_any q) (by omega) _ w1 hs)
  clear hx hs b1 T RW B0
  go_wp2_with fail
  refine T2.out.mono ?_
  rintro e w2 ⟨v2, rfl, ⟨a2, n2, m2, rfl⟩, hs2, b2, hx2⟩
  have R2 := hide (b2.row R1.out hne)
  have B2 := hide (B1.out.trans b2)
  have B12 := hide b2
  have c0 := R2.out.c 0 _ rfl
  have c1 := R2.out.c 1 _ rfl
  have z := R2.out.fr
  have HX2 := hide hx2
  have HS2 := hide hs2
  clear hx2 hs2 b2 R1 B1 T2
  go_wp2_with fail
  refine bodyPost_ret (results_64 rfl _ _ w.heap.size _ rfl rfl ((R2.out.set 0 _).set 1 _)) rfl ?_
  refine ⟨a1, n1, m1, a2, n2, m2, rfl, ?_, (B2.out.set 0 _ (Or.inr (Nat.le_refl _))).set 1 _ (Or.inr (Nat.le_refl _)), ?_⟩
  · rw [sg_rest]
    exact (HS2.out.other R2.out (by decide) (by omega) 0 _).other (R2.out.set 0 _) (by decide) (by omega) 1 _
  · intro x r e
    rw [sg_bind] at e
    have hA' := hA.out
    have s1 := S1.out
    cases ho : s.bind (manyP tyP) with
    | none => rw [ho] at e; cases e
    | some y =>
      rw [ho] at e
      simp only [Option.bind_some] at e
      obtain ⟨u, hu, e2⟩ := Option.map_eq_some_iff.1 e
      cases e2
      have p1 := HX.out y.1 y.2 ho
      have p2 := HX2.out u.1 u.2 (by rw [rest_some ho]; exact hu)
      have k2 : ∀ i, w.heap.size < i → ∀ v v' : Value, ((w2.setCell ⟨w.heap.size, 0, none⟩ v).setCell ⟨w.heap.size, 1, none⟩ v').heap[i]? = w2.heap[i]? := fun i hi v v' => by
        rw [Below.heap_setCell _ _ _ _ (by intro e; have : i = w.heap.size := e; omega), Below.heap_setCell _ _ _ _ (by intro e; have : i = w.heap.size := e; omega)]
      refine ⟨p1.to keeps_int (fun i hi => ?_) (new3_to (by decide) (by omega) fun i hi => ?_), p2.to keeps_int (fun i hi => ?_) (new3_to (by decide) (by omega) fun i hi => ?_)⟩
      · have := hi.1
        exact (k2 i (by omega) _ _).trans (B12.out.block i hi.lt (fun e => by have : i = q := e; omega))
      · have := hi.1
        exact (k2 i (by omega) _ _).trans (B12.out.block i hi.lt (fun e => by have : i = q := e; omega))
      · have := hi.1
        exact k2 i (by omega) _ _
      · have := hi.1
        exact k2 i (by omega) _ _
theorem fn_bind (s : Option (List UInt8)) : s.bind fnP = (s.bind numP).bind fun x => (oneP x.2).bind fun y => if y.1 ≤ 1 then some (⟨x.1, y.1 == 1, [], []⟩, y.2) else none := by
  cases s <;> rfl
set_option maxHeartbeats 3200000 in
theorem function_any (q : Nat) : REfn 126 q fnP := by
  intro s w h
  have hq := h.lt
  have hne : ¬ One q w.heap.size := fun e => by have : w.heap.size = q := e; omega
  have T := hide (number_any q s (w.alloc (.cells #[.int .i64 0, .bool false, .slice none 0 0, .slice none 0 0] 50)) (h.kept (bel_one w _)))
  have RW := hide (Row.made w #[.int .i64 0, .bool false, .slice none 0 0, .slice none 0 0] 50)
  have B0 := hide (bel_one w (.cells #[.int .i64 0, .bool false, .slice none 0 0, .slice none 0 0] 50))
  clear h
  go_enter Tryz.func126, Tryz.ntmps126
  go_wp2_with fail
  refine T.out.mono ?_
  rintro e w1 ⟨i, rfl, hi0, hi1, hx, hs, b1⟩
  have R1 := hide (b1.row RW.out hne)
  have B1 := hide ((But.of (X := One q) B0.out).trans b1)
  have HX := hide hx
  have T2 := hide (oneByte_any q _ w1 hs)
  clear hx hs b1 T RW B0
  go_wp2_with fail
  refine T2.out.mono ?_
  rintro e w2 ⟨o, rfl, ho0, ho1, hx2, hs2, b2⟩
  have R2 := hide (b2.row R1.out hne)
  have B2 := hide (B1.out.trans b2)
  have HX2 := hide hx2
  have HS2 := hide hs2
  clear hx2 hs2 b2 R1 B1 T2
  by_cases hle : o ≤ 1
  · have KB : Hid (s.bind fnP = ((rest s numP).bind oneP).map fun y => (⟨i, o == 1, [], []⟩, y.2)) := hide (by
      rw [fn_bind]
      cases hn : s.bind numP with
      | none => rw [rest_none hn]; rfl
      | some x =>
        have e1 := HX.out x.1 x.2 hn
        have hh := HX2.out
        rw [rest_some hn] at *
        simp only [Option.bind_some] at *
        cases hp : oneP x.2 with
        | none => rfl
        | some y =>
          have e2 := hh y.1 y.2 hp
          simp [← e1, ← e2, hle])
    have KE : Hid (rest s fnP = rest (rest s numP) oneP) := hide (by unfold rest; rw [show s.bind fnP = _ from KB.out, Option.map_map]; rfl)
    have g1 : decide (1 < o) = false := by simp; omega
    clear HX HX2
    have c0 := R2.out.c 0 _ rfl
    have c1 := R2.out.c 1 _ rfl
    have c2 := R2.out.c 2 _ rfl
    have c3 := R2.out.c 3 _ rfl
    have z := R2.out.fr
    go_wp2_with fail
    refine bodyPost_ret (results_50 rfl _ _ w.heap.size _ rfl rfl ((((R2.out.set 0 _).set 1 _).set 2 _).set 3 _)) rfl ?_
    refine ⟨i, o == 1, none, 0, 0, none, 0, 0, rfl, ?_, (((B2.out.set 0 _ (Or.inr (Nat.le_refl _))).set 1 _ (Or.inr (Nat.le_refl _))).set 2 _ (Or.inr (Nat.le_refl _))).set 3 _ (Or.inr (Nat.le_refl _)), ?_⟩
    · rw [KE.out]
      exact (((HS2.out.other R2.out (by decide) (by omega) 0 _).other (R2.out.set 0 _) (by decide) (by omega) 1 _).other ((R2.out.set 0 _).set 1 _) (by decide) (by omega) 2 _).other (((R2.out.set 0 _).set 1 _).set 2 _) (by decide) (by omega) 3 _
    · intro x r e
      rw [KB.out] at e
      obtain ⟨y, hy, e2⟩ := Option.map_eq_some_iff.1 e
      cases e2
      exact ⟨by unfold I64; simp only; omega, rfl, rfl, Sl.isNil _ _ _ _, Sl.isNil _ _ _ _⟩
  · have KB : Hid (s.bind fnP = none) := hide (by
      rw [fn_bind]
      cases hn : s.bind numP with
      | none => rfl
      | some x =>
        have hh := HX2.out
        rw [rest_some hn] at hh
        simp only [Option.bind_some] at *
        cases hp : oneP x.2 with
        | none => rfl
        | some y =>
          have e2 := hh y.1 y.2 hp
          simp [← e2, hle])
    have KE : Hid (rest s fnP = none) := hide (rest_none KB.out)
    have g1 : decide (1 < o) = true := by simp; omega
    obtain ⟨_, ev, row⟩ := HS2.out.row
    have FA := hide (fail_any q _ _ w2 row)
    clear HX HX2 row
    go_wp2_with fail
    refine FA.out.mono ?_
    rintro e w3 ⟨rfl, h3, b3⟩
    have R3 := hide (b3.row R2.out hne)
    have B3 := hide (B2.out.trans b3)
    have H3 := hide h3
    clear h3 b3 FA HS2 R2 B2
    have c0 := R3.out.c 0 _ rfl
    have c1 := R3.out.c 1 _ rfl
    have c2 := R3.out.c 2 _ rfl
    have c3 := R3.out.c 3 _ rfl
    have z := R3.out.fr
    go_wp2_with fail
    refine bodyPost_ret (results_50 rfl _ _ w.heap.size _ rfl rfl ((((R3.out.set 0 _).set 1 _).set 2 _).set 3 _)) rfl ?_
    refine ⟨i, o == 1, none, 0, 0, none, 0, 0, rfl, ?_, (((B3.out.set 0 _ (Or.inr (Nat.le_refl _))).set 1 _ (Or.inr (Nat.le_refl _))).set 2 _ (Or.inr (Nat.le_refl _))).set 3 _ (Or.inr (Nat.le_refl _)), ?_⟩
    · rw [KE.out]
      exact (((H3.out.other R3.out (by decide) (by omega) 0 _).other (R3.out.set 0 _) (by decide) (by omega) 1 _).other ((R3.out.set 0 _).set 1 _) (by decide) (by omega) 2 _).other (((R3.out.set 0 _).set 1 _).set 2 _) (by decide) (by omega) 3 _
    · intro x r e
      rw [KB.out] at e
      cases e
end Go.Proofs.YtcbfpikggphokaaGreatDoor

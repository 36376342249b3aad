/-
  The whole of the bytes behind the head, plain: section by section, then each function with its code.
  The program's read, of bytes that begin with the head: what the plain function tells.
  The program's Decode, of bytes that begin with the head: what the plain function tells.
  What is written, with anything behind it, is read section by section; what may not stand behind a module. No program.
  What is read was written just so: the parsers turned round. No program.
-/
import Derived.Test.YtcbfpikggphokaaGreatDoorJoined
namespace Go.Proofs.YtcbfpikggphokaaGreatDoor
open Go.RowKit

theorem bytP_rest {n : Nat} {l a r : List UInt8} (h : bytP n l = some (a, r)) : r.length ≤ l.length := by
  unfold bytP at h
  split at h
  · cases h; simp
  · cases h
theorem cntP_rest {l a r : List UInt8} (h : cntP l = some (a, r)) : r.length ≤ l.length := by
  unfold cntP at h
  obtain ⟨x, hx, h2⟩ := Option.bind_eq_some_iff.1 h
  have h1 := (numP_bd (l := l) (n := x.1) (r := x.2) (by simpa using hx)).2.2
  have h3 := bytP_rest h2
  omega
theorem nextP_less {p p' : Pa} {last c : Int} {l r : List UInt8} (h : nextP p last l = some ((p', c), r)) : r.length < l.length := by
  unfold nextP at h
  obtain ⟨x, hx, h⟩ := Option.bind_eq_some_iff.1 h
  obtain ⟨y, hy, h⟩ := Option.bind_eq_some_iff.1 h
  split at h
  · cases h
  · obtain ⟨z, hz, h⟩ := Option.bind_eq_some_iff.1 h
    split at h
    · cases h
      have h1 := cntP_rest (a := y.1) (r := y.2) (by simpa using hy)
      cases l with
      | nil => cases hx
      | cons b t =>
        simp only [oneP, Option.some.injEq] at hx
        subst hx
        simp only [List.length_cons]
        simp only at h1
        omega
    · cases h
/-- the sections, one behind the other: the parts, or how many bytes were left where one can't be read -/
def rdP : Nat → Pa → Int → List UInt8 → Sum Pa Nat
  | 0, p, _, l => if l.length = 0 then .inl p else .inr l.length
  | n + 1, p, last, l => if l.length = 0 then .inl p else
    match nextP p last l with
    | none => .inr l.length
    | some ((p', c), r) => rdP n p' c r
theorem rdP_fuel : ∀ (n m : Nat) (p : Pa) (last : Int) (l : List UInt8), l.length ≤ n → l.length ≤ m → rdP n p last l = rdP m p last l
  | 0, 0, _, _, _, _, _ => rfl
  | 0, m + 1, p, last, l, h, _ => by
    have : l.length = 0 := by omega
    simp [rdP, this]
  | n + 1, 0, p, last, l, _, h => by
    have : l.length = 0 := by omega
    simp [rdP, this]
  | n + 1, m + 1, p, last, l, h1, h2 => by
    unfold rdP
    split
    · rfl
    · cases hx : nextP p last l with
      | none => rfl
      | some x =>
        obtain ⟨⟨p', c⟩, r⟩ := x
        have := nextP_less hx
        exact rdP_fuel n m p' c r (by omega) (by omega)
def rdA (p : Pa) (last : Int) (l : List UInt8) : Sum Pa Nat := rdP l.length p last l
theorem rdA_nil (p : Pa) (last : Int) : rdA p last [] = .inl p := rfl
theorem rdA_no {p : Pa} {last : Int} {c : UInt8} {l : List UInt8} (h : nextP p last (c :: l) = none) : rdA p last (c :: l) = .inr (c :: l).length := by
  unfold rdA
  simp [rdP, h]
theorem rdA_yes {p p' : Pa} {last c : Int} {l r : List UInt8} (hl : l ≠ []) (h : nextP p last l = some ((p', c), r)) : rdA p last l = rdA p' c r := by
  have hlt := nextP_less h
  unfold rdA
  cases l with
  | nil => exact absurd rfl hl
  | cons b t =>
    have e : rdP (t.length + 1) p last (b :: t) = rdP t.length p' c r := by
      simp [rdP, h]
    exact e.trans (rdP_fuel t.length r.length p' c r (by simp at hlt; omega) (Nat.le_refl _))
def pa0 : Pa := ⟨mo0, []⟩
/-- what read tells of the bytes behind the head: the module, or the place of the fault -/
def rdM (l : List UInt8) : Sum Mo Int :=
  match rdA pa0 0 l with
  | .inl p => if p.codes.length = p.m.funcs.length then .inl (joinM p) else .inr 0
  | .inr r => .inr (6 + (l.length : Int) - r)
theorem own_max {w : World} {B : Nat} {e : TypeId} {z n : Nat} {v : Value} {cs : List Value} (h : w.ownsRow B e z v n cs) : n ≤ 9223372036854775807 := by
  rcases h.2 with ⟨_, rfl⟩ | ⟨g, cap, cur, _, _, _, h1, h2, _⟩
  · omega
  · unfold maxLen at h2; omega
theorem pa0_in (B : Nat) (w : World) : PaIn (fun _ => False) B w (.slice none 0 0) (.slice none 0 0) (.slice none 0 0) (.slice none 0 0) (.slice none 0 0) (.slice none 0 0) 0 [] pa0 :=
  ⟨fun _ h => h.elim, fun _ _ h => h, Sl.isNil _ _ _ _, Sl.isNil _ _ _ _, World.ownsRow_nil _ _ _ _, rfl, fun j h => absurd h (by simp [pa0, mo0]), ⟨⟨by decide, by decide⟩, ⟨by decide, by decide⟩⟩, Sl.isNil _ _ _ _, Sl.isNil _ _ _ _, Sl.isNil _ _ _ _⟩
end Go.Proofs.YtcbfpikggphokaaGreatDoor
namespace Go.Proofs.YtcbfpikggphokaaGreatDoor
open Go.RowKit

/-- what read leaves -/
def RdE (l : List UInt8) (w : World) (e : Ending) (w' : World) : Prop :=
  Below w.heap.size w w' ∧ ((∃ M V, rdM l = .inl M ∧ e = .returned (.tuple #[moV V M, .nilIface]) ∧ IsMoS (New w w') w' V M) ∨ (∃ a pf, rdM l = .inr a ∧ e = .returned (.tuple #[.agg mod0, flt pf]) ∧ FaultAt w' pf 2 a ∧ w.heap.size ≤ pf))
theorem forms_S {S : Nat → Prop} {w : World} {V : MoV} {M : Mo} (h : IsMoS S w V M) : ∃ a0 k0 a1 k1 a2 k2 a5 k5 a6 k6, V = ⟨.slice a0 M.sigs.length k0, .slice a1 M.imports.length k1, .slice a2 M.funcs.length k2, .slice a5 M.globals.length k5, .slice a6 M.data.length k6⟩ := by
  obtain ⟨v0, v1, v2, v5, v6⟩ := V
  obtain ⟨a0, k0, e0⟩ := IsMo_forms_aux h.sigs
  obtain ⟨a1, k1, e1⟩ := IsMo_forms_aux h.imports
  obtain ⟨a2, k2, e2⟩ := IsMo_forms_aux h.funcs
  obtain ⟨a5, k5, e5⟩ := IsMo_forms_aux h.globals
  obtain ⟨a6, k6, e6⟩ := IsMo_forms_aux h.data
  simp only at e0 e1 e2 e5 e6
  subst e0 e1 e2 e5 e6
  exact ⟨_, _, _, _, _, _, _, _, _, _, rfl⟩
set_option maxRecDepth 100000 in
set_option maxHeartbeats 6400000 in
theorem read_any (l : List UInt8) (w : World) (hL : Laid w) (hl : l.length ≤ 3994) : Calls Tryz.prog 35 #[.string (str (head6 ++ l))] w (RdE l w) := by
  have C := hide (cut_yes l (w.alloc (.cells mod0 29)) (by omega))
  have hb1 := ((bel_one w (.cells mod0 29)).alloc (by simp) (.cells parts0 127)).alloc (by simp; omega) (.cells #[.string (str l), .nilIface] 129)
  have RP : Row (((w.alloc (.cells mod0 29)).alloc (.cells parts0 127)).alloc (.cells #[.string (str l), .nilIface] 129)) (w.heap.size + 1) parts0 127 := by
    have := (Row.made (w.alloc (.cells mod0 29)) parts0 127).alloc (.cells #[.string (str l), .nilIface] 129)
    simpa using this
  have RQ : RS (((w.alloc (.cells mod0 29)).alloc (.cells parts0 127)).alloc (.cells #[.string (str l), .nilIface] 129)) (w.heap.size + 1 + 1) (some l) := by
    refine ⟨by omega, ?_⟩
    have := Row.made ((w.alloc (.cells mod0 29)).alloc (.cells parts0 127)) #[.string (str l), .nilIface] 129
    simpa using this
  have RM : Row (((w.alloc (.cells mod0 29)).alloc (.cells parts0 127)).alloc (.cells #[.string (str l), .nilIface] 129)) w.heap.size mod0 29 := ((Row.made w mod0 29).alloc _).alloc _
  have HSZ : Hid (w.heap.size + 3 ≤ (((w.alloc (.cells mod0 29)).alloc (.cells parts0 127)).alloc (.cells #[.string (str l), .nilIface] 129)).heap.size) := hide (by simp)
  have h8 : (str (head6 ++ l)).size = 6 + l.length := by rw [str_size]; simp [head6]; omega
  have hd4 : decide ((4000 : Int) < 6 + (l.length : Int)) = false := decide_eq_false (by omega)
  have LW := hide hL
  have HP := hide RP
  have HQ := hide RQ
  have HM := hide RM
  have HB1 := hide hb1
  clear RP RQ RM hb1 hL
  unfold mod0 parts0 at *
  go_enter Tryz.func35, Tryz.ntmps35
  go_wp2_with fail
  refine C.out.mono ?_
  rintro e w1 ⟨rfl, rfl⟩
  clear C
  go_wp2_with fail
  go_loopw [9] (fun _ wr => ∃ (l' : List UInt8) (p : Pa) (last : Int) (S : Nat → Prop) (v0 v1 v2 v5 v6 v7 : Value) (n : Nat) (cs : List Value), Hid (Row wr (w.heap.size + 1) #[v0, v1, v2, .int .i64 p.m.m0, .int .i64 p.m.m1, v5, v6, v7, .int .i64 last] 127) ∧ Hid (RS wr (w.heap.size + 1 + 1) (some l')) ∧ Hid (PaIn S (w.heap.size + 3) wr v0 v1 v2 v5 v6 v7 n cs p) ∧ Hid (rdA pa0 0 l = rdA p last l') ∧ Hid (Row wr w.heap.size #[.slice none 0 0, .slice none 0 0, .slice none 0 0, .int .i64 0, .int .i64 0, .slice none 0 0, .slice none 0 0] 29) ∧ Hid (Below w.heap.size w wr) ∧ w.heap.size + 3 ≤ wr.heap.size ∧ l'.length ≤ l.length) (fun _ wr => mea (w.heap.size + 1 + 1) wr)
  case atStart => exact ⟨l, pa0, 0, _, _, _, _, _, _, _, _, _, HP, HQ, hide (pa0_in _ _), hide rfl, HM, HB1, HSZ.out, Nat.le_refl _⟩
  case round =>
    obtain ⟨l', p, last, S, v0, v1, v2, v5, v6, v7, n, cs, hP, hQ, hI, hR, hM, hB, hz, hll⟩ := hrel
    clear HP HQ HM HB1 HSZ
    cases l' with
    | nil =>
      have c0 := hQ.out.2.c 0 _ rfl
      have he : (str []).toList.isEmpty = true := by unfold str; simp
      have hRR : Hid (rdM l = if p.codes.length = p.m.funcs.length then .inl (joinM p) else .inr 0) := hide (by unfold rdM; rw [hR.out]; rfl)
      by_cases hc : p.codes.length = n
      · have J := hide (joined_any (w.heap.size + 1) (w.heap.size + 3) S v0 v1 v2 v5 v6 v7 _ n cs p wr hP.out hI.out hc (own_max hI.out.own))
        have HC := hide hc
        clear hc
        go_wp2_with fail
        refine J.out.mono ?_
        rintro e w2 ⟨rfl, hIM, hBt⟩
        have hbR : ¬ Ob v2 w.heap.size := fun h => by have := (hI.out.own.lt _ h).1; omega
        have R4 := hide (hBt.row hM.out hbR)
        have hS : ∀ i, S i ∨ Ob v2 i → w.heap.size + 3 ≤ i ∧ i < w2.heap.size := by
          rintro i (h | h)
          · have := hI.out.inS i h; have := hBt.size; omega
          · have := hI.out.own.lt i h; have := hBt.size; omega
        have hb4 := hide (hB.out.trans (hBt.below (B := w.heap.size) (by omega) (fun i hi h => by have := (hI.out.own.lt i h).1; omega)))
        have IM := hide hIM
        have HS := hide hS
        obtain ⟨a0, k0, a1, k1, a2, k2, a5, k5, a6, k6, hV⟩ := forms_S hIM
        cases hV
        have RX : Hid (rdM l = .inl (joinM p)) := hide (by rw [hRR.out, if_pos (by rw [hI.out.len]; exact HC.out)])
        clear J hIM hBt hbR hS hP hQ hR hM hB hI hRR c0
        have c0 := R4.out.c 0 _ rfl
        have c1 := R4.out.c 1 _ rfl
        have c2 := R4.out.c 2 _ rfl
        have c3 := R4.out.c 3 _ rfl
        have c4 := R4.out.c 4 _ rfl
        have c5 := R4.out.c 5 _ rfl
        have c6 := R4.out.c 6 _ rfl
        have z := R4.out.fr
        unfold moV
        go_wp2_with fail
        refine bodyPost_ret (results_mo rfl _ _ w.heap.size _ rfl rfl (Row.all7 R4.out _ _ _ _ _ _ _)) rfl ?_
        refine ⟨bel_all7 hb4.out (Nat.le_refl _) _ _ _ _ _ _ _, Or.inl ⟨joinM p, ⟨.slice a0 (joinM p).sigs.length k0, .slice a1 (joinM p).imports.length k1, .slice a2 (joinM p).funcs.length k2, .slice a5 (joinM p).globals.length k5, .slice a6 (joinM p).data.length k6⟩, RX.out, rfl, ?_⟩⟩
        have hs7 := same7 (S := fun i => S i ∨ Ob (.slice a2 (joinM p).funcs.length k2) i) w2 (b := w.heap.size) (fun h => by have := (HS.out _ h).1; omega) (.slice a0 (joinM p).sigs.length k0) (.slice a1 (joinM p).imports.length k1) (.slice a2 (joinM p).funcs.length k2) (.int .i64 (joinM p).m0) (.int .i64 (joinM p).m1) (.slice a5 (joinM p).globals.length k5) (.slice a6 (joinM p).data.length k6)
        have hT : ∀ i, (S i ∨ Ob (.slice a2 (joinM p).funcs.length k2) i) → New w (all7 w2 w.heap.size (.slice a0 (joinM p).sigs.length k0) (.slice a1 (joinM p).imports.length k1) (.slice a2 (joinM p).funcs.length k2) (.int .i64 (joinM p).m0) (.int .i64 (joinM p).m1) (.slice a5 (joinM p).globals.length k5) (.slice a6 (joinM p).data.length k6)) i := fun i hi => by
          refine ⟨by have := (HS.out i hi).1; omega, ?_⟩
          rw [all7_size]; exact (HS.out i hi).2
        exact ⟨IM.out.sigs.to keeps_sg hs7 hT, IM.out.imports.to keeps_int hs7 hT, IM.out.funcs.to keeps_fn hs7 hT, IM.out.mems, IM.out.globals.to keeps_gl hs7 hT, IM.out.data.to keeps_da hs7 hT⟩
      · have J := hide (joined_no (w.heap.size + 1) (w.heap.size + 3) S v0 v1 v2 v5 v6 v7 _ n cs p wr hP.out hI.out hc)
        have RX : Hid (rdM l = .inr 0) := hide (by rw [hRR.out, if_neg (by rw [hI.out.len]; exact hc)])
        clear hc
        go_wp2_with fail
        refine J.out.mono ?_
        rintro e w2 ⟨pf, rfl, f2, hpf, b2⟩
        unfold mod0
        have R4 := hide (hM.out.kept b2)
        have hb4 := hide (below_next hB.out b2)
        have F4 := hide f2
        have NPF : Hid (pf ≠ w.heap.size) := hide (by
          intro e
          have f := F4.out
          have r := R4.out
          rw [e] at f
          unfold FaultAt at f
          unfold Row at r
          rw [r] at f
          simp at f)
        have HPF : Hid (w.heap.size ≤ pf) := hide (by omega)
        clear J b2 f2 hpf hP hQ hR hM hB hI hRR c0
        have c0 := R4.out.c 0 _ rfl
        have c1 := R4.out.c 1 _ rfl
        have c2 := R4.out.c 2 _ rfl
        have c3 := R4.out.c 3 _ rfl
        have c4 := R4.out.c 4 _ rfl
        have c5 := R4.out.c 5 _ rfl
        have c6 := R4.out.c 6 _ rfl
        have z := R4.out.fr
        unfold flt
        go_wp2_with fail
        refine bodyPost_ret (results_mo rfl _ _ w.heap.size _ rfl rfl (Row.all7 R4.out _ _ _ _ _ _ _)) rfl ?_
        refine ⟨bel_all7 hb4.out (Nat.le_refl _) _ _ _ _ _ _ _, Or.inr ⟨_, pf, RX.out, rfl, ?_, HPF.out⟩⟩
        have hn : pf ≠ w.heap.size := NPF.out
        have f := F4.out
        unfold FaultAt at *
        rw [Below.heap_setCell _ _ _ _ hn, Below.heap_setCell _ _ _ _ hn, Below.heap_setCell _ _ _ _ hn, Below.heap_setCell _ _ _ _ hn, Below.heap_setCell _ _ _ _ hn, Below.heap_setCell _ _ _ _ hn, Below.heap_setCell _ _ _ _ hn]
        exact f
    | cons b t =>
      have NX := hide (next_any (w.heap.size + 1) (w.heap.size + 1 + 1) (w.heap.size + 3) S v0 v1 v2 v5 v6 v7 last n cs p (b :: t) wr hP.out hQ.out (by omega) (by omega) (by omega) hz hI.out)
      have c0 := hQ.out.2.c 0 _ rfl
      have he : (str (b :: t)).toList.isEmpty = false := by unfold str; simp
      have h9 : (str (b :: t)).size = t.length + 1 := by rw [str_size]; simp
      have ME := hide (hQ.out.mea)
      have hbt : t.length + 1 ≤ l.length := by simpa using hll
      clear hP hQ hI hll
      go_wp2_with fail
      refine NX.out.mono ?_
      rintro e w2 ⟨b2, ⟨p', c, r, hn, rfl, hs, hc, S', v0', v1', v2', v5', v6', v7', n', cs', row', hi'⟩ | ⟨hn, pf, rfl, f2⟩⟩
      · have hR' := hide (hR.out.trans (rdA_yes (by simp) hn))
        have hrl := nextP_less hn
        have ML : Hid (mea (w.heap.size + 1 + 1) w2 < mea (w.heap.size + 1 + 1) wr) := hide (by rw [hs.mea, ME.out]; simpa using hrl)
        have hM' := hide (b2.row hM.out (by rintro (h | h) <;> omega))
        have hB' := hide (hB.out.trans (b2.below (B := w.heap.size) (by omega) (by rintro i hi (h | h) <;> omega)))
        have hz' := Nat.le_trans hz b2.size
        have HS := hide hs
        have HR := hide row'
        have HI := hide hi'
        have hl' : r.length ≤ l.length := by simp at hrl; omega
        clear NX hn hs row' hi' b2 hM hB hR c0
        go_wp2_with fail
        go_roundw
        case rel => exact ⟨r, p', c, S', v0', v1', v2', v5', v6', v7', n', cs', HR, HS, HI, hR', hM', hB', hz', hl'⟩
        case measure => exact ML.out
      · have RX : Hid (rdM l = .inr (6 + (l.length : Int) - ((b :: t).length : Nat))) := hide (by unfold rdM; rw [hR.out, rdA_no hn])
        have b2' := b2.below (B := w.heap.size + 1) (by omega) (by rintro i hi (h | h) <;> omega)
        have R2 := hide (hM.out.below b2' (by omega))
        have hb2 := hide (hB.out.trans (b2'.mono (by omega)))
        have L2 := LW.out.below hb2.out LW.out.pos
        have K := hide (kind_fault pf 2 0 w2 L2 f2)
        clear NX hn b2 b2' f2 L2 hM hB hR c0
        unfold flt at *
        go_wp2_with fail
        refine K.out.mono ?_
        rintro e w3 ⟨rfl, b3⟩
        have hb3 := hide (below_next hb2.out b3)
        have R3 := hide (R2.out.kept b3)
        clear b3 K R2
        have hpl : (6 : Int) + (l.length : Int) - ((b :: t).length : Nat) = 6 + (l.length : Int) - ((t.length : Int) + 1) := by simp
        rw [hpl] at RX
        clear hpl
        go_wp2_with fail
        refine (fault_any 2 (6 + (l.length : Int) - ((t.length : Int) + 1)) w3).mono ?_
        rintro e w4 ⟨rfl, f4, b4⟩
        have hb4 := hide (below_next hb3.out b4)
        have R4 := hide (R3.out.kept b4)
        have F4 := hide f4
        have HPF := hide hb3.out.size
        have NPF : Hid (w3.heap.size ≠ w.heap.size) := hide (by have := R3.out.lt; omega)
        clear b4 f4 R3
        have c0 := R4.out.c 0 _ rfl
        have c1 := R4.out.c 1 _ rfl
        have c2 := R4.out.c 2 _ rfl
        have c3 := R4.out.c 3 _ rfl
        have c4 := R4.out.c 4 _ rfl
        have c5 := R4.out.c 5 _ rfl
        have c6 := R4.out.c 6 _ rfl
        have z := R4.out.fr
        unfold flt
        go_wp2_with fail
        refine bodyPost_ret (results_mo rfl _ _ w.heap.size _ rfl rfl (Row.all7 R4.out _ _ _ _ _ _ _)) rfl ?_
        refine ⟨bel_all7 hb4.out (Nat.le_refl _) _ _ _ _ _ _ _, Or.inr ⟨_, w3.heap.size, RX.out, rfl, ?_, HPF.out⟩⟩
        have hn : w3.heap.size ≠ w.heap.size := NPF.out
        have f := F4.out
        unfold FaultAt at *
        rw [Below.heap_setCell _ _ _ _ hn, Below.heap_setCell _ _ _ _ hn, Below.heap_setCell _ _ _ _ hn, Below.heap_setCell _ _ _ _ hn, Below.heap_setCell _ _ _ _ hn, Below.heap_setCell _ _ _ _ hn, Below.heap_setCell _ _ _ _ hn]
        exact f
end Go.Proofs.YtcbfpikggphokaaGreatDoor
namespace Go.Proofs.YtcbfpikggphokaaGreatDoor
open Go.RowKit

/-- the module, or the fault and its place -/
def dcM (l : List UInt8) : Sum Mo (Int × Int) :=
  match rdM l with
  | .inl M => if fitE M = 0 then .inl M else .inr (if fitE M = 4 then 2 else fitE M, 0)
  | .inr a => .inr (2, a)
def DcE (l : List UInt8) (w : World) (e : Ending) (w' : World) : Prop :=
  Below w.heap.size w w' ∧ ((∃ M V, dcM l = .inl M ∧ e = .returned (.tuple #[moV V M, .nilIface]) ∧ IsMo w'.heap.size w' V M) ∨ (∃ k a pf, dcM l = .inr (k, a) ∧ e = .returned (.tuple #[.agg mod0, flt pf]) ∧ FaultAt w' pf k a))
theorem fault_row {w : World} {b pf : Nat} {cs : Array Value} {c a : Int} (r : Row w b cs 29) (f : FaultAt w pf c a) : pf ≠ b := by
  intro e
  subst e
  unfold Row at r
  unfold FaultAt at f
  rw [r] at f
  simp at f
set_option maxRecDepth 100000 in
set_option maxHeartbeats 6400000 in
theorem decode_any (l : List UInt8) (w : World) (hL : Laid w) (hl : l.length ≤ 3994) : Calls Tryz.prog 16 #[.string (str (head6 ++ l))] w (DcE l w) := by
  have hb0 := bel_one w (.cells mod0 29)
  have RH := hide (read_any l (w.alloc (.cells mod0 29)) (hL.kept hb0) hl)
  have R0 := hide (Row.made w mod0 29)
  have HS0 : (w.alloc (.cells mod0 29)).heap.size = w.heap.size + 1 := by simp
  have LW := hide hL
  clear hL
  unfold mod0 at *
  go_enter Tryz.func16, Tryz.ntmps16
  go_wp2_with fail
  refine RH.out.mono ?_
  rintro e w1 ⟨b1, ⟨M, V, hr, rfl, hI⟩ | ⟨a, pf, hr, rfl, f1, hpf⟩⟩
  · have hb1 := below_next hb0 b1
    obtain ⟨a0, k0, a1, k1, a2, k2, a5, k5, a6, k6, hV⟩ := hI.forms
    cases hV
    have hal := bel_one w1 (.cells #[.slice a0 M.sigs.length k0, .slice a1 M.imports.length k1, .slice a2 M.funcs.length k2, .int .i64 M.m0, .int .i64 M.m1, .slice a5 M.globals.length k5, .slice a6 M.data.length k6] 29)
    have R1 := hide ((R0.out.kept b1).alloc (.cells #[.slice a0 M.sigs.length k0, .slice a1 M.imports.length k1, .slice a2 M.funcs.length k2, .int .i64 M.m0, .int .i64 M.m1, .slice a5 M.globals.length k5, .slice a6 M.data.length k6] 29))
    have S1 := hide (Row.made w1 #[.slice a0 M.sigs.length k0, .slice a1 M.imports.length k1, .slice a2 M.funcs.length k2, .int .i64 M.m0, .int .i64 M.m1, .slice a5 M.globals.length k5, .slice a6 M.data.length k6] 29)
    have hb2 := below_next hb1 hal
    have hN : ∀ i, New (w.alloc (.cells #[.slice none 0 0, .slice none 0 0, .slice none 0 0, .int .i64 0, .int .i64 0, .slice none 0 0, .slice none 0 0] 29)) w1 i → w.heap.size < i ∧ i < w1.heap.size := fun i hi => ⟨by have := hi.1; rw [HS0] at this; omega, hi.2⟩
    have I2 := hI.to (T := fun i => w.heap.size < i ∧ i < (w1.alloc (.cells #[.slice a0 M.sigs.length k0, .slice a1 M.imports.length k1, .slice a2 M.funcs.length k2, .int .i64 M.m0, .int .i64 M.m1, .slice a5 M.globals.length k5, .slice a6 M.data.length k6] 29)).heap.size) (fun i hi => hal.block i (hN i hi).2) (fun i hi => ⟨(hN i hi).1, by have := (hN i hi).2; have := hal.size; omega⟩)
    have I3 := hide (I2.to (T := Lt (w1.alloc (.cells #[.slice a0 M.sigs.length k0, .slice a1 M.imports.length k1, .slice a2 M.funcs.length k2, .int .i64 M.m0, .int .i64 M.m1, .slice a5 M.globals.length k5, .slice a6 M.data.length k6] 29)).heap.size) (same_self _ _) (fun i hi => hi.2))
    have I2H := hide I2
    have HR := hide hr
    clear b1 R0 RH hb0 hI hr hal hN I2 HS0
    by_cases hf : fitE M = 0
    · have MF := hide (misfit_ok _ M _ I3.out hf)
      have DM : Hid (dcM l = .inl M) := hide (by unfold dcM; rw [HR.out]; simp [hf])
      clear hf
      unfold moV at *
      go_wp2_with fail
      refine MF.out.mono ?_
      rintro e w2 ⟨rfl, b2⟩
      have hb3 := below_next hb2 b2
      have R2 := hide (R1.out.kept b2)
      have S2 := hide (S1.out.kept b2)
      have I4 := hide (I2H.out.to (T := fun i => w.heap.size < i ∧ i < w2.heap.size) (fun i hi => b2.block i hi.2) (fun i hi => ⟨hi.1, Nat.lt_of_lt_of_le hi.2 b2.size⟩))
      clear b2 R1 S1 MF I3 I2H
      go_wp2_with fail
      refine (is_nil 4 w2).mono ?_
      rintro e w3 ⟨rfl, rfl⟩
      have c0 := R2.out.c 0 _ rfl
      have c1 := R2.out.c 1 _ rfl
      have c2 := R2.out.c 2 _ rfl
      have c3 := R2.out.c 3 _ rfl
      have c4 := R2.out.c 4 _ rfl
      have c5 := R2.out.c 5 _ rfl
      have c6 := R2.out.c 6 _ rfl
      have z := R2.out.fr
      have d0 := S2.out.c 0 _ rfl
      have d1 := S2.out.c 1 _ rfl
      have d2 := S2.out.c 2 _ rfl
      have d3 := S2.out.c 3 _ rfl
      have d4 := S2.out.c 4 _ rfl
      have d5 := S2.out.c 5 _ rfl
      have d6 := S2.out.c 6 _ rfl
      go_wp2_with fail
      refine bodyPost_ret (results_mo rfl _ _ w.heap.size _ rfl rfl (Row.all7 R2.out _ _ _ _ _ _ _)) rfl ?_
      refine ⟨bel_all7 hb3 (Nat.le_refl _) _ _ _ _ _ _ _, Or.inl ⟨M, ⟨.slice a0 M.sigs.length k0, .slice a1 M.imports.length k1, .slice a2 M.funcs.length k2, .slice a5 M.globals.length k5, .slice a6 M.data.length k6⟩, DM.out, rfl, ?_⟩⟩
      have hs7 := same7 (S := fun i => w.heap.size < i ∧ i < w3.heap.size) w3 (b := w.heap.size) (fun h => by have := h.1; omega) (.slice a0 M.sigs.length k0) (.slice a1 M.imports.length k1) (.slice a2 M.funcs.length k2) (.int .i64 M.m0) (.int .i64 M.m1) (.slice a5 M.globals.length k5) (.slice a6 M.data.length k6)
      exact I4.out.to hs7 (fun i hi => by show i < (all7 _ _ _ _ _ _ _ _ _).heap.size; rw [all7_size]; exact hi.2)
    · have MF := hide (misfit_no _ M _ I3.out hf)
      by_cases h4 : fitE M = 4
      · have DM : Hid (dcM l = .inr (2, 0)) := hide (by unfold dcM; rw [HR.out]; simp [h4])
        rw [h4] at MF
        clear hf h4
        unfold moV at *
        go_wp2_with fail
        refine MF.out.mono ?_
        rintro e w2 ⟨pf, rfl, f2, hpf, b2⟩
        have hb3 := below_next hb2 b2
        have R2 := hide (R1.out.kept b2)
        have IS := hide (is_fault pf 4 0 4 w2 f2)
        have h24 : ((4 : Int) == 4) = true := by decide
        rw [h24] at IS
        clear b2 R1 S1 MF I3 I2H f2 h24
        unfold flt at *
        go_wp2_with fail
        refine IS.out.mono ?_
        rintro e w3 ⟨rfl, rfl⟩
        clear IS
        go_wp2_with fail
        refine (fault_any 2 0 w3).mono ?_
        rintro e w4 ⟨rfl, f4, b4⟩
        have hb4 := below_next hb3 b4
        have R4 := hide (R2.out.kept b4)
        have F4 := hide f4
        have NN := hide (fault_row R4.out f4)
        clear b4 f4 R2
        have c0 := R4.out.c 0 _ rfl
        have c1 := R4.out.c 1 _ rfl
        have c2 := R4.out.c 2 _ rfl
        have c3 := R4.out.c 3 _ rfl
        have c4 := R4.out.c 4 _ rfl
        have c5 := R4.out.c 5 _ rfl
        have c6 := R4.out.c 6 _ rfl
        have z := R4.out.fr
        unfold flt
        go_wp2_with fail
        refine bodyPost_ret (results_mo rfl _ _ w.heap.size _ rfl rfl (Row.all7 R4.out _ _ _ _ _ _ _)) rfl ?_
        refine ⟨bel_all7 hb4 (Nat.le_refl _) _ _ _ _ _ _ _, Or.inr ⟨2, 0, w3.heap.size, DM.out, rfl, ?_⟩⟩
        have hn := NN.out
        have f := F4.out
        unfold FaultAt at *
        rw [Below.heap_setCell _ _ _ _ hn, Below.heap_setCell _ _ _ _ hn, Below.heap_setCell _ _ _ _ hn, Below.heap_setCell _ _ _ _ hn, Below.heap_setCell _ _ _ _ hn, Below.heap_setCell _ _ _ _ hn, Below.heap_setCell _ _ _ _ hn]
        exact f
      · have h1 : fitE M = 1 := by
          unfold fitE at *
          split at hf
          · split at hf
            · exact absurd rfl hf
            · rename_i h5 h6
              rw [if_pos h5, if_neg h6] at h4
              exact absurd rfl h4
          · rename_i h5
            rw [if_neg h5]
        have DM : Hid (dcM l = .inr (1, 0)) := hide (by unfold dcM; rw [HR.out]; simp [h1])
        rw [h1] at MF
        clear hf h4 h1
        unfold moV at *
        go_wp2_with fail
        refine MF.out.mono ?_
        rintro e w2 ⟨pf, rfl, f2, hpf, b2⟩
        have hb3 := below_next hb2 b2
        have R2 := hide (R1.out.kept b2)
        have F2 := hide f2
        have NN := hide (fault_row R2.out f2)
        have IS := hide (is_fault pf 1 0 4 w2 f2)
        have h24 : ((1 : Int) == 4) = false := by decide
        rw [h24] at IS
        clear b2 R1 S1 MF I3 I2H f2 h24
        unfold flt at *
        go_wp2_with fail
        refine IS.out.mono ?_
        rintro e w3 ⟨rfl, rfl⟩
        clear IS
        have c0 := R2.out.c 0 _ rfl
        have c1 := R2.out.c 1 _ rfl
        have c2 := R2.out.c 2 _ rfl
        have c3 := R2.out.c 3 _ rfl
        have c4 := R2.out.c 4 _ rfl
        have c5 := R2.out.c 5 _ rfl
        have c6 := R2.out.c 6 _ rfl
        have z := R2.out.fr
        go_wp2_with fail
        refine bodyPost_ret (results_mo rfl _ _ w.heap.size _ rfl rfl (Row.all7 R2.out _ _ _ _ _ _ _)) rfl ?_
        refine ⟨bel_all7 hb3 (Nat.le_refl _) _ _ _ _ _ _ _, Or.inr ⟨1, 0, pf, DM.out, rfl, ?_⟩⟩
        have hn := NN.out
        have f := F2.out
        unfold FaultAt at *
        rw [Below.heap_setCell _ _ _ _ hn, Below.heap_setCell _ _ _ _ hn, Below.heap_setCell _ _ _ _ hn, Below.heap_setCell _ _ _ _ hn, Below.heap_setCell _ _ _ _ hn, Below.heap_setCell _ _ _ _ hn, Below.heap_setCell _ _ _ _ hn]
        exact f
  · have hb1 := below_next hb0 b1
    have R1 := hide ((R0.out.kept b1).alloc (.cells #[.slice none 0 0, .slice none 0 0, .slice none 0 0, .int .i64 0, .int .i64 0, .slice none 0 0, .slice none 0 0] 29))
    have hal := bel_one w1 (.cells #[.slice none 0 0, .slice none 0 0, .slice none 0 0, .int .i64 0, .int .i64 0, .slice none 0 0, .slice none 0 0] 29)
    have hb2 := below_next hb1 hal
    have F1 := hide (f1.kept hal)
    have NN := hide (fault_row R1.out F1.out)
    have IS := hide (is_fault pf 2 a 4 _ F1.out)
    have DM : Hid (dcM l = .inr (2, a)) := hide (by unfold dcM; rw [hr])
    have h24 : ((2 : Int) == 4) = false := by decide
    rw [h24] at IS
    clear b1 R0 RH hb0 f1 hpf hal h24 hr HS0
    unfold mod0
    unfold flt at *
    go_wp2_with fail
    refine IS.out.mono ?_
    rintro e w2 ⟨rfl, rfl⟩
    have c0 := R1.out.c 0 _ rfl
    have c1 := R1.out.c 1 _ rfl
    have c2 := R1.out.c 2 _ rfl
    have c3 := R1.out.c 3 _ rfl
    have c4 := R1.out.c 4 _ rfl
    have c5 := R1.out.c 5 _ rfl
    have c6 := R1.out.c 6 _ rfl
    have z := R1.out.fr
    go_wp2_with fail
    refine bodyPost_ret (results_mo rfl _ _ w.heap.size _ rfl rfl (Row.all7 R1.out _ _ _ _ _ _ _)) rfl ?_
    refine ⟨bel_all7 hb2 (Nat.le_refl _) _ _ _ _ _ _ _, Or.inr ⟨2, a, pf, DM.out, rfl, ?_⟩⟩
    have hn := NN.out
    have f := F1.out
    unfold FaultAt at *
    rw [Below.heap_setCell _ _ _ _ hn, Below.heap_setCell _ _ _ _ hn, Below.heap_setCell _ _ _ _ hn, Below.heap_setCell _ _ _ _ hn, Below.heap_setCell _ _ _ _ hn, Below.heap_setCell _ _ _ _ hn, Below.heap_setCell _ _ _ _ hn]
    exact f
end Go.Proofs.YtcbfpikggphokaaGreatDoor
namespace Go.Proofs.YtcbfpikggphokaaGreatDoor
open Go.RowKit

theorem rd_next {c : Int} {p p' : Pa} {last : Int} {b t : List UInt8} (hc : 0 ≤ c ∧ c ≤ 255) (hb : b.length < 4294967296) (hl : last < c) (hf : fillP c p b = some (p', [])) : rdA p last (oneB c ++ cnt b ++ t) = rdA p' c t := by
  have e : oneB c ++ cnt b ++ t = oneB c ++ (cnt b ++ t) := by simp
  rw [e]
  refine rdA_yes (by simp [oneB]) ?_
  unfold nextP
  rw [inv_one _ _ hc]
  simp only [Option.bind_some]
  rw [inv_cnt _ _ hb]
  simp only [Option.bind_some]
  rw [if_neg (by omega), hf]
  simp
theorem rd_sec {α : Type} {c : Int} {P : List UInt8 → Option (α × List UInt8)} {E : α → List UInt8} {ok : α → Prop} (h : Inv P E ok) (upd : Pa → List α → Pa) (hf : ∀ p b, fillP c p b = (someP P b).map fun x => (upd p x.1, x.2)) (hc : 0 ≤ c ∧ c ≤ 255)
    (l : List α) (t : List UInt8) (p : Pa) (last : Int) (hl : l.length < 4294967296 ∧ (lst E l).length < 4294967296) (hok : ∀ x ∈ l, ok x) (hlast : last < c) :
    rdA p last (sec c E l ++ t) = rdA (if l.length = 0 then p else upd p l) (if l.length = 0 then last else c) t := by
  unfold sec
  split
  · simp
  · rename_i h0
    refine rd_next hc hl.2 hlast ?_
    have m := inv_many h l [] ⟨hl.1, hok⟩
    rw [List.append_nil] at m
    rw [hf]
    unfold someP
    rw [m]
    simp only [Option.bind_some, if_neg h0, Option.map_some]
theorem rd_sec' {α : Type} {c : Int} {P : List UInt8 → Option (α × List UInt8)} {E : α → List UInt8} {ok : α → Prop} (h : Inv P E ok) (upd : Pa → List α → Pa) (hf : ∀ p b, fillP c p b = (someP P b).map fun x => (upd p x.1, x.2)) (hc : 0 ≤ c ∧ c ≤ 255)
    (l : List α) (t : List UInt8) (p : Pa) (last : Int) (hl : l.length < 4294967296 ∧ (lst E l).length < 4294967296) (hok : ∀ x ∈ l, ok x) (hlast : last < c) (p' : Pa) (L' : Int) (h1 : l = [] → p = p') (h2 : upd p l = p') (h3 : (if l.length = 0 then last else c) = L') :
    rdA p last (sec c E l ++ t) = rdA p' L' t := by
  rw [rd_sec h upd hf hc l t p last hl hok hlast, h3, h2]
  split
  · rename_i h0; rw [h1 (List.eq_nil_of_length_eq_zero h0)]
  · rfl
theorem code_ok {M : Mo} (a : Fine M) {f : Fn} (hf : f ∈ M.funcs) : (smFn (code f) = true ∧ (code f).locals.all ri = true ∧ (code f).body.all rtI = true ∧ ∀ y ∈ (code f).body, I64 y.n) ∧ code f = code (code f) := by
  have hw := a.w2 f hf
  simp only [whFn, Bool.and_eq_true] at hw
  exact ⟨⟨a.s2 f hf, hw.2.1, hw.2.2.1, a.i64 f hf⟩, rfl⟩
/-- the parts of a module -/
def paOf (M : Mo) : Pa := ⟨{ M with funcs := M.funcs.map bare }, M.funcs.map code⟩
/-- the number of its last section -/
def l1 (M : Mo) : Int := if M.sigs.length = 0 then 0 else 1
def l2 (M : Mo) : Int := if M.imports.length = 0 then l1 M else 2
def l3 (M : Mo) : Int := if (M.funcs.map bare).length = 0 then l2 M else 3
def l5 (M : Mo) : Int := if (memL M).length = 0 then l3 M else 5
def l6 (M : Mo) : Int := if M.globals.length = 0 then l5 M else 6
def l10 (M : Mo) : Int := if (M.funcs.map code).length = 0 then l6 M else 10
def l11 (M : Mo) : Int := if M.data.length = 0 then l10 M else 11
theorem l1_le (M : Mo) : 0 ≤ l1 M ∧ l1 M ≤ 1 := by unfold l1; split <;> omega
theorem l2_le (M : Mo) : l1 M ≤ l2 M ∧ l2 M ≤ 2 := by have := l1_le M; unfold l2; split <;> omega
theorem l3_le (M : Mo) : l2 M ≤ l3 M ∧ l3 M ≤ 3 := by have := l2_le M; unfold l3; split <;> omega
theorem l5_le (M : Mo) : l3 M ≤ l5 M ∧ l5 M ≤ 5 := by have := l3_le M; unfold l5; split <;> omega
theorem l6_le (M : Mo) : l5 M ≤ l6 M ∧ l6 M ≤ 6 := by have := l5_le M; unfold l6; split <;> omega
theorem l10_le (M : Mo) : l6 M ≤ l10 M ∧ l10 M ≤ 10 := by have := l6_le M; unfold l10; split <;> omega
theorem l11_le (M : Mo) : l10 M ≤ l11 M ∧ l11 M ≤ 11 := by have := l10_le M; unfold l11; split <;> omega
theorem enc_read {M : Mo} (a : Fine M) (t : List UInt8) : rdA pa0 0 (secs M ++ t) = rdA (paOf M) (l11 M) t := by
  have s10 : sec 10 cdB M.funcs = sec 10 cdB (M.funcs.map code) := (sec_map cdB_code _).symm
  have s3 : sec 3 fnB M.funcs = sec 3 fnB (M.funcs.map bare) := (sec_map fnB_bare _).symm
  have f0 : M.sigs.length < 4294967296 ∧ (lst sgB M.sigs).length < 4294967296 := ⟨by have := a.l0; omega, lst_few (fun x hx => sg_bd (a.s0 x hx) (a.w0 x hx)) a.l0 (by omega)⟩
  have f1 : M.imports.length < 4294967296 ∧ (lst num M.imports).length < 4294967296 := ⟨by have := a.l1; omega, lst_few (fun x _ => num_len x) (by have := a.l1; omega) (by omega)⟩
  have f2 : (M.funcs.map bare).length < 4294967296 ∧ (lst fnB (M.funcs.map bare)).length < 4294967296 := ⟨by have := a.l2; simp; omega, lst_few (fun x _ => fn_bd x) (by have := a.l2; simp; omega) (by omega)⟩
  have f5 : M.globals.length < 4294967296 ∧ (lst glB M.globals).length < 4294967296 := ⟨by have := a.l5; omega, lst_few (fun x _ => gl_bd x) (by have := a.l5; omega) (by omega)⟩
  have f4 : (M.funcs.map code).length < 4294967296 ∧ (lst cdB (M.funcs.map code)).length < 4294967296 := ⟨by have := a.l2; simp; omega, lst_few (fun x hx => by
    obtain ⟨f, hf, rfl⟩ := List.mem_map.1 hx
    exact cd_bd (a.s2 f hf)) (by have := a.l2; simp; omega) (by omega)⟩
  have f6 : M.data.length < 4294967296 ∧ (lst daB M.data).length < 4294967296 := ⟨by have := a.l6; omega, lst_few (fun x hx => da_bd (a.few x hx)) (by have := a.l6; omega) (by omega)⟩
  have ix : ∀ {x : Int}, idx x = true → 0 ≤ x ∧ x < 4294967296 := fun {x} h => by simpa [idx] using h
  have e : secs M ++ t = sec 1 sgB M.sigs ++ (sec 2 num M.imports ++ (sec 3 fnB (M.funcs.map bare) ++ (sec 5 oneB (memL M) ++ (sec 6 glB M.globals ++ (sec 10 cdB (M.funcs.map code) ++ (sec 11 daB M.data ++ t)))))) := by
    unfold secs
    rw [s10, s3]
    simp only [List.append_assoc]
  rw [e]
  refine (rd_sec' inv_sg (fun p y => ⟨{ p.m with sigs := y }, p.codes⟩) (fun p b => rfl) (by omega) M.sigs _ pa0 0 f0 (fun x hx => ⟨a.s0 x hx, a.w0 x hx⟩) (by omega) ⟨⟨M.sigs, [], [], 0, 0, [], []⟩, []⟩ (l1 M) (fun h => by rw [h]; rfl) rfl rfl).trans ?_
  have b1 := l1_le M
  refine (rd_sec' inv_num (fun p y => ⟨{ p.m with imports := y }, p.codes⟩) (fun p b => rfl) (by omega) M.imports _ _ (l1 M) f1 (fun x hx => ix (a.w1 x hx)) (by omega) ⟨⟨M.sigs, M.imports, [], 0, 0, [], []⟩, []⟩ (l2 M) (fun h => by rw [h]) rfl rfl).trans ?_
  have b2 := l2_le M
  refine (rd_sec' inv_fn (fun p y => ⟨{ p.m with funcs := y }, p.codes⟩) (fun p b => rfl) (by omega) (M.funcs.map bare) _ _ (l2 M) f2 (fun x hx => by
    obtain ⟨f, hf, rfl⟩ := List.mem_map.1 hx
    exact ⟨(show idx f.sig = true from fn_idx (a.w2 f hf)), rfl⟩) (by omega) ⟨⟨M.sigs, M.imports, M.funcs.map bare, 0, 0, [], []⟩, []⟩ (l3 M) (fun h => by rw [h]) rfl rfl).trans ?_
  have b3 := l3_le M
  have hmem : rdA (⟨⟨M.sigs, M.imports, M.funcs.map bare, 0, 0, [], []⟩, []⟩ : Pa) (l3 M) (sec 5 oneB (memL M) ++ (sec 6 glB M.globals ++ (sec 10 cdB (M.funcs.map code) ++ (sec 11 daB M.data ++ t)))) =
      rdA (⟨⟨M.sigs, M.imports, M.funcs.map bare, M.m0, M.m1, [], []⟩, []⟩ : Pa) (l5 M) (sec 6 glB M.globals ++ (sec 10 cdB (M.funcs.map code) ++ (sec 11 daB M.data ++ t))) := by
    have hb := memL_byte a.toFit
    unfold l5
    by_cases h0 : M.m0 = 0 ∧ M.m1 = 0
    · have hm : memL M = [] := if_pos h0
      rw [hm, h0.1, h0.2]
      simp [sec]
    · have hm : memL M = [M.m0, M.m1] := if_neg h0
      have hml := lst_few (E := oneB) (l := memL M) (c := 1) (fun x _ => by simp [oneB]) (by rw [hm]; simp) (by omega)
      rw [if_neg (by rw [hm]; simp)]
      unfold sec
      rw [if_neg (by rw [hm]; simp)]
      refine rd_next (by omega) hml (by omega) ?_
      have m := inv_many inv_one (memL M) [] ⟨by rw [hm]; simp, hb⟩
      rw [List.append_nil] at m
      show (mmP (lst oneB (memL M))).map _ = _
      unfold mmP
      rw [m, hm]
      simp [two, h0]
  refine hmem.trans ?_
  have b5 := l5_le M
  refine (rd_sec' inv_gl (fun p y => ⟨{ p.m with globals := y }, p.codes⟩) (fun p b => rfl) (by omega) M.globals _ _ (l5 M) f5 (fun x hx => ⟨a.w5 x hx, a.g64 x hx⟩) (by omega) ⟨⟨M.sigs, M.imports, M.funcs.map bare, M.m0, M.m1, M.globals, []⟩, []⟩ (l6 M) (fun h => by rw [h]) rfl rfl).trans ?_
  have b6 := l6_le M
  refine (rd_sec' inv_cd (fun p y => ⟨p.m, y⟩) (fun p b => rfl) (by omega) (M.funcs.map code) _ _ (l6 M) f4 (fun x hx => by
    obtain ⟨f, hf, rfl⟩ := List.mem_map.1 hx
    exact code_ok a hf) (by omega) ⟨⟨M.sigs, M.imports, M.funcs.map bare, M.m0, M.m1, M.globals, []⟩, M.funcs.map code⟩ (l10 M) (fun h => by rw [h]) rfl rfl).trans ?_
  have b10 := l10_le M
  exact rd_sec' inv_da (fun p y => ⟨{ p.m with data := y }, p.codes⟩) (fun p b => rfl) (by omega) M.data _ _ (l10 M) f6 (fun x hx => ⟨a.w6 x hx, by have := a.few x hx; omega⟩) (by omega) (paOf M) (l11 M) (fun h => by unfold paOf; rw [h]) rfl rfl
theorem join_paOf (M : Mo) : joinM (paOf M) = M ∧ (paOf M).codes.length = (paOf M).m.funcs.length := by
  refine ⟨?_, by simp [paOf]⟩
  unfold joinM paOf
  have : List.zipWith joinF (M.funcs.map bare) (M.funcs.map code) = M.funcs := by
    rw [List.zipWith_map]
    induction M.funcs with
    | nil => rfl
    | cons f l ih => rw [List.zipWith_cons_cons, ih]; rfl
  simp only [this]
theorem enc_rdM {M : Mo} (a : Fine M) : rdM (secs M) = .inl M := by
  have h := enc_read a []
  rw [List.append_nil] at h
  unfold rdM
  rw [h, rdA_nil]
  simp only [join_paOf M, if_true]
theorem more_rdM {M : Mo} (a : Fine M) {c : UInt8} {t : List UInt8} (h : nextP (paOf M) (l11 M) (c :: t) = none) : rdM (secs M ++ (c :: t)) = .inr ((encM M).length : Int) := by
  unfold rdM
  rw [enc_read a, rdA_no h]
  simp only [encM, List.length_append, head6, List.length_cons, List.length_nil]
  congr 1
  omega
/-- a section of no number that there is -/
theorem next_id {p : Pa} {last : Int} (i : Int) (hi : 12 ≤ i ∧ i ≤ 255) (hl : last ≤ 11) : nextP p last [byI i, 0] = none := by
  have e : [byI i, 0] = oneB i ++ [0] := rfl
  unfold nextP
  rw [e, inv_one _ _ ⟨by omega, by omega⟩]
  simp only [Option.bind_some]
  have hc : cntP [0] = some ([], []) := by decide
  rw [hc]
  simp only [Option.bind_some]
  rw [if_neg (by omega)]
  have hf : fillP i p [] = none := by
    unfold fillP
    rw [if_neg (by omega), if_neg (by omega), if_neg (by omega), if_neg (by omega), if_neg (by omega), if_neg (by omega), if_neg (by omega)]
  rw [hf]
  rfl
/-- data of nothing -/
theorem next_eleven {p : Pa} {last : Int} (t : List UInt8) : nextP p last (11 :: 1 :: 0 :: t) = none := by
  have e : (11 :: 1 :: 0 :: t : List UInt8) = oneB 11 ++ (num 1 ++ (0 :: t)) := by
    have : num 1 = [1] := by decide
    rw [this]; rfl
  unfold nextP
  rw [e, inv_one _ _ ⟨by omega, by omega⟩]
  simp only [Option.bind_some]
  have hc : cntP (num 1 ++ (0 :: t)) = some ([0], t) := by
    unfold cntP
    rw [inv_num _ _ ⟨by omega, by omega⟩]
    simp [bytP]; omega
  rw [hc]
  simp only [Option.bind_some]
  have hf : fillP 11 p [0] = none := by
    have h0 : someP daP [0] = none := by decide
    have h1 : fillP 11 p [0] = (someP daP [0]).map fun x => (⟨{ p.m with data := x.1 }, p.codes⟩, x.2) := rfl
    rw [h1, h0]; rfl
  rw [hf]
  split <;> rfl
/-- the first section's number is no greater than the last one's -/
theorem hd_sec {α : Type} {c : Int} {E : α → List UInt8} {l : List α} {r : List UInt8} : (l.length = 0 ∧ sec c E l ++ r = r) ∨ (l.length ≠ 0 ∧ ∃ t, sec c E l ++ r = byI c :: t) := by
  unfold sec
  split
  · rename_i h; exact Or.inl ⟨h, rfl⟩
  · rename_i h; exact Or.inr ⟨h, _, rfl⟩
theorem hd_secs (M : Mo) : secs M = [] ∨ ∃ c t, secs M = byI c :: t ∧ (0 ≤ c ∧ c ≤ 255) ∧ c ≤ l11 M := by
  have e : secs M = sec 1 sgB M.sigs ++ (sec 2 num M.imports ++ (sec 3 fnB M.funcs ++ (sec 5 oneB (memL M) ++ (sec 6 glB M.globals ++ (sec 10 cdB M.funcs ++ (sec 11 daB M.data ++ [])))))) := by
    unfold secs
    simp only [List.append_assoc, List.append_nil]
  have b1 := l1_le M
  have b2 := l2_le M
  have b3 := l3_le M
  have b5 := l5_le M
  have b6 := l6_le M
  have b10 := l10_le M
  have b11 := l11_le M
  rw [e]
  rcases hd_sec (c := 1) (E := sgB) (l := M.sigs) (r := sec 2 num M.imports ++ (sec 3 fnB M.funcs ++ (sec 5 oneB (memL M) ++ (sec 6 glB M.globals ++ (sec 10 cdB M.funcs ++ (sec 11 daB M.data ++ [])))))) with ⟨_, h⟩ | ⟨h0, t, h⟩
  · rw [h]
    rcases hd_sec (c := 2) (E := num) (l := M.imports) (r := sec 3 fnB M.funcs ++ (sec 5 oneB (memL M) ++ (sec 6 glB M.globals ++ (sec 10 cdB M.funcs ++ (sec 11 daB M.data ++ []))))) with ⟨_, h⟩ | ⟨h0, t, h⟩
    · rw [h]
      rcases hd_sec (c := 3) (E := fnB) (l := M.funcs) (r := sec 5 oneB (memL M) ++ (sec 6 glB M.globals ++ (sec 10 cdB M.funcs ++ (sec 11 daB M.data ++ [])))) with ⟨_, h⟩ | ⟨h0, t, h⟩
      · rw [h]
        rcases hd_sec (c := 5) (E := oneB) (l := memL M) (r := sec 6 glB M.globals ++ (sec 10 cdB M.funcs ++ (sec 11 daB M.data ++ []))) with ⟨_, h⟩ | ⟨h0, t, h⟩
        · rw [h]
          rcases hd_sec (c := 6) (E := glB) (l := M.globals) (r := sec 10 cdB M.funcs ++ (sec 11 daB M.data ++ [])) with ⟨_, h⟩ | ⟨h0, t, h⟩
          · rw [h]
            rcases hd_sec (c := 10) (E := cdB) (l := M.funcs) (r := sec 11 daB M.data ++ []) with ⟨_, h⟩ | ⟨h0, t, h⟩
            · rw [h]
              rcases hd_sec (c := 11) (E := daB) (l := M.data) (r := []) with ⟨_, h⟩ | ⟨h0, t, h⟩
              · exact Or.inl h
              · refine Or.inr ⟨11, t, h, by omega, ?_⟩
                unfold l11; rw [if_neg h0]; omega
            · refine Or.inr ⟨10, t, h, by omega, ?_⟩
              have : l10 M = 10 := if_neg (by simpa using h0)
              omega
          · refine Or.inr ⟨6, t, h, by omega, ?_⟩
            have : l6 M = 6 := if_neg h0
            omega
        · refine Or.inr ⟨5, t, h, by omega, ?_⟩
          have : l5 M = 5 := if_neg h0
          omega
      · refine Or.inr ⟨3, t, h, by omega, ?_⟩
        have : l3 M = 3 := if_neg (by simpa using h0)
        omega
    · refine Or.inr ⟨2, t, h, by omega, ?_⟩
      have : l2 M = 2 := if_neg h0
      omega
  · refine Or.inr ⟨1, t, h, by omega, ?_⟩
    have : l1 M = 1 := if_neg h0
    omega
theorem next_low {p : Pa} {last c : Int} {t : List UInt8} (hc : 0 ≤ c ∧ c ≤ 255) (hl : c ≤ last) : nextP p last (byI c :: t) = none := by
  have e : byI c :: t = oneB c ++ t := rfl
  unfold nextP
  rw [e, inv_one _ _ hc]
  simp only [Option.bind_some, if_pos hl]
  cases cntP t <;> rfl
theorem twice_rdM {M : Mo} (a : Fine M) (h : secs M ≠ []) : rdM (secs M ++ secs M) = .inr ((encM M).length : Int) := by
  rcases hd_secs M with h0 | ⟨c, t, h1, h2, h3⟩
  · exact absurd h0 h
  · have := more_rdM a (next_low (t := t) h2 h3)
    rw [← h1] at this
    exact this
end Go.Proofs.YtcbfpikggphokaaGreatDoor
namespace Go.Proofs.YtcbfpikggphokaaGreatDoor
open Go.RowKit

/-- What a parser takes, its encoder writes. -/
def Vni {α : Type} (P : List UInt8 → Option (α × List UInt8)) (E : α → List UInt8) : Prop := ∀ l x r, P l = some (x, r) → l = E x ++ r
theorem ok3_some {t : Int × List UInt8 × Int} {n : Int} {r : List UInt8} (h : ok3 t = some (n, r)) : t = (n, r, 0) := by
  unfold ok3 at h
  split at h
  · rename_i h0
    obtain ⟨a, b, c⟩ := t
    simp only [Option.some.injEq, Prod.mk.injEq] at h
    simp only at h0
    rw [h.1, h.2, h0]
  · cases h
theorem vni_num : Vni numP num := fun _ _ _ h => (u32_inv (ok3_some h)).2.symm
theorem num_bd {l r : List UInt8} {n : Int} (h : numP l = some (n, r)) : 0 ≤ n ∧ n < 4294967296 := (u32_inv (ok3_some h)).1
theorem vni_one : Vni oneP oneB := by
  intro l n r h
  cases l with
  | nil => cases h
  | cons c t =>
    simp only [oneP, Option.some.injEq, Prod.mk.injEq] at h
    obtain ⟨rfl, rfl⟩ := h
    simp [oneB, byI_back]
theorem one_bd5 {l r : List UInt8} {n : Int} (h : oneP l = some (n, r)) : 0 ≤ n ∧ n ≤ 255 := by
  cases l with
  | nil => cases h
  | cons c t =>
    simp only [oneP, Option.some.injEq, Prod.mk.injEq] at h
    obtain ⟨rfl, rfl⟩ := h
    have := c.toNat_lt
    omega
theorem vni_cnt : Vni cntP cnt := by
  intro l b r h
  unfold cntP at h
  obtain ⟨⟨n, t⟩, h1, h2⟩ := Option.bind_eq_some_iff.1 h
  have e1 := vni_num _ _ _ h1
  have bd := num_bd h1
  unfold bytP at h2
  split at h2
  · rename_i hle
    simp only [Option.some.injEq, Prod.mk.injEq] at h2
    obtain ⟨rfl, rfl⟩ := h2
    have hn : ((t.take n.toNat).length : Int) = n := by
      rw [List.length_take]
      simp only at hle
      omega
    unfold cnt
    rw [hn, List.append_assoc, List.take_append_drop]
    exact e1
  · cases h2
theorem vni_rep {α : Type} {P : List UInt8 → Option (α × List UInt8)} {E : α → List UInt8} (h : Vni P E) : ∀ (n : Nat) (l : List UInt8) (xs : List α) (r : List UInt8), repP P n l = some (xs, r) → l = flat E xs ++ r ∧ xs.length = n
  | 0, l, xs, r, hp => by
    simp only [repP, Option.some.injEq, Prod.mk.injEq] at hp
    obtain ⟨rfl, rfl⟩ := hp
    exact ⟨by simp [flat], rfl⟩
  | n + 1, l, xs, r, hp => by
    simp only [repP] at hp
    obtain ⟨⟨x, t⟩, h1, h2⟩ := Option.bind_eq_some_iff.1 hp
    obtain ⟨⟨ys, q⟩, h3, h4⟩ := Option.map_eq_some_iff.1 h2
    simp only [Prod.mk.injEq] at h4
    obtain ⟨rfl, rfl⟩ := h4
    obtain ⟨e, hl⟩ := vni_rep h n _ _ _ h3
    refine ⟨?_, by simp [hl]⟩
    rw [h _ _ _ h1]
    simp only at e
    rw [e]
    simp [flat]
theorem vni_many {α : Type} {P : List UInt8 → Option (α × List UInt8)} {E : α → List UInt8} (h : Vni P E) : Vni (manyP P) (lst E) := by
  intro l xs r hp
  unfold manyP at hp
  obtain ⟨⟨n, t⟩, h1, h2⟩ := Option.bind_eq_some_iff.1 hp
  have bd := num_bd h1
  obtain ⟨e, hl⟩ := vni_rep h _ _ _ _ h2
  rw [vni_num _ _ _ h1]
  simp only at e hl
  have hn : (xs.length : Int) = n := by omega
  unfold lst
  rw [hn, List.append_assoc, ← e]
theorem vni_ty : Vni tyP tyB := by
  intro l t r h
  unfold tyP at h
  obtain ⟨⟨n, q⟩, h1, h2⟩ := Option.bind_eq_some_iff.1 h
  split at h2
  · simp only [Option.some.injEq, Prod.mk.injEq] at h2
    obtain ⟨rfl, rfl⟩ := h2
    rw [vni_one _ _ _ h1]
    have e : (127 : Int) - (127 - n) = n := by omega
    unfold tyB oneB
    rw [e]
  · cases h2
theorem vni_sg : Vni sgP sgB := by
  intro l s r h
  unfold sgP at h
  obtain ⟨⟨a, q⟩, h1, h2⟩ := Option.bind_eq_some_iff.1 h
  obtain ⟨⟨b, t⟩, h3, h4⟩ := Option.map_eq_some_iff.1 h2
  simp only [Prod.mk.injEq] at h4
  obtain ⟨rfl, rfl⟩ := h4
  have e3 : q = lst tyB b ++ t := vni_many vni_ty _ _ _ h3
  rw [vni_many vni_ty _ _ _ h1, e3]
  unfold sgB
  rw [List.append_assoc]
theorem vni_fn : Vni fnP fnB := by
  intro l f r h
  unfold fnP at h
  obtain ⟨⟨n, q⟩, h1, h2⟩ := Option.bind_eq_some_iff.1 h
  obtain ⟨⟨m, t⟩, h3, h4⟩ := Option.bind_eq_some_iff.1 h2
  split at h4
  · rename_i hle
    simp only [Option.some.injEq, Prod.mk.injEq] at h4
    obtain ⟨rfl, rfl⟩ := h4
    have bd := one_bd5 h3
    rw [vni_num _ _ _ h1]
    have e := vni_one _ _ _ h3
    simp only at e hle
    rw [e]
    unfold fnB
    rw [List.append_assoc]
    rcases (show m = 0 ∨ m = 1 by omega) with rfl | rfl <;> rfl
  · cases h4
theorem vni_gl : Vni glP glB := by
  intro l g r h
  unfold glP at h
  obtain ⟨⟨t, q⟩, h1, h2⟩ := Option.bind_eq_some_iff.1 h
  rw [vni_ty _ _ _ h1]
  unfold glB
  simp only at h2
  split at h2
  · rename_i hw
    obtain ⟨⟨v, u⟩, h3, h4⟩ := Option.map_eq_some_iff.1 h2
    simp only [Prod.mk.injEq] at h4
    obtain ⟨rfl, rfl⟩ := h4
    have e := (s64_inv (ok3_some h3)).2
    have eg : glV ⟨t, v⟩ = v := by simp [glV, hw]
    rw [eg, List.append_assoc, e]
  · rename_i hw
    obtain ⟨⟨v, u⟩, h3, h4⟩ := Option.map_eq_some_iff.1 h2
    simp only [Prod.mk.injEq] at h4
    obtain ⟨rfl, rfl⟩ := h4
    obtain ⟨bd, e⟩ := s32_inv (ok3_some h3)
    have eg : glV ⟨t, v % 4294967296⟩ = v := by
      have hw' : wi t = false := by simpa using hw
      simp only [glV, hw', s32]
      simp only [Bool.false_eq_true, if_false]
      split <;> omega
    rw [eg, List.append_assoc, e]
theorem vni_ins : ∀ (n : Nat) (l : List UInt8) (xs : List In), insP n l = some xs → l = flat inB xs
  | 0, [], xs, h => by simp only [insP, Option.some.injEq] at h; subst h; rfl
  | n + 1, [], xs, h => by simp only [insP, Option.some.injEq] at h; subst h; rfl
  | 0, _ :: _, xs, h => by cases h
  | n + 1, c :: l, xs, h => by
    simp only [insP] at h
    obtain ⟨⟨⟨op, nn, mm⟩, q⟩, h1, h2⟩ := Option.bind_eq_some_iff.1 h
    obtain ⟨ys, h3, h4⟩ := Option.map_eq_some_iff.1 h2
    subst h4
    have e := (back_2 h1).2.1
    have ih := vni_ins n _ _ h3
    simp only at ih
    rw [← e, ih]
    simp [flat, inB]
theorem vni_cd : Vni cdP cdB := by
  intro l f r h
  unfold cdP at h
  obtain ⟨⟨a, q⟩, h1, h2⟩ := Option.bind_eq_some_iff.1 h
  obtain ⟨⟨b, t⟩, h3, h4⟩ := Option.bind_eq_some_iff.1 h2
  obtain ⟨z, h5, h6⟩ := Option.map_eq_some_iff.1 h4
  simp only [Prod.mk.injEq] at h6
  obtain ⟨rfl, rfl⟩ := h6
  have e3 : q = cnt b ++ t := vni_cnt _ _ _ h3
  rw [vni_many vni_ty _ _ _ h1, e3]
  have e := vni_ins _ _ _ h5
  simp only at e
  unfold cdB
  rw [List.append_assoc]
  simp only
  rw [← e]
theorem vni_da : Vni daP daB := by
  intro l d r h
  unfold daP at h
  obtain ⟨⟨a, q⟩, h1, h2⟩ := Option.bind_eq_some_iff.1 h
  obtain ⟨⟨b, t⟩, h3, h4⟩ := Option.bind_eq_some_iff.1 h2
  obtain ⟨⟨c, u⟩, h5, h6⟩ := Option.map_eq_some_iff.1 h4
  simp only [Prod.mk.injEq] at h6
  obtain ⟨rfl, rfl⟩ := h6
  have e3 : q = num b ++ t := vni_num _ _ _ h3
  have e5 : t = cnt c ++ u := vni_cnt _ _ _ h5
  rw [vni_num _ _ _ h1, e3, e5]
  unfold daB
  simp [List.append_assoc]
def memQ (x y : Int) : List Int := if x = 0 ∧ y = 0 then [] else [x, y]
/-- the sections of what was read so far -/
def secsP (p : Pa) : List UInt8 := sec 1 sgB p.m.sigs ++ (sec 2 num p.m.imports ++ (sec 3 fnB p.m.funcs ++ (sec 5 oneB (memQ p.m.m0 p.m.m1) ++ (sec 6 glB p.m.globals ++ (sec 10 cdB p.codes ++ sec 11 daB p.m.data)))))
/-- nothing has been read of what stands behind number c -/
structure Up (p : Pa) (c : Int) : Prop where
  s1 : c < 1 → p.m.sigs = []
  s2 : c < 2 → p.m.imports = []
  s3 : c < 3 → p.m.funcs = []
  s5 : c < 5 → p.m.m0 = 0 ∧ p.m.m1 = 0
  s6 : c < 6 → p.m.globals = []
  s10 : c < 10 → p.codes = []
  s11 : c < 11 → p.m.data = []
theorem sec_nil {α : Type} (c : Int) (E : α → List UInt8) : sec c E [] = [] := rfl
theorem sec_full {α : Type} {c : Int} {E : α → List UInt8} {l : List α} (h : l.length ≠ 0) : sec c E l = oneB c ++ cnt (lst E l) := if_neg h
theorem some_vni {α : Type} {P : List UInt8 → Option (α × List UInt8)} {E : α → List UInt8} (h : Vni P E) {b r : List UInt8} {xs : List α} (hp : someP P b = some (xs, r)) : b = lst E xs ++ r ∧ xs.length ≠ 0 := by
  unfold someP at hp
  obtain ⟨⟨ys, q⟩, h1, h2⟩ := Option.bind_eq_some_iff.1 hp
  split at h2
  · cases h2
  · rename_i h0
    cases h2
    exact ⟨vni_many h _ _ _ h1, h0⟩
theorem fill_vni {c last : Int} {p p' : Pa} {b : List UInt8} (hU : Up p last) (hc : last < c) (h : fillP c p b = some (p', [])) : secsP p' = secsP p ++ (oneB c ++ cnt b) ∧ Up p' c := by
  unfold fillP at h
  split at h
  · rename_i e; subst e
    obtain ⟨⟨xs, r⟩, h1, h2⟩ := Option.map_eq_some_iff.1 h
    simp only [Prod.mk.injEq] at h2
    obtain ⟨rfl, rfl⟩ := h2
    obtain ⟨e, h0⟩ := some_vni vni_sg h1
    rw [List.append_nil] at e
    refine ⟨?_, ⟨fun h => by omega, fun _ => hU.s2 (by omega), fun _ => hU.s3 (by omega), fun _ => hU.s5 (by omega), fun _ => hU.s6 (by omega), fun _ => hU.s10 (by omega), fun _ => hU.s11 (by omega)⟩⟩
    have m : memQ p.m.m0 p.m.m1 = [] := if_pos (hU.s5 (by omega))
    unfold secsP
    simp only [m, hU.s1 (by omega), hU.s2 (by omega), hU.s3 (by omega), hU.s6 (by omega), hU.s10 (by omega), hU.s11 (by omega), sec_nil, sec_full h0, List.append_nil, List.nil_append, e]
  split at h
  · rename_i e; subst e
    obtain ⟨⟨xs, r⟩, h1, h2⟩ := Option.map_eq_some_iff.1 h
    simp only [Prod.mk.injEq] at h2
    obtain ⟨rfl, rfl⟩ := h2
    obtain ⟨e, h0⟩ := some_vni vni_num h1
    rw [List.append_nil] at e
    refine ⟨?_, ⟨fun h => by omega, fun h => by omega, fun _ => hU.s3 (by omega), fun _ => hU.s5 (by omega), fun _ => hU.s6 (by omega), fun _ => hU.s10 (by omega), fun _ => hU.s11 (by omega)⟩⟩
    have m : memQ p.m.m0 p.m.m1 = [] := if_pos (hU.s5 (by omega))
    unfold secsP
    simp only [m, hU.s2 (by omega), hU.s3 (by omega), hU.s6 (by omega), hU.s10 (by omega), hU.s11 (by omega), sec_nil, sec_full h0, List.append_nil, e]
  split at h
  · rename_i e; subst e
    obtain ⟨⟨xs, r⟩, h1, h2⟩ := Option.map_eq_some_iff.1 h
    simp only [Prod.mk.injEq] at h2
    obtain ⟨rfl, rfl⟩ := h2
    obtain ⟨e, h0⟩ := some_vni vni_fn h1
    rw [List.append_nil] at e
    refine ⟨?_, ⟨fun h => by omega, fun h => by omega, fun h => by omega, fun _ => hU.s5 (by omega), fun _ => hU.s6 (by omega), fun _ => hU.s10 (by omega), fun _ => hU.s11 (by omega)⟩⟩
    have m : memQ p.m.m0 p.m.m1 = [] := if_pos (hU.s5 (by omega))
    unfold secsP
    simp only [m, hU.s3 (by omega), hU.s6 (by omega), hU.s10 (by omega), hU.s11 (by omega), sec_nil, sec_full h0, List.append_nil, e, List.append_assoc]
  split at h
  · rename_i e; subst e
    obtain ⟨⟨⟨x, y⟩, r⟩, h1, h2⟩ := Option.map_eq_some_iff.1 h
    simp only [Prod.mk.injEq] at h2
    obtain ⟨rfl, rfl⟩ := h2
    unfold mmP at h1
    obtain ⟨⟨ys, q⟩, h3, h4⟩ := Option.bind_eq_some_iff.1 h1
    have e := vni_many vni_one _ _ _ h3
    have h5 : ys = [x, y] ∧ ¬ (x = 0 ∧ y = 0) ∧ q = [] := by
      unfold two at h4
      split at h4
      · rename_i a b hab
        simp only at hab
        split at h4
        · cases h4
        · rename_i hn
          simp only [Option.some.injEq, Prod.mk.injEq] at h4
          obtain ⟨⟨rfl, rfl⟩, rfl⟩ := h4
          exact ⟨hab, hn, rfl⟩
      · cases h4
    obtain ⟨rfl, hn, rfl⟩ := h5
    rw [List.append_nil] at e
    refine ⟨?_, ⟨fun h => by omega, fun h => by omega, fun h => by omega, fun h => by omega, fun _ => hU.s6 (by omega), fun _ => hU.s10 (by omega), fun _ => hU.s11 (by omega)⟩⟩
    have m : memQ p.m.m0 p.m.m1 = [] := if_pos (hU.s5 (by omega))
    have m' : memQ x y = [x, y] := if_neg hn
    have h0 : ([x, y] : List Int).length ≠ 0 := by simp
    unfold secsP
    simp only [m, m', hU.s6 (by omega), hU.s10 (by omega), hU.s11 (by omega), sec_nil, sec_full h0, List.append_nil, e, List.append_assoc]
  split at h
  · rename_i e; subst e
    obtain ⟨⟨xs, r⟩, h1, h2⟩ := Option.map_eq_some_iff.1 h
    simp only [Prod.mk.injEq] at h2
    obtain ⟨rfl, rfl⟩ := h2
    obtain ⟨e, h0⟩ := some_vni vni_gl h1
    rw [List.append_nil] at e
    refine ⟨?_, ⟨fun h => by omega, fun h => by omega, fun h => by omega, fun h => by omega, fun h => by omega, fun _ => hU.s10 (by omega), fun _ => hU.s11 (by omega)⟩⟩
    unfold secsP
    simp only [hU.s6 (by omega), hU.s10 (by omega), hU.s11 (by omega), sec_nil, sec_full h0, List.append_nil, e, List.append_assoc]
  split at h
  · rename_i e; subst e
    obtain ⟨⟨xs, r⟩, h1, h2⟩ := Option.map_eq_some_iff.1 h
    simp only [Prod.mk.injEq] at h2
    obtain ⟨rfl, rfl⟩ := h2
    obtain ⟨e, h0⟩ := some_vni vni_cd h1
    rw [List.append_nil] at e
    refine ⟨?_, ⟨fun h => by omega, fun h => by omega, fun h => by omega, fun h => by omega, fun h => by omega, fun h => by omega, fun _ => hU.s11 (by omega)⟩⟩
    unfold secsP
    simp only [hU.s10 (by omega), hU.s11 (by omega), sec_nil, sec_full h0, List.append_nil, e, List.append_assoc]
  split at h
  · rename_i e; subst e
    obtain ⟨⟨xs, r⟩, h1, h2⟩ := Option.map_eq_some_iff.1 h
    simp only [Prod.mk.injEq] at h2
    obtain ⟨rfl, rfl⟩ := h2
    obtain ⟨e, h0⟩ := some_vni vni_da h1
    rw [List.append_nil] at e
    refine ⟨?_, ⟨fun h => by omega, fun h => by omega, fun h => by omega, fun h => by omega, fun h => by omega, fun h => by omega, fun h => by omega⟩⟩
    unfold secsP
    simp only [hU.s11 (by omega), sec_nil, sec_full h0, List.append_nil, e, List.append_assoc]
  · cases h
theorem next_vni {p p' : Pa} {last c : Int} {l r : List UInt8} (hU : Up p last) (h : nextP p last l = some ((p', c), r)) : secsP p' ++ r = secsP p ++ l ∧ Up p' c := by
  unfold nextP at h
  obtain ⟨⟨x, q⟩, h1, h⟩ := Option.bind_eq_some_iff.1 h
  obtain ⟨⟨b, t⟩, h2, h⟩ := Option.bind_eq_some_iff.1 h
  simp only at h h2
  split at h
  · cases h
  · rename_i hle
    obtain ⟨⟨p2, u⟩, h3, h⟩ := Option.bind_eq_some_iff.1 h
    split at h
    · rename_i hu
      simp only [Option.some.injEq, Prod.mk.injEq] at h
      obtain ⟨⟨rfl, rfl⟩, rfl⟩ := h
      have eu : u = [] := List.eq_nil_of_length_eq_zero hu
      subst eu
      obtain ⟨e, hU'⟩ := fill_vni hU (by omega) h3
      refine ⟨?_, hU'⟩
      rw [e, vni_one _ _ _ h1, vni_cnt _ _ _ h2]
      simp [List.append_assoc]
    · cases h
theorem rd_vni : ∀ (n : Nat) (p : Pa) (last : Int) (l : List UInt8) (p' : Pa), Up p last → rdP n p last l = .inl p' → secsP p' = secsP p ++ l
  | 0, p, last, l, p', _, h => by
    unfold rdP at h
    split at h
    · rename_i h0
      cases h
      rw [List.eq_nil_of_length_eq_zero h0, List.append_nil]
    · cases h
  | n + 1, p, last, l, p', hU, h => by
    unfold rdP at h
    split at h
    · rename_i h0
      cases h
      rw [List.eq_nil_of_length_eq_zero h0, List.append_nil]
    · cases hx : nextP p last l with
      | none => rw [hx] at h; cases h
      | some x =>
        obtain ⟨⟨p2, c⟩, r⟩ := x
        rw [hx] at h
        obtain ⟨e, hU'⟩ := next_vni hU hx
        rw [rd_vni n p2 c r p' hU' h, e]
theorem up0 : Up pa0 0 := ⟨fun _ => rfl, fun _ => rfl, fun _ => rfl, fun _ => ⟨rfl, rfl⟩, fun _ => rfl, fun _ => rfl, fun _ => rfl⟩
theorem zip_fnB : ∀ {f c : List Fn}, c.length = f.length → (List.zipWith joinF f c).map fnB = f.map fnB ∧ (List.zipWith joinF f c).map cdB = c.map cdB
  | [], [], _ => ⟨rfl, rfl⟩
  | [], _ :: _, h => by simp at h
  | _ :: _, [], h => by simp at h
  | x :: f, y :: c, h => by
    obtain ⟨e1, e2⟩ := zip_fnB (f := f) (c := c) (by simpa using h)
    simp only [List.zipWith_cons_cons, List.map_cons, e1, e2]
    exact ⟨rfl, rfl⟩
theorem sec_eq {α β : Type} {c : Int} {E : α → List UInt8} {F : β → List UInt8} {l : List α} {k : List β} (h : l.map E = k.map F) : sec c E l = sec c F k := by
  have hl : l.length = k.length := by have := congrArg List.length h; simpa using this
  unfold sec lst flat
  rw [h, hl]
theorem rdM_vni {l : List UInt8} {M : Mo} (h : rdM l = .inl M) : secs M = l := by
  unfold rdM at h
  cases hr : rdA pa0 0 l with
  | inr r => rw [hr] at h; cases h
  | inl p =>
    rw [hr] at h
    simp only at h
    split at h
    · rename_i hlen
      cases h
      have e := rd_vni _ _ _ _ _ up0 hr
      have e0 : secsP pa0 = [] := rfl
      rw [e0, List.nil_append] at e
      rw [← e]
      obtain ⟨z1, z2⟩ := zip_fnB hlen
      unfold secs secsP
      have s3 : sec 3 fnB (joinM p).funcs = sec 3 fnB p.m.funcs := sec_eq z1
      have s10 : sec 10 cdB (joinM p).funcs = sec 10 cdB p.codes := sec_eq z2
      rw [s3, s10]
      simp only [List.append_assoc]
      rfl
    · cases h
end Go.Proofs.YtcbfpikggphokaaGreatDoor

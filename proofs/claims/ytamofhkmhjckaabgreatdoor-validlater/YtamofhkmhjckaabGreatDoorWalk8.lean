/-
  The walk's die, and what is made of literals; join, relabel, local, global, takes, target.
  The walk's global, target, open, and a frame's takes.
-/
import Derived.Test.YtamofhkmhjckaabGreatDoorWalk5
import Derived.Deep.RegionHeld3
import Derived.Deep.AppendLies
namespace Go.Proofs.YtamofhkmhjckaabGreatDoor
open Go.RowKit
section
variable {K : Kx} {at_ : Int} {s : Wk} {vs vf : Value} {fv : List (Fm × Value)} {w : World}
theorem WJ.lit1 (h : WJ K at_ s vs vf fv w) (x : Int) (hx : I64 x) : Bri K vs vf (w.alloc (.cells #[.int .i64 x] 3)) (.slice (some ⟨w.heap.size, 0, none⟩) 1 1) [x] := by
  refine ⟨_, _, rfl, fun j hj => ⟨_, _, rfl, h.fresh _, ?_⟩⟩
  have : j = 0 := by simp at hj; omega
  subst this
  exact ⟨hx, by simp⟩
theorem WJ.lit2 (h : WJ K at_ s vs vf fv w) (x y : Int) (hx : I64 x) (hy : I64 y) : Bri K vs vf (w.alloc (.cells #[.int .i64 x, .int .i64 y] 3)) (.slice (some ⟨w.heap.size, 0, none⟩) 2 2) [x, y] := by
  refine ⟨_, _, rfl, fun j hj => ⟨_, _, rfl, h.fresh _, ?_⟩⟩
  have hj2 : j = 0 ∨ j = 1 := by simp at hj; omega
  rcases hj2 with rfl | rfl
  · exact ⟨hx, by simp⟩
  · exact ⟨hy, by simp⟩
theorem WJ.putF (h : WJ K at_ s vs vf fv w) {f f' : Fm} {r : List Fm} (hf : s.fr = f :: r) {g cap : Nat} {v : Value} {fv' : List (Fm × Value)} (hvf : vf = .slice (some ⟨g, 0, none⟩) (r.length + 1) cap) (hfv : fv = (f, v) :: fv') (hg : K.base ≤ g) {j : Nat} (hj : j < 4) {u : Value}
    (hu : (fcel (f, v)).set j u = fcel (f', v)) (hbr : f'.br = f.br) :
    WJ K at_ ⟨s.st, f' :: r⟩ vs vf ((f', v) :: fv') (w.setCell ⟨g, r.length * 4 + j, none⟩ u) ∧ Fr K vs vf vs vf w (w.setCell ⟨g, r.length * 4 + j, none⟩ u) := by
  have hF : Fr K vs vf vs vf w (w.setCell ⟨g, r.length * 4 + j, none⟩ u) := (Fr.refl K vs vf w).rowF (g := g) (j := r.length * 4 + j) (by rw [hvf]; rfl) hg u
  have hfr := h.fr
  have hfs := h.fs
  rw [hf, hfv] at hfs
  simp only [List.map_cons, List.cons.injEq, true_and] at hfs
  have hl : fv'.length = r.length := by rw [← hfs]; simp
  rw [hf, hfv, hvf] at hfr
  have hst := (World.ownsRow.stored hfr (r.length * 4 + j) u).1
  have e : (flatF ((f, v) :: fv').reverse).set (r.length * 4 + j) u = flatF ((f', v) :: fv').reverse := by
    rw [List.reverse_cons, List.reverse_cons, flat_app, flat_app]
    have hA : (flatF fv'.reverse).length = r.length * 4 := by rw [flat_len, List.length_reverse, hl]
    rw [List.set_append_right _ _ (by omega), hA, Nat.add_sub_cancel_left]
    simp only [flatF, List.flatMap_cons, List.flatMap_nil, List.append_nil]
    rw [hu]
  rw [e] at hst
  have hnB : K.B ≠ g := fun e => h.neF (by rw [hvf, ← e]; rfl)
  refine ⟨⟨h.bel.setCell (by show K.base ≤ g; omega) u, h.row.other _ u hnB, ?_, ?_, by simp [hfs], h.lo.move hF, fun x hx => ?_⟩, hF⟩
  · refine ownsRow_setCell_other h.st (a := ⟨g, r.length * 4 + j, none⟩) ?_ u
    have := Nest.own_ne h.st h.fr (by decide)
    rw [hvf] at this
    rcases this with e | e
    · rw [e]; simp
    · exact e
  · rw [hvf]; exact hst
  · rcases List.mem_cons.1 hx with rfl | hx
    · show Bri K vs vf _ v f'.br
      rw [hbr]
      exact (h.br (f, v) (by rw [hfv]; exact List.mem_cons_self ..)).move hF
    · exact (h.br x (by rw [hfv]; exact List.mem_cons_of_mem _ hx)).move hF
theorem rev_take (st : List Int) (b : Nat) : (st.reverse.map (Value.int .i64)).take b = (st.drop (st.length - b)).reverse.map (Value.int .i64) := by
  rw [← List.map_take, List.take_reverse]
/-- the stack as it is cut -/
theorem WJ.cut (h : WJ K at_ s vs vf fv w) {b : Nat} (hb : b ≤ s.st.length) {a : Option Addr} {c : Nat} (hv : vs = .slice a s.st.length c) : w.ownsRow K.base 3 1 (.slice a b c) (s.st.drop (s.st.length - b)).length ((s.st.drop (s.st.length - b)).reverse.map (Value.int .i64)) := by
  have ho := h.st
  rw [hv] at ho
  have e : (s.st.drop (s.st.length - b)).length = b := by rw [List.length_drop]; omega
  rw [e, ← rev_take]
  cases a with
  | none =>
    rcases ho.2 with ⟨e2, hz⟩ | ⟨g, cap, cur, e2, _⟩
    · have hb0 : b = 0 := by omega
      simp only [Value.slice.injEq, true_and] at e2
      rw [hb0, e2.2]
      exact ⟨by simp, .inl ⟨rfl, rfl⟩⟩
    · simp at e2
  | some ad =>
    rcases ho.2 with ⟨e2, hz⟩ | ⟨g, cap, cur, e2, _⟩
    · simp at e2
    · simp only [Value.slice.injEq, Option.some.injEq] at e2
      rw [e2.1] at ho ⊢
      exact Nest.own_take ho b hb
set_option maxRecDepth 100000 in
set_option maxHeartbeats 4000000 in
theorem die_any (hK : KOk K) (h : WJ K at_ s vs vf fv w) (hw : WF s) (hn : s.fr.length ≤ 1000) (hne : s.fr ≠ []) :
    Calls Tryz.prog 51 #[.pointer (some ⟨K.B, 0, none⟩)] w (Ends K at_ vs vf w (.ok (dieW s))) := by
  cases hf : s.fr with
  | nil => exact absurd hf hne
  | cons f r =>
    have hr : r.length ≤ 1000 := by rw [hf] at hn; simp at hn; omega
    obtain ⟨g, cap, v, fv', hvf, hfv, _, hg, hcap, _, hc, hz⟩ := h.top hf
    obtain ⟨_, _, c2, c3⟩ := fcell hc
    have hm := hw.mono
    rw [hf] at hm
    have hbs := hm.1
    obtain ⟨J1, F1⟩ := h.drew.putF hf (f' := ⟨f.op, f.br, f.base, true⟩) hvf hfv hg (j := 3) (u := .bool true) (by decide) (by simp [fcel]) rfl
    have z3 := hz (r.length * 4 + 3)
    obtain ⟨a, c, hvs⟩ := Nest.own_slice h.st
    have c10 : w.cell? ⟨K.B, 10, none⟩ = some vs := h.row.c 10 vs rfl
    have z10 : w.frozen? ⟨K.B, 10, none⟩ = false := h.row.fr 10
    have CUT := hide (J1.cut (b := f.base) hbs hvs)
    have LA := hide (last_any h hvf hr)
    have HJ := hide J1
    have HF := hide F1
    have HK := hide hK
    have HD := hide (show dieW s = ⟨s.st.drop (s.st.length - f.base), ⟨f.op, f.br, f.base, true⟩ :: r⟩ by simp [dieW, hf])
    have hle : s.st.length ≤ c := by
      have ho := h.st
      rw [hvs] at ho
      rcases ho.2 with ⟨_, hz⟩ | ⟨g, cap, cur, e, _, _, hc, _⟩
      · omega
      · simp only [Value.slice.injEq] at e; omega
    have hcut : a = none → f.base = 0 ∧ c = 0 := by
      intro e
      have ho := h.st
      rw [hvs, e] at ho
      rcases ho.2 with ⟨e2, hz⟩ | ⟨g, cap, cur, e, _, _, hc, _⟩
      · simp only [Value.slice.injEq, true_and] at e2; exact ⟨by omega, e2.2⟩
      · simp at e
    have HV := hide hvs
    rw [hvs] at c10
    have hsm := hw.small
    clear J1 F1 h hc hm hvs hvf hfv hK hne hw hn hf hz
    cases a with
    | none =>
      obtain ⟨hb0, hc0⟩ := hcut rfl
      rw [hb0] at c2
      subst hc0
      go_enter Tryz.func51, Tryz.ntmps51
      go_wp2_with fail
      refine LA.out.mono ?_
      rintro e w1 ⟨rfl, rfl⟩
      go_wp2_with fail
      go_region
      all_goals
        go_wp2_with fail
        go_end0
        rw [HD.out]
        refine ⟨rfl, .slice none 0 0, vf, (⟨f.op, f.br, f.base, true⟩, v) :: fv', ?_, ?_⟩
        · exact (HJ.out.setS HK.out (vs' := .slice none 0 0) (fun k hk => by simp [Value.ownBlock] at hk) (by have C := CUT.out; rw [hb0] at C ⊢; exact C)).drew
        · exact ((((Fr.refl K vs vf w).drew.trans HF.out).box HK.out 10 _).cutS (fun k hk => by simp [Value.ownBlock] at hk)).drew
    | some ad =>
      clear hcut
      go_enter Tryz.func51, Tryz.ntmps51
      go_wp2_with fail
      refine LA.out.mono ?_
      rintro e w1 ⟨rfl, rfl⟩
      go_wp2_with fail
      go_region
      all_goals
        go_wp2_with fail
        go_end0
        rw [HD.out]
        refine ⟨rfl, .slice (some ad) f.base c, vf, (⟨f.op, f.br, f.base, true⟩, v) :: fv', ?_, ?_⟩
        · exact (HJ.out.setS HK.out (vs' := .slice (some ad) f.base c) (fun k hk => by rw [HV.out]; exact hk) CUT.out).drew
        · exact ((((Fr.refl K vs vf w).drew.trans HF.out).box HK.out 10 _).cutS (fun k hk => by rw [HV.out]; exact hk)).drew
end
/-! what reads little -/
theorem relabel_any (t : Int) (b : Bool) (ht : ty t) (w : World) : Calls Tryz.prog 63 #[.int .i64 t, .bool b] w fun e w' => e = .returned (.int .i64 (relab t b)) ∧ w' = w := by
  by_cases h : t = -1
  · subst h
    go_enter Tryz.func63, Tryz.ntmps63
    go_wp2_with fail
    go_ret
    exact ⟨rfl, rfl⟩
  · have HT := hide ht
    have HR := hide (show relab t b = ot (wi t) b by simp [relab, h])
    clear ht
    go_enter Tryz.func63, Tryz.ntmps63
    go_wp2_with fail
    refine (wide_any t _ HT.out.i64).mono ?_
    rintro e w1 ⟨rfl, rfl⟩
    go_wp2_with fail
    refine (of_any (wi t) b _).mono ?_
    rintro e w1 ⟨rfl, rfl⟩
    go_wp2_with fail
    go_ret
    exact ⟨ret_int HR.out.symm, rfl⟩
section
variable {K : Kx} {at_ : Int} {s : Wk} {vs vf : Value} {fv : List (Fm × Value)} {w : World}
/-- a value, or the panic of a rule that is broken; only new memory -/
def Tells {α : Type} (enc : α → Value) (K : Kx) (at_ : Int) (w : World) (r : Except Int α) (e : Ending) (w' : World) : Prop := match r with
  | .ok v => e = .returned (enc v) ∧ Below w.heap.size w w'
  | .error c => Dies K at_ c e w'
set_option maxHeartbeats 1000000 in
theorem join_w (hK : KOk K) (h : WJ K at_ s vs vf fv w) (lo up : Int) (hlo : ty lo) (hup : ty up) :
    Calls Tryz.prog 90 #[.pointer (some ⟨K.B, 0, none⟩), .int .i64 lo, .int .i64 up] w (Tells (Value.int .i64) K at_ w (joinW lo up)) := by
  have HK := hide hK
  have H := hide h
  have HLO := hide hlo
  have HUP := hide hup
  clear hK h hlo hup
  by_cases h1 : up = -1
  · subst h1
    go_enter Tryz.func90, Tryz.ntmps90
    go_wp2_with fail
    go_ret
    exact ⟨rfl, Below.refl _ _⟩
  · by_cases h2 : lo = -1
    · subst h2
      have HJ := hide (show joinW (-1) up = .ok up by simp [joinW, h1])
      go_enter Tryz.func90, Tryz.ntmps90
      go_wp2_with fail
      go_ret
      rw [HJ.out]
      exact ⟨rfl, Below.refl _ _⟩
    · cases hj : (jn lo up).2 with
      | true =>
        have HJ := hide (show joinW lo up = .ok (jn lo up).1 by simp [joinW, h1, h2, hj])
        have JN := hide (join_is lo up (jn lo up).1 true w HLO.out.i64 HUP.out.i64 (Prod.ext rfl hj))
        clear hj
        go_enter Tryz.func90, Tryz.ntmps90
        go_wp2_with fail
        refine JN.out.mono ?_
        rintro e w1 ⟨rfl, rfl⟩
        go_wp2_with fail
        refine (wmust_yes H.out).mono ?_
        rintro e w1 ⟨rfl, rfl⟩
        go_wp2_with fail
        go_ret
        rw [HJ.out]
        exact ⟨rfl, Below.refl _ _⟩
      | false =>
        have HJ := hide (show joinW lo up = .error 3 by simp [joinW, h1, h2, hj])
        have JN := hide (join_is lo up (jn lo up).1 false w HLO.out.i64 HUP.out.i64 (Prod.ext rfl hj))
        clear hj
        go_enter Tryz.func90, Tryz.ntmps90
        go_wp2_with fail
        refine JN.out.mono ?_
        rintro e w1 ⟨rfl, rfl⟩
        go_wp2_with fail
        refine (wmust_no HK.out H.out).mono ?_
        rintro e w1 ⟨⟨p, rfl, hx⟩, _⟩
        go_wp2_with fail
        rw [HJ.out]
        exact ⟨rfl, p, rfl, hx⟩
set_option maxHeartbeats 1000000 in
theorem local_any (hK : KOk K) (h : WJ K at_ s vs vf fv w) (n : Int) (hn : 0 ≤ n) :
    Calls Tryz.prog 91 #[.pointer (some ⟨K.B, 0, none⟩), .int .i64 n] w (Tells (Value.int .i64) K at_ w (locW K.C n)) := by
  obtain ⟨k, rfl⟩ := Int.eq_ofNat_of_zero_le hn
  have c9 : w.cell? ⟨K.B, 9, none⟩ = some K.vl := h.row.c 9 _ rfl
  obtain ⟨a, cap, hv, he⟩ := h.lo.2
  rw [hv] at c9
  have HK := hide hK
  have H := hide h
  have hB := h.bel
  by_cases hk : k < K.C.L.length
  · obtain ⟨b, off, ha, hb, _, hc⟩ := he k hk
    have q := hc
    rw [Nat.mul_one] at q
    subst ha
    have HJ := hide (show locW K.C (k : Int) = .ok K.C.L[k] by simp [locW, hk])
    clear he hc hv hK h hB
    generalize K.C.L[k] = t at *
    go_enter Tryz.func91, Tryz.ntmps91
    go_wp2_with fail
    refine (wmust_yes H.out).mono ?_
    rintro e w1 ⟨rfl, rfl⟩
    go_wp2_with fail
    go_ret
    rw [HJ.out]
    exact ⟨rfl, Below.refl _ _⟩
  · have HJ := hide (show locW K.C (k : Int) = .error 3 by simp [locW, Nat.le_of_not_lt hk])
    clear he hv hK h hB
    go_enter Tryz.func91, Tryz.ntmps91
    go_wp2_with fail
    refine (wmust_no HK.out H.out).mono ?_
    rintro e w1 ⟨⟨p, rfl, hx⟩, _⟩
    go_wp2_with fail
    rw [HJ.out]
    exact ⟨rfl, p, rfl, hx⟩
end
end Go.Proofs.YtamofhkmhjckaabGreatDoor
namespace Go.Proofs.YtamofhkmhjckaabGreatDoor
open Go.RowKit
section
variable {K : Kx} {at_ : Int} {s : Wk} {vs vf : Value} {fv : List (Fm × Value)} {w : World}
set_option maxHeartbeats 1000000 in
theorem global_any (hK : KOk K) (h : WJ K at_ s vs vf fv w) (n : Int) (hn : 0 ≤ n) :
    Calls Tryz.prog 92 #[.pointer (some ⟨K.B, 0, none⟩), .int .i64 n] w (Tells (Value.int .i64) K at_ w (gloW K.C n)) := by
  obtain ⟨k, rfl⟩ := Int.eq_ofNat_of_zero_le hn
  have c5 : w.cell? ⟨K.B, 5, none⟩ = some K.V.v5 := h.row.c 5 _ rfl
  obtain ⟨a, cap, hv, he⟩ := hK.mo.globals
  rw [hv] at c5
  have HK := hide hK
  have H := hide h
  have hB := h.bel
  by_cases hk : k < K.C.M.globals.length
  · obtain ⟨b, off, ha, hb, hi, hc, _⟩ := he k hk
    have q := (hB.cell (p := ⟨b, off + k * 2, none⟩) hb).trans hc
    subst ha
    have HJ := hide (show gloW K.C (k : Int) = .ok K.C.M.globals[k].t by simp [gloW, hk])
    clear he hc hv hK h hB hi
    generalize K.C.M.globals[k].t = t at *
    go_enter Tryz.func92, Tryz.ntmps92
    go_wp2_with fail
    refine (wmust_yes H.out).mono ?_
    rintro e w1 ⟨rfl, rfl⟩
    go_wp2_with fail
    go_ret
    rw [HJ.out]
    exact ⟨rfl, Below.refl _ _⟩
  · have HJ := hide (show gloW K.C (k : Int) = .error 3 by simp [gloW, Nat.le_of_not_lt hk])
    clear he hv hK h hB
    go_enter Tryz.func92, Tryz.ntmps92
    go_wp2_with fail
    refine (wmust_no HK.out H.out).mono ?_
    rintro e w1 ⟨⟨p, rfl, hx⟩, _⟩
    go_wp2_with fail
    rw [HJ.out]
    exact ⟨rfl, p, rfl, hx⟩
def fagg (f : Fm) (v : Value) : Value := .agg #[.int .i64 f.op, v, .int .i64 f.base, .bool f.dead]
set_option maxHeartbeats 1000000 in
theorem takes_any (f : Fm) (a : Option Addr) (n c : Nat) (w : World) :
    Calls Tryz.prog 89 #[fagg f (.slice a n c)] w fun e w' => e = .returned (if f.op = 3 then .slice none 0 0 else .slice a n c) ∧ Below w.heap.size w w' := by
  unfold fagg
  have hb := bel_one w (.cells #[.int .i64 f.op, .slice a n c, .int .i64 f.base, .bool f.dead] 127)
  by_cases h3 : f.op = 3
  · rw [if_pos h3]
    rw [h3] at hb ⊢
    go_enter Tryz.func89, Tryz.ntmps89
    go_wp2
    go_ret
    exact ⟨rfl, hb⟩
  · rw [if_neg h3]
    go_enter Tryz.func89, Tryz.ntmps89
    go_wp2
    go_ret
    exact ⟨rfl, hb⟩
/-- the cells of a frame -/
theorem WJ.at (h : WJ K at_ s vs vf fv w) {k : Nat} {x : Fm × Value} (hx : fv[k]? = some x) :
    ∃ g cap, vf = .slice (some ⟨g, 0, none⟩) s.fr.length cap ∧ s.fr.length ≤ cap ∧ s.fr[k]? = some x.1 ∧ Bri K vs vf w x.2 x.1.br ∧ (∀ j, j < 4 → w.cell? ⟨g, (s.fr.length - 1 - k) * 4 + j, none⟩ = (fcel (x.1, x.2))[j]?) := by
  have hl : fv.length = s.fr.length := by rw [← h.fs]; simp
  obtain ⟨hlt, _⟩ := List.getElem?_eq_some_iff.1 hx
  have hfr := h.fr
  obtain ⟨a, c, rfl⟩ := Nest.own_slice hfr
  obtain ⟨g, rfl, _, hg, hc⟩ := Nest.own_some hfr (by omega)
  refine ⟨g, c, rfl, hc, by rw [← h.fs, List.getElem?_map, hx]; rfl, h.br _ (List.mem_of_getElem? hx), fun j hj => ?_⟩
  rw [hfr.cellAt _ (by omega)]
  refine flat_at _ _ _ _ ?_ hj
  rw [List.getElem?_reverse (by omega)]
  rw [show fv.length - 1 - (s.fr.length - 1 - k) = k by omega]
  exact hx
def TgtEnds (K : Kx) (at_ : Int) (vs vf : Value) (w : World) (r : Except Int Fm) (e : Ending) (w' : World) : Prop := match r with
  | .ok f => ∃ a c, e = .returned (fagg f (.slice a f.br.length c)) ∧ Bri K vs vf w (.slice a f.br.length c) f.br ∧ Below w.heap.size w w'
  | .error c => Dies K at_ c e w'
set_option maxRecDepth 100000 in
set_option maxHeartbeats 2000000 in
theorem target_any (hK : KOk K) (h : WJ K at_ s vs vf fv w) (hn : s.fr.length ≤ 1000) (n : Int) (hn0 : 0 ≤ n) :
    Calls Tryz.prog 88 #[.pointer (some ⟨K.B, 0, none⟩), .int .i64 n] w (TgtEnds K at_ vs vf w (tgtW n s)) := by
  obtain ⟨k, rfl⟩ := Int.eq_ofNat_of_zero_le hn0
  have c11 : w.cell? ⟨K.B, 11, none⟩ = some vf := h.row.c 11 _ rfl
  have hB := h.lt
  have HK := hide hK
  have H := hide h
  have hl : fv.length = s.fr.length := by rw [← h.fs]; simp
  by_cases hk : k < s.fr.length
  · obtain ⟨g, cap, hvf, hcap, hf, hbr, hc⟩ := h.at (x := fv[k]) (List.getElem?_eq_getElem (by omega))
    generalize fv[k] = x at hf hbr hc
    obtain ⟨f, v⟩ := x
    obtain ⟨c0, c1, c2, c3⟩ := fcell hc
    rw [Nat.add_zero] at c0
    have HT := hide (show tgtW (k : Int) s = .ok f by simp only [tgtW, Int.toNat_natCast]; rw [hf])
    obtain ⟨a, c, hv⟩ : ∃ a c, v = .slice a f.br.length c := by obtain ⟨a, c, e, _⟩ := hbr; exact ⟨a, c, e⟩
    subst hv
    have HBR := hide hbr
    rw [hvf] at c11
    have hg : g < w.heap.size := by
      have := (h.fr.lt g (by rw [hvf]; rfl)).2; exact this
    clear hc h hf hbr hvf hK
    have hjm := WJ.alloc H.out HK.out (.cells #[.int .i64 0, .slice none 0 0, .int .i64 0, .bool false] 127)
    have HA := hide hjm
    clear hjm
    clear hl
    go_enter Tryz.func88, Tryz.ntmps88
    go_wp2_with fail
    refine (wmust_yes HA.out).mono ?_
    rintro e w1 ⟨rfl, rfl⟩
    go_wp2_with fail
    go_region
    all_goals
      go_wp2_with fail
      refine ⟨rfl, fagg f (.slice a f.br.length c), by simp [results, Tryz.f88, go_sem, fagg], ?_⟩
      rw [HT.out]
      exact ⟨a, c, rfl, HBR.out, (bel_one w _).drew⟩
  · have HT := hide (show tgtW (k : Int) s = .error 3 by simp [tgtW, Nat.le_of_not_lt hk])
    obtain ⟨a, c, hvf⟩ := Nest.own_slice h.fr
    have HA := hide (H.out.alloc HK.out (.cells #[.int .i64 0, .slice none 0 0, .int .i64 0, .bool false] 127))
    rw [hvf] at c11
    clear h hK hvf
    go_enter Tryz.func88, Tryz.ntmps88
    go_wp2_with fail
    refine (wmust_no HK.out HA.out).mono ?_
    rintro e w1 ⟨⟨p, rfl, hx⟩, _⟩
    go_wp2_with fail
    rw [HT.out]
    exact ⟨rfl, p, rfl, hx⟩
end
end Go.Proofs.YtamofhkmhjckaabGreatDoor

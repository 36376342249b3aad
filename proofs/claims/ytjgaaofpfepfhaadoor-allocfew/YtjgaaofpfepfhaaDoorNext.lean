/-
  The program's next: where an instruction may lead to.
-/
import Derived.Test.YtjgaaofpfepfhaaDoorLab
namespace Go.Proofs.YtjgaaofpfepfhaaDoor
open Go.RowKit Go.Maps
set_option linter.unusedSimpArgs false
set_option linter.unusedVariables false
theorem Bx.c7 {q : Nat} {x : Ir} {w W U : World} (h : Bx q x w W) (k : Below W.heap.size W U) : C7 q 0 x U := by
  have e := (k.block q h.lt).trans h.r
  unfold xc at e
  constructor <;> simp [World.cell?, e]
/-- The places, as they come. -/
def nxr (l : List Ir) (x : Ir) (i : Nat) : List Int :=
  if x.op = 15 ∨ x.op = 16 then []
  else (if jmp x = true then (match fst l x.n with | some p => [(p : Int)] | none => []) else []) ++ (if x.op ≠ 10 ∧ i + 1 < l.length then [(i : Int) + 1] else [])
def nxt (l : List Ir) (i : Nat) : List Int := sc (nxr l (l.getD i ir0) i)
theorem nxr_len (l : List Ir) (x : Ir) (i : Nat) : (nxr l x i).length ≤ 2 := by
  unfold nxr
  split
  · simp
  · rw [List.length_append]
    have h1 : (if jmp x = true then (match fst l x.n with | some p => [(p : Int)] | none => []) else []).length ≤ 1 := by
      split
      · split <;> simp
      · simp
    have h2 : (if x.op ≠ 10 ∧ i + 1 < l.length then [(i : Int) + 1] else []).length ≤ 1 := by split <;> simp
    omega
def NxI (l : List Ir) (x : Ir) (i : Nat) (w : World) (v : Value) (w' : World) : Prop := ∃ B, w.heap.size ≤ B ∧ B ≤ w'.heap.size ∧ NR B v (nxr l x i) w' ∧ Below w.heap.size w w'
theorem NxI.len {l : List Ir} {x : Ir} {i : Nat} {w w' : World} {v : Value} (_ : NxI l x i w v w') : (nxr l x i).length ≤ 1000 := Nat.le_trans (nxr_len l x i) (by omega)
theorem AI.nx {q : Nat} {x : Ir} {w W U : World} {v : Value} {ns : List Int} {l : List Ir} {i : Nat} (h : AI W v ns U) (hx : Bx q x w W) (hr : nxr l x i = ns) : NxI l x i w v U := ⟨W.heap.size, hx.b.size, h.b.size, by rw [hr]; exact h.n, hx.b.trans (h.b.mono hx.b.size)⟩
set_option maxRecDepth 100000 in
set_option maxHeartbeats 6400000 in
theorem next_x (x : Ir) (a : Option Addr) (cap B : Nat) (l : List Ir) (i : Nat) (w : World) (hl : l.length ≤ 1000) (hi : i < l.length) (hx : l[i] = x) (hr : IR w.heap.size w a l) (hm : LMp B (mpd l 0) l.length w) (hB : B < w.heap.size) :
    Calls Tryd.prog 64 #[.slice a l.length cap, .map (some B), .int .i64 (i : Int)] w fun e w' => ∃ v, e = .returned v ∧ Nv w.heap.size v (sc (nxr l x i)) w' ∧ Below w.heap.size w w' := by
  obtain ⟨i0, hi3, hz0, hz1, hz2⟩ := info_parts info3
  obtain ⟨b, o, rfl, hb, hc, ho⟩ := hr i hi
  rw [hx] at hc ho
  have HLM := hide (hm.bel (bel_one w (.cells (xc x) 43)))
  have B0 := Bx.made x w
  obtain ⟨op, dst, aa, bb, cc, nn, mm⟩ := x
  obtain ⟨d0, d1, d2, d3, d4, d5, d6⟩ := hc
  simp only at d0 d1 d2 d3 d4 d5 d6
  have HK := hide (keyOf_int_mk (P := Tryd.prog) (k := 3) Tryd.underlying3 (wf64 ho.2.2.2.2.2.1))
  simp only at HK
  have i1 : (0 : Int) ≤ (i : Int) := by omega
  have i2 : (i : Int) < 1000 := by omega
  have i3 : (i : Int) < (l.length : Int) := by omega
  have i4 : (l.length : Int) ≤ 1000 := by omega
  unfold xc at B0 HLM
  clear hm hr ho hx
  go_enter Tryd.func64, Tryd.ntmps64
  go_upto_region 2 with fail
  refine gw (motive := fun x => Code.wp _ _ _ _ x) (fun W => Hid (Bx w.heap.size ⟨op, dst, aa, bb, cc, nn, mm⟩ w W) ∧ Hid (LMp B (mpd l 0) l.length W)) ⟨B0, HLM⟩ ?_
  rintro W ⟨HW, HM⟩
  clear B0 HLM d0 d1 d2 d3 d4 d5 d6
  obtain ⟨c0, c1, c2, c3, c4, c5, c6⟩ := HW.out.c7 (Below.refl _ W)
  simp only at c0 c1 c2 c3 c4 c5 c6
  have A0 := hide (AI.start W)
  by_cases h15 : op = 15
  · subst h15
    have NX : Hid (sc (nxr l ⟨15, dst, aa, bb, cc, nn, mm⟩ i) = []) := by show _ = _; simp [nxr, sc, Lib.compact, Lib.compactUpTo]
    go_wp2_with fail
    go_ret
    exact ⟨_, rfl, by rw [NX.out]; exact Or.inl ⟨rfl, _, _, rfl⟩, HW.out.b⟩
  by_cases h16 : op = 16
  · subst h16
    have NX : Hid (sc (nxr l ⟨16, dst, aa, bb, cc, nn, mm⟩ i) = []) := by show _ = _; simp [nxr, sc, Lib.compact, Lib.compactUpTo]
    go_wp2_with fail
    go_ret
    exact ⟨_, rfl, by rw [NX.out]; exact Or.inl ⟨rfl, _, _, rfl⟩, HW.out.b⟩
  cases hf : fst l nn with
  | some p =>
    have HF := hide hf
    have HS : Hid (Maps.has (mpd l 0) (.int .i64 nn) = true) := by show _ = _; rw [mpd_has, hf]; rfl
    have HAT := hide (fun z => mpd_at nn z l 0 p hf)
    simp only [Nat.zero_add] at HAT
    clear hf
    by_cases h10 : op = 10
    · subst h10
      have JM : Hid (jmp ⟨10, dst, aa, bb, cc, nn, mm⟩ = true) := by show _ = _; simp [jmp]
      have NX : Hid (nxr l ⟨10, dst, aa, bb, cc, nn, mm⟩ i = [(p : Int)]) := by show _ = _; simp [nxr, JM.out, HF.out]
      go_wp2_with (first | (at_lookup; refine wpList_lookup_own_ok_int _ rfl _ _ 58 rfl 3 3 .i64 law3 Tryd.underlying58 Tryd.underlying3 (zero3 _) B l.length (mpd l 0) rfl HM.out _ _ rfl HK.out ?_; intro qq hat hwc; rw [HS.out]) | fail)
      obtain rfl : qq = (p : Int) := by rw [HAT.out] at hat; injection hat with hat; injection hat with _ hat; exact hat.symm
      clear hat hwc
      have JA := hide (jump_any ⟨10, dst, aa, bb, cc, nn, mm⟩ W)
      unfold xv xc at JA
      simp only [JM.out] at JA
      go_wp2_with fail
      refine JA.out.mono ?_
      rintro e u0 ⟨rfl, hj⟩
      have A0 := hide (show AI W (.slice none 0 0) [] u0 from ⟨NR.nil _ _, hj⟩)
      obtain ⟨c0, c1, c2, c3, c4, c5, c6⟩ := HW.out.c7 A0.out.b
      simp only at c0 c1 c2 c3 c4 c5 c6
      clear JA hj
      go_wp2_with (first | (at_builtin; (refine wpList_append_own _ rfl _ _ 25 rfl W.heap.size 3 i0 _ 1 8 Tryd.underlying25 hi3 hz0 hz1 hz2 rfl (by decide) _ 0 _ rfl (A0.out.own rfl (p : Int)) ⟨u0.heap.size, 0, none⟩ 1 1 [.int .i64 (p : Int)] rfl rfl (one_at u0 (p : Int)) (one_cell (p : Int)) (by unfold maxLen; omega) (by omega) (A0.out.sz (p : Int)) ?_)) | fail)
      intro v1 u1 hown hgrow _
      have A1 := hide (A0.out.next rfl hown hgrow)
      obtain ⟨c0, c1, c2, c3, c4, c5, c6⟩ := HW.out.c7 A1.out.b
      simp only at c0 c1 c2 c3 c4 c5 c6
      obtain ⟨p1, k1, hf⟩ := A1.out.n.form
      subst hf
      clear hown hgrow
      have UI := hide (A1.out.nx (l := l) (i := i) HW.out NX.out)
      obtain ⟨Bs, h1, h2, h3, h4⟩ := UI.out
      have hl := UI.out.len
      have SO := hide (sort_any h3 h2 hl)
      have HB4 := hide h4
      have H12 := hide (And.intro h1 h2)
      have HL := hide hl
      clear UI h1 h2 h3 h4 hl HW 
      go_wp2_with fail
      refine SO.out.mono ?_
      rintro e w1 ⟨⟨u, rfl⟩, hn, hb⟩
      have CO := hide (compact_any hn (Nat.le_trans H12.out.2 hb.size) (by rw [ss_len]; exact HL.out))
      have HB5 := hide (HB4.out.trans (hb.mono H12.out.1))
      clear SO hn hb
      go_wp2_with fail
      refine CO.out.mono ?_
      rintro e w2 ⟨v2, rfl, hv, hb⟩
      have HV := hide hv
      have HB6 := hide (HB5.out.trans (hb.mono H12.out.1))
      clear CO hv hb
      go_wp2_with fail
      go_ret
      exact ⟨_, rfl, HV.out.mono H12.out.1, HB6.out⟩
    by_cases h11 : op = 11
    · subst h11
      have JM : Hid (jmp ⟨11, dst, aa, bb, cc, nn, mm⟩ = true) := by show _ = _; simp [jmp]
      by_cases hn : i + 1 < l.length
      · have hn2 : (i : Int) + 1 < (l.length : Int) := by omega
        have NX : Hid (nxr l ⟨11, dst, aa, bb, cc, nn, mm⟩ i = [(p : Int), (i : Int) + 1]) := by show _ = _; simp [nxr, JM.out, HF.out, hn]
        go_wp2_with (first | (at_lookup; refine wpList_lookup_own_ok_int _ rfl _ _ 58 rfl 3 3 .i64 law3 Tryd.underlying58 Tryd.underlying3 (zero3 _) B l.length (mpd l 0) rfl HM.out _ _ rfl HK.out ?_; intro qq hat hwc; rw [HS.out]) | fail)
        obtain rfl : qq = (p : Int) := by rw [HAT.out] at hat; injection hat with hat; injection hat with _ hat; exact hat.symm
        clear hat hwc
        have JA := hide (jump_any ⟨11, dst, aa, bb, cc, nn, mm⟩ W)
        unfold xv xc at JA
        simp only [JM.out] at JA
        go_wp2_with fail
        refine JA.out.mono ?_
        rintro e u0 ⟨rfl, hj⟩
        have A0 := hide (show AI W (.slice none 0 0) [] u0 from ⟨NR.nil _ _, hj⟩)
        obtain ⟨c0, c1, c2, c3, c4, c5, c6⟩ := HW.out.c7 A0.out.b
        simp only at c0 c1 c2 c3 c4 c5 c6
        clear JA hj
        go_wp2_with (first | (at_builtin; (refine wpList_append_own _ rfl _ _ 25 rfl W.heap.size 3 i0 _ 1 8 Tryd.underlying25 hi3 hz0 hz1 hz2 rfl (by decide) _ 0 _ rfl (A0.out.own rfl (p : Int)) ⟨u0.heap.size, 0, none⟩ 1 1 [.int .i64 (p : Int)] rfl rfl (one_at u0 (p : Int)) (one_cell (p : Int)) (by unfold maxLen; omega) (by omega) (A0.out.sz (p : Int)) ?_)) | fail)
        intro v1 u1 hown hgrow _
        have A1 := hide (A0.out.next rfl hown hgrow)
        obtain ⟨c0, c1, c2, c3, c4, c5, c6⟩ := HW.out.c7 A1.out.b
        simp only at c0 c1 c2 c3 c4 c5 c6
        obtain ⟨p1, k1, hf⟩ := A1.out.n.form
        subst hf
        clear hown hgrow
        go_wp2_with (first | (at_builtin; (refine wpList_append_own _ rfl _ _ 25 rfl W.heap.size 3 i0 _ 1 8 Tryd.underlying25 hi3 hz0 hz1 hz2 rfl (by decide) _ 1 _ rfl (A1.out.own rfl ((i : Int) + 1)) ⟨u1.heap.size, 0, none⟩ 1 1 [.int .i64 ((i : Int) + 1)] rfl rfl (one_at u1 ((i : Int) + 1)) (one_cell ((i : Int) + 1)) (by unfold maxLen; omega) (by omega) (A1.out.sz ((i : Int) + 1)) ?_)) | fail)
        intro v2 u2 hown hgrow _
        have A2 := hide (A1.out.next rfl hown hgrow)
        obtain ⟨c0, c1, c2, c3, c4, c5, c6⟩ := HW.out.c7 A2.out.b
        simp only at c0 c1 c2 c3 c4 c5 c6
        obtain ⟨p2, k2, hf⟩ := A2.out.n.form
        subst hf
        clear hown hgrow
        have UI := hide (A2.out.nx (l := l) (i := i) HW.out NX.out)
        obtain ⟨Bs, h1, h2, h3, h4⟩ := UI.out
        have hl := UI.out.len
        have SO := hide (sort_any h3 h2 hl)
        have HB4 := hide h4
        have H12 := hide (And.intro h1 h2)
        have HL := hide hl
        clear UI h1 h2 h3 h4 hl HW 
        go_wp2_with fail
        refine SO.out.mono ?_
        rintro e w1 ⟨⟨u, rfl⟩, hn, hb⟩
        have CO := hide (compact_any hn (Nat.le_trans H12.out.2 hb.size) (by rw [ss_len]; exact HL.out))
        have HB5 := hide (HB4.out.trans (hb.mono H12.out.1))
        clear SO hn hb
        go_wp2_with fail
        refine CO.out.mono ?_
        rintro e w2 ⟨v2, rfl, hv, hb⟩
        have HV := hide hv
        have HB6 := hide (HB5.out.trans (hb.mono H12.out.1))
        clear CO hv hb
        go_wp2_with fail
        go_ret
        exact ⟨_, rfl, HV.out.mono H12.out.1, HB6.out⟩
      · have hn2 : ¬ (i : Int) + 1 < (l.length : Int) := by omega
        have NX : Hid (nxr l ⟨11, dst, aa, bb, cc, nn, mm⟩ i = [(p : Int)]) := by show _ = _; simp [nxr, JM.out, HF.out, hn]
        go_wp2_with (first | (at_lookup; refine wpList_lookup_own_ok_int _ rfl _ _ 58 rfl 3 3 .i64 law3 Tryd.underlying58 Tryd.underlying3 (zero3 _) B l.length (mpd l 0) rfl HM.out _ _ rfl HK.out ?_; intro qq hat hwc; rw [HS.out]) | fail)
        obtain rfl : qq = (p : Int) := by rw [HAT.out] at hat; injection hat with hat; injection hat with _ hat; exact hat.symm
        clear hat hwc
        have JA := hide (jump_any ⟨11, dst, aa, bb, cc, nn, mm⟩ W)
        unfold xv xc at JA
        simp only [JM.out] at JA
        go_wp2_with fail
        refine JA.out.mono ?_
        rintro e u0 ⟨rfl, hj⟩
        have A0 := hide (show AI W (.slice none 0 0) [] u0 from ⟨NR.nil _ _, hj⟩)
        obtain ⟨c0, c1, c2, c3, c4, c5, c6⟩ := HW.out.c7 A0.out.b
        simp only at c0 c1 c2 c3 c4 c5 c6
        clear JA hj
        go_wp2_with (first | (at_builtin; (refine wpList_append_own _ rfl _ _ 25 rfl W.heap.size 3 i0 _ 1 8 Tryd.underlying25 hi3 hz0 hz1 hz2 rfl (by decide) _ 0 _ rfl (A0.out.own rfl (p : Int)) ⟨u0.heap.size, 0, none⟩ 1 1 [.int .i64 (p : Int)] rfl rfl (one_at u0 (p : Int)) (one_cell (p : Int)) (by unfold maxLen; omega) (by omega) (A0.out.sz (p : Int)) ?_)) | fail)
        intro v1 u1 hown hgrow _
        have A1 := hide (A0.out.next rfl hown hgrow)
        obtain ⟨c0, c1, c2, c3, c4, c5, c6⟩ := HW.out.c7 A1.out.b
        simp only at c0 c1 c2 c3 c4 c5 c6
        obtain ⟨p1, k1, hf⟩ := A1.out.n.form
        subst hf
        clear hown hgrow
        have UI := hide (A1.out.nx (l := l) (i := i) HW.out NX.out)
        obtain ⟨Bs, h1, h2, h3, h4⟩ := UI.out
        have hl := UI.out.len
        have SO := hide (sort_any h3 h2 hl)
        have HB4 := hide h4
        have H12 := hide (And.intro h1 h2)
        have HL := hide hl
        clear UI h1 h2 h3 h4 hl HW 
        go_wp2_with fail
        refine SO.out.mono ?_
        rintro e w1 ⟨⟨u, rfl⟩, hn, hb⟩
        have CO := hide (compact_any hn (Nat.le_trans H12.out.2 hb.size) (by rw [ss_len]; exact HL.out))
        have HB5 := hide (HB4.out.trans (hb.mono H12.out.1))
        clear SO hn hb
        go_wp2_with fail
        refine CO.out.mono ?_
        rintro e w2 ⟨v2, rfl, hv, hb⟩
        have HV := hide hv
        have HB6 := hide (HB5.out.trans (hb.mono H12.out.1))
        clear CO hv hb
        go_wp2_with fail
        go_ret
        exact ⟨_, rfl, HV.out.mono H12.out.1, HB6.out⟩
    by_cases h12 : op = 12
    · subst h12
      have JM : Hid (jmp ⟨12, dst, aa, bb, cc, nn, mm⟩ = true) := by show _ = _; simp [jmp]
      by_cases hn : i + 1 < l.length
      · have hn2 : (i : Int) + 1 < (l.length : Int) := by omega
        have NX : Hid (nxr l ⟨12, dst, aa, bb, cc, nn, mm⟩ i = [(p : Int), (i : Int) + 1]) := by show _ = _; simp [nxr, JM.out, HF.out, hn]
        go_wp2_with (first | (at_lookup; refine wpList_lookup_own_ok_int _ rfl _ _ 58 rfl 3 3 .i64 law3 Tryd.underlying58 Tryd.underlying3 (zero3 _) B l.length (mpd l 0) rfl HM.out _ _ rfl HK.out ?_; intro qq hat hwc; rw [HS.out]) | fail)
        obtain rfl : qq = (p : Int) := by rw [HAT.out] at hat; injection hat with hat; injection hat with _ hat; exact hat.symm
        clear hat hwc
        have JA := hide (jump_any ⟨12, dst, aa, bb, cc, nn, mm⟩ W)
        unfold xv xc at JA
        simp only [JM.out] at JA
        go_wp2_with fail
        refine JA.out.mono ?_
        rintro e u0 ⟨rfl, hj⟩
        have A0 := hide (show AI W (.slice none 0 0) [] u0 from ⟨NR.nil _ _, hj⟩)
        obtain ⟨c0, c1, c2, c3, c4, c5, c6⟩ := HW.out.c7 A0.out.b
        simp only at c0 c1 c2 c3 c4 c5 c6
        clear JA hj
        go_wp2_with (first | (at_builtin; (refine wpList_append_own _ rfl _ _ 25 rfl W.heap.size 3 i0 _ 1 8 Tryd.underlying25 hi3 hz0 hz1 hz2 rfl (by decide) _ 0 _ rfl (A0.out.own rfl (p : Int)) ⟨u0.heap.size, 0, none⟩ 1 1 [.int .i64 (p : Int)] rfl rfl (one_at u0 (p : Int)) (one_cell (p : Int)) (by unfold maxLen; omega) (by omega) (A0.out.sz (p : Int)) ?_)) | fail)
        intro v1 u1 hown hgrow _
        have A1 := hide (A0.out.next rfl hown hgrow)
        obtain ⟨c0, c1, c2, c3, c4, c5, c6⟩ := HW.out.c7 A1.out.b
        simp only at c0 c1 c2 c3 c4 c5 c6
        obtain ⟨p1, k1, hf⟩ := A1.out.n.form
        subst hf
        clear hown hgrow
        go_wp2_with (first | (at_builtin; (refine wpList_append_own _ rfl _ _ 25 rfl W.heap.size 3 i0 _ 1 8 Tryd.underlying25 hi3 hz0 hz1 hz2 rfl (by decide) _ 1 _ rfl (A1.out.own rfl ((i : Int) + 1)) ⟨u1.heap.size, 0, none⟩ 1 1 [.int .i64 ((i : Int) + 1)] rfl rfl (one_at u1 ((i : Int) + 1)) (one_cell ((i : Int) + 1)) (by unfold maxLen; omega) (by omega) (A1.out.sz ((i : Int) + 1)) ?_)) | fail)
        intro v2 u2 hown hgrow _
        have A2 := hide (A1.out.next rfl hown hgrow)
        obtain ⟨c0, c1, c2, c3, c4, c5, c6⟩ := HW.out.c7 A2.out.b
        simp only at c0 c1 c2 c3 c4 c5 c6
        obtain ⟨p2, k2, hf⟩ := A2.out.n.form
        subst hf
        clear hown hgrow
        have UI := hide (A2.out.nx (l := l) (i := i) HW.out NX.out)
        obtain ⟨Bs, h1, h2, h3, h4⟩ := UI.out
        have hl := UI.out.len
        have SO := hide (sort_any h3 h2 hl)
        have HB4 := hide h4
        have H12 := hide (And.intro h1 h2)
        have HL := hide hl
        clear UI h1 h2 h3 h4 hl HW 
        go_wp2_with fail
        refine SO.out.mono ?_
        rintro e w1 ⟨⟨u, rfl⟩, hn, hb⟩
        have CO := hide (compact_any hn (Nat.le_trans H12.out.2 hb.size) (by rw [ss_len]; exact HL.out))
        have HB5 := hide (HB4.out.trans (hb.mono H12.out.1))
        clear SO hn hb
        go_wp2_with fail
        refine CO.out.mono ?_
        rintro e w2 ⟨v2, rfl, hv, hb⟩
        have HV := hide hv
        have HB6 := hide (HB5.out.trans (hb.mono H12.out.1))
        clear CO hv hb
        go_wp2_with fail
        go_ret
        exact ⟨_, rfl, HV.out.mono H12.out.1, HB6.out⟩
      · have hn2 : ¬ (i : Int) + 1 < (l.length : Int) := by omega
        have NX : Hid (nxr l ⟨12, dst, aa, bb, cc, nn, mm⟩ i = [(p : Int)]) := by show _ = _; simp [nxr, JM.out, HF.out, hn]
        go_wp2_with (first | (at_lookup; refine wpList_lookup_own_ok_int _ rfl _ _ 58 rfl 3 3 .i64 law3 Tryd.underlying58 Tryd.underlying3 (zero3 _) B l.length (mpd l 0) rfl HM.out _ _ rfl HK.out ?_; intro qq hat hwc; rw [HS.out]) | fail)
        obtain rfl : qq = (p : Int) := by rw [HAT.out] at hat; injection hat with hat; injection hat with _ hat; exact hat.symm
        clear hat hwc
        have JA := hide (jump_any ⟨12, dst, aa, bb, cc, nn, mm⟩ W)
        unfold xv xc at JA
        simp only [JM.out] at JA
        go_wp2_with fail
        refine JA.out.mono ?_
        rintro e u0 ⟨rfl, hj⟩
        have A0 := hide (show AI W (.slice none 0 0) [] u0 from ⟨NR.nil _ _, hj⟩)
        obtain ⟨c0, c1, c2, c3, c4, c5, c6⟩ := HW.out.c7 A0.out.b
        simp only at c0 c1 c2 c3 c4 c5 c6
        clear JA hj
        go_wp2_with (first | (at_builtin; (refine wpList_append_own _ rfl _ _ 25 rfl W.heap.size 3 i0 _ 1 8 Tryd.underlying25 hi3 hz0 hz1 hz2 rfl (by decide) _ 0 _ rfl (A0.out.own rfl (p : Int)) ⟨u0.heap.size, 0, none⟩ 1 1 [.int .i64 (p : Int)] rfl rfl (one_at u0 (p : Int)) (one_cell (p : Int)) (by unfold maxLen; omega) (by omega) (A0.out.sz (p : Int)) ?_)) | fail)
        intro v1 u1 hown hgrow _
        have A1 := hide (A0.out.next rfl hown hgrow)
        obtain ⟨c0, c1, c2, c3, c4, c5, c6⟩ := HW.out.c7 A1.out.b
        simp only at c0 c1 c2 c3 c4 c5 c6
        obtain ⟨p1, k1, hf⟩ := A1.out.n.form
        subst hf
        clear hown hgrow
        have UI := hide (A1.out.nx (l := l) (i := i) HW.out NX.out)
        obtain ⟨Bs, h1, h2, h3, h4⟩ := UI.out
        have hl := UI.out.len
        have SO := hide (sort_any h3 h2 hl)
        have HB4 := hide h4
        have H12 := hide (And.intro h1 h2)
        have HL := hide hl
        clear UI h1 h2 h3 h4 hl HW 
        go_wp2_with fail
        refine SO.out.mono ?_
        rintro e w1 ⟨⟨u, rfl⟩, hn, hb⟩
        have CO := hide (compact_any hn (Nat.le_trans H12.out.2 hb.size) (by rw [ss_len]; exact HL.out))
        have HB5 := hide (HB4.out.trans (hb.mono H12.out.1))
        clear SO hn hb
        go_wp2_with fail
        refine CO.out.mono ?_
        rintro e w2 ⟨v2, rfl, hv, hb⟩
        have HV := hide hv
        have HB6 := hide (HB5.out.trans (hb.mono H12.out.1))
        clear CO hv hb
        go_wp2_with fail
        go_ret
        exact ⟨_, rfl, HV.out.mono H12.out.1, HB6.out⟩
    have JM : Hid (jmp ⟨op, dst, aa, bb, cc, nn, mm⟩ = false) := by show _ = _; simp [jmp, *]
    by_cases hn : i + 1 < l.length
    · have hn2 : (i : Int) + 1 < (l.length : Int) := by omega
      have NX : Hid (nxr l ⟨op, dst, aa, bb, cc, nn, mm⟩ i = [(i : Int) + 1]) := by show _ = _; simp [nxr, JM.out, HF.out, h15, h16, h10, hn]
      have q15 : (op == 15) = false := by simpa using h15
      have q16 : (op == 16) = false := by simpa using h16
      have q10 : (op == 10) = false := by simpa using h10
      go_wp2_with (first | (at_lookup; refine wpList_lookup_own_ok_int _ rfl _ _ 58 rfl 3 3 .i64 law3 Tryd.underlying58 Tryd.underlying3 (zero3 _) B l.length (mpd l 0) rfl HM.out _ _ rfl HK.out ?_; intro qq hat hwc; rw [HS.out]) | fail)
      obtain rfl : qq = (p : Int) := by rw [HAT.out] at hat; injection hat with hat; injection hat with _ hat; exact hat.symm
      clear hat hwc
      have JA := hide (jump_any ⟨op, dst, aa, bb, cc, nn, mm⟩ W)
      unfold xv xc at JA
      simp only [JM.out] at JA
      go_wp2_with fail
      refine JA.out.mono ?_
      rintro e u0 ⟨rfl, hj⟩
      have A0 := hide (show AI W (.slice none 0 0) [] u0 from ⟨NR.nil _ _, hj⟩)
      obtain ⟨c0, c1, c2, c3, c4, c5, c6⟩ := HW.out.c7 A0.out.b
      simp only at c0 c1 c2 c3 c4 c5 c6
      clear JA hj
      go_wp2_with (first | (at_builtin; (refine wpList_append_own _ rfl _ _ 25 rfl W.heap.size 3 i0 _ 1 8 Tryd.underlying25 hi3 hz0 hz1 hz2 rfl (by decide) _ 0 _ rfl (A0.out.own rfl ((i : Int) + 1)) ⟨u0.heap.size, 0, none⟩ 1 1 [.int .i64 ((i : Int) + 1)] rfl rfl (one_at u0 ((i : Int) + 1)) (one_cell ((i : Int) + 1)) (by unfold maxLen; omega) (by omega) (A0.out.sz ((i : Int) + 1)) ?_)) | fail)
      intro v1 u1 hown hgrow _
      have A1 := hide (A0.out.next rfl hown hgrow)
      obtain ⟨c0, c1, c2, c3, c4, c5, c6⟩ := HW.out.c7 A1.out.b
      simp only at c0 c1 c2 c3 c4 c5 c6
      obtain ⟨p1, k1, hf⟩ := A1.out.n.form
      subst hf
      clear hown hgrow
      have UI := hide (A1.out.nx (l := l) (i := i) HW.out NX.out)
      obtain ⟨Bs, h1, h2, h3, h4⟩ := UI.out
      have hl := UI.out.len
      have SO := hide (sort_any h3 h2 hl)
      have HB4 := hide h4
      have H12 := hide (And.intro h1 h2)
      have HL := hide hl
      clear UI h1 h2 h3 h4 hl HW 
      go_wp2_with fail
      refine SO.out.mono ?_
      rintro e w1 ⟨⟨u, rfl⟩, hn, hb⟩
      have CO := hide (compact_any hn (Nat.le_trans H12.out.2 hb.size) (by rw [ss_len]; exact HL.out))
      have HB5 := hide (HB4.out.trans (hb.mono H12.out.1))
      clear SO hn hb
      go_wp2_with fail
      refine CO.out.mono ?_
      rintro e w2 ⟨v2, rfl, hv, hb⟩
      have HV := hide hv
      have HB6 := hide (HB5.out.trans (hb.mono H12.out.1))
      clear CO hv hb
      go_wp2_with fail
      go_ret
      exact ⟨_, rfl, HV.out.mono H12.out.1, HB6.out⟩
    · have hn2 : ¬ (i : Int) + 1 < (l.length : Int) := by omega
      have NX : Hid (nxr l ⟨op, dst, aa, bb, cc, nn, mm⟩ i = []) := by show _ = _; simp [nxr, JM.out, HF.out, h15, h16, h10, hn]
      have q15 : (op == 15) = false := by simpa using h15
      have q16 : (op == 16) = false := by simpa using h16
      have q10 : (op == 10) = false := by simpa using h10
      go_wp2_with (first | (at_lookup; refine wpList_lookup_own_ok_int _ rfl _ _ 58 rfl 3 3 .i64 law3 Tryd.underlying58 Tryd.underlying3 (zero3 _) B l.length (mpd l 0) rfl HM.out _ _ rfl HK.out ?_; intro qq hat hwc; rw [HS.out]) | fail)
      obtain rfl : qq = (p : Int) := by rw [HAT.out] at hat; injection hat with hat; injection hat with _ hat; exact hat.symm
      clear hat hwc
      have JA := hide (jump_any ⟨op, dst, aa, bb, cc, nn, mm⟩ W)
      unfold xv xc at JA
      simp only [JM.out] at JA
      go_wp2_with fail
      refine JA.out.mono ?_
      rintro e u0 ⟨rfl, hj⟩
      have A0 := hide (show AI W (.slice none 0 0) [] u0 from ⟨NR.nil _ _, hj⟩)
      obtain ⟨c0, c1, c2, c3, c4, c5, c6⟩ := HW.out.c7 A0.out.b
      simp only at c0 c1 c2 c3 c4 c5 c6
      clear JA hj
      have UI := hide (A0.out.nx (l := l) (i := i) HW.out NX.out)
      obtain ⟨Bs, h1, h2, h3, h4⟩ := UI.out
      have hl := UI.out.len
      have SO := hide (sort_any h3 h2 hl)
      have HB4 := hide h4
      have H12 := hide (And.intro h1 h2)
      have HL := hide hl
      clear UI h1 h2 h3 h4 hl HW 
      go_wp2_with fail
      refine SO.out.mono ?_
      rintro e w1 ⟨⟨u, rfl⟩, hn, hb⟩
      have CO := hide (compact_any hn (Nat.le_trans H12.out.2 hb.size) (by rw [ss_len]; exact HL.out))
      have HB5 := hide (HB4.out.trans (hb.mono H12.out.1))
      clear SO hn hb
      go_wp2_with fail
      refine CO.out.mono ?_
      rintro e w2 ⟨v2, rfl, hv, hb⟩
      have HV := hide hv
      have HB6 := hide (HB5.out.trans (hb.mono H12.out.1))
      clear CO hv hb
      go_wp2_with fail
      go_ret
      exact ⟨_, rfl, HV.out.mono H12.out.1, HB6.out⟩
  | none =>
    have HF := hide hf
    have HS : Hid (Maps.has (mpd l 0) (.int .i64 nn) = false) := by show _ = _; rw [mpd_has, hf]; rfl
    clear hf
    by_cases h10 : op = 10
    · subst h10
      have JM : Hid (jmp ⟨10, dst, aa, bb, cc, nn, mm⟩ = true) := by show _ = _; simp [jmp]
      have NX : Hid (nxr l ⟨10, dst, aa, bb, cc, nn, mm⟩ i = []) := by show _ = _; simp [nxr, JM.out, HF.out]
      have UI := hide (A0.out.nx (l := l) (i := i) HW.out NX.out)
      obtain ⟨Bs, h1, h2, h3, h4⟩ := UI.out
      have hl := UI.out.len
      have SO := hide (sort_any h3 h2 hl)
      have HB4 := hide h4
      have H12 := hide (And.intro h1 h2)
      have HL := hide hl
      clear UI h1 h2 h3 h4 hl HW 
      go_wp2_with (first | (at_lookup; refine wpList_lookup_own_ok_int _ rfl _ _ 58 rfl 3 3 .i64 law3 Tryd.underlying58 Tryd.underlying3 (zero3 _) B l.length (mpd l 0) rfl HM.out _ _ rfl HK.out ?_; intro qq hat hwc; rw [HS.out]; clear hat hwc) | fail)
      refine SO.out.mono ?_
      rintro e w1 ⟨⟨u, rfl⟩, hn, hb⟩
      have CO := hide (compact_any hn (Nat.le_trans H12.out.2 hb.size) (by rw [ss_len]; exact HL.out))
      have HB5 := hide (HB4.out.trans (hb.mono H12.out.1))
      clear SO hn hb
      go_wp2_with fail
      refine CO.out.mono ?_
      rintro e w2 ⟨v2, rfl, hv, hb⟩
      have HV := hide hv
      have HB6 := hide (HB5.out.trans (hb.mono H12.out.1))
      clear CO hv hb
      go_wp2_with fail
      go_ret
      exact ⟨_, rfl, HV.out.mono H12.out.1, HB6.out⟩
    by_cases h11 : op = 11
    · subst h11
      have JM : Hid (jmp ⟨11, dst, aa, bb, cc, nn, mm⟩ = true) := by show _ = _; simp [jmp]
      by_cases hn : i + 1 < l.length
      · have hn2 : (i : Int) + 1 < (l.length : Int) := by omega
        have NX : Hid (nxr l ⟨11, dst, aa, bb, cc, nn, mm⟩ i = [(i : Int) + 1]) := by show _ = _; simp [nxr, JM.out, HF.out, hn]
        go_wp2_with (first | (at_lookup; refine wpList_lookup_own_ok_int _ rfl _ _ 58 rfl 3 3 .i64 law3 Tryd.underlying58 Tryd.underlying3 (zero3 _) B l.length (mpd l 0) rfl HM.out _ _ rfl HK.out ?_; intro qq hat hwc; rw [HS.out]; clear hat hwc) | (at_builtin; (refine wpList_append_own _ rfl _ _ 25 rfl W.heap.size 3 i0 _ 1 8 Tryd.underlying25 hi3 hz0 hz1 hz2 rfl (by decide) _ 0 _ rfl (A0.out.own rfl ((i : Int) + 1)) ⟨W.heap.size, 0, none⟩ 1 1 [.int .i64 ((i : Int) + 1)] rfl rfl (one_at W ((i : Int) + 1)) (one_cell ((i : Int) + 1)) (by unfold maxLen; omega) (by omega) (A0.out.sz ((i : Int) + 1)) ?_)) | fail)
        intro v1 u1 hown hgrow _
        have A1 := hide (A0.out.next rfl hown hgrow)
        obtain ⟨c0, c1, c2, c3, c4, c5, c6⟩ := HW.out.c7 A1.out.b
        simp only at c0 c1 c2 c3 c4 c5 c6
        obtain ⟨p1, k1, hf⟩ := A1.out.n.form
        subst hf
        clear hown hgrow
        have UI := hide (A1.out.nx (l := l) (i := i) HW.out NX.out)
        obtain ⟨Bs, h1, h2, h3, h4⟩ := UI.out
        have hl := UI.out.len
        have SO := hide (sort_any h3 h2 hl)
        have HB4 := hide h4
        have H12 := hide (And.intro h1 h2)
        have HL := hide hl
        clear UI h1 h2 h3 h4 hl HW 
        go_wp2_with fail
        refine SO.out.mono ?_
        rintro e w1 ⟨⟨u, rfl⟩, hn, hb⟩
        have CO := hide (compact_any hn (Nat.le_trans H12.out.2 hb.size) (by rw [ss_len]; exact HL.out))
        have HB5 := hide (HB4.out.trans (hb.mono H12.out.1))
        clear SO hn hb
        go_wp2_with fail
        refine CO.out.mono ?_
        rintro e w2 ⟨v2, rfl, hv, hb⟩
        have HV := hide hv
        have HB6 := hide (HB5.out.trans (hb.mono H12.out.1))
        clear CO hv hb
        go_wp2_with fail
        go_ret
        exact ⟨_, rfl, HV.out.mono H12.out.1, HB6.out⟩
      · have hn2 : ¬ (i : Int) + 1 < (l.length : Int) := by omega
        have NX : Hid (nxr l ⟨11, dst, aa, bb, cc, nn, mm⟩ i = []) := by show _ = _; simp [nxr, JM.out, HF.out, hn]
        have UI := hide (A0.out.nx (l := l) (i := i) HW.out NX.out)
        obtain ⟨Bs, h1, h2, h3, h4⟩ := UI.out
        have hl := UI.out.len
        have SO := hide (sort_any h3 h2 hl)
        have HB4 := hide h4
        have H12 := hide (And.intro h1 h2)
        have HL := hide hl
        clear UI h1 h2 h3 h4 hl HW 
        go_wp2_with (first | (at_lookup; refine wpList_lookup_own_ok_int _ rfl _ _ 58 rfl 3 3 .i64 law3 Tryd.underlying58 Tryd.underlying3 (zero3 _) B l.length (mpd l 0) rfl HM.out _ _ rfl HK.out ?_; intro qq hat hwc; rw [HS.out]; clear hat hwc) | fail)
        refine SO.out.mono ?_
        rintro e w1 ⟨⟨u, rfl⟩, hn, hb⟩
        have CO := hide (compact_any hn (Nat.le_trans H12.out.2 hb.size) (by rw [ss_len]; exact HL.out))
        have HB5 := hide (HB4.out.trans (hb.mono H12.out.1))
        clear SO hn hb
        go_wp2_with fail
        refine CO.out.mono ?_
        rintro e w2 ⟨v2, rfl, hv, hb⟩
        have HV := hide hv
        have HB6 := hide (HB5.out.trans (hb.mono H12.out.1))
        clear CO hv hb
        go_wp2_with fail
        go_ret
        exact ⟨_, rfl, HV.out.mono H12.out.1, HB6.out⟩
    by_cases h12 : op = 12
    · subst h12
      have JM : Hid (jmp ⟨12, dst, aa, bb, cc, nn, mm⟩ = true) := by show _ = _; simp [jmp]
      by_cases hn : i + 1 < l.length
      · have hn2 : (i : Int) + 1 < (l.length : Int) := by omega
        have NX : Hid (nxr l ⟨12, dst, aa, bb, cc, nn, mm⟩ i = [(i : Int) + 1]) := by show _ = _; simp [nxr, JM.out, HF.out, hn]
        go_wp2_with (first | (at_lookup; refine wpList_lookup_own_ok_int _ rfl _ _ 58 rfl 3 3 .i64 law3 Tryd.underlying58 Tryd.underlying3 (zero3 _) B l.length (mpd l 0) rfl HM.out _ _ rfl HK.out ?_; intro qq hat hwc; rw [HS.out]; clear hat hwc) | (at_builtin; (refine wpList_append_own _ rfl _ _ 25 rfl W.heap.size 3 i0 _ 1 8 Tryd.underlying25 hi3 hz0 hz1 hz2 rfl (by decide) _ 0 _ rfl (A0.out.own rfl ((i : Int) + 1)) ⟨W.heap.size, 0, none⟩ 1 1 [.int .i64 ((i : Int) + 1)] rfl rfl (one_at W ((i : Int) + 1)) (one_cell ((i : Int) + 1)) (by unfold maxLen; omega) (by omega) (A0.out.sz ((i : Int) + 1)) ?_)) | fail)
        intro v1 u1 hown hgrow _
        have A1 := hide (A0.out.next rfl hown hgrow)
        obtain ⟨c0, c1, c2, c3, c4, c5, c6⟩ := HW.out.c7 A1.out.b
        simp only at c0 c1 c2 c3 c4 c5 c6
        obtain ⟨p1, k1, hf⟩ := A1.out.n.form
        subst hf
        clear hown hgrow
        have UI := hide (A1.out.nx (l := l) (i := i) HW.out NX.out)
        obtain ⟨Bs, h1, h2, h3, h4⟩ := UI.out
        have hl := UI.out.len
        have SO := hide (sort_any h3 h2 hl)
        have HB4 := hide h4
        have H12 := hide (And.intro h1 h2)
        have HL := hide hl
        clear UI h1 h2 h3 h4 hl HW 
        go_wp2_with fail
        refine SO.out.mono ?_
        rintro e w1 ⟨⟨u, rfl⟩, hn, hb⟩
        have CO := hide (compact_any hn (Nat.le_trans H12.out.2 hb.size) (by rw [ss_len]; exact HL.out))
        have HB5 := hide (HB4.out.trans (hb.mono H12.out.1))
        clear SO hn hb
        go_wp2_with fail
        refine CO.out.mono ?_
        rintro e w2 ⟨v2, rfl, hv, hb⟩
        have HV := hide hv
        have HB6 := hide (HB5.out.trans (hb.mono H12.out.1))
        clear CO hv hb
        go_wp2_with fail
        go_ret
        exact ⟨_, rfl, HV.out.mono H12.out.1, HB6.out⟩
      · have hn2 : ¬ (i : Int) + 1 < (l.length : Int) := by omega
        have NX : Hid (nxr l ⟨12, dst, aa, bb, cc, nn, mm⟩ i = []) := by show _ = _; simp [nxr, JM.out, HF.out, hn]
        have UI := hide (A0.out.nx (l := l) (i := i) HW.out NX.out)
        obtain ⟨Bs, h1, h2, h3, h4⟩ := UI.out
        have hl := UI.out.len
        have SO := hide (sort_any h3 h2 hl)
        have HB4 := hide h4
        have H12 := hide (And.intro h1 h2)
        have HL := hide hl
        clear UI h1 h2 h3 h4 hl HW 
        go_wp2_with (first | (at_lookup; refine wpList_lookup_own_ok_int _ rfl _ _ 58 rfl 3 3 .i64 law3 Tryd.underlying58 Tryd.underlying3 (zero3 _) B l.length (mpd l 0) rfl HM.out _ _ rfl HK.out ?_; intro qq hat hwc; rw [HS.out]; clear hat hwc) | fail)
        refine SO.out.mono ?_
        rintro e w1 ⟨⟨u, rfl⟩, hn, hb⟩
        have CO := hide (compact_any hn (Nat.le_trans H12.out.2 hb.size) (by rw [ss_len]; exact HL.out))
        have HB5 := hide (HB4.out.trans (hb.mono H12.out.1))
        clear SO hn hb
        go_wp2_with fail
        refine CO.out.mono ?_
        rintro e w2 ⟨v2, rfl, hv, hb⟩
        have HV := hide hv
        have HB6 := hide (HB5.out.trans (hb.mono H12.out.1))
        clear CO hv hb
        go_wp2_with fail
        go_ret
        exact ⟨_, rfl, HV.out.mono H12.out.1, HB6.out⟩
    have JM : Hid (jmp ⟨op, dst, aa, bb, cc, nn, mm⟩ = false) := by show _ = _; simp [jmp, *]
    by_cases hn : i + 1 < l.length
    · have hn2 : (i : Int) + 1 < (l.length : Int) := by omega
      have NX : Hid (nxr l ⟨op, dst, aa, bb, cc, nn, mm⟩ i = [(i : Int) + 1]) := by show _ = _; simp [nxr, JM.out, HF.out, h15, h16, h10, hn]
      have q15 : (op == 15) = false := by simpa using h15
      have q16 : (op == 16) = false := by simpa using h16
      have q10 : (op == 10) = false := by simpa using h10
      go_wp2_with (first | (at_lookup; refine wpList_lookup_own_ok_int _ rfl _ _ 58 rfl 3 3 .i64 law3 Tryd.underlying58 Tryd.underlying3 (zero3 _) B l.length (mpd l 0) rfl HM.out _ _ rfl HK.out ?_; intro qq hat hwc; rw [HS.out]; clear hat hwc) | (at_builtin; (refine wpList_append_own _ rfl _ _ 25 rfl W.heap.size 3 i0 _ 1 8 Tryd.underlying25 hi3 hz0 hz1 hz2 rfl (by decide) _ 0 _ rfl (A0.out.own rfl ((i : Int) + 1)) ⟨W.heap.size, 0, none⟩ 1 1 [.int .i64 ((i : Int) + 1)] rfl rfl (one_at W ((i : Int) + 1)) (one_cell ((i : Int) + 1)) (by unfold maxLen; omega) (by omega) (A0.out.sz ((i : Int) + 1)) ?_)) | fail)
      intro v1 u1 hown hgrow _
      have A1 := hide (A0.out.next rfl hown hgrow)
      obtain ⟨c0, c1, c2, c3, c4, c5, c6⟩ := HW.out.c7 A1.out.b
      simp only at c0 c1 c2 c3 c4 c5 c6
      obtain ⟨p1, k1, hf⟩ := A1.out.n.form
      subst hf
      clear hown hgrow
      have UI := hide (A1.out.nx (l := l) (i := i) HW.out NX.out)
      obtain ⟨Bs, h1, h2, h3, h4⟩ := UI.out
      have hl := UI.out.len
      have SO := hide (sort_any h3 h2 hl)
      have HB4 := hide h4
      have H12 := hide (And.intro h1 h2)
      have HL := hide hl
      clear UI h1 h2 h3 h4 hl HW 
      go_wp2_with fail
      refine SO.out.mono ?_
      rintro e w1 ⟨⟨u, rfl⟩, hn, hb⟩
      have CO := hide (compact_any hn (Nat.le_trans H12.out.2 hb.size) (by rw [ss_len]; exact HL.out))
      have HB5 := hide (HB4.out.trans (hb.mono H12.out.1))
      clear SO hn hb
      go_wp2_with fail
      refine CO.out.mono ?_
      rintro e w2 ⟨v2, rfl, hv, hb⟩
      have HV := hide hv
      have HB6 := hide (HB5.out.trans (hb.mono H12.out.1))
      clear CO hv hb
      go_wp2_with fail
      go_ret
      exact ⟨_, rfl, HV.out.mono H12.out.1, HB6.out⟩
    · have hn2 : ¬ (i : Int) + 1 < (l.length : Int) := by omega
      have NX : Hid (nxr l ⟨op, dst, aa, bb, cc, nn, mm⟩ i = []) := by show _ = _; simp [nxr, JM.out, HF.out, h15, h16, h10, hn]
      have q15 : (op == 15) = false := by simpa using h15
      have q16 : (op == 16) = false := by simpa using h16
      have q10 : (op == 10) = false := by simpa using h10
      have UI := hide (A0.out.nx (l := l) (i := i) HW.out NX.out)
      obtain ⟨Bs, h1, h2, h3, h4⟩ := UI.out
      have hl := UI.out.len
      have SO := hide (sort_any h3 h2 hl)
      have HB4 := hide h4
      have H12 := hide (And.intro h1 h2)
      have HL := hide hl
      clear UI h1 h2 h3 h4 hl HW 
      go_wp2_with (first | (at_lookup; refine wpList_lookup_own_ok_int _ rfl _ _ 58 rfl 3 3 .i64 law3 Tryd.underlying58 Tryd.underlying3 (zero3 _) B l.length (mpd l 0) rfl HM.out _ _ rfl HK.out ?_; intro qq hat hwc; rw [HS.out]; clear hat hwc) | fail)
      refine SO.out.mono ?_
      rintro e w1 ⟨⟨u, rfl⟩, hn, hb⟩
      have CO := hide (compact_any hn (Nat.le_trans H12.out.2 hb.size) (by rw [ss_len]; exact HL.out))
      have HB5 := hide (HB4.out.trans (hb.mono H12.out.1))
      clear SO hn hb
      go_wp2_with fail
      refine CO.out.mono ?_
      rintro e w2 ⟨v2, rfl, hv, hb⟩
      have HV := hide hv
      have HB6 := hide (HB5.out.trans (hb.mono H12.out.1))
      clear CO hv hb
      go_wp2_with fail
      go_ret
      exact ⟨_, rfl, HV.out.mono H12.out.1, HB6.out⟩
theorem next_any (a : Option Addr) (cap B : Nat) (l : List Ir) (i : Nat) (w : World) (hl : l.length ≤ 1000) (hi : i < l.length) (hr : IR w.heap.size w a l) (hm : LMp B (mpd l 0) l.length w) (hB : B < w.heap.size) :
    Calls Tryd.prog 64 #[.slice a l.length cap, .map (some B), .int .i64 (i : Int)] w fun e w' => ∃ v, e = .returned v ∧ Nv w.heap.size v (nxt l i) w' ∧ Below w.heap.size w w' := by
  have e : l.getD i ir0 = l[i] := by simp [List.getD, hi]
  unfold nxt
  rw [e]
  exact next_x l[i] a cap B l i w hl hi rfl hr hm hB
end Go.Proofs.YtjgaaofpfepfhaaDoor

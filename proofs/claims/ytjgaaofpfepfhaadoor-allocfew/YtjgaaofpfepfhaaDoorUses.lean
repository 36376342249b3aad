/-
  The program's Uses.
-/
import Derived.Test.YtjgaaofpfepfhaaDoorSrt
import Derived.Deep.CutRange
namespace Go.Proofs.YtjgaaofpfepfhaaDoor
open Go.RowKit
set_option linter.unusedSimpArgs false
set_option linter.unusedVariables false
def UsI (x : Ir) (w : World) (v : Value) (w' : World) : Prop := ∃ B, w.heap.size ≤ B ∧ B ≤ w'.heap.size ∧ NR B v (raw x) w' ∧ Below w.heap.size w w'
theorem UsI.len {x : Ir} {w U : World} {v : Value} (_ : UsI x w v U) : (raw x).length ≤ 1000 := Nat.le_trans (raw_len x) (by omega)
theorem raw_none {op dst a b c n m : Int} (h15 : ¬ op = 15) (h4 : ¬ op = 4) (h3 : ¬ op = 3) (h6 : ¬ op = 6) (h2 : ¬ op = 2) (h8 : ¬ op = 8) (h11 : ¬ op = 11) (h12 : ¬ op = 12) (h13 : ¬ op = 13) (h5 : ¬ op = 5) : raw ⟨op, dst, a, b, c, n, m⟩ = [] := by
  simp [raw, *]
/-- An instruction in a box of its own. -/
structure Bx (q : Nat) (x : Ir) (w W : World) : Prop where
  b : Below w.heap.size w W
  lt : q < W.heap.size
  r : W.heap[q]? = some (.cells (xc x) 43)
theorem Bx.made (x : Ir) (w : World) : Bx w.heap.size x w (w.alloc (.cells (xc x) 43)) := ⟨bel_one _ _, by simp, heap_alloc_new _ _⟩
theorem Bx.cells {q : Nat} {x : Ir} {w W U : World} (h : Bx q x w W) (k : Below W.heap.size W U) : U.cell? ⟨q, 0, none⟩ = some (.int .i64 x.op) ∧ U.cell? ⟨q, 1, none⟩ = some (.int .i64 x.dst) ∧ U.cell? ⟨q, 2, none⟩ = some (.int .i64 x.a) ∧ U.cell? ⟨q, 3, none⟩ = some (.int .i64 x.b) ∧ U.cell? ⟨q, 4, none⟩ = some (.int .i64 x.c) ∧ U.cell? ⟨q, 5, none⟩ = some (.int .i64 x.n) := by
  have e := (k.block q h.lt).trans h.r
  unfold xc at e
  simp [World.cell?, e]
/-- A row of one's own, in a world that has come of W. -/
structure AI (W : World) (v : Value) (ns : List Int) (U : World) : Prop where
  n : NR W.heap.size v ns U
  b : Below W.heap.size W U
theorem AI.start (W : World) : AI W (.slice none 0 0) [] W := ⟨NR.nil _ _, Below.refl _ _⟩
theorem AI.own {W U : World} {v : Value} {ns : List Int} {k : Nat} (h : AI W v ns U) (hk : ns.length = k) (x : Int) : (U.alloc (.cells #[.int .i64 x] 3)).ownsRow W.heap.size 3 1 v k (ns.map (Value.int .i64)) := by
  have := h.n.kept (bel_one U (.cells #[.int .i64 x] 3))
  unfold NR at this
  rw [hk] at this; exact this
theorem AI.sz {W U : World} {v : Value} {ns : List Int} (h : AI W v ns U) (x : Int) : W.heap.size ≤ (U.alloc (.cells #[.int .i64 x] 3)).heap.size := by have := h.b.size; simp; omega
theorem AI.next {W U w3 : World} {v v' : Value} {ns : List Int} {k : Nat} {x : Int} (h : AI W v ns U) (hk : ns.length = k) (ho : w3.ownsRow W.heap.size 3 1 v' (k + 1) (ns.map (Value.int .i64) ++ [Value.int .i64 x])) (hg : (U.alloc (.cells #[.int .i64 x] 3)).grownBy w3 v.ownBlock) : AI W v' (ns ++ [x]) w3 := by
  refine ⟨?_, (bel_al h.b _).trans (own_bel (h.own hk x) (h.sz x) hg)⟩
  unfold NR
  rw [List.length_append, List.map_append, hk]; exact ho
theorem AI.fin {q : Nat} {x : Ir} {w W U : World} {v : Value} {ns : List Int} (h : AI W v ns U) (hx : Bx q x w W) (hr : raw x = ns) : UsI x w v U := ⟨W.heap.size, hx.b.size, h.b.size, by rw [hr]; exact h.n, hx.b.trans (h.b.mono hx.b.size)⟩
set_option maxRecDepth 100000 in
set_option maxHeartbeats 6400000 in
theorem uses_any (x : Ir) (w : World) : Calls Tryd.prog 44 #[xv x] w fun e w' => ∃ v, e = .returned v ∧ Nv w.heap.size v (us x) w' ∧ Below w.heap.size w w' := by
  obtain ⟨i0, hi, hz0, hz1, hz2⟩ := info_parts info3
  have B0 := Bx.made x w
  have RN := @raw_none x.op x.dst x.a x.b x.c x.n x.m
  obtain ⟨op, dst, a, b, c, n, m⟩ := x
  simp only at RN
  have HRN := hide RN
  clear RN
  unfold xv
  unfold xc at B0 ⊢
  go_enter Tryd.func44, Tryd.ntmps44
  go_upto_region 2 with fail
  refine gw (motive := fun x => Code.wp _ _ _ _ x) (fun W => Hid (Bx w.heap.size ⟨op, dst, a, b, c, n, m⟩ w W)) B0 ?_
  rintro W HW
  clear B0
  obtain ⟨c0, _, c2, c3, c4, _⟩ := HW.out.cells (Below.refl _ W)
  simp only at c0 c2 c3 c4
  have A0 := hide (AI.start W)
  by_cases h2 : op = 2
  · subst h2
    go_wp2_with (at_builtin; (refine wpList_append_own _ rfl _ _ 25 rfl W.heap.size 3 i0 _ 1 8 Tryd.underlying25 hi hz0 hz1 hz2 rfl (by decide) _ 0 _ rfl (A0.out.own rfl a) ⟨W.heap.size, 0, none⟩ 1 1 [.int .i64 a] rfl rfl (one_at W a) (one_cell a) (by unfold maxLen; omega) (by omega) (A0.out.sz a) ?_))
    intro v1 u1 hown hgrow _
    have A1 := hide (A0.out.next rfl hown hgrow)
    obtain ⟨_, _, c2, c3, c4, _⟩ := HW.out.cells A1.out.b
    simp only at c2 c3 c4
    obtain ⟨p1, k1, hf⟩ := A1.out.n.form
    subst hf
    clear hown hgrow
    have UI := hide (A1.out.fin HW.out rfl)
    obtain ⟨B, h1, h2, h3, h4⟩ := UI.out
    have hl := UI.out.len
    have SO := hide (sort_any h3 h2 hl)
    have HB4 := hide h4
    have H12 := hide (And.intro h1 h2)
    have HL := hide hl
    clear UI h1 h2 h3 h4 hl HW c0 c2 c3 c4 HRN
    go_wp2_with fail
    refine SO.out.mono ?_
    rintro e w1 ⟨⟨u, rfl⟩, hn, hb⟩
    have CO := hide (compact_any hn (Nat.le_trans H12.out.2 hb.size) (by rw [ss_len]; exact HL.out))
    have HB5 := hide (HB4.out.trans (hb.mono H12.out.1))
    clear SO hn hb
    go_wp2_with fail
    refine CO.out.mono ?_
    rintro e w2 ⟨v2, rfl, hv, hb⟩
    have HV := hide hv
    have HB6 := hide (HB5.out.trans (hb.mono H12.out.1))
    clear CO hv hb
    go_wp2_with fail
    go_ret
    exact ⟨_, rfl, HV.out.mono H12.out.1, HB6.out⟩
  by_cases h8 : op = 8
  · subst h8
    go_wp2_with (at_builtin; (refine wpList_append_own _ rfl _ _ 25 rfl W.heap.size 3 i0 _ 1 8 Tryd.underlying25 hi hz0 hz1 hz2 rfl (by decide) _ 0 _ rfl (A0.out.own rfl a) ⟨W.heap.size, 0, none⟩ 1 1 [.int .i64 a] rfl rfl (one_at W a) (one_cell a) (by unfold maxLen; omega) (by omega) (A0.out.sz a) ?_))
    intro v1 u1 hown hgrow _
    have A1 := hide (A0.out.next rfl hown hgrow)
    obtain ⟨_, _, c2, c3, c4, _⟩ := HW.out.cells A1.out.b
    simp only at c2 c3 c4
    obtain ⟨p1, k1, hf⟩ := A1.out.n.form
    subst hf
    clear hown hgrow
    have UI := hide (A1.out.fin HW.out rfl)
    obtain ⟨B, h1, h2, h3, h4⟩ := UI.out
    have hl := UI.out.len
    have SO := hide (sort_any h3 h2 hl)
    have HB4 := hide h4
    have H12 := hide (And.intro h1 h2)
    have HL := hide hl
    clear UI h1 h2 h3 h4 hl HW c0 c2 c3 c4 HRN
    go_wp2_with fail
    refine SO.out.mono ?_
    rintro e w1 ⟨⟨u, rfl⟩, hn, hb⟩
    have CO := hide (compact_any hn (Nat.le_trans H12.out.2 hb.size) (by rw [ss_len]; exact HL.out))
    have HB5 := hide (HB4.out.trans (hb.mono H12.out.1))
    clear SO hn hb
    go_wp2_with fail
    refine CO.out.mono ?_
    rintro e w2 ⟨v2, rfl, hv, hb⟩
    have HV := hide hv
    have HB6 := hide (HB5.out.trans (hb.mono H12.out.1))
    clear CO hv hb
    go_wp2_with fail
    go_ret
    exact ⟨_, rfl, HV.out.mono H12.out.1, HB6.out⟩
  by_cases h11 : op = 11
  · subst h11
    go_wp2_with (at_builtin; (refine wpList_append_own _ rfl _ _ 25 rfl W.heap.size 3 i0 _ 1 8 Tryd.underlying25 hi hz0 hz1 hz2 rfl (by decide) _ 0 _ rfl (A0.out.own rfl a) ⟨W.heap.size, 0, none⟩ 1 1 [.int .i64 a] rfl rfl (one_at W a) (one_cell a) (by unfold maxLen; omega) (by omega) (A0.out.sz a) ?_))
    intro v1 u1 hown hgrow _
    have A1 := hide (A0.out.next rfl hown hgrow)
    obtain ⟨_, _, c2, c3, c4, _⟩ := HW.out.cells A1.out.b
    simp only at c2 c3 c4
    obtain ⟨p1, k1, hf⟩ := A1.out.n.form
    subst hf
    clear hown hgrow
    have UI := hide (A1.out.fin HW.out rfl)
    obtain ⟨B, h1, h2, h3, h4⟩ := UI.out
    have hl := UI.out.len
    have SO := hide (sort_any h3 h2 hl)
    have HB4 := hide h4
    have H12 := hide (And.intro h1 h2)
    have HL := hide hl
    clear UI h1 h2 h3 h4 hl HW c0 c2 c3 c4 HRN
    go_wp2_with fail
    refine SO.out.mono ?_
    rintro e w1 ⟨⟨u, rfl⟩, hn, hb⟩
    have CO := hide (compact_any hn (Nat.le_trans H12.out.2 hb.size) (by rw [ss_len]; exact HL.out))
    have HB5 := hide (HB4.out.trans (hb.mono H12.out.1))
    clear SO hn hb
    go_wp2_with fail
    refine CO.out.mono ?_
    rintro e w2 ⟨v2, rfl, hv, hb⟩
    have HV := hide hv
    have HB6 := hide (HB5.out.trans (hb.mono H12.out.1))
    clear CO hv hb
    go_wp2_with fail
    go_ret
    exact ⟨_, rfl, HV.out.mono H12.out.1, HB6.out⟩
  by_cases h12 : op = 12
  · subst h12
    go_wp2_with (at_builtin; (refine wpList_append_own _ rfl _ _ 25 rfl W.heap.size 3 i0 _ 1 8 Tryd.underlying25 hi hz0 hz1 hz2 rfl (by decide) _ 0 _ rfl (A0.out.own rfl a) ⟨W.heap.size, 0, none⟩ 1 1 [.int .i64 a] rfl rfl (one_at W a) (one_cell a) (by unfold maxLen; omega) (by omega) (A0.out.sz a) ?_))
    intro v1 u1 hown hgrow _
    have A1 := hide (A0.out.next rfl hown hgrow)
    obtain ⟨_, _, c2, c3, c4, _⟩ := HW.out.cells A1.out.b
    simp only at c2 c3 c4
    obtain ⟨p1, k1, hf⟩ := A1.out.n.form
    subst hf
    clear hown hgrow
    have UI := hide (A1.out.fin HW.out rfl)
    obtain ⟨B, h1, h2, h3, h4⟩ := UI.out
    have hl := UI.out.len
    have SO := hide (sort_any h3 h2 hl)
    have HB4 := hide h4
    have H12 := hide (And.intro h1 h2)
    have HL := hide hl
    clear UI h1 h2 h3 h4 hl HW c0 c2 c3 c4 HRN
    go_wp2_with fail
    refine SO.out.mono ?_
    rintro e w1 ⟨⟨u, rfl⟩, hn, hb⟩
    have CO := hide (compact_any hn (Nat.le_trans H12.out.2 hb.size) (by rw [ss_len]; exact HL.out))
    have HB5 := hide (HB4.out.trans (hb.mono H12.out.1))
    clear SO hn hb
    go_wp2_with fail
    refine CO.out.mono ?_
    rintro e w2 ⟨v2, rfl, hv, hb⟩
    have HV := hide hv
    have HB6 := hide (HB5.out.trans (hb.mono H12.out.1))
    clear CO hv hb
    go_wp2_with fail
    go_ret
    exact ⟨_, rfl, HV.out.mono H12.out.1, HB6.out⟩
  by_cases h13 : op = 13
  · subst h13
    go_wp2_with (at_builtin; (refine wpList_append_own _ rfl _ _ 25 rfl W.heap.size 3 i0 _ 1 8 Tryd.underlying25 hi hz0 hz1 hz2 rfl (by decide) _ 0 _ rfl (A0.out.own rfl a) ⟨W.heap.size, 0, none⟩ 1 1 [.int .i64 a] rfl rfl (one_at W a) (one_cell a) (by unfold maxLen; omega) (by omega) (A0.out.sz a) ?_))
    intro v1 u1 hown hgrow _
    have A1 := hide (A0.out.next rfl hown hgrow)
    obtain ⟨_, _, c2, c3, c4, _⟩ := HW.out.cells A1.out.b
    simp only at c2 c3 c4
    obtain ⟨p1, k1, hf⟩ := A1.out.n.form
    subst hf
    clear hown hgrow
    have UI := hide (A1.out.fin HW.out rfl)
    obtain ⟨B, h1, h2, h3, h4⟩ := UI.out
    have hl := UI.out.len
    have SO := hide (sort_any h3 h2 hl)
    have HB4 := hide h4
    have H12 := hide (And.intro h1 h2)
    have HL := hide hl
    clear UI h1 h2 h3 h4 hl HW c0 c2 c3 c4 HRN
    go_wp2_with fail
    refine SO.out.mono ?_
    rintro e w1 ⟨⟨u, rfl⟩, hn, hb⟩
    have CO := hide (compact_any hn (Nat.le_trans H12.out.2 hb.size) (by rw [ss_len]; exact HL.out))
    have HB5 := hide (HB4.out.trans (hb.mono H12.out.1))
    clear SO hn hb
    go_wp2_with fail
    refine CO.out.mono ?_
    rintro e w2 ⟨v2, rfl, hv, hb⟩
    have HV := hide hv
    have HB6 := hide (HB5.out.trans (hb.mono H12.out.1))
    clear CO hv hb
    go_wp2_with fail
    go_ret
    exact ⟨_, rfl, HV.out.mono H12.out.1, HB6.out⟩
  by_cases h5 : op = 5
  · subst h5
    go_wp2_with (at_builtin; (refine wpList_append_own _ rfl _ _ 25 rfl W.heap.size 3 i0 _ 1 8 Tryd.underlying25 hi hz0 hz1 hz2 rfl (by decide) _ 0 _ rfl (A0.out.own rfl a) ⟨W.heap.size, 0, none⟩ 1 1 [.int .i64 a] rfl rfl (one_at W a) (one_cell a) (by unfold maxLen; omega) (by omega) (A0.out.sz a) ?_))
    intro v1 u1 hown hgrow _
    have A1 := hide (A0.out.next rfl hown hgrow)
    obtain ⟨_, _, c2, c3, c4, _⟩ := HW.out.cells A1.out.b
    simp only at c2 c3 c4
    obtain ⟨p1, k1, hf⟩ := A1.out.n.form
    subst hf
    clear hown hgrow
    have UI := hide (A1.out.fin HW.out rfl)
    obtain ⟨B, h1, h2, h3, h4⟩ := UI.out
    have hl := UI.out.len
    have SO := hide (sort_any h3 h2 hl)
    have HB4 := hide h4
    have H12 := hide (And.intro h1 h2)
    have HL := hide hl
    clear UI h1 h2 h3 h4 hl HW c0 c2 c3 c4 HRN
    go_wp2_with fail
    refine SO.out.mono ?_
    rintro e w1 ⟨⟨u, rfl⟩, hn, hb⟩
    have CO := hide (compact_any hn (Nat.le_trans H12.out.2 hb.size) (by rw [ss_len]; exact HL.out))
    have HB5 := hide (HB4.out.trans (hb.mono H12.out.1))
    clear SO hn hb
    go_wp2_with fail
    refine CO.out.mono ?_
    rintro e w2 ⟨v2, rfl, hv, hb⟩
    have HV := hide hv
    have HB6 := hide (HB5.out.trans (hb.mono H12.out.1))
    clear CO hv hb
    go_wp2_with fail
    go_ret
    exact ⟨_, rfl, HV.out.mono H12.out.1, HB6.out⟩
  by_cases h3 : op = 3
  · subst h3
    go_wp2_with (at_builtin; (refine wpList_append_own _ rfl _ _ 25 rfl W.heap.size 3 i0 _ 1 8 Tryd.underlying25 hi hz0 hz1 hz2 rfl (by decide) _ 0 _ rfl (A0.out.own rfl b) ⟨W.heap.size, 0, none⟩ 1 1 [.int .i64 b] rfl rfl (one_at W b) (one_cell b) (by unfold maxLen; omega) (by omega) (A0.out.sz b) ?_))
    intro v1 u1 hown hgrow _
    have A1 := hide (A0.out.next rfl hown hgrow)
    obtain ⟨_, _, c2, c3, c4, _⟩ := HW.out.cells A1.out.b
    simp only at c2 c3 c4
    obtain ⟨p1, k1, hf⟩ := A1.out.n.form
    subst hf
    clear hown hgrow
    go_wp2_with (at_builtin; (refine wpList_append_own _ rfl _ _ 25 rfl W.heap.size 3 i0 _ 1 8 Tryd.underlying25 hi hz0 hz1 hz2 rfl (by decide) _ 1 _ rfl (A1.out.own rfl a) ⟨u1.heap.size, 0, none⟩ 1 1 [.int .i64 a] rfl rfl (one_at u1 a) (one_cell a) (by unfold maxLen; omega) (by omega) (A1.out.sz a) ?_))
    intro v2 u2 hown hgrow _
    have A2 := hide (A1.out.next rfl hown hgrow)
    obtain ⟨_, _, c2, c3, c4, _⟩ := HW.out.cells A2.out.b
    simp only at c2 c3 c4
    obtain ⟨p2, k2, hf⟩ := A2.out.n.form
    subst hf
    clear hown hgrow
    have UI := hide (A2.out.fin HW.out rfl)
    obtain ⟨B, h1, h2, h3, h4⟩ := UI.out
    have hl := UI.out.len
    have SO := hide (sort_any h3 h2 hl)
    have HB4 := hide h4
    have H12 := hide (And.intro h1 h2)
    have HL := hide hl
    clear UI h1 h2 h3 h4 hl HW c0 c2 c3 c4 HRN
    go_wp2_with fail
    refine SO.out.mono ?_
    rintro e w1 ⟨⟨u, rfl⟩, hn, hb⟩
    have CO := hide (compact_any hn (Nat.le_trans H12.out.2 hb.size) (by rw [ss_len]; exact HL.out))
    have HB5 := hide (HB4.out.trans (hb.mono H12.out.1))
    clear SO hn hb
    go_wp2_with fail
    refine CO.out.mono ?_
    rintro e w2 ⟨v2, rfl, hv, hb⟩
    have HV := hide hv
    have HB6 := hide (HB5.out.trans (hb.mono H12.out.1))
    clear CO hv hb
    go_wp2_with fail
    go_ret
    exact ⟨_, rfl, HV.out.mono H12.out.1, HB6.out⟩
  by_cases h6 : op = 6
  · subst h6
    go_wp2_with (at_builtin; (refine wpList_append_own _ rfl _ _ 25 rfl W.heap.size 3 i0 _ 1 8 Tryd.underlying25 hi hz0 hz1 hz2 rfl (by decide) _ 0 _ rfl (A0.out.own rfl b) ⟨W.heap.size, 0, none⟩ 1 1 [.int .i64 b] rfl rfl (one_at W b) (one_cell b) (by unfold maxLen; omega) (by omega) (A0.out.sz b) ?_))
    intro v1 u1 hown hgrow _
    have A1 := hide (A0.out.next rfl hown hgrow)
    obtain ⟨_, _, c2, c3, c4, _⟩ := HW.out.cells A1.out.b
    simp only at c2 c3 c4
    obtain ⟨p1, k1, hf⟩ := A1.out.n.form
    subst hf
    clear hown hgrow
    go_wp2_with (at_builtin; (refine wpList_append_own _ rfl _ _ 25 rfl W.heap.size 3 i0 _ 1 8 Tryd.underlying25 hi hz0 hz1 hz2 rfl (by decide) _ 1 _ rfl (A1.out.own rfl a) ⟨u1.heap.size, 0, none⟩ 1 1 [.int .i64 a] rfl rfl (one_at u1 a) (one_cell a) (by unfold maxLen; omega) (by omega) (A1.out.sz a) ?_))
    intro v2 u2 hown hgrow _
    have A2 := hide (A1.out.next rfl hown hgrow)
    obtain ⟨_, _, c2, c3, c4, _⟩ := HW.out.cells A2.out.b
    simp only at c2 c3 c4
    obtain ⟨p2, k2, hf⟩ := A2.out.n.form
    subst hf
    clear hown hgrow
    have UI := hide (A2.out.fin HW.out rfl)
    obtain ⟨B, h1, h2, h3, h4⟩ := UI.out
    have hl := UI.out.len
    have SO := hide (sort_any h3 h2 hl)
    have HB4 := hide h4
    have H12 := hide (And.intro h1 h2)
    have HL := hide hl
    clear UI h1 h2 h3 h4 hl HW c0 c2 c3 c4 HRN
    go_wp2_with fail
    refine SO.out.mono ?_
    rintro e w1 ⟨⟨u, rfl⟩, hn, hb⟩
    have CO := hide (compact_any hn (Nat.le_trans H12.out.2 hb.size) (by rw [ss_len]; exact HL.out))
    have HB5 := hide (HB4.out.trans (hb.mono H12.out.1))
    clear SO hn hb
    go_wp2_with fail
    refine CO.out.mono ?_
    rintro e w2 ⟨v2, rfl, hv, hb⟩
    have HV := hide hv
    have HB6 := hide (HB5.out.trans (hb.mono H12.out.1))
    clear CO hv hb
    go_wp2_with fail
    go_ret
    exact ⟨_, rfl, HV.out.mono H12.out.1, HB6.out⟩
  by_cases h4 : op = 4
  · subst h4
    go_wp2_with (at_builtin; (refine wpList_append_own _ rfl _ _ 25 rfl W.heap.size 3 i0 _ 1 8 Tryd.underlying25 hi hz0 hz1 hz2 rfl (by decide) _ 0 _ rfl (A0.out.own rfl c) ⟨W.heap.size, 0, none⟩ 1 1 [.int .i64 c] rfl rfl (one_at W c) (one_cell c) (by unfold maxLen; omega) (by omega) (A0.out.sz c) ?_))
    intro v1 u1 hown hgrow _
    have A1 := hide (A0.out.next rfl hown hgrow)
    obtain ⟨_, _, c2, c3, c4, _⟩ := HW.out.cells A1.out.b
    simp only at c2 c3 c4
    obtain ⟨p1, k1, hf⟩ := A1.out.n.form
    subst hf
    clear hown hgrow
    go_wp2_with (at_builtin; (refine wpList_append_own _ rfl _ _ 25 rfl W.heap.size 3 i0 _ 1 8 Tryd.underlying25 hi hz0 hz1 hz2 rfl (by decide) _ 1 _ rfl (A1.out.own rfl b) ⟨u1.heap.size, 0, none⟩ 1 1 [.int .i64 b] rfl rfl (one_at u1 b) (one_cell b) (by unfold maxLen; omega) (by omega) (A1.out.sz b) ?_))
    intro v2 u2 hown hgrow _
    have A2 := hide (A1.out.next rfl hown hgrow)
    obtain ⟨_, _, c2, c3, c4, _⟩ := HW.out.cells A2.out.b
    simp only at c2 c3 c4
    obtain ⟨p2, k2, hf⟩ := A2.out.n.form
    subst hf
    clear hown hgrow
    go_wp2_with (at_builtin; (refine wpList_append_own _ rfl _ _ 25 rfl W.heap.size 3 i0 _ 1 8 Tryd.underlying25 hi hz0 hz1 hz2 rfl (by decide) _ 2 _ rfl (A2.out.own rfl a) ⟨u2.heap.size, 0, none⟩ 1 1 [.int .i64 a] rfl rfl (one_at u2 a) (one_cell a) (by unfold maxLen; omega) (by omega) (A2.out.sz a) ?_))
    intro v3 u3 hown hgrow _
    have A3 := hide (A2.out.next rfl hown hgrow)
    obtain ⟨_, _, c2, c3, c4, _⟩ := HW.out.cells A3.out.b
    simp only at c2 c3 c4
    obtain ⟨p3, k3, hf⟩ := A3.out.n.form
    subst hf
    clear hown hgrow
    have UI := hide (A3.out.fin HW.out rfl)
    obtain ⟨B, h1, h2, h3, h4⟩ := UI.out
    have hl := UI.out.len
    have SO := hide (sort_any h3 h2 hl)
    have HB4 := hide h4
    have H12 := hide (And.intro h1 h2)
    have HL := hide hl
    clear UI h1 h2 h3 h4 hl HW c0 c2 c3 c4 HRN
    go_wp2_with fail
    refine SO.out.mono ?_
    rintro e w1 ⟨⟨u, rfl⟩, hn, hb⟩
    have CO := hide (compact_any hn (Nat.le_trans H12.out.2 hb.size) (by rw [ss_len]; exact HL.out))
    have HB5 := hide (HB4.out.trans (hb.mono H12.out.1))
    clear SO hn hb
    go_wp2_with fail
    refine CO.out.mono ?_
    rintro e w2 ⟨v2, rfl, hv, hb⟩
    have HV := hide hv
    have HB6 := hide (HB5.out.trans (hb.mono H12.out.1))
    clear CO hv hb
    go_wp2_with fail
    go_ret
    exact ⟨_, rfl, HV.out.mono H12.out.1, HB6.out⟩
  by_cases h15 : op = 15
  · subst h15
    by_cases ha : 0 ≤ a
    · have HA := hide ha
      go_wp2_with (at_builtin; (refine wpList_append_own _ rfl _ _ 25 rfl W.heap.size 3 i0 _ 1 8 Tryd.underlying25 hi hz0 hz1 hz2 rfl (by decide) _ 0 _ rfl (A0.out.own rfl a) ⟨W.heap.size, 0, none⟩ 1 1 [.int .i64 a] rfl rfl (one_at W a) (one_cell a) (by unfold maxLen; omega) (by omega) (A0.out.sz a) ?_))
      intro v1 u1 hown hgrow _
      have A1 := hide (A0.out.next rfl hown hgrow)
      obtain ⟨_, _, c2, c3, c4, _⟩ := HW.out.cells A1.out.b
      simp only at c2 c3 c4
      obtain ⟨p1, k1, hf⟩ := A1.out.n.form
      subst hf
      clear hown hgrow
      have UI := hide (A1.out.fin HW.out (by simp [raw, HA.out]))
      obtain ⟨B, h1, h2, h3, h4⟩ := UI.out
      have hl := UI.out.len
      have SO := hide (sort_any h3 h2 hl)
      have HB4 := hide h4
      have H12 := hide (And.intro h1 h2)
      have HL := hide hl
      clear UI h1 h2 h3 h4 hl HW c0 c2 c3 c4 HRN
      go_wp2_with fail
      refine SO.out.mono ?_
      rintro e w1 ⟨⟨u, rfl⟩, hn, hb⟩
      have CO := hide (compact_any hn (Nat.le_trans H12.out.2 hb.size) (by rw [ss_len]; exact HL.out))
      have HB5 := hide (HB4.out.trans (hb.mono H12.out.1))
      clear SO hn hb
      go_wp2_with fail
      refine CO.out.mono ?_
      rintro e w2 ⟨v2, rfl, hv, hb⟩
      have HV := hide hv
      have HB6 := hide (HB5.out.trans (hb.mono H12.out.1))
      clear CO hv hb
      go_wp2_with fail
      go_ret
      exact ⟨_, rfl, HV.out.mono H12.out.1, HB6.out⟩
    · have HA := hide ha
      have UI := hide (A0.out.fin HW.out (by simp [raw, HA.out]))
      obtain ⟨B, h1, h2, h3, h4⟩ := UI.out
      have hl := UI.out.len
      have SO := hide (sort_any h3 h2 hl)
      have HB4 := hide h4
      have H12 := hide (And.intro h1 h2)
      have HL := hide hl
      clear UI h1 h2 h3 h4 hl HW HRN
      go_wp2_with fail
      refine SO.out.mono ?_
      rintro e w1 ⟨⟨u, rfl⟩, hn, hb⟩
      have CO := hide (compact_any hn (Nat.le_trans H12.out.2 hb.size) (by rw [ss_len]; exact HL.out))
      have HB5 := hide (HB4.out.trans (hb.mono H12.out.1))
      clear SO hn hb
      go_wp2_with fail
      refine CO.out.mono ?_
      rintro e w2 ⟨v2, rfl, hv, hb⟩
      have HV := hide hv
      have HB6 := hide (HB5.out.trans (hb.mono H12.out.1))
      clear CO hv hb
      go_wp2_with fail
      go_ret
      exact ⟨_, rfl, HV.out.mono H12.out.1, HB6.out⟩
  have HN := hide (HRN.out h15 h4 h3 h6 h2 h8 h11 h12 h13 h5)
  have UI := hide (A0.out.fin HW.out HN.out)
  obtain ⟨B, h1, h2, h3, h4⟩ := UI.out
  have hl := UI.out.len
  have SO := hide (sort_any h3 h2 hl)
  have HB4 := hide h4
  have H12 := hide (And.intro h1 h2)
  have HL := hide hl
  clear UI h1 h2 h3 h4 hl HW HRN
  go_wp2_with fail
  refine SO.out.mono ?_
  rintro e w1 ⟨⟨u, rfl⟩, hn, hb⟩
  have CO := hide (compact_any hn (Nat.le_trans H12.out.2 hb.size) (by rw [ss_len]; exact HL.out))
  have HB5 := hide (HB4.out.trans (hb.mono H12.out.1))
  clear SO hn hb
  go_wp2_with fail
  refine CO.out.mono ?_
  rintro e w2 ⟨v2, rfl, hv, hb⟩
  have HV := hide hv
  have HB6 := hide (HB5.out.trans (hb.mono H12.out.1))
  clear CO hv hb
  go_wp2_with fail
  go_ret
  exact ⟨_, rfl, HV.out.mono H12.out.1, HB6.out⟩
end Go.Proofs.YtjgaaofpfepfhaaDoor

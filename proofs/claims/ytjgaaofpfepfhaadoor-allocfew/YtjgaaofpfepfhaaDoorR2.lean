/-
  The document's Next.
-/
import Derived.Test.YtjgaaofpfepfhaaDoorR1
import Derived.Test.YtjgaaofpfepfhaaDoorAsc
import Derived.Deep.CutBlock
import Derived.Deep.CutRange
namespace Go.Proofs.YtjgaaofpfepfhaaDoor
open Go.RowKit Go.Sort
set_option linter.unusedSimpArgs false
set_option linter.unusedVariables false
theorem NR.nv {B : Nat} {v : Value} {ns : List Int} {w : World} (h : NR B v ns w) : Nv B v ns w := by
  rcases h.2 with ⟨rfl, e⟩ | ⟨g, cap, cur, rfl, hbase, hb, h1, h2, h3, h4⟩
  · have : ns = [] := List.length_eq_zero_iff.1 e
    subst this
    exact Or.inl ⟨rfl, _, _, rfl⟩
  · have hH := holds_of_blockI (ss := ns) hb (by simpa using h4)
    refine Or.inr ⟨g, cap, rfl, hbase, (Array.getElem?_eq_some_iff.1 hb).1, fun j hj => ?_⟩
    have := (hH j (by simpa using hj)).1
    simpa [hj] using this
theorem AI.nv {w W U : World} {v : Value} {ns : List Int} (h : AI W v ns U) (hw : Below w.heap.size w W) : Nv w.heap.size v ns U ∧ Below w.heap.size w U := ⟨h.n.nv.mono hw.size, hw.trans (h.b.mono hw.size)⟩
/-- Of two places, -1 being none, those that there are, in order. -/
def nx2 (t b : Int) : List Int :=
  if t < 0 then (if b < 0 then [] else [b]) else if b < 0 ∨ b = t then [t] else if t < b then [t, b] else [b, t]
def nxa (l : List Ir) (i : Int) : List Int := if 0 ≤ i ∧ i < (l.length : Int) then nxt l i.toNat else []
/-- Where an instruction goes to; what stands behind it. -/
def nto (l : List Ir) (x : Ir) : Int := if jmp x = true then fdi l x.n else -1
def nbh (l : List Ir) (x : Ir) (i : Nat) : Int := if x.op = 10 ∨ i + 1 = l.length then -1 else (i : Int) + 1
theorem nxt_is {l : List Ir} {i : Nat} (hi : i < l.length) : nxt l i = if l[i].op = 15 ∨ l[i].op = 16 then [] else nx2 (nto l l[i]) (nbh l l[i] i) := by
  unfold nxt
  rw [show l.getD i ir0 = l[i] by simp [List.getD, hi]]
  generalize l[i] = x
  unfold nxr
  split
  · exact sc_nil
  · rename_i h1516
    unfold nto nbh
    have e1 : (if x.op ≠ 10 ∧ i + 1 < l.length then [(i : Int) + 1] else ([] : List Int)) = (if x.op = 10 ∨ i + 1 = l.length then ([] : List Int) else [(i : Int) + 1]) := by
      by_cases h10 : x.op = 10
      · simp [h10]
      · by_cases h : i + 1 = l.length
        · have : ¬ i + 1 < l.length := by omega
          simp [h10, h]
        · have : i + 1 < l.length := by omega
          simp [h10, h, this]
    rw [e1]
    cases hj : jmp x
    · simp only [if_neg (show ¬ (false = true) by simp)]
      by_cases h : x.op = 10 ∨ i + 1 = l.length
      · rw [if_pos h, if_pos h]; exact sc_nil
      · rw [if_neg h, if_neg h]
        have : ¬ ((i : Int) + 1 < 0) := by omega
        simp only [nx2, List.nil_append, show ((-1 : Int) < 0) from by omega, if_true, this, if_false]
        exact sc_one _
    · rw [if_pos rfl, if_pos rfl]
      cases hf : fst l x.n with
      | none =>
        rw [fdi_none hf]
        by_cases h : x.op = 10 ∨ i + 1 = l.length
        · rw [if_pos h, if_pos h]; exact sc_nil
        · rw [if_neg h, if_neg h]
          have : ¬ ((i : Int) + 1 < 0) := by omega
          simp only [nx2, List.nil_append, show ((-1 : Int) < 0) from by omega, if_true, this, if_false]
          exact sc_one _
      | some p =>
        rw [fdi_some hf]
        have hp : ¬ ((p : Int) < 0) := by omega
        by_cases h : x.op = 10 ∨ i + 1 = l.length
        · rw [if_pos h, if_pos h]
          unfold nx2
          rw [if_neg hp, if_pos (Or.inl (by omega))]
          exact sc_one _
        · rw [if_neg h, if_neg h]
          unfold nx2
          rw [if_neg hp]
          by_cases e : (i : Int) + 1 = (p : Int)
          · rw [if_pos (Or.inr e), e]; exact sc_same _
          · rw [if_neg (by omega)]
            by_cases e2 : (p : Int) < (i : Int) + 1
            · rw [if_pos e2]; exact sc_lt e2
            · rw [if_neg e2]; exact sc_gt (by omega)
set_option maxRecDepth 100000 in
set_option maxHeartbeats 6400000 in
theorem rnext_any (d : Cd) (a : Option Addr) (cap : Nat) (l : List Ir) (at_ : Int) (w : World) (hl : l.length ≤ 1000) (hr : IR w.heap.size w a l) :
    Calls Tryd.prog 46 #[cv d a l.length cap, .int .i64 at_] w fun e w' => ∃ v, e = .returned v ∧ Nv w.heap.size v (nxa l at_) w' ∧ Below w.heap.size w w' := by
  have HL := hide hl
  have HR := hide hr
  have B0 : FB d a l.length cap w.heap.size l w (w.alloc (.cells #[.int .i64 d.cells, .int .i64 d.params, .slice a l.length cap, .int .i64 d.labels] 24)) := ⟨bel_one _ _, by simp, heap_alloc_new _ _⟩
  clear hl hr
  have NA := hide (show nxa l at_ = if 0 ≤ at_ ∧ at_ < (l.length : Int) then nxt l at_.toNat else [] from rfl)
  have CV := hide (show ∀ x, cv d a l.length cap = x → cv d a l.length cap = x from fun _ h => h)
  obtain ⟨cs, ps, ls⟩ := d
  unfold cv at CV ⊢
  simp only at B0 CV ⊢
  go_enter Tryd.func46, Tryd.ntmps46
  go_upto_region 1 with fail
  refine gw (motive := fun x => Code.wp _ _ _ _ x) (fun W => Hid (FB ⟨cs, ps, ls⟩ a l.length cap w.heap.size l w W)) B0 ?_
  rintro W HW
  clear B0
  obtain ⟨c0, c1, c2, c3⟩ := HW.out.cells (Below.refl _ W) HW.out.lt
  simp only at c0 c1 c2 c3
  by_cases h0 : at_ < 0
  · have NN : Hid (nxa l at_ = []) := by show _ = _; rw [NA.out, if_neg (by omega)]
    go_wp2_with fail
    go_ret
    exact ⟨_, rfl, Or.inl ⟨NN.out, _, _, rfl⟩, HW.out.b⟩
  by_cases h1 : at_ < (l.length : Int)
  case neg =>
    have NN : Hid (nxa l at_ = []) := by show _ = _; rw [NA.out, if_neg (by omega)]
    go_wp2_with fail
    go_ret
    exact ⟨_, rfl, Or.inl ⟨NN.out, _, _, rfl⟩, HW.out.b⟩
  have NN : Hid (nxa l at_ = nxt l at_.toNat) := by show _ = _; rw [NA.out, if_pos (by omega)]
  obtain ⟨i, hi⟩ : ∃ i : Nat, at_ = (i : Int) := ⟨at_.toNat, by omega⟩
  subst hi
  have hlt : i < l.length := by omega
  rw [Int.toNat_natCast] at NN
  have NX := hide (nxt_is hlt)
  obtain ⟨b, o, rfl, hb, hcx, hox⟩ := (HR.out.bel HW.out.b) i hlt
  obtain ⟨d0, d1, d2, d3, d4, d5, d6⟩ := hcx
  have hX := Bx.made l[i] W
  have HIR := hide (fun U (h : Below W.heap.size W U) => ((HR.out.bel HW.out.b).up HW.out.b.size).bel h |>.up h.size)
  clear CV NA
  generalize l[i] = x at *
  obtain ⟨op, dst, aa, bb, cc, nn, mm⟩ := x
  unfold xc at hX
  simp only at d0 d1 d2 d3 d4 d5 d6 NX
  go_upto_region 4 with fail
  refine gw (motive := fun x => Code.wp _ _ _ _ x) (fun V => Hid (Bx W.heap.size ⟨op, dst, aa, bb, cc, nn, mm⟩ W V)) hX ?_
  rintro V HV
  clear hX d0 d1 d2 d3 d4 d5 d6
  have hqW := HW.out.lt
  obtain ⟨c0, c1, c2, c3⟩ := HW.out.cells HV.out.b hqW
  obtain ⟨e0, e1, e2, e3, e4, e5⟩ := HV.out.cells (Below.refl _ V)
  simp only at c0 c1 c2 c3 e0 e1 e2 e3 e4 e5
  have FA := hide (rfind_any ⟨cs, ps, ls⟩ (some ⟨b, o, none⟩) cap l nn V HL.out (HIR.out V HV.out.b))
  unfold cv at FA
  simp only at FA
  go_wp2_with fail
  have hw : wrap64 ((i : Int) + 1) = (i : Int) + 1 := by have := HL.out; unfold wrap64; omega
  refine FA.out.mono ?_
  rintro e W1 ⟨rfl, hb1⟩
  clear FA
  have HB1 := hide hb1
  obtain ⟨c0, c1, c2, c3⟩ := HW.out.cells (HV.out.b.trans (hb1.mono HV.out.b.size)) hqW
  obtain ⟨e0, e1, e2, e3, e4, e5⟩ := HV.out.cells hb1
  simp only at c0 c1 c2 c3 e0 e1 e2 e3 e4 e5
  obtain ⟨i0, hi, hz0, hz1, hz2⟩ := info_parts info3
  have HBW := hide ((HW.out.b.trans (HV.out.b.mono HW.out.b.size)).trans (hb1.mono (Nat.le_trans HW.out.b.size HV.out.b.size)))
  have A0 := hide (AI.start W1)
  have TL := fdk_lim l nn l.length
  have JM : Hid (jmp ⟨op, dst, aa, bb, cc, nn, mm⟩ = (op == 10 || op == 11 || op == 12)) := rfl
  have NT : Hid (nto l ⟨op, dst, aa, bb, cc, nn, mm⟩ = if jmp ⟨op, dst, aa, bb, cc, nn, mm⟩ = true then fdi l nn else -1) := rfl
  have NB : Hid (nbh l ⟨op, dst, aa, bb, cc, nn, mm⟩ i = if op = 10 ∨ i + 1 = l.length then -1 else (i : Int) + 1) := rfl
  have N2 := hide (fun t b => show nx2 t b = if t < 0 then (if b < 0 then [] else [b]) else if b < 0 ∨ b = t then [t] else if t < b then [t, b] else [b, t] from rfl)
  have hl5 := HL.out
  rw [show fdk l nn l.length = fdi l nn from rfl] at TL
  generalize fdi l nn = t at *
  generalize nto l ⟨op, dst, aa, bb, cc, nn, mm⟩ = nt at *
  generalize nbh l ⟨op, dst, aa, bb, cc, nn, mm⟩ i = nb at *
  clear hb1 HIR HR
  obtain ⟨t0, t1⟩ := TL
  have NTL : -1 ≤ nt ∧ nt ≤ 1001 := by
    have := NT.out
    split at this <;> omega
  have NBL : -1 ≤ nb ∧ nb ≤ 1001 := by
    have := NB.out
    split at this <;> omega
  by_cases hlast : i + 1 = l.length
  · have hlz : (i : Int) + 1 = (l.length : Int) := by omega
    have hlq : ((i : Int) + 1 == (l.length : Int)) = true := by simpa using hlz
    by_cases h15 : op = 15
    · subst h15
      have NF : Hid (nxa l (i : Int) = []) := by show _ = _; rw [NN.out, NX.out, if_pos (Or.inl rfl)]
      go_wp2_with fail
      go_ret
      exact ⟨_, rfl, Or.inl ⟨NF.out, _, _, rfl⟩, HBW.out⟩
    by_cases h16 : op = 16
    · subst h16
      have NF : Hid (nxa l (i : Int) = []) := by show _ = _; rw [NN.out, NX.out, if_pos (Or.inr rfl)]
      go_wp2_with fail
      go_ret
      exact ⟨_, rfl, Or.inl ⟨NF.out, _, _, rfl⟩, HBW.out⟩
    have NX2 : Hid (nxt l i = nx2 nt nb) := by show _ = _; rw [NX.out, if_neg (by omega)]
    clear NX
    go_upto_block 0 with fail
    go_cut [6, 8] from 42 to 71 (fun s6 s8 wx => s6 = .int .i64 nt ∧ s8 = .int .i64 nb ∧ wx = W1)
    case first =>
      by_cases h10 : op = 10
      · subst h10
        have ET : Hid (nt = t) := by show _ = _; rw [NT.out, JM.out]; rfl
        have EB : Hid (nb = -1) := by show _ = _; rw [NB.out, if_pos (Or.inl rfl)]
        go_wp2_with fail
        go_meet
        case rel => exact ⟨by rw [ET.out], by rw [EB.out], rfl⟩
      by_cases h11 : op = 11
      · subst h11
        have ET : Hid (nt = t) := by show _ = _; rw [NT.out, JM.out]; rfl
        have EB : Hid (nb = -1) := by show _ = _; rw [NB.out, if_pos (Or.inr hlast)]
        go_wp2_with fail
        go_meet
        case rel => exact ⟨by rw [ET.out], by rw [EB.out], rfl⟩
      by_cases h12 : op = 12
      · subst h12
        have ET : Hid (nt = t) := by show _ = _; rw [NT.out, JM.out]; rfl
        have EB : Hid (nb = -1) := by show _ = _; rw [NB.out, if_pos (Or.inr hlast)]
        go_wp2_with fail
        go_meet
        case rel => exact ⟨by rw [ET.out], by rw [EB.out], rfl⟩
      have ET : Hid (nt = -1) := by show _ = _; rw [NT.out, JM.out, if_neg (by simp [h10, h11, h12])]
      have EB : Hid (nb = -1) := by show _ = _; rw [NB.out, if_pos (Or.inr hlast)]
      go_wp2_with fail
      go_meet
      case rel => exact ⟨by rw [ET.out], by rw [EB.out], rfl⟩
    case rest =>
      obtain ⟨rfl, rfl, rfl⟩ := hcut
      clear NT NB JM
      by_cases ht : nt < 0
      · obtain rfl : nt = -1 := by omega
        by_cases hb : nb < 0
        · obtain rfl : nb = -1 := by omega
          have NF : Hid (nxa l (i : Int) = []) := by show _ = _; rw [NN.out, NX2.out, N2.out]; repeat (first | rw [if_pos (by omega)] | rw [if_neg (by omega)])
          clear NX2 NN N2
          go_wp2_with fail
          go_ret
          exact ⟨_, rfl, by rw [NF.out]; exact (A0.out.nv HBW.out).1, (A0.out.nv HBW.out).2⟩
        · have hne : ¬ (-1 : Int) = nb := by omega
          have hmn : min (-1 : Int) (nb : Int) = -1 := by omega
          have hmx : max (-1 : Int) (nb : Int) = nb := by omega
          have NF : Hid (nxa l (i : Int) = [nb]) := by show _ = _; rw [NN.out, NX2.out, N2.out]; repeat (first | rw [if_pos (by omega)] | rw [if_neg (by omega)])
          clear NX2 NN N2
          go_wp2_with (at_builtin; (refine wpList_append_own _ rfl _ _ 25 rfl wc.heap.size 3 i0 _ 1 8 Tryd.underlying25 hi hz0 hz1 hz2 rfl (by decide) _ 0 _ rfl (A0.out.own rfl nb) ⟨wc.heap.size, 0, none⟩ 1 1 [.int .i64 nb] rfl rfl (one_at wc nb) (one_cell nb) (by unfold maxLen; omega) (by omega) (A0.out.sz nb) ?_))
          intro v1 u1 hown hgrow _
          have A1 := hide (A0.out.next rfl hown hgrow)
          obtain ⟨p1, k1, hf1⟩ := A1.out.n.form
          subst hf1
          clear hown hgrow
          go_wp2_with fail
          go_ret
          exact ⟨_, rfl, by rw [NF.out]; exact (A1.out.nv HBW.out).1, (A1.out.nv HBW.out).2⟩
      by_cases hb : nb < 0
      · obtain rfl : nb = -1 := by omega
        have hne : ¬ nt = -1 := by omega
        have hmn : min (nt : Int) (-1 : Int) = -1 := by omega
        have hmx : max (nt : Int) (-1 : Int) = nt := by omega
        have NF : Hid (nxa l (i : Int) = [nt]) := by show _ = _; rw [NN.out, NX2.out, N2.out]; repeat (first | rw [if_pos (by omega)] | rw [if_neg (by omega)])
        clear NX2 NN N2
        go_wp2_with (at_builtin; (refine wpList_append_own _ rfl _ _ 25 rfl wc.heap.size 3 i0 _ 1 8 Tryd.underlying25 hi hz0 hz1 hz2 rfl (by decide) _ 0 _ rfl (A0.out.own rfl nt) ⟨wc.heap.size, 0, none⟩ 1 1 [.int .i64 nt] rfl rfl (one_at wc nt) (one_cell nt) (by unfold maxLen; omega) (by omega) (A0.out.sz nt) ?_))
        intro v1 u1 hown hgrow _
        have A1 := hide (A0.out.next rfl hown hgrow)
        obtain ⟨p1, k1, hf1⟩ := A1.out.n.form
        subst hf1
        clear hown hgrow
        go_wp2_with fail
        go_ret
        exact ⟨_, rfl, by rw [NF.out]; exact (A1.out.nv HBW.out).1, (A1.out.nv HBW.out).2⟩
      by_cases hq : nt = nb
      · subst hq
        have hmn : min (nt : Int) (-1 : Int) = -1 := by omega
        have hmx : max (nt : Int) (-1 : Int) = nt := by omega
        have NF : Hid (nxa l (i : Int) = [nt]) := by show _ = _; rw [NN.out, NX2.out, N2.out]; repeat (first | rw [if_pos (by omega)] | rw [if_neg (by omega)])
        clear NX2 NN N2
        go_wp2_with (at_builtin; (refine wpList_append_own _ rfl _ _ 25 rfl wc.heap.size 3 i0 _ 1 8 Tryd.underlying25 hi hz0 hz1 hz2 rfl (by decide) _ 0 _ rfl (A0.out.own rfl nt) ⟨wc.heap.size, 0, none⟩ 1 1 [.int .i64 nt] rfl rfl (one_at wc nt) (one_cell nt) (by unfold maxLen; omega) (by omega) (A0.out.sz nt) ?_))
        intro v1 u1 hown hgrow _
        have A1 := hide (A0.out.next rfl hown hgrow)
        obtain ⟨p1, k1, hf1⟩ := A1.out.n.form
        subst hf1
        clear hown hgrow
        go_wp2_with fail
        go_ret
        exact ⟨_, rfl, by rw [NF.out]; exact (A1.out.nv HBW.out).1, (A1.out.nv HBW.out).2⟩
      by_cases hq2 : nt < nb
      · have hmn : min (nt : Int) (nb : Int) = nt := by omega
        have hmx : max (nt : Int) (nb : Int) = nb := by omega
        have NF : Hid (nxa l (i : Int) = [nt, nb]) := by show _ = _; rw [NN.out, NX2.out, N2.out]; repeat (first | rw [if_pos (by omega)] | rw [if_neg (by omega)])
        clear NX2 NN N2
        go_wp2_with (at_builtin; (refine wpList_append_own _ rfl _ _ 25 rfl wc.heap.size 3 i0 _ 1 8 Tryd.underlying25 hi hz0 hz1 hz2 rfl (by decide) _ 0 _ rfl (A0.out.own rfl nt) ⟨wc.heap.size, 0, none⟩ 1 1 [.int .i64 nt] rfl rfl (one_at wc nt) (one_cell nt) (by unfold maxLen; omega) (by omega) (A0.out.sz nt) ?_))
        intro v1 u1 hown hgrow _
        have A1 := hide (A0.out.next rfl hown hgrow)
        obtain ⟨p1, k1, hf1⟩ := A1.out.n.form
        subst hf1
        clear hown hgrow
        go_wp2_with (at_builtin; (refine wpList_append_own _ rfl _ _ 25 rfl wc.heap.size 3 i0 _ 1 8 Tryd.underlying25 hi hz0 hz1 hz2 rfl (by decide) _ 1 _ rfl (A1.out.own rfl nb) ⟨u1.heap.size, 0, none⟩ 1 1 [.int .i64 nb] rfl rfl (one_at u1 nb) (one_cell nb) (by unfold maxLen; omega) (by omega) (A1.out.sz nb) ?_))
        intro v2 u2 hown hgrow _
        have A2 := hide (A1.out.next rfl hown hgrow)
        obtain ⟨p2, k2, hf2⟩ := A2.out.n.form
        subst hf2
        clear hown hgrow
        go_wp2_with fail
        go_ret
        exact ⟨_, rfl, by rw [NF.out]; exact (A2.out.nv HBW.out).1, (A2.out.nv HBW.out).2⟩
      · have hmn : min (nt : Int) (nb : Int) = nb := by omega
        have hmx : max (nt : Int) (nb : Int) = nt := by omega
        have NF : Hid (nxa l (i : Int) = [nb, nt]) := by show _ = _; rw [NN.out, NX2.out, N2.out]; repeat (first | rw [if_pos (by omega)] | rw [if_neg (by omega)])
        clear NX2 NN N2
        go_wp2_with (at_builtin; (refine wpList_append_own _ rfl _ _ 25 rfl wc.heap.size 3 i0 _ 1 8 Tryd.underlying25 hi hz0 hz1 hz2 rfl (by decide) _ 0 _ rfl (A0.out.own rfl nb) ⟨wc.heap.size, 0, none⟩ 1 1 [.int .i64 nb] rfl rfl (one_at wc nb) (one_cell nb) (by unfold maxLen; omega) (by omega) (A0.out.sz nb) ?_))
        intro v1 u1 hown hgrow _
        have A1 := hide (A0.out.next rfl hown hgrow)
        obtain ⟨p1, k1, hf1⟩ := A1.out.n.form
        subst hf1
        clear hown hgrow
        go_wp2_with (at_builtin; (refine wpList_append_own _ rfl _ _ 25 rfl wc.heap.size 3 i0 _ 1 8 Tryd.underlying25 hi hz0 hz1 hz2 rfl (by decide) _ 1 _ rfl (A1.out.own rfl nt) ⟨u1.heap.size, 0, none⟩ 1 1 [.int .i64 nt] rfl rfl (one_at u1 nt) (one_cell nt) (by unfold maxLen; omega) (by omega) (A1.out.sz nt) ?_))
        intro v2 u2 hown hgrow _
        have A2 := hide (A1.out.next rfl hown hgrow)
        obtain ⟨p2, k2, hf2⟩ := A2.out.n.form
        subst hf2
        clear hown hgrow
        go_wp2_with fail
        go_ret
        exact ⟨_, rfl, by rw [NF.out]; exact (A2.out.nv HBW.out).1, (A2.out.nv HBW.out).2⟩
  · have hlz : ¬ (i : Int) + 1 = (l.length : Int) := by omega
    have hlq : ((i : Int) + 1 == (l.length : Int)) = false := by simpa using hlz
    by_cases h15 : op = 15
    · subst h15
      have NF : Hid (nxa l (i : Int) = []) := by show _ = _; rw [NN.out, NX.out, if_pos (Or.inl rfl)]
      go_wp2_with fail
      go_ret
      exact ⟨_, rfl, Or.inl ⟨NF.out, _, _, rfl⟩, HBW.out⟩
    by_cases h16 : op = 16
    · subst h16
      have NF : Hid (nxa l (i : Int) = []) := by show _ = _; rw [NN.out, NX.out, if_pos (Or.inr rfl)]
      go_wp2_with fail
      go_ret
      exact ⟨_, rfl, Or.inl ⟨NF.out, _, _, rfl⟩, HBW.out⟩
    have NX2 : Hid (nxt l i = nx2 nt nb) := by show _ = _; rw [NX.out, if_neg (by omega)]
    clear NX
    go_upto_block 0 with fail
    go_cut [6, 8] from 42 to 71 (fun s6 s8 wx => s6 = .int .i64 nt ∧ s8 = .int .i64 nb ∧ wx = W1)
    case first =>
      by_cases h10 : op = 10
      · subst h10
        have ET : Hid (nt = t) := by show _ = _; rw [NT.out, JM.out]; rfl
        have EB : Hid (nb = -1) := by show _ = _; rw [NB.out, if_pos (Or.inl rfl)]
        go_wp2_with fail
        go_meet
        case rel => exact ⟨by rw [ET.out], by rw [EB.out], rfl⟩
      by_cases h11 : op = 11
      · subst h11
        have ET : Hid (nt = t) := by show _ = _; rw [NT.out, JM.out]; rfl
        have EB : Hid (nb = (i : Int) + 1) := by show _ = _; rw [NB.out, if_neg (by omega)]
        go_wp2_with fail
        go_meet
        case rel => exact ⟨by rw [ET.out], by rw [EB.out], rfl⟩
      by_cases h12 : op = 12
      · subst h12
        have ET : Hid (nt = t) := by show _ = _; rw [NT.out, JM.out]; rfl
        have EB : Hid (nb = (i : Int) + 1) := by show _ = _; rw [NB.out, if_neg (by omega)]
        go_wp2_with fail
        go_meet
        case rel => exact ⟨by rw [ET.out], by rw [EB.out], rfl⟩
      have ET : Hid (nt = -1) := by show _ = _; rw [NT.out, JM.out, if_neg (by simp [h10, h11, h12])]
      have EB : Hid (nb = (i : Int) + 1) := by show _ = _; rw [NB.out, if_neg (by omega)]
      go_wp2_with fail
      go_meet
      case rel => exact ⟨by rw [ET.out], by rw [EB.out], rfl⟩
    case rest =>
      obtain ⟨rfl, rfl, rfl⟩ := hcut
      clear NT NB JM
      by_cases ht : nt < 0
      · obtain rfl : nt = -1 := by omega
        by_cases hb : nb < 0
        · obtain rfl : nb = -1 := by omega
          have NF : Hid (nxa l (i : Int) = []) := by show _ = _; rw [NN.out, NX2.out, N2.out]; repeat (first | rw [if_pos (by omega)] | rw [if_neg (by omega)])
          clear NX2 NN N2
          go_wp2_with fail
          go_ret
          exact ⟨_, rfl, by rw [NF.out]; exact (A0.out.nv HBW.out).1, (A0.out.nv HBW.out).2⟩
        · have hne : ¬ (-1 : Int) = nb := by omega
          have hmn : min (-1 : Int) (nb : Int) = -1 := by omega
          have hmx : max (-1 : Int) (nb : Int) = nb := by omega
          have NF : Hid (nxa l (i : Int) = [nb]) := by show _ = _; rw [NN.out, NX2.out, N2.out]; repeat (first | rw [if_pos (by omega)] | rw [if_neg (by omega)])
          clear NX2 NN N2
          go_wp2_with (at_builtin; (refine wpList_append_own _ rfl _ _ 25 rfl wc.heap.size 3 i0 _ 1 8 Tryd.underlying25 hi hz0 hz1 hz2 rfl (by decide) _ 0 _ rfl (A0.out.own rfl nb) ⟨wc.heap.size, 0, none⟩ 1 1 [.int .i64 nb] rfl rfl (one_at wc nb) (one_cell nb) (by unfold maxLen; omega) (by omega) (A0.out.sz nb) ?_))
          intro v1 u1 hown hgrow _
          have A1 := hide (A0.out.next rfl hown hgrow)
          obtain ⟨p1, k1, hf1⟩ := A1.out.n.form
          subst hf1
          clear hown hgrow
          go_wp2_with fail
          go_ret
          exact ⟨_, rfl, by rw [NF.out]; exact (A1.out.nv HBW.out).1, (A1.out.nv HBW.out).2⟩
      by_cases hb : nb < 0
      · obtain rfl : nb = -1 := by omega
        have hne : ¬ nt = -1 := by omega
        have hmn : min (nt : Int) (-1 : Int) = -1 := by omega
        have hmx : max (nt : Int) (-1 : Int) = nt := by omega
        have NF : Hid (nxa l (i : Int) = [nt]) := by show _ = _; rw [NN.out, NX2.out, N2.out]; repeat (first | rw [if_pos (by omega)] | rw [if_neg (by omega)])
        clear NX2 NN N2
        go_wp2_with (at_builtin; (refine wpList_append_own _ rfl _ _ 25 rfl wc.heap.size 3 i0 _ 1 8 Tryd.underlying25 hi hz0 hz1 hz2 rfl (by decide) _ 0 _ rfl (A0.out.own rfl nt) ⟨wc.heap.size, 0, none⟩ 1 1 [.int .i64 nt] rfl rfl (one_at wc nt) (one_cell nt) (by unfold maxLen; omega) (by omega) (A0.out.sz nt) ?_))
        intro v1 u1 hown hgrow _
        have A1 := hide (A0.out.next rfl hown hgrow)
        obtain ⟨p1, k1, hf1⟩ := A1.out.n.form
        subst hf1
        clear hown hgrow
        go_wp2_with fail
        go_ret
        exact ⟨_, rfl, by rw [NF.out]; exact (A1.out.nv HBW.out).1, (A1.out.nv HBW.out).2⟩
      by_cases hq : nt = nb
      · subst hq
        have hmn : min (nt : Int) (-1 : Int) = -1 := by omega
        have hmx : max (nt : Int) (-1 : Int) = nt := by omega
        have NF : Hid (nxa l (i : Int) = [nt]) := by show _ = _; rw [NN.out, NX2.out, N2.out]; repeat (first | rw [if_pos (by omega)] | rw [if_neg (by omega)])
        clear NX2 NN N2
        go_wp2_with (at_builtin; (refine wpList_append_own _ rfl _ _ 25 rfl wc.heap.size 3 i0 _ 1 8 Tryd.underlying25 hi hz0 hz1 hz2 rfl (by decide) _ 0 _ rfl (A0.out.own rfl nt) ⟨wc.heap.size, 0, none⟩ 1 1 [.int .i64 nt] rfl rfl (one_at wc nt) (one_cell nt) (by unfold maxLen; omega) (by omega) (A0.out.sz nt) ?_))
        intro v1 u1 hown hgrow _
        have A1 := hide (A0.out.next rfl hown hgrow)
        obtain ⟨p1, k1, hf1⟩ := A1.out.n.form
        subst hf1
        clear hown hgrow
        go_wp2_with fail
        go_ret
        exact ⟨_, rfl, by rw [NF.out]; exact (A1.out.nv HBW.out).1, (A1.out.nv HBW.out).2⟩
      by_cases hq2 : nt < nb
      · have hmn : min (nt : Int) (nb : Int) = nt := by omega
        have hmx : max (nt : Int) (nb : Int) = nb := by omega
        have NF : Hid (nxa l (i : Int) = [nt, nb]) := by show _ = _; rw [NN.out, NX2.out, N2.out]; repeat (first | rw [if_pos (by omega)] | rw [if_neg (by omega)])
        clear NX2 NN N2
        go_wp2_with (at_builtin; (refine wpList_append_own _ rfl _ _ 25 rfl wc.heap.size 3 i0 _ 1 8 Tryd.underlying25 hi hz0 hz1 hz2 rfl (by decide) _ 0 _ rfl (A0.out.own rfl nt) ⟨wc.heap.size, 0, none⟩ 1 1 [.int .i64 nt] rfl rfl (one_at wc nt) (one_cell nt) (by unfold maxLen; omega) (by omega) (A0.out.sz nt) ?_))
        intro v1 u1 hown hgrow _
        have A1 := hide (A0.out.next rfl hown hgrow)
        obtain ⟨p1, k1, hf1⟩ := A1.out.n.form
        subst hf1
        clear hown hgrow
        go_wp2_with (at_builtin; (refine wpList_append_own _ rfl _ _ 25 rfl wc.heap.size 3 i0 _ 1 8 Tryd.underlying25 hi hz0 hz1 hz2 rfl (by decide) _ 1 _ rfl (A1.out.own rfl nb) ⟨u1.heap.size, 0, none⟩ 1 1 [.int .i64 nb] rfl rfl (one_at u1 nb) (one_cell nb) (by unfold maxLen; omega) (by omega) (A1.out.sz nb) ?_))
        intro v2 u2 hown hgrow _
        have A2 := hide (A1.out.next rfl hown hgrow)
        obtain ⟨p2, k2, hf2⟩ := A2.out.n.form
        subst hf2
        clear hown hgrow
        go_wp2_with fail
        go_ret
        exact ⟨_, rfl, by rw [NF.out]; exact (A2.out.nv HBW.out).1, (A2.out.nv HBW.out).2⟩
      · have hmn : min (nt : Int) (nb : Int) = nb := by omega
        have hmx : max (nt : Int) (nb : Int) = nt := by omega
        have NF : Hid (nxa l (i : Int) = [nb, nt]) := by show _ = _; rw [NN.out, NX2.out, N2.out]; repeat (first | rw [if_pos (by omega)] | rw [if_neg (by omega)])
        clear NX2 NN N2
        go_wp2_with (at_builtin; (refine wpList_append_own _ rfl _ _ 25 rfl wc.heap.size 3 i0 _ 1 8 Tryd.underlying25 hi hz0 hz1 hz2 rfl (by decide) _ 0 _ rfl (A0.out.own rfl nb) ⟨wc.heap.size, 0, none⟩ 1 1 [.int .i64 nb] rfl rfl (one_at wc nb) (one_cell nb) (by unfold maxLen; omega) (by omega) (A0.out.sz nb) ?_))
        intro v1 u1 hown hgrow _
        have A1 := hide (A0.out.next rfl hown hgrow)
        obtain ⟨p1, k1, hf1⟩ := A1.out.n.form
        subst hf1
        clear hown hgrow
        go_wp2_with (at_builtin; (refine wpList_append_own _ rfl _ _ 25 rfl wc.heap.size 3 i0 _ 1 8 Tryd.underlying25 hi hz0 hz1 hz2 rfl (by decide) _ 1 _ rfl (A1.out.own rfl nt) ⟨u1.heap.size, 0, none⟩ 1 1 [.int .i64 nt] rfl rfl (one_at u1 nt) (one_cell nt) (by unfold maxLen; omega) (by omega) (A1.out.sz nt) ?_))
        intro v2 u2 hown hgrow _
        have A2 := hide (A1.out.next rfl hown hgrow)
        obtain ⟨p2, k2, hf2⟩ := A2.out.n.form
        subst hf2
        clear hown hgrow
        go_wp2_with fail
        go_ret
        exact ⟨_, rfl, by rw [NF.out]; exact (A2.out.nv HBW.out).1, (A2.out.nv HBW.out).2⟩
end Go.Proofs.YtjgaaofpfepfhaaDoor

/-
  The document's Uses.
-/
import Derived.Test.YtjgaaofpfepfhaaDoorR3
import Derived.Laws.AppendOwnNone
import Derived.Deep.CutBlock
import Derived.Deep.CutRange
namespace Go.Proofs.YtjgaaofpfepfhaaDoor
open Go.RowKit Go.Sort
set_option linter.unusedSimpArgs false
set_option linter.unusedVariables false
theorem NR.nw {B : Nat} {v : Value} {ns : List Int} {w : World} (h : NR B v ns w) : Nv B v ns w := by
  rcases h.two with ⟨rfl, rfl⟩ | ⟨g, c, rfl, h1, h2, _, h3⟩
  · exact Or.inl ⟨rfl, _, _, rfl⟩
  · exact Or.inr ⟨g, c, rfl, h1, h2, h3⟩
/-- A row that was just laid. -/
structure Lst (W : World) (v : Value) (ls : List Int) (U : World) : Prop where
  n : Nv W.heap.size v ls U
  b : Below W.heap.size W U
theorem lst_nil (W : World) : Lst W (.slice none 0 0) [] W := ⟨Or.inl ⟨rfl, _, _, rfl⟩, Below.refl _ _⟩
theorem lst_1 (W : World) (a : Int) : Lst W (.slice (some ⟨W.heap.size, 0, none⟩) 1 1) [a] (W.alloc (.cells #[.int .i64 a] 3)) := by
  have e := heap_alloc_new W (.cells #[.int .i64 a] 3)
  have k := bel_one W (.cells #[.int .i64 a] 3)
  have s : W.heap.size < (W.alloc (.cells #[.int .i64 a] 3)).heap.size := by simp
  generalize W.alloc (.cells #[.int .i64 a] 3) = U at *
  refine ⟨Or.inr ⟨_, _, rfl, Nat.le_refl _, s, fun j hj => ?_⟩, k⟩
  match j, hj with
  | 0, _ => simp [World.cell?, e]
  | j + 1, h => exact absurd h (by simp)
theorem lst_2 (W : World) (a b : Int) : Lst W (.slice (some ⟨W.heap.size, 0, none⟩) 2 2) [a, b] (W.alloc (.cells #[.int .i64 a, .int .i64 b] 3)) := by
  have e := heap_alloc_new W (.cells #[.int .i64 a, .int .i64 b] 3)
  have k := bel_one W (.cells #[.int .i64 a, .int .i64 b] 3)
  have s : W.heap.size < (W.alloc (.cells #[.int .i64 a, .int .i64 b] 3)).heap.size := by simp
  generalize W.alloc (.cells #[.int .i64 a, .int .i64 b] 3) = U at *
  refine ⟨Or.inr ⟨_, _, rfl, Nat.le_refl _, s, fun j hj => ?_⟩, k⟩
  match j, hj with
  | 0, _ => simp [World.cell?, e]
  | 1, _ => simp [World.cell?, e]
  | j + 2, h => exact absurd h (by simp)
theorem lst_3 (W : World) (a b c : Int) : Lst W (.slice (some ⟨W.heap.size, 0, none⟩) 3 3) [a, b, c] (W.alloc (.cells #[.int .i64 a, .int .i64 b, .int .i64 c] 3)) := by
  have e := heap_alloc_new W (.cells #[.int .i64 a, .int .i64 b, .int .i64 c] 3)
  have k := bel_one W (.cells #[.int .i64 a, .int .i64 b, .int .i64 c] 3)
  have s : W.heap.size < (W.alloc (.cells #[.int .i64 a, .int .i64 b, .int .i64 c] 3)).heap.size := by simp
  generalize W.alloc (.cells #[.int .i64 a, .int .i64 b, .int .i64 c] 3) = U at *
  refine ⟨Or.inr ⟨_, _, rfl, Nat.le_refl _, s, fun j hj => ?_⟩, k⟩
  match j, hj with
  | 0, _ => simp [World.cell?, e]
  | 1, _ => simp [World.cell?, e]
  | 2, _ => simp [World.cell?, e]
  | j + 3, h => exact absurd h (by simp)
set_option maxRecDepth 100000 in
set_option maxHeartbeats 6400000 in
theorem ruses_any (x : Ir) (w : World) : Calls Tryd.prog 30 #[xv x] w fun e w' => ∃ v, e = .returned v ∧ Nv w.heap.size v (us x) w' ∧ Below w.heap.size w w' := by
  obtain ⟨i0, hi, hz0, hz1, hz2⟩ := info_parts info3
  have B0 := Bx.made x w
  have RU := hide (rav_us x)
  have RL := rav_len x
  have RN : Hid (rav x = if x.op = 15 then (if 0 ≤ x.a then [x.a] else []) else if x.op = 4 then [x.a, x.b, x.c] else if x.op = 3 ∨ x.op = 6 then [x.a, x.b] else if x.op = 2 ∨ x.op = 8 ∨ x.op = 11 ∨ x.op = 12 ∨ x.op = 13 ∨ x.op = 5 then [x.a] else []) := rfl
  generalize us x = ux at *
  generalize rav x = ls at *
  obtain ⟨op, dst, a, b, c, n, m⟩ := x
  unfold xv
  unfold xc at B0 ⊢
  simp only at RN
  go_enter Tryd.func30, Tryd.ntmps30
  go_upto_region 2 with fail
  refine gw (motive := fun x => Code.wp _ _ _ _ x) (fun W => Hid (Bx w.heap.size ⟨op, dst, a, b, c, n, m⟩ w W)) B0 ?_
  rintro W HW
  clear B0
  obtain ⟨c0, _, c2, c3, c4, _⟩ := HW.out.cells (Below.refl _ W)
  simp only at c0 c2 c3 c4
  go_upto_block 0 with fail
  go_cut [3] from 10 to 100 (fun s3 wx => ∃ v, s3 = v ∧ Hid (Lst W v ls wx))
  case first =>
    by_cases h2 : op = 2
    · subst h2
      have LS : Hid (ls = [a]) := by show _ = _; rw [RN.out]; rfl
      go_wp2_with fail
      go_meet
      case rel => exact ⟨_, rfl, by rw [LS.out]; exact lst_1 W a⟩
    by_cases h8 : op = 8
    · subst h8
      have LS : Hid (ls = [a]) := by show _ = _; rw [RN.out]; rfl
      go_wp2_with fail
      go_meet
      case rel => exact ⟨_, rfl, by rw [LS.out]; exact lst_1 W a⟩
    by_cases h11 : op = 11
    · subst h11
      have LS : Hid (ls = [a]) := by show _ = _; rw [RN.out]; rfl
      go_wp2_with fail
      go_meet
      case rel => exact ⟨_, rfl, by rw [LS.out]; exact lst_1 W a⟩
    by_cases h12 : op = 12
    · subst h12
      have LS : Hid (ls = [a]) := by show _ = _; rw [RN.out]; rfl
      go_wp2_with fail
      go_meet
      case rel => exact ⟨_, rfl, by rw [LS.out]; exact lst_1 W a⟩
    by_cases h13 : op = 13
    · subst h13
      have LS : Hid (ls = [a]) := by show _ = _; rw [RN.out]; rfl
      go_wp2_with fail
      go_meet
      case rel => exact ⟨_, rfl, by rw [LS.out]; exact lst_1 W a⟩
    by_cases h5 : op = 5
    · subst h5
      have LS : Hid (ls = [a]) := by show _ = _; rw [RN.out]; rfl
      go_wp2_with fail
      go_meet
      case rel => exact ⟨_, rfl, by rw [LS.out]; exact lst_1 W a⟩
    by_cases h15 : op = 15
    · subst h15
      by_cases ha : 0 ≤ a
      · have LS : Hid (ls = [a]) := by show _ = _; rw [RN.out, if_pos rfl, if_pos ha]
        go_wp2_with fail
        go_meet
        case rel => exact ⟨_, rfl, by rw [LS.out]; exact lst_1 W a⟩
      · have LS : Hid (ls = []) := by show _ = _; rw [RN.out, if_pos rfl, if_neg ha]
        go_wp2_with fail
        go_meet
        case rel => exact ⟨_, rfl, by rw [LS.out]; exact lst_nil W⟩
    by_cases h3 : op = 3
    · subst h3
      have LS : Hid (ls = [a, b]) := by show _ = _; rw [RN.out]; rfl
      go_wp2_with fail
      go_meet
      case rel => exact ⟨_, rfl, by rw [LS.out]; exact lst_2 W a b⟩
    by_cases h6 : op = 6
    · subst h6
      have LS : Hid (ls = [a, b]) := by show _ = _; rw [RN.out]; rfl
      go_wp2_with fail
      go_meet
      case rel => exact ⟨_, rfl, by rw [LS.out]; exact lst_2 W a b⟩
    by_cases h4 : op = 4
    · subst h4
      have LS : Hid (ls = [a, b, c]) := by show _ = _; rw [RN.out]; rfl
      go_wp2_with fail
      go_meet
      case rel => exact ⟨_, rfl, by rw [LS.out]; exact lst_3 W a b c⟩
    have LS : Hid (ls = []) := by show _ = _; rw [RN.out, if_neg h15, if_neg h4, if_neg (by omega), if_neg (by omega)]
    go_wp2_with fail
    go_meet
    case rel => exact ⟨_, rfl, by rw [LS.out]; exact lst_nil W⟩
  case rest =>
    obtain ⟨v, rfl, HL⟩ := hcut
    have HWB := hide HW.out.b
    clear c0 c2 c3 c4 RN HW
    obtain ⟨av, cav, hf⟩ := HL.out.n.form
    subst hf
    go_wp2_with fail
    go_loopw [4, 5, 6, 7] (fun s4 s5 _ _ wr => ∃ i v, i ≤ ls.length ∧ s4 = v ∧ s5 = .int .i64 (i : Int) ∧ Hid (NR W.heap.size v (sc (ls.take i)) wr) ∧ Hid (Lst W (.slice av ls.length cav) ls wr)) (fun _ s5 _ _ _ => ls.length - (intOf s5).toNat)
    case atStart => exact ⟨0, _, Nat.zero_le _, rfl, rfl, by rw [List.take_zero, sc_nil]; exact NR.nil _ _, HL⟩
    case round =>
      clear HL
      obtain ⟨i, v, hi1, rfl, rfl, HN, HL⟩ := hrel
      by_cases hlt : i < ls.length
      · obtain ⟨gl, cl, el, _, hgl, hxl⟩ := HL.out.n.at_ hlt
        injection el with ea e3 e2
        subst ea e2
        have INS := hide (fun k A B => ins_is (k := k) hlt A B)
        have SAME := hide (fun h => ins_same hlt h)
        have ASC := hide (sc_asc (ls.take i))
        have hLL : (sc (ls.take i)).length ≤ 1000 := by
          refine Nat.le_trans (scl _) ?_
          rw [List.length_take]; omega
        have h1 : (i : Int) < (ls.length : Int) := by omega
        have h0 : (0 : Int) ≤ (i : Int) := by omega
        generalize hL : sc (ls.take i) = L at *
        generalize hx : ls[i] = x at *
        have HX := hide (And.intro hL hx)
        clear hL hx
        have TWO := HN.out.two
        have hxl0 := hide hxl
        obtain ⟨U0, hU0⟩ : ∃ z, z = wr := ⟨_, rfl⟩
        subst hU0
        rcases TWO with ⟨rfl, rfl⟩ | ⟨g, c, rfl, hg1, hg2, hLc, hread⟩
        · go_wp2_with fail
          go_loopw [6] (fun s6 wr' => s6 = .int .i64 0 ∧ Hid (Below U0.heap.size U0 wr')) (fun _ _ => 0)
          case atStart => exact ⟨rfl, Below.refl _ _⟩
          case round =>
            obtain ⟨rfl, HB⟩ := hrel
            replace hxl := (HB.out.cell (p := ⟨gl, i, none⟩) hgl).trans hxl
            go_wp2_with fail
            go_region
            go_wp2_with fail
            go_region
            go_upto_region 26 with fail
            refine gw (motive := fun x => Code.wp _ _ _ _ x) (fun V => Hid (Below U0.heap.size U0 V)) ((HB.out.drew).drew) ?_
            rintro V HV
            clear HB hxl
            have hxl := (HV.out.cell (p := ⟨gl, i, none⟩) hgl).trans hxl0.out
            have A0 := hide (AI.start V)
            go_wp2_with (at_builtin; (refine wpList_append_own _ rfl _ _ 25 rfl V.heap.size 3 i0 _ 1 8 Tryd.underlying25 hi hz0 hz1 hz2 rfl (by decide) _ 0 _ rfl (A0.out.own rfl x) ⟨V.heap.size, 0, none⟩ 1 1 [.int .i64 x] rfl rfl (one_at V x) (one_cell x) (by unfold maxLen; omega) (by omega) (A0.out.sz x) ?_))
            intro v2 u2 hown hgrow _
            have A2 := hide (A0.out.next rfl hown hgrow)
            obtain ⟨p2, k2, hf2⟩ := A2.out.n.form
            subst hf2
            clear hown hgrow
            go_wp2_with (at_builtin; (refine wpList_append_own_none rfl _ _ 25 rfl V.heap.size 3 i0 1 Tryd.underlying25 hi _ 1 _ rfl (A2.out.own0 rfl) rfl ?_))
            have EQ : Hid (sc (ls.take (i + 1)) = [x]) := INS.out 0 (fun j hj => absurd hj (Nat.not_lt_zero _)) (fun j hj => absurd hj (Nat.not_lt_zero _))
            have HVU := hide (HV.out.trans (A2.out.b.mono HV.out.size))
            have FN := hide (A2.out.n.down (Nat.le_trans HL.out.b.size HV.out.size))
            have FL : Hid (Lst W (.slice (some ⟨gl, 0, none⟩) ls.length cav) ls u2) := ⟨HL.out.n.kept HVU.out, HL.out.b.trans (HVU.out.mono HL.out.b.size)⟩
            go_wp2_with fail
            go_roundw
            case rel => exact ⟨i + 1, _, hlt, rfl, by go_num, by rw [EQ.out]; exact FN, FL⟩
            case measure => simp [intOf]; omega
        · go_wp2_with fail
          go_loopw [6] (fun s6 wr' => ∃ k : Nat, k ≤ L.length ∧ s6 = .int .i64 (k : Int) ∧ Hid (Below U0.heap.size U0 wr') ∧ Hid (∀ j (hj : j < L.length), k ≤ j → x < L[j])) (fun s6 _ => (intOf s6).toNat)
          case atStart => exact ⟨L.length, Nat.le_refl _, rfl, Below.refl _ _, fun j hj h => by omega⟩
          case round =>
            obtain ⟨k, hk, rfl, HB, AF⟩ := hrel
            replace hxl := (HB.out.cell (p := ⟨gl, i, none⟩) hgl).trans hxl
            match k with
            | 0 =>
              have BF : Hid (∀ j (hj : j < L.length), j < 0 → L[j] < x) := fun j _ h => absurd h (Nat.not_lt_zero _)
              go_wp2_with fail
              go_region
              go_wp2_with fail
              go_region
              go_upto_region 26 with fail
              refine gw (motive := fun x => Code.wp _ _ _ _ x) (fun V => Hid (Below U0.heap.size U0 V)) ((HB.out.drew).drew) ?_
              rintro V HV
              clear HB hxl
              have hxl := (HV.out.cell (p := ⟨gl, i, none⟩) hgl).trans hxl0.out
              have A0 := hide (AI.start V)
              go_wp2_with (at_builtin; (refine wpList_append_own _ rfl _ _ 25 rfl V.heap.size 3 i0 _ 1 8 Tryd.underlying25 hi hz0 hz1 hz2 rfl (by decide) _ 0 _ rfl (A0.out.own rfl x) ⟨V.heap.size, 0, none⟩ 1 1 [.int .i64 x] rfl rfl (one_at V x) (one_cell x) (by unfold maxLen; omega) (by omega) (A0.out.sz x) ?_))
              intro v2 u2 hown hgrow _
              have A2 := hide (A0.out.next rfl hown hgrow)
              obtain ⟨p2, k2, hf2⟩ := A2.out.n.form
              subst hf2
              clear hown hgrow
              have RD2 := hide (fun j (hj : j < (L.drop (0)).length) => show u2.cell? ⟨g, (0) + j, none⟩ = some (.int .i64 (L.drop (0))[j]) from by rw [List.getElem_drop]; exact (A2.out.b.cell (p := ⟨g, (0) + j, none⟩) (Nat.lt_of_lt_of_le hg2 HV.out.size)).trans ((HV.out.cell (p := ⟨g, (0) + j, none⟩) hg2).trans (hread ((0) + j) (by rw [List.length_drop] at hj; omega))))
              have LD : (L.drop (0)).length = L.length - (0) := List.length_drop ..
              have LA : ([] ++ [x]).length = 0 + 1 := rfl
              go_wp2_with (at_builtin; (refine wpList_append_own _ rfl _ _ 25 rfl V.heap.size 3 i0 _ 1 8 Tryd.underlying25 hi hz0 hz1 hz2 rfl (by decide) _ ((0) + 1) _ rfl (A2.out.own0 LA) ⟨g, 0, none⟩ (L.length - (0)) _ ((L.drop (0)).map (Value.int .i64)) rfl (by rw [List.length_map, LD]; omega) (reads_at RD2.out) (int_cell _) (by unfold maxLen; omega) (by omega) A2.out.b.size ?_))
              intro v3 u3 hown hgrow _
              have A3 := hide (A2.out.more LA LD (by simpa using hown) hgrow)
              clear hown hgrow RD2
              have EQ : Hid (sc (ls.take (i + 1)) = [] ++ [x] ++ L.drop (0)) := by show _ = _; rw [INS.out (0) AF.out BF.out]; simp
              have HVU := hide (HV.out.trans (A3.out.b.mono HV.out.size))
              have FN := hide (A3.out.n.down (Nat.le_trans HL.out.b.size HV.out.size))
              have FL : Hid (Lst W (.slice (some ⟨gl, 0, none⟩) ls.length cav) ls u3) := ⟨HL.out.n.kept HVU.out, HL.out.b.trans (HVU.out.mono HL.out.b.size)⟩
              go_wp2_with fail
              go_roundw
              case rel => exact ⟨i + 1, _, hlt, rfl, by go_num, by rw [EQ.out]; exact FN, FL⟩
              case measure => simp [intOf]; omega
            | k + 1 =>
              have hk0 : k < L.length := hk
              have hy := (HB.out.cell (p := ⟨g, k, none⟩) hg2).trans (hread k hk0)
              have e1 : ((k + 1 : Nat) : Int) = (k : Int) + 1 := by omega
              rw [e1]
              have hz : (0 : Int) ≤ (k : Int) := by omega
              have hz1' : (k : Int) < (L.length : Int) := by omega
              by_cases hgt : x < L[k]
              · have AF2 : Hid (∀ j (hj : j < L.length), k ≤ j → x < L[j]) := fun j hj h => by
                  rcases Nat.lt_or_ge k j with h' | h'
                  · exact AF.out j hj h'
                  · obtain rfl : j = k := by omega
                    exact hgt
                have HB2 := hide HB.out.drew
                generalize L[k] = y at *
                go_wp2_with fail
                go_region
                go_wp2_with fail
                go_roundw
                case rel => exact ⟨k, Nat.le_of_lt hk0, by go_num, HB2, AF2⟩
                case measure => (simp [intOf] <;> omega)
              · by_cases heq : L[k] = x
                · have EQ : Hid (sc (ls.take (i + 1)) = L) := SAME.out (heq ▸ List.getElem_mem hk0)
                  have HVU := hide HB.out.drew.drew
                  have FN := hide (HN.out.kept HVU.out)
                  have FL : Hid (Lst W (.slice (some ⟨gl, 0, none⟩) ls.length cav) ls wr.drew.drew) := ⟨HL.out.n.kept HVU.out, HL.out.b.trans (HVU.out.mono HL.out.b.size)⟩
                  rw [heq] at hy
                  clear hgt heq
                  go_wp2_with fail
                  go_region
                  go_wp2_with fail
                  go_region
                  go_wp2_with fail
                  go_roundw
                  case rel => exact ⟨i + 1, _, hlt, rfl, by go_num, by rw [EQ.out]; exact FN, FL⟩
                  case measure => (simp [intOf] <;> omega)
                · have BF : Hid (∀ j (hj : j < L.length), j < k + 1 → L[j] < x) := fun j hj h => by
                    rcases Nat.lt_or_ge j k with h' | h'
                    · have := List.pairwise_iff_getElem.1 ASC.out j k hj hk0 h'
                      omega
                    · obtain rfl : j = k := by omega
                      omega
                  generalize L[k] = y at *
                  go_wp2_with fail
                  go_region
                  go_wp2_with fail
                  go_region
                  go_upto_region 26 with fail
                  refine gw (motive := fun x => Code.wp _ _ _ _ x) (fun V => Hid (Below U0.heap.size U0 V)) ((HB.out.drew).drew) ?_
                  rintro V HV
                  clear HB hxl
                  have hxl := (HV.out.cell (p := ⟨gl, i, none⟩) hgl).trans hxl0.out
                  have A0 := hide (AI.start V)
                  have RD1 := hide (fun j (hj : j < (L.take (k + 1)).length) => show V.cell? ⟨g, 0 + j, none⟩ = some (.int .i64 (L.take (k + 1))[j]) from by rw [Nat.zero_add, List.getElem_take]; exact (HV.out.cell (p := ⟨g, j, none⟩) hg2).trans (hread j (by rw [List.length_take] at hj; omega)))
                  have LT : (L.take (k + 1)).length = k + 1 := by rw [List.length_take]; omega
                  go_wp2_with (at_builtin; (refine wpList_append_own _ rfl _ _ 25 rfl V.heap.size 3 i0 _ 1 8 Tryd.underlying25 hi hz0 hz1 hz2 rfl (by decide) _ 0 _ rfl (A0.out.own0 rfl) ⟨g, 0, none⟩ (k + 1) _ ((L.take (k + 1)).map (Value.int .i64)) rfl (by rw [List.length_map, LT]; omega) (reads_at RD1.out) (int_cell _) (by unfold maxLen; omega) (by omega) (Nat.le_refl _) ?_))
                  intro v1 u1 hown hgrow _
                  have A1 := hide (A0.out.more (ns := []) rfl LT (by simpa using hown) hgrow)
                  obtain ⟨p1, k1, hf1⟩ := A1.out.n.form
                  rw [List.nil_append, LT] at hf1
                  subst hf1
                  clear hown hgrow RD1
                  have hxl1 := (A1.out.b.cell (p := ⟨gl, i, none⟩) (Nat.lt_of_lt_of_le hgl HV.out.size)).trans hxl
                  go_wp2_with (at_builtin; (refine wpList_append_own _ rfl _ _ 25 rfl V.heap.size 3 i0 _ 1 8 Tryd.underlying25 hi hz0 hz1 hz2 rfl (by decide) _ (k + 1) _ rfl (A1.out.own (by simp only [List.nil_append, LT]) x) ⟨u1.heap.size, 0, none⟩ 1 1 [.int .i64 x] rfl rfl (one_at u1 x) (one_cell x) (by unfold maxLen; omega) (by omega) (A1.out.sz x) ?_))
                  intro v2 u2 hown hgrow _
                  have A2 := hide (A1.out.next (k := k + 1) (by simp only [List.nil_append, LT]) (by simpa using hown) hgrow)
                  have LA : ([] ++ L.take (k + 1) ++ [x]).length = (k + 1) + 1 := by rw [List.length_append, List.length_append, LT]; simp
                  obtain ⟨p2, k2, hf2⟩ := A2.out.n.form
                  rw [LA] at hf2
                  subst hf2
                  clear hown hgrow
                  have LD : (L.drop (k + 1)).length = L.length - (k + 1) := List.length_drop ..
                  have hto : ((k : Int) + 1).toNat = k + 1 := by omega
                  have hsub : ((L.length : Int) - ((k : Int) + 1)).toNat = L.length - (k + 1) := by omega
                  by_cases hc : c = k + 1
                  · have RD2 := hide (fun j (hj : j < (L.drop (k + 1)).length) => show u2.cell? ⟨g, 0 + j, none⟩ = some (.int .i64 (L.drop (k + 1))[j]) from absurd hj (by rw [List.length_drop]; omega))
                    go_wp2_with (at_builtin; (refine wpList_append_own _ rfl _ _ 25 rfl V.heap.size 3 i0 _ 1 8 Tryd.underlying25 hi hz0 hz1 hz2 rfl (by decide) _ ((k + 1) + 1) _ rfl (A2.out.own0 LA) ⟨g, 0, none⟩ (L.length - (k + 1)) _ ((L.drop (k + 1)).map (Value.int .i64)) rfl (by rw [List.length_map, LD]; omega) (reads_at RD2.out) (int_cell _) (by unfold maxLen; omega) (by omega) A2.out.b.size ?_))
                    intro v3 u3 hown hgrow _
                    have A3 := hide (A2.out.more LA LD (by simpa using hown) hgrow)
                    clear hown hgrow RD2
                    have EQ : Hid (sc (ls.take (i + 1)) = [] ++ L.take (k + 1) ++ [x] ++ L.drop (k + 1)) := by show _ = _; rw [INS.out (k + 1) AF.out BF.out]; simp
                    have HVU := hide (HV.out.trans (A3.out.b.mono HV.out.size))
                    have FN := hide (A3.out.n.down (Nat.le_trans HL.out.b.size HV.out.size))
                    have FL : Hid (Lst W (.slice (some ⟨gl, 0, none⟩) ls.length cav) ls u3) := ⟨HL.out.n.kept HVU.out, HL.out.b.trans (HVU.out.mono HL.out.b.size)⟩
                    go_wp2_with fail
                    go_roundw
                    case rel => exact ⟨i + 1, _, hlt, rfl, by go_num, by rw [EQ.out]; exact FN, FL⟩
                    case measure => (simp [intOf] <;> omega)
                  · have RD2 := hide (fun j (hj : j < (L.drop (k + 1)).length) => show u2.cell? ⟨g, (k + 1) + j, none⟩ = some (.int .i64 (L.drop (k + 1))[j]) from by rw [List.getElem_drop]; exact (A2.out.b.cell (p := ⟨g, (k + 1) + j, none⟩) (Nat.lt_of_lt_of_le hg2 HV.out.size)).trans ((HV.out.cell (p := ⟨g, (k + 1) + j, none⟩) hg2).trans (hread ((k + 1) + j) (by rw [List.length_drop] at hj; omega))))
                    go_wp2_with (at_builtin; (refine wpList_append_own _ rfl _ _ 25 rfl V.heap.size 3 i0 _ 1 8 Tryd.underlying25 hi hz0 hz1 hz2 rfl (by decide) _ ((k + 1) + 1) _ rfl (A2.out.own0 LA) ⟨g, k + 1, none⟩ (L.length - (k + 1)) _ ((L.drop (k + 1)).map (Value.int .i64)) rfl (by rw [List.length_map, LD]; omega) (reads_at RD2.out) (int_cell _) (by unfold maxLen; omega) (by omega) A2.out.b.size ?_))
                    intro v3 u3 hown hgrow _
                    have A3 := hide (A2.out.more LA LD (by simpa using hown) hgrow)
                    clear hown hgrow RD2
                    have EQ : Hid (sc (ls.take (i + 1)) = [] ++ L.take (k + 1) ++ [x] ++ L.drop (k + 1)) := by show _ = _; rw [INS.out (k + 1) AF.out BF.out]; simp
                    have HVU := hide (HV.out.trans (A3.out.b.mono HV.out.size))
                    have FN := hide (A3.out.n.down (Nat.le_trans HL.out.b.size HV.out.size))
                    have FL : Hid (Lst W (.slice (some ⟨gl, 0, none⟩) ls.length cav) ls u3) := ⟨HL.out.n.kept HVU.out, HL.out.b.trans (HVU.out.mono HL.out.b.size)⟩
                    go_wp2_with fail
                    go_roundw
                    case rel => exact ⟨i + 1, _, hlt, rfl, by go_num, by rw [EQ.out]; exact FN, FL⟩
                    case measure => (simp [intOf] <;> omega)
      · obtain rfl : i = ls.length := by omega
        have h1 : ¬ (ls.length : Int) < (ls.length : Int) := by omega
        have FN := hide (HN.out.nw.mono HWB.out.size)
        have HF := hide (HWB.out.trans (HL.out.b.mono HWB.out.size))
        rw [List.take_length, RU.out] at FN
        clear HN
        go_wp2_with fail
        go_ret
        exact ⟨_, rfl, FN.out, HF.out⟩
end Go.Proofs.YtjgaaofpfepfhaaDoor

/-
  Merged: Rtk Ral Pla.
-/
import Derived.Test.YtjgaaofpfepfhaaDoorR8
import Derived.Test.YtjgaaofpfepfhaaDoorX1
import Derived.Test.YtjgaaofpfepfhaaDoorR2
import Derived.Test.YtjgaaofpfepfhaaDoorSym
/-
  The document's taken.
-/
namespace Go.Proofs.YtjgaaofpfepfhaaDoor
open Go.RowKit
set_option linter.unusedSimpArgs false
set_option linter.unusedVariables false
/-- A number of a list, 0 behind its end. -/
def nth (ns : List Int) (i : Nat) : Int := ns.getD i 0
/-- Whether one of the first k that meets is at this place. -/
def rtk (pl : Nat → Int) (cl : Nat → Bool) (p : Int) (k : Nat) : Bool := (List.range k).any fun i => decide (pl i = p) && cl i
set_option maxRecDepth 100000 in
set_option maxHeartbeats 6400000 in
theorem rtaken_any (d : Cd) (q : Option Addr) (cap : Nat) (l : List Ir) (ra rb m : Nat) (A F : Nat → Nat) (v : Value) (ns : List Int) (n : Nat) (p : Int) (w : World) (hl : l.length ≤ 1000) (hr : IR w.heap.size w q l) (hm : d.params = (m : Int)) (hm60 : m ≤ 60)
    (ha : NRow ra l.length A w) (hb : NRow rb l.length F w) (hA : ∀ i, i < l.length → A i < lim) (hF : ∀ i, i < l.length → F i < lim) (hn : n < 60) (hnn : ns.length ≤ 60) (hv : Nv 0 v ns w) :
    Calls Tryd.prog 28 #[cv d q l.length cap, .slice (some ⟨rb, 0, none⟩) l.length l.length, .slice (some ⟨ra, 0, none⟩) l.length l.length, v, .int .i64 (n : Int), .int .i64 p] w
      fun e w' => e = .returned (.bool (rtk (nth ns) (fun i => decide (i ≠ n) && cls d l A F (i : Int) (n : Int)) p ns.length)) ∧ Below w.heap.size w w' := by
  have HL := hide hl
  have HR := hide hr
  have B0 : FB d q l.length cap w.heap.size l w (w.alloc (.cells #[.int .i64 d.cells, .int .i64 d.params, .slice q l.length cap, .int .i64 d.labels] 24)) := ⟨bel_one _ _, by simp, heap_alloc_new _ _⟩
  have MA := hide (fun (i : Nat) (hi : i < 60) U (hU : Below w.heap.size w U) => meets_any d q cap l ra rb m A F i n U hl (IR.up (hr.bel hU) hU.size) hm hm60 (ha.of (hU.block _ ha.lt)) (hb.of (hU.block _ hb.lt)) hA hF hi hn)
  obtain ⟨av, cav, hf⟩ := hv.form
  subst hf
  have HV := hide hv
  clear hl hr ha hb hA hF hv hm
  generalize hcl : (fun i : Nat => decide (i ≠ n) && cls d l A F (i : Int) (n : Int)) = cl
  replace MA : Hid (∀ (i : Nat), i < 60 → ∀ U, Below w.heap.size w U → Calls Tryd.prog 48 #[cv d q l.length cap, .slice (some ⟨rb, 0, none⟩) l.length l.length, .slice (some ⟨ra, 0, none⟩) l.length l.length, .int .i64 (i : Int), .int .i64 (n : Int)] U fun e w' => e = .returned (.bool (cl i)) ∧ Below U.heap.size U w') := fun i hi U hU => by rw [← hcl]; exact MA.out i hi U hU
  clear hcl
  obtain ⟨cs, ps, ls⟩ := d
  unfold cv at MA ⊢
  simp only at B0 MA ⊢
  go_enter Tryd.func28, Tryd.ntmps28
  go_upto_region 1 with fail
  refine gw (motive := fun x => Code.wp _ _ _ _ x) (fun W => Hid (FB ⟨cs, ps, ls⟩ q l.length cap w.heap.size l w W)) B0 ?_
  rintro W HW
  clear B0
  have hqW := HW.out.lt
  go_wp2_with fail
  go_loopw [13] (fun s13 wr => ∃ k : Nat, k ≤ ns.length ∧ s13 = .int .i64 (k : Int) ∧ Hid (Below W.heap.size W wr) ∧ Hid (∀ i, i < k → (decide (nth ns i = p) && cl i) = false)) (fun s13 _ => ns.length - (intOf s13).toNat)
  case atStart => exact ⟨0, Nat.zero_le _, rfl, Below.refl _ _, fun j h => absurd h (Nat.not_lt_zero _)⟩
  case round =>
    obtain ⟨k, hk, rfl, HBl, HM⟩ := hrel
    have HBF := hide (HW.out.b.trans (HBl.out.mono HW.out.b.size))
    by_cases hlt : k < ns.length
    · obtain ⟨c0, c1, c2, c3⟩ := HW.out.cells HBl.out hqW
      simp only at c0 c1 c2 c3
      obtain ⟨g', c', e, hg1, hg2, hx⟩ := (HV.out.kept HBF.out).at_ hlt
      injection e with ea e3 e2
      subst ea e2
      have hgd : nth ns k = ns[k] := by simp [nth, List.getD, hlt]
      have h1 : (k : Int) < (ns.length : Int) := by omega
      have h0 : (0 : Int) ≤ (k : Int) := by omega
      have MK := hide (MA.out k (by omega) _ HBF.out)
      have MN : Hid ((decide (nth ns k = p) && cl k) = false → ∀ j, j < k + 1 → (decide (nth ns j = p) && cl j) = false) := fun h j hj => by
        rcases Nat.lt_succ_iff_lt_or_eq.1 hj with h' | h'
        · exact HM.out j h'
        · subst h'; exact h
      have MY : Hid ((decide (nth ns k = p) && cl k) = true → rtk (nth ns) cl p ns.length = true) := fun h => List.any_eq_true.2 ⟨k, List.mem_range.2 hlt, h⟩
      rw [hgd] at MN MY
      clear hgd
      generalize ns[k] = pk at *
      by_cases e : pk = p
      · have qe : (pk == p) = true := by simpa using e
        subst e
        go_wp2_with fail
        refine MK.out.mono ?_
        rintro e w3 ⟨rfl, hb3⟩
        have HB3 := hide (bel_tr HBl.out hb3)
        have HBF3 := hide (HBF.out.trans (hb3.mono HBF.out.size))
        clear hb3 MK c0 c1 c2 c3
        cases hcl : cl k
        · have N2 := hide (MN.out (by rw [hcl]; simp))
          go_wp2_with fail
          go_roundw
          case rel => exact ⟨k + 1, hlt, by go_num, HB3, N2⟩
          case measure => simp [intOf]; omega
        · have Y2 := hide (MY.out (by rw [hcl]; simp))
          go_wp2_with fail
          go_ret
          exact ⟨by rw [Y2.out]; rfl, HBF3.out⟩
      · have qe : (pk == p) = false := by simpa using e
        have N2 := hide (MN.out (by simp [e]))
        clear MK
        go_wp2_with fail
        go_roundw
        case rel => exact ⟨k + 1, hlt, by go_num, HBl, N2⟩
        case measure => simp [intOf]; omega
    · obtain rfl : k = ns.length := by omega
      have h1 : ¬ (ns.length : Int) < (ns.length : Int) := by omega
      have Y2 : Hid (rtk (nth ns) cl p ns.length = false) := by
        show _ = _
        unfold rtk
        rw [List.any_eq_false]
        intro i hi
        rw [HM.out i (List.mem_range.1 hi)]
        simp
      go_wp2_with fail
      go_ret
      exact ⟨by rw [Y2.out]; rfl, HBF.out⟩
end Go.Proofs.YtjgaaofpfepfhaaDoor
/-
  The document's Alloc.
-/
namespace Go.Proofs.YtjgaaofpfepfhaaDoor
open Go.RowKit
set_option linter.unusedSimpArgs false
set_option linter.unusedVariables false
/-- The least place from a on where none of the first i that meets is. -/
structure RFre (cl : Nat → Bool) (pl : Nat → Int) (i : Nat) (a p : Int) : Prop where
  ge : a ≤ p
  no : rtk pl cl p i = false
  all : ∀ q, a ≤ q → q < p → rtk pl cl q i = true
def meetsB (d : Cd) (l : List Ir) (A F : Nat → Nat) (n : Nat) : Nat → Bool := fun i => decide (i ≠ n) && cls d l A F (i : Int) (n : Int)
/-- The places of the first k. -/
def RPl (d : Cd) (l : List Ir) (A F : Nat → Nat) (nm cr : Nat) (ns : List Int) : Prop :=
  ∀ i, i < ns.length → (nm.testBit i = false → nth ns i = -1) ∧ (nm.testBit i = true → RFre (meetsB d l A F i) (nth ns) i (fsz cr i) (nth ns i))
theorem nth_snoc (ns : List Int) (p : Int) (i : Nat) (h : i < ns.length) : nth (ns ++ [p]) i = nth ns i := by
  unfold nth
  simp [List.getD, List.getElem?_append_left h]
theorem nth_last (ns : List Int) (p : Int) : nth (ns ++ [p]) ns.length = p := by
  unfold nth
  simp [List.getD]
theorem rtk_congr {pl pl' : Nat → Int} {cl : Nat → Bool} {p : Int} {k : Nat} (h : ∀ i, i < k → pl i = pl' i) : rtk pl cl p k = rtk pl' cl p k := by
  unfold rtk
  rw [Bool.eq_iff_iff, List.any_eq_true, List.any_eq_true]
  constructor
  · rintro ⟨x, hx, e⟩; exact ⟨x, hx, by rw [← h x (List.mem_range.1 hx)]; exact e⟩
  · rintro ⟨x, hx, e⟩; exact ⟨x, hx, by rw [h x (List.mem_range.1 hx)]; exact e⟩
theorem RFre.congr {cl : Nat → Bool} {pl pl' : Nat → Int} {i : Nat} {a p : Int} (h : RFre cl pl i a p) (e : ∀ j, j < i → pl j = pl' j) : RFre cl pl' i a p :=
  ⟨h.ge, (rtk_congr e).symm.trans h.no, fun q h1 h2 => (rtk_congr e).symm.trans (h.all q h1 h2)⟩
theorem RPl.next {d : Cd} {l : List Ir} {A F : Nat → Nat} {nm cr : Nat} {ns : List Int} {p : Int} (h : RPl d l A F nm cr ns) (h0 : nm.testBit ns.length = false → p = -1) (h1 : nm.testBit ns.length = true → RFre (meetsB d l A F ns.length) (nth ns) ns.length (fsz cr ns.length) p) : RPl d l A F nm cr (ns ++ [p]) := fun i hi => by
  rw [List.length_append, List.length_singleton] at hi
  rcases Nat.lt_succ_iff_lt_or_eq.1 hi with hl | rfl
  · rw [nth_snoc ns p i hl]
    exact ⟨(h i hl).1, fun hb => ((h i hl).2 hb).congr fun j hj => (nth_snoc ns p j (by omega)).symm⟩
  · rw [nth_last]
    exact ⟨h0, fun hb => (h1 hb).congr fun j hj => (nth_snoc ns p j hj).symm⟩
/-- So many are taken from one on. -/
theorem pig_rtk {pl : Nat → Int} {cl : Nat → Bool} {n k : Nat} {a : Int} (h : ∀ q, a ≤ q → q < a + k → rtk pl cl q n = true) : k ≤ n := by
  have := pig pl n ((List.range k).map fun (j : Nat) => a + (j : Int)) (by
    rw [List.nodup_iff_pairwise_ne, List.pairwise_map]
    refine List.Pairwise.imp ?_ (List.pairwise_lt_range (n := k))
    intro x y hxy; omega) (fun q hq => by
    obtain ⟨j, hj, rfl⟩ := List.mem_map.1 hq
    rw [List.mem_range] at hj
    obtain ⟨i, hi, e⟩ := List.any_eq_true.1 (h (a + j) (by omega) (by omega))
    rw [Bool.and_eq_true, decide_eq_true_eq] at e
    exact ⟨i, List.mem_range.1 hi, e.1⟩)
  simpa using this
theorem AI.bel {W U U' : World} {v : Value} {ns : List Int} (h : AI W v ns U) (k : Below U.heap.size U U') : AI W v ns U' := ⟨h.n.kept k, bel_tr h.b k⟩
theorem bit_zero {s : Nat} (n : Nat) (hs : s < lim) : (bits .and .i64 ((s : Int) / 2 ^ n) 1 == 0) = !(s.testBit n) := by
  have e : ((s : Int) / 2 ^ n) = ((s / 2 ^ n : Nat) : Int) := by push_cast; rfl
  have h1 : s / 2 ^ n < lim := Nat.lt_of_le_of_lt (Nat.div_le_self _ _) hs
  have h2 := bits_and h1 (t := 1) (by decide)
  have h3 := bit_at n hs
  rw [e] at h3 ⊢
  have h2' : bits .and .i64 ((s / 2 ^ n : Nat) : Int) 1 = ((s / 2 ^ n &&& 1 : Nat) : Int) := h2
  rw [h2', Nat.and_one_is_mod] at h3 ⊢
  rw [← h3]
  have : s / 2 ^ n % 2 < 2 := Nat.mod_lt _ (by omega)
  generalize s / 2 ^ n % 2 = x at *
  have : x = 0 ∨ x = 1 := by omega
  rcases this with rfl | rfl <;> rfl
def RAEnds (d : Cd) (l : List Ir) (w : World) (e : Ending) (w' : World) : Prop :=
  (fitb d l = false ∧ e = .returned (.tuple #[.slice none 0 0, .bool false]) ∧ Below w.heap.size w w') ∨
  (fitb d l = true ∧ ∃ (n m : Nat) (A1 F1 A2 F2 : Nat → Nat) (v : Value) (ns : List Int), d.cells = (n : Int) ∧ d.params = (m : Int) ∧ Sol (sy l) A1 F1 ∧ Sol (sy l) A2 F2 ∧ ns.length = n ∧ e = .returned (.tuple #[v, .bool true]) ∧
    Nv w.heap.size v ns w' ∧ RPl d l A2 F2 (nmT l m l.length) (crT l F1 l.length) ns ∧ Below w.heap.size w w')
set_option maxRecDepth 100000 in
set_option maxHeartbeats 6400000 in
theorem ralloc_any (d : Cd) (q : Option Addr) (cap : Nat) (l : List Ir) (w : World) (hl : l.length ≤ 1000) (hr : IR w.heap.size w q l) :
    Calls Tryd.prog 8 #[cv d q l.length cap] w (RAEnds d l w) := by
  obtain ⟨i0, hi, hz0, hz1, hz2⟩ := info_parts info3
  have HL := hide hl
  have HR := hide hr
  have B0 : FB d q l.length cap w.heap.size l w (w.alloc (.cells #[.int .i64 d.cells, .int .i64 d.params, .slice q l.length cap, .int .i64 d.labels] 24)) := ⟨bel_one _ _, by simp, heap_alloc_new _ _⟩
  have CA := hide (fun U (hU : IR U.heap.size U q l) => rcrosses_any d q cap l U hl hU)
  have NA := hide (fun U (hU : IR U.heap.size U q l) => rnamed_any d q cap l U hl hU)
  have BA := hide (fun U (hU : IR U.heap.size U q l) => both_any d q cap l U hl hU)
  have TA := hide (fun ra rb m A F v ns n p U (hU : IR U.heap.size U q l) => rtaken_any d q cap l ra rb m A F v ns n p U hl hU)
  clear hl hr
  obtain ⟨cs, ps, ls⟩ := d
  unfold cv at CA NA BA TA ⊢
  simp only at B0 CA NA BA TA ⊢
  go_enter Tryd.func8, Tryd.ntmps8
  go_upto_region 1 with fail
  refine gw (motive := fun x => Code.wp _ _ _ _ x) (fun W => Hid (FB ⟨cs, ps, ls⟩ q l.length cap w.heap.size l w W)) B0 ?_
  rintro W HW
  clear B0
  obtain ⟨c0, c1, c2, c3⟩ := HW.out.cells (Below.refl _ W) HW.out.lt
  simp only at c0 c1 c2 c3
  have hqW := HW.out.lt
  go_wp2_with fail
  refine (CA.out W ((HR.out.bel HW.out.b).up HW.out.b.size)).mono ?_
  clear c0 c1 c2 c3 CA
  rintro e W1 (⟨hf, rfl, k2⟩ | ⟨hf, A1, F1, rfl, s1, k2⟩)
  · have HB1 := hide k2
    have HB := hide (HW.out.b.trans (k2.mono HW.out.b.size))
    obtain ⟨c0, c1, c2, c3⟩ := HW.out.cells HB1.out hqW
    simp only at c0 c1 c2 c3
    have HF := hide hf
    clear k2 hf
    go_wp2_with fail
    refine (NA.out W1 ((HR.out.bel HB.out).up HB.out.size)).mono ?_
    clear c0 c1 c2 c3 NA
    rintro e W2 (⟨hf, rfl, k2⟩ | ⟨hf, _⟩)
    · have HB2 := hide (HB.out.trans (k2.mono HB.out.size))
      clear k2 hf
      go_wp2_with fail
      refine bodyPost_ret (results_tmp2 rfl _ _ _) rfl ?_
      exact Or.inl ⟨HF.out, rfl, HB2.out⟩
    · rw [HF.out] at hf; cases hf
  have HB1 := hide k2
  have HB := hide (HW.out.b.trans (k2.mono HW.out.b.size))
  obtain ⟨c0, c1, c2, c3⟩ := HW.out.cells HB1.out hqW
  simp only at c0 c1 c2 c3
  have HS1 := hide s1
  have HF := hide hf
  clear k2 hf s1
  go_wp2_with fail
  refine (NA.out W1 ((HR.out.bel HB.out).up HB.out.size)).mono ?_
  clear c0 c1 c2 c3 NA
  rintro e W2 (⟨hf, _⟩ | ⟨_, m, hm, rfl, k2⟩)
  · rw [HF.out] at hf; cases hf
  simp only at hm
  subst hm
  have HB2 := hide (bel_tr HB1.out k2)
  have HC2 := hide (HB.out.trans (k2.mono HB.out.size))
  obtain ⟨c0, c1, c2, c3⟩ := HW.out.cells HB2.out hqW
  simp only at c0 c1 c2 c3
  clear k2
  go_wp2_with fail
  refine (BA.out W2 ((HR.out.bel HC2.out).up HC2.out.size)).mono ?_
  clear c0 c1 c2 c3 BA
  rintro e W3 (⟨hf, _⟩ | ⟨_, rb, ra, A, F, rfl, k1, k1', n1, n2, s1, k2⟩)
  · rw [HF.out] at hf; cases hf
  have HB3 := hide (bel_tr HB2.out k2)
  have HC3 := hide (HC2.out.trans (k2.mono HC2.out.size))
  have HS2 := hide s1
  have HNA := hide n1
  have HNB := hide n2
  have FP := fit_parts HF.out
  simp only at FP
  obtain ⟨n, hn⟩ : ∃ n : Nat, cs = (n : Int) := ⟨cs.toNat, by omega⟩
  subst hn
  have hn60 : n ≤ 60 := by omega
  have hm60 : m ≤ 60 := by omega
  have HNM := hide (nmT_lim (fitb_ok HF.out) hm60 l.length (Nat.le_refl _))
  have HCR := hide (crT_lim (fitb_ok HF.out) HS1.out.lf l.length (Nat.le_refl _))
  have TK := hide (fun v ns i p U (hU : Below W3.heap.size W3 U) (hi60 : i < 60) (hns : ns.length ≤ 60) (hv : Nv 0 v ns U) => TA.out ra rb m A F v ns i p U (((HR.out.bel (HC3.out.trans (hU.mono HC3.out.size))).up (HC3.out.trans (hU.mono HC3.out.size)).size)) rfl hm60 (HNA.out.of (hU.block _ HNA.out.lt)) (HNB.out.of (hU.block _ HNB.out.lt)) HS2.out.la HS2.out.lf hi60 hns hv)
  have RN : ∀ nm cr, Hid (RPl ⟨(n : Int), (m : Int), ls⟩ l A F nm cr []) := fun nm cr i hi => by simp at hi
  have RS := hide (fun nm cr ns p => @RPl.next ⟨(n : Int), (m : Int), ls⟩ l A F nm cr ns p)
  have FIN : Hid (∀ (v : Value) (ns : List Int) U, ns.length = n → AI W3 v ns U → RPl ⟨(n : Int), (m : Int), ls⟩ l A F (nmT l m l.length) (crT l F1 l.length) ns → RAEnds ⟨(n : Int), (m : Int), ls⟩ l w (.returned (.tuple #[v, .bool true])) U) := fun v ns U h1 h2 h3 =>
    Or.inr ⟨HF.out, n, m, A1, F1, A, F, v, ns, rfl, rfl, HS1.out, HS2.out, h1, rfl, (h2.nv HC3.out).1, h3, (h2.nv HC3.out).2⟩
  clear k1 k1' n1 n2 s1 k2 FP TA
  change Hid (∀ v ns i p U, Below W3.heap.size W3 U → i < 60 → ns.length ≤ 60 → Nv 0 v ns U → Calls Tryd.prog 28 _ U fun e w' => e = .returned (.bool (rtk (nth ns) (meetsB ⟨(n : Int), (m : Int), ls⟩ l A F i) p ns.length)) ∧ Below U.heap.size U w') at TK
  generalize nmT l m l.length = nm at *
  generalize crT l F1 l.length = cr at *
  generalize hRP : RPl ⟨(n : Int), (m : Int), ls⟩ l A F = RP at *
  generalize hME : meetsB ⟨(n : Int), (m : Int), ls⟩ l A F = ME at *
  have A0 := hide (AI.start W3)
  have R0 := RN nm cr
  clear hRP RN
  go_wp2_with fail
  go_loopw [11, 12, 13] (fun s11 s12 _ wr => ∃ ns : List Int, ns.length ≤ n ∧ s12 = .int .i64 (ns.length : Int) ∧ Hid (AI W3 s11 ns wr) ∧ Hid (RP nm cr ns)) (fun _ s12 _ _ => n - (intOf s12).toNat)
  case atStart => exact ⟨[], Nat.zero_le _, rfl, A0.out, R0.out⟩
  case round =>
    obtain ⟨ns, hk, rfl, HA, HP⟩ := hrel
    have hform := HA.out.n.form
    obtain ⟨av, cav, hf⟩ := hform
    subst hf
    obtain ⟨c0, c1, c2, c3⟩ := HW.out.cells (bel_tr HB3.out HA.out.b) hqW
    simp only at c0 c1 c2 c3
    by_cases hlt : ns.length < n
    · have h1 : (ns.length : Int) < (n : Int) := by omega
      have h0 : (0 : Int) ≤ (ns.length : Int) := by omega
      have h60 : (ns.length : Int) < 60 := by omega
      have BZ := bit_zero ns.length HNM.out
      have BO := bit_nat ns.length HCR.out
      have RS1 := hide (fun p => RS.out nm cr ns p HP.out)
      cases hb : nm.testBit ns.length
      · rw [hb] at BZ RS1
        have R1 := hide (RS1.out (-1) (fun _ => rfl) (fun h => by cases h))
        go_wp2_with (at_builtin; (refine wpList_append_own _ rfl _ _ 25 rfl W3.heap.size 3 i0 _ 1 8 Tryd.underlying25 hi hz0 hz1 hz2 rfl (by decide) _ ns.length _ rfl (HA.out.own rfl (-1)) ⟨wr.heap.size, 0, none⟩ 1 1 [.int .i64 (-1)] rfl rfl (one_at wr (-1)) (one_cell (-1)) (by unfold maxLen; omega) (by omega) (HA.out.sz (-1)) ?_))
        intro v1 u1 hown hgrow _
        have N1 := hide (HA.out.next rfl hown hgrow)
        clear hown hgrow
        go_wp2_with fail
        go_roundw
        case rel => exact ⟨ns ++ [-1], by simp; omega, by first | (simp; done) | (simp; go_num), N1.out, R1.out⟩
        case measure => simp [intOf]; omega
      · rw [hb] at BZ RS1
        have R1 := hide (fun p (h : RFre (ME ns.length) (nth ns) ns.length (fsz cr ns.length) p) => RS1.out p (fun h => by cases h) (fun _ => h))
        have FS : Hid (fsz cr ns.length = if cr.testBit ns.length = true then 6 else 0) := rfl
        clear RS1
        cases hc : cr.testBit ns.length
        · rw [hc] at BO FS
          go_wp2_with fail
          clear c0 c1 c2 c3
          go_loopw [13] (fun s13 wr' => ∃ k : Nat, s13 = .int .i64 ((k : Int)) ∧ Hid (AI W3 (.slice av ns.length cav) ns wr') ∧ Hid (∀ q, 0 ≤ q → q < 0 + (k : Int) → rtk (nth ns) (ME ns.length) q ns.length = true)) (fun s13 _ => ns.length + 7 - (intOf s13).toNat)
          case atStart => exact ⟨0, rfl, HA.out, fun q h1 h2 => by omega⟩
          case round =>
            obtain ⟨k, rfl, HA4, HK⟩ := hrel
            have hkn := pig_rtk HK.out
            have T := hide (TK.out (.slice av ns.length cav) ns ns.length ((k : Int)) _ HA4.out.b (by omega) (by omega) (HA4.out.n.nv.mono (Nat.zero_le _)))
            obtain ⟨c0, c1, c2, c3⟩ := HW.out.cells (bel_tr HB3.out HA4.out.b) hqW
            simp only at c0 c1 c2 c3
            cases ht : rtk (nth ns) (ME ns.length) ((k : Int)) ns.length
            · have R2 := hide (R1.out ((k : Int)) ⟨by rw [FS.out]; simp <;> omega, ht, fun q h1 h2 => HK.out q (by rw [FS.out] at h1; simpa using h1) (by omega)⟩)
              rw [ht] at T
              clear ht
              go_wp2_with fail
              refine T.out.mono ?_
              rintro e w5 ⟨rfl, hb5⟩
              have HA5 := hide (HA4.out.bel hb5)
              clear hb5 T c0 c1 c2 c3
              go_wp2_with (at_builtin; (refine wpList_append_own _ rfl _ _ 25 rfl W3.heap.size 3 i0 _ 1 8 Tryd.underlying25 hi hz0 hz1 hz2 rfl (by decide) _ ns.length _ rfl (HA5.out.own rfl (k : Int)) ⟨w5.heap.size, 0, none⟩ 1 1 [.int .i64 (k : Int)] rfl rfl (one_at w5 (k : Int)) (one_cell (k : Int)) (by unfold maxLen; omega) (by omega) (HA5.out.sz (k : Int)) ?_))
              intro v1 u1 hown hgrow _
              have N1 := hide (HA5.out.next rfl hown hgrow)
              clear hown hgrow
              go_wp2_with fail
              go_roundw
              case rel => exact ⟨ns ++ [(k : Int)], by simp; omega, by first | (simp; done) | (simp; go_num), N1.out, R2.out⟩
              case measure => simp [intOf]; omega
            · have HK2 : Hid (∀ q, 0 ≤ q → q < 0 + ((k + 1 : Nat) : Int) → rtk (nth ns) (ME ns.length) q ns.length = true) := fun q h1 h2 => by
                rcases Int.lt_or_le q ((k : Int)) with h | h
                · exact HK.out q h1 (by omega)
                · obtain rfl : q = (k : Int) := by omega
                  exact ht
              rw [ht] at T
              clear ht
              go_wp2_with fail
              refine T.out.mono ?_
              rintro e w5 ⟨rfl, hb5⟩
              have HA5 := hide (HA4.out.bel hb5)
              clear hb5 T c0 c1 c2 c3
              go_wp2_with fail
              go_roundw
              case rel => exact ⟨k + 1, by go_num, HA5, HK2⟩
              case measure => simp [intOf]; omega
        · rw [hc] at BO FS
          go_wp2_with fail
          clear c0 c1 c2 c3
          go_loopw [13] (fun s13 wr' => ∃ k : Nat, s13 = .int .i64 (6 + (k : Int)) ∧ Hid (AI W3 (.slice av ns.length cav) ns wr') ∧ Hid (∀ q, 6 ≤ q → q < 6 + (k : Int) → rtk (nth ns) (ME ns.length) q ns.length = true)) (fun s13 _ => ns.length + 7 - (intOf s13).toNat)
          case atStart => exact ⟨0, rfl, HA.out, fun q h1 h2 => by omega⟩
          case round =>
            obtain ⟨k, rfl, HA4, HK⟩ := hrel
            have hkn := pig_rtk HK.out
            have T := hide (TK.out (.slice av ns.length cav) ns ns.length (6 + (k : Int)) _ HA4.out.b (by omega) (by omega) (HA4.out.n.nv.mono (Nat.zero_le _)))
            obtain ⟨c0, c1, c2, c3⟩ := HW.out.cells (bel_tr HB3.out HA4.out.b) hqW
            simp only at c0 c1 c2 c3
            cases ht : rtk (nth ns) (ME ns.length) (6 + (k : Int)) ns.length
            · have R2 := hide (R1.out (6 + (k : Int)) ⟨by rw [FS.out]; simp <;> omega, ht, fun q h1 h2 => HK.out q (by rw [FS.out] at h1; simpa using h1) (by omega)⟩)
              rw [ht] at T
              clear ht
              go_wp2_with fail
              refine T.out.mono ?_
              rintro e w5 ⟨rfl, hb5⟩
              have HA5 := hide (HA4.out.bel hb5)
              clear hb5 T c0 c1 c2 c3
              go_wp2_with (at_builtin; (refine wpList_append_own _ rfl _ _ 25 rfl W3.heap.size 3 i0 _ 1 8 Tryd.underlying25 hi hz0 hz1 hz2 rfl (by decide) _ ns.length _ rfl (HA5.out.own rfl ((6 : Int) + (k : Int))) ⟨w5.heap.size, 0, none⟩ 1 1 [.int .i64 ((6 : Int) + (k : Int))] rfl rfl (one_at w5 ((6 : Int) + (k : Int))) (one_cell ((6 : Int) + (k : Int))) (by unfold maxLen; omega) (by omega) (HA5.out.sz ((6 : Int) + (k : Int))) ?_))
              intro v1 u1 hown hgrow _
              have N1 := hide (HA5.out.next rfl hown hgrow)
              clear hown hgrow
              go_wp2_with fail
              go_roundw
              case rel => exact ⟨ns ++ [6 + (k : Int)], by simp; omega, by first | (simp; done) | (simp; go_num), N1.out, R2.out⟩
              case measure => simp [intOf]; omega
            · have HK2 : Hid (∀ q, 6 ≤ q → q < 6 + ((k + 1 : Nat) : Int) → rtk (nth ns) (ME ns.length) q ns.length = true) := fun q h1 h2 => by
                rcases Int.lt_or_le q (6 + (k : Int)) with h | h
                · exact HK.out q h1 (by omega)
                · obtain rfl : q = 6 + (k : Int) := by omega
                  exact ht
              rw [ht] at T
              clear ht
              go_wp2_with fail
              refine T.out.mono ?_
              rintro e w5 ⟨rfl, hb5⟩
              have HA5 := hide (HA4.out.bel hb5)
              clear hb5 T c0 c1 c2 c3
              go_wp2_with fail
              go_roundw
              case rel => exact ⟨k + 1, by go_num, HA5, HK2⟩
              case measure => simp [intOf]; omega
    · obtain rfl : ns.length = n := by omega
      have h1 : ¬ (ns.length : Int) < (ns.length : Int) := by omega
      go_wp2_with fail
      refine bodyPost_ret (results_tmp2 rfl _ _ _) rfl ?_
      exact FIN.out _ _ _ rfl HA.out HP.out
end Go.Proofs.YtjgaaofpfepfhaaDoor
/-
  The program's places and the document's are the same.
-/
namespace Go.Proofs.YtjgaaofpfepfhaaDoor
open Go.RowKit
set_option linter.unusedSimpArgs false
set_option linter.unusedVariables false
theorem mu_sym {A : Nat → Nat → Bool} {n i j : Nat} (hi : i < n) (hj : j < n) : mu A n i j = mu A n j i := by
  unfold mu
  rw [if_pos ⟨hi, hj⟩, if_pos ⟨hj, hi⟩, Bool.or_comm]
  congr 1
  rw [decide_eq_decide]
  exact ⟨Ne.symm, Ne.symm⟩
theorem st_meets {d : Cd} {l : List Ir} {A F : Nat → Nat} {n m i j : Nat} (hm : d.params = (m : Int)) (hi : i < n) (hj : j < n) : mu (stB l A F m) n i j = meetsB d l A F i j := by
  rw [mu_sym hi hj, st_cls hm hj hi]
  rfl
theorem tkn_rtk {pl pl' : Nat → Int} {set n : Nat} {cl : Nat → Bool} {p : Int} (h1 : ∀ j, j < n → pl j = pl' j) (h2 : ∀ j, j < n → set.testBit j = cl j) : tkn pl set n p = rtk pl' cl p n := by
  unfold tkn rtk
  rw [Bool.eq_iff_iff, List.any_eq_true, List.any_eq_true]
  constructor
  · rintro ⟨x, hx, e⟩; exact ⟨x, hx, by rw [← h1 x (List.mem_range.1 hx), ← h2 x (List.mem_range.1 hx)]; exact e⟩
  · rintro ⟨x, hx, e⟩; exact ⟨x, hx, by rw [h1 x (List.mem_range.1 hx), h2 x (List.mem_range.1 hx)]; exact e⟩
theorem places_one {d : Cd} {l : List Ir} {A F : Nat → Nat} {nm cr n : Nat} {S : Nat → Nat} {pl : Nat → Int} {ns : List Int} (hn : ns.length = n) (hS : ∀ i, i < n → ∀ j, j < n → (S i).testBit j = meetsB d l A F i j)
    (h1 : Plc nm cr S n pl) (h2 : RPl d l A F nm cr ns) : ∀ i, i < n → pl i = nth ns i := by
  intro i
  induction i using Nat.strongRecOn with
  | _ i ih =>
    intro hi
    obtain ⟨a1, a2⟩ := h1 i hi
    obtain ⟨b1, b2⟩ := h2 i (by omega)
    cases hb : nm.testBit i
    · rw [a1 hb, b1 hb]
    · obtain ⟨g1, g2, g3⟩ := a2 hb
      obtain ⟨k1, k2, k3⟩ := b2 hb
      have e : ∀ p, tkn pl (S i) i p = rtk (nth ns) (meetsB d l A F i) p i := fun p => tkn_rtk (fun j hj => ih j hj (by omega)) (fun j hj => hS i hi j (by omega))
      rcases Int.lt_trichotomy (pl i) (nth ns i) with h | h | h
      · have := k3 _ g1 h
        rw [← e, g2] at this; cases this
      · exact h
      · have := g3 _ k1 h
        rw [e, k2] at this; cases this
theorem crT_same {l : List Ir} {F F' : Nat → Nat} (h : ∀ i, i < l.length → F i = F' i) : ∀ k, k ≤ l.length → crT l F k = crT l F' k
  | 0, _ => rfl
  | k + 1, hk => by rw [crT_is, crT_is, crT_same h k (by omega), h k (by omega)]
theorem meets_same {d : Cd} {l : List Ir} {A F A' F' : Nat → Nat} (hA : ∀ i, i < l.length → A i = A' i) (hF : ∀ i, i < l.length → F i = F' i) (i : Nat) : meetsB d l A F i = meetsB d l A' F' i := by
  funext j
  unfold meetsB cls
  rw [giv_same hA, spo_same hF, spo_same hF]
/-- What the two bring, one beside the other. -/
theorem alloc_both {d : Cd} {l : List Ir} {w w1 w2 : World} {e e2 : Ending} (h : AEnds d l w e w1) (k : RAEnds d l w1 e2 w2) :
    (fitb d l = false ∧ e = .returned (.tuple #[.slice none 0 0, .int .i64 4]) ∧ e2 = .returned (.tuple #[.slice none 0 0, .bool false]) ∧ Below w.heap.size w w1 ∧ Below w1.heap.size w1 w2) ∨
    (fitb d l = true ∧ ∃ (r n : Nat) (v : Value) (ns : List Int), d.cells = (n : Int) ∧ ns.length = n ∧ e = .returned (.tuple #[.slice (some ⟨r, 0, none⟩) n n, .int .i64 0]) ∧ e2 = .returned (.tuple #[v, .bool true]) ∧ w.heap.size ≤ r ∧
      VRow r n (fun i => .int .i64 (nth ns i)) w1 ∧ Nv w1.heap.size v ns w2 ∧ Below w.heap.size w w1 ∧ Below w1.heap.size w1 w2) := by
  rcases h with ⟨hf, rfl, b1⟩ | ⟨hf, n, m, r, A, F, S, pl, hn, hm, rfl, hr, hv, hs, hS, hp, b1⟩ <;> rcases k with ⟨kf, rfl, b2⟩ | ⟨kf, n', m', A1, F1, A2, F2, v, ns, hn', hm', s1, s2, hl, rfl, nv, rp, b2⟩
  · exact Or.inl ⟨hf, rfl, rfl, b1, b2⟩
  · rw [hf] at kf; cases kf
  · rw [hf] at kf; cases kf
  · obtain rfl : n' = n := by omega
    obtain rfl : m' = m := by omega
    have hA : ∀ i, i < l.length → A i = A2 i := fun i hi => (hs.one s2 (show i < (sy l).n from hi)).1
    have hF : ∀ i, i < l.length → F i = F2 i := fun i hi => (hs.one s2 (show i < (sy l).n from hi)).2
    have hF1 : ∀ i, i < l.length → F1 i = F i := fun i hi => (s1.one hs (show i < (sy l).n from hi)).2
    rw [crT_same hF1 l.length (Nat.le_refl _)] at rp
    have P := places_one hl (fun i hi j hj => by rw [hS i hi j, st_meets hm hi hj, meets_same hA hF]) hp rp
    exact Or.inr ⟨hf, r, n', v, ns, hn, hl, rfl, rfl, hr, hv.congr fun i hi => by rw [P i hi], nv, b1, b2⟩
end Go.Proofs.YtjgaaofpfepfhaaDoor

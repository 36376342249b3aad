/-
  The program's Fits.
-/
import Derived.Test.YtjgaaofpfepfhaaDoorNames
namespace Go.Proofs.YtjgaaofpfepfhaaDoor
open Go.RowKit Go.Maps
set_option linter.unusedSimpArgs false
set_option linter.unusedVariables false
/-- How often a label stands. -/
def cnt (l : List Ir) (n : Int) : Nat := l.countP (lbl n)
theorem cnt_le (l : List Ir) (n : Int) : cnt l n ≤ l.length := List.countP_le_length
theorem cnt_take {l : List Ir} {k : Nat} (h : k < l.length) (n : Int) : cnt (l.take (k + 1)) n = cnt (l.take k) n + (if lbl n l[k] = true then 1 else 0) := by
  unfold cnt
  rw [List.take_add_one, List.countP_append, List.getElem?_eq_getElem h]
  simp [List.countP_cons]
/-- The map of how often. -/
def tm (l : List Ir) : Nat → DataW Unit
  | 0 => .map []
  | k + 1 => match l[k]? with
    | some x => if x.op = 9 then (tm l k).put (.int .i64 x.n) (.lit (.int .i64 ((cnt (l.take k) x.n : Int) + 1))) else tm l k
    | none => tm l k
theorem tm_no {l : List Ir} {k : Nat} (h : k < l.length) (h9 : l[k].op ≠ 9) : tm l (k + 1) = tm l k := by
  simp only [tm, List.getElem?_eq_getElem h, h9, if_false]
theorem tm_put {l : List Ir} {k : Nat} (h : k < l.length) (h9 : l[k].op = 9) : tm l (k + 1) = (tm l k).put (.int .i64 l[k].n) (.lit (.int .i64 ((cnt (l.take k) l[k].n : Int) + 1))) := by
  simp only [tm, List.getElem?_eq_getElem h, h9, if_true]
theorem tm_is (l : List Ir) : ∀ k, IsMap (tm l k)
  | 0 => isMap_empty
  | k + 1 => by
    rcases Nat.lt_or_ge k l.length with h | h
    · by_cases h9 : l[k].op = 9
      · rw [tm_put h h9]; exact (tm_is l k).put _ _
      · rw [tm_no h h9]; exact tm_is l k
    · simp only [tm, List.getElem?_eq_none h]; exact tm_is l k
theorem tm_at (l : List Ir) (y : Int) : ∀ k, k ≤ l.length → (tm l k).atKey (.int .i64 y) (.lit (.int .i64 0)) = .lit (.int .i64 ((cnt (l.take k) y : Nat) : Int))
  | 0, _ => by simp [tm, cnt, DataW.atKey]
  | k + 1, hk => by
    have h : k < l.length := hk
    rw [cnt_take h]
    by_cases h9 : l[k].op = 9
    · rw [tm_put h h9]
      by_cases e : l[k].n = y
      · have hb : lbl y l[k] = true := by simp [lbl, h9, e]
        rw [e, atKey_put_same (tm_is l k) (by trivial), hb]; simp
      · have hb : lbl y l[k] = false := by simp [lbl, e]
        rw [atKey_put_other (key_ne (Ne.symm e)), tm_at l y k (by omega), hb]; simp
    · have hb : lbl y l[k] = false := by simp [lbl, h9]
      rw [tm_no h h9, tm_at l y k (by omega), hb]; simp
/-- Of an instruction what Fits asks. -/
def okx (l : List Ir) (m : Int) (x : Ir) : Bool := nam x m && (!jmp x || decide (cnt l x.n = 1))
/-- A code. -/
structure Cd where
  cells : Int
  params : Int
  labels : Int
def fitb (d : Cd) (l : List Ir) : Bool := decide (0 ≤ d.params) && (decide (d.params ≤ d.cells) && (decide (d.cells ≤ 60) && l.all (okx l d.cells)))
def cv (d : Cd) (a : Option Addr) (n c : Nat) : Value := .agg #[.int .i64 d.cells, .int .i64 d.params, .slice a n c, .int .i64 d.labels]
theorem fit_all {d : Cd} {l : List Ir} (h1 : 0 ≤ d.params) (h2 : d.params ≤ d.cells) (h3 : d.cells ≤ 60) : fitb d l = l.all (okx l d.cells) := by simp [fitb, h1, h2, h3]
theorem all_yes {l : List Ir} {p : Ir → Bool} (h : ∀ j (hj : j < l.length), p l[j] = true) : l.all p = true := List.all_eq_true.2 fun x hx => by
  obtain ⟨j, hj, rfl⟩ := List.mem_iff_getElem.1 hx
  exact h j hj
theorem all_no {l : List Ir} {p : Ir → Bool} {k : Nat} (hk : k < l.length) (h : p l[k] = false) : l.all p = false := List.all_eq_false.2 ⟨l[k], List.getElem_mem _, by simp [h]⟩
/-- What lies there when the loops begin: the code in its box, the map. -/
structure FB (d : Cd) (a : Option Addr) (n c : Nat) (q : Nat) (l : List Ir) (w W : World) : Prop where
  b : Below w.heap.size w W
  lt : q < W.heap.size
  r : W.heap[q]? = some (.cells #[.int .i64 d.cells, .int .i64 d.params, .slice a n c, .int .i64 d.labels] 24)
theorem FB.cells {d : Cd} {a : Option Addr} {n c q : Nat} {l : List Ir} {w W U : World} (h : FB d a n c q l w W) {B : Nat} (k : Below B W U) (hq : q < B) : U.cell? ⟨q, 0, none⟩ = some (.int .i64 d.cells) ∧ U.cell? ⟨q, 1, none⟩ = some (.int .i64 d.params) ∧ U.cell? ⟨q, 2, none⟩ = some (.slice a n c) ∧ U.cell? ⟨q, 3, none⟩ = some (.int .i64 d.labels) := by
  have e := (k.block q hq).trans h.r
  simp [World.cell?, e]
set_option maxRecDepth 100000 in
set_option maxHeartbeats 6400000 in
theorem fits_any (d : Cd) (a : Option Addr) (cap : Nat) (l : List Ir) (w : World) (hl : l.length ≤ 1000) (hr : IR w.heap.size w a l) :
    Calls Tryd.prog 16 #[cv d a l.length cap] w fun e w' => e = .returned (.bool (fitb d l)) ∧ Below w.heap.size w w' := by
  have hl2 : ¬ 1000 < (l.length : Int) := by omega
  have HL := hide hl
  have HR := hide hr
  have hmm := @run_makeMap Tryd.prog
  have B0 : FB d a l.length cap w.heap.size l w (w.alloc (.cells #[.int .i64 d.cells, .int .i64 d.params, .slice a l.length cap, .int .i64 d.labels] 24)) := ⟨bel_one _ _, by simp, heap_alloc_new _ _⟩
  have FA := hide (@fit_all d l)
  have FD := hide (show fitb d l = (decide (0 ≤ d.params) && (decide (d.params ≤ d.cells) && (decide (d.cells ≤ 60) && l.all (okx l d.cells)))) from rfl)
  obtain ⟨cs, ps, ls⟩ := d
  unfold cv
  simp only at B0 FA FD ⊢
  clear hl hr
  go_enter Tryd.func16, Tryd.ntmps16
  go_upto_region 1 with fail
  refine gw (motive := fun x => Code.wp _ _ _ _ x) (fun W => Hid (FB ⟨cs, ps, ls⟩ a l.length cap w.heap.size l w W)) B0 ?_
  rintro W HW
  clear B0
  obtain ⟨c0, c1, c2, c3⟩ := HW.out.cells (Below.refl _ W) HW.out.lt
  simp only at c0 c1 c2 c3
  by_cases hp : ps < 0
  · have FD2 : Hid (fitb ⟨cs, ps, ls⟩ l = false) := by show _ = _; rw [FD.out]; simp [show ¬ 0 ≤ ps by omega]
    go_wp2_with fail
    go_ret
    exact ⟨by rw [FD2.out]; rfl, HW.out.b⟩
  by_cases hpc : cs < ps
  · have FD2 : Hid (fitb ⟨cs, ps, ls⟩ l = false) := by show _ = _; rw [FD.out]; simp [show ¬ ps ≤ cs by omega]
    go_wp2_with fail
    go_ret
    exact ⟨by rw [FD2.out]; rfl, HW.out.b⟩
  by_cases hc : 60 < cs
  · have FD2 : Hid (fitb ⟨cs, ps, ls⟩ l = false) := by show _ = _; rw [FD.out]; simp [show ¬ cs ≤ 60 by omega]
    go_wp2_with fail
    go_ret
    exact ⟨by rw [FD2.out]; rfl, HW.out.b⟩
  have FF := hide (FA.out (by omega) (by omega) (by omega))
  clear FA FD
  go_upto_region 4 with fail
  clear hmm
  have HMP : LMp W.heap.size (tm l 0) 0 (W.alloc (.map #[] 0)) := World.ownsMap_made _ _ _ _
  refine gw (motive := fun x => Code.wp _ _ _ _ x) (fun U => Hid (LMp W.heap.size (tm l 0) 0 U) ∧ Hid (Below W.heap.size W U)) ⟨HMP, bel_one _ _⟩ ?_
  rintro U0 ⟨HM0, HB0⟩
  clear HMP
  have hqW := HW.out.lt
  obtain ⟨c0, c1, c2, c3⟩ := HW.out.cells HB0.out hqW
  simp only at c0 c1 c2 c3
  go_wp2_with fail
  clear c0 c1 c2 c3
  go_loopw [5, 33] (fun _ s33 wr => ∃ k : Nat, k ≤ l.length ∧ s33 = .int .i64 (k : Int) ∧ Hid (LMp W.heap.size (tm l k) k wr) ∧ Hid (Below W.heap.size W wr)) (fun _ s33 _ => l.length - (intOf s33).toNat)
  case atStart => exact ⟨0, Nat.zero_le _, rfl, HM0, HB0⟩
  case round =>
    obtain ⟨k, hk, rfl, HM, HB⟩ := hrel
    have hk1 := HL.out
    by_cases hlt : k < l.length
    · obtain ⟨b, o, rfl, hb, hcx, hox⟩ := (HR.out.bel HW.out.b) k hlt
      have hbW : b < W.heap.size := Nat.lt_of_lt_of_le hb HW.out.b.size
      obtain ⟨d0, d1, d2, d3, d4, d5, d6⟩ := hcx.of (HB.out.block b hbW)
      have TN := hide (tm_no hlt)
      have TP := hide (tm_put hlt)
      have TA := hide (tm_at l l[k].n k hk)
      have hcn := cnt_le (l.take k) l[k].n
      have hcl : (l.take k).length ≤ 1000 := by rw [List.length_take]; omega
      clear hcx
      generalize l[k] = x at *
      obtain ⟨op, dst, aa, bb, cc, nn, mm⟩ := x
      simp only at d0 d1 d2 d3 d4 d5 d6 TN TP TA hcn
      by_cases h9 : op = 9
      · subst h9
        have HMV := HM.out.bel (bel_one wr (.cells #[.int .i64 9, .int .i64 dst, .int .i64 aa, .int .i64 bb, .int .i64 cc, .int .i64 nn, .int .i64 mm] 43))
        have HK := keyOf_int_mk (P := Tryd.prog) (k := 3) Tryd.underlying3 (wf64 hox.2.2.2.2.2.1)
        obtain ⟨q, hlk, hat, _⟩ := World.ownsMap.lookup_int HMV law3 Tryd.underlying58 Tryd.underlying3 (zero3 _) HK
        simp only at HK hlk hat
        obtain rfl : q = ((cnt (l.take k) nn : Nat) : Int) := by
          rw [TA.out] at hat
          injection hat with hat
          injection hat with _ hat
          exact hat.symm
        have hc0 : (0 : Int) ≤ ((cnt (l.take k) nn : Nat) : Int) := by omega
        have hc1 : ((cnt (l.take k) nn : Nat) : Int) ≤ 1000 := by omega
        have TP2 := hide (TP.out rfl)
        obtain ⟨w2, hrun, hown2, hgrow2⟩ := World.ownsMap.update HMV law3 Tryd.underlying58 (show k < maxLen by unfold maxLen; omega) HK (plainElem_int Tryd.underlying3 (a := ((cnt (l.take k) nn : Nat) : Int) + 1) (wf64 (by unfold I64; omega)))
        have O2 : Hid (LMp W.heap.size (tm l (k + 1)) (k + 1) w2) := by show World.ownsMap _ _ _ _ _ _ _; rw [TP2.out]; exact hown2
        have B2 : Hid (Below W.heap.size W w2) := (bel_al HB.out _).grown hgrow2 (bel_al HB.out _).size (fun j e => by cases e; exact Nat.le_refl _)
        clear HMV HK hown2 hgrow2 TP2 TP TN TA hat hcn hcl hox HM HB
        generalize ((cnt (l.take k) nn : Nat) : Int) = cn at *
        go_wp2_with fail
        go_roundw
        case rel => exact ⟨k + 1, hlt, by go_num, O2, B2⟩
        case measure => simp [intOf]; omega
      · have q9 : (op == 9) = false := by simpa using h9
        have O2 : Hid (LMp W.heap.size (tm l (k + 1)) (k + 1) (wr.alloc (.cells #[.int .i64 op, .int .i64 dst, .int .i64 aa, .int .i64 bb, .int .i64 cc, .int .i64 nn, .int .i64 mm] 43))) := by
          show World.ownsMap _ _ _ _ _ _ _
          rw [TN.out h9]; exact World.ownsMap.mono (HM.out.bel (bel_one wr _)) (Nat.le_succ _)
        have B2 := hide (bel_al HB.out (.cells #[.int .i64 op, .int .i64 dst, .int .i64 aa, .int .i64 bb, .int .i64 cc, .int .i64 nn, .int .i64 mm] 43))
        clear TP TN TA hcn hcl hox HM HB
        go_wp2_with fail
        go_roundw
        case rel => exact ⟨k + 1, hlt, by go_num, O2, B2⟩
        case measure => simp [intOf]; omega
    · have hkn : k = l.length := by omega
      subst hkn
      obtain ⟨U1, hU1⟩ : ∃ x, x = wr := ⟨_, rfl⟩
      subst hU1
      obtain ⟨c0, c1, c2, c3⟩ := HW.out.cells HB.out hqW
      simp only at c0 c1 c2 c3
      go_wp2_with fail
      clear c0 c1 c2 c3
      go_loopw [7, 49] (fun _ s49 wr => ∃ k : Nat, k ≤ l.length ∧ s49 = .int .i64 (k : Int) ∧ Hid (Below U1.heap.size U1 wr) ∧ Hid (∀ j (hj : j < l.length), j < k → okx l cs l[j] = true)) (fun _ s49 _ => l.length - (intOf s49).toNat)
      case atStart => exact ⟨0, Nat.zero_le _, rfl, Below.refl _ _, fun j hj h => absurd h (Nat.not_lt_zero _)⟩
      case round =>
        obtain ⟨k, hk, rfl, HB2, HA⟩ := hrel
        have hqU : w.heap.size < U1.heap.size := Nat.lt_of_lt_of_le hqW HB.out.size
        obtain ⟨c0, c1, c2, c3⟩ := HW.out.cells (HB.out.trans (HB2.out.mono HB.out.size)) hqW
        simp only at c0 c1 c2 c3
        by_cases hlt : k < l.length
        · obtain ⟨b, o, rfl, hb, hcx, hox⟩ := (HR.out.bel HW.out.b) k hlt
          have hbW : b < W.heap.size := Nat.lt_of_lt_of_le hb HW.out.b.size
          obtain ⟨d0, d1, d2, d3, d4, d5, d6⟩ := (hcx.of (HB.out.block b hbW)).of (HB2.out.block b (Nat.lt_of_lt_of_le hbW HB.out.size))
          have TA := hide (tm_at l l[k].n l.length (Nat.le_refl _))
          have OX := hide (show okx l cs l[k] = (nam l[k] cs && (!jmp l[k] || decide (cnt l l[k].n = 1))) from rfl)
          have AN := hide (fun h => all_no (p := okx l cs) hlt h)
          have AY : Hid (okx l cs l[k] = true → ∀ j (hj : j < l.length), j < k + 1 → okx l cs l[j] = true) := fun h j hj hjk => by
            rcases Nat.lt_succ_iff_lt_or_eq.1 hjk with h' | h'
            · exact HA.out j hj h'
            · subst h'; exact h
          rw [List.take_length] at TA
          have hB0 := Bx.made l[k] wr
          have NA := hide (fun U => names_any l[k] cs U)
          have JA := hide (fun U => jump_any l[k] U)
          clear hcx
          generalize l[k] = x at *
          obtain ⟨op, dst, aa, bb, cc, nn, mm⟩ := x
          unfold xv xc at NA JA
          unfold xc at hB0
          simp only at d0 d1 d2 d3 d4 d5 d6 TA OX
          go_upto_region 13 with fail
          refine gw (motive := fun x => Code.wp _ _ _ _ x) (fun V => Hid (Bx wr.heap.size ⟨op, dst, aa, bb, cc, nn, mm⟩ wr V) ∧ Hid (V.cell? ⟨w.heap.size, 0, none⟩ = some (.int .i64 cs))) ⟨hB0, ((bel_one wr _).cell (p := ⟨w.heap.size, 0, none⟩) (Nat.lt_of_lt_of_le hqU HB2.out.size)).trans c0⟩ ?_
          rintro V ⟨HV, HC0⟩
          clear hB0 d0 d1 d2 d3 d4 d5 d6 c0 c1 c2 c3
          obtain ⟨e0, e1, e2, e3, e4, e5, e6⟩ := HV.out.c7 (Below.refl _ V)
          simp only at e0 e1 e2 e3 e4 e5 e6
          have c0 := HC0.out
          have HBV := hide (bel_tr HB2.out HV.out.b)
          cases hn : nam ⟨op, dst, aa, bb, cc, nn, mm⟩ cs with
          | false =>
            rw [hn] at NA OX
            have FN : Hid (fitb ⟨cs, ps, ls⟩ l = false) := by show _ = _; rw [FF.out]; exact AN.out (by rw [OX.out]; rfl)
            go_wp2_with fail
            refine (NA.out _).mono ?_
            rintro e w1 ⟨rfl, h1⟩
            have HB3 := hide (HW.out.b.trans ((HB.out.trans ((bel_tr HBV.out h1).mono HB.out.size)).mono HW.out.b.size))
            clear h1 e0 e1 e2 e3 e4 e5 e6
            go_wp2_with fail
            go_ret
            exact ⟨by rw [FN.out]; rfl, HB3.out⟩
          | true =>
            rw [hn] at NA OX
            simp only [Bool.true_and] at OX
            go_wp2_with fail
            refine (NA.out _).mono ?_
            rintro e w1 ⟨rfl, h1⟩
            obtain ⟨e0, e1, e2, e3, e4, e5, e6⟩ := HV.out.c7 h1
            simp only at e0 e1 e2 e3 e4 e5 e6
            have HB3 := hide (bel_tr HBV.out h1)
            cases hj : jmp ⟨op, dst, aa, bb, cc, nn, mm⟩ with
            | false =>
              rw [hj] at JA OX
              have AY2 := hide (AY.out (by rw [OX.out]; rfl))
              go_wp2_with fail
              refine (JA.out _).mono ?_
              rintro e w2 ⟨rfl, h2⟩
              have HB4 := hide (bel_tr HB3.out h2)
              clear h1 h2 e0 e1 e2 e3 e4 e5 e6 HB3
              go_wp2_with fail
              go_roundw
              case rel => exact ⟨k + 1, hlt, by go_num, HB4, AY2⟩
              case measure => simp [intOf]; omega
            | true =>
              rw [hj] at JA OX
              simp only [Bool.not_true, Bool.false_or] at OX
              go_wp2_with fail
              refine (JA.out _).mono ?_
              rintro e w2 ⟨rfl, h2⟩
              obtain ⟨e0, e1, e2, e3, e4, e5, e6⟩ := HV.out.c7 (bel_tr h1 h2)
              simp only at e0 e1 e2 e3 e4 e5 e6
              have HB4 := hide (bel_tr HB3.out h2)
              have HK := keyOf_int_mk (P := Tryd.prog) (k := 3) Tryd.underlying3 (wf64 hox.2.2.2.2.2.1)
              obtain ⟨q, hlk, hat, _⟩ := World.ownsMap.lookup_int (HM.out.bel HB4.out) law3 Tryd.underlying58 Tryd.underlying3 (zero3 _) HK
              simp only at HK hlk hat
              obtain rfl : q = ((cnt l nn : Nat) : Int) := by
                rw [TA.out] at hat
                injection hat with hat
                injection hat with _ hat
                exact hat.symm
              clear hat HK h1 h2 HB3
              by_cases hc1 : cnt l nn = 1
              · have AY2 := hide (AY.out (by rw [OX.out]; simp [hc1]))
                rw [hc1] at hlk
                clear hc1
                go_wp2_with fail
                go_roundw
                case rel => exact ⟨k + 1, hlt, by go_num, HB4, AY2⟩
                case measure => simp [intOf]; omega
              · have FN : Hid (fitb ⟨cs, ps, ls⟩ l = false) := by show _ = _; rw [FF.out]; exact AN.out (by rw [OX.out]; simp [hc1])
                have hne : ¬ ((cnt l nn : Nat) : Int) = 1 := by omega
                have HB5 := hide (HW.out.b.trans ((HB.out.trans (HB4.out.mono HB.out.size)).mono HW.out.b.size))
                generalize ((cnt l nn : Nat) : Int) = cn at *
                go_wp2_with fail
                go_ret
                exact ⟨by rw [FN.out]; rfl, HB5.out⟩
        · have hkn : k = l.length := by omega
          subst hkn
          have FN : Hid (fitb ⟨cs, ps, ls⟩ l = true) := by show _ = _; rw [FF.out]; exact all_yes fun j hj => HA.out j hj hj
          have HB5 := hide (HW.out.b.trans ((HB.out.trans (HB2.out.mono HB.out.size)).mono HW.out.b.size))
          go_wp2_with fail
          go_ret
          exact ⟨by rw [FN.out]; rfl, HB5.out⟩
end Go.Proofs.YtjgaaofpfepfhaaDoor

/-
  The program's read at bytes that end early: the head alone, and a section that is cut off; memory that was there stays as it was.
-/
import Derived.Test.YtcbfpikggphokaaGreatDoorReader
import Derived.Test.YtcbfpikggphokaaGreatDoorEncC
namespace Go.Proofs.YtcbfpikggphokaaGreatDoor
open Go.RowKit

theorem results_mo {fn : Func} {p t : Tmp} (h : fn.results = #[.cell p 29, .tmp t]) (tmps : Array Value) (w : World) (g : Nat) (cs : Array Value) (hs : cs.size = 7) (hp : tmps.getD p undef = .pointer (some ⟨g, 0, none⟩)) (hb : Row w g cs 29) :
    (results fn tmps).run Tryz.prog w = .ok (.tuple #[.agg cs, tmps.getD t undef]) w := by
  have hi : (Tryz.prog.info? 29).map (·.size) = some 7 := by kernel_rfl
  have hl := run_loadVar_row (P := Tryz.prog) w g 29 29 cs _ _ hb Tryz.underlying29 rfl (by rw [hi, hs])
  have hp' : tmps[p]?.getD undef = .pointer (some ⟨g, 0, none⟩) := by simpa using hp
  simp [results, h, hp', asAddr, hl]
/-- The head stands ahead. -/
theorem hasPrefix_yes (l : List UInt8) (w : World) (hl : l.length ≤ 4000) :
    Calls Tryz.prog 119 #[.string (str (head6 ++ l)), .string (str head6)] w fun e w' => e = .returned (.bool true) ∧ w' = w := by
  have h6 : (str head6).size = 6 := by rw [str_size]; rfl
  have hz : (str (head6 ++ l)).size = 6 + l.length := by rw [str_size]; simp [head6]; omega
  have hx : (str (head6 ++ l)).extract 0 6 = str head6 := by rw [str_take]; rfl
  have g1 : (6 : Int) ≤ ((6 + l.length : Nat) : Int) := by omega
  go_enter Tryz.func119, Tryz.ntmps119
  go_wp2_with fail
  go_ret
  exact ⟨rfl, rfl⟩
theorem cut_yes (l : List UInt8) (w : World) (hl : l.length ≤ 4000) :
    Calls Tryz.prog 71 #[.string (str (head6 ++ l)), .string (str head6)] w fun e w' => e = .returned (.tuple #[.string (str l), .bool true]) ∧ w' = w := by
  have HP := hide (fun w => hasPrefix_yes l w hl)
  have C : Calls Tryz.prog 103 #[.string (str (head6 ++ l)), .string (str head6)] w fun e w' => e = .returned (.tuple #[.string (str l), .bool true]) ∧ w' = w := by
    have h6 : (str head6).size = 6 := by rw [str_size]; rfl
    have hz : (str (head6 ++ l)).size = 6 + l.length := by rw [str_size]; simp [head6]; omega
    have hx : (str (head6 ++ l)).extract 6 (str (head6 ++ l)).size = str l := by rw [str_drop]; rfl
    rw [hz] at hx
    have g1 : (6 : Int) ≤ ((6 + l.length : Nat) : Int) := by omega
    have g2 : 6 ≤ 6 + l.length := by omega
    go_enter Tryz.func103, Tryz.ntmps103
    go_wp2_with fail
    refine (HP.out _).mono ?_
    rintro e w1 ⟨rfl, rfl⟩
    go_wp2_with fail
    go_ret2
    exact ⟨rfl, rfl⟩
  have HC := hide C
  clear C HP
  go_enter Tryz.func71, Tryz.ntmps71
  go_wp2_with fail
  refine HC.out.mono ?_
  rintro e w1 ⟨rfl, rfl⟩
  go_wp2_with fail
  go_ret2
  exact ⟨rfl, rfl⟩
/-- Nothing has been read yet. -/
def parts0 : Array Value := #[.slice none 0 0, .slice none 0 0, .slice none 0 0, .int .i64 0, .int .i64 0, .slice none 0 0, .slice none 0 0, .slice none 0 0, .int .i64 0]
def mod0 : Array Value := #[.slice none 0 0, .slice none 0 0, .slice none 0 0, .int .i64 0, .int .i64 0, .slice none 0 0, .slice none 0 0]
theorem joined_0 (P0 : Nat) (w : World) (h : Row w P0 parts0 127) :
    Calls Tryz.prog 73 #[ptr P0] w fun e w' => e = .returned (.tuple #[.agg mod0, .nilIface]) ∧ Below w.heap.size w w' := by
  have hl := h.lt
  have R := hide h
  unfold parts0 at h
  have e0 := h.c 0 _ rfl
  have e1 := h.c 1 _ rfl
  have e2 := h.c 2 _ rfl
  have e3 := h.c 3 _ rfl
  have e4 := h.c 4 _ rfl
  have e5 := h.c 5 _ rfl
  have e6 := h.c 6 _ rfl
  have e7 := h.c 7 _ rfl
  clear h
  simp only [List.getElem_toArray, List.getElem_cons_zero, List.getElem_cons_succ] at e0 e1 e2 e3 e4 e5 e6 e7
  go_enter Tryz.func73, Tryz.ntmps73
  go_wp2_with fail
  go_region
  go_wp2_with fail
  refine wp_loop_rounds 1 ?_
  rw [rounds_succ]
  go_wp2_with fail
  refine bodyPost_ret (results_mo rfl _ _ w.heap.size mod0 rfl rfl ((Row.made w mod0 29).alloc _)) rfl ?_
  exact ⟨rfl, ((bel_one w _).alloc (by simp) _).drew⟩
/-- A section that is cut off. -/
theorem next_cut (P0 q c : Nat) (r : List UInt8) (cs : Array Value) (w : World) (hp : Row w P0 cs 127) (hc : cs[8]? = some (.int .i64 0)) (hq : RS w q (some (UInt8.ofNat c :: r))) (h1 : 1 ≤ c ∧ c ≤ 255) (hn : cntP r = none) (hpq : P0 ≠ q) :
    Calls Tryz.prog 72 #[ptr P0, ptr q] w fun e w' => ∃ p, e = .returned (flt p) ∧ FaultAt w' p 2 0 ∧ Below (min P0 q) w w' := by
  have O := hide (oneByte_any q _ w hq)
  have hv : (Option.bind (some (UInt8.ofNat c :: r)) oneP) = some ((c : Int), r) := by
    have : (UInt8.ofNat c).toNat = c := by simp; omega
    simp [oneP, this]
  rw [rest_some hv] at O
  have HP := hide hp
  have HL := hide hp.lt
  have HV := hide hv
  have hm : min P0 q ≤ w.heap.size := by have := hp.lt; omega
  clear hp hq hv
  go_enter Tryz.func72, Tryz.ntmps72
  go_wp2_with fail
  refine O.out.mono ?_
  rintro e w1 ⟨i, rfl, _, _, hx, h2, b2⟩
  have hi := hx _ _ HV.out
  subst hi
  have C := hide (counted_any q _ w1 h2)
  have hb : (Option.bind (some r) cntP) = none := hn
  rw [rest_none hb, got_none hb] at C
  have P1 := hide (b2.row HP.out hpq)
  have B2 := hide b2
  clear hx h2 O HV HP b2
  go_wp2_with fail
  refine C.out.mono ?_
  rintro e w2 ⟨rfl, h3, b3⟩
  obtain ⟨p, hpn, hr, hf⟩ := h3
  have hal := bel_one w2 (.cells #[.string (str []), .nilIface] 129)
  have R3 := hide (hr.kept hal)
  have F3 := hide (hf.kept hal)
  have P3 := hide ((b3.row P1.out hpq).kept hal)
  have B3 := hide ((B2.out.trans b3).trans (But.of hal))
  have d8 := P3.out.c 8 _ hc
  have z8 := P3.out.fr 8
  have d1 := R3.out.c 1 _ rfl
  simp only [List.getElem_toArray, List.getElem_cons_zero, List.getElem_cons_succ] at d1
  have g : ¬ ((c : Int) ≤ 0) := by omega
  have L3 := hide (P3.out.lt)
  have d1' : ((w2.alloc (.cells #[.string (str []), .nilIface] 129)).setCell ⟨P0, 8, none⟩ (.int .i64 c)).cell? ⟨q, 1, none⟩ = some (flt p) := by
    have := (R3.out.other (c := P0) 8 (.int .i64 c) (Ne.symm hpq)).c 1 _ rfl
    simpa using this
  clear hr hf hal b3 C B2 P1 d1
  unfold flt at *
  go_wp2_with fail
  go_ret
  refine ⟨p, rfl, ?_, ?_⟩
  · have f := F3.out
    by_cases e : p = P0
    · subst e
      have r3 := P3.out
      unfold Row at r3
      unfold FaultAt at f
      rw [r3] at f
      simp at f
    · unfold FaultAt at *
      rw [Below.heap_setCell _ _ _ _ e]; exact f
  · exact (((B3.out.more (Y := fun i => i = q ∨ i = P0) (fun _ _ h => Or.inl h)).set 8 _ (Or.inl (Or.inr rfl))).below hm (by intro i hi; omega))
theorem Row.all7 {w : World} {b : Nat} {ty : TypeId} {y0 y1 y2 y3 y4 y5 y6 : Value} (h : Row w b #[y0, y1, y2, y3, y4, y5, y6] ty) (x0 x1 x2 x3 x4 x5 x6 : Value) :
    Row (((((((w.setCell ⟨b, 0, none⟩ x0).setCell ⟨b, 1, none⟩ x1).setCell ⟨b, 2, none⟩ x2).setCell ⟨b, 3, none⟩ x3).setCell ⟨b, 4, none⟩ x4).setCell ⟨b, 5, none⟩ x5).setCell ⟨b, 6, none⟩ x6) b #[x0, x1, x2, x3, x4, x5, x6] ty := by
  have k0 : Row (w.setCell ⟨b, 0, none⟩ x0) b #[x0, y1, y2, y3, y4, y5, y6] ty := h.set 0 x0
  have k1 : Row ((w.setCell ⟨b, 0, none⟩ x0).setCell ⟨b, 1, none⟩ x1) b #[x0, x1, y2, y3, y4, y5, y6] ty := k0.set 1 x1
  have k2 : Row (((w.setCell ⟨b, 0, none⟩ x0).setCell ⟨b, 1, none⟩ x1).setCell ⟨b, 2, none⟩ x2) b #[x0, x1, x2, y3, y4, y5, y6] ty := k1.set 2 x2
  have k3 : Row ((((w.setCell ⟨b, 0, none⟩ x0).setCell ⟨b, 1, none⟩ x1).setCell ⟨b, 2, none⟩ x2).setCell ⟨b, 3, none⟩ x3) b #[x0, x1, x2, x3, y4, y5, y6] ty := k2.set 3 x3
  have k4 : Row (((((w.setCell ⟨b, 0, none⟩ x0).setCell ⟨b, 1, none⟩ x1).setCell ⟨b, 2, none⟩ x2).setCell ⟨b, 3, none⟩ x3).setCell ⟨b, 4, none⟩ x4) b #[x0, x1, x2, x3, x4, y5, y6] ty := k3.set 4 x4
  have k5 : Row ((((((w.setCell ⟨b, 0, none⟩ x0).setCell ⟨b, 1, none⟩ x1).setCell ⟨b, 2, none⟩ x2).setCell ⟨b, 3, none⟩ x3).setCell ⟨b, 4, none⟩ x4).setCell ⟨b, 5, none⟩ x5) b #[x0, x1, x2, x3, x4, x5, y6] ty := k4.set 5 x5
  have k6 : Row (((((((w.setCell ⟨b, 0, none⟩ x0).setCell ⟨b, 1, none⟩ x1).setCell ⟨b, 2, none⟩ x2).setCell ⟨b, 3, none⟩ x3).setCell ⟨b, 4, none⟩ x4).setCell ⟨b, 5, none⟩ x5).setCell ⟨b, 6, none⟩ x6) b #[x0, x1, x2, x3, x4, x5, x6] ty := k5.set 6 x6
  exact k6
theorem bel_all7 {B b : Nat} {a w : World} (h : Below B a w) (hb : B ≤ b) (x0 x1 x2 x3 x4 x5 x6 : Value) : Below B a (((((((w.setCell ⟨b, 0, none⟩ x0).setCell ⟨b, 1, none⟩ x1).setCell ⟨b, 2, none⟩ x2).setCell ⟨b, 3, none⟩ x3).setCell ⟨b, 4, none⟩ x4).setCell ⟨b, 5, none⟩ x5).setCell ⟨b, 6, none⟩ x6) := (((((((h.setCell hb x0).setCell hb x1).setCell hb x2).setCell hb x3).setCell hb x4).setCell hb x5).setCell hb x6)
theorem read_head (w : World) :
    Calls Tryz.prog 35 #[.string (str head6)] w fun e w' => e = .returned (.tuple #[.agg mod0, .nilIface]) ∧ Below w.heap.size w w' := by
  have C := hide (cut_yes [] (w.alloc (.cells mod0 29)) (by simp))
  have J := hide (joined_0 (w.heap.size + 1) (((w.alloc (.cells mod0 29)).alloc (.cells parts0 127)).alloc (.cells #[.string (str []), .nilIface] 129)) (by
    have := (Row.made (w.alloc (.cells mod0 29)) parts0 127).alloc (.cells #[.string (str []), .nilIface] 129)
    simpa using this))
  have h6 : (str head6).size = 6 := by rw [str_size]; rfl
  have he : (str []).toList.isEmpty = true := by unfold str; simp
  rw [List.append_nil] at C
  unfold mod0 parts0 at *
  go_enter Tryz.func35, Tryz.ntmps35
  go_wp2_with fail
  refine C.out.mono ?_
  rintro e w1 ⟨rfl, rfl⟩
  go_wp2_with fail
  refine wp_loop_rounds 1 ?_
  rw [rounds_succ]
  go_wp2_with fail
  refine J.out.mono ?_
  rintro e w2 ⟨rfl, b2⟩
  have hb := below_next (((bel_one w _).alloc (by simp) _).alloc (by simp; omega) _) b2
  have R := hide ((((Row.made w mod0 29).alloc (.cells parts0 127)).alloc (.cells #[.string (str []), .nilIface] 129)).kept b2)
  unfold mod0 at R
  have c0 := R.out.c 0 _ rfl
  have c1 := R.out.c 1 _ rfl
  have c2 := R.out.c 2 _ rfl
  have c3 := R.out.c 3 _ rfl
  have c4 := R.out.c 4 _ rfl
  have c5 := R.out.c 5 _ rfl
  have c6 := R.out.c 6 _ rfl
  have z := R.out.fr
  clear b2 J C
  go_wp2_with fail
  refine bodyPost_ret (results_mo rfl _ _ w.heap.size _ rfl rfl (Row.all7 R.out _ _ _ _ _ _ _)) rfl ?_
  exact ⟨rfl, bel_all7 hb (Nat.le_refl _) _ _ _ _ _ _ _⟩
theorem read_bad (w : World) (hL : Laid w) :
    Calls Tryz.prog 35 #[.string (str (head6 ++ [1, 2]))] w fun e w' => ∃ p, e = .returned (.tuple #[.agg mod0, flt p]) ∧ FaultAt w' p 2 6 ∧ w.heap.size ≤ p ∧ Below w.heap.size w w' := by
  have C := hide (cut_yes [1, 2] (w.alloc (.cells mod0 29)) (by simp))
  have hb1 := ((bel_one w (.cells mod0 29)).alloc (by simp) (.cells parts0 127)).alloc (by simp; omega) (.cells #[.string (str [1, 2]), .nilIface] 129)
  have RP : Row (((w.alloc (.cells mod0 29)).alloc (.cells parts0 127)).alloc (.cells #[.string (str [1, 2]), .nilIface] 129)) (w.heap.size + 1) parts0 127 := by
    have := (Row.made (w.alloc (.cells mod0 29)) parts0 127).alloc (.cells #[.string (str [1, 2]), .nilIface] 129)
    simpa using this
  have RQ : RS (((w.alloc (.cells mod0 29)).alloc (.cells parts0 127)).alloc (.cells #[.string (str [1, 2]), .nilIface] 129)) (w.heap.size + 1 + 1) (some [1, 2]) := by
    refine ⟨by simp, ?_⟩
    have := Row.made ((w.alloc (.cells mod0 29)).alloc (.cells parts0 127)) #[.string (str [1, 2]), .nilIface] 129
    simpa using this
  have RM : Row (((w.alloc (.cells mod0 29)).alloc (.cells parts0 127)).alloc (.cells #[.string (str [1, 2]), .nilIface] 129)) w.heap.size mod0 29 := ((Row.made w mod0 29).alloc _).alloc _
  have NX := hide (next_cut (w.heap.size + 1) (w.heap.size + 1 + 1) 1 [2] parts0 _ RP rfl RQ (by omega) (by decide) (by omega))
  have HM := hide RM
  have L1 := hide (hL.below hb1 hL.pos)
  have LP := hide hL.pos
  clear RP RQ RM hL
  have h8 : (str (head6 ++ [1, 2])).size = 8 := by rw [str_size]; rfl
  have h2 : (str [1, 2]).size = 2 := by rw [str_size]; rfl
  have he : (str [1, 2]).toList.isEmpty = false := by unfold str; simp
  unfold mod0 parts0 at *
  go_enter Tryz.func35, Tryz.ntmps35
  go_wp2_with fail
  refine C.out.mono ?_
  rintro e w1 ⟨rfl, rfl⟩
  go_wp2_with fail
  refine wp_loop_rounds 1 ?_
  rw [rounds_succ]
  go_wp2_with fail
  refine NX.out.mono ?_
  rintro e w2 ⟨p, rfl, f2, b2⟩
  have b2' := b2.mono (show w.heap.size + 1 ≤ min (w.heap.size + 1) (w.heap.size + 1 + 1) by omega)
  have hb2 := hb1.trans (b2'.mono (by omega))
  have R2 := hide (HM.out.below b2' (by omega))
  have L2 := L1.out.below b2' (by omega)
  have K := hide (kind_fault p 2 0 w2 L2 f2)
  clear f2 b2 L2 NX C HM b2'
  unfold flt at *
  go_wp2_with fail
  refine K.out.mono ?_
  rintro e w3 ⟨rfl, b3⟩
  have hb3 := below_next hb2 b3
  have R3 := hide (R2.out.kept b3)
  have q3 := hb3.size
  clear b3 K R2
  go_wp2_with fail
  refine (fault_any 2 6 w3).mono ?_
  rintro e w4 ⟨rfl, f4, b4⟩
  have hb4 := below_next hb3 b4
  have R4 := hide (R3.out.kept b4)
  have F4 := hide f4
  have c0 := R4.out.c 0 _ rfl
  have c1 := R4.out.c 1 _ rfl
  have c2 := R4.out.c 2 _ rfl
  have c3 := R4.out.c 3 _ rfl
  have c4 := R4.out.c 4 _ rfl
  have c5 := R4.out.c 5 _ rfl
  have c6 := R4.out.c 6 _ rfl
  have z := R4.out.fr
  clear b4 f4 R3
  unfold flt
  go_wp2_with fail
  refine bodyPost_ret (results_mo rfl _ _ w.heap.size _ rfl rfl (Row.all7 R4.out _ _ _ _ _ _ _)) rfl ?_
  refine ⟨w3.heap.size, rfl, ?_, q3, bel_all7 hb4 (Nat.le_refl _) _ _ _ _ _ _ _⟩
  have hn : w3.heap.size ≠ w.heap.size := by
    have := hb1.size; have := hb2.size; have h3 := R4.out.lt; intro e
    have f := F4.out
    have r := R4.out
    rw [e] at f
    unfold FaultAt at f
    unfold Row at r
    rw [r] at f
    simp at f
  have f := F4.out
  unfold FaultAt at *
  rw [Below.heap_setCell _ _ _ _ hn, Below.heap_setCell _ _ _ _ hn, Below.heap_setCell _ _ _ _ hn, Below.heap_setCell _ _ _ _ hn, Below.heap_setCell _ _ _ _ hn, Below.heap_setCell _ _ _ _ hn, Below.heap_setCell _ _ _ _ hn]
  exact f
end Go.Proofs.YtcbfpikggphokaaGreatDoor

/-
  The program's partsOf.
-/
import Derived.Test.YtjgaaofpfepfhaaDoorRowz
import Derived.Laws.MakeOwn
namespace Go.Proofs.YtjgaaofpfepfhaaDoor
open Go.RowKit
set_option linter.unusedSimpArgs false
set_option linter.unusedVariables false
theorem info69 : (Tryd.prog.info? 85).map (fun i => (i.zero, i.size, i.bytes)) = some (some (.agg #[.slice none 0 0, .int .i64 0, .int .i64 0]), 3, 40) := by kernel_rfl
def zp3 : Array Value := #[.slice none 0 0, .int .i64 0, .int .i64 0]
theorem make_parts (n : Nat) (hn : n ≤ 1000) (X : World) : (Instr.makeSlice 79 (.int .i64 (n : Int)) (.int .i64 (n : Int))).run Tryd.prog X = .ok (.slice (some ⟨X.heap.size, 0, none⟩) n n) (X.alloc (.cells (madeCells zp3 (n * 3)) 85)) := by
  obtain ⟨i0, hi, hz0, hz1, hz2⟩ := info_parts info69
  have := run_make X 79 85 i0 _ Tryd.underlying79 hi hz0 .i64 .i64 (n : Int) (n : Int) (by omega) (by omega) (by rw [hz2]; omega) (by omega)
  rw [this, hz1]
  rfl
theorem PRow.made (n : Nat) (X : World) : PRow X.heap.size n (fun _ => .slice none 0 0) (fun _ => 0) (fun _ => 0) (X.alloc (.cells (madeCells zp3 (n * 3)) 85)) := by
  have e := heap_alloc_new X (.cells (madeCells zp3 (n * 3)) 85)
  have g : ∀ i, i < n → ∀ k, k < 3 → (madeCells zp3 (n * 3))[i * 3 + k]? = zp3[k]? := fun i hi k hk => by
    have h1 : i * 3 + k < n * 3 := by omega
    have h2 : (i * 3 + k) % 3 = k := by omega
    have : k = 0 ∨ k = 1 ∨ k = 2 := by omega
    simp only [madeCells, Array.getElem?_map, Array.getElem?_range, h1, if_true, Option.map_some, h2, show zp3.size = 3 from rfl]
    rcases this with rfl | rfl | rfl <;> rfl
  generalize X.alloc (.cells (madeCells zp3 (n * 3)) 85) = Y at *
  refine ⟨(Array.getElem?_eq_some_iff.1 e).1, fun i hi => ?_, fun i hi => ?_, fun i hi => ?_, fun j => by simp [World.frozen?, e]⟩
  · have := g i hi 0 (by omega)
    simp only [World.cell?, e]
    simpa [zp3] using this
  · have := g i hi 1 (by omega)
    simp only [World.cell?, e]
    simpa [zp3] using this
  · have := g i hi 2 (by omega)
    simp only [World.cell?, e]
    simpa [zp3] using this
theorem PRow.congr {b n : Nat} {vn : Nat → Value} {rd wr rd' wr' : Nat → Nat} {W : World} (h : PRow b n vn rd wr W) (e1 : ∀ i, i < n → rd i = rd' i) (e2 : ∀ i, i < n → wr i = wr' i) : PRow b n vn rd' wr' W :=
  ⟨h.lt, h.c0, fun i hi => by rw [← e1 i hi]; exact h.c1 i hi, fun i hi => by rw [← e2 i hi]; exact h.c2 i hi, h.f⟩
/-- The parts, k of them made. -/
structure PK (l : List Ir) (pb k : Nat) (W1 W : World) (vn : Nat → Value) (rd wr : Nat → Nat) : Prop where
  p : PRow pb l.length vn rd wr W
  b : Bt (fun b => b = pb) W1 W
  y : ∀ i, i < k → Nv (pb + 1) (vn i) (nxt l i) W ∧ rd i = rdS (l.getD i ir0) ∧ wr i = wrS (l.getD i ir0)
  n : ∀ i, k ≤ i → rd i = 0 ∧ wr i = 0
theorem PK.bt {l : List Ir} {pb k : Nat} {W1 W W' : World} {vn : Nat → Value} {rd wr : Nat → Nat} (h : PK l pb k W1 W vn rd wr) (hb : Below W.heap.size W W') : PK l pb k W1 W' vn rd wr :=
  ⟨h.p.of (hb.block _ h.p.lt), h.b.bel hb, fun i hi => ⟨(h.y i hi).1.kept hb, (h.y i hi).2⟩, h.n⟩
/-- Part k, on its way: what comes behind it stands; so do some of the cells that it reads. -/
structure PJ (l : List Ir) (pb k : Nat) (r : Nat) (W1 W : World) (vn : Nat → Value) (rd wr : Nat → Nat) : Prop where
  p : PRow pb l.length vn rd wr W
  b : Bt (fun b => b = pb) W1 W
  y : ∀ i, i < k → Nv (pb + 1) (vn i) (nxt l i) W ∧ rd i = rdS (l.getD i ir0) ∧ wr i = wrS (l.getD i ir0)
  n : ∀ i, k < i → rd i = 0 ∧ wr i = 0
  v : Nv (pb + 1) (vn k) (nxt l k) W
  r : rd k = r
  w : wr k = 0
section
variable {l : List Ir} {pb k r : Nat} {W1 W W' : World} {vn : Nat → Value} {rd wr : Nat → Nat}
theorem PJ.bt (h : PJ l pb k r W1 W vn rd wr) (hb : Below W.heap.size W W') : PJ l pb k r W1 W' vn rd wr :=
  ⟨h.p.of (hb.block _ h.p.lt), h.b.bel hb, fun i hi => ⟨(h.y i hi).1.kept hb, (h.y i hi).2⟩, h.n, h.v.kept hb, h.r, h.w⟩
theorem bt_self (pb : Nat) (W : World) (j : Nat) (v : Value) : Bt (fun b => b = pb) W (W.setCell ⟨pb, j, none⟩ v) := Bt.set (X := fun b => b = pb) (Bt.refl _ W) rfl j v
theorem PK.start (h : PK l pb k W1 W vn rd wr) (hk : k < l.length) {v : Value} (hv : Nv (pb + 1) v (nxt l k) W) : PJ l pb k 0 W1 (W.setCell ⟨pb, k * 3, none⟩ v) (upv vn k v) rd wr := by
  have hX : ∀ b, pb + 1 ≤ b → ¬ b = pb := fun b h => by omega
  refine ⟨h.p.setN hk v, h.b.set rfl _ _, fun i hi => ?_, fun i hi => h.n i (by omega), ?_, (h.n k (Nat.le_refl _)).1, (h.n k (Nat.le_refl _)).2⟩
  · rw [upv_other vn v (by omega)]
    exact ⟨(h.y i hi).1.bt (bt_self pb W _ v) hX, (h.y i hi).2⟩
  · rw [upv_same]; exact hv.bt (bt_self pb W _ v) hX
theorem PJ.read (h : PJ l pb k r W1 W vn rd wr) (hk : k < l.length) (s : Nat) : PJ l pb k s W1 (W.setCell ⟨pb, k * 3 + 1, none⟩ (.int .i64 ((s : Nat) : Int))) vn (upd rd k s) wr := by
  have hX : ∀ b, pb + 1 ≤ b → ¬ b = pb := fun b h => by omega
  refine ⟨h.p.setR hk s, h.b.set rfl _ _, fun i hi => ?_, fun i hi => ?_, h.v.bt (bt_self pb W _ _) hX, upd_same _ _ _, h.w⟩
  · rw [upd_other rd s (by omega)]
    exact ⟨(h.y i hi).1.bt (bt_self pb W _ _) hX, (h.y i hi).2⟩
  · rw [upd_other rd s (by omega)]; exact h.n i hi
theorem PJ.none_ (h : PJ l pb k r W1 W vn rd wr) (hr : r = rdS (l.getD k ir0)) (hw : wrS (l.getD k ir0) = 0) : PK l pb (k + 1) W1 W vn rd wr := by
  refine ⟨h.p, h.b, fun i hi => ?_, fun i hi => h.n i (by omega)⟩
  rcases Nat.lt_succ_iff_lt_or_eq.1 hi with e | e
  · exact h.y i e
  · subst e; exact ⟨h.v, h.r.trans hr, by rw [hw]; exact h.w⟩
theorem PJ.write (h : PJ l pb k r W1 W vn rd wr) (hk : k < l.length) (hr : r = rdS (l.getD k ir0)) : PK l pb (k + 1) W1 (W.setCell ⟨pb, k * 3 + 2, none⟩ (.int .i64 ((wrS (l.getD k ir0) : Nat) : Int))) vn rd (upd wr k (wrS (l.getD k ir0))) := by
  have hX : ∀ b, pb + 1 ≤ b → ¬ b = pb := fun b h => by omega
  refine ⟨h.p.setW hk _, h.b.set rfl _ _, fun i hi => ?_, fun i hi => ?_⟩
  · rcases Nat.lt_succ_iff_lt_or_eq.1 hi with e | e
    · rw [upd_other wr _ (by omega)]
      exact ⟨(h.y i e).1.bt (bt_self pb W _ _) hX, (h.y i e).2⟩
    · subst e
      rw [upd_same]
      exact ⟨h.v.bt (bt_self pb W _ _) hX, h.r.trans hr, rfl⟩
  · rw [upd_other wr _ (by omega)]; exact h.n i (by omega)
end
/-- An instruction in a box that is not the parts' row. -/
structure QX (q pb : Nat) (x : Ir) (U : World) : Prop where
  lt : q < U.heap.size
  ne : q ≠ pb
  r : U.heap[q]? = some (.cells (xc x) 43)
theorem QX.bel {q pb : Nat} {x : Ir} {U V : World} (h : QX q pb x U) (k : Below U.heap.size U V) : QX q pb x V := ⟨Nat.lt_of_lt_of_le h.lt k.size, h.ne, (k.block _ h.lt).trans h.r⟩
theorem QX.set {q pb : Nat} {x : Ir} {U : World} (h : QX q pb x U) (j : Nat) (v : Value) : QX q pb x (U.setCell ⟨pb, j, none⟩ v) :=
  ⟨by simpa [World.setCell] using h.lt, h.ne, (Below.heap_setCell U ⟨pb, j, none⟩ v q h.ne).trans h.r⟩
theorem QX.c7 {q pb : Nat} {x : Ir} {U : World} (h : QX q pb x U) : C7 q 0 x U := by
  have e := h.r
  unfold xc at e
  constructor <;> simp [World.cell?, e]
theorem bel_drew (W : World) : Below W.heap.size W W.drew := (Below.refl _ W).drew
/-- What j of its cells make. -/
def rdT (x : Ir) (j : Nat) : Nat := ors (((us x).take j).map one)
theorem rdT_succ (x : Ir) {j : Nat} (h : j < (us x).length) : rdT x (j + 1) = rdT x j ||| one (us x)[j] := by
  unfold rdT
  rw [List.take_add_one, List.getElem?_eq_getElem h]
  simp only [Option.toList_some, List.map_append, List.map_cons, List.map_nil]
  exact ors_snoc _ _
theorem rdT_all (x : Ir) : rdT x (us x).length = rdS x := by unfold rdT; rw [List.take_length]; rfl
theorem rdT_lim {x : Ir} (h : ∀ y ∈ us x, 0 ≤ y ∧ y < 60) (j : Nat) : rdT x j < lim := ors_lim fun s hs => by
  obtain ⟨y, hy, rfl⟩ := List.mem_map.1 hs
  exact one_lim (h y (List.mem_of_mem_take hy)).2
set_option maxRecDepth 100000 in
set_option maxHeartbeats 6400000 in
theorem parts_any (a : Option Addr) (cap : Nat) (l : List Ir) (w : World) (hl : l.length ≤ 1000) (hr : IR w.heap.size w a l) (ho : Ok60 l) :
    Calls Tryd.prog 54 #[.slice a l.length cap] w fun e w' => ∃ vn, e = .returned (.slice (some ⟨w.heap.size, 0, none⟩) l.length l.length) ∧ PRow w.heap.size l.length vn (fun i => rdS (l.getD i ir0)) (fun i => wrS (l.getD i ir0)) w' ∧ (∀ i, i < l.length → Nv (w.heap.size + 1) (vn i) (nxt l i) w') ∧ Below w.heap.size w w' := by
  have HL := hide hl
  have HR := hide hr
  have HO := hide ho
  have hmk := make_parts l.length hl
  have P0 := PRow.made l.length w
  have B0 := bel_one w (.cells (madeCells zp3 (l.length * 3)) 85)
  have S0 : (w.alloc (.cells (madeCells zp3 (l.length * 3)) 85)).heap.size = w.heap.size + 1 := by simp
  clear hl hr ho
  go_enter Tryd.func54, Tryd.ntmps54
  go_upto_region 2 with fail
  refine gw (motive := fun x => Code.wp _ _ _ _ x) (fun W => Hid (PRow w.heap.size l.length (fun _ => .slice none 0 0) (fun _ => 0) (fun _ => 0) W) ∧ Hid (Below w.heap.size w W) ∧ W.heap.size = w.heap.size + 1) ⟨P0, B0, S0⟩ ?_
  rintro W ⟨HP, HB, hS⟩
  clear P0 B0 S0 hmk
  have LA := hide (labels_any a cap l HL.out W ((HR.out.bel HB.out).up (by omega)))
  rw [hS] at LA
  go_wp2_with fail
  refine LA.out.mono ?_
  rintro e W1 ⟨rfl, hm, hb1⟩
  have HM := hide hm
  have hAlt : w.heap.size + 1 < W1.heap.size := World.ownsMap.lt hm
  have HK0 : Hid (PK l w.heap.size 0 W1 W1 (fun _ => .slice none 0 0) (fun _ => 0) (fun _ => 0)) := ⟨HP.out.of (hb1.block _ (by omega)), Bt.refl _ _, fun i hi => absurd hi (Nat.not_lt_zero _), fun _ _ => ⟨rfl, rfl⟩⟩
  have HB1 := hide (HB.out.trans (hb1.mono (by omega)))
  clear LA hm hb1 HP HB hS
  generalize hpb : w.heap.size = pb at *
  have HPB := hide hpb
  clear hpb
  go_wp2_with fail
  go_loopw [5, 6, 7, 9, 10, 18] (fun _ _ _ _ _ s18 wr => ∃ (k : Nat) (vn : Nat → Value) (rd wr_ : Nat → Nat), k ≤ l.length ∧ s18 = .int .i64 (k : Int) ∧ Hid (PK l pb k W1 wr vn rd wr_)) (fun _ _ _ _ _ s18 _ => l.length - (intOf s18).toNat)
  case atStart => exact ⟨0, _, _, _, Nat.zero_le _, rfl, HK0⟩
  case round =>
    clear HK0
    obtain ⟨k, vn, rd, wrr, hk, rfl, HK⟩ := hrel
    have hk1 := HL.out
    by_cases hlt : k < l.length
    · have hIRW := (HR.out.bel HB1.out)
      have hpW : ∀ b, b < pb → ¬ b = pb := fun b h => by omega
      obtain ⟨b, o, rfl, hb, hcx, hox⟩ := hIRW k hlt
      have hIRk := hIRW.bt HK.out.b (by omega) hpW
      obtain ⟨d0, d1, d2, d3, d4, d5, d6⟩ := hcx.of (HK.out.b.block b (by omega) (hpW b hb))
      have hB0 := Bx.made l[k] wr
      have hPK := HK.out.bt hB0.b
      have NX := hide (fun U (hU : Below wr.heap.size wr U) => next_any (some ⟨b, o, none⟩) cap (pb + 1) l k U HL.out hlt ((hIRk.up (n₁ := wr.heap.size) (by have := HK.out.b.size; omega)).bel hU |>.up hU.size) ((HM.out.bt HK.out.b (by omega)).bel hU) (by have := HK.out.b.size; have := hU.size; omega))
      clear hcx hIRW hIRk
      have HG : Hid (l.getD k ir0 = l[k]) := by show _ = _; simp [List.getD, hlt]
      have HU6 := hide (HO.out.us (List.getElem_mem hlt))
      have HD6 := hide ((HO.out l[k] (List.getElem_mem hlt)).2)
      have DA := hide (fun U => defs_any l[k] U)
      have UA := hide (fun U => uses_any l[k] U)
      have WS := hide (show wrS l[k] = if df l[k] = -1 then 0 else one (df l[k]) from rfl)
      have hpq : pb + 1 ≤ wr.heap.size := by have := HK.out.b.size; omega
      generalize l[k] = x at *
      have HX : QX wr.heap.size pb x (wr.alloc (.cells (xc x) 43)) := ⟨hB0.lt, by omega, hB0.r⟩
      obtain ⟨op, dst, aa, bb, cc, nn, mm⟩ := x
      unfold xv xc at DA UA
      unfold xc at hB0 hPK HX
      simp only at d0 d1 d2 d3 d4 d5 d6
      go_upto_region 6 with fail
      refine gw (motive := fun x => Code.wp _ _ _ _ x) (fun V => Hid (PK l pb k W1 V vn rd wrr) ∧ Hid (QX wr.heap.size pb ⟨op, dst, aa, bb, cc, nn, mm⟩ V) ∧ Hid (Below wr.heap.size wr V)) ⟨hPK, HX, hB0.b⟩ ?_
      rintro V ⟨HKV, HXV, HBV⟩
      clear hPK HX hB0 d0 d1 d2 d3 d4 d5 d6 HK
      go_wp2_with fail
      refine (NX.out V HBV.out).mono ?_
      rintro e w1 ⟨v, rfl, hv, hb1⟩
      have HK1 := hide (HKV.out.bt hb1)
      have HX1 := hide (HXV.out.bel hb1)
      have HV1 := hide (hv.mono (B' := pb + 1) (by have := HBV.out.size; omega))
      obtain ⟨av, cv, hf⟩ := hv.form
      subst hf
      have n0 := HK1.out.p.c0 k hlt
      have f0 := HK1.out.p.f (k * 3)
      clear NX hv hb1 HKV HXV HBV
      go_upto_region 8 with fail
      have PJ0 := HK1.out.start hlt HV1.out
      have QX0 := HX1.out.set (k * 3) (.slice av (nxt l k).length cv)
      refine gw (motive := fun x => Code.wp _ _ _ _ x) (fun U => Hid (PJ l pb k 0 W1 U (upv vn k (.slice av (nxt l k).length cv)) rd wrr) ∧ Hid (QX wr.heap.size pb ⟨op, dst, aa, bb, cc, nn, mm⟩ U)) ⟨PJ0, QX0⟩ ?_
      rintro U ⟨HJU, HXU⟩
      clear PJ0 QX0 HK1 HX1 HV1 n0 f0
      generalize upv vn k (.slice av (nxt l k).length cv) = vn1 at *
      generalize wr.heap.size = q at *
      obtain ⟨e0, e1, e2, e3, e4, e5, e6⟩ := HXU.out.c7
      simp only at e0 e1 e2 e3 e4 e5 e6
      go_wp2_with fail
      refine (UA.out U).mono ?_
      rintro e w2 ⟨v2, rfl, hv, hb1⟩
      have HJ2 := hide (HJU.out.bt hb1)
      have HX2 := hide (HXU.out.bel hb1)
      have HV2 := hide (hv.mono (B' := pb + 1) (by have := HXU.out.lt; have := HJU.out.b.size; omega))
      obtain ⟨a2, c2, hf⟩ := hv.form
      subst hf
      clear UA hv hb1 HJU HXU e0 e1 e2 e3 e4 e5 e6
      go_wp2_with fail
      go_loopw [9, 36] (fun _ s36 wr => ∃ (j : Nat) (vn : Nat → Value) (rd wr_ : Nat → Nat), j ≤ (us ⟨op, dst, aa, bb, cc, nn, mm⟩).length ∧ s36 = .int .i64 (j : Int) ∧ Hid (PJ l pb k (rdT ⟨op, dst, aa, bb, cc, nn, mm⟩ j) W1 wr vn rd wr_) ∧ Hid (QX q pb ⟨op, dst, aa, bb, cc, nn, mm⟩ wr) ∧ Hid (Nv (pb + 1) (.slice a2 (us ⟨op, dst, aa, bb, cc, nn, mm⟩).length c2) (us ⟨op, dst, aa, bb, cc, nn, mm⟩) wr)) (fun _ s36 _ => (us ⟨op, dst, aa, bb, cc, nn, mm⟩).length - (intOf s36).toNat)
      case atStart => exact ⟨0, vn1, rd, wrr, Nat.zero_le _, rfl, HJ2, HX2, HV2⟩
      case round =>
        clear HJ2 HX2 HV2
        obtain ⟨j, vn2, rd2, wr2, hj, rfl, HJ, HX, HV⟩ := hrel
        have hul := us_len ⟨op, dst, aa, bb, cc, nn, mm⟩
        by_cases hjl : j < (us ⟨op, dst, aa, bb, cc, nn, mm⟩).length
        · obtain ⟨g, c', e, hg1, hg2, hx⟩ := HV.out.at_ hjl
          injection e with ea e3 e2
          subst ea e2
          have hy := HU6.out _ (List.getElem_mem hjl)
          have HT := hide (rdT_succ ⟨op, dst, aa, bb, cc, nn, mm⟩ hjl)
          have hbits := bits_or (rdT_lim HU6.out j) (one_lim hy.2)
          have CE := hide (fun W => cell_any (us ⟨op, dst, aa, bb, cc, nn, mm⟩)[j] W hy.1 hy.2)
          have n1 := HJ.out.p.c1 k hlt
          have f1 := HJ.out.p.f (k * 3 + 1)
          rw [HJ.out.r] at n1
          have HRD := hide ((HJ.out.read hlt (rdT ⟨op, dst, aa, bb, cc, nn, mm⟩ (j + 1))).bt (bel_drew _))
          have HXD := hide ((HX.out.set (k * 3 + 1) (.int .i64 ((rdT ⟨op, dst, aa, bb, cc, nn, mm⟩ (j + 1) : Nat) : Int))).bel (bel_drew _))
          have HVD := hide ((HV.out.bt (bt_self pb wr (k * 3 + 1) (.int .i64 ((rdT ⟨op, dst, aa, bb, cc, nn, mm⟩ (j + 1) : Nat) : Int))) (fun b h => by omega)).kept (bel_drew _))
          rw [← HT.out] at hbits
          generalize hR1 : rdT ⟨op, dst, aa, bb, cc, nn, mm⟩ (j + 1) = R1 at *
          have HR1 := hide hR1
          clear hR1
          generalize rdT ⟨op, dst, aa, bb, cc, nn, mm⟩ j = R0 at *
          generalize (us ⟨op, dst, aa, bb, cc, nn, mm⟩)[j] = y at *
          generalize one y = O at *
          clear HT hy HJ HX HV hg1
          go_wp2_with fail
          go_region_with (go_at_call 36; refine (CE.out _).mono ?_; rintro e w' ⟨rfl, rfl⟩)
          all_goals
            go_wp2_with fail
            go_roundw
            case rel => exact ⟨j + 1, _, _, _, hjl, by go_num, by rw [HR1.out]; exact HRD, HXD, HVD⟩
            case measure => simp [intOf]; omega
        · have hje : j = (us ⟨op, dst, aa, bb, cc, nn, mm⟩).length := by omega
          subst hje
          have hRA := rdT_all ⟨op, dst, aa, bb, cc, nn, mm⟩
          rw [hRA] at HJ
          obtain ⟨e0, e1, e2, e3, e4, e5, e6⟩ := HX.out.c7
          simp only at e0 e1 e2 e3 e4 e5 e6
          obtain ⟨U3, hU3⟩ : ∃ x, x = wr := ⟨_, rfl⟩
          subst hU3
          clear hRA HV hul hj hjl
          by_cases hd : df ⟨op, dst, aa, bb, cc, nn, mm⟩ = -1
          · have WS2 : Hid (wrS (l.getD k ir0) = 0) := by show _ = _; rw [HG.out, WS.out, if_pos hd]
            rw [hd] at DA
            go_wp2_with fail
            refine (DA.out _).mono ?_
            rintro e w4 ⟨rfl, hb4⟩
            have HJ4 := hide ((HJ.out.bt hb4).none_ (by rw [HG.out]) WS2.out)
            clear hb4 HJ HX e0 e1 e2 e3 e4 e5 e6
            go_wp2_with fail
            go_roundw
            case rel => exact ⟨k + 1, _, _, _, hlt, by go_num, HJ4⟩
            case measure => simp [intOf]; omega
          · have hd1 : 0 ≤ df ⟨op, dst, aa, bb, cc, nn, mm⟩ ∧ df ⟨op, dst, aa, bb, cc, nn, mm⟩ < 60 := by
              rcases HD6.out with h | h
              · exact absurd h hd
              · exact h
            have WS2 : Hid (wrS (l.getD k ir0) = one (df ⟨op, dst, aa, bb, cc, nn, mm⟩)) := by show _ = _; rw [HG.out, WS.out, if_neg hd]
            have CE := hide (fun W => cell_any (df ⟨op, dst, aa, bb, cc, nn, mm⟩) W hd1.1 hd1.2)
            generalize df ⟨op, dst, aa, bb, cc, nn, mm⟩ = dd at *
            have hdq : (dd == -1) = false := by simpa using hd
            go_wp2_with fail
            refine (DA.out _).mono ?_
            rintro e w4 ⟨rfl, hb4⟩
            have HJ4 := hide (HJ.out.bt hb4)
            have n2 := HJ4.out.p.c2 k hlt
            have f2 := HJ4.out.p.f (k * 3 + 2)
            have HJ5 := hide (HJ4.out.write hlt (by rw [HG.out]))
            rw [WS2.out] at HJ5
            clear hb4 HJ HX e0 e1 e2 e3 e4 e5 e6
            generalize one dd = O at *
            go_wp2_with fail
            refine (CE.out _).mono ?_
            rintro e w5 ⟨rfl, rfl⟩
            go_wp2_with fail
            go_roundw
            case rel => exact ⟨k + 1, _, _, _, hlt, by go_num, HJ5⟩
            case measure => simp [intOf]; omega
    · have hkn : k = l.length := by omega
      subst hkn
      have HE : Hid (∃ vn, PRow pb l.length vn (fun i => rdS (l.getD i ir0)) (fun i => wrS (l.getD i ir0)) wr ∧ (∀ i, i < l.length → Nv (pb + 1) (vn i) (nxt l i) wr) ∧ Below pb w wr) :=
        ⟨vn, HK.out.p.congr (fun i hi => (HK.out.y i hi).2.1) (fun i hi => (HK.out.y i hi).2.2), fun i hi => (HK.out.y i hi).1, by
          have := HB1.out
          exact (HB1.out).trans (HK.out.b.below (by omega) (fun b hb h => by omega))⟩
      clear HK
      go_wp2_with fail
      go_ret
      obtain ⟨vn2, h1, h2, h3⟩ := HE.out
      exact ⟨vn2, by rw [HPB.out]; rfl, by rw [HPB.out]; exact h1, by rw [HPB.out]; exact h2, by rw [HPB.out]; exact h3⟩
end Go.Proofs.YtjgaaofpfepfhaaDoor

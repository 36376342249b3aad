/-
  The program's clash.Sets, walked.
-/
import Derived.Test.YtjgaaofpfepfhaaDoorSts
namespace Go.Proofs.YtjgaaofpfepfhaaDoor
open Go.RowKit
set_option linter.unusedSimpArgs false
set_option linter.unusedVariables false
theorem fit_parts {d : Cd} {l : List Ir} (h : fitb d l = true) : 0 ≤ d.params ∧ d.params ≤ d.cells ∧ d.cells ≤ 60 ∧ ∀ x ∈ l, okx l d.cells x = true := by
  unfold fitb at h
  simp only [Bool.and_eq_true, decide_eq_true_eq] at h
  exact ⟨h.1, h.2.1, h.2.2.1, fun x hx => List.all_eq_true.1 h.2.2.2 x hx⟩
/-- What an instruction of a code that fits writes. -/
theorem fit_df {d : Cd} {l : List Ir} (h : fitb d l = true) {x : Ir} (hx : x ∈ l) : df x = -1 ∨ (0 ≤ df x ∧ df x < d.cells) := by
  have h2 := (fit_parts h).2.2.2 x hx
  unfold okx nam at h2
  rw [Bool.and_eq_true, Bool.and_eq_true] at h2
  replace h2 := h2.1.2
  have hw : wrs x = true ↔ (x.op = 1 ∨ x.op = 2 ∨ x.op = 3 ∨ x.op = 4 ∨ x.op = 5 ∨ x.op = 7) := by
    unfold wrs
    simp only [Bool.or_eq_true, beq_iff_eq]
    omega
  unfold df
  split
  · by_cases h14 : x.op = 14
    · rw [if_pos h14] at h2
      rw [Bool.or_eq_true, beq_iff_eq] at h2
      rcases h2 with h2 | h2
      · exact Or.inl h2
      · exact Or.inr (isc_iff.1 h2)
    · rw [if_neg h14, if_pos (hw.2 (by omega))] at h2
      exact Or.inr (isc_iff.1 h2)
  · exact Or.inl rfl
theorem acc_step {l : List Ir} {F : Nat → Nat} {k dd : Nat} (h : wri l k = (dd : Int)) (i : Nat) : upd (fun i => acc (wri l) F i k) dd (acc (wri l) F dd k ||| F k) i = acc (wri l) F i (k + 1) := by
  rw [acc_is]
  by_cases e : i = dd
  · subst e; rw [upd_same, if_pos h]
  · rw [upd_other _ _ e, if_neg (by omega)]
theorem acc_skip {l : List Ir} {F : Nat → Nat} {k : Nat} (h : wri l k = -1) (i : Nat) : acc (wri l) F i k = acc (wri l) F i (k + 1) := by
  rw [acc_is, if_neg (by omega)]
set_option maxRecDepth 100000 in
set_option maxHeartbeats 6400000 in
theorem sets_any (d : Cd) (q : Option Addr) (cap : Nat) (l : List Ir) (ra rb n m : Nat) (A F : Nat → Nat) (w : World) (hl : l.length ≤ 1000) (hr : IR w.heap.size w q l) (hf : fitb d l = true) (hn : d.cells = (n : Int)) (hm : d.params = (m : Int))
    (ha : NRow ra l.length A w) (hb : NRow rb l.length F w) (hA : ∀ i, i < l.length → A i < lim) (hF : ∀ i, i < l.length → F i < lim) :
    Calls Tryd.prog 20 #[cv d q l.length cap, .slice (some ⟨ra, 0, none⟩) l.length l.length, .slice (some ⟨rb, 0, none⟩) l.length l.length] w fun e w' => ∃ r, e = .returned (.slice (some ⟨r, 0, none⟩) n n) ∧ w.heap.size ≤ r ∧ MR r n (mu (stB l A F m) n) w' ∧ Below w.heap.size w w' := by
  have HL := hide hl
  have HR := hide hr
  have FP := fit_parts hf
  have hmn : m ≤ n := by omega
  have hn60 : n ≤ 60 := by omega
  have FD := hide (fun k (hk : k < l.length) => hn ▸ fit_df hf (List.getElem_mem hk))
  have HA := hide ha
  have HB := hide hb
  have LA := hide hA
  have LF := hide hF
  have B0 : FB d q l.length cap w.heap.size l w (w.alloc (.cells #[.int .i64 d.cells, .int .i64 d.params, .slice q l.length cap, .int .i64 d.labels] 24)) := ⟨bel_one _ _, by simp, heap_alloc_new _ _⟩
  clear hl hr ha hb hA hF hf FP
  obtain ⟨cs, ps, ls⟩ := d
  simp only at hn hm FD
  subst hn hm
  unfold cv
  simp only at B0 ⊢
  have hmk := make_ints n (by omega)
  go_enter Tryd.func20, Tryd.ntmps20
  go_upto_region 1 with fail
  refine gw (motive := fun x => Code.wp _ _ _ _ x) (fun W => Hid (FB ⟨(n : Int), (m : Int), ls⟩ q l.length cap w.heap.size l w W)) B0 ?_
  rintro W HW
  clear B0
  obtain ⟨c0, c1, c2, c3⟩ := HW.out.cells (Below.refl _ W) HW.out.lt
  simp only at c0 c1 c2 c3
  have N0 := NRow.made n W
  have hB0 := bel_one W (.cells (madeCells z1 n) 3)
  have hS0 : (W.alloc (.cells (madeCells z1 n) 3)).heap.size = W.heap.size + 1 := by simp
  go_upto_region 2 with fail
  refine gw (motive := fun x => Code.wp _ _ _ _ x) (fun U => Hid (NRow W.heap.size n (fun _ => 0) U) ∧ Hid (Below W.heap.size W U) ∧ U.heap.size = W.heap.size + 1) ⟨N0, hB0, hS0⟩ ?_
  rintro U ⟨HN0, HBU, hSU⟩
  clear N0 hB0 hS0 hmk
  obtain ⟨c0, c1, c2, c3⟩ := HW.out.cells HBU.out HW.out.lt
  simp only at c0 c1 c2 c3
  have hqW := HW.out.lt
  have hraW : ra < W.heap.size := Nat.lt_of_lt_of_le HA.out.lt HW.out.b.size
  have hrbW : rb < W.heap.size := Nat.lt_of_lt_of_le HB.out.lt HW.out.b.size
  have HBR := hide (HB.out.of (W' := U) ((HBU.out.block rb hrbW).trans (HW.out.b.block rb HB.out.lt)))
  have HAR := hide (HA.out.of (W' := U) ((HBU.out.block ra hraW).trans (HW.out.b.block ra HA.out.lt)))
  have HIR := hide ((HR.out.bel HW.out.b).bel (HBU.out.mono HW.out.b.size))
  go_wp2_with fail
  go_loopw [8, 9, 10, 17] (fun _ _ _ s17 wr => ∃ k : Nat, k ≤ l.length ∧ s17 = .int .i64 (k : Int) ∧ Hid (NRow W.heap.size n (fun i => acc (wri l) F i k) wr) ∧ Hid (Bt (fun b => b = W.heap.size) U wr)) (fun _ _ _ s17 _ => l.length - (intOf s17).toNat)
  case atStart => exact ⟨0, Nat.zero_le _, rfl, HN0, Bt.refl _ _⟩
  case round =>
    clear HN0
    obtain ⟨k, hk, rfl, HN, HBt⟩ := hrel
    have hk1 := HL.out
    by_cases hlt : k < l.length
    · obtain ⟨b, o, rfl, hb, hcx, hox⟩ := HIR.out k hlt
      obtain ⟨d0, d1, d2, d3, d4, d5, d6⟩ := hcx.of (HBt.out.block b (by omega) (by omega))
      have hXq : QX wr.heap.size W.heap.size l[k] (wr.alloc (.cells (xc l[k]) 43)) := ⟨by simp, by have := HBt.out.size; omega, heap_alloc_new _ _⟩
      have hBa := bel_one wr (.cells (xc l[k]) 43)
      have DA := hide (fun U => defs_any l[k] U)
      have FDk := FD.out k hlt
      have hG : wri l k = df l[k] := by unfold wri; rw [show l.getD k ir0 = l[k] by simp [List.getD, hlt]]
      rw [← hG] at DA FDk
      clear hcx hG
      have h1 : (k : Int) < (l.length : Int) := by omega
      have h0 : (0 : Int) ≤ (k : Int) := by omega
      generalize l[k] = x at *
      obtain ⟨op, dst, aa, bb, cc, nn, mm⟩ := x
      unfold xv xc at DA
      unfold xc at hXq hBa
      simp only at d0 d1 d2 d3 d4 d5 d6
      go_upto_region 5 with fail
      refine gw (motive := fun x => Code.wp _ _ _ _ x) (fun V => Hid (QX wr.heap.size W.heap.size ⟨op, dst, aa, bb, cc, nn, mm⟩ V) ∧ Hid (Below wr.heap.size wr V)) ⟨hXq, hBa⟩ ?_
      rintro V ⟨HX, HV⟩
      clear hXq hBa d0 d1 d2 d3 d4 d5 d6
      obtain ⟨e0, e1, e2, e3, e4, e5, e6⟩ := HX.out.c7
      simp only at e0 e1 e2 e3 e4 e5 e6
      go_wp2_with fail
      refine (DA.out _).mono ?_
      rintro e w1 ⟨rfl, hb1⟩
      have HB1 := hide (HBt.out.bel (HV.out.trans (hb1.mono HV.out.size)))
      have HN1 := hide ((HN.out.bt (Bt.of HV.out) (X := fun _ => False) (fun h => h)).bt (Bt.of hb1) (X := fun _ => False) (fun h => h))
      clear hb1 e0 e1 e2 e3 e4 e5 e6 HN HX HV
      have hwk := wri l k
      by_cases hd : wri l k = -1
      · have HN2 := hide (HN1.out.congr fun i _ => acc_skip (F := F) hd i)
        rw [hd] at *
        go_wp2_with fail
        go_roundw
        case rel => exact ⟨k + 1, hlt, by go_num, HN2, HB1⟩
        case measure => simp [intOf]; omega
      · obtain ⟨g0, g1⟩ : 0 ≤ wri l k ∧ wri l k < (n : Int) := by
          rcases FDk with h | h
          · exact absurd h hd
          · exact h
        obtain ⟨dd, hdd⟩ : ∃ dd : Nat, wri l k = (dd : Int) := ⟨(wri l k).toNat, by omega⟩
        have hx := HN1.out.c dd (by omega)
        have hff := HN1.out.f dd
        have hy := (HBR.out.bt HB1.out (by omega)).c k hlt
        have hbits := bits_or (acc_lim (wr := wri l) (n := dd) LF.out k hk) (LF.out k hlt)
        have HN2 := hide ((((HN1.out.set (i := dd) (by omega) (acc (wri l) F dd k ||| F k)).congr fun i _ => acc_step hdd i)).of (W' := (w1.setCell ⟨W.heap.size, dd, none⟩ (.int .i64 ((acc (wri l) F dd k ||| F k : Nat) : Int))).drew) rfl)
        have HB2 := hide ((HB1.out.set (b := W.heap.size) rfl dd (.int .i64 ((acc (wri l) F dd k ||| F k : Nat) : Int))).drew)
        rw [hdd] at g0 g1
        rw [hdd]
        clear hd FDk HN1 HB1 HBt
        generalize acc (wri l) F dd k ||| F k = Z at *
        generalize acc (wri l) F dd k = Y at *
        generalize F k = Fk at *
        go_wp2_with fail
        go_region
        go_wp2_with fail
        go_roundw
        case rel => exact ⟨k + 1, hlt, by go_num, HN2, HB2⟩
        case measure => simp [intOf]; omega
    · have h1 : ¬ (k : Int) < (l.length : Int) := by omega
      obtain rfl : k = l.length := by omega
      have LACC : Hid (∀ i, i < n → acc (wri l) F i l.length < lim) := fun i _ => acc_lim LF.out l.length (Nat.le_refl _)
      obtain ⟨U1, hU1⟩ : ∃ x, x = wr := ⟨_, rfl⟩
      subst hU1
      obtain ⟨c0, c1, c2, c3⟩ := HW.out.cells (HBU.out.trans (HBt.out.below (n := W.heap.size) (by omega) (fun b h => by omega))) hqW
      simp only at c0 c1 c2 c3
      have FIN : Hid (∀ z wx, z = (if 0 < l.length then A 0 else 0) → NRow W.heap.size n (gvn (fun i => acc (wri l) F i l.length) z m m) wx → (∀ i, i < n → gvn (fun i => acc (wri l) F i l.length) z m m i < lim) → Bt (fun b => b = W.heap.size) U wx →
          Calls Tryd.prog 39 #[.slice (some ⟨W.heap.size, 0, none⟩) n n] wx fun e w' => e = .returned (.tuple #[]) ∧ MR W.heap.size n (mu (stB l A F m) n) w' ∧ Below w.heap.size w w') := by
        intro z wx hz h1 h2 h3
        refine (mutual_any W.heap.size n n (stB l A F m) wx hn60 ⟨_, h1, h2, fun i hi j => by rw [hz]; rfl⟩).mono ?_
        rintro e w' ⟨rfl, k1, k2⟩
        refine ⟨rfl, k1, HW.out.b.trans ((HBU.out.trans ((h3.trans k2).below (n := W.heap.size) (by omega) (fun b h => by omega))).mono HW.out.b.size)⟩
      by_cases hpos : 0 < l.length
      · have hpz : (0 : Int) < (l.length : Int) := by omega
        have hy := (HAR.out.bt HBt.out (by omega)).c 0 hpos
        have hA0 := LA.out 0 hpos
        have hmn2 : (m : Int) ≤ (n : Int) := by omega
        have hm0 : (0 : Int) ≤ (m : Int) := by omega
        have AG := hide (addgiven_any W.heap.size n n m (fun i => acc (wri l) F i l.length) (A 0) U1.drew hmn hn60 (HN.out.of rfl) LACC.out hA0)
        go_wp2_with fail
        go_region_with (go_at_call 38; refine AG.out.mono ?_; rintro e w2 ⟨rfl, hg, hb⟩)
        all_goals
          have FI := hide (FIN.out (A 0) w2 (by rw [if_pos hpos]) hg (gvn_lim LACC.out (by omega)) (HBt.out.drew.trans hb))
          clear hg hb
          go_wp2_with fail
          refine FI.out.mono ?_
          rintro e w3 ⟨rfl, k1, k2⟩
          go_wp2_with fail
          go_ret
          exact ⟨_, rfl, HW.out.b.size, k1, k2⟩
      · have hpz : ¬ (0 : Int) < (l.length : Int) := by omega
        have FI := hide (FIN.out 0 U1 (by rw [if_neg hpos]) (HN.out.congr fun i _ => by simp [gvn]) (gvn_lim LACC.out (by omega)) HBt.out)
        go_wp2_with fail
        refine FI.out.mono ?_
        rintro e w3 ⟨rfl, k1, k2⟩
        go_wp2_with fail
        go_ret
        exact ⟨_, rfl, HW.out.b.size, k1, k2⟩
end Go.Proofs.YtjgaaofpfepfhaaDoor

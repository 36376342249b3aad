/-
  The walk of the statement AsmJumps.
-/
import Derived.Test.YtookbgnidinkoaaTw
import Derived.BigQuiet
namespace Go.Proofs.Ytookbgnidinkoaa
open Go.RowKit
open Xc
set_option linter.unusedSimpArgs false
set_option linter.unusedVariables false
/-- What lies there in a round. -/
def JC (b off k : Nat) (x1 : Int) (x2 : Bool) (x3 x4 x5 x6 x7 x8 x9 : Int) (bp op p0 p1 : Nat) (V : World) : Prop :=
  V.cell? ⟨b, off + k * 9, none⟩ = some (.int .i64 x1) ∧ V.cell? ⟨b, off + k * 9 + 1, none⟩ = some (.bool x2) ∧ V.cell? ⟨b, off + k * 9 + 2, none⟩ = some (.int .i64 x3) ∧ V.cell? ⟨b, off + k * 9 + 3, none⟩ = some (.int .i64 x4) ∧ V.cell? ⟨b, off + k * 9 + 4, none⟩ = some (.int .i64 x5) ∧ V.cell? ⟨b, off + k * 9 + 5, none⟩ = some (.int .i64 x6) ∧ V.cell? ⟨b, off + k * 9 + 6, none⟩ = some (.int .i64 x7) ∧ V.cell? ⟨b, off + k * 9 + 7, none⟩ = some (.int .i64 x8) ∧ V.cell? ⟨b, off + k * 9 + 8, none⟩ = some (.int .i64 x9) ∧
  V.cell? ⟨bp, op + k, none⟩ = some (.int .i64 (p0 : Int)) ∧ V.cell? ⟨bp, op + (k + 1), none⟩ = some (.int .i64 (p1 : Int))
theorem jc_of {W V : World} {b off k bp op : Nat} {l : List It} {x1 : Int} {x2 : Bool} {x3 x4 x5 x6 x7 x8 x9 : Int} (hX : IL W.heap.size W b off l) (hk : k < l.length) (hit : l[k] = ⟨⟨x1, x2, x3, x4, x5, x6, x7⟩, x8, x9⟩) (hb : bp < W.heap.size) (hP : ∀ j (hj : j < (pls l l.length).length), W.cell? ⟨bp, op + j, none⟩ = some (.int .i64 (pls l l.length)[j])) (bl : Below W.heap.size W V) : JC b off k x1 x2 x3 x4 x5 x6 x7 x8 x9 bp op (pt l k) (pt l (k + 1)) V := by
  obtain ⟨hbb, ho, c0, c1, c2, c3, c4, c5, c6, c7, c8⟩ := hX k hk
  rw [hit] at c0 c1 c2 c3 c4 c5 c6 c7 c8
  have cc : ∀ n v, W.cell? ⟨b, n, none⟩ = some v → V.cell? ⟨b, n, none⟩ = some v := fun n v h => (bl.cell (p := ⟨b, n, none⟩) hbb).trans h
  have q0 := hP k (by rw [pls_len]; omega)
  have q1 := hP (k + 1) (by rw [pls_len]; omega)
  rw [pls_get] at q0 q1
  exact ⟨cc _ _ c0, cc _ _ c1, cc _ _ c2, cc _ _ c3, cc _ _ c4, cc _ _ c5, cc _ _ c6, cc _ _ c7, cc _ _ c8, (bl.cell (p := ⟨bp, op + k, none⟩) hb).trans q0, (bl.cell (p := ⟨bp, op + (k + 1), none⟩) hb).trans q1⟩
/-- What lies there behind the reading. -/
def Aw (g : Nat) (y : Xi) (W V : World) : Prop := Below W.heap.size W V ∧ Bx g y V
theorem bx_n {g : Nat} {x1 : Int} {x2 : Bool} {x3 x4 x5 x6 n : Int} {V : World} (h : Bx g ⟨x1, x2, x3, x4, x5, x6, n⟩ V) (m : Int) : Bx g ⟨x1, x2, x3, x4, x5, x6, m⟩ (V.setCell ⟨g, 6, none⟩ (.int .i64 m)) := by
  unfold Bx at *
  simp [World.setCell, Array.getElem?_modify, h, xc]
theorem dc_of {l : List It} {ss : ByteArray} (A : Ass l) (hl : l.length ≤ 1000) {k : Nat} (hk : k < l.length) (h0 : l[k].lb = 0) (ho : l[k].ok) (hs : ss.data.toList = asS l) (U : World) : Calls Try.prog 16 #[.string (ss.extract (pt l k) ss.size)] U fun e w' => e = .returned (.tuple #[xv (jx l k l[k]), .int .i64 ((pt l (k + 1) : Int) - (pt l k : Int)), .int .i64 0]) ∧ Below U.heap.size U w' := by
  have h := decode_any (ss.extract (pt l k) ss.size) U
  unfold DcIs at h
  rw [drop_data, hs] at h
  obtain ⟨e1, e2, e3⟩ := dX_some (A.dc hl hk h0 ho)
  rw [e1, e2, e3, jx_len hk (pOk_at A.pk hk) h0] at h
  have e : ((sN l[k] : Nat) : Int) = (pt l (k + 1) : Int) - (pt l k : Int) := by rw [pt_succ hk]; omega
  rw [e] at h
  exact h
set_option maxHeartbeats 16000000 in
set_option maxRecDepth 100000 in
theorem jumps_walk (a : Option Addr) (l0 : List It) (cap : Nat) (w : World) (hX : IS w a l0) (hc : l0.length ≤ cap) : Calls Try.prog 5 #[.slice a l0.length cap] w fun e w' => e = .returned (.bool true) ∧ Below w.heap.size w w' := by
  have EX := hide examples_any
  have HX := hide (hX.take 100)
  have hlen : (min (l0.length : Int) 100).toNat = (l0.take 100).length := by simp; omega
  have HLEN := hide hlen
  clear hlen
  have hl1 : (l0.take 100).length ≤ 100 := by simp; omega
  clear hX
  go_enter Try.func5, Try.ntmps5
  go_wp2_with fail
  refine (EX.out _).mono ?_
  rintro e w1 ⟨rfl, b1⟩
  clear EX
  go_upto_region 3 with fail
  rw [HLEN.out]
  clear HLEN
  generalize l0.take 100 = l at *
  generalize (min _ (100 : Int)) = mm
  have A1 := hide (fun U b => assemble_any a cap l U (by omega) (HX.out.below b))
  have A2 := hide (fun U b => places_any a cap l U (by omega) (HX.out.below b))
  rcases as_e l with hE | ⟨hE, hS⟩
  case inr =>
    rw [hE, hS] at A1
    have e0 : str [] = ⟨#[]⟩ := rfl
    rw [e0] at A1
    clear hE hS e0 HX
    go_wp2_with fail
    refine (A1.out _ b1).mono ?_
    rintro e w2 ⟨rfl, b2⟩
    go_wp2_with fail
    refine (A2.out _ (bel_tr b1 b2)).mono ?_
    rintro e w3 (⟨_, v, rfl, _, b3⟩ | ⟨_, rfl, b3⟩)
    · go_wp2_with fail
      go_ret
      exact ⟨rfl, bel_tr (bel_tr b1 b2) b3⟩
    · go_wp2_with fail
      go_ret
      exact ⟨rfl, bel_tr (bel_tr b1 b2) b3⟩
  have A := as_yes hE
  rw [hE, A.s] at A1
  have OK1 := hide HX.out.ok
  have S1 := hide (fun U => starts_ri (oL l l.length) (A.gd (by omega) OK1.out) U (by have := encs_len (oL l l.length); have := oL_len l l.length; omega))
  have hss : (str (encs (oL l l.length))).size = pt l l.length := by rw [str_size]; exact oL_pt A.pk _ (Nat.le_refl _)
  have HSD : Hid ((str (encs (oL l l.length))).data.toList = asS l) := by show _ = _; rw [str_data, A.s]
  have HA := hide A
  have hpz := pt_le l l.length
  have OLL := oL_len l l.length
  clear hE A
  generalize str (encs (oL l l.length)) = ss at *
  go_wp2_with fail
  refine (A1.out _ b1).mono ?_
  rintro e w2 ⟨rfl, b2⟩
  have B2 := bel_tr b1 b2
  clear b1 b2 A1
  go_wp2_with fail
  refine (A2.out _ B2).mono ?_
  rintro e w3 (⟨_, v, rfl, hR, b3⟩ | ⟨hp, _, _⟩)
  case inr => have := HA.out.pk; rw [hp] at this; cases this
  have B3 := bel_tr B2 b3
  obtain ⟨a6, c6, rfl, hI⟩ := hR.ri
  clear B2 b3 A2 hR
  go_wp2_with fail
  refine (S1.out _).mono ?_
  rintro e w5 ⟨a8, c8, rfl, hJ, b5⟩
  have B5 := bel_tr B3 b5
  have HX5 := hide (HX.out.below B5)
  have HI5 := hide (hI.kept b5)
  have HJ5 := hide hJ
  clear S1 B3 b5 hI hJ HX
  rcases HI5.out with h | ⟨bp, op, rfl, hbp, hP⟩
  · have := congrArg List.length h
    rw [pls_len] at this; simp at this
  have HP := hide hP
  have PLE := hide (pls_len l l.length)
  have dz := hP l.length (by rw [pls_len]; omega)
  rw [pls_get] at dz
  have OFL := hide (offs_len (oL l l.length))
  have hoffl : (offs (oL l l.length)).length = (oL l l.length).length := offs_len _
  rw [PLE.out]
  rw [OFL.out]
  clear hP HI5
  generalize hpe : pt l l.length = pe at *
  go_upto_region 10 with fail
  have HSZ := hide hss
  clear dz hss hoffl
  go_wp2_with fail
  go_loopw [10, 11] (fun kv iv wr => ∃ k : Nat, k ≤ l.length ∧ iv = .int .i64 (k : Int) ∧ kv = .int .i64 ((oL l k).length : Int) ∧ Below w5.heap.size w5 wr) (fun _ iv _ => l.length - (intOf iv).toNat)
  case atStart => exact ⟨0, by omega, rfl, rfl, Below.refl _ _⟩
  case round =>
    obtain ⟨k, hk, rfl, rfl, hb⟩ := hrel
    by_cases hlt : k < l.length
    · rcases HX5.out with h | ⟨b, off, rfl, hX⟩
      · rw [h] at hlt; simp at hlt
      have ho := (hX k hlt).2.1
      have hpos := sOk_pos (pOk_at HA.out.pk hlt)
      by_cases h0 : l[k].lb = 0
      · have DC := hide (dc_of HA.out (by omega) hlt h0 ho HSD.out)
        have OL1 := hide (oL_len1 hlt h0)
        have OLT := oL_lt hlt h0
        have PS := pt_succ hlt
        have q1 := pt_le l (k + 1)
        have q3 : pt l (k + 1) ≤ ss.size := by
          rw [HSZ.out, ← hpe, ← oL_pt HA.out.pk _ (Nat.le_refl _), ← oL_pt HA.out.pk (k + 1) hlt]
          obtain ⟨r, e⟩ := oL_pre (l := l) (k := k + 1) (n := l.length) hlt
          rw [e, encs_app, List.length_append]; omega
        rcases HJ5.out with h | ⟨bs, os, rfl, hbs, hS⟩
        · have := congrArg List.length h
          rw [offs_len, List.length_nil] at this; omega
        have ds := hS (oL l k).length (by rw [offs_len]; exact OLT)
        rw [offs_at HA.out.pk hk _ rfl] at ds
        have DS := (hb.cell (p := ⟨bs, os + (oL l k).length, none⟩) hbs).trans ds
        have JT := hide (fun h1 => HA.out.there hlt h0 h1)
        have JP := hide (fun h1 => Ass.plain (l := l) hlt h1)
        have LBS := hide (fun (V : World) (bl : Below w5.heap.size w5 V) (j : Nat) (hj : j < l.length) => (show V.cell? ⟨b, off + j * 9 + 7, none⟩ = some (.int .i64 l[j].lb) ∧ V.cell? ⟨bp, op + j, none⟩ = some (.int .i64 (pt l j : Int)) from ⟨(bl.cell (p := ⟨b, off + j * 9 + 7, none⟩) (hX j hj).1).trans (hX j hj).2.2.2.2.2.2.2.2.2.1, by
          have q := HP.out j (by rw [pls_len]; omega)
          rw [pls_get] at q
          exact (bl.cell (p := ⟨bp, op + j, none⟩) hbp).trans q⟩))
        rcases hit : l[k] with ⟨⟨x1, x2, x3, x4, x5, x6, x7⟩, x8, x9⟩
        have CE := hide (fun V bl => jc_of (V := V) hX hlt hit hbp HP.out bl)
        rw [hit] at DC JT JP h0 hpos
        simp only at h0 JT JP hpos
        subst h0
        clear hit ho ds hS hX
        have hkk : (oL l k).length ≤ 100 := by omega
        have hp0 : (0 : Int) ≤ (pt l k : Int) ∧ (pt l k : Int) ≤ 20000 := by omega
        have hp1 : (0 : Int) ≤ (pt l (k + 1) : Int) ∧ (pt l (k + 1) : Int) ≤ 20000 := by omega
        have hle : pt l k ≤ ss.size := by omega
        have hss2 : ss.size ≤ 20000 := by rw [HSZ.out]; omega
        have PJ := hide (fun j => pt_le l j)
        clear PS q1 q3 OFL
        generalize (oL l k).length = kk at *
        generalize (oL l l.length).length = oo at *
        obtain ⟨p3, p4⟩ := hp0
        obtain ⟨p5, p6⟩ := hp1
        have hd1 : decide (oo ≤ kk) = false := decide_eq_false (by omega)
        have hd2 : decide ((oo : Int) ≤ (kk : Int)) = false := decide_eq_false (by omega)
        obtain ⟨c0, c1, c2, c3, c4, c5, c6', c7, c8', q0, q1⟩ := CE.out wr hb
        by_cases h1 : x9 = 0
        · subst h1
          have JX := JP.out rfl
          rw [JX] at DC
          clear JX JP JT PJ LBS
          have EQ := hide (xeq_iff (x := ⟨x1, x2, x3, x4, x5, x6, x7⟩).2 rfl)
          generalize pt l (k + 1) = p1 at *
          generalize pt l k = p0 at *
          unfold xv at DC
          go_upto_region 15 with fail
          go_quiet (fail)
          go_wp2_with fail
          refine (DC.out _).mono ?_
          rintro e w6 ⟨rfl, b6⟩
          have hb6 := bel_tr (bel_dN hb _) b6
          go_upto_region 18 with fail
          clear DC c0 c1 c2 c3 c4 c5 c6' c7 c8' q0 q1 DS
          have hg : w5.heap.size ≤ w6.heap.size := hb6.size
          refine gen_world (motive := fun x => Code.wp _ _ _ _ x) (fun V => Aw w6.heap.size ⟨x1, x2, x3, x4, x5, x6, x7⟩ w5 V) ⟨bel_al hb6 _, Bx.made w6 ⟨x1, x2, x3, x4, x5, x6, x7⟩⟩ ?_
          generalize w6.heap.size = g at *
          clear hb6 b6
          rintro V ⟨hB1, hW⟩
          obtain ⟨e0, e1, e2, e3, e4, e5, e6⟩ := hW.cells
          simp only [xi_op, xi_wide, xi_r, xi_b, xi_i, xi_c, xi_n] at e0 e1 e2 e3 e4 e5 e6
          obtain ⟨c0, c1, c2, c3, c4, c5, c6', c7, c8', q0, q1⟩ := CE.out V hB1
          go_wp2_with fail
          go_quiet (fail)
          go_upto_region 29 with fail
          have hq := fun U => eql_x x1 x2 x3 x4 x5 x6 x7 x1 x2 x3 x4 x5 x6 x7 U
          simp only [EQ.out] at hq
          go_quiet (fail)
          go_wp2_with fail
          go_roundw
          case rel => exact ⟨k + 1, by omega, by go_num, by rw [OL1.out]; simp, by first | exact bel_dN (bel_dN hB1 _) _ | exact bel_dN hB1 _⟩
          case measure => simp [intOf]; omega
        · have h9 : 0 < x9 := by omega
          obtain ⟨J, hJ, jl, JX, jn, _⟩ := JT.out h1
          subst jn
          rw [JX] at DC
          have hpJ := PJ.out J
          have jn2 : ∃ n : Int, n = (pt l J : Int) - (pt l (k + 1) : Int) ∧ -20000 ≤ n ∧ n ≤ 20000 := ⟨_, rfl, by omega, by omega⟩
          obtain ⟨n, hn, n1, n2⟩ := jn2
          rw [← hn] at DC
          have HJN := hide (show l[J].lb = x9 ∧ (pt l J : Int) = (pt l (k + 1) : Int) + n from ⟨jl, by omega⟩)
          clear JX JP JT hpJ hn jl
          have EQ := hide (xeq_iff (x := ⟨x1, x2, x3, x4, x5, x6, 0⟩).2 rfl)
          generalize pt l (k + 1) = p1 at *
          generalize pt l k = p0 at *
          unfold xv at DC
          go_upto_region 15 with fail
          go_quiet (fail)
          go_wp2_with fail
          refine (DC.out _).mono ?_
          rintro e w6 ⟨rfl, b6⟩
          have hb6 := bel_tr (bel_dN hb _) b6
          go_upto_region 18 with fail
          clear DC c0 c1 c2 c3 c4 c5 c6' c7 c8' q0 q1 DS
          have hg : w5.heap.size ≤ w6.heap.size := hb6.size
          refine gen_world (motive := fun x => Code.wp _ _ _ _ x) (fun V => Aw w6.heap.size ⟨x1, x2, x3, x4, x5, x6, n⟩ w5 V) ⟨bel_al hb6 _, Bx.made w6 ⟨x1, x2, x3, x4, x5, x6, n⟩⟩ ?_
          generalize w6.heap.size = g at *
          clear hb6 b6
          rintro V ⟨hB1, hW⟩
          obtain ⟨e0, e1, e2, e3, e4, e5, e6⟩ := hW.cells
          simp only [xi_op, xi_wide, xi_r, xi_b, xi_i, xi_c, xi_n] at e0 e1 e2 e3 e4 e5 e6
          obtain ⟨c0, c1, c2, c3, c4, c5, c6', c7, c8', q0, q1⟩ := CE.out V hB1
          go_wp2_with fail
          go_quiet (fail)
          go_wp2_with fail
          go_loopw [15, 16] (fun tv jv wv => ∃ (j : Nat) (q : Bool), j ≤ l.length ∧ jv = .int .i64 (j : Int) ∧ tv = .bool q ∧ Below V.heap.size V wv ∧ Hid (J < j → q = true)) (fun _ jv _ => l.length - (intOf jv).toNat)
          case atStart => exact ⟨0, false, by omega, rfl, rfl, bel_dN (Below.refl _ _) _, hide (fun h => absurd h (by omega))⟩
          case round =>
            obtain ⟨j, q, hj, rfl, rfl, hv, hQ⟩ := hrel
            by_cases hjl : j < l.length
            · obtain ⟨f1, f2⟩ := LBS.out _ (bel_tr hB1 hv) j hjl
              obtain ⟨_, _, _, _, _, _, _, _, f3, _, f4⟩ := CE.out _ (bel_tr hB1 hv)
              have f5 := (hW.kept hv).cell 6 (.int .i64 n) rfl
              cases q with
              | true =>
                clear hQ
                go_wp2_with fail
                go_quiet (fail)
                go_wp2_with fail
                go_roundw
                case rel => exact ⟨j + 1, true, by omega, by go_num, rfl, bel_dN hv _, hide (fun _ => rfl)⟩
                case measure => simp [intOf]; omega
              | false =>
                have hq := PJ.out j
                have hq1 : (0 : Int) ≤ (pt l j : Int) ∧ (pt l j : Int) ≤ 20000 := by omega
                have hq2 : (-20000 : Int) ≤ (p1 : Int) + n ∧ (p1 : Int) + n ≤ 40000 := by omega
                obtain ⟨m1, m2⟩ := hq1
                obtain ⟨m3, m4⟩ := hq2
                by_cases hlb : l[j].lb = x9
                · by_cases hpp : (pt l j : Int) = (p1 : Int) + n
                  · rw [hlb] at f1
                    rw [hpp] at f2
                    clear hQ hlb hpp hq m1 m2
                    go_wp2_with fail
                    go_quiet (fail)
                    go_wp2_with fail
                    go_roundw
                    case rel => exact ⟨j + 1, true, by omega, by go_num, rfl, bel_dN hv _, hide (fun _ => rfl)⟩
                    case measure => simp [intOf]; omega
                  · have NQ : Hid (J < j + 1 → false = true) := fun hh => by
                      rcases Nat.lt_or_ge J j with h' | h'
                      · exact hQ.out h'
                      · have : J = j := by omega
                        subst this
                        exact absurd HJN.out.2 hpp
                    have hpb : ((pt l j : Int) == (p1 : Int) + n) = false := by simpa using hpp
                    rw [hlb] at f1
                    clear hQ hlb hpp hq
                    generalize (pt l j : Int) = pj at *
                    go_wp2_with fail
                    go_quiet (fail)
                    go_wp2_with fail
                    go_roundw
                    case rel => exact ⟨j + 1, false, by omega, by go_num, rfl, bel_dN hv _, NQ⟩
                    case measure => simp [intOf]; omega
                · have NQ : Hid (J < j + 1 → false = true) := fun hh => by
                    rcases Nat.lt_or_ge J j with h' | h'
                    · exact hQ.out h'
                    · have : J = j := by omega
                      subst this
                      exact absurd HJN.out.1 hlb
                  have hlbb : (l[j].lb == x9) = false := by simpa using hlb
                  clear hQ hlb hq
                  generalize l[j].lb = lj at *
                  generalize (pt l j : Int) = pj at *
                  go_wp2_with fail
                  go_quiet (fail)
                  go_wp2_with fail
                  go_roundw
                  case rel => exact ⟨j + 1, false, by omega, by go_num, rfl, bel_dN hv _, NQ⟩
                  case measure => simp [intOf]; omega
            · have hjm : j = l.length := by omega
              subst hjm
              have hqt := hQ.out hJ
              subst hqt
              have hB2 := bel_tr hB1 hv
              have hW2 := hW.kept hv
              have hge : w5.heap.size ≤ g := hg
              clear hQ hB1 hv hW e0 e1 e2 e3 e4 e5 e6 c0 c1 c2 c3 c4 c5 c6' c7 c8' q0 q1
              obtain ⟨e0, e1, e2, e3, e4, e5, e6⟩ := hW2.cells
              simp only [xi_op, xi_wide, xi_r, xi_b, xi_i, xi_c, xi_n] at e0 e1 e2 e3 e4 e5 e6
              have f6 := hW2.fr 6
              go_upto_region 29 with fail
              refine gen_world (motive := fun x => Code.wp _ _ _ _ x) (fun V => Aw g ⟨x1, x2, x3, x4, x5, x6, 0⟩ w5 V) ⟨bel_set hB2 hge 6 _, bx_n hW2 0⟩ ?_
              clear e0 e1 e2 e3 e4 e5 e6 f6 hB2 hW2
              rintro V2 ⟨hB3, hW3⟩
              obtain ⟨e0, e1, e2, e3, e4, e5, e6⟩ := hW3.cells
              simp only [xi_op, xi_wide, xi_r, xi_b, xi_i, xi_c, xi_n] at e0 e1 e2 e3 e4 e5 e6
              obtain ⟨c0, c1, c2, c3, c4, c5, c6', c7, c8', q0, q1⟩ := CE.out V2 hB3
              have hq := fun U => eql_x x1 x2 x3 x4 x5 x6 0 x1 x2 x3 x4 x5 x6 0 U
              simp only [EQ.out] at hq
              go_quiet (fail)
              go_wp2_with fail
              go_roundw
              case rel => exact ⟨k + 1, by omega, by go_num, by rw [OL1.out]; simp, by first | exact bel_dN (bel_dN hB3 _) _ | exact bel_dN hB3 _⟩
              case measure => simp [intOf]; omega
      · have h8 : 0 < l[k].lb := by omega
        have OL0 := hide (oL_len0 hlt h0)
        have c7 := (hb.cell (p := ⟨b, off + k * 9 + 7, none⟩) (hX k hlt).1).trans (hX k hlt).2.2.2.2.2.2.2.2.2.1
        clear hX ho h0
        generalize l[k].lb = x8 at *
        go_wp2_with fail
        go_roundw
        case rel => exact ⟨k + 1, by omega, by go_num, by rw [OL0.out], hb⟩
        case measure => simp [intOf]; omega
    · have hkm : k = l.length := by omega
      subst hkm
      go_wp2_with fail
      go_ret
      exact ⟨rfl, bel_tr B5 hb⟩
end Go.Proofs.Ytookbgnidinkoaa

/-
  Merged: Mi Rq Pq Ps.
-/
import Derived.Test.YtielpebokbolbaaRd
import Derived.Deep.CutRange
import Derived.Test.YtielpebokbolbaaLD
import Derived.Laws.OwnMore
import Derived.OwnWalk
import Derived.Maps.AppendAt
import Derived.Laws.AppendOwnNone
import Derived.Laws.IdiomStrings
import Derived.Deep.MidRow
/-
  The document's inside and data: where bytes lie.
-/
namespace Go.Proofs.Ytielpebokbolbaa
open Go.RowKit
open Xc (hide bel_one bel_tr bel_al bel_set le by8 bys jn)
set_option linter.unusedSimpArgs false
set_option linter.unusedVariables false
set_option maxHeartbeats 1600000 in
theorem inside_any (a0 : Int) (s : ByteArray) (cd : Bool) (a n : Int) (w : World) (h0 : I64 a0) (ha : I64 a) (hn : 1 ≤ n ∧ n ≤ 8) (hs : s.size ≤ 140737488351232) :
    Calls Try.prog 32 #[.agg #[.int .i64 a0, .string s, .bool cd], .int .i64 a, .int .i64 n] w fun e w' => e = .returned (.bool (wn ⟨a0, s.data.toList, cd⟩ a n)) ∧ Below w.heap.size w w' := by
  unfold I64 Xc.I64 at h0 ha
  by_cases h1 : a < a0
  · have e : wn ⟨a0, s.data.toList, cd⟩ a n = false := by simp [wn]; omega
    rw [e]
    clear e h0 ha hn hs
    go_enter Try.func32, Try.ntmps32
    go_wp2
    go_ret
    exact ⟨rfl, bel_one _ _⟩
  · obtain ⟨k, hk, hk0⟩ : ∃ k : Int, IntKind.u64.wrap (IntKind.u64.wrap a - IntKind.u64.wrap a0) = k ∧ k = a - a0 := ⟨_, by rw [IntKind.wrap_u64, IntKind.wrap_u64, IntKind.wrap_u64]; omega, rfl⟩
    obtain ⟨z, hz, hz0⟩ : ∃ z : Int, IntKind.u64.wrap (s.size : Int) = z ∧ z = (s.size : Int) := ⟨_, by rw [IntKind.wrap_u64]; omega, rfl⟩
    have hn' : IntKind.u64.wrap n = n := by rw [IntKind.wrap_u64]; omega
    have e1 : decide (a0 ≤ a) = true := by simp; omega
    by_cases h2 : k ≤ z
    · obtain ⟨d, hd, hd0⟩ : ∃ d : Int, IntKind.u64.wrap (z - k) = d ∧ d = z - k := ⟨_, by rw [IntKind.wrap_u64]; omega, rfl⟩
      have e : wn ⟨a0, s.data.toList, cd⟩ a n = decide (n ≤ d) := by
        simp only [wn, str_len, e1, Bool.true_and]
        rw [← Bool.decide_and]
        apply decide_eq_decide.2
        omega
      rw [e]
      clear e h0 ha hn hs hk0 hz0 hd0 e1
      go_enter Try.func32, Try.ntmps32
      go_wp2
      go_ret
      exact ⟨rfl, bel_one _ _⟩
    · have e : wn ⟨a0, s.data.toList, cd⟩ a n = false := by simp [wn]; omega
      rw [e]
      clear e h0 ha hn hs hk0 hz0 e1
      go_enter Try.func32, Try.ntmps32
      go_wp2
      go_ret
      exact ⟨rfl, bel_one _ _⟩
/-- What data answers. -/
def dta (g : List Rg) (a n : Int) : Int := match fnd g false a n with
  | some i => (i : Int)
  | none => -1
theorem dta_some {g : List Rg} {a n : Int} (k : Nat) (hk : k < g.length) (hc : g[k].code = false) (hw : wn g[k] a n = true) (hn : ∀ j (h : j < g.length), j < k → (g[j].code == false && wn g[j] a n) = false) : dta g a n = (k : Int) := by
  have : fnd g false a n = some k := List.findIdx?_eq_some_iff_getElem.2 ⟨hk, by simp [hc, hw], fun j hj => by simp only [hn j (by omega) hj]; simp⟩
  simp [dta, this]
theorem dta_none {g : List Rg} {a n : Int} (hn : ∀ j (h : j < g.length), (g[j].code == false && wn g[j] a n) = false) : dta g a n = -1 := by
  have : fnd g false a n = none := List.findIdx?_eq_none_iff.2 fun x hx => by
    obtain ⟨i, hi, rfl⟩ := List.mem_iff_getElem.1 hx
    exact hn i hi
  simp [dta, this]
theorem gen_w {motive : World → Prop} {w5 : World} (Pr : World → Prop) (h : Pr w5) (k : ∀ x, Pr x → motive x) : motive w5 := k _ h
/-- A machine's box, of which the regions are read. -/
def GB (q : Nat) (v : Value) (w W : World) : Prop := Below w.heap.size w W ∧ W.cell? ⟨q, 21, none⟩ = some v ∧ q < W.heap.size
theorem GB.kept {q : Nat} {v : Value} {w W V : World} (h : GB q v w W) (k : Below W.heap.size W V) : GB q v w V := ⟨bel_tr h.1 k, (k.cell (p := ⟨q, 21, none⟩) h.2.2).trans h.2.1, Nat.lt_of_lt_of_le h.2.2 k.size⟩
set_option maxHeartbeats 1600000 in
theorem data_any (m : Mc) (ra : Option Addr) (rc : Nat) (ss : Nat → ByteArray) (a n : Int) (w : World) (hr : m.r.length = 16) (ha : I64 a) (hn : 1 ≤ n ∧ n ≤ 8) (hg : m.g.length ≤ 4398046511104) (hR : RS w ra m.g ss) :
    Calls Try.prog 22 #[.agg (mc m (.slice ra m.g.length rc)), .int .i64 a, .int .i64 n] w fun e w' => e = .returned (.int .i64 (dta m.g a n)) ∧ Below w.heap.size w w' := by
  obtain ⟨r, z, s, c, o, at_, g, st⟩ := m
  obtain ⟨r0, r1, r2, r3, r4, r5, r6, r7, r8, r9, r10, r11, r12, r13, r14, r15, rfl⟩ := sixteen hr
  simp only [mc, List.map_cons, List.map_nil, List.cons_append, List.nil_append] at *
  have HR := hide hR
  have HA := hide ha
  have HN := hide hn
  clear hR ha hn hr
  go_enter Try.func22, Try.ntmps22
  go_upto_region 1 with fail
  refine gen_w (motive := fun x => Code.wp _ _ _ _ x) (fun W => GB w.heap.size (.slice ra g.length rc) w W) ⟨bel_one _ _, by simp, by simp⟩ ?_
  rintro W hW
  go_wp2_with fail
  go_loopw [7] (fun iv wr => ∃ k : Nat, k ≤ g.length ∧ iv = .int .i64 (k : Int) ∧ Below W.heap.size W wr ∧ Hid (∀ j (h : j < g.length), j < k → (g[j].code == false && wn g[j] a n) = false)) (fun iv _ => g.length - (intOf iv).toNat)
  case atStart => exact ⟨0, Nat.zero_le _, rfl, Below.refl _ _, hide (fun j _ h => absurd h (Nat.not_lt_zero _))⟩
  case round =>
    obtain ⟨k, hk, rfl, hb, hNo⟩ := hrel
    have hG := hW.kept hb
    have y21 := hG.2.1
    have BW := hide hG.1
    by_cases hlt : k < g.length
    · rcases HR.out.bel (show Below w.heap.size w wr from hG.1) with h | ⟨b, off, rfl, hL⟩
      · rw [h] at hlt; simp at hlt
      obtain ⟨c0, c1, c2, hs, hok⟩ := hL k hlt
      have T := hide (fun U => inside_any g[k].at_ (ss k) g[k].code a n U hok.1 HA.out HN.out (by rw [hs]; exact hok.2))
      rw [wn_of hs] at T
      clear hL hs hok hG
      obtain ⟨qw, hw⟩ : ∃ q, wn g[k] a n = q := ⟨_, rfl⟩
      rw [hw] at T
      cases hc : g[k].code
      · cases qw
        · have NX : Hid (∀ j (h : j < g.length), j < k + 1 → (g[j].code == false && wn g[j] a n) = false) := fun j h hj => by
            rcases Nat.lt_succ_iff_lt_or_eq.1 hj with q | q
            · exact hNo.out j h q
            · subst q; rw [hw]; simp
          rw [hc] at c2 T
          clear hNo hw hc
          generalize g[k].at_ = x1 at *
          go_wp2_with (go_at_call 32; refine (T.out _).mono ?_; rintro e w1 ⟨rfl, hb1⟩)
          go_roundw
          case rel => exact ⟨k + 1, hlt, by go_num, bel_tr hb hb1, NX⟩
          case measure => simp [intOf]; omega
        · have E := hide (dta_some k hlt hc hw hNo.out)
          rw [hc] at c2 T
          clear hNo hw hc
          generalize g[k].at_ = x1 at *
          go_wp2_with (go_at_call 32; refine (T.out _).mono ?_; rintro e w1 ⟨rfl, hb1⟩)
          go_ret
          rw [E.out]
          exact ⟨rfl, bel_tr BW.out hb1⟩
      · have NX : Hid (∀ j (h : j < g.length), j < k + 1 → (g[j].code == false && wn g[j] a n) = false) := fun j h hj => by
          rcases Nat.lt_succ_iff_lt_or_eq.1 hj with q | q
          · exact hNo.out j h q
          · subst q; rw [hc]; simp
        rw [hc] at c2
        clear hNo hw hc T
        generalize g[k].at_ = x1 at *
        go_wp2_with fail
        go_roundw
        case rel => exact ⟨k + 1, hlt, by go_num, hb, NX⟩
        case measure => simp [intOf]; omega
    · have hkn : k = g.length := by omega
      subst hkn
      have E := hide (dta_none (fun j h => hNo.out j h h))
      go_wp2_with fail
      go_ret
      rw [E.out]
      exact ⟨rfl, BW.out⟩
end Go.Proofs.Ytielpebokbolbaa
/-
  The document's Read, of a machine by value.
-/
namespace Go.Proofs.Ytielpebokbolbaa
open Go.RowKit
open Xc (hide bel_one bel_tr bel_al bel_set le by8 bys jn)
set_option linter.unusedSimpArgs false
set_option linter.unusedVariables false
theorem or_u64 (a b : Int) (ha : 0 ≤ a) (h1 : a * 256 < 18446744073709551616) (hb0 : 0 ≤ b) (hb1 : b ≤ 255) : bits BinOp.or IntKind.u64 (a * 256) b = a * 256 + b := by
  have e1 : (BitVec.ofInt 64 (a * 256)).toNat = (a * 256).toNat := by
    rw [BitVec.toNat_ofInt]
    show ((a * 256) % 18446744073709551616).toNat = _
    rw [Int.emod_eq_of_lt (by omega) h1]
  have e2 : (BitVec.ofInt 64 b).toNat = b.toNat := by
    rw [BitVec.toNat_ofInt]
    show (b % 18446744073709551616).toNat = _
    rw [Int.emod_eq_of_lt hb0 (by omega)]
  show IntKind.u64.wrap ((BitVec.ofInt 64 (a * 256) ||| BitVec.ofInt 64 b).toNat : Nat) = _
  rw [BitVec.toNat_or, e1, e2, Xc.nat_join 8 _ _ (by omega) (by omega)]
  simp [IntKind.wrap, IntKind.signed, IntKind.bits]
  omega
theorem u64_u8 (b : UInt8) : IntKind.u64.wrap (b.toNat : Int) = (b.toNat : Int) := by
  have := b.toNat_lt
  simp [IntKind.wrap, IntKind.signed, IntKind.bits]; omega
theorem le_drop (l : List UInt8) (k : Nat) (h : k < l.length) : le (l.drop k) = l[k].toNat + 256 * le (l.drop (k + 1)) := by
  rw [List.drop_eq_getElem_cons h]; rfl
theorem le_drop_lt (l : List UInt8) (k : Nat) (h8 : l.length ≤ 8) (hk : 1 ≤ k) : le (l.drop k) < 72057594037927936 := by
  have h1 := Xc.le_lt (l.drop k)
  have h2 : (l.drop k).length ≤ 7 := by simp; omega
  have h3 : (256 : Nat) ^ (l.drop k).length ≤ 256 ^ 7 := Nat.pow_le_pow_right (by decide) h2
  have h4 : (256 : Nat) ^ 7 = 72057594037927936 := by decide
  omega
theorem data_mv {m : Mc} {v : Value} {w : World} (h : MV m v w) (a n : Int) (ha : I64 a) (hn : 1 ≤ n ∧ n ≤ 8) : Calls Try.prog 22 #[v, .int .i64 a, .int .i64 n] w fun e w' => e = .returned (.int .i64 (dta m.g a n)) ∧ Below w.heap.size w w' := by
  obtain ⟨ra, rc, ss, rfl, hR, hs, hok, hl⟩ := h
  exact data_any m ra rc ss a n w hok.1 ha hn (by omega) hR
/-- The regions of a machine in a box. -/
theorem BM.rs {q : Nat} {m : Mc} {ra : Option Addr} {rc : Nat} {W : World} (h : BM q m (.slice ra m.g.length rc) W) : ∃ ss, RS W ra m.g ss ∧ ∀ i (h : i < m.g.length), (ss i).data.toList = m.g[i].by_ := by
  obtain ⟨ra', rc', ss, e, hR, hs, _⟩ := h.mv
  have e1 : (ml m (.slice ra m.g.length rc)).toArray = (ml m (.slice ra' m.g.length rc')).toArray := by injection e
  have e2 : ml m (.slice ra m.g.length rc) = ml m (.slice ra' m.g.length rc') := by simpa using e1
  have e3 := ml_x h.mv.len (.slice ra m.g.length rc) 5
  rw [e2, ml_x h.mv.len (.slice ra' m.g.length rc') 5] at e3
  simp at e3
  obtain ⟨rfl, _⟩ := e3
  exact ⟨ss, hR, hs⟩
theorem BM.c21 {q : Nat} {m : Mc} {vr : Value} {W : World} (h : BM q m vr W) : W.cell? ⟨q, 21, none⟩ = some vr := by
  obtain ⟨_, _, _, _, _, a21, _⟩ := ml_c h.mv.len h.row
  exact a21
theorem BM.ok {q : Nat} {m : Mc} {vr : Value} {W : World} (h : BM q m vr W) : m.ok := by
  obtain ⟨ra, rc, ss, e, _, _, ok, _⟩ := h.mv
  exact ok
theorem rd_no {g : List Rg} {a n : Int} {w : World} (h : rdM g a n = none) {e : Ending} {w' : World} (h1 : e = .returned (.tuple #[.int .i64 0, .bool false])) (h2 : Below w.heap.size w w') : RdEnds g a n w e w' := by
  unfold RdEnds
  rw [h]
  exact ⟨h1, h2⟩
theorem gl (s : ByteArray) (k : Nat) (h : k < s.size) : s.data.toList[k]'(by simpa using h) = s[k] := by
  simp; rfl
set_option maxHeartbeats 3200000 in
set_option maxRecDepth 100000 in
theorem rread_bad {m : Mc} {v : Value} {w : World} (h : MV m v w) (a n : Int) (ia : I64 a) (h4 : n ≠ 4) (h8 : n ≠ 8) : Calls Try.prog 11 #[v, .int .i64 a, .int .i64 n] w (RdEnds m.g a n w) := by
  obtain ⟨ra, rc, rfl⟩ := h.sl
  have B0 := hide (bm_arg h)
  rw [mc_is]
  have E := hide (show rdM m.g a n = none from rdM_none (by unfold fnN; rw [if_neg (by omega)]))
  have e4 : (n != 4) = true := by simpa using h4
  have e8 : (n != 8) = true := by simpa using h8
  clear h
  go_enter Try.func11, Try.ntmps11
  go_wp2_with fail
  go_ret2
  exact rd_no E.out rfl (bel_one _ _)
set_option maxHeartbeats 3200000 in
set_option maxRecDepth 100000 in
theorem rread_no4 {m : Mc} {v : Value} {w : World} (h : MV m v w) (a : Int) (ia : I64 a) (hf : fnd m.g false a 4 = none) : Calls Try.prog 11 #[v, .int .i64 a, .int .i64 4] w (RdEnds m.g a 4 w) := by
  obtain ⟨ra, rc, rfl⟩ := h.sl
  have B0 := hide (bm_arg h)
  rw [mc_is]
  have E := hide (show rdM m.g a 4 = none from rdM_none (by unfold fnN; rw [if_pos (by omega)]; exact hf))
  have DT : dta m.g a 4 = -1 := by simp [dta, hf]
  clear h hf
  go_enter Try.func11, Try.ntmps11
  go_upto_region 3 with fail
  refine gw (motive := fun x => Code.wp _ _ _ _ x) (fun W => Hid (BM w.heap.size m (.slice ra m.g.length rc) W) ∧ Hid (Below w.heap.size w W)) ⟨B0.out, bel_one _ _⟩ ?_
  rintro W ⟨BW, KW⟩
  clear B0
  have DD := hide (data_mv BW.out.mv a 4 ia (by omega))
  rw [mc_is, DT] at DD
  go_wp2_with (first | (refine wpList_load_mid rfl 27 _ rfl w.heap.size 0 rfl _ _ BW.out.rg Try.underlying27 rfl BW.out.il ?_) | fail)
  refine DD.out.mono ?_
  rintro e w1 ⟨rfl, b1⟩
  go_wp2_with fail
  go_ret2
  exact rd_no E.out rfl (bel_tr KW.out b1)
set_option maxHeartbeats 3200000 in
set_option maxRecDepth 100000 in
theorem rread_no8 {m : Mc} {v : Value} {w : World} (h : MV m v w) (a : Int) (ia : I64 a) (hf : fnd m.g false a 8 = none) : Calls Try.prog 11 #[v, .int .i64 a, .int .i64 8] w (RdEnds m.g a 8 w) := by
  obtain ⟨ra, rc, rfl⟩ := h.sl
  have B0 := hide (bm_arg h)
  rw [mc_is]
  have E := hide (show rdM m.g a 8 = none from rdM_none (by unfold fnN; rw [if_pos (by omega)]; exact hf))
  have DT : dta m.g a 8 = -1 := by simp [dta, hf]
  clear h hf
  go_enter Try.func11, Try.ntmps11
  go_upto_region 3 with fail
  refine gw (motive := fun x => Code.wp _ _ _ _ x) (fun W => Hid (BM w.heap.size m (.slice ra m.g.length rc) W) ∧ Hid (Below w.heap.size w W)) ⟨B0.out, bel_one _ _⟩ ?_
  rintro W ⟨BW, KW⟩
  clear B0
  have DD := hide (data_mv BW.out.mv a 8 ia (by omega))
  rw [mc_is, DT] at DD
  go_wp2_with (first | (refine wpList_load_mid rfl 27 _ rfl w.heap.size 0 rfl _ _ BW.out.rg Try.underlying27 rfl BW.out.il ?_) | fail)
  refine DD.out.mono ?_
  rintro e w1 ⟨rfl, b1⟩
  go_wp2_with fail
  go_ret2
  exact rd_no E.out rfl (bel_tr KW.out b1)
set_option maxHeartbeats 3200000 in
set_option maxRecDepth 100000 in
theorem rread_yes4 {m : Mc} {v : Value} {w : World} (h : MV m v w) (a : Int) (ia : I64 a) (i : Nat) (hf : fnd m.g false a 4 = some i) : Calls Try.prog 11 #[v, .int .i64 a, .int .i64 4] w (RdEnds m.g a 4 w) := by
  obtain ⟨ra, rc, rfl⟩ := h.sl
  have B0 := hide (bm_arg h)
  rw [mc_is]
  obtain ⟨hi, hcd, hwn⟩ := fnd_some hf
  have E0 := rdM_some (show fnN m.g a 4 = some i from by unfold fnN; rw [if_pos (by omega)]; exact hf) hi
  have W3 := wn_iff.1 hwn
  have DT : dta m.g a 4 = (i : Int) := by simp [dta, hf]
  obtain ⟨p, hp⟩ : ∃ p : Nat, a - m.g[i].at_ = (p : Int) := ⟨(a - m.g[i].at_).toNat, by omega⟩
  have hl : 32 * m.g.length ≤ 140737488351232 := by
    obtain ⟨_, _, _, _, _, _, _, hl⟩ := h
    exact hl
  clear h hf hcd hwn
  go_enter Try.func11, Try.ntmps11
  go_upto_region 3 with fail
  refine gw (motive := fun x => Code.wp _ _ _ _ x) (fun W => Hid (BM w.heap.size m (.slice ra m.g.length rc) W) ∧ Hid (Below w.heap.size w W)) ⟨B0.out, bel_one _ _⟩ ?_
  rintro W ⟨BW, KW⟩
  clear B0
  have DD := hide (data_mv BW.out.mv a 4 ia (by omega))
  rw [mc_is, DT] at DD
  go_wp2_with (first | (refine wpList_load_mid rfl 27 _ rfl w.heap.size 0 rfl _ _ BW.out.rg Try.underlying27 rfl BW.out.il ?_) | fail)
  refine DD.out.mono ?_
  rintro e w1 ⟨rfl, b1⟩
  have B1 := BW.out.bel b1
  have K1 := hide (bel_tr KW.out b1)
  have y21 := B1.c21
  obtain ⟨ss, hR, hss⟩ := B1.rs
  have hok := B1.ok.2.2.2 _ (List.getElem_mem hi)
  rcases hR with hR | ⟨b, off, rfl, hR⟩
  · rw [hR] at hi; simp at hi
  obtain ⟨c0, c1, _, hsz, _⟩ := hR i hi
  have hs := hss i hi
  clear DD b1 KW BW hR hss B1
  obtain ⟨s, hs0⟩ : ∃ s, s = ss i := ⟨_, rfl⟩
  rw [← hs0] at hs c1 hsz
  clear hs0
  have hps : p + 4 ≤ s.size := by omega
  have hs47 : s.size ≤ 140737488351232 := by rw [hsz]; exact hok.2
  have I0 : I64 m.g[i].at_ := hok.1
  have hpa : (p : Int) = a - m.g[i].at_ := hp.symm
  rw [rdV, hp, ← hs] at E0
  simp only [Int.toNat_natCast] at E0
  have eK : ((4 : Int)).toNat = 4 := rfl
  rw [eK] at E0
  have E := hide E0
  obtain ⟨pv, hpv⟩ : ∃ pv : Nat → Int, pv = fun k => ((le (((s.data.toList.drop p).take 4).drop k) : Nat) : Int) := ⟨_, rfl⟩
  have hxl : ((s.data.toList.drop p).take 4).length = 4 := by simp; omega
  have p0 : Hid (pv 4 = 0) := by show _ = _; rw [hpv]; simp only []; rw [List.drop_eq_nil_of_le (by omega)]; rfl
  have pz : Hid (jn ((s.data.toList.drop p).take 4) = wrap64 (pv 0)) := by show _ = _; rw [hpv]; simp only [List.drop_zero]; rfl
  have BD : ∀ k, k < 4 → p + k < s.size := fun k h => by omega
  have ST : Hid (∀ k (hk : k < 4), 0 ≤ pv (k + 1) ∧ pv (k + 1) < 72057594037927936 ∧ bits BinOp.or IntKind.u64 (pv (k + 1) * 256) ((s[p + k]'(BD k hk)).toNat : Int) = pv k) := fun k hk => by
    have h1 := le_drop_lt ((s.data.toList.drop p).take 4) (k + 1) (by omega) (by omega)
    have h2 := le_drop ((s.data.toList.drop p).take 4) k (by omega)
    have hb := (s[p + k]'(BD k hk)).toNat_lt
    rw [hpv]
    refine ⟨by simp only []; omega, by simp only []; omega, ?_⟩
    simp only []
    have h3 : ((s.data.toList.drop p).take 4)[k]'(by omega) = s[p + k]'(BD k hk) := by
      rw [List.getElem_take, List.getElem_drop, gl s (p + k) (by omega)]
    rw [or_u64 _ _ (by omega) (by omega) (by omega) (by omega), h2, h3]
    omega
  have P64 : Hid (0 ≤ pv 0 ∧ pv 0 < 18446744073709551616) := by
    have h1 := Xc.le_lt ((s.data.toList.drop p).take 4)
    rw [hxl] at h1
    have h4 : (256 : Nat) ^ 4 ≤ 18446744073709551616 := by decide
    show _ ∧ _
    rw [hpv]; simp only [List.drop_zero]; omega
  unfold I64 Xc.I64 at I0 ia
  have hp47 : (p : Int) ≤ 140737488351232 := by omega
  have hp0 : (0 : Int) ≤ (p : Int) := by omega
  clear hpv hxl E0 hs hok W3 hsz DT eK hpa
  generalize m.g[i].at_ = x0 at *
  go_upto_region 8 with fail
  go_wp2_with fail
  go_loop [10, 11] (fun v iv => ∃ k : Nat, k ≤ 4 ∧ iv = .int .i64 ((k : Int) - 1) ∧ v = .int .u64 (pv k)) (fun _ iv => (intOf iv + 1).toNat)
  case atStart => exact ⟨4, Nat.le_refl _, by go_num, by rw [p0.out]⟩
  case round =>
    obtain ⟨k, hk, rfl, rfl⟩ := hrel
    cases k with
    | succ k =>
      obtain ⟨a1, a2, a3⟩ := ST.out k hk
      have hk8 : (k : Int) ≤ 7 := by omega
      have ek : ((k + 1 : Nat) : Int) - 1 = (k : Int) := by omega
      obtain ⟨j, ej⟩ : ∃ j : Nat, j = p + k := ⟨_, rfl⟩
      have hjs : j < s.size := by omega
      have hjp : (p : Int) + (k : Int) = (j : Int) := by omega
      generalize pv (k + 1) = q at *
      have A3 : Hid (bits BinOp.or IntKind.u64 (q * 256) (s[j].toNat : Int) = pv k) := by subst ej; exact hide a3
      clear a3 ej
      rw [ek]
      go_wp2
      exact ⟨⟨k, by omega, rfl, by rw [u64_u8, A3.out]⟩, by simp [intOf]⟩
    | zero =>
      obtain ⟨hp0', hp1'⟩ := P64.out
      rw [pz.out] at E
      generalize pv 0 = L at *
      go_wp2
      go_ret2
      exact rdE E.out rfl K1.out
set_option maxHeartbeats 3200000 in
set_option maxRecDepth 100000 in
theorem rread_yes8 {m : Mc} {v : Value} {w : World} (h : MV m v w) (a : Int) (ia : I64 a) (i : Nat) (hf : fnd m.g false a 8 = some i) : Calls Try.prog 11 #[v, .int .i64 a, .int .i64 8] w (RdEnds m.g a 8 w) := by
  obtain ⟨ra, rc, rfl⟩ := h.sl
  have B0 := hide (bm_arg h)
  rw [mc_is]
  obtain ⟨hi, hcd, hwn⟩ := fnd_some hf
  have E0 := rdM_some (show fnN m.g a 8 = some i from by unfold fnN; rw [if_pos (by omega)]; exact hf) hi
  have W3 := wn_iff.1 hwn
  have DT : dta m.g a 8 = (i : Int) := by simp [dta, hf]
  obtain ⟨p, hp⟩ : ∃ p : Nat, a - m.g[i].at_ = (p : Int) := ⟨(a - m.g[i].at_).toNat, by omega⟩
  have hl : 32 * m.g.length ≤ 140737488351232 := by
    obtain ⟨_, _, _, _, _, _, _, hl⟩ := h
    exact hl
  clear h hf hcd hwn
  go_enter Try.func11, Try.ntmps11
  go_upto_region 3 with fail
  refine gw (motive := fun x => Code.wp _ _ _ _ x) (fun W => Hid (BM w.heap.size m (.slice ra m.g.length rc) W) ∧ Hid (Below w.heap.size w W)) ⟨B0.out, bel_one _ _⟩ ?_
  rintro W ⟨BW, KW⟩
  clear B0
  have DD := hide (data_mv BW.out.mv a 8 ia (by omega))
  rw [mc_is, DT] at DD
  go_wp2_with (first | (refine wpList_load_mid rfl 27 _ rfl w.heap.size 0 rfl _ _ BW.out.rg Try.underlying27 rfl BW.out.il ?_) | fail)
  refine DD.out.mono ?_
  rintro e w1 ⟨rfl, b1⟩
  have B1 := BW.out.bel b1
  have K1 := hide (bel_tr KW.out b1)
  have y21 := B1.c21
  obtain ⟨ss, hR, hss⟩ := B1.rs
  have hok := B1.ok.2.2.2 _ (List.getElem_mem hi)
  rcases hR with hR | ⟨b, off, rfl, hR⟩
  · rw [hR] at hi; simp at hi
  obtain ⟨c0, c1, _, hsz, _⟩ := hR i hi
  have hs := hss i hi
  clear DD b1 KW BW hR hss B1
  obtain ⟨s, hs0⟩ : ∃ s, s = ss i := ⟨_, rfl⟩
  rw [← hs0] at hs c1 hsz
  clear hs0
  have hps : p + 8 ≤ s.size := by omega
  have hs47 : s.size ≤ 140737488351232 := by rw [hsz]; exact hok.2
  have I0 : I64 m.g[i].at_ := hok.1
  have hpa : (p : Int) = a - m.g[i].at_ := hp.symm
  rw [rdV, hp, ← hs] at E0
  simp only [Int.toNat_natCast] at E0
  have eK : ((8 : Int)).toNat = 8 := rfl
  rw [eK] at E0
  have E := hide E0
  obtain ⟨pv, hpv⟩ : ∃ pv : Nat → Int, pv = fun k => ((le (((s.data.toList.drop p).take 8).drop k) : Nat) : Int) := ⟨_, rfl⟩
  have hxl : ((s.data.toList.drop p).take 8).length = 8 := by simp; omega
  have p0 : Hid (pv 8 = 0) := by show _ = _; rw [hpv]; simp only []; rw [List.drop_eq_nil_of_le (by omega)]; rfl
  have pz : Hid (jn ((s.data.toList.drop p).take 8) = wrap64 (pv 0)) := by show _ = _; rw [hpv]; simp only [List.drop_zero]; rfl
  have BD : ∀ k, k < 8 → p + k < s.size := fun k h => by omega
  have ST : Hid (∀ k (hk : k < 8), 0 ≤ pv (k + 1) ∧ pv (k + 1) < 72057594037927936 ∧ bits BinOp.or IntKind.u64 (pv (k + 1) * 256) ((s[p + k]'(BD k hk)).toNat : Int) = pv k) := fun k hk => by
    have h1 := le_drop_lt ((s.data.toList.drop p).take 8) (k + 1) (by omega) (by omega)
    have h2 := le_drop ((s.data.toList.drop p).take 8) k (by omega)
    have hb := (s[p + k]'(BD k hk)).toNat_lt
    rw [hpv]
    refine ⟨by simp only []; omega, by simp only []; omega, ?_⟩
    simp only []
    have h3 : ((s.data.toList.drop p).take 8)[k]'(by omega) = s[p + k]'(BD k hk) := by
      rw [List.getElem_take, List.getElem_drop, gl s (p + k) (by omega)]
    rw [or_u64 _ _ (by omega) (by omega) (by omega) (by omega), h2, h3]
    omega
  have P64 : Hid (0 ≤ pv 0 ∧ pv 0 < 18446744073709551616) := by
    have h1 := Xc.le_lt ((s.data.toList.drop p).take 8)
    rw [hxl] at h1
    have h4 : (256 : Nat) ^ 8 ≤ 18446744073709551616 := by decide
    show _ ∧ _
    rw [hpv]; simp only [List.drop_zero]; omega
  unfold I64 Xc.I64 at I0 ia
  have hp47 : (p : Int) ≤ 140737488351232 := by omega
  have hp0 : (0 : Int) ≤ (p : Int) := by omega
  clear hpv hxl E0 hs hok W3 hsz DT eK hpa
  generalize m.g[i].at_ = x0 at *
  go_upto_region 8 with fail
  go_wp2_with fail
  go_loop [10, 11] (fun v iv => ∃ k : Nat, k ≤ 8 ∧ iv = .int .i64 ((k : Int) - 1) ∧ v = .int .u64 (pv k)) (fun _ iv => (intOf iv + 1).toNat)
  case atStart => exact ⟨8, Nat.le_refl _, by go_num, by rw [p0.out]⟩
  case round =>
    obtain ⟨k, hk, rfl, rfl⟩ := hrel
    cases k with
    | succ k =>
      obtain ⟨a1, a2, a3⟩ := ST.out k hk
      have hk8 : (k : Int) ≤ 7 := by omega
      have ek : ((k + 1 : Nat) : Int) - 1 = (k : Int) := by omega
      obtain ⟨j, ej⟩ : ∃ j : Nat, j = p + k := ⟨_, rfl⟩
      have hjs : j < s.size := by omega
      have hjp : (p : Int) + (k : Int) = (j : Int) := by omega
      generalize pv (k + 1) = q at *
      have A3 : Hid (bits BinOp.or IntKind.u64 (q * 256) (s[j].toNat : Int) = pv k) := by subst ej; exact hide a3
      clear a3 ej
      rw [ek]
      go_wp2
      exact ⟨⟨k, by omega, rfl, by rw [u64_u8, A3.out]⟩, by simp [intOf]⟩
    | zero =>
      obtain ⟨hp0', hp1'⟩ := P64.out
      rw [pz.out] at E
      generalize pv 0 = L at *
      go_wp2
      go_ret2
      exact rdE E.out rfl K1.out
theorem rread_any {m : Mc} {v : Value} {w : World} (h : MV m v w) (a n : Int) (ia : I64 a) : Calls Try.prog 11 #[v, .int .i64 a, .int .i64 n] w (RdEnds m.g a n w) := by
  by_cases h4 : n = 4
  · subst h4
    cases hf : fnd m.g false a 4 with
    | none => exact rread_no4 h a ia hf
    | some i => exact rread_yes4 h a ia i hf
  by_cases h8 : n = 8
  · subst h8
    cases hf : fnd m.g false a 8 with
    | none => exact rread_no8 h a ia hf
    | some i => exact rread_yes8 h a ia i hf
  exact rread_bad h a n ia h4 h8
end Go.Proofs.Ytielpebokbolbaa
/-
  The document's Put, of a machine by value: what it makes.
-/
namespace Go.Proofs.Ytielpebokbolbaa
open Go.RowKit
open Xc (hide bel_one bel_tr bel_al bel_set le by8 bys jn)
set_option linter.unusedSimpArgs false
set_option linter.unusedVariables false
/-- Regions as values, one behind the other. -/
def rvl (t : Int × ByteArray × Bool) : List Value := [.int .i64 t.1, .string t.2.1, .bool t.2.2]
def rsl (L : List (Int × ByteArray × Bool)) : List Value := L.flatMap rvl
theorem rsl_len (L : List (Int × ByteArray × Bool)) : (rsl L).length = 3 * L.length := by
  induction L with
  | nil => rfl
  | cons x L ih =>
    have e : rsl (x :: L) = rvl x ++ rsl L := rfl
    have e2 : (rvl x).length = 3 := rfl
    rw [e, List.length_append, ih, e2, List.length_cons]; omega
theorem rsl_get : ∀ (L : List (Int × ByteArray × Bool)) (j : Nat) (h : j < L.length) (i : Nat), i < 3 → (rsl L)[j * 3 + i]? = (rvl L[j])[i]?
  | x :: L, 0, _, i, hi => by
    simp only [rsl, List.flatMap_cons]
    rw [List.getElem?_append_left (by simp [rvl]; omega)]
    simp
  | x :: L, j + 1, h, i, hi => by
    have ih := rsl_get L j (by simpa using h) i hi
    simp only [rsl, List.flatMap_cons] at *
    rw [List.getElem?_append_right (by simp [rvl]; omega)]
    have : (j + 1) * 3 + i - (rvl x).length = j * 3 + i := by simp [rvl]; omega
    rw [this, ih]
    simp
theorem rsl_cell (L : List (Int × ByteArray × Bool)) : ∀ u, u ∈ rsl L → u.oneCell' = true := by
  intro u hu
  simp only [rsl, List.mem_flatMap] at hu
  obtain ⟨t, _, h⟩ := hu
  simp [rvl] at h
  rcases h with h | h | h <;> subst h <;> rfl
/-- A machine's regions, with their strings. -/
def trp (g : List Rg) (ss : Nat → ByteArray) : List (Int × ByteArray × Bool) := (List.range g.length).map fun i => ((g[i]?.map Rg.at_).getD 0, ss i, (g[i]?.map Rg.code).getD false)
theorem trp_len (g : List Rg) (ss : Nat → ByteArray) : (trp g ss).length = g.length := by simp [trp]
theorem trp_get (g : List Rg) (ss : Nat → ByteArray) (i : Nat) (h : i < (trp g ss).length) (h' : i < g.length) : (trp g ss)[i] = (g[i].at_, ss i, g[i].code) := by simp [trp, h']
theorem RL.news {w : World} {b off : Nat} {g : List Rg} {ss : Nat → ByteArray} (h : RL w b off g ss) : ∀ j u, (rsl (trp g ss))[j]? = some u → w.cell? ((⟨b, off, none⟩ : Addr).add j) = some u := by
  intro j u hu
  have hj : j < (rsl (trp g ss)).length := (List.getElem?_eq_some_iff.1 hu).1
  rw [rsl_len, trp_len] at hj
  have hq : j / 3 < g.length := by omega
  have hr : j % 3 < 3 := Nat.mod_lt _ (by omega)
  have ej : j = j / 3 * 3 + j % 3 := by omega
  rw [ej, rsl_get _ (j / 3) (by rw [trp_len]; exact hq) (j % 3) hr, trp_get _ _ _ _ hq] at hu
  obtain ⟨c0, c1, c2, _⟩ := h (j / 3) hq
  rw [add_at]
  have eo : off + j = off + j / 3 * 3 + j % 3 := by omega
  rw [eo]
  generalize j % 3 = r at *
  generalize j / 3 = q at *
  clear ej eo hj
  match r, hr with
  | 0, _ => rw [Nat.add_zero, c0]; exact hu
  | 1, _ => rw [c1]; exact hu
  | 2, _ => rw [c2]; exact hu
theorem info39 : (Try.prog.info? 39).map (fun i => (i.zero, i.size, i.bytes)) = some (some (.agg #[.int .i64 0, .string ⟨#[]⟩, .bool false]), 3, 32) := by kernel_rfl
theorem under25 : Try.prog.underlying 25 = some (.slice 39) := by kernel_rfl
theorem own_bel' {B e s n : Nat} {v : Value} {xs : List Value} {w w' : World} (hr : w.ownsRow B e s v n xs) (hB : B ≤ w.heap.size) (hg : w.grownBy w' v.ownBlock) : Below B w w' :=
  ⟨hg.os, hg.tape, hg.output, hg.size, fun b hb => hg.block b (by omega) fun e => by have := hr.lt b e.symm; omega⟩
/-- A row of regions that was made: its block, its cells. -/
structure RO (B gb : Nat) (cap : Nat) (L : List (Int × ByteArray × Bool)) (w : World) (v : Value) : Prop where
  val : v = .slice (some ⟨gb, 0, none⟩) L.length cap
  new : B ≤ gb
  blk : ∃ cs, w.heap[gb]? = some (.cells cs 39) ∧ ∀ j (h : j < L.length) i, i < 3 → cs[j * 3 + i]? = (rvl L[j])[i]?
theorem RO.of {B : Nat} {v : Value} {L : List (Int × ByteArray × Bool)} {w : World} (h : w.ownsRow B 39 3 v L.length (rsl L)) (h0 : 0 < L.length) : ∃ gb cap, RO B gb cap L w v := by
  have h' := h
  rcases h.2 with ⟨_, e⟩ | ⟨g, cap, cur, rfl, hb, hblk, hrest⟩
  · omega
  · refine ⟨g, cap, rfl, hb, cur, hblk, fun j hj i hi => ?_⟩
    have c := World.ownsRow.cellAt h' (j * 3 + i) (by omega)
    have e : w.cell? ⟨g, j * 3 + i, none⟩ = cur[j * 3 + i]? := by simp [World.cell?, hblk]
    rw [← e, c, rsl_get L j hj i hi]
theorem wpList_regions {ops : Array Oper} {rest : List Oper} {o : Oper} {a : Act} {Q : Exit → Act → World → Prop} {w : World} (hgd : o.guard = none) (s x : Operand) (ho : o.op = .call { callee := .builtin .append, args := #[s, x], argTypes := #[25, 25] }) (b off : Nat) (g : List Rg) (ss : Nat → ByteArray) (c : Nat) (hs : a.eval s = .slice none 0 0) (hx : a.eval x = .slice (some ⟨b, off, none⟩) g.length c) (hR : RL w b off g ss) (hl : 32 * g.length ≤ 140737488351232) (h0 : 0 < g.length) (h : ∀ gb cap w', RO w.heap.size gb cap (trp g ss) w' (.slice (some ⟨gb, 0, none⟩) g.length cap) → Below w.heap.size w w' → wpList Try.prog ops Q rest (a.put o.dst (.slice (some ⟨gb, 0, none⟩) g.length cap)) w') : wpList Try.prog ops Q (o :: rest) a w := by
  obtain ⟨i0, hi, hz0, hz1, hz2⟩ := info_parts info39
  refine wpList_append_own _ hgd s x 25 ho w.heap.size 39 i0 _ 3 32 under25 hi hz0 hz1 hz2 rfl (by decide) _ 0 [] hs (World.ownsRow_nil _ _ _ _) ⟨b, off, none⟩ g.length c (rsl (trp g ss)) hx (by rw [rsl_len, trp_len]; omega) hR.news (rsl_cell _) (by unfold maxLen; omega) (by omega) (Nat.le_refl _) fun v' w' h2 h3 _ => ?_
  rw [Nat.zero_add, List.nil_append] at h2
  have h2' : w'.ownsRow w.heap.size 39 3 v' (trp g ss).length (rsl (trp g ss)) := by rw [trp_len]; exact h2
  obtain ⟨gb, cap, hO⟩ := RO.of h2' (by rw [trp_len]; exact h0)
  have e := hO.val
  rw [trp_len] at e
  subst e
  exact h gb cap w' hO (own_bel' (World.ownsRow_nil w w.heap.size 39 3) (Nat.le_refl _) h3)
theorem RO.c {B gb cap : Nat} {L : List (Int × ByteArray × Bool)} {w : World} {v : Value} (h : RO B gb cap L w v) (j : Nat) (hj : j < L.length) : w.cell? ⟨gb, j * 3, none⟩ = some (.int .i64 L[j].1) ∧ w.cell? ⟨gb, j * 3 + 1, none⟩ = some (.string L[j].2.1) ∧ w.cell? ⟨gb, j * 3 + 2, none⟩ = some (.bool L[j].2.2) ∧ ∀ k, w.frozen? ⟨gb, k, none⟩ = false := by
  obtain ⟨cs, hb, hc⟩ := h.blk
  have e : ∀ k, w.cell? ⟨gb, k, none⟩ = cs[k]? := fun k => by simp [World.cell?, hb]
  refine ⟨?_, ?_, ?_, fun k => by simp [World.frozen?, hb]⟩
  · rw [e]; have := hc j hj 0 (by omega); rw [Nat.add_zero] at this; rw [this]; rfl
  · rw [e, hc j hj 1 (by omega)]; rfl
  · rw [e, hc j hj 2 (by omega)]; rfl
/-- A region's string was written anew. -/
theorem RO.setStr {B gb cap : Nat} {L : List (Int × ByteArray × Bool)} {w : World} {v : Value} (h : RO B gb cap L w v) (i : Nat) (hi : i < L.length) (s : ByteArray) : RO B gb cap (L.set i (L[i].1, s, L[i].2.2)) (w.setCell ⟨gb, i * 3 + 1, none⟩ (.string s)) v := by
  obtain ⟨cs, hb, hc⟩ := h.blk
  refine ⟨by rw [List.length_set]; exact h.val, h.new, cs.setIfInBounds (i * 3 + 1) (.string s), by simp [World.setCell, Array.getElem?_modify, hb], fun j hj k hk => ?_⟩
  rw [List.length_set] at hj
  rw [Array.getElem?_setIfInBounds]
  by_cases e : i = j
  · subst e
    rw [List.getElem_set_self]
    have hcc := hc i hj k hk
    match k, hk with
    | 0, _ => rw [if_neg (by omega), hcc]; rfl
    | 1, _ => rw [if_pos rfl, if_pos (Array.getElem?_eq_some_iff.1 hcc).1]; rfl
    | 2, _ => rw [if_neg (by omega), hcc]; rfl
  · rw [List.getElem_set_ne e, if_neg (by omega)]
    exact hc j hj k hk
theorem RO.kept {B gb cap : Nat} {L : List (Int × ByteArray × Bool)} {w w' : World} {v : Value} (h : RO B gb cap L w v) (e : w'.heap[gb]? = w.heap[gb]?) : RO B gb cap L w' v := by
  obtain ⟨cs, hb, hc⟩ := h.blk
  exact ⟨h.val, h.new, cs, by rw [e]; exact hb, hc⟩
theorem wpList_bytes {ops : Array Oper} {rest : List Oper} {o : Oper} {a : Act} {w : World} {Q : Exit → Act → World → Prop} (hgd : o.guard = none) (x : Operand) (ho : o.op = .convert 9 50 x) (s : ByteArray) (hx : a.eval x = .string s)
    (h : ∀ cap w', Hid (s.size ≤ cap) → Hid (BR w' w.heap.size s.data.toList) → Hid (Below w.heap.size w w') → wpList Try.prog ops Q rest (a.put o.dst (.slice (some ⟨w.heap.size, 0, none⟩) s.size cap)) w') : wpList Try.prog ops Q (o :: rest) a w := by
  refine wpList_plain hgd fun K hK => ?_
  have hrun := run_bytes_of_string (P := Try.prog) w 9 50 5 s (by kernel_rfl) (by kernel_rfl) (by kernel_rfl)
  unfold Oper.wp
  simp only [execOp, ho, hx, Sem.run_bind, hrun, Result.andThen_ok]
  exact hK _ _ (h _ _ (grownCap_ge _ _ _ _) (bytes_row w s _) ((drew_below _ _).trans (bel_one w.drew _)))
theorem BR.setB {w : World} {b k : Nat} {l : List UInt8} (h : BR w b l) (_hk : k < l.length) (x : UInt8) : BR (w.setCell ⟨b, k, none⟩ (.int .u8 (x.toNat : Int))) b (l.set k x) := by
  refine ⟨by simpa [World.setCell] using h.1, fun j hj => ?_⟩
  have hj' : j < l.length := by simpa using hj
  obtain ⟨h1, h2⟩ := h.2 j hj'
  by_cases e : j = k
  · subst e
    constructor
    · have := World.cell?_setCells_in b [.int .u8 (x.toNat : Int)] j w (fun i hi => by simp at hi; subst hi; rw [Nat.add_zero, h1]; rfl) 0 (by simp)
      simpa [World.setCells] using this
    · have := World.frozen?_setCells b [.int .u8 (x.toNat : Int)] j w ⟨b, j, none⟩
      rw [h2] at this
      simpa [World.setCells] using this
  · constructor
    · have := World.cell?_setCells_out b [.int .u8 (x.toNat : Int)] k w ⟨b, j, none⟩ (fun _ _ => by show j < k ∨ k + 1 ≤ j; omega)
      rw [h1] at this
      rw [List.getElem_set_ne (by omega)]
      simpa [World.setCells] using this
    · have := World.frozen?_setCells b [.int .u8 (x.toNat : Int)] k w ⟨b, j, none⟩
      rw [h2] at this
      simpa [World.setCells] using this
/-- Bytes with the first k of a number's laid over them. -/
def prt (l : List UInt8) (p k : Nat) (v : Int) : List UInt8 := spl l p (bys k v)
theorem prt_zero (l : List UInt8) (p : Nat) (v : Int) : prt l p 0 v = l := by simp [prt, spl, bys]
theorem prt_len (l : List UInt8) (p k : Nat) (v : Int) (h : p + k ≤ l.length) : (prt l p k v).length = l.length := by
  unfold prt; rw [spl_len _ _ _ (by rw [Xc.bys_len]; exact h)]
theorem prt_set (l : List UInt8) (p k : Nat) (v : Int) (h : p + k < l.length) : (prt l p k v).set (p + k) (by8 (v / 256 ^ k)) = prt l p (k + 1) v := by
  have h1 : (l.take p).length = p := by simp; omega
  unfold prt spl
  rw [Xc.bys_snoc, List.append_assoc, List.append_assoc, List.append_assoc, List.set_append_right _ _ (by omega), h1, show p + k - p = k by omega, List.set_append_right _ _ (by rw [Xc.bys_len]; omega), Xc.bys_len, Nat.sub_self]
  rw [List.drop_eq_getElem_cons h]
  simp [Xc.bys_len, Nat.add_assoc]
end Go.Proofs.Ytielpebokbolbaa
/-
  The document's Put, of a machine by value.
-/
namespace Go.Proofs.Ytielpebokbolbaa
open Go.RowKit
open Xc (hide bel_one bel_tr bel_al bel_set le by8 bys jn)
set_option linter.unusedSimpArgs false
set_option linter.unusedVariables false
theorem pu_no {m : Mc} {a n x : Int} {w w' : World} {e : Ending} {v' : Value} (h : ptM m.g a n x = none) (he : e = .returned (.tuple #[v', .bool false])) (hm : MV m v' w') (hb : Below w.heap.size w w') : PuEnds m a n x w e w' := by
  unfold PuEnds
  rw [h]
  exact ⟨v', he, hm, hb⟩
theorem pu_yes {m : Mc} {a n x : Int} {w w' : World} {e : Ending} {v' : Value} {g : List Rg} (h : ptM m.g a n x = some g) (he : e = .returned (.tuple #[v', .bool true])) (hm : MV { m with g := g } v' w') (hb : Below w.heap.size w w') : PuEnds m a n x w e w' := by
  unfold PuEnds
  rw [h]
  exact ⟨v', he, hm, hb⟩
theorem box_set {W : World} {q : Nat} {m : Mc} {v : Value} (h : m.r.length = 16) (hb : W.heap[q]? = some (.cells (ml m v).toArray 27)) (v' : Value) : (W.setCell ⟨q, 21, none⟩ v').heap[q]? = some (.cells (ml m v').toArray 27) := by
  simp [World.setCell, Array.getElem?_modify, hb]
  first | done | exact ml_set h v v' | (rw [← ml_set h v v']) | (rw [← ml_set h v v']; simp)
theorem box_other {W : World} {q b k : Nat} {v : Value} (h : q ≠ b) : (W.setCell ⟨b, k, none⟩ v).heap[q]? = W.heap[q]? := Below.heap_setCell W ⟨b, k, none⟩ v q h
/-- The row of regions, one string anew, as regions. -/
theorem RO.rs {B gb cap : Nat} {g : List Rg} {ss : Nat → ByteArray} {w : World} {v : Value} {i : Nat} (hi : i < g.length) {s' : ByteArray} (h : RO B gb cap ((trp g ss).set i (g[i].at_, s', g[i].code)) w v) (hs : ∀ j (h : j < g.length), (ss j).data.toList = g[j].by_) (hok : ∀ r ∈ g, Rg.ok r) {l : List UInt8} (hl : s'.data.toList = l) (hll : l.length = g[i].by_.length) :
    RS w (some ⟨gb, 0, none⟩) (g.set i ⟨g[i].at_, l, g[i].code⟩) (fun j => if j = i then s' else ss j) ∧ (∀ j (h : j < (g.set i ⟨g[i].at_, l, g[i].code⟩).length), (if j = i then s' else ss j).data.toList = (g.set i ⟨g[i].at_, l, g[i].code⟩)[j].by_) ∧ (∀ r ∈ g.set i ⟨g[i].at_, l, g[i].code⟩, Rg.ok r) := by
  have okn : Rg.ok ⟨g[i].at_, l, g[i].code⟩ := by
    have := hok _ (List.getElem_mem hi)
    exact ⟨this.1, by show l.length ≤ _; rw [hll]; exact this.2⟩
  have oka : ∀ r ∈ g.set i ⟨g[i].at_, l, g[i].code⟩, Rg.ok r := fun r hr => by
    obtain ⟨j, hj, rfl⟩ := List.getElem_of_mem hr
    rw [List.getElem_set]
    split
    · exact okn
    · exact hok _ (List.getElem_mem _)
  have eqs : ∀ j (h : j < (g.set i ⟨g[i].at_, l, g[i].code⟩).length), (if j = i then s' else ss j).data.toList = (g.set i ⟨g[i].at_, l, g[i].code⟩)[j].by_ := fun j hj => by
    rw [List.length_set] at hj
    rw [List.getElem_set]
    by_cases e : i = j
    · subst e; simp [hl]
    · rw [if_neg (Ne.symm e), if_neg e]; exact hs j hj
  refine ⟨Or.inr ⟨gb, 0, rfl, fun j hj => ?_⟩, eqs, oka⟩
  have hj' : j < g.length := by simpa using hj
  have hc := h.c j (by rw [List.length_set, trp_len]; exact hj')
  have ez := eqs j hj
  have hok' := oka _ (List.getElem_mem hj)
  have hsz : (if j = i then s' else ss j).size = (g.set i ⟨g[i].at_, l, g[i].code⟩)[j].by_.length := by rw [← ez]; simp
  rw [Nat.zero_add]
  obtain ⟨c0, c1, c2, _⟩ := hc
  rw [List.getElem_set] at c0 c1 c2
  by_cases e : i = j
  · subst e
    simp only [if_true] at c0 c1 c2 hsz ⊢
    rw [List.getElem_set_self] at hsz ⊢
    exact ⟨c0, c1, c2, hsz, okn⟩
  · rw [if_neg e, trp_get g ss j _ hj'] at c0 c1 c2
    simp only [if_neg (Ne.symm e)] at hsz ⊢
    have e2 : (g.set i ⟨g[i].at_, l, g[i].code⟩)[j] = g[j] := List.getElem_set_ne e _
    simp only [e2] at hsz hok' ⊢
    exact ⟨c0, c1, c2, hsz, hok'⟩
set_option maxHeartbeats 6400000 in
set_option maxRecDepth 100000 in
theorem rput_bad {m : Mc} {v : Value} {w : World} (h : MV m v w) (a n x : Int) (ia : I64 a) (ix : I64 x) (h4 : n ≠ 4) (h8 : n ≠ 8) : Calls Try.prog 13 #[v, .int .i64 a, .int .i64 n, .int .i64 x] w (PuEnds m a n x w) := by
  have HMV := hide h
  obtain ⟨ra, rc, ss, rfl, hR, hs, hok, hg⟩ := h
  rw [mc_is]
  have IL := hide (i27l hok.1 (.slice ra m.g.length rc))
  have HZS : Hid (zm.size = (ml m (.slice ra m.g.length rc)).toArray.size) := (show zm.size = 23 from rfl).trans (by rw [List.size_toArray, ml_len hok.1])
  have IL2 : Hid ((Try.prog.info? 27).map (·.size) = some (ml m (.slice ra m.g.length rc)).toArray.size) := by show _ = _; rw [List.size_toArray]; exact IL.out
  have HON := hide (ml_one m ra m.g.length rc)
  have M := hide (m2_made m (.slice ra m.g.length rc) w)
  have E := hide (show ptM m.g a n x = none from ptM_none (by unfold fnN; rw [if_neg (by omega)]))
  have e4 : (n != 4) = true := by simpa using h4
  have e8 : (n != 8) = true := by simpa using h8
  have HR := hide hR
  have HS := hide hs
  have OK := hide hok
  have HG := hide hg
  clear hR hs hok hg
  unfold zm at M
  go_enter Try.func13, Try.ntmps13
  go_upto_region 1 with fail
  refine gw (motive := fun x => Code.wp _ _ _ _ x) (fun W => Hid (M2 m (.slice ra m.g.length rc) w.heap.size w W)) M.out ?_
  clear M
  rintro W MW
  have R1 := hide MW.out.r
  have Z1 := hide MW.out.z
  have RGF := hide (rng_row R1.out)
  have ZF := hide Z1.out
  go_wp2_with (first | (refine wpList_load_mid rfl 27 _ rfl w.heap.size 0 rfl _ _ RGF.out Try.underlying27 rfl IL.out ?_) | (refine wpList_store_row rfl 27 _ _ rfl (w.heap.size + 1) _ rfl rfl 27 zm ZF.out IL2.out HZS.out HON.out ?_) | fail)
  refine bodyPost_ret (results_ct rfl _ _ (w.heap.size + 1) _ rfl (setRow_heap _ _ _ _ _ (0, 0) ZF.out) IL.out) rfl ?_
  exact pu_no E.out rfl ⟨ra, rc, ss, rfl, (HR.out.bel MW.out.b).row ZF.out _, HS.out, OK.out, HG.out⟩ (below_setRow MW.out.b (by omega) _)
set_option maxHeartbeats 6400000 in
set_option maxRecDepth 100000 in
theorem rput_no4 {m : Mc} {v : Value} {w : World} (h : MV m v w) (a x : Int) (ia : I64 a) (ix : I64 x) (hf : fnd m.g false a 4 = none) : Calls Try.prog 13 #[v, .int .i64 a, .int .i64 4, .int .i64 x] w (PuEnds m a 4 x w) := by
  have HMV := hide h
  obtain ⟨ra, rc, ss, rfl, hR, hs, hok, hg⟩ := h
  rw [mc_is]
  have IL := hide (i27l hok.1 (.slice ra m.g.length rc))
  have HZS : Hid (zm.size = (ml m (.slice ra m.g.length rc)).toArray.size) := (show zm.size = 23 from rfl).trans (by rw [List.size_toArray, ml_len hok.1])
  have IL2 : Hid ((Try.prog.info? 27).map (·.size) = some (ml m (.slice ra m.g.length rc)).toArray.size) := by show _ = _; rw [List.size_toArray]; exact IL.out
  have HON := hide (ml_one m ra m.g.length rc)
  have M := hide (m2_made m (.slice ra m.g.length rc) w)
  have E := hide (show ptM m.g a 4 x = none from ptM_none (by unfold fnN; rw [if_pos (by omega)]; exact hf))
  have DT : dta m.g a 4 = -1 := by simp [dta, hf]
  have HR := hide hR
  have HS := hide hs
  have OK := hide hok
  have HG := hide hg
  clear hR hs hok hg hf
  unfold zm at M
  go_enter Try.func13, Try.ntmps13
  go_upto_region 1 with fail
  refine gw (motive := fun x => Code.wp _ _ _ _ x) (fun W => Hid (M2 m (.slice ra m.g.length rc) w.heap.size w W)) M.out ?_
  clear M
  rintro W MW
  have DD := hide (data_mv (HMV.out.bel MW.out.b) a 4 ia (by omega))
  rw [mc_is, DT] at DD
  have RG0 := hide (rng_row MW.out.r)
  go_wp2_with (first | (refine wpList_load_mid rfl 27 _ rfl w.heap.size 0 rfl _ _ RG0.out Try.underlying27 rfl IL.out ?_) | fail)
  refine DD.out.mono ?_
  rintro e w1 ⟨rfl, b1⟩
  have K1 := hide (bel_tr MW.out.b b1)
  have R1 := hide ((b1.block _ (by have := MW.out.s; omega)).trans MW.out.r)
  have Z1 := hide ((b1.block _ MW.out.s).trans MW.out.z)
  clear DD b1 RG0
  have RGF := hide (rng_row R1.out)
  have ZF := hide Z1.out
  go_wp2_with (first | (refine wpList_load_mid rfl 27 _ rfl w.heap.size 0 rfl _ _ RGF.out Try.underlying27 rfl IL.out ?_) | (refine wpList_store_row rfl 27 _ _ rfl (w.heap.size + 1) _ rfl rfl 27 zm ZF.out IL2.out HZS.out HON.out ?_) | fail)
  refine bodyPost_ret (results_ct rfl _ _ (w.heap.size + 1) _ rfl (setRow_heap _ _ _ _ _ (0, 0) ZF.out) IL.out) rfl ?_
  exact pu_no E.out rfl ⟨ra, rc, ss, rfl, (HR.out.bel K1.out).row ZF.out _, HS.out, OK.out, HG.out⟩ (below_setRow K1.out (by omega) _)
set_option maxHeartbeats 6400000 in
set_option maxRecDepth 100000 in
theorem rput_no8 {m : Mc} {v : Value} {w : World} (h : MV m v w) (a x : Int) (ia : I64 a) (ix : I64 x) (hf : fnd m.g false a 8 = none) : Calls Try.prog 13 #[v, .int .i64 a, .int .i64 8, .int .i64 x] w (PuEnds m a 8 x w) := by
  have HMV := hide h
  obtain ⟨ra, rc, ss, rfl, hR, hs, hok, hg⟩ := h
  rw [mc_is]
  have IL := hide (i27l hok.1 (.slice ra m.g.length rc))
  have HZS : Hid (zm.size = (ml m (.slice ra m.g.length rc)).toArray.size) := (show zm.size = 23 from rfl).trans (by rw [List.size_toArray, ml_len hok.1])
  have IL2 : Hid ((Try.prog.info? 27).map (·.size) = some (ml m (.slice ra m.g.length rc)).toArray.size) := by show _ = _; rw [List.size_toArray]; exact IL.out
  have HON := hide (ml_one m ra m.g.length rc)
  have M := hide (m2_made m (.slice ra m.g.length rc) w)
  have E := hide (show ptM m.g a 8 x = none from ptM_none (by unfold fnN; rw [if_pos (by omega)]; exact hf))
  have DT : dta m.g a 8 = -1 := by simp [dta, hf]
  have HR := hide hR
  have HS := hide hs
  have OK := hide hok
  have HG := hide hg
  clear hR hs hok hg hf
  unfold zm at M
  go_enter Try.func13, Try.ntmps13
  go_upto_region 1 with fail
  refine gw (motive := fun x => Code.wp _ _ _ _ x) (fun W => Hid (M2 m (.slice ra m.g.length rc) w.heap.size w W)) M.out ?_
  clear M
  rintro W MW
  have DD := hide (data_mv (HMV.out.bel MW.out.b) a 8 ia (by omega))
  rw [mc_is, DT] at DD
  have RG0 := hide (rng_row MW.out.r)
  go_wp2_with (first | (refine wpList_load_mid rfl 27 _ rfl w.heap.size 0 rfl _ _ RG0.out Try.underlying27 rfl IL.out ?_) | fail)
  refine DD.out.mono ?_
  rintro e w1 ⟨rfl, b1⟩
  have K1 := hide (bel_tr MW.out.b b1)
  have R1 := hide ((b1.block _ (by have := MW.out.s; omega)).trans MW.out.r)
  have Z1 := hide ((b1.block _ MW.out.s).trans MW.out.z)
  clear DD b1 RG0
  have RGF := hide (rng_row R1.out)
  have ZF := hide Z1.out
  go_wp2_with (first | (refine wpList_load_mid rfl 27 _ rfl w.heap.size 0 rfl _ _ RGF.out Try.underlying27 rfl IL.out ?_) | (refine wpList_store_row rfl 27 _ _ rfl (w.heap.size + 1) _ rfl rfl 27 zm ZF.out IL2.out HZS.out HON.out ?_) | fail)
  refine bodyPost_ret (results_ct rfl _ _ (w.heap.size + 1) _ rfl (setRow_heap _ _ _ _ _ (0, 0) ZF.out) IL.out) rfl ?_
  exact pu_no E.out rfl ⟨ra, rc, ss, rfl, (HR.out.bel K1.out).row ZF.out _, HS.out, OK.out, HG.out⟩ (below_setRow K1.out (by omega) _)
set_option maxHeartbeats 6400000 in
set_option maxRecDepth 100000 in
theorem rput_yes4 {m : Mc} {v : Value} {w : World} (h : MV m v w) (a x : Int) (ia : I64 a) (ix : I64 x) (i : Nat) (hf : fnd m.g false a 4 = some i) : Calls Try.prog 13 #[v, .int .i64 a, .int .i64 4, .int .i64 x] w (PuEnds m a 4 x w) := by
  have HMV := hide h
  obtain ⟨ra, rc, ss, rfl, hR, hs, hok, hg⟩ := h
  rw [mc_is]
  have IL := hide (i27l hok.1 (.slice ra m.g.length rc))
  have HZS : Hid (zm.size = (ml m (.slice ra m.g.length rc)).toArray.size) := (show zm.size = 23 from rfl).trans (by rw [List.size_toArray, ml_len hok.1])
  have IL2 : Hid ((Try.prog.info? 27).map (·.size) = some (ml m (.slice ra m.g.length rc)).toArray.size) := by show _ = _; rw [List.size_toArray]; exact IL.out
  have HON := hide (ml_one m ra m.g.length rc)
  have M := hide (m2_made m (.slice ra m.g.length rc) w)
  obtain ⟨hi, hcd, hwn⟩ := fnd_some hf
  have W3 := wn_iff.1 hwn
  have DT : dta m.g a 4 = (i : Int) := by simp [dta, hf]
  obtain ⟨p, hp⟩ : ∃ p : Nat, a - m.g[i].at_ = (p : Int) := ⟨(a - m.g[i].at_).toNat, by omega⟩
  have E := hide (show ptM m.g a 4 x = some (m.g.set i ⟨m.g[i].at_, prt m.g[i].by_ p 4 x, m.g[i].code⟩) from by
    have : fnN m.g a 4 = some i := by unfold fnN; rw [if_pos (by omega)]; exact hf
    simp only [ptM, this, List.getElem?_eq_getElem hi, ptR, hp, Int.toNat_natCast, prt]
    rfl)
  rcases hR with hR | ⟨b, off, rfl, hR⟩
  · rw [hR] at hi; simp at hi
  have hsi := hs i hi
  have rok := hok.2.2.2 _ (List.getElem_mem hi)
  have I0 : I64 m.g[i].at_ := rok.1
  obtain ⟨s, hs0⟩ : ∃ s, s = ss i := ⟨_, rfl⟩
  have hsz : s.size = m.g[i].by_.length := by rw [hs0, ← hsi]; simp
  have hll : s.data.toList.length = s.size := by simp
  have HSL := hide (show s.data.toList = m.g[i].by_ from by rw [hs0]; exact hsi)
  have hps : p + 4 ≤ s.size := by omega
  have hs47 : s.size ≤ 140737488351232 := by rw [hsz]; exact rok.2
  have HP := fun k (h : p + k ≤ s.data.toList.length) => prt_len s.data.toList p k x h
  have hx := ix
  have hlr : m.r.length = 16 := hok.1
  have HR := hide hR
  have HS := hide hs
  have OK := hide hok
  have HG := hide hg
  have HS0 := hide hs0
  unfold I64 Xc.I64 at I0 ia hx
  obtain ⟨hva, hvb⟩ := hx
  have HI := hide hi
  clear hR hs hok hg hf hcd hwn W3 hsi rok hs0 hsz
  unfold zm at M
  go_enter Try.func13, Try.ntmps13
  go_upto_region 1 with fail
  refine gw (motive := fun x => Code.wp _ _ _ _ x) (fun W => Hid (M2 m (.slice (some ⟨b, off, none⟩) m.g.length rc) w.heap.size w W)) M.out ?_
  clear M
  rintro W MW
  have DD := hide (data_mv (HMV.out.bel MW.out.b) a 4 ia (by omega))
  rw [mc_is, DT] at DD
  have RG0 := hide (rng_row MW.out.r)
  go_wp2_with (first | (refine wpList_load_mid rfl 27 _ rfl w.heap.size 0 rfl _ _ RG0.out Try.underlying27 rfl IL.out ?_) | fail)
  refine DD.out.mono ?_
  rintro e w1 ⟨rfl, b1⟩
  have K1 := hide (bel_tr MW.out.b b1)
  have R1 := hide ((b1.block _ (by have := MW.out.s; omega)).trans MW.out.r)
  have Z1 := hide ((b1.block _ MW.out.s).trans MW.out.z)
  have hq1 : w.heap.size + 1 < w1.heap.size := Nat.lt_of_lt_of_le MW.out.s b1.size
  have HR1 := hide (HR.out.bel K1.out)
  obtain ⟨_, _, _, _, _, y21, _⟩ := ml_c hlr R1.out
  obtain ⟨c0, c1, _, _, _⟩ := HR1.out i hi
  have hb1 : b < w1.heap.size := HR1.out.lt (by omega)
  rw [← HS0.out] at c1
  clear DD b1 RG0 HR
  generalize hx0 : m.g[i].at_ = x0 at *
  have HX0 := hide hx0
  clear hx0
  have FT := hide (fun (w2 : World) (k : Below w1.heap.size w1 w2) => (show w2.cell? ⟨w.heap.size, 21, none⟩ = some (.slice (some ⟨b, off, none⟩) m.g.length rc) ∧ w2.cell? ⟨b, off + i * 3, none⟩ = some (.int .i64 x0) from ⟨(k.cell (p := ⟨w.heap.size, 21, none⟩) (by show w.heap.size < _; omega)).trans y21, (k.cell (p := ⟨b, off + i * 3, none⟩) hb1).trans c0⟩))
  go_wp2_with (first | (refine wpList_bytes rfl (.tmp 34) rfl s rfl ?_; intro cap w2 hcap hB hW2; obtain ⟨y21b, c0b⟩ := FT.out w2 hW2.out) | fail)
  have hcp := hcap.out
  go_loopw [13] (fun iv wr => ∃ k : Nat, k ≤ 4 ∧ iv = .int .i64 (k : Int) ∧ Hid (BR wr w1.heap.size (prt s.data.toList p k x)) ∧ Hid (Below w1.heap.size w1 wr)) (fun iv _ => 4 - (intOf iv).toNat)
  case atStart => exact ⟨0, Nat.zero_le _, rfl, by rw [prt_zero]; exact hB, hW2⟩
  case round =>
    obtain ⟨k, hk, rfl, HB, HW⟩ := hrel
    clear hB hW2
    have hk' : k = 0 ∨ k = 1 ∨ k = 2 ∨ k = 3 ∨ k = 4 := by omega
    rcases hk' with rfl | rfl | rfl | rfl | rfl
    · have c := (HB.out.2 (p + 0) (by rw [HP 0 (by omega)]; omega)).1
      have f := (HB.out.2 (p + 0) (by rw [HP 0 (by omega)]; omega)).2
      have NB := hide (HB.out.setB (k := p + 0) (by rw [HP 0 (by omega)]; omega) (by8 (x / 256 ^ 0)))
      rw [prt_set _ p 0 x (by omega), Xc.by8_val, show (256 : Int) ^ 0 = 1 from by decide, Int.ediv_one] at NB
      have NW := hide (HW.out.setCell (p := ⟨w1.heap.size, p + 0, none⟩) (Nat.le_refl _) (.int .u8 (x % 256)))
      simp only [Nat.add_zero] at c f NB NW
      go_wp2
      rw [show IntKind.u64.wrap x % 256 = x % 256 by rw [IntKind.wrap_u64]; omega]
      exact ⟨⟨1, by decide, rfl, NB, NW⟩, by simp [intOf]⟩
    · have c := (HB.out.2 (p + 1) (by rw [HP 1 (by omega)]; omega)).1
      have f := (HB.out.2 (p + 1) (by rw [HP 1 (by omega)]; omega)).2
      have NB := hide (HB.out.setB (k := p + 1) (by rw [HP 1 (by omega)]; omega) (by8 (x / 256 ^ 1)))
      rw [prt_set _ p 1 x (by omega), Xc.by8_val, show (256 : Int) ^ 1 = 256 from by decide] at NB
      have NW := hide (HW.out.setCell (p := ⟨w1.heap.size, p + 1, none⟩) (Nat.le_refl _) (.int .u8 (x / 256 % 256)))
      go_wp2
      rw [show IntKind.u64.wrap x / 256 % 256 = x / 256 % 256 by rw [IntKind.wrap_u64]; omega]
      exact ⟨⟨2, by decide, rfl, NB, NW⟩, by simp [intOf]⟩
    · have c := (HB.out.2 (p + 2) (by rw [HP 2 (by omega)]; omega)).1
      have f := (HB.out.2 (p + 2) (by rw [HP 2 (by omega)]; omega)).2
      have NB := hide (HB.out.setB (k := p + 2) (by rw [HP 2 (by omega)]; omega) (by8 (x / 256 ^ 2)))
      rw [prt_set _ p 2 x (by omega), Xc.by8_val, show (256 : Int) ^ 2 = 65536 from by decide] at NB
      have NW := hide (HW.out.setCell (p := ⟨w1.heap.size, p + 2, none⟩) (Nat.le_refl _) (.int .u8 (x / 65536 % 256)))
      go_wp2
      rw [show IntKind.u64.wrap x / 65536 % 256 = x / 65536 % 256 by rw [IntKind.wrap_u64]; omega]
      exact ⟨⟨3, by decide, rfl, NB, NW⟩, by simp [intOf]⟩
    · have c := (HB.out.2 (p + 3) (by rw [HP 3 (by omega)]; omega)).1
      have f := (HB.out.2 (p + 3) (by rw [HP 3 (by omega)]; omega)).2
      have NB := hide (HB.out.setB (k := p + 3) (by rw [HP 3 (by omega)]; omega) (by8 (x / 256 ^ 3)))
      rw [prt_set _ p 3 x (by omega), Xc.by8_val, show (256 : Int) ^ 3 = 16777216 from by decide] at NB
      have NW := hide (HW.out.setCell (p := ⟨w1.heap.size, p + 3, none⟩) (Nat.le_refl _) (.int .u8 (x / 16777216 % 256)))
      go_wp2
      rw [show IntKind.u64.wrap x / 16777216 % 256 = x / 16777216 % 256 by rw [IntKind.wrap_u64]; omega]
      exact ⟨⟨4, by decide, rfl, NB, NW⟩, by simp [intOf]⟩
    · clear y21b c0b y21 c0 c1
      obtain ⟨y21, _⟩ := FT.out wr HW.out
      have HRr := hide (HR1.out.bel HW.out)
      have hBw : w1.heap.size < wr.heap.size := HB.out.1
      obtain ⟨ns, hns⟩ : ∃ ns : ByteArray, ns = ⟨(prt s.data.toList p 4 x).toArray⟩ := ⟨_, rfl⟩
      have CV := hide (fun (w5 : World) (k5 : Below wr.heap.size wr w5) => (show (convert 50 9 (.slice (some ⟨w1.heap.size, 0, none⟩) s.size cap)).run Try.prog w5 = .ok (.string ns) w5 from by
        have := run_str_of (P := Try.prog) (HB.out.kept k5) 50 9 5 s.size cap (by rw [HP 4 (by omega), hll]; exact Nat.le_refl _) (by kernel_rfl) (by kernel_rfl) (by kernel_rfl)
        rw [List.take_of_length_le (by rw [HP 4 (by omega), hll]; exact Nat.le_refl _)] at this
        rw [hns]; exact this))
      have STR := hide (fun (gb gcap : Nat) (w5 : World) (v : Value) (hO : RO wr.heap.size gb gcap (trp m.g ss) w5 v) => hO.c i (by rw [trp_len]; exact HI.out))
      have NS := hide (show ns.data.toList = prt s.data.toList p 4 x from by rw [hns])
      clear hns
      go_upto_region 14 with (first | (refine wpList_regions rfl _ _ rfl b off m.g ss rc rfl rfl HRr.out HG.out (by have := HI.out; omega) ?_; intro gb gcap w5 hO hB5; have cv := CV.out w5 hB5; have HO := hide hO; have HB5 := hide hB5; obtain ⟨_, st1, _, sf⟩ := STR.out gb gcap w5 _ hO; have sf1 := sf (i * 3 + 1); have hgb : wr.heap.size ≤ gb := hO.new; clear hO hB5 sf) | fail)
      have HRO : Hid (RO wr.heap.size gb gcap ((trp m.g ss).set i ((m.g[i]'HI.out).at_, ns, (m.g[i]'HI.out).code)) (w5.setCell ⟨gb, i * 3 + 1, none⟩ (.string ns)) (.slice (some ⟨gb, 0, none⟩) m.g.length gcap)) := by
        have := HO.out.setStr i (by rw [trp_len]; exact HI.out) ns
        rw [trp_get m.g ss i _ HI.out] at this
        exact this
      have K5 := hide (K1.out.trans (((HW.out.trans (HB5.out.mono (Nat.le_of_lt hBw))).mono (by omega))))
      have R5 := hide ((HB5.out.block w.heap.size (by omega)).trans ((HW.out.block w.heap.size (by omega)).trans R1.out))
      have Z5 := hide ((HB5.out.block (w.heap.size + 1) (by omega)).trans ((HW.out.block (w.heap.size + 1) (by omega)).trans Z1.out))
      refine gw (motive := fun x => Code.wp _ _ _ _ x) (fun V => Hid (RO wr.heap.size gb gcap ((trp m.g ss).set i ((m.g[i]'HI.out).at_, ns, (m.g[i]'HI.out).code)) V (.slice (some ⟨gb, 0, none⟩) m.g.length gcap)) ∧ Hid (V.heap[w.heap.size]? = some (.cells (ml m (.slice (some ⟨b, off, none⟩) m.g.length rc)).toArray 27)) ∧ Hid (V.heap[w.heap.size + 1]? = some (.cells zm 27)) ∧ Hid (Below w.heap.size w V)) ⟨HRO, hide ((box_other (by omega)).trans R5.out), hide ((box_other (by omega)).trans Z5.out), hide (K5.out.setCell (p := ⟨gb, i * 3 + 1, none⟩) (by show w.heap.size ≤ gb; omega) _)⟩ ?_
      clear HRO K5 R5 Z5 HO HB5 st1 sf1 cv CV STR y21 R1 Z1 HR1 HRr HB HW FT K1
      rintro V ⟨RO6, R6, Z6, K6⟩
      obtain ⟨_, _, _, _, _, y21, _⟩ := ml_c hlr R6.out
      have f21 : V.frozen? ⟨w.heap.size, 21, none⟩ = false := by simp [World.frozen?, R6.out]
      go_upto_region 15 with fail
      refine gw (motive := fun x => Code.wp _ _ _ _ x) (fun V => Hid (RO wr.heap.size gb gcap ((trp m.g ss).set i ((m.g[i]'HI.out).at_, ns, (m.g[i]'HI.out).code)) V (.slice (some ⟨gb, 0, none⟩) m.g.length gcap)) ∧ Hid (V.heap[w.heap.size]? = some (.cells (ml m (.slice (some ⟨gb, 0, none⟩) m.g.length gcap)).toArray 27)) ∧ Hid (V.heap[w.heap.size + 1]? = some (.cells zm 27)) ∧ Hid (Below w.heap.size w V)) ⟨hide (RO6.out.kept (box_other (by omega))), hide (box_set hlr R6.out _), hide ((box_other (by omega)).trans Z6.out), hide (K6.out.setCell (p := ⟨w.heap.size, 21, none⟩) (Nat.le_refl _) _)⟩ ?_
      clear RO6 R6 Z6 K6 y21 f21
      rintro V2 ⟨RO7, R7, Z7, K7⟩
      have RGF := hide (rng_row R7.out)
      have IL' := hide (i27l hlr (.slice (some ⟨gb, 0, none⟩) m.g.length gcap))
      have HZS' : Hid (zm.size = (ml m (.slice (some ⟨gb, 0, none⟩) m.g.length gcap)).toArray.size) := (show zm.size = 23 from rfl).trans (by rw [List.size_toArray, ml_len hlr])
      have IL2' : Hid ((Try.prog.info? 27).map (·.size) = some (ml m (.slice (some ⟨gb, 0, none⟩) m.g.length gcap)).toArray.size) := by show _ = _; rw [List.size_toArray]; exact IL'.out
      have HON' := hide (ml_one m (some ⟨gb, 0, none⟩) m.g.length gcap)
      go_wp2_with (first | (refine wpList_load_mid rfl 27 _ rfl w.heap.size 0 rfl _ _ RGF.out Try.underlying27 rfl IL'.out ?_) | (refine wpList_store_row rfl 27 _ _ rfl (w.heap.size + 1) _ rfl rfl 27 zm Z7.out IL2'.out HZS'.out HON'.out ?_) | fail)
      refine bodyPost_ret (results_ct rfl _ _ (w.heap.size + 1) _ rfl (setRow_heap _ _ _ _ _ (0, 0) Z7.out) IL'.out) rfl ?_
      have hx0 := HX0.out
      subst hx0
      have hll2 : (prt (m.g[i]'HI.out).by_ p 4 x).length = (m.g[i]'HI.out).by_.length := prt_len _ _ _ _ (by rw [← HSL.out, hll]; exact hps)
      obtain ⟨q1, q2, q3⟩ := RO7.out.rs HI.out HS.out OK.out.2.2.2 (l := prt (m.g[i]'HI.out).by_ p 4 x) (by rw [NS.out, HSL.out]) hll2
      refine pu_yes E.out rfl ⟨some ⟨gb, 0, none⟩, gcap, _, ?_, q1.row Z7.out _, q2, ⟨OK.out.1, OK.out.2.1, OK.out.2.2.1, q3⟩, by rw [List.length_set]; exact HG.out⟩ (below_setRow K7.out (by omega) _)
      show Value.agg (ml m (.slice (some ⟨gb, 0, none⟩) m.g.length gcap)).toArray = Value.agg (ml m (.slice (some ⟨gb, 0, none⟩) (m.g.set i _).length gcap)).toArray
      rw [List.length_set]
set_option maxHeartbeats 6400000 in
set_option maxRecDepth 100000 in
theorem rput_yes8 {m : Mc} {v : Value} {w : World} (h : MV m v w) (a x : Int) (ia : I64 a) (ix : I64 x) (i : Nat) (hf : fnd m.g false a 8 = some i) : Calls Try.prog 13 #[v, .int .i64 a, .int .i64 8, .int .i64 x] w (PuEnds m a 8 x w) := by
  have HMV := hide h
  obtain ⟨ra, rc, ss, rfl, hR, hs, hok, hg⟩ := h
  rw [mc_is]
  have IL := hide (i27l hok.1 (.slice ra m.g.length rc))
  have HZS : Hid (zm.size = (ml m (.slice ra m.g.length rc)).toArray.size) := (show zm.size = 23 from rfl).trans (by rw [List.size_toArray, ml_len hok.1])
  have IL2 : Hid ((Try.prog.info? 27).map (·.size) = some (ml m (.slice ra m.g.length rc)).toArray.size) := by show _ = _; rw [List.size_toArray]; exact IL.out
  have HON := hide (ml_one m ra m.g.length rc)
  have M := hide (m2_made m (.slice ra m.g.length rc) w)
  obtain ⟨hi, hcd, hwn⟩ := fnd_some hf
  have W3 := wn_iff.1 hwn
  have DT : dta m.g a 8 = (i : Int) := by simp [dta, hf]
  obtain ⟨p, hp⟩ : ∃ p : Nat, a - m.g[i].at_ = (p : Int) := ⟨(a - m.g[i].at_).toNat, by omega⟩
  have E := hide (show ptM m.g a 8 x = some (m.g.set i ⟨m.g[i].at_, prt m.g[i].by_ p 8 x, m.g[i].code⟩) from by
    have : fnN m.g a 8 = some i := by unfold fnN; rw [if_pos (by omega)]; exact hf
    simp only [ptM, this, List.getElem?_eq_getElem hi, ptR, hp, Int.toNat_natCast, prt]
    rfl)
  rcases hR with hR | ⟨b, off, rfl, hR⟩
  · rw [hR] at hi; simp at hi
  have hsi := hs i hi
  have rok := hok.2.2.2 _ (List.getElem_mem hi)
  have I0 : I64 m.g[i].at_ := rok.1
  obtain ⟨s, hs0⟩ : ∃ s, s = ss i := ⟨_, rfl⟩
  have hsz : s.size = m.g[i].by_.length := by rw [hs0, ← hsi]; simp
  have hll : s.data.toList.length = s.size := by simp
  have HSL := hide (show s.data.toList = m.g[i].by_ from by rw [hs0]; exact hsi)
  have hps : p + 8 ≤ s.size := by omega
  have hs47 : s.size ≤ 140737488351232 := by rw [hsz]; exact rok.2
  have HP := fun k (h : p + k ≤ s.data.toList.length) => prt_len s.data.toList p k x h
  have hx := ix
  have hlr : m.r.length = 16 := hok.1
  have HR := hide hR
  have HS := hide hs
  have OK := hide hok
  have HG := hide hg
  have HS0 := hide hs0
  unfold I64 Xc.I64 at I0 ia hx
  obtain ⟨hva, hvb⟩ := hx
  have HI := hide hi
  clear hR hs hok hg hf hcd hwn W3 hsi rok hs0 hsz
  unfold zm at M
  go_enter Try.func13, Try.ntmps13
  go_upto_region 1 with fail
  refine gw (motive := fun x => Code.wp _ _ _ _ x) (fun W => Hid (M2 m (.slice (some ⟨b, off, none⟩) m.g.length rc) w.heap.size w W)) M.out ?_
  clear M
  rintro W MW
  have DD := hide (data_mv (HMV.out.bel MW.out.b) a 8 ia (by omega))
  rw [mc_is, DT] at DD
  have RG0 := hide (rng_row MW.out.r)
  go_wp2_with (first | (refine wpList_load_mid rfl 27 _ rfl w.heap.size 0 rfl _ _ RG0.out Try.underlying27 rfl IL.out ?_) | fail)
  refine DD.out.mono ?_
  rintro e w1 ⟨rfl, b1⟩
  have K1 := hide (bel_tr MW.out.b b1)
  have R1 := hide ((b1.block _ (by have := MW.out.s; omega)).trans MW.out.r)
  have Z1 := hide ((b1.block _ MW.out.s).trans MW.out.z)
  have hq1 : w.heap.size + 1 < w1.heap.size := Nat.lt_of_lt_of_le MW.out.s b1.size
  have HR1 := hide (HR.out.bel K1.out)
  obtain ⟨_, _, _, _, _, y21, _⟩ := ml_c hlr R1.out
  obtain ⟨c0, c1, _, _, _⟩ := HR1.out i hi
  have hb1 : b < w1.heap.size := HR1.out.lt (by omega)
  rw [← HS0.out] at c1
  clear DD b1 RG0 HR
  generalize hx0 : m.g[i].at_ = x0 at *
  have HX0 := hide hx0
  clear hx0
  have FT := hide (fun (w2 : World) (k : Below w1.heap.size w1 w2) => (show w2.cell? ⟨w.heap.size, 21, none⟩ = some (.slice (some ⟨b, off, none⟩) m.g.length rc) ∧ w2.cell? ⟨b, off + i * 3, none⟩ = some (.int .i64 x0) from ⟨(k.cell (p := ⟨w.heap.size, 21, none⟩) (by show w.heap.size < _; omega)).trans y21, (k.cell (p := ⟨b, off + i * 3, none⟩) hb1).trans c0⟩))
  go_wp2_with (first | (refine wpList_bytes rfl (.tmp 34) rfl s rfl ?_; intro cap w2 hcap hB hW2; obtain ⟨y21b, c0b⟩ := FT.out w2 hW2.out) | fail)
  have hcp := hcap.out
  go_loopw [13] (fun iv wr => ∃ k : Nat, k ≤ 8 ∧ iv = .int .i64 (k : Int) ∧ Hid (BR wr w1.heap.size (prt s.data.toList p k x)) ∧ Hid (Below w1.heap.size w1 wr)) (fun iv _ => 8 - (intOf iv).toNat)
  case atStart => exact ⟨0, Nat.zero_le _, rfl, by rw [prt_zero]; exact hB, hW2⟩
  case round =>
    obtain ⟨k, hk, rfl, HB, HW⟩ := hrel
    clear hB hW2
    have hk' : k = 0 ∨ k = 1 ∨ k = 2 ∨ k = 3 ∨ k = 4 ∨ k = 5 ∨ k = 6 ∨ k = 7 ∨ k = 8 := by omega
    rcases hk' with rfl | rfl | rfl | rfl | rfl | rfl | rfl | rfl | rfl
    · have c := (HB.out.2 (p + 0) (by rw [HP 0 (by omega)]; omega)).1
      have f := (HB.out.2 (p + 0) (by rw [HP 0 (by omega)]; omega)).2
      have NB := hide (HB.out.setB (k := p + 0) (by rw [HP 0 (by omega)]; omega) (by8 (x / 256 ^ 0)))
      rw [prt_set _ p 0 x (by omega), Xc.by8_val, show (256 : Int) ^ 0 = 1 from by decide, Int.ediv_one] at NB
      have NW := hide (HW.out.setCell (p := ⟨w1.heap.size, p + 0, none⟩) (Nat.le_refl _) (.int .u8 (x % 256)))
      simp only [Nat.add_zero] at c f NB NW
      go_wp2
      rw [show IntKind.u64.wrap x % 256 = x % 256 by rw [IntKind.wrap_u64]; omega]
      exact ⟨⟨1, by decide, rfl, NB, NW⟩, by simp [intOf]⟩
    · have c := (HB.out.2 (p + 1) (by rw [HP 1 (by omega)]; omega)).1
      have f := (HB.out.2 (p + 1) (by rw [HP 1 (by omega)]; omega)).2
      have NB := hide (HB.out.setB (k := p + 1) (by rw [HP 1 (by omega)]; omega) (by8 (x / 256 ^ 1)))
      rw [prt_set _ p 1 x (by omega), Xc.by8_val, show (256 : Int) ^ 1 = 256 from by decide] at NB
      have NW := hide (HW.out.setCell (p := ⟨w1.heap.size, p + 1, none⟩) (Nat.le_refl _) (.int .u8 (x / 256 % 256)))
      go_wp2
      rw [show IntKind.u64.wrap x / 256 % 256 = x / 256 % 256 by rw [IntKind.wrap_u64]; omega]
      exact ⟨⟨2, by decide, rfl, NB, NW⟩, by simp [intOf]⟩
    · have c := (HB.out.2 (p + 2) (by rw [HP 2 (by omega)]; omega)).1
      have f := (HB.out.2 (p + 2) (by rw [HP 2 (by omega)]; omega)).2
      have NB := hide (HB.out.setB (k := p + 2) (by rw [HP 2 (by omega)]; omega) (by8 (x / 256 ^ 2)))
      rw [prt_set _ p 2 x (by omega), Xc.by8_val, show (256 : Int) ^ 2 = 65536 from by decide] at NB
      have NW := hide (HW.out.setCell (p := ⟨w1.heap.size, p + 2, none⟩) (Nat.le_refl _) (.int .u8 (x / 65536 % 256)))
      go_wp2
      rw [show IntKind.u64.wrap x / 65536 % 256 = x / 65536 % 256 by rw [IntKind.wrap_u64]; omega]
      exact ⟨⟨3, by decide, rfl, NB, NW⟩, by simp [intOf]⟩
    · have c := (HB.out.2 (p + 3) (by rw [HP 3 (by omega)]; omega)).1
      have f := (HB.out.2 (p + 3) (by rw [HP 3 (by omega)]; omega)).2
      have NB := hide (HB.out.setB (k := p + 3) (by rw [HP 3 (by omega)]; omega) (by8 (x / 256 ^ 3)))
      rw [prt_set _ p 3 x (by omega), Xc.by8_val, show (256 : Int) ^ 3 = 16777216 from by decide] at NB
      have NW := hide (HW.out.setCell (p := ⟨w1.heap.size, p + 3, none⟩) (Nat.le_refl _) (.int .u8 (x / 16777216 % 256)))
      go_wp2
      rw [show IntKind.u64.wrap x / 16777216 % 256 = x / 16777216 % 256 by rw [IntKind.wrap_u64]; omega]
      exact ⟨⟨4, by decide, rfl, NB, NW⟩, by simp [intOf]⟩
    · have c := (HB.out.2 (p + 4) (by rw [HP 4 (by omega)]; omega)).1
      have f := (HB.out.2 (p + 4) (by rw [HP 4 (by omega)]; omega)).2
      have NB := hide (HB.out.setB (k := p + 4) (by rw [HP 4 (by omega)]; omega) (by8 (x / 256 ^ 4)))
      rw [prt_set _ p 4 x (by omega), Xc.by8_val, show (256 : Int) ^ 4 = 4294967296 from by decide] at NB
      have NW := hide (HW.out.setCell (p := ⟨w1.heap.size, p + 4, none⟩) (Nat.le_refl _) (.int .u8 (x / 4294967296 % 256)))
      go_wp2
      rw [show IntKind.u64.wrap x / 4294967296 % 256 = x / 4294967296 % 256 by rw [IntKind.wrap_u64]; omega]
      exact ⟨⟨5, by decide, rfl, NB, NW⟩, by simp [intOf]⟩
    · have c := (HB.out.2 (p + 5) (by rw [HP 5 (by omega)]; omega)).1
      have f := (HB.out.2 (p + 5) (by rw [HP 5 (by omega)]; omega)).2
      have NB := hide (HB.out.setB (k := p + 5) (by rw [HP 5 (by omega)]; omega) (by8 (x / 256 ^ 5)))
      rw [prt_set _ p 5 x (by omega), Xc.by8_val, show (256 : Int) ^ 5 = 1099511627776 from by decide] at NB
      have NW := hide (HW.out.setCell (p := ⟨w1.heap.size, p + 5, none⟩) (Nat.le_refl _) (.int .u8 (x / 1099511627776 % 256)))
      go_wp2
      rw [show IntKind.u64.wrap x / 1099511627776 % 256 = x / 1099511627776 % 256 by rw [IntKind.wrap_u64]; omega]
      exact ⟨⟨6, by decide, rfl, NB, NW⟩, by simp [intOf]⟩
    · have c := (HB.out.2 (p + 6) (by rw [HP 6 (by omega)]; omega)).1
      have f := (HB.out.2 (p + 6) (by rw [HP 6 (by omega)]; omega)).2
      have NB := hide (HB.out.setB (k := p + 6) (by rw [HP 6 (by omega)]; omega) (by8 (x / 256 ^ 6)))
      rw [prt_set _ p 6 x (by omega), Xc.by8_val, show (256 : Int) ^ 6 = 281474976710656 from by decide] at NB
      have NW := hide (HW.out.setCell (p := ⟨w1.heap.size, p + 6, none⟩) (Nat.le_refl _) (.int .u8 (x / 281474976710656 % 256)))
      go_wp2
      rw [show IntKind.u64.wrap x / 281474976710656 % 256 = x / 281474976710656 % 256 by rw [IntKind.wrap_u64]; omega]
      exact ⟨⟨7, by decide, rfl, NB, NW⟩, by simp [intOf]⟩
    · have c := (HB.out.2 (p + 7) (by rw [HP 7 (by omega)]; omega)).1
      have f := (HB.out.2 (p + 7) (by rw [HP 7 (by omega)]; omega)).2
      have NB := hide (HB.out.setB (k := p + 7) (by rw [HP 7 (by omega)]; omega) (by8 (x / 256 ^ 7)))
      rw [prt_set _ p 7 x (by omega), Xc.by8_val, show (256 : Int) ^ 7 = 72057594037927936 from by decide] at NB
      have NW := hide (HW.out.setCell (p := ⟨w1.heap.size, p + 7, none⟩) (Nat.le_refl _) (.int .u8 (x / 72057594037927936 % 256)))
      go_wp2
      rw [show IntKind.u64.wrap x / 72057594037927936 % 256 = x / 72057594037927936 % 256 by rw [IntKind.wrap_u64]; omega]
      exact ⟨⟨8, by decide, rfl, NB, NW⟩, by simp [intOf]⟩
    · clear y21b c0b y21 c0 c1
      obtain ⟨y21, _⟩ := FT.out wr HW.out
      have HRr := hide (HR1.out.bel HW.out)
      have hBw : w1.heap.size < wr.heap.size := HB.out.1
      obtain ⟨ns, hns⟩ : ∃ ns : ByteArray, ns = ⟨(prt s.data.toList p 8 x).toArray⟩ := ⟨_, rfl⟩
      have CV := hide (fun (w5 : World) (k5 : Below wr.heap.size wr w5) => (show (convert 50 9 (.slice (some ⟨w1.heap.size, 0, none⟩) s.size cap)).run Try.prog w5 = .ok (.string ns) w5 from by
        have := run_str_of (P := Try.prog) (HB.out.kept k5) 50 9 5 s.size cap (by rw [HP 8 (by omega), hll]; exact Nat.le_refl _) (by kernel_rfl) (by kernel_rfl) (by kernel_rfl)
        rw [List.take_of_length_le (by rw [HP 8 (by omega), hll]; exact Nat.le_refl _)] at this
        rw [hns]; exact this))
      have STR := hide (fun (gb gcap : Nat) (w5 : World) (v : Value) (hO : RO wr.heap.size gb gcap (trp m.g ss) w5 v) => hO.c i (by rw [trp_len]; exact HI.out))
      have NS := hide (show ns.data.toList = prt s.data.toList p 8 x from by rw [hns])
      clear hns
      go_upto_region 14 with (first | (refine wpList_regions rfl _ _ rfl b off m.g ss rc rfl rfl HRr.out HG.out (by have := HI.out; omega) ?_; intro gb gcap w5 hO hB5; have cv := CV.out w5 hB5; have HO := hide hO; have HB5 := hide hB5; obtain ⟨_, st1, _, sf⟩ := STR.out gb gcap w5 _ hO; have sf1 := sf (i * 3 + 1); have hgb : wr.heap.size ≤ gb := hO.new; clear hO hB5 sf) | fail)
      have HRO : Hid (RO wr.heap.size gb gcap ((trp m.g ss).set i ((m.g[i]'HI.out).at_, ns, (m.g[i]'HI.out).code)) (w5.setCell ⟨gb, i * 3 + 1, none⟩ (.string ns)) (.slice (some ⟨gb, 0, none⟩) m.g.length gcap)) := by
        have := HO.out.setStr i (by rw [trp_len]; exact HI.out) ns
        rw [trp_get m.g ss i _ HI.out] at this
        exact this
      have K5 := hide (K1.out.trans (((HW.out.trans (HB5.out.mono (Nat.le_of_lt hBw))).mono (by omega))))
      have R5 := hide ((HB5.out.block w.heap.size (by omega)).trans ((HW.out.block w.heap.size (by omega)).trans R1.out))
      have Z5 := hide ((HB5.out.block (w.heap.size + 1) (by omega)).trans ((HW.out.block (w.heap.size + 1) (by omega)).trans Z1.out))
      refine gw (motive := fun x => Code.wp _ _ _ _ x) (fun V => Hid (RO wr.heap.size gb gcap ((trp m.g ss).set i ((m.g[i]'HI.out).at_, ns, (m.g[i]'HI.out).code)) V (.slice (some ⟨gb, 0, none⟩) m.g.length gcap)) ∧ Hid (V.heap[w.heap.size]? = some (.cells (ml m (.slice (some ⟨b, off, none⟩) m.g.length rc)).toArray 27)) ∧ Hid (V.heap[w.heap.size + 1]? = some (.cells zm 27)) ∧ Hid (Below w.heap.size w V)) ⟨HRO, hide ((box_other (by omega)).trans R5.out), hide ((box_other (by omega)).trans Z5.out), hide (K5.out.setCell (p := ⟨gb, i * 3 + 1, none⟩) (by show w.heap.size ≤ gb; omega) _)⟩ ?_
      clear HRO K5 R5 Z5 HO HB5 st1 sf1 cv CV STR y21 R1 Z1 HR1 HRr HB HW FT K1
      rintro V ⟨RO6, R6, Z6, K6⟩
      obtain ⟨_, _, _, _, _, y21, _⟩ := ml_c hlr R6.out
      have f21 : V.frozen? ⟨w.heap.size, 21, none⟩ = false := by simp [World.frozen?, R6.out]
      go_upto_region 15 with fail
      refine gw (motive := fun x => Code.wp _ _ _ _ x) (fun V => Hid (RO wr.heap.size gb gcap ((trp m.g ss).set i ((m.g[i]'HI.out).at_, ns, (m.g[i]'HI.out).code)) V (.slice (some ⟨gb, 0, none⟩) m.g.length gcap)) ∧ Hid (V.heap[w.heap.size]? = some (.cells (ml m (.slice (some ⟨gb, 0, none⟩) m.g.length gcap)).toArray 27)) ∧ Hid (V.heap[w.heap.size + 1]? = some (.cells zm 27)) ∧ Hid (Below w.heap.size w V)) ⟨hide (RO6.out.kept (box_other (by omega))), hide (box_set hlr R6.out _), hide ((box_other (by omega)).trans Z6.out), hide (K6.out.setCell (p := ⟨w.heap.size, 21, none⟩) (Nat.le_refl _) _)⟩ ?_
      clear RO6 R6 Z6 K6 y21 f21
      rintro V2 ⟨RO7, R7, Z7, K7⟩
      have RGF := hide (rng_row R7.out)
      have IL' := hide (i27l hlr (.slice (some ⟨gb, 0, none⟩) m.g.length gcap))
      have HZS' : Hid (zm.size = (ml m (.slice (some ⟨gb, 0, none⟩) m.g.length gcap)).toArray.size) := (show zm.size = 23 from rfl).trans (by rw [List.size_toArray, ml_len hlr])
      have IL2' : Hid ((Try.prog.info? 27).map (·.size) = some (ml m (.slice (some ⟨gb, 0, none⟩) m.g.length gcap)).toArray.size) := by show _ = _; rw [List.size_toArray]; exact IL'.out
      have HON' := hide (ml_one m (some ⟨gb, 0, none⟩) m.g.length gcap)
      go_wp2_with (first | (refine wpList_load_mid rfl 27 _ rfl w.heap.size 0 rfl _ _ RGF.out Try.underlying27 rfl IL'.out ?_) | (refine wpList_store_row rfl 27 _ _ rfl (w.heap.size + 1) _ rfl rfl 27 zm Z7.out IL2'.out HZS'.out HON'.out ?_) | fail)
      refine bodyPost_ret (results_ct rfl _ _ (w.heap.size + 1) _ rfl (setRow_heap _ _ _ _ _ (0, 0) Z7.out) IL'.out) rfl ?_
      have hx0 := HX0.out
      subst hx0
      have hll2 : (prt (m.g[i]'HI.out).by_ p 8 x).length = (m.g[i]'HI.out).by_.length := prt_len _ _ _ _ (by rw [← HSL.out, hll]; exact hps)
      obtain ⟨q1, q2, q3⟩ := RO7.out.rs HI.out HS.out OK.out.2.2.2 (l := prt (m.g[i]'HI.out).by_ p 8 x) (by rw [NS.out, HSL.out]) hll2
      refine pu_yes E.out rfl ⟨some ⟨gb, 0, none⟩, gcap, _, ?_, q1.row Z7.out _, q2, ⟨OK.out.1, OK.out.2.1, OK.out.2.2.1, q3⟩, by rw [List.length_set]; exact HG.out⟩ (below_setRow K7.out (by omega) _)
      show Value.agg (ml m (.slice (some ⟨gb, 0, none⟩) m.g.length gcap)).toArray = Value.agg (ml m (.slice (some ⟨gb, 0, none⟩) (m.g.set i _).length gcap)).toArray
      rw [List.length_set]
theorem rput_any {m : Mc} {v : Value} {w : World} (h : MV m v w) (a n x : Int) (ia : I64 a) (ix : I64 x) : Calls Try.prog 13 #[v, .int .i64 a, .int .i64 n, .int .i64 x] w (PuEnds m a n x w) := by
  by_cases h4 : n = 4
  · subst h4
    cases hf : fnd m.g false a 4 with
    | none => exact rput_no4 h a x ia ix hf
    | some i => exact rput_yes4 h a x ia ix i hf
  by_cases h8 : n = 8
  · subst h8
    cases hf : fnd m.g false a 8 with
    | none => exact rput_no8 h a x ia ix hf
    | some i => exact rput_yes8 h a x ia ix i hf
  exact rput_bad h a n x ia ix h4 h8
end Go.Proofs.Ytielpebokbolbaa

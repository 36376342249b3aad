/-
  The walk of the statement AsmTwo.
-/
import Derived.Test.YtookbgnidinkoaaX
import Derived.Test.YtookbgnidinkoaaZb
import Derived.Laws.AppendOwnNone
namespace Go.Proofs.Ytookbgnidinkoaa
open Go.RowKit
open Xc
set_option linter.unusedSimpArgs false
set_option linter.unusedVariables false
theorem Xc.XS.take {W : World} {a : Option Addr} {l : List Xi} (h : XS W a l) (k : Nat) : XS W a (l.take k) := by
  rcases h with rfl | ⟨b, off, e, hX⟩
  · exact Or.inl (by simp)
  · refine Or.inr ⟨b, off, e, fun j hj => ?_⟩
    have hj' : j < l.length := by simp at hj; omega
    have := hX j hj'
    rw [List.getElem_take]
    exact this
theorem Xc.XS.ok {W : World} {a : Option Addr} {l : List Xi} (h : XS W a l) : ∀ j (hj : j < l.length), l[j].ok := fun j hj => by
  rcases h with rfl | ⟨b, off, e, hX⟩
  · simp at hj
  · exact (hX j hj).2.1
theorem IS.ok {W : World} {a : Option Addr} {l : List It} (h : IS W a l) : ∀ j (hj : j < l.length), l[j].ok := fun j hj => by
  rcases h with rfl | ⟨b, off, e, hX⟩
  · simp at hj
  · exact hX.ok hj
theorem bel_dN {B : Nat} {a w : World} (h : Below B a w) (n : Nat) : Below B a (w.drewN n) := ⟨h.os, h.tape, h.output, h.size, h.block⟩
theorem pl_snoc {l : List Xi} {k : Nat} (h : k < l.length) : (l.take (k + 1)).map pl = (l.take k).map pl ++ [pl l[k]] := by
  rw [List.take_succ_eq_append_getElem h, List.map_append, List.map_cons, List.map_nil]
theorem isl_len (L : List It) : (isl L).length = 9 * L.length := by
  induction L with
  | nil => rfl
  | cons x L ih =>
    have e : isl (x :: L) = ivl x ++ isl L := rfl
    have e2 : (ivl x).length = 9 := rfl
    rw [e, List.length_append, ih, e2, List.length_cons]; omega
theorem IS.news {W : World} {ad : Addr} {l : List It} (h : IS W (some ad) l) : ∀ j u, (isl l)[j]? = some u → W.cell? (ad.add j) = some u := by
  intro j u hu
  have hj : j < (isl l).length := (List.getElem?_eq_some_iff.1 hu).1
  rw [isl_len] at hj
  rcases h with rfl | ⟨b, off, e, hX⟩
  · simp at hj
  · injection e with e
    subst e
    have hq : j / 9 < l.length := by omega
    have hr : j % 9 < 9 := Nat.mod_lt _ (by omega)
    have ej : j = j / 9 * 9 + j % 9 := by omega
    rw [ej, isl_get l (j / 9) hq (j % 9) hr] at hu
    obtain ⟨hbb, ho, c0, c1, c2, c3, c4, c5, c6, c7, c8⟩ := hX (j / 9) hq
    rw [add_lit7]
    have eo : off + j = off + j / 9 * 9 + j % 9 := by omega
    rw [eo]
    generalize j % 9 = r at *
    generalize j / 9 = q at *
    clear ej eo hj
    match r, hr with
    | 0, _ => rw [Nat.add_zero, c0]; exact hu
    | 1, _ => rw [c1]; exact hu
    | 2, _ => rw [c2]; exact hu
    | 3, _ => rw [c3]; exact hu
    | 4, _ => rw [c4]; exact hu
    | 5, _ => rw [c5]; exact hu
    | 6, _ => rw [c6]; exact hu
    | 7, _ => rw [c7]; exact hu
    | 8, _ => rw [c8]; exact hu
theorem isl_cell (L : List It) : ∀ u, u ∈ isl L → u.oneCell' = true := by
  intro u hu
  simp only [isl, List.mem_flatMap] at hu
  obtain ⟨t, _, h⟩ := hu
  simp [ivl] at h
  rcases h with h | h | h | h | h | h | h | h | h <;> subst h <;> rfl
theorem Ass.asR {l : List It} (h : Ass l) : asR l = some (oL l l.length) := by unfold Ytookbgnidinkoaa.asR; rw [if_pos ⟨h.pk, h.uq, h.lost⟩]
theorem str_app' (a b : List UInt8) : str (a ++ b) = str a ++ str b := by
  apply ByteArray.ext
  simp [str, ByteArray.data_append]
theorem starts_ri (o : List Xi) (g : Gd o) (w : World) (hl : (encs o).length ≤ 1048576) : Calls Try.prog 14 #[.string (str (encs o))] w fun e w' => ∃ a c, e = .returned (.tuple #[.slice a (offs o).length c, .int .i64 0]) ∧ RI w' a (offs o) ∧ Below w.heap.size w w' := by
  refine (starts_gd o g w hl).mono ?_
  rintro e w' ⟨v, rfl, hR, b⟩
  obtain ⟨a, c, rfl, hI⟩ := hR.ri
  exact ⟨a, c, rfl, hI, b⟩
theorem pl_oks {l : List It} {m : List Xi} (h1 : ∀ j (hj : j < l.length), l[j].ok) (h2 : ∀ j (hj : j < m.length), m[j].ok) : ∀ j (hj : j < (l ++ m.map pl).length), (l ++ m.map pl)[j].ok := by
  intro j hj
  by_cases h : j < l.length
  · rw [List.getElem_append_left h]; exact h1 j h
  · rw [List.getElem_append_right (by omega), List.getElem_map]
    refine ⟨h2 _ (by simp at hj; omega), ?_, ?_⟩ <;> exact zero_I64
/-- What lies there ahead of an append. -/
def Ak (B : Nat) (v : Value) (L : List It) (w1 V : World) : Prop := IV B v L V ∧ Below B w1 V
structure TwF (l : List It) (m : List Xi) (ss tt : ByteArray) (fo fm : List Int) : Prop where
  lo : fo.length ≤ 60
  lm : fm.length ≤ 60
  so : ss.size ≤ 1000
  sm : tt.size ≤ 1000
  io : ∀ j (hj : j < fo.length), -2000 ≤ fo[j] ∧ fo[j] ≤ 2000
  im : ∀ j (hj : j < fm.length), -2000 ≤ fm[j] ∧ fm[j] ≤ 2000
  al : ∀ (a : Option Addr) (c : Nat) (U : World), IS U a (l ++ m.map pl) → Calls Try.prog 12 #[.slice a (l ++ m.map pl).length c] U fun e w' => e = .returned (.tuple #[.string (ss ++ tt), .int .i64 0]) ∧ Below U.heap.size U w'
  s1 : ∀ U, Calls Try.prog 14 #[.string ss] U fun e w' => ∃ a c, e = .returned (.tuple #[.slice a fo.length c, .int .i64 0]) ∧ RI w' a fo ∧ Below U.heap.size U w'
  s2 : ∀ U, Calls Try.prog 14 #[.string tt] U fun e w' => ∃ a c, e = .returned (.tuple #[.slice a fm.length c, .int .i64 0]) ∧ RI w' a fm ∧ Below U.heap.size U w'
  s3 : ∀ U, Calls Try.prog 14 #[.string (ss ++ tt)] U fun e w' => ∃ a c, e = .returned (.tuple #[.slice a (fo.length + fm.length) c, .int .i64 0]) ∧ RI w' a (fo ++ fm.map fun x => (ss.size : Int) + x) ∧ Below U.heap.size U w'
theorem offs_bd (o : List Xi) (h : o.length ≤ 60) : ∀ j (hj : j < (offs o).length), -2000 ≤ (offs o)[j] ∧ (offs o)[j] ≤ 2000 := by
  intro j hj
  rw [offs_get]
  have := encs_len (o.take j)
  have : (o.take j).length ≤ 60 := by simp; omega
  omega
theorem twF {l : List It} {m : List Xi} (A : Ass l) (hm : aOk m = true) (h1 : l.length ≤ 60) (h2 : m.length ≤ 60) (o1 : ∀ j (hj : j < l.length), l[j].ok) (o2 : ∀ j (hj : j < m.length), m[j].ok) : TwF l m (str (encs (oL l l.length))) (str (encs m)) (offs (oL l l.length)) (offs m) := by
  have g1 := A.gd (by omega) o1
  have g2 : Gd m := all_gd hm (fun x hx => by obtain ⟨i, hi, rfl⟩ := List.getElem_of_mem hx; exact (o2 i hi).2.2.2.2.2)
  have l1 := oL_len l l.length
  have e1 := encs_len (oL l l.length)
  have e2 := encs_len m
  refine ⟨by rw [offs_len]; omega, by rw [offs_len]; omega, by rw [str_size]; omega, by rw [str_size]; omega, offs_bd _ (by omega), offs_bd _ h2, fun a c U h => ?_, fun U => starts_ri _ g1 U (by omega), fun U => starts_ri _ g2 U (by omega), fun U => ?_⟩
  · have h' := assemble_any a c (l ++ m.map pl) U (by simp; omega) h
    obtain ⟨t1, t2⟩ := two_as A.asR A.ok hm
    rw [t1, t2, str_app'] at h'
    exact h'
  · have g3 : Gd (oL l l.length ++ m) := fun x hx => by
      rcases List.mem_append.1 hx with h | h
      · exact g1 x h
      · exact g2 x h
    have h' := starts_ri _ g3 U (by rw [encs_app, List.length_append]; omega)
    rw [encs_app, str_app', offs_app, List.length_append, List.length_map] at h'
    rw [str_size]
    exact h'
/-- append of items to nil, as a law for the walk. -/
theorem wpList_items {ops : Array Oper} {rest : List Oper} {o : Oper} {a : Act} {Q : Exit → Act → World → Prop} {w : World} (hgd : o.guard = none) (s x : Operand) (ho : o.op = .call { callee := .builtin .append, args := #[s, x], argTypes := #[22, 22] }) (ad : Option Addr) (l : List It) (c : Nat) (hs : a.eval s = .slice none 0 0) (hx : a.eval x = .slice ad l.length c) (hn : ad = none → l = [] ∧ c = 0) (hI : IS w ad l) (hl : l.length ≤ 60) (h : ∀ v' w', IV w.heap.size v' l w' → Below w.heap.size w w' → wpList Try.prog ops Q rest (a.put o.dst v') w') : wpList Try.prog ops Q (o :: rest) a w := by
  obtain ⟨i0, hi, hz0, hz1, hz2⟩ := info_parts info42
  cases ad with
  | none =>
    obtain ⟨rfl, rfl⟩ := hn rfl
    exact wpList_append_own_none hgd s x 22 ho w.heap.size 42 i0 9 Try.underlying22 hi _ 0 [] hs (World.ownsRow_nil _ _ _ _) hx (h _ _ (IV.nil _ _) (Below.refl _ _))
  | some ad =>
    refine wpList_append_own _ hgd s x 22 ho w.heap.size 42 i0 _ 9 72 Try.underlying22 hi hz0 hz1 hz2 rfl (by decide) _ 0 [] hs (World.ownsRow_nil _ _ _ _) ad l.length c (isl l) hx (by rw [isl_len]; omega) hI.news (isl_cell l) (by unfold maxLen; omega) (by omega) (Nat.le_refl _) fun v' w' h2 h3 _ => ?_
    have h4 : IV w.heap.size v' l w' := by
      show w'.ownsRow _ _ _ _ _ _
      rw [Nat.zero_add, List.nil_append] at h2
      exact h2
    exact h v' w' h4 (own_bel (World.ownsRow_nil w w.heap.size 42 9) (Nat.le_refl _) h3)
set_option maxHeartbeats 8000000 in
set_option maxRecDepth 100000 in
theorem two_walk (a : Option Addr) (l0 : List It) (cap : Nat) (ax : Option Addr) (m0 : List Xi) (capx : Nat) (w : World) (hX : IS w a l0) (hc : l0.length ≤ cap) (hn : a = none → cap = 0) (hY : XS w ax m0) (hcx : m0.length ≤ capx) : Calls Try.prog 7 #[.slice a l0.length cap, .slice ax m0.length capx] w fun e w' => e = .returned (.bool true) ∧ Below w.heap.size w w' := by
  have EX := hide examples_any
  have HX := hide (hX.take 60)
  have HY := hide (hY.take 60)
  have hlen : (min (l0.length : Int) 60).toNat = (l0.take 60).length := by simp; omega
  have HLEN := hide hlen
  clear hlen
  have hlen : (min (m0.length : Int) 60).toNat = (m0.take 60).length := by simp; omega
  have HLENX := hide hlen
  clear hlen
  have hl1 : (l0.take 60).length ≤ 60 := by simp; omega
  have hm1 : (m0.take 60).length ≤ 60 := by simp; omega
  have NIL : Hid (a = none → l0.take 60 = [] ∧ cap = 0) := fun h => by
    have := hn h
    refine ⟨?_, this⟩
    have : l0 = [] := List.length_eq_zero_iff.1 (by omega)
    rw [this]; rfl
  obtain ⟨i0, hi, hz0, hz1, hz2⟩ := info_parts info42
  clear hX hY hn
  go_enter Try.func7, Try.ntmps7
  go_wp2_with fail
  refine (EX.out _).mono ?_
  rintro e w1 ⟨rfl, b1⟩
  clear EX
  go_upto_region 3 with fail
  rw [HLEN.out]
  clear HLEN
  generalize l0.take 60 = l at *
  generalize (min _ (60 : Int)) = mm
  go_upto_region 4 with fail
  rw [HLENX.out]
  clear HLENX
  generalize m0.take 60 = m at *
  generalize (min _ (60 : Int)) = mm2
  have A1 := hide (fun U b => assemble_any a cap l U (by omega) (HX.out.below b))
  have A2 := hide (fun U b => all_xs ax m capx U (HY.out.below b) (by omega))
  rcases as_e l with hE | ⟨hE, hS⟩
  case inr =>
    rw [hE] at A1
    clear hE hS HX HY NIL
    generalize asS l = ss at *
    generalize aS m = tt at *
    generalize aE m = ee at *
    go_wp2_with fail
    refine (A1.out _ b1).mono ?_
    rintro e w2 ⟨rfl, b2⟩
    go_wp2_with fail
    refine (A2.out _ (bel_tr b1 b2)).mono ?_
    rintro e w3 ⟨rfl, b3⟩
    go_wp2_with fail
    go_ret
    exact ⟨rfl, bel_tr (bel_tr b1 b2) b3⟩
  have A := as_yes hE
  rw [hE, A.s] at A1
  cases hm : aOk m
  · have e4 : aE m = 4 := by simp [aE, hm]
    rw [e4] at A2
    clear hE e4 A HX HY NIL hm
    generalize encs (oL l l.length) = ss at *
    generalize aS m = tt at *
    go_wp2_with fail
    refine (A1.out _ b1).mono ?_
    rintro e w2 ⟨rfl, b2⟩
    go_wp2_with fail
    refine (A2.out _ (bel_tr b1 b2)).mono ?_
    rintro e w3 ⟨rfl, b3⟩
    go_wp2_with fail
    go_ret
    exact ⟨rfl, bel_tr (bel_tr b1 b2) b3⟩
  have e4 : aE m = 0 := by simp [aE, hm]
  have e5 : aS m = encs m := by simp [aS, hm]
  rw [e4, e5] at A2
  have OK1 := hide HX.out.ok
  have OK2 := hide HY.out.ok
  have TF := twF A hm hl1 hm1 OK1.out OK2.out
  clear hE e4 e5 A hm
  generalize str (encs (oL l l.length)) = ss at *
  generalize str (encs m) = tt at *
  generalize offs (oL l l.length) = fo at *
  generalize offs m = fm at *
  obtain ⟨lo, lm, so, sm, io, im, al, s1, s2, s3⟩ := TF
  have IO := hide io
  have IM := hide im
  have AL := hide al
  have S1 := hide s1
  have S2 := hide s2
  have S3 := hide s3
  clear io im al s1 s2 s3
  go_wp2_with fail
  refine (A1.out _ b1).mono ?_
  rintro e w2 ⟨rfl, b2⟩
  have B2 := bel_tr b1 b2
  clear b1 b2 A1
  go_wp2_with fail
  refine (A2.out _ B2).mono ?_
  rintro e w3 ⟨rfl, b3⟩
  have B3 := bel_tr B2 b3
  clear B2 b3 A2
  have HX3 := hide (HX.out.below B3)
  have HY3 := hide (HY.out.below B3)
  clear HX HY
  go_wp2_with (first | (at_builtin; refine wpList_items rfl _ _ rfl a l cap rfl rfl NIL.out HX3.out hl1 ?_; intro v4 w4 hI4 hB4) | fail)
  have HI4 := hide hI4
  clear hI4 HX3
  go_loopw [10, 11] (fun sv iv wr => ∃ k : Nat, k ≤ m.length ∧ iv = .int .i64 (k : Int) ∧ Hid (IV w3.heap.size sv (l ++ (m.take k).map pl) wr) ∧ Below w3.heap.size w3 wr) (fun _ iv _ => m.length - (intOf iv).toNat)
  case atStart => exact ⟨0, by omega, rfl, hide (by show IV _ _ _ _; simpa using HI4.out), hB4⟩
  case round =>
    obtain ⟨k, hk, rfl, hR, hb⟩ := hrel
    clear HI4 hB4
    by_cases hlt : k < m.length
    · rcases HY3.out with h | ⟨b, off, rfl, hY⟩
      · rw [h] at hlt; simp at hlt
      obtain ⟨hbb, ho, c0, c1, c2, c3, c4, c5, c6⟩ := hY k hlt
      have d0 := (hb.cell (p := ⟨b, off + k * 7, none⟩) hbb).trans c0
      have d1 := (hb.cell (p := ⟨b, off + k * 7 + 1, none⟩) hbb).trans c1
      have d2 := (hb.cell (p := ⟨b, off + k * 7 + 2, none⟩) hbb).trans c2
      have d3 := (hb.cell (p := ⟨b, off + k * 7 + 3, none⟩) hbb).trans c3
      have d4 := (hb.cell (p := ⟨b, off + k * 7 + 4, none⟩) hbb).trans c4
      have d5 := (hb.cell (p := ⟨b, off + k * 7 + 5, none⟩) hbb).trans c5
      have d6 := (hb.cell (p := ⟨b, off + k * 7 + 6, none⟩) hbb).trans c6
      clear c0 c1 c2 c3 c4 c5 c6 ho hY
      have MS := hide (pl_snoc hlt)
      rcases hit : m[k] with ⟨x1, x2, x3, x4, x5, x6, x7⟩
      rw [hit] at d0 d1 d2 d3 d4 d5 d6 MS
      simp only at d0 d1 d2 d3 d4 d5 d6
      have HO : Hid (l ++ (m.take (k + 1)).map pl = (l ++ (m.take k).map pl) ++ [⟨⟨x1, x2, x3, x4, x5, x6, x7⟩, 0, 0⟩]) := by show _ = _; rw [MS.out, List.append_assoc]; rfl
      have LN : Hid ((l ++ (m.take k).map pl).length = l.length + k) := by show _ = _; simp; omega
      clear MS hit
      have HBS : Hid (w3.heap.size ≤ (wr.alloc (.cells #[.int .i64 x1, .bool x2, .int .i64 x3, .int .i64 x4, .int .i64 x5, .int .i64 x6, .int .i64 x7, .int .i64 0, .int .i64 0] 42)).heap.size) := by have := hb.size; show _ ≤ _; simp; omega
      have OWN : Hid ((wr.alloc (.cells #[.int .i64 x1, .bool x2, .int .i64 x3, .int .i64 x4, .int .i64 x5, .int .i64 x6, .int .i64 x7, .int .i64 0, .int .i64 0] 42)).ownsRow w3.heap.size 42 9 u10 (l.length + k) (isl (l ++ (m.take k).map pl))) := by
        have := World.ownsRow.alloc hR.out (.cells #[.int .i64 x1, .bool x2, .int .i64 x3, .int .i64 x4, .int .i64 x5, .int .i64 x6, .int .i64 x7, .int .i64 0, .int .i64 0] 42)
        rw [LN.out] at this; exact this
      have NX := hide (new_i wr x1 x2 x3 x4 x5 x6 x7 0 0)
      have XC := hide (i_cell x1 x2 x3 x4 x5 x6 x7 0 0)
      generalize hL : l ++ (m.take k).map pl = L at *
      clear hL
      go_wp2_with (at_builtin; (refine wpList_append_own _ rfl (.tmp 57) (.tmp 63) 22 rfl w3.heap.size 42 i0 _ 9 72 Try.underlying22 hi hz0 hz1 hz2 rfl (by decide) _ (l.length + k) _ rfl OWN.out ⟨wr.heap.size, 0, none⟩ 1 1 [.int .i64 x1, .bool x2, .int .i64 x3, .int .i64 x4, .int .i64 x5, .int .i64 x6, .int .i64 x7, .int .i64 0, .int .i64 0] rfl rfl NX.out XC.out (by unfold maxLen; omega) (by omega) HBS.out ?_))
      intro v' w5 hown hgrow _
      have R3 : Hid (IV w3.heap.size v' (l ++ (m.take (k + 1)).map pl) w5) := by
        show w5.ownsRow _ _ _ _ _ _
        rw [HO.out, isl_snoc, List.length_append, LN.out]
        exact hown
      have B3' : Below w3.heap.size w3 w5 := (bel_al hb _).trans (own_bel OWN.out HBS.out hgrow)
      clear hown hgrow OWN HBS hR NX XC d0 d1 d2 d3 d4 d5 d6 hb
      go_wp2_with fail
      go_roundw
      case rel => exact ⟨k + 1, by omega, by go_num, R3, B3'⟩
      case measure => simp [intOf]; omega
    · have hkm : k = m.length := by omega
      subst hkm
      rw [List.take_length] at hR
      obtain ⟨a9, c9, hv9, hI⟩ := hR.out.is (pl_oks OK1.out OK2.out)
      subst hv9
      have AA := hide (AL.out a9 c9 wr hI)
      have B4 := bel_tr B3 hb
      have LNN := hide (show ((fo ++ fm.map fun x => (ss.size : Int) + x) : List Int).length = fo.length + fm.length by simp)
      clear AL hI hR hb B3 OK1 OK2 HY3
      generalize (l ++ m.map pl).length = ln at *
      go_wp2_with fail
      refine AA.out.mono ?_
      rintro e w5 ⟨rfl, b5⟩
      have B5 := bel_tr B4 b5
      clear B4 b5 AA
      go_wp2_with fail
      refine (S1.out _).mono ?_
      rintro e w6 ⟨a6, c6, rfl, r1, b6⟩
      have B6 := bel_tr B5 b6
      clear B5 b6 S1
      go_wp2_with fail
      refine (S2.out _).mono ?_
      rintro e w7 ⟨a7, c7, rfl, r2, b7⟩
      have B7 := bel_tr B6 b7
      have R1 := hide (r1.kept b7)
      clear B6 r1 S2
      go_wp2_with fail
      refine (S3.out _).mono ?_
      rintro e w8 ⟨a8, c8, rfl, r3, b8⟩
      have B8 := bel_tr B7 b8
      have R1' := hide (R1.out.kept b8)
      have R2' := hide (r2.kept b8)
      have R3' := hide r3
      clear B7 R1 r2 r3 S3 b8 b7
      go_wp2_with fail
      go_loopw [20] (fun iv wr => ∃ k : Nat, k ≤ fo.length + fm.length ∧ iv = .int .i64 (k : Int) ∧ Below w8.heap.size w8 wr) (fun iv _ => fo.length + fm.length - (intOf iv).toNat)
      case atStart => exact ⟨0, by omega, rfl, Below.refl _ _⟩
      case round =>
        obtain ⟨k, hk, rfl, hb⟩ := hrel
        by_cases hlt : k < fo.length + fm.length
        · rcases R3'.out with h | ⟨b3, off3, rfl, hb3, g3⟩
          · have := LNN.out
            rw [h] at this; simp at this; omega
          have d3 := (hb.cell (p := ⟨b3, off3 + k, none⟩) hb3).trans (g3 k (by rw [LNN.out]; omega))
          by_cases hj : k < fo.length
          · rcases R1'.out with h | ⟨b1, off1, rfl, hb1, g1⟩
            · rw [h] at hj; simp at hj
            have d1 := (hb.cell (p := ⟨b1, off1 + k, none⟩) hb1).trans (g1 k hj)
            rw [List.getElem_append_left hj] at d3
            have hd1 : decide (k < fo.length) = true := decide_eq_true hj
            have hd2 : decide (fo.length ≤ k) = false := decide_eq_false (by omega)
            have hi1 : decide ((k : Int) < (fo.length : Int)) = true := decide_eq_true (by omega)
            have hi2 : decide ((fo.length : Int) ≤ (k : Int)) = false := decide_eq_false (by omega)
            clear g3 g1
            generalize fo[k] = z at *
            go_wp2_with fail
            go_quiet (fail)
            go_wp2_with fail
            go_roundw
            case rel => exact ⟨k + 1, by omega, by go_num, bel_dN hb _⟩
            case measure => simp [intOf]; omega
          · rcases R2'.out with h | ⟨b2, off2, rfl, hb2, g2⟩
            · rw [h] at hlt; simp at hlt; omega
            have d2 := (hb.cell (p := ⟨b2, off2 + (k - fo.length), none⟩) hb2).trans (g2 (k - fo.length) (by omega))
            rw [List.getElem_append_right (by omega), List.getElem_map] at d3
            have hz := IM.out (k - fo.length) (by omega)
            have hd1 : decide (k < fo.length) = false := decide_eq_false hj
            have hd2 : decide (fo.length ≤ k) = true := decide_eq_true (by omega)
            have hi1 : decide ((k : Int) < (fo.length : Int)) = false := decide_eq_false (by omega)
            have hi2 : decide ((fo.length : Int) ≤ (k : Int)) = true := decide_eq_true (by omega)
            have hsub : (k : Int) - (fo.length : Int) = ((k - fo.length : Nat) : Int) := by omega
            clear g3 g2
            generalize fm[k - fo.length] = z at *
            obtain ⟨hz1', hz2'⟩ := hz
            go_wp2_with fail
            go_quiet (fail)
            go_wp2_with fail
            go_roundw
            case rel => exact ⟨k + 1, by omega, by go_num, bel_dN hb _⟩
            case measure => simp [intOf]; omega
        · have hkm : k = fo.length + fm.length := by omega
          subst hkm
          go_wp2_with fail
          go_ret
          exact ⟨rfl, bel_tr B8 hb⟩
end Go.Proofs.Ytookbgnidinkoaa

/-
  Merged: Rst Guz Sw.
-/
import Derived.Test.YtookbgnidinkoaaAA
import Derived.Test.YtookbgnidinkoaaVA
import Derived.Test.YtookbgnidinkoaaXA
import Derived.Test.YtookbgnidinkoaaXB
import Derived.Test.YtookbgnidinkoaaXC
import Derived.Test.YtookbgnidinkoaaXD
import Derived.Test.YtookbgnidinkoaaXE
import Derived.Test.YtookbgnidinkoaaXF
import Derived.Test.YtookbgnidinkoaaXG
import Derived.Test.YtookbgnidinkoaaXH
import Derived.Test.YtookbgnidinkoaaAB
/-
  The document's Starts: where instructions begin.
-/
namespace Go.Proofs.Ytookbgnidinkoaa
open Go.RowKit
open Xc
set_option linter.unusedSimpArgs false
set_option linter.unusedVariables false
def RsEnds (c : List UInt8) (w : World) (e : Ending) (w' : World) : Prop :=
  (∃ o v, Gd o ∧ encs o = c ∧ e = .returned (.tuple #[v, .bool true]) ∧ NR w.heap.size v (offs o) w' ∧ Below w.heap.size w w') ∨ ((¬ ∃ o, Gd o ∧ encs o = c) ∧ e = .returned (.tuple #[.slice none 0 0, .bool false]) ∧ Below w.heap.size w w')
set_option maxHeartbeats 4000000 in
theorem rstarts_any (GA : GuAll) (t : ByteArray) (w : World) (hl : t.size ≤ 1048576) : Calls Try.prog 15 #[.string t] w (RsEnds t.data.toList w) := by
  obtain ⟨i0, hi, hz0, hz1, hz2⟩ := info_parts info3
  have hz : t.data.toList.length = t.size := by simp
  have HZ := hide hz
  clear hz
  go_enter Try.func15, Try.ntmps15
  go_wp2
  go_loopw [4, 5] (fun sv iv wr => ∃ (k : Nat) (o : List Xi), k ≤ t.size ∧ iv = .int .i64 (k : Int) ∧ Hid (NR w.heap.size sv (offs o) wr) ∧ Below w.heap.size w wr ∧ Hid (Gd o ∧ encs o ++ t.data.toList.drop k = t.data.toList ∧ (encs o).length = k)) (fun _ iv _ => t.size - (intOf iv).toNat)
  case atStart => exact ⟨0, [], by omega, rfl, hide (World.ownsRow_nil _ _ _ _), Below.refl _ _, hide ⟨fun x hx => by simp at hx, by simp [encs_nil], rfl⟩⟩
  case round =>
    obtain ⟨k, o, hk, rfl, hR, hb, hG⟩ := hrel
    by_cases hlt : k < t.size
    · have DI := hide (fun U => rdec_any GA (t.extract k t.size) U)
      have DD := hide (drop_data t k)
      unfold RdcIs at DI
      rw [DD.out] at DI
      cases hd : dcX (t.data.toList.drop k) with
      | none =>
        have NO : Hid (¬ ∃ o, Gd o ∧ encs o = t.data.toList) := fun ⟨o', g', e'⟩ => by
          obtain ⟨g1, e1, _⟩ := hG.out
          obtain ⟨o2, e2, f2⟩ := uniq o o' _ g1 g' (e1.trans e'.symm)
          cases o2 with
          | nil =>
            have := congrArg List.length f2
            have := HZ.out
            simp [encs_nil] at *; omega
          | cons z o2 =>
            have gz := g' z (by rw [e2]; simp)
            rw [dc_is gz.1 gz.2 (by rw [← f2, encs_cons]; exact List.prefix_append _ _)] at hd
            cases hd
        have hE : (dcX (t.data.toList.drop k)).isSome = false := by rw [hd]; rfl
        rw [hE] at DI
        clear hd hE hG hR
        generalize dX (t.data.toList.drop k) = xx at *
        generalize dN (t.data.toList.drop k) = nn at *
        obtain ⟨o1, o2, o3, o4, o5, o6, o7⟩ := xx
        unfold xv at DI
        simp only at DI
        go_wp2_with fail
        refine (DI.out _).mono ?_
        rintro e w1 ⟨rfl, b1⟩
        go_wp2_with fail
        go_ret2
        exact Or.inr ⟨NO.out, rfl, bel_al (bel_tr hb b1) _⟩
      | some x =>
        obtain ⟨hX, hN, _⟩ := dX_some hd
        have hE : (dcX (t.data.toList.drop k)).isSome = true := by rw [hd]; rfl
        rw [hX, hN, hE] at DI
        obtain ⟨q1, q2, q3, q4⟩ := dc_some hd
        obtain ⟨g1, e1, e2⟩ := hG.out
        have hL : (enc x).length ≤ t.size - k := by
          have := q2.length_le
          have := HZ.out
          simp at *; omega
        have h1 := (enc_len x).1
        have G2 : Hid (Gd (o ++ [x]) ∧ encs (o ++ [x]) ++ t.data.toList.drop (k + (enc x).length) = t.data.toList ∧ (encs (o ++ [x])).length = k + (enc x).length) := by
          refine ⟨fun z hz => ?_, ?_, ?_⟩
          · rcases List.mem_append.1 hz with h | h
            · exact g1 z h
            · simp at h; subst h; exact ⟨q1, q3⟩
          · obtain ⟨r, hr⟩ := q2
            rw [encs_app, encs_cons, encs_nil, List.append_nil, List.append_assoc, ← List.drop_drop, ← hr, List.drop_left, hr, e1]
          · rw [encs_app, encs_cons, encs_nil, List.append_nil, List.length_append, e2]
        have PLS := hide (offs_snoc o x)
        have OL := hide (len_le o)
        have E2 := hide e2
        clear hX hN hE q1 q2 q3 q4 g1 e1 e2 hG hd
        generalize hm : (enc x).length = m at *
        clear hm
        have hkm : k + m ≤ t.size := by omega
        have hk0 : (0 : Int) ≤ (k : Int) ∧ (k : Int) ≤ 1048576 := by omega
        have hm0 : (0 : Int) ≤ (m : Int) ∧ (m : Int) ≤ 1048576 := by omega
        obtain ⟨hk1, hk2⟩ := hk0
        obtain ⟨hm1, hm2⟩ := hm0
        obtain ⟨o1, o2, o3, o4, o5, o6, o7⟩ := x
        unfold xv at DI
        simp only at DI
        go_wp2_with fail
        refine (DI.out _).mono ?_
        rintro e w1 ⟨rfl, b1⟩
        have hR1 := hR.out.kept b1
        have hB1 := bel_tr hb b1
        have HB1 := hide hB1
        have WA : Hid (∀ V, V = w1.alloc (.cells #[.int .i64 o1, .bool o2, .int .i64 o3, .int .i64 o4, .int .i64 o5, .int .i64 o6, .int .i64 o7] 40) → NR w.heap.size u4 (offs o) V ∧ Below w.heap.size w V) := fun V hV => by
          subst hV; exact ⟨hR1.kept (bel_one _ _), bel_al hB1 _⟩
        clear hR hb b1 hR1 hB1 DI DD
        go_upto_region 7 with fail
        refine gen_world (motive := fun x => Code.wp _ _ _ _ x) (fun V => NR w.heap.size u4 (offs o) V ∧ Below w.heap.size w V) (WA.out _ rfl) ?_
        clear WA HB1
        rintro V ⟨hR1, hB1⟩
        have HBS : Hid (w.heap.size ≤ (V.alloc (.cells #[.int .i64 (k : Int)] 3)).heap.size) := by have := hB1.size; show _ ≤ _; simp; omega
        have OWN : Hid ((V.alloc (.cells #[.int .i64 (k : Int)] 3)).ownsRow w.heap.size 3 1 u4 o.length ((offs o).map (Value.int .i64))) := by
          have := World.ownsRow.alloc hR1 (.cells #[.int .i64 (k : Int)] 3)
          rw [offs_len] at this; exact this
        have hol : o.length ≤ 1048576 := by have := OL.out; have := E2.out; omega
        go_wp2_with (at_builtin; (refine wpList_append_own _ rfl (.tmp 23) (.tmp 25) 24 rfl w.heap.size 3 i0 _ 1 8 Try.underlying24 hi hz0 hz1 hz2 rfl (by decide) _ o.length _ rfl OWN.out ⟨V.heap.size, 0, none⟩ 1 1 [.int .i64 (k : Int)] rfl rfl (one_at3 V (k : Int)) (one_cell3 (k : Int)) (by unfold maxLen; omega) (by omega) HBS.out ?_))
        intro v' w3 hown hgrow _
        have R3 : Hid (NR w.heap.size v' (offs (o ++ [⟨o1, o2, o3, o4, o5, o6, o7⟩])) w3) := by
          show w3.ownsRow _ _ _ _ _ _
          rw [PLS.out, E2.out, List.map_append, List.length_append, offs_len]
          exact hown
        have B3 : Below w.heap.size w w3 := (bel_al hB1 _).trans (own_bel OWN.out HBS.out hgrow)
        clear hown hgrow OWN HBS hR1 hB1 PLS
        go_wp2_with fail
        go_roundw
        case rel => exact ⟨k + m, o ++ [⟨o1, o2, o3, o4, o5, o6, o7⟩], by omega, by go_num, R3, B3, G2⟩
        case measure => simp [intOf]; omega
    · have hkm : k = t.size := by omega
      subst hkm
      obtain ⟨g1, e1, e2⟩ := hG.out
      have e3 : encs o = t.data.toList := by
        rw [← e1, ← HZ.out, List.drop_length, List.append_nil]
      have G1 := hide g1
      have E3 := hide e3
      clear g1 e1 e2 e3 hG
      obtain ⟨a9, c9, hv9⟩ := hR.out.form
      subst hv9
      go_wp2_with fail
      go_ret2
      exact Or.inl ⟨o, _, G1.out, E3.out, rfl, hR.out, hb⟩
end Go.Proofs.Ytookbgnidinkoaa
/-
  The document's guess answers what the plain function gu tells.
-/
namespace Go.Proofs.Ytookbgnidinkoaa.Xc
open Go.RowKit
theorem gu_all : GuAll := by
  intro t w
  obtain ⟨op, h⟩ : ∃ op, ga (ncl t.data.toList) 0 = op := ⟨_, rfl⟩
  by_cases cA : op = 137
  · exact gu_pA t w op h cA
  by_cases cB : op = 139
  · exact gu_pB t w op h cB
  by_cases cC : (184 ≤ op ∧ op < 192) ∨ (op < 64 ∧ op % 8 = 1)
  · exact gu_pC t w op h cC
  by_cases cD : op = 129 ∨ op = 133 ∨ op = 211 ∨ op = 247
  · exact gu_pD t w op h cD
  by_cases cE : op = 153 ∨ op = 99 ∨ op = 233
  · exact gu_pE t w op h cE
  by_cases cF : op = 232 ∨ op = 195
  · exact gu_pF t w op h cF
  by_cases cH : op = 15
  · exact gu_pH t w op h cH
  exact gu_pG t w op h (by omega)
end Go.Proofs.Ytookbgnidinkoaa.Xc
/-
  The walk of the statement AsmStarts.
-/
namespace Go.Proofs.Ytookbgnidinkoaa
open Go.RowKit
open Xc
set_option linter.unusedSimpArgs false
set_option linter.unusedVariables false
theorem num_same (a1 : Option Addr) (c1 : Nat) (xs : List Int) (a2 : Option Addr) (c2 : Nat) (w : World) (hl : xs.length ≤ 2000000) (h1 : RI w a1 xs) (h2 : RI w a2 xs) : Calls Try.prog 11 #[.slice a1 xs.length c1, .slice a2 xs.length c2] w fun e w' => e = .returned (.bool true) ∧ Below w.heap.size w w' := by
  have h := numbers_any a1 c1 xs a2 c2 xs w hl h1 h2
  unfold NuIs at h
  rw [decide_eq_true rfl] at h
  exact h
set_option maxHeartbeats 4000000 in
set_option maxRecDepth 100000 in
theorem starts_walk (t : ByteArray) (w : World) (hl : t.size ≤ 1048576) : Calls Try.prog 4 #[.string t] w fun e w' => e = .returned (.bool true) ∧ Below w.heap.size w w' := by
  have EX := hide examples_any
  have A1 := hide (fun U => starts_any t U hl)
  have A2 := hide (fun U => rstarts_any gu_all t U hl)
  have hz : t.data.toList.length = t.size := by simp
  have HZ := hide hz
  clear hz
  go_enter Try.func4, Try.ntmps4
  go_wp2_with fail
  refine (EX.out _).mono ?_
  rintro e w1 ⟨rfl, b1⟩
  clear EX
  go_wp2_with fail
  refine (A1.out _).mono ?_
  rintro e w2 (⟨o, v, g, ho, rfl, hR, b2⟩ | ⟨hno, rfl, b2⟩)
  · have B2 := bel_tr b1 b2
    have HO := hide ho
    obtain ⟨a4, c4, rfl, r1⟩ := hR.ri
    have hol : (offs o).length ≤ 1048576 := by
      rw [offs_len]
      have := len_le o
      have h2 := HZ.out
      rw [← ho] at h2
      omega
    clear hR b1 b2 ho A1
    go_wp2_with fail
    refine (A2.out _).mono ?_
    rintro e w3 (⟨o', v, g', ho', rfl, hR, b3⟩ | ⟨hno, rfl, b3⟩)
    · have e1 := gd_one g g' (HO.out.trans ho'.symm)
      subst e1
      have B3 := bel_tr B2 b3
      obtain ⟨a6, c6, rfl, r2⟩ := hR.ri
      have N := hide (num_same a4 c4 (offs o') a6 c6 w3 (by omega) (r1.kept b3) r2)
      clear hR r1 r2 b3 B2 A2 ho' HO
      generalize (offs o').length = pn at *
      go_wp2_with fail
      refine N.out.mono ?_
      rintro e w4 ⟨rfl, b4⟩
      go_wp2_with fail
      go_ret
      exact ⟨rfl, bel_tr B3 b4⟩
    · exact absurd ⟨o, g, HO.out⟩ hno
  · have B2 := bel_tr b1 b2
    have HN := hide hno
    clear b1 b2 hno A1
    go_wp2_with fail
    refine (A2.out _).mono ?_
    rintro e w3 (⟨o', v, g', ho', rfl, hR, b3⟩ | ⟨_, rfl, b3⟩)
    · exact absurd ⟨o', g', ho'⟩ HN.out
    · have B3 := bel_tr B2 b3
      clear b3 B2 A2 HN
      go_wp2_with fail
      refine (num_same none 0 [] none 0 _ (by simp) (Or.inl rfl) (Or.inl rfl)).mono ?_
      rintro e w4 ⟨rfl, b4⟩
      go_wp2_with fail
      go_ret
      exact ⟨rfl, bel_tr B3 b4⟩
end Go.Proofs.Ytookbgnidinkoaa

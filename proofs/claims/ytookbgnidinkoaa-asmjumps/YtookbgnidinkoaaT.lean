/-
  The program's Starts: where instructions begin.
-/
import Derived.Test.YtookbgnidinkoaaM
namespace Go.Proofs.Ytookbgnidinkoaa
open Go.RowKit
open Xc
set_option linter.unusedSimpArgs false
set_option linter.unusedVariables false
/-- Instructions that may be written. -/
def Gd (o : List Xi) : Prop := ∀ x ∈ o, rt x = true ∧ I64 x.n
theorem encs_nil : encs [] = [] := rfl
theorem encs_cons (x : Xi) (o : List Xi) : encs (x :: o) = enc x ++ encs o := by simp [encs]
theorem encs_app (o p : List Xi) : encs (o ++ p) = encs o ++ encs p := by simp [encs]
/-- Bytes are instructions in one way. -/
theorem uniq : ∀ (o o' : List Xi) (r : List UInt8), Gd o → Gd o' → encs o ++ r = encs o' → ∃ o2, o' = o ++ o2 ∧ encs o2 = r
  | [], o', r, _, _, h => ⟨o', rfl, by rw [encs_nil, List.nil_append] at h; exact h.symm⟩
  | x :: o, [], r, _, _, h => by
    have := (enc_len x).1
    rw [encs_cons, encs_nil] at h
    have := congrArg List.length h
    simp only [List.length_append, List.length_nil] at this; omega
  | x :: o, y :: o', r, g, g', h => by
    obtain ⟨a1, a2⟩ := g x (by simp)
    obtain ⟨b1, b2⟩ := g' y (by simp)
    have e1 : dcX (encs (x :: o) ++ r) = some x := dc_is a1 a2 (by rw [encs_cons, List.append_assoc]; exact List.prefix_append _ _)
    have e2 : dcX (encs (y :: o')) = some y := dc_is b1 b2 (by rw [encs_cons]; exact List.prefix_append _ _)
    rw [h, e2] at e1
    obtain rfl := Option.some.inj e1
    rw [encs_cons, encs_cons, List.append_assoc] at h
    obtain ⟨o2, e, f⟩ := uniq o o' r (fun z hz => g z (by simp [hz])) (fun z hz => g' z (by simp [hz])) (List.append_cancel_left h)
    exact ⟨o2, by rw [e]; rfl, f⟩
/-- Where they begin. -/
def offs (o : List Xi) : List Int := (List.range o.length).map fun j => ((encs (o.take j)).length : Int)
theorem offs_len (o : List Xi) : (offs o).length = o.length := by simp [offs]
theorem offs_get (o : List Xi) (j : Nat) (h : j < (offs o).length) : (offs o)[j] = ((encs (o.take j)).length : Int) := by simp [offs]
theorem offs_snoc (o : List Xi) (x : Xi) : offs (o ++ [x]) = offs o ++ [((encs o).length : Int)] := by
  apply List.ext_getElem
  · simp [offs_len]
  · intro j h1 h2
    rw [offs_get]
    rw [offs_len] at h1
    simp at h1
    by_cases hj : j < o.length
    · rw [List.getElem_append_left (by rw [offs_len]; exact hj), offs_get, List.take_append_of_le_length (by omega)]
    · have : j = o.length := by omega
      subst this
      rw [List.getElem_append_right (by rw [offs_len]; omega)]
      simp
theorem len_le : ∀ (o : List Xi), o.length ≤ (encs o).length
  | [] => Nat.le_refl _
  | x :: o => by
    have := (enc_len x).1
    have := len_le o
    rw [encs_cons]; simp; omega
theorem dE_eq (b : List UInt8) : dE b = if (dcX b).isSome then 0 else 6 := by unfold dE; cases dcX b <;> rfl
theorem dX_none {b : List UInt8} (h : dcX b = none) : dE b = 6 := by unfold dE; rw [h]; rfl
theorem dX_some {b : List UInt8} {x : Xi} (h : dcX b = some x) : dX b = x ∧ dN b = ((enc x).length : Int) ∧ dE b = 0 := by
  unfold dX dN dE; rw [h]; exact ⟨rfl, rfl, rfl⟩
theorem drop_data (t : ByteArray) (k : Nat) : (t.extract k t.size).data.toList = t.data.toList.drop k := by
  simp [ByteArray.data_extract, Array.toList_extract]
  exact List.take_of_length_le (by simp)
def StEnds (c : List UInt8) (w : World) (e : Ending) (w' : World) : Prop :=
  (∃ o v, Gd o ∧ encs o = c ∧ e = .returned (.tuple #[v, .int .i64 0]) ∧ NR w.heap.size v (offs o) w' ∧ Below w.heap.size w w') ∨ ((¬ ∃ o, Gd o ∧ encs o = c) ∧ e = .returned (.tuple #[.slice none 0 0, .int .i64 6]) ∧ Below w.heap.size w w')
set_option maxHeartbeats 4000000 in
theorem starts_any (t : ByteArray) (w : World) (hl : t.size ≤ 1048576) : Calls Try.prog 14 #[.string t] w (StEnds t.data.toList w) := by
  obtain ⟨i0, hi, hz0, hz1, hz2⟩ := info_parts info3
  have hz : t.data.toList.length = t.size := by simp
  have HZ := hide hz
  clear hz
  go_enter Try.func14, Try.ntmps14
  go_wp2
  go_loopw [4, 5] (fun sv iv wr => ∃ (k : Nat) (o : List Xi), k ≤ t.size ∧ iv = .int .i64 (k : Int) ∧ Hid (NR w.heap.size sv (offs o) wr) ∧ Below w.heap.size w wr ∧ Hid (Gd o ∧ encs o ++ t.data.toList.drop k = t.data.toList ∧ (encs o).length = k)) (fun _ iv _ => t.size - (intOf iv).toNat)
  case atStart => exact ⟨0, [], by omega, rfl, hide (World.ownsRow_nil _ _ _ _), Below.refl _ _, hide ⟨fun x hx => by simp at hx, by simp [encs_nil], rfl⟩⟩
  case round =>
    obtain ⟨k, o, hk, rfl, hR, hb, hG⟩ := hrel
    by_cases hlt : k < t.size
    · have DI := hide (fun U => decode_any (t.extract k t.size) U)
      have DD := hide (drop_data t k)
      unfold DcIs at DI
      rw [DD.out] at DI
      cases hd : dcX (t.data.toList.drop k) with
      | none =>
        have NO : Hid (¬ ∃ o, Gd o ∧ encs o = t.data.toList) := fun ⟨o', g', e'⟩ => by
          obtain ⟨g1, e1, _⟩ := hG.out
          obtain ⟨o2, e2, f2⟩ := uniq o o' _ g1 g' (e1.trans e'.symm)
          cases o2 with
          | nil =>
            have := congrArg List.length f2
            have := HZ.out
            simp [encs_nil] at *; omega
          | cons z o2 =>
            have gz := g' z (by rw [e2]; simp)
            rw [dc_is gz.1 gz.2 (by rw [← f2, encs_cons]; exact List.prefix_append _ _)] at hd
            cases hd
        have hE := dX_none hd
        rw [hE] at DI
        clear hd hE hG hR
        generalize dX (t.data.toList.drop k) = xx at *
        generalize dN (t.data.toList.drop k) = nn at *
        obtain ⟨o1, o2, o3, o4, o5, o6, o7⟩ := xx
        unfold xv at DI
        simp only at DI
        go_wp2_with fail
        refine (DI.out _).mono ?_
        rintro e w1 ⟨rfl, b1⟩
        go_wp2_with fail
        go_ret2
        exact Or.inr ⟨NO.out, rfl, bel_al (bel_tr hb b1) _⟩
      | some x =>
        obtain ⟨hX, hN, hE⟩ := dX_some hd
        rw [hX, hN, hE] at DI
        obtain ⟨q1, q2, q3, q4⟩ := dc_some hd
        obtain ⟨g1, e1, e2⟩ := hG.out
        have hL : (enc x).length ≤ t.size - k := by
          have := q2.length_le
          have := HZ.out
          simp at *; omega
        have h1 := (enc_len x).1
        have G2 : Hid (Gd (o ++ [x]) ∧ encs (o ++ [x]) ++ t.data.toList.drop (k + (enc x).length) = t.data.toList ∧ (encs (o ++ [x])).length = k + (enc x).length) := by
          refine ⟨fun z hz => ?_, ?_, ?_⟩
          · rcases List.mem_append.1 hz with h | h
            · exact g1 z h
            · simp at h; subst h; exact ⟨q1, q3⟩
          · obtain ⟨r, hr⟩ := q2
            rw [encs_app, encs_cons, encs_nil, List.append_nil, List.append_assoc, ← List.drop_drop, ← hr, List.drop_left, hr, e1]
          · rw [encs_app, encs_cons, encs_nil, List.append_nil, List.length_append, e2]
        have PLS := hide (offs_snoc o x)
        have OL := hide (len_le o)
        have E2 := hide e2
        clear hX hN hE q1 q2 q3 q4 g1 e1 e2 hG hd
        generalize hm : (enc x).length = m at *
        clear hm
        have hkm : k + m ≤ t.size := by omega
        have hk0 : (0 : Int) ≤ (k : Int) ∧ (k : Int) ≤ 1048576 := by omega
        have hm0 : (0 : Int) ≤ (m : Int) ∧ (m : Int) ≤ 1048576 := by omega
        obtain ⟨hk1, hk2⟩ := hk0
        obtain ⟨hm1, hm2⟩ := hm0
        obtain ⟨o1, o2, o3, o4, o5, o6, o7⟩ := x
        unfold xv at DI
        simp only at DI
        go_wp2_with fail
        refine (DI.out _).mono ?_
        rintro e w1 ⟨rfl, b1⟩
        have hR1 := hR.out.kept b1
        have hB1 := bel_tr hb b1
        have HB1 := hide hB1
        have WA : Hid (∀ V, V = w1.alloc (.cells #[.int .i64 o1, .bool o2, .int .i64 o3, .int .i64 o4, .int .i64 o5, .int .i64 o6, .int .i64 o7] 40) → NR w.heap.size u4 (offs o) V ∧ Below w.heap.size w V) := fun V hV => by
          subst hV; exact ⟨hR1.kept (bel_one _ _), bel_al hB1 _⟩
        clear hR hb b1 hR1 hB1 DI DD
        go_upto_region 7 with fail
        refine gen_world (motive := fun x => Code.wp _ _ _ _ x) (fun V => NR w.heap.size u4 (offs o) V ∧ Below w.heap.size w V) (WA.out _ rfl) ?_
        clear WA HB1
        rintro V ⟨hR1, hB1⟩
        have HBS : Hid (w.heap.size ≤ (V.alloc (.cells #[.int .i64 (k : Int)] 3)).heap.size) := by have := hB1.size; show _ ≤ _; simp; omega
        have OWN : Hid ((V.alloc (.cells #[.int .i64 (k : Int)] 3)).ownsRow w.heap.size 3 1 u4 o.length ((offs o).map (Value.int .i64))) := by
          have := World.ownsRow.alloc hR1 (.cells #[.int .i64 (k : Int)] 3)
          rw [offs_len] at this; exact this
        have hol : o.length ≤ 1048576 := by have := OL.out; have := E2.out; omega
        go_wp2_with (at_builtin; (refine wpList_append_own _ rfl (.tmp 23) (.tmp 25) 24 rfl w.heap.size 3 i0 _ 1 8 Try.underlying24 hi hz0 hz1 hz2 rfl (by decide) _ o.length _ rfl OWN.out ⟨V.heap.size, 0, none⟩ 1 1 [.int .i64 (k : Int)] rfl rfl (one_at3 V (k : Int)) (one_cell3 (k : Int)) (by unfold maxLen; omega) (by omega) HBS.out ?_))
        intro v' w3 hown hgrow _
        have R3 : Hid (NR w.heap.size v' (offs (o ++ [⟨o1, o2, o3, o4, o5, o6, o7⟩])) w3) := by
          show w3.ownsRow _ _ _ _ _ _
          rw [PLS.out, E2.out, List.map_append, List.length_append, offs_len]
          exact hown
        have B3 : Below w.heap.size w w3 := (bel_al hB1 _).trans (own_bel OWN.out HBS.out hgrow)
        clear hown hgrow OWN HBS hR1 hB1 PLS
        go_wp2_with fail
        go_roundw
        case rel => exact ⟨k + m, o ++ [⟨o1, o2, o3, o4, o5, o6, o7⟩], by omega, by go_num, R3, B3, G2⟩
        case measure => simp [intOf]; omega
    · have hkm : k = t.size := by omega
      subst hkm
      obtain ⟨g1, e1, e2⟩ := hG.out
      have e3 : encs o = t.data.toList := by
        rw [← e1, ← HZ.out, List.drop_length, List.append_nil]
      have G1 := hide g1
      have E3 := hide e3
      clear g1 e1 e2 e3 hG
      obtain ⟨a9, c9, hv9⟩ := hR.out.form
      subst hv9
      go_wp2_with fail
      go_ret2
      exact Or.inl ⟨o, _, G1.out, E3.out, rfl, hR.out, hb⟩
end Go.Proofs.Ytookbgnidinkoaa

/-
  A memory at its beginning has the bytes of its last datum at their place, and nought where there are none: the walk of the statement LinmemData.
-/
import Derived.Test.YtcjojphajjoheaaEx
namespace Go.Proofs.Ytcjojphajjoheaa
open Go.RowKit

theorem splice_get (r x : List UInt8) (p i : Nat) (hp : p + x.length ≤ r.length) (hi : i < r.length) (h' : i < (splice r p x).length) :
    (splice r p x)[i] = if h : p ≤ i ∧ i - p < x.length then x[i - p]'h.2 else r[i] := by
  have hl : (r.take p).length = p := by simp; omega
  simp only [splice]
  by_cases h1 : p ≤ i
  · by_cases h2 : i - p < x.length
    · rw [dif_pos ⟨h1, h2⟩, List.getElem_append_right (by omega), List.getElem_append_left (by omega)]
      simp only [hl]
    · rw [dif_neg (fun q => h2 q.2), List.getElem_append_right (by omega), List.getElem_append_right (by omega)]
      simp only [List.getElem_drop, hl]
      congr 1; omega
  · rw [dif_neg (fun q => h1 q.1), List.getElem_append_left (by omega)]
    simp
/-- What stands at a place behind a datum. -/
def wnt (d : Da) (i : Nat) (old : UInt8) : UInt8 := if 0 ≤ d.pos ∧ d.pos ≤ i ∧ i - d.pos < d.bytes.length then d.bytes.getD (i - d.pos.toNat) 0 else old
theorem dat1_get (size : Nat) (k : Int) (r : List UInt8) (d : Da) (i : Nat) (hk : d.mem = k) (hs : size ≤ r.length) (hi : i < size) (h' : i < (dat1 size k r d).length) : (dat1 size k r d)[i] = wnt d i (r[i]'(by omega)) := by
  by_cases h : d.mem = k ∧ 0 ≤ d.pos ∧ d.pos < size
  · have e : dat1 size k r d = splice r d.pos.toNat (d.bytes.take (size - d.pos.toNat)) := by unfold dat1; rw [if_pos h]
    simp only [e]
    rw [splice_get _ _ _ _ (by rw [List.length_take]; omega) (by omega)]
    unfold wnt
    by_cases h2 : d.pos.toNat ≤ i ∧ i - d.pos.toNat < (d.bytes.take (size - d.pos.toNat)).length
    · have h3 := h2.2
      rw [List.length_take] at h3
      rw [dif_pos h2, if_pos ⟨h.2.1, by omega, by omega⟩]
      simp only [List.getElem_take]
      rw [List.getD_eq_getElem?_getD, List.getElem?_eq_getElem (by omega)]; rfl
    · rw [dif_neg h2, if_neg]
      intro q
      apply h2
      rw [List.length_take]
      omega
  · have e : dat1 size k r d = r := by unfold dat1; rw [if_neg h]
    simp only [e]
    unfold wnt
    rw [if_neg (by omega)]
theorem new_len (m0 m1 k : Int) (l : List Da) : (newL m0 m1 k l).length = szo m0 m1 k := by
  unfold newL; rw [List.length_take, room_len _ _ _ (szo_le _ _ _)]; have := szo_le m0 m1 k; omega
theorem new_two (e : Int) (d1 d2 : Da) (h1 : d1.mem = 1) (h2 : d2.mem = 1) (i : Nat) (hi : i < (newL 0 e 1 [d1, d2]).length) : (newL 0 e 1 [d1, d2])[i] = wnt d2 i (wnt d1 i 0) := by
  have hi' : i < szo 0 e 1 := by rw [new_len] at hi; exact hi
  have h4 := szo_le 0 e 1
  simp only [newL, List.getElem_take]
  have e1 : room (szo 0 e 1) 1 [d1, d2] = dat1 (szo 0 e 1) 1 (dat1 (szo 0 e 1) 1 (List.replicate 4096 0) d1) d2 := rfl
  have l0 : (List.replicate 4096 (0 : UInt8)).length = 4096 := List.length_replicate
  have l1 := dat1_len (szo 0 e 1) 1 (List.replicate 4096 0) d1 (by omega)
  simp only [e1]
  rw [dat1_get _ _ _ _ _ h2 (by omega) hi', dat1_get _ _ _ _ _ h1 (by omega) hi', List.getElem_replicate]
theorem new_none (e : Int) (l : List Da) : newL 0 e 0 l = [] := by
  unfold newL szo; rw [if_pos rfl]; simp [pw]
theorem pw_is (e : Int) (h3 : 3 ≤ e) (h4 : e ≤ 12) : szo 0 e 1 = 2 ^ e.toNat := by
  unfold szo pw; rw [if_neg (by decide), if_pos rfl, if_pos ⟨h3, h4⟩]
theorem size_is (e : Int) (h3 : 3 ≤ e) (h12 : e ≤ 12) (l : List Da) : wrap64 ((2 : Int) ^ e.toNat) = ((str (newL 0 e 1 l)).size : Int) := by
  rw [str_size, new_len]
  have : e = 3 ∨ e = 4 ∨ e = 5 ∨ e = 6 ∨ e = 7 ∨ e = 8 ∨ e = 9 ∨ e = 10 ∨ e = 11 ∨ e = 12 := by omega
  rcases this with rfl | rfl | rfl | rfl | rfl | rfl | rfl | rfl | rfl | rfl <;> decide +kernel
theorem Row.set {w : World} {b : Nat} {cs : Array Value} {ty : TypeId} (h : Row w b cs ty) (j : Nat) (x : Value) : Row (w.setCell ⟨b, j, none⟩ x) b (cs.setIfInBounds j x) ty := by
  unfold Row at *; simp [World.setCell, Array.getElem?_modify, h]
theorem Row.other {w : World} {b c : Nat} {cs : Array Value} {ty : TypeId} (h : Row w b cs ty) (j : Nat) (x : Value) (hc : b ≠ c) : Row (w.setCell ⟨c, j, none⟩ x) b cs ty := by
  unfold Row at *; rw [Below.heap_setCell w _ x b hc]; exact h
theorem Row.alloc {w : World} {b : Nat} {cs : Array Value} {ty : TypeId} (h : Row w b cs ty) (o : Obj) : Row (w.alloc o) b cs ty := h.kept (bel_one w o)
theorem str_get (l : List UInt8) (i : Nat) (h : i < (str l).size) : (str l)[i] = l[i]'(by rw [str_size] at h; exact h) := by simp [str, ByteArray.getElem_eq_getElem_data]
/-- The two data in their row. -/
theorem two_da {W : World} {g B : Nat} {p1 p2 : Int} {b1 b2 : List UInt8} (h : Row W g #[.int .i64 1, .int .i64 p1, .string (str b1), .int .i64 1, .int .i64 p2, .string (str b2)] 48) (hB : g < B)
    (hp1 : I64 p1) (hp2 : I64 p2) (hb1 : b1.length ≤ 9223372036854775807) (hb2 : b2.length ≤ 9223372036854775807) : SDa B W (some ⟨g, 0, none⟩) [⟨1, p1, b1⟩, ⟨1, p2, b2⟩] := by
  intro j hj
  have i1 : I64 1 := by unfold I64; omega
  match j, hj with
  | 0, _ => exact ⟨g, 0, rfl, hB, ⟨i1, hp1, hb1⟩, h.c 0 _ rfl, h.c 1 _ rfl, h.c 2 _ rfl⟩
  | 1, _ => exact ⟨g, 0, rfl, hB, ⟨i1, hp2, hb2⟩, h.c 3 _ rfl, h.c 4 _ rfl, h.c 5 _ rfl⟩
theorem dcase (p : Int) (b : List UInt8) (n : Nat) :
    (p < 0 ∧ ∀ old, wnt ⟨1, p, b⟩ n old = old) ∨ (∃ q : Nat, p = q ∧ n < q ∧ ∀ old, wnt ⟨1, p, b⟩ n old = old) ∨
    (∃ q k : Nat, p = q ∧ q ≤ n ∧ (n : Int) - q = k ∧ (str b).size ≤ k ∧ ∀ old, wnt ⟨1, p, b⟩ n old = old) ∨
    ∃ q k : Nat, p = q ∧ q ≤ n ∧ (n : Int) - q = k ∧ ∃ h : k < (str b).size, ∀ old, wnt ⟨1, p, b⟩ n old = (str b)[k] := by
  by_cases h0 : p < 0
  · exact Or.inl ⟨h0, fun old => by unfold wnt; rw [if_neg (by simp only; omega)]⟩
  obtain ⟨q, rfl⟩ : ∃ q : Nat, p = q := ⟨p.toNat, by omega⟩
  by_cases h1 : n < q
  · exact Or.inr (Or.inl ⟨q, rfl, h1, fun old => by unfold wnt; rw [if_neg (by simp only; omega)]⟩)
  by_cases h2 : n - q < b.length
  · refine Or.inr (Or.inr (Or.inr ⟨q, n - q, rfl, by omega, by omega, by rw [str_size]; exact h2, fun old => ?_⟩))
    unfold wnt; rw [if_pos (by simp only; omega), str_get]
    simp only [Int.toNat_natCast]
    rw [List.getD_eq_getElem?_getD, List.getElem?_eq_getElem h2]; rfl
  · exact Or.inr (Or.inr (Or.inl ⟨q, n - q, rfl, by omega, by omega, by rw [str_size]; omega, fun old => by unfold wnt; rw [if_neg (by simp only; omega)]⟩))
set_option maxRecDepth 20000 in
set_option maxHeartbeats 3200000 in
theorem data_walk0 (x m1 p1 m2 p2 : Int) (b1 b2 : List UInt8) (w : World) (hx : 0 ≤ x) (hx2 : x ≤ 9223372036854775807) (hp1 : I64 p1) (hp2 : I64 p2) (hb1 : b1.length ≤ 9223372036854775807) (hb2 : b2.length ≤ 9223372036854775807) :
    Calls Try.prog 8 #[.int .i64 x, .agg #[.int .i64 m1, .int .i64 p1, .string (str b1)], .agg #[.int .i64 m2, .int .i64 p2, .string (str b2)]] w fun e w' => e = .returned (.bool true) ∧ Below w.heap.size w w' := by
  have R0 := hide ((Row.made w #[.int .i64 m1, .int .i64 p1, .string (str b1)] 48).kept (bel_one _ (.cells #[.int .i64 m2, .int .i64 p2, .string (str b2)] 48)))
  have R1 := hide (Row.made (w.alloc (.cells #[.int .i64 m1, .int .i64 p1, .string (str b1)] 48)) #[.int .i64 m2, .int .i64 p2, .string (str b2)] 48)
  rw [show (w.alloc (.cells #[.int .i64 m1, .int .i64 p1, .string (str b1)] 48)).heap.size = w.heap.size + 1 by simp] at R1
  have HB := hide ((bel_one w (.cells #[.int .i64 m1, .int .i64 p1, .string (str b1)] 48)).alloc (by simp) (.cells #[.int .i64 m2, .int .i64 p2, .string (str b2)] 48))
  have HZ : Hid (((w.alloc (.cells #[.int .i64 m1, .int .i64 p1, .string (str b1)] 48)).alloc (.cells #[.int .i64 m2, .int .i64 p2, .string (str b2)] 48)).heap.size = w.heap.size + 2) := by show _ = _; simp
  have hx0 : decide (x < 0) = false := by simp; omega
  go_enter Try.func8, Try.ntmps8
  go_wp2_with (fail)
  refine (examples_any _).mono ?_
  generalize (w.alloc _).alloc _ = w0 at R0 R1 HB HZ ⊢
  rintro e w1 ⟨rfl, hbe⟩
  have Q0 := R0.out.kept hbe
  have Q1 := R1.out.kept hbe
  have HB1 := hide (HB.out.trans (hbe.mono (by rw [HZ.out]; omega)))
  have HZ1 : w.heap.size + 2 ≤ w1.heap.size := by have := hbe.size; rw [HZ.out] at this; exact this
  clear hbe HZ HB R0 R1
  have c00 := Q0.c 0 _ rfl
  have c01 := Q0.c 1 _ rfl
  have c02 := Q0.c 2 _ rfl
  have c10 := Q1.c 0 _ rfl
  have c11 := Q1.c 1 _ rfl
  have c12 := Q1.c 2 _ rfl
  have f0 := Q0.fr 0
  have f1 := Q1.fr 0
  simp only [List.getElem_toArray, List.getElem_cons_zero, List.getElem_cons_succ] at c00 c01 c02 c10 c11 c12
  have HQ0 := hide Q0
  have HQ1 := hide Q1
  clear Q0 Q1
  have hsz : (((w1.setCell ⟨w.heap.size, 0, none⟩ (.int .i64 1)).setCell ⟨w.heap.size + 1, 0, none⟩ (.int .i64 1))).heap.size = w1.heap.size := by simp [World.setCell]
  have K0 := hide ((HQ0.out.set 0 (.int .i64 1)).other (c := w.heap.size + 1) 0 (.int .i64 1) (by omega))
  have K1 := hide ((HQ1.out.other (c := w.heap.size) 0 (.int .i64 1) (by omega)).set 0 (.int .i64 1))
  have KW := hide ((HB1.out.setCell (p := ⟨w.heap.size, 0, none⟩) (Nat.le_refl _) (.int .i64 1)).setCell (p := ⟨w.heap.size + 1, 0, none⟩) (Nat.le_succ _) (.int .i64 1))
  have KG := hide (Row.made ((w1.setCell ⟨w.heap.size, 0, none⟩ (.int .i64 1)).setCell ⟨w.heap.size + 1, 0, none⟩ (.int .i64 1)) #[.int .i64 1, .int .i64 p1, .string (str b1), .int .i64 1, .int .i64 p2, .string (str b2)] 48)
  rw [hsz] at KG
  have HZ2 := hide hsz
  clear hsz
  go_wp2_with (fail)
  generalize (w1.setCell _ _).setCell _ _ = w2 at K0 K1 KW KG HZ2 ⊢
  clear HQ0 HQ1 HB1 c00 c01 c02 c10 c11 c12 f0 f1
  have he3 : 3 ≤ 3 + x % 10 := by omega
  have he12 : 3 + x % 10 ≤ 12 := by omega
  generalize 3 + x % 10 = e at he3 he12 ⊢
  generalize w1.heap.size = g at *
  have KM := hide (Row.made (w2.alloc (.cells #[.int .i64 1, .int .i64 p1, .string (str b1), .int .i64 1, .int .i64 p2, .string (str b2)] 48)) #[.slice none 0 0, .slice none 0 0, .slice none 0 0, .int .i64 0, .int .i64 e, .slice none 0 0, .slice (some ⟨g, 0, none⟩) 2 2] 29)
  rw [show (w2.alloc (.cells #[.int .i64 1, .int .i64 p1, .string (str b1), .int .i64 1, .int .i64 p2, .string (str b2)] 48)).heap.size = g + 1 by simp [HZ2.out]] at KM
  have J0 := hide ((K0.out.alloc (.cells #[.int .i64 1, .int .i64 p1, .string (str b1), .int .i64 1, .int .i64 p2, .string (str b2)] 48)).alloc (.cells #[.slice none 0 0, .slice none 0 0, .slice none 0 0, .int .i64 0, .int .i64 e, .slice none 0 0, .slice (some ⟨g, 0, none⟩) 2 2] 29))
  have J1 := hide ((K1.out.alloc (.cells #[.int .i64 1, .int .i64 p1, .string (str b1), .int .i64 1, .int .i64 p2, .string (str b2)] 48)).alloc (.cells #[.slice none 0 0, .slice none 0 0, .slice none 0 0, .int .i64 0, .int .i64 e, .slice none 0 0, .slice (some ⟨g, 0, none⟩) 2 2] 29))
  have JG := hide (KG.out.alloc (.cells #[.slice none 0 0, .slice none 0 0, .slice none 0 0, .int .i64 0, .int .i64 e, .slice none 0 0, .slice (some ⟨g, 0, none⟩) 2 2] 29))
  have JW := hide ((KW.out.alloc (by rw [HZ2.out]; omega) (.cells #[.int .i64 1, .int .i64 p1, .string (str b1), .int .i64 1, .int .i64 p2, .string (str b2)] 48)).alloc (by simp [HZ2.out]; omega) (.cells #[.slice none 0 0, .slice none 0 0, .slice none 0 0, .int .i64 0, .int .i64 e, .slice none 0 0, .slice (some ⟨g, 0, none⟩) 2 2] 29))
  clear K0 K1 KW KG HZ2
  generalize (w2.alloc _).alloc _ = w3 at KM J0 J1 JG JW ⊢
  have HD := two_da JG.out JG.out.lt hp1 hp2 hb1 hb2
  refine (new_any none none none none (some ⟨g, 0, none⟩) 0 0 0 0 0 0 0 0 2 0 e 1 [⟨1, p1, b1⟩, ⟨1, p2, b2⟩] w3 (by simp) HD).mono ?_
  have hSz := size_is e he3 he12 [⟨1, p1, b1⟩, ⟨1, p2, b2⟩]
  have hS4 : (str (newL 0 e 1 [⟨1, p1, b1⟩, ⟨1, p2, b2⟩])).size ≤ 4096 := by rw [str_size, new_len]; exact szo_le _ _ _
  have HG : Hid (∀ i (h : i < (str (newL 0 e 1 [⟨1, p1, b1⟩, ⟨1, p2, b2⟩])).size), (str (newL 0 e 1 [⟨1, p1, b1⟩, ⟨1, p2, b2⟩]))[i] = wnt ⟨1, p2, b2⟩ i (wnt ⟨1, p1, b1⟩ i 0)) := fun i h => by
    rw [str_get, new_two e ⟨1, p1, b1⟩ ⟨1, p2, b2⟩ rfl rfl]
  generalize str (newL 0 e 1 [⟨1, p1, b1⟩, ⟨1, p2, b2⟩]) = S at hSz hS4 HG ⊢
  rintro e' w4 ⟨rfl, hb4⟩
  have M4 := hide (KM.out.kept hb4)
  have W4 := hide (JW.out.trans (hb4.mono JW.out.size))
  have D4 := HD.step hb4 (Nat.le_refl _)
  have P0 := hide (J0.out.kept hb4)
  have P1 := hide (J1.out.kept hb4)
  clear KM JW HD J0 J1 JG
  have cm0 := M4.out.c 0 _ rfl
  have cm1 := M4.out.c 1 _ rfl
  have cm2 := M4.out.c 2 _ rfl
  have cm3 := M4.out.c 3 _ rfl
  have cm4 := M4.out.c 4 _ rfl
  have cm5 := M4.out.c 5 _ rfl
  have cm6 := M4.out.c 6 _ rfl
  simp only [List.getElem_toArray, List.getElem_cons_zero, List.getElem_cons_succ] at cm0 cm1 cm2 cm3 cm4 cm5 cm6
  have HD4 := hide (D4.step (Below.refl _ _) hb4.size)
  clear D4 hb4
  go_wp2_with (fail)
  refine (new_any none none none none (some ⟨g, 0, none⟩) 0 0 0 0 0 0 0 0 2 0 e 0 [⟨1, p1, b1⟩, ⟨1, p2, b2⟩] w4 (by simp) HD4).mono ?_
  rw [new_none]
  rintro e' w5 ⟨rfl, hb5⟩
  have hem : (str []).toList.isEmpty = true := by decide +kernel
  have Q0 := P0.out.kept hb5
  have Q1 := P1.out.kept hb5
  have W5 := hide (W4.out.trans (hb5.mono W4.out.size))
  have c01 := Q0.c 1 _ rfl
  have c02 := Q0.c 2 _ rfl
  have c11 := Q1.c 1 _ rfl
  have c12 := Q1.c 2 _ rfl
  simp at c01 c02 c11 c12
  clear cm0 cm1 cm2 cm3 cm4 cm5 cm6 M4 W4 HD4 hb5 P0 P1 Q0 Q1
  go_wp2
  go_loop [10, 11] (fun i _ => ∃ n : Nat, n ≤ S.size ∧ i = .int .i64 n) (fun i _ => S.size - (intOf i).toNat)
  case atStart => exact ⟨0, Nat.zero_le _, rfl⟩
  case round =>
    obtain ⟨n, hn, rfl⟩ := hrel
    by_cases hlt : n < S.size
    · have hg := hide (HG.out n hlt)
      rcases dcase p1 b1 n with ⟨a1, v1⟩ | ⟨q1, rfl, a1, v1⟩ | ⟨q1, k1, rfl, a1, e1, l1, v1⟩ | ⟨q1, k1, rfl, a1, e1, l1, v1⟩
      · have d1 : decide (0 ≤ p1) = false := by simp; omega
        rcases dcase p2 b2 n with ⟨a2, v2⟩ | ⟨q2, rfl, a2, v2⟩ | ⟨q2, k2, rfl, a2, e2, l2, v2⟩ | ⟨q2, k2, rfl, a2, e2, l2, v2⟩
        · have d2 : decide (0 ≤ p2) = false := by simp; omega
          have hne : ((S[n].toNat : Int) != (0 : Int)) = false := by rw [hg.out, v2, v1]; simp
          clear hg v1 v2 HG
          go_wp2
          exact ⟨⟨n + 1, hlt, by go_num⟩, by simp [intOf]; omega⟩
        · have d2 : decide (q2 ≤ n) = false := by simp; omega
          have hne : ((S[n].toNat : Int) != (0 : Int)) = false := by rw [hg.out, v2, v1]; simp
          clear hg v1 v2 HG
          go_wp2
          exact ⟨⟨n + 1, hlt, by go_num⟩, by simp [intOf]; omega⟩
        · have d2 : decide (k2 < (str b2).size) = false := by simp; omega
          have hne : ((S[n].toNat : Int) != (0 : Int)) = false := by rw [hg.out, v2, v1]; simp
          clear hg v1 v2 HG
          go_wp2
          exact ⟨⟨n + 1, hlt, by go_num⟩, by simp [intOf]; omega⟩
        · skip
          have hne : ((S[n].toNat : Int) != ((str b2)[k2].toNat : Int)) = false := by rw [hg.out, v2]; simp
          clear hg v1 v2 HG
          go_wp2
          exact ⟨⟨n + 1, hlt, by go_num⟩, by simp [intOf]; omega⟩
      · have d1 : decide (q1 ≤ n) = false := by simp; omega
        rcases dcase p2 b2 n with ⟨a2, v2⟩ | ⟨q2, rfl, a2, v2⟩ | ⟨q2, k2, rfl, a2, e2, l2, v2⟩ | ⟨q2, k2, rfl, a2, e2, l2, v2⟩
        · have d2 : decide (0 ≤ p2) = false := by simp; omega
          have hne : ((S[n].toNat : Int) != (0 : Int)) = false := by rw [hg.out, v2, v1]; simp
          clear hg v1 v2 HG
          go_wp2
          exact ⟨⟨n + 1, hlt, by go_num⟩, by simp [intOf]; omega⟩
        · have d2 : decide (q2 ≤ n) = false := by simp; omega
          have hne : ((S[n].toNat : Int) != (0 : Int)) = false := by rw [hg.out, v2, v1]; simp
          clear hg v1 v2 HG
          go_wp2
          exact ⟨⟨n + 1, hlt, by go_num⟩, by simp [intOf]; omega⟩
        · have d2 : decide (k2 < (str b2).size) = false := by simp; omega
          have hne : ((S[n].toNat : Int) != (0 : Int)) = false := by rw [hg.out, v2, v1]; simp
          clear hg v1 v2 HG
          go_wp2
          exact ⟨⟨n + 1, hlt, by go_num⟩, by simp [intOf]; omega⟩
        · skip
          have hne : ((S[n].toNat : Int) != ((str b2)[k2].toNat : Int)) = false := by rw [hg.out, v2]; simp
          clear hg v1 v2 HG
          go_wp2
          exact ⟨⟨n + 1, hlt, by go_num⟩, by simp [intOf]; omega⟩
      · have d1 : decide (k1 < (str b1).size) = false := by simp; omega
        rcases dcase p2 b2 n with ⟨a2, v2⟩ | ⟨q2, rfl, a2, v2⟩ | ⟨q2, k2, rfl, a2, e2, l2, v2⟩ | ⟨q2, k2, rfl, a2, e2, l2, v2⟩
        · have d2 : decide (0 ≤ p2) = false := by simp; omega
          have hne : ((S[n].toNat : Int) != (0 : Int)) = false := by rw [hg.out, v2, v1]; simp
          clear hg v1 v2 HG
          go_wp2
          exact ⟨⟨n + 1, hlt, by go_num⟩, by simp [intOf]; omega⟩
        · have d2 : decide (q2 ≤ n) = false := by simp; omega
          have hne : ((S[n].toNat : Int) != (0 : Int)) = false := by rw [hg.out, v2, v1]; simp
          clear hg v1 v2 HG
          go_wp2
          exact ⟨⟨n + 1, hlt, by go_num⟩, by simp [intOf]; omega⟩
        · have d2 : decide (k2 < (str b2).size) = false := by simp; omega
          have hne : ((S[n].toNat : Int) != (0 : Int)) = false := by rw [hg.out, v2, v1]; simp
          clear hg v1 v2 HG
          go_wp2
          exact ⟨⟨n + 1, hlt, by go_num⟩, by simp [intOf]; omega⟩
        · skip
          have hne : ((S[n].toNat : Int) != ((str b2)[k2].toNat : Int)) = false := by rw [hg.out, v2]; simp
          clear hg v1 v2 HG
          go_wp2
          exact ⟨⟨n + 1, hlt, by go_num⟩, by simp [intOf]; omega⟩
      · skip
        rcases dcase p2 b2 n with ⟨a2, v2⟩ | ⟨q2, rfl, a2, v2⟩ | ⟨q2, k2, rfl, a2, e2, l2, v2⟩ | ⟨q2, k2, rfl, a2, e2, l2, v2⟩
        · have d2 : decide (0 ≤ p2) = false := by simp; omega
          have hne : ((S[n].toNat : Int) != ((str b1)[k1].toNat : Int)) = false := by rw [hg.out, v2, v1]; simp
          clear hg v1 v2 HG
          go_wp2
          exact ⟨⟨n + 1, hlt, by go_num⟩, by simp [intOf]; omega⟩
        · have d2 : decide (q2 ≤ n) = false := by simp; omega
          have hne : ((S[n].toNat : Int) != ((str b1)[k1].toNat : Int)) = false := by rw [hg.out, v2, v1]; simp
          clear hg v1 v2 HG
          go_wp2
          exact ⟨⟨n + 1, hlt, by go_num⟩, by simp [intOf]; omega⟩
        · have d2 : decide (k2 < (str b2).size) = false := by simp; omega
          have hne : ((S[n].toNat : Int) != ((str b1)[k1].toNat : Int)) = false := by rw [hg.out, v2, v1]; simp
          clear hg v1 v2 HG
          go_wp2
          exact ⟨⟨n + 1, hlt, by go_num⟩, by simp [intOf]; omega⟩
        · skip
          have hne : ((S[n].toNat : Int) != ((str b2)[k2].toNat : Int)) = false := by rw [hg.out, v2]; simp
          clear hg v1 v2 HG
          go_wp2
          exact ⟨⟨n + 1, hlt, by go_num⟩, by simp [intOf]; omega⟩
    · go_wp2
      go_ret
      exact ⟨rfl, W5.out⟩
end Go.Proofs.Ytcjojphajjoheaa

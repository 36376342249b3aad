/-
  Writes one behind the other are the same in two parts, one that does not lie within its memory refuses all, a write is there behind it: the plain half and the walk of the statement LinmemWrites.
-/
import Derived.Test.YtcjojphajjoheaaApply
import Derived.Test.YtcjojphajjoheaaEql
import Derived.Test.YtcjojphajjoheaaWorks
import Derived.Deep.CutRange
namespace Go.Proofs.Ytcjojphajjoheaa
open Go.RowKit

def mem0 : List UInt8 := [48, 49, 50, 51, 52, 53, 54, 55, 56, 57, 97, 98, 99, 100, 101, 102]
def mem1 : List UInt8 := [65, 66, 67, 68, 69, 70, 71, 72, 73, 74, 75, 76, 77, 78, 79, 80]
/-- In two parts. -/
theorem ap_parts (s : Two) (l : List Da) (k : Nat) :
    (apA s (l.take k) = (([], []), false) ∧ apA s l = (([], []), false)) ∨ ∃ s', apA s (l.take k) = (s', true) ∧ apA s l = apA s' (l.drop k) := by
  have h := apL_append (l.take k) (l.drop k) s
  rw [List.take_append_drop] at h
  cases h1 : apL s (l.take k) with
  | none =>
    left
    rw [h1] at h
    simp only at h
    exact ⟨by rw [apA, h1], by rw [apA, h]⟩
  | some s' =>
    right
    rw [h1] at h
    simp only at h
    exact ⟨s', by rw [apA, h1], by rw [apA, apA, h]⟩
theorem SDa.drop {B : Nat} {W : World} {b off : Nat} {l : List Da} (h : SDa B W (some ⟨b, off, none⟩) l) (n : Nat) : SDa B W (some ⟨b, off + n * 3, none⟩) (l.drop n) := by
  intro j hj
  have hj' : n + j < l.length := by rw [List.length_drop] at hj; omega
  obtain ⟨b', off', e, hb, hE⟩ := h (n + j) hj'
  simp only [Option.some.injEq, Addr.mk.injEq] at e
  obtain ⟨rfl, rfl, _⟩ := e
  refine ⟨b, off + n * 3, rfl, hb, ?_⟩
  have he : off + n * 3 + j * 3 = off + (n + j) * 3 := by rw [Nat.add_mul]; omega
  rw [he]
  simpa using hE
/-- The last write is there. -/
theorem ap_last (s s' : Two) (l : List Da) (hl : 0 < l.length) (h : apL s l = some s') :
    (l[l.length - 1].mem = 0 ∧ ∃ q : Nat, l[l.length - 1].pos = q ∧ q + l[l.length - 1].bytes.length ≤ s.1.length ∧ (s'.1.drop q).take l[l.length - 1].bytes.length = l[l.length - 1].bytes) ∨
    (l[l.length - 1].mem = 1 ∧ ∃ q : Nat, l[l.length - 1].pos = q ∧ q + l[l.length - 1].bytes.length ≤ s.2.length ∧ (s'.2.drop q).take l[l.length - 1].bytes.length = l[l.length - 1].bytes) := by
  have hlt : l.length - 1 < l.length := by omega
  cases h1 : apL s (l.take (l.length - 1)) with
  | none => rw [apL_none s l _ h1] at h; cases h
  | some t =>
    have h2 := apL_succ s t l (l.length - 1) hlt h1
    rw [show l.length - 1 + 1 = l.length by omega, List.take_length, h] at h2
    have hn := apL_len _ h1
    generalize l[l.length - 1] = d at *
    have sp : ∀ (r : List UInt8) (q : Nat), q + d.bytes.length ≤ r.length → ((splice r q d.bytes).drop q).take d.bytes.length = d.bytes := by
      intro r q hq
      have e1 : (r.take q).length = q := by rw [List.length_take]; omega
      simp only [splice]
      rw [List.drop_append_of_le_length (by omega), List.drop_of_length_le (by omega), List.nil_append, List.take_append_of_le_length (Nat.le_refl _), List.take_length]
    unfold ap1 at h2
    split at h2
    · rename_i hm
      split at h2
      · rename_i hw
        obtain ⟨q, e, hq⟩ := wit_fit hw
        cases h2
        left
        refine ⟨hm, q, e, by omega, ?_⟩
        simp only [e, Int.toNat_natCast]
        exact sp _ _ hq
      · cases h2
    · split at h2
      · rename_i hm
        split at h2
        · rename_i hw
          obtain ⟨q, e, hq⟩ := wit_fit hw
          cases h2
          right
          refine ⟨hm, q, e, by omega, ?_⟩
          simp only [e, Int.toNat_natCast]
          exact sp _ _ hq
        · cases h2
      · cases h2
theorem apply_n (x y : ByteArray) (a : Option Addr) (l : List Da) (n c : Nat) (w : World) (hx : x.size ≤ 140737488351232) (hy : y.size ≤ 140737488351232) (hl : l.length ≤ 9223372036854775807) (hn : l.length = n) (hd : SDa w.heap.size w a l) :
    Calls Try.prog 16 #[two x y, .slice a n c] w fun e w' => e = .returned (.tuple #[two (str (apA (x.data.toList, y.data.toList) l).1.1) (str (apA (x.data.toList, y.data.toList) l).1.2), .bool (apA (x.data.toList, y.data.toList) l).2]) ∧ Below w.heap.size w w' := by
  subst hn; exact apply_any x y a l c w hx hy hl hd
theorem ext_mid {l bs : List UInt8} {q : Nat} (h : (l.drop q).take bs.length = bs) : (((str l).extract q (q + bs.length)).toList == (str bs).toList) = true := by
  rw [ByteArray.toList_eq, ByteArray.toList_eq]
  simp only [ByteArray.data_extract, str]
  simp [List.extract_eq_take_drop, h]
/-- A box that is made behind a call, or ahead of it. -/
theorem box_after {w4 w5 : World} (h : Below w4.heap.size w4 w5) (u v : Value) : Below w4.heap.size w4 (w5.alloc (.cells #[u, v] 38)) ∧ Row (w5.alloc (.cells #[u, v] 38)) w5.heap.size #[u, v] 38 :=
  ⟨h.alloc h.size _, Row.made _ _ _⟩
theorem box_ahead {w4 w5 : World} {x y : Value} (h : Below w4.heap.size w4 w5) (q : Row w5 w4.heap.size #[x, y] 38) (u v : Value) :
    Below w4.heap.size w4 ((w5.setCell ⟨w4.heap.size, 0, none⟩ u).setCell ⟨w4.heap.size, 1, none⟩ v) ∧ Row ((w5.setCell ⟨w4.heap.size, 0, none⟩ u).setCell ⟨w4.heap.size, 1, none⟩ v) w4.heap.size #[u, v] 38 :=
  ⟨(h.setCell (Nat.le_refl _) _).setCell (Nat.le_refl _) _, (q.set 0 u).set 1 v⟩
theorem ahead_below {w4 w5 : World} (h : Below (w4.alloc (.cells #[.string ⟨#[]⟩, .string ⟨#[]⟩] 38)).drew.heap.size (w4.alloc (.cells #[.string ⟨#[]⟩, .string ⟨#[]⟩] 38)).drew w5) : Below w4.heap.size w4 w5 ∧ Row w5 w4.heap.size #[.string ⟨#[]⟩, .string ⟨#[]⟩] 38 :=
  ⟨((bel_one w4 _).trans (drew_below _ _)).trans (h.mono (by show w4.heap.size ≤ (w4.alloc _).heap.size; simp)), ((Row.made w4 _ 38).of_block (w' := (w4.alloc (.cells #[.string ⟨#[]⟩, .string ⟨#[]⟩] 38)).drew) rfl).kept h⟩
set_option maxRecDepth 20000 in
set_option maxHeartbeats 3200000 in
theorem writes_pp (x : Int) (b off : Nat) (L : List Da) (m c : Nat) (w : World) (hx : 0 ≤ x) (hx2 : x ≤ 9223372036854775807) (hd : Hid (SDa w.heap.size w (some ⟨b, off, none⟩) L)) (hmin : min (m : Int) 10 = (L.length : Int)) (hm : m ≤ c) (hL0 : 0 < L.length) :
    Calls Try.prog 7 #[.slice (some ⟨b, off, none⟩) m c, .int .i64 x] w fun e w' => e = .returned (.bool true) ∧ Below w.heap.size w w' := by
  have hx0 : decide (x < 0) = false := by simp; omega
  have hL10 : L.length ≤ 10 := by omega
  have hxm : 0 ≤ x % ((L.length : Int) + 1) ∧ x % ((L.length : Int) + 1) ≤ L.length := by
    have := Int.emod_nonneg x (show (L.length : Int) + 1 ≠ 0 by omega)
    have := Int.emod_lt_of_pos x (show 0 < (L.length : Int) + 1 by omega)
    omega
  obtain ⟨k, hk⟩ : ∃ k : Nat, x % ((L.length : Int) + 1) = k := ⟨(x % ((L.length : Int) + 1)).toNat, by omega⟩
  have hkl : k ≤ L.length := by omega
  have hlc : L.length ≤ c := by omega
  clear hxm
  obtain ⟨X, hX⟩ : ∃ X : ByteArray, Hid (X = ⟨#[48, 49, 50, 51, 52, 53, 54, 55, 56, 57, 97, 98, 99, 100, 101, 102]⟩) := ⟨_, rfl⟩
  obtain ⟨Y, hY⟩ : ∃ Y : ByteArray, Hid (Y = ⟨#[65, 66, 67, 68, 69, 70, 71, 72, 73, 74, 75, 76, 77, 78, 79, 80]⟩) := ⟨_, rfl⟩
  have hXs : X.size = 16 := by rw [hX.out]; rfl
  have hYs : Y.size = 16 := by rw [hY.out]; rfl
  go_enter Try.func7, Try.ntmps7
  go_wp2_with (fail)
  refine (examples_any _).mono ?_
  rintro e w1 ⟨rfl, b1⟩
  have D1 := hide (hd.out.step b1 b1.size)
  have B1 := hide b1
  clear b1 hd
  go_wp2_with (fail)
  rw [← hX.out, ← hY.out]
  have R1 := hide (Row.made w1 #[.string X, .string Y] 38)
  have B2 := hide (below_next B1.out (bel_one w1 (.cells #[.string X, .string Y] 38)) B1.out.size)
  have D2 := hide (D1.out.step (bel_one w1 (.cells #[.string X, .string Y] 38)) (bel_one w1 (.cells #[.string X, .string Y] 38)).size)
  generalize w1.alloc _ = w2 at R1 B2 D2 ⊢
  generalize w1.heap.size = g0 at *
  clear D1 B1
  refine (apply_any X Y (some ⟨b, off, none⟩) L c w2 (by omega) (by omega) (by omega) D2).mono ?_
  obtain ⟨r, HA⟩ : ∃ r, Hid (apA (X.data.toList, Y.data.toList) L = r) := ⟨_, rfl⟩
  rw [HA.out]
  rintro e w3 ⟨rfl, b3⟩
  have R3 := hide (R1.out.kept b3)
  have B3 := hide (below_next B2.out b3 B2.out.size)
  have D3 := hide (D2.out.step b3 b3.size)
  clear R1 B2 D2 b3
  have RA := hide (Row.made w3 #[.string (str r.1.1), .string (str r.1.2)] 38)
  have R4 := hide (R3.out.kept (bel_one w3 (.cells #[.string (str r.1.1), .string (str r.1.2)] 38)))
  have B4 := hide (below_next B3.out (bel_one w3 (.cells #[.string (str r.1.1), .string (str r.1.2)] 38)) B3.out.size)
  have D4 := hide (D3.out.step (bel_one w3 (.cells #[.string (str r.1.1), .string (str r.1.2)] 38)) (bel_one w3 (.cells #[.string (str r.1.1), .string (str r.1.2)] 38)).size)
  have hg1 : g0 < w3.heap.size := R3.out.lt
  clear R3 B3 D3
  go_upto_region 8 with fail
  generalize w3.alloc _ = w4 at RA R4 B4 D4 ⊢
  generalize w3.heap.size = g1 at *
  have c0 := R4.out.c 0 _ rfl
  have c1 := R4.out.c 1 _ rfl
  simp only [List.getElem_toArray, List.getElem_cons_zero, List.getElem_cons_succ] at c0 c1
  have hkc : k ≤ c := by omega
  have hg04 : g0 < w4.heap.size := R4.out.lt
  have hg14 : g1 < w4.heap.size := RA.out.lt
  obtain ⟨p, HPP⟩ : ∃ p, Hid (apA (X.data.toList, Y.data.toList) (L.take k) = p) := ⟨_, rfl⟩
  have AP : Hid (∀ W, Below w4.heap.size w4 W → Calls Try.prog 16 #[two X Y, .slice (some ⟨b, off, none⟩) k c] W fun e w' => e = .returned (.tuple #[two (str p.1.1) (str p.1.2), .bool p.2]) ∧ Below W.heap.size W w') := fun W hW => by
    have h := apply_n X Y (some ⟨b, off, none⟩) (L.take k) k c W (by omega) (by omega) (by rw [List.length_take]; omega) (by rw [List.length_take]; omega) ((D4.out.step hW hW.size).take k)
    rw [HPP.out] at h
    exact h
  go_cut [9, 10] from 37 to 44 (fun s9 s10 wx => ∃ gb : Nat, s9 = .pointer (some ⟨gb, 0, none⟩) ∧ s10 = .bool p.2 ∧ Hid (Row wx gb #[.string (str p.1.1), .string (str p.1.2)] 38) ∧ Hid (Below w4.heap.size w4 wx))
  case first =>
    go_region_with (go_at_call 16; first | (refine (AP.out _ (drew_below _ _)).mono ?_; rintro e w5 ⟨rfl, b5⟩; have T9 := b5) | (refine (AP.out _ ((bel_one w4 _).trans (drew_below _ _))).mono ?_; rintro e w5 ⟨rfl, b5⟩; obtain ⟨k5, q5⟩ := ahead_below b5; have q50 := q5.c 0 _ rfl; have q51 := q5.c 1 _ rfl; have f50 := q5.fr 0; have f51 := q5.fr 1))
    all_goals
      first
        | (have HK := hide (box_ahead k5 q5 (.string (str p.1.1)) (.string (str p.1.2))); clear q50 q51 f50 f51 k5 q5 b5; generalize (w5.setCell _ _).setCell _ _ = w6 at HK ⊢)
        | (have HK := hide (box_after ((drew_below _ w4).trans b5) (.string (str p.1.1)) (.string (str p.1.2))); clear T9 b5; generalize w5.alloc _ = w6 at HK ⊢)
      go_wp2_with fail
      go_meet
      case rel => exact ⟨_, rfl, rfl, HK.out.2, HK.out.1⟩
  case rest =>
    obtain ⟨gb, rfl, rfl, KB, K4⟩ := hcut
    have KA := hide (RA.out.kept K4.out)
    have KW := hide (below_next B4.out K4.out B4.out.size)
    have KD := hide (D4.out.step K4.out K4.out.size)
    clear K4 RA R4 B4 D4 AP c0 c1 hg04 hg14
    have a0 := KA.out.c 0 _ rfl
    have a1 := KA.out.c 1 _ rfl
    have b0 := KB.out.c 0 _ rfl
    have b1 := KB.out.c 1 _ rfl
    simp only [List.getElem_toArray, List.getElem_cons_zero, List.getElem_cons_succ] at a0 a1 b0 b1
    have hgb6 : gb < wc.heap.size := KB.out.lt
    have hga6 : g1 < wc.heap.size := KA.out.lt
    rcases ap_parts (X.data.toList, Y.data.toList) L k with ⟨p1, p2⟩ | ⟨s', p1, p2⟩
    · have hp : p = (([], []), false) := HPP.out.symm.trans p1
      have hr : r = (([], []), false) := HA.out.symm.trans p2
      subst hp
      subst hr
      clear p1 p2 HA HPP
      have hq : ∀ w, (Op.equalIn 10000 38 (.agg #[.string (str []), .string (str [])]) (.agg #[.string ⟨#[]⟩, .string ⟨#[]⟩])).run Try.prog w = .ok true w := eq_two (str []) (str [])
      go_wp2
      go_ret
      exact ⟨rfl, KW.out⟩
    · have hp : p = (s', true) := HPP.out.symm.trans p1
      subst hp
      have hsl := apL_len (L.take k) (s := (X.data.toList, Y.data.toList)) (s' := s') (by
        unfold apA at p1
        cases h : apL (X.data.toList, Y.data.toList) (L.take k) with
        | none => rw [h] at p1; cases p1
        | some z => rw [h] at p1; cases p1; rfl)
      simp only [list_size, hXs, hYs] at hsl
      have HP := hide (p2.symm.trans HA.out)
      have AQ : Hid (∀ (W : World) (A : Option Addr) (n C : Nat), (L.drop k).length = n → SDa W.heap.size W A (L.drop k) → Calls Try.prog 16 #[two (str s'.1) (str s'.2), .slice A n C] W fun e w' => e = .returned (.tuple #[two (str r.1.1) (str r.1.2), .bool r.2]) ∧ Below W.heap.size W w') := fun W A n C hn hS => by
        have h := apply_n (str s'.1) (str s'.2) A (L.drop k) n C W (by rw [str_size]; omega) (by rw [str_size]; omega) (by rw [List.length_drop]; omega) hn hS
        simp only [str_list] at h
        rw [show ((s'.1, s'.2) : Two) = s' from rfl, HP.out] at h
        exact h
      have HSL := hide hsl
      clear p1 p2 hsl HPP
      go_upto_region 11 with fail
      go_cut [11, 12] from 62 to 69 (fun s11 s12 wx => ∃ gc : Nat, s11 = .pointer (some ⟨gc, 0, none⟩) ∧ s12 = .bool r.2 ∧ Hid (Row wx gc #[.string (str r.1.1), .string (str r.1.2)] 38) ∧ Hid (Below wc.heap.size wc wx))
      case first =>
        have hdl : (L.drop k).length = L.length - k := List.length_drop
        have hA : Hid (∀ (W : World), Below wc.heap.size wc W → ∀ A, (k < L.length → A = some ⟨b, off + k * 3, none⟩) → SDa W.heap.size W A (L.drop k)) := fun W hW A hA => by
          by_cases h : k < L.length
          · rw [hA h]; exact (KD.out.step hW hW.size).drop k
          · rw [List.drop_of_length_le (by omega)]; exact SDa.isNil _ _ _
        by_cases hck : c = k
        · subst hck
          have hLk : ¬ c < L.length := by omega
          have hdz : (L.drop c).length = 0 := by rw [List.length_drop]; omega
          go_region_with (go_at_call 16; first | (refine (AQ.out _ _ 0 _ hdz (hA.out _ (drew_below _ _) _ (fun h => absurd h hLk))).mono ?_; rintro e w5 ⟨rfl, b5⟩; have T9 := b5) | (refine (AQ.out _ _ 0 _ hdz (hA.out _ ((bel_one wc _).trans (drew_below _ _)) _ (fun h => absurd h hLk))).mono ?_; rintro e w5 ⟨rfl, b5⟩; obtain ⟨k5, q5⟩ := ahead_below b5; have q50 := q5.c 0 _ rfl; have q51 := q5.c 1 _ rfl; have f50 := q5.fr 0; have f51 := q5.fr 1))
          all_goals
            first
              | (have HK := hide (box_ahead k5 q5 (.string (str r.1.1)) (.string (str r.1.2))); clear q50 q51 f50 f51 k5 q5 b5; generalize (w5.setCell _ _).setCell _ _ = w6 at HK ⊢)
              | (have HK := hide (box_after ((drew_below _ wc).trans b5) (.string (str r.1.1)) (.string (str r.1.2))); clear T9 b5; generalize w5.alloc _ = w6 at HK ⊢)
            go_wp2_with fail
            go_meet
            case rel => exact ⟨_, rfl, rfl, HK.out.2, HK.out.1⟩
        · have hck' : k < c := by omega
          go_region_with (go_at_call 16; first | (refine (AQ.out _ _ _ _ hdl (hA.out _ (drew_below _ _) _ (fun _ => rfl))).mono ?_; rintro e w5 ⟨rfl, b5⟩; have T9 := b5) | (refine (AQ.out _ _ _ _ hdl (hA.out _ ((bel_one wc _).trans (drew_below _ _)) _ (fun _ => rfl))).mono ?_; rintro e w5 ⟨rfl, b5⟩; obtain ⟨k5, q5⟩ := ahead_below b5; have q50 := q5.c 0 _ rfl; have q51 := q5.c 1 _ rfl; have f50 := q5.fr 0; have f51 := q5.fr 1))
          all_goals
            first
              | (have HK := hide (box_ahead k5 q5 (.string (str r.1.1)) (.string (str r.1.2))); clear q50 q51 f50 f51 k5 q5 b5; generalize (w5.setCell _ _).setCell _ _ = w6 at HK ⊢)
              | (have HK := hide (box_after ((drew_below _ wc).trans b5) (.string (str r.1.1)) (.string (str r.1.2))); clear T9 b5; generalize w5.alloc _ = w6 at HK ⊢)
            go_wp2_with fail
            go_meet
            case rel => exact ⟨_, rfl, rfl, HK.out.2, HK.out.1⟩
      case rest =>
        obtain ⟨gc, rfl, rfl, KC, K6⟩ := hcut
        have LA := hide (KA.out.kept K6.out)
        have LW := hide (below_next KW.out K6.out KW.out.size)
        have LD := hide (KD.out.step K6.out K6.out.size)
        clear KA KW KD K6 KB AQ a0 a1 b0 b1 hgb6 hga6
        have a0 := LA.out.c 0 _ rfl
        have a1 := LA.out.c 1 _ rfl
        have b0 := KC.out.c 0 _ rfl
        have b1 := KC.out.c 1 _ rfl
        simp only [List.getElem_toArray, List.getElem_cons_zero, List.getElem_cons_succ] at a0 a1 b0 b1
        have hL0' : ((L.length : Int) == 0) = false := by rw [beq_eq_false_iff_ne]; omega
        have hE := eq_two (str r.1.1) (str r.1.2)
        unfold apA at HA
        cases hap : apL (X.data.toList, Y.data.toList) L with
        | none =>
          have hr : r = (([], []), false) := by have h := HA.out; rw [hap] at h; exact h.symm
          subst hr
          clear HA hap HP
          have hq : ∀ w, (Op.equalIn 10000 38 (.agg #[.string (str []), .string (str [])]) (.agg #[.string ⟨#[]⟩, .string ⟨#[]⟩])).run Try.prog w = .ok true w := eq_two (str []) (str [])
          go_wp2
          go_ret
          exact ⟨rfl, LW.out⟩
        | some t =>
          have hr : r = (t, true) := by have h := HA.out; rw [hap] at h; exact h.symm
          subst hr
          have htl := apL_len L hap
          simp only [list_size, hXs, hYs] at htl
          have hlast := ap_last _ t L hL0 hap
          simp only [list_size, hXs, hYs] at hlast
          clear HA hap HP
          obtain ⟨j, hj⟩ : ∃ j : Nat, L.length - 1 = j := ⟨_, rfl⟩
          have hj1 : (L.length : Int) - 1 = (j : Int) := by omega
          have hjl : j < L.length := by omega
          obtain ⟨b', off', hax, hb', ⟨hi0, hi1, hi2⟩, g0', g1', g2'⟩ := LD.out j hjl
          simp only [Option.some.injEq, Addr.mk.injEq] at hax
          obtain ⟨rfl, rfl, _⟩ := hax
          simp only [hj] at hlast
          generalize L[j] = d at *
          obtain ⟨mem, pos, bs⟩ := d
          simp only at g0' g1' g2' hlast hi0 hi1 hi2
          have hz0 : (str t.1).size = 16 := by rw [str_size]; exact htl.1
          have hz1 : (str t.2).size = 16 := by rw [str_size]; exact htl.2
          have hbz : (str bs).size = bs.length := str_size bs
          have hgd : Hid (g1 < wc.heap.size) := LA.out.lt
          have QA := hide (LA.out.kept (bel_one wc (.cells #[.int .i64 mem, .int .i64 pos, .string (str bs)] 46)))
          have QW := hide (LW.out.alloc LW.out.size (.cells #[.int .i64 mem, .int .i64 pos, .string (str bs)] 46))
          have QD := hide (Row.made wc #[.int .i64 mem, .int .i64 pos, .string (str bs)] 46)
          clear LA LW LD KC hj htl HSL
          rcases hlast with ⟨rfl, q, rfl, hq, he⟩ | ⟨rfl, q, rfl, hq, he⟩
          all_goals
            go_upto_region 17 with fail
            generalize wc.alloc _ = w7 at QA QW QD ⊢
            clear a0 a1 b0 b1 g0' g1' g2' hE
            have a0 := QA.out.c 0 _ rfl
            have a1 := QA.out.c 1 _ rfl
            have d0 := QD.out.c 0 _ rfl
            have d1 := QD.out.c 1 _ rfl
            have d2 := QD.out.c 2 _ rfl
            simp only [List.getElem_toArray, List.getElem_cons_zero, List.getElem_cons_succ] at a0 a1 d0 d1 d2
            have hqe := ext_mid he
            have hq2 : q + bs.length ≤ 16 := hq
            have hq3 : q ≤ q + bs.length := by omega
            clear he hq
            go_quiet (fail)
            go_wp2
            go_ret
            exact ⟨rfl, QW.out.trans (drewN_below _ _ _)⟩
end Go.Proofs.Ytcjojphajjoheaa

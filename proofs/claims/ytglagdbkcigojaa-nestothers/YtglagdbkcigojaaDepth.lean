/-
  The program's Depth: of each place how many are open around it, or the error.
-/
import Derived.Test.YtglagdbkcigojaaSpans
namespace Go.Proofs.Ytglagdbkcigojaa
open Go.RowKit

/-- the depths, as far as place k -/
def dcel (f : Nat → Int) (n k : Nat) : List Value := (List.range n).map fun j => if j < k then .int .i64 ((arL f j (run f j)).length : Nat) else .int .i64 0
theorem dcel_len (f : Nat → Int) (n k : Nat) : (dcel f n k).length = n := by simp [dcel]
theorem dcel_at {f : Nat → Int} {n k j : Nat} (hj : j < n) : (dcel f n k)[j]? = some (if j < k then .int .i64 ((arL f j (run f j)).length : Nat) else .int .i64 0) := by simp [dcel, hj]
theorem dcel_set (f : Nat → Int) (n k : Nat) (_hk : k < n) : (dcel f n k).set k (.int .i64 ((arL f k (run f k)).length : Nat)) = dcel f n (k + 1) := by
  apply List.ext_getElem?
  intro j
  by_cases hj : j < n
  · by_cases hjk : k = j
    · subst hjk
      rw [List.getElem?_set_self (by rw [dcel_len]; exact hj), dcel_at hj, if_pos (by omega)]
    · rw [List.getElem?_set_ne hjk, dcel_at hj, dcel_at hj]
      by_cases h : j < k
      · rw [if_pos h, if_pos (by omega)]
      · rw [if_neg h, if_neg (by omega)]
  · rw [List.getElem?_eq_none (by rw [List.length_set, dcel_len]; omega), List.getElem?_eq_none (by rw [dcel_len]; omega)]
theorem dcel_0 (f : Nat → Int) (n : Nat) : dcel f n 0 = List.replicate n (.int .i64 0) := by
  apply List.ext_getElem?
  intro j
  by_cases hj : j < n
  · rw [dcel_at hj, if_neg (by omega)]; simp [hj]
  · rw [List.getElem?_eq_none (by rw [dcel_len]; omega), List.getElem?_eq_none (by simp; omega)]
section
variable {B : Nat} {vs vo vs' vo' : Value} {w w' : World}
theorem Fr.own (h : Fr B vs vo vs' vo' w w') {b e z n m c D : Nat} {xs : List Value} (ho : w.ownsRow b e z (.slice (some ⟨D, 0, none⟩) m c) n xs) (hb : B + 6 ≤ b) (h1 : vs.ownBlock ≠ some D) (h2 : vo.ownBlock ≠ some D) :
    w'.ownsRow b e z (.slice (some ⟨D, 0, none⟩) m c) n xs := by
  have hl := ho.lt D rfl
  refine ⟨ho.1, ?_⟩
  rcases ho.2 with h' | ⟨g, cap, cur, hv, hg, hh, r⟩
  · exact .inl h'
  · refine .inr ⟨g, cap, cur, hv, hg, ?_, r⟩
    cases hv
    exact (h.kp D (by omega) hl.2 h1 h2).trans hh
theorem Fr.apart (h : Fr B vs vo vs' vo' w w') {D : Nat} (hD : D < w.heap.size) (h1 : vs.ownBlock ≠ some D) (h2 : vo.ownBlock ≠ some D) : vs'.ownBlock ≠ some D ∧ vo'.ownBlock ≠ some D := by
  refine ⟨fun e => ?_, fun e => ?_⟩
  · rcases h.ns D e with e | e
    · exact h1 e
    · omega
  · rcases h.no D e with e | e
    · exact h2 e
    · omega
theorem Inv.far {a : Option Addr} {n c : Nat} {s : St} (h : Inv B a n c s vs vo w) {p : Addr} (hp : B + 6 ≤ p.block) (h1 : vs.ownBlock ≠ some p.block) (h2 : vo.ownBlock ≠ some p.block) (u : Value) : Inv B a n c s vs vo (w.setCell p u) :=
  ⟨h.bx.far hp u, ownsRow_setCell_other h.os h1 u, ownsRow_setCell_other h.oo h2 u⟩
theorem Inv.grow {a : Option Addr} {n c : Nat} {s : St} {w' : World} (h : Inv B a n c s vs vo w) (hb : Below w.heap.size w w') : Inv B a n c s vs vo w' :=
  ⟨h.bx.below hb h.bx.size, own_below h.os hb, own_below h.oo hb⟩
end
theorem below_of_grown {w w' : World} (h : w.grownBy w' none) : Below w.heap.size w w' := ⟨h.os, h.tape, h.output, h.size, fun k hk => h.block k hk (by simp)⟩

set_option maxRecDepth 100000 in
set_option maxHeartbeats 2000000 in
theorem depth_any (a : Option Addr) (n c n₀ : Nat) (f : Nat → Int) (w : World) (hO : Ops n₀ w a n f) (hn₀ : n₀ ≤ w.heap.size) (hn : n ≤ 1000) :
    Calls Try.prog 13 #[.slice a n c] w fun e w' => ∃ v, e = .returned (.tuple #[v, .int .i64 (er f n)]) ∧ (er f n = 0 → w'.ownsRow w.heap.size 3 1 v n (dcel f n n)) ∧ (er f n ≠ 0 → v = .slice none 0 0) ∧ Below w.heap.size w w' := by
  have HO := hide hO
  have HN := hide hn₀
  have OP := hide (opened_any a n c w)
  obtain ⟨i3, hi3, hz30, hz31, hz32⟩ := info_parts Try.info3
  have hib : i3.bytes * n ≤ 281474976710656 := by rw [hz32]; omega
  clear hO hn₀
  go_enter Try.func13, Try.ntmps13
  go_wp2_with fail
  refine OP.out.mono ?_
  rintro e w1 ⟨rfl, hI, hb⟩
  have HI := hide hI
  have hs1 := hI.bx.size
  clear hI OP
  unfold cloA cloE
  go_wp2_with (at_make; refine wpList_make_full _ rfl (.tmp 16) (.tmp 16) 32 rfl (w.heap.size + 6) 3 i3 (.int .i64 0) 1 Try.underlying32 hi3 hz30 hz31 .i64 .i64 n n n rfl rfl rfl rfl hib (by unfold maxLen; omega) hs1 ?_)
  intro w2 own2 grow2
  have OW2 : Hid (w2.ownsRow (w.heap.size + 6) 3 1 (.slice (some ⟨w1.heap.size, 0, none⟩) n n) n (dcel f n 0)) := hide (by
    rw [dcel_0, ← toList_madeCells_one]; simpa using own2)
  have HI2 := hide (HI.out.grow (below_of_grown grow2))
  have hb2 := hb.trans ((below_of_grown grow2).mono (by omega))
  clear own2 grow2 HI hb
  go_wp2_with fail
  go_loopw [20] (fun i wr => ∃ (k : Nat) (vs vo : Value), k ≤ n ∧ i = .int .i64 k ∧ Hid (Inv w.heap.size a n c (run f k) vs vo wr) ∧ Hid (vs.ownBlock ≠ some w1.heap.size ∧ vo.ownBlock ≠ some w1.heap.size) ∧ Hid (wr.ownsRow (w.heap.size + 6) 3 1 (.slice (some ⟨w1.heap.size, 0, none⟩) n n) n (dcel f n k)) ∧ Below w.heap.size w wr) (fun i _ => n - (intOf i).toNat)
  case atStart => exact ⟨0, _, _, by omega, rfl, HI2, hide ⟨by simp [Value.ownBlock], by simp [Value.ownBlock]⟩, OW2, hb2⟩
  case round =>
    obtain ⟨k, vs, vo, hk, rfl, hIk, hne, how, hbk⟩ := hrel
    by_cases hlt : k < n
    · have AR := hide (around_any w.heap.size n c a f k vs vo wr hIk.out ((HO.out.below hbk HN.out).mono HN.out) hlt hn)
      clear hIk HI2 OW2
      go_wp2_with fail
      refine AR.out.mono ?_
      rintro e w3 ⟨a3, m3, c3, rfl, hrd, vs3, vo3, hI3, hF3⟩
      have hm3 : m3 = (arL f k (run f k)).length := hrd.1
      have ow3 := hF3.own how.out (Nat.le_refl _) hne.out.1 hne.out.2
      have hD := how.out.lt w1.heap.size rfl
      have ap3 := hide (hF3.apart hD.2 hne.out.1 hne.out.2)
      have HI4 := hide (hI3.far (p := ⟨w1.heap.size, k, none⟩) (by show _ ≤ w1.heap.size; omega) ap3.out.1 ap3.out.2 (.int .i64 m3))
      have hq := ow3.cellAt k (by omega)
      rw [dcel_at hlt, if_neg (by omega)] at hq
      have hz := ow3.frozenAt k
      have OW4 := hide (ow3.stored k (.int .i64 m3)).1
      have hb3 := (hbk.trans hF3.bl).setCell (p := ⟨w1.heap.size, k, none⟩) (by show _ ≤ w1.heap.size; omega) (.int .i64 m3)
      have HM3 := hide hm3
      clear hI3 hF3 AR hrd ow3 how hne hm3
      go_wp2_with fail
      go_roundw
      case rel =>
        refine ⟨k + 1, vs3, vo3, by omega, by go_num, HI4, ap3, ?_, hb3⟩
        have := OW4.out
        rw [HM3.out, dcel_set f n k hlt] at this
        rw [HM3.out]
        exact hide this
      case measure => simp [intOf]; omega
    · obtain rfl : k = n := by omega
      have EN := hide (end_any w.heap.size a k c (run f k) vs vo wr hIk.out (by have := (run_len f k).2.2; omega))
      clear HI2 OW2
      rw [← er_is] at EN
      by_cases he : er f k = 0
      · rw [he] at EN
        have HE := hide he
        clear he
        go_wp2_with fail
        refine EN.out.mono ?_
        rintro e w4 ⟨v, rfl, _, _, rfl⟩
        clear EN
        go_wp2_with fail
        go_ret2
        rw [HE.out]
        exact ⟨_, rfl, fun _ => own_mono how.out (by omega), fun h => absurd rfl h, hbk⟩
      · obtain ⟨q, hq⟩ : ∃ q, er f k = q := ⟨_, rfl⟩
        rw [hq] at EN he
        have HE := hide he
        have HQ := hide hq
        clear hq
        go_wp2_with fail
        refine EN.out.mono ?_
        rintro e w4 ⟨v, rfl, _, _, rfl⟩
        clear EN
        go_wp2_with fail
        go_ret2
        rw [HQ.out]
        exact ⟨_, rfl, fun h => absurd h HE.out, fun _ => rfl, hbk⟩
end Go.Proofs.Ytglagdbkcigojaa

/-
  New answers a memory at its beginning; it makes memory of its own alone.
-/
import Derived.Test.YtcjojphajjoheaaData
import Derived.Deep.RegionLaw
namespace Go.Proofs.Ytcjojphajjoheaa
open Go.RowKit

/-- How many bytes a memory of exponent m has. -/
def pw (m : Int) : Nat := if 3 ≤ m ∧ m ≤ 12 then 2 ^ m.toNat else 0
def szo (m0 m1 k : Int) : Nat := if k = 0 then pw m0 else if k = 1 then pw m1 else 0
theorem pw_le (m : Int) : pw m ≤ 4096 := by
  unfold pw; split
  · have : (2 : Nat) ^ m.toNat ≤ 2 ^ 12 := Nat.pow_le_pow_right (by decide) (by omega)
    exact this
  · omega
theorem szo_le (m0 m1 k : Int) : szo m0 m1 k ≤ 4096 := by
  unfold szo; split
  · exact pw_le _
  · split
    · exact pw_le _
    · omega
section
variable (a0 a1 a2 a5 a6 : Option Addr) (n0 c0 n1 c1 n2 c2 n5 c5 n6 c6 : Nat) (m0 m1 : Int)
/-- A module as it is handed in. -/
abbrev mo : Value := .agg #[.slice a0 n0 c0, .slice a1 n1 c1, .slice a2 n2 c2, .int .i64 m0, .int .i64 m1, .slice a5 n5 c5, .slice a6 n6 c6]
abbrev moC : Array Value := #[.slice a0 n0 c0, .slice a1 n1 c1, .slice a2 n2 c2, .int .i64 m0, .int .i64 m1, .slice a5 n5 c5, .slice a6 n6 c6]
set_option maxHeartbeats 1600000 in
theorem size_at0 (w : World) (m : Int) :
    Calls Try.prog 20 #[.agg #[.slice a0 n0 c0, .slice a1 n1 c1, .slice a2 n2 c2, .int .i64 m, .int .i64 m1, .slice a5 n5 c5, .slice a6 n6 c6], .int .i64 0] w fun e w' => e = .returned (.int .i64 (pw m)) ∧ Below w.heap.size w w' := by
  by_cases h3 : m < 3
  · go_enter Try.func20, Try.ntmps20
    go_wp2
    go_ret
    exact ⟨ret_int (by unfold pw; rw [if_neg (by omega)]; rfl), bel_one _ _⟩
  · by_cases h12 : 12 < m
    · go_enter Try.func20, Try.ntmps20
      go_wp2
      go_ret
      exact ⟨ret_int (by unfold pw; rw [if_neg (by omega)]; rfl), bel_one _ _⟩
    · have hm : m = 3 ∨ m = 4 ∨ m = 5 ∨ m = 6 ∨ m = 7 ∨ m = 8 ∨ m = 9 ∨ m = 10 ∨ m = 11 ∨ m = 12 := by omega
      rcases hm with rfl | rfl | rfl | rfl | rfl | rfl | rfl | rfl | rfl | rfl
      all_goals
        go_enter Try.func20, Try.ntmps20
        go_wp2
        go_ret
        exact ⟨rfl, bel_one _ _⟩
set_option maxHeartbeats 1600000 in
theorem size_at1 (w : World) (m : Int) :
    Calls Try.prog 20 #[.agg #[.slice a0 n0 c0, .slice a1 n1 c1, .slice a2 n2 c2, .int .i64 m0, .int .i64 m, .slice a5 n5 c5, .slice a6 n6 c6], .int .i64 1] w fun e w' => e = .returned (.int .i64 (pw m)) ∧ Below w.heap.size w w' := by
  by_cases h3 : m < 3
  · go_enter Try.func20, Try.ntmps20
    go_wp2
    go_ret
    exact ⟨ret_int (by unfold pw; rw [if_neg (by omega)]; rfl), bel_one _ _⟩
  · by_cases h12 : 12 < m
    · go_enter Try.func20, Try.ntmps20
      go_wp2
      go_ret
      exact ⟨ret_int (by unfold pw; rw [if_neg (by omega)]; rfl), bel_one _ _⟩
    · have hm : m = 3 ∨ m = 4 ∨ m = 5 ∨ m = 6 ∨ m = 7 ∨ m = 8 ∨ m = 9 ∨ m = 10 ∨ m = 11 ∨ m = 12 := by omega
      rcases hm with rfl | rfl | rfl | rfl | rfl | rfl | rfl | rfl | rfl | rfl
      all_goals
        go_enter Try.func20, Try.ntmps20
        go_wp2
        go_ret
        exact ⟨rfl, bel_one _ _⟩
set_option maxHeartbeats 1600000 in
theorem size_any (k : Int) (w : World) :
    Calls Try.prog 20 #[mo a0 a1 a2 a5 a6 n0 c0 n1 c1 n2 c2 n5 c5 n6 c6 m0 m1, .int .i64 k] w fun e w' => e = .returned (.int .i64 (szo m0 m1 k)) ∧ Below w.heap.size w w' := by
  by_cases h0 : k = 0
  · subst h0; exact size_at0 _ _ _ _ _ _ _ _ _ _ _ _ _ _ _ _ _ _
  · by_cases h1 : k = 1
    · subst h1; exact size_at1 _ _ _ _ _ _ _ _ _ _ _ _ _ _ _ _ _ _
    · have e : szo m0 m1 k = 0 := by unfold szo; rw [if_neg h0, if_neg h1]
      rw [e]
      by_cases hn : k < 0
      · go_enter Try.func20, Try.ntmps20
        go_wp2
        go_ret
        exact ⟨rfl, bel_one _ _⟩
      · have h2 : 2 ≤ k := by omega
        go_enter Try.func20, Try.ntmps20
        go_wp2
        go_ret
        exact ⟨rfl, bel_one _ _⟩
end
/-- One datum is laid. -/
def dat1 (size : Nat) (k : Int) (r : List UInt8) (d : Da) : List UInt8 := if d.mem = k ∧ 0 ≤ d.pos ∧ d.pos < size then splice r d.pos.toNat (d.bytes.take (size - d.pos.toNat)) else r
def room (size : Nat) (k : Int) (l : List Da) : List UInt8 := l.foldl (dat1 size k) (List.replicate 4096 0)
def newL (m0 m1 k : Int) (l : List Da) : List UInt8 := (room (szo m0 m1 k) k l).take (szo m0 m1 k)
theorem dat1_len (size : Nat) (k : Int) (r : List UInt8) (d : Da) (h : size ≤ r.length) : (dat1 size k r d).length = r.length := by
  unfold dat1; split
  · rw [length_splice]; simp; omega
  · rfl
theorem room_len (size : Nat) (k : Int) (l : List Da) (h : size ≤ 4096) : (room size k l).length = 4096 := by
  unfold room
  have : ∀ (l : List Da) (r : List UInt8), r.length = 4096 → (l.foldl (dat1 size k) r).length = 4096 := by
    intro l
    induction l with
    | nil => intro r hr; exact hr
    | cons d l ih => intro r hr; exact ih _ (by rw [dat1_len _ _ _ _ (by omega)]; exact hr)
  exact this l _ List.length_replicate
theorem room_succ (size : Nat) (k : Int) (l : List Da) (j : Nat) (h : j < l.length) : room size k (l.take (j + 1)) = dat1 size k (room size k (l.take j)) l[j] := by
  unfold room; rw [List.take_succ_eq_append_getElem h, List.foldl_append]; rfl
theorem len54 : Try.prog.arrayLen 54 = 4096 := by kernel_rfl
theorem und54 : Try.prog.underlying 54 = some (.array (Try.prog.arrayLen 54) (Try.prog.elem 54)) := by kernel_rfl
theorem el54 : Try.prog.elem 54 = 5 := by kernel_rfl
theorem cut54 (w : World) (g p sz : Nat) (h1 : p ≤ sz) (h2 : sz ≤ 4096) (h3 : p < 4096) :
    (Instr.sliceAt 54 (.pointer (some ⟨g, 0, none⟩)) (some (.int .i64 (p : Int))) (some (.int .i64 (sz : Int))) none).run Try.prog w = .ok (.slice (some ⟨g, p, none⟩) (sz - p) (4096 - p)) w := by
  have ha : (⟨g, 0, none⟩ : Addr).add p = ⟨g, p, none⟩ := by unfold Addr.add; split <;> simp_all
  rw [run_sliceAt_array_lh w 54 ⟨g, 0, none⟩ und54 .i64 .i64 p sz (by omega) (by omega) (by rw [len54]; omega), el54, z5]
  simp only [Result.andThen_ok, slicedAt, len54, Int.toNat_natCast, Nat.mul_one]
  rw [if_neg (by omega), ha]
theorem cut54h (w : World) (g sz : Nat) (h2 : sz ≤ 4096) :
    (Instr.sliceAt 54 (.pointer (some ⟨g, 0, none⟩)) none (some (.int .i64 (sz : Int))) none).run Try.prog w = .ok (.slice (some ⟨g, 0, none⟩) sz 4096) w := by
  rw [run_sliceAt_array_h w 54 ⟨g, 0, none⟩ und54 .i64 sz (by omega) (by rw [len54]; omega), el54, z5]
  simp only [Result.andThen_ok, slicedAt, len54, Int.toNat_natCast, Nat.zero_mul, Nat.sub_zero]
  simp [Addr.add]
theorem zeros4096 (w : World) : BRow (w.alloc (.cells (Array.replicate 4096 (.int .u8 0)) 54)) w.heap.size (List.replicate 4096 0) := by
  refine BRow.made w _ 54 _ fun j hj => ?_
  simp only [List.length_replicate] at hj
  rw [Array.getElem?_replicate, if_pos hj, List.getElem_replicate]; rfl
set_option maxHeartbeats 1600000 in
theorem new_any (a0 a1 a2 a5 a6 : Option Addr) (n0 c0 n1 c1 n2 c2 n5 c5 c6 : Nat) (m0 m1 k : Int) (l : List Da) (w : World) (hl : l.length ≤ 9223372036854775807) (hd : Hid (SDa w.heap.size w a6 l)) :
    Calls Try.prog 14 #[mo a0 a1 a2 a5 a6 n0 c0 n1 c1 n2 c2 n5 c5 l.length c6 m0 m1, .int .i64 k] w fun e w' => e = .returned (.string (str (newL m0 m1 k l))) ∧ Below w.heap.size w w' := by
  have hs4 := szo_le m0 m1 k
  have hN : Hid (newL m0 m1 k l = (room (szo m0 m1 k) k l).take (szo m0 m1 k)) := rfl
  have HR := hide (Row.made w (moC a0 a1 a2 a5 a6 n0 c0 n1 c1 n2 c2 n5 c5 l.length c6 m0 m1) 29)
  have HW := hide (bel_one w (.cells (moC a0 a1 a2 a5 a6 n0 c0 n1 c1 n2 c2 n5 c5 l.length c6 m0 m1) 29))
  have hz0 : Hid ((w.alloc (.cells (moC a0 a1 a2 a5 a6 n0 c0 n1 c1 n2 c2 n5 c5 l.length c6 m0 m1) 29)).heap.size = w.heap.size + 1) := by show _ = _; simp
  have hal := hide alloc54
  go_enter Try.func14, Try.ntmps14
  obtain ⟨sz, HS⟩ : ∃ sz, Hid (szo m0 m1 k = sz) := ⟨_, rfl⟩
  rw [HS.out] at hs4 hN
  go_wp2_with (first | (go_at_call 20; refine (size_any _ _ _ _ _ _ _ _ _ _ _ _ _ _ _ _ _ _ _).mono ?_; rw [HS.out]; rintro e w1 ⟨rfl, hb1⟩; have HR1 := hide (HR.out.kept hb1); have HW1 := hide (HW.out.trans (hb1.mono (by rw [hz0.out]; omega))); have hz1 := hide (hb1.size); rw [hz0.out] at hz1; clear hb1 HR HW hz0) | (refine wpList_alloc_row rfl 54 rfl _ (hal.out _) ?_; intro w2 hw2; have HW2 : Hid (Below w.heap.size w w2) := (by show Below _ _ _; rw [hw2.out]; exact HW1.out.alloc (Nat.le_of_succ_le hz1.out) _); have HB2 : Hid (BRow w2 w1.heap.size (List.replicate 4096 0)) := (by show BRow _ _ _; rw [hw2.out]; exact zeros4096 w1); have cc : w2.cell? ⟨w.heap.size, 6, none⟩ = some (.slice a6 l.length c6) := (by rw [hw2.out]; exact (HR1.out.kept (bel_one _ _)).c 6 _ rfl); have hgg := Nat.lt_of_succ_le hz1.out; generalize w1.heap.size = g at HB2 hgg ⊢; clear hw2 HR1 HW1 hal hz1))
  have hrl := fun (t : List Da) => room_len sz k t hs4
  go_loopw [15] (fun i wr => ∃ j : Nat, j ≤ l.length ∧ i = .int .i64 j ∧ Hid (BRow wr g (room sz k (l.take j))) ∧ Hid (Below w.heap.size w wr)) (fun i _ => l.length - (intOf i).toNat)
  case atStart => exact ⟨0, Nat.zero_le _, rfl, HB2, HW2⟩
  case round =>
    obtain ⟨j, hj, rfl, HB, HW⟩ := hrel
    clear HB2 HW2 cc
    by_cases hlt : j < l.length
    · obtain ⟨b, off, hax, hb, ⟨hi0, hi1, hi2⟩, g0, g1, g2⟩ := hd.out j hlt
      have x0 := (HW.out.cell (p := ⟨b, off + j * 3, none⟩) hb).trans g0
      have x1 := (HW.out.cell (p := ⟨b, off + j * 3 + 1, none⟩) hb).trans g1
      have x2 := (HW.out.cell (p := ⟨b, off + j * 3 + 2, none⟩) hb).trans g2
      have hsu := hide (room_succ sz k l j hlt)
      have hlen := hrl (l.take j)
      subst hax
      clear g0 g1 g2 hd
      generalize l[j] = d at *
      obtain ⟨mem, pos, bs⟩ := d
      simp only at x0 x1 x2 hi0 hi1 hi2
      have HAl := hide (HW.out.alloc HW.out.size (.cells #[.int .i64 mem, .int .i64 pos, .string (str bs)] 48))
      have HBl := hide (HB.out.kept (bel_one wr (.cells #[.int .i64 mem, .int .i64 pos, .string (str bs)] 48)))
      obtain ⟨hp1, hp2⟩ := hi1
      by_cases hm : mem = k
      · subst hm
        by_cases h0 : 0 ≤ pos
        · obtain ⟨p, rfl⟩ : ∃ p : Nat, pos = p := ⟨pos.toNat, by omega⟩
          by_cases hs : p < sz
          · have hN' := hide (show room sz mem (l.take (j + 1)) = splice (room sz mem (l.take j)) p (bs.take (sz - p)) by rw [hsu.out]; unfold dat1; rw [if_pos ⟨rfl, by simp only; omega, by simp only; omega⟩]; rfl)
            have hfit : Hid (p + min (str bs).size (sz - p) ≤ (room sz mem (l.take j)).length) := by show _ ≤ _; rw [hlen]; omega
            have hp3 : p ≤ sz := by omega
            have hct := fun wx => cut54 wx g p sz (by omega) hs4 (by omega)
            go_wp2
            go_region_law (refine step_copy_str rfl (.tmp 37) (.tmp 39) 51 9 rfl 5 u50 z5 g p (sz - p) (4096 - p) (by simp [Act.eval, Act.put]) (str bs) (by simp [Act.eval, Act.put]) (room sz mem (l.take j)) (HBl.out.of_block rfl) hfit.out ?_; intro w3 hw3)
            all_goals
              have HB3 : Hid (BRow w3 g (room sz mem (l.take (j + 1)))) := by
                show BRow _ _ _
                rw [hN'.out]
                have hx := hw3.out
                rw [str_list] at hx
                exact BRow.copied (l := room sz mem (l.take j)) (off := p) (x := bs.take (sz - p)) (HBl.out.of_block (w' := (wr.alloc (.cells #[.int .i64 mem, .int .i64 p, .string (str bs)] 48)).drew) rfl) (by rw [List.length_take, hlen]; omega) hx
              have HW3 : Hid (Below w.heap.size w w3) := by
                show Below _ _ _
                rw [hw3.out]
                exact Lib.below_setCells _ (Nat.le_of_lt hgg) _ _ (HAl.out.trans (drew_below _ _))
              clear hw3
              go_wp2
              exact ⟨⟨j + 1, hlt, by go_num, HB3, HW3⟩, by simp [intOf]; omega⟩
          · have hN' := hide (show room sz mem (l.take (j + 1)) = room sz mem (l.take j) by rw [hsu.out]; unfold dat1; rw [if_neg (by simp only; omega)])
            have hs' : decide (p < sz) = false := by simp; omega
            go_wp2
            exact ⟨⟨j + 1, hlt, by go_num, by rw [hN'.out]; exact HBl, HAl⟩, by simp [intOf]; omega⟩
        · have hN' := hide (show room sz mem (l.take (j + 1)) = room sz mem (l.take j) by rw [hsu.out]; unfold dat1; rw [if_neg (by simp only; omega)])
          have h0' : decide (0 ≤ pos) = false := by simp; omega
          go_wp2
          exact ⟨⟨j + 1, hlt, by go_num, by rw [hN'.out]; exact HBl, HAl⟩, by simp [intOf]; omega⟩
      · have hN' := hide (show room sz k (l.take (j + 1)) = room sz k (l.take j) by rw [hsu.out]; unfold dat1; rw [if_neg (by simp only; omega)])
        have hm' : (mem == k) = false := by simpa using hm
        go_wp2
        exact ⟨⟨j + 1, hlt, by go_num, by rw [hN'.out]; exact HBl, HAl⟩, by simp [intOf]; omega⟩
    · have hcv := fun wx => cut54h wx g sz hs4
      have hse : l.take j = l := List.take_of_length_le (by omega)
      have hst : ∀ wx : World, wx.heap = wr.heap → (convert 51 9 (.slice (some ⟨g, 0, none⟩) sz 4096)).run Try.prog wx = .ok (.string (str ((room sz k l).take sz))) wx := fun wx hx => by
        have h := HB.out
        rw [hse] at h
        exact run_str_of (P := Try.prog) (h.of_block (w' := wx) (by rw [hx])) 51 9 5 sz 4096 (by rw [hrl]; exact hs4) (by kernel_rfl) (by kernel_rfl) (by kernel_rfl)
      have hc0 := hst wr rfl
      clear hst
      rw [← hN.out] at hc0
      have hc1 : l.length ≤ j := by omega
      go_wp2
      go_ret
      exact ⟨rfl, HW.out⟩
end Go.Proofs.Ytcjojphajjoheaa

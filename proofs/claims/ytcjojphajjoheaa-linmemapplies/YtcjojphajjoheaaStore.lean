/-
  Store answers the memory with a number's low bytes at the place, or the empty text and false; it makes memory of its own alone.
-/
import Derived.Test.YtcjojphajjoheaaLoad
import Derived.BigQuiet
import Derived.Deep.QuietTactic
namespace Go.Proofs.Ytcjojphajjoheaa
open Go.RowKit

theorem BRow.set {w : World} {b k : Nat} {l : List UInt8} (h : BRow w b l) (_hk : k < l.length) (x : UInt8) : BRow (w.setCell ⟨b, k, none⟩ (.int .u8 (x.toNat : Int))) b (l.set k x) := by
  refine ⟨by simpa [World.setCell] using h.1, fun j hj => ?_⟩
  have hj' : j < l.length := by simpa using hj
  obtain ⟨h1, h2⟩ := h.2 j hj'
  by_cases e : j = k
  · subst e
    constructor
    · have := World.cell?_setCells_in b [.int .u8 (x.toNat : Int)] j w (fun i hi => by simp at hi; subst hi; rw [Nat.add_zero, h1]; rfl) 0 (by simp)
      simpa [World.setCells] using this
    · have := World.frozen?_setCells b [.int .u8 (x.toNat : Int)] j w ⟨b, j, none⟩
      rw [h2] at this
      simpa [World.setCells] using this
  · constructor
    · have := World.cell?_setCells_out b [.int .u8 (x.toNat : Int)] k w ⟨b, j, none⟩ (fun _ _ => by show j < k ∨ k + 1 ≤ j; omega)
      rw [h1] at this
      rw [List.getElem_set_ne (by omega)]
      simpa [World.setCells] using this
    · have := World.frozen?_setCells b [.int .u8 (x.toNat : Int)] k w ⟨b, j, none⟩
      rw [h2] at this
      simpa [World.setCells] using this
/-- The eight cells behind k rounds. -/
def rnd (v : Int) (k : Nat) : List UInt8 := (bys 8 v).take k ++ List.replicate (8 - k) 0
theorem rnd_len (v : Int) (k : Nat) (h : k ≤ 8) : (rnd v k).length = 8 := by simp [rnd, bys_len]; omega
theorem rnd_set (v : Int) (k : Nat) (h : k < 8) : (rnd v k).set k (by8 (v / 256 ^ k)) = rnd v (k + 1) := by
  apply List.ext_getElem
  · simp [rnd, bys_len]; omega
  · intro j h1 h2
    have hl : (bys 8 v).length = 8 := bys_len 8 v
    have h8 : j < 8 := by simpa [rnd_len v (k + 1) h] using h2
    rw [List.getElem_set]
    simp only [rnd]
    by_cases e : k = j
    · subst e
      simp only [if_pos]
      rw [List.getElem_append_left (by simp [hl]; omega), List.getElem_take, bys_get]
    · simp only [if_neg e]
      by_cases hj : j < k
      · rw [List.getElem_append_left (by simp [hl]; omega), List.getElem_append_left (by simp [hl]; omega)]
        simp
      · rw [List.getElem_append_right (by simp [hl]; omega), List.getElem_append_right (by simp [hl]; omega)]
        simp
theorem rnd_end (v : Int) (n : Nat) (h : n ≤ 8) : (rnd v 8).take n = bys n v := by
  apply List.ext_getElem
  · simp [rnd, bys_len]; omega
  · intro j h1 h2
    have hl : (bys 8 v).length = 8 := bys_len 8 v
    have hj : j < n := by simpa [bys_len] using h2
    simp only [rnd, List.getElem_take]
    rw [List.getElem_append_left (by simp [hl]; omega), List.getElem_take, bys_get, bys_get]
theorem by8_at (v : Int) (x : Int) (hx : x = v % 256) : Value.int .u8 x = .int .u8 ((by8 v).toNat : Int) := by rw [by8_val, hx]
/-- What Store answers. -/
def stv (s : List UInt8) (p n : Nat) (v : Int) : List UInt8 := s.take p ++ (bys n v ++ s.drop (p + n))
def stA (s : List UInt8) (a o n v : Int) : List UInt8 × Bool :=
  if right n = true ∧ wit s.length (adr a o) n = true then (stv s (adr a o).toNat n.toNat v, true) else ([], false)
def str (l : List UInt8) : ByteArray := ⟨l.toArray⟩
theorem str_cat (s : ByteArray) (x : List UInt8) (p n : Nat) : s.extract 0 p ++ str x ++ s.extract (p + n) s.size = str (s.data.toList.take p ++ (x ++ s.data.toList.drop (p + n))) := by
  apply ByteArray.ext
  simp only [str, ByteArray.data_append, ByteArray.data_extract]
  apply Array.ext'
  simp only [Array.toList_append, Array.toList_extract, List.extract_eq_take_drop, List.drop_zero, Nat.sub_zero, List.append_assoc]
  rw [List.take_of_length_le (l := List.drop (p + n) s.data.toList) (by simp)]
theorem drew_below (B : Nat) (w : World) : Below B w w.drew := ⟨rfl, rfl, rfl, Nat.le_refl _, fun _ _ => rfl⟩
set_option maxHeartbeats 800000 in
theorem store_no (s : ByteArray) (a o n v : Int) (w : World) (hs : s.size ≤ 140737488351232) (hk : (plc s.size a o n).2 = false) :
    Calls Try.prog 12 #[.string s, .int .i64 a, .int .i64 o, .int .i64 n, .int .i64 v] w fun e w' => e = .returned (.tuple #[.string (str []), .bool false]) ∧ w' = w := by
  go_enter Try.func12, Try.ntmps12
  go_wp2_with (go_at_call 18; refine (place_any _ _ _ _ _ hs).mono ?_; rintro e w' ⟨rfl, rfl⟩)
  go_ret2
  exact ⟨rfl, rfl⟩
set_option maxHeartbeats 1600000 in
theorem store_yes4 (s : ByteArray) (a o v : Int) (p : Nat) (w : World) (hv1 : I64 v) (hs : s.size ≤ 140737488351232) (hp : Hid (plc s.size a o 4 = ((p : Int), true))) (hfit : p + 4 ≤ s.size) :
    Calls Try.prog 12 #[.string s, .int .i64 a, .int .i64 o, .int .i64 4, .int .i64 v] w fun e w' => e = .returned (.tuple #[.string (str (stv s.data.toList p 4 v)), .bool true]) ∧ Below w.heap.size w w' := by
  obtain ⟨hva, hvb⟩ := hv1
  have h1 : p ≤ s.size := by omega
  have hb1 := hide ((Below.refl w.heap.size w).alloc (Nat.le_refl _) (.cells #[.int .u8 0, .int .u8 0, .int .u8 0, .int .u8 0, .int .u8 0, .int .u8 0, .int .u8 0, .int .u8 0] 50))
  have hB := hide (zeros8 w)
  go_enter Try.func12, Try.ntmps12
  go_wp2_with (go_at_call 18; refine (place_any _ _ _ _ _ hs).mono ?_; rw [hp.out]; rintro e w' ⟨rfl, hw⟩; have hw2 := hw.symm; subst hw2; clear hw)
  generalize w.alloc _ = w1 at hB hb1 ⊢
  go_loopw [26] (fun i wr => ∃ k : Nat, k ≤ 8 ∧ i = .int .i64 k ∧ Hid (BRow wr w.heap.size (rnd v k)) ∧ Hid (Below w.heap.size w wr)) (fun i _ => 8 - (intOf i).toNat)
  case atStart => exact ⟨0, Nat.zero_le _, rfl, hB, hb1⟩
  case round =>
    obtain ⟨k, hk, rfl, HB, HW⟩ := hrel
    clear hB hb1
    have hk' : k = 0 ∨ k = 1 ∨ k = 2 ∨ k = 3 ∨ k = 4 ∨ k = 5 ∨ k = 6 ∨ k = 7 ∨ k = 8 := by omega
    rcases hk' with rfl | rfl | rfl | rfl | rfl | rfl | rfl | rfl | rfl
    · have c := (HB.out.2 0 (by rw [rnd_len v 0 (by decide)]; decide)).1
      have f := (HB.out.2 0 (by rw [rnd_len v 0 (by decide)]; decide)).2
      have NB := hide (HB.out.set (k := 0) (by rw [rnd_len v 0 (by decide)]; decide) (by8 (v / 256 ^ 0)))
      rw [rnd_set v 0 (by decide), by8_val, show (256 : Int) ^ 0 = 1 from by decide, Int.ediv_one] at NB
      have NW := hide (HW.out.setCell (p := ⟨w.heap.size, 0, none⟩) (Nat.le_refl _) (.int .u8 (v / 1 % 256)))
      rw [Int.ediv_one] at NW
      go_wp2
      exact ⟨⟨1, by decide, rfl, NB, NW⟩, by simp [intOf]⟩
    · have c := (HB.out.2 1 (by rw [rnd_len v 1 (by decide)]; decide)).1
      have f := (HB.out.2 1 (by rw [rnd_len v 1 (by decide)]; decide)).2
      have NB := hide (HB.out.set (k := 1) (by rw [rnd_len v 1 (by decide)]; decide) (by8 (v / 256 ^ 1)))
      rw [rnd_set v 1 (by decide), by8_val, show (256 : Int) ^ 1 = 256 from by decide] at NB
      have NW := hide (HW.out.setCell (p := ⟨w.heap.size, 1, none⟩) (Nat.le_refl _) (.int .u8 (v / 256 % 256)))
      skip
      go_wp2
      exact ⟨⟨2, by decide, rfl, NB, NW⟩, by simp [intOf]⟩
    · have c := (HB.out.2 2 (by rw [rnd_len v 2 (by decide)]; decide)).1
      have f := (HB.out.2 2 (by rw [rnd_len v 2 (by decide)]; decide)).2
      have NB := hide (HB.out.set (k := 2) (by rw [rnd_len v 2 (by decide)]; decide) (by8 (v / 256 ^ 2)))
      rw [rnd_set v 2 (by decide), by8_val, show (256 : Int) ^ 2 = 65536 from by decide] at NB
      have NW := hide (HW.out.setCell (p := ⟨w.heap.size, 2, none⟩) (Nat.le_refl _) (.int .u8 (v / 65536 % 256)))
      skip
      go_wp2
      exact ⟨⟨3, by decide, rfl, NB, NW⟩, by simp [intOf]⟩
    · have c := (HB.out.2 3 (by rw [rnd_len v 3 (by decide)]; decide)).1
      have f := (HB.out.2 3 (by rw [rnd_len v 3 (by decide)]; decide)).2
      have NB := hide (HB.out.set (k := 3) (by rw [rnd_len v 3 (by decide)]; decide) (by8 (v / 256 ^ 3)))
      rw [rnd_set v 3 (by decide), by8_val, show (256 : Int) ^ 3 = 16777216 from by decide] at NB
      have NW := hide (HW.out.setCell (p := ⟨w.heap.size, 3, none⟩) (Nat.le_refl _) (.int .u8 (v / 16777216 % 256)))
      skip
      go_wp2
      exact ⟨⟨4, by decide, rfl, NB, NW⟩, by simp [intOf]⟩
    · have c := (HB.out.2 4 (by rw [rnd_len v 4 (by decide)]; decide)).1
      have f := (HB.out.2 4 (by rw [rnd_len v 4 (by decide)]; decide)).2
      have NB := hide (HB.out.set (k := 4) (by rw [rnd_len v 4 (by decide)]; decide) (by8 (v / 256 ^ 4)))
      rw [rnd_set v 4 (by decide), by8_val, show (256 : Int) ^ 4 = 4294967296 from by decide] at NB
      have NW := hide (HW.out.setCell (p := ⟨w.heap.size, 4, none⟩) (Nat.le_refl _) (.int .u8 (v / 4294967296 % 256)))
      skip
      go_wp2
      exact ⟨⟨5, by decide, rfl, NB, NW⟩, by simp [intOf]⟩
    · have c := (HB.out.2 5 (by rw [rnd_len v 5 (by decide)]; decide)).1
      have f := (HB.out.2 5 (by rw [rnd_len v 5 (by decide)]; decide)).2
      have NB := hide (HB.out.set (k := 5) (by rw [rnd_len v 5 (by decide)]; decide) (by8 (v / 256 ^ 5)))
      rw [rnd_set v 5 (by decide), by8_val, show (256 : Int) ^ 5 = 1099511627776 from by decide] at NB
      have NW := hide (HW.out.setCell (p := ⟨w.heap.size, 5, none⟩) (Nat.le_refl _) (.int .u8 (v / 1099511627776 % 256)))
      skip
      go_wp2
      exact ⟨⟨6, by decide, rfl, NB, NW⟩, by simp [intOf]⟩
    · have c := (HB.out.2 6 (by rw [rnd_len v 6 (by decide)]; decide)).1
      have f := (HB.out.2 6 (by rw [rnd_len v 6 (by decide)]; decide)).2
      have NB := hide (HB.out.set (k := 6) (by rw [rnd_len v 6 (by decide)]; decide) (by8 (v / 256 ^ 6)))
      rw [rnd_set v 6 (by decide), by8_val, show (256 : Int) ^ 6 = 281474976710656 from by decide] at NB
      have NW := hide (HW.out.setCell (p := ⟨w.heap.size, 6, none⟩) (Nat.le_refl _) (.int .u8 (v / 281474976710656 % 256)))
      skip
      go_wp2
      exact ⟨⟨7, by decide, rfl, NB, NW⟩, by simp [intOf]⟩
    · have c := (HB.out.2 7 (by rw [rnd_len v 7 (by decide)]; decide)).1
      have f := (HB.out.2 7 (by rw [rnd_len v 7 (by decide)]; decide)).2
      have NB := hide (HB.out.set (k := 7) (by rw [rnd_len v 7 (by decide)]; decide) (by8 (v / 256 ^ 7)))
      rw [rnd_set v 7 (by decide), by8_val, show (256 : Int) ^ 7 = 72057594037927936 from by decide] at NB
      have NW := hide (HW.out.setCell (p := ⟨w.heap.size, 7, none⟩) (Nat.le_refl _) (.int .u8 (v / 72057594037927936 % 256)))
      skip
      go_wp2
      exact ⟨⟨8, by decide, rfl, NB, NW⟩, by simp [intOf]⟩
    · have hcv : ∀ wx : World, wx.heap = wr.heap → (convert 51 9 (.slice (some ⟨w.heap.size, 0, none⟩) 4 8)).run Try.prog wx = .ok (.string (str (bys 4 v))) wx := fun wx hx => by
        have := run_str_of (P := Try.prog) (HB.out.of_block (w' := wx) (by rw [hx])) 51 9 5 4 8 (by rw [rnd_len v 8 (by decide)]; decide) (by kernel_rfl) (by kernel_rfl) (by kernel_rfl)
        rw [rnd_end v 4 (by decide)] at this
        exact this
      have hc0 := hcv wr rfl
      have hc1 := hcv wr.drew rfl
      clear hcv
      have hts : (str (bys 4 v)).size = 4 := by show (bys 4 v).toArray.size = 4; simp [bys_len]
      have he : Hid (s.extract 0 p ++ str (bys 4 v) ++ s.extract (p + 4) s.size = str (stv s.data.toList p 4 v)) := str_cat s (bys 4 v) p 4
      generalize str (bys 4 v) = t at hc0 hc1 hts he
      go_wp2
      go_region
      go_wp2
      go_ret2
      exact ⟨by rw [← he.out]; rfl, HW.out.trans (drew_below _ _)⟩
set_option maxHeartbeats 1600000 in
theorem store_yes8 (s : ByteArray) (a o v : Int) (p : Nat) (w : World) (hv1 : I64 v) (hs : s.size ≤ 140737488351232) (hp : Hid (plc s.size a o 8 = ((p : Int), true))) (hfit : p + 8 ≤ s.size) :
    Calls Try.prog 12 #[.string s, .int .i64 a, .int .i64 o, .int .i64 8, .int .i64 v] w fun e w' => e = .returned (.tuple #[.string (str (stv s.data.toList p 8 v)), .bool true]) ∧ Below w.heap.size w w' := by
  obtain ⟨hva, hvb⟩ := hv1
  have h1 : p ≤ s.size := by omega
  have hb1 := hide ((Below.refl w.heap.size w).alloc (Nat.le_refl _) (.cells #[.int .u8 0, .int .u8 0, .int .u8 0, .int .u8 0, .int .u8 0, .int .u8 0, .int .u8 0, .int .u8 0] 50))
  have hB := hide (zeros8 w)
  go_enter Try.func12, Try.ntmps12
  go_wp2_with (go_at_call 18; refine (place_any _ _ _ _ _ hs).mono ?_; rw [hp.out]; rintro e w' ⟨rfl, hw⟩; have hw2 := hw.symm; subst hw2; clear hw)
  generalize w.alloc _ = w1 at hB hb1 ⊢
  go_loopw [26] (fun i wr => ∃ k : Nat, k ≤ 8 ∧ i = .int .i64 k ∧ Hid (BRow wr w.heap.size (rnd v k)) ∧ Hid (Below w.heap.size w wr)) (fun i _ => 8 - (intOf i).toNat)
  case atStart => exact ⟨0, Nat.zero_le _, rfl, hB, hb1⟩
  case round =>
    obtain ⟨k, hk, rfl, HB, HW⟩ := hrel
    clear hB hb1
    have hk' : k = 0 ∨ k = 1 ∨ k = 2 ∨ k = 3 ∨ k = 4 ∨ k = 5 ∨ k = 6 ∨ k = 7 ∨ k = 8 := by omega
    rcases hk' with rfl | rfl | rfl | rfl | rfl | rfl | rfl | rfl | rfl
    · have c := (HB.out.2 0 (by rw [rnd_len v 0 (by decide)]; decide)).1
      have f := (HB.out.2 0 (by rw [rnd_len v 0 (by decide)]; decide)).2
      have NB := hide (HB.out.set (k := 0) (by rw [rnd_len v 0 (by decide)]; decide) (by8 (v / 256 ^ 0)))
      rw [rnd_set v 0 (by decide), by8_val, show (256 : Int) ^ 0 = 1 from by decide, Int.ediv_one] at NB
      have NW := hide (HW.out.setCell (p := ⟨w.heap.size, 0, none⟩) (Nat.le_refl _) (.int .u8 (v / 1 % 256)))
      rw [Int.ediv_one] at NW
      go_wp2
      exact ⟨⟨1, by decide, rfl, NB, NW⟩, by simp [intOf]⟩
    · have c := (HB.out.2 1 (by rw [rnd_len v 1 (by decide)]; decide)).1
      have f := (HB.out.2 1 (by rw [rnd_len v 1 (by decide)]; decide)).2
      have NB := hide (HB.out.set (k := 1) (by rw [rnd_len v 1 (by decide)]; decide) (by8 (v / 256 ^ 1)))
      rw [rnd_set v 1 (by decide), by8_val, show (256 : Int) ^ 1 = 256 from by decide] at NB
      have NW := hide (HW.out.setCell (p := ⟨w.heap.size, 1, none⟩) (Nat.le_refl _) (.int .u8 (v / 256 % 256)))
      skip
      go_wp2
      exact ⟨⟨2, by decide, rfl, NB, NW⟩, by simp [intOf]⟩
    · have c := (HB.out.2 2 (by rw [rnd_len v 2 (by decide)]; decide)).1
      have f := (HB.out.2 2 (by rw [rnd_len v 2 (by decide)]; decide)).2
      have NB := hide (HB.out.set (k := 2) (by rw [rnd_len v 2 (by decide)]; decide) (by8 (v / 256 ^ 2)))
      rw [rnd_set v 2 (by decide), by8_val, show (256 : Int) ^ 2 = 65536 from by decide] at NB
      have NW := hide (HW.out.setCell (p := ⟨w.heap.size, 2, none⟩) (Nat.le_refl _) (.int .u8 (v / 65536 % 256)))
      skip
      go_wp2
      exact ⟨⟨3, by decide, rfl, NB, NW⟩, by simp [intOf]⟩
    · have c := (HB.out.2 3 (by rw [rnd_len v 3 (by decide)]; decide)).1
      have f := (HB.out.2 3 (by rw [rnd_len v 3 (by decide)]; decide)).2
      have NB := hide (HB.out.set (k := 3) (by rw [rnd_len v 3 (by decide)]; decide) (by8 (v / 256 ^ 3)))
      rw [rnd_set v 3 (by decide), by8_val, show (256 : Int) ^ 3 = 16777216 from by decide] at NB
      have NW := hide (HW.out.setCell (p := ⟨w.heap.size, 3, none⟩) (Nat.le_refl _) (.int .u8 (v / 16777216 % 256)))
      skip
      go_wp2
      exact ⟨⟨4, by decide, rfl, NB, NW⟩, by simp [intOf]⟩
    · have c := (HB.out.2 4 (by rw [rnd_len v 4 (by decide)]; decide)).1
      have f := (HB.out.2 4 (by rw [rnd_len v 4 (by decide)]; decide)).2
      have NB := hide (HB.out.set (k := 4) (by rw [rnd_len v 4 (by decide)]; decide) (by8 (v / 256 ^ 4)))
      rw [rnd_set v 4 (by decide), by8_val, show (256 : Int) ^ 4 = 4294967296 from by decide] at NB
      have NW := hide (HW.out.setCell (p := ⟨w.heap.size, 4, none⟩) (Nat.le_refl _) (.int .u8 (v / 4294967296 % 256)))
      skip
      go_wp2
      exact ⟨⟨5, by decide, rfl, NB, NW⟩, by simp [intOf]⟩
    · have c := (HB.out.2 5 (by rw [rnd_len v 5 (by decide)]; decide)).1
      have f := (HB.out.2 5 (by rw [rnd_len v 5 (by decide)]; decide)).2
      have NB := hide (HB.out.set (k := 5) (by rw [rnd_len v 5 (by decide)]; decide) (by8 (v / 256 ^ 5)))
      rw [rnd_set v 5 (by decide), by8_val, show (256 : Int) ^ 5 = 1099511627776 from by decide] at NB
      have NW := hide (HW.out.setCell (p := ⟨w.heap.size, 5, none⟩) (Nat.le_refl _) (.int .u8 (v / 1099511627776 % 256)))
      skip
      go_wp2
      exact ⟨⟨6, by decide, rfl, NB, NW⟩, by simp [intOf]⟩
    · have c := (HB.out.2 6 (by rw [rnd_len v 6 (by decide)]; decide)).1
      have f := (HB.out.2 6 (by rw [rnd_len v 6 (by decide)]; decide)).2
      have NB := hide (HB.out.set (k := 6) (by rw [rnd_len v 6 (by decide)]; decide) (by8 (v / 256 ^ 6)))
      rw [rnd_set v 6 (by decide), by8_val, show (256 : Int) ^ 6 = 281474976710656 from by decide] at NB
      have NW := hide (HW.out.setCell (p := ⟨w.heap.size, 6, none⟩) (Nat.le_refl _) (.int .u8 (v / 281474976710656 % 256)))
      skip
      go_wp2
      exact ⟨⟨7, by decide, rfl, NB, NW⟩, by simp [intOf]⟩
    · have c := (HB.out.2 7 (by rw [rnd_len v 7 (by decide)]; decide)).1
      have f := (HB.out.2 7 (by rw [rnd_len v 7 (by decide)]; decide)).2
      have NB := hide (HB.out.set (k := 7) (by rw [rnd_len v 7 (by decide)]; decide) (by8 (v / 256 ^ 7)))
      rw [rnd_set v 7 (by decide), by8_val, show (256 : Int) ^ 7 = 72057594037927936 from by decide] at NB
      have NW := hide (HW.out.setCell (p := ⟨w.heap.size, 7, none⟩) (Nat.le_refl _) (.int .u8 (v / 72057594037927936 % 256)))
      skip
      go_wp2
      exact ⟨⟨8, by decide, rfl, NB, NW⟩, by simp [intOf]⟩
    · have hcv : ∀ wx : World, wx.heap = wr.heap → (convert 51 9 (.slice (some ⟨w.heap.size, 0, none⟩) 8 8)).run Try.prog wx = .ok (.string (str (bys 8 v))) wx := fun wx hx => by
        have := run_str_of (P := Try.prog) (HB.out.of_block (w' := wx) (by rw [hx])) 51 9 5 8 8 (by rw [rnd_len v 8 (by decide)]; decide) (by kernel_rfl) (by kernel_rfl) (by kernel_rfl)
        rw [rnd_end v 8 (by decide)] at this
        exact this
      have hc0 := hcv wr rfl
      have hc1 := hcv wr.drew rfl
      clear hcv
      have hts : (str (bys 8 v)).size = 8 := by show (bys 8 v).toArray.size = 8; simp [bys_len]
      have he : Hid (s.extract 0 p ++ str (bys 8 v) ++ s.extract (p + 8) s.size = str (stv s.data.toList p 8 v)) := str_cat s (bys 8 v) p 8
      generalize str (bys 8 v) = t at hc0 hc1 hts he
      go_wp2
      go_region
      go_wp2
      go_ret2
      exact ⟨by rw [← he.out]; rfl, HW.out.trans (drew_below _ _)⟩

theorem stA_yes {s : List UInt8} {a o n v : Int} (h : right n = true ∧ wit s.length (adr a o) n = true) : stA s a o n v = (stv s (adr a o).toNat n.toNat v, true) := by unfold stA; rw [if_pos h]
theorem stA_no {s : List UInt8} {a o n v : Int} (h : ¬ (right n = true ∧ wit s.length (adr a o) n = true)) : stA s a o n v = ([], false) := by unfold stA; rw [if_neg h]
/-- Store, whole. -/
theorem store_any (s : ByteArray) (a o n v : Int) (w : World) (hv : I64 v) (hs : s.size ≤ 140737488351232) :
    Calls Try.prog 12 #[.string s, .int .i64 a, .int .i64 o, .int .i64 n, .int .i64 v] w fun e w' => e = .returned (.tuple #[.string (str (stA s.data.toList a o n v).1), .bool (stA s.data.toList a o n v).2]) ∧ Below w.heap.size w w' := by
  have hb := adr_bd a o
  by_cases h : right n = true ∧ wit s.data.toList.length (adr a o) n = true
  · rw [stA_yes h]
    rw [list_size] at h
    have hp : plc s.size a o n = (((adr a o).toNat : Int), true) := by rw [plc_yes h.1, h.2, Int.toNat_of_nonneg hb.1]
    have hw := h.2
    simp only [wit, Bool.and_eq_true, decide_eq_true_eq] at hw
    rcases right_cases h.1 with rfl | rfl
    · exact store_yes4 s a o v _ w hv hs hp (by omega)
    · exact store_yes8 s a o v _ w hv hs hp (by omega)
  · rw [stA_no h]
    rw [list_size] at h
    refine (store_no s a o n v w hs ?_).mono ?_
    · by_cases hr : right n = true
      · rw [plc_yes hr]; simpa using fun hw => h ⟨hr, hw⟩
      · rw [plc_no (by simpa using hr)]
    · rintro e w' ⟨rfl, rfl⟩
      exact ⟨rfl, Below.refl _ _⟩
end Go.Proofs.Ytcjojphajjoheaa

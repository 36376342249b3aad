/-
  Bytes of a string as a slice of one's own; the document's Store answers what the program's does.
-/
import Derived.Test.YtcjojphajjoheaaRefL
namespace Go.Proofs.Ytcjojphajjoheaa
open Go.RowKit

theorem bytes_row (w : World) (s : ByteArray) (cap : Nat) : BRow (w.drew.alloc (.cells (bytesRow s cap) 5 ((bytesRow s cap).size, (bytesRow s cap).size + 1))) w.heap.size s.data.toList := by
  have hz : w.drew.heap.size = w.heap.size := rfl
  refine ⟨by simp, fun j hj => ?_⟩
  have hj' : j < s.data.size := by simpa using hj
  have h1 := World.cell?_alloc_mark w.drew (bytesRow s cap) 5 ((bytesRow s cap).size, (bytesRow s cap).size + 1) j
  have h2 := World.frozen?_alloc_mark w.drew (bytesRow s cap) 5 (bytesRow s cap).size ((bytesRow s cap).size + 1) j
  rw [hz] at h1 h2
  refine ⟨?_, ?_⟩
  · rw [h1, bytesRow_at s cap j hj']; simp
  · rw [h2]
    have : j < (bytesRow s cap).size := by simp only [bytesRow, Array.size_append, Array.size_map]; omega
    simp; omega
/-- []byte(s). -/
theorem wpList_bytes {ops : Array Oper} {rest : List Oper} {o : Oper} {a : Act} {w : World} {Q : Exit → Act → World → Prop} (hgd : o.guard = none) (x : Operand) (ho : o.op = .convert 9 51 x) (s : ByteArray) (hx : a.eval x = .string s)
    (h : ∀ cap w', Hid (s.size ≤ cap) → Hid (BRow w' w.heap.size s.data.toList) → Hid (Below w.heap.size w w') → wpList Try.prog ops Q rest (a.put o.dst (.slice (some ⟨w.heap.size, 0, none⟩) s.size cap)) w') : wpList Try.prog ops Q (o :: rest) a w := by
  refine wpList_plain hgd fun K hK => ?_
  have hrun := run_bytes_of_string (P := Try.prog) w 9 51 5 s (by kernel_rfl) (by kernel_rfl) (by kernel_rfl)
  unfold Oper.wp
  simp only [execOp, ho, hx, Sem.run_bind, hrun, Result.andThen_ok]
  exact hK _ _ (h _ _ (grownCap_ge _ _ _ _) (bytes_row w s _) ((drew_below _ _).trans (bel_one w.drew _)))
set_option maxHeartbeats 800000 in
theorem rstore_no (s : ByteArray) (a o n v : Int) (w : World) (hs : s.size ≤ 140737488351232) (hn : I64 n) (hk : Hid ((right n && wit s.size (adr a o) n) = false)) :
    Calls Try.prog 13 #[.string s, .int .i64 a, .int .i64 o, .int .i64 n, .int .i64 v] w fun e w' => e = .returned (.tuple #[.string (str []), .bool false]) ∧ w' = w := by
  go_enter Try.func13, Try.ntmps13
  go_wp2_with (go_at_call 19; refine (rplace_any _ _ _ _ _ hs hn).mono ?_; rw [hk.out]; rintro e w' ⟨rfl, rfl⟩)
  go_ret2
  exact ⟨rfl, rfl⟩
/-- The memory behind k rounds. -/
def prt (l : List UInt8) (p k : Nat) (v : Int) : List UInt8 := stv l p k v
theorem prt_zero (l : List UInt8) (p : Nat) (v : Int) : prt l p 0 v = l := by simp [prt, stv, bys]
theorem prt_set (l : List UInt8) (p k : Nat) (v : Int) (h : p + k < l.length) : (prt l p k v).set (p + k) (by8 (v / 256 ^ k)) = prt l p (k + 1) v := by
  have hb : bys (k + 1) v = bys k v ++ [by8 (v / 256 ^ k)] := by
    apply List.ext_getElem
    · simp [bys_len]
    · intro j h1 h2
      rw [bys_get]
      have hj : j < k + 1 := by simpa [bys_len] using h1
      by_cases e : j < k
      · rw [List.getElem_append_left (by simp [bys_len]; omega), bys_get]
      · have : j = k := by omega
        subst this
        rw [List.getElem_append_right (by simp [bys_len])]; simp
  have h1 : (l.take p).length = p := by simp; omega
  unfold prt stv
  rw [hb, List.set_append_right _ _ (by omega), h1, show p + k - p = k by omega, List.set_append_right _ _ (by rw [bys_len]; omega), bys_len, Nat.sub_self]
  rw [List.drop_eq_getElem_cons h]
  simp [Nat.add_assoc]
theorem prt_len (l : List UInt8) (p k : Nat) (v : Int) (h : p + k ≤ l.length) : (prt l p k v).length = l.length := stv_len l p k v h
set_option maxHeartbeats 3200000 in
theorem rstore_yes4 (s : ByteArray) (a o v : Int) (p : Nat) (w : World) (hv1 : I64 v) (hs : s.size ≤ 140737488351232) (hp : Hid (adr a o = (p : Int))) (hk : Hid ((right 4 && wit s.size (adr a o) 4) = true)) (hfit : p + 4 ≤ s.size) :
    Calls Try.prog 13 #[.string s, .int .i64 a, .int .i64 o, .int .i64 4, .int .i64 v] w fun e w' => e = .returned (.tuple #[.string (str (stv s.data.toList p 4 v)), .bool true]) ∧ Below w.heap.size w w' := by
  obtain ⟨hva, hvb⟩ := hv1
  have hI : I64 4 := by unfold I64; omega
  have h0 : p + 0 < s.size := by omega
  have h1 : p + 1 < s.size := by omega
  have h2 : p + 2 < s.size := by omega
  have h3 : p + 3 < s.size := by omega
  have hll : s.data.toList.length = s.size := list_size s
  have HP := fun k (h : p + k ≤ s.data.toList.length) => prt_len s.data.toList p k v h
  go_enter Try.func13, Try.ntmps13
  go_wp2_with (first | (go_at_call 19; refine (rplace_any _ _ _ _ _ hs hI).mono ?_; rw [hk.out, hp.out]; rintro e w' ⟨rfl, hw⟩; have hw2 := hw.symm; subst hw2; clear hw) | (refine wpList_bytes rfl (.tmp 26) rfl s rfl ?_; intro cap w1 hcap hB hW))
  have hcp := hcap.out
  go_loopw [15] (fun i wr => ∃ k : Nat, k ≤ 4 ∧ i = .int .i64 k ∧ Hid (BRow wr w.heap.size (prt s.data.toList p k v)) ∧ Hid (Below w.heap.size w wr)) (fun i _ => 4 - (intOf i).toNat)
  case atStart => exact ⟨0, Nat.zero_le _, rfl, by rw [prt_zero]; exact hB, hW⟩
  case round =>
    obtain ⟨k, hk, rfl, HB, HW⟩ := hrel
    clear hB hW
    have hk' : k = 0 ∨ k = 1 ∨ k = 2 ∨ k = 3 ∨ k = 4 := by omega
    rcases hk' with rfl | rfl | rfl | rfl | rfl
    · have c := (HB.out.2 (p + 0) (by rw [HP 0 (by omega)]; omega)).1
      have f := (HB.out.2 (p + 0) (by rw [HP 0 (by omega)]; omega)).2
      have NB := hide (HB.out.set (k := p + 0) (by rw [HP 0 (by omega)]; omega) (by8 (v / 256 ^ 0)))
      rw [prt_set _ p 0 v (by omega), by8_val, show (256 : Int) ^ 0 = 1 from by decide, Int.ediv_one] at NB
      have NW := hide (HW.out.setCell (p := ⟨w.heap.size, p + 0, none⟩) (Nat.le_refl _) (.int .u8 (v / 1 % 256)))
      rw [Int.ediv_one] at NW
      simp only [Nat.add_zero] at c f NB NW
      go_wp2
      rw [show IntKind.u64.wrap v % 256 = v % 256 by rw [IntKind.wrap_u64]; omega]
      exact ⟨⟨1, by decide, rfl, NB, NW⟩, by simp [intOf]⟩
    · have c := (HB.out.2 (p + 1) (by rw [HP 1 (by omega)]; omega)).1
      have f := (HB.out.2 (p + 1) (by rw [HP 1 (by omega)]; omega)).2
      have NB := hide (HB.out.set (k := p + 1) (by rw [HP 1 (by omega)]; omega) (by8 (v / 256 ^ 1)))
      rw [prt_set _ p 1 v (by omega), by8_val, show (256 : Int) ^ 1 = 256 from by decide] at NB
      have NW := hide (HW.out.setCell (p := ⟨w.heap.size, p + 1, none⟩) (Nat.le_refl _) (.int .u8 (v / 256 % 256)))
      skip
      skip
      go_wp2
      rw [show IntKind.u64.wrap v / 256 % 256 = v / 256 % 256 by rw [IntKind.wrap_u64]; omega]
      exact ⟨⟨2, by decide, rfl, NB, NW⟩, by simp [intOf]⟩
    · have c := (HB.out.2 (p + 2) (by rw [HP 2 (by omega)]; omega)).1
      have f := (HB.out.2 (p + 2) (by rw [HP 2 (by omega)]; omega)).2
      have NB := hide (HB.out.set (k := p + 2) (by rw [HP 2 (by omega)]; omega) (by8 (v / 256 ^ 2)))
      rw [prt_set _ p 2 v (by omega), by8_val, show (256 : Int) ^ 2 = 65536 from by decide] at NB
      have NW := hide (HW.out.setCell (p := ⟨w.heap.size, p + 2, none⟩) (Nat.le_refl _) (.int .u8 (v / 65536 % 256)))
      skip
      skip
      go_wp2
      rw [show IntKind.u64.wrap v / 65536 % 256 = v / 65536 % 256 by rw [IntKind.wrap_u64]; omega]
      exact ⟨⟨3, by decide, rfl, NB, NW⟩, by simp [intOf]⟩
    · have c := (HB.out.2 (p + 3) (by rw [HP 3 (by omega)]; omega)).1
      have f := (HB.out.2 (p + 3) (by rw [HP 3 (by omega)]; omega)).2
      have NB := hide (HB.out.set (k := p + 3) (by rw [HP 3 (by omega)]; omega) (by8 (v / 256 ^ 3)))
      rw [prt_set _ p 3 v (by omega), by8_val, show (256 : Int) ^ 3 = 16777216 from by decide] at NB
      have NW := hide (HW.out.setCell (p := ⟨w.heap.size, p + 3, none⟩) (Nat.le_refl _) (.int .u8 (v / 16777216 % 256)))
      skip
      skip
      go_wp2
      rw [show IntKind.u64.wrap v / 16777216 % 256 = v / 16777216 % 256 by rw [IntKind.wrap_u64]; omega]
      exact ⟨⟨4, by decide, rfl, NB, NW⟩, by simp [intOf]⟩
    · have hcv : (convert 51 9 (.slice (some ⟨w.heap.size, 0, none⟩) s.size cap)).run Try.prog wr = .ok (.string (str (stv s.data.toList p 4 v))) wr := by
        have := run_str_of (P := Try.prog) HB.out 51 9 5 s.size cap (by rw [HP 4 (by omega), hll]; exact Nat.le_refl _) (by kernel_rfl) (by kernel_rfl) (by kernel_rfl)
        rw [List.take_of_length_le (by rw [HP 4 (by omega), hll]; exact Nat.le_refl _)] at this
        exact this
      go_wp2
      go_ret2
      exact ⟨rfl, HW.out⟩
set_option maxHeartbeats 3200000 in
theorem rstore_yes8 (s : ByteArray) (a o v : Int) (p : Nat) (w : World) (hv1 : I64 v) (hs : s.size ≤ 140737488351232) (hp : Hid (adr a o = (p : Int))) (hk : Hid ((right 8 && wit s.size (adr a o) 8) = true)) (hfit : p + 8 ≤ s.size) :
    Calls Try.prog 13 #[.string s, .int .i64 a, .int .i64 o, .int .i64 8, .int .i64 v] w fun e w' => e = .returned (.tuple #[.string (str (stv s.data.toList p 8 v)), .bool true]) ∧ Below w.heap.size w w' := by
  obtain ⟨hva, hvb⟩ := hv1
  have hI : I64 8 := by unfold I64; omega
  have h0 : p + 0 < s.size := by omega
  have h1 : p + 1 < s.size := by omega
  have h2 : p + 2 < s.size := by omega
  have h3 : p + 3 < s.size := by omega
  have h4 : p + 4 < s.size := by omega
  have h5 : p + 5 < s.size := by omega
  have h6 : p + 6 < s.size := by omega
  have h7 : p + 7 < s.size := by omega
  have hll : s.data.toList.length = s.size := list_size s
  have HP := fun k (h : p + k ≤ s.data.toList.length) => prt_len s.data.toList p k v h
  go_enter Try.func13, Try.ntmps13
  go_wp2_with (first | (go_at_call 19; refine (rplace_any _ _ _ _ _ hs hI).mono ?_; rw [hk.out, hp.out]; rintro e w' ⟨rfl, hw⟩; have hw2 := hw.symm; subst hw2; clear hw) | (refine wpList_bytes rfl (.tmp 26) rfl s rfl ?_; intro cap w1 hcap hB hW))
  have hcp := hcap.out
  go_loopw [15] (fun i wr => ∃ k : Nat, k ≤ 8 ∧ i = .int .i64 k ∧ Hid (BRow wr w.heap.size (prt s.data.toList p k v)) ∧ Hid (Below w.heap.size w wr)) (fun i _ => 8 - (intOf i).toNat)
  case atStart => exact ⟨0, Nat.zero_le _, rfl, by rw [prt_zero]; exact hB, hW⟩
  case round =>
    obtain ⟨k, hk, rfl, HB, HW⟩ := hrel
    clear hB hW
    have hk' : k = 0 ∨ k = 1 ∨ k = 2 ∨ k = 3 ∨ k = 4 ∨ k = 5 ∨ k = 6 ∨ k = 7 ∨ k = 8 := by omega
    rcases hk' with rfl | rfl | rfl | rfl | rfl | rfl | rfl | rfl | rfl
    · have c := (HB.out.2 (p + 0) (by rw [HP 0 (by omega)]; omega)).1
      have f := (HB.out.2 (p + 0) (by rw [HP 0 (by omega)]; omega)).2
      have NB := hide (HB.out.set (k := p + 0) (by rw [HP 0 (by omega)]; omega) (by8 (v / 256 ^ 0)))
      rw [prt_set _ p 0 v (by omega), by8_val, show (256 : Int) ^ 0 = 1 from by decide, Int.ediv_one] at NB
      have NW := hide (HW.out.setCell (p := ⟨w.heap.size, p + 0, none⟩) (Nat.le_refl _) (.int .u8 (v / 1 % 256)))
      rw [Int.ediv_one] at NW
      simp only [Nat.add_zero] at c f NB NW
      go_wp2
      rw [show IntKind.u64.wrap v % 256 = v % 256 by rw [IntKind.wrap_u64]; omega]
      exact ⟨⟨1, by decide, rfl, NB, NW⟩, by simp [intOf]⟩
    · have c := (HB.out.2 (p + 1) (by rw [HP 1 (by omega)]; omega)).1
      have f := (HB.out.2 (p + 1) (by rw [HP 1 (by omega)]; omega)).2
      have NB := hide (HB.out.set (k := p + 1) (by rw [HP 1 (by omega)]; omega) (by8 (v / 256 ^ 1)))
      rw [prt_set _ p 1 v (by omega), by8_val, show (256 : Int) ^ 1 = 256 from by decide] at NB
      have NW := hide (HW.out.setCell (p := ⟨w.heap.size, p + 1, none⟩) (Nat.le_refl _) (.int .u8 (v / 256 % 256)))
      skip
      skip
      go_wp2
      rw [show IntKind.u64.wrap v / 256 % 256 = v / 256 % 256 by rw [IntKind.wrap_u64]; omega]
      exact ⟨⟨2, by decide, rfl, NB, NW⟩, by simp [intOf]⟩
    · have c := (HB.out.2 (p + 2) (by rw [HP 2 (by omega)]; omega)).1
      have f := (HB.out.2 (p + 2) (by rw [HP 2 (by omega)]; omega)).2
      have NB := hide (HB.out.set (k := p + 2) (by rw [HP 2 (by omega)]; omega) (by8 (v / 256 ^ 2)))
      rw [prt_set _ p 2 v (by omega), by8_val, show (256 : Int) ^ 2 = 65536 from by decide] at NB
      have NW := hide (HW.out.setCell (p := ⟨w.heap.size, p + 2, none⟩) (Nat.le_refl _) (.int .u8 (v / 65536 % 256)))
      skip
      skip
      go_wp2
      rw [show IntKind.u64.wrap v / 65536 % 256 = v / 65536 % 256 by rw [IntKind.wrap_u64]; omega]
      exact ⟨⟨3, by decide, rfl, NB, NW⟩, by simp [intOf]⟩
    · have c := (HB.out.2 (p + 3) (by rw [HP 3 (by omega)]; omega)).1
      have f := (HB.out.2 (p + 3) (by rw [HP 3 (by omega)]; omega)).2
      have NB := hide (HB.out.set (k := p + 3) (by rw [HP 3 (by omega)]; omega) (by8 (v / 256 ^ 3)))
      rw [prt_set _ p 3 v (by omega), by8_val, show (256 : Int) ^ 3 = 16777216 from by decide] at NB
      have NW := hide (HW.out.setCell (p := ⟨w.heap.size, p + 3, none⟩) (Nat.le_refl _) (.int .u8 (v / 16777216 % 256)))
      skip
      skip
      go_wp2
      rw [show IntKind.u64.wrap v / 16777216 % 256 = v / 16777216 % 256 by rw [IntKind.wrap_u64]; omega]
      exact ⟨⟨4, by decide, rfl, NB, NW⟩, by simp [intOf]⟩
    · have c := (HB.out.2 (p + 4) (by rw [HP 4 (by omega)]; omega)).1
      have f := (HB.out.2 (p + 4) (by rw [HP 4 (by omega)]; omega)).2
      have NB := hide (HB.out.set (k := p + 4) (by rw [HP 4 (by omega)]; omega) (by8 (v / 256 ^ 4)))
      rw [prt_set _ p 4 v (by omega), by8_val, show (256 : Int) ^ 4 = 4294967296 from by decide] at NB
      have NW := hide (HW.out.setCell (p := ⟨w.heap.size, p + 4, none⟩) (Nat.le_refl _) (.int .u8 (v / 4294967296 % 256)))
      skip
      skip
      go_wp2
      rw [show IntKind.u64.wrap v / 4294967296 % 256 = v / 4294967296 % 256 by rw [IntKind.wrap_u64]; omega]
      exact ⟨⟨5, by decide, rfl, NB, NW⟩, by simp [intOf]⟩
    · have c := (HB.out.2 (p + 5) (by rw [HP 5 (by omega)]; omega)).1
      have f := (HB.out.2 (p + 5) (by rw [HP 5 (by omega)]; omega)).2
      have NB := hide (HB.out.set (k := p + 5) (by rw [HP 5 (by omega)]; omega) (by8 (v / 256 ^ 5)))
      rw [prt_set _ p 5 v (by omega), by8_val, show (256 : Int) ^ 5 = 1099511627776 from by decide] at NB
      have NW := hide (HW.out.setCell (p := ⟨w.heap.size, p + 5, none⟩) (Nat.le_refl _) (.int .u8 (v / 1099511627776 % 256)))
      skip
      skip
      go_wp2
      rw [show IntKind.u64.wrap v / 1099511627776 % 256 = v / 1099511627776 % 256 by rw [IntKind.wrap_u64]; omega]
      exact ⟨⟨6, by decide, rfl, NB, NW⟩, by simp [intOf]⟩
    · have c := (HB.out.2 (p + 6) (by rw [HP 6 (by omega)]; omega)).1
      have f := (HB.out.2 (p + 6) (by rw [HP 6 (by omega)]; omega)).2
      have NB := hide (HB.out.set (k := p + 6) (by rw [HP 6 (by omega)]; omega) (by8 (v / 256 ^ 6)))
      rw [prt_set _ p 6 v (by omega), by8_val, show (256 : Int) ^ 6 = 281474976710656 from by decide] at NB
      have NW := hide (HW.out.setCell (p := ⟨w.heap.size, p + 6, none⟩) (Nat.le_refl _) (.int .u8 (v / 281474976710656 % 256)))
      skip
      skip
      go_wp2
      rw [show IntKind.u64.wrap v / 281474976710656 % 256 = v / 281474976710656 % 256 by rw [IntKind.wrap_u64]; omega]
      exact ⟨⟨7, by decide, rfl, NB, NW⟩, by simp [intOf]⟩
    · have c := (HB.out.2 (p + 7) (by rw [HP 7 (by omega)]; omega)).1
      have f := (HB.out.2 (p + 7) (by rw [HP 7 (by omega)]; omega)).2
      have NB := hide (HB.out.set (k := p + 7) (by rw [HP 7 (by omega)]; omega) (by8 (v / 256 ^ 7)))
      rw [prt_set _ p 7 v (by omega), by8_val, show (256 : Int) ^ 7 = 72057594037927936 from by decide] at NB
      have NW := hide (HW.out.setCell (p := ⟨w.heap.size, p + 7, none⟩) (Nat.le_refl _) (.int .u8 (v / 72057594037927936 % 256)))
      skip
      skip
      go_wp2
      rw [show IntKind.u64.wrap v / 72057594037927936 % 256 = v / 72057594037927936 % 256 by rw [IntKind.wrap_u64]; omega]
      exact ⟨⟨8, by decide, rfl, NB, NW⟩, by simp [intOf]⟩
    · have hcv : (convert 51 9 (.slice (some ⟨w.heap.size, 0, none⟩) s.size cap)).run Try.prog wr = .ok (.string (str (stv s.data.toList p 8 v))) wr := by
        have := run_str_of (P := Try.prog) HB.out 51 9 5 s.size cap (by rw [HP 8 (by omega), hll]; exact Nat.le_refl _) (by kernel_rfl) (by kernel_rfl) (by kernel_rfl)
        rw [List.take_of_length_le (by rw [HP 8 (by omega), hll]; exact Nat.le_refl _)] at this
        exact this
      go_wp2
      go_ret2
      exact ⟨rfl, HW.out⟩
/-- The document's Store, whole. -/
theorem rstore_any (s : ByteArray) (a o n v : Int) (w : World) (hv : I64 v) (hs : s.size ≤ 140737488351232) (hn : I64 n) :
    Calls Try.prog 13 #[.string s, .int .i64 a, .int .i64 o, .int .i64 n, .int .i64 v] w fun e w' => e = .returned (.tuple #[.string (str (stA s.data.toList a o n v).1), .bool (stA s.data.toList a o n v).2]) ∧ Below w.heap.size w w' := by
  have hb := adr_bd a o
  by_cases h : right n = true ∧ wit s.data.toList.length (adr a o) n = true
  · rw [stA_yes h]
    rw [list_size] at h
    have hw := h.2
    simp only [wit, Bool.and_eq_true, decide_eq_true_eq] at hw
    rcases right_cases h.1 with rfl | rfl
    · exact rstore_yes4 s a o v _ w hv hs (Int.toNat_of_nonneg hb.1).symm (by show _ = _; rw [h.1, h.2]; rfl) (by omega)
    · exact rstore_yes8 s a o v _ w hv hs (Int.toNat_of_nonneg hb.1).symm (by show _ = _; rw [h.1, h.2]; rfl) (by omega)
  · rw [stA_no h]
    rw [list_size] at h
    refine (rstore_no s a o n v w hs hn (by show _ = _; rw [Bool.eq_false_iff]; intro q; rw [Bool.and_eq_true] at q; exact h q)).mono ?_
    rintro e w' ⟨rfl, rfl⟩
    exact ⟨rfl, Below.refl _ _⟩
end Go.Proofs.Ytcjojphajjoheaa

/-
  The library's Repeat of one number.
-/
import Derived.Test.YtjgaaofpfepfhaaDoorShelf
import Derived.Test.YtjgaaofpfepfhaaDoorPbs
import Derived.Laws.CopyOwn
import Derived.Laws.CopyRow
import Derived.Deep.RegionLaw
namespace Go.Proofs.YtjgaaofpfepfhaaDoor
open Go.RowKit
set_option linter.unusedSimpArgs false
set_option linter.unusedVariables false
def rpt (m n : Nat) : List Value := List.replicate m (.int .i64 (-1)) ++ List.replicate (n - m) (.int .i64 0)
theorem rpt_len {m n : Nat} (h : m ≤ n) : (rpt m n).length = n := by unfold rpt; simp; omega
theorem rpt_splice {m n k : Nat} (h : m + k ≤ n) : splice (rpt m n) m (List.replicate k (.int .i64 (-1))) = rpt (m + k) n := by
  unfold splice rpt
  rw [List.take_append_of_le_length (by simp), List.take_of_length_le (by simp), List.length_replicate, List.drop_append]
  simp only [List.length_replicate]
  rw [List.drop_of_length_le (by simp), List.nil_append, List.drop_replicate, ← List.append_assoc, List.replicate_append_replicate]
  congr 2
  omega
theorem rpt_at {m n j : Nat} (h : j < m) (hm : m ≤ n) : (rpt m n)[j]? = some (.int .i64 (-1)) := by
  unfold rpt
  rw [List.getElem?_append_left (by simpa using h), List.getElem?_replicate, if_pos h]
theorem rpt_made (n : Nat) : madeCells z1 n = (rpt 0 n).toArray := by
  have e1 : (madeCells z1 n).size = n := by simp [madeCells, z1]
  refine Array.ext (by rw [e1]; simp [rpt]) fun i h1 h2 => ?_
  rw [e1] at h1
  simp [madeCells, z1, rpt, Nat.mod_one]
theorem rpt_row {n g : Nat} {W : World} (h : W.heap[g]? = some (.cells (rpt n n).toArray 3 (0, 0))) : VRow g n (fun _ => .int .i64 (-1)) W := by
  refine ⟨(Array.getElem?_eq_some_iff.1 h).1, fun i hi => ?_, fun j => by simp [World.frozen?, h]⟩
  simp only [World.cell?, h, List.getElem?_toArray]
  exact rpt_at hi (Nat.le_refl _)
theorem neg_cell (k : Nat) : ∀ v ∈ List.replicate k (Value.int .i64 (-1)), v.oneCell' = true := by
  intro v h
  rw [List.eq_of_mem_replicate h]; rfl
theorem size3 : (Tryd.prog.info? 3).map (·.size) = some 1 := by kernel_rfl
theorem rpt_copy {g m k n dl dc sl sc : Nat} {a : Addr} {W : World} (hg : W.heap[g]? = some (.cells (rpt m n).toArray 3 (0, 0))) (hm : m + k ≤ n) (hk : k = Nat.min sl dl)
    (hs : ∀ j v, (List.replicate k (Value.int .i64 (-1)))[j]? = some v → W.cell? (a.add j) = some v) :
    (Builtin.copy_ #[25, 25] 3 #[.slice (some ⟨g, m, none⟩) dl dc, .slice (some a) sl sc]).run Tryd.prog W = .ok (.int .i64 (k : Int)) (W.setRow g (rpt (m + k) n).toArray) := by
  have h := run_copy_row (P := Tryd.prog) W 25 25 3 3 g m dl dc a sl sc (rpt m n).toArray 3 (List.replicate k (.int .i64 (-1))) Tryd.underlying25 size3 hg (by rw [List.length_replicate]; exact hk) hs (by simp [rpt_len (show m ≤ n by omega)]; omega) (neg_cell k)
  have e : ((rpt m n).toArray.toList.take m ++ List.replicate k (Value.int .i64 (-1)) ++ (rpt m n).toArray.toList.drop (m + (List.replicate k (Value.int .i64 (-1))).length)) = rpt (m + k) n := by
    rw [← rpt_splice hm]
    unfold splice
    rw [List.append_assoc]
  rw [e, List.length_replicate] at h
  exact h
set_option maxRecDepth 100000 in
set_option maxHeartbeats 6400000 in
theorem repeat_any (n g cx : Nat) (w : World) (hn : n ≤ 60) (hx : w.cell? ⟨g, 0, none⟩ = some (.int .i64 (-1))) :
    Calls Tryd.prog 22 #[.slice (some ⟨g, 0, none⟩) 1 cx, .int .i64 (n : Int)] w fun e w' => ∃ r, e = .returned (.slice (some ⟨r, 0, none⟩) n n) ∧ w.heap.size ≤ r ∧ VRow r n (fun _ => .int .i64 (-1)) w' ∧ Below w.heap.size w w' := by
  have hg : g < w.heap.size := by
    unfold World.cell? at hx
    cases hb : w.heap[g]? with
    | none => rw [hb] at hx; cases hx
    | some o => exact (Array.getElem?_eq_some_iff.1 hb).1
  have MU := hide (Tryd.bits_Mul 1 n (by omega) (by omega) w)
  have m1 : (1 * n / 18446744073709551616 : Nat) = 0 := by omega
  have m2 : (1 * n % 18446744073709551616 : Nat) = n := by omega
  rw [m1, m2] at MU
  have h0 : ¬ (n : Int) < 0 := by omega
  have hu : IntKind.u64.wrap (n : Int) = (n : Int) := by simp [IntKind.wrap, IntKind.signed, IntKind.bits]; omega
  have hv : IntKind.i64.wrap (n : Int) = (n : Int) := by rw [i64_wrap]; unfold wrap64; omega
  have h9 : ¬ (9223372036854775807 : Int) < (n : Int) := by omega
  have hmk := make_ints n (by omega)
  have e0 : (w.alloc (.cells (madeCells z1 n) 3)).heap[w.heap.size]? = some (.cells (rpt 0 n).toArray 3 (0, 0)) := by rw [← rpt_made]; exact heap_alloc_new w (.cells (madeCells z1 n) 3)
  have k0 := bel_one w (.cells (madeCells z1 n) 3)
  go_enter Tryd.func22, Tryd.ntmps22
  go_wp2_with fail
  refine MU.out.mono ?_
  rintro e w1 ⟨rfl, rfl⟩
  clear MU
  go_upto_region 7 with fail
  refine gw (motive := fun x => Code.wp _ _ _ _ x) (fun U => Hid (U.heap[w1.heap.size]? = some (.cells (rpt 0 n).toArray 3 (0, 0))) ∧ Hid (Below w1.heap.size w1 U)) ⟨e0, k0⟩ ?_
  rintro U ⟨HE, HK⟩
  clear e0 k0 hmk
  have hxU := (HK.out.cell (p := ⟨g, 0, none⟩) hg).trans hx
  obtain ⟨k1, hk1⟩ : ∃ k1, min 1 n = k1 := ⟨_, rfl⟩
  have RD : Hid (∀ j v, (List.replicate k1 (Value.int .i64 (-1)))[j]? = some v → U.cell? ((⟨g, 0, none⟩ : Addr).add j) = some v) := fun j v h => by
    rw [List.getElem?_replicate] at h
    split at h
    · obtain rfl : j = 0 := by omega
      cases h; exact hxU
    · cases h
  have hcp := rpt_copy (g := w1.heap.size) (m := 0) (k := k1) (n := n) (a := ⟨g, 0, none⟩) (dl := n) (dc := n) (sl := 1) (sc := cx) HE.out (by omega) hk1.symm RD.out
  have HE2 := hide (setRow_heap U w1.heap.size _ (rpt (0 + k1) n).toArray 3 _ HE.out)
  have HB2 := hide (below_setRow HK.out (Nat.le_refl _) (rpt (0 + k1) n).toArray)
  rw [Nat.zero_add] at hcp HE2 HB2
  clear HK HE RD hxU hx
  have hpos : 0 < n → 0 < k1 := by omega
  have hk1n : k1 ≤ n := by omega
  go_wp2_with fail
  go_loopw [8] (fun s8 wr => ∃ m : Nat, m ≤ n ∧ (0 < n → 0 < m) ∧ s8 = .int .i64 (m : Int) ∧ Hid (wr.heap[w1.heap.size]? = some (.cells (rpt m n).toArray 3 (0, 0))) ∧ Hid (Below w1.heap.size w1 wr)) (fun s8 _ => n - (intOf s8).toNat)
  case atStart => exact ⟨k1, hk1n, hpos, rfl, HE2, HB2⟩
  case round =>
    clear HE2 HB2 hpos
    obtain ⟨m, hm, hp, rfl, HE, HB⟩ := hrel
    by_cases hlt : m < n
    · have h1 : (m : Int) < (n : Int) := by omega
      have hm0 : 0 < m := hp (by omega)
      have hne : ¬ n = m := by omega
      have hm1 : (0 : Int) ≤ (m : Int) := by omega
      obtain ⟨k2, hk2⟩ : ∃ k2, min m (n - m) = k2 := ⟨_, rfl⟩
      have RD : Hid (∀ j v, (List.replicate k2 (Value.int .i64 (-1)))[j]? = some v → wr.drew.cell? ((⟨w1.heap.size, 0, none⟩ : Addr).add j) = some v) := fun j v h => by
        rw [List.getElem?_replicate] at h
        split at h
        · cases h
          have e : (⟨w1.heap.size, 0, none⟩ : Addr).add j = ⟨w1.heap.size, j, none⟩ := by unfold Addr.add; split <;> simp_all
          rw [e]
          have hE : wr.drew.heap[w1.heap.size]? = some (.cells (rpt m n).toArray 3 (0, 0)) := HE.out
          simp only [World.cell?, hE, List.getElem?_toArray]
          exact rpt_at (by omega) hm
        · cases h
      have HED : Hid (wr.drew.heap[w1.heap.size]? = some (.cells (rpt m n).toArray 3 (0, 0))) := HE
      have HBD := hide HB.out.drew
      have hcp := rpt_copy (g := w1.heap.size) (m := m) (k := k2) (n := n) (a := ⟨w1.heap.size, 0, none⟩) (dl := n - m) (dc := n - m) (sl := m) (sc := n) HED.out (by omega) hk2.symm RD.out
      have HE2 := hide (setRow_heap wr.drew w1.heap.size _ (rpt (m + k2) n).toArray 3 _ HED.out)
      have HB2 := hide (below_setRow HBD.out (Nat.le_refl _) (rpt (m + k2) n).toArray)
      have hmk2 : m + k2 ≤ n := by omega
      clear HE HB HED HBD RD
      go_wp2_with fail
      go_region
      go_wp2_with fail
      go_roundw
      case rel => exact ⟨m + k2, hmk2, fun _ => by omega, by go_num, HE2, HB2⟩
      case measure => simp [intOf]; omega
    · obtain rfl : m = n := by omega
      have h1 : ¬ (m : Int) < (m : Int) := by omega
      have HV := hide (rpt_row HE.out)
      go_wp2_with fail
      go_ret
      exact ⟨_, rfl, Nat.le_refl _, HV.out, HB.out⟩
end Go.Proofs.YtjgaaofpfepfhaaDoor

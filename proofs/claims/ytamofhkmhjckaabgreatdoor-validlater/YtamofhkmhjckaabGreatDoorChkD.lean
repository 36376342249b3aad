/-
  The program's checkData: all data lie in their memories, or it leaves by a panic.
-/
import Derived.Test.YtamofhkmhjckaabGreatDoorChkS
import Derived.Test.YtamofhkmhjckaabGreatDoorFitsB
import Derived.Deep.RegionWith
import Derived.Test.YtamofhkmhjckaabGreatDoorWalk13
namespace Go.Proofs.YtamofhkmhjckaabGreatDoor
open Go.RowKit
def datOk (M : Mo) (d : Da) : Prop := memOf M d.mem ≠ 0 ∧ d.pos + d.bytes.length ≤ 2 ^ (memOf M d.mem).toNat
def datAll (M : Mo) (k : Nat) : Prop := ∀ j (h : j < M.data.length), j < k → datOk M M.data[j]
theorem shl_3 (w : World) : (Op.shift .shl .i64 1 .i64 3).run Tryz.prog w = .ok (.int .i64 8) w := by kernel_rfl
theorem shl_4 (w : World) : (Op.shift .shl .i64 1 .i64 4).run Tryz.prog w = .ok (.int .i64 16) w := by kernel_rfl
theorem shl_5 (w : World) : (Op.shift .shl .i64 1 .i64 5).run Tryz.prog w = .ok (.int .i64 32) w := by kernel_rfl
theorem shl_6 (w : World) : (Op.shift .shl .i64 1 .i64 6).run Tryz.prog w = .ok (.int .i64 64) w := by kernel_rfl
theorem shl_7 (w : World) : (Op.shift .shl .i64 1 .i64 7).run Tryz.prog w = .ok (.int .i64 128) w := by kernel_rfl
theorem shl_8 (w : World) : (Op.shift .shl .i64 1 .i64 8).run Tryz.prog w = .ok (.int .i64 256) w := by kernel_rfl
theorem shl_9 (w : World) : (Op.shift .shl .i64 1 .i64 9).run Tryz.prog w = .ok (.int .i64 512) w := by kernel_rfl
theorem shl_10 (w : World) : (Op.shift .shl .i64 1 .i64 10).run Tryz.prog w = .ok (.int .i64 1024) w := by kernel_rfl
theorem shl_11 (w : World) : (Op.shift .shl .i64 1 .i64 11).run Tryz.prog w = .ok (.int .i64 2048) w := by kernel_rfl
theorem shl_12 (w : World) : (Op.shift .shl .i64 1 .i64 12).run Tryz.prog w = .ok (.int .i64 4096) w := by kernel_rfl
theorem shl_is (sz : Int) (h : 3 ≤ sz ∧ sz ≤ 12) (w : World) : (Op.shift .shl .i64 1 .i64 sz).run Tryz.prog w = .ok (.int .i64 (2 ^ sz.toNat)) w := by
  have : sz = 3 ∨ sz = 4 ∨ sz = 5 ∨ sz = 6 ∨ sz = 7 ∨ sz = 8 ∨ sz = 9 ∨ sz = 10 ∨ sz = 11 ∨ sz = 12 := by omega
  rcases this with rfl | rfl | rfl | rfl | rfl | rfl | rfl | rfl | rfl | rfl
  · exact shl_3 w
  · exact shl_4 w
  · exact shl_5 w
  · exact shl_6 w
  · exact shl_7 w
  · exact shl_8 w
  · exact shl_9 w
  · exact shl_10 w
  · exact shl_11 w
  · exact shl_12 w
set_option maxRecDepth 100000 in
set_option maxHeartbeats 16000000 in
theorem checkData_any (V : MoV) (M : Mo) (w : World) (h : IsMo w.heap.size w V M) (hm0 : smMem M.m0 = true) (hm1 : smMem M.m1 = true) (hd : ∀ d ∈ M.data, whDa d = true) (hy : ∀ d ∈ M.data, d.bytes.length ≤ 4611686018427387904) (hN : M.data.length ≤ 1000) :
    Calls Tryz.prog 27 #[moV V M] w (MustEnds w (datAll M M.data.length)) := by
  have HM := hide h
  obtain ⟨a0, c0, a1, c1, a2, c2, a5, c5, a6, c6, rfl⟩ := h.forms
  unfold moV
  have HB0 := hide (bel_one w (.cells #[.slice a0 M.sigs.length c0, .slice a1 M.imports.length c1, .slice a2 M.funcs.length c2, .int .i64 M.m0, .int .i64 M.m1, .slice a5 M.globals.length c5, .slice a6 M.data.length c6] 29))
  have HR0 := hide (Row.made w #[.slice a0 M.sigs.length c0, .slice a1 M.imports.length c1, .slice a2 M.funcs.length c2, .int .i64 M.m0, .int .i64 M.m1, .slice a5 M.globals.length c5, .slice a6 M.data.length c6] 29)
  obtain ⟨aa, cc, e1, he⟩ := h.data
  simp only [Value.slice.injEq, true_and] at e1
  obtain ⟨rfl, rfl⟩ := e1
  have HE := hide (show ∀ j (hj : j < M.data.length), ∃ b off, a6 = some ⟨b, off, none⟩ ∧ b < w.heap.size ∧ EDa (Lt w.heap.size) w b (off + j * 3) M.data[j] from he)
  have HD := hide hd
  have HY := hide hy
  have HS := hide (And.intro hm0 hm1)
  clear h he hd hy hm0 hm1
  go_enter Tryz.func27, Tryz.ntmps27
  go_wp2_with fail
  go_loopw [8] (fun i wr => ∃ (k : Nat), k ≤ M.data.length ∧ i = .int .i64 k ∧ Hid (datAll M k) ∧ Below w.heap.size w wr ∧ Row wr w.heap.size #[.slice a0 M.sigs.length c0, .slice a1 M.imports.length c1, .slice a2 M.funcs.length c2, .int .i64 M.m0, .int .i64 M.m1, .slice a5 M.globals.length c5, .slice a6 M.data.length c6] 29) (fun i _ => M.data.length - (intOf i).toNat)
  case atStart => exact ⟨0, Nat.zero_le _, rfl, hide (fun n _ hn => by omega), HB0.out, HR0.out⟩
  case round =>
    obtain ⟨k, hk, rfl, HC, hB, hR⟩ := hrel
    by_cases hlt : k < M.data.length
    · obtain ⟨b, off, hax, hb, hi, g0, g1, g2⟩ := HE.out k hlt
      have x0 := (hB.cell (p := ⟨b, off + k * 3, none⟩) hb).trans g0
      have x1 := (hB.cell (p := ⟨b, off + k * 3 + 1, none⟩) hb).trans g1
      have x2 := (hB.cell (p := ⟨b, off + k * 3 + 2, none⟩) hb).trans g2
      have hw := HD.out _ (List.getElem_mem hlt)
      have hyk := HY.out _ (List.getElem_mem hlt)
      have HNX := hide (fun (g : datOk M M.data[k]) => (fun n hn hn' => by
        rcases Nat.lt_or_ge n k with h | h
        · exact HC.out n hn h
        · obtain rfl : n = k := by omega
          exact g : datAll M (k + 1)))
      have HNO := hide (fun (g : ¬ datOk M M.data[k]) => (fun q => g (q k hlt hlt) : ¬ datAll M M.data.length))
      subst hax
      clear g0 g1 g2 HE
      generalize M.data[k] = d at *
      obtain ⟨mem, pos, bs⟩ := d
      simp only at x0 x1 x2 hyk
      simp only [whDa, idx, Bool.and_eq_true, Bool.or_eq_true, decide_eq_true_eq] at hw
      obtain ⟨hmem, hp0, hp1⟩ := hw
      have hsz : smMem (memOf M mem) = true := by
        unfold memOf; split
        · exact HS.out.1
        · exact HS.out.2
      have hcm : wr.cell? ⟨w.heap.size, 3 + mem.toNat, none⟩ = some (.int .i64 (memOf M mem)) := by
        rcases hmem with rfl | rfl
        · exact hR.c 3 _ rfl
        · exact hR.c 4 _ rfl
      have hB29 := hR.lt
      have hb1 := bel_one wr (.cells #[.int .i64 mem, .int .i64 pos, .string (str bs)] 35)
      have HB := hide (below_next hB hb1)
      have HR := hide (hR.kept hb1)
      have HRd := hide (Row.made wr #[.int .i64 mem, .int .i64 pos, .string (str bs)] 35)
      have hlen : (str bs).size = bs.length := by show bs.toArray.size = bs.length; simp
      generalize hszz : memOf M mem = sz at *
      have HSZ := hide hszz
      clear hB hR hb1 hszz
      by_cases h0 : sz = 0
      · have HD0 := hide (HNO.out (fun g => g.1 (HSZ.out.trans h0)))
        subst h0
        clear hsz
        have r0 := HRd.out.c 0 _ rfl
        rcases hmem with rfl | rfl
        · have hcm0 : wr.cell? ⟨w.heap.size, 3, none⟩ = some (.int .i64 0) := hcm
          clear hcm
          go_wp2_with fail
          refine (must_no _ _).mono ?_
          rintro e w2 ⟨p, rfl, hf, hb2⟩
          have HF := hide hf
          have HB2 := hide (below_next HB.out hb2)
          clear hf hb2
          go_wp2_with fail
          exact ⟨rfl, .inr ⟨HD0.out, p, rfl, HF.out, HB2.out⟩⟩
        · have hcm0 : wr.cell? ⟨w.heap.size, 4, none⟩ = some (.int .i64 0) := hcm
          clear hcm
          go_wp2_with fail
          refine (must_no _ _).mono ?_
          rintro e w2 ⟨p, rfl, hf, hb2⟩
          have HF := hide hf
          have HB2 := hide (below_next HB.out hb2)
          clear hf hb2
          go_wp2_with fail
          exact ⟨rfl, .inr ⟨HD0.out, p, rfl, HF.out, HB2.out⟩⟩
      · have hs3 : 3 ≤ sz ∧ sz ≤ 12 := by simp [smMem, h0] at hsz; exact hsz
        have SH := shl_is sz hs3
        have e0 : (sz != 0) = true := by simpa using h0
        have HOK := hide (show pos + (bs.length : Int) ≤ 2 ^ sz.toNat → datOk M ⟨mem, pos, bs⟩ from fun g => ⟨by rw [HSZ.out]; exact h0, by rw [HSZ.out]; exact g⟩)
        have HKO := hide (show ¬ pos + (bs.length : Int) ≤ 2 ^ sz.toNat → ¬ datOk M ⟨mem, pos, bs⟩ from fun g q => g (by have := q.2; rw [HSZ.out] at this; exact this))
        generalize (2 : Int) ^ sz.toNat = pw at *
        have r0 := HRd.out.c 0 _ rfl
        have r1 := HRd.out.c 1 _ rfl
        have r2 := HRd.out.c 2 _ rfl
        have HWR := hide (show IntKind.i64.wrap (pos + (bs.length : Int)) = pos + (bs.length : Int) from IntWalk.i64_in _ ⟨by omega, by omega⟩)
        clear hsz hs3
        rcases hmem with rfl | rfl
        · have hcm0 : wr.cell? ⟨w.heap.size, 3, none⟩ = some (.int .i64 sz) := hcm
          clear hcm
          go_wp2_with fail
          refine (must_yes _ _).mono ?_
          rintro e w2 ⟨rfl, e2⟩
          subst e2
          go_wp2_with fail
          by_cases hle : pos + (bs.length : Int) ≤ pw
          · have HNX2 := hide (HNX.out (HOK.out (by omega)))
            have HDE := hide (show decide (IntKind.i64.wrap (pos + (bs.length : Int)) ≤ pw) = true by rw [HWR.out]; simpa using hle)
            clear HNX HNO HOK HKO
            go_region_with (go_at_call 35; rw [HDE.out]; refine (must_yes _ _).mono ?_; rintro e w' ⟨rfl, rfl⟩)
            all_goals
              go_wp2_with fail
              go_roundw
              case rel => exact ⟨k + 1, by omega, by go_num, HNX2, HB.out.drew, HR.out⟩
              case measure => simp [intOf]; omega
          · have HD0 := hide (HNO.out (HKO.out (by omega)))
            have HDE := hide (show decide (IntKind.i64.wrap (pos + (bs.length : Int)) ≤ pw) = false by rw [HWR.out]; simpa using hle)
            have PAN : Hid (∀ (w' : World) (p : Nat), (FaultAt w' p 3 0 ∧ Below w.heap.size w w') → ∀ tm, bodyPost Tryz.prog Tryz.f27 (MustEnds w (datAll M M.data.length)) (Exit.panic [{ v := flt p, recovered := false }]) { tmps := tm, defers := [] } w') := hide (fun w' p hx tm => ⟨rfl, .inr ⟨HD0.out, p, rfl, hx⟩⟩)
            have HBN := hide (fun (W W' : World) (g : Below W.heap.size W W') (q : W = (wr.alloc (.cells #[.int .i64 0, .int .i64 pos, .string (str bs)] 35)).drew) => (below_next HB.out.drew (by rw [← q]; exact g) : Below w.heap.size w W'))
            clear HNX HNO HOK HKO
            go_region_with (go_at_call 35; rw [HDE.out]; refine (must_no _ _).mono ?_; rintro e w' ⟨p, rfl, hf, hb2⟩; refine leaveR w' (PAN.out w' p ⟨hf, HBN.out _ _ hb2 rfl⟩ _) ?_)
            all_goals trivial
        · have hcm0 : wr.cell? ⟨w.heap.size, 4, none⟩ = some (.int .i64 sz) := hcm
          clear hcm
          go_wp2_with fail
          refine (must_yes _ _).mono ?_
          rintro e w2 ⟨rfl, e2⟩
          subst e2
          go_wp2_with fail
          by_cases hle : pos + (bs.length : Int) ≤ pw
          · have HNX2 := hide (HNX.out (HOK.out (by omega)))
            have HDE := hide (show decide (IntKind.i64.wrap (pos + (bs.length : Int)) ≤ pw) = true by rw [HWR.out]; simpa using hle)
            clear HNX HNO HOK HKO
            go_region_with (go_at_call 35; rw [HDE.out]; refine (must_yes _ _).mono ?_; rintro e w' ⟨rfl, rfl⟩)
            all_goals
              go_wp2_with fail
              go_roundw
              case rel => exact ⟨k + 1, by omega, by go_num, HNX2, HB.out.drew, HR.out⟩
              case measure => simp [intOf]; omega
          · have HD0 := hide (HNO.out (HKO.out (by omega)))
            have HDE := hide (show decide (IntKind.i64.wrap (pos + (bs.length : Int)) ≤ pw) = false by rw [HWR.out]; simpa using hle)
            have PAN : Hid (∀ (w' : World) (p : Nat), (FaultAt w' p 3 0 ∧ Below w.heap.size w w') → ∀ tm, bodyPost Tryz.prog Tryz.f27 (MustEnds w (datAll M M.data.length)) (Exit.panic [{ v := flt p, recovered := false }]) { tmps := tm, defers := [] } w') := hide (fun w' p hx tm => ⟨rfl, .inr ⟨HD0.out, p, rfl, hx⟩⟩)
            have HBN := hide (fun (W W' : World) (g : Below W.heap.size W W') (q : W = (wr.alloc (.cells #[.int .i64 1, .int .i64 pos, .string (str bs)] 35)).drew) => (below_next HB.out.drew (by rw [← q]; exact g) : Below w.heap.size w W'))
            clear HNX HNO HOK HKO
            go_region_with (go_at_call 35; rw [HDE.out]; refine (must_no _ _).mono ?_; rintro e w' ⟨p, rfl, hf, hb2⟩; refine leaveR w' (PAN.out w' p ⟨hf, HBN.out _ _ hb2 rfl⟩ _) ?_)
            all_goals trivial
    · obtain rfl : k = M.data.length := by omega
      go_wp2_with fail
      go_end0
      exact .inl ⟨HC.out, rfl, hB⟩
end Go.Proofs.YtamofhkmhjckaabGreatDoor

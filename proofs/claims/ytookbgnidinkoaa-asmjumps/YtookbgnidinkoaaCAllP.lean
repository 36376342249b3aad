/-
  The program's All writes instructions one behind the other, or refuses; the walk of the statement XcodeAll.
-/
import Derived.Test.YtookbgnidinkoaaCAllW
namespace Go.Proofs.Ytookbgnidinkoaa.Xc
open Go.RowKit
set_option linter.unusedSimpArgs false
set_option linter.unusedVariables false

def AlIs (b off cap : Nat) (l : List Xi) (w : World) : Prop := Calls Try.prog 17 #[.slice (some ⟨b, off, none⟩) l.length cap] w fun e w' => e = .returned (.tuple #[.string (str (aS l)), .int .i64 (aE l)]) ∧ Below w.heap.size w w'
theorem write_is (B : Nat) (v : Value) (ls : List UInt8) (x : Xi) (w : World) (hB : B ≤ w.heap.size) (hr : BRow B v ls w) (hl : ls.length + 16 ≤ 140737488355328) (hx : rt x = true) (hn : I64 x.n) :
    Calls Try.prog 28 #[v, .agg #[.int .i64 x.op, .bool x.wide, .int .i64 x.r, .int .i64 x.b, .int .i64 x.i, .int .i64 x.c, .int .i64 x.n]] w fun e w' => ∃ v', e = .returned v' ∧ BRow B v' (ls ++ enc x) w' ∧ Below B w w' := write_any B v ls x w hB hr hl hx hn
set_option maxHeartbeats 4000000 in
theorem all_any (b off cap : Nat) (l : List Xi) (w : World) (hl : 56 * l.length ≤ 140737488351232) (hX : XL w.heap.size w b off l) : AlIs b off cap l w := by
  have HX := hide hX
  clear hX
  unfold AlIs
  go_enter Try.func17, Try.ntmps17
  go_wp2
  go_loopw [4, 9] (fun sv iv wr => ∃ k : Nat, k ≤ l.length ∧ iv = .int .i64 (k : Int) ∧ Hid (BRow w.heap.size sv (encs (l.take k)) wr ∧ (k = 0 → sv = .slice none 0 0)) ∧ Below w.heap.size w wr ∧ Hid (∀ j (hj : j < l.length), j < k → rt l[j] = true)) (fun _ iv _ => l.length - (intOf iv).toNat)
  case atStart => exact ⟨0, by omega, rfl, hide ⟨World.ownsRow_nil _ _ _ _, fun _ => rfl⟩, Below.refl _ _, hide (fun j hj h => absurd h (by omega))⟩
  case round =>
    obtain ⟨k, hk, rfl, hR, hb, hA⟩ := hrel
    by_cases hlt : k < l.length
    · obtain ⟨hbb, ho, c0, c1, c2, c3, c4, c5, c6⟩ := HX.out k hlt
      have d0 := (hb.cell (p := ⟨b, off + k * 7, none⟩) hbb).trans c0
      have d1 := (hb.cell (p := ⟨b, off + k * 7 + 1, none⟩) hbb).trans c1
      have d2 := (hb.cell (p := ⟨b, off + k * 7 + 2, none⟩) hbb).trans c2
      have d3 := (hb.cell (p := ⟨b, off + k * 7 + 3, none⟩) hbb).trans c3
      have d4 := (hb.cell (p := ⟨b, off + k * 7 + 4, none⟩) hbb).trans c4
      have d5 := (hb.cell (p := ⟨b, off + k * 7 + 5, none⟩) hbb).trans c5
      have d6 := (hb.cell (p := ⟨b, off + k * 7 + 6, none⟩) hbb).trans c6
      clear c0 c1 c2 c3 c4 c5 c6
      have hn : I64 l[k].n := ho.2.2.2.2.2
      have hi : I64 l[k].i := ho.2.2.2.1
      have HBX := hide (Bx.made wr l[k])
      have HB1 := hide (bel_al hb (.cells (xc l[k]) 40))
      cases hq : rt l[k]
      · have HN := hide (aOk_no hlt hq)
        have RI := hide (fun U => right_is l[k].op l[k].wide l[k].r l[k].b l[k].i l[k].c l[k].n U hi hq)
        have r1 : aS l = [] := by simp [aS, HN.out]
        have r2 : aE l = 4 := by simp [aE, HN.out]
        have HR1 := hide r1
        have HR2 := hide r2
        clear hq ho hn hi r1 r2
        go_wp2_with fail
        refine (RI.out _).mono ?_
        rintro e w1 ⟨rfl, b1⟩
        go_wp2_with fail
        go_ret2
        exact ⟨by rw [HR1.out, HR2.out]; rfl, bel_tr HB1.out b1⟩
      · have RI := hide (fun U => right_is l[k].op l[k].wide l[k].r l[k].b l[k].i l[k].c l[k].n U hi hq)
        have HS := hide (encs_snoc l k hlt)
        have hln : Hid ((encs (l.take k)).length + 16 ≤ 140737488355328) := by
          show _ ≤ _
          have h1 := encs_len (l.take k)
          have h3 : (l.take k).length ≤ l.length := by simp; omega
          omega
        have hA2 : Hid (∀ j (hj : j < l.length), j < k + 1 → rt l[j] = true) := fun j hj h => by
          rcases Nat.lt_or_ge j k with h' | h'
          · exact hA.out j hj h'
          · have : j = k := by omega
            subst this; exact hq
        have HQ := hide hq
        have HN := hide hn
        clear hq ho hn hi hA
        go_wp2_with fail
        refine (RI.out _).mono ?_
        rintro e w1 ⟨rfl, b1⟩
        have R1 := hide ((hR.out.1.alloc (.cells (xc l[k]) 40)).kept b1)
        have B1 := hide (bel_tr HB1.out b1)
        have X1 := HBX.out.kept b1
        clear b1 HB1 HBX hR d0 d1 d2 d3 d4 d5 d6
        obtain ⟨x0, x1, x2, x3, x4, x5, x6⟩ := X1.cells
        clear X1
        go_wp2_with fail
        refine (write_is w.heap.size _ _ l[k] _ B1.out.size R1.out hln.out HQ.out HN.out).mono ?_
        rintro e w2 ⟨v2, rfl, R2, b2⟩
        have hb2 := B1.out.trans b2
        clear b2 R1 B1 x0 x1 x2 x3 x4 x5 x6
        go_wp2_with fail
        go_roundw
        case rel => exact ⟨k + 1, by omega, by go_num, hide ⟨by rw [HS.out]; exact R2, fun h => absurd h (by omega)⟩, hb2, hA2⟩
        case measure => simp [intOf]; omega
    · have hkm : k = l.length := by omega
      subst hkm
      have ha : aOk l = true := aOk_yes fun j hj => hA.out j hj hj
      have r1 : aS l = encs l := by simp [aS, ha]
      have r2 : aE l = 0 := by simp [aE, ha]
      have HR1 := hide r1
      have HR2 := hide r2
      clear ha r1 r2
      rw [List.take_length] at hR
      by_cases h0 : l.length = 0
      · obtain rfl := hR.out.2 h0
        have he : Hid (encs l = []) := by show _ = _; rw [List.length_eq_zero_iff.1 h0]; rfl
        have hcv := cv_nil wr
        clear hR
        go_wp2_with fail
        go_ret2
        exact ⟨by rw [HR1.out, HR2.out, he.out]; rfl, hb⟩
      · have hcv := run_own hR.out.1 (encs_pos l (by omega))
        have hv := hR.out.1.2
        rcases hv with ⟨_, hz⟩ | ⟨g, cp, cur, hv, _⟩
        · have := encs_pos l (by omega); omega
        · subst hv
          clear hR
          go_wp2_with fail
          go_ret2
          exact ⟨by rw [HR1.out, HR2.out]; rfl, hb⟩
end Go.Proofs.Ytookbgnidinkoaa.Xc

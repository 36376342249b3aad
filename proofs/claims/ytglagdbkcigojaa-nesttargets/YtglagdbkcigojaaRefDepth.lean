/-
  The document's Depth and Target answer as the plain functions do.
-/
import Derived.Test.YtglagdbkcigojaaRefSpans
namespace Go.Proofs.Ytglagdbkcigojaa
open Go.RowKit

/-- the depths of the first k places -/
def dup (f : Nat → Int) (k : Nat) : List Value := (List.range k).map fun j => .int .i64 ((arL f j (run f j)).length : Nat)
theorem dup_succ (f : Nat → Int) (k : Nat) : dup f (k + 1) = dup f k ++ [.int .i64 ((arL f k (run f k)).length : Nat)] := by simp [dup, List.range_succ]
theorem dup_dcel (f : Nat → Int) (n : Nat) : dup f n = dcel f n n := by
  unfold dup dcel
  apply List.map_congr_left
  intro j hj
  rw [if_pos (by simpa using hj)]
set_option maxRecDepth 100000 in
set_option maxHeartbeats 16000000 in
theorem ref_depth (a : Option Addr) (n c n₀ : Nat) (f : Nat → Int) (w : World) (hO : Ops n₀ w a n f) (hn₀ : n₀ ≤ w.heap.size) (hn : n ≤ 1000) :
    Calls Try.prog 14 #[.slice a n c] w fun e w' => ∃ v, e = .returned (.tuple #[v, .int .i64 (er f n)]) ∧ (er f n = 0 → w'.ownsRow w.heap.size 3 1 v n (dcel f n n)) ∧ (er f n ≠ 0 → v = .slice none 0 0) ∧ Below w.heap.size w w' := by
  have SP := hide (ref_spans a n c n₀ f w hO hn₀ hn)
  obtain ⟨i3, hi3, hz30, hz31, hz32⟩ := info_parts Try.info3
  clear hO hn₀
  by_cases he : er f n = 0
  · have HE := er_ok he
    have REM : Hid (∀ p, p < n → remL (run f n).sp p ((run f n).sp.length - 1) = arL f p (run f p)) := hide (fun p hp => remL_eq HE.1 HE.2.1 hp)
    obtain ⟨sp, hsp⟩ : ∃ sp, sp = (run f n).sp := ⟨_, rfl⟩
    have hlen : sp.length ≤ 1000 := by have := (run_len f n).1; rw [hsp]; omega
    have hpos : 0 < sp.length := by
      obtain ⟨m, rfl, _, _, _, _, _, h, _⟩ := fin_run HE.1 HE.2.1
      rw [hsp, h]; simp
    rw [he, ← hsp] at SP
    rw [← hsp] at REM
    have HZ := hide he
    clear he HE hsp
    go_enter Try.func14, Try.ntmps14
    go_wp2_with fail
    refine SP.out.mono ?_
    rintro e w1 ⟨v, rfl, ho, _, hb1⟩
    have OW := hide (ho (by simp))
    obtain ⟨av, cv, rfl⟩ := own_slice OW.out
    obtain ⟨g, rfl, _, hg, _⟩ := own_some OW.out hpos
    clear SP ho
    go_wp2_with fail
    go_loopw [6, 7] (fun v i wr => ∃ k : Nat, k ≤ n ∧ i = .int .i64 k ∧ Hid (wr.ownsRow w.heap.size 51 3 (.slice (some ⟨g, 0, none⟩) sp.length cv) sp.length (flat sp)) ∧ Hid (wr.ownsRow w.heap.size 3 1 v k (dup f k)) ∧ Below w.heap.size w wr) (fun _ i _ => n - (intOf i).toNat)
    case atStart => exact ⟨0, by omega, rfl, OW, hide (World.ownsRow_nil _ _ _ _), hb1⟩
    case round =>
      obtain ⟨W0, rfl⟩ : ∃ W0, W0 = wr := ⟨_, rfl⟩
      obtain ⟨k, hk, rfl, how, hod, hbk⟩ := hrel
      by_cases hlt : k < n
      · clear OW
        go_wp2_with fail
        go_loopw [8, 9] (fun cv9 i9 wr => ∃ j : Nat, j + 1 ≤ sp.length ∧ i9 = .int .i64 j ∧ cv9 = .int .i64 ((remL sp k j).length : Nat) ∧ Hid (wr.ownsRow w.heap.size 51 3 (.slice (some ⟨g, 0, none⟩) sp.length cv) sp.length (flat sp)) ∧ Hid (wr.ownsRow w.heap.size 3 1 u6 k (dup f k)) ∧ Below w.heap.size w wr) (fun _ i9 _ => sp.length - 1 - (intOf i9).toNat)
        case atStart => exact ⟨0, by omega, rfl, rfl, how, hod, hbk⟩
        case round =>
          obtain ⟨j, hj, rfl, rfl, howj, hodj, hbj⟩ := hrel
          have hrm := remL_le sp k j
          by_cases hjl : j + 1 < sp.length
          · have F := flat_at sp j (by omega)
            have q1 := (howj.out.cellAt (j * 3) (by omega)).trans F.1
            have q2 := (howj.out.cellAt (j * 3 + 1) (by omega)).trans F.2.1
            have q3 := (howj.out.cellAt (j * 3 + 2) (by omega)).trans F.2.2
            have ti : (j : Int) < (sp.length : Int) - 1 := by omega
            cases hh : holB (spAt sp j) k with
            | true =>
              have CA := hide (hold_is (spAt sp j) k true hh wr)
              have R := hide (show remL sp k (j + 1) = j :: remL sp k j from if_pos hh)
              clear hh F how hod
              go_wp2_with fail
              refine CA.out.mono ?_
              rintro e w2 ⟨rfl, hb2⟩
              have O2 := hide (own_below howj.out hb2)
              have D2 := hide (own_below hodj.out hb2)
              have b2 := hbj.trans (hb2.mono hbj.size)
              clear CA hb2 howj hodj q1 q2 q3
              go_wp2_with fail
              go_roundw
              case rel => exact ⟨j + 1, by omega, by go_num, by rw [R.out]; simp, O2, D2, b2⟩
              case measure => simp [intOf]; omega
            | false =>
              have CA := hide (hold_is (spAt sp j) k false hh wr)
              have R := hide (show remL sp k (j + 1) = remL sp k j from if_neg (by rw [hh]; simp))
              clear hh F how hod
              go_wp2_with fail
              refine CA.out.mono ?_
              rintro e w2 ⟨rfl, hb2⟩
              have O2 := hide (own_below howj.out hb2)
              have D2 := hide (own_below hodj.out hb2)
              have b2 := hbj.trans (hb2.mono hbj.size)
              clear CA hb2 howj hodj q1 q2 q3
              go_wp2_with fail
              go_roundw
              case rel => exact ⟨j + 1, by omega, by go_num, by rw [R.out], O2, D2, b2⟩
              case measure => simp [intOf]; omega
          · have hje : j = sp.length - 1 := by omega
            have hr := REM.out k hlt
            rw [← hje] at hr
            have ti : ¬ ((j : Int) < (sp.length : Int) - 1) := by omega
            have hown := hodj.out
            have RB := row_block hodj.out
            have hbs := hbj.size
            have AL := hide (congrArg List.length hr)
            clear hr how hod hje
            go_wp2_with (at_builtin; refine wpList_append_own _ rfl (.tmp 39) (.tmp 41) 32 rfl w.heap.size 3 i3 (.int .i64 0) 1 8 Try.underlying32 hi3 hz30 hz31 hz32 rfl (by decide) _ _ _ rfl (hown.alloc _) ⟨wr.heap.size, 0, none⟩ 1 1 [.int .i64 ((remL sp k j).length : Nat)] rfl rfl (at_one _ _ _) (fun x hx => by simp at hx; subst hx; rfl) (by unfold maxLen; omega) (by omega) (by simp; omega) ?_)
            intro v1 w2 own1 grow1 _
            have D1 : Hid (w2.ownsRow w.heap.size 3 1 v1 (k + 1) (dup f (k + 1))) := hide (by rw [dup_succ, ← AL.out]; exact own1)
            have S1 := hide ((howj.out.alloc (.cells #[.int .i64 ((remL sp k j).length : Nat)] 3)).kept grow1 (own_ne howj.out hodj.out (by decide)))
            have b1 := (hbj.alloc hbs (.cells #[.int .i64 ((remL sp k j).length : Nat)] 3)).grown grow1 (by simp; omega) RB
            clear own1 grow1 hown RB howj hodj
            go_wp2_with fail
            go_roundw
            case rel => exact ⟨k + 1, by omega, by go_num, S1, D1, b1⟩
            case measure => simp [intOf]; omega
      · obtain rfl : k = n := by omega
        clear OW
        go_wp2_with fail
        go_ret2
        rw [HZ.out]
        exact ⟨_, rfl, fun _ => by rw [← dup_dcel]; exact hod.out, fun h => absurd rfl h, hbk⟩
  · obtain ⟨q, hq⟩ : ∃ q, er f n = q := ⟨_, rfl⟩
    rw [hq] at SP he ⊢
    have HE := hide he
    clear hq
    go_enter Try.func14, Try.ntmps14
    go_wp2_with fail
    refine SP.out.mono ?_
    rintro e w2 ⟨v, rfl, _, hv, hb2⟩
    obtain rfl := hv HE.out
    clear SP
    go_wp2_with fail
    go_ret2
    exact ⟨_, rfl, fun h => absurd h HE.out, fun _ => rfl, hb2⟩
end Go.Proofs.Ytglagdbkcigojaa

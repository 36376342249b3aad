/-
  ValidTrusted: with all functions trusted a valid module is valid; what is not trusted holds no Declassify, and calls nothing that is.
-/
import Derived.Test.YtamofhkmhjckaaaGreatDoorFnRow
import Derived.Test.YtamofhkmhjckaaaGreatDoorFrames
namespace Go.Proofs.YtamofhkmhjckaaaGreatDoor
open Go.RowKit

/-- the functions ahead of place k are trusted now -/
def setT (k : Nat) (fv : List FV) : List FV := (fv.take k).map (fun x => (trF x.1, x.2)) ++ fv.drop k
theorem setT_zero (fv : List FV) : setT 0 fv = fv := by simp [setT]
theorem setT_len (k : Nat) (fv : List FV) : (setT k fv).length = fv.length := by simp [setT]; omega
theorem setT_all (fv : List FV) : (setT fv.length fv).map (·.1) = (fv.map (·.1)).map trF := by simp [setT, List.map_map, Function.comp_def]
theorem setT_at {k : Nat} {fv : List FV} (h : k < fv.length) : (setT k fv)[k]'(by rw [setT_len]; exact h) = fv[k] := by
  unfold setT
  rw [List.getElem_append_right (by simp; omega)]
  simp [Nat.min_eq_left (Nat.le_of_lt h)]
theorem setT_next {k : Nat} {fv : List FV} (h : k < fv.length) : (setT k fv).set k (trF fv[k].1, fv[k].2) = setT (k + 1) fv := by
  unfold setT
  have hl : ((fv.take k).map (fun x : FV => (trF x.1, x.2))).length = k := by simp; omega
  rw [List.set_append_right _ _ (by omega), hl, Nat.sub_self, List.drop_eq_getElem_cons h, List.set_cons_zero, List.take_succ_eq_append_getElem h, List.map_append, List.append_assoc]
  rfl
theorem FRow.form {lo base : Nat} {sb : Option Addr} {n c : Nat} {fv : List FV} {W : World} (h : FRow lo base (.slice sb n c) fv W) (hn : 0 < fv.length) : ∃ g, sb = some ⟨g, 0, none⟩ ∧ n = fv.length ∧ base ≤ g := by
  rcases h.own.2 with ⟨_, hz⟩ | ⟨g, cap, cur, e, hb, _⟩
  · omega
  · simp only [Value.slice.injEq] at e
    exact ⟨g, e.1, e.2.1, hb⟩
theorem FRow.c {lo base g n c : Nat} {fv : List FV} {W : World} (h : FRow lo base (.slice (some ⟨g, 0, none⟩) n c) fv W) (hn : n = fv.length) (j : Nat) (hj : j < fv.length) (i : Nat) (hi : i < 4) : W.cell? ⟨g, j * 4 + i, none⟩ = (fce fv[j])[i]? := by
  subst hn
  rw [← fces_at fv j hj i hi]
  exact h.own.cellAt _ (by omega)
theorem map_get {fv : List FV} {l : List Fn} (h : fv.map (·.1) = l) {i : Nat} (hi : i < fv.length) : ∃ hl : i < l.length, fv[i].1 = l[i] := by
  subst h
  exact ⟨by simpa using hi, by simp⟩
set_option maxRecDepth 100000 in
set_option maxHeartbeats 8000000 in
theorem trust_walk (V : MoV) (M : Mo) (w : World) (hL : Laid w) (h : IsMo w.heap.size w V M) (hS : MoSm M) :
    Calls Tryz.prog 8 #[moV V M] w fun e w' => e = .returned (.bool true) ∧ Below w.heap.size w w' := by
  obtain ⟨i51, hi51, hz510, hz511, hz512⟩ := info_parts Tryz.info51
  have HB0 := hide (bel_one w (.cells #[V.v0, V.v1, V.v2, .int .i64 M.m0, .int .i64 M.m1, V.v5, V.v6] 29))
  have R0 := hide (Row.made w #[V.v0, V.v1, V.v2, .int .i64 M.m0, .int .i64 M.m1, V.v5, V.v6] 29)
  have EX := hide (examples_any (w.alloc (.cells #[V.v0, V.v1, V.v2, .int .i64 M.m0, .int .i64 M.m1, V.v5, V.v6] 29)) (hL.kept HB0.out))
  have VA := hide (fun (W : World) (b : Below w.heap.size w W) => valid_any V M W (hL.kept b) (h.step b b.size) hS.da)
  have CA := hide (fun (W : World) (n : Int) (hn : I64 n) (b : Below w.heap.size w W) => callee_any V M n W (h.step b b.size) hS.sm hn)
  have VB := hide (fun (W : World) (v2 : Value) (b : Below w.heap.size w W) (hf : Sl 4 EFn (Lt W.heap.size) W v2 (M.funcs.map trF)) => valid_any ⟨V.v0, V.v1, v2, V.v5, V.v6⟩ (trM M) W (hL.kept b) (by
    have q := h.step b b.size
    exact ⟨q.sigs, q.imports, hf, q.mems, q.globals, q.data⟩) hS.da)
  have HFN := hide (fun (W : World) (b : Below w.heap.size w W) => (h.step b b.size).funcs)
  obtain ⟨a0, c0, a1, c1, a2, c2, a5, c5, a6, c6, rfl⟩ := h.forms
  unfold moV at *
  dsimp only at *
  clear h hL hS
  cases hc : chkM M with
  | error c =>
    rw [hc] at VA
    clear hc
    go_enter Tryz.func8, Tryz.ntmps8
    go_wp2_with fail
    refine EX.out.mono ?_
    rintro e w1 ⟨rfl, b1⟩
    have R1 := R0.out.kept b1
    have HB1 := hide (below_next HB0.out b1)
    have m0 := R1.c 0 _ rfl
    have m1 := R1.c 1 _ rfl
    have m2 := R1.c 2 _ rfl
    have m3 := R1.c 3 _ rfl
    have m4 := R1.c 4 _ rfl
    have m5 := R1.c 5 _ rfl
    have m6 := R1.c 6 _ rfl
    clear R1 b1 EX
    go_wp2_with fail
    refine (VA.out w1 HB1.out).mono ?_
    rintro e w2 ⟨p, rfl, _, b2⟩
    have HB2 := hide (below_next HB1.out b2)
    clear b2
    unfold flt
    go_wp2_with fail
    go_ret
    exact ⟨rfl, HB2.out⟩
  | ok hts =>
    have FF := hide (fit_facts (chk_ok hc).1)
    have ND := hide (fun f (hf : f ∈ M.funcs) x (hx : x ∈ f.body) (ht : f.tr = false) => no_declass hc hf hx ht)
    have CT := hide (chkM_tr hc)
    rw [hc] at VA
    clear hc
    go_enter Tryz.func8, Tryz.ntmps8
    go_wp2_with fail
    refine EX.out.mono ?_
    rintro e w1 ⟨rfl, b1⟩
    have R1 := R0.out.kept b1
    have HB1 := hide (below_next HB0.out b1)
    have m0 := R1.c 0 _ rfl
    have m1 := R1.c 1 _ rfl
    have m2 := R1.c 2 _ rfl
    have m3 := R1.c 3 _ rfl
    have m4 := R1.c 4 _ rfl
    have m5 := R1.c 5 _ rfl
    have m6 := R1.c 6 _ rfl
    have HR1 := hide R1
    clear R1 b1 EX
    go_wp2_with fail
    refine (VA.out w1 HB1.out).mono ?_
    rintro e w2 ⟨rfl, b2⟩
    have R2 := HR1.out.kept b2
    have HB2 := hide (below_next HB1.out b2)
    clear b2 m0 m1 m2 m3 m4 m5 m6 HR1 VA
    have m2 := R2.c 2 _ rfl
    have HR2 := hide R2
    clear R2
    have hfl := FF.out.fns
    go_wp2_with (at_builtin; refine append_fns _ rfl _ _ 24 rfl i51 Tryz.underlying24 hi51 hz510 hz511 hz512 rfl a2 c2 M.funcs rfl w2.heap.size (Nat.le_refl _) (HFN.out w2 HB2.out) (by omega) ?_)
    intro sb sc w3 fv hfv F3 b3
    have HR3 := hide (HR2.out.kept b3)
    have HB3 := hide (below_next HB2.out b3)
    have HF3 := hide F3
    have HFV := hide hfv
    have hlen : fv.length = M.funcs.length := by rw [← hfv]; simp
    have hb2 : w.heap.size + 1 ≤ w2.heap.size := by have := HR2.out.lt; omega
    clear m2 F3 b3 hfv HR2
    go_wp2_with fail
    go_loopw [5] (fun i wr => ∃ k : Nat, k ≤ M.funcs.length ∧ i = .int .i64 k ∧ Hid (Below w.heap.size w wr) ∧ Hid (FRow w2.heap.size w2.heap.size (.slice sb M.funcs.length sc) fv wr) ∧ Hid (Row wr w.heap.size #[.slice a0 M.sigs.length c0, .slice a1 M.imports.length c1, .slice a2 M.funcs.length c2, .int .i64 M.m0, .int .i64 M.m1, .slice a5 M.globals.length c5, .slice a6 M.data.length c6] 29)) (fun i _ => M.funcs.length - (intOf i).toNat)
    case atStart => exact ⟨0, Nat.zero_le _, rfl, HB3, HF3, HR3⟩
    case round =>
      obtain ⟨i, hi, rfl, HB, HF, HR⟩ := hrel
      by_cases hlt : i < M.funcs.length
      · obtain ⟨g, rfl, hn', hg⟩ := HF.out.form (by omega)
        have hn := hide hn'
        clear hn'
        have hif : i < fv.length := by omega
        obtain ⟨hil, hfi⟩ := map_get HFV.out hif
        have HFI := hide hfi
        have HMF := hide (List.getElem_mem hil)
        have hbl := (FF.out.fn _ HMF.out).2.1
        have hi8 : i ≤ 8 := by omega
        generalize M.funcs[i] = F at *
        have hi0 : ¬ (i : Int) < 0 := by omega
        have hin : (i : Int) < M.funcs.length := by omega
        clear hfi
        go_wp2_with fail
        go_loopw [6] (fun kv wx => ∃ k : Nat, k ≤ F.body.length ∧ kv = .int .i64 k ∧ Hid (Below w.heap.size w wx) ∧ Hid (FRow w2.heap.size w2.heap.size (.slice (some ⟨g, 0, none⟩) M.funcs.length sc) fv wx) ∧ Hid (Row wx w.heap.size #[.slice a0 M.sigs.length c0, .slice a1 M.imports.length c1, .slice a2 M.funcs.length c2, .int .i64 M.m0, .int .i64 M.m1, .slice a5 M.globals.length c5, .slice a6 M.data.length c6] 29)) (fun kv _ => F.body.length - (intOf kv).toNat)
        case atStart => exact ⟨0, Nat.zero_le _, rfl, HB, HF, HR⟩
        case round =>
          clear HB HF HR
          obtain ⟨k, hk, rfl, HB, HF, HR⟩ := hrel
          have q1 : wr.cell? ⟨g, i * 4 + 1, none⟩ = some (.bool F.tr) := by rw [HF.out.c hn.out i hif 1 (by omega), ← HFI.out]; rfl
          obtain ⟨ab, cb, hvb, hbe⟩ := (HF.out.ok _ (List.getElem_mem hif)).2.2
          have q3 : wr.cell? ⟨g, i * 4 + 3, none⟩ = some (.slice ab F.body.length cb) := by rw [HF.out.c hn.out i hif 3 (by omega), ← HFI.out, ← hvb]; rfl
          rw [HFI.out] at hbe
          by_cases hlk : k < F.body.length
          · obtain ⟨b', off', hab, hb', h64, g0, g1, g2⟩ := hbe k hlk
            have HX := hide (List.getElem_mem hlk)
            have hx64 := h64.2.1
            generalize F.body[k] = x at *
            obtain ⟨op, nn, mm⟩ := x
            simp only at g0 g1 g2 hx64
            subst hab
            have hk0 : ¬ (k : Int) < 0 := by omega
            have hkn : (k : Int) < F.body.length := by omega
            have hgw : g < wr.heap.size := (HF.out.own.lt g rfl).2
            have A1 := hide (bel_one wr (.cells #[.int .i64 op, .int .i64 nn, .int .i64 mm] 53))
            have X1 := hide (Row.made wr #[.int .i64 op, .int .i64 nn, .int .i64 mm] 53)
            have HB2' := hide (below_next HB.out A1.out)
            have HF2' := hide (HF.out.next A1.out)
            have HR2' := hide (HR.out.kept A1.out)
            have q1' : (wr.alloc (.cells #[.int .i64 op, .int .i64 nn, .int .i64 mm] 53)).cell? ⟨g, i * 4 + 1, none⟩ = some (.bool F.tr) := (A1.out.cell (p := ⟨g, i * 4 + 1, none⟩) hgw).trans q1
            clear hbe h64 hvb
            cases ht : F.tr with
            | true =>
              rw [ht] at q1 q1'
              go_wp2_with fail
              go_roundw
              case rel => exact ⟨k + 1, by omega, by go_num, HB2', HF2', HR2'⟩
              case measure => simp [intOf]; omega
            | false =>
              have HND := hide (ND.out F HMF.out _ HX.out ht)
              rw [ht] at q1 q1'
              have m0 := HR2'.out.c 0 _ rfl
              have m1 := HR2'.out.c 1 _ rfl
              have m2 := HR2'.out.c 2 _ rfl
              have m3 := HR2'.out.c 3 _ rfl
              have m4 := HR2'.out.c 4 _ rfl
              have m5 := HR2'.out.c 5 _ rfl
              have m6 := HR2'.out.c 6 _ rfl
              go_wp2_with fail
              refine (CA.out _ nn hx64 HB2'.out).mono ?_
              intro e w5 he
              clear m0 m1 m2 m3 m4 m5 m6 q1 q1' q3
              have h241 : (op == 241) = false := by simpa using HND.out.1
              have done : ∀ (o : Obj) (w5 : World), Below (wr.alloc (.cells #[.int .i64 op, .int .i64 nn, .int .i64 mm] 53)).heap.size (wr.alloc (.cells #[.int .i64 op, .int .i64 nn, .int .i64 mm] 53)) w5 → Hid (Below w.heap.size w (w5.alloc o)) ∧ Hid (FRow w2.heap.size w2.heap.size (.slice (some ⟨g, 0, none⟩) M.funcs.length sc) fv (w5.alloc o)) ∧ Hid (Row (w5.alloc o) w.heap.size #[.slice a0 M.sigs.length c0, .slice a1 M.imports.length c1, .slice a2 M.funcs.length c2, .int .i64 M.m0, .int .i64 M.m1, .slice a5 M.globals.length c5, .slice a6 M.data.length c6] 29) ∧ Hid (Row (w5.alloc o) wr.heap.size #[.int .i64 op, .int .i64 nn, .int .i64 mm] 53) := fun o w5 b5 =>
                ⟨hide (below_next HB2'.out (b5.alloc b5.size o)), hide (HF2'.out.next (b5.alloc b5.size o)), hide (HR2'.out.kept (b5.alloc b5.size o)), hide (X1.out.kept (b5.alloc b5.size o))⟩
              have HD := hide done
              clear done
              cases hcal : callee M nn with
              | none =>
                rw [hcal] at he
                obtain ⟨rfl, b5⟩ := he
                obtain ⟨D1, D2, D3, D4⟩ := HD.out (.cells #[.slice none 0 0, .slice none 0 0] 45) w5 b5
                have x0 := D4.out.c 0 _ rfl
                clear b5 hcal
                by_cases h16 : op = 16
                · subst h16
                  go_wp2_with fail
                  go_roundw
                  case rel => exact ⟨k + 1, by omega, by go_num, D1, D2, D3⟩
                  case measure => simp [intOf]; omega
                · have h16' : (op == 16) = false := by simpa using h16
                  clear h16
                  go_wp2_with fail
                  go_roundw
                  case rel => exact ⟨k + 1, by omega, by go_num, D1, D2, D3⟩
                  case measure => simp [intOf]; omega
              | some r =>
                obtain ⟨gs, host, tr2⟩ := r
                rw [hcal] at he
                obtain ⟨ap, cp, ar, cr, rfl, _, _, b5⟩ := he
                obtain ⟨D1, D2, D3, D4⟩ := HD.out (.cells #[.slice ap gs.params.length cp, .slice ar gs.results.length cr] 45) w5 b5
                have x0 := D4.out.c 0 _ rfl
                clear b5
                by_cases h16 : op = 16
                · subst h16
                  cases tr2 with
                  | true => exact absurd ⟨rfl, gs, host, hcal⟩ HND.out.2
                  | false =>
                    clear hcal
                    go_wp2_with fail
                    go_roundw
                    case rel => exact ⟨k + 1, by omega, by go_num, D1, D2, D3⟩
                    case measure => simp [intOf]; omega
                · have h16' : (op == 16) = false := by simpa using h16
                  clear h16 hcal
                  go_wp2_with fail
                  go_roundw
                  case rel => exact ⟨k + 1, by omega, by go_num, D1, D2, D3⟩
                  case measure => simp [intOf]; omega
          · obtain rfl : k = F.body.length := by omega
            go_wp2_with fail
            go_roundw
            case rel => exact ⟨i + 1, by omega, by go_num, HB, HF, HR⟩
            case measure => simp [intOf]; omega
      · obtain rfl : i = M.funcs.length := by omega
        go_wp2_with fail
        have F0 : Hid (FRow w2.heap.size w2.heap.size (.slice sb M.funcs.length sc) (setT 0 fv) wr) := hide (by rw [setT_zero]; exact HF.out)
        clear HF
        go_loopw [12] (fun iv wx => ∃ k : Nat, k ≤ M.funcs.length ∧ iv = .int .i64 k ∧ Hid (Below w.heap.size w wx) ∧ Hid (FRow w2.heap.size w2.heap.size (.slice sb M.funcs.length sc) (setT k fv) wx) ∧ Hid (Row wx w.heap.size #[.slice a0 M.sigs.length c0, .slice a1 M.imports.length c1, .slice a2 M.funcs.length c2, .int .i64 M.m0, .int .i64 M.m1, .slice a5 M.globals.length c5, .slice a6 M.data.length c6] 29)) (fun iv _ => M.funcs.length - (intOf iv).toNat)
        case atStart => exact ⟨0, Nat.zero_le _, rfl, HB, F0, HR⟩
        case round =>
          clear HB F0 HR
          obtain ⟨k, hk, rfl, HB, HF, HR⟩ := hrel
          by_cases hlk : k < M.funcs.length
          · obtain ⟨g, rfl, hn', hg⟩ := HF.out.form (by rw [setT_len]; omega)
            have hn := hide hn'
            clear hn'
            have hkf : k < fv.length := by omega
            have hkt : k < (setT k fv).length := by rw [setT_len]; exact hkf
            have hk8 : k ≤ 8 := by omega
            have hk0 : ¬ (k : Int) < 0 := by omega
            have hkn : (k : Int) < M.funcs.length := by omega
            have q1 := HF.out.c hn.out k hkt 1 (by omega)
            have e1 : (fce (setT k fv)[k])[1]? = some (.bool (setT k fv)[k].1.tr) := rfl
            rw [e1, setT_at hkf] at q1
            have f1 : wr.frozen? ⟨g, k * 4 + 1, none⟩ = false := by
              have h := HF.out.own
              rw [← hn.out] at h
              exact h.frozenAt _
            have ok := HF.out.ok _ (List.getElem_mem hkt)
            have S1 := HF.out.set hn.out k hkt 1 (by omega) (.bool true) (trF fv[k].1, fv[k].2) (by rw [setT_at hkf]; rfl) (by rw [setT_at hkf] at ok; exact ok)
            rw [setT_next hkf] at S1
            have HS1 := hide S1
            have HB1 := hide (show Below w.heap.size w (wr.setCell ⟨g, k * 4 + 1, none⟩ (.bool true)) from HB.out.setCell (by show w.heap.size ≤ g; omega) _)
            have HR1 := hide (HR.out.other (c := g) (k * 4 + 1) (.bool true) (by omega))
            clear ok S1 e1
            go_wp2_with fail
            go_roundw
            case rel => exact ⟨k + 1, by omega, by go_num, HB1, HS1, HR1⟩
            case measure => simp [intOf]; omega
          · obtain rfl : k = M.funcs.length := by omega
            have m0 := HR.out.c 0 _ rfl
            have m1 := HR.out.c 1 _ rfl
            have m2 := HR.out.c 2 _ rfl
            have m3 := HR.out.c 3 _ rfl
            have m4 := HR.out.c 4 _ rfl
            have m5 := HR.out.c 5 _ rfl
            have m6 := HR.out.c 6 _ rfl
            have SL := (HF.out.next (bel_one wr (.cells #[.slice a0 M.sigs.length c0, .slice a1 M.imports.length c1, .slice sb M.funcs.length sc, .int .i64 M.m0, .int .i64 M.m1, .slice a5 M.globals.length c5, .slice a6 M.data.length c6] 29))).sl
            have em : (setT M.funcs.length fv).map (·.1) = M.funcs.map trF := by rw [← hlen, setT_all, HFV.out]
            rw [em] at SL
            have HSL := hide SL
            have HB9 := hide (below_next HB.out (bel_one wr (.cells #[.slice a0 M.sigs.length c0, .slice a1 M.imports.length c1, .slice sb M.funcs.length sc, .int .i64 M.m0, .int .i64 M.m1, .slice a5 M.globals.length c5, .slice a6 M.data.length c6] 29)))
            clear SL em
            go_wp2_with fail
            refine (VB.out _ _ HB9.out HSL.out).mono ?_
            rw [CT.out]
            rintro e w9 ⟨rfl, b9⟩
            have HB10 := hide (below_next HB9.out b9)
            clear b9
            go_wp2_with fail
            go_ret
            exact ⟨rfl, HB10.out⟩
end Go.Proofs.YtamofhkmhjckaaaGreatDoor

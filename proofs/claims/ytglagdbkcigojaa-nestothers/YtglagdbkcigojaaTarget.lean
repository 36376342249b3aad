/-
  The program's Target: where a branch goes, as the plain function tells.
-/
import Derived.Test.YtglagdbkcigojaaClone
namespace Go.Proofs.Ytglagdbkcigojaa
open Go.RowKit

/-- those that were kept: numbers in memory of their own -/
def LF (B : Nat) (vs vo : Value) (w : World) (v : Value) (l : List Nat) : Prop := ∃ a m c, v = .slice a m c ∧ m = l.length ∧ ∀ j, j < m → ∃ g, a = some ⟨g, 0, none⟩ ∧ B + 6 ≤ g ∧ g < w.heap.size ∧ vs.ownBlock ≠ some g ∧ vo.ownBlock ≠ some g ∧ w.cell? ⟨g, j, none⟩ = some (.int .i64 ((l.reverse.getD j 0 : Nat) : Int))
theorem LF.none (B : Nat) (vs vo : Value) (w : World) : LF B vs vo w (.slice none 0 0) [] := ⟨Option.none, 0, 0, rfl, rfl, fun _ h => absurd h (by omega)⟩
theorem LF.keep {B : Nat} {vs vo vs' vo' : Value} {w w' : World} {v : Value} {l : List Nat} (h : LF B vs vo w v l) (hF : Fr B vs vo vs' vo' w w') : LF B vs' vo' w' v l := by
  obtain ⟨a, m, c, rfl, hm, hc⟩ := h
  refine ⟨a, m, c, rfl, hm, fun j hj => ?_⟩
  obtain ⟨g, rfl, hg, hl, h1, h2, hx⟩ := hc j hj
  obtain ⟨q1, q2⟩ := hF.apart hl h1 h2
  exact ⟨g, rfl, hg, by have := hF.bl.size; omega, q1, q2, (World.cell?_of_block (w := w) (hF.kp g hg hl h1 h2)).trans hx⟩
theorem LF.new {B : Nat} {a : Option Addr} {n c : Nat} {s : St} {vs vo : Value} {w w' : World} {v : Value} {l : List Nat} (hI : Inv B a n c s vs vo w) (hN : Nw w.heap.size w' v l) : LF B vs vo w' v l := by
  obtain ⟨a, m, c, rfl, hm, hc⟩ := hN
  refine ⟨a, m, c, rfl, hm, fun j hj => ?_⟩
  obtain ⟨g, rfl, hg, hl, hx⟩ := hc j hj
  exact ⟨g, rfl, by have := hI.bx.size; omega, hl, fun e => by have := (hI.os.lt g e).2; omega, fun e => by have := (hI.oo.lt g e).2; omega, hx⟩
/-- those around the place asked for, once it has been passed -/
def lft (f : Nat → Int) (p : Int) (k : Nat) : List Nat := if 0 ≤ p ∧ p < k then arL f p.toNat (run f p.toNat) else []
theorem lft_len (f : Nat → Int) (p : Int) (k : Nat) : (lft f p k).length ≤ k := by
  unfold lft
  split
  · rename_i h
    have h1 := (run_len f p.toNat).2.1
    have : (arL f p.toNat (run f p.toNat)).length ≤ (run f p.toNat).op.length := by
      cases way f p.toNat (run f p.toNat) with
      | stop h0 => rw [arL_stop h0]; simp
      | opens hw he h1 => rw [arL_open hw he h1]; simp
      | else0 hw he h1 ho => rw [arL_else0 hw he h1 ho]; simp
      | elseN k r hw he h1 ho hl => rw [arL_elseN hw he h1 ho hl]; simp
      | elseY k r hw he h1 ho hl => rw [arL_elseY hw he h1 ho hl, ho]; simp
      | end0 hw he h1 ho => rw [arL_end0 hw he h1 ho]; simp
      | endY k r hw he h1 ho => rw [arL_endY hw he h1 ho, ho]; simp
      | other hw he h0 h1 h2 => rw [arL_other hw he h0 h1 h2]; simp
    omega
  · simp
theorem lft_hit (f : Nat → Int) (p : Int) (k : Nat) (h : p = k) : lft f p (k + 1) = arL f k (run f k) := by
  subst h
  unfold lft
  rw [if_pos ⟨by omega, by omega⟩]
  simp
theorem lft_miss (f : Nat → Int) (p : Int) (k : Nat) (h : p ≠ k) : lft f p (k + 1) = lft f p k := by
  unfold lft
  by_cases hc : 0 ≤ p ∧ p < k
  · rw [if_pos hc, if_pos ⟨hc.1, by omega⟩]
  · rw [if_neg hc, if_neg (fun h' => hc ⟨h'.1, by omega⟩)]
theorem lft_at {f : Nat → Int} {p : Int} {n : Nat} (h0 : 0 ≤ p) (h1 : p < n) : lft f p n = arL f p.toNat (run f p.toNat) := if_pos ⟨h0, h1⟩

theorem tgt_err {f : Nat → Int} {n : Nat} {p d : Int} (h : er f n ≠ 0) : tgt f n p d = (0, false, er f n) := if_pos h
theorem tgt_inv {f : Nat → Int} {n : Nat} {p d : Int} (h : er f n = 0) (hx : p < 0 ∨ (n : Int) ≤ p ∨ d < 0 ∨ (0 ≤ p ∧ p < n ∧ ((lft f p n).length : Int) < d)) : tgt f n p d = (0, false, 3) := by
  unfold tgt
  rw [if_neg (by simpa using h), if_pos ?_]
  rcases hx with h | h | h | ⟨h0, h1, h2⟩
  · exact .inl h
  · exact .inr (.inl h)
  · exact .inr (.inr (.inl h))
  · rw [lft_at h0 h1] at h2; exact .inr (.inr (.inr h2))
theorem tgt_body {f : Nat → Int} {n : Nat} {p d : Int} (h : er f n = 0) (h0 : 0 ≤ p) (h1 : p < n) (hd : d = (lft f p n).length) : tgt f n p d = ((n : Int) - 1, false, 0) := by
  rw [lft_at h0 h1] at hd
  unfold tgt
  rw [if_neg (by simpa using h), if_neg (by omega), if_pos hd]
theorem tgt_in {f : Nat → Int} {n : Nat} {p : Int} {d : Nat} (h : er f n = 0) (h0 : 0 ≤ p) (h1 : p < n) (hd : d < (lft f p n).length) :
    tgt f n p d = if f (spAt (run f n).sp ((lft f p n).getD d 0)).b.toNat = 3 then ((spAt (run f n).sp ((lft f p n).getD d 0)).b, true, 0) else ((spAt (run f n).sp ((lft f p n).getD d 0)).d, false, 0) := by
  rw [lft_at h0 h1] at hd ⊢
  unfold tgt
  rw [if_neg (by simpa using h), if_neg (by omega), if_neg (by omega)]
  rfl
/-- three results -/
def tri (r : Int × Bool × Int) : Ending := .returned (.tuple #[.int .i64 r.1, .bool r.2.1, .int .i64 r.2.2])

set_option maxRecDepth 100000 in
set_option maxHeartbeats 8000000 in
theorem target_any (a : Option Addr) (n c n₀ : Nat) (f : Nat → Int) (p d : Int) (w : World) (hO : Ops n₀ w a n f) (hn₀ : n₀ ≤ w.heap.size) (hn : n ≤ 1000) :
    Calls Try.prog 16 #[.slice a n c, .int .i64 p, .int .i64 d] w fun e w' => e = tri (tgt f n p d) ∧ Below w.heap.size w w' := by
  have HO := hide hO
  have HN := hide hn₀
  have OP := hide (opened_any a n c w)
  clear hO hn₀
  go_enter Try.func16, Try.ntmps16
  go_wp2_with fail
  refine OP.out.mono ?_
  rintro e w1 ⟨rfl, hI, hb⟩
  have HI := hide hI
  clear hI OP
  unfold cloA cloE
  go_wp2_with fail
  go_loopw [11, 23] (fun lv i wr => ∃ (k : Nat) (vs vo : Value), k ≤ n ∧ i = .int .i64 k ∧ Hid (Inv w.heap.size a n c (run f k) vs vo wr) ∧ Hid (LF w.heap.size vs vo wr lv (lft f p k)) ∧ Below w.heap.size w wr) (fun _ i _ => n - (intOf i).toNat)
  case atStart => exact ⟨0, _, _, by omega, rfl, HI, hide (by
    have : lft f p 0 = [] := if_neg (by omega)
    rw [this]; exact LF.none _ _ _ _), hb⟩
  case round =>
    obtain ⟨k, vs, vo, hk, rfl, hIk, hLk, hbk⟩ := hrel
    by_cases hlt : k < n
    · have AR := hide (around_any w.heap.size n c a f k vs vo wr hIk.out ((HO.out.below hbk HN.out).mono HN.out) hlt hn)
      clear hIk HI
      go_wp2_with fail
      refine AR.out.mono ?_
      rintro e w2 ⟨a2, m2, c2, rfl, hrd, vs2, vo2, hI2, hF2⟩
      have HI2 := hide hI2
      have hb2 := hbk.trans hF2.bl
      have LK := hide (hLk.out.keep hF2)
      have hm2 : m2 ≤ 1000 := by
        have h1 := hrd.1
        have h2 := lft_len f k (k + 1)
        rw [lft_hit f k k rfl] at h2
        omega
      have CL := hide (clone_any a2 m2 c2 _ w2 hrd hm2)
      clear hI2 hF2 AR hrd hLk
      by_cases hp : p = k
      · have ht : ((k : Int) == p) = true := by simp [hp]
        have HP := hide hp
        clear hp
        go_wp2_with fail
        refine CL.out.mono ?_
        rintro e w3 ⟨v3, rfl, hN3, hb3⟩
        have LN := hide (LF.new HI2.out hN3)
        have HI3 := hide (HI2.out.grow hb3)
        have hb4 := hb2.trans (hb3.mono hb2.size)
        clear hN3 hb3 CL ht
        go_wp2_with fail
        go_roundw
        case rel => exact ⟨k + 1, vs2, vo2, by omega, by go_num, HI3, by rw [lft_hit f p k HP.out]; exact LN, hb4⟩
        case measure => simp [intOf]; omega
      · have ht : ((k : Int) == p) = false := by simp; omega
        have HP := hide hp
        clear hp
        go_wp2_with fail
        clear ht CL
        go_roundw
        case rel => exact ⟨k + 1, vs2, vo2, by omega, by go_num, HI2, by rw [lft_miss f p k HP.out]; exact LK, hb2⟩
        case measure => simp [intOf]; omega
    · obtain rfl : k = n := by omega
      obtain ⟨al, ml, cl, hv, hml, hcl⟩ := hLk.out
      subst hv
      have HML := hide hml
      have hmz : ml ≤ 1000 := by have := lft_len f p k; omega
      have HCL := hide hcl
      have EN := hide (end_any w.heap.size a k c (run f k) vs vo wr hIk.out (by have := (run_len f k).2.2; omega))
      rw [← er_is] at EN
      have OK := hide ((HO.out.below hbk HN.out).mono HN.out)
      clear HI hml hcl hLk
      by_cases he : er f k = 0
      · rw [he] at EN
        have HE := hide he
        clear he
        go_wp2_with fail
        refine EN.out.mono ?_
        rintro e w4 ⟨v, rfl, hv, _, rfl⟩
        obtain rfl := hv (by simp)
        clear EN
        by_cases hp0 : p < 0
        · have R := hide (tgt_inv (d := d) HE.out (.inl hp0))
          go_wp2_with fail
          go_ret3
          rw [R.out]; exact ⟨rfl, hbk⟩
        · by_cases hpn : (k : Int) ≤ p
          · have R := hide (tgt_inv (d := d) HE.out (.inr (.inl hpn)))
            go_wp2_with fail
            go_ret3
            rw [R.out]; exact ⟨rfl, hbk⟩
          · by_cases hd0 : d < 0
            · have R := hide (tgt_inv (p := p) HE.out (.inr (.inr (.inl hd0))))
              go_wp2_with fail
              go_ret3
              rw [R.out]; exact ⟨rfl, hbk⟩
            · by_cases hdm : (ml : Int) < d
              · have R := hide (tgt_inv (p := p) (d := d) HE.out (.inr (.inr (.inr ⟨by omega, by omega, by have := HML.out; omega⟩))))
                go_wp2_with fail
                go_ret3
                rw [R.out]; exact ⟨rfl, hbk⟩
              · by_cases hde : d = ml
                · have R := hide (tgt_body (p := p) (d := d) HE.out (by omega) (by omega) (by rw [hde, HML.out]))
                  subst hde
                  go_wp2_with fail
                  go_ret3
                  rw [R.out]; exact ⟨rfl, hbk⟩
                · obtain ⟨dn, rfl⟩ := Int.eq_ofNat_of_zero_le (show 0 ≤ d by omega)
                  have hdl : dn < (lft f p k).length := by have := HML.out; omega
                  have R := hide (tgt_in (p := p) HE.out (by omega) (by omega) hdl)
                  obtain ⟨j, hj⟩ : ∃ j, ml = j + 1 + dn := ⟨ml - 1 - dn, by omega⟩
                  obtain ⟨g, hg, _, _, _, _, hx⟩ := HCL.out j (by omega)
                  have hxj : (lft f p k).reverse.getD j 0 = (lft f p k).getD dn 0 := by
                    have : (lft f p k).length = j + 1 + dn := by rw [← HML.out, hj]
                    simp only [List.getD_eq_getElem?_getD]
                    rw [List.getElem?_reverse (by omega), this]
                    congr 2
                    omega
                  rw [hxj] at hx
                  obtain ⟨hw0, he0, _⟩ := er_ok HE.out
                  have hmem : (lft f p k).getD dn 0 ∈ arL f p.toNat (run f p.toNat) := by
                    rw [← lft_at (n := k) (by omega) (by omega)]
                    simp [List.getD_eq_getElem?_getD, List.getElem?_eq_getElem hdl]
                  obtain ⟨bb, dd, hbb, hdd, _, _, _, _, hkl, _⟩ := around_is hw0 he0 (show p.toNat < k by omega) hmem
                  obtain ⟨kk, hkk⟩ : ∃ kk, kk = (lft f p k).getD dn 0 := ⟨_, rfl⟩
                  rw [← hkk] at hx hbb hdd hkl R
                  obtain ⟨as1, cs1, rfl⟩ := own_slice hIk.out.os
                  obtain ⟨gs, rfl, _, _, _⟩ := own_some hIk.out.os (by omega)
                  have hkl' : kk < (run f k).sp.length := by omega
                  have q1 := (hIk.out.os.cellAt (kk * 3) (by omega)).trans (flat_at _ kk hkl').1
                  have q2 := (hIk.out.os.cellAt (kk * 3 + 1) (by omega)).trans (flat_at _ kk hkl').2.1
                  have q3 := (hIk.out.os.cellAt (kk * 3 + 2) (by omega)).trans (flat_at _ kk hkl').2.2
                  obtain ⟨bl, off, rfl, hbl, hcl⟩ := OK.out bb (by omega)
                  rw [hbb] at q1
                  rw [hdd] at q3
                  rw [hbb, hdd, Int.toNat_natCast] at R
                  generalize (spAt (run f k).sp kk).e = ee at q2
                  have cc := ((bel_one w4 (.cells #[.int .i64 bb, .int .i64 ee, .int .i64 dd] 45)).cell (p := ⟨bl, off + bb * 3, none⟩) (by show bl < _; have := hbk.size; omega)).trans hcl
                  have hbe := hide ((hbk.trans ((bel_one w4 (.cells #[.int .i64 bb, .int .i64 ee, .int .i64 dd] 45)).mono hbk.size)))
                  have hbk9 : bb < k := by omega
                  have hrl := (run_len f k).1
                  subst hj hg
                  clear hxj hmem hbb hdd hkk hw0 he0 hcl hdl HML HCL HO OK HN HE
                  by_cases h3 : f bb = 3
                  · rw [if_pos h3] at R
                    rw [h3] at cc
                    clear h3
                    go_wp2_with fail
                    go_ret3
                    rw [R.out]; exact ⟨rfl, hbe.out⟩
                  · rw [if_neg h3] at R
                    go_wp2_with fail
                    go_ret3
                    rw [R.out]; exact ⟨rfl, hbe.out⟩
      · obtain ⟨q, hq⟩ : ∃ q, er f k = q := ⟨_, rfl⟩
        have R := hide (tgt_err (p := p) (d := d) he)
        rw [hq] at EN he R
        clear hq
        go_wp2_with fail
        refine EN.out.mono ?_
        rintro e w4 ⟨v, rfl, _, _, rfl⟩
        clear EN
        go_wp2_with fail
        go_ret3
        rw [R.out]
        exact ⟨rfl, hbk⟩
end Go.Proofs.Ytglagdbkcigojaa

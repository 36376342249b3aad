/-
  Two lists of numbers held against each other; the chapter's examples.
-/
import Derived.Test.YtookbgnidinkoaaS
import Derived.Test.YtookbgnidinkoaaT
namespace Go.Proofs.Ytookbgnidinkoaa
open Go.RowKit
open Xc
set_option linter.unusedSimpArgs false
set_option linter.unusedVariables false
/-- Numbers that can be read. -/
def RI (w : World) (a : Option Addr) (ns : List Int) : Prop := ns = [] ∨ ∃ b off, a = some ⟨b, off, none⟩ ∧ b < w.heap.size ∧ ∀ j (hj : j < ns.length), w.cell? ⟨b, off + j, none⟩ = some (.int .i64 ns[j])
theorem RI.kept {w w' : World} {a : Option Addr} {ns : List Int} (h : RI w a ns) (k : Below w.heap.size w w') : RI w' a ns := by
  rcases h with h | ⟨b, off, e, hb, h⟩
  · exact Or.inl h
  · exact Or.inr ⟨b, off, e, Nat.lt_of_lt_of_le hb k.size, fun j hj => (k.cell (p := ⟨b, off + j, none⟩) hb).trans (h j hj)⟩
theorem NR.ri {B : Nat} {v : Value} {ns : List Int} {w : World} (h : NR B v ns w) : ∃ a c, v = .slice a ns.length c ∧ RI w a ns := by
  rcases Nat.eq_zero_or_pos ns.length with h0 | h0
  · obtain ⟨a, c, e⟩ := h.form
    exact ⟨a, c, e, Or.inl (List.length_eq_zero_iff.1 h0)⟩
  · obtain ⟨g, c, e, hb, hlt, hc⟩ := h.at h0
    exact ⟨_, c, e, Or.inr ⟨g, 0, rfl, hlt, fun j hj => by rw [Nat.zero_add]; exact hc j hj⟩⟩
def NuIs (a1 : Option Addr) (c1 : Nat) (xs : List Int) (a2 : Option Addr) (c2 : Nat) (ys : List Int) (w : World) : Prop := Calls Try.prog 11 #[.slice a1 xs.length c1, .slice a2 ys.length c2] w fun e w' => e = .returned (.bool (decide (xs = ys))) ∧ Below w.heap.size w w'
set_option maxHeartbeats 2000000 in
theorem numbers_any (a1 : Option Addr) (c1 : Nat) (xs : List Int) (a2 : Option Addr) (c2 : Nat) (ys : List Int) (w : World) (hl : xs.length ≤ 2000000) (h1 : RI w a1 xs) (h2 : RI w a2 ys) : NuIs a1 c1 xs a2 c2 ys w := by
  unfold NuIs
  by_cases hn : xs.length = ys.length
  · have H1 := hide h1
    have H2 := hide h2
    have hnn : ((xs.length : Int) == (ys.length : Int)) = true := by simp [hn]
    clear h1 h2
    go_enter Try.func11, Try.ntmps11
    go_wp2_with fail
    go_loopw [5] (fun iv wr => ∃ k : Nat, k ≤ xs.length ∧ iv = .int .i64 (k : Int) ∧ Below w.heap.size w wr ∧ Hid (∀ j (hj : j < xs.length) (hj2 : j < ys.length), j < k → xs[j] = ys[j])) (fun iv _ => xs.length - (intOf iv).toNat)
    case atStart => exact ⟨0, by omega, rfl, Below.refl _ _, hide (fun j hj _ h => absurd h (by omega))⟩
    case round =>
      obtain ⟨k, hk, rfl, hb, hA⟩ := hrel
      by_cases hlt : k < xs.length
      · have hlt2 : k < ys.length := by omega
        rcases H1.out with h | ⟨b, off, rfl, hbb, h1⟩
        · rw [h] at hlt; simp at hlt
        rcases H2.out with h | ⟨b2, off2, rfl, hbb2, h2⟩
        · rw [h] at hlt2; simp at hlt2
        have c1 := (hb.cell (p := ⟨b, off + k, none⟩) hbb).trans (h1 k hlt)
        have c2 := (hb.cell (p := ⟨b2, off2 + k, none⟩) hbb2).trans (h2 k hlt2)
        by_cases he : xs[k] = ys[k]
        · have hA2 : Hid (∀ j (hj : j < xs.length) (hj2 : j < ys.length), j < k + 1 → xs[j] = ys[j]) := fun j hj hj2 h => by
            rcases Nat.lt_or_ge j k with h' | h'
            · exact hA.out j hj hj2 h'
            · have : j = k := by omega
              subst this; exact he
          clear hA h1 h2
          rw [← he] at c2
          generalize xs[k] = x at *
          clear he
          go_wp2_with fail
          go_region
          all_goals
            go_wp2_with fail
            go_roundw
            case rel => exact ⟨k + 1, by omega, by go_num, hb.drew, hA2⟩
            case measure => simp [intOf]; omega
        · have hD : Hid (decide (xs = ys) = false) := decide_eq_false fun h => he (by simp [h])
          have hne : (xs[k] == ys[k]) = false := by simpa using he
          clear hA h1 h2 he
          generalize xs[k] = x at *
          generalize ys[k] = y at *
          go_wp2_with fail
          go_region
          all_goals
            go_wp2_with fail
            go_ret
            exact ⟨by rw [hD.out]; rfl, hb.drew⟩
      · have hkm : k = xs.length := by omega
        subst hkm
        have hD : Hid (decide (xs = ys) = true) := decide_eq_true (List.ext_getElem hn fun j h1 h2 => hA.out j h1 h2 h1)
        clear hA
        go_wp2_with fail
        go_ret
        exact ⟨by rw [hD.out]; rfl, hb⟩
  · have hD : Hid (decide (xs = ys) = false) := decide_eq_false fun h => hn (by rw [h])
    have hnn : ((xs.length : Int) == (ys.length : Int)) = false := by simp; omega
    go_enter Try.func11, Try.ntmps11
    go_wp2_with fail
    go_ret
    exact ⟨by rw [hD.out]; rfl, Below.refl _ _⟩
def nulX : Xi := ⟨0, false, 0, 0, 0, 0, 0⟩
def ex1 : List It := [⟨nulX, 1, 0⟩, ⟨⟨20, false, 0, 0, 0, 0, 0⟩, 0, 0⟩, ⟨⟨17, false, 0, 0, 0, 0, 0⟩, 0, 1⟩]
def ex2 : List It := [⟨⟨17, false, 0, 0, 0, 0, 0⟩, 0, 2⟩]
def exO : List Xi := [⟨20, false, 0, 0, 0, 0, 0⟩, ⟨17, false, 0, 0, 0, 0, -6⟩]
theorem exO_gd : Gd exO := by
  intro x hx
  simp [exO] at hx
  rcases hx with rfl | rfl
  · exact ⟨by decide, by unfold I64; simp⟩
  · exact ⟨by decide, by unfold I64; simp⟩
theorem exO_enc : encs exO = [0xc3, 0xe9, 0xfa, 0xff, 0xff, 0xff] := by decide
theorem exO_offs : offs exO = [0, 1] := by decide
theorem ex1_o : oL ex1 3 = exO := rfl
theorem ex1_s : asS ex1 = [0xc3, 0xe9, 0xfa, 0xff, 0xff, 0xff] ∧ asE ex1 = 0 := by
  have h := asR_yes (l := ex1) (by decide) (fun k h hk => by
    match k, h with
    | 0, _ => rfl
    | 1, _ => exact absurd rfl hk
    | 2, _ => exact absurd rfl hk) (fun ⟨k, h, h1, h2, h3⟩ => by
    match k, h with
    | 0, _ => exact absurd h1 (by show ¬ ((1 : Int) = 0); decide)
    | 1, _ => exact absurd rfl h2
    | 2, _ => exact absurd h3 (by show ¬ (fd ex1 1 = none); decide))
  rw [h.1, h.2]
  show aS (oL ex1 3) = _ ∧ aE (oL ex1 3) = _
  rw [ex1_o]
  exact ⟨by decide, by decide⟩
theorem ex2_s : asE ex2 = 4 := (asR_no (l := ex2) fun h => h.2.2 ⟨0, by decide, rfl, by decide, by decide⟩).2
theorem made_items (w : World) (l : List It) (cs : Array Value) (hc : ∀ j (h : j < l.length) i, i < 9 → cs[j * 9 + i]? = #[.int .i64 l[j].x.op, .bool l[j].x.wide, .int .i64 l[j].x.r, .int .i64 l[j].x.b, .int .i64 l[j].x.i, .int .i64 l[j].x.c, .int .i64 l[j].x.n, .int .i64 l[j].lb, .int .i64 l[j].tg][i]?) (ho : ∀ j (h : j < l.length), l[j].ok) : IS (w.alloc (.cells cs 42)) (some ⟨w.heap.size, 0, none⟩) l := by
  refine Or.inr ⟨w.heap.size, 0, rfl, fun j hj => ?_⟩
  have e := heap_alloc_new w (.cells cs 42)
  have cc : ∀ i v, i < 9 → #[Value.int .i64 l[j].x.op, .bool l[j].x.wide, .int .i64 l[j].x.r, .int .i64 l[j].x.b, .int .i64 l[j].x.i, .int .i64 l[j].x.c, .int .i64 l[j].x.n, .int .i64 l[j].lb, .int .i64 l[j].tg][i]? = some v → (w.alloc (.cells cs 42)).cell? ⟨w.heap.size, 0 + j * 9 + i, none⟩ = some v := fun i v hi h => by
    simp only [World.cell?, e, Nat.zero_add]
    rw [hc j hj i hi]; exact h
  exact ⟨by simp, ho j hj, cc 0 _ (by omega) rfl, cc 1 _ (by omega) rfl, cc 2 _ (by omega) rfl, cc 3 _ (by omega) rfl, cc 4 _ (by omega) rfl, cc 5 _ (by omega) rfl, cc 6 _ (by omega) rfl, cc 7 _ (by omega) rfl, cc 8 _ (by omega) rfl⟩
theorem ok_small {op : Int} {a b : Int} (h0 : 0 ≤ op) (h1 : op ≤ 100) (h2 : 0 ≤ a) (h3 : a ≤ 100) (h4 : 0 ≤ b) (h5 : b ≤ 100) : It.ok ⟨⟨op, false, 0, 0, 0, 0, 0⟩, a, b⟩ := by
  unfold It.ok Xi.ok I64
  simp only
  omega
def exA1 : Array Value := #[.int .i64 0, .bool false, .int .i64 0, .int .i64 0, .int .i64 0, .int .i64 0, .int .i64 0, .int .i64 1, .int .i64 0, .int .i64 20, .bool false, .int .i64 0, .int .i64 0, .int .i64 0, .int .i64 0, .int .i64 0, .int .i64 0, .int .i64 0, .int .i64 17, .bool false, .int .i64 0, .int .i64 0, .int .i64 0, .int .i64 0, .int .i64 0, .int .i64 0, .int .i64 1]
def exA2 : Array Value := #[.int .i64 17, .bool false, .int .i64 0, .int .i64 0, .int .i64 0, .int .i64 0, .int .i64 0, .int .i64 0, .int .i64 2]
theorem exA1_is (w : World) : IS (w.alloc (.cells exA1 42)) (some ⟨w.heap.size, 0, none⟩) ex1 := made_items w ex1 exA1 (fun j h i hi => by
  match j, h with
  | 0, _ => match i, hi with
    | 0, _ | 1, _ | 2, _ | 3, _ | 4, _ | 5, _ | 6, _ | 7, _ | 8, _ => rfl
  | 1, _ => match i, hi with
    | 0, _ | 1, _ | 2, _ | 3, _ | 4, _ | 5, _ | 6, _ | 7, _ | 8, _ => rfl
  | 2, _ => match i, hi with
    | 0, _ | 1, _ | 2, _ | 3, _ | 4, _ | 5, _ | 6, _ | 7, _ | 8, _ => rfl) (fun j h => by
  match j, h with
  | 0, _ => exact ok_small (by decide) (by decide) (by decide) (by decide) (by decide) (by decide)
  | 1, _ => exact ok_small (by decide) (by decide) (by decide) (by decide) (by decide) (by decide)
  | 2, _ => exact ok_small (by decide) (by decide) (by decide) (by decide) (by decide) (by decide))
theorem exA2_is (w : World) : IS (w.alloc (.cells exA2 42)) (some ⟨w.heap.size, 0, none⟩) ex2 := made_items w ex2 exA2 (fun j h i hi => by
  match j, h with
  | 0, _ => match i, hi with
    | 0, _ | 1, _ | 2, _ | 3, _ | 4, _ | 5, _ | 6, _ | 7, _ | 8, _ => rfl) (fun j h => by
  match j, h with
  | 0, _ => exact ok_small (by decide) (by decide) (by decide) (by decide) (by decide) (by decide))
def exB : ByteArray := { data := #[195, 233, 250, 255, 255, 255] }
theorem starts_ex (w : World) : Calls Try.prog 14 #[.string exB] w fun e w' => ∃ v, e = .returned (.tuple #[v, .int .i64 0]) ∧ NR w.heap.size v [0, 1] w' ∧ Below w.heap.size w w' := by
  refine (starts_any exB w (by decide)).mono ?_
  rintro e w' (⟨o, v, g, h, rfl, hR, b⟩ | ⟨h, _⟩)
  · refine ⟨v, rfl, ?_, b⟩
    have h' : encs exO ++ [] = encs o := by rw [List.append_nil, exO_enc, h]; rfl
    obtain ⟨o2, e, f⟩ := uniq exO o [] exO_gd g h'
    have : o2 = [] := by
      have := len_le o2
      rw [f] at this
      exact List.length_eq_zero_iff.1 (by simpa using this)
    rw [this, List.append_nil] at e
    rw [e, exO_offs] at hR
    exact hR
  · exact absurd ⟨exO, exO_gd, by rw [exO_enc]; rfl⟩ h
theorem two_made (w : World) : RI (w.alloc (.cells #[.int .i64 0, .int .i64 1] 3)) (some ⟨w.heap.size, 0, none⟩) [0, 1] := by
  refine Or.inr ⟨w.heap.size, 0, rfl, by simp, fun j hj => ?_⟩
  have e := heap_alloc_new w (.cells #[.int .i64 0, .int .i64 1] 3)
  match j, hj with
  | 0, _ => simp only [World.cell?, e]; rfl
  | 1, _ => simp only [World.cell?, e]; rfl
set_option maxHeartbeats 2000000 in
theorem examples_any (w : World) : Calls Try.prog 8 #[] w fun e w' => e = .returned (.bool true) ∧ Below w.heap.size w w' := by
  have A1 := hide (fun U => assemble_any _ 3 ex1 _ (by decide) (exA1_is U))
  have A2 := hide (fun U => assemble_any _ 1 ex2 _ (by decide) (exA2_is U))
  rw [ex1_s.1, ex1_s.2] at A1
  rw [ex2_s] at A2
  have ST := hide starts_ex
  have T2 := hide two_made
  unfold exA1 at A1
  unfold exA2 at A2
  unfold exB at ST
  have hs : ((str [195, 233, 250, 255, 255, 255]).toList == [195, 233, 250, 255, 255, 255]) = true := by kernel_rfl
  go_enter Try.func8, Try.ntmps8
  go_wp2_with fail
  refine (A1.out _).mono ?_
  rintro e w1 ⟨rfl, b1⟩
  have B1 := hide (bel_tr (bel_one w _) b1)
  clear b1
  go_wp2_with fail
  refine (ST.out _).mono ?_
  rintro e w2 ⟨v, rfl, hR, b2⟩
  have B2 := hide (bel_tr B1.out b2)
  obtain ⟨a, c, rfl, hRI⟩ := hR.ri
  clear b2 B1 hR
  have NU := hide (numbers_any a c [0, 1] (some ⟨w2.heap.size, 0, none⟩) 2 [0, 1] _ (by decide) (hRI.kept (bel_one w2 (.cells #[.int .i64 0, .int .i64 1] 3))) (T2.out w2))
  unfold NuIs at NU
  clear hRI T2
  go_wp2_with fail
  refine NU.out.mono ?_
  rintro e w3 ⟨rfl, b3⟩
  have B3 := hide (bel_tr (bel_al B2.out _) b3)
  clear b3 B2 NU
  go_wp2_with fail
  refine (A2.out _).mono ?_
  rintro e w4 ⟨rfl, b4⟩
  have B4 := hide (bel_tr (bel_al B3.out _) b4)
  clear b4 B3
  go_wp2_with fail
  go_ret
  exact ⟨rfl, B4.out⟩
end Go.Proofs.Ytookbgnidinkoaa

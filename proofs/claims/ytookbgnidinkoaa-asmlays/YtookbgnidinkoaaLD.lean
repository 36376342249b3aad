/-
  Merged: U X Zb Lw Fi.
-/
import Derived.Test.YtookbgnidinkoaaLC
import Derived.Test.YtookbgnidinkoaaLB
/-
  Two lists of numbers held against each other; the chapter's examples.
-/
namespace Go.Proofs.Ytookbgnidinkoaa
open Go.RowKit
open Xc
set_option linter.unusedSimpArgs false
set_option linter.unusedVariables false
/-- Numbers that can be read. -/
def RI (w : World) (a : Option Addr) (ns : List Int) : Prop := ns = [] ∨ ∃ b off, a = some ⟨b, off, none⟩ ∧ b < w.heap.size ∧ ∀ j (hj : j < ns.length), w.cell? ⟨b, off + j, none⟩ = some (.int .i64 ns[j])
theorem RI.kept {w w' : World} {a : Option Addr} {ns : List Int} (h : RI w a ns) (k : Below w.heap.size w w') : RI w' a ns := by
  rcases h with h | ⟨b, off, e, hb, h⟩
  · exact Or.inl h
  · exact Or.inr ⟨b, off, e, Nat.lt_of_lt_of_le hb k.size, fun j hj => (k.cell (p := ⟨b, off + j, none⟩) hb).trans (h j hj)⟩
theorem NR.ri {B : Nat} {v : Value} {ns : List Int} {w : World} (h : NR B v ns w) : ∃ a c, v = .slice a ns.length c ∧ RI w a ns := by
  rcases Nat.eq_zero_or_pos ns.length with h0 | h0
  · obtain ⟨a, c, e⟩ := h.form
    exact ⟨a, c, e, Or.inl (List.length_eq_zero_iff.1 h0)⟩
  · obtain ⟨g, c, e, hb, hlt, hc⟩ := h.at h0
    exact ⟨_, c, e, Or.inr ⟨g, 0, rfl, hlt, fun j hj => by rw [Nat.zero_add]; exact hc j hj⟩⟩
def NuIs (a1 : Option Addr) (c1 : Nat) (xs : List Int) (a2 : Option Addr) (c2 : Nat) (ys : List Int) (w : World) : Prop := Calls Try.prog 11 #[.slice a1 xs.length c1, .slice a2 ys.length c2] w fun e w' => e = .returned (.bool (decide (xs = ys))) ∧ Below w.heap.size w w'
set_option maxHeartbeats 2000000 in
theorem numbers_any (a1 : Option Addr) (c1 : Nat) (xs : List Int) (a2 : Option Addr) (c2 : Nat) (ys : List Int) (w : World) (hl : xs.length ≤ 2000000) (h1 : RI w a1 xs) (h2 : RI w a2 ys) : NuIs a1 c1 xs a2 c2 ys w := by
  unfold NuIs
  by_cases hn : xs.length = ys.length
  · have H1 := hide h1
    have H2 := hide h2
    have hnn : ((xs.length : Int) == (ys.length : Int)) = true := by simp [hn]
    clear h1 h2
    go_enter Try.func11, Try.ntmps11
    go_wp2_with fail
    go_loopw [5] (fun iv wr => ∃ k : Nat, k ≤ xs.length ∧ iv = .int .i64 (k : Int) ∧ Below w.heap.size w wr ∧ Hid (∀ j (hj : j < xs.length) (hj2 : j < ys.length), j < k → xs[j] = ys[j])) (fun iv _ => xs.length - (intOf iv).toNat)
    case atStart => exact ⟨0, by omega, rfl, Below.refl _ _, hide (fun j hj _ h => absurd h (by omega))⟩
    case round =>
      obtain ⟨k, hk, rfl, hb, hA⟩ := hrel
      by_cases hlt : k < xs.length
      · have hlt2 : k < ys.length := by omega
        rcases H1.out with h | ⟨b, off, rfl, hbb, h1⟩
        · rw [h] at hlt; simp at hlt
        rcases H2.out with h | ⟨b2, off2, rfl, hbb2, h2⟩
        · rw [h] at hlt2; simp at hlt2
        have c1 := (hb.cell (p := ⟨b, off + k, none⟩) hbb).trans (h1 k hlt)
        have c2 := (hb.cell (p := ⟨b2, off2 + k, none⟩) hbb2).trans (h2 k hlt2)
        by_cases he : xs[k] = ys[k]
        · have hA2 : Hid (∀ j (hj : j < xs.length) (hj2 : j < ys.length), j < k + 1 → xs[j] = ys[j]) := fun j hj hj2 h => by
            rcases Nat.lt_or_ge j k with h' | h'
            · exact hA.out j hj hj2 h'
            · have : j = k := by omega
              subst this; exact he
          clear hA h1 h2
          rw [← he] at c2
          generalize xs[k] = x at *
          clear he
          go_wp2_with fail
          go_region
          all_goals
            go_wp2_with fail
            go_roundw
            case rel => exact ⟨k + 1, by omega, by go_num, hb.drew, hA2⟩
            case measure => simp [intOf]; omega
        · have hD : Hid (decide (xs = ys) = false) := decide_eq_false fun h => he (by simp [h])
          have hne : (xs[k] == ys[k]) = false := by simpa using he
          clear hA h1 h2 he
          generalize xs[k] = x at *
          generalize ys[k] = y at *
          go_wp2_with fail
          go_region
          all_goals
            go_wp2_with fail
            go_ret
            exact ⟨by rw [hD.out]; rfl, hb.drew⟩
      · have hkm : k = xs.length := by omega
        subst hkm
        have hD : Hid (decide (xs = ys) = true) := decide_eq_true (List.ext_getElem hn fun j h1 h2 => hA.out j h1 h2 h1)
        clear hA
        go_wp2_with fail
        go_ret
        exact ⟨by rw [hD.out]; rfl, hb⟩
  · have hD : Hid (decide (xs = ys) = false) := decide_eq_false fun h => hn (by rw [h])
    have hnn : ((xs.length : Int) == (ys.length : Int)) = false := by simp; omega
    go_enter Try.func11, Try.ntmps11
    go_wp2_with fail
    go_ret
    exact ⟨by rw [hD.out]; rfl, Below.refl _ _⟩
def nulX : Xi := ⟨0, false, 0, 0, 0, 0, 0⟩
def ex1 : List It := [⟨nulX, 1, 0⟩, ⟨⟨20, false, 0, 0, 0, 0, 0⟩, 0, 0⟩, ⟨⟨17, false, 0, 0, 0, 0, 0⟩, 0, 1⟩]
def ex2 : List It := [⟨⟨17, false, 0, 0, 0, 0, 0⟩, 0, 2⟩]
def exO : List Xi := [⟨20, false, 0, 0, 0, 0, 0⟩, ⟨17, false, 0, 0, 0, 0, -6⟩]
theorem exO_gd : Gd exO := by
  intro x hx
  simp [exO] at hx
  rcases hx with rfl | rfl
  · exact ⟨by decide, by unfold I64; simp⟩
  · exact ⟨by decide, by unfold I64; simp⟩
theorem exO_enc : encs exO = [0xc3, 0xe9, 0xfa, 0xff, 0xff, 0xff] := by decide
theorem exO_offs : offs exO = [0, 1] := by decide
theorem ex1_o : oL ex1 3 = exO := rfl
theorem ex1_s : asS ex1 = [0xc3, 0xe9, 0xfa, 0xff, 0xff, 0xff] ∧ asE ex1 = 0 := by
  have h := asR_yes (l := ex1) (by decide) (fun k h hk => by
    match k, h with
    | 0, _ => rfl
    | 1, _ => exact absurd rfl hk
    | 2, _ => exact absurd rfl hk) (fun ⟨k, h, h1, h2, h3⟩ => by
    match k, h with
    | 0, _ => exact absurd h1 (by show ¬ ((1 : Int) = 0); decide)
    | 1, _ => exact absurd rfl h2
    | 2, _ => exact absurd h3 (by show ¬ (fd ex1 1 = none); decide))
  rw [h.1, h.2]
  show aS (oL ex1 3) = _ ∧ aE (oL ex1 3) = _
  rw [ex1_o]
  exact ⟨by decide, by decide⟩
theorem ex2_s : asE ex2 = 4 := (asR_no (l := ex2) fun h => h.2.2 ⟨0, by decide, rfl, by decide, by decide⟩).2
theorem made_items (w : World) (l : List It) (cs : Array Value) (hc : ∀ j (h : j < l.length) i, i < 9 → cs[j * 9 + i]? = #[.int .i64 l[j].x.op, .bool l[j].x.wide, .int .i64 l[j].x.r, .int .i64 l[j].x.b, .int .i64 l[j].x.i, .int .i64 l[j].x.c, .int .i64 l[j].x.n, .int .i64 l[j].lb, .int .i64 l[j].tg][i]?) (ho : ∀ j (h : j < l.length), l[j].ok) : IS (w.alloc (.cells cs 42)) (some ⟨w.heap.size, 0, none⟩) l := by
  refine Or.inr ⟨w.heap.size, 0, rfl, fun j hj => ?_⟩
  have e := heap_alloc_new w (.cells cs 42)
  have cc : ∀ i v, i < 9 → #[Value.int .i64 l[j].x.op, .bool l[j].x.wide, .int .i64 l[j].x.r, .int .i64 l[j].x.b, .int .i64 l[j].x.i, .int .i64 l[j].x.c, .int .i64 l[j].x.n, .int .i64 l[j].lb, .int .i64 l[j].tg][i]? = some v → (w.alloc (.cells cs 42)).cell? ⟨w.heap.size, 0 + j * 9 + i, none⟩ = some v := fun i v hi h => by
    simp only [World.cell?, e, Nat.zero_add]
    rw [hc j hj i hi]; exact h
  exact ⟨by simp, ho j hj, cc 0 _ (by omega) rfl, cc 1 _ (by omega) rfl, cc 2 _ (by omega) rfl, cc 3 _ (by omega) rfl, cc 4 _ (by omega) rfl, cc 5 _ (by omega) rfl, cc 6 _ (by omega) rfl, cc 7 _ (by omega) rfl, cc 8 _ (by omega) rfl⟩
theorem ok_small {op : Int} {a b : Int} (h0 : 0 ≤ op) (h1 : op ≤ 100) (h2 : 0 ≤ a) (h3 : a ≤ 100) (h4 : 0 ≤ b) (h5 : b ≤ 100) : It.ok ⟨⟨op, false, 0, 0, 0, 0, 0⟩, a, b⟩ := by
  unfold It.ok Xi.ok I64
  simp only
  omega
def exA1 : Array Value := #[.int .i64 0, .bool false, .int .i64 0, .int .i64 0, .int .i64 0, .int .i64 0, .int .i64 0, .int .i64 1, .int .i64 0, .int .i64 20, .bool false, .int .i64 0, .int .i64 0, .int .i64 0, .int .i64 0, .int .i64 0, .int .i64 0, .int .i64 0, .int .i64 17, .bool false, .int .i64 0, .int .i64 0, .int .i64 0, .int .i64 0, .int .i64 0, .int .i64 0, .int .i64 1]
def exA2 : Array Value := #[.int .i64 17, .bool false, .int .i64 0, .int .i64 0, .int .i64 0, .int .i64 0, .int .i64 0, .int .i64 0, .int .i64 2]
theorem exA1_is (w : World) : IS (w.alloc (.cells exA1 42)) (some ⟨w.heap.size, 0, none⟩) ex1 := made_items w ex1 exA1 (fun j h i hi => by
  match j, h with
  | 0, _ => match i, hi with
    | 0, _ | 1, _ | 2, _ | 3, _ | 4, _ | 5, _ | 6, _ | 7, _ | 8, _ => rfl
  | 1, _ => match i, hi with
    | 0, _ | 1, _ | 2, _ | 3, _ | 4, _ | 5, _ | 6, _ | 7, _ | 8, _ => rfl
  | 2, _ => match i, hi with
    | 0, _ | 1, _ | 2, _ | 3, _ | 4, _ | 5, _ | 6, _ | 7, _ | 8, _ => rfl) (fun j h => by
  match j, h with
  | 0, _ => exact ok_small (by decide) (by decide) (by decide) (by decide) (by decide) (by decide)
  | 1, _ => exact ok_small (by decide) (by decide) (by decide) (by decide) (by decide) (by decide)
  | 2, _ => exact ok_small (by decide) (by decide) (by decide) (by decide) (by decide) (by decide))
theorem exA2_is (w : World) : IS (w.alloc (.cells exA2 42)) (some ⟨w.heap.size, 0, none⟩) ex2 := made_items w ex2 exA2 (fun j h i hi => by
  match j, h with
  | 0, _ => match i, hi with
    | 0, _ | 1, _ | 2, _ | 3, _ | 4, _ | 5, _ | 6, _ | 7, _ | 8, _ => rfl) (fun j h => by
  match j, h with
  | 0, _ => exact ok_small (by decide) (by decide) (by decide) (by decide) (by decide) (by decide))
def exB : ByteArray := { data := #[195, 233, 250, 255, 255, 255] }
theorem starts_ex (w : World) : Calls Try.prog 14 #[.string exB] w fun e w' => ∃ v, e = .returned (.tuple #[v, .int .i64 0]) ∧ NR w.heap.size v [0, 1] w' ∧ Below w.heap.size w w' := by
  refine (starts_any exB w (by decide)).mono ?_
  rintro e w' (⟨o, v, g, h, rfl, hR, b⟩ | ⟨h, _⟩)
  · refine ⟨v, rfl, ?_, b⟩
    have h' : encs exO ++ [] = encs o := by rw [List.append_nil, exO_enc, h]; rfl
    obtain ⟨o2, e, f⟩ := uniq exO o [] exO_gd g h'
    have : o2 = [] := by
      have := len_le o2
      rw [f] at this
      exact List.length_eq_zero_iff.1 (by simpa using this)
    rw [this, List.append_nil] at e
    rw [e, exO_offs] at hR
    exact hR
  · exact absurd ⟨exO, exO_gd, by rw [exO_enc]; rfl⟩ h
theorem two_made (w : World) : RI (w.alloc (.cells #[.int .i64 0, .int .i64 1] 3)) (some ⟨w.heap.size, 0, none⟩) [0, 1] := by
  refine Or.inr ⟨w.heap.size, 0, rfl, by simp, fun j hj => ?_⟩
  have e := heap_alloc_new w (.cells #[.int .i64 0, .int .i64 1] 3)
  match j, hj with
  | 0, _ => simp only [World.cell?, e]; rfl
  | 1, _ => simp only [World.cell?, e]; rfl
set_option maxHeartbeats 2000000 in
theorem examples_any (w : World) : Calls Try.prog 8 #[] w fun e w' => e = .returned (.bool true) ∧ Below w.heap.size w w' := by
  have A1 := hide (fun U => assemble_any _ 3 ex1 _ (by decide) (exA1_is U))
  have A2 := hide (fun U => assemble_any _ 1 ex2 _ (by decide) (exA2_is U))
  rw [ex1_s.1, ex1_s.2] at A1
  rw [ex2_s] at A2
  have ST := hide starts_ex
  have T2 := hide two_made
  unfold exA1 at A1
  unfold exA2 at A2
  unfold exB at ST
  have hs : ((str [195, 233, 250, 255, 255, 255]).toList == [195, 233, 250, 255, 255, 255]) = true := by kernel_rfl
  go_enter Try.func8, Try.ntmps8
  go_wp2_with fail
  refine (A1.out _).mono ?_
  rintro e w1 ⟨rfl, b1⟩
  have B1 := hide (bel_tr (bel_one w _) b1)
  clear b1
  go_wp2_with fail
  refine (ST.out _).mono ?_
  rintro e w2 ⟨v, rfl, hR, b2⟩
  have B2 := hide (bel_tr B1.out b2)
  obtain ⟨a, c, rfl, hRI⟩ := hR.ri
  clear b2 B1 hR
  have NU := hide (numbers_any a c [0, 1] (some ⟨w2.heap.size, 0, none⟩) 2 [0, 1] _ (by decide) (hRI.kept (bel_one w2 (.cells #[.int .i64 0, .int .i64 1] 3))) (T2.out w2))
  unfold NuIs at NU
  clear hRI T2
  go_wp2_with fail
  refine NU.out.mono ?_
  rintro e w3 ⟨rfl, b3⟩
  have B3 := hide (bel_tr (bel_al B2.out _) b3)
  clear b3 B2 NU
  go_wp2_with fail
  refine (A2.out _).mono ?_
  rintro e w4 ⟨rfl, b4⟩
  have B4 := hide (bel_tr (bel_al B3.out _) b4)
  clear b4 B3
  go_wp2_with fail
  go_ret
  exact ⟨rfl, B4.out⟩
end Go.Proofs.Ytookbgnidinkoaa
/-
  Items in a row of one's own; the walk of the statement AsmNames.
-/
namespace Go.Proofs.Ytookbgnidinkoaa
open Go.RowKit
open Xc
set_option linter.unusedSimpArgs false
set_option linter.unusedVariables false
theorem IS.take {W : World} {a : Option Addr} {l : List It} (h : IS W a l) (k : Nat) : IS W a (l.take k) := by
  rcases h with rfl | ⟨b, off, e, hX⟩
  · exact Or.inl (by simp)
  · refine Or.inr ⟨b, off, e, fun j hj => ?_⟩
    have hj' : j < l.length := by simp at hj; omega
    have := hX j hj'
    rw [List.getElem_take]
    exact this
def ivl (t : It) : List Value := [.int .i64 t.x.op, .bool t.x.wide, .int .i64 t.x.r, .int .i64 t.x.b, .int .i64 t.x.i, .int .i64 t.x.c, .int .i64 t.x.n, .int .i64 t.lb, .int .i64 t.tg]
def isl (L : List It) : List Value := L.flatMap ivl
theorem isl_snoc (L : List It) (x : It) : isl (L ++ [x]) = isl L ++ ivl x := by simp [isl]
theorem isl_get : ∀ (L : List It) (j : Nat) (h : j < L.length) (i : Nat), i < 9 → (isl L)[j * 9 + i]? = (ivl L[j])[i]?
  | x :: L, 0, _, i, hi => by
    simp only [isl, List.flatMap_cons]
    rw [List.getElem?_append_left (by simp [ivl]; omega)]
    simp
  | x :: L, j + 1, h, i, hi => by
    have ih := isl_get L j (by simpa using h) i hi
    simp only [isl, List.flatMap_cons] at *
    rw [List.getElem?_append_right (by simp [ivl]; omega)]
    have : (j + 1) * 9 + i - (ivl x).length = j * 9 + i := by simp [ivl]; omega
    rw [this, ih]
    simp
/-- Items in a row of one's own. -/
def IV (B : Nat) (v : Value) (L : List It) (w : World) : Prop := w.ownsRow B 42 9 v L.length (isl L)
theorem IV.nil (B : Nat) (w : World) : IV B (.slice none 0 0) [] w := World.ownsRow_nil _ _ _ _
theorem IV.kept {B : Nat} {v : Value} {L : List It} {w w' : World} (h : IV B v L w) (k : Below w.heap.size w w') : IV B v L w' := own_kept h k
theorem IV.is {B : Nat} {v : Value} {L : List It} {w : World} (h : IV B v L w) (hok : ∀ j (hj : j < L.length), L[j].ok) : ∃ a c, v = .slice a L.length c ∧ IS w a L := by
  rcases h.2 with ⟨rfl, e⟩ | ⟨g, cap, cur, rfl, hb, hrest⟩
  · have : L = [] := List.length_eq_zero_iff.1 e
    subst this
    exact ⟨_, _, rfl, Or.inl rfl⟩
  · refine ⟨_, _, rfl, Or.inr ⟨g, 0, rfl, fun j hj => ?_⟩⟩
    have hlt := (h.lt g rfl).2
    have cc : ∀ i, i < 9 → ∀ v, (ivl L[j])[i]? = some v → w.cell? ⟨g, 0 + j * 9 + i, none⟩ = some v := fun i hi v hv => by
      rw [Nat.zero_add, World.ownsRow.cellAt h (j * 9 + i) (by omega), isl_get L j hj i hi, hv]
    exact ⟨hlt, hok j hj, cc 0 (by omega) _ rfl, cc 1 (by omega) _ rfl, cc 2 (by omega) _ rfl, cc 3 (by omega) _ rfl, cc 4 (by omega) _ rfl, cc 5 (by omega) _ rfl, cc 6 (by omega) _ rfl, cc 7 (by omega) _ rfl, cc 8 (by omega) _ rfl⟩
theorem info42 : (Try.prog.info? 42).map (fun i => (i.zero, i.size, i.bytes)) = some (some (.agg #[.int .i64 0, .bool false, .int .i64 0, .int .i64 0, .int .i64 0, .int .i64 0, .int .i64 0, .int .i64 0, .int .i64 0]), 9, 72) := by kernel_rfl
theorem new_i (w : World) (op : Int) (wd : Bool) (r b i c n lb tg : Int) : ∀ j u, [Value.int .i64 op, .bool wd, .int .i64 r, .int .i64 b, .int .i64 i, .int .i64 c, .int .i64 n, .int .i64 lb, .int .i64 tg][j]? = some u → (w.alloc (.cells #[.int .i64 op, .bool wd, .int .i64 r, .int .i64 b, .int .i64 i, .int .i64 c, .int .i64 n, .int .i64 lb, .int .i64 tg] 42)).cell? ((⟨w.heap.size, 0, none⟩ : Addr).add j) = some u := by
  intro j u h
  have e := heap_alloc_new w (.cells #[.int .i64 op, .bool wd, .int .i64 r, .int .i64 b, .int .i64 i, .int .i64 c, .int .i64 n, .int .i64 lb, .int .i64 tg] 42)
  rw [add_lit7, Nat.zero_add]
  simp only [World.cell?, e]
  simpa using h
theorem i_cell (op : Int) (wd : Bool) (r b i c n lb tg : Int) : ∀ u, u ∈ [Value.int .i64 op, .bool wd, .int .i64 r, .int .i64 b, .int .i64 i, .int .i64 c, .int .i64 n, .int .i64 lb, .int .i64 tg] → u.oneCell' = true := by
  intro u h; simp at h
  rcases h with h | h | h | h | h | h | h | h | h <;> subst h <;> rfl
theorem map_snoc {l : List It} {k : Nat} (f : It → It) (h : k < l.length) : (l.take (k + 1)).map f = (l.take k).map f ++ [f l[k]] := by
  rw [List.take_succ_eq_append_getElem h, List.map_append, List.map_cons, List.map_nil]
/-- What lies there ahead of an append. -/
def Ai (B g : Nat) (v : Value) (L : List It) (op : Int) (wd : Bool) (r b i c n lb tg : Int) (w1 V : World) : Prop := IV B v L V ∧ Below B w1 V ∧ Row9 g op wd r b i c n lb tg V
def Lim (l : List It) (k : Nat) : Prop := ∀ j (h : j < l.length), j < k → l[j].lb ≤ 1000000 ∧ l[j].tg ≤ 1000000
theorem rn_ok {l : List It} {z : Int} (hl : Lim l l.length) (ho : ∀ j (hj : j < l.length), l[j].ok) (z0 : 0 ≤ z) (z1 : z ≤ 999999) : ∀ j (hj : j < (l.map (rn1 z)).length), (l.map (rn1 z))[j].ok := by
  intro j hj
  rw [List.getElem_map]
  have hj' : j < l.length := by simpa using hj
  obtain ⟨h1, h2⟩ := hl j hj' hj'
  obtain ⟨o1, o2, o3⟩ := ho j hj'
  refine ⟨o1, ?_, ?_⟩
  · unfold rn1 I64 at *; simp only; split <;> omega
  · unfold rn1 I64 at *; simp only; split <;> omega
theorem by_neg {y : Int} (h : I64 y) (h0 : y < 0) : 0 ≤ -(y + 1) ∧ -(y + 1) ≤ 9223372036854775807 := by unfold I64 at h; omega
set_option maxHeartbeats 8000000 in
set_option maxRecDepth 100000 in
theorem names_1 (a : Option Addr) (l : List It) (cap : Nat) (y : Int) (w : World) (hX : IS w a l) (hc : l.length ≤ cap) (hy : I64 y) : Calls Try.prog 6 #[.slice a l.length cap, .int .i64 y] w fun e w' => e = .returned (.bool true) ∧ Below w.heap.size w w' := by
  have EX := hide examples_any
  have HX := hide (hX.take 100)
  have hlen : (min (l.length : Int) 100).toNat = (l.take 100).length := by simp; omega
  have HLEN := hide hlen
  clear hlen
  have hl1 : (l.take 100).length ≤ 100 := by simp; omega
  obtain ⟨i0, hi, hz0, hz1, hz2⟩ := info_parts info42
  clear hX
  go_enter Try.func6, Try.ntmps6
  go_wp2_with fail
  refine (EX.out _).mono ?_
  rintro e w1 ⟨rfl, b1⟩
  clear EX
  have HX1 := hide (HX.out.below b1)
  clear HX
  have YB : ∃ z : Int, 0 ≤ z ∧ z ≤ 999999 ∧ (if y < 0 then (-(y + 1)).tmod 1000000 else y.tmod 1000000) = z := by
    refine ⟨_, ?_, ?_, rfl⟩
    · split
      · exact Int.tmod_nonneg _ (by_neg hy (by assumption)).1
      · exact Int.tmod_nonneg _ (by omega)
    · split
      · have := Int.tmod_lt_of_pos (-(y + 1)) (b := 1000000) (by decide); omega
      · have := Int.tmod_lt_of_pos y (b := 1000000) (by decide); omega
  obtain ⟨z, z0, z1, hz⟩ := YB
  have HZ := hide hz
  clear hz
  go_upto_region 3 with fail
  rw [HLEN.out]
  clear HLEN
  generalize l.take 100 = l at *
  generalize (min _ (100 : Int)) = mm
  unfold I64 at hy
  by_cases hn : y < 0
  · go_upto_region 6 with fail
    rw [if_pos hn, Int.neg_tmod] at HZ
    rw [HZ.out]
    clear HZ
    go_wp2_with fail
    go_loopw [6, 7] (fun sv iv wr => ∃ k : Nat, k ≤ l.length ∧ iv = .int .i64 (k : Int) ∧ Hid (IV w1.heap.size sv ((l.take k).map (rn1 z)) wr) ∧ Below w1.heap.size w1 wr ∧ Hid (Lim l k)) (fun _ iv _ => l.length - (intOf iv).toNat)
    case atStart => exact ⟨0, by omega, rfl, hide (IV.nil _ _), Below.refl _ _, hide (fun j hj h => absurd h (by omega))⟩
    case round =>
      obtain ⟨k, hk, rfl, hR, hb, hA⟩ := hrel
      by_cases hlt : k < l.length
      · rcases HX1.out with h | ⟨b, off, rfl, hX⟩
        · rw [h] at hlt; simp at hlt
        obtain ⟨hbb, ho, c0, c1, c2, c3, c4, c5, c6, c7, c8⟩ := hX k hlt
        have d0 := (hb.cell (p := ⟨b, off + k * 9, none⟩) hbb).trans c0
        have d1 := (hb.cell (p := ⟨b, off + k * 9 + 1, none⟩) hbb).trans c1
        have d2 := (hb.cell (p := ⟨b, off + k * 9 + 2, none⟩) hbb).trans c2
        have d3 := (hb.cell (p := ⟨b, off + k * 9 + 3, none⟩) hbb).trans c3
        have d4 := (hb.cell (p := ⟨b, off + k * 9 + 4, none⟩) hbb).trans c4
        have d5 := (hb.cell (p := ⟨b, off + k * 9 + 5, none⟩) hbb).trans c5
        have d6 := (hb.cell (p := ⟨b, off + k * 9 + 6, none⟩) hbb).trans c6
        have d7 := (hb.cell (p := ⟨b, off + k * 9 + 7, none⟩) hbb).trans c7
        have d8 := (hb.cell (p := ⟨b, off + k * 9 + 8, none⟩) hbb).trans c8
        clear c0 c1 c2 c3 c4 c5 c6 c7 c8 ho
        have MS := hide (map_snoc (rn1 z) hlt)
        have LN : Hid (((l.take k).map (rn1 z)).length = k) := by show _ = _; simp; omega
        rcases hit : l[k] with ⟨⟨x1, x2, x3, x4, x5, x6, x7⟩, x8, x9⟩
        rw [hit] at MS d0 d1 d2 d3 d4 d5 d6 d7 d8
        simp only at d0 d1 d2 d3 d4 d5 d6 d7 d8
        by_cases g1 : 1000000 < x8
        · clear MS LN hit hA
          go_wp2_with fail
          go_ret
          exact ⟨rfl, bel_tr b1 (bel_al hb _)⟩
        by_cases g2 : 1000000 < x9
        · clear MS LN hit hA
          go_wp2_with fail
          go_ret
          exact ⟨rfl, bel_tr b1 (bel_al hb _)⟩
        have hA2 : Hid (Lim l (k + 1)) := fun j hj h => by
          rcases Nat.lt_or_ge j k with h' | h'
          · exact hA.out j hj h'
          · have : j = k := by omega
            subst this; rw [hit]; exact ⟨by show x8 ≤ _; omega, by show x9 ≤ _; omega⟩
        clear hA
        by_cases h8 : 0 < x8
        · by_cases h9 : 0 < x9
          · have HO : Hid ((l.take (k + 1)).map (rn1 z) = (l.take k).map (rn1 z) ++ [⟨⟨x1, x2, x3, x4, x5, x6, x7⟩, x8 + z, x9 + z⟩]) := MS.out.trans (by simp [rn1, h8, h9])
            clear MS hit
            go_upto_region 17 with fail
            refine gen_world (motive := fun x => Code.wp _ _ _ _ x) (fun V => Ai w1.heap.size wr.heap.size u6 ((l.take k).map (rn1 z)) x1 x2 x3 x4 x5 x6 x7 (x8 + z) (x9 + z) w1 V) ⟨hR.out.kept (bel_one _ _), bel_al hb _, Row9.made wr x1 x2 x3 x4 x5 x6 x7 (x8 + z) (x9 + z)⟩ ?_
            clear d0 d1 d2 d3 d4 d5 d6 d7 d8 hR hb
            rintro V ⟨hR1, hB1, hW⟩
            obtain ⟨e0, e1, e2, e3, e4, e5, e6, e7, e8⟩ := hW.cells
            clear hW
            have HBS : Hid (w1.heap.size ≤ (V.alloc (.cells #[.int .i64 x1, .bool x2, .int .i64 x3, .int .i64 x4, .int .i64 x5, .int .i64 x6, .int .i64 x7, .int .i64 (x8 + z), .int .i64 (x9 + z)] 42)).heap.size) := by have := hB1.size; show _ ≤ _; simp; omega
            have OWN : Hid ((V.alloc (.cells #[.int .i64 x1, .bool x2, .int .i64 x3, .int .i64 x4, .int .i64 x5, .int .i64 x6, .int .i64 x7, .int .i64 (x8 + z), .int .i64 (x9 + z)] 42)).ownsRow w1.heap.size 42 9 u6 k (isl ((l.take k).map (rn1 z)))) := by
              have := World.ownsRow.alloc hR1 (.cells #[.int .i64 x1, .bool x2, .int .i64 x3, .int .i64 x4, .int .i64 x5, .int .i64 x6, .int .i64 x7, .int .i64 (x8 + z), .int .i64 (x9 + z)] 42)
              rw [LN.out] at this; exact this
            have NX := hide (new_i V x1 x2 x3 x4 x5 x6 x7 (x8 + z) (x9 + z))
            have XC := hide (i_cell x1 x2 x3 x4 x5 x6 x7 (x8 + z) (x9 + z))
            go_wp2_with (at_builtin; (refine wpList_append_own _ rfl (.tmp 61) (.tmp 63) 22 rfl w1.heap.size 42 i0 _ 9 72 Try.underlying22 hi hz0 hz1 hz2 rfl (by decide) _ k _ rfl OWN.out ⟨V.heap.size, 0, none⟩ 1 1 [.int .i64 x1, .bool x2, .int .i64 x3, .int .i64 x4, .int .i64 x5, .int .i64 x6, .int .i64 x7, .int .i64 (x8 + z), .int .i64 (x9 + z)] rfl rfl NX.out XC.out (by unfold maxLen; omega) (by omega) HBS.out ?_))
            intro v' w3 hown hgrow _
            have R3 : Hid (IV w1.heap.size v' ((l.take (k + 1)).map (rn1 z)) w3) := by
              show w3.ownsRow _ _ _ _ _ _
              rw [HO.out, isl_snoc, List.length_append, LN.out, List.map_take]
              exact hown
            have B3 : Below w1.heap.size w1 w3 := (bel_al hB1 _).trans (own_bel OWN.out HBS.out hgrow)
            clear hown hgrow OWN HBS hR1 hB1 NX XC e0 e1 e2 e3 e4 e5 e6 e7 e8
            go_wp2_with fail
            go_roundw
            case rel => exact ⟨k + 1, by omega, by go_num, R3, B3, hA2⟩
            case measure => simp [intOf]; omega
          · have HO : Hid ((l.take (k + 1)).map (rn1 z) = (l.take k).map (rn1 z) ++ [⟨⟨x1, x2, x3, x4, x5, x6, x7⟩, x8 + z, x9⟩]) := MS.out.trans (by simp [rn1, h8, h9])
            clear MS hit
            go_upto_region 17 with fail
            refine gen_world (motive := fun x => Code.wp _ _ _ _ x) (fun V => Ai w1.heap.size wr.heap.size u6 ((l.take k).map (rn1 z)) x1 x2 x3 x4 x5 x6 x7 (x8 + z) x9 w1 V) ⟨hR.out.kept (bel_one _ _), bel_al hb _, Row9.made wr x1 x2 x3 x4 x5 x6 x7 (x8 + z) x9⟩ ?_
            clear d0 d1 d2 d3 d4 d5 d6 d7 d8 hR hb
            rintro V ⟨hR1, hB1, hW⟩
            obtain ⟨e0, e1, e2, e3, e4, e5, e6, e7, e8⟩ := hW.cells
            clear hW
            have HBS : Hid (w1.heap.size ≤ (V.alloc (.cells #[.int .i64 x1, .bool x2, .int .i64 x3, .int .i64 x4, .int .i64 x5, .int .i64 x6, .int .i64 x7, .int .i64 (x8 + z), .int .i64 x9] 42)).heap.size) := by have := hB1.size; show _ ≤ _; simp; omega
            have OWN : Hid ((V.alloc (.cells #[.int .i64 x1, .bool x2, .int .i64 x3, .int .i64 x4, .int .i64 x5, .int .i64 x6, .int .i64 x7, .int .i64 (x8 + z), .int .i64 x9] 42)).ownsRow w1.heap.size 42 9 u6 k (isl ((l.take k).map (rn1 z)))) := by
              have := World.ownsRow.alloc hR1 (.cells #[.int .i64 x1, .bool x2, .int .i64 x3, .int .i64 x4, .int .i64 x5, .int .i64 x6, .int .i64 x7, .int .i64 (x8 + z), .int .i64 x9] 42)
              rw [LN.out] at this; exact this
            have NX := hide (new_i V x1 x2 x3 x4 x5 x6 x7 (x8 + z) x9)
            have XC := hide (i_cell x1 x2 x3 x4 x5 x6 x7 (x8 + z) x9)
            go_wp2_with (at_builtin; (refine wpList_append_own _ rfl (.tmp 61) (.tmp 63) 22 rfl w1.heap.size 42 i0 _ 9 72 Try.underlying22 hi hz0 hz1 hz2 rfl (by decide) _ k _ rfl OWN.out ⟨V.heap.size, 0, none⟩ 1 1 [.int .i64 x1, .bool x2, .int .i64 x3, .int .i64 x4, .int .i64 x5, .int .i64 x6, .int .i64 x7, .int .i64 (x8 + z), .int .i64 x9] rfl rfl NX.out XC.out (by unfold maxLen; omega) (by omega) HBS.out ?_))
            intro v' w3 hown hgrow _
            have R3 : Hid (IV w1.heap.size v' ((l.take (k + 1)).map (rn1 z)) w3) := by
              show w3.ownsRow _ _ _ _ _ _
              rw [HO.out, isl_snoc, List.length_append, LN.out, List.map_take]
              exact hown
            have B3 : Below w1.heap.size w1 w3 := (bel_al hB1 _).trans (own_bel OWN.out HBS.out hgrow)
            clear hown hgrow OWN HBS hR1 hB1 NX XC e0 e1 e2 e3 e4 e5 e6 e7 e8
            go_wp2_with fail
            go_roundw
            case rel => exact ⟨k + 1, by omega, by go_num, R3, B3, hA2⟩
            case measure => simp [intOf]; omega
        · by_cases h9 : 0 < x9
          · have HO : Hid ((l.take (k + 1)).map (rn1 z) = (l.take k).map (rn1 z) ++ [⟨⟨x1, x2, x3, x4, x5, x6, x7⟩, x8, x9 + z⟩]) := MS.out.trans (by simp [rn1, h8, h9])
            clear MS hit
            go_upto_region 17 with fail
            refine gen_world (motive := fun x => Code.wp _ _ _ _ x) (fun V => Ai w1.heap.size wr.heap.size u6 ((l.take k).map (rn1 z)) x1 x2 x3 x4 x5 x6 x7 x8 (x9 + z) w1 V) ⟨hR.out.kept (bel_one _ _), bel_al hb _, Row9.made wr x1 x2 x3 x4 x5 x6 x7 x8 (x9 + z)⟩ ?_
            clear d0 d1 d2 d3 d4 d5 d6 d7 d8 hR hb
            rintro V ⟨hR1, hB1, hW⟩
            obtain ⟨e0, e1, e2, e3, e4, e5, e6, e7, e8⟩ := hW.cells
            clear hW
            have HBS : Hid (w1.heap.size ≤ (V.alloc (.cells #[.int .i64 x1, .bool x2, .int .i64 x3, .int .i64 x4, .int .i64 x5, .int .i64 x6, .int .i64 x7, .int .i64 x8, .int .i64 (x9 + z)] 42)).heap.size) := by have := hB1.size; show _ ≤ _; simp; omega
            have OWN : Hid ((V.alloc (.cells #[.int .i64 x1, .bool x2, .int .i64 x3, .int .i64 x4, .int .i64 x5, .int .i64 x6, .int .i64 x7, .int .i64 x8, .int .i64 (x9 + z)] 42)).ownsRow w1.heap.size 42 9 u6 k (isl ((l.take k).map (rn1 z)))) := by
              have := World.ownsRow.alloc hR1 (.cells #[.int .i64 x1, .bool x2, .int .i64 x3, .int .i64 x4, .int .i64 x5, .int .i64 x6, .int .i64 x7, .int .i64 x8, .int .i64 (x9 + z)] 42)
              rw [LN.out] at this; exact this
            have NX := hide (new_i V x1 x2 x3 x4 x5 x6 x7 x8 (x9 + z))
            have XC := hide (i_cell x1 x2 x3 x4 x5 x6 x7 x8 (x9 + z))
            go_wp2_with (at_builtin; (refine wpList_append_own _ rfl (.tmp 61) (.tmp 63) 22 rfl w1.heap.size 42 i0 _ 9 72 Try.underlying22 hi hz0 hz1 hz2 rfl (by decide) _ k _ rfl OWN.out ⟨V.heap.size, 0, none⟩ 1 1 [.int .i64 x1, .bool x2, .int .i64 x3, .int .i64 x4, .int .i64 x5, .int .i64 x6, .int .i64 x7, .int .i64 x8, .int .i64 (x9 + z)] rfl rfl NX.out XC.out (by unfold maxLen; omega) (by omega) HBS.out ?_))
            intro v' w3 hown hgrow _
            have R3 : Hid (IV w1.heap.size v' ((l.take (k + 1)).map (rn1 z)) w3) := by
              show w3.ownsRow _ _ _ _ _ _
              rw [HO.out, isl_snoc, List.length_append, LN.out, List.map_take]
              exact hown
            have B3 : Below w1.heap.size w1 w3 := (bel_al hB1 _).trans (own_bel OWN.out HBS.out hgrow)
            clear hown hgrow OWN HBS hR1 hB1 NX XC e0 e1 e2 e3 e4 e5 e6 e7 e8
            go_wp2_with fail
            go_roundw
            case rel => exact ⟨k + 1, by omega, by go_num, R3, B3, hA2⟩
            case measure => simp [intOf]; omega
          · have HO : Hid ((l.take (k + 1)).map (rn1 z) = (l.take k).map (rn1 z) ++ [⟨⟨x1, x2, x3, x4, x5, x6, x7⟩, x8, x9⟩]) := MS.out.trans (by simp [rn1, h8, h9])
            clear MS hit
            go_upto_region 17 with fail
            refine gen_world (motive := fun x => Code.wp _ _ _ _ x) (fun V => Ai w1.heap.size wr.heap.size u6 ((l.take k).map (rn1 z)) x1 x2 x3 x4 x5 x6 x7 x8 x9 w1 V) ⟨hR.out.kept (bel_one _ _), bel_al hb _, Row9.made wr x1 x2 x3 x4 x5 x6 x7 x8 x9⟩ ?_
            clear d0 d1 d2 d3 d4 d5 d6 d7 d8 hR hb
            rintro V ⟨hR1, hB1, hW⟩
            obtain ⟨e0, e1, e2, e3, e4, e5, e6, e7, e8⟩ := hW.cells
            clear hW
            have HBS : Hid (w1.heap.size ≤ (V.alloc (.cells #[.int .i64 x1, .bool x2, .int .i64 x3, .int .i64 x4, .int .i64 x5, .int .i64 x6, .int .i64 x7, .int .i64 x8, .int .i64 x9] 42)).heap.size) := by have := hB1.size; show _ ≤ _; simp; omega
            have OWN : Hid ((V.alloc (.cells #[.int .i64 x1, .bool x2, .int .i64 x3, .int .i64 x4, .int .i64 x5, .int .i64 x6, .int .i64 x7, .int .i64 x8, .int .i64 x9] 42)).ownsRow w1.heap.size 42 9 u6 k (isl ((l.take k).map (rn1 z)))) := by
              have := World.ownsRow.alloc hR1 (.cells #[.int .i64 x1, .bool x2, .int .i64 x3, .int .i64 x4, .int .i64 x5, .int .i64 x6, .int .i64 x7, .int .i64 x8, .int .i64 x9] 42)
              rw [LN.out] at this; exact this
            have NX := hide (new_i V x1 x2 x3 x4 x5 x6 x7 x8 x9)
            have XC := hide (i_cell x1 x2 x3 x4 x5 x6 x7 x8 x9)
            go_wp2_with (at_builtin; (refine wpList_append_own _ rfl (.tmp 61) (.tmp 63) 22 rfl w1.heap.size 42 i0 _ 9 72 Try.underlying22 hi hz0 hz1 hz2 rfl (by decide) _ k _ rfl OWN.out ⟨V.heap.size, 0, none⟩ 1 1 [.int .i64 x1, .bool x2, .int .i64 x3, .int .i64 x4, .int .i64 x5, .int .i64 x6, .int .i64 x7, .int .i64 x8, .int .i64 x9] rfl rfl NX.out XC.out (by unfold maxLen; omega) (by omega) HBS.out ?_))
            intro v' w3 hown hgrow _
            have R3 : Hid (IV w1.heap.size v' ((l.take (k + 1)).map (rn1 z)) w3) := by
              show w3.ownsRow _ _ _ _ _ _
              rw [HO.out, isl_snoc, List.length_append, LN.out, List.map_take]
              exact hown
            have B3 : Below w1.heap.size w1 w3 := (bel_al hB1 _).trans (own_bel OWN.out HBS.out hgrow)
            clear hown hgrow OWN HBS hR1 hB1 NX XC e0 e1 e2 e3 e4 e5 e6 e7 e8
            go_wp2_with fail
            go_roundw
            case rel => exact ⟨k + 1, by omega, by go_num, R3, B3, hA2⟩
            case measure => simp [intOf]; omega
      · have hkm : k = l.length := by omega
        subst hkm
        rw [List.take_length] at hR
        have LN : Hid ((l.map (rn1 z)).length = l.length) := by show _ = _; simp
        have OK1 : Hid (∀ j (hj : j < l.length), l[j].ok) := fun j hj => by
          rcases HX1.out with h | ⟨b, off, rfl, hX⟩
          · rw [h] at hj; simp at hj
          · exact hX.ok hj
        obtain ⟨a9, c9, hv9, hI⟩ := hR.out.is (rn_ok hA.out OK1.out z0 z1)
        rw [LN.out] at hv9
        subst hv9
        have A1 := hide (assemble_any a cap l wr (by omega) (HX1.out.below hb))
        have A2 := hide (fun U b => assemble_any a9 c9 (l.map (rn1 z)) U (by rw [LN.out]; omega) (hI.below b))
        have HRN := hide (rn_as z0 l)
        rw [HRN.out.1, HRN.out.2, LN.out] at A2
        clear hR hI LN OK1 hA HRN HX1
        generalize asS l = ss at *
        generalize asE l = ee at *
        go_wp2_with fail
        refine A1.out.mono ?_
        rintro e w2 ⟨rfl, b2⟩
        go_wp2_with fail
        refine (A2.out _ b2).mono ?_
        rintro e w3 ⟨rfl, b3⟩
        go_wp2_with fail
        go_ret
        exact ⟨rfl, bel_tr b1 (bel_tr (bel_tr hb b2) b3)⟩
  · go_upto_region 6 with fail
    rw [if_neg hn, Int.tmod_eq_emod_of_nonneg (by omega)] at HZ
    rw [HZ.out]
    clear HZ
    go_wp2_with fail
    go_loopw [6, 7] (fun sv iv wr => ∃ k : Nat, k ≤ l.length ∧ iv = .int .i64 (k : Int) ∧ Hid (IV w1.heap.size sv ((l.take k).map (rn1 z)) wr) ∧ Below w1.heap.size w1 wr ∧ Hid (Lim l k)) (fun _ iv _ => l.length - (intOf iv).toNat)
    case atStart => exact ⟨0, by omega, rfl, hide (IV.nil _ _), Below.refl _ _, hide (fun j hj h => absurd h (by omega))⟩
    case round =>
      obtain ⟨k, hk, rfl, hR, hb, hA⟩ := hrel
      by_cases hlt : k < l.length
      · rcases HX1.out with h | ⟨b, off, rfl, hX⟩
        · rw [h] at hlt; simp at hlt
        obtain ⟨hbb, ho, c0, c1, c2, c3, c4, c5, c6, c7, c8⟩ := hX k hlt
        have d0 := (hb.cell (p := ⟨b, off + k * 9, none⟩) hbb).trans c0
        have d1 := (hb.cell (p := ⟨b, off + k * 9 + 1, none⟩) hbb).trans c1
        have d2 := (hb.cell (p := ⟨b, off + k * 9 + 2, none⟩) hbb).trans c2
        have d3 := (hb.cell (p := ⟨b, off + k * 9 + 3, none⟩) hbb).trans c3
        have d4 := (hb.cell (p := ⟨b, off + k * 9 + 4, none⟩) hbb).trans c4
        have d5 := (hb.cell (p := ⟨b, off + k * 9 + 5, none⟩) hbb).trans c5
        have d6 := (hb.cell (p := ⟨b, off + k * 9 + 6, none⟩) hbb).trans c6
        have d7 := (hb.cell (p := ⟨b, off + k * 9 + 7, none⟩) hbb).trans c7
        have d8 := (hb.cell (p := ⟨b, off + k * 9 + 8, none⟩) hbb).trans c8
        clear c0 c1 c2 c3 c4 c5 c6 c7 c8 ho
        have MS := hide (map_snoc (rn1 z) hlt)
        have LN : Hid (((l.take k).map (rn1 z)).length = k) := by show _ = _; simp; omega
        rcases hit : l[k] with ⟨⟨x1, x2, x3, x4, x5, x6, x7⟩, x8, x9⟩
        rw [hit] at MS d0 d1 d2 d3 d4 d5 d6 d7 d8
        simp only at d0 d1 d2 d3 d4 d5 d6 d7 d8
        by_cases g1 : 1000000 < x8
        · clear MS LN hit hA
          go_wp2_with fail
          go_ret
          exact ⟨rfl, bel_tr b1 (bel_al hb _)⟩
        by_cases g2 : 1000000 < x9
        · clear MS LN hit hA
          go_wp2_with fail
          go_ret
          exact ⟨rfl, bel_tr b1 (bel_al hb _)⟩
        have hA2 : Hid (Lim l (k + 1)) := fun j hj h => by
          rcases Nat.lt_or_ge j k with h' | h'
          · exact hA.out j hj h'
          · have : j = k := by omega
            subst this; rw [hit]; exact ⟨by show x8 ≤ _; omega, by show x9 ≤ _; omega⟩
        clear hA
        by_cases h8 : 0 < x8
        · by_cases h9 : 0 < x9
          · have HO : Hid ((l.take (k + 1)).map (rn1 z) = (l.take k).map (rn1 z) ++ [⟨⟨x1, x2, x3, x4, x5, x6, x7⟩, x8 + z, x9 + z⟩]) := MS.out.trans (by simp [rn1, h8, h9])
            clear MS hit
            go_upto_region 17 with fail
            refine gen_world (motive := fun x => Code.wp _ _ _ _ x) (fun V => Ai w1.heap.size wr.heap.size u6 ((l.take k).map (rn1 z)) x1 x2 x3 x4 x5 x6 x7 (x8 + z) (x9 + z) w1 V) ⟨hR.out.kept (bel_one _ _), bel_al hb _, Row9.made wr x1 x2 x3 x4 x5 x6 x7 (x8 + z) (x9 + z)⟩ ?_
            clear d0 d1 d2 d3 d4 d5 d6 d7 d8 hR hb
            rintro V ⟨hR1, hB1, hW⟩
            obtain ⟨e0, e1, e2, e3, e4, e5, e6, e7, e8⟩ := hW.cells
            clear hW
            have HBS : Hid (w1.heap.size ≤ (V.alloc (.cells #[.int .i64 x1, .bool x2, .int .i64 x3, .int .i64 x4, .int .i64 x5, .int .i64 x6, .int .i64 x7, .int .i64 (x8 + z), .int .i64 (x9 + z)] 42)).heap.size) := by have := hB1.size; show _ ≤ _; simp; omega
            have OWN : Hid ((V.alloc (.cells #[.int .i64 x1, .bool x2, .int .i64 x3, .int .i64 x4, .int .i64 x5, .int .i64 x6, .int .i64 x7, .int .i64 (x8 + z), .int .i64 (x9 + z)] 42)).ownsRow w1.heap.size 42 9 u6 k (isl ((l.take k).map (rn1 z)))) := by
              have := World.ownsRow.alloc hR1 (.cells #[.int .i64 x1, .bool x2, .int .i64 x3, .int .i64 x4, .int .i64 x5, .int .i64 x6, .int .i64 x7, .int .i64 (x8 + z), .int .i64 (x9 + z)] 42)
              rw [LN.out] at this; exact this
            have NX := hide (new_i V x1 x2 x3 x4 x5 x6 x7 (x8 + z) (x9 + z))
            have XC := hide (i_cell x1 x2 x3 x4 x5 x6 x7 (x8 + z) (x9 + z))
            go_wp2_with (at_builtin; (refine wpList_append_own _ rfl (.tmp 61) (.tmp 63) 22 rfl w1.heap.size 42 i0 _ 9 72 Try.underlying22 hi hz0 hz1 hz2 rfl (by decide) _ k _ rfl OWN.out ⟨V.heap.size, 0, none⟩ 1 1 [.int .i64 x1, .bool x2, .int .i64 x3, .int .i64 x4, .int .i64 x5, .int .i64 x6, .int .i64 x7, .int .i64 (x8 + z), .int .i64 (x9 + z)] rfl rfl NX.out XC.out (by unfold maxLen; omega) (by omega) HBS.out ?_))
            intro v' w3 hown hgrow _
            have R3 : Hid (IV w1.heap.size v' ((l.take (k + 1)).map (rn1 z)) w3) := by
              show w3.ownsRow _ _ _ _ _ _
              rw [HO.out, isl_snoc, List.length_append, LN.out, List.map_take]
              exact hown
            have B3 : Below w1.heap.size w1 w3 := (bel_al hB1 _).trans (own_bel OWN.out HBS.out hgrow)
            clear hown hgrow OWN HBS hR1 hB1 NX XC e0 e1 e2 e3 e4 e5 e6 e7 e8
            go_wp2_with fail
            go_roundw
            case rel => exact ⟨k + 1, by omega, by go_num, R3, B3, hA2⟩
            case measure => simp [intOf]; omega
          · have HO : Hid ((l.take (k + 1)).map (rn1 z) = (l.take k).map (rn1 z) ++ [⟨⟨x1, x2, x3, x4, x5, x6, x7⟩, x8 + z, x9⟩]) := MS.out.trans (by simp [rn1, h8, h9])
            clear MS hit
            go_upto_region 17 with fail
            refine gen_world (motive := fun x => Code.wp _ _ _ _ x) (fun V => Ai w1.heap.size wr.heap.size u6 ((l.take k).map (rn1 z)) x1 x2 x3 x4 x5 x6 x7 (x8 + z) x9 w1 V) ⟨hR.out.kept (bel_one _ _), bel_al hb _, Row9.made wr x1 x2 x3 x4 x5 x6 x7 (x8 + z) x9⟩ ?_
            clear d0 d1 d2 d3 d4 d5 d6 d7 d8 hR hb
            rintro V ⟨hR1, hB1, hW⟩
            obtain ⟨e0, e1, e2, e3, e4, e5, e6, e7, e8⟩ := hW.cells
            clear hW
            have HBS : Hid (w1.heap.size ≤ (V.alloc (.cells #[.int .i64 x1, .bool x2, .int .i64 x3, .int .i64 x4, .int .i64 x5, .int .i64 x6, .int .i64 x7, .int .i64 (x8 + z), .int .i64 x9] 42)).heap.size) := by have := hB1.size; show _ ≤ _; simp; omega
            have OWN : Hid ((V.alloc (.cells #[.int .i64 x1, .bool x2, .int .i64 x3, .int .i64 x4, .int .i64 x5, .int .i64 x6, .int .i64 x7, .int .i64 (x8 + z), .int .i64 x9] 42)).ownsRow w1.heap.size 42 9 u6 k (isl ((l.take k).map (rn1 z)))) := by
              have := World.ownsRow.alloc hR1 (.cells #[.int .i64 x1, .bool x2, .int .i64 x3, .int .i64 x4, .int .i64 x5, .int .i64 x6, .int .i64 x7, .int .i64 (x8 + z), .int .i64 x9] 42)
              rw [LN.out] at this; exact this
            have NX := hide (new_i V x1 x2 x3 x4 x5 x6 x7 (x8 + z) x9)
            have XC := hide (i_cell x1 x2 x3 x4 x5 x6 x7 (x8 + z) x9)
            go_wp2_with (at_builtin; (refine wpList_append_own _ rfl (.tmp 61) (.tmp 63) 22 rfl w1.heap.size 42 i0 _ 9 72 Try.underlying22 hi hz0 hz1 hz2 rfl (by decide) _ k _ rfl OWN.out ⟨V.heap.size, 0, none⟩ 1 1 [.int .i64 x1, .bool x2, .int .i64 x3, .int .i64 x4, .int .i64 x5, .int .i64 x6, .int .i64 x7, .int .i64 (x8 + z), .int .i64 x9] rfl rfl NX.out XC.out (by unfold maxLen; omega) (by omega) HBS.out ?_))
            intro v' w3 hown hgrow _
            have R3 : Hid (IV w1.heap.size v' ((l.take (k + 1)).map (rn1 z)) w3) := by
              show w3.ownsRow _ _ _ _ _ _
              rw [HO.out, isl_snoc, List.length_append, LN.out, List.map_take]
              exact hown
            have B3 : Below w1.heap.size w1 w3 := (bel_al hB1 _).trans (own_bel OWN.out HBS.out hgrow)
            clear hown hgrow OWN HBS hR1 hB1 NX XC e0 e1 e2 e3 e4 e5 e6 e7 e8
            go_wp2_with fail
            go_roundw
            case rel => exact ⟨k + 1, by omega, by go_num, R3, B3, hA2⟩
            case measure => simp [intOf]; omega
        · by_cases h9 : 0 < x9
          · have HO : Hid ((l.take (k + 1)).map (rn1 z) = (l.take k).map (rn1 z) ++ [⟨⟨x1, x2, x3, x4, x5, x6, x7⟩, x8, x9 + z⟩]) := MS.out.trans (by simp [rn1, h8, h9])
            clear MS hit
            go_upto_region 17 with fail
            refine gen_world (motive := fun x => Code.wp _ _ _ _ x) (fun V => Ai w1.heap.size wr.heap.size u6 ((l.take k).map (rn1 z)) x1 x2 x3 x4 x5 x6 x7 x8 (x9 + z) w1 V) ⟨hR.out.kept (bel_one _ _), bel_al hb _, Row9.made wr x1 x2 x3 x4 x5 x6 x7 x8 (x9 + z)⟩ ?_
            clear d0 d1 d2 d3 d4 d5 d6 d7 d8 hR hb
            rintro V ⟨hR1, hB1, hW⟩
            obtain ⟨e0, e1, e2, e3, e4, e5, e6, e7, e8⟩ := hW.cells
            clear hW
            have HBS : Hid (w1.heap.size ≤ (V.alloc (.cells #[.int .i64 x1, .bool x2, .int .i64 x3, .int .i64 x4, .int .i64 x5, .int .i64 x6, .int .i64 x7, .int .i64 x8, .int .i64 (x9 + z)] 42)).heap.size) := by have := hB1.size; show _ ≤ _; simp; omega
            have OWN : Hid ((V.alloc (.cells #[.int .i64 x1, .bool x2, .int .i64 x3, .int .i64 x4, .int .i64 x5, .int .i64 x6, .int .i64 x7, .int .i64 x8, .int .i64 (x9 + z)] 42)).ownsRow w1.heap.size 42 9 u6 k (isl ((l.take k).map (rn1 z)))) := by
              have := World.ownsRow.alloc hR1 (.cells #[.int .i64 x1, .bool x2, .int .i64 x3, .int .i64 x4, .int .i64 x5, .int .i64 x6, .int .i64 x7, .int .i64 x8, .int .i64 (x9 + z)] 42)
              rw [LN.out] at this; exact this
            have NX := hide (new_i V x1 x2 x3 x4 x5 x6 x7 x8 (x9 + z))
            have XC := hide (i_cell x1 x2 x3 x4 x5 x6 x7 x8 (x9 + z))
            go_wp2_with (at_builtin; (refine wpList_append_own _ rfl (.tmp 61) (.tmp 63) 22 rfl w1.heap.size 42 i0 _ 9 72 Try.underlying22 hi hz0 hz1 hz2 rfl (by decide) _ k _ rfl OWN.out ⟨V.heap.size, 0, none⟩ 1 1 [.int .i64 x1, .bool x2, .int .i64 x3, .int .i64 x4, .int .i64 x5, .int .i64 x6, .int .i64 x7, .int .i64 x8, .int .i64 (x9 + z)] rfl rfl NX.out XC.out (by unfold maxLen; omega) (by omega) HBS.out ?_))
            intro v' w3 hown hgrow _
            have R3 : Hid (IV w1.heap.size v' ((l.take (k + 1)).map (rn1 z)) w3) := by
              show w3.ownsRow _ _ _ _ _ _
              rw [HO.out, isl_snoc, List.length_append, LN.out, List.map_take]
              exact hown
            have B3 : Below w1.heap.size w1 w3 := (bel_al hB1 _).trans (own_bel OWN.out HBS.out hgrow)
            clear hown hgrow OWN HBS hR1 hB1 NX XC e0 e1 e2 e3 e4 e5 e6 e7 e8
            go_wp2_with fail
            go_roundw
            case rel => exact ⟨k + 1, by omega, by go_num, R3, B3, hA2⟩
            case measure => simp [intOf]; omega
          · have HO : Hid ((l.take (k + 1)).map (rn1 z) = (l.take k).map (rn1 z) ++ [⟨⟨x1, x2, x3, x4, x5, x6, x7⟩, x8, x9⟩]) := MS.out.trans (by simp [rn1, h8, h9])
            clear MS hit
            go_upto_region 17 with fail
            refine gen_world (motive := fun x => Code.wp _ _ _ _ x) (fun V => Ai w1.heap.size wr.heap.size u6 ((l.take k).map (rn1 z)) x1 x2 x3 x4 x5 x6 x7 x8 x9 w1 V) ⟨hR.out.kept (bel_one _ _), bel_al hb _, Row9.made wr x1 x2 x3 x4 x5 x6 x7 x8 x9⟩ ?_
            clear d0 d1 d2 d3 d4 d5 d6 d7 d8 hR hb
            rintro V ⟨hR1, hB1, hW⟩
            obtain ⟨e0, e1, e2, e3, e4, e5, e6, e7, e8⟩ := hW.cells
            clear hW
            have HBS : Hid (w1.heap.size ≤ (V.alloc (.cells #[.int .i64 x1, .bool x2, .int .i64 x3, .int .i64 x4, .int .i64 x5, .int .i64 x6, .int .i64 x7, .int .i64 x8, .int .i64 x9] 42)).heap.size) := by have := hB1.size; show _ ≤ _; simp; omega
            have OWN : Hid ((V.alloc (.cells #[.int .i64 x1, .bool x2, .int .i64 x3, .int .i64 x4, .int .i64 x5, .int .i64 x6, .int .i64 x7, .int .i64 x8, .int .i64 x9] 42)).ownsRow w1.heap.size 42 9 u6 k (isl ((l.take k).map (rn1 z)))) := by
              have := World.ownsRow.alloc hR1 (.cells #[.int .i64 x1, .bool x2, .int .i64 x3, .int .i64 x4, .int .i64 x5, .int .i64 x6, .int .i64 x7, .int .i64 x8, .int .i64 x9] 42)
              rw [LN.out] at this; exact this
            have NX := hide (new_i V x1 x2 x3 x4 x5 x6 x7 x8 x9)
            have XC := hide (i_cell x1 x2 x3 x4 x5 x6 x7 x8 x9)
            go_wp2_with (at_builtin; (refine wpList_append_own _ rfl (.tmp 61) (.tmp 63) 22 rfl w1.heap.size 42 i0 _ 9 72 Try.underlying22 hi hz0 hz1 hz2 rfl (by decide) _ k _ rfl OWN.out ⟨V.heap.size, 0, none⟩ 1 1 [.int .i64 x1, .bool x2, .int .i64 x3, .int .i64 x4, .int .i64 x5, .int .i64 x6, .int .i64 x7, .int .i64 x8, .int .i64 x9] rfl rfl NX.out XC.out (by unfold maxLen; omega) (by omega) HBS.out ?_))
            intro v' w3 hown hgrow _
            have R3 : Hid (IV w1.heap.size v' ((l.take (k + 1)).map (rn1 z)) w3) := by
              show w3.ownsRow _ _ _ _ _ _
              rw [HO.out, isl_snoc, List.length_append, LN.out, List.map_take]
              exact hown
            have B3 : Below w1.heap.size w1 w3 := (bel_al hB1 _).trans (own_bel OWN.out HBS.out hgrow)
            clear hown hgrow OWN HBS hR1 hB1 NX XC e0 e1 e2 e3 e4 e5 e6 e7 e8
            go_wp2_with fail
            go_roundw
            case rel => exact ⟨k + 1, by omega, by go_num, R3, B3, hA2⟩
            case measure => simp [intOf]; omega
      · have hkm : k = l.length := by omega
        subst hkm
        rw [List.take_length] at hR
        have LN : Hid ((l.map (rn1 z)).length = l.length) := by show _ = _; simp
        have OK1 : Hid (∀ j (hj : j < l.length), l[j].ok) := fun j hj => by
          rcases HX1.out with h | ⟨b, off, rfl, hX⟩
          · rw [h] at hj; simp at hj
          · exact hX.ok hj
        obtain ⟨a9, c9, hv9, hI⟩ := hR.out.is (rn_ok hA.out OK1.out z0 z1)
        rw [LN.out] at hv9
        subst hv9
        have A1 := hide (assemble_any a cap l wr (by omega) (HX1.out.below hb))
        have A2 := hide (fun U b => assemble_any a9 c9 (l.map (rn1 z)) U (by rw [LN.out]; omega) (hI.below b))
        have HRN := hide (rn_as z0 l)
        rw [HRN.out.1, HRN.out.2, LN.out] at A2
        clear hR hI LN OK1 hA HRN HX1
        generalize asS l = ss at *
        generalize asE l = ee at *
        go_wp2_with fail
        refine A1.out.mono ?_
        rintro e w2 ⟨rfl, b2⟩
        go_wp2_with fail
        refine (A2.out _ b2).mono ?_
        rintro e w3 ⟨rfl, b3⟩
        go_wp2_with fail
        go_ret
        exact ⟨rfl, bel_tr b1 (bel_tr (bel_tr hb b2) b3)⟩
end Go.Proofs.Ytookbgnidinkoaa
/-
  Plain: what was assembled is instructions, in their order, at their places.
-/
namespace Go.Proofs.Ytookbgnidinkoaa
open Go.RowKit
open Xc
set_option linter.unusedSimpArgs false
set_option linter.unusedVariables false
/-- A jump has as many bytes wherever it goes. -/
theorem enc_jump {x : Xi} (h : jmp x.op = true) (n : Int) : (enc { x with n := n }).length = (enc x).length := by
  obtain ⟨op, wd, r, b, i, c, m⟩ := x
  simp only [jmp, Bool.or_eq_true, beq_iff_eq] at h
  rcases h with rfl | rfl | rfl <;> simp [enc, rx, cod, mrs, nmb, mid, inx, fR2, fRR, fB, fP, h32, bys_len]
theorem jx_len {l : List It} {k : Nat} (hk : k < l.length) (hs : sOk l[k] = true) (h0 : l[k].lb = 0) : (enc (jx l k l[k])).length = sN l[k] := by
  have e : sN l[k] = (enc l[k].x).length := by unfold sN; rw [if_pos h0, if_pos hs]
  rw [e]
  unfold jx
  split
  · rfl
  · rename_i h1
    have hj : jmp l[k].x.op = true := by
      unfold sOk at hs
      rw [if_pos h0, if_neg h1] at hs
      unfold mG at hs
      simp only [Bool.and_eq_true] at hs
      exact hs.1.1
    exact enc_jump hj _
theorem sN_lb {t : It} (h : t.lb ≠ 0) : sN t = 0 := by unfold sN; rw [if_neg h]
/-- The bytes of the first items end where the next one stands. -/
theorem oL_pt {l : List It} (hp : pOk l = true) : ∀ k, k ≤ l.length → (encs (oL l k)).length = pt l k
  | 0, _ => by rw [pt_0]; rfl
  | k + 1, hk => by
    have h : k < l.length := hk
    rw [oL_succ h, encs_app, List.length_append, oL_pt hp k (by omega), pt_succ h]
    congr 1
    unfold one
    split
    · rename_i h0
      rw [encs_cons, encs_nil, List.append_nil]
      exact jx_len h (pOk_at hp h) h0
    · rename_i h0
      rw [sN_lb h0]; rfl
theorem oL_pre {l : List It} {k n : Nat} (h : k ≤ n) : ∃ r, oL l n = oL l k ++ r := by
  have := oL_app (l := l) (n - k) k
  rwa [Nat.add_sub_cancel' h] at this
/-- Where the k-th item's instruction begins. -/
theorem offs_at {l : List It} (hp : pOk l = true) {k : Nat} (hk : k ≤ l.length) (j : Nat) (hj : j = (oL l k).length) (h : j < (offs (oL l l.length)).length) : (offs (oL l l.length))[j] = (pt l k : Int) := by
  subst hj
  rw [offs_get]
  obtain ⟨r, e⟩ := oL_pre (l := l) hk
  rw [e, List.take_left, oL_pt hp k hk]
theorem oL_lt {l : List It} {k : Nat} (hk : k < l.length) (h0 : l[k].lb = 0) : (oL l k).length < (oL l l.length).length := by
  obtain ⟨r, e⟩ := oL_pre (l := l) (k := k + 1) (n := l.length) hk
  rw [e, oL_succ hk]
  unfold one
  rw [if_pos h0]
  simp
theorem oL_len1 {l : List It} {k : Nat} (hk : k < l.length) (h0 : l[k].lb = 0) : (oL l (k + 1)).length = (oL l k).length + 1 := by
  rw [oL_succ hk]
  unfold one
  rw [if_pos h0]
  simp
theorem oL_len0 {l : List It} {k : Nat} (hk : k < l.length) (h0 : l[k].lb ≠ 0) : (oL l (k + 1)).length = (oL l k).length := by
  rw [oL_succ hk]
  unfold one
  rw [if_neg h0]
  simp
/-- The bytes behind the k-th item's place begin with its instruction. -/
theorem oL_drop {l : List It} (hp : pOk l = true) {k : Nat} (hk : k < l.length) (h0 : l[k].lb = 0) : enc (jx l k l[k]) <+: (encs (oL l l.length)).drop (pt l k) := by
  obtain ⟨r, e⟩ := oL_pre (l := l) (k := k + 1) (n := l.length) hk
  have e1 : oL l (k + 1) = oL l k ++ [jx l k l[k]] := by
    rw [oL_succ hk]; unfold one; rw [if_pos h0]
  rw [e, e1, List.append_assoc, encs_app, ← oL_pt hp k (by omega), List.drop_left, encs_app, encs_cons, encs_nil, List.append_nil]
  exact List.prefix_append _ _
/-- What was assembled. -/
structure Ass (l : List It) : Prop where
  pk : pOk l = true
  uq : Uq l
  lost : ¬ Lost l
  ok : aOk (oL l l.length) = true
  s : asS l = encs (oL l l.length)
theorem as_yes {l : List It} (h : asE l = 0) : Ass l := by
  obtain ⟨o, hr, ha, hs⟩ := as_ok h
  unfold asR at hr
  split at hr
  · rename_i hc
    obtain rfl := Option.some.inj hr
    exact ⟨hc.1, hc.2.1, hc.2.2, ha, hs⟩
  · cases hr
theorem as_e (l : List It) : asE l = 0 ∨ (asE l = 4 ∧ asS l = []) := by
  unfold asE asS
  cases asR l with
  | none => exact Or.inr ⟨rfl, rfl⟩
  | some o =>
    simp only [aE, aS]
    cases aOk o
    · exact Or.inr ⟨rfl, rfl⟩
    · exact Or.inl rfl
theorem Ass.rt {l : List It} (h : Ass l) {k : Nat} (hk : k < l.length) (h0 : l[k].lb = 0) : rt (jx l k l[k]) = true := by
  obtain ⟨r, e⟩ := oL_pre (l := l) (k := k + 1) (n := l.length) hk
  have e1 : oL l (k + 1) = oL l k ++ [jx l k l[k]] := by
    rw [oL_succ hk]; unfold one; rw [if_pos h0]
  have ha := h.ok
  rw [e, e1] at ha
  unfold aOk at ha
  rw [List.all_eq_true] at ha
  exact ha _ (by simp)
theorem Ass.dc {l : List It} (h : Ass l) (hl : l.length ≤ 1000) {k : Nat} (hk : k < l.length) (h0 : l[k].lb = 0) (ho : l[k].ok) : dcX ((asS l).drop (pt l k)) = some (jx l k l[k]) := by
  rw [h.s]
  exact dc_is (h.rt hk h0) (jx_ok hl hk ho).2.2.2.2.2 (oL_drop h.pk hk h0)
theorem Ass.gd {l : List It} (h : Ass l) (hl : l.length ≤ 1000) (ho : ∀ j (hj : j < l.length), l[j].ok) : Gd (oL l l.length) := fun x hx => by
  have ha := h.ok
  unfold aOk at ha
  rw [List.all_eq_true] at ha
  obtain ⟨i, hi, rfl⟩ := List.getElem_of_mem hx
  exact ⟨ha _ hx, (oL_ok hl ho l.length (Nat.le_refl _) i hi).2.2.2.2.2⟩
/-- A jump: its label is there. -/
theorem Ass.there {l : List It} (h : Ass l) {k : Nat} (hk : k < l.length) (h0 : l[k].lb = 0) (h1 : l[k].tg ≠ 0) : ∃ j, ∃ hj : j < l.length, l[j].lb = l[k].tg ∧ jx l k l[k] = ⟨l[k].x.op, l[k].x.wide, l[k].x.r, l[k].x.b, l[k].x.i, l[k].x.c, (pt l j : Int) - (pt l (k + 1) : Int)⟩ ∧ l[k].x.n = 0 ∧ 0 < l[k].tg := by
  cases hf : fd l l[k].tg with
  | none => exact absurd ⟨k, hk, h0, h1, hf⟩ h.lost
  | some j =>
    obtain ⟨hj, e⟩ := fd_lt hf
    have hs := pOk_at h.pk hk
    unfold sOk at hs
    rw [if_pos h0, if_neg h1] at hs
    unfold mG at hs
    simp only [Bool.and_eq_true, decide_eq_true_eq, beq_iff_eq] at hs
    refine ⟨j, hj, e, ?_, hs.1.2.2, hs.1.2.1⟩
    unfold jx
    rw [if_neg h1, hf]
    rfl
theorem Ass.plain {l : List It} {k : Nat} (hk : k < l.length) (h1 : l[k].tg = 0) : jx l k l[k] = l[k].x := by unfold jx; rw [if_pos h1]
end Go.Proofs.Ytookbgnidinkoaa
/-
  The walk of the statement AsmLays.
-/
namespace Go.Proofs.Ytookbgnidinkoaa
open Go.RowKit
open Xc
set_option linter.unusedSimpArgs false
set_option linter.unusedVariables false
theorem num_same (a1 : Option Addr) (c1 : Nat) (xs : List Int) (a2 : Option Addr) (c2 : Nat) (w : World) (hl : xs.length ≤ 2000000) (h1 : RI w a1 xs) (h2 : RI w a2 xs) : Calls Try.prog 11 #[.slice a1 xs.length c1, .slice a2 xs.length c2] w fun e w' => e = .returned (.bool true) ∧ Below w.heap.size w w' := by
  have h := numbers_any a1 c1 xs a2 c2 xs w hl h1 h2
  unfold NuIs at h
  rw [decide_eq_true rfl] at h
  exact h
set_option maxHeartbeats 8000000 in
set_option maxRecDepth 100000 in
theorem lays_walk (a : Option Addr) (l0 : List It) (cap : Nat) (w : World) (hX : IS w a l0) (hc : l0.length ≤ cap) : Calls Try.prog 3 #[.slice a l0.length cap] w fun e w' => e = .returned (.bool true) ∧ Below w.heap.size w w' := by
  have EX := hide examples_any
  have HX := hide (hX.take 200)
  have hlen : (min (l0.length : Int) 200).toNat = (l0.take 200).length := by simp; omega
  have HLEN := hide hlen
  clear hlen
  have hl1 : (l0.take 200).length ≤ 200 := by simp; omega
  clear hX
  go_enter Try.func3, Try.ntmps3
  go_wp2_with fail
  refine (EX.out _).mono ?_
  rintro e w1 ⟨rfl, b1⟩
  clear EX
  go_upto_region 3 with fail
  rw [HLEN.out]
  clear HLEN
  generalize l0.take 200 = l at *
  generalize (min _ (200 : Int)) = mm
  have A1 := hide (fun U b => assemble_any a cap l U (by omega) (HX.out.below b))
  have A2 := hide (fun U b => rassemble_any a cap l U (by omega) (HX.out.below b))
  have P1 := hide (fun U b => places_any a cap l U (by omega) (HX.out.below b))
  have P2 := hide (fun U b => rplaces_any a cap l U (by omega) (HX.out.below b))
  have PL := hide (pls_len l l.length)
  have hE := as_e l
  unfold RaEnds at A2
  have HE : Hid ((asE l = 0 ∧ decide (asE l = 0) = true) ∨ (asE l = 4 ∧ decide (asE l = 0) = false)) := by
    rcases hE with h | ⟨h, _⟩
    · exact Or.inl ⟨h, decide_eq_true h⟩
    · exact Or.inr ⟨h, decide_eq_false (by omega)⟩
  clear hE HX
  generalize asS l = ss at *
  cases hp : pOk l
  · go_wp2_with fail
    refine (P1.out _ b1).mono ?_
    rintro e w2 (⟨h, _⟩ | ⟨_, rfl, b2⟩)
    · rw [hp] at h; cases h
    have B2 := bel_tr b1 b2
    go_wp2_with fail
    refine (P2.out _ B2).mono ?_
    rintro e w3 (⟨h, _⟩ | ⟨_, rfl, b3⟩)
    · rw [hp] at h; cases h
    have B3 := bel_tr B2 b3
    clear P1 P2 b1 b2 B2 b3 hp
    go_wp2_with fail
    refine (num_same none 0 [] none 0 _ (by simp) (Or.inl rfl) (Or.inl rfl)).mono ?_
    rintro e w4 ⟨rfl, b4⟩
    have B4 := bel_tr B3 b4
    clear B3 b4
    go_wp2_with fail
    refine (A1.out _ B4).mono ?_
    rintro e w5 ⟨rfl, b5⟩
    have B5 := bel_tr B4 b5
    clear B4 b5 A1
    go_wp2_with fail
    refine (A2.out _ B5).mono ?_
    rintro e w6 ⟨rfl, b6⟩
    rcases HE.out with ⟨h1, h2⟩ | ⟨h1, h2⟩
    · rw [h2, h1]
      clear HE h1 h2 A2
      go_wp2_with fail
      go_ret
      exact ⟨rfl, bel_tr B5 b6⟩
    · rw [h2, h1]
      clear HE h1 h2 A2
      go_wp2_with fail
      go_ret
      exact ⟨rfl, bel_tr B5 b6⟩
  · go_wp2_with fail
    refine (P1.out _ b1).mono ?_
    rintro e w2 (⟨_, v, rfl, hR, b2⟩ | ⟨h, _⟩)
    case inr => rw [hp] at h; cases h
    have B2 := bel_tr b1 b2
    obtain ⟨a4, c4, rfl, r1⟩ := hR.ri
    clear hR
    go_wp2_with fail
    refine (P2.out _ B2).mono ?_
    rintro e w3 (⟨_, v, rfl, hR, b3⟩ | ⟨h, _⟩)
    case inr => rw [hp] at h; cases h
    have B3 := bel_tr B2 b3
    obtain ⟨a6, c6, rfl, r2⟩ := hR.ri
    have N := hide (num_same a4 c4 (pls l l.length) a6 c6 w3 (by rw [pls_len]; omega) (r1.kept b3) r2)
    clear P1 P2 b1 b2 B2 b3 hp hR r1 r2
    generalize (pls l l.length).length = pn at *
    go_wp2_with fail
    refine N.out.mono ?_
    rintro e w4 ⟨rfl, b4⟩
    have B4 := bel_tr B3 b4
    clear B3 b4 N
    go_wp2_with fail
    refine (A1.out _ B4).mono ?_
    rintro e w5 ⟨rfl, b5⟩
    have B5 := bel_tr B4 b5
    clear B4 b5 A1
    go_wp2_with fail
    refine (A2.out _ B5).mono ?_
    rintro e w6 ⟨rfl, b6⟩
    rcases HE.out with ⟨h1, h2⟩ | ⟨h1, h2⟩
    · rw [h2, h1]
      clear HE h1 h2 A2
      go_wp2_with fail
      go_ret
      exact ⟨rfl, bel_tr B5 b6⟩
    · rw [h2, h1]
      clear HE h1 h2 A2
      go_wp2_with fail
      go_ret
      exact ⟨rfl, bel_tr B5 b6⟩
end Go.Proofs.Ytookbgnidinkoaa
/-
  Items that come in: what lies in their memory; no condition.
-/
namespace Go.Proofs.Ytookbgnidinkoaa
open Go.ChangeShapes Go.WideShapes Go.ChangeAt Go.RowKit Go.Joins
open Xc
set_option linter.unusedSimpArgs false
set_option linter.unusedVariables false
theorem Try.cells42 : Try.prog.cellsOf 42 = 9 := by kernel_rfl
theorem Try.bytes42 : Try.prog.bytesOf 42 = 72 := by kernel_rfl
/-- One item, out of its nine cells. -/
theorem open_nine {H : Type} {enc : TypeId × Value → H} {W : World} {n : Nat} {cs : List Value} {x : DataW H × List MemPlace} (hl : cs.length = 9) (h : DataW.trod enc Try.prog W 0 (fun _ => true) true n 42 cs = some x) :
    ∃ t : It, cs = ivl t ∧ t.ok := by
  obtain ⟨xs, k, _, _, _, hxl, hf⟩ := DataW.trod_struct Try.underlying42 h
  match cs, hl with
  | [v0, v1, v2, v3, v4, v5, v6, v7, v8], _ =>
    match xs, hxl with
    | [y0, y1, y2], _ =>
      have g0 := hf 0 _ rfl
      have g1 := hf 1 _ rfl
      have g2 := hf 2 _ rfl
      simp [Try.c3, Try.cells40] at g0 g1 g2
      obtain ⟨q, e0, hq⟩ := open_seven rfl g0
      obtain ⟨a1, e1, _, w1⟩ := DataW.trod_int Try.underlying3 g1
      obtain ⟨a2, e2, _, w2⟩ := DataW.trod_int Try.underlying3 g2
      simp [xc] at e0 e1 e2
      obtain ⟨rfl, rfl, rfl, rfl, rfl, rfl, rfl⟩ := e0
      subst e1 e2
      exact ⟨⟨q, a1, a2⟩, rfl, hq, wf_i64 w1, wf_i64 w2⟩
theorem open_is {H : Type} {enc : TypeId × Value → H} {W : World} {base : Nat} {v : Value} {d : DataW H} {p : List MemPlace} (hv : Value.okWide Try.prog W .any base 22 v) (h : DataW.Trod enc Try.prog W 0 (fun _ => true) true 22 v d p) :
    ∃ (a : Option Addr) (l : List It) (c : Nat), v = .slice a (List.length l) c ∧ IS W a l ∧ l.length ≤ c := by
  obtain ⟨a, len, cap, rfl⟩ := okWide_slice Try.underlying22 hv
  obtain ⟨fuel, hf⟩ := h
  rcases Deep.open_slice Try.underlying22 hf with ⟨hcs, hx⟩ | ⟨a, len', cap', m, n, D, Pl, hcs, _, hl, hm, hmm, hx, hcell⟩
  · simp [Value.cells] at hcs
    exact ⟨a, [], cap, by rw [hcs.2.1]; rfl, Or.inl rfl, by simp⟩
  · simp [Value.cells] at hcs
    obtain ⟨rfl, rfl, rfl⟩ := hcs
    rcases Nat.eq_zero_or_pos len with h0 | h0
    · subst h0
      exact ⟨some a, [], cap, rfl, Or.inl rfl, by simp⟩
    simp only [if_true] at hmm
    have each : ∀ i, i < len → ∃ q : It, q.ok ∧ ∀ k v, (ivl q)[k]? = some v → W.cell? (a.add (i * 9 + k)) = some v := by
      intro i hi
      obtain ⟨cs', h1, h2⟩ := hcell i (by omega)
      rw [Try.cells42] at h1
      obtain ⟨_, hlen, hc⟩ := World.cells?_some h1
      obtain ⟨y, e, hy⟩ := open_nine hlen h2
      refine ⟨y, hy, fun k v hk => ?_⟩
      have hk7 : k < 9 := by
        have := (List.getElem?_eq_some_iff.1 hk).1
        simpa [ivl] using this
      have := hc k hk7
      rw [Deep.add_add] at this
      rw [this, e]
      simpa using hk
    haveI : Inhabited It := ⟨⟨⟨0, false, 0, 0, 0, 0, 0⟩, 0, 0⟩⟩
    obtain ⟨q, hq⟩ := Deep.choose_lt each
    obtain ⟨b, off, spot⟩ := a
    have hspot : spot = none := by simpa [Addr.add] using World.cell?_spot ((hq 0 h0).2 0 _ rfl)
    subst hspot
    refine ⟨some ⟨b, off, none⟩, (List.range len).map q, cap, by simp, Or.inr ⟨b, off, rfl, fun j hj => ?_⟩, by simpa using hl⟩
    have hj' : j < len := by simpa using hj
    have hc := (hq j hj').2
    have get : ((List.range len).map q)[j] = q j := by simp
    rw [get]
    have cc := fun k v hk => by have := hc k v hk; rw [add_lit7] at this; exact this
    exact ⟨by have := cell_lt (cc 0 _ rfl); exact this, (hq j hj').1, cc 0 _ rfl, cc 1 _ rfl, cc 2 _ rfl, cc 3 _ rfl, cc 4 _ rfl, cc 5 _ rfl, cc 6 _ rfl, cc 7 _ rfl, cc 8 _ rfl⟩
/-- Instructions that come in, and that there is room for them. -/
theorem open_xs' {H : Type} {enc : TypeId × Value → H} {W : World} {base : Nat} {v : Value} {d : DataW H} {p : List MemPlace} (hv : Value.okWide Try.prog W .any base 46 v) (h : DataW.Trod enc Try.prog W 0 (fun _ => true) true 46 v d p) :
    ∃ (a : Option Addr) (l : List Xi) (c : Nat), v = .slice a (List.length l) c ∧ XS W a l ∧ l.length ≤ c := by
  obtain ⟨a, l, c, elems, spare, rfl, _, hs, _⟩ := open_xs hv h
  refine ⟨a, l, c, rfl, hs, ?_⟩
  obtain ⟨fuel, hf⟩ := h
  rcases Deep.open_slice Try.underlying46 hf with ⟨hcs, hx⟩ | ⟨a', len', cap', m, n, D, Pl, hcs, _, hl, hm, hmm, hx, hcell⟩
  · simp [Value.cells] at hcs
    rw [hcs.2.1]; simp
  · simp [Value.cells] at hcs
    obtain ⟨_, rfl, rfl⟩ := hcs
    exact hl
end Go.Proofs.Ytookbgnidinkoaa

/-
  Memory: items and numbers in rows; the program's Places.
-/
import Derived.Test.YtookbgnidinkoaaL
import Derived.Laws.OwnMore
import Derived.OwnWalk
import Derived.Maps.AppendAt
namespace Go.Proofs.Ytookbgnidinkoaa
open Go.RowKit
open Xc
set_option linter.unusedSimpArgs false
set_option linter.unusedVariables false
/-- Items in a row of memory. -/
def IL (B : Nat) (W : World) (b off : Nat) (l : List It) : Prop :=
  ∀ j (h : j < l.length), b < B ∧ l[j].ok ∧ W.cell? ⟨b, off + j * 9, none⟩ = some (.int .i64 l[j].x.op) ∧ W.cell? ⟨b, off + j * 9 + 1, none⟩ = some (.bool l[j].x.wide) ∧ W.cell? ⟨b, off + j * 9 + 2, none⟩ = some (.int .i64 l[j].x.r) ∧ W.cell? ⟨b, off + j * 9 + 3, none⟩ = some (.int .i64 l[j].x.b) ∧ W.cell? ⟨b, off + j * 9 + 4, none⟩ = some (.int .i64 l[j].x.i) ∧ W.cell? ⟨b, off + j * 9 + 5, none⟩ = some (.int .i64 l[j].x.c) ∧ W.cell? ⟨b, off + j * 9 + 6, none⟩ = some (.int .i64 l[j].x.n) ∧ W.cell? ⟨b, off + j * 9 + 7, none⟩ = some (.int .i64 l[j].lb) ∧ W.cell? ⟨b, off + j * 9 + 8, none⟩ = some (.int .i64 l[j].tg)
def IS (W : World) (a : Option Addr) (l : List It) : Prop := l = [] ∨ ∃ b off, a = some ⟨b, off, none⟩ ∧ IL W.heap.size W b off l
theorem IL.below {W U : World} {b off : Nat} {l : List It} (h : IL W.heap.size W b off l) (k : Below W.heap.size W U) : IL U.heap.size U b off l := fun j hj => by
  obtain ⟨hb, ho, c0, c1, c2, c3, c4, c5, c6, c7, c8⟩ := h j hj
  have cc : ∀ n v, W.cell? ⟨b, n, none⟩ = some v → U.cell? ⟨b, n, none⟩ = some v := fun n v h => (k.cell (p := ⟨b, n, none⟩) hb).trans h
  exact ⟨Nat.lt_of_lt_of_le hb k.size, ho, cc _ _ c0, cc _ _ c1, cc _ _ c2, cc _ _ c3, cc _ _ c4, cc _ _ c5, cc _ _ c6, cc _ _ c7, cc _ _ c8⟩
theorem IS.below {W U : World} {a : Option Addr} {l : List It} (h : IS W a l) (k : Below W.heap.size W U) : IS U a l := by
  rcases h with h | ⟨b, off, e, hX⟩
  · exact Or.inl h
  · exact Or.inr ⟨b, off, e, hX.below k⟩
theorem IL.ok {B : Nat} {W : World} {b off : Nat} {l : List It} (h : IL B W b off l) {j : Nat} (hj : j < l.length) : l[j].ok := (h j hj).2.1
/-- Numbers in a row of one's own. -/
def NR (B : Nat) (v : Value) (ns : List Int) (w : World) : Prop := w.ownsRow B 3 1 v ns.length (ns.map (Value.int .i64))
section
variable {B e s n : Nat} {v : Value} {xs : List Value} {w w' : World}
theorem own_kept (h : w.ownsRow B e s v n xs) (k : Below w.heap.size w w') : w'.ownsRow B e s v n xs := by
  refine ⟨h.1, ?_⟩
  rcases h.2 with h' | ⟨g, cap, cur, e', h1, h2, h3⟩
  · exact Or.inl h'
  · refine Or.inr ⟨g, cap, cur, e', h1, ?_, h3⟩
    have hg : g < w.heap.size := (h.lt g (by rw [e']; rfl)).2
    rw [k.block g hg]; exact h2
theorem own_bel (hr : w.ownsRow B e s v n xs) (hB : B ≤ w.heap.size) (hg : w.grownBy w' v.ownBlock) : Below B w w' :=
  ⟨hg.os, hg.tape, hg.output, hg.size, fun b hb => hg.block b (by omega) fun e => by have := hr.lt b e.symm; omega⟩
end
theorem NR.kept {B : Nat} {v : Value} {ns : List Int} {w w' : World} (h : NR B v ns w) (k : Below w.heap.size w w') : NR B v ns w' := own_kept h k
theorem NR.form {B : Nat} {v : Value} {ns : List Int} {w : World} (h : NR B v ns w) : ∃ a c, v = .slice a ns.length c := by
  rcases h.2 with ⟨rfl, e⟩ | ⟨g, cap, cur, rfl, _⟩
  · rw [e]; exact ⟨_, _, rfl⟩
  · exact ⟨_, _, rfl⟩
/-- Where a row's numbers lie. -/
theorem NR.at {B : Nat} {v : Value} {ns : List Int} {w : World} (h : NR B v ns w) (h0 : 0 < ns.length) : ∃ g c, v = .slice (some ⟨g, 0, none⟩) ns.length c ∧ B ≤ g ∧ g < w.heap.size ∧ ∀ j (hj : j < ns.length), w.cell? ⟨g, j, none⟩ = some (.int .i64 ns[j]) := by
  rcases h.2 with ⟨_, e⟩ | ⟨g, cap, cur, rfl, hb, _⟩
  · omega
  · refine ⟨g, cap, rfl, hb, (h.lt g rfl).2, fun j hj => ?_⟩
    rw [World.ownsRow.cellAt h j (by omega)]
    simp [hj]
def pls (l : List It) (k : Nat) : List Int := (List.range (k + 1)).map fun j => (pt l j : Int)
theorem pls_len (l : List It) (k : Nat) : (pls l k).length = k + 1 := by simp [pls]
theorem pls_get (l : List It) (k j : Nat) (h : j < (pls l k).length) : (pls l k)[j] = (pt l j : Int) := by simp [pls]
theorem pls_snoc (l : List It) (k : Nat) : pls l (k + 1) = pls l k ++ [(pt l (k + 1) : Int)] := by simp [pls, List.range_succ (n := k + 1)]
theorem info3 : (Try.prog.info? 3).map (fun i => (i.zero, i.size, i.bytes)) = some (some (.int .i64 0), 1, 8) := by kernel_rfl
theorem one_at3 (w : World) (x : Int) : ∀ j u, [Value.int .i64 x][j]? = some u → (w.alloc (.cells #[.int .i64 x] 3)).cell? ((⟨w.heap.size, 0, none⟩ : Addr).add j) = some u := by
  intro j u h
  have e := heap_alloc_new w (.cells #[.int .i64 x] 3)
  cases j with
  | zero => simp at h; subst h; exact cell_one_new w (.int .i64 x) 3 0 _ rfl
  | succ j => simp at h
theorem one_cell3 (x : Int) : ∀ u, u ∈ [Value.int .i64 x] → u.oneCell' = true := by
  intro u h; simp at h; subst h; rfl
theorem made_row (w : World) (n : Nat) (hn : n ≤ 2000) : NR w.heap.size (.slice (some ⟨w.heap.size, 0, none⟩) 1 (n + 1)) [0] (w.alloc (.cells (madeCells #[Value.int .i64 0] (n + 1)) 3)) := by
  refine ⟨rfl, Or.inr ⟨w.heap.size, n + 1, madeCells #[Value.int .i64 0] (n + 1), rfl, Nat.le_refl _, heap_alloc_new w _, by simp, by unfold maxLen; omega, by simp [size_madeCells], ?_⟩⟩
  rw [toList_madeCells_one]
  simp [List.replicate_succ]
def PlEnds (l : List It) (w : World) (e : Ending) (w' : World) : Prop :=
  (pOk l = true ∧ ∃ v, e = .returned (.tuple #[v, .int .i64 0]) ∧ NR w.heap.size v (pls l l.length) w' ∧ Below w.heap.size w w') ∨ (pOk l = false ∧ e = .returned (.tuple #[.slice none 0 0, .int .i64 4]) ∧ Below w.heap.size w w')
set_option maxHeartbeats 4000000 in
theorem places_any (a : Option Addr) (cap : Nat) (l : List It) (w : World) (hl : l.length ≤ 1000) (hX : IS w a l) : Calls Try.prog 9 #[.slice a l.length cap] w (PlEnds l w) := by
  have HX := hide hX
  clear hX
  obtain ⟨i0, hi, hz0, hz1, hz2⟩ := info_parts info3
  have hmk : ∀ X : World, (Instr.makeSlice 24 (.int .i64 1) (.int .i64 ((l.length : Int) + 1))).run Try.prog X = .ok (.slice (some ⟨X.heap.size, 0, none⟩) 1 (l.length + 1)) (X.alloc (.cells (madeCells #[Value.int .i64 0] (l.length + 1)) 3)) := fun X => by
    have := run_make X 24 3 i0 (.int .i64 0) Try.underlying24 hi hz0 .i64 .i64 1 ((l.length : Int) + 1) (by decide) (by omega) (by rw [hz2]; omega) (by omega)
    rw [this, hz1]
    have e : ((l.length : Int) + 1).toNat = l.length + 1 := by omega
    rw [e, Nat.mul_one]; rfl
  have MR := hide (made_row w l.length (by omega))
  go_enter Try.func9, Try.ntmps9
  go_wp2
  clear hmk
  go_loopw [4, 15] (fun sv iv wr => ∃ k : Nat, k ≤ l.length ∧ iv = .int .i64 (k : Int) ∧ Hid (NR w.heap.size sv (pls l k) wr) ∧ Below w.heap.size w wr ∧ Hid (∀ j (hj : j < l.length), j < k → sOk l[j] = true)) (fun _ iv _ => l.length - (intOf iv).toNat)
  case atStart => exact ⟨0, by omega, rfl, hide (by show NR _ _ _ _; simpa [pls, pt_0] using MR.out), bel_one _ _, hide (fun j hj h => absurd h (by omega))⟩
  case round =>
    obtain ⟨k, hk, rfl, hR, hb, hA⟩ := hrel
    clear MR
    obtain ⟨g, c, rfl, hg1, hg2, hgc⟩ := hR.out.at (by rw [pls_len]; omega)
    rw [pls_len] at hR ⊢
    by_cases hlt : k < l.length
    · rcases HX.out with h | ⟨b, off, rfl, hX⟩
      · rw [h] at hlt; simp at hlt
      obtain ⟨hbb, ho, c0, c1, c2, c3, c4, c5, c6, c7, c8⟩ := hX k hlt
      have d0 := (hb.cell (p := ⟨b, off + k * 9, none⟩) hbb).trans c0
      have d1 := (hb.cell (p := ⟨b, off + k * 9 + 1, none⟩) hbb).trans c1
      have d2 := (hb.cell (p := ⟨b, off + k * 9 + 2, none⟩) hbb).trans c2
      have d3 := (hb.cell (p := ⟨b, off + k * 9 + 3, none⟩) hbb).trans c3
      have d4 := (hb.cell (p := ⟨b, off + k * 9 + 4, none⟩) hbb).trans c4
      have d5 := (hb.cell (p := ⟨b, off + k * 9 + 5, none⟩) hbb).trans c5
      have d6 := (hb.cell (p := ⟨b, off + k * 9 + 6, none⟩) hbb).trans c6
      have d7 := (hb.cell (p := ⟨b, off + k * 9 + 7, none⟩) hbb).trans c7
      have d8 := (hb.cell (p := ⟨b, off + k * 9 + 8, none⟩) hbb).trans c8
      clear c0 c1 c2 c3 c4 c5 c6 c7 c8
      have hpk := hgc k (by rw [pls_len]; omega)
      rw [pls_get] at hpk
      have SZ := hide (fun U => size_f l[k].x.op l[k].x.wide l[k].x.r l[k].x.b l[k].x.i l[k].x.c l[k].x.n l[k].lb l[k].tg U ho.1.2.2.2.1 ho.1.2.2.2.2.2 rfl rfl)
      have PS := hide (pt_succ hlt)
      have hp1 := pt_le l k
      have hs1 := sN_le l[k]
      have hp : (0 : Int) ≤ (pt l k : Int) ∧ (pt l k : Int) ≤ 13000 := by omega
      have hs : (0 : Int) ≤ (sN l[k] : Int) ∧ (sN l[k] : Int) ≤ 13 := by omega
      obtain ⟨hp2, hp3⟩ := hp
      obtain ⟨hs2, hs3⟩ := hs
      have PSI : Hid ((pt l k : Int) + (sN l[k] : Int) = (pt l (k + 1) : Int)) := by show _ = _; rw [PS.out]; simp
      have PLS := hide (pls_snoc l k)
      clear hp1 hs1 ho hgc
      cases hq : sOk l[k]
      · have HN := hide (pOk_no hlt hq)
        have SZ' : Hid (∀ U, Calls Try.prog 18 #[.agg #[.int .i64 l[k].x.op, .bool l[k].x.wide, .int .i64 l[k].x.r, .int .i64 l[k].x.b, .int .i64 l[k].x.i, .int .i64 l[k].x.c, .int .i64 l[k].x.n, .int .i64 l[k].lb, .int .i64 l[k].tg]] U fun e w' => e = .returned (.tuple #[.int .i64 (sN l[k] : Int), .bool false]) ∧ Below U.heap.size U w') := by rw [← hq]; exact SZ.out
        clear SZ hq
        go_wp2_with fail
        refine (SZ'.out _).mono ?_
        rintro e w1 ⟨rfl, b1⟩
        go_wp2_with fail
        go_ret2
        exact Or.inr ⟨HN.out, rfl, bel_tr (bel_al hb _) b1⟩
      · have SZ' : Hid (∀ U, Calls Try.prog 18 #[.agg #[.int .i64 l[k].x.op, .bool l[k].x.wide, .int .i64 l[k].x.r, .int .i64 l[k].x.b, .int .i64 l[k].x.i, .int .i64 l[k].x.c, .int .i64 l[k].x.n, .int .i64 l[k].lb, .int .i64 l[k].tg]] U fun e w' => e = .returned (.tuple #[.int .i64 (sN l[k] : Int), .bool true]) ∧ Below U.heap.size U w') := by rw [← hq]; exact SZ.out
        have hA2 : Hid (∀ j (hj : j < l.length), j < k + 1 → sOk l[j] = true) := fun j hj h => by
          rcases Nat.lt_or_ge j k with h' | h'
          · exact hA.out j hj h'
          · have : j = k := by omega
            subst this; exact hq
        clear SZ hq hA
        generalize (sN l[k] : Int) = m at *
        generalize hP : (pt l k : Int) = p at *
        have W1 : Hid (∀ V w1, V = wr.alloc (.cells #[.int .i64 l[k].x.op, .bool l[k].x.wide, .int .i64 l[k].x.r, .int .i64 l[k].x.b, .int .i64 l[k].x.i, .int .i64 l[k].x.c, .int .i64 l[k].x.n, .int .i64 l[k].lb, .int .i64 l[k].tg] 42) → Below V.heap.size V w1 → Hid (NR w.heap.size (.slice (some ⟨g, 0, none⟩) (k + 1) c) (pls l k) w1) ∧ Below w.heap.size w w1 ∧ w1.cell? ⟨g, k, none⟩ = some (.int .i64 p)) := fun V w1 hV b1 => by
          subst hV
          have bb := bel_tr (bel_one wr _) b1
          exact ⟨hR.out.kept bb, bel_tr hb bb, (bb.cell (p := ⟨g, k, none⟩) hg2).trans hpk⟩
        go_wp2_with fail
        refine (SZ'.out _).mono ?_
        rintro e w1 ⟨rfl, b1⟩
        obtain ⟨hR1, hb1, hc1⟩ := W1.out _ w1 rfl b1
        have HBS : Hid (w.heap.size ≤ (w1.alloc (.cells #[.int .i64 (p + m)] 3)).heap.size) := by have := hb1.size; show _ ≤ _; simp; omega
        have OWN : Hid ((w1.alloc (.cells #[.int .i64 (p + m)] 3)).ownsRow w.heap.size 3 1 (.slice (some ⟨g, 0, none⟩) (k + 1) c) (k + 1) ((pls l k).map (Value.int .i64))) := by
          have := World.ownsRow.alloc hR1.out (.cells #[.int .i64 (p + m)] 3)
          rw [pls_len] at this; exact this
        clear b1 W1 hR hpk d0 d1 d2 d3 d4 d5 d6 d7 d8
        go_wp2_with (at_builtin; (refine wpList_append_own _ rfl (.tmp 27) (.tmp 34) 24 rfl w.heap.size 3 i0 _ 1 8 Try.underlying24 hi hz0 hz1 hz2 rfl (by decide) _ (k + 1) _ rfl OWN.out ⟨w1.heap.size, 0, none⟩ 1 1 [.int .i64 (p + m)] rfl rfl (one_at3 w1 (p + m)) (one_cell3 (p + m)) (by unfold maxLen; omega) (by omega) HBS.out ?_))
        intro v' w3 hown hgrow _
        have R3 : Hid (NR w.heap.size v' (pls l (k + 1)) w3) := by
          show w3.ownsRow _ _ _ _ _ _
          rw [PLS.out, ← PSI.out, List.map_append, List.length_append, pls_len]
          exact hown
        have B3 : Below w.heap.size w w3 := (bel_al hb1 _).trans (own_bel OWN.out HBS.out hgrow)
        clear hown hgrow OWN HBS hc1 hR1 hb1
        go_wp2_with fail
        go_roundw
        case rel => exact ⟨k + 1, by omega, by go_num, R3, B3, hA2⟩
        case measure => simp [intOf]; omega
    · have hkm : k = l.length := by omega
      subst hkm
      have ha : pOk l = true := pOk_yes fun j hj => hA.out j hj hj
      go_wp2_with fail
      go_ret2
      exact Or.inl ⟨ha, _, rfl, hR.out, hb⟩
end Go.Proofs.Ytookbgnidinkoaa

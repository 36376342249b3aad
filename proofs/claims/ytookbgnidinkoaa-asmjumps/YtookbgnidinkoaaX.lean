/-
  Items in a row of one's own; the walk of the statement AsmNames.
-/
import Derived.Test.YtookbgnidinkoaaU
import Derived.Test.YtookbgnidinkoaaV
namespace Go.Proofs.Ytookbgnidinkoaa
open Go.RowKit
open Xc
set_option linter.unusedSimpArgs false
set_option linter.unusedVariables false
theorem IS.take {W : World} {a : Option Addr} {l : List It} (h : IS W a l) (k : Nat) : IS W a (l.take k) := by
  rcases h with rfl | ⟨b, off, e, hX⟩
  · exact Or.inl (by simp)
  · refine Or.inr ⟨b, off, e, fun j hj => ?_⟩
    have hj' : j < l.length := by simp at hj; omega
    have := hX j hj'
    rw [List.getElem_take]
    exact this
def ivl (t : It) : List Value := [.int .i64 t.x.op, .bool t.x.wide, .int .i64 t.x.r, .int .i64 t.x.b, .int .i64 t.x.i, .int .i64 t.x.c, .int .i64 t.x.n, .int .i64 t.lb, .int .i64 t.tg]
def isl (L : List It) : List Value := L.flatMap ivl
theorem isl_snoc (L : List It) (x : It) : isl (L ++ [x]) = isl L ++ ivl x := by simp [isl]
theorem isl_get : ∀ (L : List It) (j : Nat) (h : j < L.length) (i : Nat), i < 9 → (isl L)[j * 9 + i]? = (ivl L[j])[i]?
  | x :: L, 0, _, i, hi => by
    simp only [isl, List.flatMap_cons]
    rw [List.getElem?_append_left (by simp [ivl]; omega)]
    simp
  | x :: L, j + 1, h, i, hi => by
    have ih := isl_get L j (by simpa using h) i hi
    simp only [isl, List.flatMap_cons] at *
    rw [List.getElem?_append_right (by simp [ivl]; omega)]
    have : (j + 1) * 9 + i - (ivl x).length = j * 9 + i := by simp [ivl]; omega
    rw [this, ih]
    simp
/-- Items in a row of one's own. -/
def IV (B : Nat) (v : Value) (L : List It) (w : World) : Prop := w.ownsRow B 42 9 v L.length (isl L)
theorem IV.nil (B : Nat) (w : World) : IV B (.slice none 0 0) [] w := World.ownsRow_nil _ _ _ _
theorem IV.kept {B : Nat} {v : Value} {L : List It} {w w' : World} (h : IV B v L w) (k : Below w.heap.size w w') : IV B v L w' := own_kept h k
theorem IV.is {B : Nat} {v : Value} {L : List It} {w : World} (h : IV B v L w) (hok : ∀ j (hj : j < L.length), L[j].ok) : ∃ a c, v = .slice a L.length c ∧ IS w a L := by
  rcases h.2 with ⟨rfl, e⟩ | ⟨g, cap, cur, rfl, hb, hrest⟩
  · have : L = [] := List.length_eq_zero_iff.1 e
    subst this
    exact ⟨_, _, rfl, Or.inl rfl⟩
  · refine ⟨_, _, rfl, Or.inr ⟨g, 0, rfl, fun j hj => ?_⟩⟩
    have hlt := (h.lt g rfl).2
    have cc : ∀ i, i < 9 → ∀ v, (ivl L[j])[i]? = some v → w.cell? ⟨g, 0 + j * 9 + i, none⟩ = some v := fun i hi v hv => by
      rw [Nat.zero_add, World.ownsRow.cellAt h (j * 9 + i) (by omega), isl_get L j hj i hi, hv]
    exact ⟨hlt, hok j hj, cc 0 (by omega) _ rfl, cc 1 (by omega) _ rfl, cc 2 (by omega) _ rfl, cc 3 (by omega) _ rfl, cc 4 (by omega) _ rfl, cc 5 (by omega) _ rfl, cc 6 (by omega) _ rfl, cc 7 (by omega) _ rfl, cc 8 (by omega) _ rfl⟩
theorem info42 : (Try.prog.info? 42).map (fun i => (i.zero, i.size, i.bytes)) = some (some (.agg #[.int .i64 0, .bool false, .int .i64 0, .int .i64 0, .int .i64 0, .int .i64 0, .int .i64 0, .int .i64 0, .int .i64 0]), 9, 72) := by kernel_rfl
theorem new_i (w : World) (op : Int) (wd : Bool) (r b i c n lb tg : Int) : ∀ j u, [Value.int .i64 op, .bool wd, .int .i64 r, .int .i64 b, .int .i64 i, .int .i64 c, .int .i64 n, .int .i64 lb, .int .i64 tg][j]? = some u → (w.alloc (.cells #[.int .i64 op, .bool wd, .int .i64 r, .int .i64 b, .int .i64 i, .int .i64 c, .int .i64 n, .int .i64 lb, .int .i64 tg] 42)).cell? ((⟨w.heap.size, 0, none⟩ : Addr).add j) = some u := by
  intro j u h
  have e := heap_alloc_new w (.cells #[.int .i64 op, .bool wd, .int .i64 r, .int .i64 b, .int .i64 i, .int .i64 c, .int .i64 n, .int .i64 lb, .int .i64 tg] 42)
  rw [add_lit7, Nat.zero_add]
  simp only [World.cell?, e]
  simpa using h
theorem i_cell (op : Int) (wd : Bool) (r b i c n lb tg : Int) : ∀ u, u ∈ [Value.int .i64 op, .bool wd, .int .i64 r, .int .i64 b, .int .i64 i, .int .i64 c, .int .i64 n, .int .i64 lb, .int .i64 tg] → u.oneCell' = true := by
  intro u h; simp at h
  rcases h with h | h | h | h | h | h | h | h | h <;> subst h <;> rfl
theorem map_snoc {l : List It} {k : Nat} (f : It → It) (h : k < l.length) : (l.take (k + 1)).map f = (l.take k).map f ++ [f l[k]] := by
  rw [List.take_succ_eq_append_getElem h, List.map_append, List.map_cons, List.map_nil]
/-- What lies there ahead of an append. -/
def Ai (B g : Nat) (v : Value) (L : List It) (op : Int) (wd : Bool) (r b i c n lb tg : Int) (w1 V : World) : Prop := IV B v L V ∧ Below B w1 V ∧ Row9 g op wd r b i c n lb tg V
def Lim (l : List It) (k : Nat) : Prop := ∀ j (h : j < l.length), j < k → l[j].lb ≤ 1000000 ∧ l[j].tg ≤ 1000000
theorem rn_ok {l : List It} {z : Int} (hl : Lim l l.length) (ho : ∀ j (hj : j < l.length), l[j].ok) (z0 : 0 ≤ z) (z1 : z ≤ 999999) : ∀ j (hj : j < (l.map (rn1 z)).length), (l.map (rn1 z))[j].ok := by
  intro j hj
  rw [List.getElem_map]
  have hj' : j < l.length := by simpa using hj
  obtain ⟨h1, h2⟩ := hl j hj' hj'
  obtain ⟨o1, o2, o3⟩ := ho j hj'
  refine ⟨o1, ?_, ?_⟩
  · unfold rn1 I64 at *; simp only; split <;> omega
  · unfold rn1 I64 at *; simp only; split <;> omega
theorem by_neg {y : Int} (h : I64 y) (h0 : y < 0) : 0 ≤ -(y + 1) ∧ -(y + 1) ≤ 9223372036854775807 := by unfold I64 at h; omega
set_option maxHeartbeats 8000000 in
set_option maxRecDepth 100000 in
theorem names_1 (a : Option Addr) (l : List It) (cap : Nat) (y : Int) (w : World) (hX : IS w a l) (hc : l.length ≤ cap) (hy : I64 y) : Calls Try.prog 6 #[.slice a l.length cap, .int .i64 y] w fun e w' => e = .returned (.bool true) ∧ Below w.heap.size w w' := by
  have EX := hide examples_any
  have HX := hide (hX.take 100)
  have hlen : (min (l.length : Int) 100).toNat = (l.take 100).length := by simp; omega
  have HLEN := hide hlen
  clear hlen
  have hl1 : (l.take 100).length ≤ 100 := by simp; omega
  obtain ⟨i0, hi, hz0, hz1, hz2⟩ := info_parts info42
  clear hX
  go_enter Try.func6, Try.ntmps6
  go_wp2_with fail
  refine (EX.out _).mono ?_
  rintro e w1 ⟨rfl, b1⟩
  clear EX
  have HX1 := hide (HX.out.below b1)
  clear HX
  have YB : ∃ z : Int, 0 ≤ z ∧ z ≤ 999999 ∧ (if y < 0 then (-(y + 1)).tmod 1000000 else y.tmod 1000000) = z := by
    refine ⟨_, ?_, ?_, rfl⟩
    · split
      · exact Int.tmod_nonneg _ (by_neg hy (by assumption)).1
      · exact Int.tmod_nonneg _ (by omega)
    · split
      · have := Int.tmod_lt_of_pos (-(y + 1)) (b := 1000000) (by decide); omega
      · have := Int.tmod_lt_of_pos y (b := 1000000) (by decide); omega
  obtain ⟨z, z0, z1, hz⟩ := YB
  have HZ := hide hz
  clear hz
  go_upto_region 3 with fail
  rw [HLEN.out]
  clear HLEN
  generalize l.take 100 = l at *
  generalize (min _ (100 : Int)) = mm
  unfold I64 at hy
  by_cases hn : y < 0
  · go_upto_region 6 with fail
    rw [if_pos hn, Int.neg_tmod] at HZ
    rw [HZ.out]
    clear HZ
    go_wp2_with fail
    go_loopw [6, 7] (fun sv iv wr => ∃ k : Nat, k ≤ l.length ∧ iv = .int .i64 (k : Int) ∧ Hid (IV w1.heap.size sv ((l.take k).map (rn1 z)) wr) ∧ Below w1.heap.size w1 wr ∧ Hid (Lim l k)) (fun _ iv _ => l.length - (intOf iv).toNat)
    case atStart => exact ⟨0, by omega, rfl, hide (IV.nil _ _), Below.refl _ _, hide (fun j hj h => absurd h (by omega))⟩
    case round =>
      obtain ⟨k, hk, rfl, hR, hb, hA⟩ := hrel
      by_cases hlt : k < l.length
      · rcases HX1.out with h | ⟨b, off, rfl, hX⟩
        · rw [h] at hlt; simp at hlt
        obtain ⟨hbb, ho, c0, c1, c2, c3, c4, c5, c6, c7, c8⟩ := hX k hlt
        have d0 := (hb.cell (p := ⟨b, off + k * 9, none⟩) hbb).trans c0
        have d1 := (hb.cell (p := ⟨b, off + k * 9 + 1, none⟩) hbb).trans c1
        have d2 := (hb.cell (p := ⟨b, off + k * 9 + 2, none⟩) hbb).trans c2
        have d3 := (hb.cell (p := ⟨b, off + k * 9 + 3, none⟩) hbb).trans c3
        have d4 := (hb.cell (p := ⟨b, off + k * 9 + 4, none⟩) hbb).trans c4
        have d5 := (hb.cell (p := ⟨b, off + k * 9 + 5, none⟩) hbb).trans c5
        have d6 := (hb.cell (p := ⟨b, off + k * 9 + 6, none⟩) hbb).trans c6
        have d7 := (hb.cell (p := ⟨b, off + k * 9 + 7, none⟩) hbb).trans c7
        have d8 := (hb.cell (p := ⟨b, off + k * 9 + 8, none⟩) hbb).trans c8
        clear c0 c1 c2 c3 c4 c5 c6 c7 c8 ho
        have MS := hide (map_snoc (rn1 z) hlt)
        have LN : Hid (((l.take k).map (rn1 z)).length = k) := by show _ = _; simp; omega
        rcases hit : l[k] with ⟨⟨x1, x2, x3, x4, x5, x6, x7⟩, x8, x9⟩
        rw [hit] at MS d0 d1 d2 d3 d4 d5 d6 d7 d8
        simp only at d0 d1 d2 d3 d4 d5 d6 d7 d8
        by_cases g1 : 1000000 < x8
        · clear MS LN hit hA
          go_wp2_with fail
          go_ret
          exact ⟨rfl, bel_tr b1 (bel_al hb _)⟩
        by_cases g2 : 1000000 < x9
        · clear MS LN hit hA
          go_wp2_with fail
          go_ret
          exact ⟨rfl, bel_tr b1 (bel_al hb _)⟩
        have hA2 : Hid (Lim l (k + 1)) := fun j hj h => by
          rcases Nat.lt_or_ge j k with h' | h'
          · exact hA.out j hj h'
          · have : j = k := by omega
            subst this; rw [hit]; exact ⟨by show x8 ≤ _; omega, by show x9 ≤ _; omega⟩
        clear hA
        by_cases h8 : 0 < x8
        · by_cases h9 : 0 < x9
          · have HO : Hid ((l.take (k + 1)).map (rn1 z) = (l.take k).map (rn1 z) ++ [⟨⟨x1, x2, x3, x4, x5, x6, x7⟩, x8 + z, x9 + z⟩]) := MS.out.trans (by simp [rn1, h8, h9])
            clear MS hit
            go_upto_region 17 with fail
            refine gen_world (motive := fun x => Code.wp _ _ _ _ x) (fun V => Ai w1.heap.size wr.heap.size u6 ((l.take k).map (rn1 z)) x1 x2 x3 x4 x5 x6 x7 (x8 + z) (x9 + z) w1 V) ⟨hR.out.kept (bel_one _ _), bel_al hb _, Row9.made wr x1 x2 x3 x4 x5 x6 x7 (x8 + z) (x9 + z)⟩ ?_
            clear d0 d1 d2 d3 d4 d5 d6 d7 d8 hR hb
            rintro V ⟨hR1, hB1, hW⟩
            obtain ⟨e0, e1, e2, e3, e4, e5, e6, e7, e8⟩ := hW.cells
            clear hW
            have HBS : Hid (w1.heap.size ≤ (V.alloc (.cells #[.int .i64 x1, .bool x2, .int .i64 x3, .int .i64 x4, .int .i64 x5, .int .i64 x6, .int .i64 x7, .int .i64 (x8 + z), .int .i64 (x9 + z)] 42)).heap.size) := by have := hB1.size; show _ ≤ _; simp; omega
            have OWN : Hid ((V.alloc (.cells #[.int .i64 x1, .bool x2, .int .i64 x3, .int .i64 x4, .int .i64 x5, .int .i64 x6, .int .i64 x7, .int .i64 (x8 + z), .int .i64 (x9 + z)] 42)).ownsRow w1.heap.size 42 9 u6 k (isl ((l.take k).map (rn1 z)))) := by
              have := World.ownsRow.alloc hR1 (.cells #[.int .i64 x1, .bool x2, .int .i64 x3, .int .i64 x4, .int .i64 x5, .int .i64 x6, .int .i64 x7, .int .i64 (x8 + z), .int .i64 (x9 + z)] 42)
              rw [LN.out] at this; exact this
            have NX := hide (new_i V x1 x2 x3 x4 x5 x6 x7 (x8 + z) (x9 + z))
            have XC := hide (i_cell x1 x2 x3 x4 x5 x6 x7 (x8 + z) (x9 + z))
            go_wp2_with (at_builtin; (refine wpList_append_own _ rfl (.tmp 61) (.tmp 63) 22 rfl w1.heap.size 42 i0 _ 9 72 Try.underlying22 hi hz0 hz1 hz2 rfl (by decide) _ k _ rfl OWN.out ⟨V.heap.size, 0, none⟩ 1 1 [.int .i64 x1, .bool x2, .int .i64 x3, .int .i64 x4, .int .i64 x5, .int .i64 x6, .int .i64 x7, .int .i64 (x8 + z), .int .i64 (x9 + z)] rfl rfl NX.out XC.out (by unfold maxLen; omega) (by omega) HBS.out ?_))
            intro v' w3 hown hgrow _
            have R3 : Hid (IV w1.heap.size v' ((l.take (k + 1)).map (rn1 z)) w3) := by
              show w3.ownsRow _ _ _ _ _ _
              rw [HO.out, isl_snoc, List.length_append, LN.out, List.map_take]
              exact hown
            have B3 : Below w1.heap.size w1 w3 := (bel_al hB1 _).trans (own_bel OWN.out HBS.out hgrow)
            clear hown hgrow OWN HBS hR1 hB1 NX XC e0 e1 e2 e3 e4 e5 e6 e7 e8
            go_wp2_with fail
            go_roundw
            case rel => exact ⟨k + 1, by omega, by go_num, R3, B3, hA2⟩
            case measure => simp [intOf]; omega
          · have HO : Hid ((l.take (k + 1)).map (rn1 z) = (l.take k).map (rn1 z) ++ [⟨⟨x1, x2, x3, x4, x5, x6, x7⟩, x8 + z, x9⟩]) := MS.out.trans (by simp [rn1, h8, h9])
            clear MS hit
            go_upto_region 17 with fail
            refine gen_world (motive := fun x => Code.wp _ _ _ _ x) (fun V => Ai w1.heap.size wr.heap.size u6 ((l.take k).map (rn1 z)) x1 x2 x3 x4 x5 x6 x7 (x8 + z) x9 w1 V) ⟨hR.out.kept (bel_one _ _), bel_al hb _, Row9.made wr x1 x2 x3 x4 x5 x6 x7 (x8 + z) x9⟩ ?_
            clear d0 d1 d2 d3 d4 d5 d6 d7 d8 hR hb
            rintro V ⟨hR1, hB1, hW⟩
            obtain ⟨e0, e1, e2, e3, e4, e5, e6, e7, e8⟩ := hW.cells
            clear hW
            have HBS : Hid (w1.heap.size ≤ (V.alloc (.cells #[.int .i64 x1, .bool x2, .int .i64 x3, .int .i64 x4, .int .i64 x5, .int .i64 x6, .int .i64 x7, .int .i64 (x8 + z), .int .i64 x9] 42)).heap.size) := by have := hB1.size; show _ ≤ _; simp; omega
            have OWN : Hid ((V.alloc (.cells #[.int .i64 x1, .bool x2, .int .i64 x3, .int .i64 x4, .int .i64 x5, .int .i64 x6, .int .i64 x7, .int .i64 (x8 + z), .int .i64 x9] 42)).ownsRow w1.heap.size 42 9 u6 k (isl ((l.take k).map (rn1 z)))) := by
              have := World.ownsRow.alloc hR1 (.cells #[.int .i64 x1, .bool x2, .int .i64 x3, .int .i64 x4, .int .i64 x5, .int .i64 x6, .int .i64 x7, .int .i64 (x8 + z), .int .i64 x9] 42)
              rw [LN.out] at this; exact this
            have NX := hide (new_i V x1 x2 x3 x4 x5 x6 x7 (x8 + z) x9)
            have XC := hide (i_cell x1 x2 x3 x4 x5 x6 x7 (x8 + z) x9)
            go_wp2_with (at_builtin; (refine wpList_append_own _ rfl (.tmp 61) (.tmp 63) 22 rfl w1.heap.size 42 i0 _ 9 72 Try.underlying22 hi hz0 hz1 hz2 rfl (by decide) _ k _ rfl OWN.out ⟨V.heap.size, 0, none⟩ 1 1 [.int .i64 x1, .bool x2, .int .i64 x3, .int .i64 x4, .int .i64 x5, .int .i64 x6, .int .i64 x7, .int .i64 (x8 + z), .int .i64 x9] rfl rfl NX.out XC.out (by unfold maxLen; omega) (by omega) HBS.out ?_))
            intro v' w3 hown hgrow _
            have R3 : Hid (IV w1.heap.size v' ((l.take (k + 1)).map (rn1 z)) w3) := by
              show w3.ownsRow _ _ _ _ _ _
              rw [HO.out, isl_snoc, List.length_append, LN.out, List.map_take]
              exact hown
            have B3 : Below w1.heap.size w1 w3 := (bel_al hB1 _).trans (own_bel OWN.out HBS.out hgrow)
            clear hown hgrow OWN HBS hR1 hB1 NX XC e0 e1 e2 e3 e4 e5 e6 e7 e8
            go_wp2_with fail
            go_roundw
            case rel => exact ⟨k + 1, by omega, by go_num, R3, B3, hA2⟩
            case measure => simp [intOf]; omega
        · by_cases h9 : 0 < x9
          · have HO : Hid ((l.take (k + 1)).map (rn1 z) = (l.take k).map (rn1 z) ++ [⟨⟨x1, x2, x3, x4, x5, x6, x7⟩, x8, x9 + z⟩]) := MS.out.trans (by simp [rn1, h8, h9])
            clear MS hit
            go_upto_region 17 with fail
            refine gen_world (motive := fun x => Code.wp _ _ _ _ x) (fun V => Ai w1.heap.size wr.heap.size u6 ((l.take k).map (rn1 z)) x1 x2 x3 x4 x5 x6 x7 x8 (x9 + z) w1 V) ⟨hR.out.kept (bel_one _ _), bel_al hb _, Row9.made wr x1 x2 x3 x4 x5 x6 x7 x8 (x9 + z)⟩ ?_
            clear d0 d1 d2 d3 d4 d5 d6 d7 d8 hR hb
            rintro V ⟨hR1, hB1, hW⟩
            obtain ⟨e0, e1, e2, e3, e4, e5, e6, e7, e8⟩ := hW.cells
            clear hW
            have HBS : Hid (w1.heap.size ≤ (V.alloc (.cells #[.int .i64 x1, .bool x2, .int .i64 x3, .int .i64 x4, .int .i64 x5, .int .i64 x6, .int .i64 x7, .int .i64 x8, .int .i64 (x9 + z)] 42)).heap.size) := by have := hB1.size; show _ ≤ _; simp; omega
            have OWN : Hid ((V.alloc (.cells #[.int .i64 x1, .bool x2, .int .i64 x3, .int .i64 x4, .int .i64 x5, .int .i64 x6, .int .i64 x7, .int .i64 x8, .int .i64 (x9 + z)] 42)).ownsRow w1.heap.size 42 9 u6 k (isl ((l.take k).map (rn1 z)))) := by
              have := World.ownsRow.alloc hR1 (.cells #[.int .i64 x1, .bool x2, .int .i64 x3, .int .i64 x4, .int .i64 x5, .int .i64 x6, .int .i64 x7, .int .i64 x8, .int .i64 (x9 + z)] 42)
              rw [LN.out] at this; exact this
            have NX := hide (new_i V x1 x2 x3 x4 x5 x6 x7 x8 (x9 + z))
            have XC := hide (i_cell x1 x2 x3 x4 x5 x6 x7 x8 (x9 + z))
            go_wp2_with (at_builtin; (refine wpList_append_own _ rfl (.tmp 61) (.tmp 63) 22 rfl w1.heap.size 42 i0 _ 9 72 Try.underlying22 hi hz0 hz1 hz2 rfl (by decide) _ k _ rfl OWN.out ⟨V.heap.size, 0, none⟩ 1 1 [.int .i64 x1, .bool x2, .int .i64 x3, .int .i64 x4, .int .i64 x5, .int .i64 x6, .int .i64 x7, .int .i64 x8, .int .i64 (x9 + z)] rfl rfl NX.out XC.out (by unfold maxLen; omega) (by omega) HBS.out ?_))
            intro v' w3 hown hgrow _
            have R3 : Hid (IV w1.heap.size v' ((l.take (k + 1)).map (rn1 z)) w3) := by
              show w3.ownsRow _ _ _ _ _ _
              rw [HO.out, isl_snoc, List.length_append, LN.out, List.map_take]
              exact hown
            have B3 : Below w1.heap.size w1 w3 := (bel_al hB1 _).trans (own_bel OWN.out HBS.out hgrow)
            clear hown hgrow OWN HBS hR1 hB1 NX XC e0 e1 e2 e3 e4 e5 e6 e7 e8
            go_wp2_with fail
            go_roundw
            case rel => exact ⟨k + 1, by omega, by go_num, R3, B3, hA2⟩
            case measure => simp [intOf]; omega
          · have HO : Hid ((l.take (k + 1)).map (rn1 z) = (l.take k).map (rn1 z) ++ [⟨⟨x1, x2, x3, x4, x5, x6, x7⟩, x8, x9⟩]) := MS.out.trans (by simp [rn1, h8, h9])
            clear MS hit
            go_upto_region 17 with fail
            refine gen_world (motive := fun x => Code.wp _ _ _ _ x) (fun V => Ai w1.heap.size wr.heap.size u6 ((l.take k).map (rn1 z)) x1 x2 x3 x4 x5 x6 x7 x8 x9 w1 V) ⟨hR.out.kept (bel_one _ _), bel_al hb _, Row9.made wr x1 x2 x3 x4 x5 x6 x7 x8 x9⟩ ?_
            clear d0 d1 d2 d3 d4 d5 d6 d7 d8 hR hb
            rintro V ⟨hR1, hB1, hW⟩
            obtain ⟨e0, e1, e2, e3, e4, e5, e6, e7, e8⟩ := hW.cells
            clear hW
            have HBS : Hid (w1.heap.size ≤ (V.alloc (.cells #[.int .i64 x1, .bool x2, .int .i64 x3, .int .i64 x4, .int .i64 x5, .int .i64 x6, .int .i64 x7, .int .i64 x8, .int .i64 x9] 42)).heap.size) := by have := hB1.size; show _ ≤ _; simp; omega
            have OWN : Hid ((V.alloc (.cells #[.int .i64 x1, .bool x2, .int .i64 x3, .int .i64 x4, .int .i64 x5, .int .i64 x6, .int .i64 x7, .int .i64 x8, .int .i64 x9] 42)).ownsRow w1.heap.size 42 9 u6 k (isl ((l.take k).map (rn1 z)))) := by
              have := World.ownsRow.alloc hR1 (.cells #[.int .i64 x1, .bool x2, .int .i64 x3, .int .i64 x4, .int .i64 x5, .int .i64 x6, .int .i64 x7, .int .i64 x8, .int .i64 x9] 42)
              rw [LN.out] at this; exact this
            have NX := hide (new_i V x1 x2 x3 x4 x5 x6 x7 x8 x9)
            have XC := hide (i_cell x1 x2 x3 x4 x5 x6 x7 x8 x9)
            go_wp2_with (at_builtin; (refine wpList_append_own _ rfl (.tmp 61) (.tmp 63) 22 rfl w1.heap.size 42 i0 _ 9 72 Try.underlying22 hi hz0 hz1 hz2 rfl (by decide) _ k _ rfl OWN.out ⟨V.heap.size, 0, none⟩ 1 1 [.int .i64 x1, .bool x2, .int .i64 x3, .int .i64 x4, .int .i64 x5, .int .i64 x6, .int .i64 x7, .int .i64 x8, .int .i64 x9] rfl rfl NX.out XC.out (by unfold maxLen; omega) (by omega) HBS.out ?_))
            intro v' w3 hown hgrow _
            have R3 : Hid (IV w1.heap.size v' ((l.take (k + 1)).map (rn1 z)) w3) := by
              show w3.ownsRow _ _ _ _ _ _
              rw [HO.out, isl_snoc, List.length_append, LN.out, List.map_take]
              exact hown
            have B3 : Below w1.heap.size w1 w3 := (bel_al hB1 _).trans (own_bel OWN.out HBS.out hgrow)
            clear hown hgrow OWN HBS hR1 hB1 NX XC e0 e1 e2 e3 e4 e5 e6 e7 e8
            go_wp2_with fail
            go_roundw
            case rel => exact ⟨k + 1, by omega, by go_num, R3, B3, hA2⟩
            case measure => simp [intOf]; omega
      · have hkm : k = l.length := by omega
        subst hkm
        rw [List.take_length] at hR
        have LN : Hid ((l.map (rn1 z)).length = l.length) := by show _ = _; simp
        have OK1 : Hid (∀ j (hj : j < l.length), l[j].ok) := fun j hj => by
          rcases HX1.out with h | ⟨b, off, rfl, hX⟩
          · rw [h] at hj; simp at hj
          · exact hX.ok hj
        obtain ⟨a9, c9, hv9, hI⟩ := hR.out.is (rn_ok hA.out OK1.out z0 z1)
        rw [LN.out] at hv9
        subst hv9
        have A1 := hide (assemble_any a cap l wr (by omega) (HX1.out.below hb))
        have A2 := hide (fun U b => assemble_any a9 c9 (l.map (rn1 z)) U (by rw [LN.out]; omega) (hI.below b))
        have HRN := hide (rn_as z0 l)
        rw [HRN.out.1, HRN.out.2, LN.out] at A2
        clear hR hI LN OK1 hA HRN HX1
        generalize asS l = ss at *
        generalize asE l = ee at *
        go_wp2_with fail
        refine A1.out.mono ?_
        rintro e w2 ⟨rfl, b2⟩
        go_wp2_with fail
        refine (A2.out _ b2).mono ?_
        rintro e w3 ⟨rfl, b3⟩
        go_wp2_with fail
        go_ret
        exact ⟨rfl, bel_tr b1 (bel_tr (bel_tr hb b2) b3)⟩
  · go_upto_region 6 with fail
    rw [if_neg hn, Int.tmod_eq_emod_of_nonneg (by omega)] at HZ
    rw [HZ.out]
    clear HZ
    go_wp2_with fail
    go_loopw [6, 7] (fun sv iv wr => ∃ k : Nat, k ≤ l.length ∧ iv = .int .i64 (k : Int) ∧ Hid (IV w1.heap.size sv ((l.take k).map (rn1 z)) wr) ∧ Below w1.heap.size w1 wr ∧ Hid (Lim l k)) (fun _ iv _ => l.length - (intOf iv).toNat)
    case atStart => exact ⟨0, by omega, rfl, hide (IV.nil _ _), Below.refl _ _, hide (fun j hj h => absurd h (by omega))⟩
    case round =>
      obtain ⟨k, hk, rfl, hR, hb, hA⟩ := hrel
      by_cases hlt : k < l.length
      · rcases HX1.out with h | ⟨b, off, rfl, hX⟩
        · rw [h] at hlt; simp at hlt
        obtain ⟨hbb, ho, c0, c1, c2, c3, c4, c5, c6, c7, c8⟩ := hX k hlt
        have d0 := (hb.cell (p := ⟨b, off + k * 9, none⟩) hbb).trans c0
        have d1 := (hb.cell (p := ⟨b, off + k * 9 + 1, none⟩) hbb).trans c1
        have d2 := (hb.cell (p := ⟨b, off + k * 9 + 2, none⟩) hbb).trans c2
        have d3 := (hb.cell (p := ⟨b, off + k * 9 + 3, none⟩) hbb).trans c3
        have d4 := (hb.cell (p := ⟨b, off + k * 9 + 4, none⟩) hbb).trans c4
        have d5 := (hb.cell (p := ⟨b, off + k * 9 + 5, none⟩) hbb).trans c5
        have d6 := (hb.cell (p := ⟨b, off + k * 9 + 6, none⟩) hbb).trans c6
        have d7 := (hb.cell (p := ⟨b, off + k * 9 + 7, none⟩) hbb).trans c7
        have d8 := (hb.cell (p := ⟨b, off + k * 9 + 8, none⟩) hbb).trans c8
        clear c0 c1 c2 c3 c4 c5 c6 c7 c8 ho
        have MS := hide (map_snoc (rn1 z) hlt)
        have LN : Hid (((l.take k).map (rn1 z)).length = k) := by show _ = _; simp; omega
        rcases hit : l[k] with ⟨⟨x1, x2, x3, x4, x5, x6, x7⟩, x8, x9⟩
        rw [hit] at MS d0 d1 d2 d3 d4 d5 d6 d7 d8
        simp only at d0 d1 d2 d3 d4 d5 d6 d7 d8
        by_cases g1 : 1000000 < x8
        · clear MS LN hit hA
          go_wp2_with fail
          go_ret
          exact ⟨rfl, bel_tr b1 (bel_al hb _)⟩
        by_cases g2 : 1000000 < x9
        · clear MS LN hit hA
          go_wp2_with fail
          go_ret
          exact ⟨rfl, bel_tr b1 (bel_al hb _)⟩
        have hA2 : Hid (Lim l (k + 1)) := fun j hj h => by
          rcases Nat.lt_or_ge j k with h' | h'
          · exact hA.out j hj h'
          · have : j = k := by omega
            subst this; rw [hit]; exact ⟨by show x8 ≤ _; omega, by show x9 ≤ _; omega⟩
        clear hA
        by_cases h8 : 0 < x8
        · by_cases h9 : 0 < x9
          · have HO : Hid ((l.take (k + 1)).map (rn1 z) = (l.take k).map (rn1 z) ++ [⟨⟨x1, x2, x3, x4, x5, x6, x7⟩, x8 + z, x9 + z⟩]) := MS.out.trans (by simp [rn1, h8, h9])
            clear MS hit
            go_upto_region 17 with fail
            refine gen_world (motive := fun x => Code.wp _ _ _ _ x) (fun V => Ai w1.heap.size wr.heap.size u6 ((l.take k).map (rn1 z)) x1 x2 x3 x4 x5 x6 x7 (x8 + z) (x9 + z) w1 V) ⟨hR.out.kept (bel_one _ _), bel_al hb _, Row9.made wr x1 x2 x3 x4 x5 x6 x7 (x8 + z) (x9 + z)⟩ ?_
            clear d0 d1 d2 d3 d4 d5 d6 d7 d8 hR hb
            rintro V ⟨hR1, hB1, hW⟩
            obtain ⟨e0, e1, e2, e3, e4, e5, e6, e7, e8⟩ := hW.cells
            clear hW
            have HBS : Hid (w1.heap.size ≤ (V.alloc (.cells #[.int .i64 x1, .bool x2, .int .i64 x3, .int .i64 x4, .int .i64 x5, .int .i64 x6, .int .i64 x7, .int .i64 (x8 + z), .int .i64 (x9 + z)] 42)).heap.size) := by have := hB1.size; show _ ≤ _; simp; omega
            have OWN : Hid ((V.alloc (.cells #[.int .i64 x1, .bool x2, .int .i64 x3, .int .i64 x4, .int .i64 x5, .int .i64 x6, .int .i64 x7, .int .i64 (x8 + z), .int .i64 (x9 + z)] 42)).ownsRow w1.heap.size 42 9 u6 k (isl ((l.take k).map (rn1 z)))) := by
              have := World.ownsRow.alloc hR1 (.cells #[.int .i64 x1, .bool x2, .int .i64 x3, .int .i64 x4, .int .i64 x5, .int .i64 x6, .int .i64 x7, .int .i64 (x8 + z), .int .i64 (x9 + z)] 42)
              rw [LN.out] at this; exact this
            have NX := hide (new_i V x1 x2 x3 x4 x5 x6 x7 (x8 + z) (x9 + z))
            have XC := hide (i_cell x1 x2 x3 x4 x5 x6 x7 (x8 + z) (x9 + z))
            go_wp2_with (at_builtin; (refine wpList_append_own _ rfl (.tmp 61) (.tmp 63) 22 rfl w1.heap.size 42 i0 _ 9 72 Try.underlying22 hi hz0 hz1 hz2 rfl (by decide) _ k _ rfl OWN.out ⟨V.heap.size, 0, none⟩ 1 1 [.int .i64 x1, .bool x2, .int .i64 x3, .int .i64 x4, .int .i64 x5, .int .i64 x6, .int .i64 x7, .int .i64 (x8 + z), .int .i64 (x9 + z)] rfl rfl NX.out XC.out (by unfold maxLen; omega) (by omega) HBS.out ?_))
            intro v' w3 hown hgrow _
            have R3 : Hid (IV w1.heap.size v' ((l.take (k + 1)).map (rn1 z)) w3) := by
              show w3.ownsRow _ _ _ _ _ _
              rw [HO.out, isl_snoc, List.length_append, LN.out, List.map_take]
              exact hown
            have B3 : Below w1.heap.size w1 w3 := (bel_al hB1 _).trans (own_bel OWN.out HBS.out hgrow)
            clear hown hgrow OWN HBS hR1 hB1 NX XC e0 e1 e2 e3 e4 e5 e6 e7 e8
            go_wp2_with fail
            go_roundw
            case rel => exact ⟨k + 1, by omega, by go_num, R3, B3, hA2⟩
            case measure => simp [intOf]; omega
          · have HO : Hid ((l.take (k + 1)).map (rn1 z) = (l.take k).map (rn1 z) ++ [⟨⟨x1, x2, x3, x4, x5, x6, x7⟩, x8 + z, x9⟩]) := MS.out.trans (by simp [rn1, h8, h9])
            clear MS hit
            go_upto_region 17 with fail
            refine gen_world (motive := fun x => Code.wp _ _ _ _ x) (fun V => Ai w1.heap.size wr.heap.size u6 ((l.take k).map (rn1 z)) x1 x2 x3 x4 x5 x6 x7 (x8 + z) x9 w1 V) ⟨hR.out.kept (bel_one _ _), bel_al hb _, Row9.made wr x1 x2 x3 x4 x5 x6 x7 (x8 + z) x9⟩ ?_
            clear d0 d1 d2 d3 d4 d5 d6 d7 d8 hR hb
            rintro V ⟨hR1, hB1, hW⟩
            obtain ⟨e0, e1, e2, e3, e4, e5, e6, e7, e8⟩ := hW.cells
            clear hW
            have HBS : Hid (w1.heap.size ≤ (V.alloc (.cells #[.int .i64 x1, .bool x2, .int .i64 x3, .int .i64 x4, .int .i64 x5, .int .i64 x6, .int .i64 x7, .int .i64 (x8 + z), .int .i64 x9] 42)).heap.size) := by have := hB1.size; show _ ≤ _; simp; omega
            have OWN : Hid ((V.alloc (.cells #[.int .i64 x1, .bool x2, .int .i64 x3, .int .i64 x4, .int .i64 x5, .int .i64 x6, .int .i64 x7, .int .i64 (x8 + z), .int .i64 x9] 42)).ownsRow w1.heap.size 42 9 u6 k (isl ((l.take k).map (rn1 z)))) := by
              have := World.ownsRow.alloc hR1 (.cells #[.int .i64 x1, .bool x2, .int .i64 x3, .int .i64 x4, .int .i64 x5, .int .i64 x6, .int .i64 x7, .int .i64 (x8 + z), .int .i64 x9] 42)
              rw [LN.out] at this; exact this
            have NX := hide (new_i V x1 x2 x3 x4 x5 x6 x7 (x8 + z) x9)
            have XC := hide (i_cell x1 x2 x3 x4 x5 x6 x7 (x8 + z) x9)
            go_wp2_with (at_builtin; (refine wpList_append_own _ rfl (.tmp 61) (.tmp 63) 22 rfl w1.heap.size 42 i0 _ 9 72 Try.underlying22 hi hz0 hz1 hz2 rfl (by decide) _ k _ rfl OWN.out ⟨V.heap.size, 0, none⟩ 1 1 [.int .i64 x1, .bool x2, .int .i64 x3, .int .i64 x4, .int .i64 x5, .int .i64 x6, .int .i64 x7, .int .i64 (x8 + z), .int .i64 x9] rfl rfl NX.out XC.out (by unfold maxLen; omega) (by omega) HBS.out ?_))
            intro v' w3 hown hgrow _
            have R3 : Hid (IV w1.heap.size v' ((l.take (k + 1)).map (rn1 z)) w3) := by
              show w3.ownsRow _ _ _ _ _ _
              rw [HO.out, isl_snoc, List.length_append, LN.out, List.map_take]
              exact hown
            have B3 : Below w1.heap.size w1 w3 := (bel_al hB1 _).trans (own_bel OWN.out HBS.out hgrow)
            clear hown hgrow OWN HBS hR1 hB1 NX XC e0 e1 e2 e3 e4 e5 e6 e7 e8
            go_wp2_with fail
            go_roundw
            case rel => exact ⟨k + 1, by omega, by go_num, R3, B3, hA2⟩
            case measure => simp [intOf]; omega
        · by_cases h9 : 0 < x9
          · have HO : Hid ((l.take (k + 1)).map (rn1 z) = (l.take k).map (rn1 z) ++ [⟨⟨x1, x2, x3, x4, x5, x6, x7⟩, x8, x9 + z⟩]) := MS.out.trans (by simp [rn1, h8, h9])
            clear MS hit
            go_upto_region 17 with fail
            refine gen_world (motive := fun x => Code.wp _ _ _ _ x) (fun V => Ai w1.heap.size wr.heap.size u6 ((l.take k).map (rn1 z)) x1 x2 x3 x4 x5 x6 x7 x8 (x9 + z) w1 V) ⟨hR.out.kept (bel_one _ _), bel_al hb _, Row9.made wr x1 x2 x3 x4 x5 x6 x7 x8 (x9 + z)⟩ ?_
            clear d0 d1 d2 d3 d4 d5 d6 d7 d8 hR hb
            rintro V ⟨hR1, hB1, hW⟩
            obtain ⟨e0, e1, e2, e3, e4, e5, e6, e7, e8⟩ := hW.cells
            clear hW
            have HBS : Hid (w1.heap.size ≤ (V.alloc (.cells #[.int .i64 x1, .bool x2, .int .i64 x3, .int .i64 x4, .int .i64 x5, .int .i64 x6, .int .i64 x7, .int .i64 x8, .int .i64 (x9 + z)] 42)).heap.size) := by have := hB1.size; show _ ≤ _; simp; omega
            have OWN : Hid ((V.alloc (.cells #[.int .i64 x1, .bool x2, .int .i64 x3, .int .i64 x4, .int .i64 x5, .int .i64 x6, .int .i64 x7, .int .i64 x8, .int .i64 (x9 + z)] 42)).ownsRow w1.heap.size 42 9 u6 k (isl ((l.take k).map (rn1 z)))) := by
              have := World.ownsRow.alloc hR1 (.cells #[.int .i64 x1, .bool x2, .int .i64 x3, .int .i64 x4, .int .i64 x5, .int .i64 x6, .int .i64 x7, .int .i64 x8, .int .i64 (x9 + z)] 42)
              rw [LN.out] at this; exact this
            have NX := hide (new_i V x1 x2 x3 x4 x5 x6 x7 x8 (x9 + z))
            have XC := hide (i_cell x1 x2 x3 x4 x5 x6 x7 x8 (x9 + z))
            go_wp2_with (at_builtin; (refine wpList_append_own _ rfl (.tmp 61) (.tmp 63) 22 rfl w1.heap.size 42 i0 _ 9 72 Try.underlying22 hi hz0 hz1 hz2 rfl (by decide) _ k _ rfl OWN.out ⟨V.heap.size, 0, none⟩ 1 1 [.int .i64 x1, .bool x2, .int .i64 x3, .int .i64 x4, .int .i64 x5, .int .i64 x6, .int .i64 x7, .int .i64 x8, .int .i64 (x9 + z)] rfl rfl NX.out XC.out (by unfold maxLen; omega) (by omega) HBS.out ?_))
            intro v' w3 hown hgrow _
            have R3 : Hid (IV w1.heap.size v' ((l.take (k + 1)).map (rn1 z)) w3) := by
              show w3.ownsRow _ _ _ _ _ _
              rw [HO.out, isl_snoc, List.length_append, LN.out, List.map_take]
              exact hown
            have B3 : Below w1.heap.size w1 w3 := (bel_al hB1 _).trans (own_bel OWN.out HBS.out hgrow)
            clear hown hgrow OWN HBS hR1 hB1 NX XC e0 e1 e2 e3 e4 e5 e6 e7 e8
            go_wp2_with fail
            go_roundw
            case rel => exact ⟨k + 1, by omega, by go_num, R3, B3, hA2⟩
            case measure => simp [intOf]; omega
          · have HO : Hid ((l.take (k + 1)).map (rn1 z) = (l.take k).map (rn1 z) ++ [⟨⟨x1, x2, x3, x4, x5, x6, x7⟩, x8, x9⟩]) := MS.out.trans (by simp [rn1, h8, h9])
            clear MS hit
            go_upto_region 17 with fail
            refine gen_world (motive := fun x => Code.wp _ _ _ _ x) (fun V => Ai w1.heap.size wr.heap.size u6 ((l.take k).map (rn1 z)) x1 x2 x3 x4 x5 x6 x7 x8 x9 w1 V) ⟨hR.out.kept (bel_one _ _), bel_al hb _, Row9.made wr x1 x2 x3 x4 x5 x6 x7 x8 x9⟩ ?_
            clear d0 d1 d2 d3 d4 d5 d6 d7 d8 hR hb
            rintro V ⟨hR1, hB1, hW⟩
            obtain ⟨e0, e1, e2, e3, e4, e5, e6, e7, e8⟩ := hW.cells
            clear hW
            have HBS : Hid (w1.heap.size ≤ (V.alloc (.cells #[.int .i64 x1, .bool x2, .int .i64 x3, .int .i64 x4, .int .i64 x5, .int .i64 x6, .int .i64 x7, .int .i64 x8, .int .i64 x9] 42)).heap.size) := by have := hB1.size; show _ ≤ _; simp; omega
            have OWN : Hid ((V.alloc (.cells #[.int .i64 x1, .bool x2, .int .i64 x3, .int .i64 x4, .int .i64 x5, .int .i64 x6, .int .i64 x7, .int .i64 x8, .int .i64 x9] 42)).ownsRow w1.heap.size 42 9 u6 k (isl ((l.take k).map (rn1 z)))) := by
              have := World.ownsRow.alloc hR1 (.cells #[.int .i64 x1, .bool x2, .int .i64 x3, .int .i64 x4, .int .i64 x5, .int .i64 x6, .int .i64 x7, .int .i64 x8, .int .i64 x9] 42)
              rw [LN.out] at this; exact this
            have NX := hide (new_i V x1 x2 x3 x4 x5 x6 x7 x8 x9)
            have XC := hide (i_cell x1 x2 x3 x4 x5 x6 x7 x8 x9)
            go_wp2_with (at_builtin; (refine wpList_append_own _ rfl (.tmp 61) (.tmp 63) 22 rfl w1.heap.size 42 i0 _ 9 72 Try.underlying22 hi hz0 hz1 hz2 rfl (by decide) _ k _ rfl OWN.out ⟨V.heap.size, 0, none⟩ 1 1 [.int .i64 x1, .bool x2, .int .i64 x3, .int .i64 x4, .int .i64 x5, .int .i64 x6, .int .i64 x7, .int .i64 x8, .int .i64 x9] rfl rfl NX.out XC.out (by unfold maxLen; omega) (by omega) HBS.out ?_))
            intro v' w3 hown hgrow _
            have R3 : Hid (IV w1.heap.size v' ((l.take (k + 1)).map (rn1 z)) w3) := by
              show w3.ownsRow _ _ _ _ _ _
              rw [HO.out, isl_snoc, List.length_append, LN.out, List.map_take]
              exact hown
            have B3 : Below w1.heap.size w1 w3 := (bel_al hB1 _).trans (own_bel OWN.out HBS.out hgrow)
            clear hown hgrow OWN HBS hR1 hB1 NX XC e0 e1 e2 e3 e4 e5 e6 e7 e8
            go_wp2_with fail
            go_roundw
            case rel => exact ⟨k + 1, by omega, by go_num, R3, B3, hA2⟩
            case measure => simp [intOf]; omega
      · have hkm : k = l.length := by omega
        subst hkm
        rw [List.take_length] at hR
        have LN : Hid ((l.map (rn1 z)).length = l.length) := by show _ = _; simp
        have OK1 : Hid (∀ j (hj : j < l.length), l[j].ok) := fun j hj => by
          rcases HX1.out with h | ⟨b, off, rfl, hX⟩
          · rw [h] at hj; simp at hj
          · exact hX.ok hj
        obtain ⟨a9, c9, hv9, hI⟩ := hR.out.is (rn_ok hA.out OK1.out z0 z1)
        rw [LN.out] at hv9
        subst hv9
        have A1 := hide (assemble_any a cap l wr (by omega) (HX1.out.below hb))
        have A2 := hide (fun U b => assemble_any a9 c9 (l.map (rn1 z)) U (by rw [LN.out]; omega) (hI.below b))
        have HRN := hide (rn_as z0 l)
        rw [HRN.out.1, HRN.out.2, LN.out] at A2
        clear hR hI LN OK1 hA HRN HX1
        generalize asS l = ss at *
        generalize asE l = ee at *
        go_wp2_with fail
        refine A1.out.mono ?_
        rintro e w2 ⟨rfl, b2⟩
        go_wp2_with fail
        refine (A2.out _ b2).mono ?_
        rintro e w3 ⟨rfl, b3⟩
        go_wp2_with fail
        go_ret
        exact ⟨rfl, bel_tr b1 (bel_tr (bel_tr hb b2) b3)⟩
end Go.Proofs.Ytookbgnidinkoaa

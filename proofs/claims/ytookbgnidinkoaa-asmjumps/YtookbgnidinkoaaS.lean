/-
  The program's assembleAt and Assemble.
-/
import Derived.Test.YtookbgnidinkoaaQ
import Derived.Test.YtookbgnidinkoaaCLists
namespace Go.Proofs.Ytookbgnidinkoaa
open Go.RowKit Go.Maps
open Xc
set_option linter.unusedSimpArgs false
set_option linter.unusedVariables false
def xsl (L : List Xi) : List Value := L.flatMap fun x => (xc x).toList
theorem xsl_len (L : List Xi) : (xsl L).length = 7 * L.length := by
  induction L with
  | nil => rfl
  | cons x L ih =>
    have e : xsl (x :: L) = (xc x).toList ++ xsl L := rfl
    have e2 : (xc x).toList.length = 7 := rfl
    rw [e, List.length_append, ih, e2, List.length_cons]; omega
theorem xsl_snoc (L : List Xi) (x : Xi) : xsl (L ++ [x]) = xsl L ++ (xc x).toList := by simp [xsl]
theorem xsl_get : ∀ (L : List Xi) (j : Nat) (h : j < L.length) (i : Nat), i < 7 → (xsl L)[j * 7 + i]? = (xc L[j])[i]?
  | x :: L, 0, _, i, hi => by
    simp only [xsl, List.flatMap_cons]
    rw [List.getElem?_append_left (by simp [xc]; omega)]
    simp
  | x :: L, j + 1, h, i, hi => by
    have ih := xsl_get L j (by simpa using h) i hi
    simp only [xsl, List.flatMap_cons] at *
    rw [List.getElem?_append_right (by simp [xc]; omega)]
    have : (j + 1) * 7 + i - (xc x).toList.length = j * 7 + i := by simp [xc]; omega
    rw [this, ih]
    simp
/-- Instructions in a row of one's own. -/
def XV (B : Nat) (v : Value) (L : List Xi) (w : World) : Prop := w.ownsRow B 40 7 v L.length (xsl L)
theorem XV.nil (B : Nat) (w : World) : XV B (.slice none 0 0) [] w := World.ownsRow_nil _ _ _ _
theorem XV.kept {B : Nat} {v : Value} {L : List Xi} {w w' : World} (h : XV B v L w) (k : Below w.heap.size w w') : XV B v L w' := own_kept h k
theorem XV.xs {B : Nat} {v : Value} {L : List Xi} {w : World} (h : XV B v L w) (hok : ∀ j (hj : j < L.length), L[j].ok) : ∃ a c, v = .slice a L.length c ∧ XS w a L := by
  rcases h.2 with ⟨rfl, e⟩ | ⟨g, cap, cur, rfl, hb, hrest⟩
  · have : L = [] := List.length_eq_zero_iff.1 e
    subst this
    exact ⟨_, _, rfl, Or.inl rfl⟩
  · refine ⟨_, _, rfl, Or.inr ⟨g, 0, rfl, fun j hj => ?_⟩⟩
    have hlt := (h.lt g rfl).2
    have cc : ∀ i, i < 7 → ∀ v, (xc L[j])[i]? = some v → w.cell? ⟨g, 0 + j * 7 + i, none⟩ = some v := fun i hi v hv => by
      rw [Nat.zero_add, World.ownsRow.cellAt h (j * 7 + i) (by omega), xsl_get L j hj i hi, hv]
    exact ⟨hlt, hok j hj, cc 0 (by omega) _ rfl, cc 1 (by omega) _ rfl, cc 2 (by omega) _ rfl, cc 3 (by omega) _ rfl, cc 4 (by omega) _ rfl, cc 5 (by omega) _ rfl, cc 6 (by omega) _ rfl⟩
theorem info40 : (Try.prog.info? 40).map (fun i => (i.zero, i.size, i.bytes)) = some (some (.agg #[.int .i64 0, .bool false, .int .i64 0, .int .i64 0, .int .i64 0, .int .i64 0, .int .i64 0]), 7, 56) := by kernel_rfl
theorem new_x (w : World) (x : Xi) : ∀ j u, (xc x).toList[j]? = some u → (w.alloc (.cells (xc x) 40)).cell? ((⟨w.heap.size, 0, none⟩ : Addr).add j) = some u := by
  intro j u h
  have e := heap_alloc_new w (.cells (xc x) 40)
  rw [add_lit7, Nat.zero_add]
  have hj : (xc x)[j]? = some u := by simpa using h
  simp only [World.cell?, e]
  exact hj
theorem x_cell (x : Xi) : ∀ u, u ∈ (xc x).toList → u.oneCell' = true := by
  intro u h; simp [xc] at h
  rcases h with h | h | h | h | h | h | h <;> subst h <;> rfl
theorem oL_ok {l : List It} (hl : l.length ≤ 1000) (ho : ∀ j (hj : j < l.length), l[j].ok) : ∀ k, k ≤ l.length → ∀ j (hj : j < (oL l k).length), (oL l k)[j].ok
  | 0, _, j, hj => by simp [oL] at hj
  | k + 1, hk, j, hj => by
    have h : k < l.length := hk
    have key : ∀ x ∈ oL l (k + 1), x.ok := by
      rw [oL_succ h]
      intro x hx
      rcases List.mem_append.1 hx with hx | hx
      · obtain ⟨i, hi, rfl⟩ := List.getElem_of_mem hx
        exact oL_ok hl ho k (by omega) i hi
      · unfold one at hx
        split at hx
        · simp at hx; subst hx; exact jx_ok hl h (ho k h)
        · simp at hx
    exact key _ (List.getElem_mem hj)
theorem xi_op (a : Int) (b : Bool) (c d e f g : Int) : (⟨a, b, c, d, e, f, g⟩ : Xi).op = a := rfl
theorem xi_wide (a : Int) (b : Bool) (c d e f g : Int) : (⟨a, b, c, d, e, f, g⟩ : Xi).wide = b := rfl
theorem xi_r (a : Int) (b : Bool) (c d e f g : Int) : (⟨a, b, c, d, e, f, g⟩ : Xi).r = c := rfl
theorem xi_b (a : Int) (b : Bool) (c d e f g : Int) : (⟨a, b, c, d, e, f, g⟩ : Xi).b = d := rfl
theorem xi_i (a : Int) (b : Bool) (c d e f g : Int) : (⟨a, b, c, d, e, f, g⟩ : Xi).i = e := rfl
theorem xi_c (a : Int) (b : Bool) (c d e f g : Int) : (⟨a, b, c, d, e, f, g⟩ : Xi).c = f := rfl
theorem xi_n (a : Int) (b : Bool) (c d e f g : Int) : (⟨a, b, c, d, e, f, g⟩ : Xi).n = g := rfl
theorem one_no {l : List It} {k : Nat} {t : It} (h : t.lb ≠ 0) : one l k t = [] := by unfold one; rw [if_neg h]
theorem one_x {l : List It} {k : Nat} {t : It} (h : t.lb = 0) (h1 : t.tg = 0) : one l k t = [t.x] := by unfold one jx; rw [if_pos h, if_pos h1]
theorem one_j {l : List It} {k j : Nat} {t : It} (h : t.lb = 0) (h1 : t.tg ≠ 0) (hf : fd l t.tg = some j) : one l k t = [⟨t.x.op, t.x.wide, t.x.r, t.x.b, t.x.i, t.x.c, (pt l j : Int) - (pt l (k + 1) : Int)⟩] := by
  unfold one jx; rw [if_pos h, if_neg h1, hf]; rfl
theorem Row9.setN {g : Nat} {op : Int} {wd : Bool} {r b i c n lb tg : Int} {w : World} (h : Row9 g op wd r b i c n lb tg w) (n' : Int) : Row9 g op wd r b i c n' lb tg (w.setCell ⟨g, 6, none⟩ (.int .i64 n')) := by
  unfold Row9 at *; simp [World.setCell, Array.getElem?_modify, h]
theorem bel_set1 {w : World} {b : Nat} (hb : b = w.heap.size) (o : Obj) (k : Nat) (v : Value) : Below w.heap.size w ((w.alloc o).setCell ⟨b, k, none⟩ v) := bel_set (bel_one w o) (by omega) k v
/-- What lies there ahead of an append. -/
def Ah (B g : Nat) (v : Value) (L : List Xi) (x : Xi) (tg : Int) (w1 V : World) : Prop := XV B v L V ∧ Below B w1 V ∧ Row9 g x.op x.wide x.r x.b x.i x.c x.n 0 tg V
def AtIs (a : Option Addr) (cap : Nat) (l : List It) (g c : Nat) (w : World) : Prop := Calls Try.prog 20 #[.slice a l.length cap, .slice (some ⟨g, 0, none⟩) (l.length + 1) c] w fun e w' => e = .returned (.tuple #[.string (str (asS l)), .int .i64 (asE l)]) ∧ Below w.heap.size w w'
def Fnd (l : List It) (k : Nat) : Prop := ∀ j (h : j < l.length), j < k → l[j].lb = 0 → l[j].tg ≠ 0 → fd l l[j].tg ≠ none
set_option maxHeartbeats 4000000 in
set_option maxRecDepth 100000 in
theorem at_any (a : Option Addr) (cap : Nat) (l : List It) (g c : Nat) (w : World) (hl : l.length ≤ 1000) (hX : IS w a l) (hP : NC w g (pls l l.length)) (hok : pOk l = true) : AtIs a cap l g c w := by
  unfold AtIs
  have LP := hide (label_any a cap l g c w hl hX hP)
  have HX := hide hX
  have HP := hide hP
  have HOK := hide hok
  clear hX hP hok
  obtain ⟨i0, hi, hz0, hz1, hz2⟩ := info_parts info40
  go_enter Try.func20, Try.ntmps20
  go_wp2_with fail
  refine LP.out.mono ?_
  clear LP
  rintro e w1 (⟨hU, rfl, hM, b1⟩ | ⟨hU, rfl, b1⟩)
  case inr =>
    have R := hide (asR_no (l := l) fun h => hU h.2.1)
    clear hU
    go_wp2_with fail
    go_ret2
    exact ⟨by rw [R.out.1, R.out.2]; rfl, b1⟩
  case inl =>
    have HX1 := hide (HX.out.below b1)
    have HP1 := hide (HP.out.kept b1)
    have HM := hide hM
    have HU := hide hU
    clear HX HP hM hU
    go_wp2_with fail
    go_loopw [8, 23] (fun sv iv wr => ∃ k : Nat, k ≤ l.length ∧ iv = .int .i64 (k : Int) ∧ Hid (XV w1.heap.size sv (oL l k) wr) ∧ Below w1.heap.size w1 wr ∧ Hid (Fnd l k)) (fun _ iv _ => l.length - (intOf iv).toNat)
    case atStart => exact ⟨0, by omega, rfl, hide (XV.nil _ _), Below.refl _ _, hide (fun j hj h => absurd h (by omega))⟩
    case round =>
      obtain ⟨k, hk, rfl, hR, hb, hA⟩ := hrel
      by_cases hlt : k < l.length
      · rcases HX1.out with h | ⟨b, off, rfl, hX⟩
        · rw [h] at hlt; simp at hlt
        obtain ⟨hbb, ho, c0, c1, c2, c3, c4, c5, c6, c7, c8⟩ := hX k hlt
        have d0 := (hb.cell (p := ⟨b, off + k * 9, none⟩) hbb).trans c0
        have d1 := (hb.cell (p := ⟨b, off + k * 9 + 1, none⟩) hbb).trans c1
        have d2 := (hb.cell (p := ⟨b, off + k * 9 + 2, none⟩) hbb).trans c2
        have d3 := (hb.cell (p := ⟨b, off + k * 9 + 3, none⟩) hbb).trans c3
        have d4 := (hb.cell (p := ⟨b, off + k * 9 + 4, none⟩) hbb).trans c4
        have d5 := (hb.cell (p := ⟨b, off + k * 9 + 5, none⟩) hbb).trans c5
        have d6 := (hb.cell (p := ⟨b, off + k * 9 + 6, none⟩) hbb).trans c6
        have d7 := (hb.cell (p := ⟨b, off + k * 9 + 7, none⟩) hbb).trans c7
        have d8 := (hb.cell (p := ⟨b, off + k * 9 + 8, none⟩) hbb).trans c8
        clear c0 c1 c2 c3 c4 c5 c6 c7 c8
        have OS := hide (oL_succ hlt)
        have OLN := hide (oL_len l k)
        have htg : I64 l[k].tg := ho.2.2
        have HK := hide (keyOf_int_mk (P := Try.prog) (k := 3) Try.underlying3 (wf64 htg))
        have FN : Hid ((l[k].lb ≠ 0 ∨ l[k].tg = 0 ∨ fd l l[k].tg ≠ none) → Fnd l (k + 1)) := fun h j hj h1 h2 h3 => by
          rcases Nat.lt_or_ge j k with h' | h'
          · exact hA.out j hj h' h2 h3
          · have : j = k := by omega
            subst this
            rcases h with h | h | h
            · exact absurd h2 h
            · exact absurd h h3
            · exact h
        clear ho htg
        rcases hit : l[k] with ⟨⟨x1, x2, x3, x4, x5, x6, x7⟩, x8, x9⟩
        rw [hit] at OS FN HK d0 d1 d2 d3 d4 d5 d6 d7 d8
        simp only at FN HK d0 d1 d2 d3 d4 d5 d6 d7 d8
        by_cases h0 : x8 = 0
        · subst h0
          by_cases h1 : x9 = 0
          · subst h1
            have hF := hide (FN.out (Or.inr (Or.inl rfl)))
            have HO : Hid (oL l (k + 1) = oL l k ++ [⟨x1, x2, x3, x4, x5, x6, x7⟩]) := OS.out.trans (by rw [one_x rfl rfl])
            clear OS FN HK
            go_upto_region 14 with fail
            refine gen_world (motive := fun x => Code.wp _ _ _ _ x) (fun V => Ah w1.heap.size wr.heap.size u8 (oL l k) ⟨x1, x2, x3, x4, x5, x6, x7⟩ 0 w1 V) ⟨hR.out.kept (bel_one _ _), bel_al hb _, Row9.made wr x1 x2 x3 x4 x5 x6 x7 0 0⟩ ?_
            clear d0 d1 d2 d3 d4 d5 d6 d7 d8 hR hb
            rintro V ⟨hR1, hB1, hW⟩
            obtain ⟨e0, e1, e2, e3, e4, e5, e6, _, _⟩ := hW.cells
            clear hW
            have HBS : Hid (w1.heap.size ≤ (V.alloc (.cells (xc ⟨x1, x2, x3, x4, x5, x6, x7⟩) 40)).heap.size) := by have := hB1.size; show _ ≤ _; simp; omega
            have OWN : Hid ((V.alloc (.cells (xc ⟨x1, x2, x3, x4, x5, x6, x7⟩) 40)).ownsRow w1.heap.size 40 7 u8 (oL l k).length (xsl (oL l k))) := World.ownsRow.alloc hR1 (.cells (xc ⟨x1, x2, x3, x4, x5, x6, x7⟩) 40)
            have NX := hide (new_x V ⟨x1, x2, x3, x4, x5, x6, x7⟩)
            have XC := hide (x_cell ⟨x1, x2, x3, x4, x5, x6, x7⟩)
            have hon := OLN.out
            simp only [xc, xi_op, xi_wide, xi_r, xi_b, xi_i, xi_c, xi_n] at HBS OWN NX XC e0 e1 e2 e3 e4 e5 e6
            go_wp2_with (at_builtin; (refine wpList_append_own _ rfl (.tmp 52) (.tmp 55) 46 rfl w1.heap.size 40 i0 _ 7 56 Try.underlying46 hi hz0 hz1 hz2 rfl (by decide) _ (oL l k).length _ rfl OWN.out ⟨V.heap.size, 0, none⟩ 1 1 [.int .i64 x1, .bool x2, .int .i64 x3, .int .i64 x4, .int .i64 x5, .int .i64 x6, .int .i64 x7] rfl rfl NX.out XC.out (by unfold maxLen; omega) (by omega) HBS.out ?_))
            intro v' w3 hown hgrow _
            have R3 : Hid (XV w1.heap.size v' (oL l (k + 1)) w3) := by
              show w3.ownsRow _ _ _ _ _ _
              rw [HO.out, xsl_snoc, List.length_append]
              exact hown
            have B3 : Below w1.heap.size w1 w3 := (bel_al hB1 _).trans (own_bel OWN.out HBS.out hgrow)
            clear hown hgrow OWN HBS hR1 hB1 NX XC e0 e1 e2 e3 e4 e5 e6
            go_wp2_with fail
            go_roundw
            case rel => exact ⟨k + 1, by omega, by go_num, R3, B3, hF⟩
            case measure => simp [intOf]; omega
          · have HM0 : Hid (LM w.heap.size l l.length (wr.alloc (.cells #[.int .i64 x1, .bool x2, .int .i64 x3, .int .i64 x4, .int .i64 x5, .int .i64 x6, .int .i64 x7, .int .i64 0, .int .i64 x9] 42))) := HM.out.kept (bel_al hb _)
            have HS0 := mp_has l h1 l.length (Nat.le_refl _)
            rw [List.take_length] at HS0
            have HPc : (wr.alloc (.cells #[.int .i64 x1, .bool x2, .int .i64 x3, .int .i64 x4, .int .i64 x5, .int .i64 x6, .int .i64 x7, .int .i64 0, .int .i64 x9] 42)).cell? ⟨g, k + 1, none⟩ = some (.int .i64 (pt l (k + 1) : Int)) := by
              have := (HP1.out.kept (bel_al hb (.cells #[.int .i64 x1, .bool x2, .int .i64 x3, .int .i64 x4, .int .i64 x5, .int .i64 x6, .int .i64 x7, .int .i64 0, .int .i64 x9] 42))).2 (k + 1) (by rw [pls_len]; omega)
              rw [pls_get] at this; exact this
            cases hf : fd l x9 with
            | none =>
              rw [hf] at HS0
              have HS := hide HS0
              have R := hide (asR_no (l := l) fun h => h.2.2 ⟨k, hlt, by rw [hit], by rw [hit]; exact h1, by rw [hit]; exact hf⟩)
              clear HS0 hf OS FN HPc
              go_wp2_with (first | (at_lookup; refine wpList_lookup_own_ok_int _ rfl _ _ 63 rfl 3 3 .i64 law3 Try.underlying63 Try.underlying3 (zero3 _) w.heap.size l.length (mp l l.length) rfl HM0.out _ _ rfl HK.out ?_; intro cc hat hwc; rw [HS.out]; clear hat hwc) | fail)
              go_ret2
              exact ⟨by rw [R.out.1, R.out.2]; rfl, bel_tr b1 (bel_al hb _)⟩
            | some j =>
              rw [hf] at HS0
              have HS := hide HS0
              have hF := hide (FN.out (Or.inr (Or.inr (by rw [hf]; exact fun h => by cases h))))
              have HAT := hide (mp_at l h1 (.lit (.int .i64 0)) l.length (Nat.le_refl _) (fun j hj _ h => HU.out j hj h) j (by rw [List.take_length]; exact hf))
              have HO0 : Hid (oL l (k + 1) = oL l k ++ [⟨x1, x2, x3, x4, x5, x6, (pt l j : Int) - (pt l (k + 1) : Int)⟩]) := OS.out.trans (by rw [one_j rfl h1 hf])
              obtain ⟨hj1, _⟩ := fd_lt hf
              have q1 := pt_le l j
              have q2 := pt_le l (k + 1)
              have hpj : (0 : Int) ≤ (pt l j : Int) ∧ (pt l j : Int) ≤ 20000 := by omega
              have hpk : (0 : Int) ≤ (pt l (k + 1) : Int) ∧ (pt l (k + 1) : Int) ≤ 20000 := by omega
              clear HS0 hf OS FN q1 q2
              generalize (pt l (k + 1) : Int) = p at *
              generalize (pt l j : Int) = pj at *
              obtain ⟨p1, p2⟩ := hpk
              go_upto_region 11 with (first | (at_lookup; refine wpList_lookup_own_ok_int _ rfl _ _ 63 rfl 3 3 .i64 law3 Try.underlying63 Try.underlying3 (zero3 _) w.heap.size l.length (mp l l.length) rfl HM0.out _ _ rfl HK.out ?_; intro cc hat hwc; rw [HS.out]; clear hwc; rw [HAT.out] at hat) | fail)
              have hcc : pj = cc := by injection hat with hat; injection hat
              subst hcc
              clear hat HAT HM0 HS HK
              obtain ⟨j1, j2⟩ := hpj
              have HO := HO0
              clear HO0
              go_upto_region 14 with fail
              refine gen_world (motive := fun x => Code.wp _ _ _ _ x) (fun V => Ah w1.heap.size wr.heap.size u8 (oL l k) ⟨x1, x2, x3, x4, x5, x6, pj - p⟩ x9 w1 V) ⟨hR.out.kept (bel_one _ _), bel_al hb _, Row9.made wr x1 x2 x3 x4 x5 x6 (pj - p) 0 x9⟩ ?_
              clear d0 d1 d2 d3 d4 d5 d6 d7 d8 hR hb HPc
              rintro V ⟨hR1, hB1, hW⟩
              obtain ⟨e0, e1, e2, e3, e4, e5, e6, _, _⟩ := hW.cells
              clear hW
              have HBS : Hid (w1.heap.size ≤ (V.alloc (.cells (xc ⟨x1, x2, x3, x4, x5, x6, pj - p⟩) 40)).heap.size) := by have := hB1.size; show _ ≤ _; simp; omega
              have OWN : Hid ((V.alloc (.cells (xc ⟨x1, x2, x3, x4, x5, x6, pj - p⟩) 40)).ownsRow w1.heap.size 40 7 u8 (oL l k).length (xsl (oL l k))) := World.ownsRow.alloc hR1 (.cells (xc ⟨x1, x2, x3, x4, x5, x6, pj - p⟩) 40)
              have NX := hide (new_x V ⟨x1, x2, x3, x4, x5, x6, pj - p⟩)
              have XC := hide (x_cell ⟨x1, x2, x3, x4, x5, x6, pj - p⟩)
              have hon := OLN.out
              simp only [xc, xi_op, xi_wide, xi_r, xi_b, xi_i, xi_c, xi_n] at HBS OWN NX XC e0 e1 e2 e3 e4 e5 e6
              go_wp2_with (at_builtin; (refine wpList_append_own _ rfl (.tmp 52) (.tmp 55) 46 rfl w1.heap.size 40 i0 _ 7 56 Try.underlying46 hi hz0 hz1 hz2 rfl (by decide) _ (oL l k).length _ rfl OWN.out ⟨V.heap.size, 0, none⟩ 1 1 [.int .i64 x1, .bool x2, .int .i64 x3, .int .i64 x4, .int .i64 x5, .int .i64 x6, .int .i64 (pj - p)] rfl rfl NX.out XC.out (by unfold maxLen; omega) (by omega) HBS.out ?_))
              intro v' w3 hown hgrow _
              have R3 : Hid (XV w1.heap.size v' (oL l (k + 1)) w3) := by
                show w3.ownsRow _ _ _ _ _ _
                rw [HO.out, xsl_snoc, List.length_append]
                exact hown
              have B3 : Below w1.heap.size w1 w3 := (bel_al hB1 _).trans (own_bel OWN.out HBS.out hgrow)
              clear hown hgrow OWN HBS hR1 hB1 NX XC e0 e1 e2 e3 e4 e5 e6
              go_wp2_with fail
              go_roundw
              case rel => exact ⟨k + 1, by omega, by go_num, R3, B3, hF⟩
              case measure => simp [intOf]; omega
        · have hF := hide (FN.out (Or.inl h0))
          have HO : Hid (oL l (k + 1) = oL l k) := OS.out.trans (by rw [one_no h0, List.append_nil])
          clear OS FN HK
          go_wp2_with fail
          go_roundw
          case rel => exact ⟨k + 1, by omega, by go_num, hide (by show XV _ _ _ _; rw [HO.out]; exact hR.out.kept (bel_one _ _)), bel_al hb _, hF⟩
          case measure => simp [intOf]; omega
      · have hkm : k = l.length := by omega
        subst hkm
        have R := hide (asR_yes HOK.out HU.out fun ⟨j, hj, h1, h2, h3⟩ => hA.out j hj hj h1 h2 h3)
        have OKS : Hid (∀ j (hj : j < (oL l l.length).length), (oL l l.length)[j].ok) := oL_ok hl (fun j hj => by
          rcases HX1.out with h | ⟨b, off, rfl, hX⟩
          · rw [h] at hj; simp at hj
          · exact hX.ok hj) l.length (Nat.le_refl _)
        have OLN := hide (oL_len l l.length)
        obtain ⟨a9, c9, hv9, hxs⟩ := hR.out.xs OKS.out
        subst hv9
        have AL := hide (all_xs a9 (oL l l.length) c9 wr hxs (by have := OLN.out; omega))
        clear hxs OKS
        go_wp2_with fail
        refine AL.out.mono ?_
        rintro e w2 ⟨rfl, b2⟩
        go_wp2_with fail
        go_ret2
        exact ⟨by rw [R.out.1, R.out.2]; rfl, bel_tr (bel_tr b1 hb) b2⟩
set_option maxHeartbeats 2000000 in
/-- Assemble. -/
theorem assemble_any (a : Option Addr) (cap : Nat) (l : List It) (w : World) (hl : l.length ≤ 1000) (hX : IS w a l) : Calls Try.prog 12 #[.slice a l.length cap] w fun e w' => e = .returned (.tuple #[.string (str (asS l)), .int .i64 (asE l)]) ∧ Below w.heap.size w w' := by
  have PL := hide (places_any a cap l w hl hX)
  have HX := hide hX
  clear hX
  go_enter Try.func12, Try.ntmps12
  go_wp2_with fail
  refine PL.out.mono ?_
  rintro e w1 (⟨hp, v, rfl, hR, b1⟩ | ⟨hp, rfl, b1⟩)
  case inr =>
    have R := hide (asR_no (l := l) fun h => by rw [hp] at h; cases h.1)
    clear hp
    go_wp2_with fail
    go_ret2
    exact ⟨by rw [R.out.1, R.out.2]; rfl, b1⟩
  case inl =>
    obtain ⟨g, c, rfl, hg1, hg2, hgc⟩ := hR.at (by rw [pls_len]; omega)
    rw [pls_len]
    have AT := hide (at_any a cap l g c w1 hl (HX.out.below b1) ⟨hg2, hgc⟩ hp)
    unfold AtIs at AT
    clear hR hgc hp HX PL
    go_wp2_with fail
    refine AT.out.mono ?_
    rintro e w2 ⟨rfl, b2⟩
    go_wp2_with fail
    go_ret2
    exact ⟨rfl, bel_tr b1 b2⟩
end Go.Proofs.Ytookbgnidinkoaa

/-
  The program's Alloc.
-/
import Derived.Test.YtjgaaofpfepfhaaDoorCel
import Derived.Test.YtjgaaofpfepfhaaDoorFre
import Derived.Test.YtjgaaofpfepfhaaDoorNmd
import Derived.Test.YtjgaaofpfepfhaaDoorRep
import Derived.Test.YtjgaaofpfepfhaaDoorStw
import Derived.Test.YtjgaaofpfepfhaaDoorCm
import Derived.Sort.CutIn
import Derived.Shelf.RegionOpen
namespace Go.Proofs.YtjgaaofpfepfhaaDoor
open Go.RowKit Go.Shelf Go.Maps
set_option linter.unusedSimpArgs false
set_option linter.unusedVariables false
attribute [local go_sem] Oper.semAt_some
theorem VRow.congr {b n : Nat} {f g : Nat → Value} {W : World} (h : VRow b n f W) (e : ∀ i, i < n → f i = g i) : VRow b n g W := ⟨h.lt, fun i hi => by rw [← e i hi]; exact h.c i hi, h.f⟩
def upz (pl : Nat → Int) (i : Nat) (v : Int) : Nat → Int := fun j => if j = i then v else pl j
theorem upz_same (pl : Nat → Int) (i : Nat) (v : Int) : upz pl i v i = v := if_pos rfl
theorem upz_other (pl : Nat → Int) {i j : Nat} (v : Int) (h : j ≠ i) : upz pl i v j = pl j := if_neg h
theorem VRow.setz {b n : Nat} {pl : Nat → Int} {W : World} (h : VRow b n (fun i => .int .i64 (pl i)) W) {i : Nat} (hi : i < n) (v : Int) : VRow b n (fun j => .int .i64 (upz pl i v j)) (W.setCell ⟨b, i, none⟩ (.int .i64 v)) :=
  (h.set hi (.int .i64 v)).congr fun j _ => by
    by_cases e : j = i
    · subst e; rw [upv_same, upz_same]
    · rw [upv_other _ _ e, upz_other _ _ e]
theorem Fre.congr {pl pl' : Nat → Int} {set n : Nat} {a p : Int} (h : Fre pl set n a p) (e : ∀ i, i < n → pl i = pl' i) : Fre pl' set n a p := by
  have k := fun q => tkn_congr (set := set) (set' := set) (fun i hi => ⟨e i hi, rfl⟩) q
  exact ⟨h.ge, (k p).symm.trans h.no, fun q h1 h2 => (k q).symm.trans (h.all q h1 h2)⟩
theorem Bt.grown {X : Nat → Prop} {w W W' : World} {row : Option Nat} (h : Bt X w W) (hg : W.grownBy W' row) (hne : ∀ b, b < w.heap.size → some b ≠ row) : Bt X w W' :=
  ⟨hg.os.trans h.os, hg.tape.trans h.tape, hg.output.trans h.output, Nat.le_trans h.size hg.size, fun b hb hx => (hg.block b (Nat.lt_of_lt_of_le hb h.size) (hne b hb)).trans (h.block b hb hx)⟩
/-- What is named is one of the cells. -/
theorem nmT_lt {d : Cd} {l : List Ir} {n m : Nat} (hf : fitb d l = true) (hn : d.cells = (n : Int)) (hm : d.params = (m : Int)) : ∀ k, k ≤ l.length → ∀ j, (nmT l m k).testBit j = true → j < n
  | 0, _, j, h => by
    have FP := fit_parts hf
    change (full m).testBit j = true at h
    rw [full_bit, decide_eq_true_eq] at h
    omega
  | k + 1, hk, j, h => by
    rw [nmT_is, Nat.testBit_or, Nat.testBit_or, Bool.or_eq_true, Bool.or_eq_true] at h
    have hx : l.getD k ir0 ∈ l := getD_mem (by omega)
    rcases h with (h | h) | h
    · exact nmT_lt hf hn hm k (by omega) j h
    · unfold wrS at h
      rcases fit_df hf hx with e | e
      · rw [if_pos e, Nat.zero_testBit] at h; cases h
      · rw [if_neg (by omega), one_bit, decide_eq_true_eq] at h; omega
    · unfold rdS at h
      rw [ors_bit, List.any_eq_true] at h
      obtain ⟨s, hs, hb⟩ := h
      obtain ⟨y, hy, rfl⟩ := List.mem_map.1 hs
      rw [one_bit, decide_eq_true_eq] at hb
      have h2 := (fit_parts hf).2.2.2 _ hx
      unfold okx nam at h2
      rw [Bool.and_eq_true, Bool.and_eq_true, List.all_eq_true] at h2
      have := isc_iff.1 (h2.1.1 y ((us_mem _ y).1 hy))
      omega
/-- From where on a cell's place is looked for. -/
def fsz (cr i : Nat) : Int := if cr.testBit i = true then 6 else 0
theorem fsz_le (cr i : Nat) : 0 ≤ fsz cr i ∧ fsz cr i ≤ 6 := by unfold fsz; split <;> omega
/-- The places of those that were taken so far. -/
structure Pld (n cr : Nat) (S : Nat → Nat) (pre : List (Px n)) (pl : Nat → Int) : Prop where
  no : ∀ i, i < n → i ∉ vls pre → pl i = -1
  yes : ∀ i, i ∈ vls pre → Fre pl (S i) i (fsz cr i) (pl i)
theorem Pld.next {n cr : Nat} {S : Nat → Nat} {pre : List (Px n)} {pl : Nat → Int} {x : Px n} {p : Int} (asc : (vls (pre ++ [x])).Pairwise (· < ·)) (h : Pld n cr S pre pl) (hp : Fre pl (S x.1) x.1 (fsz cr x.1) p) : Pld n cr S (pre ++ [x]) (upz pl x.1 p) := by
  rw [vls_snoc, List.pairwise_append] at asc
  have hlt : ∀ i ∈ vls pre, i < x.1 := fun i hi => asc.2.2 i hi x.1 (by simp)
  refine ⟨fun i hi hn => ?_, fun i hi => ?_⟩
  · rw [vls_snoc, List.mem_append, not_or] at hn
    rw [upz_other _ _ (by simpa using hn.2)]
    exact h.no i hi hn.1
  · rw [vls_snoc, List.mem_append, List.mem_singleton] at hi
    rcases hi with hi | rfl
    · have := hlt i hi
      rw [upz_other _ _ (by omega)]
      exact (h.yes i hi).congr fun j hj => (upz_other _ _ (by omega)).symm
    · rw [upz_same]
      exact hp.congr fun j hj => (upz_other _ _ (by omega)).symm
/-- The places of all. -/
def Plc (nm cr : Nat) (S : Nat → Nat) (n : Nat) (pl : Nat → Int) : Prop := ∀ i, i < n → (nm.testBit i = false → pl i = -1) ∧ (nm.testBit i = true → Fre pl (S i) i (fsz cr i) (pl i))
theorem Pld.all {nm n cr : Nat} {S : Nat → Nat} {ys : List (Px n)} {pl : Nat → Int} (hn : n ≤ 60) (e : vls ys = bitsL nm) (h : Pld n cr S ys pl) : Plc nm cr S n pl := fun i hi => by
  refine ⟨fun hb => h.no i hi fun hm => ?_, fun hb => h.yes i ?_⟩
  · rw [e, bitsL_mem, hb] at hm; cases hm.2
  · rw [e, bitsL_mem]; exact ⟨by omega, hb⟩
def AEnds (d : Cd) (l : List Ir) (w : World) (e : Ending) (w' : World) : Prop :=
  (fitb d l = false ∧ e = .returned (.tuple #[.slice none 0 0, .int .i64 4]) ∧ Below w.heap.size w w') ∨
  (fitb d l = true ∧ ∃ (n m r : Nat) (A F S : Nat → Nat) (pl : Nat → Int), d.cells = (n : Int) ∧ d.params = (m : Int) ∧ e = .returned (.tuple #[.slice (some ⟨r, 0, none⟩) n n, .int .i64 0]) ∧ w.heap.size ≤ r ∧ VRow r n (fun i => .int .i64 (pl i)) w' ∧ Sol (sy l) A F ∧
    (∀ i, i < n → ∀ j, (S i).testBit j = mu (stB l A F m) n i j) ∧ Plc (nmT l m l.length) (crT l F l.length) S n pl ∧ Below w.heap.size w w')
/-- An end that is no panic. -/
def NoP (Q : Exit → Act → World → Prop) : Exit → Act → World → Prop
  | .panic _, _, _ => False
  | e, a, w => Q e a w
theorem noP {K : Act → World → Prop} {Q : Exit → Act → World → Prop} (e : Exit) (a : Act) (w : World) (h : Exit.then K (NoP Q) e a w) : Exit.then K Q e a w := by
  cases e with
  | normal => exact h
  | exit id => exact h
  | goto l => exact h
  | ret => exact h
  | panic ch => exact False.elim h
  | outgrown => exact h
/-- The sets and what crosses, in their boxes. -/
structure A5 (n rs q8 q9 : Nat) (T : Nat → Nat → Bool) (cr : Nat) (W U : World) : Prop where
  b : Below W.heap.size W U
  m : MR rs n T U
  g : W.heap.size ≤ rs ∧ W.heap.size ≤ q8 ∧ W.heap.size ≤ q9
  l : rs < U.heap.size ∧ q8 < U.heap.size ∧ q9 < U.heap.size
  c8 : U.cell? ⟨q8, 0, none⟩ = some (.slice (some ⟨rs, 0, none⟩) n n)
  c9 : U.cell? ⟨q9, 0, none⟩ = some (.int .i64 (cr : Int))
/-- The sets, beyond W's blocks. -/
structure Mg (rs n : Nat) (T : Nat → Nat → Bool) (W U : World) : Prop where
  m : MR rs n T U
  g : W.heap.size ≤ rs
theorem MR.lt {rs n : Nat} {T : Nat → Nat → Bool} {U : World} (h : MR rs n T U) : rs < U.heap.size := by obtain ⟨S, h1, _⟩ := h.ex; exact h1.lt
theorem MR.of {rs n : Nat} {T : Nat → Nat → Bool} {U V : World} (h : MR rs n T U) (k : V.heap[rs]? = U.heap[rs]?) : MR rs n T V := by
  obtain ⟨S, h1, h2, h3⟩ := h.ex
  exact ⟨S, h1.of k, h2, h3⟩
theorem A5.bel {n rs q8 q9 cr : Nat} {T : Nat → Nat → Bool} {W U V : World} (h : A5 n rs q8 q9 T cr W U) (k : Below U.heap.size U V) : A5 n rs q8 q9 T cr W V :=
  ⟨bel_tr h.b k, h.m.of (k.block _ h.l.1), h.g, ⟨Nat.lt_of_lt_of_le h.l.1 k.size, Nat.lt_of_lt_of_le h.l.2.1 k.size, Nat.lt_of_lt_of_le h.l.2.2 k.size⟩, (k.cell (p := ⟨q8, 0, none⟩) h.l.2.1).trans h.c8, (k.cell (p := ⟨q9, 0, none⟩) h.l.2.2).trans h.c9⟩
theorem Mg.bel {rs n : Nat} {T : Nat → Nat → Bool} {W U V : World} (h : Mg rs n T W U) (k : Below U.heap.size U V) : Mg rs n T W V := ⟨h.m.of (k.block _ h.m.lt), h.g⟩
/-- A box, beyond W's blocks. -/
structure Bg (b : Nat) (o : Obj) (W U : World) : Prop where
  r : U.heap[b]? = some o
  g : W.heap.size ≤ b
  l : b < U.heap.size
theorem Bg.bel {b : Nat} {o : Obj} {W U V : World} (h : Bg b o W U) (k : Below U.heap.size U V) : Bg b o W V := ⟨(k.block _ h.l).trans h.r, h.g, Nat.lt_of_lt_of_le h.l k.size⟩
theorem Bg.cell {b : Nat} {v : Value} {t : TypeId} {W U : World} (h : Bg b (.cells #[v] t) W U) : U.cell? ⟨b, 0, none⟩ = some v ∧ U.frozen? ⟨b, 0, none⟩ = false := by
  have := h.r
  simp [World.cell?, World.frozen?, this]
theorem held {cs ps ls : Int} {q : Option Addr} {n cap q0 : Nat} {l : List Ir} {w W U : World} (h : FB ⟨cs, ps, ls⟩ q n cap q0 l w W) (k : Below W.heap.size W U) : U.cell? ⟨q0, 0, none⟩ = some (.int .i64 cs) ∧ U.cell? ⟨q0, 1, none⟩ = some (.int .i64 ps) ∧ U.cell? ⟨q0, 2, none⟩ = some (.slice q n cap) ∧ U.cell? ⟨q0, 3, none⟩ = some (.int .i64 ls) := h.cells k h.lt
theorem held_set {b q0 j : Nat} {v v0 v1 v2 v3 : Value} {U : World} (h : U.cell? ⟨q0, 0, none⟩ = some v0 ∧ U.cell? ⟨q0, 1, none⟩ = some v1 ∧ U.cell? ⟨q0, 2, none⟩ = some v2 ∧ U.cell? ⟨q0, 3, none⟩ = some v3) (hn : q0 ≠ b) :
    (U.setCell ⟨b, j, none⟩ v).cell? ⟨q0, 0, none⟩ = some v0 ∧ (U.setCell ⟨b, j, none⟩ v).cell? ⟨q0, 1, none⟩ = some v1 ∧ (U.setCell ⟨b, j, none⟩ v).cell? ⟨q0, 2, none⟩ = some v2 ∧ (U.setCell ⟨b, j, none⟩ v).cell? ⟨q0, 3, none⟩ = some v3 := by
  have k : ∀ i, (U.setCell ⟨b, j, none⟩ v).cell? ⟨q0, i, none⟩ = U.cell? ⟨q0, i, none⟩ := fun i => World.cell?_setCell_other _ _ _ _ (by simp only [ne_eq, Addr.mk.injEq, not_and]; intro e; first | exact absurd e hn | exact absurd e.symm hn)
  exact ⟨(k 0).trans h.1, (k 1).trans h.2.1, (k 2).trans h.2.2.1, (k 3).trans h.2.2.2⟩
theorem a5_fin {n rs b8 b9 cr : Nat} {T : Nat → Nat → Bool} {W U : World} (hB : Below W.heap.size W U) (hM : Mg rs n T W U) (h8 : Bg b8 (.cells #[.slice none 0 0] 25) W U) (h9 : Bg b9 (.cells #[.int .i64 0] 3) W U) (h89 : b8 ≠ b9) (n8 : rs ≠ b8) (n9 : rs ≠ b9) :
    A5 n rs b8 b9 T cr W ((U.setCell ⟨b8, 0, none⟩ (.slice (some ⟨rs, 0, none⟩) n n)).setCell ⟨b9, 0, none⟩ (.int .i64 (cr : Int))) := by
  obtain ⟨x8, f8⟩ := h8.cell
  obtain ⟨x9, f9⟩ := h9.cell
  refine ⟨(hB.setCell (p := ⟨b8, 0, none⟩) h8.g _).setCell (p := ⟨b9, 0, none⟩) h9.g _, (hM.m.of (Below.heap_setCell _ ⟨b8, 0, none⟩ _ rs n8)).of (Below.heap_setCell _ ⟨b9, 0, none⟩ _ rs n9), ⟨hM.g, h8.g, h9.g⟩, ⟨by simpa [World.setCell] using hM.m.lt, by simpa [World.setCell] using h8.l, by simpa [World.setCell] using h9.l⟩, ?_, ?_⟩
  · exact (World.cell?_setCell_other _ _ _ _ (by simp only [ne_eq, Addr.mk.injEq, not_and]; intro e; first | exact absurd e h89 | exact absurd e.symm h89)).trans (World.cell?_setCell_same' _ _ _ (by rw [x8]; rfl))
  · exact World.cell?_setCell_same' _ _ _ (by rw [World.cell?_setCell_other _ _ _ _ (by simp only [ne_eq, Addr.mk.injEq, not_and]; intro e; first | exact absurd e h89 | exact absurd e.symm h89), x9]; rfl)
set_option maxRecDepth 100000 in
set_option maxHeartbeats 6400000 in
theorem alloc_in (dp : Nat) (hdp : 4 ≤ dp) (d : Cd) (q : Option Addr) (cap : Nat) (l : List Ir) (w : World) (hl : l.length ≤ 1000) (hr : IR w.heap.size w q l) (hT : Laid w) (hw0 : 0 < w.heap.size) :
    CallsIn Fence.wide dp Tryd.prog 7 #[cv d q l.length cap] w (AEnds d l w) := by
  have h1 : 1 ≤ dp := by omega
  have HL := hide hl
  have HR := hide hr
  have HT := hide hT
  have B0 : FB d q l.length cap w.heap.size l w (w.alloc (.cells #[.int .i64 d.cells, .int .i64 d.params, .slice q l.length cap, .int .i64 d.labels] 24)) := ⟨bel_one _ _, by simp, heap_alloc_new _ _⟩
  have PA := hide (fun U (hU : IR U.heap.size U q l) => callsIn_wide (n := dp - 1).2 (after_any d q cap l U hl hU))
  have PB := hide (fun U (hU : IR U.heap.size U q l) => callsIn_wide (n := dp - 1).2 (ahead_any d q cap l U hl hU))
  have PC := hide (fun ra rb n m A F U (hU : IR U.heap.size U q l) => sets_any d q cap l ra rb n m A F U hl hU)
  have PD := hide (fun m U (hU : IR U.heap.size U q l) ho hm hm60 => callsIn_wide (n := dp - 1).2 (named_any d q cap l m U hl hU ho hm hm60))
  clear hl hr hT
  obtain ⟨cs, ps, ls⟩ := d
  unfold cv at PA PB PC PD ⊢
  simp only at B0 PA PB PC PD ⊢
  refine callsIn_of_wp_marks Tryd.func7 rfl trivial ?_ rfl
  simp only [Tryd.ntmps7, List.size_toArray, List.length_cons, List.length_nil, Nat.reduceAdd, Nat.reduceSub, Array.replicate_succ, Array.replicate_zero, List.push_toArray, List.append_toArray, List.nil_append, List.cons_append]
  gi_upto_region 1 with fail
  refine gw (motive := fun x => Code.wpIn _ _ _ _ _ _ x) (fun W => Hid (FB ⟨cs, ps, ls⟩ q l.length cap w.heap.size l w W)) B0 ?_
  rintro W HW
  clear B0
  obtain ⟨c0, c1, c2, c3⟩ := HW.out.cells (Below.refl _ W) HW.out.lt
  simp only at c0 c1 c2 c3
  have hqW := HW.out.lt
  gi_wp2_with fail
  refine ⟨trivial, (PA.out W ((HR.out.bel HW.out.b).up HW.out.b.size)).mono ?_⟩
  clear c0 c1 c2 c3
  rintro e W1 (⟨hf, rfl, k2⟩ | ⟨hf, r1, A1, F1, rfl, g1, n1, s1, k2⟩)
  · have HB := hide (HW.out.b.trans (k2.mono HW.out.b.size))
    have HF := hide hf
    clear k2 hf
    gi_wp2_with fail
    exact ⟨_, results_tmp2 rfl _ _ _, Or.inl ⟨HF.out, rfl, HB.out⟩⟩
  have HK1 := hide k2
  have HB1 := hide (HW.out.b.trans (k2.mono HW.out.b.size))
  obtain ⟨c0, c1, c2, c3⟩ := HW.out.cells HK1.out hqW
  simp only at c0 c1 c2 c3
  have HN1 : Hid (NRow r1 l.length F1 W1) := n1
  have HS1 := hide s1
  have HF := hide hf
  clear k2 hf n1 s1
  gi_wp2_with fail
  refine ⟨trivial, (PB.out W1 ((HR.out.bel HB1.out).up HB1.out.size)).mono ?_⟩
  clear c0 c1 c2 c3
  rintro e W2 (⟨hf, _⟩ | ⟨hf, r2, A2, F2, rfl, g2, n2, s2, k2⟩)
  · rw [HF.out] at hf; cases hf
  have HK2 := hide (bel_tr HK1.out k2)
  have HB2 := hide (HW.out.b.trans (HK2.out.mono HW.out.b.size))
  obtain ⟨c0, c1, c2, c3⟩ := HW.out.cells HK2.out hqW
  simp only at c0 c1 c2 c3
  have HN2 : Hid (NRow r2 l.length A1 W2) := by
    have h2 : NRow r2 l.length A2 W2 := n2
    exact h2.congr fun i hi => (s2.one HS1.out (show i < (sy l).n from hi)).1
  have HN1b := hide (HN1.out.of (k2.block _ HN1.out.lt))
  have FP := fit_parts HF.out
  simp only at FP
  obtain ⟨n, hn⟩ : ∃ n : Nat, cs = (n : Int) := ⟨cs.toNat, by omega⟩
  obtain ⟨m, hm⟩ : ∃ m : Nat, ps = (m : Int) := ⟨ps.toNat, by omega⟩
  have hn60 : n ≤ 60 := by omega
  have hmn : m ≤ n := by omega
  have HO := hide (fitb_ok HF.out)
  have SA := hide (fun U (hU : Below W2.heap.size W2 U) => (PC.out r2 r1 n m A1 F1 U (((HR.out.bel HB2.out).up HB2.out.size).bel hU |>.up hU.size) HF.out hn hm (HN2.out.of (hU.block _ HN2.out.lt)) (HN1b.out.of (hU.block _ HN1b.out.lt)) HS1.out.la HS1.out.lf))
  have CA := hide (fun U (hU : Below W2.heap.size W2 U) => (crossing_any q cap l r1 l.length F1 U HL.out (((HR.out.bel HB2.out).up HB2.out.size).bel hU |>.up hU.size) HO.out (HN1b.out.of (hU.block _ HN1b.out.lt)) HS1.out.lf))
  clear k2 hf n2 s2 PA PB PC FP
  subst hn hm
  have hmix : Tryd.prog.follows .mixedOrders = true := by kernel_rfl
  gi_upto_region 5 with fail
  gi_cut [8, 9] from 26 (fun s8 s9 wx => ∃ q8 q9 rs : Nat, s8 = .pointer (some ⟨q8, 0, none⟩) ∧ s9 = .pointer (some ⟨q9, 0, none⟩) ∧ Hid (A5 n rs q8 q9 (mu (stB l A1 F1 m) n) (crT l F1 l.length) W2 wx))
  case first =>
    rename_i J K' hJ hK'
    refine wpIn_mono (Q := Exit.then _ (NoP _)) ?_ noP
    refine wpIn_wide.2 ?_
    refine wp_region_held_drew (S := fun X => X.cell? ⟨w.heap.size, 0, none⟩ = some (.int .i64 (n : Int)) ∧ X.cell? ⟨w.heap.size, 1, none⟩ = some (.int .i64 (m : Int)) ∧ X.cell? ⟨w.heap.size, 2, none⟩ = some (.slice q l.length cap) ∧ X.cell? ⟨w.heap.size, 3, none⟩ = some (.int .i64 ls)) (by kernel_rfl) ⟨c0, c1, c2, c3⟩ ?_
    intro hHeld
    change wpAnyH _ _ _ _ _ _ _ _ (World.drew _)
    have HB0 := hide (bel_drew W2)
    have hwW := HW.out.b.size
    have hsz0 := HB0.out.size
    have hK2s := HK2.out.size
    clear c0 c1 c2 c3
    generalize W2.drew = U0 at *
    refine wpAnyH_take (i := 0) (v := ?_) rfl (by kernel_rfl) (by kernel_rfl) (by kernel_rfl) (fun _ _ _ h => h) (Or.inl ⟨by kernel_rfl, ?hy⟩) (by assumption) ?_
    case hy => intro w hSw; obtain ⟨g0, g1, g2, g3⟩ := hSw; go_simp; try with_reducible rfl
    simp only [Act.put, List.getElem_toArray, List.getElem_cons_succ, List.getElem_cons_zero, List.setIfInBounds_toArray, List.set_cons_zero, List.set_cons_succ]
    refine wpAnyH_take (i := 1) (v := ?_) rfl (by kernel_rfl) (by kernel_rfl) (by kernel_rfl) (fun _ _ _ h => h) (Or.inl ⟨by kernel_rfl, ?hy⟩) (by assumption) ?_
    case hy => intro w hSw; obtain ⟨g0, g1, g2, g3⟩ := hSw; go_simp; try with_reducible rfl
    simp only [Act.put, List.getElem_toArray, List.getElem_cons_succ, List.getElem_cons_zero, List.setIfInBounds_toArray, List.set_cons_zero, List.set_cons_succ]
    refine wpAnyH_take (i := 2) (v := ?_) rfl (by kernel_rfl) (by kernel_rfl) (by kernel_rfl) (fun _ _ _ h => h) (Or.inl ⟨by kernel_rfl, ?hy⟩) (by assumption) ?_
    case hy => intro w hSw; obtain ⟨g0, g1, g2, g3⟩ := hSw; go_simp; try with_reducible rfl
    simp only [Act.put, List.getElem_toArray, List.getElem_cons_succ, List.getElem_cons_zero, List.setIfInBounds_toArray, List.set_cons_zero, List.set_cons_succ]
    refine wpAnyH_take (i := 4) (v := ?_) rfl (by kernel_rfl) (by kernel_rfl) (by kernel_rfl) (fun _ _ _ h => h) (Or.inl ⟨by kernel_rfl, ?hy⟩) (by assumption) ?_
    case hy => intro w hSw; obtain ⟨g0, g1, g2, g3⟩ := hSw; go_simp; try with_reducible rfl
    simp only [Act.put, List.getElem_toArray, List.getElem_cons_succ, List.getElem_cons_zero, List.setIfInBounds_toArray, List.set_cons_zero, List.set_cons_succ]
    refine wpAnyH_take (i := 5) (v := ?_) rfl (by kernel_rfl) (by kernel_rfl) (by kernel_rfl) (fun _ _ _ h => h) (Or.inl ⟨by kernel_rfl, ?hy⟩) (by assumption) ?_
    case hy => intro w hSw; obtain ⟨g0, g1, g2, g3⟩ := hSw; go_simp; try with_reducible rfl
    simp only [Act.put, List.getElem_toArray, List.getElem_cons_succ, List.getElem_cons_zero, List.setIfInBounds_toArray, List.set_cons_zero, List.set_cons_succ]
    refine wpAnyH_take (i := 6) (v := ?_) rfl (by kernel_rfl) (by kernel_rfl) (by kernel_rfl) (fun _ _ _ h => h) (Or.inl ⟨by kernel_rfl, ?hy⟩) (by assumption) ?_
    case hy => intro w hSw; obtain ⟨g0, g1, g2, g3⟩ := hSw; go_simp; try with_reducible rfl
    simp only [Act.put, List.getElem_toArray, List.getElem_cons_succ, List.getElem_cons_zero, List.setIfInBounds_toArray, List.set_cons_zero, List.set_cons_succ]
    refine wpAnyH_ready (rs := [3, 8, 9]) (by kernel_rfl) (by simp) ?_
    refine AllReadyH.cons rfl (fun K hK => ?_) ?_
    · go_simp
      refine (SA.out _ HB0.out).mono ?_
      rintro e U1 ⟨rs, rfl, hrs, hM, hk⟩
      have hrl := MR.lt hM
      have HB1 := hide (bel_tr HB0.out hk)
      have hsz1 := HB1.out.size
      have M1 : Hid (Mg rs n (mu (stB l A1 F1 m) n) W2 U1) := ⟨hM, Nat.le_trans HB0.out.size hrs⟩
      have hne1 := hk.size
      refine hK.out _ _ (held HW.out (bel_tr HK2.out HB1.out)) (fun hHeld => ?_)
      clear hK K hk
      refine wpAnyH_ready (rs := [7, 8, 9]) (by kernel_rfl) (by simp) ?_
      refine AllReadyH.cons rfl (fun K hK => ?_) ?_
      · go_simp
        refine (CA.out _ HB1.out).mono ?_
        rintro e U2 ⟨rfl, hk⟩
        have HB2 := hide (bel_tr HB1.out hk)
        have hsz2 := HB2.out.size
        have M2 := hide (M1.out.bel hk)
        have hne2 := hk.size
        refine hK.out _ _ (held HW.out (bel_tr HK2.out HB2.out)) (fun hHeld => ?_)
        clear hK K hk
        refine wpAnyH_ready (rs := [8, 9]) (by kernel_rfl) (by simp) ?_
        refine AllReadyH.cons rfl (fun K hK => ?_) ?_
        · go_simp
          have hx := heap_alloc_new U2 (.cells #[.slice none 0 0] 25)
          have hk := bel_one U2 (.cells #[.slice none 0 0] 25)
          have hz : U2.heap.size < (U2.alloc (.cells #[.slice none 0 0] 25)).heap.size := by simp
          generalize U2.alloc (.cells #[.slice none 0 0] 25) = U3 at *
          have HB3 := hide (bel_tr HB2.out hk)
          have hsz3 := HB3.out.size
          have M3 := hide (M2.out.bel hk)
          have AA3 : Hid (Bg U2.heap.size (.cells #[.slice none 0 0] 25) W2 U3) := ⟨hx, HB2.out.size, hz⟩
          have hne3 := hk.size
          refine hK.out _ _ (held HW.out (bel_tr HK2.out HB3.out)) (fun hHeld => ?_)
          clear hK K hk
          refine wpAnyH_ready (rs := [9]) (by kernel_rfl) (by simp) ?_
          refine AllReadyH.cons rfl (fun K hK => ?_) ?_
          · go_simp
            have hx := heap_alloc_new U3 (.cells #[.int .i64 0] 3)
            have hk := bel_one U3 (.cells #[.int .i64 0] 3)
            have hz : U3.heap.size < (U3.alloc (.cells #[.int .i64 0] 3)).heap.size := by simp
            generalize U3.alloc (.cells #[.int .i64 0] 3) = U4 at *
            have HB4 := hide (bel_tr HB3.out hk)
            have hsz4 := HB4.out.size
            have M4 := hide (M3.out.bel hk)
            have AA4 := hide (AA3.out.bel hk)
            have BB4 : Hid (Bg U3.heap.size (.cells #[.int .i64 0] 3) W2 U4) := ⟨hx, HB3.out.size, hz⟩
            have hne4 := hk.size
            refine hK.out _ _ (held HW.out (bel_tr HK2.out HB4.out)) (fun hHeld => ?_)
            clear hK K hk
            obtain ⟨x8, f8⟩ := AA4.out.cell
            obtain ⟨x9, f9⟩ := BB4.out.cell
            have FIN := hide (a5_fin (cr := crT l F1 l.length) HB4.out M4.out AA4.out BB4.out (by omega) (by omega) (by omega))
            have y9 : (U4.setCell ⟨U2.heap.size, 0, none⟩ (.slice (some ⟨rs, 0, none⟩) n n)).cell? ⟨U3.heap.size, 0, none⟩ = some (.int .i64 0) := (World.cell?_setCell_other _ _ _ _ (by simp <;> omega)).trans x9
            have z9 : (U4.setCell ⟨U2.heap.size, 0, none⟩ (.slice (some ⟨rs, 0, none⟩) n n)).frozen? ⟨U3.heap.size, 0, none⟩ = false := by rw [World.frozen?_setCell]; exact f9
            have S8 := held_set (j := 0) (v := .slice (some ⟨rs, 0, none⟩) n n) (held HW.out (bel_tr HK2.out HB4.out)) (show w.heap.size ≠ U2.heap.size by omega)
            have S9 := held_set (j := 0) (v := .int .i64 ((crT l F1 l.length : Nat) : Int)) S8 (show w.heap.size ≠ U3.heap.size by omega)
            refine wpAnyH_ready (rs := [10]) (by kernel_rfl) (by simp) ?_
            refine AllReadyH.cons rfl (fun K hK => ?_) AllReadyH.nil
            go_simp
            refine hK.out _ _ S8 (fun hHeld => ?_)
            clear hK K
            refine wpAnyH_ready (rs := [11]) (by kernel_rfl) (by simp) ?_
            refine AllReadyH.cons rfl (fun K hK => ?_) AllReadyH.nil
            go_simp
            refine hK.out _ _ S9 (fun hHeld => ?_)
            clear hK K
            refine wpAnyH_done (by kernel_rfl) ?_ _
            clear x8 f8 x9 f9 y9 z9 S8 S9 hHeld
            refine hK' _ _ (Met.intro (hJ _ _ ?_))
            (repeat apply Exists.intro)
            exact ⟨⟨_, _, _, rfl, rfl, FIN⟩, rfl⟩
          exact AllReadyH.nil
        refine AllReadyH.cons rfl (fun K hK => ?_) ?_
        · go_simp
          have hx := heap_alloc_new U2 (.cells #[.int .i64 0] 3)
          have hk := bel_one U2 (.cells #[.int .i64 0] 3)
          have hz : U2.heap.size < (U2.alloc (.cells #[.int .i64 0] 3)).heap.size := by simp
          generalize U2.alloc (.cells #[.int .i64 0] 3) = U3 at *
          have HB3 := hide (bel_tr HB2.out hk)
          have hsz3 := HB3.out.size
          have M3 := hide (M2.out.bel hk)
          have BB3 : Hid (Bg U2.heap.size (.cells #[.int .i64 0] 3) W2 U3) := ⟨hx, HB2.out.size, hz⟩
          have hne3 := hk.size
          refine hK.out _ _ (held HW.out (bel_tr HK2.out HB3.out)) (fun hHeld => ?_)
          clear hK K hk
          refine wpAnyH_ready (rs := [8]) (by kernel_rfl) (by simp) ?_
          refine AllReadyH.cons rfl (fun K hK => ?_) ?_
          · go_simp
            have hx := heap_alloc_new U3 (.cells #[.slice none 0 0] 25)
            have hk := bel_one U3 (.cells #[.slice none 0 0] 25)
            have hz : U3.heap.size < (U3.alloc (.cells #[.slice none 0 0] 25)).heap.size := by simp
            generalize U3.alloc (.cells #[.slice none 0 0] 25) = U4 at *
            have HB4 := hide (bel_tr HB3.out hk)
            have hsz4 := HB4.out.size
            have M4 := hide (M3.out.bel hk)
            have BB4 := hide (BB3.out.bel hk)
            have AA4 : Hid (Bg U3.heap.size (.cells #[.slice none 0 0] 25) W2 U4) := ⟨hx, HB3.out.size, hz⟩
            have hne4 := hk.size
            refine hK.out _ _ (held HW.out (bel_tr HK2.out HB4.out)) (fun hHeld => ?_)
            clear hK K hk
            obtain ⟨x8, f8⟩ := AA4.out.cell
            obtain ⟨x9, f9⟩ := BB4.out.cell
            have FIN := hide (a5_fin (cr := crT l F1 l.length) HB4.out M4.out AA4.out BB4.out (by omega) (by omega) (by omega))
            have y9 : (U4.setCell ⟨U3.heap.size, 0, none⟩ (.slice (some ⟨rs, 0, none⟩) n n)).cell? ⟨U2.heap.size, 0, none⟩ = some (.int .i64 0) := (World.cell?_setCell_other _ _ _ _ (by simp <;> omega)).trans x9
            have z9 : (U4.setCell ⟨U3.heap.size, 0, none⟩ (.slice (some ⟨rs, 0, none⟩) n n)).frozen? ⟨U2.heap.size, 0, none⟩ = false := by rw [World.frozen?_setCell]; exact f9
            have S8 := held_set (j := 0) (v := .slice (some ⟨rs, 0, none⟩) n n) (held HW.out (bel_tr HK2.out HB4.out)) (show w.heap.size ≠ U3.heap.size by omega)
            have S9 := held_set (j := 0) (v := .int .i64 ((crT l F1 l.length : Nat) : Int)) S8 (show w.heap.size ≠ U2.heap.size by omega)
            refine wpAnyH_ready (rs := [10]) (by kernel_rfl) (by simp) ?_
            refine AllReadyH.cons rfl (fun K hK => ?_) AllReadyH.nil
            go_simp
            refine hK.out _ _ S8 (fun hHeld => ?_)
            clear hK K
            refine wpAnyH_ready (rs := [11]) (by kernel_rfl) (by simp) ?_
            refine AllReadyH.cons rfl (fun K hK => ?_) AllReadyH.nil
            go_simp
            refine hK.out _ _ S9 (fun hHeld => ?_)
            clear hK K
            refine wpAnyH_done (by kernel_rfl) ?_ _
            clear x8 f8 x9 f9 y9 z9 S8 S9 hHeld
            refine hK' _ _ (Met.intro (hJ _ _ ?_))
            (repeat apply Exists.intro)
            exact ⟨⟨_, _, _, rfl, rfl, FIN⟩, rfl⟩
          exact AllReadyH.nil
        exact AllReadyH.nil
      refine AllReadyH.cons rfl (fun K hK => ?_) ?_
      · go_simp
        have hx := heap_alloc_new U1 (.cells #[.slice none 0 0] 25)
        have hk := bel_one U1 (.cells #[.slice none 0 0] 25)
        have hz : U1.heap.size < (U1.alloc (.cells #[.slice none 0 0] 25)).heap.size := by simp
        generalize U1.alloc (.cells #[.slice none 0 0] 25) = U2 at *
        have HB2 := hide (bel_tr HB1.out hk)
        have hsz2 := HB2.out.size
        have M2 := hide (M1.out.bel hk)
        have AA2 : Hid (Bg U1.heap.size (.cells #[.slice none 0 0] 25) W2 U2) := ⟨hx, HB1.out.size, hz⟩
        have hne2 := hk.size
        refine hK.out _ _ (held HW.out (bel_tr HK2.out HB2.out)) (fun hHeld => ?_)
        clear hK K hk
        refine wpAnyH_ready (rs := [7, 9]) (by kernel_rfl) (by simp) ?_
        refine AllReadyH.cons rfl (fun K hK => ?_) ?_
        · go_simp
          refine (CA.out _ HB2.out).mono ?_
          rintro e U3 ⟨rfl, hk⟩
          have HB3 := hide (bel_tr HB2.out hk)
          have hsz3 := HB3.out.size
          have M3 := hide (M2.out.bel hk)
          have AA3 := hide (AA2.out.bel hk)
          have hne3 := hk.size
          refine hK.out _ _ (held HW.out (bel_tr HK2.out HB3.out)) (fun hHeld => ?_)
          clear hK K hk
          refine wpAnyH_ready (rs := [9]) (by kernel_rfl) (by simp) ?_
          refine AllReadyH.cons rfl (fun K hK => ?_) ?_
          · go_simp
            have hx := heap_alloc_new U3 (.cells #[.int .i64 0] 3)
            have hk := bel_one U3 (.cells #[.int .i64 0] 3)
            have hz : U3.heap.size < (U3.alloc (.cells #[.int .i64 0] 3)).heap.size := by simp
            generalize U3.alloc (.cells #[.int .i64 0] 3) = U4 at *
            have HB4 := hide (bel_tr HB3.out hk)
            have hsz4 := HB4.out.size
            have M4 := hide (M3.out.bel hk)
            have AA4 := hide (AA3.out.bel hk)
            have BB4 : Hid (Bg U3.heap.size (.cells #[.int .i64 0] 3) W2 U4) := ⟨hx, HB3.out.size, hz⟩
            have hne4 := hk.size
            refine hK.out _ _ (held HW.out (bel_tr HK2.out HB4.out)) (fun hHeld => ?_)
            clear hK K hk
            obtain ⟨x8, f8⟩ := AA4.out.cell
            obtain ⟨x9, f9⟩ := BB4.out.cell
            have FIN := hide (a5_fin (cr := crT l F1 l.length) HB4.out M4.out AA4.out BB4.out (by omega) (by omega) (by omega))
            have y9 : (U4.setCell ⟨U1.heap.size, 0, none⟩ (.slice (some ⟨rs, 0, none⟩) n n)).cell? ⟨U3.heap.size, 0, none⟩ = some (.int .i64 0) := (World.cell?_setCell_other _ _ _ _ (by simp <;> omega)).trans x9
            have z9 : (U4.setCell ⟨U1.heap.size, 0, none⟩ (.slice (some ⟨rs, 0, none⟩) n n)).frozen? ⟨U3.heap.size, 0, none⟩ = false := by rw [World.frozen?_setCell]; exact f9
            have S8 := held_set (j := 0) (v := .slice (some ⟨rs, 0, none⟩) n n) (held HW.out (bel_tr HK2.out HB4.out)) (show w.heap.size ≠ U1.heap.size by omega)
            have S9 := held_set (j := 0) (v := .int .i64 ((crT l F1 l.length : Nat) : Int)) S8 (show w.heap.size ≠ U3.heap.size by omega)
            refine wpAnyH_ready (rs := [10]) (by kernel_rfl) (by simp) ?_
            refine AllReadyH.cons rfl (fun K hK => ?_) AllReadyH.nil
            go_simp
            refine hK.out _ _ S8 (fun hHeld => ?_)
            clear hK K
            refine wpAnyH_ready (rs := [11]) (by kernel_rfl) (by simp) ?_
            refine AllReadyH.cons rfl (fun K hK => ?_) AllReadyH.nil
            go_simp
            refine hK.out _ _ S9 (fun hHeld => ?_)
            clear hK K
            refine wpAnyH_done (by kernel_rfl) ?_ _
            clear x8 f8 x9 f9 y9 z9 S8 S9 hHeld
            refine hK' _ _ (Met.intro (hJ _ _ ?_))
            (repeat apply Exists.intro)
            exact ⟨⟨_, _, _, rfl, rfl, FIN⟩, rfl⟩
          exact AllReadyH.nil
        refine AllReadyH.cons rfl (fun K hK => ?_) ?_
        · go_simp
          have hx := heap_alloc_new U2 (.cells #[.int .i64 0] 3)
          have hk := bel_one U2 (.cells #[.int .i64 0] 3)
          have hz : U2.heap.size < (U2.alloc (.cells #[.int .i64 0] 3)).heap.size := by simp
          generalize U2.alloc (.cells #[.int .i64 0] 3) = U3 at *
          have HB3 := hide (bel_tr HB2.out hk)
          have hsz3 := HB3.out.size
          have M3 := hide (M2.out.bel hk)
          have AA3 := hide (AA2.out.bel hk)
          have BB3 : Hid (Bg U2.heap.size (.cells #[.int .i64 0] 3) W2 U3) := ⟨hx, HB2.out.size, hz⟩
          have hne3 := hk.size
          refine hK.out _ _ (held HW.out (bel_tr HK2.out HB3.out)) (fun hHeld => ?_)
          clear hK K hk
          refine wpAnyH_ready (rs := [7]) (by kernel_rfl) (by simp) ?_
          refine AllReadyH.cons rfl (fun K hK => ?_) ?_
          · go_simp
            refine (CA.out _ HB3.out).mono ?_
            rintro e U4 ⟨rfl, hk⟩
            have HB4 := hide (bel_tr HB3.out hk)
            have hsz4 := HB4.out.size
            have M4 := hide (M3.out.bel hk)
            have AA4 := hide (AA3.out.bel hk)
            have BB4 := hide (BB3.out.bel hk)
            have hne4 := hk.size
            refine hK.out _ _ (held HW.out (bel_tr HK2.out HB4.out)) (fun hHeld => ?_)
            clear hK K hk
            obtain ⟨x8, f8⟩ := AA4.out.cell
            obtain ⟨x9, f9⟩ := BB4.out.cell
            have FIN := hide (a5_fin (cr := crT l F1 l.length) HB4.out M4.out AA4.out BB4.out (by omega) (by omega) (by omega))
            have y9 : (U4.setCell ⟨U1.heap.size, 0, none⟩ (.slice (some ⟨rs, 0, none⟩) n n)).cell? ⟨U2.heap.size, 0, none⟩ = some (.int .i64 0) := (World.cell?_setCell_other _ _ _ _ (by simp <;> omega)).trans x9
            have z9 : (U4.setCell ⟨U1.heap.size, 0, none⟩ (.slice (some ⟨rs, 0, none⟩) n n)).frozen? ⟨U2.heap.size, 0, none⟩ = false := by rw [World.frozen?_setCell]; exact f9
            have S8 := held_set (j := 0) (v := .slice (some ⟨rs, 0, none⟩) n n) (held HW.out (bel_tr HK2.out HB4.out)) (show w.heap.size ≠ U1.heap.size by omega)
            have S9 := held_set (j := 0) (v := .int .i64 ((crT l F1 l.length : Nat) : Int)) S8 (show w.heap.size ≠ U2.heap.size by omega)
            refine wpAnyH_ready (rs := [10]) (by kernel_rfl) (by simp) ?_
            refine AllReadyH.cons rfl (fun K hK => ?_) AllReadyH.nil
            go_simp
            refine hK.out _ _ S8 (fun hHeld => ?_)
            clear hK K
            refine wpAnyH_ready (rs := [11]) (by kernel_rfl) (by simp) ?_
            refine AllReadyH.cons rfl (fun K hK => ?_) AllReadyH.nil
            go_simp
            refine hK.out _ _ S9 (fun hHeld => ?_)
            clear hK K
            refine wpAnyH_done (by kernel_rfl) ?_ _
            clear x8 f8 x9 f9 y9 z9 S8 S9 hHeld
            refine hK' _ _ (Met.intro (hJ _ _ ?_))
            (repeat apply Exists.intro)
            exact ⟨⟨_, _, _, rfl, rfl, FIN⟩, rfl⟩
          exact AllReadyH.nil
        exact AllReadyH.nil
      refine AllReadyH.cons rfl (fun K hK => ?_) ?_
      · go_simp
        have hx := heap_alloc_new U1 (.cells #[.int .i64 0] 3)
        have hk := bel_one U1 (.cells #[.int .i64 0] 3)
        have hz : U1.heap.size < (U1.alloc (.cells #[.int .i64 0] 3)).heap.size := by simp
        generalize U1.alloc (.cells #[.int .i64 0] 3) = U2 at *
        have HB2 := hide (bel_tr HB1.out hk)
        have hsz2 := HB2.out.size
        have M2 := hide (M1.out.bel hk)
        have BB2 : Hid (Bg U1.heap.size (.cells #[.int .i64 0] 3) W2 U2) := ⟨hx, HB1.out.size, hz⟩
        have hne2 := hk.size
        refine hK.out _ _ (held HW.out (bel_tr HK2.out HB2.out)) (fun hHeld => ?_)
        clear hK K hk
        refine wpAnyH_ready (rs := [7, 8]) (by kernel_rfl) (by simp) ?_
        refine AllReadyH.cons rfl (fun K hK => ?_) ?_
        · go_simp
          refine (CA.out _ HB2.out).mono ?_
          rintro e U3 ⟨rfl, hk⟩
          have HB3 := hide (bel_tr HB2.out hk)
          have hsz3 := HB3.out.size
          have M3 := hide (M2.out.bel hk)
          have BB3 := hide (BB2.out.bel hk)
          have hne3 := hk.size
          refine hK.out _ _ (held HW.out (bel_tr HK2.out HB3.out)) (fun hHeld => ?_)
          clear hK K hk
          refine wpAnyH_ready (rs := [8]) (by kernel_rfl) (by simp) ?_
          refine AllReadyH.cons rfl (fun K hK => ?_) ?_
          · go_simp
            have hx := heap_alloc_new U3 (.cells #[.slice none 0 0] 25)
            have hk := bel_one U3 (.cells #[.slice none 0 0] 25)
            have hz : U3.heap.size < (U3.alloc (.cells #[.slice none 0 0] 25)).heap.size := by simp
            generalize U3.alloc (.cells #[.slice none 0 0] 25) = U4 at *
            have HB4 := hide (bel_tr HB3.out hk)
            have hsz4 := HB4.out.size
            have M4 := hide (M3.out.bel hk)
            have BB4 := hide (BB3.out.bel hk)
            have AA4 : Hid (Bg U3.heap.size (.cells #[.slice none 0 0] 25) W2 U4) := ⟨hx, HB3.out.size, hz⟩
            have hne4 := hk.size
            refine hK.out _ _ (held HW.out (bel_tr HK2.out HB4.out)) (fun hHeld => ?_)
            clear hK K hk
            obtain ⟨x8, f8⟩ := AA4.out.cell
            obtain ⟨x9, f9⟩ := BB4.out.cell
            have FIN := hide (a5_fin (cr := crT l F1 l.length) HB4.out M4.out AA4.out BB4.out (by omega) (by omega) (by omega))
            have y9 : (U4.setCell ⟨U3.heap.size, 0, none⟩ (.slice (some ⟨rs, 0, none⟩) n n)).cell? ⟨U1.heap.size, 0, none⟩ = some (.int .i64 0) := (World.cell?_setCell_other _ _ _ _ (by simp <;> omega)).trans x9
            have z9 : (U4.setCell ⟨U3.heap.size, 0, none⟩ (.slice (some ⟨rs, 0, none⟩) n n)).frozen? ⟨U1.heap.size, 0, none⟩ = false := by rw [World.frozen?_setCell]; exact f9
            have S8 := held_set (j := 0) (v := .slice (some ⟨rs, 0, none⟩) n n) (held HW.out (bel_tr HK2.out HB4.out)) (show w.heap.size ≠ U3.heap.size by omega)
            have S9 := held_set (j := 0) (v := .int .i64 ((crT l F1 l.length : Nat) : Int)) S8 (show w.heap.size ≠ U1.heap.size by omega)
            refine wpAnyH_ready (rs := [10]) (by kernel_rfl) (by simp) ?_
            refine AllReadyH.cons rfl (fun K hK => ?_) AllReadyH.nil
            go_simp
            refine hK.out _ _ S8 (fun hHeld => ?_)
            clear hK K
            refine wpAnyH_ready (rs := [11]) (by kernel_rfl) (by simp) ?_
            refine AllReadyH.cons rfl (fun K hK => ?_) AllReadyH.nil
            go_simp
            refine hK.out _ _ S9 (fun hHeld => ?_)
            clear hK K
            refine wpAnyH_done (by kernel_rfl) ?_ _
            clear x8 f8 x9 f9 y9 z9 S8 S9 hHeld
            refine hK' _ _ (Met.intro (hJ _ _ ?_))
            (repeat apply Exists.intro)
            exact ⟨⟨_, _, _, rfl, rfl, FIN⟩, rfl⟩
          exact AllReadyH.nil
        refine AllReadyH.cons rfl (fun K hK => ?_) ?_
        · go_simp
          have hx := heap_alloc_new U2 (.cells #[.slice none 0 0] 25)
          have hk := bel_one U2 (.cells #[.slice none 0 0] 25)
          have hz : U2.heap.size < (U2.alloc (.cells #[.slice none 0 0] 25)).heap.size := by simp
          generalize U2.alloc (.cells #[.slice none 0 0] 25) = U3 at *
          have HB3 := hide (bel_tr HB2.out hk)
          have hsz3 := HB3.out.size
          have M3 := hide (M2.out.bel hk)
          have BB3 := hide (BB2.out.bel hk)
          have AA3 : Hid (Bg U2.heap.size (.cells #[.slice none 0 0] 25) W2 U3) := ⟨hx, HB2.out.size, hz⟩
          have hne3 := hk.size
          refine hK.out _ _ (held HW.out (bel_tr HK2.out HB3.out)) (fun hHeld => ?_)
          clear hK K hk
          refine wpAnyH_ready (rs := [7]) (by kernel_rfl) (by simp) ?_
          refine AllReadyH.cons rfl (fun K hK => ?_) ?_
          · go_simp
            refine (CA.out _ HB3.out).mono ?_
            rintro e U4 ⟨rfl, hk⟩
            have HB4 := hide (bel_tr HB3.out hk)
            have hsz4 := HB4.out.size
            have M4 := hide (M3.out.bel hk)
            have BB4 := hide (BB3.out.bel hk)
            have AA4 := hide (AA3.out.bel hk)
            have hne4 := hk.size
            refine hK.out _ _ (held HW.out (bel_tr HK2.out HB4.out)) (fun hHeld => ?_)
            clear hK K hk
            obtain ⟨x8, f8⟩ := AA4.out.cell
            obtain ⟨x9, f9⟩ := BB4.out.cell
            have FIN := hide (a5_fin (cr := crT l F1 l.length) HB4.out M4.out AA4.out BB4.out (by omega) (by omega) (by omega))
            have y9 : (U4.setCell ⟨U2.heap.size, 0, none⟩ (.slice (some ⟨rs, 0, none⟩) n n)).cell? ⟨U1.heap.size, 0, none⟩ = some (.int .i64 0) := (World.cell?_setCell_other _ _ _ _ (by simp <;> omega)).trans x9
            have z9 : (U4.setCell ⟨U2.heap.size, 0, none⟩ (.slice (some ⟨rs, 0, none⟩) n n)).frozen? ⟨U1.heap.size, 0, none⟩ = false := by rw [World.frozen?_setCell]; exact f9
            have S8 := held_set (j := 0) (v := .slice (some ⟨rs, 0, none⟩) n n) (held HW.out (bel_tr HK2.out HB4.out)) (show w.heap.size ≠ U2.heap.size by omega)
            have S9 := held_set (j := 0) (v := .int .i64 ((crT l F1 l.length : Nat) : Int)) S8 (show w.heap.size ≠ U1.heap.size by omega)
            refine wpAnyH_ready (rs := [10]) (by kernel_rfl) (by simp) ?_
            refine AllReadyH.cons rfl (fun K hK => ?_) AllReadyH.nil
            go_simp
            refine hK.out _ _ S8 (fun hHeld => ?_)
            clear hK K
            refine wpAnyH_ready (rs := [11]) (by kernel_rfl) (by simp) ?_
            refine AllReadyH.cons rfl (fun K hK => ?_) AllReadyH.nil
            go_simp
            refine hK.out _ _ S9 (fun hHeld => ?_)
            clear hK K
            refine wpAnyH_done (by kernel_rfl) ?_ _
            clear x8 f8 x9 f9 y9 z9 S8 S9 hHeld
            refine hK' _ _ (Met.intro (hJ _ _ ?_))
            (repeat apply Exists.intro)
            exact ⟨⟨_, _, _, rfl, rfl, FIN⟩, rfl⟩
          exact AllReadyH.nil
        exact AllReadyH.nil
      exact AllReadyH.nil
    refine AllReadyH.cons rfl (fun K hK => ?_) ?_
    · go_simp
      have hx := heap_alloc_new U0 (.cells #[.slice none 0 0] 25)
      have hk := bel_one U0 (.cells #[.slice none 0 0] 25)
      have hz : U0.heap.size < (U0.alloc (.cells #[.slice none 0 0] 25)).heap.size := by simp
      generalize U0.alloc (.cells #[.slice none 0 0] 25) = U1 at *
      have HB1 := hide (bel_tr HB0.out hk)
      have hsz1 := HB1.out.size
      have AA1 : Hid (Bg U0.heap.size (.cells #[.slice none 0 0] 25) W2 U1) := ⟨hx, HB0.out.size, hz⟩
      have hne1 := hk.size
      refine hK.out _ _ (held HW.out (bel_tr HK2.out HB1.out)) (fun hHeld => ?_)
      clear hK K hk
      refine wpAnyH_ready (rs := [3, 9]) (by kernel_rfl) (by simp) ?_
      refine AllReadyH.cons rfl (fun K hK => ?_) ?_
      · go_simp
        refine (SA.out _ HB1.out).mono ?_
        rintro e U2 ⟨rs, rfl, hrs, hM, hk⟩
        have hrl := MR.lt hM
        have HB2 := hide (bel_tr HB1.out hk)
        have hsz2 := HB2.out.size
        have AA2 := hide (AA1.out.bel hk)
        have M2 : Hid (Mg rs n (mu (stB l A1 F1 m) n) W2 U2) := ⟨hM, Nat.le_trans HB1.out.size hrs⟩
        have hne2 := hk.size
        refine hK.out _ _ (held HW.out (bel_tr HK2.out HB2.out)) (fun hHeld => ?_)
        clear hK K hk
        refine wpAnyH_ready (rs := [7, 9]) (by kernel_rfl) (by simp) ?_
        refine AllReadyH.cons rfl (fun K hK => ?_) ?_
        · go_simp
          refine (CA.out _ HB2.out).mono ?_
          rintro e U3 ⟨rfl, hk⟩
          have HB3 := hide (bel_tr HB2.out hk)
          have hsz3 := HB3.out.size
          have AA3 := hide (AA2.out.bel hk)
          have M3 := hide (M2.out.bel hk)
          have hne3 := hk.size
          refine hK.out _ _ (held HW.out (bel_tr HK2.out HB3.out)) (fun hHeld => ?_)
          clear hK K hk
          refine wpAnyH_ready (rs := [9]) (by kernel_rfl) (by simp) ?_
          refine AllReadyH.cons rfl (fun K hK => ?_) ?_
          · go_simp
            have hx := heap_alloc_new U3 (.cells #[.int .i64 0] 3)
            have hk := bel_one U3 (.cells #[.int .i64 0] 3)
            have hz : U3.heap.size < (U3.alloc (.cells #[.int .i64 0] 3)).heap.size := by simp
            generalize U3.alloc (.cells #[.int .i64 0] 3) = U4 at *
            have HB4 := hide (bel_tr HB3.out hk)
            have hsz4 := HB4.out.size
            have AA4 := hide (AA3.out.bel hk)
            have M4 := hide (M3.out.bel hk)
            have BB4 : Hid (Bg U3.heap.size (.cells #[.int .i64 0] 3) W2 U4) := ⟨hx, HB3.out.size, hz⟩
            have hne4 := hk.size
            refine hK.out _ _ (held HW.out (bel_tr HK2.out HB4.out)) (fun hHeld => ?_)
            clear hK K hk
            obtain ⟨x8, f8⟩ := AA4.out.cell
            obtain ⟨x9, f9⟩ := BB4.out.cell
            have FIN := hide (a5_fin (cr := crT l F1 l.length) HB4.out M4.out AA4.out BB4.out (by omega) (by omega) (by omega))
            have y9 : (U4.setCell ⟨U0.heap.size, 0, none⟩ (.slice (some ⟨rs, 0, none⟩) n n)).cell? ⟨U3.heap.size, 0, none⟩ = some (.int .i64 0) := (World.cell?_setCell_other _ _ _ _ (by simp <;> omega)).trans x9
            have z9 : (U4.setCell ⟨U0.heap.size, 0, none⟩ (.slice (some ⟨rs, 0, none⟩) n n)).frozen? ⟨U3.heap.size, 0, none⟩ = false := by rw [World.frozen?_setCell]; exact f9
            have S8 := held_set (j := 0) (v := .slice (some ⟨rs, 0, none⟩) n n) (held HW.out (bel_tr HK2.out HB4.out)) (show w.heap.size ≠ U0.heap.size by omega)
            have S9 := held_set (j := 0) (v := .int .i64 ((crT l F1 l.length : Nat) : Int)) S8 (show w.heap.size ≠ U3.heap.size by omega)
            refine wpAnyH_ready (rs := [10]) (by kernel_rfl) (by simp) ?_
            refine AllReadyH.cons rfl (fun K hK => ?_) AllReadyH.nil
            go_simp
            refine hK.out _ _ S8 (fun hHeld => ?_)
            clear hK K
            refine wpAnyH_ready (rs := [11]) (by kernel_rfl) (by simp) ?_
            refine AllReadyH.cons rfl (fun K hK => ?_) AllReadyH.nil
            go_simp
            refine hK.out _ _ S9 (fun hHeld => ?_)
            clear hK K
            refine wpAnyH_done (by kernel_rfl) ?_ _
            clear x8 f8 x9 f9 y9 z9 S8 S9 hHeld
            refine hK' _ _ (Met.intro (hJ _ _ ?_))
            (repeat apply Exists.intro)
            exact ⟨⟨_, _, _, rfl, rfl, FIN⟩, rfl⟩
          exact AllReadyH.nil
        refine AllReadyH.cons rfl (fun K hK => ?_) ?_
        · go_simp
          have hx := heap_alloc_new U2 (.cells #[.int .i64 0] 3)
          have hk := bel_one U2 (.cells #[.int .i64 0] 3)
          have hz : U2.heap.size < (U2.alloc (.cells #[.int .i64 0] 3)).heap.size := by simp
          generalize U2.alloc (.cells #[.int .i64 0] 3) = U3 at *
          have HB3 := hide (bel_tr HB2.out hk)
          have hsz3 := HB3.out.size
          have AA3 := hide (AA2.out.bel hk)
          have M3 := hide (M2.out.bel hk)
          have BB3 : Hid (Bg U2.heap.size (.cells #[.int .i64 0] 3) W2 U3) := ⟨hx, HB2.out.size, hz⟩
          have hne3 := hk.size
          refine hK.out _ _ (held HW.out (bel_tr HK2.out HB3.out)) (fun hHeld => ?_)
          clear hK K hk
          refine wpAnyH_ready (rs := [7]) (by kernel_rfl) (by simp) ?_
          refine AllReadyH.cons rfl (fun K hK => ?_) ?_
          · go_simp
            refine (CA.out _ HB3.out).mono ?_
            rintro e U4 ⟨rfl, hk⟩
            have HB4 := hide (bel_tr HB3.out hk)
            have hsz4 := HB4.out.size
            have AA4 := hide (AA3.out.bel hk)
            have M4 := hide (M3.out.bel hk)
            have BB4 := hide (BB3.out.bel hk)
            have hne4 := hk.size
            refine hK.out _ _ (held HW.out (bel_tr HK2.out HB4.out)) (fun hHeld => ?_)
            clear hK K hk
            obtain ⟨x8, f8⟩ := AA4.out.cell
            obtain ⟨x9, f9⟩ := BB4.out.cell
            have FIN := hide (a5_fin (cr := crT l F1 l.length) HB4.out M4.out AA4.out BB4.out (by omega) (by omega) (by omega))
            have y9 : (U4.setCell ⟨U0.heap.size, 0, none⟩ (.slice (some ⟨rs, 0, none⟩) n n)).cell? ⟨U2.heap.size, 0, none⟩ = some (.int .i64 0) := (World.cell?_setCell_other _ _ _ _ (by simp <;> omega)).trans x9
            have z9 : (U4.setCell ⟨U0.heap.size, 0, none⟩ (.slice (some ⟨rs, 0, none⟩) n n)).frozen? ⟨U2.heap.size, 0, none⟩ = false := by rw [World.frozen?_setCell]; exact f9
            have S8 := held_set (j := 0) (v := .slice (some ⟨rs, 0, none⟩) n n) (held HW.out (bel_tr HK2.out HB4.out)) (show w.heap.size ≠ U0.heap.size by omega)
            have S9 := held_set (j := 0) (v := .int .i64 ((crT l F1 l.length : Nat) : Int)) S8 (show w.heap.size ≠ U2.heap.size by omega)
            refine wpAnyH_ready (rs := [10]) (by kernel_rfl) (by simp) ?_
            refine AllReadyH.cons rfl (fun K hK => ?_) AllReadyH.nil
            go_simp
            refine hK.out _ _ S8 (fun hHeld => ?_)
            clear hK K
            refine wpAnyH_ready (rs := [11]) (by kernel_rfl) (by simp) ?_
            refine AllReadyH.cons rfl (fun K hK => ?_) AllReadyH.nil
            go_simp
            refine hK.out _ _ S9 (fun hHeld => ?_)
            clear hK K
            refine wpAnyH_done (by kernel_rfl) ?_ _
            clear x8 f8 x9 f9 y9 z9 S8 S9 hHeld
            refine hK' _ _ (Met.intro (hJ _ _ ?_))
            (repeat apply Exists.intro)
            exact ⟨⟨_, _, _, rfl, rfl, FIN⟩, rfl⟩
          exact AllReadyH.nil
        exact AllReadyH.nil
      refine AllReadyH.cons rfl (fun K hK => ?_) ?_
      · go_simp
        have hx := heap_alloc_new U1 (.cells #[.int .i64 0] 3)
        have hk := bel_one U1 (.cells #[.int .i64 0] 3)
        have hz : U1.heap.size < (U1.alloc (.cells #[.int .i64 0] 3)).heap.size := by simp
        generalize U1.alloc (.cells #[.int .i64 0] 3) = U2 at *
        have HB2 := hide (bel_tr HB1.out hk)
        have hsz2 := HB2.out.size
        have AA2 := hide (AA1.out.bel hk)
        have BB2 : Hid (Bg U1.heap.size (.cells #[.int .i64 0] 3) W2 U2) := ⟨hx, HB1.out.size, hz⟩
        have hne2 := hk.size
        refine hK.out _ _ (held HW.out (bel_tr HK2.out HB2.out)) (fun hHeld => ?_)
        clear hK K hk
        refine wpAnyH_ready (rs := [3]) (by kernel_rfl) (by simp) ?_
        refine AllReadyH.cons rfl (fun K hK => ?_) ?_
        · go_simp
          refine (SA.out _ HB2.out).mono ?_
          rintro e U3 ⟨rs, rfl, hrs, hM, hk⟩
          have hrl := MR.lt hM
          have HB3 := hide (bel_tr HB2.out hk)
          have hsz3 := HB3.out.size
          have AA3 := hide (AA2.out.bel hk)
          have BB3 := hide (BB2.out.bel hk)
          have M3 : Hid (Mg rs n (mu (stB l A1 F1 m) n) W2 U3) := ⟨hM, Nat.le_trans HB2.out.size hrs⟩
          have hne3 := hk.size
          refine hK.out _ _ (held HW.out (bel_tr HK2.out HB3.out)) (fun hHeld => ?_)
          clear hK K hk
          refine wpAnyH_ready (rs := [7]) (by kernel_rfl) (by simp) ?_
          refine AllReadyH.cons rfl (fun K hK => ?_) ?_
          · go_simp
            refine (CA.out _ HB3.out).mono ?_
            rintro e U4 ⟨rfl, hk⟩
            have HB4 := hide (bel_tr HB3.out hk)
            have hsz4 := HB4.out.size
            have AA4 := hide (AA3.out.bel hk)
            have BB4 := hide (BB3.out.bel hk)
            have M4 := hide (M3.out.bel hk)
            have hne4 := hk.size
            refine hK.out _ _ (held HW.out (bel_tr HK2.out HB4.out)) (fun hHeld => ?_)
            clear hK K hk
            obtain ⟨x8, f8⟩ := AA4.out.cell
            obtain ⟨x9, f9⟩ := BB4.out.cell
            have FIN := hide (a5_fin (cr := crT l F1 l.length) HB4.out M4.out AA4.out BB4.out (by omega) (by omega) (by omega))
            have y9 : (U4.setCell ⟨U0.heap.size, 0, none⟩ (.slice (some ⟨rs, 0, none⟩) n n)).cell? ⟨U1.heap.size, 0, none⟩ = some (.int .i64 0) := (World.cell?_setCell_other _ _ _ _ (by simp <;> omega)).trans x9
            have z9 : (U4.setCell ⟨U0.heap.size, 0, none⟩ (.slice (some ⟨rs, 0, none⟩) n n)).frozen? ⟨U1.heap.size, 0, none⟩ = false := by rw [World.frozen?_setCell]; exact f9
            have S8 := held_set (j := 0) (v := .slice (some ⟨rs, 0, none⟩) n n) (held HW.out (bel_tr HK2.out HB4.out)) (show w.heap.size ≠ U0.heap.size by omega)
            have S9 := held_set (j := 0) (v := .int .i64 ((crT l F1 l.length : Nat) : Int)) S8 (show w.heap.size ≠ U1.heap.size by omega)
            refine wpAnyH_ready (rs := [10]) (by kernel_rfl) (by simp) ?_
            refine AllReadyH.cons rfl (fun K hK => ?_) AllReadyH.nil
            go_simp
            refine hK.out _ _ S8 (fun hHeld => ?_)
            clear hK K
            refine wpAnyH_ready (rs := [11]) (by kernel_rfl) (by simp) ?_
            refine AllReadyH.cons rfl (fun K hK => ?_) AllReadyH.nil
            go_simp
            refine hK.out _ _ S9 (fun hHeld => ?_)
            clear hK K
            refine wpAnyH_done (by kernel_rfl) ?_ _
            clear x8 f8 x9 f9 y9 z9 S8 S9 hHeld
            refine hK' _ _ (Met.intro (hJ _ _ ?_))
            (repeat apply Exists.intro)
            exact ⟨⟨_, _, _, rfl, rfl, FIN⟩, rfl⟩
          exact AllReadyH.nil
        exact AllReadyH.nil
      exact AllReadyH.nil
    refine AllReadyH.cons rfl (fun K hK => ?_) ?_
    · go_simp
      have hx := heap_alloc_new U0 (.cells #[.int .i64 0] 3)
      have hk := bel_one U0 (.cells #[.int .i64 0] 3)
      have hz : U0.heap.size < (U0.alloc (.cells #[.int .i64 0] 3)).heap.size := by simp
      generalize U0.alloc (.cells #[.int .i64 0] 3) = U1 at *
      have HB1 := hide (bel_tr HB0.out hk)
      have hsz1 := HB1.out.size
      have BB1 : Hid (Bg U0.heap.size (.cells #[.int .i64 0] 3) W2 U1) := ⟨hx, HB0.out.size, hz⟩
      have hne1 := hk.size
      refine hK.out _ _ (held HW.out (bel_tr HK2.out HB1.out)) (fun hHeld => ?_)
      clear hK K hk
      refine wpAnyH_ready (rs := [3, 8]) (by kernel_rfl) (by simp) ?_
      refine AllReadyH.cons rfl (fun K hK => ?_) ?_
      · go_simp
        refine (SA.out _ HB1.out).mono ?_
        rintro e U2 ⟨rs, rfl, hrs, hM, hk⟩
        have hrl := MR.lt hM
        have HB2 := hide (bel_tr HB1.out hk)
        have hsz2 := HB2.out.size
        have BB2 := hide (BB1.out.bel hk)
        have M2 : Hid (Mg rs n (mu (stB l A1 F1 m) n) W2 U2) := ⟨hM, Nat.le_trans HB1.out.size hrs⟩
        have hne2 := hk.size
        refine hK.out _ _ (held HW.out (bel_tr HK2.out HB2.out)) (fun hHeld => ?_)
        clear hK K hk
        refine wpAnyH_ready (rs := [7, 8]) (by kernel_rfl) (by simp) ?_
        refine AllReadyH.cons rfl (fun K hK => ?_) ?_
        · go_simp
          refine (CA.out _ HB2.out).mono ?_
          rintro e U3 ⟨rfl, hk⟩
          have HB3 := hide (bel_tr HB2.out hk)
          have hsz3 := HB3.out.size
          have BB3 := hide (BB2.out.bel hk)
          have M3 := hide (M2.out.bel hk)
          have hne3 := hk.size
          refine hK.out _ _ (held HW.out (bel_tr HK2.out HB3.out)) (fun hHeld => ?_)
          clear hK K hk
          refine wpAnyH_ready (rs := [8]) (by kernel_rfl) (by simp) ?_
          refine AllReadyH.cons rfl (fun K hK => ?_) ?_
          · go_simp
            have hx := heap_alloc_new U3 (.cells #[.slice none 0 0] 25)
            have hk := bel_one U3 (.cells #[.slice none 0 0] 25)
            have hz : U3.heap.size < (U3.alloc (.cells #[.slice none 0 0] 25)).heap.size := by simp
            generalize U3.alloc (.cells #[.slice none 0 0] 25) = U4 at *
            have HB4 := hide (bel_tr HB3.out hk)
            have hsz4 := HB4.out.size
            have BB4 := hide (BB3.out.bel hk)
            have M4 := hide (M3.out.bel hk)
            have AA4 : Hid (Bg U3.heap.size (.cells #[.slice none 0 0] 25) W2 U4) := ⟨hx, HB3.out.size, hz⟩
            have hne4 := hk.size
            refine hK.out _ _ (held HW.out (bel_tr HK2.out HB4.out)) (fun hHeld => ?_)
            clear hK K hk
            obtain ⟨x8, f8⟩ := AA4.out.cell
            obtain ⟨x9, f9⟩ := BB4.out.cell
            have FIN := hide (a5_fin (cr := crT l F1 l.length) HB4.out M4.out AA4.out BB4.out (by omega) (by omega) (by omega))
            have y9 : (U4.setCell ⟨U3.heap.size, 0, none⟩ (.slice (some ⟨rs, 0, none⟩) n n)).cell? ⟨U0.heap.size, 0, none⟩ = some (.int .i64 0) := (World.cell?_setCell_other _ _ _ _ (by simp <;> omega)).trans x9
            have z9 : (U4.setCell ⟨U3.heap.size, 0, none⟩ (.slice (some ⟨rs, 0, none⟩) n n)).frozen? ⟨U0.heap.size, 0, none⟩ = false := by rw [World.frozen?_setCell]; exact f9
            have S8 := held_set (j := 0) (v := .slice (some ⟨rs, 0, none⟩) n n) (held HW.out (bel_tr HK2.out HB4.out)) (show w.heap.size ≠ U3.heap.size by omega)
            have S9 := held_set (j := 0) (v := .int .i64 ((crT l F1 l.length : Nat) : Int)) S8 (show w.heap.size ≠ U0.heap.size by omega)
            refine wpAnyH_ready (rs := [10]) (by kernel_rfl) (by simp) ?_
            refine AllReadyH.cons rfl (fun K hK => ?_) AllReadyH.nil
            go_simp
            refine hK.out _ _ S8 (fun hHeld => ?_)
            clear hK K
            refine wpAnyH_ready (rs := [11]) (by kernel_rfl) (by simp) ?_
            refine AllReadyH.cons rfl (fun K hK => ?_) AllReadyH.nil
            go_simp
            refine hK.out _ _ S9 (fun hHeld => ?_)
            clear hK K
            refine wpAnyH_done (by kernel_rfl) ?_ _
            clear x8 f8 x9 f9 y9 z9 S8 S9 hHeld
            refine hK' _ _ (Met.intro (hJ _ _ ?_))
            (repeat apply Exists.intro)
            exact ⟨⟨_, _, _, rfl, rfl, FIN⟩, rfl⟩
          exact AllReadyH.nil
        refine AllReadyH.cons rfl (fun K hK => ?_) ?_
        · go_simp
          have hx := heap_alloc_new U2 (.cells #[.slice none 0 0] 25)
          have hk := bel_one U2 (.cells #[.slice none 0 0] 25)
          have hz : U2.heap.size < (U2.alloc (.cells #[.slice none 0 0] 25)).heap.size := by simp
          generalize U2.alloc (.cells #[.slice none 0 0] 25) = U3 at *
          have HB3 := hide (bel_tr HB2.out hk)
          have hsz3 := HB3.out.size
          have BB3 := hide (BB2.out.bel hk)
          have M3 := hide (M2.out.bel hk)
          have AA3 : Hid (Bg U2.heap.size (.cells #[.slice none 0 0] 25) W2 U3) := ⟨hx, HB2.out.size, hz⟩
          have hne3 := hk.size
          refine hK.out _ _ (held HW.out (bel_tr HK2.out HB3.out)) (fun hHeld => ?_)
          clear hK K hk
          refine wpAnyH_ready (rs := [7]) (by kernel_rfl) (by simp) ?_
          refine AllReadyH.cons rfl (fun K hK => ?_) ?_
          · go_simp
            refine (CA.out _ HB3.out).mono ?_
            rintro e U4 ⟨rfl, hk⟩
            have HB4 := hide (bel_tr HB3.out hk)
            have hsz4 := HB4.out.size
            have BB4 := hide (BB3.out.bel hk)
            have M4 := hide (M3.out.bel hk)
            have AA4 := hide (AA3.out.bel hk)
            have hne4 := hk.size
            refine hK.out _ _ (held HW.out (bel_tr HK2.out HB4.out)) (fun hHeld => ?_)
            clear hK K hk
            obtain ⟨x8, f8⟩ := AA4.out.cell
            obtain ⟨x9, f9⟩ := BB4.out.cell
            have FIN := hide (a5_fin (cr := crT l F1 l.length) HB4.out M4.out AA4.out BB4.out (by omega) (by omega) (by omega))
            have y9 : (U4.setCell ⟨U2.heap.size, 0, none⟩ (.slice (some ⟨rs, 0, none⟩) n n)).cell? ⟨U0.heap.size, 0, none⟩ = some (.int .i64 0) := (World.cell?_setCell_other _ _ _ _ (by simp <;> omega)).trans x9
            have z9 : (U4.setCell ⟨U2.heap.size, 0, none⟩ (.slice (some ⟨rs, 0, none⟩) n n)).frozen? ⟨U0.heap.size, 0, none⟩ = false := by rw [World.frozen?_setCell]; exact f9
            have S8 := held_set (j := 0) (v := .slice (some ⟨rs, 0, none⟩) n n) (held HW.out (bel_tr HK2.out HB4.out)) (show w.heap.size ≠ U2.heap.size by omega)
            have S9 := held_set (j := 0) (v := .int .i64 ((crT l F1 l.length : Nat) : Int)) S8 (show w.heap.size ≠ U0.heap.size by omega)
            refine wpAnyH_ready (rs := [10]) (by kernel_rfl) (by simp) ?_
            refine AllReadyH.cons rfl (fun K hK => ?_) AllReadyH.nil
            go_simp
            refine hK.out _ _ S8 (fun hHeld => ?_)
            clear hK K
            refine wpAnyH_ready (rs := [11]) (by kernel_rfl) (by simp) ?_
            refine AllReadyH.cons rfl (fun K hK => ?_) AllReadyH.nil
            go_simp
            refine hK.out _ _ S9 (fun hHeld => ?_)
            clear hK K
            refine wpAnyH_done (by kernel_rfl) ?_ _
            clear x8 f8 x9 f9 y9 z9 S8 S9 hHeld
            refine hK' _ _ (Met.intro (hJ _ _ ?_))
            (repeat apply Exists.intro)
            exact ⟨⟨_, _, _, rfl, rfl, FIN⟩, rfl⟩
          exact AllReadyH.nil
        exact AllReadyH.nil
      refine AllReadyH.cons rfl (fun K hK => ?_) ?_
      · go_simp
        have hx := heap_alloc_new U1 (.cells #[.slice none 0 0] 25)
        have hk := bel_one U1 (.cells #[.slice none 0 0] 25)
        have hz : U1.heap.size < (U1.alloc (.cells #[.slice none 0 0] 25)).heap.size := by simp
        generalize U1.alloc (.cells #[.slice none 0 0] 25) = U2 at *
        have HB2 := hide (bel_tr HB1.out hk)
        have hsz2 := HB2.out.size
        have BB2 := hide (BB1.out.bel hk)
        have AA2 : Hid (Bg U1.heap.size (.cells #[.slice none 0 0] 25) W2 U2) := ⟨hx, HB1.out.size, hz⟩
        have hne2 := hk.size
        refine hK.out _ _ (held HW.out (bel_tr HK2.out HB2.out)) (fun hHeld => ?_)
        clear hK K hk
        refine wpAnyH_ready (rs := [3]) (by kernel_rfl) (by simp) ?_
        refine AllReadyH.cons rfl (fun K hK => ?_) ?_
        · go_simp
          refine (SA.out _ HB2.out).mono ?_
          rintro e U3 ⟨rs, rfl, hrs, hM, hk⟩
          have hrl := MR.lt hM
          have HB3 := hide (bel_tr HB2.out hk)
          have hsz3 := HB3.out.size
          have BB3 := hide (BB2.out.bel hk)
          have AA3 := hide (AA2.out.bel hk)
          have M3 : Hid (Mg rs n (mu (stB l A1 F1 m) n) W2 U3) := ⟨hM, Nat.le_trans HB2.out.size hrs⟩
          have hne3 := hk.size
          refine hK.out _ _ (held HW.out (bel_tr HK2.out HB3.out)) (fun hHeld => ?_)
          clear hK K hk
          refine wpAnyH_ready (rs := [7]) (by kernel_rfl) (by simp) ?_
          refine AllReadyH.cons rfl (fun K hK => ?_) ?_
          · go_simp
            refine (CA.out _ HB3.out).mono ?_
            rintro e U4 ⟨rfl, hk⟩
            have HB4 := hide (bel_tr HB3.out hk)
            have hsz4 := HB4.out.size
            have BB4 := hide (BB3.out.bel hk)
            have AA4 := hide (AA3.out.bel hk)
            have M4 := hide (M3.out.bel hk)
            have hne4 := hk.size
            refine hK.out _ _ (held HW.out (bel_tr HK2.out HB4.out)) (fun hHeld => ?_)
            clear hK K hk
            obtain ⟨x8, f8⟩ := AA4.out.cell
            obtain ⟨x9, f9⟩ := BB4.out.cell
            have FIN := hide (a5_fin (cr := crT l F1 l.length) HB4.out M4.out AA4.out BB4.out (by omega) (by omega) (by omega))
            have y9 : (U4.setCell ⟨U1.heap.size, 0, none⟩ (.slice (some ⟨rs, 0, none⟩) n n)).cell? ⟨U0.heap.size, 0, none⟩ = some (.int .i64 0) := (World.cell?_setCell_other _ _ _ _ (by simp <;> omega)).trans x9
            have z9 : (U4.setCell ⟨U1.heap.size, 0, none⟩ (.slice (some ⟨rs, 0, none⟩) n n)).frozen? ⟨U0.heap.size, 0, none⟩ = false := by rw [World.frozen?_setCell]; exact f9
            have S8 := held_set (j := 0) (v := .slice (some ⟨rs, 0, none⟩) n n) (held HW.out (bel_tr HK2.out HB4.out)) (show w.heap.size ≠ U1.heap.size by omega)
            have S9 := held_set (j := 0) (v := .int .i64 ((crT l F1 l.length : Nat) : Int)) S8 (show w.heap.size ≠ U0.heap.size by omega)
            refine wpAnyH_ready (rs := [10]) (by kernel_rfl) (by simp) ?_
            refine AllReadyH.cons rfl (fun K hK => ?_) AllReadyH.nil
            go_simp
            refine hK.out _ _ S8 (fun hHeld => ?_)
            clear hK K
            refine wpAnyH_ready (rs := [11]) (by kernel_rfl) (by simp) ?_
            refine AllReadyH.cons rfl (fun K hK => ?_) AllReadyH.nil
            go_simp
            refine hK.out _ _ S9 (fun hHeld => ?_)
            clear hK K
            refine wpAnyH_done (by kernel_rfl) ?_ _
            clear x8 f8 x9 f9 y9 z9 S8 S9 hHeld
            refine hK' _ _ (Met.intro (hJ _ _ ?_))
            (repeat apply Exists.intro)
            exact ⟨⟨_, _, _, rfl, rfl, FIN⟩, rfl⟩
          exact AllReadyH.nil
        exact AllReadyH.nil
      exact AllReadyH.nil
    exact AllReadyH.nil
  case rest =>
    obtain ⟨q8, q9, rs, rfl, rfl, H5⟩ := hcut
    have hl5 := H5.out.l
    clear SA CA c0 c1 c2 c3
    have HK3 := hide (bel_tr HK2.out H5.out.b)
    have HB3 := hide (HW.out.b.trans (HK3.out.mono HW.out.b.size))
    obtain ⟨c0, c1, c2, c3⟩ := HW.out.cells HK3.out hqW
    simp only at c0 c1 c2 c3
    have G6 : Bg wc.heap.size (.cells #[.int .i64 (-1)] 3) wc (wc.alloc (.cells #[.int .i64 (-1)] 3)) := ⟨heap_alloc_new _ _, Nat.le_refl _, by simp⟩
    have k6 := bel_one wc (.cells #[.int .i64 (-1)] 3)
    have RP := hide (callsIn_wide (n := dp - 1).2 (repeat_any n wc.heap.size 1 _ hn60 G6.cell.1))
    clear G6
    have hqc : w.heap.size < wc.heap.size := Nat.lt_of_lt_of_le hqW HK3.out.size
    have c0' := (k6.cell (p := ⟨w.heap.size, 0, none⟩) hqc).trans c0
    gi_wp2_with fail
    (first | gi_at_call 22 | (refine ⟨trivial, ?_⟩; first | gi_at_call 22 | (refine ⟨trivial, ?_⟩; gi_at_call 22) | (refine ⟨fun _ => h1, ?_⟩; gi_at_call 22)))
    refine RP.out.mono ?_
    rintro e w5 ⟨rp, rfl, hrp, hV, hb5⟩
    have HK5 := hide (bel_tr HK3.out (bel_tr k6 hb5))
    have HB5 := hide (HW.out.b.trans (HK5.out.mono HW.out.b.size))
    have HV5 := hide hV
    have H55 := hide (H5.out.bel (bel_tr k6 hb5))
    have hrp2 : wc.heap.size ≤ rp := Nat.le_trans k6.size hrp
    have hrp3 : rp < w5.heap.size := hV.lt
    clear RP k6 hb5 hV hrp c0' c0 c1 c2 c3
    obtain ⟨c0, c1, c2, c3⟩ := HW.out.cells HK5.out hqW
    simp only at c0 c1 c2 c3
    gi_upto_region 7 with fail
    have G7 : Bg w5.heap.size (.cells #[.slice (some ⟨rp, 0, none⟩) n n] 25) w5 (w5.alloc (.cells #[.slice (some ⟨rp, 0, none⟩) n n] 25)) := ⟨heap_alloc_new _ _, Nat.le_refl _, by simp⟩
    have k7 := bel_one w5 (.cells #[.slice (some ⟨rp, 0, none⟩) n n] 25)
    refine gw (motive := fun x => Code.wpIn _ _ _ _ _ _ x) (fun U => Hid (Bg w5.heap.size (.cells #[.slice (some ⟨rp, 0, none⟩) n n] 25) w5 U) ∧ Hid (Below w5.heap.size w5 U)) ⟨G7, k7⟩ ?_
    rintro U7 ⟨HG7, HK7⟩
    clear G7 k7 c0 c1 c2 c3
    have HKU := hide (bel_tr HK5.out HK7.out)
    have HBU := hide (HW.out.b.trans (HKU.out.mono HW.out.b.size))
    obtain ⟨c0, c1, c2, c3⟩ := HW.out.cells HKU.out hqW
    simp only at c0 c1 c2 c3
    have ND := hide (PD.out m U7 ((HR.out.bel HBU.out).up HBU.out.size) HO.out rfl (by omega))
    have HNL := hide (nmT_lim HO.out (show m ≤ 60 by omega) l.length (Nat.le_refl _))
    have HNN : Hid (∀ j, (nmT l m l.length).testBit j = true → j < n) := nmT_lt HF.out rfl rfl l.length (Nat.le_refl _)
    have CI := hide (fun U => cells_in (dp - 1) (nmT l m l.length) U)
    generalize hNM : nmT l m l.length = nm at *
    have HNM := hide hNM
    clear hNM PD
    gi_wp2_with fail
    (first | gi_at_call 24 | (refine ⟨trivial, ?_⟩; first | gi_at_call 24 | (refine ⟨trivial, ?_⟩; gi_at_call 24) | (refine ⟨fun _ => h1, ?_⟩; gi_at_call 24)))
    refine ND.out.mono ?_
    rintro e U8 ⟨rfl, hb8⟩
    have HK8 := hide (bel_tr HKU.out hb8)
    have HG8 := hide (HG7.out.bel hb8)
    have HV8 := hide ((HV5.out.of (HK7.out.block _ HV5.out.lt)).of (hb8.block _ (Nat.lt_of_lt_of_le HV5.out.lt HK7.out.size)))
    have H58 := hide ((H55.out.bel HK7.out).bel hb8)
    clear hb8 ND HV5 H55 HG7 HK7 H5 HKU HBU
    gi_wp2_with fail
    (first | gi_at_call 23 | (refine ⟨trivial, ?_⟩; first | gi_at_call 23 | (refine ⟨trivial, ?_⟩; gi_at_call 23) | (refine ⟨fun _ => h1, ?_⟩; gi_at_call 23)))
    refine (CI.out U8).mono ?_
    rintro e w' ⟨rfl, rfl⟩
    clear CI
    gi_wp2_with fail
    have H56 := H58.out
    obtain ⟨S, qs1, qs2, qs3⟩ := H56.m.ex
    have hrpU : rp < U8.heap.size := HV8.out.lt
    have hw5U : w5.heap.size < U8.heap.size := HG8.out.l
    have hK8 := HK8.out.size
    have hwW := HW.out.b.size
    have hK2s := HK2.out.size
    have hg56 := H56.g
    have hl56 := H56.l
    have hwc := H56.b.size
    have hKc := HK3.out.size
    have k9 := bel_one U8 (.cells #[.int .i64 (nm : Int)] 3)
    have G9 : Bg U8.heap.size (.cells #[.int .i64 (nm : Int)] 3) U8 (U8.alloc (.cells #[.int .i64 (nm : Int)] 3)) := ⟨heap_alloc_new _ _, Nat.le_refl _, by simp⟩
    generalize U8.alloc (.cells #[.int .i64 (nm : Int)] 3) = W0 at *
    have hW0 := G9.l
    have HW0 := hide (bel_tr HK8.out k9)
    have HB0 := hide (HW.out.b.trans (HW0.out.mono HW.out.b.size))
    have HL0 := hide (HT.out.kept HB0.out hw0)
    have HV0 := hide (HV8.out.of (k9.block _ hrpU))
    have N0 := qs1.of (k9.block _ qs1.lt)
    have x8 := (k9.cell (p := ⟨q8, 0, none⟩) hl56.2.1).trans H56.c8
    have x9 := (k9.cell (p := ⟨q9, 0, none⟩) hl56.2.2).trans H56.c9
    have x10 := (HG8.out.bel k9).cell.1
    have n8 : q8 ≠ rp := by omega
    have n9 : q9 ≠ rp := by omega
    have n10 : w5.heap.size ≠ rp := by have := hrp3; omega
    have nrs : rs ≠ rp := by omega
    have hcr := crT_lim HO.out HS1.out.lf l.length (Nat.le_refl _)
    refine wpIn_rangeFunc_ownH rfl h1 (gf := 42) (lb := #[.pointer (some ⟨U8.heap.size, 0, none⟩)]) rfl trivial (enters_of Tryd.func42 (by kernel_rfl) rfl)
      (cells_stops (dp - 1) (by omega) (fun b => b = rp) U8.heap.size W0.heap.size nm n HNL.out HNN.out W0 (Nat.le_refl _) hW0 (by omega) (by omega) G9.cell.1 HL0.out) (fun h k => h.trans k) (kx_b (Nat.le_refl _)) (Below.refl _ _) (fun _ => rfl)
      (fun pre W => ∃ pl, VRow rp n (fun i => .int .i64 (pl i)) W ∧ ((vls pre).Pairwise (· < ·) → Pld n (crT l F1 l.length) S pre pl) ∧ Bt (fun b => b = rp) W0 W)
      (fun _ _ _ => False)
      ?hI (fun _ _ _ _ _ hs _ _ => hs) ⟨fun _ => -1, HV0.out, fun _ => ⟨fun _ _ _ => rfl, fun i hi => by simp [vls] at hi⟩, Bt.refl _ _⟩
      (fun x a' W => a' = { tmps := #[.agg #[.int .i64 (n : Int), .int .i64 (m : Int), .slice q l.length cap, .int .i64 ls], .pointer (some ⟨w.heap.size, 0, none⟩), .slice none 0 0, .int .i64 0, .slice (some ⟨r1, 0, none⟩) l.length l.length, .int .i64 0, .slice (some ⟨r2, 0, none⟩) l.length l.length, .int .i64 0, .pointer (some ⟨q8, 0, none⟩), .pointer (some ⟨q9, 0, none⟩), .pointer (some ⟨w5.heap.size, 0, none⟩), .int .i64 ((x.1 : Nat) : Int), undef, .tuple #[.slice (some ⟨r1, 0, none⟩) l.length l.length, .int .i64 0], .agg #[.int .i64 (n : Int), .int .i64 (m : Int), .slice q l.length cap, .int .i64 ls], .tuple #[.slice (some ⟨r1, 0, none⟩) l.length l.length, .int .i64 0], .slice (some ⟨r1, 0, none⟩) l.length l.length, .int .i64 0, .int .i64 0, .bool false, undef, .tuple #[.slice (some ⟨r2, 0, none⟩) l.length l.length, .int .i64 0], .agg #[.int .i64 (n : Int), .int .i64 (m : Int), .slice q l.length cap, .int .i64 ls], .tuple #[.slice (some ⟨r2, 0, none⟩) l.length l.length, .int .i64 0], .slice (some ⟨r2, 0, none⟩) l.length l.length, .int .i64 0, u26, u27, u28, u29, u30, u31, u32, u33, .slice (some ⟨wc.heap.size, 0, none⟩) 1 1, .pointer (some ⟨w.heap.size, 0, none⟩), .int .i64 (n : Int), .slice (some ⟨rp, 0, none⟩) n n, .agg #[.int .i64 (n : Int), .int .i64 (m : Int), .slice q l.length cap, .int .i64 ls], .int .i64 (nm : Int), .func (.func 42) #[] #[.pointer (some ⟨U8.heap.size, 0, none⟩)], .int .i64 ((x.1 : Nat) : Int), u42, u43, u44, u45, u46, u47, u48, u49, u50, u51, u52, u53, u54, u55, u56, u57], defers := [] })
      ?hAx ?assign ?body ?done ?stop
    case hI =>
      rintro pre W W' row ⟨pl, k1, k2, k3⟩ hg hr
      have hne : ∀ b, b < W0.heap.size → row ≠ some b := fun b hb e => by have := (hr b e).1; omega
      exact ⟨pl, k1.of (hg.block rp k1.lt (fun e => hne rp (by omega) e.symm)), k2, k3.grown hg (fun b hb e => hne b hb e.symm)⟩
    case hAx =>
      rintro x a' _ W W' row h hg hr
      exact h
    case assign =>
      rintro lp pre x W K ⟨pl, k1, k2, k3⟩ hK
      unfold encN
      gi_wp2
      exact hK _ _ (KeepsFrom.refl _ _) (Kx.refl _ _ _) ⟨pl, k1, k2, k3⟩ rfl
    case body =>
      rintro lp pre x a' W hlp hrr ⟨pl, k1, k2, k3⟩ rfl hlt
      have y8 := (k3.cell (b := q8) (by omega) n8 0).trans x8
      have y9 := (k3.cell (b := q9) (by omega) n9 0).trans x9
      have y10 := (k3.cell (b := w5.heap.size) (by omega) n10 0).trans x10
      have NS := N0.bt k3 nrs
      have ys := NS.c x.1 x.2
      have yf := k1.f x.1
      have yr := k1.c x.1 x.2
      have hx0 : (0 : Int) ≤ ((x.1 : Nat) : Int) := by omega
      have hx1 : ((x.1 : Nat) : Int) < (n : Int) := by have := x.2; omega
      have hx2 : ((x.1 : Nat) : Int) ≤ (n : Int) := by omega
      have hx60 : ((x.1 : Nat) : Int) < 60 := by omega
      have HAS := hide (fun U => ahas_any (crT l F1 l.length) ((x.1 : Nat) : Int) U hcr hx0 hx60)
      simp only [Int.toNat_natCast] at HAS
      have FR := hide (fun a (ha : 0 ≤ a ∧ a ≤ 6) => free_any rp x.1 n pl (S x.1) a W.drew (by omega) ha (fun i hi => k1.c i (Nat.lt_trans hi x.2)) (qs2 x.1 x.2))
      have FS : Hid (fsz (crT l F1 l.length) x.1 = if (crT l F1 l.length).testBit x.1 = true then 6 else 0) := rfl
      have STEP := hide (fun p (hp : Fre pl (S x.1) x.1 (fsz (crT l F1 l.length) x.1) p) => (show ∃ pl', VRow rp n (fun i => .int .i64 (pl' i)) ((W.setCell ⟨rp, x.1, none⟩ (.int .i64 p)).drew) ∧ ((vls (pre ++ [x])).Pairwise (· < ·) → Pld n (crT l F1 l.length) S (pre ++ [x]) pl') ∧ Bt (fun b => b = rp) W0 ((W.setCell ⟨rp, x.1, none⟩ (.int .i64 p)).drew) from
        ⟨upz pl x.1 p, (k1.setz x.2 p).of rfl, fun asc => Pld.next asc (k2 (by rw [vls_snoc, List.pairwise_append] at asc; exact asc.1)) hp, (k3.set (b := rp) rfl x.1 (.int .i64 p)).drew⟩))
      have hmix : Tryd.prog.follows .mixedOrders = true := by kernel_rfl
      generalize S x.1 = Sx at *
      generalize crT l F1 l.length = cr at *
      clear k1 k2 qs1 qs2 qs3
      cases hb : cr.testBit x.1
      · rw [hb] at HAS FS
        have FR0 := hide (FR.out 0 (by omega))
        gi_wp2
        (first | gi_at_call 25 | (refine ⟨trivial, ?_⟩; first | gi_at_call 25 | (refine ⟨trivial, ?_⟩; gi_at_call 25) | (refine ⟨fun _ => by omega, ?_⟩; gi_at_call 25)))
        refine (CallsIn.inRound lp (callsIn_wide.2 (HAS.out _))).mono ?_
        rintro e w1 ⟨rfl, rfl⟩
        gi_wp2
        refine region_undf (S := fun X => X.cell? ⟨w5.heap.size, 0, none⟩ = some (.slice (some ⟨rp, 0, none⟩) n n) ∧ X.cell? ⟨q8, 0, none⟩ = some (.slice (some ⟨rs, 0, none⟩) n n) ∧ X.cell? ⟨rs, x.1, none⟩ = some (.int .i64 ((Sx : Nat) : Int))) (by kernel_rfl) (by kernel_rfl) ⟨y10, y8, ys⟩ ?_
        intro hHeld
        change wpAnyH _ _ _ _ _ _ _ _ (World.drew _)
        refine wpAnyH_take (i := 0) (v := ?_) rfl (by kernel_rfl) (by kernel_rfl) (by kernel_rfl) (fun _ _ _ h => h) (Or.inl ⟨by kernel_rfl, ?hy⟩) (by assumption) ?_
        case hy => intro w hSw; obtain ⟨g0, g1, g2⟩ := hSw; go_simp; try with_reducible rfl
        simp only [Act.put, List.getElem_toArray, List.getElem_cons_succ, List.getElem_cons_zero, List.setIfInBounds_toArray, List.set_cons_zero, List.set_cons_succ]
        refine wpAnyH_take (i := 1) (v := ?_) rfl (by kernel_rfl) (by kernel_rfl) (by kernel_rfl) (fun _ _ _ h => h) (Or.inl ⟨by kernel_rfl, ?hy⟩) (by assumption) ?_
        case hy => intro w hSw; obtain ⟨g0, g1, g2⟩ := hSw; go_simp; try with_reducible rfl
        simp only [Act.put, List.getElem_toArray, List.getElem_cons_succ, List.getElem_cons_zero, List.setIfInBounds_toArray, List.set_cons_zero, List.set_cons_succ]
        refine wpAnyH_take (i := 2) (v := ?_) rfl (by kernel_rfl) (by kernel_rfl) (by kernel_rfl) (fun _ _ _ h => h) (Or.inl ⟨by kernel_rfl, ?hy⟩) (by assumption) ?_
        case hy => intro w hSw; obtain ⟨g0, g1, g2⟩ := hSw; go_simp; try with_reducible rfl
        simp only [Act.put, List.getElem_toArray, List.getElem_cons_succ, List.getElem_cons_zero, List.setIfInBounds_toArray, List.set_cons_zero, List.set_cons_succ]
        refine wpAnyH_take (i := 3) (v := ?_) rfl (by kernel_rfl) (by kernel_rfl) (by kernel_rfl) (fun _ _ _ h => h) (Or.inl ⟨by kernel_rfl, ?hy⟩) (by assumption) ?_
        case hy => intro w hSw; obtain ⟨g0, g1, g2⟩ := hSw; go_simp; try with_reducible rfl
        simp only [Act.put, List.getElem_toArray, List.getElem_cons_succ, List.getElem_cons_zero, List.setIfInBounds_toArray, List.set_cons_zero, List.set_cons_succ]
        refine wpAnyH_take (i := 4) (v := ?_) rfl (by kernel_rfl) (by kernel_rfl) (by kernel_rfl) (fun _ _ _ h => h) (Or.inl ⟨by kernel_rfl, ?hy⟩) (by assumption) ?_
        case hy => intro w hSw; obtain ⟨g0, g1, g2⟩ := hSw; go_simp; try with_reducible rfl
        simp only [Act.put, List.getElem_toArray, List.getElem_cons_succ, List.getElem_cons_zero, List.setIfInBounds_toArray, List.set_cons_zero, List.set_cons_succ]
        refine wpAnyH_take (i := 5) (v := ?_) rfl (by kernel_rfl) (by kernel_rfl) (by kernel_rfl) (fun _ _ _ h => h) (Or.inl ⟨by kernel_rfl, ?hy⟩) (by assumption) ?_
        case hy => intro w hSw; obtain ⟨g0, g1, g2⟩ := hSw; go_simp; try with_reducible rfl
        simp only [Act.put, List.getElem_toArray, List.getElem_cons_succ, List.getElem_cons_zero, List.setIfInBounds_toArray, List.set_cons_zero, List.set_cons_succ]
        refine wpAnyH_take (i := 6) (v := ?_) rfl (by kernel_rfl) (by kernel_rfl) (by kernel_rfl) (fun _ _ _ h => h) (Or.inl ⟨by kernel_rfl, ?hy⟩) (by assumption) ?_
        case hy => intro w hSw; obtain ⟨g0, g1, g2⟩ := hSw; go_simp; try with_reducible rfl
        simp only [Act.put, List.getElem_toArray, List.getElem_cons_succ, List.getElem_cons_zero, List.setIfInBounds_toArray, List.set_cons_zero, List.set_cons_succ]
        refine wpAnyH_take (i := 7) (v := ?_) rfl (by kernel_rfl) (by kernel_rfl) (by kernel_rfl) (fun _ _ _ h => h) (Or.inl ⟨by kernel_rfl, ?hy⟩) (by assumption) ?_
        case hy => intro w hSw; obtain ⟨g0, g1, g2⟩ := hSw; go_simp; try with_reducible rfl
        simp only [Act.put, List.getElem_toArray, List.getElem_cons_succ, List.getElem_cons_zero, List.setIfInBounds_toArray, List.set_cons_zero, List.set_cons_succ]
        refine wpAnyH_take (i := 8) (v := ?_) rfl (by kernel_rfl) (by kernel_rfl) (by kernel_rfl) (fun _ _ _ h => h) (Or.inl ⟨by kernel_rfl, ?hy⟩) (by assumption) ?_
        case hy => intro w hSw; obtain ⟨g0, g1, g2⟩ := hSw; go_simp; try with_reducible rfl
        simp only [Act.put, List.getElem_toArray, List.getElem_cons_succ, List.getElem_cons_zero, List.setIfInBounds_toArray, List.set_cons_zero, List.set_cons_succ]
        refine wpAnyH_take (i := 9) (v := ?_) rfl (by kernel_rfl) (by kernel_rfl) (by kernel_rfl) (fun _ _ _ h => h) (Or.inl ⟨by kernel_rfl, ?hy⟩) (by assumption) ?_
        case hy => intro w hSw; obtain ⟨g0, g1, g2⟩ := hSw; go_simp; try with_reducible rfl
        simp only [Act.put, List.getElem_toArray, List.getElem_cons_succ, List.getElem_cons_zero, List.setIfInBounds_toArray, List.set_cons_zero, List.set_cons_succ]
        refine wpAnyH_ready (rs := [10]) (by kernel_rfl) (by simp) ?_
        refine AllReadyH.cons rfl (fun K hK => ?_) AllReadyH.nil
        go_simp
        refine (FR0.out).mono ?_
        rintro e w2 ⟨⟨p, rfl, hp⟩, rfl⟩
        have ST := STEP.out p (by rw [FS.out]; exact hp)
        refine hK.out _ _ hHeld (fun hHeld => ?_)
        clear hK K
        refine wpAnyH_take (i := 11) (v := ?_) rfl (by kernel_rfl) (by kernel_rfl) (by kernel_rfl) (fun _ _ _ h => h) (Or.inl ⟨by kernel_rfl, ?hy⟩) (by assumption) ?_
        case hy => intro w hSw; obtain ⟨g0, g1, g2⟩ := hSw; go_simp; try with_reducible rfl
        simp only [Act.put, List.getElem_toArray, List.getElem_cons_succ, List.getElem_cons_zero, List.setIfInBounds_toArray, List.set_cons_zero, List.set_cons_succ]
        refine wpAnyH_ready (rs := [12]) (by kernel_rfl) (by simp) ?_
        refine AllReadyH.cons rfl (fun K hK => ?_) AllReadyH.nil
        go_simp
        refine hK.out _ _ ⟨?_, ?_, ?_⟩ (fun hHeld => ?_)
        · exact (World.cell?_setCell_other _ _ _ _ (by simp <;> omega)).trans hHeld.1
        · exact (World.cell?_setCell_other _ _ _ _ (by simp <;> omega)).trans hHeld.2.1
        · exact (World.cell?_setCell_other _ _ _ _ (by simp <;> omega)).trans hHeld.2.2
        clear hK K
        refine wpAnyH_done (by kernel_rfl) ?_ _

        exact ⟨((KeepsOthers.setCell _ _ _).trans (KeepsOthers.drew _)).from _, fun b _ hx => Below.heap_setCell _ ⟨rp, x.1, none⟩ _ b hx, ST⟩
      · rw [hb] at HAS FS
        have FR0 := hide (FR.out 6 (by omega))
        gi_wp2
        (first | gi_at_call 25 | (refine ⟨trivial, ?_⟩; first | gi_at_call 25 | (refine ⟨trivial, ?_⟩; gi_at_call 25) | (refine ⟨fun _ => by omega, ?_⟩; gi_at_call 25)))
        refine (CallsIn.inRound lp (callsIn_wide.2 (HAS.out _))).mono ?_
        rintro e w1 ⟨rfl, rfl⟩
        gi_wp2
        refine region_undf (S := fun X => X.cell? ⟨w5.heap.size, 0, none⟩ = some (.slice (some ⟨rp, 0, none⟩) n n) ∧ X.cell? ⟨q8, 0, none⟩ = some (.slice (some ⟨rs, 0, none⟩) n n) ∧ X.cell? ⟨rs, x.1, none⟩ = some (.int .i64 ((Sx : Nat) : Int))) (by kernel_rfl) (by kernel_rfl) ⟨y10, y8, ys⟩ ?_
        intro hHeld
        change wpAnyH _ _ _ _ _ _ _ _ (World.drew _)
        refine wpAnyH_take (i := 0) (v := ?_) rfl (by kernel_rfl) (by kernel_rfl) (by kernel_rfl) (fun _ _ _ h => h) (Or.inl ⟨by kernel_rfl, ?hy⟩) (by assumption) ?_
        case hy => intro w hSw; obtain ⟨g0, g1, g2⟩ := hSw; go_simp; try with_reducible rfl
        simp only [Act.put, List.getElem_toArray, List.getElem_cons_succ, List.getElem_cons_zero, List.setIfInBounds_toArray, List.set_cons_zero, List.set_cons_succ]
        refine wpAnyH_take (i := 1) (v := ?_) rfl (by kernel_rfl) (by kernel_rfl) (by kernel_rfl) (fun _ _ _ h => h) (Or.inl ⟨by kernel_rfl, ?hy⟩) (by assumption) ?_
        case hy => intro w hSw; obtain ⟨g0, g1, g2⟩ := hSw; go_simp; try with_reducible rfl
        simp only [Act.put, List.getElem_toArray, List.getElem_cons_succ, List.getElem_cons_zero, List.setIfInBounds_toArray, List.set_cons_zero, List.set_cons_succ]
        refine wpAnyH_take (i := 2) (v := ?_) rfl (by kernel_rfl) (by kernel_rfl) (by kernel_rfl) (fun _ _ _ h => h) (Or.inl ⟨by kernel_rfl, ?hy⟩) (by assumption) ?_
        case hy => intro w hSw; obtain ⟨g0, g1, g2⟩ := hSw; go_simp; try with_reducible rfl
        simp only [Act.put, List.getElem_toArray, List.getElem_cons_succ, List.getElem_cons_zero, List.setIfInBounds_toArray, List.set_cons_zero, List.set_cons_succ]
        refine wpAnyH_take (i := 3) (v := ?_) rfl (by kernel_rfl) (by kernel_rfl) (by kernel_rfl) (fun _ _ _ h => h) (Or.inl ⟨by kernel_rfl, ?hy⟩) (by assumption) ?_
        case hy => intro w hSw; obtain ⟨g0, g1, g2⟩ := hSw; go_simp; try with_reducible rfl
        simp only [Act.put, List.getElem_toArray, List.getElem_cons_succ, List.getElem_cons_zero, List.setIfInBounds_toArray, List.set_cons_zero, List.set_cons_succ]
        refine wpAnyH_take (i := 4) (v := ?_) rfl (by kernel_rfl) (by kernel_rfl) (by kernel_rfl) (fun _ _ _ h => h) (Or.inl ⟨by kernel_rfl, ?hy⟩) (by assumption) ?_
        case hy => intro w hSw; obtain ⟨g0, g1, g2⟩ := hSw; go_simp; try with_reducible rfl
        simp only [Act.put, List.getElem_toArray, List.getElem_cons_succ, List.getElem_cons_zero, List.setIfInBounds_toArray, List.set_cons_zero, List.set_cons_succ]
        refine wpAnyH_take (i := 5) (v := ?_) rfl (by kernel_rfl) (by kernel_rfl) (by kernel_rfl) (fun _ _ _ h => h) (Or.inl ⟨by kernel_rfl, ?hy⟩) (by assumption) ?_
        case hy => intro w hSw; obtain ⟨g0, g1, g2⟩ := hSw; go_simp; try with_reducible rfl
        simp only [Act.put, List.getElem_toArray, List.getElem_cons_succ, List.getElem_cons_zero, List.setIfInBounds_toArray, List.set_cons_zero, List.set_cons_succ]
        refine wpAnyH_take (i := 6) (v := ?_) rfl (by kernel_rfl) (by kernel_rfl) (by kernel_rfl) (fun _ _ _ h => h) (Or.inl ⟨by kernel_rfl, ?hy⟩) (by assumption) ?_
        case hy => intro w hSw; obtain ⟨g0, g1, g2⟩ := hSw; go_simp; try with_reducible rfl
        simp only [Act.put, List.getElem_toArray, List.getElem_cons_succ, List.getElem_cons_zero, List.setIfInBounds_toArray, List.set_cons_zero, List.set_cons_succ]
        refine wpAnyH_take (i := 7) (v := ?_) rfl (by kernel_rfl) (by kernel_rfl) (by kernel_rfl) (fun _ _ _ h => h) (Or.inl ⟨by kernel_rfl, ?hy⟩) (by assumption) ?_
        case hy => intro w hSw; obtain ⟨g0, g1, g2⟩ := hSw; go_simp; try with_reducible rfl
        simp only [Act.put, List.getElem_toArray, List.getElem_cons_succ, List.getElem_cons_zero, List.setIfInBounds_toArray, List.set_cons_zero, List.set_cons_succ]
        refine wpAnyH_take (i := 8) (v := ?_) rfl (by kernel_rfl) (by kernel_rfl) (by kernel_rfl) (fun _ _ _ h => h) (Or.inl ⟨by kernel_rfl, ?hy⟩) (by assumption) ?_
        case hy => intro w hSw; obtain ⟨g0, g1, g2⟩ := hSw; go_simp; try with_reducible rfl
        simp only [Act.put, List.getElem_toArray, List.getElem_cons_succ, List.getElem_cons_zero, List.setIfInBounds_toArray, List.set_cons_zero, List.set_cons_succ]
        refine wpAnyH_take (i := 9) (v := ?_) rfl (by kernel_rfl) (by kernel_rfl) (by kernel_rfl) (fun _ _ _ h => h) (Or.inl ⟨by kernel_rfl, ?hy⟩) (by assumption) ?_
        case hy => intro w hSw; obtain ⟨g0, g1, g2⟩ := hSw; go_simp; try with_reducible rfl
        simp only [Act.put, List.getElem_toArray, List.getElem_cons_succ, List.getElem_cons_zero, List.setIfInBounds_toArray, List.set_cons_zero, List.set_cons_succ]
        refine wpAnyH_ready (rs := [10]) (by kernel_rfl) (by simp) ?_
        refine AllReadyH.cons rfl (fun K hK => ?_) AllReadyH.nil
        go_simp
        refine (FR0.out).mono ?_
        rintro e w2 ⟨⟨p, rfl, hp⟩, rfl⟩
        have ST := STEP.out p (by rw [FS.out]; exact hp)
        refine hK.out _ _ hHeld (fun hHeld => ?_)
        clear hK K
        refine wpAnyH_take (i := 11) (v := ?_) rfl (by kernel_rfl) (by kernel_rfl) (by kernel_rfl) (fun _ _ _ h => h) (Or.inl ⟨by kernel_rfl, ?hy⟩) (by assumption) ?_
        case hy => intro w hSw; obtain ⟨g0, g1, g2⟩ := hSw; go_simp; try with_reducible rfl
        simp only [Act.put, List.getElem_toArray, List.getElem_cons_succ, List.getElem_cons_zero, List.setIfInBounds_toArray, List.set_cons_zero, List.set_cons_succ]
        refine wpAnyH_ready (rs := [12]) (by kernel_rfl) (by simp) ?_
        refine AllReadyH.cons rfl (fun K hK => ?_) AllReadyH.nil
        go_simp
        refine hK.out _ _ ⟨?_, ?_, ?_⟩ (fun hHeld => ?_)
        · exact (World.cell?_setCell_other _ _ _ _ (by simp <;> omega)).trans hHeld.1
        · exact (World.cell?_setCell_other _ _ _ _ (by simp <;> omega)).trans hHeld.2.1
        · exact (World.cell?_setCell_other _ _ _ _ (by simp <;> omega)).trans hHeld.2.2
        clear hK K
        refine wpAnyH_done (by kernel_rfl) ?_ _

        exact ⟨((KeepsOthers.setCell _ _ _).trans (KeepsOthers.drew _)).from _, fun b _ hx => Below.heap_setCell _ ⟨rp, x.1, none⟩ _ b hx, ST⟩
    case done =>
      rintro D ys W hD hys ⟨pl, k1, k2, k3⟩ hK
      have y10 := (k3.cell (b := w5.heap.size) (by omega) n10 0).trans x10
      gi_wp2
      refine ⟨by simp, .inl ⟨_, _, rfl, run_takeDeferred hK, ?_⟩⟩
      have hrpD : rp ≠ D := by omega
      refine ⟨_, results_tmp2 rfl _ _ _, Or.inr ⟨HF.out, n, m, rp, A1, F1, S, pl, rfl, rfl, rfl, by omega, k1.of (World.putObj_heap_other hrpD), HS1.out, qs3, ?_, ?_⟩⟩
      · show Plc (nmT l m l.length) _ _ _ _
        rw [HNM.out]
        exact Pld.all hn60 hys (k2 (by rw [hys]; exact bitsL_asc _))
      · exact (HB0.out.trans (k3.below (n := w.heap.size) (by omega) (fun b h => by omega))).trans (belowK_b (n₀ := w.heap.size) (w := W0) (by omega) W D _ _ (by omega) hK rfl rfl)
    case stop =>
      rintro D c pre W _ _ h _
      exact h.elim
end Go.Proofs.YtjgaaofpfepfhaaDoor

/-
  Merged: CDec.
-/
import Derived.Test.YtielpebokbolbaaCRead
import Derived.Test.YtielpebokbolbaaCWB
import Derived.Test.YtielpebokbolbaaCMathC
/-
  The program's Decode answers what the plain function dcX tells; strings.HasPrefix.
-/
namespace Go.Proofs.Ytielpebokbolbaa.Xc
open Go.RowKit
set_option linter.unusedSimpArgs false
set_option linter.unusedVariables false

theorem ext_take (s : ByteArray) (k : Nat) : (s.extract 0 k).data.toList = s.data.toList.take k := by
  apply List.ext_getElem
  · simp [ByteArray.data_extract]
  · intro i h1 h2
    simp [ByteArray.data_extract]
theorem isp_no {a b : List UInt8} (h : ¬ a.length ≤ b.length) : a.isPrefixOf b = false := by
  cases hk : a.isPrefixOf b
  · rfl
  · exact absurd (List.isPrefixOf_iff_prefix.1 hk).length_le h
theorem isp_yes {a b : List UInt8} (h : a.length ≤ b.length) : a.isPrefixOf b = (b.take a.length == a) := by
  rw [Bool.eq_iff_iff, List.isPrefixOf_iff_prefix, beq_iff_eq]
  constructor
  · rintro ⟨s, rfl⟩; simp
  · intro e; exact ⟨b.drop a.length, by have := List.take_append_drop a.length b; rw [e] at this; exact this⟩
theorem lhas_any (s p : ByteArray) (w : World) : Calls Try.prog 83 #[.string s, .string p] w fun e w' => e = .returned (.bool (p.data.toList.isPrefixOf s.data.toList)) ∧ w' = w := by
  have hs : s.data.toList.length = s.size := by simp
  have hp : p.data.toList.length = p.size := by simp
  by_cases h : p.size ≤ s.size
  · have e : p.data.toList.isPrefixOf s.data.toList = ((s.extract 0 p.size).toList == p.toList) := by
      rw [isp_yes (by omega), ByteArray.toList_eq, ByteArray.toList_eq, ext_take, hp]
    rw [e]
    clear e hs hp
    go_enter Try.func83, Try.ntmps83
    go_wp2
    go_ret
    exact ⟨rfl, rfl⟩
  · rw [isp_no (by omega)]
    clear hs hp
    go_enter Try.func83, Try.ntmps83
    go_wp2
    go_ret
    exact ⟨rfl, rfl⟩
theorem has_pre (s p : ByteArray) (w : World) {q : Bool} (h : p.data.toList.isPrefixOf s.data.toList = q) : Calls Try.prog 69 #[.string s, .string p] w fun e w' => e = .returned (.bool q) ∧ w' = w := by
  have H := hide h
  clear h
  go_enter Try.func69, Try.ntmps69
  go_wp2_with (go_at_call 83; refine (lhas_any _ _ _).mono ?_; rw [H.out]; rintro e w' ⟨rfl, rfl⟩)
  go_ret
  exact ⟨rfl, rfl⟩
/-- No instruction. -/
def x0 : Xi := ⟨0, false, 0, 0, 0, 0, 0⟩
def dX (b : List UInt8) : Xi := (dcX b).getD x0
def dN (b : List UInt8) : Int := match dcX b with
  | some x => ((enc x).length : Int)
  | none => 0
def dE (b : List UInt8) : Int := if (dcX b).isSome then 0 else 6
theorem results_3 {fn : Func} {p u v : Tmp} (h : fn.results = #[.cell p 49, .tmp u, .tmp v]) (tmps : Array Value) (w : World) (g : Nat) (x : Xi) (hp : tmps.getD p undef = .pointer (some ⟨g, 0, none⟩)) (hb : RowX g (xc x) w) :
    (results fn tmps).run Try.prog w = .ok (.tuple #[xv x, tmps.getD u undef, tmps.getD v undef]) w := by
  have hl := run_loadVar_row (P := Try.prog) w g 49 49 _ _ _ hb Try.underlying49 rfl (by kernel_rfl)
  have hp' : tmps[p]?.getD undef = .pointer (some ⟨g, 0, none⟩) := by simpa using hp
  simp [results, h, hp', asAddr, hl, xv, xc]
theorem read_is (t : ByteArray) (x : Xi) (h : rd (pad t.data.toList) = x) (w : World) : Calls Try.prog 68 #[.string t] w fun e w' => e = .returned (.agg #[.int .i64 x.op, .bool x.wide, .int .i64 x.r, .int .i64 x.b, .int .i64 x.i, .int .i64 x.c, .int .i64 x.n]) ∧ Below w.heap.size w w' := by subst h; exact read_any t w
theorem rdC_i (p f : Int) (t : List UInt8) : I64 (rdC p f t).i := by
  have hi : ∀ y : Int, I64 (inf (upr p 2 + y / 8 % 8)) := fun y => by
    unfold I64 inf upr; split <;> split <;> omega
  unfold rdC
  simp only []
  split
  · exact zero_I64
  · split
    · exact hi _
    · split
      · exact zero_I64
      · exact zero_I64
theorem rd_i (l : List UInt8) : I64 (rd l).i := by
  unfold rd rdT
  split <;> split <;> exact rdC_i _ _ _
theorem enc_is (op : Int) (wd : Bool) (r b i c n : Int) (w : World) (hi : I64 i) (hn : I64 n) {l : List UInt8} {e0 : Int} (h1 : enS ⟨op, wd, r, b, i, c, n⟩ = l) (h2 : enE ⟨op, wd, r, b, i, c, n⟩ = e0) :
    Calls Try.prog 17 #[.agg #[.int .i64 op, .bool wd, .int .i64 r, .int .i64 b, .int .i64 i, .int .i64 c, .int .i64 n]] w fun e w' => e = .returned (.tuple #[.string (str l), .int .i64 e0]) ∧ Below w.heap.size w w' := by
  subst h1 h2; exact encode_f op wd r b i c n w hi hn
theorem str_data (l : List UInt8) : (str l).data.toList = l := by simp [str]
theorem str_size (l : List UInt8) : (str l).size = l.length := by simp [str, ByteArray.size]
def DcIs (t : ByteArray) (w : World) : Prop := Calls Try.prog 54 #[.string t] w fun e w' => e = .returned (.tuple #[xv (dX t.data.toList), .int .i64 (dN t.data.toList), .int .i64 (dE t.data.toList)]) ∧ Below w.heap.size w w'
set_option maxHeartbeats 4000000 in
theorem decode_1 (t : ByteArray) (w : World) (op : Int) (wd : Bool) (r b i c n : Int) (hx : rd (pad t.data.toList) = ⟨op, wd, r, b, i, c, n⟩) (hq : rt ⟨op, wd, r, b, i, c, n⟩ = false) : DcIs t w := by
  unfold DcIs
  have hi : I64 i := by have := rd_i (pad t.data.toList); rw [hx] at this; exact this
  have hn : I64 n := by have := rd_n (pad t.data.toList); rw [hx] at this; exact this
  have hd : dcX t.data.toList = none := by unfold dcX; rw [hx, hq]; rfl
  have e1 : dX t.data.toList = ⟨0, false, 0, 0, 0, 0, 0⟩ := by unfold dX; rw [hd]; rfl
  have e2 : dN t.data.toList = 0 := by unfold dN; rw [hd]
  have e3 : dE t.data.toList = 6 := by unfold dE; rw [hd]; rfl
  have s1 : enS ⟨op, wd, r, b, i, c, n⟩ = [] := by simp [enS, hq]
  have s2 : enE ⟨op, wd, r, b, i, c, n⟩ = 4 := by simp [enE, hq]
  rw [e1, e2, e3]
  clear e1 e2 e3 hd hq
  have RD := hide (fun U => read_is t ⟨op, wd, r, b, i, c, n⟩ hx U)
  have EN := hide (fun U => enc_is op wd r b i c n U hi hn s1 s2)
  obtain ⟨W, hW⟩ : ∃ W, W = w.alloc (.cells #[.int .i64 0, .bool false, .int .i64 0, .int .i64 0, .int .i64 0, .int .i64 0, .int .i64 0] 49) := ⟨_, rfl⟩
  have R0 : RowX w.heap.size #[.int .i64 0, .bool false, .int .i64 0, .int .i64 0, .int .i64 0, .int .i64 0, .int .i64 0] W := by rw [hW]; exact heap_alloc_new _ _
  have W0 : Hid (Below w.heap.size w W) := by show Below _ _ _; rw [hW]; exact bel_one _ _
  have HR0 := hide R0
  clear R0 hi hn hx s1 s2
  go_enter Try.func54, Try.ntmps54
  go_wp2_with fail
  rw [← hW]
  refine (RD.out _).mono ?_
  clear hW
  rintro e w1 ⟨rfl, hb1⟩
  have R1 := HR0.out.bel hb1
  have W1 := hide (bel_tr W0.out hb1)
  have f0 := R1.fr 0
  have f1 := R1.fr 1
  have f2 := R1.fr 2
  have f3 := R1.fr 3
  have f4 := R1.fr 4
  have f5 := R1.fr 5
  have f6 := R1.fr 6
  have x0 := R1.cell 0 _ rfl
  have x1 := R1.cell 1 _ rfl
  have x2 := R1.cell 2 _ rfl
  have x3 := R1.cell 3 _ rfl
  have x4 := R1.cell 4 _ rfl
  have x5 := R1.cell 5 _ rfl
  have x6 := R1.cell 6 _ rfl
  have HR1 := hide R1
  clear R1 hb1 HR0 W0
  go_upto_region 2 with fail
  refine gen_world (motive := fun x => Code.wp _ _ _ _ x) (fun x => RowX w.heap.size (xc ⟨op, wd, r, b, i, c, n⟩) x ∧ Below w.heap.size w x) ⟨RowX.of (((((((HR1.out.set 0 _).set 1 _).set 2 _).set 3 _).set 4 _).set 5 _).set 6 _) rfl, bel_set (bel_set (bel_set (bel_set (bel_set (bel_set (bel_set W1.out (Nat.le_refl _) _ _) (Nat.le_refl _) _ _) (Nat.le_refl _) _ _) (Nat.le_refl _) _ _) (Nat.le_refl _) _ _) (Nat.le_refl _) _ _) (Nat.le_refl _) _ _⟩ ?rest
  clear f0 f1 f2 f3 f4 f5 f6 x0 x1 x2 x3 x4 x5 x6 HR1 W1
  rintro w2 ⟨R2, W2⟩
  obtain ⟨x0, x1, x2, x3, x4, x5, x6⟩ := Bx.cells R2
  dsimp only at x0 x1 x2 x3 x4 x5 x6
  go_wp2_with fail
  refine (EN.out _).mono ?_
  rintro e w3 ⟨rfl, hb3⟩
  have R3 := R2.bel hb3
  have W3 := hide (bel_tr W2 hb3)
  clear R2 W2 hb3 x0 x1 x2 x3 x4 x5 x6
  obtain ⟨x0, x1, x2, x3, x4, x5, x6⟩ := Bx.cells R3
  dsimp only at x0 x1 x2 x3 x4 x5 x6
  have f0 := R3.fr 0
  have f1 := R3.fr 1
  have f2 := R3.fr 2
  have f3 := R3.fr 3
  have f4 := R3.fr 4
  have f5 := R3.fr 5
  have f6 := R3.fr 6
  have HR3 := hide R3
  clear R3
  go_wp2_with fail
  refine bodyPost_ret (results_3 rfl _ _ w.heap.size ⟨0, false, 0, 0, 0, 0, 0⟩ rfl (RowX.of (((((((HR3.out.set 0 _).set 1 _).set 2 _).set 3 _).set 4 _).set 5 _).set 6 _) rfl)) rfl ?_
  exact ⟨rfl, bel_set (bel_set (bel_set (bel_set (bel_set (bel_set (bel_set W3.out (Nat.le_refl _) _ _) (Nat.le_refl _) _ _) (Nat.le_refl _) _ _) (Nat.le_refl _) _ _) (Nat.le_refl _) _ _) (Nat.le_refl _) _ _) (Nat.le_refl _) _ _⟩
set_option maxHeartbeats 4000000 in
theorem decode_2 (t : ByteArray) (w : World) (op : Int) (wd : Bool) (r b i c n : Int) (hx : rd (pad t.data.toList) = ⟨op, wd, r, b, i, c, n⟩) (hq : rt ⟨op, wd, r, b, i, c, n⟩ = true) (hp : (enc ⟨op, wd, r, b, i, c, n⟩).isPrefixOf t.data.toList = false) : DcIs t w := by
  unfold DcIs
  have hi : I64 i := by have := rd_i (pad t.data.toList); rw [hx] at this; exact this
  have hn : I64 n := by have := rd_n (pad t.data.toList); rw [hx] at this; exact this
  have hd : dcX t.data.toList = none := by unfold dcX; rw [hx, hq, hp]; rfl
  have e1 : dX t.data.toList = ⟨0, false, 0, 0, 0, 0, 0⟩ := by unfold dX; rw [hd]; rfl
  have e2 : dN t.data.toList = 0 := by unfold dN; rw [hd]
  have e3 : dE t.data.toList = 6 := by unfold dE; rw [hd]; rfl
  have s1 : enS ⟨op, wd, r, b, i, c, n⟩ = enc ⟨op, wd, r, b, i, c, n⟩ := by simp [enS, hq]
  have s2 : enE ⟨op, wd, r, b, i, c, n⟩ = 0 := by simp [enE, hq]
  have HP := hide (fun U => has_pre t (str (enc ⟨op, wd, r, b, i, c, n⟩)) U (q := false) (by rw [str_data]; exact hp))
  rw [e1, e2, e3]
  clear e1 e2 e3 hd hq hp
  have RD := hide (fun U => read_is t ⟨op, wd, r, b, i, c, n⟩ hx U)
  have EN := hide (fun U => enc_is op wd r b i c n U hi hn s1 s2)
  obtain ⟨W, hW⟩ : ∃ W, W = w.alloc (.cells #[.int .i64 0, .bool false, .int .i64 0, .int .i64 0, .int .i64 0, .int .i64 0, .int .i64 0] 49) := ⟨_, rfl⟩
  have R0 : RowX w.heap.size #[.int .i64 0, .bool false, .int .i64 0, .int .i64 0, .int .i64 0, .int .i64 0, .int .i64 0] W := by rw [hW]; exact heap_alloc_new _ _
  have W0 : Hid (Below w.heap.size w W) := by show Below _ _ _; rw [hW]; exact bel_one _ _
  have HR0 := hide R0
  clear R0 hi hn hx s1 s2
  generalize str (enc ⟨op, wd, r, b, i, c, n⟩) = own at *
  go_enter Try.func54, Try.ntmps54
  go_wp2_with fail
  rw [← hW]
  refine (RD.out _).mono ?_
  clear hW
  rintro e w1 ⟨rfl, hb1⟩
  have R1 := HR0.out.bel hb1
  have W1 := hide (bel_tr W0.out hb1)
  have f0 := R1.fr 0
  have f1 := R1.fr 1
  have f2 := R1.fr 2
  have f3 := R1.fr 3
  have f4 := R1.fr 4
  have f5 := R1.fr 5
  have f6 := R1.fr 6
  have x0 := R1.cell 0 _ rfl
  have x1 := R1.cell 1 _ rfl
  have x2 := R1.cell 2 _ rfl
  have x3 := R1.cell 3 _ rfl
  have x4 := R1.cell 4 _ rfl
  have x5 := R1.cell 5 _ rfl
  have x6 := R1.cell 6 _ rfl
  have HR1 := hide R1
  clear R1 hb1 HR0 W0
  go_upto_region 2 with fail
  refine gen_world (motive := fun x => Code.wp _ _ _ _ x) (fun x => RowX w.heap.size (xc ⟨op, wd, r, b, i, c, n⟩) x ∧ Below w.heap.size w x) ⟨RowX.of (((((((HR1.out.set 0 _).set 1 _).set 2 _).set 3 _).set 4 _).set 5 _).set 6 _) rfl, bel_set (bel_set (bel_set (bel_set (bel_set (bel_set (bel_set W1.out (Nat.le_refl _) _ _) (Nat.le_refl _) _ _) (Nat.le_refl _) _ _) (Nat.le_refl _) _ _) (Nat.le_refl _) _ _) (Nat.le_refl _) _ _) (Nat.le_refl _) _ _⟩ ?rest
  clear f0 f1 f2 f3 f4 f5 f6 x0 x1 x2 x3 x4 x5 x6 HR1 W1
  rintro w2 ⟨R2, W2⟩
  obtain ⟨x0, x1, x2, x3, x4, x5, x6⟩ := Bx.cells R2
  dsimp only at x0 x1 x2 x3 x4 x5 x6
  go_wp2_with fail
  refine (EN.out _).mono ?_
  rintro e w3 ⟨rfl, hb3⟩
  have R3 := R2.bel hb3
  have W3 := hide (bel_tr W2 hb3)
  clear R2 W2 hb3 x0 x1 x2 x3 x4 x5 x6
  obtain ⟨x0, x1, x2, x3, x4, x5, x6⟩ := Bx.cells R3
  dsimp only at x0 x1 x2 x3 x4 x5 x6
  have f0 := R3.fr 0
  have f1 := R3.fr 1
  have f2 := R3.fr 2
  have f3 := R3.fr 3
  have f4 := R3.fr 4
  have f5 := R3.fr 5
  have f6 := R3.fr 6
  have HR3 := hide R3
  clear R3
  go_wp2_with (go_at_call 69; refine (HP.out _).mono ?_; rintro e w' ⟨rfl, rfl⟩)
  refine bodyPost_ret (results_3 rfl _ _ w.heap.size ⟨0, false, 0, 0, 0, 0, 0⟩ rfl (RowX.of (((((((HR3.out.set 0 _).set 1 _).set 2 _).set 3 _).set 4 _).set 5 _).set 6 _) rfl)) rfl ?_
  exact ⟨rfl, bel_set (bel_set (bel_set (bel_set (bel_set (bel_set (bel_set W3.out (Nat.le_refl _) _ _) (Nat.le_refl _) _ _) (Nat.le_refl _) _ _) (Nat.le_refl _) _ _) (Nat.le_refl _) _ _) (Nat.le_refl _) _ _) (Nat.le_refl _) _ _⟩
set_option maxHeartbeats 4000000 in
theorem decode_3 (t : ByteArray) (w : World) (op : Int) (wd : Bool) (r b i c n : Int) (hx : rd (pad t.data.toList) = ⟨op, wd, r, b, i, c, n⟩) (hq : rt ⟨op, wd, r, b, i, c, n⟩ = true) (hp : (enc ⟨op, wd, r, b, i, c, n⟩).isPrefixOf t.data.toList = true) : DcIs t w := by
  unfold DcIs
  have hi : I64 i := by have := rd_i (pad t.data.toList); rw [hx] at this; exact this
  have hn : I64 n := by have := rd_n (pad t.data.toList); rw [hx] at this; exact this
  have hd : dcX t.data.toList = some ⟨op, wd, r, b, i, c, n⟩ := by unfold dcX; rw [hx, hq, hp]; rfl
  have e1 : dX t.data.toList = ⟨op, wd, r, b, i, c, n⟩ := by unfold dX; rw [hd]; rfl
  have e2 : dN t.data.toList = ((str (enc ⟨op, wd, r, b, i, c, n⟩)).size : Int) := by unfold dN; rw [hd, str_size]
  have e3 : dE t.data.toList = 0 := by unfold dE; rw [hd]; rfl
  have s1 : enS ⟨op, wd, r, b, i, c, n⟩ = enc ⟨op, wd, r, b, i, c, n⟩ := by simp [enS, hq]
  have s2 : enE ⟨op, wd, r, b, i, c, n⟩ = 0 := by simp [enE, hq]
  have HP := hide (fun U => has_pre t (str (enc ⟨op, wd, r, b, i, c, n⟩)) U (q := true) (by rw [str_data]; exact hp))
  rw [e1, e2, e3]
  clear e1 e2 e3 hd hq hp
  have RD := hide (fun U => read_is t ⟨op, wd, r, b, i, c, n⟩ hx U)
  have EN := hide (fun U => enc_is op wd r b i c n U hi hn s1 s2)
  obtain ⟨W, hW⟩ : ∃ W, W = w.alloc (.cells #[.int .i64 0, .bool false, .int .i64 0, .int .i64 0, .int .i64 0, .int .i64 0, .int .i64 0] 49) := ⟨_, rfl⟩
  have R0 : RowX w.heap.size #[.int .i64 0, .bool false, .int .i64 0, .int .i64 0, .int .i64 0, .int .i64 0, .int .i64 0] W := by rw [hW]; exact heap_alloc_new _ _
  have W0 : Hid (Below w.heap.size w W) := by show Below _ _ _; rw [hW]; exact bel_one _ _
  have HR0 := hide R0
  clear R0 hi hn hx s1 s2
  generalize str (enc ⟨op, wd, r, b, i, c, n⟩) = own at *
  go_enter Try.func54, Try.ntmps54
  go_wp2_with fail
  rw [← hW]
  refine (RD.out _).mono ?_
  clear hW
  rintro e w1 ⟨rfl, hb1⟩
  have R1 := HR0.out.bel hb1
  have W1 := hide (bel_tr W0.out hb1)
  have f0 := R1.fr 0
  have f1 := R1.fr 1
  have f2 := R1.fr 2
  have f3 := R1.fr 3
  have f4 := R1.fr 4
  have f5 := R1.fr 5
  have f6 := R1.fr 6
  have x0 := R1.cell 0 _ rfl
  have x1 := R1.cell 1 _ rfl
  have x2 := R1.cell 2 _ rfl
  have x3 := R1.cell 3 _ rfl
  have x4 := R1.cell 4 _ rfl
  have x5 := R1.cell 5 _ rfl
  have x6 := R1.cell 6 _ rfl
  have HR1 := hide R1
  clear R1 hb1 HR0 W0
  go_upto_region 2 with fail
  refine gen_world (motive := fun x => Code.wp _ _ _ _ x) (fun x => RowX w.heap.size (xc ⟨op, wd, r, b, i, c, n⟩) x ∧ Below w.heap.size w x) ⟨RowX.of (((((((HR1.out.set 0 _).set 1 _).set 2 _).set 3 _).set 4 _).set 5 _).set 6 _) rfl, bel_set (bel_set (bel_set (bel_set (bel_set (bel_set (bel_set W1.out (Nat.le_refl _) _ _) (Nat.le_refl _) _ _) (Nat.le_refl _) _ _) (Nat.le_refl _) _ _) (Nat.le_refl _) _ _) (Nat.le_refl _) _ _) (Nat.le_refl _) _ _⟩ ?rest
  clear f0 f1 f2 f3 f4 f5 f6 x0 x1 x2 x3 x4 x5 x6 HR1 W1
  rintro w2 ⟨R2, W2⟩
  obtain ⟨x0, x1, x2, x3, x4, x5, x6⟩ := Bx.cells R2
  dsimp only at x0 x1 x2 x3 x4 x5 x6
  go_wp2_with fail
  refine (EN.out _).mono ?_
  rintro e w3 ⟨rfl, hb3⟩
  have R3 := R2.bel hb3
  have W3 := hide (bel_tr W2 hb3)
  clear R2 W2 hb3 x0 x1 x2 x3 x4 x5 x6
  obtain ⟨x0, x1, x2, x3, x4, x5, x6⟩ := Bx.cells R3
  dsimp only at x0 x1 x2 x3 x4 x5 x6
  have f0 := R3.fr 0
  have f1 := R3.fr 1
  have f2 := R3.fr 2
  have f3 := R3.fr 3
  have f4 := R3.fr 4
  have f5 := R3.fr 5
  have f6 := R3.fr 6
  have HR3 := hide R3
  clear R3
  go_wp2_with (go_at_call 69; refine (HP.out _).mono ?_; rintro e w' ⟨rfl, rfl⟩)
  refine bodyPost_ret (results_3 rfl _ _ w.heap.size ⟨op, wd, r, b, i, c, n⟩ rfl (RowX.of (((((((HR3.out.set 0 _).set 1 _).set 2 _).set 3 _).set 4 _).set 5 _).set 6 _) rfl)) rfl ?_
  exact ⟨rfl, bel_set (bel_set (bel_set (bel_set (bel_set (bel_set (bel_set W3.out (Nat.le_refl _) _ _) (Nat.le_refl _) _ _) (Nat.le_refl _) _ _) (Nat.le_refl _) _ _) (Nat.le_refl _) _ _) (Nat.le_refl _) _ _) (Nat.le_refl _) _ _⟩
theorem decode_any (t : ByteArray) (w : World) : DcIs t w := by
  rcases hx : rd (pad t.data.toList) with ⟨op, wd, r, b, i, c, n⟩
  cases hq : rt ⟨op, wd, r, b, i, c, n⟩
  · exact decode_1 t w op wd r b i c n hx hq
  · cases hp : (enc ⟨op, wd, r, b, i, c, n⟩).isPrefixOf t.data.toList
    · exact decode_2 t w op wd r b i c n hx hq hp
    · exact decode_3 t w op wd r b i c n hx hq hp
end Go.Proofs.Ytielpebokbolbaa.Xc

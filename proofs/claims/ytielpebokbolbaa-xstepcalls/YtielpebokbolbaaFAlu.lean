/-
  The program's Alu answers what the plain functions aV, aZ, aS, aC, aO tell of the trimmed values; only a box of its own is made.
-/
import Derived.Test.YtielpebokbolbaaFLeaf
import Derived.ShutString
namespace Go.Proofs.Ytielpebokbolbaa.Fg
open Go.RowKit

/-- flags in a block of their own -/
def Fl (g : Nat) (z s c o : Bool) (w : World) : Prop := w.heap[g]? = some (.cells #[.bool z, .bool s, .bool c, .bool o] 24)
def flv (z s c o : Bool) : Value := .agg #[.bool z, .bool s, .bool c, .bool o]
theorem results_fl {fn : Func} {p t u : Tmp} (h : fn.results = #[.tmp t, .cell p 24, .tmp u]) (tmps : Array Value) (w : World) (g : Nat) (z s c o : Bool) (hp : tmps.getD p undef = .pointer (some ⟨g, 0, none⟩)) (hb : Fl g z s c o w) :
    (results fn tmps).run Try.prog w = .ok (.tuple #[tmps.getD t undef, flv z s c o, tmps.getD u undef]) w := by
  have hl := run_loadVar_row (P := Try.prog) w g 24 24 _ _ _ hb Try.underlying24 rfl (by kernel_rfl)
  have hp' : tmps[p]?.getD undef = .pointer (some ⟨g, 0, none⟩) := by simpa using hp
  simp [results, h, hp', asAddr, hl, flv]
theorem bel_one (w : World) (o : Obj) : Below w.heap.size w (w.alloc o) := (Below.refl _ w).alloc (Nat.le_refl _) _
theorem Fl.made (w : World) (z s c o : Bool) : Fl w.heap.size z s c o (w.alloc (.cells #[.bool z, .bool s, .bool c, .bool o] 24)) := heap_alloc_new w _
theorem Fl.drew {g : Nat} {z s c o : Bool} {w : World} (h : Fl g z s c o w) : Fl g z s c o w.drew := h


/-- the kinds that there are -/
def aK (k : Int) : Bool := k == 0 || k == 1 || k == 4 || k == 5 || k == 6 || k == 7
/-- the result, of trimmed values -/
def aR (k : Int) (wide : Bool) (x y : Int) : Int :=
  if k = 0 then M wide (x + y) else if k = 5 then M wide (x - y) else if k = 7 then M wide (x - y)
  else if k = 1 then bits .or .i64 x y else if k = 4 then bits .and .i64 x y else if k = 6 then bits .xor .i64 x y else 0
def aV (k : Int) (wide : Bool) (x y : Int) : Int := if k = 7 then x else aR k wide x y
def aZ (k : Int) (wide : Bool) (x y : Int) : Bool := aK k && (aR k wide x y == 0)
def aS (k : Int) (wide : Bool) (x y : Int) : Bool := aK k && tp wide (aR k wide x y)
def aC (k : Int) (wide : Bool) (x y : Int) : Bool :=
  if k = 0 then decide (un (M wide (x + y)) < un x) else if k = 5 then decide (un x < un y) else if k = 7 then decide (un x < un y) else false
def aO (k : Int) (wide : Bool) (x y : Int) : Bool :=
  if k = 0 then (tp wide x == tp wide y && tp wide (M wide (x + y)) != tp wide x)
  else if k = 5 then (tp wide x != tp wide y && tp wide (M wide (x - y)) != tp wide x)
  else if k = 7 then (tp wide x != tp wide y && tp wide (M wide (x - y)) != tp wide x) else false
theorem bt_all (k : Nat) (hk : k < 64) : bt k (-1) = true := by
  have h := bt_not k 0 hk
  have h0 : bt k 0 = false := by simp [bt]
  rw [h0] at h; exact h
theorem tb_lt (wide : Bool) : tb wide < 64 := by cases wide <;> decide
theorem o_add (wide : Bool) (x y v : Int) (hx : I64 x) (hy : I64 y) (hv : I64 v) :
    tp wide (bits .and .i64 (bits .xor .i64 (-1) (bits .xor .i64 x y)) (bits .xor .i64 x v)) = (tp wide x == tp wide y && tp wide v != tp wide x) := by
  rw [tp_bt wide _ (bits_i64 _ (Or.inl rfl) _ _), tp_bt wide x hx, tp_bt wide y hy, tp_bt wide v hv, bt_and, bt_xor, bt_xor, bt_xor, bt_all _ (tb_lt wide)]
  cases bt (tb wide) x <;> cases bt (tb wide) y <;> cases bt (tb wide) v <;> rfl
theorem o_sub (wide : Bool) (x y v : Int) (hx : I64 x) (hy : I64 y) (hv : I64 v) :
    tp wide (bits .and .i64 (bits .xor .i64 x y) (bits .xor .i64 x v)) = (tp wide x != tp wide y && tp wide v != tp wide x) := by
  rw [tp_bt wide _ (bits_i64 _ (Or.inl rfl) _ _), tp_bt wide x hx, tp_bt wide y hy, tp_bt wide v hv, bt_and, bt_xor, bt_xor]
  cases bt (tb wide) x <;> cases bt (tb wide) y <;> cases bt (tb wide) v <;> rfl
theorem ret_fl {v v' : Int} {z z' s s' c c' o o' k : Bool} (h1 : v = v') (h2 : z = z') (h3 : s = s') (h4 : c = c') (h5 : o = o') :
    Ending.returned (.tuple #[.int .i64 v, flv z s c o, .bool k]) = .returned (.tuple #[.int .i64 v', flv z' s' c' o', .bool k]) := by subst h1 h2 h3 h4 h5; rfl
theorem tr_i64 (wide : Bool) (a : Int) (ha : I64 a) : I64 (tr wide a) := wd_i64 (tr_wd wide a ha)
set_option maxHeartbeats 1000000 in
theorem alu_0 (wide : Bool) (a b : Int) (w : World) (ha : I64 a) (hb : I64 b) :
    Calls Try.prog 61 #[.int .i64 0, .bool wide, .int .i64 a, .int .i64 b] w fun e w' => e = .returned (.tuple #[.int .i64 (aV 0 wide (tr wide a) (tr wide b)), flv (aZ 0 wide (tr wide a) (tr wide b)) (aS 0 wide (tr wide a) (tr wide b)) (aC 0 wide (tr wide a) (tr wide b)) (aO 0 wide (tr wide a) (tr wide b)), .bool true]) ∧ Below w.heap.size w w' := by
  have HA := hide (tr_i64 wide a ha)
  have HB := hide (tr_i64 wide b hb)
  clear ha hb
  go_enter Try.func61, Try.ntmps61
  go_wp2_with (first | (go_at_call 38; refine (trim_any _ _ _).mono ?_; rintro e w1 ⟨rfl, rfl⟩) | (go_at_call 74; refine (top_any _ _ _).mono ?_; rintro e w1 ⟨rfl, rfl⟩))
  go_region
  go_wp2_with fail
  refine bodyPost_ret (results_fl rfl _ _ w.heap.size _ _ _ _ rfl (Fl.made w _ _ _ _).drew) rfl ?_
  exact ⟨ret_fl (rfl) (rfl) (rfl) (by simp only [un_wrap]; rfl) (o_add wide _ _ _ HA.out HB.out (M_i64 _ _)), (bel_one _ _).drew⟩
set_option maxHeartbeats 1000000 in
theorem alu_5 (wide : Bool) (a b : Int) (w : World) (ha : I64 a) (hb : I64 b) :
    Calls Try.prog 61 #[.int .i64 5, .bool wide, .int .i64 a, .int .i64 b] w fun e w' => e = .returned (.tuple #[.int .i64 (aV 5 wide (tr wide a) (tr wide b)), flv (aZ 5 wide (tr wide a) (tr wide b)) (aS 5 wide (tr wide a) (tr wide b)) (aC 5 wide (tr wide a) (tr wide b)) (aO 5 wide (tr wide a) (tr wide b)), .bool true]) ∧ Below w.heap.size w w' := by
  have HA := hide (tr_i64 wide a ha)
  have HB := hide (tr_i64 wide b hb)
  clear ha hb
  go_enter Try.func61, Try.ntmps61
  go_wp2_with (first | (go_at_call 38; refine (trim_any _ _ _).mono ?_; rintro e w1 ⟨rfl, rfl⟩) | (go_at_call 74; refine (top_any _ _ _).mono ?_; rintro e w1 ⟨rfl, rfl⟩))
  go_region
  go_wp2_with fail
  refine bodyPost_ret (results_fl rfl _ _ w.heap.size _ _ _ _ rfl (Fl.made w _ _ _ _).drew) rfl ?_
  exact ⟨ret_fl (rfl) (rfl) (rfl) (by simp only [un_wrap]; rfl) (o_sub wide _ _ _ HA.out HB.out (M_i64 _ _)), (bel_one _ _).drew⟩
set_option maxHeartbeats 1000000 in
theorem alu_7 (wide : Bool) (a b : Int) (w : World) (ha : I64 a) (hb : I64 b) :
    Calls Try.prog 61 #[.int .i64 7, .bool wide, .int .i64 a, .int .i64 b] w fun e w' => e = .returned (.tuple #[.int .i64 (aV 7 wide (tr wide a) (tr wide b)), flv (aZ 7 wide (tr wide a) (tr wide b)) (aS 7 wide (tr wide a) (tr wide b)) (aC 7 wide (tr wide a) (tr wide b)) (aO 7 wide (tr wide a) (tr wide b)), .bool true]) ∧ Below w.heap.size w w' := by
  have HA := hide (tr_i64 wide a ha)
  have HB := hide (tr_i64 wide b hb)
  clear ha hb
  go_enter Try.func61, Try.ntmps61
  go_wp2_with (first | (go_at_call 38; refine (trim_any _ _ _).mono ?_; rintro e w1 ⟨rfl, rfl⟩) | (go_at_call 74; refine (top_any _ _ _).mono ?_; rintro e w1 ⟨rfl, rfl⟩))
  go_region
  go_wp2_with fail
  refine bodyPost_ret (results_fl rfl _ _ w.heap.size _ _ _ _ rfl (Fl.made w _ _ _ _).drew) rfl ?_
  exact ⟨ret_fl (rfl) (rfl) (rfl) (by simp only [un_wrap]; rfl) (o_sub wide _ _ _ HA.out HB.out (M_i64 _ _)), (bel_one _ _).drew⟩
set_option maxHeartbeats 1000000 in
theorem alu_1 (wide : Bool) (a b : Int) (w : World) (_ha : I64 a) (_hb : I64 b) :
    Calls Try.prog 61 #[.int .i64 1, .bool wide, .int .i64 a, .int .i64 b] w fun e w' => e = .returned (.tuple #[.int .i64 (aV 1 wide (tr wide a) (tr wide b)), flv (aZ 1 wide (tr wide a) (tr wide b)) (aS 1 wide (tr wide a) (tr wide b)) (aC 1 wide (tr wide a) (tr wide b)) (aO 1 wide (tr wide a) (tr wide b)), .bool true]) ∧ Below w.heap.size w w' := by
  go_enter Try.func61, Try.ntmps61
  go_wp2_with (first | (go_at_call 38; refine (trim_any _ _ _).mono ?_; rintro e w1 ⟨rfl, rfl⟩) | (go_at_call 74; refine (top_any _ _ _).mono ?_; rintro e w1 ⟨rfl, rfl⟩))
  go_region
  go_wp2_with fail
  refine bodyPost_ret (results_fl rfl _ _ w.heap.size _ _ _ _ rfl (Fl.made w _ _ _ _).drew) rfl ?_
  exact ⟨ret_fl (rfl) (rfl) (rfl) (rfl) (rfl), (bel_one _ _).drew⟩
set_option maxHeartbeats 1000000 in
theorem alu_4 (wide : Bool) (a b : Int) (w : World) (_ha : I64 a) (_hb : I64 b) :
    Calls Try.prog 61 #[.int .i64 4, .bool wide, .int .i64 a, .int .i64 b] w fun e w' => e = .returned (.tuple #[.int .i64 (aV 4 wide (tr wide a) (tr wide b)), flv (aZ 4 wide (tr wide a) (tr wide b)) (aS 4 wide (tr wide a) (tr wide b)) (aC 4 wide (tr wide a) (tr wide b)) (aO 4 wide (tr wide a) (tr wide b)), .bool true]) ∧ Below w.heap.size w w' := by
  go_enter Try.func61, Try.ntmps61
  go_wp2_with (first | (go_at_call 38; refine (trim_any _ _ _).mono ?_; rintro e w1 ⟨rfl, rfl⟩) | (go_at_call 74; refine (top_any _ _ _).mono ?_; rintro e w1 ⟨rfl, rfl⟩))
  go_region
  go_wp2_with fail
  refine bodyPost_ret (results_fl rfl _ _ w.heap.size _ _ _ _ rfl (Fl.made w _ _ _ _).drew) rfl ?_
  exact ⟨ret_fl (rfl) (rfl) (rfl) (rfl) (rfl), (bel_one _ _).drew⟩
set_option maxHeartbeats 1000000 in
theorem alu_6 (wide : Bool) (a b : Int) (w : World) (_ha : I64 a) (_hb : I64 b) :
    Calls Try.prog 61 #[.int .i64 6, .bool wide, .int .i64 a, .int .i64 b] w fun e w' => e = .returned (.tuple #[.int .i64 (aV 6 wide (tr wide a) (tr wide b)), flv (aZ 6 wide (tr wide a) (tr wide b)) (aS 6 wide (tr wide a) (tr wide b)) (aC 6 wide (tr wide a) (tr wide b)) (aO 6 wide (tr wide a) (tr wide b)), .bool true]) ∧ Below w.heap.size w w' := by
  go_enter Try.func61, Try.ntmps61
  go_wp2_with (first | (go_at_call 38; refine (trim_any _ _ _).mono ?_; rintro e w1 ⟨rfl, rfl⟩) | (go_at_call 74; refine (top_any _ _ _).mono ?_; rintro e w1 ⟨rfl, rfl⟩))
  go_region
  go_wp2_with fail
  refine bodyPost_ret (results_fl rfl _ _ w.heap.size _ _ _ _ rfl (Fl.made w _ _ _ _).drew) rfl ?_
  exact ⟨ret_fl (rfl) (rfl) (rfl) (rfl) (rfl), (bel_one _ _).drew⟩
set_option maxHeartbeats 1000000 in
theorem alu_no (k : Int) (wide : Bool) (a b : Int) (w : World) (hk : aK k = false) :
    Calls Try.prog 61 #[.int .i64 k, .bool wide, .int .i64 a, .int .i64 b] w fun e w' => e = .returned (.tuple #[.int .i64 0, flv false false false false, .bool false]) ∧ Below w.heap.size w w' := by
  simp only [aK, Bool.or_eq_false_iff] at hk
  obtain ⟨⟨⟨⟨⟨h0, h1⟩, h4⟩, h5⟩, h6⟩, h7⟩ := hk
  go_enter Try.func61, Try.ntmps61
  go_wp2_with (first | (go_at_call 38; refine (trim_any _ _ _).mono ?_; rintro e w1 ⟨rfl, rfl⟩) | (go_at_call 74; refine (top_any _ _ _).mono ?_; rintro e w1 ⟨rfl, rfl⟩))
  refine bodyPost_ret (results_fl rfl _ _ w.heap.size _ _ _ _ rfl (Fl.made w _ _ _ _)) rfl ?_
  exact ⟨rfl, (bel_one _ _)⟩

theorem alu_any (k : Int) (wide : Bool) (a b : Int) (w : World) (ha : I64 a) (hb : I64 b) :
    Calls Try.prog 61 #[.int .i64 k, .bool wide, .int .i64 a, .int .i64 b] w fun e w' => e = .returned (.tuple #[.int .i64 (aV k wide (tr wide a) (tr wide b)), flv (aZ k wide (tr wide a) (tr wide b)) (aS k wide (tr wide a) (tr wide b)) (aC k wide (tr wide a) (tr wide b)) (aO k wide (tr wide a) (tr wide b)), .bool (aK k)]) ∧ Below w.heap.size w w' := by
  cases hk : aK k
  · have h := alu_no k wide a b w hk
    have h2 := hk
    simp only [aK, Bool.or_eq_false_iff, beq_eq_false_iff_ne] at h2
    obtain ⟨⟨⟨⟨⟨h0, h1⟩, h4⟩, h5⟩, h6⟩, h7⟩ := h2
    rw [show aV k wide (tr wide a) (tr wide b) = 0 by simp only [aV, aR, h0, h1, h4, h5, h6, h7, if_false]]
    rw [show aZ k wide (tr wide a) (tr wide b) = false by simp only [aZ, hk, Bool.false_and], show aS k wide (tr wide a) (tr wide b) = false by simp only [aS, hk, Bool.false_and], show aC k wide (tr wide a) (tr wide b) = false by simp only [aC, h0, h5, h7, if_false], show aO k wide (tr wide a) (tr wide b) = false by simp only [aO, h0, h5, h7, if_false]]
    exact h
  · simp only [aK, Bool.or_eq_true, beq_iff_eq] at hk
    rcases hk with ((((rfl | rfl) | rfl) | rfl) | rfl) | rfl
    · exact alu_0 wide a b w ha hb
    · exact alu_1 wide a b w ha hb
    · exact alu_4 wide a b w ha hb
    · exact alu_5 wide a b w ha hb
    · exact alu_6 wide a b w ha hb
    · exact alu_7 wide a b w ha hb
end Go.Proofs.Ytielpebokbolbaa.Fg

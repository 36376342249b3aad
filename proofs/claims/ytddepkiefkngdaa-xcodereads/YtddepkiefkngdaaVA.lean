/-
  Merged: RVal RFar.
-/
import Derived.Test.YtddepkiefkngdaaDec
/-
  The document's value: bytes as a signed number.
-/
namespace Go.Proofs.Ytddepkiefkngdaa
open Go.RowKit
set_option linter.unusedSimpArgs false
set_option linter.unusedVariables false

theorem or_u64 (a b : Int) (ha : 0 ≤ a) (h1 : a * 256 < 18446744073709551616) (hb0 : 0 ≤ b) (hb1 : b ≤ 255) : bits BinOp.or IntKind.u64 (a * 256) b = a * 256 + b := by
  have e1 : (BitVec.ofInt 64 (a * 256)).toNat = (a * 256).toNat := by
    rw [BitVec.toNat_ofInt]
    show ((a * 256) % 18446744073709551616).toNat = _
    rw [Int.emod_eq_of_lt (by omega) h1]
  have e2 : (BitVec.ofInt 64 b).toNat = b.toNat := by
    rw [BitVec.toNat_ofInt]
    show (b % 18446744073709551616).toNat = _
    rw [Int.emod_eq_of_lt hb0 (by omega)]
  show IntKind.u64.wrap ((BitVec.ofInt 64 (a * 256) ||| BitVec.ofInt 64 b).toNat : Nat) = _
  rw [BitVec.toNat_or, e1, e2, nat_join 8 _ _ (by omega) (by omega)]
  simp [IntKind.wrap, IntKind.signed, IntKind.bits]
  omega
theorem u64_u8 (b : UInt8) : IntKind.u64.wrap (b.toNat : Int) = (b.toNat : Int) := by
  have := b.toNat_lt
  simp [IntKind.wrap, IntKind.signed, IntKind.bits]; omega
theorem le_drop (l : List UInt8) (k : Nat) (h : k < l.length) : le (l.drop k) = l[k].toNat + 256 * le (l.drop (k + 1)) := by
  rw [List.drop_eq_getElem_cons h]; rfl
theorem le_drop_lt (l : List UInt8) (k : Nat) (h8 : l.length ≤ 8) (hk : 1 ≤ k) : le (l.drop k) < 72057594037927936 := by
  have h1 := le_lt (l.drop k)
  have h2 : (l.drop k).length ≤ 7 := by simp; omega
  have h3 : (256 : Nat) ^ (l.drop k).length ≤ 256 ^ 7 := Nat.pow_le_pow_right (by decide) h2
  have h4 : (256 : Nat) ^ 7 = 72057594037927936 := by decide
  omega
theorem list_get (s : ByteArray) (k : Nat) (h : k < s.size) : s.data.toList[k]'(by simpa using h) = s[k] := by
  simp; rfl
set_option maxHeartbeats 2000000 in
theorem value_any (s : ByteArray) (w : World) (h : s.size = 4 ∨ s.size = 8) : Calls Try.prog 56 #[.string s] w fun e w' => e = .returned (.int .i64 (if s.size = 4 then wrap32 (le s.data.toList : Nat) else jn s.data.toList)) ∧ w' = w := by
  have hlen : s.data.toList.length = s.size := by simp
  obtain ⟨pv, hpv⟩ : ∃ pv : Nat → Int, pv = fun k => ((le (s.data.toList.drop k) : Nat) : Int) := ⟨_, rfl⟩
  have p0 : Hid (pv s.size = 0) := by show _ = _; rw [hpv]; simp only []; rw [List.drop_eq_nil_of_le (by omega)]; rfl
  have pz : Hid (pv 0 = (le s.data.toList : Nat)) := by show _ = _; rw [hpv]; simp
  have ST : Hid (∀ k (hk : k < s.size), 0 ≤ pv (k + 1) ∧ pv (k + 1) < 72057594037927936 ∧ bits BinOp.or IntKind.u64 (pv (k + 1) * 256) (s[k].toNat : Int) = pv k) := fun k hk => by
    have h1 := le_drop_lt s.data.toList (k + 1) (by omega) (by omega)
    have h2 := le_drop s.data.toList k (by omega)
    have hb := s[k].toNat_lt
    rw [hpv]
    refine ⟨by simp only []; omega, by simp only []; omega, ?_⟩
    simp only []
    rw [or_u64 _ _ (by omega) (by omega) (by omega) (by omega), h2, list_get s k hk]
    omega
  have P64 : Hid (∀ k, k ≤ s.size → 0 ≤ pv k ∧ pv k < 18446744073709551616) := fun k hk => by
    have h1 := le_lt (s.data.toList.drop k)
    have h2 : (s.data.toList.drop k).length ≤ 8 := by simp; omega
    have h3 : (256 : Nat) ^ (s.data.toList.drop k).length ≤ 256 ^ 8 := Nat.pow_le_pow_right (by decide) h2
    have h4 : (256 : Nat) ^ 8 = 18446744073709551616 := by decide
    rw [hpv]; simp only []; omega
  have hs8 : (s.size : Int) ≤ 8 := by omega
  have hs4 : (4 : Int) ≤ (s.size : Int) := by omega
  clear hpv hlen
  go_enter Try.func56, Try.ntmps56
  go_wp2
  go_loop [3, 4] (fun v i => ∃ k : Nat, k ≤ s.size ∧ i = .int .i64 ((k : Int) - 1) ∧ v = .int .u64 (pv k)) (fun _ i => (intOf i + 1).toNat)
  case atStart => exact ⟨s.size, Nat.le_refl _, by go_num, by rw [p0.out]⟩
  case round =>
    obtain ⟨k, hk, rfl, rfl⟩ := hrel
    cases k with
    | succ k =>
      obtain ⟨a1, a2, a3⟩ := ST.out k hk
      have A3 := hide a3
      have hk8 : (k : Int) ≤ 7 := by omega
      have hks : (k : Int) < (s.size : Int) := by omega
      generalize pv (k + 1) = q at *
      clear a3
      have ek : ((k + 1 : Nat) : Int) - 1 = (k : Int) := by omega
      rw [ek]
      go_wp2
      exact ⟨⟨k, by omega, rfl, by rw [u64_u8, A3.out]⟩, by simp [intOf]⟩
    | zero =>
      have hp := P64.out 0 (Nat.zero_le _)
      rw [pz.out] at *
      obtain ⟨hp0, hp1⟩ := hp
      generalize hL : ((le s.data.toList : Nat) : Int) = L at *
      have hjn : Hid (jn s.data.toList = wrap64 L) := by show _ = _; rw [← hL]; rfl
      rcases h with h | h
      · have e4 : ((s.size : Int) == 4) = true := by rw [h]; rfl
        have HI : Hid ((if s.size = 4 then wrap32 L else jn s.data.toList) = wrap32 L) := if_pos h
        go_wp2
        go_ret
        exact ⟨ret_int (by unfold wrap64 wrap32; omega), rfl⟩
      · have e4 : ((s.size : Int) == 4) = false := by rw [h]; rfl
        have HI : Hid ((if s.size = 4 then wrap32 L else jn s.data.toList) = jn s.data.toList) := if_neg (by omega)
        go_wp2
        go_ret
        exact ⟨ret_int hjn.out.symm, rfl⟩
end Go.Proofs.Ytddepkiefkngdaa
/-
  The document's far: an instruction whose first byte is 0F.
-/
namespace Go.Proofs.Ytddepkiefkngdaa
open Go.RowKit
set_option linter.unusedSimpArgs false
set_option linter.unusedVariables false

theorem value_4 (s : ByteArray) (w : World) (h : s.size = 4) : Calls Try.prog 56 #[.string s] w fun e w' => e = .returned (.int .i64 (v4 s.data.toList)) ∧ w' = w := by
  have := value_any s w (Or.inl h)
  rw [if_pos h] at this; exact this
theorem value_8 (s : ByteArray) (w : World) (h : s.size = 8) : Calls Try.prog 56 #[.string s] w fun e w' => e = .returned (.int .i64 (jn s.data.toList)) ∧ w' = w := by
  have := value_any s w (Or.inr h)
  rw [if_neg (by omega)] at this; exact this
/-- As gFar, of the parts. -/
def GF (wd : Bool) (op reg low : Int) (t : List UInt8) : Option Xi :=
  if op = 175 then some ⟨6, wd, reg, low, 0, 0, 0⟩ else if 144 ≤ op ∧ op < 160 then some ⟨13, wd, 0, 0, 0, op - 144, 0⟩ else if op = 182 then some ⟨14, wd, 0, 0, 0, 0, 0⟩
  else if 64 ≤ op ∧ op < 80 then some ⟨15, wd, reg, low, 0, op - 64, 0⟩
  else if 128 ≤ op ∧ op < 144 then (if t.length < 4 then none else some ⟨18, wd, 0, 0, 0, op - 128, v4 (t.take 4)⟩) else if op = 11 then some ⟨22, wd, 0, 0, 0, 0, 0⟩ else none
theorem gFar_is (p op : Int) (t : List UInt8) : gFar p op t = GF (decide (p / 8 % 2 = 1)) op (gReg p t) (gLow p t) t := rfl
theorem results_2 {fn : Func} {p u : Tmp} (h : fn.results = #[.cell p 23, .tmp u]) (tmps : Array Value) (w : World) (g : Nat) (x : Xi) (hp : tmps.getD p undef = .pointer (some ⟨g, 0, none⟩)) (hb : RowX g (xc x) w) :
    (results fn tmps).run Try.prog w = .ok (.tuple #[xv x, tmps.getD u undef]) w := by
  have hl := run_loadVar_row (P := Try.prog) w g 23 23 _ _ _ hb Try.underlying23 rfl (by kernel_rfl)
  have hp' : tmps[p]?.getD undef = .pointer (some ⟨g, 0, none⟩) := by simpa using hp
  simp [results, h, hp', asAddr, hl, xv, xc]
theorem row_2 (w : World) (o : Obj) (x : Xi) : RowX (w.heap.size + 1) (xc x) ((w.alloc o).alloc (.cells (xc x) 23)) := by
  have h := heap_alloc_new (w.alloc o) (.cells (xc x) 23)
  rw [show (w.alloc o).heap.size = w.heap.size + 1 by simp] at h; exact h
def FaPost (g : Option Xi) (w : World) (e : Ending) (w' : World) : Prop := ∃ y q, e = .returned (.tuple #[xv y, .bool q]) ∧ g = (if q then some y else none) ∧ Below w.heap.size w w'
theorem fa_mk {g : Option Xi} {w w' : World} (y : Xi) (q : Bool) (h : Hid (g = if q then some y else none)) (hb : Below w.heap.size w w') : FaPost g w (.returned (.tuple #[xv y, .bool q])) w' := ⟨y, q, rfl, h.out, hb⟩
def FaIs (wd : Bool) (op reg low : Int) (s : ByteArray) (w : World) : Prop :=
  Calls Try.prog 55 #[.agg #[.int .i64 0, .bool wd, .int .i64 0, .int .i64 0, .int .i64 0, .int .i64 0, .int .i64 0], .int .i64 op, .string s, .int .i64 reg, .int .i64 low] w (FaPost (GF wd op reg low s.data.toList) w)
set_option maxHeartbeats 2000000 in
theorem far_a (wd : Bool) (op reg low : Int) (s : ByteArray) (w : World) (h1 : op = 175) : FaIs wd op reg low s w := by
  have HG : Hid (GF wd op reg low s.data.toList = if true then some ⟨6, wd, reg, low, 0, 0, 0⟩ else none) := by
    show _ = _
    simp [GF, h1]
  subst h1
  unfold FaIs
  go_enter Try.func55, Try.ntmps55
  go_wp2_with (fail)
  refine bodyPost_ret (results_2 rfl _ _ (w.heap.size + 1) ⟨6, wd, reg, low, 0, 0, 0⟩ rfl (row_2 w _ _)) rfl ?_
  exact fa_mk ⟨6, wd, reg, low, 0, 0, 0⟩ true HG (bel_al (bel_one _ _) _)
set_option maxHeartbeats 2000000 in
theorem far_b (wd : Bool) (op reg low : Int) (s : ByteArray) (w : World) (h1 : op ≠ 175) (h2 : 144 ≤ op) (h3 : op < 160) : FaIs wd op reg low s w := by
  have HG : Hid (GF wd op reg low s.data.toList = if true then some ⟨13, wd, 0, 0, 0, op - 144, 0⟩ else none) := by
    show _ = _
    simp [GF, h1, h2, h3]
  have b0 : (op == 175) = false := beq_eq_false_iff_ne.2 (by omega)
  unfold FaIs
  go_enter Try.func55, Try.ntmps55
  go_wp2_with (fail)
  refine bodyPost_ret (results_2 rfl _ _ (w.heap.size + 1) ⟨13, wd, 0, 0, 0, op - 144, 0⟩ rfl (row_2 w _ _)) rfl ?_
  exact fa_mk ⟨13, wd, 0, 0, 0, op - 144, 0⟩ true HG (bel_al (bel_one _ _) _)
set_option maxHeartbeats 2000000 in
theorem far_c (wd : Bool) (op reg low : Int) (s : ByteArray) (w : World) (h1 : op = 182) : FaIs wd op reg low s w := by
  have HG : Hid (GF wd op reg low s.data.toList = if true then some ⟨14, wd, 0, 0, 0, 0, 0⟩ else none) := by
    show _ = _
    simp [GF, h1]
  subst h1
  unfold FaIs
  go_enter Try.func55, Try.ntmps55
  go_wp2_with (fail)
  refine bodyPost_ret (results_2 rfl _ _ (w.heap.size + 1) ⟨14, wd, 0, 0, 0, 0, 0⟩ rfl (row_2 w _ _)) rfl ?_
  exact fa_mk ⟨14, wd, 0, 0, 0, 0, 0⟩ true HG (bel_al (bel_one _ _) _)
set_option maxHeartbeats 2000000 in
theorem far_d (wd : Bool) (op reg low : Int) (s : ByteArray) (w : World) (h2 : 64 ≤ op) (h3 : op < 80) : FaIs wd op reg low s w := by
  have HG : Hid (GF wd op reg low s.data.toList = if true then some ⟨15, wd, reg, low, 0, op - 64, 0⟩ else none) := by
    show _ = _
    unfold GF; rw [if_neg (by omega), if_neg (by omega), if_neg (by omega), if_pos ⟨h2, h3⟩]; rfl
  have b0 : (op == 175) = false := beq_eq_false_iff_ne.2 (by omega)
  have b1 : (op == 182) = false := beq_eq_false_iff_ne.2 (by omega)
  have b2 : decide (144 ≤ op) = false := decide_eq_false (by omega)
  unfold FaIs
  go_enter Try.func55, Try.ntmps55
  go_wp2_with (fail)
  refine bodyPost_ret (results_2 rfl _ _ (w.heap.size + 1) ⟨15, wd, reg, low, 0, op - 64, 0⟩ rfl (row_2 w _ _)) rfl ?_
  exact fa_mk ⟨15, wd, reg, low, 0, op - 64, 0⟩ true HG (bel_al (bel_one _ _) _)
set_option maxHeartbeats 2000000 in
theorem far_e (wd : Bool) (op reg low : Int) (s : ByteArray) (w : World) (h2 : 128 ≤ op) (h3 : op < 144) (h4 : s.size < 4) : FaIs wd op reg low s w := by
  have HG : Hid (GF wd op reg low s.data.toList = if false then some ⟨0, wd, 0, 0, 0, 0, 0⟩ else none) := by
    show _ = _
    have hz : s.data.toList.length = s.size := by simp
    unfold GF; rw [if_neg (by omega), if_neg (by omega), if_neg (by omega), if_neg (by omega), if_pos ⟨h2, h3⟩, if_pos (by omega)]; rfl
  have b0 : (op == 175) = false := beq_eq_false_iff_ne.2 (by omega)
  have b1 : (op == 182) = false := beq_eq_false_iff_ne.2 (by omega)
  have b2 : decide (144 ≤ op) = false := decide_eq_false (by omega)
  have b3 : decide (op < 80) = false := decide_eq_false (by omega)
  have hs : (s.size : Int) < 4 := by omega
  unfold FaIs
  go_enter Try.func55, Try.ntmps55
  go_wp2_with (fail)
  refine bodyPost_ret (results_2 rfl _ _ (w.heap.size + 1) ⟨0, wd, 0, 0, 0, 0, 0⟩ rfl (row_2 w _ _)) rfl ?_
  exact fa_mk ⟨0, wd, 0, 0, 0, 0, 0⟩ false HG (bel_al (bel_one _ _) _)
set_option maxHeartbeats 2000000 in
theorem far_f (wd : Bool) (op reg low : Int) (s : ByteArray) (w : World) (h2 : 128 ≤ op) (h3 : op < 144) (h4 : 4 ≤ s.size) : FaIs wd op reg low s w := by
  have HG : Hid (GF wd op reg low s.data.toList = if true then some ⟨18, wd, 0, 0, 0, op - 128, v4 (s.data.toList.take 4)⟩ else none) := by
    show _ = _
    have hz : s.data.toList.length = s.size := by simp
    unfold GF; rw [if_neg (by omega), if_neg (by omega), if_neg (by omega), if_neg (by omega), if_pos ⟨h2, h3⟩, if_neg (by omega)]; rfl
  have b0 : (op == 175) = false := beq_eq_false_iff_ne.2 (by omega)
  have b1 : (op == 182) = false := beq_eq_false_iff_ne.2 (by omega)
  have b2 : decide (144 ≤ op) = false := decide_eq_false (by omega)
  have b3 : decide (op < 80) = false := decide_eq_false (by omega)
  have hs : (4 : Int) ≤ (s.size : Int) := by omega
  have hsd : decide ((s.size : Int) < 4) = false := decide_eq_false (by omega)
  have VV := hide (fun U => value_4 (s.extract 0 4) U (by simp; omega))
  rw [ext_take] at VV
  unfold FaIs
  go_enter Try.func55, Try.ntmps55
  go_wp2_with (go_at_call 56; refine (VV.out _).mono ?_; rintro e w' ⟨rfl, rfl⟩)
  refine bodyPost_ret (results_2 rfl _ _ (w.heap.size + 1) ⟨18, wd, 0, 0, 0, op - 128, v4 (s.data.toList.take 4)⟩ rfl (row_2 w _ _)) rfl ?_
  exact fa_mk ⟨18, wd, 0, 0, 0, op - 128, v4 (s.data.toList.take 4)⟩ true HG (bel_al (bel_one _ _) _)
set_option maxHeartbeats 2000000 in
theorem far_g (wd : Bool) (op reg low : Int) (s : ByteArray) (w : World) (h1 : op = 11) : FaIs wd op reg low s w := by
  have HG : Hid (GF wd op reg low s.data.toList = if true then some ⟨22, wd, 0, 0, 0, 0, 0⟩ else none) := by
    show _ = _
    simp [GF, h1]
  subst h1
  unfold FaIs
  go_enter Try.func55, Try.ntmps55
  go_wp2_with (fail)
  refine bodyPost_ret (results_2 rfl _ _ (w.heap.size + 1) ⟨22, wd, 0, 0, 0, 0, 0⟩ rfl (row_2 w _ _)) rfl ?_
  exact fa_mk ⟨22, wd, 0, 0, 0, 0, 0⟩ true HG (bel_al (bel_one _ _) _)
set_option maxHeartbeats 2000000 in
theorem far_no (wd : Bool) (op reg low : Int) (s : ByteArray) (w : World) (h1 : op ≠ 175) (h2 : ¬ (144 ≤ op ∧ op < 160)) (h3 : op ≠ 182) (h4 : ¬ (64 ≤ op ∧ op < 80)) (h5 : ¬ (128 ≤ op ∧ op < 144)) (h6 : op ≠ 11) : FaIs wd op reg low s w := by
  have HG : Hid (GF wd op reg low s.data.toList = if false then some ⟨0, wd, 0, 0, 0, 0, 0⟩ else none) := by
    show _ = _
    unfold GF; rw [if_neg h1, if_neg h2, if_neg h3, if_neg h4, if_neg h5, if_neg h6]; rfl
  unfold FaIs
  go_enter Try.func55, Try.ntmps55
  go_wp2_with fail
  all_goals first
    | (refine bodyPost_ret (results_2 rfl _ _ (w.heap.size + 1) ⟨0, wd, 0, 0, 0, 0, 0⟩ rfl (row_2 w _ _)) rfl ?_; exact fa_mk ⟨0, wd, 0, 0, 0, 0, 0⟩ false HG (bel_al (bel_one _ _) _))
    | (exfalso; simp_all; omega)
theorem far_any (wd : Bool) (op reg low : Int) (s : ByteArray) (w : World) : FaIs wd op reg low s w := by
  by_cases h1 : op = 175
  · exact far_a wd op reg low s w h1
  by_cases h2 : 144 ≤ op ∧ op < 160
  · exact far_b wd op reg low s w h1 h2.1 h2.2
  by_cases h3 : op = 182
  · exact far_c wd op reg low s w h3
  by_cases h4 : 64 ≤ op ∧ op < 80
  · exact far_d wd op reg low s w h4.1 h4.2
  by_cases h5 : 128 ≤ op ∧ op < 144
  · by_cases h : s.size < 4
    · exact far_e wd op reg low s w h5.1 h5.2 h
    · exact far_f wd op reg low s w h5.1 h5.2 (by omega)
  by_cases h6 : op = 11
  · exact far_g wd op reg low s w h6
  exact far_no wd op reg low s w h1 h2 h3 h4 h5 h6
end Go.Proofs.Ytddepkiefkngdaa

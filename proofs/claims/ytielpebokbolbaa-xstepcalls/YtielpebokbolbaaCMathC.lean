/-
  What the document's own reader guesses, as a plain function; two readers that read what is written agree. No program.
-/
import Derived.Test.YtielpebokbolbaaCMathB
namespace Go.Proofs.Ytielpebokbolbaa.Xc
open Go.RowKit
set_option linter.unusedSimpArgs false
set_option linter.unusedVariables false

/-- Parts of the byte behind the code; 0 if there is none. -/
def gReg (p : Int) (t : List UInt8) : Int := if t = [] then 0 else ga t 0 / 8 % 8 + upr p 4
def gLow (p : Int) (t : List UInt8) : Int := if t = [] then 0 else ga t 0 % 8 + upr p 1
def gMod (t : List UInt8) : Int := if t = [] then 0 else ga t 0 / 64
def v4 (l : List UInt8) : Int := wrap32 (le l : Nat)
def gI (i : Int) : Int := if i = 5 then 0 else i
def gFar (p op : Int) (t : List UInt8) : Option Xi :=
  let wd := decide (p / 8 % 2 = 1)
  if op = 175 then some ⟨6, wd, gReg p t, gLow p t, 0, 0, 0⟩ else if 144 ≤ op ∧ op < 160 then some ⟨13, wd, 0, 0, 0, op - 144, 0⟩ else if op = 182 then some ⟨14, wd, 0, 0, 0, 0, 0⟩
  else if 64 ≤ op ∧ op < 80 then some ⟨15, wd, gReg p t, gLow p t, 0, op - 64, 0⟩
  else if 128 ≤ op ∧ op < 144 then (if t.length < 4 then none else some ⟨18, wd, 0, 0, 0, op - 128, v4 (t.take 4)⟩) else if op = 11 then some ⟨22, wd, 0, 0, 0, 0, 0⟩ else none
def gNear (p op : Int) (t : List UInt8) : Option Xi :=
  let wd := decide (p / 8 % 2 = 1)
  if op = 137 ∧ gMod t = 3 then some ⟨1, wd, gReg p t, gLow p t, 0, 0, 0⟩
  else if (op = 139 ∨ op = 137) ∧ gMod t = 2 then (if t.length < 6 then none else some ⟨if op = 137 then 12 else 11, wd, gReg p t, ga t 1 % 8 + upr p 1, gI (ga t 1 / 8 % 8 + upr p 2 + 1), 0, v4 ((t.drop 2).take 4)⟩)
  else if 184 ≤ op ∧ op < 192 then (if t.length < 8 then none else some ⟨2, wd, op - 184 + upr p 1, 0, 0, 0, jn (t.take 8)⟩)
  else if op < 64 ∧ op % 8 = 1 then some ⟨3, wd, gReg p t, gLow p t, 0, op / 8, 0⟩
  else if op = 129 then (if t.length < 5 then none else some ⟨4, wd, 0, gLow p t, 0, gReg p t, v4 ((t.drop 1).take 4)⟩)
  else if op = 133 then some ⟨5, wd, gReg p t, gLow p t, 0, 0, 0⟩ else if op = 211 then some ⟨7, wd, 0, gLow p t, 0, gReg p t, 0⟩
  else if op = 247 ∧ gReg p t = 6 then some ⟨8, wd, 0, gLow p t, 0, 0, 0⟩ else if op = 247 then some ⟨9, wd, 0, gLow p t, 0, 0, 0⟩
  else if op = 153 then some ⟨10, wd, 0, 0, 0, 0, 0⟩ else if op = 99 then some ⟨16, wd, gReg p t, gLow p t, 0, 0, 0⟩
  else if op = 233 ∨ op = 232 then (if t.length < 4 then none else some ⟨if op = 232 then 19 else 17, wd, 0, 0, 0, 0, v4 (t.take 4)⟩)
  else if op = 195 then some ⟨20, wd, 0, 0, 0, 0, 0⟩ else if op = 244 then some ⟨21, wd, 0, 0, 0, 0, 0⟩ else if op = 204 then some ⟨23, wd, 0, 0, 0, 0, 0⟩ else none
def guT (p : Int) (t : List UInt8) : Option Xi :=
  if t = [] then none else if ga t 0 = 15 then (if t.length < 2 then none else gFar p (ga t 1) (t.drop 2)) else gNear p (ga t 0) (t.drop 1)
def gu (b : List UInt8) : Option Xi := if ga b 0 / 16 = 4 then guT (ga b 0) (b.drop 1) else guT 64 b
def gC (p c : Int) (t : List UInt8) : Option Xi := if c < 256 then gNear p c t else gFar p (c - 3840) t
theorem gu_pre (w : Bool) (m i l : Int) (t : List UInt8) (h : ga t 0 / 16 ≠ 4) : gu (pre (rxb w m i l) ++ t) = guT (rxb w m i l) t := by
  have hb := rxb_bd w m i l
  generalize rxb w m i l = p at *
  unfold pre
  split
  · subst p; simp [gu, h]
  · have e : ga ([by8 p] ++ t) 0 = p := by simp only [List.cons_append, ga_0]; exact by8_id (by omega) (by omega)
    simp only [gu, e]
    rw [if_pos (by omega)]; simp
theorem guT_two (p c : Int) (t : List UInt8) (h : CodOk c) : guT p (two c ++ t) = gC p c t := by
  rcases h with ⟨h0, h1, h2, h3⟩ | ⟨h0, h1⟩
  · have e : two c = [by8 c] := by unfold two; rw [if_neg (by omega)]
    have g : gC p c t = gNear p c t := by unfold gC; rw [if_pos (by omega)]
    rw [g, e, guT]
    simp only [List.cons_append, List.nil_append, ga_0, by8_id h0 h1]
    rw [if_neg (by simp), if_neg h2]; simp
  · have e : two c = [by8 (c / 256), by8 c] := by unfold two; rw [if_pos (by omega)]
    have e1 : c / 256 = 15 := by omega
    have e2 : ((by8 c).toNat : Int) = c - 3840 := by rw [by8_val]; omega
    have g : gC p c t = gFar p (c - 3840) t := by unfold gC; rw [if_neg (by omega)]
    rw [g, e, e1, guT]
    simp only [List.cons_append, List.nil_append, ga_0, ga_1, by8_id (show (0 : Int) ≤ 15 by decide) (show (15 : Int) ≤ 255 by decide), e2, List.drop_succ_cons, List.drop_zero]
    rw [if_neg (by simp), if_pos trivial, if_neg (by simp)]
theorem v4_bys {n : Int} (h : s32 n = true) : v4 (bys 4 n) = n := by
  simp only [s32, Bool.and_eq_true, decide_eq_true_eq] at h
  unfold v4
  rw [le_bys]
  unfold wrap32
  rw [show (256 : Int) ^ 4 = 4294967296 by decide]
  omega
theorem v4_is {n : Int} (h : s32 n = true) (s : List UInt8) : v4 ((bys 4 n ++ s).take 4) = n := by
  rw [List.take_left' (bys_len 4 n)]; exact v4_bys h
theorem up_add' {v : Int} (h0 : 0 ≤ v) (h1 : v ≤ 15) : v % 8 + up 8 v = v := by rw [Int.add_comm]; exact up_add h0 h1
theorem gI_inx {i : Int} (h : 0 ≤ i ∧ i ≤ 16 ∧ i ≠ 5) : gI (inx i % 8 + up 8 (inx i) + 1) = i := by
  have h0 : 0 ≤ inx i ∧ inx i ≤ 15 := by unfold inx; split <;> omega
  rw [up_add' h0.1 h0.2]
  unfold gI inx
  split <;> split <;> omega
theorem gC_enc {x : Xi} (h : rt x = true) (hn : I64 x.n) (s : List UInt8) : gC (rx x) (cod x) (mrs x ++ (nmb x ++ s)) = some x := by
  revert hn
  refine rt_elim (P := fun x => I64 x.n → gC (rx x) (cod x) (mrs x ++ (nmb x ++ s)) = some x) h ?mov ?movi ?alu ?alui ?test ?mul ?shift ?div ?idiv ?sign ?load ?store ?set ?byte ?cmov ?widen ?jmp ?jcc ?call ?ret ?hlt ?stop ?host
  case movi =>
    intro r n hr hn
    have e1 : ¬ (184 + r % 8 = 137) := by omega
    have e2 : ¬ (184 + r % 8 = 139) := by omega
    have e3 : 184 + r % 8 < 192 := by omega
    have e4 : 184 + r % 8 < 256 := by omega
    have e5 : 184 ≤ 184 + r % 8 := by omega
    have e6 : 184 + r % 8 - 184 + up 8 r = r := by have := up_add hr.1 hr.2; omega
    have e7 : ¬ ((bys 8 n ++ s).length < 8) := by simp only [List.length_append, bys_len]; omega
    simp only [gC, gNear, mrs, nmb, cod, rx, fR2, fRR, fB, fP, reduceIte, Int.reduceEq, Int.reduceBEq, Bool.or_self, or_self, Bool.false_eq_true, List.nil_append, e1, e2, e3, e4, e5, e6, e7, false_and, true_and, and_self, rxb_w, rxb_1, jn8 hn, if_true, if_false]
  case load =>
    intro w r b i n hr hb hi hs hn
    simp [gC, gNear, gReg, gLow, gMod, mrs, nmb, cod, rx, fR2, fRR, fB, fP, h32, ga_0, ga_1, mri8_2, mri8_0, mri_a, mri_b, mri_c, rxb_w, rxb_4, rxb_2, rxb_1, v4_is hs, v4_bys hs, up_add' hr.1 hr.2, up_add' hb.1 hb.2, gI_inx hi, bys_len]
  case store =>
    intro w r b i n hr hb hi hs hn
    simp [gC, gNear, gReg, gLow, gMod, mrs, nmb, cod, rx, fR2, fRR, fB, fP, h32, ga_0, ga_1, mri8_2, mri8_0, mri_a, mri_b, mri_c, rxb_w, rxb_4, rxb_2, rxb_1, v4_is hs, v4_bys hs, up_add' hr.1 hr.2, up_add' hb.1 hb.2, gI_inx hi, bys_len]
  case alu =>
    intro w r b c hr hb hc hn
    rcases sm_cases hc with rfl | rfl | rfl | rfl | rfl | rfl <;> simp [gC, gNear, gFar, gReg, gLow, gMod, mrs, nmb, cod, mid, rx, fR2, fRR, fB, fP, h32, ga_0, mri8_3, mri_a, mri_b, mri_c, rxb_w, rxb_4, rxb_2, rxb_1, up_add' hr.1 hr.2, up_add' hb.1 hb.2]
  case cmov =>
    intro w r b c hr hb hc hn
    rcases cn_cases hc with rfl | rfl | rfl | rfl | rfl | rfl | rfl | rfl | rfl | rfl <;> simp [gC, gNear, gFar, gReg, gLow, gMod, mrs, nmb, cod, mid, rx, fR2, fRR, fB, fP, h32, ga_0, mri8_3, mri_a, mri_b, mri_c, rxb_w, rxb_4, rxb_2, rxb_1, up_add' hr.1 hr.2, up_add' hb.1 hb.2]
  case set =>
    intro c hc hn
    rcases cn_cases hc with rfl | rfl | rfl | rfl | rfl | rfl | rfl | rfl | rfl | rfl <;> simp [gC, gNear, gFar, gReg, gLow, gMod, mrs, nmb, cod, mid, rx, fR2, fRR, fB, fP, h32, ga_0, mri8_3, mri_a, mri_b, mri_c, rxb_w, rxb_4, rxb_2, rxb_1, up8]
  case jcc =>
    intro c n hc hs hn
    rcases cn_cases hc with rfl | rfl | rfl | rfl | rfl | rfl | rfl | rfl | rfl | rfl <;> (simp [gC, gNear, gFar, gReg, gLow, gMod, mrs, nmb, cod, mid, rx, fR2, fRR, fB, fP, h32, rxb_w, v4_is hs, v4_bys hs, bys_len])
  case alui =>
    intro w b c n hb hc hs hn
    rcases sm_cases hc with rfl | rfl | rfl | rfl | rfl | rfl <;> (simp [gC, gNear, gFar, gReg, gLow, gMod, mrs, nmb, cod, mid, rx, fR2, fRR, fB, fP, h32, ga_0, mri8_3, mri_a, mri_b, mri_c, rxb_w, rxb_4, rxb_2, rxb_1, v4_is hs, v4_bys hs, up_add' hb.1 hb.2, up8, bys_len])
  case shift =>
    intro w b c hb hc hn
    rcases sh_cases hc with rfl | rfl | rfl | rfl | rfl <;> simp [gC, gNear, gFar, gReg, gLow, gMod, mrs, nmb, cod, mid, rx, fR2, fRR, fB, fP, h32, ga_0, mri8_3, mri_a, mri_b, mri_c, rxb_w, rxb_4, rxb_2, rxb_1, up_add' hb.1 hb.2, up8]
  case jmp =>
    intro n hs hn
    simp [gC, gNear, gFar, gReg, gLow, gMod, mrs, nmb, cod, mid, rx, fR2, fRR, fB, fP, h32, rxb_w, v4_is hs, v4_bys hs, bys_len]
  case call =>
    intro n hs hn
    simp [gC, gNear, gFar, gReg, gLow, gMod, mrs, nmb, cod, mid, rx, fR2, fRR, fB, fP, h32, rxb_w, v4_is hs, v4_bys hs, bys_len]
  case mov =>
    intro w r b hr hb hn
    simp [gC, gNear, gFar, gReg, gLow, gMod, mrs, nmb, cod, mid, rx, fR2, fRR, fB, fP, h32, ga_0, mri8_3, mri_a, mri_b, mri_c, rxb_w, rxb_4, rxb_2, rxb_1, up_add' hr.1 hr.2, up_add' hb.1 hb.2]
  case test =>
    intro w r b hr hb hn
    simp [gC, gNear, gFar, gReg, gLow, gMod, mrs, nmb, cod, mid, rx, fR2, fRR, fB, fP, h32, ga_0, mri8_3, mri_a, mri_b, mri_c, rxb_w, rxb_4, rxb_2, rxb_1, up_add' hr.1 hr.2, up_add' hb.1 hb.2]
  case mul =>
    intro w r b hr hb hn
    simp [gC, gNear, gFar, gReg, gLow, gMod, mrs, nmb, cod, mid, rx, fR2, fRR, fB, fP, h32, ga_0, mri8_3, mri_a, mri_b, mri_c, rxb_w, rxb_4, rxb_2, rxb_1, up_add' hr.1 hr.2, up_add' hb.1 hb.2]
  case widen =>
    intro r b hr hb hn
    simp [gC, gNear, gFar, gReg, gLow, gMod, mrs, nmb, cod, mid, rx, fR2, fRR, fB, fP, h32, ga_0, mri8_3, mri_a, mri_b, mri_c, rxb_w, rxb_4, rxb_2, rxb_1, up_add' hr.1 hr.2, up_add' hb.1 hb.2]
  case div =>
    intro w b hb hn
    simp [gC, gNear, gFar, gReg, gLow, gMod, mrs, nmb, cod, mid, rx, fR2, fRR, fB, fP, h32, ga_0, mri8_3, mri_a, mri_b, mri_c, rxb_w, rxb_4, rxb_2, rxb_1, up_add' hb.1 hb.2, up8]
  case idiv =>
    intro w b hb hn
    simp [gC, gNear, gFar, gReg, gLow, gMod, mrs, nmb, cod, mid, rx, fR2, fRR, fB, fP, h32, ga_0, mri8_3, mri_a, mri_b, mri_c, rxb_w, rxb_4, rxb_2, rxb_1, up_add' hb.1 hb.2, up8]
  all_goals (intros; simp [gC, gNear, gFar, gReg, gLow, gMod, mrs, nmb, cod, mid, rx, fR2, fRR, fB, fP, h32, ga_0, mri8_3, mri_a, mri_b, mri_c, rxb_w, rxb_4, rxb_2, rxb_1, up8])
theorem gu_enc {x : Xi} (h : rt x = true) (hn : I64 x.n) (s : List UInt8) : gu (enc x ++ s) = some x := by
  obtain ⟨w, m, i, l, e⟩ := rx_is x
  have h2 := fun p t => (rdT_two p (cod x) t (cod_ok h)).2
  unfold enc
  rw [List.append_assoc, e, gu_pre _ _ _ _ _ (by rw [List.append_assoc]; exact h2 0 _), List.append_assoc, guT_two _ _ _ (cod_ok h), List.append_assoc, ← e]
  exact gC_enc h hn s
theorem pre_len1 (p : Int) : (pre p).length ≤ 1 := by unfold pre; split <;> simp
theorem two_len2 (c : Int) : 1 ≤ (two c).length ∧ (two c).length ≤ 2 := by unfold two; split <;> simp
theorem mrs_len (x : Xi) : (mrs x).length ≤ 2 := by unfold mrs; split; simp; split <;> simp
theorem nmb_len (x : Xi) : (nmb x).length ≤ 8 := by unfold nmb; split; simp [bys_len]; split <;> simp [bys_len]
theorem enc_len (x : Xi) : 1 ≤ (enc x).length ∧ (enc x).length ≤ 13 := by
  have h1 := pre_len1 (rx x)
  have h2 := two_len2 (cod x)
  have h3 := mrs_len x
  have h4 := nmb_len x
  unfold enc
  simp only [List.length_append]
  omega
theorem pad_app (a s : List UInt8) (h : a.length ≤ 16) : ∃ s', pad (a ++ s) = a ++ s' := by
  refine ⟨(s ++ List.replicate 16 0).take (16 - a.length), ?_⟩
  unfold pad
  rw [List.append_assoc, List.take_append, List.take_of_length_le h]
theorem rd_pad {x : Xi} (h : rt x = true) (hn : I64 x.n) (s : List UInt8) : rd (pad (enc x ++ s)) = x := by
  obtain ⟨s', e⟩ := pad_app (enc x) s (by have := enc_len x; omega)
  rw [e]; exact rd_enc h hn s'
theorem jn_I64 (l : List UInt8) : I64 (jn l) := by unfold jn I64 wrap64; omega
theorem w32_I64 (x : Int) : I64 (wrap32 x) := by unfold I64 wrap32; omega
theorem zero_I64 : I64 0 := by unfold I64; omega
theorem rdC_n (p f : Int) (t : List UInt8) : I64 (rdC p f t).n := by
  unfold rdC
  simp only []
  split
  · exact jn_I64 _
  · split
    · exact w32_I64 _
    · split
      · show I64 (if _ then _ else _)
        split
        · exact w32_I64 _
        · exact zero_I64
      · show I64 (if _ then _ else _)
        split
        · exact w32_I64 _
        · exact zero_I64
theorem rd_n (l : List UInt8) : I64 (rd l).n := by
  unfold rd rdT
  split <;> split <;> exact rdC_n _ _ _
/-- What bytes begin with. -/
def dcX (b : List UInt8) : Option Xi := if rt (rd (pad b)) && (enc (rd (pad b))).isPrefixOf b then some (rd (pad b)) else none
theorem dc_is {x : Xi} {b : List UInt8} (h : rt x = true) (hn : I64 x.n) (hp : enc x <+: b) : dcX b = some x := by
  obtain ⟨s, rfl⟩ := hp
  have e := rd_pad h hn s
  unfold dcX
  rw [e, h, Bool.true_and, if_pos (List.isPrefixOf_iff_prefix.2 ⟨s, rfl⟩)]
theorem dc_some {x : Xi} {b : List UInt8} (h : dcX b = some x) : rt x = true ∧ enc x <+: b ∧ I64 x.n ∧ x = rd (pad b) := by
  unfold dcX at h
  split at h
  · rename_i hc
    simp only [Bool.and_eq_true] at hc
    obtain rfl := Option.some.inj h
    exact ⟨hc.1, List.isPrefixOf_iff_prefix.1 hc.2, rd_n _, rfl⟩
  · cases h
def rdcX (b : List UInt8) : Option Xi := match gu b with
  | none => none
  | some y => if rt y && (enc y).isPrefixOf b then some y else none
def GuN (o : Option Xi) : Prop := ∀ y, o = some y → I64 y.n
theorem guN_if {c : Prop} [Decidable c] {a b : Option Xi} (ha : GuN a) (hb : GuN b) : GuN (if c then a else b) := by split <;> assumption
theorem guN_none : GuN none := fun _ h => by cases h
theorem guN_some {x : Xi} (h : I64 x.n) : GuN (some x) := fun y e => by cases e; exact h
theorem guN_0 (a : Int) (b : Bool) (c d e f : Int) : GuN (some ⟨a, b, c, d, e, f, 0⟩) := guN_some zero_I64
theorem guN_v (a : Int) (b : Bool) (c d e f : Int) (l : List UInt8) : GuN (some ⟨a, b, c, d, e, f, v4 l⟩) := guN_some (w32_I64 _)
theorem guN_j (a : Int) (b : Bool) (c d e f : Int) (l : List UInt8) : GuN (some ⟨a, b, c, d, e, f, jn l⟩) := guN_some (jn_I64 _)
theorem gFar_n (p op : Int) (t : List UInt8) : GuN (gFar p op t) := by
  unfold gFar
  simp only []
  repeat' first | with_reducible exact guN_none | with_reducible exact guN_0 _ _ _ _ _ _ | with_reducible exact guN_v _ _ _ _ _ _ _ | with_reducible exact guN_j _ _ _ _ _ _ _ | refine guN_if ?_ ?_
theorem gNear_n (p op : Int) (t : List UInt8) : GuN (gNear p op t) := by
  unfold gNear
  simp only []
  repeat' first | with_reducible exact guN_none | with_reducible exact guN_0 _ _ _ _ _ _ | with_reducible exact guN_v _ _ _ _ _ _ _ | with_reducible exact guN_j _ _ _ _ _ _ _ | refine guN_if ?_ ?_
theorem guT_n (p : Int) (t : List UInt8) : GuN (guT p t) := by
  unfold guT
  exact guN_if guN_none (guN_if (guN_if guN_none (gFar_n _ _ _)) (gNear_n _ _ _))
theorem gu_n (b : List UInt8) : GuN (gu b) := by unfold gu; exact guN_if (guT_n _ _) (guT_n _ _)
theorem rdc_some {x : Xi} {b : List UInt8} (h : rdcX b = some x) : rt x = true ∧ enc x <+: b ∧ I64 x.n := by
  unfold rdcX at h
  split at h
  · cases h
  · rename_i y hy
    split at h
    · rename_i hc
      simp only [Bool.and_eq_true] at hc
      obtain rfl := Option.some.inj h
      exact ⟨hc.1, List.isPrefixOf_iff_prefix.1 hc.2, gu_n b y hy⟩
    · cases h
theorem rdc_is {x : Xi} {b : List UInt8} (h : rt x = true) (hn : I64 x.n) (hp : enc x <+: b) : rdcX b = some x := by
  obtain ⟨s, rfl⟩ := hp
  unfold rdcX
  rw [gu_enc h hn s]
  simp only [h, Bool.true_and]
  rw [if_pos (List.isPrefixOf_iff_prefix.2 ⟨s, rfl⟩)]
/-- The two readers agree. -/
theorem rdc_dc (b : List UInt8) : rdcX b = dcX b := by
  cases h : dcX b with
  | some x =>
    obtain ⟨h1, h2, h3, _⟩ := dc_some h
    exact rdc_is h1 h3 h2
  | none =>
    cases k : rdcX b with
    | none => rfl
    | some x =>
      obtain ⟨h1, h2, h3⟩ := rdc_some k
      rw [dc_is h1 h3 h2] at h; cases h
theorem enc_inj {x y : Xi} (hx : rt x = true) (hy : rt y = true) (nx : I64 x.n) (ny : I64 y.n) {s : List UInt8} (h : enc x ++ s = enc y) : x = y := by
  have h1 := rd_pad hx nx s
  rw [h] at h1
  have h2 := rd_pad hy ny []
  rw [List.append_nil] at h2
  exact h1.symm.trans h2
end Go.Proofs.Ytielpebokbolbaa.Xc

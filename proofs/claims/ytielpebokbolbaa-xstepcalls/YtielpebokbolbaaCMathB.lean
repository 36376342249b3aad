/-
  What is written is read as it was, by the program's reader and by the document's; sizes. No program.
-/
import Derived.Test.YtielpebokbolbaaCMath
namespace Go.Proofs.Ytielpebokbolbaa.Xc
open Go.RowKit
set_option linter.unusedSimpArgs false
set_option linter.unusedVariables false

theorem op_cases {op : Int} (h : 1 ≤ op) (h' : op ≤ 23) : op = 1 ∨ op = 2 ∨ op = 3 ∨ op = 4 ∨ op = 5 ∨ op = 6 ∨ op = 7 ∨ op = 8 ∨ op = 9 ∨ op = 10 ∨ op = 11 ∨ op = 12 ∨ op = 13 ∨ op = 14 ∨ op = 15 ∨ op = 16 ∨ op = 17 ∨ op = 18 ∨ op = 19 ∨ op = 20 ∨ op = 21 ∨ op = 22 ∨ op = 23 := by omega
theorem rg_iff {r : Int} : rg r = true ↔ 0 ≤ r ∧ r ≤ 15 := by simp [rg]
theorem ix_iff {i : Int} : ix i = true ↔ 0 ≤ i ∧ i ≤ 16 ∧ i ≠ 5 := by simp [ix]
theorem sm_cases {c : Int} (h : smK c = true) : c = 0 ∨ c = 1 ∨ c = 4 ∨ c = 5 ∨ c = 6 ∨ c = 7 := by simpa [smK, or_assoc] using h
theorem sh_cases {c : Int} (h : shK c = true) : c = 0 ∨ c = 1 ∨ c = 4 ∨ c = 5 ∨ c = 7 := by simpa [shK, or_assoc] using h
theorem cn_cases {c : Int} (h : cnK c = true) : c = 2 ∨ c = 3 ∨ c = 4 ∨ c = 5 ∨ c = 6 ∨ c = 7 ∨ c = 12 ∨ c = 13 ∨ c = 14 ∨ c = 15 := by simpa [cnK, or_assoc] using h
/-- All that an instruction that is right can be. -/
theorem rt_elim {P : Xi → Prop} {x : Xi} (h : rt x = true)
    (mov : ∀ (w : Bool) (r b : Int) (hr : 0 ≤ r ∧ r ≤ 15) (hb : 0 ≤ b ∧ b ≤ 15), P ⟨1, w, r, b, 0, 0, 0⟩)
    (movi : ∀ (r n : Int) (hr : 0 ≤ r ∧ r ≤ 15), P ⟨2, true, r, 0, 0, 0, n⟩)
    (alu : ∀ (w : Bool) (r b c : Int) (hr : 0 ≤ r ∧ r ≤ 15) (hb : 0 ≤ b ∧ b ≤ 15) (hc : smK c = true), P ⟨3, w, r, b, 0, c, 0⟩)
    (alui : ∀ (w : Bool) (b c n : Int) (hb : 0 ≤ b ∧ b ≤ 15) (hc : smK c = true) (hn : s32 n = true), P ⟨4, w, 0, b, 0, c, n⟩)
    (test : ∀ (w : Bool) (r b : Int) (hr : 0 ≤ r ∧ r ≤ 15) (hb : 0 ≤ b ∧ b ≤ 15), P ⟨5, w, r, b, 0, 0, 0⟩)
    (mul : ∀ (w : Bool) (r b : Int) (hr : 0 ≤ r ∧ r ≤ 15) (hb : 0 ≤ b ∧ b ≤ 15), P ⟨6, w, r, b, 0, 0, 0⟩)
    (shift : ∀ (w : Bool) (b c : Int) (hb : 0 ≤ b ∧ b ≤ 15) (hc : shK c = true), P ⟨7, w, 0, b, 0, c, 0⟩)
    (div : ∀ (w : Bool) (b : Int) (hb : 0 ≤ b ∧ b ≤ 15), P ⟨8, w, 0, b, 0, 0, 0⟩)
    (idiv : ∀ (w : Bool) (b : Int) (hb : 0 ≤ b ∧ b ≤ 15), P ⟨9, w, 0, b, 0, 0, 0⟩)
    (sign : ∀ (w : Bool), P ⟨10, w, 0, 0, 0, 0, 0⟩)
    (load : ∀ (w : Bool) (r b i n : Int) (hr : 0 ≤ r ∧ r ≤ 15) (hb : 0 ≤ b ∧ b ≤ 15) (hi : 0 ≤ i ∧ i ≤ 16 ∧ i ≠ 5) (hn : s32 n = true), P ⟨11, w, r, b, i, 0, n⟩)
    (store : ∀ (w : Bool) (r b i n : Int) (hr : 0 ≤ r ∧ r ≤ 15) (hb : 0 ≤ b ∧ b ≤ 15) (hi : 0 ≤ i ∧ i ≤ 16 ∧ i ≠ 5) (hn : s32 n = true), P ⟨12, w, r, b, i, 0, n⟩)
    (set : ∀ (c : Int) (hc : cnK c = true), P ⟨13, false, 0, 0, 0, c, 0⟩)
    (byte : P ⟨14, false, 0, 0, 0, 0, 0⟩)
    (cmov : ∀ (w : Bool) (r b c : Int) (hr : 0 ≤ r ∧ r ≤ 15) (hb : 0 ≤ b ∧ b ≤ 15) (hc : cnK c = true), P ⟨15, w, r, b, 0, c, 0⟩)
    (widen : ∀ (r b : Int) (hr : 0 ≤ r ∧ r ≤ 15) (hb : 0 ≤ b ∧ b ≤ 15), P ⟨16, true, r, b, 0, 0, 0⟩)
    (jmp : ∀ (n : Int) (hn : s32 n = true), P ⟨17, false, 0, 0, 0, 0, n⟩)
    (jcc : ∀ (c n : Int) (hc : cnK c = true) (hn : s32 n = true), P ⟨18, false, 0, 0, 0, c, n⟩)
    (call : ∀ (n : Int) (hn : s32 n = true), P ⟨19, false, 0, 0, 0, 0, n⟩)
    (ret : P ⟨20, false, 0, 0, 0, 0, 0⟩)
    (hlt : P ⟨21, false, 0, 0, 0, 0, 0⟩)
    (stop : P ⟨22, false, 0, 0, 0, 0, 0⟩)
    (host : P ⟨23, false, 0, 0, 0, 0, 0⟩)
    : P x := by
  obtain ⟨op, w, r, b, i, c, n⟩ := x
  simp only [rt, Bool.and_eq_true, decide_eq_true_eq] at h
  obtain ⟨h1, h2, h3, h4, h5, h6⟩ := h
  rcases op_cases h1 h2 with rfl | rfl | rfl | rfl | rfl | rfl | rfl | rfl | rfl | rfl | rfl | rfl | rfl | rfl | rfl | rfl | rfl | rfl | rfl | rfl | rfl | rfl | rfl <;>
    simp [rwd, rpl, rkd, rnm, fW, fRR, fB, fP, h32, rg_iff, ix_iff] at h3 h4 h5 h6
  · obtain ⟨hr, hb, rfl⟩ := h4; subst h5 h6; exact mov w r b hr hb
  · obtain ⟨hr, rfl, rfl⟩ := h4; subst h3 h5; exact movi r n hr
  · obtain ⟨hr, hb, rfl⟩ := h4; subst h6; exact alu w r b c hr hb h5
  · obtain ⟨hb, rfl, rfl⟩ := h4; exact alui w b c n hb h5 h6
  · obtain ⟨hr, hb, rfl⟩ := h4; subst h5 h6; exact test w r b hr hb
  · obtain ⟨hr, hb, rfl⟩ := h4; subst h5 h6; exact mul w r b hr hb
  · obtain ⟨hb, rfl, rfl⟩ := h4; subst h6; exact shift w b c hb h5
  · obtain ⟨hb, rfl, rfl⟩ := h4; subst h5 h6; exact div w b hb
  · obtain ⟨hb, rfl, rfl⟩ := h4; subst h5 h6; exact idiv w b hb
  · obtain ⟨rfl, rfl, rfl⟩ := h4; subst h5 h6; exact sign w
  · obtain ⟨hi, hr, hb⟩ := h4; subst h5; exact load w r b i n hr hb hi h6
  · obtain ⟨hi, hr, hb⟩ := h4; subst h5; exact store w r b i n hr hb hi h6
  · obtain ⟨rfl, rfl, rfl⟩ := h4; subst h3 h6; exact set c h5
  · obtain ⟨rfl, rfl, rfl⟩ := h4; subst h3 h5 h6; exact byte
  · obtain ⟨hr, hb, rfl⟩ := h4; subst h6; exact cmov w r b c hr hb h5
  · obtain ⟨hr, hb, rfl⟩ := h4; subst h3 h5 h6; exact widen r b hr hb
  · obtain ⟨rfl, rfl, rfl⟩ := h4; subst h3 h5; exact jmp n h6
  · obtain ⟨rfl, rfl, rfl⟩ := h4; subst h3; exact jcc c n h5 h6
  · obtain ⟨rfl, rfl, rfl⟩ := h4; subst h3 h5; exact call n h6
  · obtain ⟨rfl, rfl, rfl⟩ := h4; subst h3 h5 h6; exact ret
  · obtain ⟨rfl, rfl, rfl⟩ := h4; subst h3 h5 h6; exact hlt
  · obtain ⟨rfl, rfl, rfl⟩ := h4; subst h3 h5 h6; exact stop
  · obtain ⟨rfl, rfl, rfl⟩ := h4; subst h3 h5 h6; exact host
theorem cod_ok {x : Xi} (h : rt x = true) : CodOk (cod x) := by
  refine rt_elim (P := fun x => CodOk (cod x)) h ?mov ?movi ?alu ?alui ?test ?mul ?shift ?div ?idiv ?sign ?load ?store ?set ?byte ?cmov ?widen ?jmp ?jcc ?call ?ret ?hlt ?stop ?host
  case alu =>
    intro w r b c hr hb hc 
    rcases sm_cases hc with rfl | rfl | rfl | rfl | rfl | rfl <;> simp [cod, CodOk]
  case set =>
    intro c hc 
    rcases cn_cases hc with rfl | rfl | rfl | rfl | rfl | rfl | rfl | rfl | rfl | rfl <;> simp [cod, CodOk]
  case cmov =>
    intro w r b c hr hb hc 
    rcases cn_cases hc with rfl | rfl | rfl | rfl | rfl | rfl | rfl | rfl | rfl | rfl <;> simp [cod, CodOk]
  case jcc =>
    intro c n hc hn 
    rcases cn_cases hc with rfl | rfl | rfl | rfl | rfl | rfl | rfl | rfl | rfl | rfl <;> simp [cod, CodOk]
  case movi =>
    intro r n hr 
    simp [cod, CodOk]; omega
  case mov =>
    intro w r b hr hb 
    simp [cod, CodOk]
  case alui =>
    intro w b c n hb hc hn 
    simp [cod, CodOk]
  case test =>
    intro w r b hr hb 
    simp [cod, CodOk]
  case mul =>
    intro w r b hr hb 
    simp [cod, CodOk]
  case shift =>
    intro w b c hb hc 
    simp [cod, CodOk]
  case div =>
    intro w b hb 
    simp [cod, CodOk]
  case idiv =>
    intro w b hb 
    simp [cod, CodOk]
  case sign =>
    intro w 
    simp [cod, CodOk]
  case load =>
    intro w r b i n hr hb hi hn 
    simp [cod, CodOk]
  case store =>
    intro w r b i n hr hb hi hn 
    simp [cod, CodOk]
  case byte =>
    skip
    simp [cod, CodOk]
  case widen =>
    intro r b hr hb 
    simp [cod, CodOk]
  case jmp =>
    intro n hn 
    simp [cod, CodOk]
  case call =>
    intro n hn 
    simp [cod, CodOk]
  case ret =>
    skip
    simp [cod, CodOk]
  case hlt =>
    skip
    simp [cod, CodOk]
  case stop =>
    skip
    simp [cod, CodOk]
  case host =>
    skip
    simp [cod, CodOk]
theorem rx_is (x : Xi) : ∃ w m i l, rx x = rxb w m i l := by
  unfold rx
  split
  · exact ⟨_, _, _, _, rfl⟩
  · split
    · exact ⟨_, _, _, _, rfl⟩
    · split <;> exact ⟨_, _, _, _, rfl⟩
theorem inf_inx {i : Int} (h : 0 ≤ i ∧ i ≤ 16 ∧ i ≠ 5) : inf (up 8 (inx i) + inx i % 8) = i := by
  have h0 : 0 ≤ inx i ∧ inx i ≤ 15 := by unfold inx; split <;> omega
  rw [up_add h0.1 h0.2]
  unfold inf inx
  split <;> split <;> omega
theorem up8 {v : Int} (h : v ≤ 7) (k : Int) : up k v = 0 := by unfold up; rw [if_neg (by omega)]
theorem mri8 {mod m l : Int} (h0 : 0 ≤ mod) (h1 : mod ≤ 3) : ((by8 (mri mod m l)).toNat : Int) = mri mod m l := by
  have := mri_bd (m := m) (l := l) h0 h1
  exact by8_id this.1 this.2
theorem mri8_3 (m l : Int) : ((by8 (mri 3 m l)).toNat : Int) = mri 3 m l := mri8 (by decide) (by decide)
theorem mri8_2 (m l : Int) : ((by8 (mri 2 m l)).toNat : Int) = mri 2 m l := mri8 (by decide) (by decide)
theorem mri8_0 (m l : Int) : ((by8 (mri 0 m l)).toNat : Int) = mri 0 m l := mri8 (by decide) (by decide)
theorem rdC_enc {x : Xi} (h : rt x = true) (hn : I64 x.n) (s : List UInt8) : rdC (rx x) (cod x) (mrs x ++ (nmb x ++ s)) = x := by
  revert hn
  refine rt_elim (P := fun x => I64 x.n → rdC (rx x) (cod x) (mrs x ++ (nmb x ++ s)) = x) h ?mov ?movi ?alu ?alui ?test ?mul ?shift ?div ?idiv ?sign ?load ?store ?set ?byte ?cmov ?widen ?jmp ?jcc ?call ?ret ?hlt ?stop ?host
  case movi =>
    intro r n hr hn
    have e : fnd (184 + r % 8) (ga (bys 8 n ++ s) 0 / 64) (ga (bys 8 n ++ s) 0 / 8 % 8) = (2, 0) := by
      unfold fnd
      rw [if_neg (by omega), if_neg (by omega), if_neg (by omega), if_neg (by omega), if_pos (by omega)]
    simp only [rdC, mrs, nmb, cod, rx, fR2, fRR, fB, fP, reduceIte, Int.reduceEq, Int.reduceBEq, Bool.or_self, or_self, Bool.false_eq_true, List.nil_append, e, rxb_w, rxb_1, jn8 hn]
    rw [show up 8 r + (184 + r % 8) % 8 = r by have := up_add hr.1 hr.2; omega]
  case load =>
    intro w r b i n hr hb hi hs hn
    simp [rdC, mrs, nmb, cod, rx, fR2, fRR, fB, fP, h32, ga_0, ga_1, mri8_2, mri8_0, mri_a, mri_b, mri_c, fnd, fndP, rxb_w, rxb_4, rxb_2, rxb_1, jn4 hs, up_add hr.1 hr.2, up_add hb.1 hb.2, inf_inx hi]
  case store =>
    intro w r b i n hr hb hi hs hn
    simp [rdC, mrs, nmb, cod, rx, fR2, fRR, fB, fP, h32, ga_0, ga_1, mri8_2, mri8_0, mri_a, mri_b, mri_c, fnd, fndP, rxb_w, rxb_4, rxb_2, rxb_1, jn4 hs, up_add hr.1 hr.2, up_add hb.1 hb.2, inf_inx hi]
  case alu =>
    intro w r b c hr hb hc hn
    rcases sm_cases hc with rfl | rfl | rfl | rfl | rfl | rfl <;> simp [rdC, mrs, nmb, cod, mid, rx, fR2, fRR, fB, fP, h32, ga_0, mri8_3, mri_a, mri_b, mri_c, fnd, fndP, rxb_w, rxb_4, rxb_2, rxb_1, up_add hr.1 hr.2, up_add hb.1 hb.2]
  case cmov =>
    intro w r b c hr hb hc hn
    rcases cn_cases hc with rfl | rfl | rfl | rfl | rfl | rfl | rfl | rfl | rfl | rfl <;> simp [rdC, mrs, nmb, cod, mid, rx, fR2, fRR, fB, fP, h32, ga_0, mri8_3, mri_a, mri_b, mri_c, fnd, fndP, rxb_w, rxb_4, rxb_2, rxb_1, up_add hr.1 hr.2, up_add hb.1 hb.2]
  case set =>
    intro c hc hn
    rcases cn_cases hc with rfl | rfl | rfl | rfl | rfl | rfl | rfl | rfl | rfl | rfl <;> simp [rdC, mrs, nmb, cod, mid, rx, fR2, fRR, fB, fP, h32, ga_0, mri8_3, mri_a, mri_b, mri_c, fnd, fndP, rxb_w, rxb_4, rxb_2, rxb_1, up8]
  case jcc =>
    intro c n hc hs hn
    rcases cn_cases hc with rfl | rfl | rfl | rfl | rfl | rfl | rfl | rfl | rfl | rfl <;> simp [rdC, mrs, nmb, cod, mid, rx, fR2, fRR, fB, fP, h32, fnd, fndP, rxb_w, jn4 hs]
  case alui =>
    intro w b c n hb hc hs hn
    rcases sm_cases hc with rfl | rfl | rfl | rfl | rfl | rfl <;> simp [rdC, mrs, nmb, cod, mid, rx, fR2, fRR, fB, fP, h32, ga_0, mri8_3, mri_a, mri_b, mri_c, fnd, fndP, rxb_w, rxb_4, rxb_2, rxb_1, jn4 hs, up_add hb.1 hb.2]
  case shift =>
    intro w b c hb hc hn
    rcases sh_cases hc with rfl | rfl | rfl | rfl | rfl <;> simp [rdC, mrs, nmb, cod, mid, rx, fR2, fRR, fB, fP, h32, ga_0, mri8_3, mri_a, mri_b, mri_c, fnd, fndP, rxb_w, rxb_4, rxb_2, rxb_1, up_add hb.1 hb.2]
  case mov =>
    intro w r b hr hb hn
    simp [rdC, mrs, nmb, cod, mid, rx, fR2, fRR, fB, fP, h32, ga_0, mri8_3, mri_a, mri_b, mri_c, fnd, fndP, rxb_w, rxb_4, rxb_2, rxb_1, up_add hr.1 hr.2, up_add hb.1 hb.2]
  case test =>
    intro w r b hr hb hn
    simp [rdC, mrs, nmb, cod, mid, rx, fR2, fRR, fB, fP, h32, ga_0, mri8_3, mri_a, mri_b, mri_c, fnd, fndP, rxb_w, rxb_4, rxb_2, rxb_1, up_add hr.1 hr.2, up_add hb.1 hb.2]
  case mul =>
    intro w r b hr hb hn
    simp [rdC, mrs, nmb, cod, mid, rx, fR2, fRR, fB, fP, h32, ga_0, mri8_3, mri_a, mri_b, mri_c, fnd, fndP, rxb_w, rxb_4, rxb_2, rxb_1, up_add hr.1 hr.2, up_add hb.1 hb.2]
  case widen =>
    intro r b hr hb hn
    simp [rdC, mrs, nmb, cod, mid, rx, fR2, fRR, fB, fP, h32, ga_0, mri8_3, mri_a, mri_b, mri_c, fnd, fndP, rxb_w, rxb_4, rxb_2, rxb_1, up_add hr.1 hr.2, up_add hb.1 hb.2]
  case div =>
    intro w b hb hn
    simp [rdC, mrs, nmb, cod, mid, rx, fR2, fRR, fB, fP, h32, ga_0, mri8_3, mri_a, mri_b, mri_c, fnd, fndP, rxb_w, rxb_4, rxb_2, rxb_1, up_add hb.1 hb.2]
  case idiv =>
    intro w b hb hn
    simp [rdC, mrs, nmb, cod, mid, rx, fR2, fRR, fB, fP, h32, ga_0, mri8_3, mri_a, mri_b, mri_c, fnd, fndP, rxb_w, rxb_4, rxb_2, rxb_1, up_add hb.1 hb.2]
  case jmp =>
    intro n hs hn
    simp [rdC, mrs, nmb, cod, mid, rx, fR2, fRR, fB, fP, h32, fnd, fndP, rxb_w, jn4 hs]
  case call =>
    intro n hs hn
    simp [rdC, mrs, nmb, cod, mid, rx, fR2, fRR, fB, fP, h32, fnd, fndP, rxb_w, jn4 hs]
  case sign =>
    intro w hn
    simp [rdC, mrs, nmb, cod, mid, rx, fR2, fRR, fB, fP, h32, ga_0, mri8_3, mri_a, mri_b, mri_c, fnd, fndP, rxb_w, rxb_4, rxb_2, rxb_1, up8]
  case byte =>
    intro hn
    simp [rdC, mrs, nmb, cod, mid, rx, fR2, fRR, fB, fP, h32, ga_0, mri8_3, mri_a, mri_b, mri_c, fnd, fndP, rxb_w, rxb_4, rxb_2, rxb_1, up8]
  case ret =>
    intro hn
    simp [rdC, mrs, nmb, cod, mid, rx, fR2, fRR, fB, fP, h32, ga_0, mri8_3, mri_a, mri_b, mri_c, fnd, fndP, rxb_w, rxb_4, rxb_2, rxb_1, up8]
  case hlt =>
    intro hn
    simp [rdC, mrs, nmb, cod, mid, rx, fR2, fRR, fB, fP, h32, ga_0, mri8_3, mri_a, mri_b, mri_c, fnd, fndP, rxb_w, rxb_4, rxb_2, rxb_1, up8]
  case stop =>
    intro hn
    simp [rdC, mrs, nmb, cod, mid, rx, fR2, fRR, fB, fP, h32, ga_0, mri8_3, mri_a, mri_b, mri_c, fnd, fndP, rxb_w, rxb_4, rxb_2, rxb_1, up8]
  case host =>
    intro hn
    simp [rdC, mrs, nmb, cod, mid, rx, fR2, fRR, fB, fP, h32, ga_0, mri8_3, mri_a, mri_b, mri_c, fnd, fndP, rxb_w, rxb_4, rxb_2, rxb_1, up8]
theorem rd_enc {x : Xi} (h : rt x = true) (hn : I64 x.n) (s : List UInt8) : rd (enc x ++ s) = x := by
  obtain ⟨w, m, i, l, e⟩ := rx_is x
  have h2 := fun p t => rdT_two p (cod x) t (cod_ok h)
  unfold enc
  rw [List.append_assoc, e, rd_pre _ _ _ _ _ (by rw [List.append_assoc]; exact (h2 0 _).2), List.append_assoc, (h2 _ _).1, List.append_assoc, ← e]
  exact rdC_enc h hn s
end Go.Proofs.Ytielpebokbolbaa.Xc

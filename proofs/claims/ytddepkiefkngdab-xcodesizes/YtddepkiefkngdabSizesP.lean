/-
  How long an instruction is, and what its bytes begin with. No program.
-/
import Derived.Test.YtddepkiefkngdabMathC
namespace Go.Proofs.Ytddepkiefkngdab
open Go.RowKit
set_option linter.unusedSimpArgs false
set_option linter.unusedVariables false

def hiX (x : Xi) : Prop := 7 < x.r ∨ 7 < x.b ∨ 8 < x.i ∨ x.wide = true
theorem rxb_64 (w : Bool) (m i l : Int) : rxb w m i l = 64 ↔ w = false ∧ m ≤ 7 ∧ i ≤ 7 ∧ l ≤ 7 := by
  unfold rxb up
  cases w <;> by_cases h : 7 < m <;> by_cases h' : 7 < i <;> by_cases h'' : 7 < l <;> simp [h, h', h''] <;> omega
theorem inx_7 {i : Int} (h : 0 ≤ i ∧ i ≤ 16 ∧ i ≠ 5) : inx i ≤ 7 ↔ i ≤ 8 := by unfold inx; split <;> omega
theorem rx_64 {x : Xi} (h : rt x = true) : rx x = 64 ↔ ¬ hiX x := by
  refine rt_elim (P := fun x => rx x = 64 ↔ ¬ hiX x) h ?mov ?movi ?alu ?alui ?test ?mul ?shift ?div ?idiv ?sign ?load ?store ?set ?byte ?cmov ?widen ?jmp ?jcc ?call ?ret ?hlt ?stop ?host
  case load => intro w r b i n hr hb hi hs; simp [rx, hiX, fR2, fRR, fB, fP, rxb_64, inx_7 hi]; cases w <;> simp <;> omega
  case store => intro w r b i n hr hb hi hs; simp [rx, hiX, fR2, fRR, fB, fP, rxb_64, inx_7 hi]; cases w <;> simp <;> omega
  case alui =>
    intro w b c n hb hc hs
    have : c ≤ 7 := by rcases sm_cases hc with rfl | rfl | rfl | rfl | rfl | rfl <;> decide
    simp [rx, hiX, fR2, fRR, fB, fP, mid, rxb_64]; cases w <;> simp <;> omega
  case shift =>
    intro w b c hb hc
    have : c ≤ 7 := by rcases sh_cases hc with rfl | rfl | rfl | rfl | rfl <;> decide
    simp [rx, hiX, fR2, fRR, fB, fP, mid, rxb_64]; cases w <;> simp <;> omega
  case mov => intro w r b hr hb; simp [rx, hiX, fR2, fRR, fB, fP, mid, rxb_64]; cases w <;> simp <;> omega
  case test => intro w r b hr hb; simp [rx, hiX, fR2, fRR, fB, fP, mid, rxb_64]; cases w <;> simp <;> omega
  case mul => intro w r b hr hb; simp [rx, hiX, fR2, fRR, fB, fP, mid, rxb_64]; cases w <;> simp <;> omega
  case alu => intro w r b c hr hb hc; simp [rx, hiX, fR2, fRR, fB, fP, mid, rxb_64]; cases w <;> simp <;> omega
  case cmov => intro w r b c hr hb hc; simp [rx, hiX, fR2, fRR, fB, fP, mid, rxb_64]; cases w <;> simp <;> omega
  case div => intro w b hb; simp [rx, hiX, fR2, fRR, fB, fP, mid, rxb_64]; try (cases w <;> simp)
  case idiv => intro w b hb; simp [rx, hiX, fR2, fRR, fB, fP, mid, rxb_64]; try (cases w <;> simp)
  case sign => intro w; simp [rx, hiX, fR2, fRR, fB, fP, mid, rxb_64]
  all_goals (intros; simp [rx, hiX, fR2, fRR, fB, fP, mid, rxb_64])
theorem ga_app (a : UInt8) (l : List UInt8) : ga ([a] ++ l) 0 = (a.toNat : Int) := rfl
theorem first_hi {x : Xi} (h : rt x = true) (hh : hiX x) : 64 ≤ ga (enc x) 0 ∧ ga (enc x) 0 < 80 := by
  have hb : 64 ≤ rx x ∧ rx x ≤ 79 := by obtain ⟨w, m, i, l, e⟩ := rx_is x; rw [e]; exact rxb_bd w m i l
  have hne : ¬ rx x = 64 := fun e => (rx_64 h).1 e hh
  unfold enc pre
  rw [if_neg hne, ga_app, by8_id (by omega) (by omega)]
  omega
theorem first_lo {x : Xi} (h : rt x = true) (hh : ¬ hiX x) : ga (enc x) 0 < 64 ∨ 80 ≤ ga (enc x) 0 := by
  have e := (rx_64 h).2 hh
  have h2 := (rdT_two 0 (cod x) (mrs x ++ nmb x) (cod_ok h)).2
  unfold enc pre
  rw [if_pos e, List.nil_append]
  omega
theorem len_10 {x : Xi} (h : rt x = true) : (enc x).length ≤ 10 := by
  have h1 := pre_len1 (rx x)
  have h2 := two_len2 (cod x)
  have h3 := mrs_len x
  unfold enc
  simp only [List.length_append]
  by_cases h0 : x.op = 2
  · have e1 : (mrs x).length = 0 := by simp [mrs, fR2, fRR, fB, fP, h0]
    have e2 : (nmb x).length = 8 := by simp [nmb, h0, bys_len]
    have e3 : (two (cod x)).length = 1 := by
      have : cod x = 184 + x.r % 8 := by simp [cod, h0]
      rw [this]; unfold two; rw [if_neg (by omega)]; rfl
    omega
  · have e2 : (nmb x).length ≤ 4 := by unfold nmb; rw [if_neg h0]; split <;> simp [bys_len]
    omega
theorem len_jmp {x : Xi} (h : rt x = true) : (x.op = 17 ∨ x.op = 19 → (enc x).length = 5 ∧ ¬ hiX x) ∧ (x.op = 18 → (enc x).length = 6 ∧ ¬ hiX x) := by
  refine rt_elim (P := fun x => (x.op = 17 ∨ x.op = 19 → (enc x).length = 5 ∧ ¬ hiX x) ∧ (x.op = 18 → (enc x).length = 6 ∧ ¬ hiX x)) h ?mov ?movi ?alu ?alui ?test ?mul ?shift ?div ?idiv ?sign ?load ?store ?set ?byte ?cmov ?widen ?jmp ?jcc ?call ?ret ?hlt ?stop ?host
  case jmp => intro n hs; simp [hiX, enc, pre, rx, rxb, up, fR2, fRR, fB, fP, cod, two, mrs, nmb, h32, bys_len]
  case call => intro n hs; simp [hiX, enc, pre, rx, rxb, up, fR2, fRR, fB, fP, cod, two, mrs, nmb, h32, bys_len]
  case jcc =>
    intro c n hc hs
    rcases cn_cases hc with rfl | rfl | rfl | rfl | rfl | rfl | rfl | rfl | rfl | rfl <;> simp [hiX, enc, pre, rx, rxb, up, fR2, fRR, fB, fP, cod, two, mrs, nmb, h32, bys_len]
  all_goals (intros; simp)
end Go.Proofs.Ytddepkiefkngdab

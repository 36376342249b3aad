/-
  A list of instructions: the program's All, and the document's, write them one behind the other, or refuse.
-/
import Derived.Test.YtddepkiefkngdaaREnc
import Derived.Test.YtddepkiefkngdaaEx
namespace Go.Proofs.Ytddepkiefkngdaa
open Go.RowKit
set_option linter.unusedSimpArgs false
set_option linter.unusedVariables false

/-- Instructions in a row of memory. -/
def XL (B : Nat) (W : World) (b off : Nat) (l : List Xi) : Prop :=
  ∀ j (h : j < l.length), b < B ∧ l[j].ok ∧ W.cell? ⟨b, off + j * 7, none⟩ = some (.int .i64 l[j].op) ∧ W.cell? ⟨b, off + j * 7 + 1, none⟩ = some (.bool l[j].wide) ∧ W.cell? ⟨b, off + j * 7 + 2, none⟩ = some (.int .i64 l[j].r) ∧ W.cell? ⟨b, off + j * 7 + 3, none⟩ = some (.int .i64 l[j].b) ∧ W.cell? ⟨b, off + j * 7 + 4, none⟩ = some (.int .i64 l[j].i) ∧ W.cell? ⟨b, off + j * 7 + 5, none⟩ = some (.int .i64 l[j].c) ∧ W.cell? ⟨b, off + j * 7 + 6, none⟩ = some (.int .i64 l[j].n)
def encs (l : List Xi) : List UInt8 := l.flatMap enc
theorem encs_snoc (l : List Xi) (k : Nat) (h : k < l.length) : encs (l.take (k + 1)) = encs (l.take k) ++ enc l[k] := by
  show (l.take (k + 1)).flatMap enc = _
  rw [List.take_succ_eq_append_getElem h, List.flatMap_append]; simp [encs]
theorem encs_len (l : List Xi) : (encs l).length ≤ 13 * l.length := by
  induction l with
  | nil => simp [encs]
  | cons x l ih =>
    have := (enc_len x).2
    simp only [encs, List.flatMap_cons, List.length_append, List.length_cons] at *
    omega
theorem encs_pos (l : List Xi) (h : 0 < l.length) : 0 < (encs l).length := by
  cases l with
  | nil => simp at h
  | cons x l =>
    have := (enc_len x).1
    simp only [encs, List.flatMap_cons, List.length_append]
    omega
def aOk (l : List Xi) : Bool := l.all rt
def aS (l : List Xi) : List UInt8 := if aOk l then encs l else []
def aE (l : List Xi) : Int := if aOk l then 0 else 4
theorem aOk_no {l : List Xi} {k : Nat} (h : k < l.length) (hq : rt l[k] = false) : aOk l = false := by
  cases ha : aOk l
  · rfl
  · unfold aOk at ha
    rw [List.all_eq_true] at ha
    rw [ha _ (List.getElem_mem h)] at hq; cases hq
theorem aOk_yes {l : List Xi} (h : ∀ j (hj : j < l.length), rt l[j] = true) : aOk l = true := by
  unfold aOk
  rw [List.all_eq_true]
  intro x hx
  obtain ⟨j, hj, rfl⟩ := List.getElem_of_mem hx
  exact h j hj
theorem cv_nil (w : World) : (convert 43 9 (.slice none 0 0)).run Try.prog w = .ok (.string ⟨#[]⟩) w := by kernel_rfl
theorem renc_isb (op : Int) (wd : Bool) (r b i c n : Int) (w : World) (hn : I64 n) {l : List UInt8} {q : Bool} (h1 : enS ⟨op, wd, r, b, i, c, n⟩ = l) (h2 : rt ⟨op, wd, r, b, i, c, n⟩ = q) :
    Calls Try.prog 11 #[.agg #[.int .i64 op, .bool wd, .int .i64 r, .int .i64 b, .int .i64 i, .int .i64 c, .int .i64 n]] w fun e w' => e = .returned (.tuple #[.string (str l), .bool q]) ∧ Below w.heap.size w w' := by
  subst h1 h2; exact renc_any ⟨op, wd, r, b, i, c, n⟩ w hn
def RaIs (b off cap : Nat) (l : List Xi) (w : World) : Prop := Calls Try.prog 17 #[.slice (some ⟨b, off, none⟩) l.length cap] w fun e w' => e = .returned (.tuple #[.string (str (aS l)), .bool (aOk l)]) ∧ Below w.heap.size w w'
set_option maxHeartbeats 4000000 in
theorem rall_any (b off cap : Nat) (l : List Xi) (w : World) (hl : 56 * l.length ≤ 140737488351232) (hX : XL w.heap.size w b off l) : RaIs b off cap l w := by
  have HX := hide hX
  clear hX
  unfold RaIs
  go_enter Try.func17, Try.ntmps17
  go_wp2
  go_loopw [4, 5] (fun sv iv wr => ∃ k : Nat, k ≤ l.length ∧ iv = .int .i64 (k : Int) ∧ sv = .string (str (encs (l.take k))) ∧ Below w.heap.size w wr ∧ Hid (∀ j (hj : j < l.length), j < k → rt l[j] = true)) (fun _ iv _ => l.length - (intOf iv).toNat)
  case atStart => exact ⟨0, by omega, rfl, rfl, Below.refl _ _, hide (fun j hj h => absurd h (by omega))⟩
  case round =>
    obtain ⟨k, hk, rfl, rfl, hb, hA⟩ := hrel
    by_cases hlt : k < l.length
    · obtain ⟨hbb, ho, c0, c1, c2, c3, c4, c5, c6⟩ := HX.out k hlt
      have d0 := (hb.cell (p := ⟨b, off + k * 7, none⟩) hbb).trans c0
      have d1 := (hb.cell (p := ⟨b, off + k * 7 + 1, none⟩) hbb).trans c1
      have d2 := (hb.cell (p := ⟨b, off + k * 7 + 2, none⟩) hbb).trans c2
      have d3 := (hb.cell (p := ⟨b, off + k * 7 + 3, none⟩) hbb).trans c3
      have d4 := (hb.cell (p := ⟨b, off + k * 7 + 4, none⟩) hbb).trans c4
      have d5 := (hb.cell (p := ⟨b, off + k * 7 + 5, none⟩) hbb).trans c5
      have d6 := (hb.cell (p := ⟨b, off + k * 7 + 6, none⟩) hbb).trans c6
      clear c0 c1 c2 c3 c4 c5 c6
      have hn : I64 l[k].n := ho.2.2.2.2.2
      cases hq : rt l[k]
      · have HN := hide (aOk_no hlt hq)
        have e1 : enS l[k] = [] := by simp [enS, hq]
        have RE := hide (fun U => renc_isb l[k].op l[k].wide l[k].r l[k].b l[k].i l[k].c l[k].n U hn e1 hq)
        have r1 : aS l = [] := by simp [aS, HN.out]
        have HR1 := hide r1
        clear e1 hq ho hn r1
        go_wp2_with fail
        refine (RE.out _).mono ?_
        rintro e w1 ⟨rfl, b1⟩
        go_wp2_with fail
        go_ret2
        exact ⟨by rw [HR1.out, HN.out]; rfl, bel_tr hb b1⟩
      · have e1 : enS l[k] = enc l[k] := by simp [enS, hq]
        have RE := hide (fun U => renc_isb l[k].op l[k].wide l[k].r l[k].b l[k].i l[k].c l[k].n U hn e1 hq)
        have HS := hide (encs_snoc l k hlt)
        have hz : ¬ 9223372036854775807 < (str (encs (l.take k))).size + (str (enc l[k])).size := by
          rw [str_size, str_size]
          have h1 := encs_len (l.take k)
          have h2 := (enc_len l[k]).2
          have h3 : (l.take k).length ≤ l.length := by simp; omega
          omega
        have hA2 : Hid (∀ j (hj : j < l.length), j < k + 1 → rt l[j] = true) := fun j hj h => by
          rcases Nat.lt_or_ge j k with h' | h'
          · exact hA.out j hj h'
          · have : j = k := by omega
            subst this; exact hq
        clear e1 hq ho hn hA
        go_wp2_with fail
        refine (RE.out _).mono ?_
        rintro e w1 ⟨rfl, b1⟩
        have hb1 := bel_tr hb b1
        clear b1
        go_wp2_with fail
        go_roundw
        case rel => exact ⟨k + 1, by omega, by go_num, by rw [HS.out, ← str_app], hb1, hA2⟩
        case measure => simp [intOf]; omega
    · have hkm : k = l.length := by omega
      subst hkm
      have ha : aOk l = true := aOk_yes fun j hj => hA.out j hj hj
      have r1 : aS l = encs l := by simp [aS, ha]
      have HR1 := hide r1
      have HA := hide ha
      clear ha r1
      rw [List.take_length]
      go_wp2
      go_ret2
      exact ⟨by rw [HR1.out, HA.out]; rfl, hb⟩
end Go.Proofs.Ytddepkiefkngdaa

/-
  What the worker's memory is behind a put: bytes of its own, and what was laid into them.
-/
import Derived.Test.YtielpebokbolbaaWr
import Derived.Lib.SlBuf
namespace Go.Proofs.Ytielpebokbolbaa
open Go.RowKit
open Xc (hide bel_one bel_tr bel_al bel_set le by8 bys jn)
set_option linter.unusedSimpArgs false
set_option linter.unusedVariables false
theorem drew_below (n : Nat) (w : World) : Below n w w.drew := ⟨rfl, rfl, rfl, Nat.le_refl _, fun _ _ => rfl⟩
def updo (os : Nat → Option (Nat × Nat)) (i : Nat) (v : Option (Nat × Nat)) : Nat → Option (Nat × Nat) := fun j => if j = i then v else os j
theorem updo_at (os : Nat → Option (Nat × Nat)) (i : Nat) (v : Option (Nat × Nat)) : updo os i v i = v := by simp [updo]
theorem updo_ne {os : Nat → Option (Nat × Nat)} {i j : Nat} (v : Option (Nat × Nat)) (h : j ≠ i) : updo os i v j = os j := by simp [updo, h]
section
variable {base B rb ob : Nat} {g : List Rg} {ss : Nat → ByteArray} {os : Nat → Option (Nat × Nat)} {w w2 : World}
/-- A region has got bytes of its own. -/
theorem Wn.fresh (h : Wn base B rb ob g ss os w) (i : Nat) (hi : i < g.length) (hcd : g[i].code = false) (hlen : 0 < g[i].by_.length) (q cap : Nat) (hq : w.heap.size ≤ q) (hb : base ≤ q) (hBq : B ≠ q) (hk : Below w.heap.size w w2) (hcap : g[i].by_.length ≤ cap) (hB : BR w2 q g[i].by_) :
    Wn base B rb ob g ss (updo os i (some (q, cap))) (w2.setCell ⟨ob, i, none⟩ (.slice (some ⟨q, 0, none⟩) g[i].by_.length cap)) := by
  have hr := h.l1
  have ho := h.l2
  have e : ∀ b, b ≠ ob → b < w.heap.size → (w2.setCell ⟨ob, i, none⟩ (.slice (some ⟨q, 0, none⟩) g[i].by_.length cap)).heap[b]? = w.heap[b]? := fun b hb hl => (Below.heap_setCell w2 ⟨ob, i, none⟩ _ b hb).trans (hk.block b hl)
  have hs : (w2.setCell ⟨ob, i, none⟩ (.slice (some ⟨q, 0, none⟩) g[i].by_.length cap)).heap.size = w2.heap.size := by simp [World.setCell]
  have hsz := hk.size
  refine ⟨h.b1, h.b2, by omega, by omega, h.n1, h.n2, h.n3, h.rl.of (e rb h.n3 hr), fun j => frz_of (e rb h.n3 hr) j (h.rf j), fun j => ?_, fun j hj => ?_, fun j hj hn => ?_, fun j hj hc => ?_, fun j hj q' c' hq' => ?_, fun j hj q' c' hq' => ?_, fun j j' q' c c' hj hj' h1 h2 => ?_⟩
  · rw [World.frozen?_setCell]; exact frz_of (hk.block ob ho) j (h.of' j)
  · by_cases hji : j = i
    · subst hji
      rw [updo_at]
      have := h.oc j hj
      rw [← hk.cell (p := ⟨ob, j, none⟩) ho] at this
      rw [World.cell?_setCell_same _ _ _ this]; rfl
    · rw [updo_ne _ hji, World.cell?_setCell_other _ _ _ _ (by intro e; apply hji; injection e with _ e2; exact e2.symm), hk.cell (p := ⟨ob, j, none⟩) ho]
      exact h.oc j hj
  · by_cases hji : j = i
    · subst hji; rw [updo_at] at hn; cases hn
    · rw [updo_ne _ hji] at hn; exact h.no j hj hn
  · by_cases hji : j = i
    · subst hji; rw [hcd] at hc; cases hc
    · rw [updo_ne _ hji]; exact h.cd j hj hc
  · by_cases hji : j = i
    · subst hji
      rw [updo_at] at hq'
      injection hq' with e'; injection e' with e1 e2; subst e1 e2
      exact ⟨hb, Ne.symm hBq, by omega, by omega, hB.of (Below.heap_setCell w2 ⟨ob, j, none⟩ _ q (by show q ≠ ob; omega)) (by omega), hlen⟩
    · rw [updo_ne _ hji] at hq'
      obtain ⟨a1, a2, a3, a4, a5, a6⟩ := h.ow j hj q' c' hq'
      exact ⟨a1, a2, a3, a4, a5.of (e q' a4 a5.1) (by omega), a6⟩
  · by_cases hji : j = i
    · subst hji
      rw [updo_at] at hq'
      injection hq' with e'; injection e' with e1 e2; subst e1 e2
      exact hcap
    · rw [updo_ne _ hji] at hq'; exact h.cp j hj q' c' hq'
  · by_cases hji : j = i
    · by_cases hji' : j' = i
      · rw [hji, hji']
      · subst hji
        rw [updo_at] at h1; rw [updo_ne _ hji'] at h2
        injection h1 with e'; injection e' with e1 e2; subst e1
        have := (h.ow j' hj' _ _ h2).2.2.2.2.1.1
        omega
    · by_cases hji' : j' = i
      · subst hji'
        rw [updo_at] at h2; rw [updo_ne _ hji] at h1
        injection h2 with e'; injection e' with e1 e2; subst e1
        have := (h.ow j hj _ _ h1).2.2.2.2.1.1
        omega
      · rw [updo_ne _ hji] at h1; rw [updo_ne _ hji'] at h2; exact h.ap j j' q' c c' hj hj' h1 h2
theorem ptR_len {r : Rg} {a n v : Int} (h : wn r a n = true) (hn : n = 4 ∨ n = 8) : (ptR r a n v).by_.length = r.by_.length := by
  have := wn_iff.1 h
  simp only [ptR]
  rw [spl_len]
  rw [Xc.bys_len]; omega
/-- Bytes are laid into a region's own. -/
theorem Wn.put (h : Wn base B rb ob g ss os w) (i : Nat) (hi : i < g.length) (q c : Nat) (ho : os i = some (q, c)) (a n v : Int) (hw : wn g[i] a n = true) (hn : n = 4 ∨ n = 8) (hw2 : w2 = w.setCells q (a - g[i].at_).toNat (Lib.byteCells (bys n.toNat v))) :
    Wn base B rb ob (g.set i (ptR g[i] a n v)) ss os w2 := by
  obtain ⟨a1, a2, a3, a4, a5, a6⟩ := h.ow i hi q c ho
  have hl := ptR_len (v := v) hw hn
  have hwn := wn_iff.1 hw
  have hs2 : w2.heap.size = w.heap.size := by rw [hw2]; exact setCells_size q _ _ w
  have e : ∀ b, b ≠ q → b < w.heap.size → w2.heap[b]? = w.heap[b]? := fun b hb hlt => by
    rw [hw2]; exact World.heap_setCells_other w q _ _ hlt hb
  have er := e rb (Ne.symm a3) h.l1
  have eo := e ob (Ne.symm a4) h.l2
  have hg : ∀ j (hj : j < (g.set i (ptR g[i] a n v)).length) (hj' : j < g.length), (g.set i (ptR g[i] a n v))[j].at_ = g[j].at_ ∧ (g.set i (ptR g[i] a n v))[j].code = g[j].code ∧ (g.set i (ptR g[i] a n v))[j].by_.length = g[j].by_.length ∧ (j ≠ i → (g.set i (ptR g[i] a n v))[j].by_ = g[j].by_) := fun j hj hj' => by
    by_cases hji : i = j
    · subst hji
      simp only [List.getElem_set_self]
      exact ⟨rfl, rfl, hl, fun h => absurd rfl h⟩
    · rw [List.getElem_set_ne hji]; exact ⟨rfl, rfl, rfl, fun _ => rfl⟩
  have hgl : (g.set i (ptR g[i] a n v)).length = g.length := by simp
  refine ⟨h.b1, h.b2, by rw [hs2]; exact h.l1, by rw [hs2]; exact h.l2, h.n1, h.n2, h.n3, fun j hj => ?_, fun j => frz_of er j (h.rf j), fun j => frz_of eo j (h.of' j), fun j hj => ?_, fun j hj hn => ?_, fun j hj hc => ?_, fun j hj q' c' hq' => ?_, fun j hj q' c' hq' => ?_, fun j j' q' c c' hj hj' h1 h2 => h.ap j j' q' c c' (by omega) (by omega) h1 h2⟩
  · have hj' : j < g.length := by omega
    obtain ⟨g1, g2, g3, g4⟩ := hg j hj hj'
    obtain ⟨r1, r2, r3, r4, r5⟩ := h.rl.of er j hj'
    rw [g1, g2, g3]
    refine ⟨r1, r2, r3, r4, ?_⟩
    unfold Rg.ok at *
    rw [g1, g3]; exact r5
  · have hj' : j < g.length := by omega
    rw [World.cell?_of_block (w := w) eo, (hg j hj hj').2.2.1]; exact h.oc j hj'
  · have hj' : j < g.length := by omega
    have hji : j ≠ i := by intro e; subst e; rw [ho] at hn; cases hn
    rw [(hg j hj hj').2.2.2 hji]; exact h.no j hj' hn
  · have hj' : j < g.length := by omega
    rw [(hg j hj hj').2.1] at hc; exact h.cd j hj' hc
  · have hj' : j < g.length := by omega
    obtain ⟨k1, k2, k3, k4, k5, k6⟩ := h.ow j hj' q' c' hq'
    refine ⟨k1, k2, k3, k4, ?_, by rw [(hg j hj hj').2.2.1]; exact k6⟩
    by_cases hji : j = i
    · subst hji
      have hq2 : q' = q := by rw [ho] at hq'; injection hq' with e'; injection e' with e1; exact e1.symm
      subst hq2
      have := BR.copied k5 (off := (a - g[j].at_).toNat) (x := bys n.toNat v) (by rw [Xc.bys_len]; omega) hw2
      rw [spl_is] at this
      simpa [ptR] using this
    · rw [(hg j hj hj').2.2.2 hji]
      have hqq : q' ≠ q := by intro e; subst e; exact hji (h.ap j i q' c' c hj' hi hq' ho)
      exact k5.of (e q' hqq k5.1) (by omega)
  · have hj' : j < g.length := by omega
    rw [(hg j hj hj').2.2.1]; exact h.cp j hj' q' c' hq'
end
end Go.Proofs.Ytielpebokbolbaa

/-
  A region that draws its order, in a round of a range over a function: its operations neither call nor defer, so what a plain walk shows of it holds there too. Whatever the program.
-/
import Derived.OrdersIn
import Derived.Deep.RegionHeld
import Derived.RangeFuncCalls
namespace Go.Proofs.YtjgaaofpfepfhaaDoor
set_option linter.unusedSimpArgs false
set_option linter.unusedVariables false
open Go Go.RowKit
variable {P : Program}
/-- operations that bring a value, or nothing -/
def calmB : Op → Bool
  | .move _ | .assign _ | .load _ _ | .store _ _ _ | .indexAddr _ _ _ | .fieldAddr _ _ _ | .binOp _ _ _ _ _ => true
  | _ => false
theorem calm_run {o : Oper} (h : calmB o.op = true) (ρ : Operand → Value) (w : World) : (∃ v w', (execOp ρ o).run P w = .ok (.value v) w') ∨ (∃ w', (execOp ρ o).run P w = .ok .skip w') ∨ (∃ h w', (execOp ρ o).run P w = .halt h w') := by
  have hv : ∀ (s : Sem Value), (∃ v w', (do pure (Next.value (← s)) : Sem Next).run P w = .ok (.value v) w') ∨ (∃ w', (do pure (Next.value (← s)) : Sem Next).run P w = .ok .skip w') ∨ (∃ h w', (do pure (Next.value (← s)) : Sem Next).run P w = .halt h w') := fun s => by
    cases hs : s.run P w with
    | ok v w' => exact .inl ⟨v, w', by simp [hs, Result.andThen]⟩
    | halt h w' => exact .inr (.inr ⟨h, w', by simp [hs, Result.andThen]⟩)
  have hu : ∀ (s : Sem Unit), (∃ v w', (do s; pure Next.skip : Sem Next).run P w = .ok (.value v) w') ∨ (∃ w', (do s; pure Next.skip : Sem Next).run P w = .ok .skip w') ∨ (∃ h w', (do s; pure Next.skip : Sem Next).run P w = .halt h w') := fun s => by
    cases hs : s.run P w with
    | ok v w' => exact .inr (.inl ⟨w', by simp [hs, Result.andThen]⟩)
    | halt h w' => exact .inr (.inr ⟨h, w', by simp [hs, Result.andThen]⟩)
  unfold execOp
  cases ho : o.op <;> rw [ho] at h <;> simp only [calmB] at h <;> first | (exact absurd h (by decide)) | exact hv _ | exact hu _ | exact .inl ⟨_, w, rfl⟩
def Qn (R : Act → World → Prop) : Exit → Act → World → Prop
  | .normal, a, w => R a w
  | _, _, _ => False
theorem calm_op {lp n : Nat} {o : Oper} {a : Act} {w : World} {K K' : Act → World → Prop} {R : Act → World → Prop} {Q : Exit → Act → World → Prop} (hc : calmB o.op = true) (hK : ∀ a w, K a w → K' a w) (h : o.wp P a w K (Qn R) ∨ (o.asks P a w ∧ LetsOut (Qn R))) :
    o.wpIn (Fence.wide.inRound lp) n P a w K' Q := by
  refine ⟨fun _ _ => trivial, ?_⟩
  rw [Oper.semAt_eq _ _ _ (fun c hd => by rw [hd] at hc; cases hc)]
  rcases h with h | ⟨_, _, _, h⟩
  · unfold Oper.wp at h
    rcases calm_run (P := P) hc a.eval w with ⟨v, w', e⟩ | ⟨w', e⟩ | ⟨x, w', e⟩
    · rw [e] at h ⊢; exact hK _ _ h
    · rw [e] at h ⊢; exact hK _ _ h
    · rw [e] at h
      cases x <;> exact h.elim
  · exact h.elim
theorem calm_any {lp n : Nat} {md : Region.Mode} {ops : Array Oper} {R : Act → World → Prop} {Q : Exit → Act → World → Prop} (hc : ∀ (i : Nat) (o : Oper), ops[i]? = some o → calmB o.op = true) (hQ : ∀ a w, R a w → Q .normal a w) :
    ∀ (fuel : Nat) (listed : Array Bool) (a : Act) (w : World), wpAny P md ops (Qn R) fuel listed a w → wpAnyIn (Fence.wide.inRound lp) n P md ops Q fuel listed a w
  | 0, _, _, _, h => ⟨h.1, hQ _ _ h.2⟩
  | fuel + 1, listed, a, w, h => by
    refine ⟨fun h0 => hQ _ _ (h.1 h0), fun i hi => ?_⟩
    have k := h.2 i hi
    unfold wpOp at k
    unfold wpOpIn
    cases ho : ops[i]? with
    | none => rw [ho] at k; exact calm_any hc hQ fuel _ a w k
    | some o =>
      rw [ho] at k
      simp only at k ⊢
      split
      · rename_i hw
        rw [if_pos hw] at k
        exact calm_op (hc i o ho) (fun a w => calm_any hc hQ fuel _ a w) k
      · rename_i hw
        rw [if_neg hw] at k
        exact ⟨fun _ _ => trivial, calm_any hc hQ fuel _ _ w k⟩
theorem region_calm {lp n id : Nat} {ops : Array Oper} {a : Act} {w : World} {Q : Exit → Act → World → Prop} {S : World → Prop} (hm : P.follows .mixedOrders = true) (hc : ops.toList.all (fun o => calmB o.op) = true) (hS : S w.drew)
    (h : S w.drew → wpAnyH P .any ops (Qn (fun a w => Q .normal a w)) S ops.size (Array.replicate ops.size false) a w.drew) : (Code.region id ops true).wpIn (Fence.wide.inRound lp) n P Q a w := by
  refine wpIn_region_any hm (calm_any (fun i o ho => ?_) (fun a w h => h) _ _ _ _ (wpAny_of_held _ _ _ _ (h hS)))
  have k : ops.toList[i]? = some o := by simpa using ho
  exact List.all_eq_true.1 hc o (List.mem_of_getElem? k)
end Go.Proofs.YtjgaaofpfepfhaaDoor

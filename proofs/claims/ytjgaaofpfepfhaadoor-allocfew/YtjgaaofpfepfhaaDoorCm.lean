/-
  A region that draws its order, in a round of a range over a function, with calls: what a plain walk shows of it holds there too. Whatever the program.
-/
import Derived.Test.YtjgaaofpfepfhaaDoorCalm
namespace Go.Proofs.YtjgaaofpfepfhaaDoor
set_option linter.unusedSimpArgs false
set_option linter.unusedVariables false
open Go Go.RowKit
variable {P : Program}
/-- No operation that defers. -/
def noDf : Op → Bool
  | .defer _ => false
  | _ => true
theorem undf_op {lp n : Nat} {o : Oper} {a : Act} {w : World} {K K' : Act → World → Prop} {R : Act → World → Prop} {Q : Exit → Act → World → Prop} (hc : noDf o.op = true) (hK : ∀ a w, K a w → K' a w) (h : o.wp P a w K (Qn R) ∨ (o.asks P a w ∧ LetsOut (Qn R))) :
    o.wpIn (Fence.wide.inRound lp) n P a w K' Q := by
  refine ⟨fun _ _ => trivial, ?_⟩
  rw [Oper.semAt_eq _ _ _ (fun c hd => by rw [hd] at hc; cases hc)]
  rcases h with h | ⟨_, _, _, h⟩
  · unfold Oper.wp at h
    generalize (execOp a.eval o).run P w = r at h ⊢
    cases r with
    | ok x w' =>
      cases x with
      | value v => exact hK _ _ h
      | skip => exact hK _ _ h
      | defer d => exact hK _ _ h
      | enter f args =>
        refine ⟨(fun h => by cases h), CallsIn.inRound lp (callsIn_wide.2 (Calls.mono h ?_))⟩
        intro e w'' he
        cases e with
        | returned v => exact hK _ _ he
        | panicked c => exact False.elim he
        | outgrown => obtain ⟨_, _, k⟩ := he; exact False.elim k
      | row r as =>
        refine ⟨(fun h => by cases h), fun c cs _ => ?_⟩
        obtain ⟨v, w'', k, s⟩ := h c cs
        exact ⟨v, w'', hK _ _ k, stepsIn_wide.2 s⟩
      | _ => exact False.elim h
    | halt x w' => cases x <;> exact False.elim h
  · exact False.elim h
theorem undf_any {lp n : Nat} {md : Region.Mode} {ops : Array Oper} {R : Act → World → Prop} {Q : Exit → Act → World → Prop} (hc : ∀ (i : Nat) (o : Oper), ops[i]? = some o → noDf o.op = true) (hQ : ∀ a w, R a w → Q .normal a w) :
    ∀ (fuel : Nat) (listed : Array Bool) (a : Act) (w : World), wpAny P md ops (Qn R) fuel listed a w → wpAnyIn (Fence.wide.inRound lp) n P md ops Q fuel listed a w
  | 0, _, _, _, h => ⟨h.1, hQ _ _ h.2⟩
  | fuel + 1, listed, a, w, h => by
    refine ⟨fun h0 => hQ _ _ (h.1 h0), fun i hi => ?_⟩
    have k := h.2 i hi
    unfold wpOp at k
    unfold wpOpIn
    cases ho : ops[i]? with
    | none => rw [ho] at k; exact undf_any hc hQ fuel _ a w k
    | some o =>
      rw [ho] at k
      simp only at k ⊢
      split
      · rename_i hw
        rw [if_pos hw] at k
        exact undf_op (hc i o ho) (fun a w => undf_any hc hQ fuel _ a w) k
      · rename_i hw
        rw [if_neg hw] at k
        exact ⟨fun _ _ => trivial, undf_any hc hQ fuel _ _ w k⟩
theorem region_undf {lp n id : Nat} {ops : Array Oper} {a : Act} {w : World} {Q : Exit → Act → World → Prop} {S : World → Prop} (hm : P.follows .mixedOrders = true) (hc : ops.toList.all (fun o => noDf o.op) = true) (hS : S w.drew)
    (h : S w.drew → wpAnyH P .any ops (Qn (fun a w => Q .normal a w)) S ops.size (Array.replicate ops.size false) a w.drew) : (Code.region id ops true).wpIn (Fence.wide.inRound lp) n P Q a w := by
  refine wpIn_region_any hm (undf_any (fun i o ho => ?_) (fun a w h => h) _ _ _ _ (wpAny_of_held _ _ _ _ (h hS)))
  have k : ops.toList[i]? = some o := by simpa using ho
  exact List.all_eq_true.1 hc o (List.mem_of_getElem? k)
end Go.Proofs.YtjgaaofpfepfhaaDoor

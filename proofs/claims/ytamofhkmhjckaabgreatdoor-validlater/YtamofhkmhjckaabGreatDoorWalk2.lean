/-
  A range over a function whose body may end in a panic: one round, and the statement, in a given function. Whatever the program.
  The program's memory while it goes through a body: the walk's own block, the row of the stack, the row of the frames, what frames bring; what a step lets stand.
  The program's fault and must, and the walk's must, last and pop: they do the plain step, or leave by a panic.
  The walk's pop: it does the plain step, or leaves by a panic.
-/
import Derived.RangeFuncFrom
import Derived.RangeFuncLeaves
import Derived.RangeFuncCalls
import Derived.Test.YtamofhkmhjckaabGreatDoorNAround
import Derived.WalkLawsBesides
import Derived.Deep.RegionWith
import Derived.Deep.CutRange
import Derived.BigQuiet
import Derived.Deep.QuietTactic
namespace Go.Proofs.YtamofhkmhjckaabGreatDoor
open Go Go.RowKit
variable {F : Fence} {n : Nat} {P : Program}

/-- as Code.wpIn, of frames of one function alone -/
def wpAt (f0 : FuncId) (F : Fence) (n : Nat) (P : Program) (c : Code) (Q : Exit → Act → World → Prop) (a : Act) (w : World) : Prop :=
  ∀ (b : Frame) (k : List Item) (cs : List Frame), b.fn = f0 → b.roundOf = F.round → F.fn b.fn → F.room (cs.length + 1 + n) →
    ∃ e a' w', Q e a' w' ∧ ArrivesIn (Machine.fenced P F) P (lone (b.atR a (.code c :: k)) cs w) b k cs e a' w'
theorem wpAt_of {f0 : FuncId} {c : Code} {Q : Exit → Act → World → Prop} {a : Act} {w : World} (h : c.wpIn F n P Q a w) : wpAt f0 F n P c Q a w :=
  fun b k cs _ hro hb hr => h b k cs hro hb hr
theorem wpAt_seq {f0 : FuncId} {x y : Code} {Q : Exit → Act → World → Prop} {a : Act} {w : World} (h : wpAt f0 F n P x (Exit.then (wpAt f0 F n P y Q) Q) a w) : wpAt f0 F n P (.seq x y) Q a w := by
  intro b k cs h0 hro hb hr
  have hc : (lone (b.atR a (.code (.seq x y) :: k)) cs w).fenced P F := fenced_calm hb hr rfl
  obtain ⟨e, a₁, w₁, hq, harr⟩ := h b (.code y :: k) cs h0 hro hb hr
  cases e with
  | normal =>
    obtain ⟨e₂, a₂, w₂, hq₂, harr₂⟩ := hq b k cs h0 hro hb hr
    exact ⟨e₂, a₂, w₂, hq₂, .of_steps (.head hc stepR_seq harr) harr₂⟩
  | exit id => exact ⟨_, a₁, w₁, hq, .of_steps (.one hc stepR_seq) (.pass (x := .code y) rfl (fun _ _ => .inl (by simp)) harr)⟩
  | goto l => exact ⟨_, a₁, w₁, hq, .of_steps (.one hc stepR_seq) (.pass (x := .code y) rfl (fun _ _ => .inl (by simp)) harr)⟩
  | ret => exact ⟨_, a₁, w₁, hq, .of_steps (.one hc stepR_seq) (.pass (x := .code y) rfl (fun _ _ => .inl (by simp)) harr)⟩
  | panic ch => exact ⟨_, a₁, w₁, hq, .of_steps (.one hc stepR_seq) (.pass (x := .code y) rfl (fun _ _ => .inl (by simp)) harr)⟩
  | outgrown => exact ⟨_, a₁, w₁, hq, .of_steps (.one hc stepR_seq) (.pass (x := .code y) rfl (fun _ _ => .inl (by simp)) harr)⟩
theorem wpAt_seq_k {f0 : FuncId} {x y : Code} {Q : Exit → Act → World → Prop} {a : Act} {w : World} (h : ∀ Kk : Act → World → Prop, (∀ a w, wpAt f0 F n P y Q a w → Kk a w) → x.wpIn F n P (Exit.then Kk Q) a w) : wpAt f0 F n P (.seq x y) Q a w :=
  wpAt_seq (wpAt_of (h _ fun _ _ h => h))
theorem wpAt_block {f0 : FuncId} {id : Nat} {c : Code} {Q : Exit → Act → World → Prop} {a : Act} {w : World} (h : wpAt f0 F n P c (Exit.inBlock id Q) a w) : wpAt f0 F n P (.block id c) Q a w := by
  intro b k cs hb0 hro hb hr
  have h0 : (lone (b.atR a (.code (.block id c) :: k)) cs w).fenced P F := fenced_calm hb hr rfl
  obtain ⟨e, a₁, w₁, hq, harr⟩ := h b (.inBlock id :: k) cs hb0 hro hb hr
  cases e with
  | normal => exact ⟨.normal, a₁, w₁, hq, .head h0 stepR_block (StepsIn.trans harr (.one (fenced_calm hb hr rfl) stepR_inBlock))⟩
  | exit id' =>
    by_cases hid : id' = id
    · simp only [Exit.inBlock, hid, if_true] at hq
      exact ⟨.normal, a₁, w₁, hq, .head h0 stepR_block (harr.1 k (by simp [exitTo, hid]))⟩
    · simp only [Exit.inBlock, hid, if_false] at hq
      have this : (id == id') = false := by simp; exact fun h => hid h.symm
      have hx : exitTo id' (.inBlock id :: k) = exitTo id' k := by simp [exitTo, this]
      exact ⟨.exit id', a₁, w₁, hq, fun k' hk => .head h0 stepR_block (harr.1 k' (by rw [hx]; exact hk)),
        fun hr' hk => let ⟨k₁, h1, h2⟩ := harr.2 hr' (by rw [hx]; exact hk); ⟨k₁, h1, .head h0 stepR_block h2⟩⟩
  | goto l =>
    have hx : gotoIn l (.inBlock id :: k) = gotoIn l k := by simp [gotoIn]
    exact ⟨_, a₁, w₁, hq, fun k' hk => .head h0 stepR_block (harr.1 k' (by rw [hx]; exact hk)),
      fun hr' hk => let ⟨k₁, h1, h2⟩ := harr.2 hr' (by rw [hx]; exact hk); ⟨k₁, h1, .head h0 stepR_block h2⟩⟩
  | ret => exact ⟨_, a₁, w₁, hq, .of_steps (.one h0 stepR_block) harr⟩
  | panic ch => exact ⟨_, a₁, w₁, hq, .of_steps (.one h0 stepR_block) harr⟩
  | outgrown => exact ⟨_, a₁, w₁, hq, .of_steps (.one h0 stepR_block) harr⟩
theorem calls_at {f : FuncId} {fn : Func} {c : Code} {args : Array Value} {w : World} {R : Ending → World → Prop}
    (hf : P.funcs[f]? = some fn) (hb : fn.body = some c) (hF : F.fn f)
    (h : wpAt f F n P c (bodyPostM F n P fn R) { tmps := args ++ Array.replicate (fn.ntmps - args.size) undef, defers := [] } w) (hro : F.round = none) : CallsIn F n P f args w R := by
  refine ⟨hF, fun cs hr => ?_⟩
  let b : Frame := { (default : Frame) with fn := f, kind := .normal, roundOf := none }
  have he : Frame.enter P f args .normal = b.atR { tmps := args ++ Array.replicate (fn.ntmps - args.size) undef, defers := [] } [.code c] := by
    simp [Frame.enter, Frame.atR, hf, hb, b]
  obtain ⟨e, a', w', hq, harr⟩ := h b [] cs rfl hro.symm hF hr
  rw [← he] at harr
  cases e with
  | normal =>
    obtain ⟨e', w'', fr', hR, hs, hfn, hl⟩ := leaves_stepsInM a'.defers .returning w' { b.atR a' [] with mode := .returning } cs rfl rfl rfl hf rfl hF hr hq
    exact ⟨e', w'', fr', hR, ComesIn.of_steps (StepsIn.trans harr (.one (fenced_calm (fr := b.atR a' []) hF hr rfl) (stepR_end rfl))) hs, hfn, hl⟩
  | ret =>
    obtain ⟨todo, hs₀⟩ := harr.1 rfl
    obtain ⟨e', w'', fr', hR, hs, hfn, hl⟩ := leaves_stepsInM a'.defers .returning w' { b.atR a' todo with mode := .returning } cs rfl rfl rfl hf rfl hF hr hq
    exact ⟨e', w'', fr', hR, ComesIn.of_steps hs₀ hs, hfn, hl⟩
  | panic chain =>
    obtain ⟨todo, hs₀⟩ := harr
    obtain ⟨e', w'', fr', hR, hs, hfn, hl⟩ := leaves_stepsInM a'.defers (.panicking chain) w' { b.atR a' todo with mode := .panicking chain } cs rfl rfl rfl hf rfl hF hr hq
    exact ⟨e', w'', fr', hR, ComesIn.of_steps hs₀ hs, hfn, hl⟩
  | exit id => exact hq.elim
  | goto l => exact hq.elim
  | outgrown => exact ⟨.outgrown, w', b, hq, harr.resolve_left (by simp [b]), rfl, trivial⟩

/-- how a round ends: off its end, or by a panic -/
def endP (P : Program) (l : Nat) (R : Ending → World → Prop) : Exit → Act → World → Prop
  | .normal, _, w => ∃ v w', (Instr.endRound l none).run P w = .ok v w' ∧ R (.returned v) w'
  | .panic ch, a, w => a.defers = [] ∧ R (.panicked ch) w
  | _, _, _ => False
theorem round_p {l : Nat} {f : FuncId} {tmps : Array Value} {assign body : Code} {w : World} {R : Ending → World → Prop} (hF : F.fn f) (hf : ∃ fn, P.funcs[f]? = some fn)
    (h : assign.wpIn (F.inRound l) n P (Exit.then (fun a₁ w₁ => ∃ w₂, (Instr.beginRound l).run P w₁ = .ok () w₂ ∧ body.wpIn (F.inRound l) n P (endP P l R) a₁ w₂) (fun _ _ _ => False))
      { tmps := tmps, defers := [] } w) :
    RoundIn F n P l f tmps assign body w R := by
  refine ⟨hF, fun c cs hr => ?_⟩
  let b : Frame := { (default : Frame) with fn := f, kind := .normal, roundOf := some l }
  have h0 : Frame.round l f tmps assign body .normal = b.atR { tmps := tmps, defers := [] } [.code assign, .beginRound, .code body] := by
    simp [Frame.round, Frame.atR, b]
  have hr' : (F.inRound l).room ((c :: cs).length + 1 + n) := hr
  have hF' : (F.inRound l).fn b.fn := hF
  obtain ⟨e, a₁, w₁, hq, harr⟩ := h b [.beginRound, .code body] (c :: cs) rfl hF' hr'
  rw [← h0] at harr
  cases e with
  | normal =>
    obtain ⟨w₂, hbr, hbody⟩ := hq
    have s1 : StepsIn (Machine.fenced P (F.inRound l)) P (lone (b.atR a₁ [.beginRound, .code body]) (c :: cs) w₁) (lone (b.atR a₁ [.code body]) (c :: cs) w₂) :=
      .one (fenced_calm (fr := b.atR a₁ [.beginRound, .code body]) hF' hr' rfl) (stepR_beginRound rfl hbr)
    obtain ⟨e₂, a₂, w₃, hq₂, harr₂⟩ := hbody b [] (c :: cs) rfl hF' hr'
    cases e₂ with
    | normal =>
      obtain ⟨v, w₄, hend, hR⟩ := hq₂
      exact ⟨.returned v, w₄, hR, (StepsIn.trans harr s1).trans (StepsIn.trans harr₂ (.one (fenced_calm (fr := b.atR a₂ []) hF' hr' rfl) (stepR_round_end rfl rfl hend)))⟩
    | panic chain =>
      obtain ⟨hd, hR⟩ := hq₂
      obtain ⟨todo, hs⟩ := harr₂
      obtain ⟨fn, hfn⟩ := hf
      have hleave : ({ b.atR a₂ todo with mode := .panicking chain } : Frame).leaving P w₃ (.panicked chain) := ⟨rfl, hd, fn, hfn⟩
      have hl : (lone ({ b.atR a₂ todo with mode := .panicking chain } : Frame) (c :: cs) w₃).fenced P (F.inRound l) := fenced_leaving hF' hr' hleave
      exact ⟨.panicked chain, w₃, hR, (StepsIn.trans harr s1).trans (StepsIn.trans hs (.one hl (step_leave_panicked hleave)))⟩
    | ret => exact hq₂.elim
    | exit id => exact hq₂.elim
    | goto t => exact hq₂.elim
    | outgrown => exact hq₂.elim
  | exit id => exact hq.elim
  | goto t => exact hq.elim
  | ret => exact hq.elim
  | panic chain => exact hq.elim
  | outgrown => exact hq.elim

/-- How the body of a round may be left: off its end, or by a panic. -/
def postP (I : World → Prop) (IP : List PanicEntry → World → Prop) (W : World) : Exit → Act → World → Prop
  | .normal, _, W' => KeepsOthers W W' ∧ I W'
  | .panic ch, a, W' => a.defers = [] ∧ KeepsOthers W W' ∧ IP ch W'
  | _, _, _ => False
/-- What is known of a call of the iterator: all rounds have come, or one has ended in a panic. -/
def GivesP (F : Fence) (n : Nat) (P : Program) (gf : Nat) (lb : Array Value) (encs : Nat → Array Value) (N : Nat) (I : Nat → World → Prop) : Prop :=
  ∀ (l : Nat) (J : Nat → World → Prop) (JP : List PanicEntry → World → Prop) (W : World), (∀ k W, J k W → I k W) → (∀ k W, J k W → J k W.drew) →
    (∀ k W, J k W → k < N → YieldAt F (n - 1) P l (encs k) W fun e W' => (e = .returned (.bool true) ∧ J (k + 1) W') ∨ ∃ ch, e = .panicked ch ∧ JP ch W') →
    J 0 W → CallsIn F n P gf (#[.func (.yield l) #[] #[]] ++ lb) W fun e W' => (∃ v, e = .returned v ∧ J N W') ∨ ∃ ch, e = .panicked ch ∧ JP ch W'

theorem drew_grown (W : World) : W.grownBy W.drew none := ⟨rfl, rfl, rfl, Nat.le_refl _, fun _ _ _ => rfl⟩
theorem range_p {f0 : FuncId} {fn0 : Func} (hf0 : P.funcs[f0]? = some fn0) {g : Operand} {ps : Array Tmp} {assign body : Code} {Q : Exit → Act → World → Prop} {a : Act} {w : World}
    (hro : F.round = none) (h1 : 1 ≤ n) {gf : Nat} {lb : Array Value} (hg : a.eval g = .func (.func gf) #[] lb) (hFg : F.fn gf) (eg : ∀ args w, (callFunc gf args).run P w = .ok (.enter gf args) w)
    {encs : Nat → Array Value} {N : Nat} (I : Nat → World → Prop) (IP : List PanicEntry → World → Prop) (hseq : GivesP F (n - 1) P gf lb encs N I) (hps : ∀ k, (encs k).size = ps.size)
    (hI : OwnFrom w.heap.size I) (hi0 : I 0 w) (a₁ : Nat → Act)
    (hassign : ∀ (l k : Nat) (W : World) (K : Act → World → Prop), K (a₁ k) W →
      assign.wpIn (F.inRound l) (n - 1 - 1) P (Exit.then K (fun _ _ _ => False)) { tmps := (ps.zip (encs k)).foldl (fun t (p, v) => t.setIfInBounds p v) a.tmps, defers := [] } W)
    (hbody : ∀ (l k : Nat) (W : World), I k W → k < N → body.wpIn (F.inRound l) (n - 1 - 1) P (postP (I (k + 1)) IP W) (a₁ k) W)
    (hdone : ∀ (D : Nat) (W : World), w.heap.size ≤ D → I N W → W.heap[D]? = some (.deferred (some [])) → Q .normal { a with defers := { target := .collected D, args := #[] } :: a.defers } W)
    (hpan : ∀ (D : Nat) (ch : List PanicEntry) (W : World), w.heap.size ≤ D → IP ch W → W.heap[D]? = some (.deferred (some [])) → Q (.panic ch) { a with defers := { target := .collected D, args := #[] } :: a.defers } W) :
    wpAt f0 F n P (.rangeFunc g ps assign body) Q a w := by
  intro b k cs hbf hrb hb hr
  obtain ⟨rec, hrec⟩ : ∃ rec : LoopState → Option Code → Loop, rec = fun st pe => { state := st, pending := pe, fn := b.fn, tmps := a.tmps, params := ps, assign, body, defers := w.heap.size } := ⟨_, rfl⟩
  obtain ⟨W1, hW1⟩ : ∃ W1, (w.alloc (.deferred (some []))).alloc (.loop (rec .ready none)) = W1 := ⟨_, rfl⟩
  have hL1 : W1.heap[w.heap.size + 1]? = some (.loop (rec .ready none)) := by
    rw [← hW1]; have := World.alloc_heap_new (w.alloc (.deferred (some []))) (.loop (rec .ready none)); rwa [World.size_alloc] at this
  have hK1 : W1.heap[w.heap.size]? = some (.deferred (some [])) := by
    rw [← hW1]; exact (Below.heap_alloc _ _ _ (by simp)).trans (World.alloc_heap_new w _)
  have hI1 : I 0 W1 := by rw [← hW1]; exact hI.alloc _ (hI.alloc _ hi0)
  have he : (Instr.enterLoop b.fn a.tmps ps assign body b.roundOf).run P w = .ok (w.heap.size + 1, [{ target := .collected w.heap.size, args := #[] }]) W1 := by
    rw [hrb, hro, ← hW1, hrec]; exact run_enterLoop_outer _ _ _ _ _
  have hres : (resolve a.eval (rangeCall g (w.heap.size + 1)) 0).run P W1 = .ok { target := .fn (.func gf) lb, args := #[.func (.yield (w.heap.size + 1)) #[] #[]] } W1 := by
    simp only [resolve, hg]
    simp [go_sem]
  have hinv : (invoke (.fn (.func gf) lb) #[.func (.yield (w.heap.size + 1)) #[] #[]]).run P W1 = .ok (.enter gf (#[.func (.yield (w.heap.size + 1)) #[] #[]] ++ lb)) W1 := by
    simp [invoke, go_sem, eg]
  have hlead : ∀ f', Target.leads P W1 (.fn (.func gf) lb) #[.func (.yield (w.heap.size + 1)) #[] #[]] = some f' → F.fn f' := by
    intro f' hf'; simp [Target.leads] at hf'; subst hf'; exact hFg
  have hf : (lone (b.atR a (.code (.rangeFunc g ps assign body) :: k)) cs w).fenced P F := by
    refine fenced_lone (.inl hb) (fun f' hf' => hlead f' ?_) (Fence.room_le hr (by omega))
    have hev := Frame.eval_atR b a (.code (.rangeFunc g ps assign body) :: k)
    simp only [Frame.atR] at hev
    simp only [Frame.about, Frame.atR, he, hev, hres] at hf'
    exact hf'
  have henter := stepR_rangeFunc (P := P) (b := b) (a := a) (k := k) (cs := cs) (w := w) he hres hinv
  have hroom : F.room ((b.atR { a with defers := [{ target := .collected w.heap.size, args := #[] }] ++ a.defers } (.inRangeFunc (w.heap.size + 1) :: k) :: cs).length + 1 + (n - 1)) := Fence.room_enter hr (fun _ => h1)
  have hcall := hseq (w.heap.size + 1)
    (fun k W => I k W ∧ W.heap[w.heap.size + 1]? = some (.loop (rec .ready none)) ∧ W.heap[w.heap.size]? = some (.deferred (some [])))
    (fun ch W => IP ch W ∧ W.heap[w.heap.size]? = some (.deferred (some []))) W1 (fun _ _ h => h.1)
    (fun k W h => ⟨hI k W _ none h.1 (drew_grown W) (fun r e => by cases e), h.2⟩)
    (by
      rintro k W ⟨hi, hl, hk⟩ hlt
      have hsz : w.heap.size + 1 < W.heap.size := (Array.getElem?_eq_some_iff.1 hl).1
      have hy := run_yield (P := P) (args := encs k) hl (by rw [hrec]; exact hps k)
      rw [hrec] at hy
      refine ⟨b.fn, _, assign, body, hy, round_p hb ⟨fn0, by rw [hbf]; exact hf0⟩ (hassign _ k W _ ⟨_, run_beginRound hl (by rw [hrec]), ?_⟩)⟩
      have hl2 : (W.putObj (w.heap.size + 1) (.loop { rec .ready none with state := .busy })).heap[w.heap.size + 1]? = some (.loop { rec .ready none with state := .busy }) := World.putObj_heap_same hsz
      have hk2 : (W.putObj (w.heap.size + 1) (.loop { rec .ready none with state := .busy })).heap[w.heap.size]? = some (.deferred (some [])) := (World.putObj_heap_other (by omega)).trans hk
      refine wpIn_mono (hbody _ k _ (hI.putObj _ hi (by omega) hl rfl) hlt) ?_
      rintro e a3 W3 hp
      cases e with
      | normal =>
        obtain ⟨hk3, hi3⟩ := hp
        have hl3 := hk3.same _ _ hl2 rfl
        have hrn := run_endRound (P := P) none hl3
        refine ⟨_, _, hrn, .inl ⟨rfl, hI.putObj _ hi3 (by omega) hl3 rfl, ?_, (World.putObj_heap_other (by omega)).trans (hk3.same _ _ hk2 rfl)⟩⟩
        rw [hrec]
        exact World.putObj_heap_same (Array.getElem?_eq_some_iff.1 hl3).1
      | panic ch =>
        obtain ⟨hd, hk3, hi3⟩ := hp
        exact ⟨hd, .inr ⟨ch, rfl, hi3, hk3.same _ _ hk2 rfl⟩⟩
      | ret => exact hp.elim
      | exit id => exact hp.elim
      | goto t => exact hp.elim
      | outgrown => exact hp.elim)
    ⟨hI1, hL1, hK1⟩
  obtain ⟨hF2, hcall⟩ := hcall
  obtain ⟨e, w₃, fr, hR, hsteps, hfn, hleave⟩ := hcall (b.atR { a with defers := [{ target := .collected w.heap.size, args := #[] }] ++ a.defers } (.inRangeFunc (w.heap.size + 1) :: k) :: cs) hroom
  rcases hR with ⟨v, rfl, hi, hl, hk⟩ | ⟨ch, rfl, hi, hk⟩
  · have hlv : (lone fr (b.atR { a with defers := [{ target := .collected w.heap.size, args := #[] }] ++ a.defers } (.inRangeFunc (w.heap.size + 1) :: k) :: cs) w₃).fenced P F := fenced_leaving (hfn ▸ hF2) hroom hleave
    have hend := run_endLoop (P := P) hl (by rw [hrec]; simp)
    have sback : StepsIn (Machine.fenced P F) P (lone (b.atR a (.code (.rangeFunc g ps assign body) :: k)) cs w) (lone (b.atR { a with defers := [{ target := .collected w.heap.size, args := #[] }] ++ a.defers } k) cs (w₃.putObj (w.heap.size + 1) (.loop { rec .ready none with state := .exhausted }))) := by
      refine .head hf henter (StepsIn.trans hsteps (.head hlv ?_ (.one (fenced_calm (fr := b.atR { a with defers := [{ target := .collected w.heap.size, args := #[] }] ++ a.defers } (.endRangeFunc (w.heap.size + 1) :: k)) (w := w₃) hb hr rfl) ?_)))
      · rw [← finish_atR_inRangeFunc (w.heap.size + 1) v]; exact step_leave_returned hleave
      · have := stepR_endRangeFunc (b := b) (a := { a with defers := [{ target := .collected w.heap.size, args := #[] }] ++ a.defers }) (k := k) (cs := cs) hend
        rw [hrec] at this ⊢
        exact this
    exact ⟨.normal, _, _, hdone w.heap.size _ (Nat.le_refl _) (hI.putObj _ hi (by omega) hl rfl) ((World.putObj_heap_other (by omega)).trans hk), sback⟩
  · have hlv : (lone fr (b.atR { a with defers := [{ target := .collected w.heap.size, args := #[] }] ++ a.defers } (.inRangeFunc (w.heap.size + 1) :: k) :: cs) w₃).fenced P F := fenced_leaving (hfn ▸ hF2) hroom hleave
    refine ⟨.panic ch, _, w₃, hpan w.heap.size ch w₃ (Nat.le_refl _) hi hk, .inRangeFunc (w.heap.size + 1) :: k, .head hf henter (StepsIn.trans hsteps (.one hlv ?_))⟩
    rw [← Frame.raise_atR]; exact step_leave_panicked hleave
end Go.Proofs.YtamofhkmhjckaabGreatDoor
namespace Go.Proofs.YtamofhkmhjckaabGreatDoor
open Go.RowKit

structure Kx where
  base : Nat
  B : Nat
  w0 : World
  V : MoV
  C : Cx
  vl : Value
  hb : Nat
def wcells (K : Kx) (at_ : Int) (vs vf : Value) : Array Value := #[K.V.v0, K.V.v1, K.V.v2, .int .i64 K.C.M.m0, .int .i64 K.C.M.m1, K.V.v5, K.V.v6, .bool K.C.tr, .int .i64 at_, K.vl, vs, vf]
structure KOk (K : Kx) : Prop where
  mo : IsMo K.base K.w0 K.V K.C.M
  cx : CxOk K.C
  bb : K.base ≤ K.B
  hh : K.base ≤ K.hb
  bs : K.base ≤ K.w0.heap.size
def fcel (x : Fm × Value) : List Value := [.int .i64 x.1.op, x.2, .int .i64 x.1.base, .bool x.1.dead]
def flatF (l : List (Fm × Value)) : List Value := l.flatMap fcel
/-- a block that no step turns -/
def Free (K : Kx) (vs vf : Value) (w : World) (b : Nat) : Prop := (b ≠ K.B ∧ b ≠ K.hb) ∧ vs.ownBlock ≠ some b ∧ vf.ownBlock ≠ some b ∧ b < w.heap.size
abbrev Bri (K : Kx) (vs vf : Value) (w : World) (v : Value) (l : List Int) : Prop := Sl 1 EInt (Free K vs vf w) w v l
/-- the block of the heights is there; the locals are free -/
def LoOk (K : Kx) (vs vf : Value) (w : World) : Prop := K.hb < w.heap.size ∧ Bri K vs vf w K.vl K.C.L
structure WJ (K : Kx) (at_ : Int) (s : Wk) (vs vf : Value) (fv : List (Fm × Value)) (w : World) : Prop where
  bel : Below K.base K.w0 w
  row : Row w K.B (wcells K at_ vs vf) 101
  st : w.ownsRow K.base 3 1 vs s.st.length (s.st.reverse.map (Value.int .i64))
  fr : w.ownsRow K.base 127 4 vf s.fr.length (flatF fv.reverse)
  fs : fv.map Prod.fst = s.fr
  lo : LoOk K vs vf w
  br : ∀ x ∈ fv, Bri K vs vf w x.2 x.1.br
/-- what a step lets stand: all but the walk's block and the two rows; the rows stay where they are, or move to new blocks -/
structure Fr (K : Kx) (vs vf vs' vf' : Value) (w w' : World) : Prop where
  bl : Below K.base w w'
  kp : ∀ k, k < w.heap.size → k ≠ K.B → vs.ownBlock ≠ some k → vf.ownBlock ≠ some k → w'.heap[k]? = w.heap[k]?
  ns : ∀ k, vs'.ownBlock = some k → vs.ownBlock = some k ∨ w.heap.size ≤ k
  nf : ∀ k, vf'.ownBlock = some k → vf.ownBlock = some k ∨ w.heap.size ≤ k
theorem bel_all {w w' : World} (hb : Below w.heap.size w w') : w.grownBy w' none := ⟨hb.os, hb.tape, hb.output, hb.size, fun k hk _ => hb.block k hk⟩
theorem own_kept {w w' : World} {b : Nat} {e : TypeId} {z n : Nat} {v : Value} {xs : List Value} (h : w.ownsRow b e z v n xs) (hb : Below w.heap.size w w') : w'.ownsRow b e z v n xs :=
  h.kept (row := none) (bel_all hb) (by cases v.ownBlock <;> simp)
section
variable {K : Kx} {at_ : Int} {s : Wk} {vs vf vs' vf' : Value} {fv : List (Fm × Value)} {w w' : World}
theorem Fr.refl (K : Kx) (vs vf : Value) (w : World) : Fr K vs vf vs vf w w := ⟨Below.refl _ _, fun _ _ _ _ _ => rfl, fun _ h => .inl h, fun _ h => .inl h⟩
theorem Fr.trans {vs'' vf'' : Value} {w'' : World} (h : Fr K vs vf vs' vf' w w') (h' : Fr K vs' vf' vs'' vf'' w' w'') : Fr K vs vf vs'' vf'' w w'' := by
  have hs := h.bl.size
  refine ⟨h.bl.trans h'.bl, fun k hk hB a b => ?_, fun k hk => ?_, fun k hk => ?_⟩
  · refine (h'.kp k (by omega) hB (fun e => ?_) (fun e => ?_)).trans (h.kp k hk hB a b)
    · rcases h.ns k e with e | e
      · exact a e
      · omega
    · rcases h.nf k e with e | e
      · exact b e
      · omega
  · rcases h'.ns k hk with e | e
    · exact h.ns k e
    · exact .inr (by omega)
  · rcases h'.nf k hk with e | e
    · exact h.nf k e
    · exact .inr (by omega)
/-- what only makes memory -/
theorem Fr.below {w'' : World} (h : Fr K vs vf vs' vf' w w') (hb : Below w'.heap.size w' w'') (hB : K.base ≤ w'.heap.size) : Fr K vs vf vs' vf' w w'' :=
  ⟨h.bl.trans (hb.mono hB), fun k hk h1 h2 h3 => (hb.block k (by have := h.bl.size; omega)).trans (h.kp k hk h1 h2 h3), h.ns, h.nf⟩
theorem Fr.drew (h : Fr K vs vf vs' vf' w w') : Fr K vs vf vs' vf' w w'.drew := ⟨h.bl.drew, h.kp, h.ns, h.nf⟩
theorem Fr.alloc (h : Fr K vs vf vs' vf' w w') (hB : K.base ≤ w'.heap.size) (o : Obj) : Fr K vs vf vs' vf' w (w'.alloc o) := h.below (bel_one _ _) hB
/-- a cell of the walk's own block -/
theorem Fr.box (h : Fr K vs vf vs' vf' w w') (hK : KOk K) (j : Nat) (u : Value) : Fr K vs vf vs' vf' w (w'.setCell ⟨K.B, j, none⟩ u) :=
  ⟨h.bl.setCell hK.bb u, fun k hk h1 h2 h3 => (Below.heap_setCell _ _ _ _ h1).trans (h.kp k hk h1 h2 h3), h.ns, h.nf⟩
/-- a cell of a row -/
theorem Fr.rowS (h : Fr K vs vf vs' vf' w w') {g j : Nat} (hv : vs'.ownBlock = some g) (hg : K.base ≤ g) (u : Value) : Fr K vs vf vs' vf' w (w'.setCell ⟨g, j, none⟩ u) :=
  ⟨h.bl.setCell (by show K.base ≤ g; omega) u, fun k hk h1 h2 h3 => (Below.heap_setCell _ _ _ _ (by
      intro e0
      have e1 : k = g := e0
      rcases h.ns k (by rw [hv, e1]) with e | e
      · exact h2 e
      · omega)).trans (h.kp k hk h1 h2 h3), h.ns, h.nf⟩
theorem Fr.rowF (h : Fr K vs vf vs' vf' w w') {g j : Nat} (hv : vf'.ownBlock = some g) (hg : K.base ≤ g) (u : Value) : Fr K vs vf vs' vf' w (w'.setCell ⟨g, j, none⟩ u) :=
  ⟨h.bl.setCell (by show K.base ≤ g; omega) u, fun k hk h1 h2 h3 => (Below.heap_setCell _ _ _ _ (by
      intro e0
      have e1 : k = g := e0
      rcases h.nf k (by rw [hv, e1]) with e | e
      · exact h3 e
      · omega)).trans (h.kp k hk h1 h2 h3), h.ns, h.nf⟩
theorem Fr.cutS (h : Fr K vs vf vs' vf' w w') {vs'' : Value} (hv : ∀ k, vs''.ownBlock = some k → vs'.ownBlock = some k) : Fr K vs vf vs'' vf' w w' := ⟨h.bl, h.kp, fun k hk => h.ns k (hv k hk), h.nf⟩
theorem Fr.cutF (h : Fr K vs vf vs' vf' w w') {vf'' : Value} (hv : ∀ k, vf''.ownBlock = some k → vf'.ownBlock = some k) : Fr K vs vf vs' vf'' w w' := ⟨h.bl, h.kp, h.ns, fun k hk => h.nf k (hv k hk)⟩
theorem Fr.growS {w'' : World} {vs'' : Value} (h : Fr K vs vf vs' vf' w w') (hg : w'.grownBy w'' vs'.ownBlock) (hn : ∀ k, vs''.ownBlock = some k → vs'.ownBlock = some k ∨ w'.heap.size ≤ k) (hB : K.base ≤ w'.heap.size) (hr : ∀ k, vs'.ownBlock = some k → K.base ≤ k) : Fr K vs vf vs'' vf' w w'' :=
  ⟨h.bl.grown hg hB hr, fun k hk h1 h2 h3 => (hg.block k (by have := h.bl.size; omega) (fun e => by
      rcases h.ns k e.symm with e | e
      · exact h2 e
      · omega)).trans (h.kp k hk h1 h2 h3), fun k hk => by
      rcases hn k hk with e | e
      · exact h.ns k e
      · exact .inr (by have := h.bl.size; omega), h.nf⟩
theorem Fr.growF {w'' : World} {vf'' : Value} (h : Fr K vs vf vs' vf' w w') (hg : w'.grownBy w'' vf'.ownBlock) (hn : ∀ k, vf''.ownBlock = some k → vf'.ownBlock = some k ∨ w'.heap.size ≤ k) (hB : K.base ≤ w'.heap.size) (hr : ∀ k, vf'.ownBlock = some k → K.base ≤ k) : Fr K vs vf vs' vf'' w w'' :=
  ⟨h.bl.grown hg hB hr, fun k hk h1 h2 h3 => (hg.block k (by have := h.bl.size; omega) (fun e => by
      rcases h.nf k e.symm with e | e
      · exact h3 e
      · omega)).trans (h.kp k hk h1 h2 h3), h.ns, fun k hk => by
      rcases hn k hk with e | e
      · exact h.nf k e
      · exact .inr (by have := h.bl.size; omega)⟩
/-- what is free stays, and stays free -/
theorem Bri.move {v : Value} {l : List Int} (h : Bri K vs vf w v l) (hf : Fr K vs vf vs' vf' w w') : Bri K vs' vf' w' v l := by
  have hs := hf.bl.size
  refine h.to keeps_int (fun i hi => hf.kp i hi.2.2.2 hi.1.1 hi.2.1 hi.2.2.1) (fun i hi => ⟨hi.1, fun e => ?_, fun e => ?_, by have := hi.2.2.2; omega⟩)
  · rcases hf.ns i e with e | e
    · exact hi.2.1 e
    · have := hi.2.2.2; omega
  · rcases hf.nf i e with e | e
    · exact hi.2.2.1 e
    · have := hi.2.2.2; omega
theorem LoOk.move (h : LoOk K vs vf w) (hf : Fr K vs vf vs' vf' w w') : LoOk K vs' vf' w' := ⟨by have := h.1; have := hf.bl.size; omega, h.2.move hf⟩
theorem WJ.lt (h : WJ K at_ s vs vf fv w) : K.B < w.heap.size := h.row.lt
theorem WJ.size (h : WJ K at_ s vs vf fv w) (hK : KOk K) : K.base ≤ w.heap.size := by have := hK.bs; have := h.bel.size; omega
theorem WJ.mo (h : WJ K at_ s vs vf fv w) (hK : KOk K) : IsMo w.heap.size w K.V K.C.M := hK.mo.step h.bel (h.size hK)
theorem WJ.rowS (h : WJ K at_ s vs vf fv w) : ∀ k, vs.ownBlock = some k → K.base ≤ k := fun k hk => (h.st.lt k hk).1
theorem WJ.rowF (h : WJ K at_ s vs vf fv w) : ∀ k, vf.ownBlock = some k → K.base ≤ k := fun k hk => (h.fr.lt k hk).1
/-- the walk's block is none of the rows -/
theorem WJ.neS (h : WJ K at_ s vs vf fv w) : vs.ownBlock ≠ some K.B := by
  rcases h.st.2 with ⟨rfl, _⟩ | ⟨g, cap, cur, rfl, _, hg, _⟩
  · simp [Value.ownBlock]
  · simp only [Value.ownBlock, ne_eq, Option.some.injEq]
    rintro rfl
    have := h.row
    unfold Row at this
    rw [hg] at this
    simp at this
theorem WJ.neF (h : WJ K at_ s vs vf fv w) : vf.ownBlock ≠ some K.B := by
  rcases h.fr.2 with ⟨rfl, _⟩ | ⟨g, cap, cur, rfl, _, hg, _⟩
  · simp [Value.ownBlock]
  · simp only [Value.ownBlock, ne_eq, Option.some.injEq]
    rintro rfl
    have := h.row
    unfold Row at this
    rw [hg] at this
    simp at this
theorem WJ.old (h : WJ K at_ s vs vf fv w) (hK : KOk K) {b : Nat} (hb : b < K.base) : Free K vs vf w b := by
  have := h.size hK
  refine ⟨⟨by have := hK.bb; omega, by have := hK.hh; omega⟩, fun e => ?_, fun e => ?_, by omega⟩
  · have := h.rowS b e; omega
  · have := h.rowF b e; omega
/-- what lies in older memory is free -/
theorem WJ.bri (h : WJ K at_ s vs vf fv w) (hK : KOk K) {v : Value} {l : List Int} (hv : SInts K.base K.w0 v l) : Bri K vs vf w v l :=
  hv.to keeps_int (same_below h.bel) (fun _ hi => h.old hK hi)
/-- only new memory -/
theorem WJ.below (h : WJ K at_ s vs vf fv w) (hK : KOk K) (hb : Below w.heap.size w w') : WJ K at_ s vs vf fv w' :=
  ⟨h.bel.trans (hb.mono (h.size hK)), h.row.kept hb, own_kept h.st hb, own_kept h.fr hb, h.fs, h.lo.move ((Fr.refl K vs vf w).below hb (h.size hK)), fun x hx => (h.br x hx).move ((Fr.refl K vs vf w).below hb (h.size hK))⟩
theorem WJ.alloc (h : WJ K at_ s vs vf fv w) (hK : KOk K) (o : Obj) : WJ K at_ s vs vf fv (w.alloc o) := h.below hK (bel_one _ _)
theorem WJ.drew (h : WJ K at_ s vs vf fv w) : WJ K at_ s vs vf fv w.drew := ⟨h.bel.drew, h.row, h.st.drew, h.fr.drew, h.fs, h.lo, h.br⟩
theorem WJ.drewN (h : WJ K at_ s vs vf fv w) (n : Nat) : WJ K at_ s vs vf fv (w.drewN n) := by
  induction n with
  | zero => exact h
  | succ n ih => exact ih.drew
theorem Fr.drewN (h : Fr K vs vf vs' vf' w w') (n : Nat) : Fr K vs vf vs' vf' w (w'.drewN n) := by
  induction n with
  | zero => exact h
  | succ n ih => exact ih.drew
/-- a new block is free -/
theorem WJ.fresh (h : WJ K at_ s vs vf fv w) (o : Obj) : Free K vs vf (w.alloc o) w.heap.size := by
  refine ⟨⟨by have := h.lt; omega, by have := h.lo.1; omega⟩, fun e => ?_, fun e => ?_, by simp⟩
  · have := (h.st.lt _ e).2; omega
  · have := (h.fr.lt _ e).2; omega
/-- a row's header is cut: the stack -/
theorem WJ.setS (h : WJ K at_ s vs vf fv w) (hK : KOk K) {st' : List Int} {vs' : Value} (hv : ∀ k, vs'.ownBlock = some k → vs.ownBlock = some k) (ho : w.ownsRow K.base 3 1 vs' st'.length (st'.reverse.map (Value.int .i64))) :
    WJ K at_ ⟨st', s.fr⟩ vs' vf fv (w.setCell ⟨K.B, 10, none⟩ vs') := by
  have hF : Fr K vs vf vs' vf w (w.setCell ⟨K.B, 10, none⟩ vs') := ((Fr.refl K vs vf w).box hK 10 vs').cutS hv
  refine ⟨h.bel.setCell hK.bb _, ?_, ?_, ?_, h.fs, h.lo.move hF, fun x hx => (h.br x hx).move hF⟩
  · have := h.row.set 10 vs'
    simpa [wcells] using this
  · refine ownsRow_setCell_other ho ?_ _
    intro e; exact h.neS (hv _ e)
  · exact ownsRow_setCell_other h.fr h.neF _
theorem WJ.setF (h : WJ K at_ s vs vf fv w) (hK : KOk K) {fr' : List Fm} {fv' : List (Fm × Value)} {vf' : Value} (hv : ∀ k, vf'.ownBlock = some k → vf.ownBlock = some k) (ho : w.ownsRow K.base 127 4 vf' fr'.length (flatF fv'.reverse)) (hs : fv'.map Prod.fst = fr') (hb : ∀ x ∈ fv', x ∈ fv) :
    WJ K at_ ⟨s.st, fr'⟩ vs vf' fv' (w.setCell ⟨K.B, 11, none⟩ vf') := by
  have hF : Fr K vs vf vs vf' w (w.setCell ⟨K.B, 11, none⟩ vf') := ((Fr.refl K vs vf w).box hK 11 vf').cutF hv
  refine ⟨h.bel.setCell hK.bb _, ?_, ?_, ?_, hs, h.lo.move hF, fun x hx => (h.br x (hb x hx)).move hF⟩
  · have := h.row.set 11 vf'
    simpa [wcells] using this
  · exact ownsRow_setCell_other h.st h.neS _
  · refine ownsRow_setCell_other ho ?_ _
    intro e; exact h.neF (hv _ e)
theorem WJ.setAt (h : WJ K at_ s vs vf fv w) (hK : KOk K) (p : Int) : WJ K p s vs vf fv (w.setCell ⟨K.B, 8, none⟩ (.int .i64 p)) := by
  have hF : Fr K vs vf vs vf w (w.setCell ⟨K.B, 8, none⟩ (.int .i64 p)) := (Fr.refl K vs vf w).box hK 8 _
  refine ⟨h.bel.setCell hK.bb _, ?_, ownsRow_setCell_other h.st h.neS _, ownsRow_setCell_other h.fr h.neF _, h.fs, h.lo.move hF, fun x hx => (h.br x hx).move hF⟩
  have := h.row.set 8 (.int .i64 p)
  simpa [wcells] using this
end
/-- where a call ends: the state, what was let stand -/
def Goes (K : Kx) (at_ : Int) (vs vf : Value) (w : World) (s : Wk) (w' : World) : Prop := ∃ vs' vf' fv', WJ K at_ s vs' vf' fv' w' ∧ Fr K vs vf vs' vf' w w'
/-- it leaves by a panic with that error -/
def Dies (K : Kx) (at_ c : Int) (e : Ending) (w' : World) : Prop := ∃ p, e = .panicked [{ v := flt p, recovered := false }] ∧ FaultAt w' p c at_ ∧ Below K.base K.w0 w'
def Ends (K : Kx) (at_ : Int) (vs vf : Value) (w : World) (r : Except Int Wk) (e : Ending) (w' : World) : Prop := match r with
  | .ok s' => e = .returned (.tuple #[]) ∧ Goes K at_ vs vf w s' w'
  | .error c => Dies K at_ c e w'
def EndsV {α : Type} (enc : α → Value) (K : Kx) (at_ : Int) (vs vf : Value) (w : World) (r : Except Int (α × Wk)) (e : Ending) (w' : World) : Prop := match r with
  | .ok p => e = .returned (enc p.1) ∧ Goes K at_ vs vf w p.2 w'
  | .error c => Dies K at_ c e w'
theorem flat_len (l : List (Fm × Value)) : (flatF l).length = l.length * 4 := by
  induction l with
  | nil => rfl
  | cons x l ih => simp only [flatF, List.flatMap_cons, List.length_append, List.length_cons] at ih ⊢; rw [ih]; simp [fcel]; omega
theorem flat_app (l m : List (Fm × Value)) : flatF (l ++ m) = flatF l ++ flatF m := by simp [flatF, List.flatMap_append]
theorem flat_at : ∀ (l : List (Fm × Value)) (k j : Nat) (x : Fm × Value), l[k]? = some x → j < 4 → (flatF l)[k * 4 + j]? = (fcel x)[j]?
  | [], k, j, x, h, _ => by simp at h
  | y :: l, 0, j, x, h, hj => by
    simp at h; subst h
    show (fcel y ++ flatF l)[0 * 4 + j]? = _
    rw [List.getElem?_append_left (by simp [fcel]; omega)]; simp
  | y :: l, k + 1, j, x, h, hj => by
    have ih := flat_at l k j x (by simpa using h) hj
    show (fcel y ++ flatF l)[(k + 1) * 4 + j]? = _
    rw [List.getElem?_append_right (by simp [fcel]; omega), ← ih]
    congr 1; simp [fcel]; omega
/-- the cells of the frame begun last -/
theorem WJ.top {K : Kx} {at_ : Int} {s : Wk} {vs vf : Value} {fv : List (Fm × Value)} {w : World} (h : WJ K at_ s vs vf fv w) {f : Fm} {r : List Fm} (hf : s.fr = f :: r) :
    ∃ g cap v fv', vf = .slice (some ⟨g, 0, none⟩) (r.length + 1) cap ∧ fv = (f, v) :: fv' ∧ fv'.map Prod.fst = r ∧ K.base ≤ g ∧ r.length + 1 ≤ cap ∧ Bri K vs vf w v f.br ∧
      (∀ j, j < 4 → w.cell? ⟨g, r.length * 4 + j, none⟩ = (fcel (f, v))[j]?) ∧ ∀ j, w.frozen? ⟨g, j, none⟩ = false := by
  have hfs := h.fs
  rw [hf] at hfs
  cases fv with
  | nil => simp at hfs
  | cons x fv' =>
    obtain ⟨f', v⟩ := x
    simp only [List.map_cons, List.cons.injEq] at hfs
    obtain ⟨rfl, hr⟩ := hfs
    have hfr := h.fr
    rw [hf] at hfr
    obtain ⟨a, c, rfl⟩ := Nest.own_slice hfr
    obtain ⟨g, rfl, _, hg, hc⟩ := Nest.own_some hfr (by simp)
    refine ⟨g, c, v, fv', rfl, rfl, hr, hg, by simpa using hc, h.br _ (List.mem_cons_self ..), fun j hj => ?_, fun j => hfr.frozenAt j⟩
    have hl : fv'.length = r.length := by rw [← hr]; simp
    rw [hfr.cellAt (r.length * 4 + j) (by simp; omega)]
    rw [List.reverse_cons]
    refine flat_at _ _ _ _ ?_ hj
    rw [List.getElem?_append_right (by simp; omega)]
    simp [hl]
end Go.Proofs.YtamofhkmhjckaabGreatDoor
namespace Go.Proofs.YtamofhkmhjckaabGreatDoor
open Go.RowKit

theorem vfault_any (c a : Int) (w : World) : Calls Tryz.prog 17 #[.int .i64 c, .int .i64 a] w fun e w' => e = .returned (.pointer (some ⟨w.heap.size, 0, none⟩)) ∧ FaultAt w' w.heap.size c a ∧ Below w.heap.size w w' := by
  go_enter Tryz.func17, Tryz.ntmps17
  go_wp2
  go_ret
  exact ⟨rfl, FaultAt.made w c a, bel_one w _⟩
theorem must_yes (a : Int) (w : World) : Calls Tryz.prog 35 #[.bool true, .int .i64 a] w fun e w' => e = .returned (.tuple #[]) ∧ w' = w := by
  go_enter Tryz.func35, Tryz.ntmps35
  go_wp2
  go_end0
  exact ⟨rfl, rfl⟩
theorem must_no (a : Int) (w : World) : Calls Tryz.prog 35 #[.bool false, .int .i64 a] w fun e w' => ∃ p, e = .panicked [{ v := flt p, recovered := false }] ∧ FaultAt w' p 3 a ∧ Below w.heap.size w w' := by
  go_enter Tryz.func35, Tryz.ntmps35
  go_wp2_with fail
  refine (vfault_any 3 a _).mono ?_
  rintro e w1 ⟨rfl, hf, hb⟩
  have HF := hide hf
  have HB := hide hb
  clear hf hb
  go_wp2_with fail
  exact ⟨rfl, _, rfl, HF.out, HB.out⟩
section
variable {K : Kx} {at_ : Int} {s : Wk} {vs vf : Value} {fv : List (Fm × Value)} {w : World}
theorem wmust_yes (h : WJ K at_ s vs vf fv w) : Calls Tryz.prog 64 #[.pointer (some ⟨K.B, 0, none⟩), .bool true] w fun e w' => e = .returned (.tuple #[]) ∧ w' = w := by
  have c8 : w.cell? ⟨K.B, 8, none⟩ = some (.int .i64 at_) := h.row.c 8 _ rfl
  clear h
  go_enter Tryz.func64, Tryz.ntmps64
  go_wp2_with fail
  refine (must_yes at_ _).mono ?_
  rintro e w1 ⟨rfl, rfl⟩
  go_wp2_with fail
  go_end0
  exact ⟨rfl, rfl⟩
theorem wmust_no (hK : KOk K) (h : WJ K at_ s vs vf fv w) : Calls Tryz.prog 64 #[.pointer (some ⟨K.B, 0, none⟩), .bool false] w fun e w' => Dies K at_ 3 e w' ∧ Below w.heap.size w w' := by
  have c8 : w.cell? ⟨K.B, 8, none⟩ = some (.int .i64 at_) := h.row.c 8 _ rfl
  have H := hide h
  clear h
  go_enter Tryz.func64, Tryz.ntmps64
  go_wp2_with fail
  refine (must_no at_ _).mono ?_
  rintro e w1 ⟨p, rfl, hf, hb⟩
  have HF := hide hf
  have HB := hide hb
  clear hf hb
  go_wp2_with fail
  exact ⟨rfl, ⟨p, rfl, HF.out, H.out.bel.trans (HB.out.mono (H.out.size hK))⟩, HB.out⟩
theorem wmust_is (hK : KOk K) (h : WJ K at_ s vs vf fv w) (b : Bool) : Calls Tryz.prog 64 #[.pointer (some ⟨K.B, 0, none⟩), .bool b] w fun e w' => (b = true ∧ e = .returned (.tuple #[]) ∧ w' = w) ∨ (b = false ∧ Dies K at_ 3 e w' ∧ Below w.heap.size w w') := by
  cases b
  · exact (wmust_no hK h).mono fun e w' hd => .inr ⟨rfl, hd⟩
  · exact (wmust_yes h).mono fun e w' hd => .inl ⟨rfl, hd⟩
/-- the frame begun last -/
theorem last_any (h : WJ K at_ s vs vf fv w) {g n c : Nat} (hv : vf = .slice (some ⟨g, 0, none⟩) (n + 1) c) (hn : n ≤ 1000) :
    Calls Tryz.prog 84 #[.pointer (some ⟨K.B, 0, none⟩)] w fun e w' => e = .returned (.pointer (some ⟨g, n * 4, none⟩)) ∧ w' = w.drew := by
  have c11 : w.cell? ⟨K.B, 11, none⟩ = some vf := h.row.c 11 _ rfl
  rw [hv] at c11
  clear h hv
  go_enter Tryz.func84, Tryz.ntmps84
  go_wp2_with fail
  go_region
  all_goals
    go_wp2_with fail
    go_ret
    exact ⟨rfl, rfl⟩
end
end Go.Proofs.YtamofhkmhjckaabGreatDoor
namespace Go.Proofs.YtamofhkmhjckaabGreatDoor
open Go.RowKit
section
variable {K : Kx} {at_ : Int} {s : Wk} {vs vf : Value} {fv : List (Fm × Value)} {w : World}
theorem fcell {f : Fm} {v : Value} {c : Nat → Option Value} (h : ∀ j, j < 4 → c j = (fcel (f, v))[j]?) : c 0 = some (.int .i64 f.op) ∧ c 1 = some v ∧ c 2 = some (.int .i64 f.base) ∧ c 3 = some (.bool f.dead) :=
  ⟨h 0 (by decide), h 1 (by decide), h 2 (by decide), h 3 (by decide)⟩
/-- how pop ends: where it leaves by a panic it has only made memory -/
def PopEnds (K : Kx) (at_ : Int) (vs vf : Value) (fv : List (Fm × Value)) (w : World) (r : Except Int (Int × Wk)) (e : Ending) (w' : World) : Prop := match r with
  | .ok p => e = .returned (.int .i64 p.1) ∧ ∃ vs', WJ K at_ p.2 vs' vf fv w' ∧ Fr K vs vf vs' vf w w'
  | .error c => Dies K at_ c e w' ∧ Below w.heap.size w w'
set_option maxRecDepth 100000 in
set_option maxHeartbeats 2000000 in
theorem pop_low (hK : KOk K) (h : WJ K at_ s vs vf fv w) (hn : s.fr.length ≤ 1000) {f : Fm} {r : List Fm} (hf : s.fr = f :: r) (hl : s.st.length ≤ f.base) :
    Calls Tryz.prog 58 #[.pointer (some ⟨K.B, 0, none⟩)] w (PopEnds K at_ vs vf fv w (popW s)) := by
  have HK := hide hK
  have H := hide h
  have hr : r.length ≤ 1000 := by rw [hf] at hn; simp at hn; omega
  obtain ⟨g, cap, v, fv', hvf, _, _, _, _, _, hc, _⟩ := h.top hf
  obtain ⟨_, _, c2, c3⟩ := fcell hc
  obtain ⟨a, c, hvs⟩ := Nest.own_slice h.st
  have c10 : w.cell? ⟨K.B, 10, none⟩ = some vs := h.row.c 10 _ rfl
  rw [hvs] at c10
  have LA := hide (last_any h hvf hr)
  cases hdead : f.dead with
  | true =>
    have hp : popW s = .ok (-1, s) := by simp [popW, hf, hl, hdead]
    rw [hp]
    clear hc h hf hp hvs hvf hK
    rw [hdead] at c3
    go_enter Tryz.func58, Tryz.ntmps58
    go_wp2_with fail
    refine LA.out.mono ?_
    rintro e w1 ⟨rfl, rfl⟩
    go_wp2_with fail
    go_region
    all_goals
      go_wp2_with fail
      refine (wmust_yes H.out.drew.drew).mono ?_
      rintro e w1 ⟨rfl, rfl⟩
      go_wp2_with fail
      go_ret
      exact ⟨rfl, vs, H.out.drew.drew, (Fr.refl K vs vf w).drew.drew⟩
  | false =>
    have hp : popW s = .error 3 := by simp [popW, hf, hl, hdead]
    rw [hp]
    clear hc h hf hp hvs hvf hK
    rw [hdead] at c3
    go_enter Tryz.func58, Tryz.ntmps58
    go_wp2_with fail
    refine LA.out.mono ?_
    rintro e w1 ⟨rfl, rfl⟩
    go_wp2_with fail
    go_region
    all_goals
      go_wp2_with fail
      refine (wmust_no HK.out H.out.drew.drew).mono ?_
      rintro e w1 ⟨⟨p, rfl, hx⟩, hbb⟩
      have HX := hide hx
      have HY := hide hbb
      clear hx hbb
      go_wp2_with fail
      exact ⟨rfl, ⟨p, rfl, HX.out⟩, (Below.refl _ w).drew.drew.trans HY.out⟩
set_option maxRecDepth 100000 in
set_option maxHeartbeats 4000000 in
theorem pop_high (hK : KOk K) (h : WJ K at_ s vs vf fv w) (hn : s.fr.length ≤ 1000) (hsm : s.st.length ≤ 1000) {f : Fm} {r : List Fm} (hf : s.fr = f :: r) (hl : ¬ s.st.length ≤ f.base) :
    Calls Tryz.prog 58 #[.pointer (some ⟨K.B, 0, none⟩)] w (PopEnds K at_ vs vf fv w (popW s)) := by
  have HK := hide hK
  have H := hide h
  have hr : r.length ≤ 1000 := by rw [hf] at hn; simp at hn; omega
  cases hst : s.st with
  | nil => exact absurd (by rw [hst]; simp) hl
  | cons t l =>
    have hp : popW s = .ok (t, ⟨l, s.fr⟩) := by simp only [popW, hf]; rw [if_neg hl, hst]
    rw [hp]
    have hlen : s.st.length = l.length + 1 := by rw [hst]; rfl
    obtain ⟨g, cap, v, fv', hvf, _, _, _, _, _, hc, _⟩ := h.top hf
    obtain ⟨_, _, c2, c3⟩ := fcell hc
    have ho := h.st
    rw [hlen, hst] at ho
    obtain ⟨a, c, hvs⟩ := Nest.own_slice ho
    subst hvs
    obtain ⟨ga, rfl, _, hga, hca⟩ := Nest.own_some ho (by omega)
    have hm : ga ≠ K.B := fun e => H.out.neS (by rw [e]; rfl)
    have q := ho.cellAt l.length (by omega)
    have hq : ((t :: l).reverse.map (Value.int .i64))[l.length]? = some (.int .i64 t) := by simp
    rw [hq] at q
    have c10 : w.cell? ⟨K.B, 10, none⟩ = some (.slice (some ⟨ga, 0, none⟩) (l.length + 1) c) := h.row.c 10 _ rfl
    have z10 : w.frozen? ⟨K.B, 10, none⟩ = false := h.row.fr 10
    rw [hlen] at hl
    have LA := hide (last_any h hvf hr)
    have CUT := hide (Nest.own_take ho l.length (by omega))
    rw [hlen] at hsm
    clear hc h hf hp hvf hK hst hlen hq
    go_enter Tryz.func58, Tryz.ntmps58
    go_wp2_with fail
    refine LA.out.mono ?_
    rintro e w1 ⟨rfl, rfl⟩
    go_wp2_with fail
    go_quiet (fail)
    go_wp2_with fail
    go_quiet (fail)
    go_wp2_with fail
    go_region
    all_goals
      go_wp2_with fail
      go_ret
      refine ⟨rfl, .slice (some ⟨ga, 0, none⟩) l.length c, ?_, ?_⟩
      · exact (H.out.drewN _).setS HK.out (st' := l) (vs' := .slice (some ⟨ga, 0, none⟩) l.length c) (fun k hk => hk) (show World.ownsRow w _ _ _ _ _ _ from by have := CUT.out; simpa using this)
      · exact (((Fr.refl K _ vf w).drewN _).box HK.out 10 (.slice (some ⟨ga, 0, none⟩) l.length c)).cutS (vs'' := .slice (some ⟨ga, 0, none⟩) l.length c) (fun k hk => hk)
theorem pop_any (hK : KOk K) (h : WJ K at_ s vs vf fv w) (hw : WF s) (hn : s.fr.length ≤ 1000) (hne : s.fr ≠ []) :
    Calls Tryz.prog 58 #[.pointer (some ⟨K.B, 0, none⟩)] w (PopEnds K at_ vs vf fv w (popW s)) := by
  cases hf : s.fr with
  | nil => exact absurd hf hne
  | cons f r =>
    by_cases hl : s.st.length ≤ f.base
    · exact pop_low hK h hn hf hl
    · exact pop_high hK h hn (by have := hw.small; omega) hf hl
theorem pop_v (hK : KOk K) (h : WJ K at_ s vs vf fv w) (hw : WF s) (hn : s.fr.length ≤ 1000) (hne : s.fr ≠ []) :
    Calls Tryz.prog 58 #[.pointer (some ⟨K.B, 0, none⟩)] w (EndsV (Value.int .i64) K at_ vs vf w (popW s)) := by
  refine (pop_any hK h hw hn hne).mono fun e w' he => ?_
  unfold PopEnds at he
  unfold EndsV
  cases hp : popW s with
  | ok p =>
    rw [hp] at he
    obtain ⟨rfl, vs', J, F⟩ := he
    exact ⟨rfl, vs', vf, fv, J, F⟩
  | error c => rw [hp] at he; exact he.1
end
end Go.Proofs.YtamofhkmhjckaabGreatDoor

/-
  Plain mathematics of modules as bytes: what is written, with anything behind, is read as it was; two modules that fit have the same bytes just if they are the same; no program.
-/
import Derived.Test.YtcbfpikggphokaaGreatDoorReader
import Derived.Test.YtcbfpikggphokaaGreatDoorEncC
import Derived.Test.YtcbfpikggphokaaGreatDoorRound
namespace Go.Proofs.YtcbfpikggphokaaGreatDoor
open Go.RowKit

/-- What an encoder writes, with anything behind, its parser takes. -/
def Inv {α : Type} (P : List UInt8 → Option (α × List UInt8)) (E : α → List UInt8) (ok : α → Prop) : Prop := ∀ x r, ok x → P (E x ++ r) = some (x, r)
theorem inv_num : Inv numP num (fun n => 0 ≤ n ∧ n < 4294967296) := by
  intro n r h
  unfold numP num ok3
  rw [u32_back n r h]; rfl
theorem inv_one : Inv oneP oneB (fun n => 0 ≤ n ∧ n ≤ 255) := by
  intro n r h
  have := byI_val h.1 h.2
  simp only [oneB, List.cons_append, List.nil_append, oneP]
  rw [this]
theorem inv_cnt : Inv cntP cnt (fun b => b.length < 4294967296) := by
  intro b r h
  unfold cntP cnt
  rw [List.append_assoc, inv_num _ _ ⟨by omega, by omega⟩]
  simp [bytP]; omega
/-- So many things. -/
def repP {α : Type} (P : List UInt8 → Option (α × List UInt8)) : Nat → List UInt8 → Option (List α × List UInt8)
  | 0, l => some ([], l)
  | n + 1, l => (P l).bind fun x => (repP P n x.2).map fun y => (x.1 :: y.1, y.2)
def manyP {α : Type} (P : List UInt8 → Option (α × List UInt8)) (l : List UInt8) : Option (List α × List UInt8) := (numP l).bind fun x => repP P x.1.toNat x.2
theorem inv_rep {α : Type} {P : List UInt8 → Option (α × List UInt8)} {E : α → List UInt8} {ok : α → Prop} (h : Inv P E ok) : ∀ (l : List α) (r : List UInt8), (∀ x ∈ l, ok x) → repP P l.length (flat E l ++ r) = some (l, r)
  | [], r, _ => by simp [repP, flat]
  | x :: l, r, hl => by
    have e : flat E (x :: l) ++ r = E x ++ (flat E l ++ r) := by simp [flat]
    rw [e]
    simp only [List.length_cons, repP]
    rw [h x _ (hl x (List.mem_cons_self ..))]
    simp only [Option.bind_some]
    rw [inv_rep h l r (fun y hy => hl y (List.mem_cons_of_mem _ hy))]
    rfl
theorem inv_many {α : Type} {P : List UInt8 → Option (α × List UInt8)} {E : α → List UInt8} {ok : α → Prop} (h : Inv P E ok) : Inv (manyP P) (lst E) (fun l => l.length < 4294967296 ∧ ∀ x ∈ l, ok x) := by
  intro l r hl
  unfold manyP lst
  rw [List.append_assoc, inv_num _ _ ⟨by omega, by omega⟩]
  simp only [Option.bind_some, Int.toNat_natCast]
  exact inv_rep h l r hl.2
def tyP (l : List UInt8) : Option (Int × List UInt8) := (oneP l).bind fun x => if ri (127 - x.1) = true then some (127 - x.1, x.2) else none
theorem inv_ty : Inv tyP tyB (fun t => ri t = true) := by
  intro t r h
  have ht := (ri_iff t).1 h
  have e : tyB t = oneB (127 - t) := rfl
  unfold tyP
  rw [e, inv_one _ _ ⟨by omega, by omega⟩]
  have e2 : (127 : Int) - (127 - t) = t := by omega
  simp only [Option.bind_some, e2, h, if_true]
def sgP (l : List UInt8) : Option (Sg × List UInt8) := (manyP tyP l).bind fun x => (manyP tyP x.2).map fun y => (⟨x.1, y.1⟩, y.2)
theorem inv_sg : Inv sgP sgB (fun s => smSg s = true ∧ whSg s = true) := by
  intro s r h
  obtain ⟨h1, h2⟩ := h
  simp only [smSg, decide_eq_true_eq] at h1
  simp only [whSg, Bool.and_eq_true, decide_eq_true_eq, List.all_eq_true] at h2
  unfold sgP sgB
  rw [List.append_assoc, inv_many inv_ty _ _ ⟨by omega, h2.2.1⟩]
  simp only [Option.bind_some]
  rw [inv_many inv_ty _ _ ⟨by omega, h2.2.2⟩]
  rfl
/-- A function without its code. -/
def fnP (l : List UInt8) : Option (Fn × List UInt8) := (numP l).bind fun x => (oneP x.2).bind fun y => if y.1 ≤ 1 then some (⟨x.1, y.1 == 1, [], []⟩, y.2) else none
def bare (f : Fn) : Fn := ⟨f.sig, f.tr, [], []⟩
theorem inv_fn : Inv fnP fnB (fun f => idx f.sig = true ∧ f = bare f) := by
  intro f r h
  obtain ⟨h1, h2⟩ := h
  simp only [idx, Bool.and_eq_true, decide_eq_true_eq] at h1
  unfold fnP fnB
  rw [List.append_assoc, inv_num _ _ h1]
  simp only [Option.bind_some]
  rw [inv_one _ _ ⟨by split <;> decide, by split <;> decide⟩]
  rw [h2]
  cases ht : f.tr <;> simp [bare, ht]
/-- A number of a global. -/
def glP (l : List UInt8) : Option (Gl × List UInt8) := (tyP l).bind fun x => if wi x.1 = true then (ok3 (tkS x.2 64)).map (fun y => (⟨x.1, y.1⟩, y.2)) else (ok3 (tkS x.2 32)).map (fun y => (⟨x.1, y.1 % 4294967296⟩, y.2))
theorem inv_gl : Inv glP glB (fun g => whGl g = true ∧ I64 g.v) := by
  intro g r h
  obtain ⟨h1, h2⟩ := h
  simp only [whGl, Bool.and_eq_true, Bool.or_eq_true] at h1
  unfold glP glB
  rw [List.append_assoc, inv_ty _ _ h1.1]
  simp only [Option.bind_some]
  cases hw : wi g.t with
  | true =>
    have e : glV g = g.v := by simp [glV, hw]
    rw [e, s64_back _ _ h2]
    simp [ok3]
  | false =>
    have hx : idx g.v = true := by
      rcases h1.2 with h | h
      · rw [hw] at h; cases h
      · exact h
    simp only [idx, Bool.and_eq_true, decide_eq_true_eq] at hx
    have e : glV g = s32 g.v := by simp [glV, hw]
    have hs : -2147483648 ≤ s32 g.v ∧ s32 g.v < 2147483648 := by unfold s32; split <;> omega
    have hm : s32 g.v % 4294967296 = g.v := by unfold s32; split <;> omega
    rw [e, s32_back _ _ hs]
    simp [ok3, hm]
/-- A body: instructions till no byte is left. -/
def insP : Nat → List UInt8 → Option (List In)
  | _, [] => some []
  | 0, _ :: _ => none
  | n + 1, c :: l => (tkI (c :: l)).bind fun x => (insP n x.2).map fun y => ⟨x.1.1, x.1.2.1, x.1.2.2⟩ :: y
theorem inB_pos (x : In) : ∃ c r, inB x = c :: r := ⟨_, _, rfl⟩
theorem ins_back : ∀ (l : List In) (n : Nat), l.length ≤ n → (∀ x ∈ l, rtI x = true ∧ I64 x.n) → insP n (flat inB l) = some l
  | [], n, _, _ => by cases n <;> rfl
  | x :: l, 0, h, _ => by simp at h
  | x :: l, n + 1, h, hl => by
    have e : flat inB (x :: l) = inB x ++ flat inB l := by simp [flat]
    have hx := hl x (List.mem_cons_self ..)
    have b := back_1 x.op x.n x.m (flat inB l) hx.2 hx.1
    obtain ⟨c, r, hc⟩ := inB_pos x
    have e2 : inB x ++ flat inB l = c :: (r ++ flat inB l) := by rw [hc]; rfl
    have b2 : tkI (c :: (r ++ flat inB l)) = some ((x.op, x.n, x.m), flat inB l) := by rw [← e2]; exact b
    rw [e, e2]
    simp only [insP]
    rw [b2]
    simp only [Option.bind_some]
    rw [ins_back l n (by simp at h; omega) (fun y hy => hl y (List.mem_cons_of_mem _ hy))]
    rfl
def cdP (l : List UInt8) : Option (Fn × List UInt8) := (manyP tyP l).bind fun x => (cntP x.2).bind fun y => (insP y.1.length y.1).map fun z => (⟨0, false, x.1, z⟩, y.2)
def code (f : Fn) : Fn := ⟨0, false, f.locals, f.body⟩
theorem flat_ge (l : List In) : l.length ≤ (flat inB l).length := by
  induction l with
  | nil => simp
  | cons x l ih =>
    have e : flat inB (x :: l) = inB x ++ flat inB l := by simp [flat]
    obtain ⟨c, r, hc⟩ := inB_pos x
    rw [e, hc]; simp; omega
theorem inv_cd : Inv cdP cdB (fun f => (smFn f = true ∧ f.locals.all ri = true ∧ f.body.all rtI = true ∧ ∀ x ∈ f.body, I64 x.n) ∧ f = code f) := by
  intro f r h
  obtain ⟨⟨h1, h2, h3, h4⟩, h5⟩ := h
  simp only [smFn, Bool.and_eq_true, decide_eq_true_eq] at h1
  have hl := body_len (l := f.body)
  unfold cdP cdB
  rw [List.append_assoc, inv_many inv_ty _ _ ⟨by omega, List.all_eq_true.1 h2⟩]
  simp only [Option.bind_some]
  rw [inv_cnt _ _ (by omega)]
  simp only [Option.bind_some]
  rw [ins_back f.body _ (flat_ge _) (fun x hx => ⟨List.all_eq_true.1 h3 x hx, h4 x hx⟩)]
  rw [Option.map_some]
  conv => rhs; rw [h5]
  rfl
def daP (l : List UInt8) : Option (Da × List UInt8) := (numP l).bind fun x => (numP x.2).bind fun y => (cntP y.2).map fun z => (⟨x.1, y.1, z.1⟩, z.2)
theorem inv_da : Inv daP daB (fun d => whDa d = true ∧ d.bytes.length < 4294967296) := by
  intro d r h
  obtain ⟨h1, h2⟩ := h
  simp only [whDa, idx, Bool.and_eq_true, Bool.or_eq_true, decide_eq_true_eq] at h1
  unfold daP daB
  rw [List.append_assoc, List.append_assoc, inv_num _ _ ⟨by omega, by omega⟩]
  simp only [Option.bind_some]
  rw [inv_num _ _ h1.2]
  simp only [Option.bind_some]
  rw [inv_cnt _ _ h2]
  rfl
/-- A section of that number, or nothing. -/
def secP {α : Type} (c : Int) (P : List UInt8 → Option (α × List UInt8)) : List UInt8 → Option (List α × List UInt8)
  | [] => some ([], [])
  | d :: r => if d = byI c then (cntP r).bind fun x => (manyP P x.1).bind fun y => if y.2.length = 0 then some (y.1, x.2) else none else some ([], d :: r)
def Not1 (c : Int) (r : List UInt8) : Prop := ∀ d t, r = d :: t → d ≠ byI c
theorem not1_nil (c : Int) : Not1 c [] := by intro d t h; cases h
theorem not1_sec {α : Type} {c k : Int} {E : α → List UInt8} {l : List α} {r : List UInt8} (h : byI k ≠ byI c) (hr : Not1 c r) : Not1 c (sec k E l ++ r) := by
  unfold sec
  split
  · simpa using hr
  · intro d t e
    simp only [oneB, List.cons_append, List.nil_append, List.cons.injEq] at e
    rw [← e.1]; exact h
theorem sec_back {α : Type} {c : Int} {P : List UInt8 → Option (α × List UInt8)} {E : α → List UInt8} {ok : α → Prop} (h : Inv P E ok) (l : List α) (r : List UInt8) (hl : l.length < 4294967296) (hok : ∀ x ∈ l, ok x)
    (hz : (lst E l).length < 4294967296) (hn : Not1 c r) : secP c P (sec c E l ++ r) = some (l, r) := by
  unfold sec
  split
  · rename_i h0
    have e : l = [] := List.eq_nil_of_length_eq_zero h0
    subst e
    simp only [List.nil_append]
    cases r with
    | nil => rfl
    | cons d t => simp only [secP]; rw [if_neg (hn d t rfl)]
  · have m := inv_many h l [] ⟨hl, hok⟩
    rw [List.append_nil] at m
    simp only [oneB, List.cons_append, List.nil_append, secP, if_true]
    rw [inv_cnt _ _ hz]
    simp only [Option.bind_some]
    rw [m]
    simp
theorem sec_peel {α : Type} {c : Int} {P : List UInt8 → Option (α × List UInt8)} {E : α → List UInt8} {ok : α → Prop} (h : Inv P E ok) {l l' : List α} {r r' : List UInt8} (hl : l.length < 4294967296 ∧ (lst E l).length < 4294967296) (hl' : l'.length < 4294967296 ∧ (lst E l').length < 4294967296)
    (hok : ∀ x ∈ l, ok x) (hok' : ∀ x ∈ l', ok x) (hn : Not1 c r) (hn' : Not1 c r') (he : sec c E l ++ r = sec c E l' ++ r') : l = l' ∧ r = r' := by
  have a := sec_back h l r hl.1 hok hl.2 hn
  have b := sec_back h l' r' hl'.1 hok' hl'.2 hn'
  rw [he, b] at a
  cases a
  exact ⟨rfl, rfl⟩
theorem sec_map {α : Type} {c : Int} {E : α → List UInt8} {f : α → α} (hf : ∀ x, E (f x) = E x) (l : List α) : sec c E (l.map f) = sec c E l := by
  have e : flat E (l.map f) = flat E l := by simp [flat, Function.comp_def, hf]
  unfold sec lst
  rw [e, List.length_map]
theorem fnB_bare (f : Fn) : fnB (bare f) = fnB f := rfl
theorem cdB_code (f : Fn) : cdB (code f) = cdB f := rfl
theorem fn_eq {f g : Fn} (h1 : bare f = bare g) (h2 : code f = code g) : f = g := by
  cases f; cases g
  simp [bare, code] at h1 h2
  simp [h1, h2]
theorem fns_eq : ∀ {l r : List Fn}, l.map bare = r.map bare → l.map code = r.map code → l = r
  | [], [], _, _ => rfl
  | [], _ :: _, h, _ => by simp at h
  | _ :: _, [], h, _ => by simp at h
  | f :: l, g :: r, h1, h2 => by
    simp only [List.map_cons, List.cons.injEq] at h1 h2
    rw [fn_eq h1.1 h2.1, fns_eq h1.2 h2.2]
theorem inv_mem : Inv oneP oneB (fun n => 0 ≤ n ∧ n ≤ 255) := inv_one
theorem memL_eq {M K : Mo} (h : memL M = memL K) : M.m0 = K.m0 ∧ M.m1 = K.m1 := by
  unfold memL at h
  split at h <;> split at h
  · rename_i a b; omega
  · simp at h
  · simp at h
  · simp at h; exact h
/-- What a module that fits has besides: numbers of 64 bits, data of few bytes. -/
structure Fine (M : Mo) : Prop extends Fit M where
  g64 : ∀ g ∈ M.globals, I64 g.v
  i64 : ∀ f ∈ M.funcs, ∀ x ∈ f.body, I64 x.n
  few : ∀ d ∈ M.data, d.bytes.length ≤ 9000000
theorem lst_few {α : Type} {E : α → List UInt8} {l : List α} {c : Nat} (h : ∀ x ∈ l, (E x).length ≤ c) (hl : l.length ≤ 16) (hc : c ≤ 10000000) : (lst E l).length < 4294967296 := by
  have h1 := lst_len h
  have h2 : l.length * c ≤ 16 * 10000000 := Nat.mul_le_mul hl hc
  omega
theorem encM_inj {M K : Mo} (a : Fine M) (b : Fine K) (h : encM M = encM K) : M = K := by
  unfold encM secs at h
  rw [List.append_cancel_left_eq] at h
  simp only [List.append_assoc] at h
  have s10 : ∀ M : Mo, sec 10 cdB M.funcs = sec 10 cdB (M.funcs.map code) := fun M => (sec_map cdB_code _).symm
  have s3 : ∀ M : Mo, sec 3 fnB M.funcs = sec 3 fnB (M.funcs.map bare) := fun M => (sec_map fnB_bare _).symm
  rw [s3 M, s3 K, s10 M, s10 K, ← List.append_nil (sec 11 daB M.data), ← List.append_nil (sec 11 daB K.data)] at h
  have n11 : ∀ (M : Mo) (c : Int), byI 11 ≠ byI c → Not1 c (sec 11 daB M.data ++ []) := fun M c h => not1_sec h (not1_nil c)
  have n10 : ∀ (M : Mo) (c : Int), byI 11 ≠ byI c → byI 10 ≠ byI c → Not1 c (sec 10 cdB (M.funcs.map code) ++ (sec 11 daB M.data ++ [])) := fun M c h1 h2 => not1_sec h2 (n11 M c h1)
  have n6 : ∀ (M : Mo) (c : Int), byI 11 ≠ byI c → byI 10 ≠ byI c → byI 6 ≠ byI c → Not1 c (sec 6 glB M.globals ++ (sec 10 cdB (M.funcs.map code) ++ (sec 11 daB M.data ++ []))) := fun M c h1 h2 h3 => not1_sec h3 (n10 M c h1 h2)
  have n5 : ∀ (M : Mo) (c : Int), byI 11 ≠ byI c → byI 10 ≠ byI c → byI 6 ≠ byI c → byI 5 ≠ byI c → Not1 c (sec 5 oneB (memL M) ++ (sec 6 glB M.globals ++ (sec 10 cdB (M.funcs.map code) ++ (sec 11 daB M.data ++ [])))) := fun M c h1 h2 h3 h4 => not1_sec h4 (n6 M c h1 h2 h3)
  have n3 : ∀ (M : Mo) (c : Int), byI 11 ≠ byI c → byI 10 ≠ byI c → byI 6 ≠ byI c → byI 5 ≠ byI c → byI 3 ≠ byI c → Not1 c (sec 3 fnB (M.funcs.map bare) ++ (sec 5 oneB (memL M) ++ (sec 6 glB M.globals ++ (sec 10 cdB (M.funcs.map code) ++ (sec 11 daB M.data ++ []))))) := fun M c h1 h2 h3 h4 h5 => not1_sec h5 (n5 M c h1 h2 h3 h4)
  have n2 : ∀ (M : Mo) (c : Int), byI 11 ≠ byI c → byI 10 ≠ byI c → byI 6 ≠ byI c → byI 5 ≠ byI c → byI 3 ≠ byI c → byI 2 ≠ byI c → Not1 c (sec 2 num M.imports ++ (sec 3 fnB (M.funcs.map bare) ++ (sec 5 oneB (memL M) ++ (sec 6 glB M.globals ++ (sec 10 cdB (M.funcs.map code) ++ (sec 11 daB M.data ++ [])))))) := fun M c h1 h2 h3 h4 h5 h6 => not1_sec h6 (n3 M c h1 h2 h3 h4 h5)
  have f0 : ∀ {M : Mo}, Fine M → M.sigs.length < 4294967296 ∧ (lst sgB M.sigs).length < 4294967296 := fun {M} a => ⟨by have := a.l0; omega, lst_few (fun x hx => sg_bd (a.s0 x hx) (a.w0 x hx)) a.l0 (by omega)⟩
  have f1 : ∀ {M : Mo}, Fine M → M.imports.length < 4294967296 ∧ (lst num M.imports).length < 4294967296 := fun {M} a => ⟨by have := a.l1; omega, lst_few (fun x _ => num_len x) (by have := a.l1; omega) (by omega)⟩
  have f2 : ∀ {M : Mo}, Fine M → (M.funcs.map bare).length < 4294967296 ∧ (lst fnB (M.funcs.map bare)).length < 4294967296 := fun {M} a => ⟨by have := a.l2; simp; omega, lst_few (fun x _ => fn_bd x) (by have := a.l2; simp; omega) (by omega)⟩
  have f3 : ∀ {M : Mo}, Fine M → (memL M).length < 4294967296 ∧ (lst oneB (memL M)).length < 4294967296 := fun {M} _ => ⟨by have := memL_len M; omega, lst_few (fun x _ => one_bd x) (by unfold memL; split <;> simp) (by omega)⟩
  have f5 : ∀ {M : Mo}, Fine M → M.globals.length < 4294967296 ∧ (lst glB M.globals).length < 4294967296 := fun {M} a => ⟨by have := a.l5; omega, lst_few (fun x _ => gl_bd x) (by have := a.l5; omega) (by omega)⟩
  have f4 : ∀ {M : Mo}, Fine M → (M.funcs.map code).length < 4294967296 ∧ (lst cdB (M.funcs.map code)).length < 4294967296 := fun {M} a => ⟨by have := a.l2; simp; omega, lst_few (fun x hx => by
    obtain ⟨f, hf, rfl⟩ := List.mem_map.1 hx
    exact cd_bd (a.s2 f hf)) (by have := a.l2; simp; omega) (by omega)⟩
  have f6 : ∀ {M : Mo}, Fine M → M.data.length < 4294967296 ∧ (lst daB M.data).length < 4294967296 := fun {M} a => ⟨by have := a.l6; omega, lst_few (fun x hx => da_bd (a.few x hx)) (by have := a.l6; omega) (by omega)⟩
  obtain ⟨e0, h⟩ := sec_peel inv_sg (f0 a) (f0 b) (fun x hx => ⟨a.s0 x hx, a.w0 x hx⟩) (fun x hx => ⟨b.s0 x hx, b.w0 x hx⟩) (n2 M 1 (by decide) (by decide) (by decide) (by decide) (by decide) (by decide)) (n2 K 1 (by decide) (by decide) (by decide) (by decide) (by decide) (by decide)) h
  have ix : ∀ {x : Int}, idx x = true → 0 ≤ x ∧ x < 4294967296 := fun {x} h => by simpa [idx] using h
  obtain ⟨e1, h⟩ := sec_peel inv_num (f1 a) (f1 b) (fun x hx => ix (a.w1 x hx)) (fun x hx => ix (b.w1 x hx)) (n3 M 2 (by decide) (by decide) (by decide) (by decide) (by decide)) (n3 K 2 (by decide) (by decide) (by decide) (by decide) (by decide)) h
  have ob : ∀ {M : Mo}, Fine M → ∀ x ∈ M.funcs.map bare, idx x.sig = true ∧ x = bare x := fun {M} a x hx => by
    obtain ⟨f, hf, rfl⟩ := List.mem_map.1 hx
    exact ⟨(show idx f.sig = true from fn_idx (a.w2 f hf)), rfl⟩
  obtain ⟨e2, h⟩ := sec_peel inv_fn (f2 a) (f2 b) (ob a) (ob b) (n5 M 3 (by decide) (by decide) (by decide) (by decide)) (n5 K 3 (by decide) (by decide) (by decide) (by decide)) h
  obtain ⟨e3, h⟩ := sec_peel inv_mem (f3 a) (f3 b) (memL_byte a.toFit) (memL_byte b.toFit) (n6 M 5 (by decide) (by decide) (by decide)) (n6 K 5 (by decide) (by decide) (by decide)) h
  obtain ⟨e5, h⟩ := sec_peel inv_gl (f5 a) (f5 b) (fun x hx => ⟨a.w5 x hx, a.g64 x hx⟩) (fun x hx => ⟨b.w5 x hx, b.g64 x hx⟩) (n10 M 6 (by decide) (by decide)) (n10 K 6 (by decide) (by decide)) h
  have oc : ∀ {M : Mo}, Fine M → ∀ x ∈ M.funcs.map code, (smFn x = true ∧ x.locals.all ri = true ∧ x.body.all rtI = true ∧ ∀ y ∈ x.body, I64 y.n) ∧ x = code x := fun {M} a x hx => by
    obtain ⟨f, hf, rfl⟩ := List.mem_map.1 hx
    have hw := a.w2 f hf
    simp only [whFn, Bool.and_eq_true] at hw
    exact ⟨⟨a.s2 f hf, hw.2.1, hw.2.2.1, a.i64 f hf⟩, rfl⟩
  obtain ⟨e4, h⟩ := sec_peel inv_cd (f4 a) (f4 b) (oc a) (oc b) (n11 M 10 (by decide)) (n11 K 10 (by decide)) h
  obtain ⟨e6, _⟩ := sec_peel inv_da (f6 a) (f6 b) (fun x hx => ⟨a.w6 x hx, by have := a.few x hx; omega⟩) (fun x hx => ⟨b.w6 x hx, by have := b.few x hx; omega⟩) (not1_nil 11) (not1_nil 11) h
  have e7 := fns_eq e2 e4
  have e8 := memL_eq e3
  cases M; cases K
  simp_all
end Go.Proofs.YtcbfpikggphokaaGreatDoor

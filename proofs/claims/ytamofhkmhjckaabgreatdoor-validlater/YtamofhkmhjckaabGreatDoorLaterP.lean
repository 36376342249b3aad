/-
  Plain: a module with one signature and one function more, behind all others. No walk.
-/
import Derived.Test.YtamofhkmhjckaabGreatDoorNopP
namespace Go.Proofs.YtamofhkmhjckaabGreatDoor
open Go.RowKit

def latF (M : Mo) (b : List In) : Fn := ⟨M.sigs.length, false, [], b⟩
def latM (M : Mo) (b : List In) : Mo := { M with sigs := M.sigs ++ [sg0], funcs := M.funcs ++ [latF M b] }
theorem lat_callee_eq (M : Mo) (b : List In) (n : Int) : callee (latM M b) n = if n < 0 ∨ (M.imports.length + (M.funcs ++ [latF M b] : List Fn).length : Int) ≤ n then none
    else if n < M.imports.length then ((M.sigs ++ [sg0] : List Sg)[(M.imports.getD n.toNat 0).toNat]?).bind fun s => if 0 ≤ M.imports.getD n.toNat 0 then some (s, true, false) else none
    else ((M.funcs ++ [latF M b] : List Fn)[n.toNat - M.imports.length]?).bind fun f => ((M.sigs ++ [sg0] : List Sg)[f.sig.toNat]?).bind fun s => if 0 ≤ f.sig then some (s, false, f.tr) else none := rfl
theorem app_some {α : Type} {l m : List α} {k : Nat} {x : α} (h : l[k]? = some x) : (l ++ m)[k]? = some x := by
  rw [List.getElem?_append_left (List.getElem?_eq_some_iff.1 h).1]; exact h
theorem lat_callee {M : Mo} {b : List In} {n : Int} {r : Sg × Bool × Bool} (e : callee M n = some r) : callee (latM M b) n = some r := by
  rw [lat_callee_eq]
  unfold callee at e
  split at e
  · cases e
  · rename_i h1
    rw [if_neg (by simp; omega)]
    split at e
    · rename_i h2
      rw [if_pos h2]
      obtain ⟨s, hs, e⟩ := Option.bind_eq_some_iff.1 e
      rw [app_some hs]; exact e
    · rename_i h2
      rw [if_neg h2]
      obtain ⟨f, hf, e⟩ := Option.bind_eq_some_iff.1 e
      obtain ⟨s, hs, e⟩ := Option.bind_eq_some_iff.1 e
      rw [app_some hf]
      simp only [Option.bind_some]
      rw [app_some hs]; exact e
def latC (C : Cx) (b : List In) : Cx := ⟨latM C.M b, C.tr, C.L⟩
theorem insW_lat {C : Cx} {b : List In} {x : In} {s s' : Wk} (h : insW C x s = .ok s') : insW (latC C b) x s = .ok s' := by
  by_cases h16 : x.op = 16
  · have e : ∀ D, insW D x s = callW D x.n s := fun D => by simp [insW, h16]
    rw [e] at h ⊢
    unfold callW at h ⊢
    cases hc : callee C.M x.n with
    | none => rw [hc] at h; cases h
    | some p =>
      rw [hc] at h
      show (match callee (latM C.M b) x.n with | none => _ | some (g, _, t) => _) = _
      rw [lat_callee hc]
      exact h
  · rw [← h]
    unfold insW
    simp only [h16, if_false]
    rfl
theorem bodyW_lat {C : Cx} {b : List In} : ∀ {l : List In} {i : Int} {s : Wk} {h : List Int}, bodyW C l i s = .ok h → bodyW (latC C b) l i s = .ok h
  | [], _, _, _, h => h
  | x :: r, i, s, hh, h => by
    cases hi : insW C x s with
    | error c => rw [bodyW_err hi] at h; cases h
    | ok s' =>
      rw [bodyW_ok hi] at h
      rw [bodyW_ok (insW_lat hi)]
      cases hr : bodyW C r (i + 1) s' with
      | error c => rw [hr] at h; cases h
      | ok l => rw [hr] at h; rw [bodyW_lat hr]; exact h
theorem lat_sig {M : Mo} {b : List In} {f : Fn} (h : f.sig.toNat < M.sigs.length) : (latM M b).sigs.getD f.sig.toNat sg0 = M.sigs.getD f.sig.toNat sg0 := by
  show (M.sigs ++ [sg0]).getD _ _ = _
  rw [List.getD_eq_getElem?_getD, List.getD_eq_getElem?_getD, List.getElem?_append_left h]
theorem funW_lat {M : Mo} {b : List In} {k : Nat} {f : Fn} {h : List Int} (hs : f.sig.toNat < M.sigs.length) (e : funW M k f = .ok h) : funW (latM M b) k f = .ok h := by
  have hc : cxOf (latM M b) f = latC (cxOf M f) b := by unfold cxOf latC; rw [lat_sig hs]
  unfold funW at e ⊢
  rw [lat_sig hs, hc]
  split at e
  · cases e
  · rename_i h1
    rw [if_neg h1]
    exact bodyW_lat e
theorem funsW_lat {M : Mo} {b : List In} : ∀ {l : List Fn} {k : Nat} {h : List (List Int)}, (∀ f ∈ l, f.sig.toNat < M.sigs.length) → funsW M k l = .ok h → funsW (latM M b) k l = .ok h
  | [], _, _, _, h => h
  | f :: r, k, hh, hs, h => by
    cases hi : funW M k f with
    | error c => rw [funsW_err hi] at h; cases h
    | ok s' =>
      rw [funsW_ok hi] at h
      rw [funsW_ok (funW_lat (hs f (by simp)) hi)]
      cases hr : funsW M (k + 1) r with
      | error c => rw [hr] at h; cases h
      | ok l => rw [hr] at h; rw [funsW_lat (fun g hg => hs g (List.mem_cons_of_mem _ hg)) hr]; exact h
/-- one more behind -/
theorem funsW_snoc {M : Mo} : ∀ {l : List Fn} {k : Nat} {h : List (List Int)} (f : Fn), funsW M k l = .ok h → funsW M k (l ++ [f]) = combF h (match funW M (k + l.length) f with | .ok g => .ok [g] | .error e => .error e)
  | [], k, h, f, e => by
    cases e
    show funsW M k [f] = _
    cases hg : funW M k f with
    | error c => rw [funsW_err hg]; rfl
    | ok g => rw [funsW_ok hg]; rfl
  | g :: r, k, hh, f, h => by
    cases hi : funW M k g with
    | error c => rw [funsW_err hi] at h; cases h
    | ok s' =>
      rw [funsW_ok hi] at h
      rw [List.cons_append, funsW_ok hi]
      cases hr : funsW M (k + 1) r with
      | error c => rw [hr] at h; cases h
      | ok l =>
        rw [hr] at h
        cases h
        rw [funsW_snoc f hr, combF_comb]
        congr 2
        rw [show k + 1 + r.length = k + (g :: r).length by simp; omega]
theorem lat_fit {M : Mo} {b : List In} (hf : fitE M = 0) (h1 : M.sigs.length < 16) (h2 : M.funcs.length < 8) (hb : b.length ≤ 200) (hr : b.all rtI = true) (hc : cl 1 b = true) : fitE (latM M b) = 0 := by
  obtain ⟨s, w⟩ := fit_both hf
  have e1 : small (latM M b) = true := by
    simp only [small, Bool.and_eq_true, decide_eq_true_eq] at s
    show (decide ((M.sigs ++ [sg0]).length ≤ 16) && (decide (M.imports.length ≤ 8) && (decide ((M.funcs ++ [latF M b]).length ≤ 8) && (decide (M.globals.length ≤ 8) && (decide (M.data.length ≤ 8) && ((M.sigs ++ [sg0]).all smSg && ((M.funcs ++ [latF M b]).all smFn && [M.m0, M.m1].all smMem))))))) = true
    obtain ⟨_, s2, _, s4, s5, s6, s7, s8⟩ := s
    simp only [List.length_append, List.length_cons, List.length_nil, List.all_append, s6, s7, s8, List.all_cons, List.all_nil, smSg, smFn, latF, sg0, Bool.and_true, Bool.true_and, Bool.and_eq_true, decide_eq_true_eq]
    exact ⟨by omega, s2, by omega, s4, s5, by omega, by omega, hb⟩
  have e2 : whole (latM M b) = true := by
    simp only [whole, Bool.and_eq_true] at w
    show ((M.sigs ++ [sg0]).all whSg && (M.imports.all idx && ((M.funcs ++ [latF M b]).all whFn && (M.globals.all whGl && M.data.all whDa)))) = true
    obtain ⟨w1, w2, w3, w4, w5⟩ := w
    simp only [List.all_append, w1, w2, w3, w4, w5, List.all_cons, List.all_nil, whSg, whFn, latF, sg0, hr, hc, Bool.and_true, Bool.true_and, idx, Bool.and_eq_true, decide_eq_true_eq, List.length_nil]
    exact ⟨by omega, by omega, by omega⟩
  unfold fitE
  rw [e1, e2]; rfl
theorem lat_sigs {M : Mo} {b : List In} (h : sigsOk M = true) : sigsOk (latM M b) = true := by
  simp only [sigsOk, Bool.and_eq_true, List.all_eq_true, decide_eq_true_eq] at h
  show ((M.imports.all fun k => decide (k < (M.sigs ++ [sg0]).length)) && ((M.funcs ++ [latF M b]).all fun f => decide (f.sig < (M.sigs ++ [sg0]).length))) = true
  simp only [Bool.and_eq_true, List.all_eq_true, decide_eq_true_eq, List.length_append, List.length_cons, List.length_nil]
  refine ⟨fun k hk => by have := h.1 k hk; omega, fun f hf => ?_⟩
  rcases List.mem_append.1 hf with hf | hf
  · have := h.2 f hf; omega
  · rw [List.mem_singleton.1 hf]; show (M.sigs.length : Int) < _; omega
def enI : List In := [⟨11, 0, 0⟩]
def coI : List In := [⟨66, 0, 0⟩, ⟨11, 0, 0⟩]
theorem lat_new (M : Mo) (b : List In) : (latM M b).sigs.getD ((M.sigs.length : Int)).toNat sg0 = sg0 := by
  show (M.sigs ++ [sg0]).getD _ _ = _
  simp
theorem lat_chk {M : Mo} {h : List (List Int)} (e : chkM M = .ok h) (h1 : M.sigs.length < 16) (h2 : M.funcs.length < 8) :
    chkM (latM M enI) = .ok (h ++ [[0]]) ∧ chkM (latM M coI) = .error (3, 1000 * (M.funcs.length : Int) + 1) := by
  obtain ⟨a, s, d, f⟩ := chk_ok e
  have F := fit_facts a
  have hs : ∀ g ∈ M.funcs, g.sig.toNat < M.sigs.length := fun g hg => by
    obtain ⟨z, hz, e⟩ := sig_of s F hg
    rw [e]; simpa using hz
  constructor
  · rw [chk_funs (lat_fit a h1 h2 (by decide) (by decide) (by decide)) (lat_sigs s) d]
    show funsW (latM M enI) 0 (M.funcs ++ [latF M enI]) = _
    rw [funsW_snoc _ (funsW_lat hs f)]
    have : funW (latM M enI) (0 + M.funcs.length) (latF M enI) = .ok [0] := by
      unfold funW
      rw [if_neg (by show ¬ Nest.er (opsF enI) enI.length ≠ 0; decide)]
      unfold cxOf
      rw [show (latM M enI).sigs.getD (latF M enI).sig.toNat sg0 = sg0 from lat_new M enI]; rfl
    rw [this]; rfl
  · rw [chk_funs (lat_fit a h1 h2 (by decide) (by decide) (by decide)) (lat_sigs s) d]
    show funsW (latM M coI) 0 (M.funcs ++ [latF M coI]) = _
    rw [funsW_snoc _ (funsW_lat hs f)]
    have : funW (latM M coI) (0 + M.funcs.length) (latF M coI) = .error (3, 1000 * (M.funcs.length : Int) + 1) := by
      unfold funW
      rw [if_neg (by show ¬ Nest.er (opsF coI) coI.length ≠ 0; decide)]
      unfold cxOf
      rw [show (latM M coI).sigs.getD (latF M coI).sig.toNat sg0 = sg0 from lat_new M coI, Nat.zero_add]; rfl
    rw [this]; rfl
end Go.Proofs.YtamofhkmhjckaabGreatDoor

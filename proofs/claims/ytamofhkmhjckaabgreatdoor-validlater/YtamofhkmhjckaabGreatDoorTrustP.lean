/-
  The row of the heights while the program goes through a body; a body in rounds, plainly.
  The statements' function numbers: whether two lists are the same; memory that was there stays as it was.
  The statements' function one: a module of one function that takes and brings nothing.
  The tests of check, plainly: signatures and data. No walk.
  What Fits tells, plainly; the functions of a module in turn. No walk.
  Plain: a module whose functions are all trusted; what a body that may be does not hold. No walk.
-/
import Derived.Test.YtamofhkmhjckaabGreatDoorBegin
import Derived.Test.YtamofhkmhjckaabGreatDoorNAround
import Derived.Test.YtamofhkmhjckaabGreatDoorFitsB
import Derived.Laws.OwnMore
import Derived.Test.YtamofhkmhjckaabGreatDoorChkS
import Derived.Test.YtamofhkmhjckaabGreatDoorChkD
namespace Go.Proofs.YtamofhkmhjckaabGreatDoor
open Go.RowKit
section
variable {K : Kx} {at_ : Int} {s : Wk} {vs vf vs' vf' : Value} {fv : List (Fm × Value)} {w w' : World}
/-- a new block is the heights' -/
theorem WJ.rehb (h : WJ K at_ s vs vf fv w) (hK : KOk K) (o : Obj) : WJ ⟨K.base, K.B, K.w0, K.V, K.C, K.vl, w.heap.size⟩ at_ s vs vf fv (w.alloc o) := by
  have J := h.alloc hK o
  have mv : ∀ {v : Value} {l : List Int}, Bri K vs vf w v l → Bri ⟨K.base, K.B, K.w0, K.V, K.C, K.vl, w.heap.size⟩ vs vf (w.alloc o) v l := fun hb =>
    hb.to keeps_int (fun i hi => Below.heap_alloc w o i hi.2.2.2) (fun i hi => ⟨⟨hi.1.1, by have := hi.2.2.2; show i ≠ w.heap.size; omega⟩, hi.2.1, hi.2.2.1, by have := hi.2.2.2; simp; omega⟩)
  exact ⟨J.bel, J.row, J.st, J.fr, J.fs, ⟨by show w.heap.size < _; simp, mv h.lo.2⟩, fun x hx => mv (h.br x hx)⟩
structure HR (K : Kx) (n : Nat) (hs : List Int) (vs vf : Value) (w : World) : Prop where
  nb : K.hb ≠ K.B
  ns : vs.ownBlock ≠ some K.hb
  nf : vf.ownBlock ≠ some K.hb
  len : hs.length ≤ n
  i64 : ∀ x ∈ hs, I64 x
  row : Row w K.hb (hs.map (Value.int .i64) ++ List.replicate (n - hs.length) (Value.int .i64 0)).toArray 3
theorem HR.move {n : Nat} {hs : List Int} (h : HR K n hs vs vf w) (hf : Fr K vs vf vs' vf' w w') : HR K n hs vs' vf' w' := by
  have hl := h.row.lt
  refine ⟨h.nb, fun e => ?_, fun e => ?_, h.len, h.i64, ?_⟩
  · rcases hf.ns _ e with e | e
    · exact h.ns e
    · omega
  · rcases hf.nf _ e with e | e
    · exact h.nf e
    · omega
  · have := h.row
    unfold Row at *
    rw [hf.kp K.hb hl h.nb h.ns h.nf]; exact this
theorem HR.below {n : Nat} {hs : List Int} (h : HR K n hs vs vf w) (hb : Below w.heap.size w w') : HR K n hs vs vf w' := ⟨h.nb, h.ns, h.nf, h.len, h.i64, h.row.kept hb⟩
theorem HR.box {n : Nat} {hs : List Int} (h : HR K n hs vs vf w) (j : Nat) (u : Value) : HR K n hs vs vf (w.setCell ⟨K.B, j, none⟩ u) := ⟨h.nb, h.ns, h.nf, h.len, h.i64, h.row.other j u h.nb⟩
theorem HR.set {n : Nat} {hs : List Int} (h : HR K n hs vs vf w) (x : Int) (hx : I64 x) (hn : hs.length < n) : HR K n (hs ++ [x]) vs vf (w.setCell ⟨K.hb, hs.length, none⟩ (.int .i64 x)) := by
  refine ⟨h.nb, h.ns, h.nf, by simp; omega, fun y hy => ?_, ?_⟩
  · rcases List.mem_append.1 hy with hy | hy
    · exact h.i64 y hy
    · rw [List.mem_singleton.1 hy]; exact hx
  · have := h.row.set hs.length (.int .i64 x)
    have e : (hs.map (Value.int .i64) ++ List.replicate (n - hs.length) (Value.int .i64 0)).toArray.setIfInBounds hs.length (.int .i64 x) = ((hs ++ [x]).map (Value.int .i64) ++ List.replicate (n - (hs ++ [x]).length) (Value.int .i64 0)).toArray := by
      rw [List.setIfInBounds_toArray, List.set_append_right _ _ (by simp)]
      obtain ⟨m, hm⟩ : ∃ m, n - hs.length = m + 1 := ⟨n - hs.length - 1, by omega⟩
      have hm' : n - (hs ++ [x]).length = m := by simp; omega
      rw [hm, hm']
      simp [List.replicate_succ]
    rw [e] at this; exact this
theorem HR.cell {n : Nat} {hs : List Int} (h : HR K n hs vs vf w) {k : Nat} (hk : k < n) : ∃ u, w.cell? ⟨K.hb, k, none⟩ = some (.int .i64 u) := by
  by_cases hl : k < hs.length
  · exact ⟨hs[k], h.row.c k _ (by simp [List.getElem?_append, hl])⟩
  · exact ⟨0, h.row.c k _ (by simp [List.getElem?_append, hl, List.getElem?_replicate]; omega)⟩
/-- writing into the heights lets the walk's memory stand -/
theorem WJ.setH (h : WJ K at_ s vs vf fv w) (hK : KOk K) (h1 : K.hb ≠ K.B) (h2 : vs.ownBlock ≠ some K.hb) (h3 : vf.ownBlock ≠ some K.hb) (j : Nat) (u : Value) : WJ K at_ s vs vf fv (w.setCell ⟨K.hb, j, none⟩ u) := by
  have mv : ∀ {v : Value} {l : List Int}, Bri K vs vf w v l → Bri K vs vf (w.setCell ⟨K.hb, j, none⟩ u) v l := fun hb =>
    hb.to keeps_int (fun i hi => Below.heap_setCell _ _ _ _ hi.1.2) (fun i hi => ⟨hi.1, hi.2.1, hi.2.2.1, by have := hi.2.2.2; simp; omega⟩)
  exact ⟨h.bel.setCell hK.hh _, h.row.other j u (Ne.symm h1), ownsRow_setCell_other h.st h2 _, ownsRow_setCell_other h.fr h3 _, h.fs, ⟨by have := h.lo.1; simp; exact this, mv h.lo.2⟩, fun x hx => mv (h.br x hx)⟩
theorem HR.all {n : Nat} {hs : List Int} (h : HR K n hs vs vf w) (hn : hs.length = n) {B : Nat} (hB : B ≤ K.hb) : Sl 1 EInt (NewB B w) w (.slice (some ⟨K.hb, 0, none⟩) n n) hs := by
  subst hn
  refine ⟨_, _, rfl, fun j hj => ⟨K.hb, 0, rfl, ⟨hB, h.row.lt⟩, h.i64 _ (List.getElem_mem hj), ?_⟩⟩
  rw [Nat.zero_add, Nat.mul_one]
  exact h.row.c j _ (by simp [hj])
theorem HR.made (hB : K.B < w.heap.size) (hs : vs.ownBlock ≠ some w.heap.size) (hf : vf.ownBlock ≠ some w.heap.size) (n : Nat) : HR ⟨K.base, K.B, K.w0, K.V, K.C, K.vl, w.heap.size⟩ n [] vs vf (w.alloc (.cells (madeCells #[.int .i64 0] n) 3)) := by
  refine ⟨by show w.heap.size ≠ K.B; omega, hs, hf, Nat.zero_le _, by simp, ?_⟩
  have e : (([] : List Int).map (Value.int .i64) ++ List.replicate (n - ([] : List Int).length) (Value.int .i64 0)).toArray = madeCells #[.int .i64 0] n := by
    simp [← toList_madeCells_one]
  rw [e]
  exact Row.made w _ 3
end
/-- heights ahead of others -/
def comb (d : List Int) (r : Except (Int × Int) (List Int)) : Except (Int × Int) (List Int) := match r with
  | .error e => .error e
  | .ok l => .ok (d ++ l)
theorem comb_nil (r : Except (Int × Int) (List Int)) : comb [] r = r := by cases r <;> rfl
theorem comb_comb (d e : List Int) (r : Except (Int × Int) (List Int)) : comb d (comb e r) = comb (d ++ e) r := by cases r <;> simp [comb]
theorem bodyW_ok {C : Cx} {x : In} {r : List In} {i : Int} {s s' : Wk} (h : insW C x s = .ok s') : bodyW C (x :: r) i s = comb [hgt s] (bodyW C r (i + 1) s') := by
  rw [bodyW, h]
  show (match bodyW C r (i + 1) s' with | Except.error e => (Except.error e : Except (Int × Int) (List Int)) | Except.ok l => Except.ok (hgt s :: l)) = _
  cases bodyW C r (i + 1) s' <;> rfl
theorem bodyW_err {C : Cx} {x : In} {r : List In} {i : Int} {s : Wk} {c : Int} (h : insW C x s = .error c) : bodyW C (x :: r) i s = .error (c, i) := by rw [bodyW, h]
theorem hgt_i64 {s : Wk} (h : WF s) : I64 (hgt s) := by
  have := h.small
  unfold hgt; split
  · exact ⟨by decide, by decide⟩
  · exact ⟨by omega, by omega⟩
/-- where a body stands ahead of its k-th instruction -/
structure At (C : Cx) (body : List In) (i0 : Int) (s0 : Wk) (k : Nat) (d : List Int) (s : Wk) : Prop where
  len : d.length = k
  wf : WF s
  fr : s.fr.length ≤ 1 + k
  cl : k < body.length → cl s.fr.length (body.drop k) = true ∧ s.fr ≠ []
  eq : bodyW C body i0 s0 = comb d (bodyW C (body.drop k) (i0 + k) s)
theorem At.next {C : Cx} (hC : CxOk C) {body : List In} {i0 : Int} {s0 s s' : Wk} {k : Nat} {d : List Int} (h : At C body i0 s0 k d s) (hk : k < body.length) (hx : rtI body[k] = true) (hs : insW C body[k] s = .ok s') : At C body i0 s0 (k + 1) (d ++ [hgt s]) s' := by
  obtain ⟨w1, l1⟩ := ins_ok hC hx h.wf hs
  obtain ⟨c1, n1⟩ := h.cl hk
  have hl : 1 ≤ s.fr.length := by
    rcases Nat.eq_zero_or_pos s.fr.length with e | e
    · exact absurd (List.length_eq_zero_iff.1 e) n1
    · exact e
  rw [cl_step hk, ← l1] at c1
  refine ⟨by simp [h.len], w1, ?_, fun hk' => ?_, ?_⟩
  · have := h.fr
    have : (s'.fr.length : Int) ≤ s.fr.length + 1 := by
      rw [l1]; unfold nxt; split
      · omega
      · split <;> omega
    omega
  · split at c1
    · simp at c1; omega
    · rename_i h0
      exact ⟨c1, fun e => h0 (by rw [e]; rfl)⟩
  · rw [h.eq, drop_cons hk, bodyW_ok hs, comb_comb]
    congr 2
    push_cast; omega
end Go.Proofs.YtamofhkmhjckaabGreatDoor
namespace Go.Proofs.YtamofhkmhjckaabGreatDoor
open Go.RowKit

/-- Two lists are the same so far. -/
theorem take_eq_next {α : Type} {l r : List α} {k : Nat} (h : l.take k = r.take k) (hl : k < l.length) (hr : k < r.length) (e : l[k] = r[k]) : l.take (k + 1) = r.take (k + 1) := by
  rw [List.take_succ_eq_append_getElem hl, List.take_succ_eq_append_getElem hr, h, e]
theorem take_eq_all {α : Type} {l r : List α} (h : l.take l.length = r.take l.length) (hn : l.length = r.length) : l = r := by
  rw [List.take_length, hn, List.take_length] at h; exact h
theorem get_ne {α : Type} {l r : List α} {k : Nat} (hl : k < l.length) (hr : k < r.length) (e : l[k] ≠ r[k]) : l ≠ r := by
  intro h; subst h; exact e rfl
theorem len_ne {α : Type} {l r : List α} (h : l.length ≠ r.length) : l ≠ r := by intro e; rw [e] at h; exact h rfl
set_option maxRecDepth 100000 in
set_option maxHeartbeats 1600000 in
theorem numbers_any (v u : Value) (l r : List Int) (w : World) (hl : l.length ≤ 1000000000000000) (hL : SInts w.heap.size w v l) (hR : SInts w.heap.size w u r) :
    Calls Tryz.prog 14 #[v, u] w fun e w' => e = .returned (.bool (decide (l = r))) ∧ Below w.heap.size w w' := by
  obtain ⟨a, c, rfl, he⟩ := hL
  obtain ⟨a', c', rfl, he'⟩ := hR
  have HE := hide he
  have HE' := hide he'
  clear he he'
  by_cases hn : l.length = r.length
  · have g : ((l.length : Int) != (r.length : Int)) = false := by simp; omega
    go_enter Tryz.func14, Tryz.ntmps14
    go_wp2_with fail
    go_loopw [5] (fun iv wr => ∃ k : Nat, k ≤ l.length ∧ iv = .int .i64 k ∧ Below w.heap.size w wr ∧ Hid (l.take k = r.take k)) (fun iv _ => l.length - (intOf iv).toNat)
    case atStart => exact ⟨0, by omega, rfl, Below.refl _ _, hide (by simp)⟩
    case round =>
      obtain ⟨k, hk, rfl, hb, hA⟩ := hrel
      by_cases hlt : k < l.length
      · have hlr : k < r.length := by omega
        obtain ⟨b, off, rfl, hbb, hi, c0⟩ := HE.out k hlt
        obtain ⟨b', off', rfl, hbb', hi', c0'⟩ := HE'.out k hlr
        have d0 := (hb.cell (p := ⟨b, off + k * 1, none⟩) hbb).trans c0
        have d1 := (hb.cell (p := ⟨b', off' + k * 1, none⟩) hbb').trans c0'
        rw [Nat.mul_one] at d0 d1
        have gi : 0 ≤ (k : Int) ∧ (k : Int) < (l.length : Int) := by omega
        have gj : 0 ≤ (k : Int) ∧ (k : Int) < (r.length : Int) := by omega
        clear c0 c0' hi hi'
        by_cases hx : l[k] = r[k]
        · have y : (l[k] != r[k]) = false := by simp [hx]
          have hA2 := hide (take_eq_next hA.out hlt hlr hx)
          clear hA hx
          go_wp2_with fail
          go_region
          go_wp2_with fail
          go_roundw
          case rel => exact ⟨k + 1, by omega, by go_num, hb.drew, hA2⟩
          case measure => simp [intOf]; omega
        · have y : (l[k] != r[k]) = true := by simpa using hx
          have hN : Hid (decide (l = r) = false) := hide (by simpa using get_ne hlt hlr hx)
          clear hA hx
          go_wp2_with fail
          go_region
          go_wp2_with fail
          go_ret
          exact ⟨ret_bool hN.out.symm, hb.drew⟩
      · have e0 : k = l.length := by omega
        subst e0
        have hY : Hid (decide (l = r) = true) := hide (by simpa using take_eq_all hA.out hn)
        clear hA
        go_wp2_with fail
        go_ret
        exact ⟨ret_bool hY.out.symm, hb⟩
  · have g : ((l.length : Int) != (r.length : Int)) = true := by simp; omega
    have hN : Hid (decide (l = r) = false) := hide (by simpa using len_ne hn)
    clear hn
    go_enter Tryz.func14, Tryz.ntmps14
    go_wp2_with fail
    go_ret
    exact ⟨ret_bool hN.out.symm, Below.refl _ _⟩
theorem numbers_is (v u : Value) (l r : List Int) (x : Bool) (w : World) (hl : l.length ≤ 1000000000000000) (hL : SInts w.heap.size w v l) (hR : SInts w.heap.size w u r) (hx : decide (l = r) = x) :
    Calls Tryz.prog 14 #[v, u] w fun e w' => e = .returned (.bool x) ∧ Below w.heap.size w w' := by rw [← hx]; exact numbers_any v u l r w hl hL hR
end Go.Proofs.YtamofhkmhjckaabGreatDoor
namespace Go.Proofs.YtamofhkmhjckaabGreatDoor
open Go.RowKit

/-- A module of one function of this body. -/
def oneM (l : List In) : Mo := ⟨[⟨[], []⟩], [], [⟨0, false, [], l⟩], 0, 0, [], []⟩
set_option maxRecDepth 100000 in
set_option maxHeartbeats 1600000 in
theorem one_any (a : Option Addr) (c : Nat) (l : List In) (w : World) (h : Sl 3 EIn (Lt w.heap.size) w (.slice a l.length c) l) :
    Calls Tryz.prog 15 #[.slice a l.length c] w fun e w' => ∃ V, e = .returned (moV V (oneM l)) ∧ IsMo w'.heap.size w' V (oneM l) ∧ Below w.heap.size w w' := by
  have H := hide h
  clear h
  go_enter Tryz.func15, Tryz.ntmps15
  go_wp2_with fail
  have z1 : (w.alloc (.cells #[.slice (some ⟨w.heap.size + 1, 0, none⟩) 1 1, .slice none 0 0, .slice (some ⟨w.heap.size + 1 + 1, 0, none⟩) 1 1, .int .i64 0, .int .i64 0, .slice none 0 0, .slice none 0 0] 29)).heap.size = w.heap.size + 1 := by simp
  have z2 : ((w.alloc (.cells #[.slice (some ⟨w.heap.size + 1, 0, none⟩) 1 1, .slice none 0 0, .slice (some ⟨w.heap.size + 1 + 1, 0, none⟩) 1 1, .int .i64 0, .int .i64 0, .slice none 0 0, .slice none 0 0] 29)).alloc (.cells #[.slice none 0 0, .slice none 0 0] 42)).heap.size = w.heap.size + 1 + 1 := by simp
  have z3 : (((w.alloc (.cells #[.slice (some ⟨w.heap.size + 1, 0, none⟩) 1 1, .slice none 0 0, .slice (some ⟨w.heap.size + 1 + 1, 0, none⟩) 1 1, .int .i64 0, .int .i64 0, .slice none 0 0, .slice none 0 0] 29)).alloc (.cells #[.slice none 0 0, .slice none 0 0] 42)).alloc (.cells #[.int .i64 0, .bool false, .slice none 0 0, .slice a l.length c] 38)).heap.size = w.heap.size + 1 + 1 + 1 := by simp
  have R0 := ((Row.made w #[.slice (some ⟨w.heap.size + 1, 0, none⟩) 1 1, .slice none 0 0, .slice (some ⟨w.heap.size + 1 + 1, 0, none⟩) 1 1, .int .i64 0, .int .i64 0, .slice none 0 0, .slice none 0 0] 29).kept (bel_one _ (.cells #[.slice none 0 0, .slice none 0 0] 42))).kept (bel_one _ (.cells #[.int .i64 0, .bool false, .slice none 0 0, .slice a l.length c] 38))
  have R1 := (Row.made (w.alloc (.cells #[.slice (some ⟨w.heap.size + 1, 0, none⟩) 1 1, .slice none 0 0, .slice (some ⟨w.heap.size + 1 + 1, 0, none⟩) 1 1, .int .i64 0, .int .i64 0, .slice none 0 0, .slice none 0 0] 29)) #[.slice none 0 0, .slice none 0 0] 42).kept (bel_one _ (.cells #[.int .i64 0, .bool false, .slice none 0 0, .slice a l.length c] 38))
  have R2 := Row.made ((w.alloc (.cells #[.slice (some ⟨w.heap.size + 1, 0, none⟩) 1 1, .slice none 0 0, .slice (some ⟨w.heap.size + 1 + 1, 0, none⟩) 1 1, .int .i64 0, .int .i64 0, .slice none 0 0, .slice none 0 0] 29)).alloc (.cells #[.slice none 0 0, .slice none 0 0] 42)) #[.int .i64 0, .bool false, .slice none 0 0, .slice a l.length c] 38
  have B : Below w.heap.size w (((w.alloc (.cells #[.slice (some ⟨w.heap.size + 1, 0, none⟩) 1 1, .slice none 0 0, .slice (some ⟨w.heap.size + 1 + 1, 0, none⟩) 1 1, .int .i64 0, .int .i64 0, .slice none 0 0, .slice none 0 0] 29)).alloc (.cells #[.slice none 0 0, .slice none 0 0] 42)).alloc (.cells #[.int .i64 0, .bool false, .slice none 0 0, .slice a l.length c] 38)) := ((bel_one w _).alloc (by simp) _).alloc (by simp; omega) _
  rw [z1] at R1
  rw [z2] at R2
  clear z1 z2
  generalize ((w.alloc _).alloc _).alloc _ = W at z3 R0 R1 R2 B ⊢
  have i0 : I64 0 := ⟨by decide, by decide⟩
  have hl := run_loadVar_row (P := Tryz.prog) W w.heap.size 29 29 _ _ _ R0 Tryz.underlying29 rfl (by kernel_rfl)
  refine ⟨rfl, .agg #[.slice (some ⟨w.heap.size + 1, 0, none⟩) 1 1, .slice none 0 0, .slice (some ⟨w.heap.size + 1 + 1, 0, none⟩) 1 1, .int .i64 0, .int .i64 0, .slice none 0 0, .slice none 0 0], by simp [results, Tryz.f15, asAddr, hl], ⟨.slice (some ⟨w.heap.size + 1, 0, none⟩) 1 1, .slice none 0 0, .slice (some ⟨w.heap.size + 1 + 1, 0, none⟩) 1 1, .slice none 0 0, .slice none 0 0⟩, rfl, ?_, B⟩
  refine ⟨⟨_, 1, rfl, fun j hj => ?_⟩, Sl.isNil _ _ _ _, ⟨_, 1, rfl, fun j hj => ?_⟩, ⟨i0, i0⟩, Sl.isNil _ _ _ _, Sl.isNil _ _ _ _⟩
  · match j, hj with
    | 0, _ => exact ⟨w.heap.size + 1, 0, rfl, by show _ < _; omega, _, _, R1.c 0 _ rfl, R1.c 1 _ rfl, Sl.isNil _ _ _ _, Sl.isNil _ _ _ _⟩
  · match j, hj with
    | 0, _ => exact ⟨w.heap.size + 1 + 1, 0, rfl, by show _ < _; omega, _, _, i0, R2.c 0 _ rfl, R2.c 1 _ rfl, R2.c 2 _ rfl, R2.c 3 _ rfl, Sl.isNil _ _ _ _, H.out.step keeps_in B (by omega)⟩
end Go.Proofs.YtamofhkmhjckaabGreatDoor
namespace Go.Proofs.YtamofhkmhjckaabGreatDoor
open Go.RowKit

theorem dataOk_iff (M : Mo) : dataOk M = true ↔ datAll M M.data.length := by
  unfold dataOk datAll datOk
  rw [List.all_eq_true]
  constructor
  · intro h j hj _
    have := h _ (List.getElem_mem hj)
    simpa using this
  · intro h d hd
    obtain ⟨j, hj, rfl⟩ := List.getElem_of_mem hd
    have := h j hj hj
    simpa using this
theorem sigsOk_iff (M : Mo) (hw : whole M = true) : sigsOk M = true ↔ calAll M (M.imports.length + M.funcs.length) := by
  simp only [whole, Bool.and_eq_true, List.all_eq_true] at hw
  obtain ⟨_, hi, hf, _⟩ := hw
  have i0 : ∀ k ∈ M.imports, 0 ≤ k := fun k hk => by have := hi k hk; simp only [idx, Bool.and_eq_true, decide_eq_true_eq] at this; exact this.1
  have f0 : ∀ f ∈ M.funcs, 0 ≤ f.sig := fun f hk => by have := hf f hk; simp only [whFn, idx, Bool.and_eq_true, decide_eq_true_eq] at this; exact this.1.1
  unfold sigsOk calAll
  simp only [Bool.and_eq_true, List.all_eq_true, decide_eq_true_eq]
  constructor
  · rintro ⟨h1, h2⟩ n hn
    unfold callee
    rw [if_neg (by omega)]
    by_cases hlt : n < M.imports.length
    · have hm := List.getElem_mem hlt
      have a := h1 _ hm
      have b := i0 _ hm
      rw [if_pos (by omega), Int.toNat_natCast]
      have e : M.imports.getD n 0 = M.imports[n] := by simp [hlt]
      rw [e, List.getElem?_eq_getElem (show (M.imports[n]).toNat < M.sigs.length by omega)]
      simp [b]
    · have hlt2 : n - M.imports.length < M.funcs.length := by omega
      have hm := List.getElem_mem hlt2
      have a := h2 _ hm
      have b := f0 _ hm
      rw [if_neg (by omega), Int.toNat_natCast, List.getElem?_eq_getElem hlt2]
      simp only [Option.bind_some]
      rw [List.getElem?_eq_getElem (show (M.funcs[n - M.imports.length].sig).toNat < M.sigs.length by omega)]
      simp [b]
  · intro h
    refine ⟨fun k hk => ?_, fun f hk => ?_⟩
    · obtain ⟨j, hj, rfl⟩ := List.getElem_of_mem hk
      have b := i0 _ hk
      have c := h j (by omega)
      unfold callee at c
      rw [if_neg (by omega), if_pos (by omega), Int.toNat_natCast] at c
      have e : M.imports.getD j 0 = M.imports[j] := by simp [hj]
      rw [e] at c
      rcases Int.lt_or_le (M.imports[j]) M.sigs.length with h' | h'
      · exact h'
      · rw [List.getElem?_eq_none (by omega)] at c; simp at c
    · obtain ⟨j, hj, rfl⟩ := List.getElem_of_mem hk
      have b := f0 _ hk
      have c := h (M.imports.length + j) (by omega)
      unfold callee at c
      rw [if_neg (by omega), if_neg (by omega), Int.toNat_natCast, show M.imports.length + j - M.imports.length = j by omega, List.getElem?_eq_getElem hj] at c
      simp only [Option.bind_some] at c
      rcases Int.lt_or_le (M.funcs[j].sig) M.sigs.length with h' | h'
      · exact h'
      · rw [List.getElem?_eq_none (by omega)] at c; simp at c
end Go.Proofs.YtamofhkmhjckaabGreatDoor
namespace Go.Proofs.YtamofhkmhjckaabGreatDoor
open Go.RowKit

theorem fit_both {M : Mo} (hf : fitE M = 0) : small M = true ∧ whole M = true := by
  unfold fitE at hf
  split at hf
  · rename_i h1
    split at hf
    · rename_i h2; exact ⟨h1, h2⟩
    · simp at hf
  · simp at hf
structure FitF (M : Mo) : Prop where
  sm : Small M
  n : M.imports.length + M.funcs.length ≤ 1000
  m0 : smMem M.m0 = true
  m1 : smMem M.m1 = true
  da : ∀ d ∈ M.data, whDa d = true
  nd : M.data.length ≤ 1000
  fns : M.funcs.length ≤ 8
  cx : ∀ f ∈ M.funcs, CxOk (cxOf M f)
  fn : ∀ f ∈ M.funcs, f.locals.length ≤ 100 ∧ f.body.length ≤ 200 ∧ (∀ x ∈ f.body, rtI x = true) ∧ cl 1 f.body = true ∧ 0 ≤ f.sig
  sg : ∀ g ∈ M.sigs, g.params.length ≤ 100
theorem fit_facts {M : Mo} (hf : fitE M = 0) : FitF M := by
  obtain ⟨h1, h2⟩ := fit_both hf
  simp only [small, Bool.and_eq_true, decide_eq_true_eq, List.all_eq_true] at h1
  simp only [whole, Bool.and_eq_true, List.all_eq_true] at h2
  obtain ⟨s1, s2, s3, s4, s5, s6, s7, s8⟩ := h1
  obtain ⟨w1, w2, w3, w4, w5⟩ := h2
  have sgl : ∀ g ∈ M.sigs, g.params.length ≤ 4 ∧ g.results.length ≤ 1 ∧ (∀ t ∈ g.params, ty0 t) ∧ ∀ t ∈ g.results, ty0 t := fun g hg => by
    have a := s6 g hg
    have b := w1 g hg
    simp only [smSg, decide_eq_true_eq] at a
    simp only [whSg, Bool.and_eq_true, decide_eq_true_eq, List.all_eq_true] at b
    exact ⟨a, b.1, fun t ht => ty_of_ri (b.2.1 t ht), fun t ht => ty_of_ri (b.2.2 t ht)⟩
  refine ⟨⟨fun g hg => ?_, by omega, by omega, by omega⟩, by omega, s8 _ (by simp), s8 _ (by simp), w5, by omega, s3, fun f hf => ⟨fun t ht => ?_, sgl, fun g hg => ?_⟩, fun f hf => ?_, fun g hg => ?_⟩
  · have := sgl g hg; omega
  · simp only [cxOf] at ht
    rcases List.mem_append.1 ht with h | h
    · rw [List.getD_eq_getElem?_getD] at h
      cases hz : M.sigs[f.sig.toNat]? with
      | none => rw [hz] at h; simp [sg0] at h
      | some g => rw [hz] at h; exact (sgl g (List.mem_of_getElem? hz)).2.2.1 t h
    · have b := w3 f hf
      simp only [whFn, Bool.and_eq_true, List.all_eq_true] at b
      exact ty_of_ri (b.2.1 t h)
  · have b := w4 g hg
    simp only [whGl, Bool.and_eq_true] at b
    exact ty_of_ri b.1
  · have a := s7 f hf
    have b := w3 f hf
    simp only [smFn, Bool.and_eq_true, decide_eq_true_eq] at a
    simp only [whFn, idx, Bool.and_eq_true, List.all_eq_true, decide_eq_true_eq] at b
    exact ⟨by omega, a.2, b.2.2.1, b.2.2.2, b.1.1⟩
  · have := sgl g hg; omega
def combF (d : List (List Int)) (r : Except (Int × Int) (List (List Int))) : Except (Int × Int) (List (List Int)) := match r with
  | .error e => .error e
  | .ok l => .ok (d ++ l)
theorem combF_nil (r : Except (Int × Int) (List (List Int))) : combF [] r = r := by cases r <;> rfl
theorem combF_comb (d e : List (List Int)) (r : Except (Int × Int) (List (List Int))) : combF d (combF e r) = combF (d ++ e) r := by cases r <;> simp [combF]
theorem funsW_ok {M : Mo} {k : Nat} {f : Fn} {r : List Fn} {h : List Int} (e : funW M k f = .ok h) : funsW M k (f :: r) = combF [h] (funsW M (k + 1) r) := by
  rw [funsW, e]
  show (match funsW M (k + 1) r with | Except.error e => (Except.error e : Except (Int × Int) (List (List Int))) | Except.ok l => Except.ok (h :: l)) = _
  cases funsW M (k + 1) r <;> rfl
theorem funsW_err {M : Mo} {k : Nat} {f : Fn} {r : List Fn} {c : Int × Int} (e : funW M k f = .error c) : funsW M k (f :: r) = .error c := by rw [funsW, e]
/-- the heights of the first functions, and the rest -/
structure FAt (M : Mo) (k : Nat) (d : List (List Int)) : Prop where
  len : d.length = k
  eq : funsW M 0 M.funcs = combF d (funsW M k (M.funcs.drop k))
theorem FAt.zero (M : Mo) : FAt M 0 [] := ⟨rfl, by simp [combF_nil]⟩
theorem FAt.next {M : Mo} {k : Nat} {d : List (List Int)} (h : FAt M k d) (hk : k < M.funcs.length) {l : List Int} (e : funW M k M.funcs[k] = .ok l) : FAt M (k + 1) (d ++ [l]) := by
  refine ⟨by simp [h.len], ?_⟩
  rw [h.eq, drop_cons hk, funsW_ok e, combF_comb]
theorem FAt.stop {M : Mo} {k : Nat} {d : List (List Int)} (h : FAt M k d) (hk : k < M.funcs.length) {c : Int × Int} (e : funW M k M.funcs[k] = .error c) : funsW M 0 M.funcs = .error c := by
  rw [h.eq, drop_cons hk, funsW_err e]; rfl
theorem FAt.done {M : Mo} {d : List (List Int)} (h : FAt M M.funcs.length d) : funsW M 0 M.funcs = .ok d := by
  rw [h.eq, List.drop_length]; simp [funsW, combF]
theorem fitM_fitE (M : Mo) : fitM M = fitE M := rfl
/-- the whole check, from its parts -/
theorem chk_misfit {M : Mo} (h : fitE M ≠ 0) : chkM M = .error (held (fitE M), 0) := by
  unfold chkM held
  rw [fitM_fitE]
  by_cases h1 : fitE M = 1
  · simp [h1]
  · simp [h1, h]
theorem chk_nosig {M : Mo} (h : fitE M = 0) (hs : sigsOk M = false) : chkM M = .error (3, 0) := by
  unfold chkM; rw [fitM_fitE, h]; simp [hs]
theorem chk_nodata {M : Mo} (h : fitE M = 0) (hs : sigsOk M = true) (hd : dataOk M = false) : chkM M = .error (3, 0) := by
  unfold chkM; rw [fitM_fitE, h]; simp [hs, hd]
theorem chk_funs {M : Mo} (h : fitE M = 0) (hs : sigsOk M = true) (hd : dataOk M = true) : chkM M = funsW M 0 M.funcs := by
  unfold chkM; rw [fitM_fitE, h]; simp [hs, hd]
/-- what a module that may be has been through -/
theorem chk_ok {M : Mo} {l : List (List Int)} (h : chkM M = .ok l) : fitE M = 0 ∧ sigsOk M = true ∧ dataOk M = true ∧ funsW M 0 M.funcs = .ok l := by
  by_cases hf : fitE M = 0
  · cases hs : sigsOk M
    · rw [chk_nosig hf hs] at h; cases h
    · cases hd : dataOk M
      · rw [chk_nodata hf hs hd] at h; cases h
      · rw [chk_funs hf hs hd] at h; exact ⟨hf, rfl, rfl, h⟩
  · rw [chk_misfit hf] at h; cases h
theorem sig_of {M : Mo} (hs : sigsOk M = true) (hF : FitF M) {f : Fn} (hf : f ∈ M.funcs) : ∃ z : Nat, z < M.sigs.length ∧ f.sig = z := by
  simp only [sigsOk, Bool.and_eq_true, List.all_eq_true, decide_eq_true_eq] at hs
  have a := hs.2 f hf
  have b := (hF.fn f hf).2.2.2.2
  exact ⟨f.sig.toNat, by omega, by omega⟩
end Go.Proofs.YtamofhkmhjckaabGreatDoor
namespace Go.Proofs.YtamofhkmhjckaabGreatDoor
open Go.RowKit

def trF (f : Fn) : Fn := { f with tr := true }
def trM (M : Mo) : Mo := { M with funcs := M.funcs.map trF }
theorem trM_small (M : Mo) : small (trM M) = small M := by
  unfold small trM; simp only [List.length_map, List.all_map]; rfl
theorem trM_whole (M : Mo) : whole (trM M) = whole M := by
  unfold whole trM; simp only [List.all_map]; rfl
theorem trM_fit (M : Mo) : fitE (trM M) = fitE M := by
  unfold fitE; rw [trM_small, trM_whole]
theorem trM_sigs (M : Mo) : sigsOk (trM M) = sigsOk M := by
  unfold sigsOk trM; simp only [List.all_map]; rfl
theorem trM_data (M : Mo) : dataOk (trM M) = dataOk M := rfl
theorem trM_callee_eq (M : Mo) (n : Int) : callee (trM M) n = if n < 0 ∨ (M.imports.length + (M.funcs.map trF).length : Int) ≤ n then none
    else if n < M.imports.length then (M.sigs[(M.imports.getD n.toNat 0).toNat]?).bind fun s => if 0 ≤ M.imports.getD n.toNat 0 then some (s, true, false) else none
    else ((M.funcs.map trF)[n.toNat - M.imports.length]?).bind fun f => (M.sigs[f.sig.toNat]?).bind fun s => if 0 ≤ f.sig then some (s, false, f.tr) else none := rfl
theorem trM_callee {M : Mo} {n : Int} {g : Sg} {h t : Bool} (e : callee M n = some (g, h, t)) : ∃ t', callee (trM M) n = some (g, h, t') := by
  rw [trM_callee_eq, List.length_map]
  unfold callee at e
  split at e
  · cases e
  · rename_i h1
    rw [if_neg h1]
    split at e
    · rename_i h2
      rw [if_pos h2]
      exact ⟨t, e⟩
    · rename_i h2
      rw [if_neg h2]
      rw [List.getElem?_map]
      cases hf : M.funcs[n.toNat - M.imports.length]? with
      | none => rw [hf] at e; cases e
      | some f =>
        rw [hf] at e
        simp only [Option.bind_some, Option.map_some] at e ⊢
        show ∃ t', ((M.sigs[f.sig.toNat]?).bind fun s => if 0 ≤ f.sig then some (s, false, true) else none) = some (g, h, t')
        cases hs : M.sigs[f.sig.toNat]? with
        | none => rw [hs] at e; cases e
        | some s =>
          rw [hs] at e
          simp only [Option.bind_some] at e ⊢
          split at e
          · rename_i h3; rw [if_pos h3]
            cases e; exact ⟨true, rfl⟩
          · cases e
def trC (C : Cx) : Cx := ⟨trM C.M, true, C.L⟩
theorem insW_tr {C : Cx} {x : In} {s s' : Wk} (h : insW C x s = .ok s') : insW (trC C) x s = .ok s' := by
  by_cases h16 : x.op = 16
  · have e : ∀ D, insW D x s = callW D x.n s := fun D => by simp [insW, h16]
    rw [e] at h ⊢
    unfold callW at h ⊢
    cases hc : callee C.M x.n with
    | none => rw [hc] at h; cases h
    | some p =>
      obtain ⟨g, hh, t⟩ := p
      rw [hc] at h
      obtain ⟨t', ht⟩ := trM_callee hc
      show (match callee (trM C.M) x.n with | none => _ | some (g, _, t) => _) = _
      rw [ht]
      simp only at h ⊢
      split at h
      · cases h
      · rw [if_neg (by simp [trC])]; exact h
  · by_cases h241 : x.op = 241
    · have e : ∀ D : Cx, insW D x s = if D.tr = true then bnd (popW s) fun p => pushL [relab p.1 false] p.2 else .error 3 := fun D => by simp [insW, h241]
      rw [e] at h ⊢
      split at h
      · rw [if_pos (show (trC C).tr = true from rfl)]; exact h
      · cases h
    · rw [← h]
      unfold insW
      simp only [h16, h241, if_false]
      rfl
theorem bodyW_tr {C : Cx} : ∀ {l : List In} {i : Int} {s : Wk} {h : List Int}, bodyW C l i s = .ok h → bodyW (trC C) l i s = .ok h
  | [], _, _, _, h => h
  | x :: r, i, s, hh, h => by
    cases hi : insW C x s with
    | error c => rw [bodyW_err hi] at h; cases h
    | ok s' =>
      rw [bodyW_ok hi] at h
      rw [bodyW_ok (insW_tr hi)]
      cases hr : bodyW C r (i + 1) s' with
      | error c => rw [hr] at h; cases h
      | ok l => rw [hr] at h; rw [bodyW_tr hr]; exact h
theorem cx_tr (M : Mo) (f : Fn) : cxOf (trM M) (trF f) = trC (cxOf M f) := rfl
theorem funW_tr {M : Mo} {k : Nat} {f : Fn} {h : List Int} (e : funW M k f = .ok h) : funW (trM M) k (trF f) = .ok h := by
  unfold funW at e ⊢
  split at e
  · cases e
  · rename_i h1
    rw [if_neg (by simpa [trF] using h1), cx_tr]
    exact bodyW_tr e
theorem funsW_tr {M : Mo} : ∀ {l : List Fn} {k : Nat} {h : List (List Int)}, funsW M k l = .ok h → funsW (trM M) k (l.map trF) = .ok h
  | [], _, _, h => h
  | f :: r, k, hh, h => by
    cases hi : funW M k f with
    | error c => rw [funsW_err hi] at h; cases h
    | ok s' =>
      rw [funsW_ok hi] at h
      rw [List.map_cons, funsW_ok (funW_tr hi)]
      cases hr : funsW M (k + 1) r with
      | error c => rw [hr] at h; cases h
      | ok l => rw [hr] at h; rw [funsW_tr hr]; exact h
theorem chkM_tr {M : Mo} {h : List (List Int)} (e : chkM M = .ok h) : chkM (trM M) = .ok h := by
  obtain ⟨a, b, c, d⟩ := chk_ok e
  rw [chk_funs (by rw [trM_fit]; exact a) (by rw [trM_sigs]; exact b) (by rw [trM_data]; exact c)]
  exact funsW_tr d
/-- each instruction of a body that may be has been let by -/
theorem bodyW_each {C : Cx} : ∀ {l : List In} {i : Int} {s : Wk} {h : List Int}, bodyW C l i s = .ok h → ∀ x ∈ l, ∃ s s', insW C x s = .ok s'
  | [], _, _, _, _ => by simp
  | x :: r, i, s, hh, h => by
    intro y hy
    cases hi : insW C x s with
    | error c => rw [bodyW_err hi] at h; cases h
    | ok s' =>
      rcases List.mem_cons.1 hy with rfl | hy
      · exact ⟨s, s', hi⟩
      · rw [bodyW_ok hi] at h
        cases hr : bodyW C r (i + 1) s' with
        | error c => rw [hr] at h; cases h
        | ok l => exact bodyW_each hr y hy
theorem funsW_each {M : Mo} : ∀ {l : List Fn} {k : Nat} {h : List (List Int)}, funsW M k l = .ok h → ∀ f ∈ l, ∃ j h', funW M j f = .ok h'
  | [], _, _, _ => by simp
  | f :: r, k, hh, h => by
    intro y hy
    cases hi : funW M k f with
    | error c => rw [funsW_err hi] at h; cases h
    | ok s' =>
      rcases List.mem_cons.1 hy with rfl | hy
      · exact ⟨k, s', hi⟩
      · rw [funsW_ok hi] at h
        cases hr : funsW M (k + 1) r with
        | error c => rw [hr] at h; cases h
        | ok l => exact funsW_each hr y hy
theorem funW_body {M : Mo} {k : Nat} {f : Fn} {h : List Int} (e : funW M k f = .ok h) : Nest.er (opsF f.body) f.body.length = 0 ∧ bodyW (cxOf M f) f.body (1000 * k) (begW (M.sigs.getD f.sig.toNat sg0).results) = .ok h := by
  unfold funW at e
  split at e
  · cases e
  · rename_i h1; exact ⟨by simpa using h1, e⟩
/-- where a function is not trusted -/
theorem no_declass {M : Mo} {h : List (List Int)} (e : chkM M = .ok h) {f : Fn} (hf : f ∈ M.funcs) {x : In} (hx : x ∈ f.body) (ht : f.tr = false) :
    x.op ≠ 241 ∧ ¬ (x.op = 16 ∧ ∃ g b, callee M x.n = some (g, b, true)) := by
  obtain ⟨_, _, _, d⟩ := chk_ok e
  obtain ⟨j, h', hj⟩ := funsW_each d f hf
  obtain ⟨s, s', hi⟩ := bodyW_each (funW_body hj).2 x hx
  refine ⟨fun h241 => ?_, ?_⟩
  · have e : insW (cxOf M f) x s = if (cxOf M f).tr = true then bnd (popW s) fun p => pushL [relab p.1 false] p.2 else .error 3 := by simp [insW, h241]
    rw [e, if_neg (by show ¬ f.tr = true; simp [ht])] at hi
    cases hi
  · rintro ⟨h16, g, b, hc⟩
    have e : insW (cxOf M f) x s = callW (cxOf M f) x.n s := by simp [insW, h16]
    rw [e] at hi
    unfold callW at hi
    have hc' : callee (cxOf M f).M x.n = some (g, b, true) := hc
    rw [hc'] at hi
    simp only at hi
    rw [if_pos ⟨trivial, ht⟩] at hi
    cases hi
end Go.Proofs.YtamofhkmhjckaabGreatDoor

/-
  What was put is read as it was; beside it all stays. No program.
  XstepPuts: what was put is read as it was; beside it all stays.
-/
import Derived.Test.YtielpebokbolbaaM44
namespace Go.Proofs.Ytielpebokbolbaa
open Go.RowKit
open Xc (le by8 bys jn)
set_option linter.unusedSimpArgs false
set_option linter.unusedVariables false
theorem wn_ptR {r : Rg} {a n v : Int} (hw : wn r a n = true) (hn : n = 4 ∨ n = 8) (a' n' : Int) : wn (ptR r a n v) a' n' = wn r a' n' := by
  have := ptR_len (v := v) hw hn
  unfold wn; rw [this]; rfl
theorem fnd_set {g : List Rg} {a n v : Int} {i : Nat} (hi : i < g.length) (hw : wn g[i] a n = true) (hn : n = 4 ∨ n = 8) (cd : Bool) (a' n' : Int) : fnd (g.set i (ptR g[i] a n v)) cd a' n' = fnd g cd a' n' := by
  have hp : ∀ j (h : j < g.length), ((g.set i (ptR g[i] a n v))[j]'(by simpa using h)).code = g[j].code ∧ wn ((g.set i (ptR g[i] a n v))[j]'(by simpa using h)) a' n' = wn g[j] a' n' := fun j h => by
    rw [List.getElem_set]
    split
    · rename_i e; subst e; exact ⟨rfl, wn_ptR hw hn _ _⟩
    · exact ⟨rfl, rfl⟩
  unfold fnd
  cases h : List.findIdx? (fun r => r.code == cd && wn r a' n') g with
  | none =>
    rw [List.findIdx?_eq_none_iff] at h ⊢
    intro x hx
    obtain ⟨j, hj, rfl⟩ := List.mem_iff_getElem.1 hx
    have hj' : j < g.length := by simpa using hj
    rw [(hp j hj').1, (hp j hj').2]
    exact h _ (List.getElem_mem _)
  | some k =>
    rw [List.findIdx?_eq_some_iff_getElem] at h ⊢
    obtain ⟨hk, h1, h2⟩ := h
    refine ⟨by simpa using hk, ?_, fun j hj => ?_⟩
    · rw [(hp k hk).1, (hp k hk).2]; exact h1
    · have hj' : j < g.length := by omega
      rw [(hp j hj').1, (hp j hj').2]; exact h2 j hj
theorem fnN_set {g : List Rg} {a n v : Int} {i : Nat} (hi : i < g.length) (hw : wn g[i] a n = true) (hn : n = 4 ∨ n = 8) (a' n' : Int) : fnN (g.set i (ptR g[i] a n v)) a' n' = fnN g a' n' := by
  unfold fnN; rw [fnd_set hi hw hn]
theorem le_inj : ∀ (a b : List UInt8), a.length = b.length → le a = le b → a = b
  | [], [], _, _ => rfl
  | x :: a, y :: b, hl, h => by
    have hx := x.toNat_lt
    have hy := y.toNat_lt
    simp only [le] at h
    have h1 : x.toNat = y.toNat := by omega
    have h2 : le a = le b := by omega
    rw [UInt8.toNat_inj.1 h1, le_inj a b (by simpa using hl) h2]
  | [], y :: b, hl, _ => by simp at hl
  | x :: a, [], hl, _ => by simp at hl
theorem bys_jn {l : List UInt8} {n : Nat} (h : l.length = n) (hn : n = 4 ∨ n = 8) : bys n (jn l) = l := by
  refine le_inj _ _ (by rw [Xc.bys_len, h]) ?_
  have h1 := Xc.le_bys n (jn l)
  have h2 := Xc.le_lt l
  rw [h] at h2
  have h3 : jn l = wrap64 (le l : Nat) := rfl
  generalize le (bys n (jn l)) = D at h1 ⊢
  rw [h3] at h1
  unfold wrap64 at h1
  rcases hn with rfl | rfl
  · simp only [Nat.reducePow, Int.reducePow] at h1 h2
    omega
  · simp only [Nat.reducePow, Int.reducePow] at h1 h2
    omega
theorem jn_bys4 (v : Int) : jn (bys 4 v) = v % 4294967296 := by
  have h1 := Xc.le_bys 4 v
  simp only [Int.reducePow] at h1
  unfold jn wrap64
  omega
theorem jn_bys8 {v : Int} (h : I64 v) : jn (bys 8 v) = v := by
  have h1 := Xc.le_bys 8 v
  simp only [Int.reducePow] at h1
  unfold I64 Xc.I64 at h
  unfold jn wrap64
  omega
theorem spl_mid (l x : List UInt8) (p : Nat) (h : p + x.length ≤ l.length) : ((spl l p x).drop p).take x.length = x := by
  unfold spl
  rw [List.append_assoc, List.drop_append_of_le_length (by simp; omega), List.drop_eq_nil_of_le (by simp; omega), List.nil_append, List.take_append_of_le_length (Nat.le_refl _), List.take_length]
theorem spl_spl (l x y : List UInt8) (p : Nat) (h : p + x.length ≤ l.length) (hy : y.length = x.length) : spl (spl l p x) p y = spl l p y := by
  unfold spl
  have e1 : (l.take p ++ x ++ l.drop (p + x.length)).take p = l.take p := by
    rw [List.append_assoc, List.take_append_of_le_length (by simp; omega), List.take_take, Nat.min_self]
  have e2 : (l.take p ++ x ++ l.drop (p + x.length)).drop (p + y.length) = l.drop (p + y.length) := by
    rw [hy, List.drop_append, List.drop_eq_nil_of_le (by simp; omega), List.nil_append]
    simp only [List.length_append, List.length_take]
    rw [show p + x.length - (min p l.length + x.length) = 0 by omega, List.drop_zero]
  rw [e1, e2]
theorem spl_own (l : List UInt8) (p n : Nat) (h : p + n ≤ l.length) : spl l p ((l.drop p).take n) = l := by
  unfold spl
  have e : ((l.drop p).take n).length = n := by simp; omega
  rw [e, List.append_assoc]
  have : (l.drop p).take n ++ l.drop (p + n) = l.drop p := by
    rw [show l.drop (p + n) = (l.drop p).drop n by rw [List.drop_drop]]
    exact List.take_append_drop n (l.drop p)
  rw [this]; exact List.take_append_drop p l
/-- What stands beside. -/
theorem spl_ahead (l x : List UInt8) (p q k : Nat) (h : p + x.length ≤ l.length) (hq : q + k ≤ p) : ((spl l p x).drop q).take k = (l.drop q).take k := by
  unfold spl
  rw [List.append_assoc, List.drop_append_of_le_length (by simp; omega), List.take_append_of_le_length (by simp; omega), List.drop_take, List.take_take]
  congr 1; omega
theorem spl_behind (l x : List UInt8) (p q : Nat) (h : p + x.length ≤ l.length) (hq : p + x.length ≤ q) : (spl l p x).drop q = l.drop q := by
  unfold spl
  rw [List.drop_append, List.drop_eq_nil_of_le (by simp; omega), List.nil_append, List.drop_drop]
  simp only [List.length_append, List.length_take]
  congr 1; omega
section
variable {g : List Rg} {a n v : Int} {i : Nat}
theorem pt_len (hn : n = 4 ∨ n = 8) (v : Int) : (bys n.toNat v).length = n.toNat := Xc.bys_len _ _
theorem pt_fit {r : Rg} (hw : wn r a n = true) (hn : n = 4 ∨ n = 8) : (a - r.at_).toNat + n.toNat ≤ r.by_.length := by
  have := wn_iff.1 hw; omega
/-- What was put is read. -/
theorem put_read (hf : fnN g a n = some i) (hi : i < g.length) : rdM (g.set i (ptR g[i] a n v)) a n = some (jn (bys n.toNat v)) := by
  obtain ⟨hn, _, hc, hw⟩ := fnN_some hf
  have hi' : i < (g.set i (ptR g[i] a n v)).length := by simpa using hi
  have hf' : fnN (g.set i (ptR g[i] a n v)) a n = some i := (fnN_set hi hw hn a n).trans hf
  rw [rdM_some hf' hi']
  simp only [List.getElem_set_self]
  have := spl_mid g[i].by_ (bys n.toNat v) (a - g[i].at_).toNat (by rw [pt_len hn]; exact pt_fit hw hn)
  rw [pt_len hn] at this
  unfold rdV ptR
  simp only
  rw [this]
/-- And put back. -/
theorem put_back (hf : fnN g a n = some i) (hi : i < g.length) : ptM (g.set i (ptR g[i] a n v)) a n (rdV g[i] a n) = some g := by
  obtain ⟨hn, _, hc, hw⟩ := fnN_some hf
  have hi' : i < (g.set i (ptR g[i] a n v)).length := by simpa using hi
  have hf' : fnN (g.set i (ptR g[i] a n v)) a n = some i := (fnN_set hi hw hn a n).trans hf
  rw [ptM_some hf' hi']
  simp only [List.getElem_set_self, List.set_set]
  have fit := pt_fit hw hn
  have e : ptR (ptR g[i] a n v) a n (rdV g[i] a n) = g[i] := by
    have l1 : (((g[i].by_.drop (a - g[i].at_).toNat).take n.toNat)).length = n.toNat := by simp; omega
    have b := bys_jn l1 (by omega)
    unfold rdV
    unfold ptR
    simp only
    rw [b, spl_spl _ _ _ _ (by rw [pt_len hn]; exact fit) (by rw [pt_len hn]; exact l1), spl_own _ _ _ fit]
  rw [e]
  simp
theorem put_there (hf : fnN g a n = some i) (hi : i < g.length) (a' n' : Int) : (rdM (g.set i (ptR g[i] a n v)) a' n').isSome = (rdM g a' n').isSome := by
  obtain ⟨hn, _, hc, hw⟩ := fnN_some hf
  have e := fnN_set (v := v) hi hw hn a' n'
  cases h : fnN g a' n' with
  | none => rw [rdM_none h, rdM_none (e.trans h)]
  | some j =>
    obtain ⟨_, hj, _⟩ := fnN_some h
    rw [rdM_some h hj, rdM_some (e.trans h) (by simpa using hj), Option.isSome_some, Option.isSome_some]
/-- Of one region, what lies apart stays. -/
theorem put_apart (hf : fnN g a n = some i) (hi : i < g.length) (h1 : g.length ≤ 1) (b : Int) (hb : (a < b ∧ n ≤ b - a) ∨ (b < a ∧ 4 ≤ a - b)) : rdM (g.set i (ptR g[i] a n v)) b 4 = rdM g b 4 := by
  obtain ⟨hn, _, hc, hw⟩ := fnN_some hf
  have e := fnN_set (v := v) hi hw hn b 4
  cases h : fnN g b 4 with
  | none => rw [rdM_none h, rdM_none (e.trans h)]
  | some j =>
    obtain ⟨_, hj, _, hw2⟩ := fnN_some h
    have hij : j = i := by omega
    subst hij
    rw [rdM_some h hj, rdM_some (e.trans h) (by simpa using hj)]
    simp only [List.getElem_set_self]
    unfold rdV ptR
    simp only
    have f1 := wn_iff.1 hw
    have f2 := wn_iff.1 hw2
    have fit := pt_fit hw hn
    rcases hb with ⟨q1, q2⟩ | ⟨q1, q2⟩
    · rw [spl_behind _ _ _ _ (by rw [pt_len hn]; exact fit) (by rw [pt_len hn]; omega)]
    · rw [spl_ahead _ _ _ _ _ (by rw [pt_len hn]; exact fit) (by omega)]
end
theorem w32a : Fg.Wd true 4294967295 := by unfold Fg.Wd Fg.I64; simp
theorem r32 : Fg.R true 4294967295 = 4294967295 := by simp [Fg.R, Fg.md]
theorem n32 (a : Nat) : a &&& 4294967295 = a % 4294967296 := Nat.and_two_pow_sub_one_eq_mod a 32
theorem and32 (v : Int) (h : I64 v) : bits BinOp.and IntKind.i64 v 4294967295 = v % 4294967296 := by
  rw [Fg.bits_and true v 4294967295 h w32a, r32, n32]
  unfold Fg.R Fg.md
  generalize hx : v % (if true = true then 18446744073709551616 else 4294967296) = x
  simp only [if_true] at hx
  unfold wrap64
  omega
end Go.Proofs.Ytielpebokbolbaa
namespace Go.Proofs.Ytielpebokbolbaa
open Go.RowKit
open Xc (hide bel_one bel_tr bel_al bel_set Xi xv xc bys jn)
set_option linter.unusedSimpArgs false
set_option linter.unusedVariables false
theorem sg_own (m : Mc) : ({ m with g := m.g } : Mc) = m := rfl
set_option maxRecDepth 100000 in
set_option maxHeartbeats 6400000 in
theorem puts_no4 {m : Mc} {v : Value} {w : World} (h : MV m v w) (a x other : Int) (ia : I64 a) (ix : I64 x) (io : I64 other) (hf : fnN m.g a 4 = none) : Calls Try.prog 6 #[v, .int .i64 a, .bool false, .int .i64 x, .int .i64 other] w fun e w' => e = .returned (.bool true) ∧ Below w.heap.size w w' := by
  obtain ⟨ra, rc, rfl⟩ := h.sl
  have B0 := hide (bm_arg h)
  rw [mc_is]
  have a32 := and32 x ix
  have IA := hide ia
  have IX := hide ix
  have IO := hide io
  have HRD := hide (rdM_none hf)
  have HPT := hide (ptM_none (v := x) hf)
  clear hf
  clear h ia ix io
  go_enter Try.func6, Try.ntmps6
  go_wp2_with fail
  refine gw (motive := fun x => Calls _ _ _ x _) (fun W => Hid (BM w.heap.size m (.slice ra m.g.length rc) W) ∧ Hid (Below w.heap.size w W)) ⟨B0.out, bel_one _ _⟩ ?_
  rintro W ⟨BW, KW⟩
  clear B0
  refine (examples_any _).mono ?_
  rintro e w1 ⟨rfl, hb⟩
  have B1 := hide (BW.out.bel hb)
  have K1 := hide (bel_tr KW.out hb)
  clear hb BW KW
  have RR := hide (read_any B1.out.mv a 4 IA.out)
  rw [mc_is] at RR
  unfold RdEnds at RR
  rw [HRD.out] at RR
  simp only [Option.getD_some, Option.isSome_some, Option.getD_none, Option.isSome_none] at RR
  go_wp2_with (first | (refine wpList_load_mid rfl 27 _ rfl w.heap.size 0 rfl _ _ B1.out.rg Try.underlying27 rfl B1.out.il ?_))
  refine RR.out.mono ?_
  rintro e w2 ⟨rfl, hb2⟩
  have B2 := hide (B1.out.bel hb2)
  have K2 := hide (bel_tr K1.out hb2)
  clear RR hb2 B1 K1 a32
  have RR := hide (put_any B2.out.mv a 4 x IA.out)
  rw [mc_is] at RR
  go_wp2_with (first | (refine wpList_load_mid rfl 27 _ rfl w.heap.size 0 rfl _ _ B2.out.rg Try.underlying27 rfl B2.out.il ?_))
  refine RR.out.mono ?_
  rintro e u3 ⟨va, rfl, hma, hb3⟩
  rw [HPT.out] at hma ⊢
  simp only [Option.getD_some, Option.isSome_some, Option.getD_none, Option.isSome_none] at hma ⊢
  generalize hMa : (m : Mc) = Ma at hma
  have HEa := hide hMa
  clear hMa
  obtain ⟨raa, rca, rfl⟩ := hma.sl
  have HMa := hide hma
  rw [mc_is]
  have B2n := hide (B2.out.bel hb3)
  have K2n := hide (bel_tr K2.out hb3)
  clear hma hb3 RR B2 K2
  have HZ := hide (z_row u3)
  have HI := hide (z_inf HMa.out.len (.slice raa Ma.g.length rca))
  have HZS := hide (z_siz HMa.out.len (.slice raa Ma.g.length rca))
  have HON := hide (ml_one Ma raa Ma.g.length rca)
  have NB := hide (bm_new HMa.out)
  unfold zm at HZ HZS NB
  go_upto_region 9 with (refine wpList_store_row rfl 27 _ _ rfl u3.heap.size _ rfl rfl 27 zm HZ.out HI.out HZS.out HON.out ?_)
  refine gw (motive := fun x => Code.wp _ _ _ _ x) (fun V => Hid (BM u3.heap.size Ma (.slice raa Ma.g.length rca) V) ∧ Hid (BM w.heap.size m (.slice ra m.g.length rc) V) ∧ Hid (Below w.heap.size w V)) ⟨NB.out.1, B2n.out.bel NB.out.2, bel_tr K2n.out NB.out.2⟩ ?_
  rintro Wa ⟨BMa, B2, K2⟩
  clear HZ HI HZS HON NB HMa B2n K2n
  generalize u3.heap.size = qa at *
  rw [← HEa.out] at BMa
  have SM := hide (machines_yes BMa.out.mv B2.out.mv)
  rw [mc_is, mc_is] at SM
  go_wp2_with (first | (refine wpList_load_mid rfl 27 _ rfl qa 0 rfl _ _ BMa.out.rg Try.underlying27 rfl BMa.out.il ?_) | (refine wpList_load_mid rfl 27 _ rfl w.heap.size 0 rfl _ _ B2.out.rg Try.underlying27 rfl B2.out.il ?_))
  refine SM.out.mono ?_
  rintro e w5 ⟨rfl, hb5⟩
  have K5 := hide (bel_tr K2.out hb5)
  clear SM B2 BMa hb5
  go_wp2_with fail
  go_ret
  exact ⟨rfl, K5.out⟩
set_option maxRecDepth 100000 in
set_option maxHeartbeats 6400000 in
theorem puts_no8 {m : Mc} {v : Value} {w : World} (h : MV m v w) (a x other : Int) (ia : I64 a) (ix : I64 x) (io : I64 other) (hf : fnN m.g a 8 = none) : Calls Try.prog 6 #[v, .int .i64 a, .bool true, .int .i64 x, .int .i64 other] w fun e w' => e = .returned (.bool true) ∧ Below w.heap.size w w' := by
  obtain ⟨ra, rc, rfl⟩ := h.sl
  have B0 := hide (bm_arg h)
  rw [mc_is]
  have a32 := and32 x ix
  have IA := hide ia
  have IX := hide ix
  have IO := hide io
  have HRD := hide (rdM_none hf)
  have HPT := hide (ptM_none (v := x) hf)
  clear hf
  clear h ia ix io
  go_enter Try.func6, Try.ntmps6
  go_wp2_with fail
  refine gw (motive := fun x => Calls _ _ _ x _) (fun W => Hid (BM w.heap.size m (.slice ra m.g.length rc) W) ∧ Hid (Below w.heap.size w W)) ⟨B0.out, bel_one _ _⟩ ?_
  rintro W ⟨BW, KW⟩
  clear B0
  refine (examples_any _).mono ?_
  rintro e w1 ⟨rfl, hb⟩
  have B1 := hide (BW.out.bel hb)
  have K1 := hide (bel_tr KW.out hb)
  clear hb BW KW
  have RR := hide (read_any B1.out.mv a 8 IA.out)
  rw [mc_is] at RR
  unfold RdEnds at RR
  rw [HRD.out] at RR
  simp only [Option.getD_some, Option.isSome_some, Option.getD_none, Option.isSome_none] at RR
  go_wp2_with (first | (refine wpList_load_mid rfl 27 _ rfl w.heap.size 0 rfl _ _ B1.out.rg Try.underlying27 rfl B1.out.il ?_))
  refine RR.out.mono ?_
  rintro e w2 ⟨rfl, hb2⟩
  have B2 := hide (B1.out.bel hb2)
  have K2 := hide (bel_tr K1.out hb2)
  clear RR hb2 B1 K1 a32
  have RR := hide (put_any B2.out.mv a 8 x IA.out)
  rw [mc_is] at RR
  go_wp2_with (first | (refine wpList_load_mid rfl 27 _ rfl w.heap.size 0 rfl _ _ B2.out.rg Try.underlying27 rfl B2.out.il ?_))
  refine RR.out.mono ?_
  rintro e u3 ⟨va, rfl, hma, hb3⟩
  rw [HPT.out] at hma ⊢
  simp only [Option.getD_some, Option.isSome_some, Option.getD_none, Option.isSome_none] at hma ⊢
  generalize hMa : (m : Mc) = Ma at hma
  have HEa := hide hMa
  clear hMa
  obtain ⟨raa, rca, rfl⟩ := hma.sl
  have HMa := hide hma
  rw [mc_is]
  have B2n := hide (B2.out.bel hb3)
  have K2n := hide (bel_tr K2.out hb3)
  clear hma hb3 RR B2 K2
  have HZ := hide (z_row u3)
  have HI := hide (z_inf HMa.out.len (.slice raa Ma.g.length rca))
  have HZS := hide (z_siz HMa.out.len (.slice raa Ma.g.length rca))
  have HON := hide (ml_one Ma raa Ma.g.length rca)
  have NB := hide (bm_new HMa.out)
  unfold zm at HZ HZS NB
  go_upto_region 9 with (refine wpList_store_row rfl 27 _ _ rfl u3.heap.size _ rfl rfl 27 zm HZ.out HI.out HZS.out HON.out ?_)
  refine gw (motive := fun x => Code.wp _ _ _ _ x) (fun V => Hid (BM u3.heap.size Ma (.slice raa Ma.g.length rca) V) ∧ Hid (BM w.heap.size m (.slice ra m.g.length rc) V) ∧ Hid (Below w.heap.size w V)) ⟨NB.out.1, B2n.out.bel NB.out.2, bel_tr K2n.out NB.out.2⟩ ?_
  rintro Wa ⟨BMa, B2, K2⟩
  clear HZ HI HZS HON NB HMa B2n K2n
  generalize u3.heap.size = qa at *
  rw [← HEa.out] at BMa
  have SM := hide (machines_yes BMa.out.mv B2.out.mv)
  rw [mc_is, mc_is] at SM
  go_wp2_with (first | (refine wpList_load_mid rfl 27 _ rfl qa 0 rfl _ _ BMa.out.rg Try.underlying27 rfl BMa.out.il ?_) | (refine wpList_load_mid rfl 27 _ rfl w.heap.size 0 rfl _ _ B2.out.rg Try.underlying27 rfl B2.out.il ?_))
  refine SM.out.mono ?_
  rintro e w5 ⟨rfl, hb5⟩
  have K5 := hide (bel_tr K2.out hb5)
  clear SM B2 BMa hb5
  go_wp2_with fail
  go_ret
  exact ⟨rfl, K5.out⟩
end Go.Proofs.Ytielpebokbolbaa

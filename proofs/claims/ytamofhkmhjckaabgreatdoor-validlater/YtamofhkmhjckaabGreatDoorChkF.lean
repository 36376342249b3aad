/-
  The walk's height: how high the stack is, or that no run comes here.
  The walk's instr: of any instruction that is rightly made it does the plain step, or leaves by a panic.
  The program's checkFunc: the plain rules of one function.
-/
import Derived.Test.YtamofhkmhjckaabGreatDoorWalk12
import Derived.Test.YtamofhkmhjckaabGreatDoorIns1
import Derived.Test.YtamofhkmhjckaabGreatDoorIns2
import Derived.Test.YtamofhkmhjckaabGreatDoorIns3
import Derived.Test.YtamofhkmhjckaabGreatDoorTrustP
import Derived.Test.YtamofhkmhjckaabGreatDoorChkS
import Derived.Test.YtamofhkmhjckaabGreatDoorNSpans
namespace Go.Proofs.YtamofhkmhjckaabGreatDoor
open Go.RowKit
theorem dead_any (f : Fm) (a : Option Addr) (n c : Nat) (w : World) :
    Calls Tryz.prog 50 #[.agg #[.int .i64 f.op, .slice a n c, .int .i64 f.base, .bool f.dead]] w fun e w' => e = .returned (.bool f.dead) ∧ Below w.heap.size w w' := by
  have hb := bel_one w (.cells #[.int .i64 f.op, .slice a n c, .int .i64 f.base, .bool f.dead] 127)
  go_enter Tryz.func50, Tryz.ntmps50
  go_wp2
  go_ret
  exact ⟨rfl, hb⟩
theorem enters82 (args : Array Value) (w : World) : (callFunc 50 args).run Tryz.prog w = .ok (.enter 50 args) w := by kernel_rfl
section
variable {K : Kx} {at_ : Int} {s : Wk} {vs vf : Value} {fv : List (Fm × Value)} {w : World}
/-- the first of the frames, from the outermost on, that is dead: or none -/
def deadB (s : Wk) (k : Nat) : Bool := (s.fr.reverse.take k).any (fun f => f.dead)
theorem deadB_all (s : Wk) : deadB s s.fr.length = s.fr.any (fun f => f.dead) := by
  unfold deadB
  rw [List.take_of_length_le (by simp), List.any_reverse]
theorem deadB_next {s : Wk} {k : Nat} {f : Fm} (h : s.fr.reverse[k]? = some f) : deadB s (k + 1) = (deadB s k || f.dead) := by
  unfold deadB
  rw [List.take_add_one, h]
  simp
set_option maxRecDepth 100000 in
set_option maxHeartbeats 2000000 in
theorem first_dead (hK : KOk K) (h : WJ K at_ s vs vf fv w) (hn : s.fr.length ≤ 1000) :
    Calls Tryz.prog 83 #[vf, .func (.func 50) #[] #[]] w fun e w' => (∃ r : Int, e = .returned (.int .i64 r) ∧ (0 ≤ r ↔ s.fr.any (fun f => f.dead) = true)) ∧ Below w.heap.size w w' := by
  obtain ⟨af, cf, hvf⟩ := Nest.own_slice h.fr
  have HVF := hide hvf
  have H := hide h
  have HK := hide hK
  have hl : fv.length = s.fr.length := by rw [← h.fs]; simp
  have h82 := enters82
  rw [hvf]
  clear h hK hvf
  go_enter Tryz.func83, Tryz.ntmps83
  go_wp2
  go_loopw [8] (fun i wr => ∃ k : Nat, k ≤ s.fr.length ∧ i = .int .i64 k ∧ Hid (deadB s k = false) ∧ Hid (Below w.heap.size w wr)) (fun i _ => s.fr.length - (intOf i).toNat)
  case atStart => exact ⟨0, Nat.zero_le _, rfl, hide (by simp [deadB]), hide (Below.refl _ _)⟩
  case round =>
    obtain ⟨k, hk, rfl, hd, hb⟩ := hrel
    by_cases hlt : k < s.fr.length
    · have J := H.out.below HK.out hb.out
      obtain ⟨g, cap, hvf, hcap, hf, hbr, hc⟩ := J.at (k := s.fr.length - 1 - k) (x := fv[s.fr.length - 1 - k]) (List.getElem?_eq_getElem (by omega))
      rw [show s.fr.length - 1 - (s.fr.length - 1 - k) = k by omega] at hc
      generalize fv[s.fr.length - 1 - k] = x at hf hbr hc
      obtain ⟨f, v⟩ := x
      obtain ⟨c0, c1, c2, c3⟩ := fcell hc
      rw [Nat.add_zero] at c0
      have hvf2 := HVF.out
      rw [hvf] at hvf2
      simp only [Value.slice.injEq, true_and] at hvf2
      obtain ⟨e1, e2⟩ := hvf2
      subst e1 e2
      obtain ⟨av, cv, hv⟩ : ∃ a c, v = .slice a f.br.length c := by obtain ⟨a, c, e, _⟩ := hbr; exact ⟨a, c, e⟩
      subst hv
      have HN := hide (deadB_next (s := s) (k := k) (f := f) (by rw [List.getElem?_reverse hlt]; exact hf))
      have DA := hide (dead_any f av f.br.length cv wr)
      have HM := hide (List.mem_of_getElem? hf)
      clear hc hf hbr hvf J
      cases hdd : f.dead with
      | true =>
        rw [hdd] at DA c3
        have HY := hide (show s.fr.any (fun f => f.dead) = true from List.any_eq_true.2 ⟨f, HM.out, hdd⟩)
        go_wp2_with fail
        refine DA.out.mono ?_
        rintro e w1 ⟨rfl, hb1⟩
        have HB := hide (below_next hb.out hb1)
        clear hb1
        go_wp2_with fail
        go_ret
        exact ⟨⟨k, rfl, by simp [HY.out]⟩, HB.out⟩
      | false =>
        rw [hdd] at DA c3
        have HZ := hide (show deadB s (k + 1) = false by rw [HN.out, hd.out, hdd]; rfl)
        go_wp2_with fail
        refine DA.out.mono ?_
        rintro e w1 ⟨rfl, hb1⟩
        have HB := hide (below_next hb.out hb1)
        clear hb1
        go_wp2_with fail
        go_roundw
        case rel => exact ⟨k + 1, by omega, by simp, HZ, HB⟩
        case measure => simp [intOf]; omega
    · obtain rfl : k = s.fr.length := by omega
      have HZ := hide (show s.fr.any (fun f => f.dead) = false by rw [← deadB_all]; exact hd.out)
      clear hd
      go_wp2_with fail
      go_ret
      exact ⟨⟨-1, rfl, by simp [HZ.out]⟩, hb.out⟩
theorem contains_any (hK : KOk K) (h : WJ K at_ s vs vf fv w) (hn : s.fr.length ≤ 1000) :
    Calls Tryz.prog 49 #[vf, .func (.func 50) #[] #[]] w fun e w' => e = .returned (.bool (s.fr.any (fun f => f.dead))) ∧ Below w.heap.size w w' := by
  have FD := hide (first_dead hK h hn)
  obtain ⟨af, cf, hvf⟩ := Nest.own_slice h.fr
  rw [hvf] at FD ⊢
  clear h hK hvf
  go_enter Tryz.func49, Tryz.ntmps49
  go_wp2_with fail
  refine FD.out.mono ?_
  rintro e w1 ⟨⟨r, rfl, hr⟩, hb⟩
  have HR := hide hr
  have HB := hide hb
  clear hr hb
  by_cases h0 : 0 ≤ r
  · have HY := hide (HR.out.1 h0)
    go_wp2_with fail
    go_ret
    exact ⟨ret_bool (by rw [HY.out]), HB.out⟩
  · have HY := hide (show s.fr.any (fun f => f.dead) = false by
      cases hc : s.fr.any (fun f => f.dead) with
      | false => rfl
      | true => exact absurd (HR.out.2 hc) h0)
    go_wp2_with fail
    go_ret
    exact ⟨ret_bool (by rw [HY.out]; simp [h0]), HB.out⟩
theorem height_any (hK : KOk K) (h : WJ K at_ s vs vf fv w) (hn : s.fr.length ≤ 1000) :
    Calls Tryz.prog 40 #[.pointer (some ⟨K.B, 0, none⟩)] w fun e w' => e = .returned (.int .i64 (hgt s)) ∧ Below w.heap.size w w' := by
  have CO := hide (contains_any hK h hn)
  have c11 : w.cell? ⟨K.B, 11, none⟩ = some vf := h.row.c 11 _ rfl
  have HK := hide hK
  have H := hide h
  obtain ⟨af, cf, hvf⟩ := Nest.own_slice h.fr
  rw [hvf] at c11 CO
  clear h hK hvf
  cases hc : s.fr.any (fun f => f.dead) with
  | true =>
    rw [hc] at CO
    have HG := hide (show hgt s = -1 by simp [hgt, hc])
    clear hc
    go_enter Tryz.func40, Tryz.ntmps40
    go_wp2_with fail
    refine CO.out.mono ?_
    rintro e w1 ⟨rfl, hb⟩
    have HB := hide hb
    clear hb
    go_wp2_with fail
    go_ret
    exact ⟨ret_int HG.out.symm, HB.out⟩
  | false =>
    rw [hc] at CO
    have HG := hide (show hgt s = s.st.length by simp [hgt, hc])
    clear hc
    go_enter Tryz.func40, Tryz.ntmps40
    go_wp2_with fail
    refine CO.out.mono ?_
    rintro e w1 ⟨rfl, hb⟩
    have J1 := H.out.below HK.out hb
    have c10 : w1.cell? ⟨K.B, 10, none⟩ = some vs := J1.row.c 10 _ rfl
    obtain ⟨as1, cs1, hvs⟩ := Nest.own_slice J1.st
    rw [hvs] at c10
    have HB := hide hb
    clear hb J1 hvs
    go_wp2_with fail
    go_ret
    exact ⟨ret_int HG.out.symm, HB.out⟩
end
end Go.Proofs.YtamofhkmhjckaabGreatDoor
namespace Go.Proofs.YtamofhkmhjckaabGreatDoor
open Go.RowKit
theorem ar_cases {op : Int} (h : (ar op).2.2.2 = true) : (69 ≤ op ∧ op ≤ 173) ∧ ∃ f t, ar op = (1, f, t, true) ∨ ar op = (2, f, t, true) := by
  unfold ar at h ⊢
  by_cases h1 : op = 69
  · subst h1; exact ⟨by decide, 0, 0, .inl (by simp)⟩
  rw [if_neg h1] at h ⊢
  by_cases h2 : op = 80 ∨ op = 167
  · rw [if_pos h2]; exact ⟨by omega, 1, 0, .inl rfl⟩
  rw [if_neg h2] at h ⊢
  by_cases h3 : op = 172 ∨ op = 173
  · rw [if_pos h3]; exact ⟨by omega, 0, 1, .inl rfl⟩
  rw [if_neg h3] at h ⊢
  by_cases h4 : (70 ≤ op ∧ op ≤ 79) ∨ (106 ≤ op ∧ op ≤ 120)
  · rw [if_pos h4]; exact ⟨by omega, 0, 0, .inr rfl⟩
  rw [if_neg h4] at h ⊢
  by_cases h5 : 81 ≤ op ∧ op ≤ 90
  · rw [if_pos h5]; exact ⟨by omega, 1, 0, .inr rfl⟩
  rw [if_neg h5] at h ⊢
  by_cases h6 : 124 ≤ op ∧ op ≤ 138
  · rw [if_pos h6]; exact ⟨by omega, 1, 1, .inr rfl⟩
  rw [if_neg h6] at h
  simp at h
section
variable {K : Kx} {at_ : Int} {s : Wk} {vs vf : Value} {fv : List (Fm × Value)} {w : World}
theorem instr_any (hK : KOk K) (h : WJ K at_ s vs vf fv w) (hw : WF s) (hn : s.fr.length ≤ 1000) (hne : s.fr ≠ []) (hSm : Small K.C.M) (x : In) (hx : rtI x = true) :
    Calls Tryz.prog 41 #[.pointer (some ⟨K.B, 0, none⟩), .agg #[.int .i64 x.op, .int .i64 x.n, .int .i64 x.m]] w (Ends K at_ vs vf w (insW K.C x s)) := by
  obtain ⟨op, n, m⟩ := x
  simp only [rtI] at hx
  simp only
  by_cases h1 : op = 1
  · subst h1
    exact ins_1 hK h hw hn hne n m
  by_cases h0 : op = 0
  · subst h0
    exact ins_0 hK h hw hn hne n m
  by_cases h4 : op = 4
  · subst h4
    have hy : -1000 ≤ m ∧ m ≤ 1000 := by simp [rt, kd] at hx; omega
    exact ins_4 hK h hw hn hne n m hy
  by_cases h2 : op = 2
  · subst h2
    have hy : -1000 ≤ m ∧ m ≤ 1000 := by simp [rt, kd] at hx; omega
    exact ins_2 hK h hw hn hne n m hy
  by_cases h3 : op = 3
  · subst h3
    have hy : -1000 ≤ m ∧ m ≤ 1000 := by simp [rt, kd] at hx; omega
    exact ins_3 hK h hw hn hne n m hy
  by_cases h5 : op = 5
  · subst h5
    exact ins_5 hK h hw hn hne n m
  by_cases h11 : op = 11
  · subst h11
    exact ins_11 hK h hw hn hne n m
  by_cases h15 : op = 15
  · subst h15
    exact ins_15 hK h hw hn hne n m
  by_cases h26 : op = 26
  · subst h26
    exact ins_26 hK h hw hn hne n m
  by_cases h27 : op = 27
  · subst h27
    exact ins_27 hK h hw hn hne n m
  by_cases h65 : op = 65
  · subst h65
    exact ins_65 hK h hw hn hne n m
  by_cases h66 : op = 66
  · subst h66
    exact ins_66 hK h hw hn hne n m
  by_cases h240 : op = 240
  · subst h240
    exact ins_240 hK h hw hn hne n m
  by_cases h241 : op = 241
  · subst h241
    exact ins_241 hK h hw hn hne n m
  by_cases h12 : op = 12
  · subst h12
    have hy : 0 ≤ n := by simp [rt, kd] at hx; omega
    exact ins_12 hK h hw hn hne n m hy
  by_cases h13 : op = 13
  · subst h13
    have hy : 0 ≤ n := by simp [rt, kd] at hx; omega
    exact ins_13 hK h hw hn hne n m hy
  by_cases h32 : op = 32
  · subst h32
    have hy : 0 ≤ n := by simp [rt, kd] at hx; omega
    exact ins_32 hK h hw hn hne n m hy
  by_cases h33 : op = 33
  · subst h33
    have hy : 0 ≤ n := by simp [rt, kd] at hx; omega
    exact ins_33 hK h hw hn hne n m hy
  by_cases h34 : op = 34
  · subst h34
    have hy : 0 ≤ n := by simp [rt, kd] at hx; omega
    exact ins_34 hK h hw hn hne n m hy
  by_cases h35 : op = 35
  · subst h35
    have hy : 0 ≤ n := by simp [rt, kd] at hx; omega
    exact ins_35 hK h hw hn hne n m hy
  by_cases h36 : op = 36
  · subst h36
    have hy : 0 ≤ n := by simp [rt, kd] at hx; omega
    exact ins_36 hK h hw hn hne n m hy
  by_cases h16 : op = 16
  · subst h16
    have hy : I64 n := by simp [rt, kd] at hx; exact ⟨by omega, by omega⟩
    exact ins_16 hK h hw hn hne n m hSm hy
  by_cases h40 : op = 40
  · subst h40
    have hy : m = 0 ∨ m = 1 := by simp [rt, kd] at hx; omega
    rcases hy with rfl | rfl
    · exact ins_40_0 hK h hw hn hne n
    · exact ins_40_1 hK h hw hn hne n
  by_cases h41 : op = 41
  · subst h41
    have hy : m = 0 ∨ m = 1 := by simp [rt, kd] at hx; omega
    rcases hy with rfl | rfl
    · exact ins_41_0 hK h hw hn hne n
    · exact ins_41_1 hK h hw hn hne n
  by_cases h54 : op = 54
  · subst h54
    have hy : m = 0 ∨ m = 1 := by simp [rt, kd] at hx; omega
    rcases hy with rfl | rfl
    · exact ins_54_0 hK h hw hn hne n
    · exact ins_54_1 hK h hw hn hne n
  by_cases h55 : op = 55
  · subst h55
    have hy : m = 0 ∨ m = 1 := by simp [rt, kd] at hx; omega
    rcases hy with rfl | rfl
    · exact ins_55_0 hK h hw hn hne n
    · exact ins_55_1 hK h hw hn hne n
  have hk : (ar op).2.2.2 = true := by
    cases ha : (ar op).2.2.2 with
    | true => rfl
    | false =>
      have : kd op = 0 := by simp [kd, ha, h1, h0, h4, h2, h3, h5, h11, h15, h26, h27, h65, h66, h240, h241, h12, h13, h32, h33, h34, h35, h36, h16, h40, h41, h54, h55]
      simp [rt, this] at hx
  obtain ⟨hr, f, t, har | har⟩ := ar_cases hk
  · exact ins_r1 hK h hw hn hne op n m f t hr har
  · exact ins_r2 hK h hw hn hne op n m f t hr har
end
end Go.Proofs.YtamofhkmhjckaabGreatDoor
namespace Go.Proofs.YtamofhkmhjckaabGreatDoor
open Go.RowKit
/-- how a check ends -/
def CkEnds (w : World) (r : Except (Int × Int) (List Int)) (e : Ending) (w' : World) : Prop := match r with
  | .error c => ∃ p, e = .panicked [{ v := flt p, recovered := false }] ∧ FaultAt w' p c.1 c.2 ∧ Below w.heap.size w w'
  | .ok l => ∃ g, e = .returned (.slice (some ⟨g, 0, none⟩) l.length l.length) ∧ Sl 1 EInt (NewB w.heap.size w') w' (.slice (some ⟨g, 0, none⟩) l.length l.length) l ∧ Below w.heap.size w w'
theorem held_er (f : Nat → Int) (n : Nat) : held (Nest.er f n) = Nest.er f n ∨ Nest.er f n = 0 := by
  unfold Nest.er held; split
  · simp
  · split <;> simp
theorem ops_body {B : Nat} {w : World} {a : Option Addr} {c : Nat} {l : List In} (h : SIns B w (.slice a l.length c) l) : Nest.Ops B w a l.length (opsF l) := by
  intro j hj
  obtain ⟨a', c', e, he⟩ := h
  simp only [Value.slice.injEq, true_and] at e
  obtain ⟨b, off, ha, hb, _, hc, _⟩ := he j hj
  refine ⟨b, off, by rw [e.1]; exact ha, hb, ?_⟩
  rw [hc]; simp [opsF, hj]
theorem beg_wf {res : List Int} (h : res.length ≤ 1 ∧ ∀ t ∈ res, ty0 t) : WF (begW res) :=
  ⟨⟨Nat.le_refl _, trivial⟩, by simp [begW], by simp [begW], fun f hf => by cases List.mem_singleton.1 hf; exact h⟩
set_option maxRecDepth 100000 in
set_option maxHeartbeats 8000000 in
theorem checkFunc_any (V : MoV) (M : Mo) (w : World) (h : IsMo w.heap.size w V M) (hSm : Small M) (f : Nat) (hf : f < M.funcs.length) (z : Nat) (hz : z < M.sigs.length) (hsig : M.funcs[f].sig = z)
    (hp : M.sigs[z].params.length ≤ 100) (hl : M.funcs[f].locals.length ≤ 100) (hbl : M.funcs[f].body.length ≤ 999) (hrt : ∀ x ∈ M.funcs[f].body, rtI x = true) (hcl : cl 1 M.funcs[f].body = true) (hf1 : f ≤ 1000) (hC : CxOk (cxOf M M.funcs[f])) :
    Calls Tryz.prog 28 #[moV V M, .int .i64 f] w (CkEnds w (funW M f M.funcs[f])) := by
  obtain ⟨i3, hi3, hz30, hz31, hz32⟩ := info_parts Nest.Tryz.info3
  have hgd : M.sigs.getD M.funcs[f].sig.toNat sg0 = M.sigs[z] := by rw [hsig]; simp [hz]
  have BG := hide (fun (U : World) (hU : IsMo U.heap.size U V M) => begin_any V M U hU f hf z hz hsig hp hl)
  have HM := hide h
  obtain ⟨v0, v1, v2, v5, v6⟩ := V
  unfold moV
  obtain ⟨aa, c2, e1, he⟩ := h.funcs
  simp only at e1
  subst e1
  obtain ⟨b, off, e, hb, vl, vb, hi, q0, q1, q2, q3, hlo, hbo⟩ := he f hf
  subst e
  unfold funW
  rw [hgd]
  unfold cxOf at hC ⊢
  rw [hgd] at hC ⊢
  obtain ⟨ax, cx, evx, hbe⟩ := id hbo
  subst evx
  have HG := hide (show M.sigs[z] ∈ M.sigs from List.getElem_mem hz)
  have HBE := hide (show ∀ j (hj : j < M.funcs[f].body.length), ∃ b off, ax = some ⟨b, off, none⟩ ∧ b < w.heap.size ∧ EIn (Lt w.heap.size) w b (off + j * 3) M.funcs[f].body[j] from hbe)
  have HO := hide (ops_body hbo)
  have HRT := hide hrt
  have HCL := hide hcl
  have HCX := hide hC
  unfold moV at BG
  simp only at BG
  clear he hlo hbo hbe q0 q1 q2 hgd hp hl hrt hcl hC h hsig hi
  generalize M.sigs[z] = G at *
  generalize M.funcs[f] = F at *
  have hff : (f : Int) < M.funcs.length := by omega
  have hmul : (1000 : Int) * f ≤ 1000000 := by omega
  have SP := hide (Nest.spans_any ax F.body.length cx w.heap.size (opsF F.body) (w.alloc (.cells #[v0, v1, .slice (some ⟨b, off, none⟩) M.funcs.length c2, .int .i64 M.m0, .int .i64 M.m1, v5, v6] 29)) (HO.out.below (bel_one w _) (Nat.le_refl _)) (by simp) (by omega))
  have HB0 := hide (bel_one w (.cells #[v0, v1, .slice (some ⟨b, off, none⟩) M.funcs.length c2, .int .i64 M.m0, .int .i64 M.m1, v5, v6] 29))
  have R0 := hide (Row.made w #[v0, v1, .slice (some ⟨b, off, none⟩) M.funcs.length c2, .int .i64 M.m0, .int .i64 M.m1, v5, v6] 29)
  by_cases her : Nest.er (opsF F.body) F.body.length = 0
  · rw [if_neg (by simp [her])]
    rw [her] at SP
    generalize hR : bodyW ⟨M, F.tr, G.params ++ F.locals⟩ F.body (1000 * (f : Int)) (begW G.results) = R
    have HRR := hide hR
    clear hR her
    go_enter Tryz.func28, Tryz.ntmps28
    go_wp2_with fail
    refine SP.out.mono ?_
    rintro e w1 ⟨v, rfl, _, _, hb1⟩
    have HB1 := hide (below_next HB0.out hb1)
    have R1 := R0.out.kept hb1
    have m0 := R1.c 0 _ rfl
    have m1 := R1.c 1 _ rfl
    have m2 := R1.c 2 _ rfl
    have m3 := R1.c 3 _ rfl
    have m4 := R1.c 4 _ rfl
    have m5 := R1.c 5 _ rfl
    have m6 := R1.c 6 _ rfl
    have q3' := (HB1.out.cell (p := ⟨b, off + f * 4 + 3, none⟩) hb).trans q3
    have HR1 := hide R1
    clear hb1 SP R1 q3
    go_wp2_with fail
    refine (hold_yes _ _).mono ?_
    rintro e wx ⟨rfl, rfl⟩
    go_wp2_with fail
    refine (BG.out _ (HM.out.step HB1.out HB1.out.size)).mono ?_
    rintro e w2 ⟨B, vl2, vf, v3, rfl, hB, hJ⟩
    have HK0 := hide (show KOk ⟨wx.heap.size, B, wx, ⟨v0, v1, .slice (some ⟨b, off, none⟩) M.funcs.length c2, v5, v6⟩, ⟨M, F.tr, G.params ++ F.locals⟩, vl2, B⟩ from ⟨HM.out.step HB1.out HB1.out.size, HCX.out, hB, hB, Nat.le_refl _⟩)
    have hs1 : w.heap.size ≤ wx.heap.size := HB1.out.size
    have hs2 : wx.heap.size ≤ w2.heap.size := hJ.bel.size
    have HK := hide (show KOk (⟨wx.heap.size, B, wx, ⟨v0, v1, .slice (some ⟨b, off, none⟩) M.funcs.length c2, v5, v6⟩, ⟨M, F.tr, G.params ++ F.locals⟩, vl2, w2.heap.size⟩ : Kx) from ⟨HM.out.step HB1.out HB1.out.size, HCX.out, hB, hs2, Nat.le_refl _⟩)
    have HJ3 := hide (hJ.rehb HK0.out (.cells (madeCells #[.int .i64 0] F.body.length) 3))
    have HH3 := hide (HR.made (K := ⟨wx.heap.size, B, wx, ⟨v0, v1, .slice (some ⟨b, off, none⟩) M.funcs.length c2, v5, v6⟩, ⟨M, F.tr, G.params ++ F.locals⟩, vl2, B⟩) hJ.lt (vs := .slice none 0 0) (vf := vf) (by simp [Value.ownBlock]) (fun e => by have := (hJ.fr.lt _ e).2; omega) F.body.length)
    have HA0 := hide (show At ⟨M, F.tr, G.params ++ F.locals⟩ F.body (1000 * (f : Int)) (begW G.results) 0 [] (begW G.results) from
      ⟨rfl, beg_wf ⟨(HCX.out.sg G HG.out).2.1, (HCX.out.sg G HG.out).2.2.2⟩, by simp [begW], fun _ => ⟨by simpa [begW] using HCL.out, by simp [begW]⟩, by simp [comb_nil]⟩)
    have hn0 : w.heap.size < w2.heap.size := by have := HR1.out.lt; omega
    have hbl2 : b < w2.heap.size := by have hb : b < w.heap.size := hb; omega
    have y2 := (hJ.bel.cell (p := ⟨w.heap.size, 2, none⟩) HR1.out.lt).trans m2
    have y3 := (hJ.bel.cell (p := ⟨b, off + f * 4 + 3, none⟩) (by have hb : b < w.heap.size := hb; show b < wx.heap.size; omega)).trans q3'
    have z2 := ((bel_one w2 (.cells (madeCells #[.int .i64 0] F.body.length) 3)).cell (p := ⟨w.heap.size, 2, none⟩) hn0).trans y2
    have z3 := ((bel_one w2 (.cells (madeCells #[.int .i64 0] F.body.length) 3)).cell (p := ⟨b, off + f * 4 + 3, none⟩) hbl2).trans y3
    have MK : ∀ W : World, (Instr.makeSlice 23 (.int .i64 (F.body.length : Int)) (.int .i64 (F.body.length : Int))).run Tryz.prog W = .ok (.slice (some ⟨W.heap.size, 0, none⟩) F.body.length F.body.length) (W.alloc (.cells (madeCells #[.int .i64 0] F.body.length) 3)) := fun W => by
      have := run_make (P := Tryz.prog) W 23 3 i3 (.int .i64 0) Tryz.underlying23 hi3 hz30 .i64 .i64 F.body.length F.body.length (by omega) (Int.le_refl _) (by rw [hz32]; omega) (by omega)
      simpa [hz31, Value.cells] using this
    clear hJ m0 m1 m2 m3 m4 m5 m6 q3' BG
    go_wp2_with fail
    go_loopw [43] (fun i wr => ∃ (k : Nat) (s : Wk) (vs vf : Value) (fv : List (Fm × Value)) (d : List Int) (at_ : Int), k ≤ F.body.length ∧ i = .int .i64 k ∧ Hid (WJ (⟨wx.heap.size, B, wx, ⟨v0, v1, .slice (some ⟨b, off, none⟩) M.funcs.length c2, v5, v6⟩, ⟨M, F.tr, G.params ++ F.locals⟩, vl2, w2.heap.size⟩ : Kx) at_ s vs vf fv wr) ∧ Hid (At ⟨M, F.tr, G.params ++ F.locals⟩ F.body (1000 * (f : Int)) (begW G.results) k d s) ∧ Hid (HR (⟨wx.heap.size, B, wx, ⟨v0, v1, .slice (some ⟨b, off, none⟩) M.funcs.length c2, v5, v6⟩, ⟨M, F.tr, G.params ++ F.locals⟩, vl2, w2.heap.size⟩ : Kx) F.body.length d vs vf wr)) (fun i _ => F.body.length - (intOf i).toNat)
    case atStart => exact ⟨0, _, _, _, _, [], _, Nat.zero_le _, rfl, HJ3, HA0, HH3⟩
    case round =>
      obtain ⟨k, s, vs, vf', fv, d, at_, hk, rfl, HJ, HA, HH⟩ := hrel
      by_cases hlt : k < F.body.length
      · obtain ⟨b', off', hax, hb', hx64, g0, g1, g2⟩ := HBE.out k hlt
        have BW : Below w.heap.size w wr := below_next HB1.out HJ.out.bel
        have x0 := (BW.cell (p := ⟨b', off' + k * 3, none⟩) hb').trans g0
        have x1 := (BW.cell (p := ⟨b', off' + k * 3 + 1, none⟩) hb').trans g1
        have x2 := (BW.cell (p := ⟨b', off' + k * 3 + 2, none⟩) hb').trans g2
        have hx := HRT.out _ (List.getElem_mem hlt)
        have HNX := hide (fun s' => HA.out.next HCX.out hlt hx (s' := s'))
        have HDR := hide (drop_cons hlt)
        subst hax
        clear g0 g1 g2 HBE BW hx64
        generalize F.body[k] = x at *
        obtain ⟨op, nn, mm⟩ := x
        simp only at x0 x1 x2
        have hfr : s.fr.length ≤ 1000 := by have := HA.out.fr; omega
        have hne := (HA.out.cl hlt).2
        have hBw : B < wr.heap.size := HJ.out.lt
        have hHw : w2.heap.size < wr.heap.size := HJ.out.lo.1
        have c8 : wr.cell? ⟨B, 8, none⟩ = some (.int .i64 at_) := HJ.out.row.c 8 _ rfl
        have f8 : wr.frozen? ⟨B, 8, none⟩ = false := HJ.out.row.fr 8
        have hsw : (wr.setCell ⟨B, 8, none⟩ (.int .i64 (1000 * (f : Int) + k))).heap.size = wr.heap.size := by simp
        have HJ4 := hide ((HJ.out.setAt HK.out (1000 * (f : Int) + k)).alloc HK.out (.cells #[.int .i64 op, .int .i64 nn, .int .i64 mm] 44))
        have HH4 := hide ((HH.out.box 8 (.int .i64 (1000 * (f : Int) + k))).below (bel_one _ (.cells #[.int .i64 op, .int .i64 nn, .int .i64 mm] 44)))
        have HR4 := hide (show Row ((wr.setCell ⟨B, 8, none⟩ (.int .i64 (1000 * (f : Int) + k))).alloc (.cells #[.int .i64 op, .int .i64 nn, .int .i64 mm] 44)) wr.heap.size #[.int .i64 op, .int .i64 nn, .int .i64 mm] 44 by have T := Row.made (wr.setCell ⟨B, 8, none⟩ (.int .i64 (1000 * (f : Int) + k))) #[.int .i64 op, .int .i64 nn, .int .i64 mm] 44; rw [hsw] at T; exact T)
        clear hsw
        have HT := hide (height_any HK.out HJ4.out hfr)
        have HHX := hide hx
        have HNE := hide hne
        have HFR := hide hfr
        have hk0 : ¬ (k : Int) < 0 := by omega
        have hkn : (k : Int) < F.body.length := by omega
        clear hx hne
        go_wp2_with fail
        refine HT.out.mono ?_
        rintro e w4 ⟨rfl, hb4⟩
        have HJ5 := hide (HJ4.out.below HK.out hb4)
        have H5 := HH4.out.below hb4
        have R5 := HR4.out.kept hb4
        obtain ⟨u, hu⟩ := H5.cell hlt
        have fu := H5.row.fr k
        have hu : w4.cell? ⟨w2.heap.size, k, none⟩ = some (.int .i64 u) := hu
        have fu : w4.frozen? ⟨w2.heap.size, k, none⟩ = false := fu
        have HJ6 := hide (HJ5.out.setH HK.out H5.nb H5.ns H5.nf k (.int .i64 (hgt s)))
        have H6 := H5.set (hgt s) (hgt_i64 HA.out.wf) (by rw [HA.out.len]; exact hlt)
        rw [HA.out.len] at H6
        have HH6 := hide H6
        have R6 := R5.other (c := w2.heap.size) k (.int .i64 (hgt s)) (by omega)
        have n0 := R6.c 0 _ rfl
        have n1 := R6.c 1 _ rfl
        have n2 := R6.c 2 _ rfl
        clear hb4 H5 H6 R5 R6 HT
        go_wp2_with fail
        refine (instr_any HK.out HJ6.out HA.out.wf HFR.out HNE.out hSm ⟨op, nn, mm⟩ HHX.out).mono ?_
        intro e w6 he
        cases hin : insW ⟨M, F.tr, G.params ++ F.locals⟩ ⟨op, nn, mm⟩ s with
        | error c =>
          rw [hin] at he
          obtain ⟨p, rfl, hfa, hbb⟩ := he
          have hR := HRR.out
          rw [HA.out.eq, HDR.out, bodyW_err hin] at hR
          have HRE := hide (show R = .error (c, 1000 * (f : Int) + k) from hR.symm)
          have HFA := hide hfa
          have HBB := hide (below_next HB1.out hbb)
          clear hR hfa hbb hin
          go_wp2_with fail
          rw [HRE.out]
          exact ⟨rfl, p, rfl, HFA.out, HBB.out⟩
        | ok s' =>
          rw [hin] at he
          obtain ⟨rfl, vs2, vf2, fv2, J7, F7⟩ := he
          have HJ7 := hide J7
          have HH7 := hide (HH6.out.move F7)
          have HA7 := hide (HNX.out s' hin)
          clear J7 F7 hin
          go_wp2_with fail
          go_roundw
          case rel => exact ⟨k + 1, s', vs2, vf2, fv2, _, _, by omega, by go_num, HJ7, HA7, HH7⟩
          case measure => simp [intOf]; omega
      · obtain rfl : k = F.body.length := by omega
        go_wp2_with fail
        go_ret
        have hR := HRR.out
        rw [HA.out.eq] at hR
        simp only [List.drop_length, bodyW, comb, List.append_nil] at hR
        rw [← hR]
        have hlen := HA.out.len
        refine ⟨w2.heap.size, by rw [hlen]; rfl, ?_, below_next HB1.out HJ.out.bel⟩
        have := HH.out.all hlen (B := w.heap.size) (by show w.heap.size ≤ w2.heap.size; omega)
        rw [hlen]
        exact this
  · rw [if_pos her]
    have HE := hide ((held_er (opsF F.body) F.body.length).resolve_right her)
    have HER := hide her
    generalize Nest.er (opsF F.body) F.body.length = er at *
    clear her
    go_enter Tryz.func28, Tryz.ntmps28
    go_wp2_with fail
    refine SP.out.mono ?_
    rintro e w1 ⟨v, rfl, _, _, hb1⟩
    have HB1 := hide (below_next HB0.out hb1)
    have R1 := R0.out.kept hb1
    have m0 := R1.c 0 _ rfl
    have m1 := R1.c 1 _ rfl
    have m2 := R1.c 2 _ rfl
    have m3 := R1.c 3 _ rfl
    have m4 := R1.c 4 _ rfl
    have m5 := R1.c 5 _ rfl
    have m6 := R1.c 6 _ rfl
    have q3' := (HB1.out.cell (p := ⟨b, off + f * 4 + 3, none⟩) hb).trans q3
    have HR1 := hide R1
    clear hb1 SP R1 q3
    go_wp2_with fail
    refine (hold_no _ _ HER.out _).mono ?_
    rintro e w2 ⟨p, rfl, hfa, hb2⟩
    have HFA := hide hfa
    have HB2 := hide (below_next HB1.out hb2)
    clear hfa hb2
    go_wp2_with fail
    refine ⟨rfl, p, rfl, ?_, HB2.out⟩
    have := HFA.out
    rw [HE.out] at this
    exact this
end Go.Proofs.YtamofhkmhjckaabGreatDoor

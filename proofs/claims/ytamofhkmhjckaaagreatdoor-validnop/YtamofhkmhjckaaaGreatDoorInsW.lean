/-
  The statements' functions pick and with; a list of instructions with one more laid in, in memory.
-/
import Derived.Test.YtamofhkmhjckaaaGreatDoorTrust8
namespace Go.Proofs.YtamofhkmhjckaaaGreatDoor
open Go.RowKit

theorem tmod_pick {a : Int} {n : Nat} (h0 : 0 ≤ a) (hn : 0 < n) : ∃ k : Nat, k < n ∧ a.tmod n = k := by
  refine ⟨(a % n).toNat, ?_, ?_⟩
  · have := Int.emod_lt_of_pos a (show (0 : Int) < n by omega)
    have := Int.emod_nonneg a (show (n : Int) ≠ 0 by omega)
    omega
  · rw [Int.tmod_eq_emod_of_nonneg h0]
    have := Int.emod_nonneg a (show (n : Int) ≠ 0 by omega)
    omega
set_option maxRecDepth 100000 in
set_option maxHeartbeats 1600000 in
theorem pick_any (c : Int) (hc : I64 c) (n : Nat) (hn : 0 < n) (hn1 : n ≤ 1000000) (w : World) :
    Calls Tryz.prog 18 #[.int .i64 c, .int .i64 n] w fun e w' => ∃ k : Nat, k < n ∧ e = .returned (.int .i64 k) ∧ w' = w := by
  have hn0 : ¬ ((n : Int) = 0) := by omega
  obtain ⟨c1, c2⟩ := hc
  by_cases h0 : c < 0
  · obtain ⟨k, hk, e⟩ := tmod_pick (a := -(c + 1)) (by omega) hn
    have hw : wrap64 (c + 1) = c + 1 := by unfold wrap64; omega
    have hw2 : wrap64 (-(c + 1)) = -(c + 1) := by unfold wrap64; omega
    have HK := hide hk
    have HE := hide e
    clear hk e
    go_enter Tryz.func18, Tryz.ntmps18
    go_wp2_with fail
    go_ret
    exact ⟨k, HK.out, by rw [← HE.out, Int.neg_tmod]; rfl, rfl⟩
  · obtain ⟨k, hk, e⟩ := tmod_pick (a := c) (by omega) hn
    have HK := hide hk
    clear hk
    go_enter Tryz.func18, Tryz.ntmps18
    go_wp2_with fail
    go_ret
    exact ⟨k, HK.out, rfl, rfl⟩
theorem bd_row {fv : List FV} {M : Mo} {k : Nat} {body : List In} (hf : fv.map (·.1) = M.funcs) (hk : k < fv.length) (vl vb : Value) : (fv.set k (bdF fv[k].1 body, vl, vb)).map (·.1) = (bdM M k body).funcs := by
  refine List.ext_getElem? fun j => ?_
  rw [bd_get, ← hf, List.getElem?_map, List.getElem?_map, List.getElem?_set]
  by_cases h : k = j
  · subst h
    simp [hk]
  · simp [h]; rfl
set_option maxRecDepth 100000 in
set_option maxHeartbeats 4000000 in
theorem with_any (V : MoV) (M : Mo) (k : Nat) (hk : k < M.funcs.length) (hl : M.funcs.length ≤ 10000) (ab : Option Addr) (cb : Nat) (body : List In) (w : World) (h : IsMo w.heap.size w V M) (hb : SIns w.heap.size w (.slice ab body.length cb) body) :
    Calls Tryz.prog 19 #[moV V M, .int .i64 k, .slice ab body.length cb] w fun e w' => ∃ V', e = .returned (moV V' (bdM M k body)) ∧ IsMo w'.heap.size w' V' (bdM M k body) ∧ Below w.heap.size w w' := by
  obtain ⟨i51, hi51, hz510, hz511, hz512⟩ := info_parts Tryz.info51
  obtain ⟨a0, c0, a1, c1, a2, c2, a5, c5, a6, c6, rfl⟩ := h.forms
  have z0 := bel_one w (.cells #[.slice a0 M.sigs.length c0, .slice a1 M.imports.length c1, .slice a2 M.funcs.length c2, .int .i64 M.m0, .int .i64 M.m1, .slice a5 M.globals.length c5, .slice a6 M.data.length c6] 29)
  have HB0 := hide (z0.alloc z0.size (.cells #[.slice none 0 0, .slice none 0 0, .slice none 0 0, .int .i64 0, .int .i64 0, .slice none 0 0, .slice none 0 0] 29))
  have R0 := hide ((Row.made w #[.slice a0 M.sigs.length c0, .slice a1 M.imports.length c1, .slice a2 M.funcs.length c2, .int .i64 M.m0, .int .i64 M.m1, .slice a5 M.globals.length c5, .slice a6 M.data.length c6] 29).alloc (.cells #[.slice none 0 0, .slice none 0 0, .slice none 0 0, .int .i64 0, .int .i64 0, .slice none 0 0, .slice none 0 0] 29))
  have S0 := hide (Row.made (w.alloc (.cells #[.slice a0 M.sigs.length c0, .slice a1 M.imports.length c1, .slice a2 M.funcs.length c2, .int .i64 M.m0, .int .i64 M.m1, .slice a5 M.globals.length c5, .slice a6 M.data.length c6] 29)) #[.slice none 0 0, .slice none 0 0, .slice none 0 0, .int .i64 0, .int .i64 0, .slice none 0 0, .slice none 0 0] 29)
  have HM := hide h
  have HBD := hide hb
  unfold moV
  dsimp only
  clear h hb z0
  have hk0 : ¬ (k : Int) < 0 := by omega
  have hkn : (k : Int) < M.funcs.length := by omega
  go_enter Tryz.func19, Tryz.ntmps19
  go_wp2_with (at_builtin; refine append_fns _ rfl _ _ 24 rfl i51 Tryz.underlying24 hi51 hz510 hz511 hz512 rfl a2 c2 M.funcs rfl w.heap.size (by simp; omega) (HM.out.step HB0.out (Nat.le_refl _)).funcs (by omega) ?_)
  intro sb sc w3 fv hfv F3 b3
  have hlen : fv.length = M.funcs.length := by rw [← hfv]; simp
  have hkf : k < fv.length := by omega
  obtain ⟨g, rfl, hn', hg⟩ := F3.form (by omega)
  have b3 : Below ((w.alloc (.cells #[.slice a0 M.sigs.length c0, .slice a1 M.imports.length c1, .slice a2 M.funcs.length c2, .int .i64 M.m0, .int .i64 M.m1, .slice a5 M.globals.length c5, .slice a6 M.data.length c6] 29)).alloc (.cells #[.slice none 0 0, .slice none 0 0, .slice none 0 0, .int .i64 0, .int .i64 0, .slice none 0 0, .slice none 0 0] 29)).heap.size ((w.alloc (.cells #[.slice a0 M.sigs.length c0, .slice a1 M.imports.length c1, .slice a2 M.funcs.length c2, .int .i64 M.m0, .int .i64 M.m1, .slice a5 M.globals.length c5, .slice a6 M.data.length c6] 29)).alloc (.cells #[.slice none 0 0, .slice none 0 0, .slice none 0 0, .int .i64 0, .int .i64 0, .slice none 0 0, .slice none 0 0] 29)) w3 := by simpa using b3
  have R3 := R0.out.kept b3
  have S3 := S0.out.kept b3
  rw [show (w.alloc (.cells #[.slice a0 M.sigs.length c0, .slice a1 M.imports.length c1, .slice a2 M.funcs.length c2, .int .i64 M.m0, .int .i64 M.m1, .slice a5 M.globals.length c5, .slice a6 M.data.length c6] 29)).heap.size = w.heap.size + 1 by simp] at S3
  have HB3 := hide (below_next HB0.out b3)
  have q3 := F3.c hn' k hkf 3 (by omega)
  have e3 : (fce fv[k])[3]? = some fv[k].2.2 := rfl
  rw [e3] at q3
  have f3 : w3.frozen? ⟨g, k * 4 + 3, none⟩ = false := by
    have h := F3.own
    rw [← hn'] at h
    exact h.frozenAt _
  have ok := F3.ok _ (List.getElem_mem hkf)
  have F4 := F3.set hn' k hkf 3 (by omega) (.slice ab body.length cb) (bdF fv[k].1 body, fv[k].2.1, .slice ab body.length cb) rfl ⟨ok.1, ok.2.1, HBD.out.to keeps_in (fun i hi => HB3.out.block i hi) (fun _ hi => hi)⟩
  have HF4 := hide F4
  have HFV := hide hfv
  have HN := hide hn'
  have HR3 := hide R3
  have HS3 := hide S3
  have n1 : ¬ w.heap.size = g := by omega
  have n2 : ¬ w.heap.size + 1 = g := by omega
  have n3 : ¬ g = w.heap.size := by omega
  have n4 : ¬ g = w.heap.size + 1 := by omega
  have f2 := R3.fr 2
  have r0 := R3.c 0 _ rfl
  have r1 := R3.c 1 _ rfl
  have r2 := R3.c 2 _ rfl
  have r3 := R3.c 3 _ rfl
  have r4 := R3.c 4 _ rfl
  have r5 := R3.c 5 _ rfl
  have r6 := R3.c 6 _ rfl
  have s0 := S3.c 0 _ rfl
  have y0 := S3.fr 0
  have s1 := S3.c 1 _ rfl
  have y1 := S3.fr 1
  have s2 := S3.c 2 _ rfl
  have y2 := S3.fr 2
  have s3 := S3.c 3 _ rfl
  have y3 := S3.fr 3
  have s4 := S3.c 4 _ rfl
  have y4 := S3.fr 4
  have s5 := S3.c 5 _ rfl
  have y5 := S3.fr 5
  have s6 := S3.c 6 _ rfl
  have y6 := S3.fr 6
  simp only [List.getElem_toArray, List.getElem_cons_zero, List.getElem_cons_succ] at r0 r1 r2 r3 r4 r5 r6 s0 s1 s2 s3 s4 s5 s6
  have hgw : g < w3.heap.size := (F3.own.lt g rfl).2
  clear F4 F3 R3 S3 hfv hn' ok b3
  go_wp2_with fail
  have FZ := (((((((HF4.out.store (b := w.heap.size) (o := 2) (u := Value.slice (some ⟨g, 0, none⟩) M.funcs.length sc) (by omega) (by omega)).store (b := w.heap.size + 1) (o := 0) (u := Value.slice a0 M.sigs.length c0) (by omega) (by omega)).store (b := w.heap.size + 1) (o := 1) (u := Value.slice a1 M.imports.length c1) (by omega) (by omega)).store (b := w.heap.size + 1) (o := 2) (u := Value.slice (some ⟨g, 0, none⟩) M.funcs.length sc) (by omega) (by omega)).store (b := w.heap.size + 1) (o := 3) (u := Value.int .i64 M.m0) (by omega) (by omega)).store (b := w.heap.size + 1) (o := 4) (u := Value.int .i64 M.m1) (by omega) (by omega)).store (b := w.heap.size + 1) (o := 5) (u := Value.slice a5 M.globals.length c5) (by omega) (by omega)).store (b := w.heap.size + 1) (o := 6) (u := Value.slice a6 M.data.length c6) (by omega) (by omega)
  have SZ := ((((((((HS3.out.other (c := g) (k * 4 + 3) (.slice ab body.length cb) (by omega)).other (c := w.heap.size) 2 (.slice (some ⟨g, 0, none⟩) M.funcs.length sc) (by omega)).set 0 (Value.slice a0 M.sigs.length c0)).set 1 (Value.slice a1 M.imports.length c1)).set 2 (Value.slice (some ⟨g, 0, none⟩) M.funcs.length sc)).set 3 (Value.int .i64 M.m0)).set 4 (Value.int .i64 M.m1)).set 5 (Value.slice a5 M.globals.length c5)).set 6 (Value.slice a6 M.data.length c6)
  have BZ := ((((((((HB3.out.setCell (p := ⟨g, k * 4 + 3, none⟩) (by show w.heap.size ≤ g; omega) (.slice ab body.length cb)).setCell (p := ⟨w.heap.size, 2, none⟩) (Nat.le_refl _) (Value.slice (some ⟨g, 0, none⟩) M.funcs.length sc)).setCell (p := ⟨w.heap.size + 1, 0, none⟩) (by show w.heap.size ≤ w.heap.size + 1; omega) (Value.slice a0 M.sigs.length c0)).setCell (p := ⟨w.heap.size + 1, 1, none⟩) (by show w.heap.size ≤ w.heap.size + 1; omega) (Value.slice a1 M.imports.length c1)).setCell (p := ⟨w.heap.size + 1, 2, none⟩) (by show w.heap.size ≤ w.heap.size + 1; omega) (Value.slice (some ⟨g, 0, none⟩) M.funcs.length sc)).setCell (p := ⟨w.heap.size + 1, 3, none⟩) (by show w.heap.size ≤ w.heap.size + 1; omega) (Value.int .i64 M.m0)).setCell (p := ⟨w.heap.size + 1, 4, none⟩) (by show w.heap.size ≤ w.heap.size + 1; omega) (Value.int .i64 M.m1)).setCell (p := ⟨w.heap.size + 1, 5, none⟩) (by show w.heap.size ≤ w.heap.size + 1; omega) (Value.slice a5 M.globals.length c5)).setCell (p := ⟨w.heap.size + 1, 6, none⟩) (by show w.heap.size ≤ w.heap.size + 1; omega) (Value.slice a6 M.data.length c6)
  generalize World.setCell _ _ _ = W' at FZ SZ BZ ⊢
  have SY : Row W' (w.heap.size + 1) #[Value.slice a0 M.sigs.length c0, Value.slice a1 M.imports.length c1, Value.slice (some ⟨g, 0, none⟩) M.funcs.length sc, Value.int .i64 M.m0, Value.int .i64 M.m1, Value.slice a5 M.globals.length c5, Value.slice a6 M.data.length c6] 29 := by simpa using SZ
  have hl' := run_loadVar_row (P := Tryz.prog) W' (w.heap.size + 1) 29 29 _ _ _ SY Tryz.underlying29 rfl (by kernel_rfl)
  have q := HM.out.step BZ BZ.size
  have fs := FZ.sl
  rw [bd_row HFV.out hkf] at fs
  refine ⟨rfl, .agg #[Value.slice a0 M.sigs.length c0, Value.slice a1 M.imports.length c1, Value.slice (some ⟨g, 0, none⟩) M.funcs.length sc, Value.int .i64 M.m0, Value.int .i64 M.m1, Value.slice a5 M.globals.length c5, Value.slice a6 M.data.length c6], by simp [results, Tryz.f19, asAddr, hl'], ⟨Value.slice a0 M.sigs.length c0, Value.slice a1 M.imports.length c1, Value.slice (some ⟨g, 0, none⟩) M.funcs.length sc, Value.slice a5 M.globals.length c5, Value.slice a6 M.data.length c6⟩, rfl, ?_, BZ⟩
  exact ⟨q.sigs, q.imports, fs, q.mems, q.globals, q.data⟩
theorem Sl.first {α : Type} {sz : Nat} {R : (Nat → Prop) → World → Nat → Nat → α → Prop} {S : Nat → Prop} {W : World} {b off c : Nat} {l : List α} (h : Sl sz R S W (.slice (some ⟨b, off, none⟩) l.length c) l) (p c' : Nat) (hp : p ≤ l.length) :
    Sl sz R S W (.slice (some ⟨b, off, none⟩) (l.take p).length c') (l.take p) := by
  obtain ⟨a, cap, e, he⟩ := h
  simp only [Value.slice.injEq, true_and] at e
  obtain ⟨rfl, rfl⟩ := e
  refine ⟨_, _, rfl, fun j hj => ?_⟩
  have hj' : j < l.length := by simp at hj; omega
  obtain ⟨b', o', e, hs, hr⟩ := he j hj'
  exact ⟨b', o', e, hs, by rw [List.getElem_take]; exact hr⟩
theorem Sl.rest {α : Type} {sz : Nat} {R : (Nat → Prop) → World → Nat → Nat → α → Prop} {S : Nat → Prop} {W : World} {b off c : Nat} {l : List α} (h : Sl sz R S W (.slice (some ⟨b, off, none⟩) l.length c) l) (p c' : Nat) :
    Sl sz R S W (.slice (some ⟨b, off + p * sz, none⟩) (l.drop p).length c') (l.drop p) := by
  obtain ⟨a, cap, e, he⟩ := h
  simp only [Value.slice.injEq, true_and] at e
  obtain ⟨rfl, rfl⟩ := e
  refine ⟨_, _, rfl, fun j hj => ?_⟩
  have hj' : p + j < l.length := by simp at hj; omega
  obtain ⟨b', o', e, hs, hr⟩ := he (p + j) hj'
  simp only [Option.some.injEq, Addr.mk.injEq, and_true] at e
  obtain ⟨rfl, rfl⟩ := e
  refine ⟨b, off + p * sz, rfl, hs, ?_⟩
  rw [List.getElem_drop, Nat.add_assoc, ← Nat.add_mul]; exact hr
theorem celsI_app (l m : List In) : celsI (l ++ m) = celsI l ++ celsI m := by simp [celsI]
theorem celsI_len : ∀ l : List In, (celsI l).length = l.length * 3
  | [] => rfl
  | x :: r => by
    have := celsI_len r
    simp only [celsI, List.flatMap_cons, List.length_append, List.length_cons] at this ⊢
    rw [this]; simp; omega
theorem celsI_one (l : List In) : ∀ u ∈ celsI l, u.oneCell' = true := by
  intro u hu
  obtain ⟨x, _, hu⟩ := List.mem_flatMap.1 hu
  simp only [List.mem_cons, List.not_mem_nil, or_false] at hu
  rcases hu with rfl | rfl | rfl <;> rfl
theorem ins_news {S : Nat → Prop} {W : World} {ad : Addr} {c : Nat} {l : List In} (h : Sl 3 EIn S W (.slice (some ad) l.length c) l) : ∀ j u, (celsI l)[j]? = some u → W.cell? (ad.add j) = some u := by
  intro j u hu
  have hlt : j < l.length * 3 := by rw [← celsI_len]; exact (List.getElem?_eq_some_iff.1 hu).1
  obtain ⟨a, cap, e, he⟩ := h
  simp only [Value.slice.injEq, true_and] at e
  obtain ⟨rfl, rfl⟩ := e
  have hq : j / 3 < l.length := by omega
  obtain ⟨b, off, e, _, _, c0, c1, c2⟩ := he (j / 3) hq
  simp only [Option.some.injEq] at e
  subst e
  obtain ⟨d0, d1, d2⟩ := celsI_at l (j / 3) hq
  rw [Addr.add_lit]
  rcases (show j = j / 3 * 3 ∨ j = j / 3 * 3 + 1 ∨ j = j / 3 * 3 + 2 by omega) with h | h | h
  · rw [h, d0] at hu; rw [h, ← hu]; exact c0
  · rw [h, d1] at hu; rw [h, ← hu]; exact c1
  · rw [h, d2] at hu; rw [h, ← hu]; exact c2
theorem Tryz.info53 : (Tryz.prog.info? 53).map (fun i => (i.zero, i.size, i.bytes)) = some (some (.agg #[.int .i64 0, .int .i64 0, .int .i64 0]), 3, 24) := by kernel_rfl
/-- instructions are appended to a row of one's own -/
theorem append_ins {P : Program} (w : World) {ops : Array Oper} {rest : List Oper} {o : Oper} {a : Act} {Q : Exit → Act → World → Prop} (hgd : o.guard = none) (s x : Operand) (t : TypeId)
    (ho : o.op = .call { callee := .builtin .append, args := #[s, x], argTypes := #[t, t] })
    (base : Nat) (i : TypeInfo) (ht : P.underlying t = some (.slice 53)) (hi : P.info? 53 = some i) (hz : i.zero = some (.agg #[.int .i64 0, .int .i64 0, .int .i64 0])) (hsize : i.size = 3) (hby : i.bytes = 24)
    (v : Value) (l0 : List In) (hs : a.eval s = v) (hown : w.ownsRow base 53 3 v l0.length (celsI l0))
    (ad : Addr) (n xc : Nat) (l : List In) (hx : a.eval x = .slice (some ad) n xc) (hln : l.length = n) (hsl : ∃ S, Sl 3 EIn S w (.slice (some ad) l.length xc) l) (hn : l0.length + l.length ≤ 10000) (hbase : base ≤ w.heap.size) (tot : Nat) (htot : l0.length + l.length = tot)
    (h : ∀ sb' sc' w', w'.ownsRow base 53 3 (.slice sb' tot sc') tot (celsI (l0 ++ l)) → w.grownBy w' v.ownBlock → wpList P ops Q rest (a.put o.dst (.slice sb' tot sc')) w') : wpList P ops Q (o :: rest) a w := by
  subst hln
  subst htot
  obtain ⟨S, hsl⟩ := hsl
  refine wpList_append_own w hgd s x t ho base 53 i _ 3 24 ht hi hz hsize hby rfl (by decide) _ l0.length _ hs hown ad l.length xc (celsI l) hx (celsI_len l) (ins_news hsl) (celsI_one l) (by unfold maxLen; omega) (by omega) hbase ?_
  intro v' w' own' grow' _
  obtain ⟨sb', sc', rfl⟩ := Nest.own_slice own'
  exact h sb' sc' w' (by rw [celsI_app]; exact own') grow'
theorem own_ins {W : World} {base : Nat} {v : Value} {n : Nat} {l : List In} (h : W.ownsRow base 53 3 v n (celsI l)) (hn : n = l.length) (h64 : ∀ x ∈ l, I64I x) (hl : l ≠ []) : ∃ g c, v = .slice (some ⟨g, 0, none⟩) l.length c ∧ base ≤ g ∧ SIns W.heap.size W v l := by
  subst hn
  have lt0 := h.lt
  rcases h.2 with ⟨rfl, hz⟩ | ⟨g, cap, cur, rfl, hb, _⟩
  · exact absurd (List.length_eq_zero_iff.1 hz) hl
  · refine ⟨g, cap, rfl, hb, some ⟨g, 0, none⟩, cap, rfl, fun j hj => ⟨g, 0, rfl, (lt0 g rfl).2, h64 _ (List.getElem_mem hj), ?_⟩⟩
    obtain ⟨d0, d1, d2⟩ := celsI_at l j hj
    rw [Nat.zero_add]
    exact ⟨(h.cellAt _ (by omega)).trans d0, (h.cellAt _ (by omega)).trans d1, (h.cellAt _ (by omega)).trans d2⟩
theorem sl_i64s {S : Nat → Prop} {v : Value} {l : List In} {w : World} (h : Sl 3 EIn S w v l) : ∀ x ∈ l, I64I x := fun x hx => by
  obtain ⟨a, c, _, he⟩ := h
  obtain ⟨j, hj, rfl⟩ := List.getElem_of_mem hx
  obtain ⟨b, off, _, _, h64, _⟩ := he j hj; exact h64
theorem ints_news {S : Nat → Prop} {W : World} {ad : Addr} {c : Nat} {l : List Int} (h : Sl 1 EInt S W (.slice (some ad) l.length c) l) : ∀ j u, (l.map (Value.int .i64))[j]? = some u → W.cell? (ad.add j) = some u := by
  intro j u hu
  have hlt : j < l.length := by have := (List.getElem?_eq_some_iff.1 hu).1; simpa using this
  obtain ⟨a, cap, e, he⟩ := h
  simp only [Value.slice.injEq, true_and] at e
  obtain ⟨rfl, rfl⟩ := e
  obtain ⟨b, off, e, _, _, c0⟩ := he j hlt
  simp only [Option.some.injEq] at e
  subst e
  rw [Addr.add_lit, ← hu]
  rw [Nat.mul_one] at c0
  simpa [hlt] using c0
/-- numbers are appended to a row of one's own -/
theorem append_nums {P : Program} (w : World) {ops : Array Oper} {rest : List Oper} {o : Oper} {a : Act} {Q : Exit → Act → World → Prop} (hgd : o.guard = none) (s x : Operand) (t : TypeId)
    (ho : o.op = .call { callee := .builtin .append, args := #[s, x], argTypes := #[t, t] })
    (base : Nat) (i : TypeInfo) (ht : P.underlying t = some (.slice 3)) (hi : P.info? 3 = some i) (hz : i.zero = some (.int .i64 0)) (hsize : i.size = 1) (hby : i.bytes = 8)
    (v : Value) (l0 : List Int) (hs : a.eval s = v) (hown : w.ownsRow base 3 1 v l0.length (l0.map (Value.int .i64)))
    (ad : Addr) (n xc : Nat) (l : List Int) (hx : a.eval x = .slice (some ad) n xc) (hln : l.length = n) (hsl : ∃ S, Sl 1 EInt S w (.slice (some ad) l.length xc) l) (hn : l0.length + l.length ≤ 10000) (hbase : base ≤ w.heap.size) (tot : Nat) (htot : l0.length + l.length = tot)
    (h : ∀ sb' sc' w', w'.ownsRow base 3 1 (.slice sb' tot sc') tot ((l0 ++ l).map (Value.int .i64)) → w.grownBy w' v.ownBlock → wpList P ops Q rest (a.put o.dst (.slice sb' tot sc')) w') : wpList P ops Q (o :: rest) a w := by
  subst hln
  subst htot
  obtain ⟨S, hsl⟩ := hsl
  refine wpList_append_own w hgd s x t ho base 3 i _ 1 8 ht hi hz hsize hby rfl (by decide) _ l0.length _ hs hown ad l.length xc (l.map (Value.int .i64)) hx (by simp) (ints_news hsl) (fun u hu => by obtain ⟨x, _, rfl⟩ := List.mem_map.1 hu; rfl) (by unfold maxLen; omega) (by omega) hbase ?_
  intro v' w' own' grow' _
  obtain ⟨sb', sc', rfl⟩ := Nest.own_slice own'
  exact h sb' sc' w' (by rw [List.map_append]; exact own') grow'
theorem own_nums {W : World} {base : Nat} {v : Value} {n : Nat} {l : List Int} (h : W.ownsRow base 3 1 v n (l.map (Value.int .i64))) (hn : n = l.length) (h64 : ∀ x ∈ l, I64 x) : SInts W.heap.size W v l := by
  subst hn
  have lt0 := h.lt
  rcases h.2 with ⟨rfl, hz⟩ | ⟨g, cap, cur, rfl, hb, _⟩
  · have := List.length_eq_zero_iff.1 hz
    subst this
    exact Sl.isNil _ _ _ _
  · refine ⟨some ⟨g, 0, none⟩, cap, rfl, fun j hj => ⟨g, 0, rfl, (lt0 g rfl).2, h64 _ (List.getElem_mem hj), ?_⟩⟩
    rw [Nat.zero_add, Nat.mul_one]
    exact (h.cellAt _ (by omega)).trans (by simp [hj])
end Go.Proofs.YtamofhkmhjckaaaGreatDoor

/-
  Bytes that are laid behind others: a row of bytes that one owns, and what the program's put and number leave.
-/
import Derived.Test.YtielpebokbolbaaCRightA
import Derived.Maps.AppendAt
import Derived.Laws.IdiomStrings
namespace Go.Proofs.Ytielpebokbolbaa.Xc
open Go.RowKit
set_option linter.unusedSimpArgs false
set_option linter.unusedVariables false

/-- Bytes as cells. -/
def bc (l : List UInt8) : List Value := l.map fun b => Value.int .u8 (b.toNat : Int)
/-- v is a slice of bytes of one's own. -/
def BRow (B : Nat) (v : Value) (l : List UInt8) (w : World) : Prop := w.ownsRow B 5 1 v l.length (bc l)
/-- What grows: the row's own block alone may have changed. -/
def Gr (w w' : World) (v v' : Value) : Prop := w.grownBy w' v.ownBlock ∧ (v'.ownBlock = v.ownBlock ∨ ∃ k, v'.ownBlock = some k ∧ w.heap.size ≤ k)
theorem Gr.refl (w : World) (v : Value) : Gr w w v v := ⟨⟨rfl, rfl, rfl, Nat.le_refl _, fun _ _ _ => rfl⟩, Or.inl rfl⟩
theorem Gr.trans {w w1 w2 : World} {v v1 v2 : Value} (h : Gr w w1 v v1) (k : Gr w1 w2 v1 v2) : Gr w w2 v v2 := by
  obtain ⟨⟨a1, a2, a3, a4, a5⟩, a6⟩ := h
  obtain ⟨⟨b1, b2, b3, b4, b5⟩, b6⟩ := k
  refine ⟨⟨b1.trans a1, b2.trans a2, b3.trans a3, Nat.le_trans a4 b4, fun i hi hne => ?_⟩, ?_⟩
  · rw [b5 i (Nat.lt_of_lt_of_le hi a4) ?_, a5 i hi hne]
    rcases a6 with h | ⟨q, h, hq⟩
    · rw [h]; exact hne
    · rw [h]; intro e; simp at e; omega
  · rcases b6 with h | ⟨q, h, hq⟩
    · rw [h]; exact a6
    · exact Or.inr ⟨q, h, Nat.le_trans a4 hq⟩
theorem Gr.below {w w' : World} {v : Value} (h : Below w.heap.size w w') : Gr w w' v v := ⟨⟨h.os, h.tape, h.output, h.size, fun k hk _ => h.block k hk⟩, Or.inl rfl⟩
theorem Gr.alloc (w : World) (v : Value) (o : Obj) : Gr w (w.alloc o) v v := .below (bel_one w o)
theorem Gr.block {w w' : World} {v v' : Value} (h : Gr w w' v v') {k : Nat} (hk : k < w.heap.size) (hne : some k ≠ v.ownBlock) : w'.heap[k]? = w.heap[k]? := h.1.block k hk hne
theorem Gr.bel {w w' : World} {v v' : Value} (h : Gr w w' v v') {B : Nat} {l : List UInt8} (hr : BRow B v l w) (hB : B ≤ w.heap.size) : Below B w w' := by
  refine ⟨h.1.os, h.1.tape, h.1.output, h.1.size, fun k hk => h.1.block k (Nat.lt_of_lt_of_le hk hB) ?_⟩
  intro e
  have := (World.ownsRow.lt hr k e.symm).1
  omega
theorem BRow.kept {B : Nat} {v : Value} {l : List UInt8} {w w' : World} (h : BRow B v l w) (k : Below w.heap.size w w') : BRow B v l w' := by
  refine World.ownsRow.kept (row := none) h ⟨k.os, k.tape, k.output, k.size, fun i hi _ => k.block i hi⟩ ?_
  cases hv : v.ownBlock
  · exact Or.inl rfl
  · exact Or.inr (by simp)
theorem BRow.alloc {B : Nat} {v : Value} {l : List UInt8} {w : World} (h : BRow B v l w) (o : Obj) : BRow B v l (w.alloc o) := World.ownsRow.alloc h o
theorem bc_append (a b : List UInt8) : bc (a ++ b) = bc a ++ bc b := by simp [bc]
theorem bc_one (v : Int) : bc [by8 v] = [Value.int .u8 (v % 256)] := by simp [bc, by8_val]
theorem one_at (w : World) (x : Int) : ∀ j u, [Value.int .u8 x][j]? = some u → (w.alloc (.cells #[.int .u8 x] 5)).cell? ((⟨w.heap.size, 0, none⟩ : Addr).add j) = some u := by
  intro j u hj
  match j, hj with
  | 0, hj => simp at hj; subst hj; simp [Addr.add]
theorem one_cell (x : Int) : ∀ u, u ∈ [Value.int .u8 x] → u.oneCell' = true := by
  intro u hu
  simp at hu
  subst hu
  rfl
theorem BRow.more {B : Nat} {v' : Value} {l : List UInt8} {w' : World} {x : Int} (h : w'.ownsRow B 5 1 v' (l.length + 1) (bc l ++ [Value.int .u8 (x % 256)])) : BRow B v' (l ++ [by8 x]) w' := by
  unfold BRow
  rw [bc_append, bc_one, List.length_append]
  exact h
theorem BRow.more2 {B : Nat} {v' : Value} {l : List UInt8} {w' : World} {x : Int} (h0 : 0 ≤ x) (h1 : x ≤ 255) (h : w'.ownsRow B 5 1 v' (l.length + 1) (bc l ++ [Value.int .u8 x])) : BRow B v' (l ++ [by8 x]) w' :=
  BRow.more (by rw [show x % 256 = x by omega]; exact h)
theorem Gr.one {w w1 : World} {v v1 : Value} {o : Obj} (hg : (w.alloc o).grownBy w1 v.ownBlock) (hv : v1.ownBlock = v.ownBlock ∨ v1.ownBlock = some (w.heap.size + 1)) : Gr w w1 v v1 :=
  (Gr.alloc w v o).trans ⟨hg, hv.imp id fun h => ⟨_, h, by simp⟩⟩
/-- The string of a row. -/
theorem run_own {B : Nat} {v : Value} {l : List UInt8} {w : World} (h : BRow B v l w) (h0 : 0 < l.length) : (convert 50 9 v).run Try.prog w = .ok (.string ⟨l.toArray⟩) w := by
  have h := h
  unfold BRow at h
  rcases h.2 with ⟨_, hz⟩ | ⟨g, cap, cur, rfl, _, _, _, _, _, _⟩
  · omega
  · have hc : ∀ j (hj : j < l.length), w.cell? ((⟨g, 0, none⟩ : Addr).add j) = some (.int .u8 (l[j].toNat : Int)) := fun j hj => by
      rw [Addr.add_lit, Nat.zero_add, h.cellAt j (by omega)]
      simp [bc, hj]
    exact run_convert_bytes_back (P := Try.prog) w 50 9 5 ⟨g, 0, none⟩ cap l Try.underlying50 Try.underlying5 Try.underlying9 hc
theorem Try.info5 : (Try.prog.info? 5).map (fun i => (i.zero, i.size, i.bytes)) = some (some (.int .u8 0), 1, 1) := by kernel_rfl
set_option maxHeartbeats 2000000 in
theorem number_any (B : Nat) (v : Value) (l : List UInt8) (n : Int) (m : Nat) (w : World) (hB : B ≤ w.heap.size) (hr : BRow B v l w) (hl : l.length + m ≤ 140737488355328) (hm : m ≤ 8) (hn : I64 n) :
    Calls Try.prog 46 #[v, .int .i64 n, .int .i64 (m : Int)] w fun e w' => ∃ v', e = .returned v' ∧ BRow B v' (l ++ bys m n) w' ∧ Gr w w' v v' := by
  obtain ⟨i0, hi, hz0, hz1, hz2⟩ := info_parts Try.info5
  go_enter Try.func46, Try.ntmps46
  go_wp2
  go_loopw [0, 9] (fun out iv wr => ∃ k : Nat, k ≤ m ∧ iv = .int .i64 (k : Int) ∧ BRow B out (l ++ bys k n) wr ∧ Gr w wr v out) (fun _ iv _ => m - (intOf iv).toNat)
  case atStart => exact ⟨0, Nat.zero_le _, rfl, by simpa [bys] using hr, Gr.refl _ _⟩
  case round =>
    obtain ⟨k, hk, rfl, hrow, hgr⟩ := hrel
    have hB' : B ≤ wr.heap.size := Nat.le_trans hB hgr.1.size
    by_cases hlt : k < m
    · have hle : (l ++ bys k n).length + 1 ≤ 140737488355328 := by simp only [List.length_append, bys_len]; omega
      have hp : (2 : Int) ^ (8 * k) = 256 ^ k := by rw [Int.pow_mul]; rfl
      have HP := hide hp
      have HS := hide (bys_snoc k n)
      obtain ⟨lk, hlk⟩ : ∃ lk, lk = l ++ bys k n := ⟨_, rfl⟩
      rw [← hlk] at hrow hle
      have HL := hide hlk
      have HR := hide hrow
      have HG := hide hgr
      clear hrow hgr hp hr hlk
      go_wp2_with (at_builtin; refine wpList_append_own_at _ rfl (.tmp 12) (.tmp 18) 50 rfl B 5 i0 (.int .u8 0) 1 1 Try.underlying50 hi hz0 hz1 hz2 rfl (by decide) _ _ _ rfl (HR.out.alloc _) ⟨wr.heap.size, 0, none⟩ 1 1 [.int .u8 (n / 2 ^ (8 * k) % 256)] rfl rfl (one_at _ _) (one_cell _) (by unfold maxLen; omega) (by omega) (by simp; omega) ?_)
      intro v' w1 hown' hgrow _ hat
      have hg2 := hide (HG.out.trans (Gr.one hgrow hat))
      have hr2 := hide (BRow.more hown')
      clear hown' hgrow HR HG hat
      go_wp2
      go_roundw
      case rel => exact ⟨k + 1, hlt, by go_num, by rw [HS.out, ← List.append_assoc, ← HP.out, ← HL.out]; exact hr2.out, hg2.out⟩
      case measure => simp [intOf]; omega
    · have hkm : k = m := by omega
      subst hkm
      go_wp2
      go_ret
      exact ⟨_, rfl, hrow, hgr⟩

/-- Numbers in a block of their own. -/
def IRow (g : Nat) (os : List Int) (w : World) : Prop := g < w.heap.size ∧ ∀ j (h : j < os.length), w.cell? ⟨g, j, none⟩ = some (.int .i64 os[j])
theorem IRow.gr {g : Nat} {os : List Int} {w w' : World} {v v' : Value} (h : IRow g os w) (k : Gr w w' v v') (hne : some g ≠ v.ownBlock) : IRow g os w' := by
  refine ⟨Nat.lt_of_lt_of_le h.1 k.1.size, fun j hj => ?_⟩
  rw [World.cell?_of_block (w := w) (k.block h.1 hne)]
  exact h.2 j hj
def twos (os : List Int) : List UInt8 := os.flatMap two
theorem two_len (o : Int) : (two o).length ≤ 2 := by unfold two; split <;> simp
theorem twos_snoc (os : List Int) (k : Nat) (h : k < os.length) : twos (os.take (k + 1)) = twos (os.take k) ++ two os[k] := by
  show (os.take (k + 1)).flatMap two = _
  rw [List.take_succ_eq_append_getElem h, List.flatMap_append]; simp [twos]
theorem twos_len (os : List Int) : (twos os).length ≤ 2 * os.length := by
  induction os with
  | nil => simp [twos]
  | cons o os ih =>
    have := two_len o
    simp only [twos, List.flatMap_cons, List.length_append, List.length_cons] at *
    omega
set_option maxHeartbeats 4000000 in
theorem put_any (B : Nat) (v : Value) (l : List UInt8) (p : Int) (os : List Int) (g cap : Nat) (w : World) (hB : B ≤ w.heap.size) (hr : BRow B v l w) (hl : l.length + 7 ≤ 140737488355328)
    (hp0 : 64 ≤ p) (hp1 : p ≤ 79) (hos : IRow g os w) (hg : some g ≠ v.ownBlock) (hin : ∀ o ∈ os, 0 ≤ o ∧ o ≤ 4095) (hm : os.length ≤ 3) :
    Calls Try.prog 47 #[v, .int .i64 p, .slice (some ⟨g, 0, none⟩) os.length cap] w fun e w' => ∃ v', e = .returned v' ∧ BRow B v' (l ++ (pre p ++ twos os)) w' ∧ Gr w w' v v' := by
  obtain ⟨i0, hi, hz0, hz1, hz2⟩ := info_parts Try.info5
  have HI := hide hin
  have HO := hide hos
  clear hin hos
  by_cases hp : p = 64
  · obtain ⟨l0, hl0⟩ : ∃ l0, l0 = l ++ pre p := ⟨_, rfl⟩
    have HL0 := hide hl0
    have e0 : l0 = l := by rw [hl0, pre, if_pos hp]; simp
    have hl0' : l0.length + 6 ≤ 140737488355328 := by rw [e0]; omega
    have R0 : Hid (BRow B v l0 w) := by show BRow B v l0 w; rw [e0]; exact hr
    have G0 := hide (Gr.refl w v)
    clear hl0 e0 hr
    subst hp
    go_enter Try.func47, Try.ntmps47
    go_wp2
    go_loopw [0, 18] (fun out iv wr => ∃ k : Nat, k ≤ os.length ∧ iv = .int .i64 (k : Int) ∧ BRow B out (l0 ++ twos (os.take k)) wr ∧ Gr w wr v out) (fun _ iv _ => os.length - (intOf iv).toNat)
    case atStart => exact ⟨0, Nat.zero_le _, rfl, by simpa [twos] using R0.out, G0.out⟩
    case round =>
      obtain ⟨k, hk, rfl, hrow, hgr⟩ := hrel
      have hB' : B ≤ wr.heap.size := Nat.le_trans hB hgr.1.size
      clear R0 G0
      by_cases hlt : k < os.length
      · have hc := (HO.out.gr hgr hg).2 k hlt
        have ho := HI.out _ (List.getElem_mem hlt)
        have HT := hide (twos_snoc os k hlt)
        have hle : (l0 ++ twos (os.take k)).length + 2 ≤ 140737488355328 := by
          have h1 := twos_len (os.take k)
          have h2 : (os.take k).length = k := by simp; omega
          simp only [List.length_append]; omega
        obtain ⟨lk, hlk⟩ : ∃ lk, lk = l0 ++ twos (os.take k) := ⟨_, rfl⟩
        rw [← hlk] at hrow hle
        have HL := hide hlk
        have HR := hide hrow
        have HG := hide hgr
        have HC := hide hc
        clear hrow hgr hlk
        obtain ⟨o, hoe⟩ : ∃ o, o = os[k] := ⟨_, rfl⟩
        rw [← hoe] at hc ho HT
        have hk0 : (k : Int) < (os.length : Int) := by omega
        obtain ⟨ho0, ho1⟩ := ho
        clear hoe
        by_cases hbig : 255 < o
        · have H2 : Hid (two o = [by8 (o / 256)] ++ [by8 o]) := by show _ = _; unfold two; rw [if_pos hbig]; rfl
          go_wp2_with (at_builtin; refine wpList_append_own_at _ rfl (.tmp 24) (.tmp 28) 50 rfl B 5 i0 (.int .u8 0) 1 1 Try.underlying50 hi hz0 hz1 hz2 rfl (by decide) _ _ _ rfl (HR.out.alloc _) ⟨wr.heap.size, 0, none⟩ 1 1 [.int .u8 (o / 256)] rfl rfl (one_at _ _) (one_cell _) (by unfold maxLen; omega) (by omega) (by simp; omega) ?_)
          intro v1 w1 hown' hgrow _ hat
          have hg2 := hide (HG.out.trans (Gr.one hgrow hat))
          have hr2 := hide (BRow.more2 (by omega) (by omega) hown')
          have hl2 : Hid (l0 ++ twos (os.take (k + 1)) = (lk ++ [by8 (o / 256)]) ++ [by8 o]) := by show _ = _; rw [HT.out, ← List.append_assoc, ← HL.out, H2.out, List.append_assoc]
          have hB2 : B ≤ w1.heap.size := Nat.le_trans hB hg2.out.1.size
          obtain ⟨lm, hlm⟩ : ∃ lm, lm = lk ++ [by8 (o / 256)] := ⟨_, rfl⟩
          have hle2 : lm.length + 1 ≤ 140737488355328 := by rw [hlm, List.length_append]; simp; omega
          rw [← hlm] at hr2 hl2
          clear hown' hgrow HR HG hat HT HL H2 hlm hc
          go_wp2_with (at_builtin; refine wpList_append_own_at _ rfl (.tmp 30) (.tmp 33) 50 rfl B 5 i0 (.int .u8 0) 1 1 Try.underlying50 hi hz0 hz1 hz2 rfl (by decide) _ _ _ rfl (hr2.out.alloc _) ⟨w1.heap.size, 0, none⟩ 1 1 [.int .u8 (o % 256)] rfl rfl (one_at _ _) (one_cell _) (by unfold maxLen; omega) (by omega) (by simp; omega) ?_)
          intro v2 w2 hown' hgrow _ hat
          have hg3 := hide (hg2.out.trans (Gr.one hgrow hat))
          have hr3 := hide (BRow.more hown')
          clear hown' hgrow hat hg2 hr2
          go_wp2
          go_roundw
          case rel => exact ⟨k + 1, hlt, by go_num, by rw [hl2.out]; exact hr3.out, hg3.out⟩
          case measure => simp [intOf]; omega
        · have H2 : Hid (two o = [by8 o]) := by show _ = _; unfold two; rw [if_neg hbig]
          go_wp2_with (at_builtin; refine wpList_append_own_at _ rfl (.tmp 30) (.tmp 33) 50 rfl B 5 i0 (.int .u8 0) 1 1 Try.underlying50 hi hz0 hz1 hz2 rfl (by decide) _ _ _ rfl (HR.out.alloc _) ⟨wr.heap.size, 0, none⟩ 1 1 [.int .u8 o] rfl rfl (one_at _ _) (one_cell _) (by unfold maxLen; omega) (by omega) (by simp; omega) ?_)
          intro v1 w1 hown' hgrow _ hat
          have hg2 := hide (HG.out.trans (Gr.one hgrow hat))
          have hr2 := hide (BRow.more2 ho0 (by omega) hown')
          have hl2 : Hid (l0 ++ twos (os.take (k + 1)) = lk ++ [by8 o]) := by show _ = _; rw [HT.out, ← List.append_assoc, ← HL.out, H2.out]
          clear hown' hgrow HR HG hat HT HL H2 hc
          go_wp2
          go_roundw
          case rel => exact ⟨k + 1, hlt, by go_num, by rw [hl2.out]; exact hr2.out, hg2.out⟩
          case measure => simp [intOf]; omega
      · have hkm : k = os.length := by omega
        subst hkm
        rw [List.take_length] at hrow
        go_wp2
        go_ret
        exact ⟨_, rfl, by rw [← List.append_assoc, ← HL0.out]; exact hrow, hgr⟩

  · obtain ⟨l0, hl0⟩ : ∃ l0, l0 = l ++ pre p := ⟨_, rfl⟩
    have HL0 := hide hl0
    have e0 : l0 = l ++ [by8 p] := by rw [hl0, pre, if_neg hp]
    have hl0' : l0.length + 6 ≤ 140737488355328 := by rw [e0, List.length_append]; simp; omega
    have hp' : (p != 64) = true := by simpa using hp
    have E0 := hide e0
    clear hl0 e0
    go_enter Try.func47, Try.ntmps47
    go_wp2_with (at_builtin; refine wpList_append_own_at _ rfl (.tmp 11) (.tmp 14) 50 rfl B 5 i0 (.int .u8 0) 1 1 Try.underlying50 hi hz0 hz1 hz2 rfl (by decide) _ _ _ rfl (hr.alloc _) ⟨w.heap.size, 0, none⟩ 1 1 [.int .u8 p] rfl rfl (one_at _ _) (one_cell _) (by unfold maxLen; omega) (by omega) (by simp; omega) ?_)
    intro vq wq hown' hgrow _ hat
    have G0 := hide (Gr.one hgrow hat)
    have R0 : Hid (BRow B vq l0 wq) := by show BRow B vq l0 wq; rw [E0.out]; exact BRow.more2 (by omega) (by omega) hown'
    clear hown' hgrow hat E0 hr
    go_wp2
    go_loopw [0, 18] (fun out iv wr => ∃ k : Nat, k ≤ os.length ∧ iv = .int .i64 (k : Int) ∧ BRow B out (l0 ++ twos (os.take k)) wr ∧ Gr w wr v out) (fun _ iv _ => os.length - (intOf iv).toNat)
    case atStart => exact ⟨0, Nat.zero_le _, rfl, by simpa [twos] using R0.out, G0.out⟩
    case round =>
      obtain ⟨k, hk, rfl, hrow, hgr⟩ := hrel
      have hB' : B ≤ wr.heap.size := Nat.le_trans hB hgr.1.size
      clear R0 G0
      by_cases hlt : k < os.length
      · have hc := (HO.out.gr hgr hg).2 k hlt
        have ho := HI.out _ (List.getElem_mem hlt)
        have HT := hide (twos_snoc os k hlt)
        have hle : (l0 ++ twos (os.take k)).length + 2 ≤ 140737488355328 := by
          have h1 := twos_len (os.take k)
          have h2 : (os.take k).length = k := by simp; omega
          simp only [List.length_append]; omega
        obtain ⟨lk, hlk⟩ : ∃ lk, lk = l0 ++ twos (os.take k) := ⟨_, rfl⟩
        rw [← hlk] at hrow hle
        have HL := hide hlk
        have HR := hide hrow
        have HG := hide hgr
        have HC := hide hc
        clear hrow hgr hlk
        obtain ⟨o, hoe⟩ : ∃ o, o = os[k] := ⟨_, rfl⟩
        rw [← hoe] at hc ho HT
        have hk0 : (k : Int) < (os.length : Int) := by omega
        obtain ⟨ho0, ho1⟩ := ho
        clear hoe
        by_cases hbig : 255 < o
        · have H2 : Hid (two o = [by8 (o / 256)] ++ [by8 o]) := by show _ = _; unfold two; rw [if_pos hbig]; rfl
          go_wp2_with (at_builtin; refine wpList_append_own_at _ rfl (.tmp 24) (.tmp 28) 50 rfl B 5 i0 (.int .u8 0) 1 1 Try.underlying50 hi hz0 hz1 hz2 rfl (by decide) _ _ _ rfl (HR.out.alloc _) ⟨wr.heap.size, 0, none⟩ 1 1 [.int .u8 (o / 256)] rfl rfl (one_at _ _) (one_cell _) (by unfold maxLen; omega) (by omega) (by simp; omega) ?_)
          intro v1 w1 hown' hgrow _ hat
          have hg2 := hide (HG.out.trans (Gr.one hgrow hat))
          have hr2 := hide (BRow.more2 (by omega) (by omega) hown')
          have hl2 : Hid (l0 ++ twos (os.take (k + 1)) = (lk ++ [by8 (o / 256)]) ++ [by8 o]) := by show _ = _; rw [HT.out, ← List.append_assoc, ← HL.out, H2.out, List.append_assoc]
          have hB2 : B ≤ w1.heap.size := Nat.le_trans hB hg2.out.1.size
          obtain ⟨lm, hlm⟩ : ∃ lm, lm = lk ++ [by8 (o / 256)] := ⟨_, rfl⟩
          have hle2 : lm.length + 1 ≤ 140737488355328 := by rw [hlm, List.length_append]; simp; omega
          rw [← hlm] at hr2 hl2
          clear hown' hgrow HR HG hat HT HL H2 hlm hc
          go_wp2_with (at_builtin; refine wpList_append_own_at _ rfl (.tmp 30) (.tmp 33) 50 rfl B 5 i0 (.int .u8 0) 1 1 Try.underlying50 hi hz0 hz1 hz2 rfl (by decide) _ _ _ rfl (hr2.out.alloc _) ⟨w1.heap.size, 0, none⟩ 1 1 [.int .u8 (o % 256)] rfl rfl (one_at _ _) (one_cell _) (by unfold maxLen; omega) (by omega) (by simp; omega) ?_)
          intro v2 w2 hown' hgrow _ hat
          have hg3 := hide (hg2.out.trans (Gr.one hgrow hat))
          have hr3 := hide (BRow.more hown')
          clear hown' hgrow hat hg2 hr2
          go_wp2
          go_roundw
          case rel => exact ⟨k + 1, hlt, by go_num, by rw [hl2.out]; exact hr3.out, hg3.out⟩
          case measure => simp [intOf]; omega
        · have H2 : Hid (two o = [by8 o]) := by show _ = _; unfold two; rw [if_neg hbig]
          go_wp2_with (at_builtin; refine wpList_append_own_at _ rfl (.tmp 30) (.tmp 33) 50 rfl B 5 i0 (.int .u8 0) 1 1 Try.underlying50 hi hz0 hz1 hz2 rfl (by decide) _ _ _ rfl (HR.out.alloc _) ⟨wr.heap.size, 0, none⟩ 1 1 [.int .u8 o] rfl rfl (one_at _ _) (one_cell _) (by unfold maxLen; omega) (by omega) (by simp; omega) ?_)
          intro v1 w1 hown' hgrow _ hat
          have hg2 := hide (HG.out.trans (Gr.one hgrow hat))
          have hr2 := hide (BRow.more2 ho0 (by omega) hown')
          have hl2 : Hid (l0 ++ twos (os.take (k + 1)) = lk ++ [by8 o]) := by show _ = _; rw [HT.out, ← List.append_assoc, ← HL.out, H2.out]
          clear hown' hgrow HR HG hat HT HL H2 hc
          go_wp2
          go_roundw
          case rel => exact ⟨k + 1, hlt, by go_num, by rw [hl2.out]; exact hr2.out, hg2.out⟩
          case measure => simp [intOf]; omega
      · have hkm : k = os.length := by omega
        subst hkm
        rw [List.take_length] at hrow
        go_wp2
        go_ret
        exact ⟨_, rfl, by rw [← List.append_assoc, ← HL0.out]; exact hrow, hgr⟩
end Go.Proofs.Ytielpebokbolbaa.Xc

/-
  The program's find and findNumber answer the first region in which an address lies; only boxes are made.
-/
import Derived.Test.YtielpebokbolbaaL1
namespace Go.Proofs.Ytielpebokbolbaa
open Go.RowKit
open Xc (hide bel_one bel_tr bel_al bel_set)
set_option linter.unusedSimpArgs false
set_option linter.unusedVariables false
theorem bel_dr {B : Nat} {a w : World} (h : Below B a w) (n : Nat) : Below B a (w.drewN n) := ⟨h.os, h.tape, h.output, h.size, h.block⟩
/-- Regions in memory; their strings are named apart (of one that was written into only the length counts). -/
def RL (w : World) (b off : Nat) (g : List Rg) (ss : Nat → ByteArray) : Prop := ∀ i (h : i < g.length),
  w.cell? ⟨b, off + i * 3, none⟩ = some (.int .i64 g[i].at_) ∧ w.cell? ⟨b, off + i * 3 + 1, none⟩ = some (.string (ss i)) ∧ w.cell? ⟨b, off + i * 3 + 2, none⟩ = some (.bool g[i].code) ∧ (ss i).size = g[i].by_.length ∧ Rg.ok g[i]
def RS (w : World) (a : Option Addr) (g : List Rg) (ss : Nat → ByteArray) : Prop := g = [] ∨ ∃ b off, a = some ⟨b, off, none⟩ ∧ RL w b off g ss
theorem RL.of {w w' : World} {b off : Nat} {g : List Rg} {ss : Nat → ByteArray} (h : RL w b off g ss) (e : w'.heap[b]? = w.heap[b]?) : RL w' b off g ss := fun i hi => by
  obtain ⟨h1, h2, h3, h4⟩ := h i hi
  refine ⟨?_, ?_, ?_, h4⟩
  · rw [World.cell?_of_block (w := w) e]; exact h1
  · rw [World.cell?_of_block (w := w) e]; exact h2
  · rw [World.cell?_of_block (w := w) e]; exact h3
theorem RL.lt {w : World} {b off : Nat} {g : List Rg} {ss : Nat → ByteArray} (h : RL w b off g ss) (hg : 0 < g.length) : b < w.heap.size := World.block_lt_of_cell? w _ (h 0 hg).1
theorem RL.bel {w w' : World} {b off : Nat} {g : List Rg} {ss : Nat → ByteArray} (h : RL w b off g ss) (k : Below w.heap.size w w') : RL w' b off g ss := by
  rcases Nat.eq_zero_or_pos g.length with h0 | h0
  · intro i hi; omega
  · exact h.of (k.block b (h.lt h0))
theorem RS.bel {w w' : World} {a : Option Addr} {g : List Rg} {ss : Nat → ByteArray} (h : RS w a g ss) (k : Below w.heap.size w w') : RS w' a g ss := by
  rcases h with h | ⟨b, off, e, h⟩
  · exact Or.inl h
  · exact Or.inr ⟨b, off, e, h.bel k⟩
/-- What find answers. -/
def FA (g : List Rg) (cd : Bool) (a n : Int) : Nat × Int × Bool := match fnd g cd a n with
  | some i => (i, (match g[i]? with | some r => a - r.at_ | none => 0), true)
  | none => (0, 0, false)
theorem fa_some {g : List Rg} {cd : Bool} {a n : Int} (k : Nat) (hk : k < g.length) (hc : g[k].code = cd) (hw : wn g[k] a n = true) (hn : ∀ j (h : j < k), (g[j].code == cd && wn g[j] a n) = false) : FA g cd a n = (k, a - g[k].at_, true) := by
  have : fnd g cd a n = some k := List.findIdx?_eq_some_iff_getElem.2 ⟨hk, by simp [hc, hw], fun j hj => by simp only [hn j hj]; simp⟩
  simp [FA, this, hk]
theorem fa_none {g : List Rg} {cd : Bool} {a n : Int} (hn : ∀ j (h : j < g.length), (g[j].code == cd && wn g[j] a n) = false) : FA g cd a n = (0, 0, false) := by
  have : fnd g cd a n = none := List.findIdx?_eq_none_iff.2 fun x hx => by
    obtain ⟨i, hi, rfl⟩ := List.mem_iff_getElem.1 hx
    exact hn i hi
  simp [FA, this]
theorem wn_of {r : Rg} {s : ByteArray} (h : s.size = r.by_.length) (a n : Int) : wn ⟨r.at_, s.data.toList, r.code⟩ a n = wn r a n := by
  simp only [wn, str_len, h]
def FndIs (sl : Value) (g : List Rg) (cd : Bool) (a n : Int) (w : World) : Prop := Calls Try.prog 31 #[sl, .bool cd, .int .i64 a, .int .i64 n] w fun e w' => e = .returned (.tuple #[.int .i64 ((FA g cd a n).1 : Int), .int .i64 (FA g cd a n).2.1, .bool (FA g cd a n).2.2]) ∧ Below w.heap.size w w'
set_option maxHeartbeats 1600000 in
theorem find_any (b off cap : Nat) (g : List Rg) (ss : Nat → ByteArray) (cd : Bool) (a n : Int) (w : World) (ha : I64 a) (hn : 1 ≤ n ∧ n ≤ 8) (hg : g.length ≤ 4398046511104) (hR : RL w b off g ss) :
    FndIs (.slice (some ⟨b, off, none⟩) g.length cap) g cd a n w := by
  unfold FndIs
  have HA := hide ha
  have HN := hide hn
  have HR := hide hR
  clear ha hn hR
  go_enter Try.func31, Try.ntmps31
  go_wp2
  go_loopw [15] (fun iv wr => ∃ k : Nat, k ≤ g.length ∧ iv = .int .i64 (k : Int) ∧ Below w.heap.size w wr ∧ ∀ j (h : j < g.length), j < k → (g[j].code == cd && wn g[j] a n) = false) (fun iv _ => g.length - (intOf iv).toNat)
  case atStart => exact ⟨0, Nat.zero_le _, rfl, Below.refl _ _, fun j _ h => absurd h (Nat.not_lt_zero _)⟩
  case round =>
    obtain ⟨k, hk, rfl, hb, hno⟩ := hrel
    by_cases hlt : k < g.length
    · have HRw := HR.out.bel hb
      obtain ⟨c0, c1, c2, hs, hok⟩ := HRw k hlt
      have HNo := hide hno
      have HB := hide hb
      have HS := hide hs
      have HK := hide hok
      have T := hide (fun U => within_any g[k].at_ (ss k) g[k].code a n U hok.1 HA.out HN.out (by rw [hs]; exact hok.2))
      rw [wn_of hs] at T
      clear hno hb hs hok HRw
      obtain ⟨qw, hw⟩ : ∃ q, wn g[k] a n = q := ⟨_, rfl⟩
      rw [hw] at T
      cases hc : g[k].code == cd
      · have hc' : (g[k].code == cd && wn g[k] a n) = false := by rw [hc]; rfl
        have HC : Hid (∀ j (h : j < g.length), j = k → (g[j].code == cd && wn g[j] a n) = false) := fun j h e => by subst e; exact hc'
        clear hc' hw T
        generalize g[k].at_ = x1 at *
        generalize g[k].code = x2 at *
        go_wp2_with fail
        go_roundw
        case rel => exact ⟨k + 1, hlt, by go_num, bel_al HB.out _, fun j h hj => by rcases Nat.lt_succ_iff_lt_or_eq.1 hj with q | q; exact HNo.out j h q; exact HC.out j h q⟩
        case measure => simp [intOf]; omega
      · cases qw
        · have hc' : (g[k].code == cd && wn g[k] a n) = false := by rw [hw]; simp
          have HC : Hid (∀ j (h : j < g.length), j = k → (g[j].code == cd && wn g[j] a n) = false) := fun j h e => by subst e; exact hc'
          clear hc' hw
          generalize g[k].at_ = x1 at *
          generalize g[k].code = x2 at *
          go_wp2_with (go_at_call 53; refine (T.out _).mono ?_; rintro e w1 ⟨rfl, hb1⟩)
          go_roundw
          case rel => exact ⟨k + 1, hlt, by go_num, bel_tr (bel_al HB.out _) hb1, fun j h hj => by rcases Nat.lt_succ_iff_lt_or_eq.1 hj with q | q; exact HNo.out j h q; exact HC.out j h q⟩
          case measure => simp [intOf]; omega
        · have hc' := hc
          have e : FA g cd a n = (k, a - g[k].at_, true) := fa_some k hlt (beq_iff_eq.1 hc) hw (fun j hj => HNo.out j (by omega) hj)
          have hwr : wrap64 (a - g[k].at_) = a - g[k].at_ := by
            have h1 := HA.out
            have h2 := HK.out.1
            have h3 := HK.out.2
            have h4 := wn_iff.1 hw
            unfold I64 Xc.I64 at h1 h2
            unfold wrap64; have := HN.out; omega
          have E := hide e
          clear hc' hw e
          generalize g[k].at_ = x1 at *
          generalize g[k].code = x2 at *
          go_wp2_with (go_at_call 53; refine (T.out _).mono ?_; rintro e w1 ⟨rfl, hb1⟩; have y0 := hb1.cell (p := ⟨wr.heap.size, 0, none⟩) (by simp))
          go_quiet (fail)
          go_wp2_with fail
          go_ret3
          rw [E.out, hwr]
          exact ⟨rfl, bel_dr (bel_tr (bel_al HB.out _) hb1) _⟩
    · have hkn : k = g.length := by omega
      subst hkn
      have E := hide (fa_none (fun j h => hno j h h))
      go_wp2_with fail
      go_ret3
      rw [E.out]
      exact ⟨rfl, hb⟩
theorem find_nil (a0 : Option Addr) (cap : Nat) (cd : Bool) (a n : Int) (w : World) : FndIs (.slice a0 0 cap) [] cd a n w := by
  unfold FndIs
  rw [show FA [] cd a n = (0, 0, false) from rfl]
  go_enter Try.func31, Try.ntmps31
  go_wp2
  go_loopw [15] (fun iv wr => iv = .int .i64 0 ∧ wr = w) (fun _ _ => 0)
  case atStart => exact ⟨rfl, rfl⟩
  case round =>
    obtain ⟨rfl, rfl⟩ := hrel
    go_wp2_with fail
    go_ret3
    exact ⟨rfl, Below.refl _ _⟩
theorem find_rs (a0 : Option Addr) (cap : Nat) (g : List Rg) (ss : Nat → ByteArray) (cd : Bool) (a n : Int) (w : World) (ha : I64 a) (hn : 1 ≤ n ∧ n ≤ 8) (hg : g.length ≤ 4398046511104) (hR : RS w a0 g ss) :
    FndIs (.slice a0 g.length cap) g cd a n w := by
  rcases hR with rfl | ⟨b, off, rfl, hR⟩
  · exact find_nil a0 cap cd a n w
  · exact find_any b off cap g ss cd a n w ha hn hg hR
/-- What findNumber answers. -/
def FN (g : List Rg) (a n : Int) : Nat × Int × Bool := if n = 4 ∨ n = 8 then FA g false a n else (0, 0, false)
theorem number_rs (a0 : Option Addr) (cap : Nat) (g : List Rg) (ss : Nat → ByteArray) (a n : Int) (w : World) (ha : I64 a) (hg : g.length ≤ 4398046511104) (hR : RS w a0 g ss) {qi : Nat} {qp : Int} {qb : Bool} (hq : FN g a n = (qi, qp, qb)) :
    Calls Try.prog 20 #[.slice a0 g.length cap, .int .i64 a, .int .i64 n] w fun e w' => e = .returned (.tuple #[.int .i64 (qi : Int), .int .i64 qp, .bool qb]) ∧ Below w.heap.size w w' := by
  by_cases h4 : n = 4 ∨ n = 8
  · have F := find_rs a0 cap g ss false a n w ha (by omega) hg hR
    rw [FN, if_pos h4] at hq
    unfold FndIs at F
    rw [hq] at F
    have HF := hide F
    clear F hR hq
    rcases h4 with rfl | rfl <;>
    · go_enter Try.func20, Try.ntmps20
      go_wp2_with (go_at_call 31; refine HF.out.mono ?_; rintro e w' ⟨rfl, hb⟩)
      go_ret3
      exact ⟨rfl, hb⟩
  · rw [FN, if_neg h4] at hq
    simp only [Prod.mk.injEq] at hq
    obtain ⟨rfl, rfl, rfl⟩ := hq
    have h5 : (n != 4) = true := by simp; omega
    have h8 : (n != 8) = true := by simp; omega
    clear h4 hR
    go_enter Try.func20, Try.ntmps20
    go_wp2
    go_ret3
    exact ⟨rfl, Below.refl _ _⟩
/-- What it tells of memory. -/
theorem fn_no {g : List Rg} {a n : Int} (h : fnN g a n = none) : FN g a n = (0, 0, false) := by
  unfold fnN at h; unfold FN
  split at h
  · rw [if_pos ‹_›]; simp [FA, h]
  · rw [if_neg ‹_›]
theorem fn_yes {g : List Rg} {a n : Int} {i : Nat} (h : fnN g a n = some i) (hi : i < g.length) : FN g a n = (i, a - g[i].at_, true) := by
  unfold fnN at h; unfold FN
  split at h
  · rw [if_pos ‹_›]; simp [FA, h, hi]
  · cases h
end Go.Proofs.Ytielpebokbolbaa

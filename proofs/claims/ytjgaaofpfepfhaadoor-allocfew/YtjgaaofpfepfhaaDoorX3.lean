/-
  Merged: Ex4 Ex3 Nmv Exm.
-/
import Derived.Test.YtjgaaofpfepfhaaDoorSym
import Derived.Test.YtjgaaofpfepfhaaDoorNum
import Derived.Test.YtjgaaofpfepfhaaDoorX2
/-
  Plain: the examples' code, and what is live in it.
-/
namespace Go.Proofs.YtjgaaofpfepfhaaDoor
open Go.RowKit
set_option linter.unusedSimpArgs false
set_option linter.unusedVariables false
def L4 : List Ir := [⟨1, 0, 0, 0, 0, 0, 0⟩, ⟨1, 1, 0, 0, 0, 0, 0⟩, ⟨3, 0, 0, 1, 0, 0, 0⟩, ⟨15, 0, 0, 0, 0, 0, 0⟩]
theorem n0 : nxt L4 0 = [1] := by kernel_rfl
theorem n1 : nxt L4 1 = [2] := by kernel_rfl
theorem n2 : nxt L4 2 = [3] := by kernel_rfl
theorem n3 : nxt L4 3 = [] := by kernel_rfl
theorem r0 : rdS (L4.getD 0 ir0) = 0 := by kernel_rfl
theorem r1 : rdS (L4.getD 1 ir0) = 0 := by kernel_rfl
theorem ms10 : List.mergeSort [(1 : Int), 0] (fun x y => decide (x ≤ y)) = [0, 1] := by
  have h1 : (List.mergeSort [(1 : Int), 0] (fun x y => decide (x ≤ y))).Pairwise (fun x y => decide (x ≤ y) = true) := List.pairwise_mergeSort (by intro a b c; simp; omega) (by intro a b; simp; omega) _
  have h2 : (List.mergeSort [(1 : Int), 0] (fun x y => decide (x ≤ y))).Perm [1, 0] := List.mergeSort_perm _ _
  have h3 := h2.length_eq
  generalize List.mergeSort [(1 : Int), 0] (fun x y => decide (x ≤ y)) = z at *
  match z, h3 with
  | [p, q], _ =>
    have hp : p ∈ [(1 : Int), 0] := h2.mem_iff.1 (by simp)
    have h0 : (0 : Int) ∈ [p, q] := h2.mem_iff.2 (by simp)
    have h01 : (1 : Int) ∈ [p, q] := h2.mem_iff.2 (by simp)
    simp at hp h0 h01 h1
    rcases hp with rfl | rfl
    · have : q = 0 := by omega
      omega
    · have : q = 1 := by omega
      rw [this]
theorem raw2 : raw (L4.getD 2 ir0) = [1, 0] := by kernel_rfl
theorem r2 : rdS (L4.getD 2 ir0) = 3 := by
  unfold rdS us sc
  rw [raw2, ms10]
  kernel_rfl
theorem w2_ : wrS (L4.getD 2 ir0) = 1 := by kernel_rfl
theorem r3 : rdS (L4.getD 3 ir0) = 1 := by kernel_rfl
theorem fit4 : fitb ⟨2, 0, 0⟩ L4 = true := by kernel_rfl
theorem sol4 {A F : Nat → Nat} (h : Sol (sy L4) A F) : (A 0 = 0 ∧ A 1 = 1 ∧ A 2 = 3 ∧ A 3 = 1) ∧ (F 0 = 1 ∧ F 1 = 3 ∧ F 2 = 1 ∧ F 3 = 0) := by
  have f3 : F 3 = un (sy L4) A 3 := h.f 3 (by decide)
  have f2 : F 2 = un (sy L4) A 2 := h.f 2 (by decide)
  have f1 : F 1 = un (sy L4) A 1 := h.f 1 (by decide)
  have f0 : F 0 = un (sy L4) A 0 := h.f 0 (by decide)
  have a3 : A 3 = rdS (L4.getD 3 ir0) ||| dn (F 3) (wrS (L4.getD 3 ir0)) := h.a 3 (by decide)
  have a2 : A 2 = rdS (L4.getD 2 ir0) ||| dn (F 2) (wrS (L4.getD 2 ir0)) := h.a 2 (by decide)
  have a1 : A 1 = rdS (L4.getD 1 ir0) ||| dn (F 1) (wrS (L4.getD 1 ir0)) := h.a 1 (by decide)
  have a0 : A 0 = rdS (L4.getD 0 ir0) ||| dn (F 0) (wrS (L4.getD 0 ir0)) := h.a 0 (by decide)
  have e3 : un (sy L4) A 3 = 0 := by show ors (((nxt L4 3).map Int.toNat).map A) = 0; rw [n3]; rfl
  have e2 : un (sy L4) A 2 = A 3 := by show ors (((nxt L4 2).map Int.toNat).map A) = A 3; rw [n2]; show 0 ||| A 3 = _; simp
  have e1 : un (sy L4) A 1 = A 2 := by show ors (((nxt L4 1).map Int.toNat).map A) = A 2; rw [n1]; show 0 ||| A 2 = _; simp
  have e0 : un (sy L4) A 0 = A 1 := by show ors (((nxt L4 0).map Int.toNat).map A) = A 1; rw [n0]; show 0 ||| A 1 = _; simp
  have g3 : F 3 = 0 := f3.trans e3
  have h3 : A 3 = 1 := by rw [a3, g3]; kernel_rfl
  have g2 : F 2 = 1 := (f2.trans e2).trans h3
  have h2 : A 2 = 3 := by rw [a2, g2, r2, w2_]; kernel_rfl
  have g1 : F 1 = 3 := (f1.trans e1).trans h2
  have h1 : A 1 = 1 := by rw [a1, g1]; kernel_rfl
  have g0 : F 0 = 1 := (f0.trans e0).trans h1
  have h0 : A 0 = 0 := by rw [a0, g0]; kernel_rfl
  exact ⟨⟨h0, h1, h2, h3⟩, g0, g1, g2, g3⟩
theorem cls4 {A F : Nat → Nat} (h : Sol (sy L4) A F) : cls ⟨2, 0, 0⟩ L4 A F 0 1 = true := by
  obtain ⟨_, g0, g1, _, _⟩ := sol4 h
  have : spo L4 F 0 1 = true := by
    unfold spo
    refine List.any_eq_true.2 ⟨1, by decide, ?_⟩
    unfold spl
    rw [g1]
    kernel_rfl
  unfold cls
  rw [this]
  simp
end Go.Proofs.YtjgaaofpfepfhaaDoor
/-
  Plain: the examples' two codes and their places.
-/
namespace Go.Proofs.YtjgaaofpfepfhaaDoor
open Go.RowKit
set_option linter.unusedSimpArgs false
set_option linter.unusedVariables false
def L3 : List Ir := [⟨1, 0, 0, 0, 0, 0, 0⟩, ⟨14, -1, 0, 0, 0, 0, 0⟩, ⟨15, 0, 0, 0, 0, 0, 0⟩]
theorem m0 : nxt L3 0 = [1] := by kernel_rfl
theorem m1 : nxt L3 1 = [2] := by kernel_rfl
theorem m2 : nxt L3 2 = [] := by kernel_rfl
theorem fit3 : fitb ⟨1, 0, 0⟩ L3 = true := by kernel_rfl
theorem sol3 {A F : Nat → Nat} (h : Sol (sy L3) A F) : F 1 = 1 := by
  have f2 : F 2 = un (sy L3) A 2 := h.f 2 (by decide)
  have f1 : F 1 = un (sy L3) A 1 := h.f 1 (by decide)
  have a2 : A 2 = rdS (L3.getD 2 ir0) ||| dn (F 2) (wrS (L3.getD 2 ir0)) := h.a 2 (by decide)
  have e2 : un (sy L3) A 2 = 0 := by show ors (((nxt L3 2).map Int.toNat).map A) = 0; rw [m2]; rfl
  have e1 : un (sy L3) A 1 = A 2 := by show ors (((nxt L3 1).map Int.toNat).map A) = A 2; rw [m1]; show 0 ||| A 2 = _; simp
  have g2 : F 2 = 0 := f2.trans e2
  have h2 : A 2 = 1 := by rw [a2, g2]; kernel_rfl
  exact (f1.trans e1).trans h2
theorem cr3 {F : Nat → Nat} (h : F 1 = 1) : crT L3 F 3 = 1 := by
  have e0 : crT L3 F 1 = 0 := by kernel_rfl
  have e1 : crT L3 F 2 = crT L3 F 1 ||| dn (F 1) 0 := by kernel_rfl
  have e2 : crT L3 F 3 = crT L3 F 2 := by kernel_rfl
  rw [e2, e1, e0, h]
  decide
theorem cr4 (F : Nat → Nat) : crT L4 F 4 = 0 := rfl
theorem nm3 : nmT L3 0 3 = 1 := by kernel_rfl
theorem nm4 : nmT L4 0 4 = 3 := by
  rw [nmT_is, nmT_is, nmT_is, nmT_is, r0, r1, r2, r3, w2_]
  kernel_rfl
theorem tkn_zero (pl : Nat → Int) (s : Nat) (q : Int) : tkn pl s 0 q = false := rfl
theorem fre_zero {pl : Nat → Int} {s : Nat} {a p : Int} (h : Fre pl s 0 a p) : p = a := by
  obtain ⟨h1, _, h3⟩ := h
  by_cases e : a < p
  · have := h3 a (by omega) e
    rw [tkn_zero] at this; cases this
  · omega
theorem pl3 {S : Nat → Nat} {pl : Nat → Int} (h : Plc 1 1 S 1 pl) : pl 0 = 6 := by
  have := fre_zero ((h 0 (by omega)).2 (by decide))
  rw [this]
  decide
theorem pl4 {S : Nat → Nat} {pl : Nat → Int} (h : Plc 3 0 S 2 pl) (hs : (S 1).testBit 0 = true) : pl 0 = 0 ∧ pl 1 = 1 := by
  have z : pl 0 = 0 := by
    have := fre_zero ((h 0 (by omega)).2 (by decide))
    rw [this]
    decide
  refine ⟨z, ?_⟩
  obtain ⟨h1, h2, h3⟩ := (h 1 (by omega)).2 (by decide)
  have e0 : fsz 0 1 = 0 := by decide
  rw [e0] at h1 h3
  have t : ∀ q, tkn pl (S 1) 1 q = decide (q = 0) := fun q => by
    unfold tkn
    rw [show List.range 1 = [0] from rfl]
    simp [z, hs, eq_comm]
  have hp : ¬ pl 1 = 0 := fun e => by rw [e, t] at h2; simp at h2
  by_cases e : 1 < pl 1
  · have := h3 1 (by omega) e
    rw [t] at this; simp at this
  · omega
theorem st4 {A F : Nat → Nat} (h : Sol (sy L4) A F) : mu (stB L4 A F 0) 2 1 0 = true := by
  rw [mu_sym (by omega) (by omega), st_cls (d := ⟨2, 0, 0⟩) rfl (by omega) (by omega)]
  have := cls4 h
  simp only [Int.ofNat_zero] at *
  show (decide (0 ≠ 1) && cls ⟨2, 0, 0⟩ L4 A F 0 1) = true
  rw [this]
  rfl
end Go.Proofs.YtjgaaofpfepfhaaDoor
/-
  Two rows that are alike, of any form.
-/
namespace Go.Proofs.YtjgaaofpfepfhaaDoor
open Go.RowKit
set_option linter.unusedSimpArgs false
set_option linter.unusedVariables false
theorem numbers_none (a b : Option Addr) (c1 c2 : Nat) (w : World) : Calls Tryd.prog 9 #[.slice a 0 c1, .slice b 0 c2] w fun e w' => e = .returned (.bool true) ∧ Below w.heap.size w w' := by
  go_enter Tryd.func9, Tryd.ntmps9
  go_wp2_with fail
  go_loopw [5] (fun s5 wr => s5 = .int .i64 0 ∧ wr = w) (fun _ _ => 0)
  case atStart => exact ⟨rfl, rfl⟩
  case round =>
    obtain ⟨rfl, rfl⟩ := hrel
    go_wp2_with fail
    go_ret
    exact ⟨rfl, Below.refl _ _⟩
theorem numbers_nv {B1 B2 : Nat} {v1 v2 : Value} {ns : List Int} {w : World} (h1 : Nv B1 v1 ns w) (h2 : Nv B2 v2 ns w) (hl : ns.length ≤ 1000) :
    Calls Tryd.prog 9 #[v1, v2] w fun e w' => e = .returned (.bool true) ∧ Below w.heap.size w w' := by
  rcases h1 with ⟨rfl, a, c, rfl⟩ | ⟨g, c, rfl, g1, g2, g3⟩
  · obtain ⟨b, c', rfl⟩ := h2.form
    exact numbers_none a b c c' w
  · rcases h2 with ⟨rfl, a, c', rfl⟩ | ⟨h, c', rfl, k1, k2, k3⟩
    · exact numbers_none _ _ _ _ w
    · refine numbers_yes g h ns.length c c' (fun i => ns.getD i 0) w hl g2 k2 (fun i hi => ?_) (fun i hi => ?_)
      · rw [g3 i hi]; simp [List.getD, hi]
      · rw [k3 i hi]; simp [List.getD, hi]
theorem vrow_nv {r n c : Nat} {ns : List Int} {W : World} (hn : ns.length = n) (h : VRow r n (fun i => .int .i64 (nth ns i)) W) : Nv 0 (.slice (some ⟨r, 0, none⟩) n c) ns W := by
  subst hn
  exact Or.inr ⟨r, c, rfl, Nat.zero_le _, h.lt, fun j hj => by rw [h.c j hj]; simp [nth, List.getD, hj]⟩
end Go.Proofs.YtjgaaofpfepfhaaDoor
/-
  The law's examples.
-/
namespace Go.Proofs.YtjgaaofpfepfhaaDoor
open Go.RowKit
set_option linter.unusedSimpArgs false
set_option linter.unusedVariables false
def row4 : Array Value := #[.int .i64 1, .int .i64 0, .int .i64 0, .int .i64 0, .int .i64 0, .int .i64 0, .int .i64 0, .int .i64 1, .int .i64 1, .int .i64 0, .int .i64 0, .int .i64 0, .int .i64 0, .int .i64 0, .int .i64 3, .int .i64 0, .int .i64 0, .int .i64 1, .int .i64 0, .int .i64 0, .int .i64 0, .int .i64 15, .int .i64 0, .int .i64 0, .int .i64 0, .int .i64 0, .int .i64 0, .int .i64 0]
def row3 : Array Value := #[.int .i64 1, .int .i64 0, .int .i64 0, .int .i64 0, .int .i64 0, .int .i64 0, .int .i64 0, .int .i64 14, .int .i64 (-1), .int .i64 0, .int .i64 0, .int .i64 0, .int .i64 0, .int .i64 0, .int .i64 15, .int .i64 0, .int .i64 0, .int .i64 0, .int .i64 0, .int .i64 0, .int .i64 0]
theorem ir4 (w : World) : IR (w.alloc (.cells row4 43)).heap.size (w.alloc (.cells row4 43)) (some ⟨w.heap.size, 0, none⟩) L4 := fun j hj => by
  have e := heap_alloc_new w (.cells row4 43)
  have hs : w.heap.size < (w.alloc (.cells row4 43)).heap.size := by simp
  generalize w.alloc (.cells row4 43) = W at *
  unfold row4 at e
  refine ⟨w.heap.size, 0, rfl, hs, ?_, ?_⟩
  · match j, hj with
    | 0, _ => constructor <;> simp [World.cell?, e, L4]
    | 1, _ => constructor <;> simp [World.cell?, e, L4]
    | 2, _ => constructor <;> simp [World.cell?, e, L4]
    | 3, _ => constructor <;> simp [World.cell?, e, L4]
    | j + 4, h => exact absurd h (by simp [L4])
  · match j, hj with
    | 0, _ => simp [L4, Ir.ok, I64]
    | 1, _ => simp [L4, Ir.ok, I64]
    | 2, _ => simp [L4, Ir.ok, I64]
    | 3, _ => simp [L4, Ir.ok, I64]
    | j + 4, h => exact absurd h (by simp [L4])
theorem ir3 (w : World) : IR (w.alloc (.cells row3 43)).heap.size (w.alloc (.cells row3 43)) (some ⟨w.heap.size, 0, none⟩) L3 := fun j hj => by
  have e := heap_alloc_new w (.cells row3 43)
  have hs : w.heap.size < (w.alloc (.cells row3 43)).heap.size := by simp
  generalize w.alloc (.cells row3 43) = W at *
  unfold row3 at e
  refine ⟨w.heap.size, 0, rfl, hs, ?_, ?_⟩
  · match j, hj with
    | 0, _ => constructor <;> simp [World.cell?, e, L3]
    | 1, _ => constructor <;> simp [World.cell?, e, L3]
    | 2, _ => constructor <;> simp [World.cell?, e, L3]
    | j + 3, h => exact absurd h (by simp [L3])
  · match j, hj with
    | 0, _ => simp [L3, Ir.ok, I64]
    | 1, _ => simp [L3, Ir.ok, I64]
    | 2, _ => simp [L3, Ir.ok, I64]
    | j + 3, h => exact absurd h (by simp [L3])
theorem two_nv (W : World) : Nv 0 (.slice (some ⟨W.heap.size, 0, none⟩) 2 2) [0, 1] (W.alloc (.cells #[.int .i64 0, .int .i64 1] 3)) := by
  have x := heap_alloc_new W (.cells #[.int .i64 0, .int .i64 1] 3)
  refine Or.inr ⟨_, 2, rfl, Nat.zero_le _, by simp, fun j hj => ?_⟩
  match j, hj with
  | 0, _ => simp only [World.cell?, x]; rfl
  | 1, _ => simp only [World.cell?, x]; rfl
  | j + 2, h => exact absurd h (by simp)
theorem one_nv (W : World) : Nv 0 (.slice (some ⟨W.heap.size, 0, none⟩) 1 1) [6] (W.alloc (.cells #[.int .i64 6] 3)) := by
  have x := heap_alloc_new W (.cells #[.int .i64 6] 3)
  refine Or.inr ⟨_, 1, rfl, Nat.zero_le _, by simp, fun j hj => ?_⟩
  match j, hj with
  | 0, _ => simp only [World.cell?, x]; rfl
  | j + 1, h => exact absurd h (by simp)
theorem vr_nv {r n c : Nat} {pl : Nat → Int} {ns : List Int} {W : World} (h : VRow r n (fun i => .int .i64 (pl i)) W) (hl : ns.length = n) (e : ∀ i (hi : i < ns.length), pl i = ns[i]) : Nv 0 (.slice (some ⟨r, 0, none⟩) n c) ns W := by
  subst hl
  exact Or.inr ⟨r, c, rfl, Nat.zero_le _, h.lt, fun j hj => by rw [h.c j hj, e j hj]⟩
theorem alloc4 (q : Option Addr) (w : World) (hr : IR w.heap.size w q L4) (hT : Laid w) (hw0 : 0 < w.heap.size) : Calls Tryd.prog 7 #[.agg #[.int .i64 2, .int .i64 0, .slice q 4 4, .int .i64 0]] w fun e w' => ∃ (r : Nat) (pl : Nat → Int), e = .returned (.tuple #[.slice (some ⟨r, 0, none⟩) 2 2, .int .i64 0]) ∧ VRow r 2 (fun i => .int .i64 (pl i)) w' ∧ pl 0 = 0 ∧ pl 1 = 1 ∧ Below w.heap.size w w' := by
  have A : Calls Tryd.prog 7 #[.agg #[.int .i64 2, .int .i64 0, .slice q 4 4, .int .i64 0]] w (AEnds ⟨2, 0, 0⟩ L4 w) := callsIn_wide.1 (alloc_in 4 (by omega) ⟨2, 0, 0⟩ q 4 L4 w (by decide) hr hT hw0)
  refine A.mono ?_
  rintro e w' (⟨hf, _⟩ | ⟨hf, n, m, r, A1, F1, S, pl, hn, hm, rfl, hr, hv, hs, hS, hp, b1⟩)
  · rw [fit4] at hf; cases hf
  · obtain rfl : n = 2 := by have : (2 : Int) = n := hn; omega
    obtain rfl : m = 0 := by have : (0 : Int) = m := hm; omega
    have hp' : Plc (nmT L4 0 4) (crT L4 F1 4) S 2 pl := hp
    rw [nm4, cr4] at hp'
    obtain ⟨z0, z1⟩ := pl4 hp' (by rw [hS 1 (by omega) 0]; exact st4 hs)
    exact ⟨r, pl, rfl, hv, z0, z1, b1⟩
theorem alloc3 (q : Option Addr) (w : World) (hr : IR w.heap.size w q L3) (hT : Laid w) (hw0 : 0 < w.heap.size) : Calls Tryd.prog 7 #[.agg #[.int .i64 1, .int .i64 0, .slice q 3 3, .int .i64 0]] w fun e w' => ∃ (r : Nat) (pl : Nat → Int), e = .returned (.tuple #[.slice (some ⟨r, 0, none⟩) 1 1, .int .i64 0]) ∧ VRow r 1 (fun i => .int .i64 (pl i)) w' ∧ pl 0 = 6 ∧ Below w.heap.size w w' := by
  have A : Calls Tryd.prog 7 #[.agg #[.int .i64 1, .int .i64 0, .slice q 3 3, .int .i64 0]] w (AEnds ⟨1, 0, 0⟩ L3 w) := callsIn_wide.1 (alloc_in 4 (by omega) ⟨1, 0, 0⟩ q 3 L3 w (by decide) hr hT hw0)
  refine A.mono ?_
  rintro e w' (⟨hf, _⟩ | ⟨hf, n, m, r, A1, F1, S, pl, hn, hm, rfl, hr, hv, hs, hS, hp, b1⟩)
  · rw [fit3] at hf; cases hf
  · obtain rfl : n = 1 := by have : (1 : Int) = n := hn; omega
    obtain rfl : m = 0 := by have : (0 : Int) = m := hm; omega
    have hp' : Plc (nmT L3 0 3) (crT L3 F1 3) S 1 pl := hp
    rw [nm3, cr3 (sol3 hs)] at hp'
    exact ⟨r, pl, rfl, hv, pl3 hp', b1⟩
set_option maxRecDepth 100000 in
set_option maxHeartbeats 6400000 in
theorem examples_any (w : World) (hT : Laid w) (hw0 : 0 < w.heap.size) : Calls Tryd.prog 6 #[] w fun e w' => e = .returned (.bool true) ∧ Below w.heap.size w w' := by
  have HT := hide hT
  have E0 := ir4 w
  have I3 := hide (fun U => ir3 U)
  unfold row4 at E0
  unfold row3 at I3
  clear hT
  go_enter Tryd.func6, Tryd.ntmps6
  go_wp2_with fail
  refine gw (motive := fun x => Calls _ _ _ x _) (fun W => Hid (IR W.heap.size W (some ⟨w.heap.size, 0, none⟩) L4) ∧ Hid (Below w.heap.size w W)) ⟨E0, bel_one _ _⟩ ?_
  rintro W ⟨HE, HB⟩
  clear E0
  refine (alloc4 _ W HE.out (HT.out.kept HB.out hw0) (by have := HB.out.size; omega)).mono ?_
  rintro e W1 ⟨r, pl, rfl, hv, z0, z1, b1⟩
  have HB1 := hide (HB.out.trans (b1.mono HB.out.size))
  have HV1 := hide hv
  clear b1 hv HE
  have I3W := I3.out W1
  clear I3
  go_wp2_with fail
  refine gw (motive := fun x => Calls _ _ _ x _) (fun W => Hid (IR W.heap.size W (some ⟨W1.heap.size, 0, none⟩) L3) ∧ Hid (Below W1.heap.size W1 W)) ⟨I3W, bel_one _ _⟩ ?_
  rintro W2 ⟨HE2, HK2⟩
  clear I3W
  have HB2 := hide (HB1.out.trans (HK2.out.mono HB1.out.size))
  refine (alloc3 _ W2 HE2.out (HT.out.kept HB2.out hw0) (by have := HB2.out.size; omega)).mono ?_
  rintro e W3 ⟨r3, pl3, rfl, hv3, y0, b3⟩
  have HB3 := hide (HB2.out.trans (b3.mono HB2.out.size))
  have HV1b := hide ((HV1.out.of (HK2.out.block _ HV1.out.lt)).of (b3.block _ (Nat.lt_of_lt_of_le HV1.out.lt HK2.out.size)))
  have HV3 := hide hv3
  clear b3 hv3 HE2 HV1 HK2
  have hk := hide (bel_one W3 (.cells #[.int .i64 0, .int .i64 1] 3))
  have N1 := hide ((vr_nv (ns := [0, 1]) (c := 2) HV1b.out rfl (fun i hi => by match i, hi with | 0, _ => exact z0 | 1, _ => exact z1 | i + 2, h => exact absurd h (by simp))).kept hk.out)
  have N2 := hide (two_nv W3)
  go_wp2_with fail
  refine (numbers_nv N1.out N2.out (by simp)).mono ?_
  rintro e W4 ⟨rfl, b4⟩
  have HB4 := hide ((HB3.out.trans (hk.out.mono HB3.out.size)).trans (b4.mono (Nat.le_trans HB3.out.size hk.out.size)))
  have HV1c := hide ((HV1b.out.of (hk.out.block _ HV1b.out.lt)).of (b4.block _ (Nat.lt_of_lt_of_le HV1b.out.lt hk.out.size)))
  have HV3c := hide ((HV3.out.of (hk.out.block _ HV3.out.lt)).of (b4.block _ (Nat.lt_of_lt_of_le HV3.out.lt hk.out.size)))
  clear b4 N1 N2 hk HV1b HV3
  have hk := hide (bel_one W4 (.cells #[.int .i64 6] 3))
  have N1 := hide ((vr_nv (ns := [6]) (c := 1) HV3c.out rfl (fun i hi => by match i, hi with | 0, _ => exact y0 | i + 1, h => exact absurd h (by simp))).kept hk.out)
  have N2 := hide (one_nv W4)
  go_wp2_with fail
  refine (numbers_nv N1.out N2.out (by simp)).mono ?_
  rintro e W5 ⟨rfl, b5⟩
  have HB5 := hide ((HB4.out.trans (hk.out.mono HB4.out.size)).trans (b5.mono (Nat.le_trans HB4.out.size hk.out.size)))
  have HV1d := hide ((HV1c.out.of (hk.out.block _ HV1c.out.lt)).of (b5.block _ (Nat.lt_of_lt_of_le HV1c.out.lt hk.out.size)))
  have HV3d := hide ((HV3c.out.of (hk.out.block _ HV3c.out.lt)).of (b5.block _ (Nat.lt_of_lt_of_le HV3c.out.lt hk.out.size)))
  clear b5 N1 N2 hk HV1c HV3c
  have S3 := hide (slots_any r3 1 1 pl3 W5 (by omega) (fun i hi => by have e : i = 0 := (by omega); subst e; rw [y0]; omega) HV3d.out.c)
  have S1 := hide (slots_any r 2 2 pl W5 (by omega) (fun i hi => by match i, hi with | 0, _ => rw [z0]; omega | 1, _ => rw [z1]; omega | i + 2, h => omega) HV1d.out.c)
  have g3 : grt pl3 1 - 5 = 1 := by unfold grt; unfold grt; rw [y0]; decide
  have g1 : grt pl 2 - 5 = 0 := by unfold grt; unfold grt; unfold grt; rw [z0, z1]; decide
  rw [g3] at S3
  rw [g1] at S1
  clear g1 g3
  go_wp2_with fail
  refine S3.out.mono ?_
  rintro e W6 ⟨rfl, rfl⟩
  go_wp2_with fail
  refine S1.out.mono ?_
  rintro e W7 ⟨rfl, rfl⟩
  go_wp2_with fail
  go_ret
  exact ⟨rfl, HB5.out⟩
end Go.Proofs.YtjgaaofpfepfhaaDoor

/-
  The program's walked: the sets ahead of each instruction and behind it.
-/
import Derived.Test.YtjgaaofpfepfhaaDoorWk
import Derived.Test.YtjgaaofpfepfhaaDoorParts
namespace Go.Proofs.YtjgaaofpfepfhaaDoor
open Go.RowKit
set_option linter.unusedSimpArgs false
set_option linter.unusedVariables false
def z1 : Array Value := #[.int .i64 0]
theorem make_ints (n : Nat) (hn : n ≤ 1000) (X : World) : (Instr.makeSlice 25 (.int .i64 (n : Int)) (.int .i64 (n : Int))).run Tryd.prog X = .ok (.slice (some ⟨X.heap.size, 0, none⟩) n n) (X.alloc (.cells (madeCells z1 n) 3)) := by
  obtain ⟨i0, hi, hz0, hz1, hz2⟩ := info_parts info3
  have := run_make X 25 3 i0 _ Tryd.underlying25 hi hz0 .i64 .i64 (n : Int) (n : Int) (by omega) (by omega) (by rw [hz2]; omega) (by omega)
  rw [this, hz1, Nat.mul_one]
  rfl
theorem NRow.made (n : Nat) (X : World) : NRow X.heap.size n (fun _ => 0) (X.alloc (.cells (madeCells z1 n) 3)) := by
  have e := heap_alloc_new X (.cells (madeCells z1 n) 3)
  generalize X.alloc (.cells (madeCells z1 n) 3) = Y at *
  refine ⟨(Array.getElem?_eq_some_iff.1 e).1, fun i hi => ?_, fun j => by simp [World.frozen?, e]⟩
  simp only [World.cell?, e, madeCells, Array.getElem?_map]
  simp [hi, z1, Nat.mod_one]
/-- Both rows are made, and lie in their boxes. -/
structure W2 (n : Nat) (b ra rb : Nat) (w W : World) : Prop where
  a : NRow ra n (fun _ => 0) W
  f : NRow rb n (fun _ => 0) W
  c1 : W.cell? ⟨b, 0, none⟩ = some (.slice (some ⟨ra, 0, none⟩) n n)
  c2 : W.cell? ⟨b + 1, 0, none⟩ = some (.slice (some ⟨rb, 0, none⟩) n n)
  bl : Below w.heap.size w W
  s : W.heap.size = b + 4
  e : b = w.heap.size
  l1 : b + 1 < ra
  l2 : b + 1 < rb
  n : ra ≠ rb
  z1 : W.frozen? ⟨b, 0, none⟩ = false
  z2 : W.frozen? ⟨b + 1, 0, none⟩ = false
theorem w2_made (n ra rb : Nat) (w : World) (h : (ra = w.heap.size + 2 ∧ rb = w.heap.size + 3) ∨ (ra = w.heap.size + 3 ∧ rb = w.heap.size + 2)) :
    W2 n w.heap.size ra rb w ((((w.alloc (.cells #[.slice (some ⟨ra, 0, none⟩) n n] 25)).alloc (.cells #[.slice (some ⟨rb, 0, none⟩) n n] 25)).alloc (.cells (madeCells z1 n) 3)).alloc (.cells (madeCells z1 n) 3)).drew := by
  have x1 := heap_alloc_new w (.cells #[.slice (some ⟨ra, 0, none⟩) n n] 25)
  have k1 := bel_one w (.cells #[.slice (some ⟨ra, 0, none⟩) n n] 25)
  have s1 : (w.alloc (.cells #[.slice (some ⟨ra, 0, none⟩) n n] 25)).heap.size = w.heap.size + 1 := by simp
  generalize w.alloc (.cells #[.slice (some ⟨ra, 0, none⟩) n n] 25) = U1 at *
  have x2 := heap_alloc_new U1 (.cells #[.slice (some ⟨rb, 0, none⟩) n n] 25)
  have k2 := bel_one U1 (.cells #[.slice (some ⟨rb, 0, none⟩) n n] 25)
  have s2 : (U1.alloc (.cells #[.slice (some ⟨rb, 0, none⟩) n n] 25)).heap.size = w.heap.size + 2 := by simp [s1]
  generalize U1.alloc (.cells #[.slice (some ⟨rb, 0, none⟩) n n] 25) = U2 at *
  have x3 := NRow.made n U2
  have k3 := bel_one U2 (.cells (madeCells z1 n) 3)
  have s3 : (U2.alloc (.cells (madeCells z1 n) 3)).heap.size = w.heap.size + 3 := by simp [s2]
  generalize U2.alloc (.cells (madeCells z1 n) 3) = U3 at *
  have x4 := NRow.made n U3
  have k4 := bel_one U3 (.cells (madeCells z1 n) 3)
  have s4 : (U3.alloc (.cells (madeCells z1 n) 3)).heap.size = w.heap.size + 4 := by simp [s3]
  generalize U3.alloc (.cells (madeCells z1 n) 3) = U4 at *
  have kd := bel_drew U4
  have y1 := (kd.block w.heap.size (by omega)).trans ((k4.block _ (by omega)).trans ((k3.block _ (by omega)).trans ((k2.block _ (by omega)).trans x1)))
  have y2 := (kd.block U1.heap.size (by omega)).trans ((k4.block _ (by omega)).trans ((k3.block _ (by omega)).trans x2))
  have y3 : NRow U2.heap.size n (fun _ => 0) U4.drew := (x3.of (k4.block _ (by omega))).of (kd.block _ (by omega))
  have y4 : NRow U3.heap.size n (fun _ => 0) U4.drew := x4.of (kd.block _ (by omega))
  rw [s1] at y2
  rw [s2] at y3
  rw [s3] at y4
  have bl : Below w.heap.size w U4.drew := k1.trans (((k2.mono (by omega)).trans ((k3.mono (by omega)).trans ((k4.mono (by omega)).trans (kd.mono (by omega))))))
  have c1 : U4.drew.cell? ⟨w.heap.size, 0, none⟩ = some (.slice (some ⟨ra, 0, none⟩) n n) := by simp [World.cell?, y1]
  have c2 : U4.drew.cell? ⟨w.heap.size + 1, 0, none⟩ = some (.slice (some ⟨rb, 0, none⟩) n n) := by simp [World.cell?, y2]
  rcases h with ⟨rfl, rfl⟩ | ⟨rfl, rfl⟩
  · exact ⟨y3, y4, c1, c2, bl, s4, rfl, by omega, by omega, by omega, by simp [World.frozen?, y1], by simp [World.frozen?, y2]⟩
  · exact ⟨y4, y3, c1, c2, bl, s4, rfl, by omega, by omega, by omega, by simp [World.frozen?, y1], by simp [World.frozen?, y2]⟩
/-- As many places, and a slice at every number. -/
def vtot (n : Nat) (vn : Nat → Value) (i : Nat) : Value := if i < n then vn i else .slice none 0 0
theorem vtot_form {l : List Ir} {B : Nat} {vn : Nat → Value} {W : World} (h : ∀ i, i < l.length → Nv B (vn i) (nxt l i) W) (i : Nat) : ∃ a m c, vtot l.length vn i = .slice a m c := by
  unfold vtot
  split
  · rename_i hi
    obtain ⟨a, c, e⟩ := (h i hi).form
    exact ⟨a, _, c, e⟩
  · exact ⟨_, _, _, rfl⟩
theorem ws_made {l : List Ir} {b ra rb : Nat} {vn : Nat → Value} {w W W1 : World} (h : W2 l.length b ra rb w W) (hp : PRow W.heap.size l.length vn (fun i => rdS (l.getD i ir0)) (fun i => wrS (l.getD i ir0)) W1) (hy : ∀ i, i < l.length → Nv (W.heap.size + 1) (vn i) (nxt l i) W1) (hb : Below W.heap.size W W1) :
    (∀ i, ∃ a m c, vtot l.length vn i = .slice a m c) ∧ ((W1.alloc (.cells #[.slice (some ⟨W.heap.size, 0, none⟩) l.length l.length] 79)).frozen? ⟨b, 0, none⟩ = false ∧ (W1.alloc (.cells #[.slice (some ⟨W.heap.size, 0, none⟩) l.length l.length] 79)).frozen? ⟨b + 1, 0, none⟩ = false) ∧ WS l W1.heap.size (b + 1) b W.heap.size rb ra (vtot l.length vn) (W1.alloc (.cells #[.slice (some ⟨W.heap.size, 0, none⟩) l.length l.length] 79)) (fun _ => 0) (fun _ => 0) := by
  refine ⟨vtot_form hy, ?_⟩
  have e1 : ∀ i, i < l.length → vtot l.length vn i = vn i := fun i hi => if_pos hi
  have k := bel_one W1 (.cells #[.slice (some ⟨W.heap.size, 0, none⟩) l.length l.length] 79)
  have x := heap_alloc_new W1 (.cells #[.slice (some ⟨W.heap.size, 0, none⟩) l.length l.length] 79)
  have sz : (W1.alloc (.cells #[.slice (some ⟨W.heap.size, 0, none⟩) l.length l.length] 79)).heap.size = W1.heap.size + 1 := by simp
  generalize W1.alloc (.cells #[.slice (some ⟨W.heap.size, 0, none⟩) l.length l.length] 79) = V at *
  have hs := hb.size
  have h1 := h.s
  have h2 := h.l1
  have h3 := h.l2
  have h4 := h.a.lt
  have h5 := h.f.lt
  have eq : ∀ g, g < W.heap.size → V.heap[g]? = W.heap[g]? := fun g hg => (k.block g (by omega)).trans (hb.block g hg)
  have hpl := hp.lt
  have hp2 := hp.of (k.block _ hpl)
  refine ⟨⟨by rw [← h.z1]; simp [World.frozen?, eq b (by omega)], by rw [← h.z2]; simp [World.frozen?, eq (b + 1) (by omega)]⟩, ?_⟩
  refine ⟨by omega, by omega, by omega, by simp [World.cell?, x], ?_, ?_, ⟨hp2.lt, fun i hi => by rw [e1 i hi]; exact hp2.c0 i hi, hp2.c1, hp2.c2, hp2.f⟩, fun i hi => ?_, h.a.of (eq _ h4), h.f.of (eq _ h5), h4, h5, h.n, ⟨by omega, by omega⟩, ⟨by omega, by omega⟩, ⟨by omega, by omega⟩⟩
  · rw [← h.c2]; simp [World.cell?, eq (b + 1) (by omega)]
  · rw [← h.c1]; simp [World.cell?, eq b (by omega)]
  · rw [e1 i hi]; exact (hy i hi).kept k
/-- A row's sets, read off. -/
def rdA (b : Nat) (W : World) (i : Nat) : Nat := match W.cell? ⟨b, i, none⟩ with
  | some (.int _ z) => z.toNat
  | _ => 0
theorem tot_congr {A B : Nat → Nat} : ∀ {n : Nat}, (∀ i, i < n → A i = B i) → tot A n = tot B n
  | 0, _ => rfl
  | k + 1, h => by simp only [tot]; rw [tot_congr fun i hi => h i (by omega), h k (by omega)]
theorem tot_rd {b n : Nat} {A : Nat → Nat} {W : World} (h : NRow b n A W) : tot (rdA b W) n = tot A n := tot_congr fun i hi => by simp [rdA, h.c i hi]
set_option maxRecDepth 100000 in
set_option maxHeartbeats 6400000 in
theorem walked_any (a : Option Addr) (cap : Nat) (l : List Ir) (w : World) (hl : l.length ≤ 1000) (hr : IR w.heap.size w a l) (ho : Ok60 l) :
    Calls Tryd.prog 35 #[.slice a l.length cap] w fun e w' => ∃ (ra rb : Nat) (A F : Nat → Nat), e = .returned (.tuple #[.slice (some ⟨ra, 0, none⟩) l.length l.length, .slice (some ⟨rb, 0, none⟩) l.length l.length]) ∧ w.heap.size ≤ ra ∧ w.heap.size ≤ rb ∧ NRow ra l.length A w' ∧ NRow rb l.length F w' ∧ Sol (sy l) A F ∧ Below w.heap.size w w' := by
  have HL := hide hl
  have HR := hide hr
  have HO := hide ho
  clear hl hr ho
  go_enter Tryd.func35, Tryd.ntmps35
  go_wp2_with fail
  rename_i Q0 K0 hNext
  have REST : ∀ ra rb W, W2 l.length w.heap.size ra rb w W → K0 ⟨#[.slice a l.length cap, undef, .pointer (some ⟨w.heap.size, 0, none⟩), .pointer (some ⟨w.heap.size + 1, 0, none⟩), undef, undef, .slice a l.length cap, .int .i64 l.length, .slice (some ⟨ra, 0, none⟩) l.length l.length, .slice a l.length cap, .int .i64 l.length, .slice (some ⟨rb, 0, none⟩) l.length l.length, undef, undef, undef, undef, undef, undef, undef], []⟩ W := by
    rintro ra rb W hW
    refine hNext _ _ ?_
    have LA := hide (parts_any a cap l W HL.out ((HR.out.bel hW.bl).up hW.bl.size) HO.out)
    have HW := hide hW
    go_wp2_with fail
    refine LA.out.mono ?_
    rintro e W1 ⟨vn, rfl, hp, hy, hb1⟩
    have HB : Hid (Below w.heap.size w W1) := hW.bl.trans (hb1.mono hW.bl.size)
    have hWS := hide (ws_made hW hp hy hb1)
    clear LA hp hy hW
    have hsz1 := hb1.size
    obtain ⟨pb, hpb⟩ : ∃ pb, W.heap.size = pb := ⟨_, rfl⟩
    rw [hpb] at hWS ⊢
    go_wp2_with fail
    generalize hVe : W1.alloc (.cells #[.slice (some ⟨pb, 0, none⟩) l.length l.length] 79) = V at *
    have hra := HW.out.l1
    have hrb := HW.out.l2
    go_loopw [15, 16] (fun _ _ wr => ∃ A F, Hid (WS l W1.heap.size (w.heap.size + 1) w.heap.size pb rb ra (vtot l.length vn) wr A F) ∧ Hid (Inv (sy l) A F) ∧ Hid (Bt (fun b => b = ra ∨ b = rb) V wr)) (fun _ _ wr => l.length * lim - tot (rdA ra wr) l.length)
    case atStart => exact ⟨_, _, hWS.out.2.2, inv_zero, Bt.refl _ _⟩
    case round =>
      obtain ⟨A, F, HS, HI, HT⟩ := hrel
      have RI := hide (callsIn_wide.1 (round_in 3 (Nat.le_refl _) l _ _ _ _ _ _ _ A F wr HL.out HO.out hWS.out.1 HS.out HI.out))
      go_wp2_with fail
      refine RI.out.mono ?_
      rintro e w' ⟨ch, A1, F1, rfl, hs, ht, hi, hno, hyes⟩
      have HS1 := hide hs
      have HT1 := hide (HT.out.trans ht)
      have HI1 := hide hi
      have t1 := tot_rd HS.out.a
      have t2 := tot_rd HS1.out.a
      have t3 := tot_le (n := (sy l).n) hi.la
      clear hs ht hi RI
      cases ch
      · have HSol := hide (hno rfl)
        clear hno hyes
        go_wp2_with fail
        have c1 := HS1.out.c2
        have q1 := HS1.out.n2
        have q2 := HS1.out.n1
        have v1 := hWS.out.2.2.l2
        have v2 := hWS.out.2.2.l1
        have z1 : w'.frozen? ⟨w.heap.size, 0, none⟩ = false := by rw [← hWS.out.2.1.1]; simp [World.frozen?, HT1.out.block w.heap.size v1 (by omega)]
        have z2 : w'.frozen? ⟨w.heap.size + 1, 0, none⟩ = false := by rw [← hWS.out.2.1.2]; simp [World.frozen?, HT1.out.block (w.heap.size + 1) v2 (by omega)]
        have c2 := HS1.out.c1
        have hw1 := HS1.out.l2
        have hw2 := HS1.out.l1
        have hh : ∀ (U : World) (v1 v2 : Value) (k : Nat), U.cell? ⟨w.heap.size, 0, none⟩ = some v1 → U.cell? ⟨w.heap.size + 1, 0, none⟩ = some v2 → (U.setCell ⟨w.heap.size, 0, none⟩ v1).cell? ⟨w.heap.size, 0, none⟩ = some v1 ∧ (U.setCell ⟨w.heap.size, 0, none⟩ v1).cell? ⟨w.heap.size + 1, 0, none⟩ = some v2 := fun U v1 v2 k h1 h2 => by
          have e : (U.setCell ⟨w.heap.size, 0, none⟩ v1).heap[w.heap.size + 1]? = U.heap[w.heap.size + 1]? := Below.heap_setCell U ⟨w.heap.size, 0, none⟩ v1 _ (by show w.heap.size + 1 ≠ w.heap.size; omega)
          refine ⟨World.cell?_setCell_same' _ _ _ (by rw [h1]; rfl), ?_⟩
          rw [← h2]; simp only [World.cell?, e]
        have hh2 : ∀ (U : World) (v1 v2 : Value) (k : Nat), U.cell? ⟨w.heap.size, 0, none⟩ = some v1 → U.cell? ⟨w.heap.size + 1, 0, none⟩ = some v2 → (U.setCell ⟨w.heap.size + 1, 0, none⟩ v2).cell? ⟨w.heap.size, 0, none⟩ = some v1 ∧ (U.setCell ⟨w.heap.size + 1, 0, none⟩ v2).cell? ⟨w.heap.size + 1, 0, none⟩ = some v2 := fun U v1 v2 k h1 h2 => by
          have e : (U.setCell ⟨w.heap.size + 1, 0, none⟩ v2).heap[w.heap.size]? = U.heap[w.heap.size]? := Below.heap_setCell U ⟨w.heap.size + 1, 0, none⟩ v2 _ (by show w.heap.size ≠ w.heap.size + 1; omega)
          refine ⟨?_, World.cell?_setCell_same' _ _ _ (by rw [h2]; rfl)⟩
          rw [← h1]; simp only [World.cell?, e]
        refine wp_region_held_drew (S := fun X => X.cell? ⟨w.heap.size, 0, none⟩ = some (.slice (some ⟨ra, 0, none⟩) l.length l.length) ∧ X.cell? ⟨w.heap.size + 1, 0, none⟩ = some (.slice (some ⟨rb, 0, none⟩) l.length l.length)) (by kernel_rfl) ⟨c1, c2⟩ ?_
        intro hHeld
        change wpAnyH _ _ _ _ _ _ _ _ (World.drew _)
        refine wpAnyH_take (i := 0) (v := ?_) rfl (by kernel_rfl) (by kernel_rfl) (by kernel_rfl) (fun _ _ _ h => h) (Or.inl ⟨by kernel_rfl, ?hy⟩) (by assumption) ?_
        case hy => intro w hSw; (try dsimp only at hSw); go_simp; try with_reducible rfl
        simp only [Act.put, List.setIfInBounds_toArray, List.set_cons_zero, List.set_cons_succ]
        refine wpAnyH_take (i := 1) (v := ?_) rfl (by kernel_rfl) (by kernel_rfl) (by kernel_rfl) (fun _ _ _ h => h) (Or.inl ⟨by kernel_rfl, ?hy⟩) (by assumption) ?_
        case hy => intro w hSw; (try dsimp only at hSw); go_simp; try with_reducible rfl
        simp only [Act.put, List.setIfInBounds_toArray, List.set_cons_zero, List.set_cons_succ]
        refine wpAnyH_ready (rs := [2]) (by kernel_rfl) (by simp) ?_
        refine AllReadyH.cons rfl (fun K hK => ?_) AllReadyH.nil
        go_simp
        refine hK.out _ _ (hh _ _ _ 0 hHeld.1 hHeld.2) (fun hHeld => ?_)
        clear hK K
        refine wpAnyH_ready (rs := [3]) (by kernel_rfl) (by simp) ?_
        refine AllReadyH.cons rfl (fun K hK => ?_) AllReadyH.nil
        go_simp
        refine hK.out _ _ (hh2 _ _ _ 0 hHeld.1 hHeld.2) (fun hHeld => ?_)
        clear hK K
        refine wpAnyH_done (by kernel_rfl) ?_ _
        have eZ : ∀ g, g ≠ w.heap.size → g ≠ w.heap.size + 1 → ((w'.setCell ⟨w.heap.size, 0, none⟩ (.slice (some ⟨ra, 0, none⟩) l.length l.length)).setCell ⟨w.heap.size + 1, 0, none⟩ (.slice (some ⟨rb, 0, none⟩) l.length l.length)).drew.heap[g]? = w'.heap[g]? := fun g g1 g2 => (Below.heap_setCell _ ⟨w.heap.size + 1, 0, none⟩ _ g g2).trans (Below.heap_setCell w' ⟨w.heap.size, 0, none⟩ _ g g1)
        have hbV : Below w.heap.size w V := HB.out.trans (by rw [← hVe]; exact (bel_one _ _).mono HB.out.size)
        have hbw : Below w.heap.size w w' := hbV.trans (HT1.out.below hbV.size (fun g hg hx => by rcases hx with hx | hx <;> omega))
        have hbZ : Below w.heap.size w ((w'.setCell ⟨w.heap.size, 0, none⟩ (.slice (some ⟨ra, 0, none⟩) l.length l.length)).setCell ⟨w.heap.size + 1, 0, none⟩ (.slice (some ⟨rb, 0, none⟩) l.length l.length)).drew := ((hbw.setCell (p := ⟨w.heap.size, 0, none⟩) (Nat.le_refl _) _).setCell (p := ⟨w.heap.size + 1, 0, none⟩) (by show w.heap.size ≤ w.heap.size + 1; omega) _).drew
        have nA := HS1.out.a.of (eZ ra (by omega) (by omega))
        have nF := HS1.out.f.of (eZ rb (by omega) (by omega))
        generalize ((w'.setCell ⟨w.heap.size, 0, none⟩ (.slice (some ⟨ra, 0, none⟩) l.length l.length)).setCell ⟨w.heap.size + 1, 0, none⟩ (.slice (some ⟨rb, 0, none⟩) l.length l.length)).drew = Z at *
        go_wp2_with fail
        refine bodyPost_ret (results_cc _ rfl _ _ w.heap.size (w.heap.size + 1) _ _ rfl rfl Tryd.underlying25 rfl hHeld.1 hHeld.2) rfl ?_
        exact ⟨ra, rb, A1, F1, rfl, by omega, by omega, nA, nF, HSol.out, hbZ⟩
      · have hlt := hyes rfl
        clear hno hyes
        go_wp2_with fail
        go_roundw
        case rel => exact ⟨A1, F1, HS1, HI1, HT1⟩
        case measure =>
          rw [t1, t2]
          have e : (sy l).n = l.length := rfl
          rw [e] at t3
          generalize l.length * lim = M at *
          omega
  have hmk := fun X => make_ints l.length HL.out X
  have B2 : Below w.heap.size w ((w.alloc (.cells #[.slice none 0 0] 25)).alloc (.cells #[.slice none 0 0] 25)) := bel_al (bel_one _ _) _
  have S2 : ((w.alloc (.cells #[.slice none 0 0] 25)).alloc (.cells #[.slice none 0 0] 25)).heap.size = w.heap.size + 2 := by simp
  refine wp_region_held_drew (S := fun _ => True) (by kernel_rfl) trivial ?_
  intro hHeld
  change wpAnyH _ _ _ _ _ _ _ _ (World.drew _)
  refine wpAnyH_take (i := 0) (v := ?_) rfl (by kernel_rfl) (by kernel_rfl) (by kernel_rfl) (fun _ _ _ h => h) (Or.inl ⟨by kernel_rfl, ?hy⟩) (by assumption) ?_
  case hy => intro w hSw; (try dsimp only at hSw); go_simp; try with_reducible rfl
  simp only [Act.put, List.setIfInBounds_toArray, List.set_cons_zero, List.set_cons_succ]
  refine wpAnyH_take (i := 1) (v := ?_) rfl (by kernel_rfl) (by kernel_rfl) (by kernel_rfl) (fun _ _ _ h => h) (Or.inl ⟨by kernel_rfl, ?hy⟩) (by assumption) ?_
  case hy => intro w hSw; (try dsimp only at hSw); go_simp; try with_reducible rfl
  simp only [Act.put, List.setIfInBounds_toArray, List.set_cons_zero, List.set_cons_succ]
  refine wpAnyH_take (i := 3) (v := ?_) rfl (by kernel_rfl) (by kernel_rfl) (by kernel_rfl) (fun _ _ _ h => h) (Or.inl ⟨by kernel_rfl, ?hy⟩) (by assumption) ?_
  case hy => intro w hSw; (try dsimp only at hSw); go_simp; try with_reducible rfl
  simp only [Act.put, List.setIfInBounds_toArray, List.set_cons_zero, List.set_cons_succ]
  refine wpAnyH_take (i := 4) (v := ?_) rfl (by kernel_rfl) (by kernel_rfl) (by kernel_rfl) (fun _ _ _ h => h) (Or.inl ⟨by kernel_rfl, ?hy⟩) (by assumption) ?_
  case hy => intro w hSw; (try dsimp only at hSw); go_simp; try with_reducible rfl
  simp only [Act.put, List.setIfInBounds_toArray, List.set_cons_zero, List.set_cons_succ]
  refine wpAnyH_ready (rs := [2, 5]) (by kernel_rfl) (by simp) ?_
  refine AllReadyH.cons rfl (fun K hK => ?_) (AllReadyH.cons rfl (fun K hK => ?_) AllReadyH.nil)
  · go_simp
    refine hK.out _ _ trivial (fun _ => ?_)
    clear hK K
    refine wpAnyH_ready (rs := [5, 6]) (by kernel_rfl) (by simp) ?_
    refine AllReadyH.cons rfl (fun K hK => ?_) (AllReadyH.cons rfl (fun K hK => ?_) AllReadyH.nil)
    · go_simp
      refine hK.out _ _ trivial (fun _ => ?_)
      clear hK K
      refine wpAnyH_ready (rs := [6]) (by kernel_rfl) (by simp) ?_
      refine AllReadyH.cons rfl (fun K hK => ?_) AllReadyH.nil
      go_simp
      refine hK.out _ _ trivial (fun _ => ?_)
      clear hK K
      refine wpAnyH_ready (rs := [7]) (by kernel_rfl) (by simp) ?_
      refine AllReadyH.cons rfl (fun K hK => ?_) AllReadyH.nil
      go_simp
      refine hK.out _ _ trivial (fun _ => ?_)
      clear hK K
      refine wpAnyH_done (by kernel_rfl) ?_ _
      refine REST _ _ _ ?_
      exact w2_made _ _ _ w (Or.inl ⟨rfl, rfl⟩)
    · go_simp
      refine hK.out _ _ trivial (fun _ => ?_)
      clear hK K
      refine wpAnyH_ready (rs := [5]) (by kernel_rfl) (by simp) ?_
      refine AllReadyH.cons rfl (fun K hK => ?_) AllReadyH.nil
      go_simp
      refine hK.out _ _ trivial (fun _ => ?_)
      clear hK K
      refine wpAnyH_ready (rs := [7]) (by kernel_rfl) (by simp) ?_
      refine AllReadyH.cons rfl (fun K hK => ?_) AllReadyH.nil
      go_simp
      refine hK.out _ _ trivial (fun _ => ?_)
      clear hK K
      refine wpAnyH_done (by kernel_rfl) ?_ _
      refine REST _ _ _ ?_
      exact w2_made _ _ _ w (Or.inl ⟨rfl, rfl⟩)
  · go_simp
    refine hK.out _ _ trivial (fun _ => ?_)
    clear hK K
    refine wpAnyH_ready (rs := [2]) (by kernel_rfl) (by simp) ?_
    refine AllReadyH.cons rfl (fun K hK => ?_) AllReadyH.nil
    go_simp
    refine hK.out _ _ trivial (fun _ => ?_)
    clear hK K
    refine wpAnyH_ready (rs := [6]) (by kernel_rfl) (by simp) ?_
    refine AllReadyH.cons rfl (fun K hK => ?_) AllReadyH.nil
    go_simp
    refine hK.out _ _ trivial (fun _ => ?_)
    clear hK K
    refine wpAnyH_ready (rs := [7]) (by kernel_rfl) (by simp) ?_
    refine AllReadyH.cons rfl (fun K hK => ?_) AllReadyH.nil
    go_simp
    refine hK.out _ _ trivial (fun _ => ?_)
    clear hK K
    refine wpAnyH_done (by kernel_rfl) ?_ _
    refine REST _ _ _ ?_
    exact w2_made _ _ _ w (Or.inr ⟨rfl, rfl⟩)
end Go.Proofs.YtjgaaofpfepfhaaDoor

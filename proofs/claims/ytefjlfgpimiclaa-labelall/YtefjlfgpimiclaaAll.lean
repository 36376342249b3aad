/-
  The program's function All, of two lists of the same length: whether what stands at each place flows to what stands there in the other list; nothing that lay before the call has turned. Of two lists of unlike lengths: no.
-/
import Derived.Test.YtefjlfgpimiclaaPairs
namespace Go.Proofs.Ytefjlfgpimiclaa
open Go.RowKit Go.Shelf
attribute [local go_sem] Oper.semAt_some
def al (f : Nat → P64) (len : Nat) : Bool := (upto f len).all fun p => fl p.1.1 p.1.2
theorem al_yes {f : Nat → P64} {len : Nat} (h : ∀ p ∈ upto f len, fl p.1.1 p.1.2 = true) : al f len = true := by
  simp only [al, List.all_eq_true]; exact h
theorem al_no {f : Nat → P64} {len k : Nat} (hk : k ≤ len) (h : ∃ p ∈ upto f k, fl p.1.1 p.1.2 = false) : al f len = false := by
  obtain ⟨p, hp, hf⟩ := h
  simp only [upto, List.mem_map, List.mem_range] at hp
  obtain ⟨j, hj, rfl⟩ := hp
  rw [al, List.all_eq_false]
  exact ⟨f j, by simp only [upto, List.mem_map, List.mem_range]; exact ⟨j, by omega, rfl⟩, by rw [hf]; simp⟩

theorem Reads.up {n₀ n₁ : Nat} {A : World} {a : Option Addr} {len : Nat} {g : Nat → Int} (hr : Reads n₀ A a len g) (h : n₀ ≤ n₁) : Reads n₁ A a len g := fun j hj => by
  obtain ⟨b, off, e, hb, hc⟩ := hr j hj
  exact ⟨b, off, e, by omega, hc⟩

set_option maxRecDepth 100000 in
set_option maxHeartbeats 2000000 in
theorem all_in (n : Nat) (hn : 3 ≤ n) (sa sb : Option Addr) (len ca cb : Nat) (f : Nat → P64) (hlen : len ≤ 9223372036854775807) (w : World)
    (hra : Reads w.heap.size w sa len (fun j => (f j).1.1)) (hrb : Reads w.heap.size w sb len (fun j => (f j).1.2)) :
    CallsIn Fence.wide n Try.prog 21 #[.slice sa len ca, .slice sb len cb] w fun e W' => e = .returned (.bool (al f len)) ∧ Below w.heap.size w W' := by
  have h1 : 1 ≤ n := by omega
  refine callsIn_of_wp_marks Try.func21 rfl trivial ?_ rfl
  simp only [Try.ntmps21, List.size_toArray, List.length_cons, List.length_nil, Nat.reduceAdd, Nat.reduceSub, Array.replicate_succ, Array.replicate_zero, List.push_toArray, List.append_toArray, List.nil_append, List.cons_append]
  gi_wp2_with (refine ⟨trivial, ?_⟩; gi_at_call 23; refine (pairs_in (n - 1) _ _ _ _ _ _ _).mono ?_; rintro e w' ⟨rfl, rfl⟩)
  have bR := Boxed.new w 4 (.bool false)
  have bA := Boxed.new (w.alloc (.cells #[.bool false] 4)) 28 (.slice sa len ca)
  have bB := Boxed.new ((w.alloc (.cells #[.bool false] 4)).alloc (.cells #[.slice sa len ca] 28)) 28 (.slice sb len cb)
  simp only [World.size_alloc] at bA bB
  have hB0 : Below w.heap.size w (((w.alloc (.cells #[.bool false] 4)).alloc (.cells #[.slice sa len ca] 28)).alloc (.cells #[.slice sb len cb] 28)) := (((Below.refl _ w).alloc (Nat.le_refl _) _).alloc (by simp) _).alloc (by simp; omega) _
  have hra' := (hra.below hB0).up (n₁ := w.heap.size + 1 + 1 + 1) (by omega)
  have hrb' := (hrb.below hB0).up (n₁ := w.heap.size + 1 + 1 + 1) (by omega)
  refine wpIn_rangeFunc_ownF rfl h1 (gf := 24) (lb := #[.pointer (some ⟨w.heap.size + 1, 0, none⟩), .pointer (some ⟨w.heap.size + 1 + 1, 0, none⟩)]) rfl trivial (enters_of Try.func24 (by kernel_rfl) rfl)
    (pairs_stops (n - 1) (by omega) (w.heap.size + 1) (w.heap.size + 1 + 1) (w.heap.size + 1 + 1 + 1) len ca cb sa sb f hlen _ (by simp) (by omega) (by omega) (bA.alloc _).cell bB.cell hra' hrb') belowK_t (belowK_b (by simp)) (Below.refl _ _) (fun _ => rfl)
    (fun pre W => ((∀ p ∈ pre, fl p.1.1 p.1.2 = true) ∧ W.cell? ⟨w.heap.size, 0, none⟩ = some (.bool false) ∧ W.frozen? ⟨w.heap.size, 0, none⟩ = false) ∧ Below w.heap.size w W)
    (fun c pre W => (c = .ret ∧ (∃ p ∈ pre, fl p.1.1 p.1.2 = false) ∧ W.cell? ⟨w.heap.size, 0, none⟩ = some (.bool false)) ∧ Below w.heap.size w W)
    (OwnFrom.and (Own.from (fun s A B row hs hg hr => ⟨hs.1, cell_kept hs.2.1 hg hr, (frozen_kept hs.2.1 hg hr).trans hs.2.2⟩) _) (ownFrom_below (Nat.le_refl _) (by simp; omega)))
    (fun c => OwnFrom.and (Own.from (fun s A B row hs hg hr => ⟨hs.1, hs.2.1, cell_kept hs.2.2 hg hr⟩) _) (ownFrom_below (Nat.le_refl _) (by simp; omega)))
    ⟨⟨by simp, ((bR.alloc _).alloc _).cell, ((bR.alloc _).alloc _).frozen⟩, hB0⟩
    (fun x => { tmps := #[.slice sa len ca, .slice sb len cb, undef, undef, .pointer (some ⟨w.heap.size, 0, none⟩), .int .i64 x.1.1, .int .i64 x.1.2, .slice sa len ca, .int .i64 (len : Int), .slice sb len cb, .int .i64 (len : Int), .bool false,
      .slice sa len ca, .slice sb len cb, .func (.func 24) #[] #[.pointer (some ⟨w.heap.size + 1, 0, none⟩), .pointer (some ⟨w.heap.size + 1 + 1, 0, none⟩)], .int .i64 x.1.1, .int .i64 x.1.2, undef, undef, undef, undef], defers := [] }) ?assign ?body ?done ?stop
  case assign =>
    intro l x W K hK
    gi_wp2
    exact hK
  case body =>
    rintro l pre x W ⟨⟨hp, hcr, hfr⟩, hB⟩ _
    have h2 : 1 ≤ n - 1 - 1 := by omega
    have hx1 := hide x.2.1
    have hx2 := hide x.2.2
    cases hx : fl x.1.1 x.1.2
    · have hx' := hide hx
      clear hx
      gi_wp2_with (refine ⟨trivial, ?_⟩; gi_at_call 17; refine (CallsIn.inRound l (callsIn_wide.2 (flows_is _ _ false _ hx1.out hx2.out hx'.out))).mono ?_; rintro e w1 ⟨rfl, rfl⟩)
      exact ⟨KeepsOthers.setCell _ _ _, ⟨rfl, ⟨x, List.mem_append.2 (.inr (by simp)), hx'.out⟩, World.cell?_setCell_same' _ _ _ (by rw [hcr]; rfl)⟩, hB.setCell (p := ⟨w.heap.size, 0, none⟩) (Nat.le_refl _) _⟩
    · have hx' := hide hx
      clear hx
      gi_wp2_with (refine ⟨trivial, ?_⟩; gi_at_call 17; refine (CallsIn.inRound l (callsIn_wide.2 (flows_is _ _ true _ hx1.out hx2.out hx'.out))).mono ?_; rintro e w1 ⟨rfl, rfl⟩)
      exact ⟨KeepsOthers.refl _, Below.refl _ _, ⟨fun p hp' => (List.mem_append.1 hp').elim (hp p) (fun e => by simp at e; subst e; exact hx'.out), hcr, hfr⟩, hB⟩
  case done =>
    rintro D ys W hD rfl ⟨⟨hne, hcr, hfr⟩, hB⟩ hK
    gi_wp2
    have hK' := (KeepsOthers.setCell W ⟨w.heap.size, 0, none⟩ (.bool true)).same D _ hK rfl
    refine ⟨by simp, .inl ⟨_, _, rfl, run_takeDeferred hK', ?_⟩⟩
    have hc5 := cell_kept (World.cell?_setCell_same' W ⟨w.heap.size, 0, none⟩ (.bool true) (by rw [hcr]; rfl)) (grownBy_putObj' _ D (.deferred none)) (fun r e => by cases e; exact ⟨_, hK', rfl⟩)
    refine ⟨.bool true, ?_, by rw [al_yes hne], (hB.setCell (p := ⟨w.heap.size, 0, none⟩) (Nat.le_refl _) _).trans (belowK_b (w := w) (Nat.le_refl _) _ D _ _ (by simp at hD; omega) hK' rfl rfl)⟩
    simp [results, Try.f21, go_sem, hc5]
  case stop =>
    rintro D c pre W hD ⟨k, hk, rfl⟩ ⟨⟨rfl, hex, hcr⟩, hB⟩ hK
    gi_wp2
    refine ⟨by simp, .inl ⟨_, _, rfl, run_takeDeferred hK, ?_⟩⟩
    have hc5 := cell_kept hcr (grownBy_putObj' _ D (.deferred none)) (fun r e => by cases e; exact ⟨_, hK, rfl⟩)
    refine ⟨.bool false, ?_, by rw [al_no hk hex], hB.trans (belowK_b (w := w) (Nat.le_refl _) W D _ _ (by simp at hD; omega) hK rfl rfl)⟩
    simp [results, Try.f21, go_sem, hc5]
end Go.Proofs.Ytefjlfgpimiclaa

/-
  The program's two closures: what around does at a place is the plain step; lacksElse.
-/
import Derived.Test.YtglagdbkcigojaaMem
namespace Go.Proofs.Ytglagdbkcigojaa
open Go.RowKit

def agg3 (x : Sp) : Value := .agg #[.int .i64 x.b, .int .i64 x.e, .int .i64 x.d]
theorem bel_one (w : World) (o : Obj) : Below w.heap.size w (w.alloc o) := (Below.refl _ _).alloc (Nat.le_refl _) _
set_option maxHeartbeats 1000000 in
theorem lacks_any (a : Option Addr) (n c n₀ : Nat) (f : Nat → Int) (x : Sp) (m : Nat) (hb : x.b = m) (hm : m < n) (w : World) (hO : Ops n₀ w a n f) (hn : n₀ ≤ w.heap.size) :
    Calls Try.prog 25 #[.slice a n c, agg3 x] w fun e w' => e = .returned (.bool (lacks f x)) ∧ w' = w.alloc (.cells #[.int .i64 x.b, .int .i64 x.e, .int .i64 x.d] 45) := by
  obtain ⟨b, off, rfl, hlt, hc⟩ := hO m hm
  obtain ⟨xb, xe, xd⟩ := x
  simp only at hb
  subst hb
  unfold agg3
  have cc : (w.alloc (.cells #[.int .i64 m, .int .i64 xe, .int .i64 xd] 45)).cell? ⟨b, off + m * 3, none⟩ = some (.int .i64 (f m)) := ((bel_one _ _).cell (p := ⟨b, off + m * 3, none⟩) (by show b < _; omega)).trans hc
  have hl : lacks f ⟨m, xe, xd⟩ = (f m == 4 && xe == -1) := by simp [lacks]
  have HL := hide hl
  clear hl hc hO
  by_cases h4 : f m = 4
  · rw [h4] at cc
    go_enter Try.func25, Try.ntmps25
    go_wp2_with fail
    go_ret
    exact ⟨ret_bool (by rw [HL.out, h4]; rfl), rfl⟩
  · go_enter Try.func25, Try.ntmps25
    go_wp2_with fail
    go_ret
    exact ⟨ret_bool (by rw [HL.out]; simp [h4]), rfl⟩
theorem lacks_is (a : Option Addr) (n c n₀ : Nat) (f : Nat → Int) (x : Sp) (r : Bool) (m : Nat) (hr : lacks f x = r) (hb : x.b = m) (hm : m < n) (w : World) (hO : Ops n₀ w a n f) (hn : n₀ ≤ w.heap.size) :
    Calls Try.prog 25 #[.slice a n c, .agg #[.int .i64 x.b, .int .i64 x.e, .int .i64 x.d]] w fun e w' => e = .returned (.bool r) ∧ Below w.heap.size w w' := by
  refine (lacks_any a n c n₀ f x m hb hm w hO hn).mono ?_
  rintro e w' ⟨rfl, rfl⟩
  exact ⟨by rw [hr], bel_one _ _⟩
theorem own_below {w w' : World} {b : Nat} {e : TypeId} {z n : Nat} {v : Value} {xs : List Value} (h : w.ownsRow b e z v n xs) (hb : Below w.heap.size w w') : w'.ownsRow b e z v n xs :=
  h.kept (row := none) ⟨hb.os, hb.tape, hb.output, hb.size, fun k hk _ => hb.block k hk⟩ (by cases v.ownBlock <;> simp)
theorem cut_fin {B : Nat} {l vs vo vo' : Value} {d : Int} {e : Bool} {w W wx : World} {sp : List Sp} {op : List Nat} (I : Bx B l vs vo d e false W) (hv : vo' = vo) (S : OS B W vs sp) (O : OO B W vo op) (L : Fr B vs vo vs vo w W)
    (hb : Below W.drew.heap.size W.drew wx) (x : Bool) : Hid (Bx B l vs vo' d e x (wx.setCell ⟨B + 5, 0, none⟩ (.bool x))) ∧ Hid (OS B (wx.setCell ⟨B + 5, 0, none⟩ (.bool x)) vs sp) ∧ Hid (OO B (wx.setCell ⟨B + 5, 0, none⟩ (.bool x)) vo op) ∧ Hid (Fr B vs vo vs vo w (wx.setCell ⟨B + 5, 0, none⟩ (.bool x))) := by
  subst hv
  have hs := I.size
  refine ⟨(I.drew.below hb hs).set5 x, ownsRow_setCell_below (own_below S.drew hb) (by show B + 5 < B + 6; omega) _, ownsRow_setCell_below (own_below O.drew hb) (by show B + 5 < B + 6; omega) _, ?_⟩
  exact (L.drew.below hb (by show B ≤ W.heap.size; omega)).box (by show B ≤ B + 5; omega) (by show B + 5 < B + 6; omega) _
theorem Inv.drew {B : Nat} {a : Option Addr} {n c : Nat} {s : St} {vs vo : Value} {w : World} (h : Inv B a n c s vs vo w) : Inv B a n c s vs vo w.drew := ⟨h.bx.drew, h.os.drew, h.oo.drew⟩
theorem Inv.put {B : Nat} {a : Option Addr} {n c : Nat} {s : St} {g1 cs : Nat} {vo : Value} {w : World} (h : Inv B a n c s (.slice (some ⟨g1, 0, none⟩) s.sp.length cs) vo w) (hg : B + 6 ≤ g1) (j : Nat) (u : Int) (sp' : List Sp)
    (hsp : (flat s.sp).set j (.int .i64 u) = flat sp') (hl : sp'.length = s.sp.length) : Inv B a n c { s with sp := sp' } (.slice (some ⟨g1, 0, none⟩) s.sp.length cs) vo (w.setCell ⟨g1, j, none⟩ (.int .i64 u)) := by
  have hs := (World.ownsRow.stored h.os j (.int .i64 u)).1
  rw [hsp] at hs
  refine ⟨h.bx.far (by show B + 6 ≤ g1; omega) _, ?_, ?_⟩
  · show World.ownsRow _ _ _ _ _ sp'.length (flat sp')
    rw [hl]; exact hs
  · refine ownsRow_setCell_other h.oo ?_ _
    rcases own_ne h.oo h.os (by decide) with e | e
    · rw [e]; simp
    · exact e
theorem rd_row {w : World} {B : Nat} {g c n : Nat} {xs : List Value} {r : List Nat} (h : w.ownsRow B 3 1 (.slice (some ⟨g, 0, none⟩) n c) n xs) (hr : r.length ≤ n) (hl : xs.take r.length = ints r.reverse) : Rd w (some ⟨g, 0, none⟩) r.length c r := by
  have := own_take h r.length hr
  rw [hl] at this
  exact own_rd this rfl rfl
end Go.Proofs.Ytglagdbkcigojaa

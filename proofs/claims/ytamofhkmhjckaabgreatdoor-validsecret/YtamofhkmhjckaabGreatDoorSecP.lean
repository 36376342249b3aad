/-
  ValidSecret's plain half: the four modules, what check says of them, and how they lie.
-/
import Derived.Test.YtamofhkmhjckaabGreatDoorEx
import Derived.Test.YtamofhkmhjckaabGreatDoorFrames
namespace Go.Proofs.YtamofhkmhjckaabGreatDoor
open Go.RowKit

def secM (sg : Int) (tr : Bool) (body : List In) (a b : Int) : Mo := ⟨[⟨[a, b], []⟩, ⟨[a], [b]⟩], [], [⟨sg, tr, [], body⟩], 0, 0, [⟨b, 0⟩], []⟩
def okE (r : Except (Int × Int) (List (List Int))) : Bool := match r with
  | .ok _ => true
  | .error _ => false
def se1 : List In := [⟨32, 0, 0⟩, ⟨33, 1, 0⟩, ⟨11, 0, 0⟩]
def se2 : List In := [⟨32, 0, 0⟩, ⟨36, 0, 0⟩, ⟨11, 0, 0⟩]
def se3 : List In := [⟨32, 0, 0⟩, ⟨11, 0, 0⟩]
def se4 : List In := [⟨32, 0, 0⟩, ⟨241, 0, 0⟩, ⟨11, 0, 0⟩]
theorem sec_1 {a b : Int} (ha : ri a = true) (hb : ri b = true) (tr : Bool) : okE (chkM (secM 0 tr se1 a b)) = fl a b := by
  rcases (ri_iff a).mp ha with rfl | rfl | rfl | rfl <;> rcases (ri_iff b).mp hb with rfl | rfl | rfl | rfl <;> cases tr <;> decide +kernel
theorem sec_2 {a b : Int} (ha : ri a = true) (hb : ri b = true) (tr : Bool) : okE (chkM (secM 0 tr se2 a b)) = fl a b := by
  rcases (ri_iff a).mp ha with rfl | rfl | rfl | rfl <;> rcases (ri_iff b).mp hb with rfl | rfl | rfl | rfl <;> cases tr <;> decide +kernel
theorem sec_3 {a b : Int} (ha : ri a = true) (hb : ri b = true) (tr : Bool) : okE (chkM (secM 1 tr se3 a b)) = fl a b := by
  rcases (ri_iff a).mp ha with rfl | rfl | rfl | rfl <;> rcases (ri_iff b).mp hb with rfl | rfl | rfl | rfl <;> cases tr <;> decide +kernel
theorem sec_4 {a b : Int} (ha : ri a = true) (hb : ri b = true) (tr : Bool) : okE (chkM (secM 1 tr se4 a b)) = (tr && (wi a == wi b)) := by
  rcases (ri_iff a).mp ha with rfl | rfl | rfl | rfl <;> rcases (ri_iff b).mp hb with rfl | rfl | rfl | rfl <;> cases tr <;> decide +kernel
theorem valid_yes (V : MoV) (M : Mo) (hr : okE (chkM M) = true) (w : World) (hL : Laid w) (h : IsMo w.heap.size w V M) (hy : ∀ d ∈ M.data, d.bytes.length ≤ 4611686018427387904) :
    Calls Tryz.prog 7 #[moV V M] w fun e w' => e = .returned .nilIface ∧ Below w.heap.size w w' := by
  refine (valid_any V M w hL h hy).mono fun e w' he => ?_
  cases hc : chkM M with
  | error c => rw [hc] at hr; cases hr
  | ok l => rw [hc] at he; exact he
theorem valid_no (V : MoV) (M : Mo) (hr : okE (chkM M) = false) (w : World) (hL : Laid w) (h : IsMo w.heap.size w V M) (hy : ∀ d ∈ M.data, d.bytes.length ≤ 4611686018427387904) :
    Calls Tryz.prog 7 #[moV V M] w fun e w' => (∃ p, e = .returned (flt p)) ∧ Below w.heap.size w w' := by
  refine (valid_any V M w hL h hy).mono fun e w' he => ?_
  cases hc : chkM M with
  | error c =>
    rw [hc] at he
    obtain ⟨p, rfl, _, b⟩ := he
    exact ⟨⟨p, rfl⟩, b⟩
  | ok l => rw [hc] at hr; cases hr
structure SecAt (n : Nat) (a b : Int) (vf : Value) (W : World) : Prop where
  g : Row W n #[.int .i64 32, .int .i64 0, .int .i64 0] 44
  e : Row W (n + 1) #[.int .i64 11, .int .i64 0, .int .i64 0] 44
  p : Row W (n + 1 + 1) #[.int .i64 a, .int .i64 b] 3
  q : Row W (n + 1 + 1 + 1) #[.int .i64 a] 3
  r : Row W (n + 1 + 1 + 1 + 1) #[.int .i64 b] 3
  s : Row W (n + 1 + 1 + 1 + 1 + 1) #[.slice (some ⟨n + 1 + 1, 0, none⟩) 2 2, .slice none 0 0, .slice (some ⟨n + 1 + 1 + 1, 0, none⟩) 1 1, .slice (some ⟨n + 1 + 1 + 1 + 1, 0, none⟩) 1 1] 42
  l : Row W (n + 1 + 1 + 1 + 1 + 1 + 1) #[.int .i64 b, .int .i64 0] 50
  m : Row W (n + 1 + 1 + 1 + 1 + 1 + 1 + 1) #[.slice (some ⟨n + 1 + 1 + 1 + 1 + 1, 0, none⟩) 2 2, .slice none 0 0, vf, .int .i64 0, .int .i64 0, .slice (some ⟨n + 1 + 1 + 1 + 1 + 1 + 1, 0, none⟩) 1 1, .slice none 0 0] 29
theorem SecAt.next {n : Nat} {a b : Int} {vf : Value} {W W' : World} (h : SecAt n a b vf W) (k : Below W.heap.size W W') : SecAt n a b vf W' :=
  ⟨h.g.kept k, h.e.kept k, h.p.kept k, h.q.kept k, h.r.kept k, h.s.kept k, h.l.kept k, h.m.kept k⟩
theorem SecAt.store {n : Nat} {a b : Int} {vf : Value} {W : World} (h : SecAt n a b vf W) (u : Value) : SecAt n a b u (W.setCell ⟨n + 1 + 1 + 1 + 1 + 1 + 1 + 1, 2, none⟩ u) :=
  ⟨h.g.other _ _ (by omega), h.e.other _ _ (by omega), h.p.other _ _ (by omega), h.q.other _ _ (by omega), h.r.other _ _ (by omega), h.s.other _ _ (by omega), h.l.other _ _ (by omega), by have := h.m.set 2 u; simpa using this⟩
def secV (n : Nat) (q : Nat) : MoV := ⟨.slice (some ⟨n + 1 + 1 + 1 + 1 + 1, 0, none⟩) 2 2, .slice none 0 0, .slice (some ⟨q, 0, none⟩) 1 1, .slice (some ⟨n + 1 + 1 + 1 + 1 + 1 + 1, 0, none⟩) 1 1, .slice none 0 0⟩
theorem sec_mo {n : Nat} {a b : Int} {vf : Value} {W : World} (h : SecAt n a b vf W) (ha : I64 a) (hb : I64 b) {q bq k : Nat} {sg : Int} {tr : Bool} {body : List In} (hs : I64 sg) (F : Row W q #[.int .i64 sg, .bool tr, .slice none 0 0, .slice (some ⟨bq, 0, none⟩) k k] 38) (B : Row W bq (celsI body).toArray 44) (hk : body.length = k) (h64 : ∀ x ∈ body, I64I x) :
    IsMo W.heap.size W (secV n q) (secM sg tr body a b) := by
  subst hk
  have i0 : I64 0 := ⟨by decide, by decide⟩
  have two : ∀ {c : Int}, I64 c → ∀ {k : Nat}, Row W k #[.int .i64 c] 3 → Sl 1 EInt (Lt W.heap.size) W (.slice (some ⟨k, 0, none⟩) 1 1) [c] := fun hc _ hr =>
    ⟨_, _, rfl, fun j hj => match j, hj with
      | 0, _ => ⟨_, 0, rfl, hr.lt, hc, hr.c 0 _ rfl⟩⟩
  refine ⟨⟨_, _, rfl, fun j hj => ?_⟩, Sl.isNil _ _ _ _, ⟨_, _, rfl, fun j hj => ?_⟩, ⟨i0, i0⟩, ⟨_, _, rfl, fun j hj => ?_⟩, Sl.isNil _ _ _ _⟩
  · match j, hj with
    | 0, _ =>
      refine ⟨_, 0, rfl, h.s.lt, _, _, h.s.c 0 _ rfl, h.s.c 1 _ rfl, ⟨_, _, rfl, fun i hi => ?_⟩, Sl.isNil _ _ _ _⟩
      match i, hi with
      | 0, _ => exact ⟨_, 0, rfl, h.p.lt, ha, h.p.c 0 _ rfl⟩
      | 1, _ => exact ⟨_, 0, rfl, h.p.lt, hb, h.p.c 1 _ rfl⟩
    | 1, _ => exact ⟨_, 0, rfl, h.s.lt, _, _, h.s.c 2 _ rfl, h.s.c 3 _ rfl, two ha h.q, two hb h.r⟩
  · match j, hj with
    | 0, _ => exact ⟨_, 0, rfl, F.lt, _, _, hs, F.c 0 _ rfl, F.c 1 _ rfl, F.c 2 _ rfl, F.c 3 _ rfl, Sl.isNil _ _ _ _, sl_ins h64 B rfl B.lt⟩
  · match j, hj with
    | 0, _ => exact ⟨_, 0, rfl, h.l.lt, ⟨hb, i0⟩, h.l.c 0 _ rfl, h.l.c 1 _ rfl⟩
theorem sec_i64 : (∀ x ∈ se1, I64I x) ∧ (∀ x ∈ se2, I64I x) ∧ (∀ x ∈ se3, I64I x) ∧ (∀ x ∈ se4, I64I x) := by
  refine ⟨?_, ?_, ?_, ?_⟩ <;> intro x hx <;> simp only [se1, se2, se3, se4, List.mem_cons, List.not_mem_nil, or_false] at hx
  · rcases hx with rfl | rfl | rfl <;> exact i64s (by decide)
  · rcases hx with rfl | rfl | rfl <;> exact i64s (by decide)
  · rcases hx with rfl | rfl <;> exact i64s (by decide)
  · rcases hx with rfl | rfl | rfl <;> exact i64s (by decide)
theorem sec_start (a b : Int) (vf : Value) (w : World) : SecAt w.heap.size a b vf ((((((((w.alloc (.cells #[.int .i64 32, .int .i64 0, .int .i64 0] 44)).alloc (.cells #[.int .i64 11, .int .i64 0, .int .i64 0] 44)).alloc (.cells #[.int .i64 a, .int .i64 b] 3)).alloc (.cells #[.int .i64 a] 3)).alloc (.cells #[.int .i64 b] 3)).alloc (.cells #[.slice (some ⟨w.heap.size + 1 + 1, 0, none⟩) 2 2, .slice none 0 0, .slice (some ⟨w.heap.size + 1 + 1 + 1, 0, none⟩) 1 1, .slice (some ⟨w.heap.size + 1 + 1 + 1 + 1, 0, none⟩) 1 1] 42)).alloc (.cells #[.int .i64 b, .int .i64 0] 50)).alloc (.cells #[.slice (some ⟨w.heap.size + 1 + 1 + 1 + 1 + 1, 0, none⟩) 2 2, .slice none 0 0, vf, .int .i64 0, .int .i64 0, .slice (some ⟨w.heap.size + 1 + 1 + 1 + 1 + 1 + 1, 0, none⟩) 1 1, .slice none 0 0] 29)) ∧ Below w.heap.size w ((((((((w.alloc (.cells #[.int .i64 32, .int .i64 0, .int .i64 0] 44)).alloc (.cells #[.int .i64 11, .int .i64 0, .int .i64 0] 44)).alloc (.cells #[.int .i64 a, .int .i64 b] 3)).alloc (.cells #[.int .i64 a] 3)).alloc (.cells #[.int .i64 b] 3)).alloc (.cells #[.slice (some ⟨w.heap.size + 1 + 1, 0, none⟩) 2 2, .slice none 0 0, .slice (some ⟨w.heap.size + 1 + 1 + 1, 0, none⟩) 1 1, .slice (some ⟨w.heap.size + 1 + 1 + 1 + 1, 0, none⟩) 1 1] 42)).alloc (.cells #[.int .i64 b, .int .i64 0] 50)).alloc (.cells #[.slice (some ⟨w.heap.size + 1 + 1 + 1 + 1 + 1, 0, none⟩) 2 2, .slice none 0 0, vf, .int .i64 0, .int .i64 0, .slice (some ⟨w.heap.size + 1 + 1 + 1 + 1 + 1 + 1, 0, none⟩) 1 1, .slice none 0 0] 29)) ∧ ((((((((w.alloc (.cells #[.int .i64 32, .int .i64 0, .int .i64 0] 44)).alloc (.cells #[.int .i64 11, .int .i64 0, .int .i64 0] 44)).alloc (.cells #[.int .i64 a, .int .i64 b] 3)).alloc (.cells #[.int .i64 a] 3)).alloc (.cells #[.int .i64 b] 3)).alloc (.cells #[.slice (some ⟨w.heap.size + 1 + 1, 0, none⟩) 2 2, .slice none 0 0, .slice (some ⟨w.heap.size + 1 + 1 + 1, 0, none⟩) 1 1, .slice (some ⟨w.heap.size + 1 + 1 + 1 + 1, 0, none⟩) 1 1] 42)).alloc (.cells #[.int .i64 b, .int .i64 0] 50)).alloc (.cells #[.slice (some ⟨w.heap.size + 1 + 1 + 1 + 1 + 1, 0, none⟩) 2 2, .slice none 0 0, vf, .int .i64 0, .int .i64 0, .slice (some ⟨w.heap.size + 1 + 1 + 1 + 1 + 1 + 1, 0, none⟩) 1 1, .slice none 0 0] 29)).heap.size = w.heap.size + 1 + 1 + 1 + 1 + 1 + 1 + 1 + 1 := by
  have r0 := Row.made w #[.int .i64 32, .int .i64 0, .int .i64 0] 44
  have r1 := Row.made (w.alloc (.cells #[.int .i64 32, .int .i64 0, .int .i64 0] 44)) #[.int .i64 11, .int .i64 0, .int .i64 0] 44
  rw [show (w.alloc (.cells #[.int .i64 32, .int .i64 0, .int .i64 0] 44)).heap.size = w.heap.size + 1 by simp] at r1
  have r2 := Row.made ((w.alloc (.cells #[.int .i64 32, .int .i64 0, .int .i64 0] 44)).alloc (.cells #[.int .i64 11, .int .i64 0, .int .i64 0] 44)) #[.int .i64 a, .int .i64 b] 3
  rw [show ((w.alloc (.cells #[.int .i64 32, .int .i64 0, .int .i64 0] 44)).alloc (.cells #[.int .i64 11, .int .i64 0, .int .i64 0] 44)).heap.size = w.heap.size + 1 + 1 by simp] at r2
  have r3 := Row.made (((w.alloc (.cells #[.int .i64 32, .int .i64 0, .int .i64 0] 44)).alloc (.cells #[.int .i64 11, .int .i64 0, .int .i64 0] 44)).alloc (.cells #[.int .i64 a, .int .i64 b] 3)) #[.int .i64 a] 3
  rw [show (((w.alloc (.cells #[.int .i64 32, .int .i64 0, .int .i64 0] 44)).alloc (.cells #[.int .i64 11, .int .i64 0, .int .i64 0] 44)).alloc (.cells #[.int .i64 a, .int .i64 b] 3)).heap.size = w.heap.size + 1 + 1 + 1 by simp] at r3
  have r4 := Row.made ((((w.alloc (.cells #[.int .i64 32, .int .i64 0, .int .i64 0] 44)).alloc (.cells #[.int .i64 11, .int .i64 0, .int .i64 0] 44)).alloc (.cells #[.int .i64 a, .int .i64 b] 3)).alloc (.cells #[.int .i64 a] 3)) #[.int .i64 b] 3
  rw [show ((((w.alloc (.cells #[.int .i64 32, .int .i64 0, .int .i64 0] 44)).alloc (.cells #[.int .i64 11, .int .i64 0, .int .i64 0] 44)).alloc (.cells #[.int .i64 a, .int .i64 b] 3)).alloc (.cells #[.int .i64 a] 3)).heap.size = w.heap.size + 1 + 1 + 1 + 1 by simp] at r4
  have r5 := Row.made (((((w.alloc (.cells #[.int .i64 32, .int .i64 0, .int .i64 0] 44)).alloc (.cells #[.int .i64 11, .int .i64 0, .int .i64 0] 44)).alloc (.cells #[.int .i64 a, .int .i64 b] 3)).alloc (.cells #[.int .i64 a] 3)).alloc (.cells #[.int .i64 b] 3)) #[.slice (some ⟨w.heap.size + 1 + 1, 0, none⟩) 2 2, .slice none 0 0, .slice (some ⟨w.heap.size + 1 + 1 + 1, 0, none⟩) 1 1, .slice (some ⟨w.heap.size + 1 + 1 + 1 + 1, 0, none⟩) 1 1] 42
  rw [show (((((w.alloc (.cells #[.int .i64 32, .int .i64 0, .int .i64 0] 44)).alloc (.cells #[.int .i64 11, .int .i64 0, .int .i64 0] 44)).alloc (.cells #[.int .i64 a, .int .i64 b] 3)).alloc (.cells #[.int .i64 a] 3)).alloc (.cells #[.int .i64 b] 3)).heap.size = w.heap.size + 1 + 1 + 1 + 1 + 1 by simp] at r5
  have r6 := Row.made ((((((w.alloc (.cells #[.int .i64 32, .int .i64 0, .int .i64 0] 44)).alloc (.cells #[.int .i64 11, .int .i64 0, .int .i64 0] 44)).alloc (.cells #[.int .i64 a, .int .i64 b] 3)).alloc (.cells #[.int .i64 a] 3)).alloc (.cells #[.int .i64 b] 3)).alloc (.cells #[.slice (some ⟨w.heap.size + 1 + 1, 0, none⟩) 2 2, .slice none 0 0, .slice (some ⟨w.heap.size + 1 + 1 + 1, 0, none⟩) 1 1, .slice (some ⟨w.heap.size + 1 + 1 + 1 + 1, 0, none⟩) 1 1] 42)) #[.int .i64 b, .int .i64 0] 50
  rw [show ((((((w.alloc (.cells #[.int .i64 32, .int .i64 0, .int .i64 0] 44)).alloc (.cells #[.int .i64 11, .int .i64 0, .int .i64 0] 44)).alloc (.cells #[.int .i64 a, .int .i64 b] 3)).alloc (.cells #[.int .i64 a] 3)).alloc (.cells #[.int .i64 b] 3)).alloc (.cells #[.slice (some ⟨w.heap.size + 1 + 1, 0, none⟩) 2 2, .slice none 0 0, .slice (some ⟨w.heap.size + 1 + 1 + 1, 0, none⟩) 1 1, .slice (some ⟨w.heap.size + 1 + 1 + 1 + 1, 0, none⟩) 1 1] 42)).heap.size = w.heap.size + 1 + 1 + 1 + 1 + 1 + 1 by simp] at r6
  have r7 := Row.made (((((((w.alloc (.cells #[.int .i64 32, .int .i64 0, .int .i64 0] 44)).alloc (.cells #[.int .i64 11, .int .i64 0, .int .i64 0] 44)).alloc (.cells #[.int .i64 a, .int .i64 b] 3)).alloc (.cells #[.int .i64 a] 3)).alloc (.cells #[.int .i64 b] 3)).alloc (.cells #[.slice (some ⟨w.heap.size + 1 + 1, 0, none⟩) 2 2, .slice none 0 0, .slice (some ⟨w.heap.size + 1 + 1 + 1, 0, none⟩) 1 1, .slice (some ⟨w.heap.size + 1 + 1 + 1 + 1, 0, none⟩) 1 1] 42)).alloc (.cells #[.int .i64 b, .int .i64 0] 50)) #[.slice (some ⟨w.heap.size + 1 + 1 + 1 + 1 + 1, 0, none⟩) 2 2, .slice none 0 0, vf, .int .i64 0, .int .i64 0, .slice (some ⟨w.heap.size + 1 + 1 + 1 + 1 + 1 + 1, 0, none⟩) 1 1, .slice none 0 0] 29
  rw [show (((((((w.alloc (.cells #[.int .i64 32, .int .i64 0, .int .i64 0] 44)).alloc (.cells #[.int .i64 11, .int .i64 0, .int .i64 0] 44)).alloc (.cells #[.int .i64 a, .int .i64 b] 3)).alloc (.cells #[.int .i64 a] 3)).alloc (.cells #[.int .i64 b] 3)).alloc (.cells #[.slice (some ⟨w.heap.size + 1 + 1, 0, none⟩) 2 2, .slice none 0 0, .slice (some ⟨w.heap.size + 1 + 1 + 1, 0, none⟩) 1 1, .slice (some ⟨w.heap.size + 1 + 1 + 1 + 1, 0, none⟩) 1 1] 42)).alloc (.cells #[.int .i64 b, .int .i64 0] 50)).heap.size = w.heap.size + 1 + 1 + 1 + 1 + 1 + 1 + 1 by simp] at r7
  replace r0 := r0.alloc (.cells #[.int .i64 11, .int .i64 0, .int .i64 0] 44)
  replace r0 := r0.alloc (.cells #[.int .i64 a, .int .i64 b] 3)
  replace r0 := r0.alloc (.cells #[.int .i64 a] 3)
  replace r0 := r0.alloc (.cells #[.int .i64 b] 3)
  replace r0 := r0.alloc (.cells #[.slice (some ⟨w.heap.size + 1 + 1, 0, none⟩) 2 2, .slice none 0 0, .slice (some ⟨w.heap.size + 1 + 1 + 1, 0, none⟩) 1 1, .slice (some ⟨w.heap.size + 1 + 1 + 1 + 1, 0, none⟩) 1 1] 42)
  replace r0 := r0.alloc (.cells #[.int .i64 b, .int .i64 0] 50)
  replace r0 := r0.alloc (.cells #[.slice (some ⟨w.heap.size + 1 + 1 + 1 + 1 + 1, 0, none⟩) 2 2, .slice none 0 0, vf, .int .i64 0, .int .i64 0, .slice (some ⟨w.heap.size + 1 + 1 + 1 + 1 + 1 + 1, 0, none⟩) 1 1, .slice none 0 0] 29)
  replace r1 := r1.alloc (.cells #[.int .i64 a, .int .i64 b] 3)
  replace r1 := r1.alloc (.cells #[.int .i64 a] 3)
  replace r1 := r1.alloc (.cells #[.int .i64 b] 3)
  replace r1 := r1.alloc (.cells #[.slice (some ⟨w.heap.size + 1 + 1, 0, none⟩) 2 2, .slice none 0 0, .slice (some ⟨w.heap.size + 1 + 1 + 1, 0, none⟩) 1 1, .slice (some ⟨w.heap.size + 1 + 1 + 1 + 1, 0, none⟩) 1 1] 42)
  replace r1 := r1.alloc (.cells #[.int .i64 b, .int .i64 0] 50)
  replace r1 := r1.alloc (.cells #[.slice (some ⟨w.heap.size + 1 + 1 + 1 + 1 + 1, 0, none⟩) 2 2, .slice none 0 0, vf, .int .i64 0, .int .i64 0, .slice (some ⟨w.heap.size + 1 + 1 + 1 + 1 + 1 + 1, 0, none⟩) 1 1, .slice none 0 0] 29)
  replace r2 := r2.alloc (.cells #[.int .i64 a] 3)
  replace r2 := r2.alloc (.cells #[.int .i64 b] 3)
  replace r2 := r2.alloc (.cells #[.slice (some ⟨w.heap.size + 1 + 1, 0, none⟩) 2 2, .slice none 0 0, .slice (some ⟨w.heap.size + 1 + 1 + 1, 0, none⟩) 1 1, .slice (some ⟨w.heap.size + 1 + 1 + 1 + 1, 0, none⟩) 1 1] 42)
  replace r2 := r2.alloc (.cells #[.int .i64 b, .int .i64 0] 50)
  replace r2 := r2.alloc (.cells #[.slice (some ⟨w.heap.size + 1 + 1 + 1 + 1 + 1, 0, none⟩) 2 2, .slice none 0 0, vf, .int .i64 0, .int .i64 0, .slice (some ⟨w.heap.size + 1 + 1 + 1 + 1 + 1 + 1, 0, none⟩) 1 1, .slice none 0 0] 29)
  replace r3 := r3.alloc (.cells #[.int .i64 b] 3)
  replace r3 := r3.alloc (.cells #[.slice (some ⟨w.heap.size + 1 + 1, 0, none⟩) 2 2, .slice none 0 0, .slice (some ⟨w.heap.size + 1 + 1 + 1, 0, none⟩) 1 1, .slice (some ⟨w.heap.size + 1 + 1 + 1 + 1, 0, none⟩) 1 1] 42)
  replace r3 := r3.alloc (.cells #[.int .i64 b, .int .i64 0] 50)
  replace r3 := r3.alloc (.cells #[.slice (some ⟨w.heap.size + 1 + 1 + 1 + 1 + 1, 0, none⟩) 2 2, .slice none 0 0, vf, .int .i64 0, .int .i64 0, .slice (some ⟨w.heap.size + 1 + 1 + 1 + 1 + 1 + 1, 0, none⟩) 1 1, .slice none 0 0] 29)
  replace r4 := r4.alloc (.cells #[.slice (some ⟨w.heap.size + 1 + 1, 0, none⟩) 2 2, .slice none 0 0, .slice (some ⟨w.heap.size + 1 + 1 + 1, 0, none⟩) 1 1, .slice (some ⟨w.heap.size + 1 + 1 + 1 + 1, 0, none⟩) 1 1] 42)
  replace r4 := r4.alloc (.cells #[.int .i64 b, .int .i64 0] 50)
  replace r4 := r4.alloc (.cells #[.slice (some ⟨w.heap.size + 1 + 1 + 1 + 1 + 1, 0, none⟩) 2 2, .slice none 0 0, vf, .int .i64 0, .int .i64 0, .slice (some ⟨w.heap.size + 1 + 1 + 1 + 1 + 1 + 1, 0, none⟩) 1 1, .slice none 0 0] 29)
  replace r5 := r5.alloc (.cells #[.int .i64 b, .int .i64 0] 50)
  replace r5 := r5.alloc (.cells #[.slice (some ⟨w.heap.size + 1 + 1 + 1 + 1 + 1, 0, none⟩) 2 2, .slice none 0 0, vf, .int .i64 0, .int .i64 0, .slice (some ⟨w.heap.size + 1 + 1 + 1 + 1 + 1 + 1, 0, none⟩) 1 1, .slice none 0 0] 29)
  replace r6 := r6.alloc (.cells #[.slice (some ⟨w.heap.size + 1 + 1 + 1 + 1 + 1, 0, none⟩) 2 2, .slice none 0 0, vf, .int .i64 0, .int .i64 0, .slice (some ⟨w.heap.size + 1 + 1 + 1 + 1 + 1 + 1, 0, none⟩) 1 1, .slice none 0 0] 29)
  exact ⟨⟨r0, r1, r2, r3, r4, r5, r6, r7⟩, (((((((bel_one w _).alloc (by simp <;> omega) _).alloc (by simp <;> omega) _).alloc (by simp <;> omega) _).alloc (by simp <;> omega) _).alloc (by simp <;> omega) _).alloc (by simp <;> omega) _).alloc (by simp <;> omega) _, by simp⟩
theorem sec_phase0 {n : Nat} {a b : Int} {w W : World} (z : Nat) (h : SecAt n a b (.slice (some ⟨z + 1, 0, none⟩) 1 1) W) (hB : Below w.heap.size w W) (ha : I64 a) (hb : I64 b) (hz : W.heap.size = z) {sg : Int} (tr : Bool) (body : List In) (k : Nat) (hs : I64 sg) (hk : body.length = k) (h64 : ∀ x ∈ body, I64I x) (cs : Array Value) (hcs : cs = (celsI body).toArray) :
    SecAt n a b (.slice (some ⟨z + 1, 0, none⟩) 1 1) ((W.alloc (.cells cs 44)).alloc (.cells #[.int .i64 sg, .bool tr, .slice none 0 0, .slice (some ⟨z, 0, none⟩) k k] 38)) ∧
    IsMo ((W.alloc (.cells cs 44)).alloc (.cells #[.int .i64 sg, .bool tr, .slice none 0 0, .slice (some ⟨z, 0, none⟩) k k] 38)).heap.size ((W.alloc (.cells cs 44)).alloc (.cells #[.int .i64 sg, .bool tr, .slice none 0 0, .slice (some ⟨z, 0, none⟩) k k] 38)) (secV n (z + 1)) (secM sg tr body a b) ∧
    Below w.heap.size w ((W.alloc (.cells cs 44)).alloc (.cells #[.int .i64 sg, .bool tr, .slice none 0 0, .slice (some ⟨z, 0, none⟩) k k] 38)) := by
  subst hz
  have B1 := bel_one W (.cells cs 44)
  have B2 := bel_one (W.alloc (.cells cs 44)) (.cells #[.int .i64 sg, .bool tr, .slice none 0 0, .slice (some ⟨W.heap.size, 0, none⟩) k k] 38)
  have A := (h.next B1).next B2
  have rb := (Row.made W cs 44).kept B2
  have rf := Row.made (W.alloc (.cells cs 44)) #[.int .i64 sg, .bool tr, .slice none 0 0, .slice (some ⟨W.heap.size, 0, none⟩) k k] 38
  rw [show (W.alloc (.cells cs 44)).heap.size = W.heap.size + 1 by simp] at rf
  rw [hcs] at rb
  have C := ((hB.trans (B1.mono hB.size)).trans (B2.mono (by have := hB.size; simp <;> omega)))
  rw [hcs] at A rf C ⊢
  exact ⟨A, sec_mo A ha hb hs rf rb hk h64, C⟩
theorem sec_phase {n : Nat} {a b : Int} {vf : Value} {w W : World} (h : SecAt n a b vf W) (hB : Below w.heap.size w W) (hn : w.heap.size ≤ n) (ha : I64 a) (hb : I64 b) (z : Nat) (hz : W.heap.size = z) {sg : Int} (tr : Bool) (body : List In) (k : Nat) (hs : I64 sg) (hk : body.length = k) (h64 : ∀ x ∈ body, I64I x) (cs : Array Value) (hcs : cs = (celsI body).toArray) :
    SecAt n a b vf ((W.alloc (.cells cs 44)).alloc (.cells #[.int .i64 sg, .bool tr, .slice none 0 0, .slice (some ⟨z, 0, none⟩) k k] 38)) ∧
    SecAt n a b (.slice (some ⟨z + 1, 0, none⟩) 1 1) (((W.alloc (.cells cs 44)).alloc (.cells #[.int .i64 sg, .bool tr, .slice none 0 0, .slice (some ⟨z, 0, none⟩) k k] 38)).setCell ⟨n + 1 + 1 + 1 + 1 + 1 + 1 + 1, 2, none⟩ (.slice (some ⟨z + 1, 0, none⟩) 1 1)) ∧
    IsMo (((W.alloc (.cells cs 44)).alloc (.cells #[.int .i64 sg, .bool tr, .slice none 0 0, .slice (some ⟨z, 0, none⟩) k k] 38)).setCell ⟨n + 1 + 1 + 1 + 1 + 1 + 1 + 1, 2, none⟩ (.slice (some ⟨z + 1, 0, none⟩) 1 1)).heap.size (((W.alloc (.cells cs 44)).alloc (.cells #[.int .i64 sg, .bool tr, .slice none 0 0, .slice (some ⟨z, 0, none⟩) k k] 38)).setCell ⟨n + 1 + 1 + 1 + 1 + 1 + 1 + 1, 2, none⟩ (.slice (some ⟨z + 1, 0, none⟩) 1 1)) (secV n (z + 1)) (secM sg tr body a b) ∧
    Below w.heap.size w (((W.alloc (.cells cs 44)).alloc (.cells #[.int .i64 sg, .bool tr, .slice none 0 0, .slice (some ⟨z, 0, none⟩) k k] 38)).setCell ⟨n + 1 + 1 + 1 + 1 + 1 + 1 + 1, 2, none⟩ (.slice (some ⟨z + 1, 0, none⟩) 1 1)) := by
  subst hz
  have hm := h.m.lt
  have B1 := bel_one W (.cells cs 44)
  have B2 := bel_one (W.alloc (.cells cs 44)) (.cells #[.int .i64 sg, .bool tr, .slice none 0 0, .slice (some ⟨W.heap.size, 0, none⟩) k k] 38)
  have D := (h.next B1).next B2
  have A := D.store (.slice (some ⟨W.heap.size + 1, 0, none⟩) 1 1)
  have rb := ((Row.made W cs 44).kept B2).other (c := n + 1 + 1 + 1 + 1 + 1 + 1 + 1) 2 (.slice (some ⟨W.heap.size + 1, 0, none⟩) 1 1) (by omega)
  have rf := (Row.made (W.alloc (.cells cs 44)) #[.int .i64 sg, .bool tr, .slice none 0 0, .slice (some ⟨W.heap.size, 0, none⟩) k k] 38).other (c := n + 1 + 1 + 1 + 1 + 1 + 1 + 1) 2 (.slice (some ⟨W.heap.size + 1, 0, none⟩) 1 1) (by simp <;> omega)
  rw [show (W.alloc (.cells cs 44)).heap.size = W.heap.size + 1 by simp] at rf
  rw [hcs] at rb
  have C := ((hB.trans (B1.mono hB.size)).trans (B2.mono (by have := hB.size; simp <;> omega)))
  rw [hcs] at A D rf C ⊢
  exact ⟨D, A, sec_mo A ha hb hs rf rb hk h64, C.setCell (by show w.heap.size ≤ n + 1 + 1 + 1 + 1 + 1 + 1 + 1; omega) _⟩
end Go.Proofs.YtamofhkmhjckaabGreatDoor

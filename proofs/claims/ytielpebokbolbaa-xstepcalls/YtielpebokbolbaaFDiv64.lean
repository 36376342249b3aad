/-
  math/bits.Div64, walked: of a number of two words whose upper one is less than the divisor it answers quotient and rest, and changes nothing.
-/
import Derived.Test.YtielpebokbolbaaFLeaf
import Derived.Test.YtielpebokbolbaaFLz
import Derived.Test.YtielpebokbolbaaFDivP
namespace Go.Proofs.Ytielpebokbolbaa.Fg
open Go.RowKit

theorem ret_uu {a b c d : Int} (h : a = b) (h2 : c = d) : Ending.returned (.tuple #[.int .u64 a, .int .u64 c]) = .returned (.tuple #[.int .u64 b, .int .u64 d]) := by rw [h, h2]

/-- what is reckoned behind the first digit -/
theorem tail1 {A y1 y0 u c1 c0 Q : Nat} (D : Dv A y1 y0) (hA : A < 18446744073709551616) (_hc1 : c1 < 4294967296) (hc0 : c0 < 4294967296) (hQ : Q = (u * 4294967296 + c1) / A) :
    ∃ m1 m2 m3 x q p r : Nat, IntKind.u64.wrap ((u : Int) * 4294967296) = (m1 : Int) ∧ IntKind.u64.wrap ((m1 : Int) + c1) = (m2 : Int) ∧ IntKind.u64.wrap ((Q : Int) * A) = (m3 : Int)
      ∧ IntKind.u64.wrap ((m2 : Int) - m3) = (x : Int) ∧ IntKind.u64.wrap ((x : Int) / y1) = (q : Int) ∧ IntKind.u64.wrap ((q : Int) * y1) = (p : Int) ∧ IntKind.u64.wrap ((x : Int) - p) = (r : Int)
      ∧ x = (u * 4294967296 + c1) % A ∧ K1 y1 x c0 A q r := by
  obtain ⟨m1, f1, g1⟩ := wrapN ((u : Int) * 4294967296)
  obtain ⟨m2, f2, g2⟩ := wrapN ((m1 : Int) + c1)
  obtain ⟨m3, f3, g3⟩ := wrapN ((Q : Int) * A)
  obtain ⟨x, f4, g4⟩ := wrapN ((m2 : Int) - m3)
  have hm := Nat.div_add_mod (u * 4294967296 + c1) A
  have hl := Nat.mod_lt (u * 4294967296 + c1) D.pos
  rw [← hQ] at hm
  have hx : x = (u * 4294967296 + c1) % A := by
    generalize (u * 4294967296 + c1) % A = z at hm hl
    have e : ((Q * A : Nat) : Int) = (Q : Int) * A := by rw [Int.natCast_mul]
    rw [← e] at g3
    rw [Nat.mul_comm] at hm
    generalize Q * A = P at g3 hm
    clear f1 f2 f3 f4 e hQ
    omega
  have hk := kn_start (u := x) (c := c0) D hc0
  have hy : 0 < y1 := by have := D.top; omega
  have hq : x / y1 ≤ x := Nat.div_le_self _ _
  have hp : x / y1 * y1 ≤ x := Nat.div_mul_le_self _ _
  refine ⟨m1, m2, m3, x, x / y1, x / y1 * y1, x % y1, f1, f2, f3, f4, ?_, ?_, ?_, hx, hk⟩
  · rw [← Int.natCast_ediv]; exact wrap_nat _ (by omega)
  · rw [← Int.natCast_mul]; exact wrap_nat _ (by omega)
  · have e : x - x / y1 * y1 = x % y1 := by rw [Nat.mod_eq_sub_div_mul]
    rw [← Int.ofNat_sub hp, e]; exact wrap_nat _ (by have := Nat.mod_le x y1; omega)

/-- what is reckoned behind the second digit -/
theorem tail2 {A y1 y0 u c1 c0 Q Q0 x : Nat} (D : Dv A y1 y0) (hA : A < 18446744073709551616) (hc1 : c1 < 4294967296) (hc0 : c0 < 4294967296) (hu : u < A)
    (hQ : Q = (u * 4294967296 + c1) / A) (hx : x = (u * 4294967296 + c1) % A) (hQ0 : Q0 = (x * 4294967296 + c0) / A) :
    ∃ n1 n2 n3 n4 n5 n6 : Nat, IntKind.u64.wrap ((Q : Int) * 4294967296) = (n1 : Int) ∧ IntKind.u64.wrap ((n1 : Int) + Q0) = (n2 : Int) ∧ IntKind.u64.wrap ((x : Int) * 4294967296) = (n3 : Int)
      ∧ IntKind.u64.wrap ((n3 : Int) + c0) = (n4 : Int) ∧ IntKind.u64.wrap ((Q0 : Int) * A) = (n5 : Int) ∧ IntKind.u64.wrap ((n4 : Int) - n5) = (n6 : Int)
      ∧ n2 = ((u * 4294967296 + c1) * 4294967296 + c0) / A ∧ n6 = ((u * 4294967296 + c1) * 4294967296 + c0) % A := by
  obtain ⟨n1, f1, g1⟩ := wrapN ((Q : Int) * 4294967296)
  obtain ⟨n2, f2, g2⟩ := wrapN ((n1 : Int) + Q0)
  obtain ⟨n3, f3, g3⟩ := wrapN ((x : Int) * 4294967296)
  obtain ⟨n4, f4, g4⟩ := wrapN ((n3 : Int) + c0)
  obtain ⟨n5, f5, g5⟩ := wrapN ((Q0 : Int) * A)
  obtain ⟨n6, f6, g6⟩ := wrapN ((n4 : Int) - n5)
  have hxl : x < A := by rw [hx]; exact Nat.mod_lt _ D.pos
  have h1 := kn_lt D hc1 hu
  have h2 := kn_lt D hc0 hxl
  rw [← hQ] at h1
  rw [← hQ0] at h2
  obtain ⟨t1, t2⟩ := kn_two A (u * 4294967296 + c1) c0 D.pos
  rw [← hQ, ← hx, ← hQ0] at t1
  rw [← hx] at t2
  refine ⟨n1, n2, n3, n4, n5, n6, f1, f2, f3, f4, f5, f6, ?_, ?_⟩
  · rw [← t1]; clear f1 f2 f3 f4 f5 f6 t1 t2 g5 g6 hx hQ hQ0; omega
  · rw [← t2]
    have hm := Nat.div_add_mod (x * 4294967296 + c0) A
    have hl := Nat.mod_lt (x * 4294967296 + c0) D.pos
    rw [← hQ0, Nat.mul_comm] at hm
    have e : ((Q0 * A : Nat) : Int) = (Q0 : Int) * A := by rw [Int.natCast_mul]
    rw [← e] at g5
    generalize (x * 4294967296 + c0) % A = z at hm hl ⊢
    generalize Q0 * A = P at g5 hm
    clear f1 f2 f3 f4 f5 f6 t1 t2 e hx hQ hQ0
    omega

set_option maxHeartbeats 1000000 in
theorem div64_zero (L Y : Nat) (w : World) (hL : L < 18446744073709551616) (_hY : Y < 18446744073709551616) (h0 : 0 < Y) :
    Calls Try.prog 85 #[.int .u64 0, .int .u64 L, .int .u64 Y] w fun e w' => e = .returned (.tuple #[.int .u64 ((L / Y : Nat) : Int), .int .u64 ((L % Y : Nat) : Int)]) ∧ Below w.heap.size w w' := by
  have h1 : ¬ ((Y : Int) = 0) := by omega
  have h2 : ¬ ((Y : Int) ≤ 0) := by omega
  have e1 : IntKind.u64.wrap ((L : Int) / Y) = ((L / Y : Nat) : Int) := by rw [← Int.natCast_ediv]; exact wrap_nat _ (Nat.lt_of_le_of_lt (Nat.div_le_self _ _) hL)
  have e2 : ((L : Int) % Y) = ((L % Y : Nat) : Int) := by rw [← Int.natCast_emod]
  have E1 := hide e1
  have E2 := hide e2
  clear e1 e2
  go_enter Try.func85, Try.ntmps85
  go_wp2_with fail
  go_region
  go_wp2_with fail
  go_ret2
  exact ⟨ret_uu E1.out E2.out, (Below.refl _ _).drew⟩
theorem hide_lt {A y1 y0 u c a b : Nat} (D : Dv A y1 y0) (hA : A < 18446744073709551616) (hu : u < A) (k : K1 y1 u c A a b) : a < 18446744073709551616 := by
  have h1 := k.1
  have h2 : a * 1 ≤ a * y1 := Nat.mul_le_mul_left _ (by have := D.top; omega)
  generalize a * y1 = P at *
  omega
theorem pr_eq {p a y0 : Nat} (g : (p : Int) = (a : Int) * y0 % 18446744073709551616) (ha : a < 4294967296) (hy : y0 < 4294967296) : p = a * y0 := by
  have h : a * y0 ≤ 4294967295 * 4294967295 := Nat.mul_le_mul (by omega) (by omega)
  rw [← Int.natCast_mul] at g
  generalize a * y0 = P at g h
  omega
set_option maxRecDepth 100000 in
set_option maxHeartbeats 4000000 in
theorem div64_core (H L Y s A y1 y0 u C c1 c0 q p r Z V : Nat) (w : World) (hH : H < Y) (h0 : 0 < H) (hs : s < 64)
    (S : ∀ w, Calls Try.prog 87 #[.int .u64 Y] w fun e w' => e = .returned (.int .i64 (s : Int)) ∧ w' = w)
    (hA : IntKind.u64.wrap ((Y : Int) * 2 ^ s) = (A : Int)) (hA1 : (A : Int) / 4294967296 = (y1 : Int)) (hA0 : bits .and .u64 (A : Int) 4294967295 = (y0 : Int))
    (hU : bits .or .u64 (IntKind.u64.wrap ((H : Int) * 2 ^ s)) ((L : Int) / 2 ^ (64 - s)) = (u : Int))
    (hC : IntKind.u64.wrap ((L : Int) * 2 ^ s) = (C : Int)) (hC1 : (C : Int) / 4294967296 = (c1 : Int)) (hC0 : bits .and .u64 (C : Int) 4294967295 = (c0 : Int))
    (hy1 : ¬ ((y1 : Int) = 0)) (hq : IntKind.u64.wrap ((u : Int) / y1) = (q : Int)) (hp : IntKind.u64.wrap ((q : Int) * y1) = (p : Int)) (hr : IntKind.u64.wrap ((u : Int) - p) = (r : Int))
    (D : Hid (Dv A y1 y0)) (hAl : Hid (A < 18446744073709551616)) (hc1 : Hid (c1 < 4294967296)) (hc0 : Hid (c0 < 4294967296)) (hu : Hid (u < A)) (k0 : Hid (K1 y1 u c1 A q r))
    (hZ : Hid (Z = ((u * 4294967296 + c1) * 4294967296 + c0) / A)) (hV : Hid (V = ((u * 4294967296 + c1) * 4294967296 + c0) % A)) :
    Calls Try.prog 85 #[.int .u64 H, .int .u64 L, .int .u64 Y] w fun e w' => e = .returned (.tuple #[.int .u64 (Z : Int), .int .u64 ((V : Int) / 2 ^ s)]) ∧ w' = w := by
  have S' := hide S
  clear S
  have h1 : ¬ ((Y : Int) = 0) := by omega
  have h2 : ¬ ((Y : Int) ≤ H) := by omega
  have h3 : ¬ ((H : Int) = 0) := by omega
  clear hH h0
  go_enter Try.func85, Try.ntmps85
  go_wp2_with (go_at_call 87; refine (S'.out _).mono ?_; rintro e w1 ⟨rfl, rfl⟩)
  clear hA hA1 hA0 hU hC hC1 hC0 hq hp hr h1 h3 S'
  go_loop [15, 16] (fun x y => ∃ a b : Nat, x = .int .u64 a ∧ y = .int .u64 b ∧ Hid (K1 y1 u c1 A a b)) (fun x _ => (intOf x).toNat)
  case atStart => exact ⟨q, r, rfl, rfl, k0⟩
  case round =>
    clear k0
    obtain ⟨a, b, rfl, rfl, hk⟩ := hrel
    have hal : a < 18446744073709551616 := hide_lt D.out hAl.out hu.out hk.out
    have hbl := hk.out.2.2
    have hy1l := D.out.lt
    obtain ⟨a', ha'⟩ : ∃ a', a' = a - 1 := ⟨_, rfl⟩
    obtain ⟨b', hb'⟩ : ∃ b', b' = b + y1 := ⟨_, rfl⟩
    have e4 : 1 ≤ a → IntKind.u64.wrap ((a : Int) - 1) = (a' : Int) := fun h => by rw [un_wrap]; simp only [un]; omega
    have e5 : IntKind.u64.wrap ((b : Int) + y1) = (b' : Int) := by rw [un_wrap]; simp only [un]; omega
    have HA' := hide ha'
    have HB' := hide hb'
    have E4 := hide e4
    have HBL := hide hbl
    clear e4 ha' hb' hal hbl hy1l
    by_cases hbig : 4294967296 ≤ a
    · have hlt := kn_big D.out hc1.out hu.out hk.out hbig
      have hbig2 : (4294967296 : Int) ≤ (a : Int) := by omega
      clear hbig
      have hst := hide (kn_step hk.out hlt)
      have hpos := hide (Nat.lt_of_le_of_lt (Nat.zero_le _) hlt)
      have e4 := E4.out hpos.out
      clear hlt
      by_cases hbr : 4294967296 ≤ b'
      · have hbi : (4294967296 : Int) ≤ (b' : Int) := by omega
        have hq := hide (kn_break D.out hu.out (by rw [← HA'.out, ← HB'.out] at hst; exact hst.out.1) (by rw [← HA'.out] at hst; exact hst.out.2) hbr)
        clear hk hst hbr
        have HQ := hide hq.out
        clear hq
        obtain ⟨m1, m2, m3, x, q2, p2, r2, i1, i2, i3, i4, i5, i6, i7, ix, ik⟩ := tail1 D.out hAl.out hc1.out hc0.out HQ.out
        have hx := hide ix
        have hxl : Hid (x < A) := hide (by rw [ix]; exact Nat.mod_lt _ D.out.pos)
        have k2 := hide ik
        clear ix ik
        go_wp2_with fail
        clear i1 i2 i3 i4 i5 i6 i7
        go_loop [16, 18] (fun z y => ∃ a b : Nat, y = .int .u64 a ∧ z = .int .u64 b ∧ Hid (K1 y1 x c0 A a b)) (fun _ y => (intOf y).toNat)
        case atStart => exact ⟨q2, r2, rfl, rfl, k2⟩
        case round =>
          clear k2
          obtain ⟨a, b, rfl, rfl, hk⟩ := hrel
          have hal : a < 18446744073709551616 := hide_lt D.out hAl.out hxl.out hk.out
          have hbl := hk.out.2.2
          have hy1l := D.out.lt
          obtain ⟨a', ha'⟩ : ∃ a', a' = a - 1 := ⟨_, rfl⟩
          obtain ⟨b', hb'⟩ : ∃ b', b' = b + y1 := ⟨_, rfl⟩
          have e4 : 1 ≤ a → IntKind.u64.wrap ((a : Int) - 1) = (a' : Int) := fun h => by rw [un_wrap]; simp only [un]; omega
          have e5 : IntKind.u64.wrap ((b : Int) + y1) = (b' : Int) := by rw [un_wrap]; simp only [un]; omega
          have HA' := hide ha'
          have HB' := hide hb'
          have E4 := hide e4
          have HBL := hide hbl
          clear e4 ha' hb' hal hbl hy1l
          by_cases hbig : 4294967296 ≤ a
          · have hlt := kn_big D.out hc0.out hxl.out hk.out hbig
            have hbig2 : (4294967296 : Int) ≤ (a : Int) := by omega
            clear hbig
            have hst := hide (kn_step hk.out hlt)
            have hpos := hide (Nat.lt_of_le_of_lt (Nat.zero_le _) hlt)
            have e4 := E4.out hpos.out
            clear hlt
            by_cases hbr : 4294967296 ≤ b'
            · have hbi : (4294967296 : Int) ≤ (b' : Int) := by omega
              have hq := hide (kn_break D.out hxl.out (by rw [← HA'.out, ← HB'.out] at hst; exact hst.out.1) (by rw [← HA'.out] at hst; exact hst.out.2) hbr)
              clear hk hst hbr
              obtain ⟨n1, n2, n3, n4, n5, n6, j1, j2, j3, j4, j5, j6, k2, k6⟩ := tail2 D.out hAl.out hc1.out hc0.out hu.out HQ.out hx.out hq.out
              have K2 := hide k2
              have K6 := hide k6
              clear k2 k6
              go_wp2_with fail
              go_ret2
              exact ⟨ret_uu (by rw [K2.out, ← hZ.out]) (by rw [K6.out, ← hV.out]), rfl⟩
            · have hbi : ¬ ((4294967296 : Int) ≤ (b' : Int)) := by omega
              have HBR := hide hbr
              clear hbr
              go_wp2_with fail
              go_round
              case rel => exact ⟨a', b', rfl, rfl, hide ⟨by rw [HA'.out, HB'.out]; exact hst.out.1, by rw [HA'.out]; exact hst.out.2, Nat.lt_of_not_le HBR.out⟩⟩
              case measure => have hp0 := hpos.out; have hp1 := HA'.out; clear hst hpos; simp [intOf]; omega
          · have hbig2 : ¬ ((4294967296 : Int) ≤ (a : Int)) := by omega
            have hbl := HBL.out
            have hbp : b * 4294967296 < 18446744073709551616 := by omega
            obtain ⟨p, hp, gp⟩ := wrapN ((a : Int) * y0)
            obtain ⟨t, ht, gt⟩ := wrapN (4294967296 * (b : Int))
            obtain ⟨v, hv, gv⟩ := wrapN ((t : Int) + c0)
            have gp' : p = a * y0 := pr_eq gp (Nat.lt_of_not_le hbig) D.out.low
            have gv' : v = 4294967296 * b + c0 := by have := hc0.out; omega
            have GP := hide gp'
            have GV := hide gv'
            clear gp gt gv gp' gv' hbp hbig hbl
            by_cases hcm : v < p
            · have hlt := kn_more D.out hk.out (by rw [← GP.out, ← GV.out]; exact hcm)
              have hcm2 : (v : Int) < (p : Int) := by omega
              have hst := hide (kn_step hk.out hlt)
              have hpos := hide (Nat.lt_of_le_of_lt (Nat.zero_le _) hlt)
              have e4 := E4.out hpos.out
              clear hlt
              by_cases hbr : 4294967296 ≤ b'
              · have hbi : (4294967296 : Int) ≤ (b' : Int) := by omega
                have hq := hide (kn_break D.out hxl.out (by rw [← HA'.out, ← HB'.out] at hst; exact hst.out.1) (by rw [← HA'.out] at hst; exact hst.out.2) hbr)
                clear hk hst hbr
                obtain ⟨n1, n2, n3, n4, n5, n6, j1, j2, j3, j4, j5, j6, k2, k6⟩ := tail2 D.out hAl.out hc1.out hc0.out hu.out HQ.out hx.out hq.out
                have K2 := hide k2
                have K6 := hide k6
                clear k2 k6
                go_wp2_with fail
                go_ret2
                exact ⟨ret_uu (by rw [K2.out, ← hZ.out]) (by rw [K6.out, ← hV.out]), rfl⟩
              · have hbi : ¬ ((4294967296 : Int) ≤ (b' : Int)) := by omega
                have HBR := hide hbr
                clear hbr
                go_wp2_with fail
                go_round
                case rel => exact ⟨a', b', rfl, rfl, hide ⟨by rw [HA'.out, HB'.out]; exact hst.out.1, by rw [HA'.out]; exact hst.out.2, Nat.lt_of_not_le HBR.out⟩⟩
                case measure => have hp0 := hpos.out; have hp1 := HA'.out; clear hst hpos; simp [intOf]; omega
            · have hq := hide (kn_end D.out hk.out.1 hk.out.2.1 (by rw [← GP.out, ← GV.out]; exact Nat.le_of_not_lt hcm))
              have hcm2 : ¬ ((v : Int) < (p : Int)) := by omega
              clear hk
              obtain ⟨n1, n2, n3, n4, n5, n6, j1, j2, j3, j4, j5, j6, k2, k6⟩ := tail2 D.out hAl.out hc1.out hc0.out hu.out HQ.out hx.out hq.out
              have K2 := hide k2
              have K6 := hide k6
              clear k2 k6
              go_wp2_with fail
              go_ret2
              exact ⟨ret_uu (by rw [K2.out, ← hZ.out]) (by rw [K6.out, ← hV.out]), rfl⟩
      · have hbi : ¬ ((4294967296 : Int) ≤ (b' : Int)) := by omega
        have HBR := hide hbr
        clear hbr
        go_wp2_with fail
        go_round
        case rel => exact ⟨a', b', rfl, rfl, hide ⟨by rw [HA'.out, HB'.out]; exact hst.out.1, by rw [HA'.out]; exact hst.out.2, Nat.lt_of_not_le HBR.out⟩⟩
        case measure => have hp0 := hpos.out; have hp1 := HA'.out; clear hst hpos; simp [intOf]; omega
    · have hbig2 : ¬ ((4294967296 : Int) ≤ (a : Int)) := by omega
      have hbl := HBL.out
      have hbp : b * 4294967296 < 18446744073709551616 := by omega
      obtain ⟨p, hp, gp⟩ := wrapN ((a : Int) * y0)
      obtain ⟨t, ht, gt⟩ := wrapN (4294967296 * (b : Int))
      obtain ⟨v, hv, gv⟩ := wrapN ((t : Int) + c1)
      have gp' : p = a * y0 := pr_eq gp (Nat.lt_of_not_le hbig) D.out.low
      have gv' : v = 4294967296 * b + c1 := by have := hc1.out; omega
      have GP := hide gp'
      have GV := hide gv'
      clear gp gt gv gp' gv' hbp hbig hbl
      by_cases hcm : v < p
      · have hlt := kn_more D.out hk.out (by rw [← GP.out, ← GV.out]; exact hcm)
        have hcm2 : (v : Int) < (p : Int) := by omega
        have hst := hide (kn_step hk.out hlt)
        have hpos := hide (Nat.lt_of_le_of_lt (Nat.zero_le _) hlt)
        have e4 := E4.out hpos.out
        clear hlt
        by_cases hbr : 4294967296 ≤ b'
        · have hbi : (4294967296 : Int) ≤ (b' : Int) := by omega
          have hq := hide (kn_break D.out hu.out (by rw [← HA'.out, ← HB'.out] at hst; exact hst.out.1) (by rw [← HA'.out] at hst; exact hst.out.2) hbr)
          clear hk hst hbr
          have HQ := hide hq.out
          clear hq
          obtain ⟨m1, m2, m3, x, q2, p2, r2, i1, i2, i3, i4, i5, i6, i7, ix, ik⟩ := tail1 D.out hAl.out hc1.out hc0.out HQ.out
          have hx := hide ix
          have hxl : Hid (x < A) := hide (by rw [ix]; exact Nat.mod_lt _ D.out.pos)
          have k2 := hide ik
          clear ix ik
          go_wp2_with fail
          clear i1 i2 i3 i4 i5 i6 i7
          go_loop [16, 18] (fun z y => ∃ a b : Nat, y = .int .u64 a ∧ z = .int .u64 b ∧ Hid (K1 y1 x c0 A a b)) (fun _ y => (intOf y).toNat)
          case atStart => exact ⟨q2, r2, rfl, rfl, k2⟩
          case round =>
            clear k2
            obtain ⟨a, b, rfl, rfl, hk⟩ := hrel
            have hal : a < 18446744073709551616 := hide_lt D.out hAl.out hxl.out hk.out
            have hbl := hk.out.2.2
            have hy1l := D.out.lt
            obtain ⟨a', ha'⟩ : ∃ a', a' = a - 1 := ⟨_, rfl⟩
            obtain ⟨b', hb'⟩ : ∃ b', b' = b + y1 := ⟨_, rfl⟩
            have e4 : 1 ≤ a → IntKind.u64.wrap ((a : Int) - 1) = (a' : Int) := fun h => by rw [un_wrap]; simp only [un]; omega
            have e5 : IntKind.u64.wrap ((b : Int) + y1) = (b' : Int) := by rw [un_wrap]; simp only [un]; omega
            have HA' := hide ha'
            have HB' := hide hb'
            have E4 := hide e4
            have HBL := hide hbl
            clear e4 ha' hb' hal hbl hy1l
            by_cases hbig : 4294967296 ≤ a
            · have hlt := kn_big D.out hc0.out hxl.out hk.out hbig
              have hbig2 : (4294967296 : Int) ≤ (a : Int) := by omega
              clear hbig
              have hst := hide (kn_step hk.out hlt)
              have hpos := hide (Nat.lt_of_le_of_lt (Nat.zero_le _) hlt)
              have e4 := E4.out hpos.out
              clear hlt
              by_cases hbr : 4294967296 ≤ b'
              · have hbi : (4294967296 : Int) ≤ (b' : Int) := by omega
                have hq := hide (kn_break D.out hxl.out (by rw [← HA'.out, ← HB'.out] at hst; exact hst.out.1) (by rw [← HA'.out] at hst; exact hst.out.2) hbr)
                clear hk hst hbr
                obtain ⟨n1, n2, n3, n4, n5, n6, j1, j2, j3, j4, j5, j6, k2, k6⟩ := tail2 D.out hAl.out hc1.out hc0.out hu.out HQ.out hx.out hq.out
                have K2 := hide k2
                have K6 := hide k6
                clear k2 k6
                go_wp2_with fail
                go_ret2
                exact ⟨ret_uu (by rw [K2.out, ← hZ.out]) (by rw [K6.out, ← hV.out]), rfl⟩
              · have hbi : ¬ ((4294967296 : Int) ≤ (b' : Int)) := by omega
                have HBR := hide hbr
                clear hbr
                go_wp2_with fail
                go_round
                case rel => exact ⟨a', b', rfl, rfl, hide ⟨by rw [HA'.out, HB'.out]; exact hst.out.1, by rw [HA'.out]; exact hst.out.2, Nat.lt_of_not_le HBR.out⟩⟩
                case measure => have hp0 := hpos.out; have hp1 := HA'.out; clear hst hpos; simp [intOf]; omega
            · have hbig2 : ¬ ((4294967296 : Int) ≤ (a : Int)) := by omega
              have hbl := HBL.out
              have hbp : b * 4294967296 < 18446744073709551616 := by omega
              obtain ⟨p, hp, gp⟩ := wrapN ((a : Int) * y0)
              obtain ⟨t, ht, gt⟩ := wrapN (4294967296 * (b : Int))
              obtain ⟨v, hv, gv⟩ := wrapN ((t : Int) + c0)
              have gp' : p = a * y0 := pr_eq gp (Nat.lt_of_not_le hbig) D.out.low
              have gv' : v = 4294967296 * b + c0 := by have := hc0.out; omega
              have GP := hide gp'
              have GV := hide gv'
              clear gp gt gv gp' gv' hbp hbig hbl
              by_cases hcm : v < p
              · have hlt := kn_more D.out hk.out (by rw [← GP.out, ← GV.out]; exact hcm)
                have hcm2 : (v : Int) < (p : Int) := by omega
                have hst := hide (kn_step hk.out hlt)
                have hpos := hide (Nat.lt_of_le_of_lt (Nat.zero_le _) hlt)
                have e4 := E4.out hpos.out
                clear hlt
                by_cases hbr : 4294967296 ≤ b'
                · have hbi : (4294967296 : Int) ≤ (b' : Int) := by omega
                  have hq := hide (kn_break D.out hxl.out (by rw [← HA'.out, ← HB'.out] at hst; exact hst.out.1) (by rw [← HA'.out] at hst; exact hst.out.2) hbr)
                  clear hk hst hbr
                  obtain ⟨n1, n2, n3, n4, n5, n6, j1, j2, j3, j4, j5, j6, k2, k6⟩ := tail2 D.out hAl.out hc1.out hc0.out hu.out HQ.out hx.out hq.out
                  have K2 := hide k2
                  have K6 := hide k6
                  clear k2 k6
                  go_wp2_with fail
                  go_ret2
                  exact ⟨ret_uu (by rw [K2.out, ← hZ.out]) (by rw [K6.out, ← hV.out]), rfl⟩
                · have hbi : ¬ ((4294967296 : Int) ≤ (b' : Int)) := by omega
                  have HBR := hide hbr
                  clear hbr
                  go_wp2_with fail
                  go_round
                  case rel => exact ⟨a', b', rfl, rfl, hide ⟨by rw [HA'.out, HB'.out]; exact hst.out.1, by rw [HA'.out]; exact hst.out.2, Nat.lt_of_not_le HBR.out⟩⟩
                  case measure => have hp0 := hpos.out; have hp1 := HA'.out; clear hst hpos; simp [intOf]; omega
              · have hq := hide (kn_end D.out hk.out.1 hk.out.2.1 (by rw [← GP.out, ← GV.out]; exact Nat.le_of_not_lt hcm))
                have hcm2 : ¬ ((v : Int) < (p : Int)) := by omega
                clear hk
                obtain ⟨n1, n2, n3, n4, n5, n6, j1, j2, j3, j4, j5, j6, k2, k6⟩ := tail2 D.out hAl.out hc1.out hc0.out hu.out HQ.out hx.out hq.out
                have K2 := hide k2
                have K6 := hide k6
                clear k2 k6
                go_wp2_with fail
                go_ret2
                exact ⟨ret_uu (by rw [K2.out, ← hZ.out]) (by rw [K6.out, ← hV.out]), rfl⟩
        · have hbi : ¬ ((4294967296 : Int) ≤ (b' : Int)) := by omega
          have HBR := hide hbr
          clear hbr
          go_wp2_with fail
          go_round
          case rel => exact ⟨a', b', rfl, rfl, hide ⟨by rw [HA'.out, HB'.out]; exact hst.out.1, by rw [HA'.out]; exact hst.out.2, Nat.lt_of_not_le HBR.out⟩⟩
          case measure => have hp0 := hpos.out; have hp1 := HA'.out; clear hst hpos; simp [intOf]; omega
      · have hq := hide (kn_end D.out hk.out.1 hk.out.2.1 (by rw [← GP.out, ← GV.out]; exact Nat.le_of_not_lt hcm))
        have hcm2 : ¬ ((v : Int) < (p : Int)) := by omega
        clear hk
        have HQ := hide hq.out
        clear hq
        obtain ⟨m1, m2, m3, x, q2, p2, r2, i1, i2, i3, i4, i5, i6, i7, ix, ik⟩ := tail1 D.out hAl.out hc1.out hc0.out HQ.out
        have hx := hide ix
        have hxl : Hid (x < A) := hide (by rw [ix]; exact Nat.mod_lt _ D.out.pos)
        have k2 := hide ik
        clear ix ik
        go_wp2_with fail
        clear i1 i2 i3 i4 i5 i6 i7
        go_loop [16, 18] (fun z y => ∃ a b : Nat, y = .int .u64 a ∧ z = .int .u64 b ∧ Hid (K1 y1 x c0 A a b)) (fun _ y => (intOf y).toNat)
        case atStart => exact ⟨q2, r2, rfl, rfl, k2⟩
        case round =>
          clear k2
          obtain ⟨a, b, rfl, rfl, hk⟩ := hrel
          have hal : a < 18446744073709551616 := hide_lt D.out hAl.out hxl.out hk.out
          have hbl := hk.out.2.2
          have hy1l := D.out.lt
          obtain ⟨a', ha'⟩ : ∃ a', a' = a - 1 := ⟨_, rfl⟩
          obtain ⟨b', hb'⟩ : ∃ b', b' = b + y1 := ⟨_, rfl⟩
          have e4 : 1 ≤ a → IntKind.u64.wrap ((a : Int) - 1) = (a' : Int) := fun h => by rw [un_wrap]; simp only [un]; omega
          have e5 : IntKind.u64.wrap ((b : Int) + y1) = (b' : Int) := by rw [un_wrap]; simp only [un]; omega
          have HA' := hide ha'
          have HB' := hide hb'
          have E4 := hide e4
          have HBL := hide hbl
          clear e4 ha' hb' hal hbl hy1l
          by_cases hbig : 4294967296 ≤ a
          · have hlt := kn_big D.out hc0.out hxl.out hk.out hbig
            have hbig2 : (4294967296 : Int) ≤ (a : Int) := by omega
            clear hbig
            have hst := hide (kn_step hk.out hlt)
            have hpos := hide (Nat.lt_of_le_of_lt (Nat.zero_le _) hlt)
            have e4 := E4.out hpos.out
            clear hlt
            by_cases hbr : 4294967296 ≤ b'
            · have hbi : (4294967296 : Int) ≤ (b' : Int) := by omega
              have hq := hide (kn_break D.out hxl.out (by rw [← HA'.out, ← HB'.out] at hst; exact hst.out.1) (by rw [← HA'.out] at hst; exact hst.out.2) hbr)
              clear hk hst hbr
              obtain ⟨n1, n2, n3, n4, n5, n6, j1, j2, j3, j4, j5, j6, k2, k6⟩ := tail2 D.out hAl.out hc1.out hc0.out hu.out HQ.out hx.out hq.out
              have K2 := hide k2
              have K6 := hide k6
              clear k2 k6
              go_wp2_with fail
              go_ret2
              exact ⟨ret_uu (by rw [K2.out, ← hZ.out]) (by rw [K6.out, ← hV.out]), rfl⟩
            · have hbi : ¬ ((4294967296 : Int) ≤ (b' : Int)) := by omega
              have HBR := hide hbr
              clear hbr
              go_wp2_with fail
              go_round
              case rel => exact ⟨a', b', rfl, rfl, hide ⟨by rw [HA'.out, HB'.out]; exact hst.out.1, by rw [HA'.out]; exact hst.out.2, Nat.lt_of_not_le HBR.out⟩⟩
              case measure => have hp0 := hpos.out; have hp1 := HA'.out; clear hst hpos; simp [intOf]; omega
          · have hbig2 : ¬ ((4294967296 : Int) ≤ (a : Int)) := by omega
            have hbl := HBL.out
            have hbp : b * 4294967296 < 18446744073709551616 := by omega
            obtain ⟨p, hp, gp⟩ := wrapN ((a : Int) * y0)
            obtain ⟨t, ht, gt⟩ := wrapN (4294967296 * (b : Int))
            obtain ⟨v, hv, gv⟩ := wrapN ((t : Int) + c0)
            have gp' : p = a * y0 := pr_eq gp (Nat.lt_of_not_le hbig) D.out.low
            have gv' : v = 4294967296 * b + c0 := by have := hc0.out; omega
            have GP := hide gp'
            have GV := hide gv'
            clear gp gt gv gp' gv' hbp hbig hbl
            by_cases hcm : v < p
            · have hlt := kn_more D.out hk.out (by rw [← GP.out, ← GV.out]; exact hcm)
              have hcm2 : (v : Int) < (p : Int) := by omega
              have hst := hide (kn_step hk.out hlt)
              have hpos := hide (Nat.lt_of_le_of_lt (Nat.zero_le _) hlt)
              have e4 := E4.out hpos.out
              clear hlt
              by_cases hbr : 4294967296 ≤ b'
              · have hbi : (4294967296 : Int) ≤ (b' : Int) := by omega
                have hq := hide (kn_break D.out hxl.out (by rw [← HA'.out, ← HB'.out] at hst; exact hst.out.1) (by rw [← HA'.out] at hst; exact hst.out.2) hbr)
                clear hk hst hbr
                obtain ⟨n1, n2, n3, n4, n5, n6, j1, j2, j3, j4, j5, j6, k2, k6⟩ := tail2 D.out hAl.out hc1.out hc0.out hu.out HQ.out hx.out hq.out
                have K2 := hide k2
                have K6 := hide k6
                clear k2 k6
                go_wp2_with fail
                go_ret2
                exact ⟨ret_uu (by rw [K2.out, ← hZ.out]) (by rw [K6.out, ← hV.out]), rfl⟩
              · have hbi : ¬ ((4294967296 : Int) ≤ (b' : Int)) := by omega
                have HBR := hide hbr
                clear hbr
                go_wp2_with fail
                go_round
                case rel => exact ⟨a', b', rfl, rfl, hide ⟨by rw [HA'.out, HB'.out]; exact hst.out.1, by rw [HA'.out]; exact hst.out.2, Nat.lt_of_not_le HBR.out⟩⟩
                case measure => have hp0 := hpos.out; have hp1 := HA'.out; clear hst hpos; simp [intOf]; omega
            · have hq := hide (kn_end D.out hk.out.1 hk.out.2.1 (by rw [← GP.out, ← GV.out]; exact Nat.le_of_not_lt hcm))
              have hcm2 : ¬ ((v : Int) < (p : Int)) := by omega
              clear hk
              obtain ⟨n1, n2, n3, n4, n5, n6, j1, j2, j3, j4, j5, j6, k2, k6⟩ := tail2 D.out hAl.out hc1.out hc0.out hu.out HQ.out hx.out hq.out
              have K2 := hide k2
              have K6 := hide k6
              clear k2 k6
              go_wp2_with fail
              go_ret2
              exact ⟨ret_uu (by rw [K2.out, ← hZ.out]) (by rw [K6.out, ← hV.out]), rfl⟩
theorem and_low (n : Nat) (h : n < 18446744073709551616) : bits .and .u64 (n : Int) 4294967295 = ((n % 4294967296 : Nat) : Int) := by
  have e := u64_and_nat n 4294967295 h (by decide)
  rw [show ((4294967295 : Nat) : Int) = 4294967295 from rfl] at e
  rw [e, show (4294967295 : Nat) = 2 ^ 32 - 1 by decide, Nat.and_two_pow_sub_one_eq_mod]
theorem join3 (u C : Nat) : (u * 4294967296 + C / 4294967296) * 4294967296 + C % 4294967296 = u * 18446744073709551616 + C := by omega
theorem div64_more (H L Y : Nat) (w : World) (hL : L < 18446744073709551616) (hY : Y < 18446744073709551616) (hH : H < Y) (h0 : 0 < H) :
    Calls Try.prog 85 #[.int .u64 H, .int .u64 L, .int .u64 Y] w fun e w' => e = .returned (.tuple #[.int .u64 (((H * 18446744073709551616 + L) / Y : Nat) : Int), .int .u64 (((H * 18446744073709551616 + L) % Y : Nat) : Int)]) ∧ w' = w := by
  obtain ⟨s, hs, hl, hu, S⟩ := lz_is Y (by omega) (by rw [two64]; exact hY)
  rw [two64] at hu
  have hp := Nat.two_pow_pos s
  have hlu := kn_lt_u H L Y s (by omega) hL hH
  have hmv := kn_move H L s (by omega)
  have hL2 : L / 2 ^ (64 - s) < 2 ^ s := by
    apply Nat.div_lt_of_lt_mul
    rw [← Nat.pow_add, show 64 - s + s = 64 by omega, two64]; exact hL
  have hq := Nat.mul_div_mul_right (H * 18446744073709551616 + L) Y hp
  have hr := Nat.mul_mod_mul_right (2 ^ s) (H * 18446744073709551616 + L) Y
  have D : Dv (Y * 2 ^ s) (Y * 2 ^ s / 4294967296) (Y * 2 ^ s % 4294967296) := by
    generalize Y * 2 ^ s = A at *
    have e63 : (2 : Nat) ^ 63 = 9223372036854775808 := by decide
    rw [e63] at hl
    exact ⟨by omega, by omega, by omega, by omega⟩
  have eU : H * 2 ^ s ||| L / 2 ^ (64 - s) = H * 2 ^ s + L / 2 ^ (64 - s) := nat_join s _ _ (Nat.mul_mod_left _ _) hL2
  have hk := kn_start (u := H * 2 ^ s + L / 2 ^ (64 - s)) (c := L * 2 ^ s % 18446744073709551616 / 4294967296) D (by omega)
  have iA : ((Y * 2 ^ s : Nat) : Int) = (Y : Int) * 2 ^ s := by rw [Int.natCast_mul, Int.natCast_pow]; rfl
  have iH : ((H * 2 ^ s : Nat) : Int) = (H : Int) * 2 ^ s := by rw [Int.natCast_mul, Int.natCast_pow]; rfl
  have iL : ((L * 2 ^ s : Nat) : Int) = (L : Int) * 2 ^ s := by rw [Int.natCast_mul, Int.natCast_pow]; rfl
  have iD : ((L / 2 ^ (64 - s) : Nat) : Int) = (L : Int) / 2 ^ (64 - s) := by rw [Int.natCast_ediv, Int.natCast_pow]; rfl
  have hHl : H * 2 ^ s < 18446744073709551616 := Nat.lt_of_le_of_lt (Nat.le_add_right _ _) (Nat.lt_trans hlu hu)
  have hDl : L / 2 ^ (64 - s) < 18446744073709551616 := Nat.lt_of_le_of_lt (Nat.div_le_self _ _) hL
  have T := div64_core H L Y s (Y * 2 ^ s) (Y * 2 ^ s / 4294967296) (Y * 2 ^ s % 4294967296) (H * 2 ^ s + L / 2 ^ (64 - s)) (L * 2 ^ s % 18446744073709551616) (L * 2 ^ s % 18446744073709551616 / 4294967296) (L * 2 ^ s % 18446744073709551616 % 4294967296)
    ((H * 2 ^ s + L / 2 ^ (64 - s)) / (Y * 2 ^ s / 4294967296)) ((H * 2 ^ s + L / 2 ^ (64 - s)) / (Y * 2 ^ s / 4294967296) * (Y * 2 ^ s / 4294967296)) ((H * 2 ^ s + L / 2 ^ (64 - s)) % (Y * 2 ^ s / 4294967296)) _ _ w hH h0 hs S
    (by rw [← iA]; exact wrap_nat _ hu) (by omega) (and_low _ hu)
    (by rw [← iH, ← iD, wrap_nat _ hHl, u64_or_nat _ _ hHl hDl, eU])
    (by rw [← iL, un_wrap]; simp only [un]; omega) (by omega) (and_low _ (by omega))
    (by have := D.top; omega)
    (by rw [← Int.natCast_ediv]; exact wrap_nat _ (Nat.lt_of_le_of_lt (Nat.div_le_self _ _) (by omega)))
    (by rw [← Int.natCast_mul]; exact wrap_nat _ (Nat.lt_of_le_of_lt (Nat.div_mul_le_self _ _) (by omega)))
    (by rw [← Int.ofNat_sub (Nat.div_mul_le_self _ _), ← Nat.mod_eq_sub_div_mul]; exact wrap_nat _ (Nat.lt_of_le_of_lt (Nat.mod_le _ _) (by omega)))
    (hide D) (hide hu) (hide (by omega)) (hide (by omega)) (hide hlu) (hide hk) (hide rfl) (hide rfl)
  have eN : ((H * 2 ^ s + L / 2 ^ (64 - s)) * 4294967296 + L * 2 ^ s % 18446744073709551616 / 4294967296) * 4294967296 + L * 2 ^ s % 18446744073709551616 % 4294967296 = (H * 18446744073709551616 + L) * 2 ^ s := by
    rw [← hmv]; exact join3 _ _
  rw [eN, hq, hr] at T
  have e3 : (((H * 18446744073709551616 + L) % Y * 2 ^ s : Nat) : Int) / 2 ^ s = (((H * 18446744073709551616 + L) % Y : Nat) : Int) := by
    have : ((2 : Int) ^ s) = ((2 ^ s : Nat) : Int) := by rw [Int.natCast_pow]; rfl
    rw [this, ← Int.natCast_ediv, Nat.mul_div_cancel _ hp]
  rw [e3] at T
  exact T
theorem div64_any (H L Y : Nat) (w : World) (hL : L < 18446744073709551616) (hY : Y < 18446744073709551616) (hH : H < Y) :
    Calls Try.prog 85 #[.int .u64 H, .int .u64 L, .int .u64 Y] w fun e w' => e = .returned (.tuple #[.int .u64 (((H * 18446744073709551616 + L) / Y : Nat) : Int), .int .u64 (((H * 18446744073709551616 + L) % Y : Nat) : Int)]) ∧ Below w.heap.size w w' := by
  by_cases h0 : 0 < H
  · refine (div64_more H L Y w hL hY hH h0).mono ?_
    rintro e w1 ⟨rfl, rfl⟩
    exact ⟨rfl, Below.refl _ _⟩
  · obtain rfl : H = 0 := by omega
    have h := div64_zero L Y w hL hY hH
    rw [Nat.zero_mul, Nat.zero_add]; exact h
end Go.Proofs.Ytielpebokbolbaa.Fg

/-
  Any memory is made, any number is loaded and stored at any place, as the document's own functions say: the walk of the statement LinmemWorks.
-/
import Derived.Test.YtcjojphajjoheaaRefN
import Derived.Lib.QuietBelow
namespace Go.Proofs.Ytcjojphajjoheaa
open Go.RowKit

theorem below_next {B : Nat} {w a b : World} (h : Below B w a) (k : Below a.heap.size a b) (hs : B ≤ a.heap.size) : Below B w b := h.trans (k.mono hs)
set_option maxRecDepth 20000 in
set_option maxHeartbeats 3200000 in
theorem works_walk (a0 a1 a2 a5 a6 : Option Addr) (n0 c0 n1 c1 n2 c2 n5 c5 c6 : Nat) (m0 m1 : Int) (l : List Da) (k : Int) (s : ByteArray) (a o n v : Int) (w : World) (hd : SDa w.heap.size w a6 l) (hl : l.length ≤ 9223372036854775807) (_hk : I64 k) (_hs : s.size ≤ 140737488351232) (_ha : I64 a) (_ho : I64 o) (hn : I64 n) (hv : I64 v) :
    Calls Try.prog 3 #[.agg #[.slice a0 n0 c0, .slice a1 n1 c1, .slice a2 n2 c2, .int .i64 m0, .int .i64 m1, .slice a5 n5 c5, .slice a6 l.length c6], .int .i64 k, .string s, .int .i64 a, .int .i64 o, .int .i64 n, .int .i64 v] w fun e w' => e = .returned (.bool true) ∧ Below w.heap.size w w' := by
  have hc := cut_size s
  have HR := hide (Row.made w (moC a0 a1 a2 a5 a6 n0 c0 n1 c1 n2 c2 n5 c5 l.length c6 m0 m1) 29)
  have HW := hide (bel_one w (.cells (moC a0 a1 a2 a5 a6 n0 c0 n1 c1 n2 c2 n5 c5 l.length c6 m0 m1) 29))
  have hd' := hide hd
  clear hd
  go_enter Try.func3, Try.ntmps3
  go_wp2_with (fail)
  refine (examples_any _).mono ?_
  generalize w.alloc _ = w0 at HR HW ⊢
  rintro e w1 ⟨rfl, b1⟩
  have R1 := hide (HR.out.kept b1)
  have W1 := hide (below_next HW.out b1 HW.out.size)
  clear HR HW b1
  go_wp2_with (fail)
  generalize s.extract 0 (min (s.size : Int) 5000).toNat = t at *
  refine (load_any _ _ _ _ _ hc).mono ?_
  rintro e w2 ⟨rfl, b2⟩
  have R2 := hide (R1.out.kept b2)
  have W2 := hide (below_next W1.out b2 W1.out.size)
  clear R1 W1 b2
  go_wp2_with (fail)
  refine (rload_any _ _ _ _ _ hc hn).mono ?_
  rintro e w3 ⟨rfl, b3⟩
  have b3' := b3.symm
  subst b3'
  clear b3
  go_wp2_with (fail)
  refine (store_any _ _ _ _ _ _ hv hc).mono ?_
  rintro e w3 ⟨rfl, b3⟩
  have R3 := hide (R2.out.kept b3)
  have W3 := hide (below_next W2.out b3 W2.out.size)
  clear R2 W2 b3
  go_wp2_with (fail)
  refine (rstore_any _ _ _ _ _ _ hv hc hn).mono ?_
  rintro e w4 ⟨rfl, b4⟩
  have R4 := R3.out.kept b4
  have W4 := hide (below_next W3.out b4 W3.out.size)
  clear R3 W3 b4
  have D4 := hide (hd'.out.step W4.out W4.out.size)
  have e0 := cell_regrown (R4.c 0 _ rfl)
  have e1 := cell_regrown (R4.c 1 _ rfl)
  have e2 := cell_regrown (R4.c 2 _ rfl)
  have e3 := cell_regrown (R4.c 3 _ rfl)
  have e4 := cell_regrown (R4.c 4 _ rfl)
  have e5 := cell_regrown (R4.c 5 _ rfl)
  have e6 := cell_regrown (R4.c 6 _ rfl)
  simp only [List.getElem_toArray, List.getElem_cons_zero, List.getElem_cons_succ] at e0 e1 e2 e3 e4 e5 e6
  have N1 := hide (fun d os => Calls.regrown_of (w := w4) (d := d) (os := os) (new_any a0 a1 a2 a5 a6 n0 c0 n1 c1 n2 c2 n5 c5 c6 m0 m1 k l (Go.Sort.grow (redrawn w4 d) os) hl (D4.out.step (below_regrown w4 d os) (below_regrown w4 d os).size)))
  have N2 := hide (fun d os => Calls.regrown_of (w := w4) (d := d) (os := os) (rnew_any a0 a1 a2 a5 a6 n0 c0 n1 c1 n2 c2 n5 c5 c6 m0 m1 k l (Go.Sort.grow (redrawn w4 d) os) hl (D4.out.step (below_regrown w4 d os) (below_regrown w4 d os).size)))
  generalize (ldA t.data.toList a o n).1 = x1 at *
  generalize (ldA t.data.toList a o n).2 = x2 at *
  generalize str (stA t.data.toList a o n v).1 = x3 at *
  generalize (stA t.data.toList a o n v).2 = x4 at *
  generalize str (newL m0 m1 k l) = x5 at *
  clear R4 D4
  go_wp2_with (fail)
  refine wp_region_quiet_below (by kernel_rfl) (by kernel_rfl) ?_
  repeat (go_big_quiet_step (first | exact N1.out _ _ | exact N2.out _ _))
  refine wpQuiet_nil ?_
  intro _ hw'
  obtain ⟨⟨dq, osq⟩, hw''⟩ := hw'
  subst hw''
  go_wp2
  go_ret
  exact ⟨rfl, below_next W4.out (below_regrown w4 dq osq) W4.out.size⟩
end Go.Proofs.Ytcjojphajjoheaa

/-
  The document's Defs, jump, writes, set.
-/
import Derived.Test.YtjgaaofpfepfhaaDoorParts
namespace Go.Proofs.YtjgaaofpfepfhaaDoor
open Go.RowKit
set_option linter.unusedSimpArgs false
set_option linter.unusedVariables false
theorem rdefs_any (x : Ir) (w : World) : Calls Tryd.prog 31 #[xv x] w fun e w' => e = .returned (.int .i64 (df x)) ∧ Below w.heap.size w w' := by
  obtain ⟨op, dst, a, b, c, n, m⟩ := x
  unfold xv xc
  go_enter Tryd.func31, Tryd.ntmps31
  by_cases h1 : op = 1
  · subst h1; go_wp2_with fail; go_ret; exact ⟨rfl, bel_one _ _⟩
  by_cases h2 : op = 2
  · subst h2; go_wp2_with fail; go_ret; exact ⟨rfl, bel_one _ _⟩
  by_cases h3 : op = 3
  · subst h3; go_wp2_with fail; go_ret; exact ⟨rfl, bel_one _ _⟩
  by_cases h4 : op = 4
  · subst h4; go_wp2_with fail; go_ret; exact ⟨rfl, bel_one _ _⟩
  by_cases h5 : op = 5
  · subst h5; go_wp2_with fail; go_ret; exact ⟨rfl, bel_one _ _⟩
  by_cases h7 : op = 7
  · subst h7; go_wp2_with fail; go_ret; exact ⟨rfl, bel_one _ _⟩
  by_cases h14 : op = 14
  · subst h14; go_wp2_with fail; go_ret; exact ⟨rfl, bel_one _ _⟩
  have hd : Hid (df ⟨op, dst, a, b, c, n, m⟩ = -1) := by show _ = _; simp [df, *]
  go_wp2_with fail
  go_ret
  exact ⟨by rw [hd.out]; rfl, bel_one _ _⟩
theorem rjump_any (x : Ir) (w : World) : Calls Tryd.prog 50 #[.int .i64 x.op] w fun e w' => e = .returned (.bool (jmp x)) ∧ w' = w := by
  obtain ⟨op, dst, a, b, c, n, m⟩ := x
  simp only
  go_enter Tryd.func50, Tryd.ntmps50
  by_cases h1 : op = 10
  · subst h1; go_wp2_with fail; go_ret; exact ⟨rfl, rfl⟩
  by_cases h2 : op = 11
  · subst h2; go_wp2_with fail; go_ret; exact ⟨rfl, rfl⟩
  by_cases h3 : op = 12
  · subst h3; go_wp2_with fail; go_ret; exact ⟨rfl, rfl⟩
  go_wp2_with fail
  go_ret
  exact ⟨rfl, rfl⟩
theorem rwrites_any (x : Ir) (w : World) : Calls Tryd.prog 49 #[.int .i64 x.op] w fun e w' => e = .returned (.bool (wrs x)) ∧ w' = w := by
  obtain ⟨op, dst, a, b, c, n, m⟩ := x
  simp only
  go_enter Tryd.func49, Tryd.ntmps49
  by_cases h1 : op = 1
  · subst h1; go_wp2_with fail; go_ret; exact ⟨rfl, rfl⟩
  by_cases h2 : op = 2
  · subst h2; go_wp2_with fail; go_ret; exact ⟨rfl, rfl⟩
  by_cases h3 : op = 3
  · subst h3; go_wp2_with fail; go_ret; exact ⟨rfl, rfl⟩
  by_cases h4 : op = 4
  · subst h4; go_wp2_with fail; go_ret; exact ⟨rfl, rfl⟩
  by_cases h5 : op = 5
  · subst h5; go_wp2_with fail; go_ret; exact ⟨rfl, rfl⟩
  by_cases h7 : op = 7
  · subst h7; go_wp2_with fail; go_ret; exact ⟨rfl, rfl⟩
  have hj : Hid (wrs ⟨op, dst, a, b, c, n, m⟩ = false) := by show _ = _; simp [wrs, *]
  go_wp2_with fail
  go_ret
  exact ⟨by rw [hj.out]; rfl, rfl⟩
/-- What the first k cells make. -/
def orT (ns : List Int) (k : Nat) : Nat := ors ((ns.take k).map one)
theorem orT_succ {ns : List Int} {k : Nat} (h : k < ns.length) : orT ns (k + 1) = orT ns k ||| one ns[k] := by
  unfold orT
  rw [List.take_add_one, List.getElem?_eq_getElem h]
  simp only [Option.toList_some, List.map_append, List.map_cons, List.map_nil]
  exact ors_snoc _ _
theorem orT_all (ns : List Int) : orT ns ns.length = ors (ns.map one) := by unfold orT; rw [List.take_length]
theorem orT_lim {ns : List Int} (h : ∀ y ∈ ns, 0 ≤ y ∧ y < 60) (k : Nat) : orT ns k < lim := ors_lim fun s hs => by
  obtain ⟨y, hy, rfl⟩ := List.mem_map.1 hs
  exact one_lim (h y (List.mem_of_mem_take hy)).2
set_option maxRecDepth 100000 in
set_option maxHeartbeats 6400000 in
theorem rset_any {B : Nat} {v : Value} {ns : List Int} {w : World} (h : Nv B v ns w) (hy : ∀ y ∈ ns, 0 ≤ y ∧ y < 60) (hl : ns.length ≤ 1000) :
    Calls Tryd.prog 47 #[v] w fun e w' => e = .returned (.int .i64 ((ors (ns.map one) : Nat) : Int)) ∧ w' = w := by
  obtain ⟨a, c, rfl⟩ := h.form
  have HN := hide h
  have HY := hide hy
  have HE := hide (orT_all ns)
  have H0 : Hid (orT ns 0 = 0) := by show _ = _; simp [orT, ors]
  clear h hy
  go_enter Tryd.func47, Tryd.ntmps47
  go_wp2_with fail
  go_loopw [3, 4] (fun s3 s4 wr => ∃ k : Nat, k ≤ ns.length ∧ s3 = .int .i64 ((orT ns k : Nat) : Int) ∧ s4 = .int .i64 (k : Int) ∧ wr = w) (fun _ s4 _ => ns.length - (intOf s4).toNat)
  case atStart => exact ⟨0, Nat.zero_le _, by rw [H0.out]; rfl, rfl, rfl⟩
  case round =>
    obtain ⟨k, hk, rfl, rfl, rfl⟩ := hrel
    by_cases hlt : k < ns.length
    · obtain ⟨g, c', e, hg1, hg2, hx⟩ := HN.out.at_ hlt
      injection e with ea e3 e2
      subst ea e2
      have hyk := HY.out _ (List.getElem_mem hlt)
      have HT := hide (orT_succ hlt)
      have hbits := bits_or (orT_lim HY.out k) (one_lim hyk.2)
      have hs := shl_one _ hyk.1 hyk.2
      have h1 : (k : Int) < (ns.length : Int) := by omega
      have h0 : (0 : Int) ≤ (k : Int) := by omega
      rw [← HT.out] at hbits
      clear HT
      have g0 := hyk.1
      have g1 := hyk.2
      have g2 : ¬ ns[k] < 0 := by omega
      clear hyk
      generalize hR1 : orT ns (k + 1) = R1 at *
      have HR1 := hide hR1
      clear hR1
      generalize orT ns k = R0 at *
      generalize one ns[k] = O at *
      generalize ns[k] = y at *
      go_wp2_with fail
      go_roundw
      case rel => exact ⟨k + 1, hlt, by rw [HR1.out], by go_num, trivial⟩
      case measure => simp [intOf]; omega
    · have h1 : ¬ (k : Int) < (ns.length : Int) := by omega
      obtain rfl : k = ns.length := by omega
      go_wp2_with fail
      go_ret
      exact ⟨by rw [← HE.out]; rfl, rfl⟩
end Go.Proofs.YtjgaaofpfepfhaaDoor

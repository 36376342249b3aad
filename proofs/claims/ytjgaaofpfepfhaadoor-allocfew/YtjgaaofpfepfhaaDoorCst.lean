/-
  The program's clash.Sets: of each cell those with which it clashes.
-/
import Derived.Test.YtjgaaofpfepfhaaDoorAft
import Derived.Test.YtjgaaofpfepfhaaDoorCpl
namespace Go.Proofs.YtjgaaofpfepfhaaDoor
open Go.RowKit
set_option linter.unusedSimpArgs false
set_option linter.unusedVariables false
theorem has_any (s : Nat) (n : Int) (w : World) (hs : s < lim) (h0 : 0 ≤ n) (h1 : n < 60) : Calls Tryd.prog 57 #[.int .i64 (s : Int), .int .i64 n] w fun e w' => e = .returned (.bool (s.testBit n.toNat)) ∧ w' = w := by
  have hn : ¬ n < 0 := by omega
  have HB := hide (bit_at n.toNat hs)
  go_enter Tryd.func57, Tryd.ntmps57
  go_wp2_with fail
  go_ret
  exact ⟨ret_bool HB.out, rfl⟩
/-- What addGiven has laid as far as place k. -/
def gvn (A : Nat → Nat) (z ps k i : Nat) : Nat := if i < k ∧ z.testBit i = true then A i ||| full ps else A i
theorem gvn_lim {A : Nat → Nat} {z ps k n : Nat} (h : ∀ i, i < n → A i < lim) (hp : ps ≤ 60) : ∀ i, i < n → gvn A z ps k i < lim := fun i hi => by
  unfold gvn
  split
  · exact or_lim (h i hi) (full_lim hp)
  · exact h i hi
theorem gvn_yes {A : Nat → Nat} {z ps k : Nat} (h : z.testBit k = true) (i : Nat) : upd (gvn A z ps k) k (A k ||| full ps) i = gvn A z ps (k + 1) i := by
  by_cases e : i = k
  · subst e; rw [upd_same]; simp [gvn, h]
  · rw [upd_other _ _ e]
    have : i < k + 1 ↔ i < k := by omega
    simp [gvn, this]
theorem gvn_no {A : Nat → Nat} {z ps k : Nat} (h : z.testBit k = false) (i : Nat) : gvn A z ps k i = gvn A z ps (k + 1) i := by
  by_cases e : i = k
  · subst e; simp [gvn, h]
  · have : i < k + 1 ↔ i < k := by omega
    simp [gvn, this]
set_option maxRecDepth 100000 in
set_option maxHeartbeats 6400000 in
theorem addgiven_any (r n c ps : Nat) (A : Nat → Nat) (z : Nat) (w : World) (hp : ps ≤ n) (hn : n ≤ 60) (hr : NRow r n A w) (hA : ∀ i, i < n → A i < lim) (hz : z < lim) :
    Calls Tryd.prog 38 #[.slice (some ⟨r, 0, none⟩) ps c, .int .i64 (z : Int)] w fun e w' => e = .returned (.tuple #[]) ∧ NRow r n (gvn A z ps ps) w' ∧ Bt (fun b => b = r) w w' := by
  have HA := hide hA
  have HR := hide hr
  have HZ := hide hz
  have HFU := hide (full_is (n := ps) (by omega))
  have HFL := hide (full_lim (n := ps) (by omega))
  have G0 : Hid (NRow r n (gvn A z ps 0) w) := hr.congr fun i hi => by simp [gvn]
  clear hA hr hz
  go_enter Tryd.func38, Tryd.ntmps38
  go_wp2_with fail
  go_loopw [4, 7] (fun _ s7 wr => ∃ k : Nat, k ≤ ps ∧ s7 = .int .i64 (k : Int) ∧ Hid (NRow r n (gvn A z ps k) wr) ∧ Hid (Bt (fun b => b = r) w wr)) (fun _ s7 _ => ps - (intOf s7).toNat)
  case atStart => exact ⟨0, Nat.zero_le _, rfl, G0, Bt.refl _ _⟩
  case round =>
    obtain ⟨k, hk, rfl, HN, HB⟩ := hrel
    by_cases hlt : k < ps
    · have h1 : (k : Int) < (ps : Int) := by omega
      have h0 : (0 : Int) ≤ (k : Int) := by omega
      have HC := hide (has_any z (k : Int) wr HZ.out h0 (by omega))
      have hkn : k < n := by omega
      go_wp2_with fail
      refine HC.out.mono ?_
      rintro e w1 ⟨rfl, rfl⟩
      cases hb : z.testBit k
      · have HG := hide (HN.out.congr fun i hi => gvn_no hb i)
        have hb2 : z.testBit (k : Int).toNat = false := hb
        go_wp2_with fail
        go_roundw
        case rel => exact ⟨k + 1, hlt, by go_num, HG, HB⟩
        case measure => simp [intOf]; omega
      · have hx := HN.out.c k hkn
        have hf := HN.out.f k
        have hA1 : gvn A z ps k k = A k := by simp [gvn]
        rw [hA1] at hx
        have hbits := bits_or (HA.out k hkn) HFL.out
        have HG := hide (((HN.out.set hkn (A k ||| full ps)).congr fun i hi => gvn_yes hb i).of (W' := (w1.setCell ⟨r, k, none⟩ (.int .i64 ((A k ||| full ps : Nat) : Int))).drew) rfl)
        have HB2 := hide ((HB.out.set (b := r) rfl k (.int .i64 ((A k ||| full ps : Nat) : Int))).drew)
        have hb2 : z.testBit (k : Int).toNat = true := hb
        have hs := HFU.out
        go_wp2_with fail
        go_region
        go_wp2_with fail
        go_roundw
        case rel => exact ⟨k + 1, hlt, by go_num, HG, HB2⟩
        case measure => simp [intOf]; omega
    · have h1 : ¬ (k : Int) < (ps : Int) := by omega
      obtain rfl : k = ps := by omega
      go_wp2_with fail
      go_end0
      exact ⟨rfl, HN.out, HB.out⟩
theorem shl_nat (k : Nat) (h : k < 60) : wrap64 (2 ^ k) = ((one (k : Int) : Nat) : Int) := by
  have := shl_one (k : Int) (by omega) (by omega)
  rwa [Int.toNat_natCast] at this
/-- A row of sets of which each bit is told. -/
structure MR (r n : Nat) (T : Nat → Nat → Bool) (W : World) : Prop where
  ex : ∃ S, NRow r n S W ∧ (∀ i, i < n → S i < lim) ∧ ∀ i, i < n → ∀ j, (S i).testBit j = T i j
theorem MR.congr {r n : Nat} {T U : Nat → Nat → Bool} {W : World} (h : MR r n T W) (e : ∀ i, i < n → ∀ j, T i j = U i j) : MR r n U W := by
  obtain ⟨S, h1, h2, h3⟩ := h.ex
  exact ⟨S, h1, h2, fun i hi j => (h3 i hi j).trans (e i hi j)⟩
theorem MR.drew {r n : Nat} {T : Nat → Nat → Bool} {W : World} (h : MR r n T W) : MR r n T W.drew := by
  obtain ⟨S, h1, h2, h3⟩ := h.ex
  exact ⟨S, h1.of rfl, h2, h3⟩
theorem one_nat (k i : Nat) : (one (k : Int)).testBit i = decide (k = i) := by rw [one_bit]; simp
theorem MR.clear {r n k : Nat} {A : Nat → Nat → Bool} {S : Nat → Nat} {W : World} (hn : n ≤ 60) (hk : k < n) (h1 : NRow r n S W) (h2 : ∀ i, i < n → S i < lim) (h3 : ∀ i, i < n → ∀ j, (S i).testBit j = mu A k i j) :
    MR r n (mv A k 0) (W.setCell ⟨r, k, none⟩ (.int .i64 ((dn (S k) (one (k : Int)) : Nat) : Int))) := by
  have ho : one (k : Int) < lim := one_lim (by omega)
  refine ⟨upd S k (dn (S k) (one (k : Int))), h1.set hk _, fun i hi => ?_, fun i hi j => ?_⟩
  · by_cases e : i = k
    · subst e; rw [upd_same]; exact dn_lim (h2 i hi) ho
    · rw [upd_other _ _ e]; exact h2 i hi
  · rw [mv_zero]
    by_cases e : i = k
    · subst e
      rw [upd_same, dn_bit (h2 i hi) ho, h3 i hi, one_nat]
      by_cases ej : j = i
      · subst ej; simp
      · have : ¬ i = j := fun h => ej h.symm
        simp [ej, this]
    · rw [upd_other _ _ e, h3 i hi, if_neg (fun h => e h.1)]
theorem MR.both {r n k m : Nat} {A : Nat → Nat → Bool} {S : Nat → Nat} {W : World} (hn : n ≤ 60) (hk : k < n) (hm : m < k) (h1 : NRow r n S W) (h2 : ∀ i, i < n → S i < lim) (h3 : ∀ i, i < n → ∀ j, (S i).testBit j = mv A k m i j) (t : (A k m || A m k) = true) :
    MR r n (mv A k (m + 1)) ((W.setCell ⟨r, k, none⟩ (.int .i64 ((S k ||| one (m : Int) : Nat) : Int))).setCell ⟨r, m, none⟩ (.int .i64 ((S m ||| one (k : Int) : Nat) : Int))) := by
  have hok : one (k : Int) < lim := one_lim (by omega)
  have hom : one (m : Int) < lim := one_lim (by omega)
  have hmk : m ≠ k := by omega
  refine ⟨upd (upd S k (S k ||| one (m : Int))) m (S m ||| one (k : Int)), (h1.set hk _).set (by omega) _, fun i hi => ?_, fun i hi j => ?_⟩
  · by_cases e : i = m
    · subst e; rw [upd_same]; exact or_lim (h2 i hi) hok
    · rw [upd_other _ _ e]
      by_cases e2 : i = k
      · subst e2; rw [upd_same]; exact or_lim (h2 i hi) hom
      · rw [upd_other _ _ e2]; exact h2 i hi
  · rw [mv_yes A hm t]
    by_cases e : i = m
    · subst e
      rw [upd_same, Nat.testBit_or, h3 i hi, one_nat]
      by_cases ej : j = k
      · subst ej; simp
      · have : ¬ k = j := fun h => ej h.symm
        simp [this, ej, hmk]
    · rw [upd_other _ _ e]
      by_cases e2 : i = k
      · subst e2
        rw [upd_same, Nat.testBit_or, h3 i hi, one_nat]
        by_cases ej : j = m
        · subst ej; simp
        · have : ¬ m = j := fun h => ej h.symm
          simp [this, ej, e]
      · rw [upd_other _ _ e2, h3 i hi, if_neg (by omega)]
set_option maxRecDepth 100000 in
set_option maxHeartbeats 6400000 in
theorem mutual_any (r n c : Nat) (A : Nat → Nat → Bool) (w : World) (hn : n ≤ 60) (hr : MR r n A w) :
    Calls Tryd.prog 39 #[.slice (some ⟨r, 0, none⟩) n c] w fun e w' => e = .returned (.tuple #[]) ∧ MR r n (mu A n) w' ∧ Bt (fun b => b = r) w w' := by
  have G0 : Hid (MR r n (mu A 0) w) := hr.congr fun i _ j => (mu_zero A i j).symm
  clear hr
  go_enter Tryd.func39, Tryd.ntmps39
  go_wp2_with fail
  go_loopw [2, 3, 6] (fun _ _ s6 wr => ∃ k : Nat, k ≤ n ∧ s6 = .int .i64 (k : Int) ∧ Hid (MR r n (mu A k) wr) ∧ Hid (Bt (fun b => b = r) w wr)) (fun _ _ s6 _ => n - (intOf s6).toNat)
  case atStart => exact ⟨0, Nat.zero_le _, rfl, G0, Bt.refl _ _⟩
  case round =>
    clear G0
    obtain ⟨k, hk, rfl, HM, HB⟩ := hrel
    by_cases hlt : k < n
    · have h1 : (k : Int) < (n : Int) := by omega
      have h0 : (0 : Int) ≤ (k : Int) := by omega
      obtain ⟨S, q1, q2, q3⟩ := HM.out.ex
      have hx := q1.c k hlt
      have hf := q1.f k
      have hs := shl_nat k (by omega)
      have hbits := bits_dn (q2 k hlt) (one_lim (n := (k : Int)) (by omega))
      have HM2 := hide ((MR.clear hn hlt q1 q2 q3).drew)
      have HB2 := hide ((HB.out.set (b := r) rfl k (.int .i64 ((dn (S k) (one (k : Int)) : Nat) : Int))).drew)
      generalize hD : dn (S k) (one (k : Int)) = D at *
      generalize hO : one (k : Int) = O at *
      generalize S k = Sk at *
      clear q1 q2 q3 HM HB hD
      have HO := hide hO
      clear hO
      go_wp2_with fail
      go_region
      go_wp2_with fail
      clear hs hbits
      generalize wrap64 (2 ^ k) = zk
      go_loopw [3, 18] (fun _ s18 wr => ∃ m : Nat, m ≤ k ∧ s18 = .int .i64 (m : Int) ∧ Hid (MR r n (mv A k m) wr) ∧ Hid (Bt (fun b => b = r) w wr)) (fun _ s18 _ => k - (intOf s18).toNat)
      case atStart => exact ⟨0, Nat.zero_le _, rfl, HM2, HB2⟩
      case round =>
        clear HM2 HB2 hx hf
        obtain ⟨m, hm, rfl, HM, HB⟩ := hrel
        by_cases hmk : m < k
        · have g1 : (m : Int) < (k : Int) := by omega
          have g0 : (0 : Int) ≤ (m : Int) := by omega
          have hmn : m < n := by omega
          obtain ⟨S, q1, q2, q3⟩ := HM.out.ex
          have xk := q1.c k hlt
          have fk := q1.f k
          have xm := q1.c m hmn
          have fm := q1.f m
          have NOW := mv_now A hmk
          have bk : (S k).testBit m = A k m := (q3 k hlt m).trans NOW.1
          have bm : (S m).testBit k = A m k := (q3 m hmn k).trans NOW.2
          have HK := hide (fun U => has_any (S k) (m : Int) U (q2 k hlt) g0 (by omega))
          have HH := hide (fun U => has_any (S m) (k : Int) U (q2 m hmn) h0 (by omega))
          simp only [Int.toNat_natCast, bk, bm] at HK HH
          have MY := hide (fun t => MR.both hn hlt hmk q1 q2 q3 t)
          have MN := hide (fun t => (show MR r n (mv A k (m + 1)) wr from HM.out.congr fun i _ j => (mv_no A hmk t i j).symm))
          have sm := shl_nat m (by omega)
          have sk := shl_nat k (by omega)
          have ok := bits_or (q2 k hlt) (one_lim (n := (m : Int)) (by omega))
          have om := bits_or (q2 m hmn) (one_lim (n := (k : Int)) (by omega))
          have HB2 := hide ((HB.out.set (b := r) rfl k (.int .i64 ((S k ||| one (m : Int) : Nat) : Int))).drew)
          have xm2 : ((wr.setCell ⟨r, k, none⟩ (.int .i64 ((S k ||| one (m : Int) : Nat) : Int))).drew).cell? ⟨r, m, none⟩ = some (.int .i64 ((S m : Nat) : Int)) := (far wr r k m _ (by omega)).trans xm
          have fm2 : ((wr.setCell ⟨r, k, none⟩ (.int .i64 ((S k ||| one (m : Int) : Nat) : Int))).drew).frozen? ⟨r, m, none⟩ = false := ((q1.set hlt (S k ||| one (m : Int))).of (W' := ((wr.setCell ⟨r, k, none⟩ (.int .i64 ((S k ||| one (m : Int) : Nat) : Int))).drew)) rfl).f m
          have HB3 := hide ((HB2.out.set (b := r) rfl m (.int .i64 ((S m ||| one (k : Int) : Nat) : Int))).drew)
          generalize hOm : one (m : Int) = Om at *
          generalize hOk : one (k : Int) = Ok at *
          generalize hSk : S k ||| Om = Skm at *
          generalize hSm : S m ||| Ok = Smk at *
          generalize S k = Sk at *
          generalize S m = Sm at *
          have HO := hide (And.intro hOm (And.intro hOk (And.intro hSk hSm)))
          clear q1 q2 q3 hOm hOk hSk hSm NOW bk bm HM
          cases tk : A k m
          · cases tm : A m k
            · have MN2 := hide (MN.out (by rw [tk, tm]; rfl))
              rw [tk] at HK
              rw [tm] at HH
              clear MY MN xm2 fm2 ok om sm sk
              go_wp2_with fail
              refine (HK.out _).mono ?_
              rintro e w1 ⟨rfl, rfl⟩
              go_wp2_with fail
              refine (HH.out _).mono ?_
              rintro e w1 ⟨rfl, rfl⟩
              go_wp2_with fail
              go_roundw
              case rel => exact ⟨m + 1, hmk, by go_num, MN2, HB⟩
              case measure => simp [intOf]; omega
            · have MY2 := hide ((MY.out (by rw [tk, tm]; rfl)).drew.drew)
              rw [tk] at HK
              rw [tm] at HH
              clear MY MN
              go_wp2_with fail
              refine (HK.out _).mono ?_
              rintro e w1 ⟨rfl, rfl⟩
              go_wp2_with fail
              refine (HH.out _).mono ?_
              rintro e w1 ⟨rfl, rfl⟩
              go_wp2_with fail
              go_region
              go_wp2_with fail
              go_region
              go_wp2_with fail
              go_roundw
              case rel => exact ⟨m + 1, hmk, by go_num, MY2, HB3⟩
              case measure => simp [intOf]; omega
          · have MY2 := hide ((MY.out (by rw [tk]; rfl)).drew.drew)
            rw [tk] at HK
            clear MY MN HH
            go_wp2_with fail
            refine (HK.out _).mono ?_
            rintro e w1 ⟨rfl, rfl⟩
            go_wp2_with fail
            go_region
            go_wp2_with fail
            go_region
            go_wp2_with fail
            go_roundw
            case rel => exact ⟨m + 1, hmk, by go_num, MY2, HB3⟩
            case measure => simp [intOf]; omega
        · have g1 : ¬ (m : Int) < (k : Int) := by omega
          obtain rfl : m = k := by omega
          have HM3 := hide (HM.out.congr fun i _ j => mv_all A m i j)
          go_wp2_with fail
          go_roundw
          case rel => exact ⟨m + 1, hlt, by go_num, HM3, HB⟩
          case measure => simp [intOf]; omega
    · have h1 : ¬ (k : Int) < (n : Int) := by omega
      obtain rfl : k = n := by omega
      go_wp2_with fail
      go_end0
      exact ⟨rfl, HM.out, HB.out⟩
end Go.Proofs.YtjgaaofpfepfhaaDoor

/-
  The bytes of a module's parts, plainly, and the program's functions that write them; memory that was there stays as it was.
-/
import Derived.Test.YtcbfpikggphokaaGreatDoorFits
import Derived.Test.YtcbfpikggphokaaGreatDoorRefBytes
import Derived.Test.YtcbfpikggphokaaGreatDoorBody
import Derived.Lib.QuietBelow
namespace Go.Proofs.YtcbfpikggphokaaGreatDoor
open Go.RowKit

def num (n : Int) : List UInt8 := enc n (szU n)
def cnt (b : List UInt8) : List UInt8 := num b.length ++ b
def flat {α : Type} (P : α → List UInt8) (l : List α) : List UInt8 := (l.map P).flatten
def lst {α : Type} (P : α → List UInt8) (l : List α) : List UInt8 := num l.length ++ flat P l
def oneB (n : Int) : List UInt8 := [byI n]
def tyB (t : Int) : List UInt8 := [byI (127 - t)]
def sgB (s : Sg) : List UInt8 := lst tyB s.params ++ lst tyB s.results
def fnB (f : Fn) : List UInt8 := num f.sig ++ oneB (if f.tr then 1 else 0)
def s32 (v : Int) : Int := if v < 2147483648 then v else v - 4294967296
def glV (g : Gl) : Int := if wi g.t = true then g.v else s32 g.v
def glB (g : Gl) : List UInt8 := tyB g.t ++ enc (glV g) (szS (glV g))
def inB (x : In) : List UInt8 := iby x.op x.n x.m
def cdB (f : Fn) : List UInt8 := lst tyB f.locals ++ cnt (flat inB f.body)
def daB (d : Da) : List UInt8 := num d.mem ++ num d.pos ++ cnt d.bytes
def sec {α : Type} (k : Int) (P : α → List UInt8) (l : List α) : List UInt8 := if l.length = 0 then [] else oneB k ++ cnt (lst P l)

theorem num_len (n : Int) : (num n).length ≤ 9 := by unfold num; rw [enc_length]; exact (szU_bd n).2
theorem flat_len {α : Type} {P : α → List UInt8} {c : Nat} : ∀ {l : List α}, (∀ x ∈ l, (P x).length ≤ c) → (flat P l).length ≤ l.length * c
  | [], _ => by simp [flat]
  | x :: r, h => by
    have h1 := h x (List.mem_cons_self ..)
    have h2 := flat_len (l := r) (fun y hy => h y (List.mem_cons_of_mem _ hy))
    simp only [flat, List.map_cons, List.flatten_cons, List.length_append, List.length_cons] at *
    rw [Nat.add_mul]; omega
theorem flat_next {α : Type} {P : α → List UInt8} {l : List α} {k : Nat} (h : k < l.length) : flat P (l.take (k + 1)) = flat P (l.take k) ++ P l[k] := by
  rw [List.take_succ_eq_append_getElem h]; simp only [flat, List.map_append, List.map_cons, List.map_nil, List.flatten_append, List.flatten_cons, List.flatten_nil, List.append_nil]
theorem flat_take {α : Type} {P : α → List UInt8} {c : Nat} {l : List α} (h : ∀ x ∈ l, (P x).length ≤ c) (k : Nat) : (flat P (l.take k)).length ≤ l.length * c := by
  have h1 := flat_len (l := l.take k) (fun x hx => h x (List.mem_of_mem_take hx))
  have h2 : (l.take k).length ≤ l.length := by simp; omega
  exact Nat.le_trans h1 (Nat.mul_le_mul_right _ h2)
theorem lst_len {α : Type} {P : α → List UInt8} {c : Nat} {l : List α} (h : ∀ x ∈ l, (P x).length ≤ c) : (lst P l).length ≤ 9 + l.length * c := by
  have h1 := flat_len h
  have h2 := num_len l.length
  simp only [lst, List.length_append]; omega
theorem cnt_len (b : List UInt8) : (cnt b).length ≤ 9 + b.length := by
  have := num_len b.length
  simp only [cnt, List.length_append]; omega
theorem tyB_len (t : Int) : (tyB t).length ≤ 1 := by simp [tyB]
theorem ret_str {a b : ByteArray} (h : a = b) : Ending.returned (.string a) = .returned (.string b) := by rw [h]

theorem number_w (n : Int) (w : World) (h : 0 ≤ n) :
    Calls Tryz.prog 42 #[.int .i64 n] w fun e w' => e = .returned (.string (str (num n))) ∧ Below w.heap.size w w' := by
  have U := hide (U_any n w h)
  unfold num
  clear h
  go_enter Tryz.func42, Tryz.ntmps42
  go_wp2_with fail
  refine U.out.mono ?_
  rintro e w1 ⟨rfl, b1⟩
  go_wp2_with fail
  go_ret
  exact ⟨rfl, b1⟩
theorem oneByte_w (n : Int) (w : World) (h0 : 0 ≤ n) (h1 : n ≤ 255) :
    Calls Tryz.prog 45 #[.int .i64 n] w fun e w' => e = .returned (.string (str (oneB n))) ∧ Below w.heap.size w w' := by
  have hx : IntKind.u8.wrap n = n := by simp [IntKind.wrap, IntKind.signed, IntKind.bits]; omega
  have hc := one_str w n n rfl h0 h1
  unfold oneB
  clear h0 h1
  go_enter Tryz.func45, Tryz.ntmps45
  go_wp2_with fail
  go_ret
  exact ⟨rfl, bel_one _ _⟩
theorem typeByte_w (t : Int) (w : World) (h : ri t = true) :
    Calls Tryz.prog 90 #[.int .i64 t] w fun e w' => e = .returned (.string (str (tyB t))) ∧ Below w.heap.size w w' := by
  have hr := (ri_iff t).1 h
  have O := hide (oneByte_w (127 - t) w (by omega) (by omega))
  have hx : wrap64 (127 - t) = 127 - t := by unfold wrap64; omega
  clear h hr
  go_enter Tryz.func90, Tryz.ntmps90
  go_wp2_with fail
  refine O.out.mono ?_
  rintro e w1 ⟨rfl, b1⟩
  go_wp2_with fail
  go_ret
  exact ⟨rfl, b1⟩
theorem counted_w (b : List UInt8) (w : World) (h : b.length ≤ 100000000000) :
    Calls Tryz.prog 87 #[.string (str b)] w fun e w' => e = .returned (.string (str (cnt b))) ∧ Below w.heap.size w w' := by
  have hz : (str b).size = b.length := str_size b
  have U := hide (number_w b.length w (by omega))
  have hs : ¬ 9223372036854775807 < (str (num b.length)).size + (str b).size := by rw [str_size, str_size]; have := num_len b.length; omega
  have HZ := hide hz
  rw [← hz] at U
  clear hz
  go_enter Tryz.func87, Tryz.ntmps87
  go_wp2_with fail
  refine U.out.mono ?_
  rintro e w1 ⟨rfl, b1⟩
  rw [← HZ.out] at hs
  go_wp2_with fail
  go_ret
  exact ⟨ret_str (by unfold cnt; rw [HZ.out]; exact str_append _ _), b1⟩
end Go.Proofs.YtcbfpikggphokaaGreatDoor

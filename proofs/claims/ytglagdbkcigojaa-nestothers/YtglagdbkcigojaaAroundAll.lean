/-
  The program's closure around, at whatever place: the plain step.
-/
import Derived.Test.YtglagdbkcigojaaAroundC
import Derived.Test.YtglagdbkcigojaaAroundD
import Derived.Test.YtglagdbkcigojaaOpened
namespace Go.Proofs.Ytglagdbkcigojaa
open Go.RowKit

theorem around_any (B n cl : Nat) (al : Option Addr) (f : Nat → Int) (p : Nat) (vs vo : Value) (w : World) (hI : Inv B al n cl (run f p) vs vo w) (hO : Ops B w al n f) (hp : p < n) (hn : n ≤ 1000) :
    Calls Try.prog 24 #[.int .i64 p, .pointer (some ⟨B + 5, 0, none⟩), .pointer (some ⟨B + 4, 0, none⟩), .pointer (some ⟨B + 2, 0, none⟩), .pointer (some ⟨B, 0, none⟩), .pointer (some ⟨B + 1, 0, none⟩), .pointer (some ⟨B + 3, 0, none⟩)] w (AP B al n cl f p (run f p) vs vo w) := by
  obtain ⟨h1, h2, _⟩ := run_len f p
  have hsz : (run f p).sp.length ≤ 1000 := by omega
  have hoz : (run f p).op.length ≤ 1000 := by omega
  have hwf := wf_run f p
  cases way f p (run f p) with
  | stop h =>
    cases hw : (run f p).wrong with
    | true => exact around_wrong B al n cl f p _ vs vo w hI hw
    | false =>
      rcases h with h | h
      · rw [hw] at h; cases h
      · exact around_ended B al n cl f p _ vs vo w hI hw h
  | opens hw he h =>
    have : f p = 2 ∨ f p = 3 ∨ f p = 4 := by simpa [opn, or_assoc] using h
    rcases this with e | e | e
    · exact around_open2 B al n cl f p _ vs vo w hI hw he hO hp hoz hsz e
    · exact around_open3 B al n cl f p _ vs vo w hI hw he hO hp hoz hsz e
    · exact around_open4 B al n cl f p _ vs vo w hI hw he hO hp hoz hsz e
  | else0 hw he h ho => exact around_else0 B al n cl f p _ vs vo w hI hw he hO hp h ho
  | elseN k r hw he h ho hl =>
    have hk := (((hwf hw he).mem k).1 (by rw [ho]; simp)).1
    obtain ⟨m, hb, hm, _⟩ := (hwf hw he).beg k hk
    exact around_else1 B al n cl f p _ vs vo w hI hw he hO hp hoz hsz k r h ho hk ⟨m, hb, by omega⟩ false hl
  | elseY k r hw he h ho hl =>
    have hk := (((hwf hw he).mem k).1 (by rw [ho]; simp)).1
    obtain ⟨m, hb, hm, _⟩ := (hwf hw he).beg k hk
    exact around_else1 B al n cl f p _ vs vo w hI hw he hO hp hoz hsz k r h ho hk ⟨m, hb, by omega⟩ true hl
  | end0 hw he h ho => exact around_end0 B al n cl f p _ vs vo w hI hw he hO hp hsz h ho
  | endY k r hw he h ho =>
    have hk := (((hwf hw he).mem k).1 (by rw [ho]; simp)).1
    exact around_endY B al n cl f p _ vs vo w hI hw he hO hp hoz hsz k r h ho hk
  | other hw he h0 h1 h2 => exact around_other B al n cl f p _ vs vo w hI hw he hO hp hoz h0 h1 h2
end Go.Proofs.Ytglagdbkcigojaa

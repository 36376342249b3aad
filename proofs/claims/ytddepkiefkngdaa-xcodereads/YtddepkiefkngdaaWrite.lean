/-
  write lays an instruction's bytes behind what there is.
-/
import Derived.Test.YtddepkiefkngdaaWr1
import Derived.Test.YtddepkiefkngdaaWr2
import Derived.Test.YtddepkiefkngdaaWr3
import Derived.Test.YtddepkiefkngdaaWr4
import Derived.Test.YtddepkiefkngdaaWr5
import Derived.Test.YtddepkiefkngdaaWr6
namespace Go.Proofs.Ytddepkiefkngdaa
open Go.RowKit
set_option linter.unusedSimpArgs false
set_option linter.unusedVariables false
theorem write_any (B : Nat) (v : Value) (l : List UInt8) (x : Xi) (w : World) (hB : B ≤ w.heap.size) (hr : BRow B v l w) (hl : l.length + 16 ≤ 140737488355328) (hx : rt x = true) (hn : I64 x.n) : WrIs B v l x w := by
  revert hx hn
  suffices h : rt x = true → rt x = true → I64 x.n → WrIs B v l x w from fun a b => h a a b
  intro h
  refine rt_elim (P := fun x => rt x = true → I64 x.n → WrIs B v l x w) h ?mov ?movi ?alu ?alui ?test ?mul ?shift ?div ?idiv ?sign ?load ?store ?set ?byte ?cmov ?widen ?jmp ?jcc ?call ?ret ?hlt ?stop ?host
  case mov => exact fun wd r b h1 h2 hx hn => write_1 B v l wd r b w hB hr hl hx h1 h2
  case movi => exact fun r n h1 hx hn => write_2 B v l r n w hB hr hl hx h1 hn
  case alu => exact fun wd r b c h1 h2 hc hx hn => write_3 B v l wd r b c w hB hr hl hx h1 h2 hc
  case alui => exact fun wd b c n h2 hc hs hx hn => write_4 B v l wd b c n w hB hr hl hx h2 hc hs
  case test => exact fun wd r b h1 h2 hx hn => write_5 B v l wd r b w hB hr hl hx h1 h2
  case mul => exact fun wd r b h1 h2 hx hn => write_6 B v l wd r b w hB hr hl hx h1 h2
  case shift => exact fun wd b c h2 hc hx hn => write_7 B v l wd b c w hB hr hl hx h2 hc
  case div => exact fun wd b h2 hx hn => write_8 B v l wd b w hB hr hl hx h2
  case idiv => exact fun wd b h2 hx hn => write_9 B v l wd b w hB hr hl hx h2
  case sign => exact fun wd hx hn => write_10 B v l wd w hB hr hl hx 
  case load => exact fun wd r b i n h1 h2 h3 hs hx hn => write_11 B v l wd r b i n w hB hr hl hx h1 h2 h3 hs
  case store => exact fun wd r b i n h1 h2 h3 hs hx hn => write_12 B v l wd r b i n w hB hr hl hx h1 h2 h3 hs
  case set => exact fun c hc hx hn => write_13 B v l c w hB hr hl hx hc
  case byte => exact fun hx hn => write_14 B v l w hB hr hl hx 
  case cmov => exact fun wd r b c h1 h2 hc hx hn => write_15 B v l wd r b c w hB hr hl hx h1 h2 hc
  case widen => exact fun r b h1 h2 hx hn => write_16 B v l r b w hB hr hl hx h1 h2
  case jmp => exact fun n hs hx hn => write_17 B v l n w hB hr hl hx hs
  case jcc => exact fun c n hc hs hx hn => write_18 B v l c n w hB hr hl hx hc hs
  case call => exact fun n hs hx hn => write_19 B v l n w hB hr hl hx hs
  case ret => exact fun hx hn => write_20 B v l w hB hr hl hx 
  case hlt => exact fun hx hn => write_21 B v l w hB hr hl hx 
  case stop => exact fun hx hn => write_22 B v l w hB hr hl hx 
  case host => exact fun hx hn => write_23 B v l w hB hr hl hx 
end Go.Proofs.Ytddepkiefkngdaa

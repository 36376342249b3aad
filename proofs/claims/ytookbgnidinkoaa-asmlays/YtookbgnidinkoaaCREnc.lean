/-
  The document's Encode answers an instruction's bytes, or that it is none.
-/
import Derived.Test.YtookbgnidinkoaaCRE1
import Derived.Test.YtookbgnidinkoaaCRE2
import Derived.Test.YtookbgnidinkoaaCRE3
import Derived.Test.YtookbgnidinkoaaCRE4
import Derived.Test.YtookbgnidinkoaaCRE5
import Derived.Test.YtookbgnidinkoaaCRE6
namespace Go.Proofs.Ytookbgnidinkoaa.Xc
open Go.RowKit
set_option linter.unusedSimpArgs false
set_option linter.unusedVariables false
theorem renc_any (x : Xi) (w : World) (hn : I64 x.n) : ReIs x w := by
  cases hq : rt x
  · exact renc_no x w hq
  revert hn
  suffices h : rt x = true → I64 x.n → ReIs x w from h hq
  refine rt_elim (P := fun x => rt x = true → I64 x.n → ReIs x w) hq ?mov ?movi ?alu ?alui ?test ?mul ?shift ?div ?idiv ?sign ?load ?store ?set ?byte ?cmov ?widen ?jmp ?jcc ?call ?ret ?hlt ?stop ?host
  case mov => exact fun wd r b h1 h2 hx hn => renc_1 wd r b w hx h1 h2
  case movi => exact fun r n h1 hx hn => renc_2 r n w hx h1 hn
  case alu => exact fun wd r b c h1 h2 hc hx hn => renc_3 wd r b c w hx h1 h2 hc
  case alui => exact fun wd b c n h2 hc hs hx hn => renc_4 wd b c n w hx h2 hc hs
  case test => exact fun wd r b h1 h2 hx hn => renc_5 wd r b w hx h1 h2
  case mul => exact fun wd r b h1 h2 hx hn => renc_6 wd r b w hx h1 h2
  case shift => exact fun wd b c h2 hc hx hn => renc_7 wd b c w hx h2 hc
  case div => exact fun wd b h2 hx hn => renc_8 wd b w hx h2
  case idiv => exact fun wd b h2 hx hn => renc_9 wd b w hx h2
  case sign => exact fun wd hx hn => renc_10 wd w hx 
  case load =>
    intro wd r b i n h1 h2 h3 hs hx hn
    by_cases hz : i = 0
    · subst hz; exact renc_11z wd r b n w hx h1 h2 hs
    · exact renc_11p wd r b i n w hx h1 h2 h3 hs hz
  case store =>
    intro wd r b i n h1 h2 h3 hs hx hn
    by_cases hz : i = 0
    · subst hz; exact renc_12z wd r b n w hx h1 h2 hs
    · exact renc_12p wd r b i n w hx h1 h2 h3 hs hz
  case set => exact fun c hc hx hn => renc_13 c w hx hc
  case byte => exact fun hx hn => renc_14 w hx 
  case cmov => exact fun wd r b c h1 h2 hc hx hn => renc_15 wd r b c w hx h1 h2 hc
  case widen => exact fun r b h1 h2 hx hn => renc_16 r b w hx h1 h2
  case jmp => exact fun n hs hx hn => renc_17 n w hx hs
  case jcc => exact fun c n hc hs hx hn => renc_18 c n w hx hc hs
  case call => exact fun n hs hx hn => renc_19 n w hx hs
  case ret => exact fun hx hn => renc_20 w hx 
  case hlt => exact fun hx hn => renc_21 w hx 
  case stop => exact fun hx hn => renc_22 w hx 
  case host => exact fun hx hn => renc_23 w hx 
end Go.Proofs.Ytookbgnidinkoaa.Xc

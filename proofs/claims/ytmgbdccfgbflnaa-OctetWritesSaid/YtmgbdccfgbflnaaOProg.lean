/-
  What is asked of the program's calls of layer 8 is so.
-/
import Derived.Test.YtmgbdccfgbflnaaOAsk
import Derived.Test.YtmgbdccfgbflnaaOPutQ
import Derived.Test.YtmgbdccfgbflnaaOReadQ
namespace Go.Proofs.Ytmgbdccfgbflnaa
open Go Go.RowKit
set_option linter.unusedVariables false

theorem ask8 : AskOct where
  eight := fun n hn W => oeight_is n hn W
  num := fun s x ok _ hx hok W => onum_is s x ok hx hok W
  row := fun a len cap zs W hr hu hl => orow_is a len cap zs W hr hu hl
  pairs := fun a len cap zs W hr hu hl => opairs_is a len cap zs W hr hu hl
  readRow := fun s n W _ => oread_any s n W
  readPairs := fun s n W _ => oreadq_any s n W
end Go.Proofs.Ytmgbdccfgbflnaa

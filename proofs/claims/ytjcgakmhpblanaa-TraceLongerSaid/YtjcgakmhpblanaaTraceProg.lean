/-
  What is asked of the program's calls of layer 19 is so.
-/
import Derived.Test.YtjcgakmhpblanaaTrPro6
namespace Go.Proofs.Ytjcgakmhpblanaa
open Go Go.RowKit
set_option linter.unusedVariables false

theorem ask19 : AskTrace (fun _ => True) where
  keep := fun _ _ => trivial
  make := fun A p a cap first rows r W hA hk hf hp hu hz _ => pmake_is A p a cap first rows r W hA hk hf hp hu hz
  shown := fun A p a n cap rows l W hA _ _ hc hr hu hh hkp hl _ => by
    obtain rfl := hr.1
    exact ppublic_is A p a cap rows l W hA hc hr hh hu hkp hl
  whole := fun A p pa pn pc pub a n cap rows r W hA hk hf hp _ hr _ hz _ => by
    obtain rfl := hp.1
    obtain rfl := hr.1
    exact pwhole_is A p pa pc pub a cap rows r W hA hk hf hp hr hz
  check := fun A p pa pn pc pub a n cap rows f r W hA hk hf hp _ hr hru hz _ => by
    obtain rfl := hp.1
    obtain rfl := hr.1
    exact pcheckT_is A p pa pc pub a cap rows f r W hA hk hf hp hr hru hz
end Go.Proofs.Ytjcgakmhpblanaa

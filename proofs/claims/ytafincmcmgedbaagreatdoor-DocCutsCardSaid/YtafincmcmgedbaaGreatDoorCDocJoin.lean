/-
  The document's Join.
-/
import Derived.Test.YtafincmcmgedbaaGreatDoorCDocOps
import Derived.Test.YtafincmcmgedbaaGreatDoorCJoin

namespace Go.Proofs.YtafincmcmgedbaaGreatDoor
open Go.RowKit Go.Lib

theorem own_apart2 {w : World} {B D n m : Nat} {v u : Value} {xs ys : List Value} (h1 : w.ownsRow B 3 1 v n xs) (h2 : w.ownsRow D 66 3 u m ys) (g : Nat) (e2 : u.ownBlock = some g) : v.ownBlock ≠ some g := fun e1 => own_apart h1 h2 g e1 e2

end Go.Proofs.YtafincmcmgedbaaGreatDoor

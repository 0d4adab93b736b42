/- octet: rows whose bytes are cut short: the statement's own walk. -/
import Derived.Test.YtodklnbimpdbjaaOctP
namespace Go.Proofs.Ytodklnbimpdbjaa
open Go.RowKit
set_option maxRecDepth 100000

/-- Rows of unlike elements are not one block's. -/
theorem own_ne {w : World} {e e' : TypeId} {v v' : Value} {xs ys : List Value} (h : Own w e v xs) (h' : Own w e' v' ys) (hne : e ≠ e') {k : Nat} (hk : own v k) (hk' : own v' k) : False := by
  rcases h'.2 with ⟨rfl, _⟩ | ⟨g, cap, cur, rfl, _, hh, _⟩
  · cases hk'
  · have : g = k := Option.some.inj hk'
    subst this
    exact h.ne_blk (t := e') hh hne hk
end Go.Proofs.Ytodklnbimpdbjaa

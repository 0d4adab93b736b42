/- octet: rows as bytes, and back: the statement's own walk. -/
import Derived.Test.YtodklnbimpdbjaaOctO
namespace Go.Proofs.Ytodklnbimpdbjaa
open Go.RowKit
set_option maxRecDepth 100000

theorem roomy_begin {w : World} {A : Option Addr} {c : Nat} {l : List UInt8} (h : Own w 5 (.slice A (l.length + 1) c) ((l ++ [171]).map bv)) : Bs w (own (.slice A (l.length + 1) c)) (.slice A l.length c) l := by
  have h1 : Bs w (own (.slice A (l.length + 1) c)) (.slice A (l ++ [171]).length c) (l ++ [171]) := by
    have e : (l ++ [(171 : UInt8)]).length = l.length + 1 := by simp
    rw [e]; exact h.sl
  have := Bs.begin h1 (m := l.length) (by simp)
  rwa [List.take_append_of_le_length (Nat.le_refl _), List.take_of_length_le (Nat.le_refl _)] at this
end Go.Proofs.Ytodklnbimpdbjaa

/- octet: the two Readers taken through the same kinds. -/
import Derived.Deep.RegionHeld3
import Derived.Deep.QuietTactic
import Derived.BigQuiet
import Derived.Test.YtlfooppmdgddkaaOctT
namespace Go.Proofs.Ytlfooppmdgddkaa
open Go.RowKit
set_option maxRecDepth 100000

variable {w0 wr : World} {B b8 b9 : Nat} {T T' : Nat → Prop} {x : Value} {l : List UInt8} {sA sB : Option (List UInt8)}
theorem Rr.drewN {w : World} {b : Nat} {S : Nat → Prop} {v : Value} {st : Option (List UInt8)} (h : Rr w b S v st) (n : Nat) : Rr (w.drewN n) b S v st := ⟨h.blk, h.row, h.off⟩
end Go.Proofs.Ytlfooppmdgddkaa

/- dn: the document's reader: val. -/
import Derived.Test.YtgghjkefbfbopaaDoorDnQC
namespace Go.Proofs.YtgghjkefbfbopaaDoor
open Go.RowKit
set_option maxRecDepth 100000

theorem sep5 (c : UInt8) (h1 : c ≠ 44) (h2 : c ≠ 92) : c ∈ sepB ↔ c ∈ ([43, 34, 60, 62, 59] : List UInt8) := by
  simp only [sepB, List.mem_cons, List.not_mem_nil, or_false]
  constructor
  · rintro (h | h | h | h | h | h | h)
    · exact absurd h h1
    · exact .inl h
    · exact .inr (.inl h)
    · exact absurd h h2
    · exact .inr (.inr (.inl h))
    · exact .inr (.inr (.inr (.inl h)))
    · exact .inr (.inr (.inr (.inr h)))
  · rintro (h | h | h | h | h)
    · exact .inr (.inl h)
    · exact .inr (.inr (.inl h))
    · exact .inr (.inr (.inr (.inr (.inl h))))
    · exact .inr (.inr (.inr (.inr (.inr (.inl h)))))
    · exact .inr (.inr (.inr (.inr (.inr (.inr h)))))

theorem ext_mod_own {w a b : World} {g : Nat} {v : Value} (hm : Mod (fun b => b = g) w a) (hf : Fresh w.heap.size v) (h : Mod (own v) a b) : Mod (fun b => b = g) w b := hm.trans h (fun _ _ h => h) (fun k hk h => by have := hf k h; omega)

end Go.Proofs.YtgghjkefbfbopaaDoor

/- octet: the program's Reader and the document's, side by side. -/
import Derived.Test.YtlfooppmdgddkaaOctS
namespace Go.Proofs.Ytlfooppmdgddkaa
open Go.RowKit
set_option maxRecDepth 100000

theorem takeRaw_len (n : Int) (st : Option (List UInt8)) : ((takeRaw n st).2.getD []).length ≤ (st.getD []).length ∧ (takeRaw n st).1.length ≤ (st.getD []).length := by
  cases st with
  | none => simp [takeRaw]
  | some l =>
    simp only [takeRaw]
    split
    · simp
    · simp only [Option.getD_some, List.length_drop, List.length_take]; omega
theorem takeB_len (st : Option (List UInt8)) : ((takeB st).2.getD []).length ≤ (st.getD []).length ∧ (takeB st).1.length ≤ (st.getD []).length := by
  have h1 := takeRaw_len (takeN st).1 (takeN st).2
  have h2 := takeN_len st
  unfold takeB
  omega
variable {w0 wr : World} {B b8 b9 : Nat} {T T' : Nat → Prop} {x : Value} {l : List UInt8} {sA sB : Option (List UInt8)}
/-- A row handed out: its bytes, in a block that is its own and newer than the Readers. -/
def Out (w : World) (B : Nat) (v : Value) (l : List UInt8) : Prop := Own w 5 v (l.map bv) ∧ Fresh B v
theorem Out.mod {w w' : World} {F : Nat → Prop} {v : Value} {l : List UInt8} (h : Out w B v l) (hm : Mod F w w') (hF : ∀ k, F k → k < B) : Out w' B v l :=
  ⟨h.1.mod hm (fun k hk hf => by have := h.2 k hk; have := hF k hf; omega), h.2⟩
end Go.Proofs.Ytlfooppmdgddkaa

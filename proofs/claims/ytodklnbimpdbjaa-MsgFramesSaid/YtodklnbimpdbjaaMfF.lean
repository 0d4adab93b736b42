/- msg: the law MsgFrames. -/
import Derived.Test.YtodklnbimpdbjaaMfE
namespace Go.Proofs.Ytodklnbimpdbjaa
open Go.RowKit
set_option maxRecDepth 100000

set_option maxHeartbeats 4000000 in
theorem lframes_any {w : World} {S : Nat → Prop} {v : Value} {l : List UInt8} (h : Bs w S v l) (hz : l.length ≤ 140737488351232) : Calls Try.prog 3 #[v] w fun e w' => e = .returned (.bool true) ∧ Ext w w' := by
  have hf := fun (hl : l.length ≤ 3000) => And.intro (frame_any h hl) (rframe_any h hl)
  obtain ⟨A, c, rfl, h2, h3, h4, h5⟩ := h.open_
  by_cases hs : 3000 < l.length
  · have hb : decide ((3000 : Int) < (l.length : Int)) = true := dtrue (by omega)
    have hbn : decide (3000 < l.length) = true := dtrue (by omega)
    clear hf
    go_enter Try.func3, Try.ntmps3
    go_wp2_with fail
    go_ret
    exact ⟨rfl, Mod.refl _ _⟩
  have hb : decide ((3000 : Int) < (l.length : Int)) = false := dfalse (by omega)
  have hbn : decide (3000 < l.length) = false := dfalse (by omega)
  obtain ⟨hf1, hf2⟩ := hf (by omega)
  have hle := mframe_le l
  generalize (mframe l).1 = n at *
  generalize (mframe l).2 = m at *
  have hb1 : ((n : Int) == (n : Int)) = true := beq_self_eq_true _
  have hb2 : ((m : Int) == (m : Int)) = true := beq_self_eq_true _
  have hb3 : decide ((n : Int) ≤ (l.length : Int)) = true := dtrue (by omega)
  have hb4 : decide (n ≤ l.length) = true := dtrue hle
  clear hf hs h
  go_enter Try.func3, Try.ntmps3
  go_wp2_with fail
  refine hf1.mono ?_
  rintro e w1 ⟨rfl, rfl⟩
  go_wp2_with fail
  refine hf2.mono ?_
  rintro e w1 ⟨rfl, rfl⟩
  clear hf1 hf2
  go_wp2_with fail
  refine known25_any.mono ?_
  rintro e w1 ⟨rfl, x1⟩
  go_wp2_with fail
  go_ret
  exact ⟨rfl, x1⟩
end Go.Proofs.Ytodklnbimpdbjaa

/- entry: known. -/
import Derived.Test.YtlaaicdofompkaaEntF
namespace Go.Proofs.Ytlaaicdofompkaa
open Go.RowKit
set_option maxRecDepth 100000

theorem eZ_ok : isE eZ := ⟨⟨Nat.zero_le _, fun a h => by cases h⟩, Nat.zero_le _, fun a h => by cases h⟩
theorem enc7_z : enc7 0 = [0] := by unfold enc7; simp
theorem eZ_bytes : bytesE eZ = [0, 0] := by
  unfold bytesE
  rw [if_pos eZ_ok]
  show enc7 0 ++ ([] ++ (enc7 0 ++ [])) = [0, 0]
  rw [enc7_z]; rfl
theorem eZ_code : codeE eZ = 0 := if_pos eZ_ok
theorem As.none (w : World) : As w All (.slice none 0 0) [] := (OwnR.nil avc 2 w 0).rc.mono (fun _ _ _ => trivial)
theorem known20_any {w : World} : Calls Try.prog 17 #[] w fun e w' => e = .returned (.bool true) ∧ Ext w w' := by
  have hc := eenc_any (e := eZ) (As.none w) (Ats.nil w) (by decide)
  rw [eZ_bytes, eZ_code] at hc
  go_enter Try.func17, Try.ntmps17
  go_wp2_with fail
  refine hc.mono ?_
  rintro e w1 ⟨rfl, x1⟩
  go_wp2_with fail
  go_ret
  exact ⟨rfl, x1⟩
end Go.Proofs.Ytlaaicdofompkaa

/- msg: a bare unbind, encoded: what is known. -/
import Derived.Test.YtoockogceobfgaaGreatMgX
namespace Go.Proofs.YtoockogceobfgaaGreat
open Go.RowKit
set_option maxRecDepth 100000

def rq2 : Rq := ⟨1, 2, [], [], 0, 0, fi0, [], [], [], [], false, false, [], [], [], 0⟩
theorem rq2_req : reqB 1 rq2 = [48, 5, 2, 1, 1, 66, 0] := by kernel_rfl
theorem rq2_may : mayQ 1 rq2 = true := by kernel_rfl
theorem encode2_any {w : World} : Calls Tryz.prog 15 #[.agg #[.int .i64 1, .int .i64 2, .string ⟨#[]⟩, .string ⟨#[]⟩, .int .i64 0, .int .i64 0, .int .i64 0, .string ⟨#[]⟩, .string ⟨#[]⟩, .slice none 0 0, .slice none 0 0, .slice none 0 0, .slice none 0 0, .slice none 0 0, .string ⟨#[]⟩, .bool false, .bool false, .string ⟨#[]⟩, .string ⟨#[]⟩, .string ⟨#[]⟩, .int .i64 0]] w fun e w' => ∃ v', e = .returned (.tuple #[v', .int .i64 0]) ∧ Own w' 5 v' (([48, 5, 2, 1, 1, 66, 0] : List UInt8).map bv) ∧ Ext w w' := by
  have h := Encode25_any (n := 1) (w := w) (r := rq2) (A0 := none) (A1 := none) (A2 := none) (A3 := none) (A4 := none) (A0n := 0) (A0c := 0) (A1n := 0) (A1c := 0) (A2n := 0) (A2c := 0) (A3n := 0) (A3c := 0) (A4n := 0) (A4c := 0)
    ⟨fi0_in 0 w, ss_nil w _, Mds.nil w, Ats.nil25 w⟩ (by decide) (by decide) (fun _ _ => ⟨⟨by decide, by decide, by decide, (fun m hm => by cases hm), by decide, by decide, by decide, by decide, by decide, by decide⟩, (fun h => by cases h), by rw [rq2_req]; decide⟩)
  rw [rq2_may, rq2_req, if_pos rfl, if_pos rfl] at h
  exact h
set_option maxHeartbeats 8000000 in
theorem known25_any {w : World} : Calls Tryz.prog 12 #[] w fun e w' => e = .returned (.bool true) ∧ Ext w w' := by
  go_enter Tryz.func12, Tryz.ntmps12
  go_wp2_with fail
  refine encode2_any.mono ?_
  rintro e w1 ⟨v1, rfl, o1, x1⟩
  have z1 := run_conv (P := Tryz.prog) Tryz.underlying22 Tryz.underlying5 Tryz.underlying9 o1.sl
  clear o1
  go_wp2_with fail
  go_ret
  exact ⟨rfl, x1⟩
end Go.Proofs.YtoockogceobfgaaGreat

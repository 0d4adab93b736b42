/- filter: the filter of two that is known. -/
import Derived.Test.YtekocbphdckmkaaFqE
namespace Go.Proofs.Ytekocbphdckmkaa
open Go.RowKit
set_option maxRecDepth 100000

def knT : List UInt8 := [40, 38, 40, 99, 110, 61, 97, 42, 98, 41, 40, 33, 40, 115, 110, 61, 42, 41, 41, 41]
def knF : Fi := .mk 0 [] [] [] [.mk 4 [99, 110] [] [[97], [98]] [], .mk 2 [] [] [] [.mk 7 [115, 110] [] [] []]]
theorem kn_parse : parseP knT = .ok knF := by kernel_rfl
theorem kn_print : printN 16 knF = knT := by kernel_rfl
theorem kn_nodes : nodesN 16 knF = 4 := by kernel_rfl
theorem POut.ok_ {R : Except Nat Fi} {F : Fi} {w : World} {e : Ending} (h : POut R w e) (hR : R = .ok F) : ∃ vs vk, e = .returned (.tuple #[filV F vs vk, .int .i64 0]) ∧ FilN 16 w F vs vk := by
  obtain ⟨F', vs, vk, x, rfl, h⟩ := h
  rcases h with ⟨h, -⟩ | ⟨h, rfl, hF⟩
  · rw [hR] at h; cases h
  · rw [hR] at h
    cases h
    exact ⟨vs, vk, rfl, hF⟩
theorem POut.err_ {R : Except Nat Fi} {x : Nat} {w : World} {e : Ending} (h : POut R w e) (hR : R = .error x) : e = .returned (.tuple #[filV fz (.slice none 0 0) (.slice none 0 0), .int .i64 (x : Int)]) ∧ x ≠ 0 := by
  obtain ⟨F', vs, vk, x', rfl, h⟩ := h
  rcases h with ⟨h, hx, rfl, rfl, rfl⟩ | ⟨h, -⟩
  · rw [hR] at h
    cases h
    exact ⟨rfl, hx⟩
  · rw [hR] at h; cases h
set_option maxHeartbeats 8000000 in
theorem knownF_any (w : World) : Calls Try.prog 11 #[] w fun e w' => e = .returned (.bool true) ∧ Ext w w' := by
  have hpa := fparse_any (w := w) knT (by decide)
  replace hpa : Calls Try.prog 8 #[.string ⟨#[40, 38, 40, 99, 110, 61, 97, 42, 98, 41, 40, 33, 40, 115, 110, 61, 42, 41, 41, 41]⟩] w fun e w' => POut (parseP knT) w' e ∧ Ext w w' := hpa
  replace hpa := Lib.hid hpa
  go_enter Try.func11, Try.ntmps11
  go_wp2_with fail
  refine hpa.out.mono ?_
  rintro e w2 ⟨hp, x2⟩
  obtain ⟨vs, vk, rfl, hF⟩ := hp.ok_ kn_parse
  obtain ⟨⟨-, -⟩, hsh⟩ := hF.shape
  obtain ⟨hFB, ⟨A1, c1, e1⟩, -, A2, c2, e2, -⟩ := hF.open_
  replace e1 : vs = .slice A1 0 c1 := e1
  replace e2 : vk = .slice A2 2 c2 := e2
  subst e1 e2
  replace hF : FilN 16 w2 knF (.slice A1 0 c1) (.slice A2 2 c2) := hF
  obtain ⟨w3, hw3⟩ : ∃ y, y = w2.alloc (.cells #[.int .i64 0, sv [], sv [], .slice A1 0 c1, .slice A2 2 c2] 25) := ⟨_, rfl⟩
  obtain ⟨p, hp2⟩ : ∃ y, y = w2.heap.size := ⟨_, rfl⟩
  have x3 : Ext w2 w3 := by rw [hw3]; exact (Mod.refl _ w2).alloc _
  have BP : Blk w3 p 25 #[.int .i64 0, sv [], sv [], .slice A1 0 c1, .slice A2 2 c2] := by rw [hw3, hp2]; exact Blk.new w2 _ _
  have hpr := fprint_any (hF.ext x3)
  rw [kn_print] at hpr
  replace hpr : Calls Try.prog 13 #[.agg #[.int .i64 0, sv [], sv [], .slice A1 0 c1, .slice A2 2 c2]] w3 fun e w' => e = .returned (.string ⟨#[40, 38, 40, 99, 110, 61, 97, 42, 98, 41, 40, 33, 40, 115, 110, 61, 42, 41, 41, 41]⟩) ∧ Ext w3 w' := hpr
  obtain ⟨-, p0, p1, p2, p3, p4⟩ := BP.five
  replace hw3 := Lib.hid hw3
  replace hp2 := Lib.hid hp2
  replace hpr := Lib.hid hpr
  clear hFB hsh hp hpa
  rw [show filV knF (.slice A1 0 c1) (.slice A2 2 c2) = .agg #[.int .i64 0, sv [], sv [], .slice A1 0 c1, .slice A2 2 c2] from rfl]
  go_upto_region 2 with fail
  rw [← hw3.out, ← hp2.out]
  go_wp2_with fail
  refine hpr.out.mono ?_
  rintro e w4 ⟨rfl, x4⟩
  have BP4 := BP.mod x4 (fun h => h)
  obtain ⟨-, q0, q1, q2, q3, q4⟩ := BP4.five
  have hno := fnodes_any 16 (hF.ext (ext_trans x3 x4)) (by rw [kn_nodes]; decide)
  rw [kn_nodes] at hno
  replace hno : Calls Try.prog 17 #[.agg #[.int .i64 0, sv [], sv [], .slice A1 0 c1, .slice A2 2 c2]] w4 fun e w' => e = .returned (.int .i64 4) ∧ Ext w4 w' := hno
  replace hno := Lib.hid hno
  clear hpr p0 p1 p2 p3 p4
  go_wp2_with fail
  refine hno.out.mono ?_
  rintro e w5 ⟨rfl, x5⟩
  clear hno q0 q1 q2 q3 q4
  go_wp2_with fail
  go_ret
  exact ⟨rfl, ext_trans (ext_trans x2 x3) (ext_trans x4 x5)⟩
end Go.Proofs.Ytekocbphdckmkaa

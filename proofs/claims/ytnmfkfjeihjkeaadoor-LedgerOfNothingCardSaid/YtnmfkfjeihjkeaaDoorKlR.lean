/- ledger: no Ledger: LedgerOfNothing. -/
import Derived.Test.YtnmfkfjeihjkeaaDoorKlQ
namespace Go.Proofs.YtnmfkfjeihjkeaaDoor
open Go.RowKit Go.Maps Go.WideMaps
set_option maxRecDepth 100000

section
variable {w : World} {x y : Value}
set_option maxHeartbeats 2000000 in
theorem nil5_append : Calls Tryd.prog 35 #[.pointer none, x] w fun e w' => e = .returned (.tuple #[.int .i64 0, ev 1]) ∧ Ext w w' := by
  go_enter Tryd.func35, Tryd.ntmps35
  go_wp2_with fail
  go_ret2
  exact ⟨rfl, Mod.refl _ _⟩
set_option maxHeartbeats 2000000 in
theorem nil5_at : Calls Tryd.prog 38 #[.pointer none, x] w fun e w' => e = .returned (.tuple #[.slice none 0 0, ev 7]) ∧ Ext w w' := by
  go_enter Tryd.func38, Tryd.ntmps38
  go_wp2_with fail
  go_ret2
  exact ⟨rfl, Mod.refl _ _⟩
set_option maxHeartbeats 2000000 in
theorem nil5_base : Calls Tryd.prog 39 #[.pointer none] w fun e w' => e = .returned (.tuple #[.int .i64 0, .slice none 0 0]) ∧ Ext w w' := by
  go_enter Tryd.func39, Tryd.ntmps39
  go_wp2_with fail
  go_ret2
  exact ⟨rfl, Mod.refl _ _⟩
set_option maxHeartbeats 2000000 in
theorem nil5_open : Calls Tryd.prog 34 #[.pointer none, x] w fun e w' => e = .returned (.tuple #[.pointer none, ev 1]) ∧ Ext w w' := by
  go_enter Tryd.func34, Tryd.ntmps34
  go_wp2_with fail
  go_ret2
  exact ⟨rfl, Mod.refl _ _⟩
set_option maxHeartbeats 2000000 in
theorem nil5_write : Calls Tryd.prog 36 #[.pointer none, x, y] w fun e w' => e = .returned (ev 1) ∧ Ext w w' := by
  go_enter Tryd.func36, Tryd.ntmps36
  go_wp2_with fail
  go_ret
  exact ⟨rfl, Mod.refl _ _⟩
set_option maxHeartbeats 2000000 in
theorem nil5_drop : Calls Tryd.prog 40 #[.pointer none] w fun e w' => e = .returned (ev 1) ∧ Ext w w' := by
  go_enter Tryd.func40, Tryd.ntmps40
  go_wp2_with fail
  go_ret
  exact ⟨rfl, Mod.refl _ _⟩
set_option maxHeartbeats 2000000 in
theorem nil5_last : Calls Tryd.prog 37 #[.pointer none] w fun e w' => e = .returned (.int .i64 0) ∧ Ext w w' := by
  go_enter Tryd.func37, Tryd.ntmps37
  go_wp2_with fail
  go_ret
  exact ⟨rfl, Mod.refl _ _⟩
end
set_option maxHeartbeats 8000000 in
theorem nothing5_any {w : World} {v : Value} {b : List UInt8} {n : Int} (hb0 : Bs w (fun _ => True) v b) (hz : b.length ≤ 140737488351232) (hN : Nib w) :
    Calls Tryd.prog 8 #[v, .int .i64 n] w fun e w' => e = .returned (.bool true) ∧ Ext w w' := by
  obtain ⟨A, c, rfl, h1, h2, h3, h4⟩ := hb0.open_
  clear hb0 h4
  by_cases hbig : 2000 < b.length
  · have hd : decide ((2000 : Int) < (b.length : Int)) = true := dtrue (by omega)
    go_enter Tryd.func8, Tryd.ntmps8
    go_wp2_with fail
    go_ret
    exact ⟨rfl, Mod.refl _ _⟩
  have hd : decide ((2000 : Int) < (b.length : Int)) = false := dfalse (by omega)
  have hk := fun (w' : World) (x : Ext w w') => known5_any (hN.ext x)
  go_enter Tryd.func8, Tryd.ntmps8
  go_wp2_with fail
  refine nil5_append.mono ?_
  rintro e w1 ⟨rfl, x1⟩
  go_wp2_with fail
  refine nil5_at.mono ?_
  rintro e w2 ⟨rfl, x2⟩
  have y2 := ext_trans x1 x2
  go_wp2_with fail
  refine nil5_base.mono ?_
  rintro e w3 ⟨rfl, x3⟩
  have y3 := ext_trans y2 x3
  go_wp2_with fail
  refine nil5_open.mono ?_
  rintro e w4 ⟨rfl, x4⟩
  have y4 := ext_trans y3 x4
  go_wp2_with fail
  refine nil5_write.mono ?_
  rintro e w5 ⟨rfl, x5⟩
  have y5 := ext_trans y4 x5
  go_wp2_with fail
  refine nil5_drop.mono ?_
  rintro e w6 ⟨rfl, x6⟩
  have y6 := ext_trans y5 x6
  go_wp2_with fail
  refine nil5_last.mono ?_
  rintro e w7 ⟨rfl, x7⟩
  have y7 := ext_trans y6 x7
  clear x1 x2 y2 x3 y3 x4 y4 x5 y5 x6 y6 x7
  go_wp2_with fail
  refine (hk w7 y7).mono ?_
  rintro e w8 ⟨rfl, x8⟩
  go_wp2_with fail
  go_ret
  exact ⟨rfl, ext_trans y7 x8⟩
end Go.Proofs.YtnmfkfjeihjkeaaDoor

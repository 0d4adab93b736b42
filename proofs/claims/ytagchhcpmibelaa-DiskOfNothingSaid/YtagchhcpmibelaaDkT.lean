/- disk: a Disk that is none. -/
import Derived.Test.YtagchhcpmibelaaDkS
namespace Go.Proofs.Ytagchhcpmibelaa
open Go.RowKit Go.Maps Go.WideMaps
set_option maxRecDepth 100000

set_option maxHeartbeats 2000000 in
theorem nil_begin {w : World} {v : Value} :
    Calls Try.prog 48 #[.pointer none, v] w fun e w' => e = .returned (ev 1) ∧ Ext w w' := by
  go_enter Try.func48, Try.ntmps48
  go_wp2_with fail
  go_ret
  exact ⟨rfl, Mod.refl _ _⟩
set_option maxHeartbeats 2000000 in
theorem nil_fuse {w : World} {n : Int} :
    Calls Try.prog 25 #[.pointer none, .int .i64 n] w fun e w' => e = .returned (.tuple #[]) ∧ Ext w w' := by
  go_enter Try.func25, Try.ntmps25
  go_wp2_with fail
  refine bodyPost_ret (results_none rfl _ _ _) rfl ?_
  exact ⟨rfl, Mod.refl _ _⟩
set_option maxHeartbeats 2000000 in
theorem nil_crash {w : World} {n : Int} :
    Calls Try.prog 19 #[.pointer none, .int .i64 n] w fun e w' => e = .returned (.tuple #[]) ∧ Ext w w' := by
  go_enter Try.func19, Try.ntmps19
  go_wp2_with fail
  refine bodyPost_ret (results_none rfl _ _ _) rfl ?_
  exact ⟨rfl, Mod.refl _ _⟩
set_option maxHeartbeats 2000000 in
theorem nil_read {w : World} {x : Value} :
    Calls Try.prog 23 #[.pointer none, x] w fun e w' => e = .returned (.tuple #[.slice none 0 0, ev 7]) ∧ Ext w w' := by
  go_enter Try.func23, Try.ntmps23
  go_wp2_with fail
  go_ret2
  exact ⟨rfl, Mod.refl _ _⟩
set_option maxHeartbeats 2000000 in
theorem nil_list {w : World}  :
    Calls Try.prog 29 #[.pointer none] w fun e w' => e = .returned (.slice none 0 0) ∧ Ext w w' := by
  go_enter Try.func29, Try.ntmps29
  go_wp2_with fail
  go_ret
  exact ⟨rfl, Mod.refl _ _⟩
set_option maxHeartbeats 2000000 in
theorem nil_used {w : World}  :
    Calls Try.prog 30 #[.pointer none] w fun e w' => e = .returned (ev 0) ∧ Ext w w' := by
  go_enter Try.func30, Try.ntmps30
  go_wp2_with fail
  go_ret
  exact ⟨rfl, Mod.refl _ _⟩
set_option maxHeartbeats 2000000 in
theorem nil_copy {w : World}  :
    Calls Try.prog 16 #[.pointer none] w fun e w' => e = .returned (.pointer none) ∧ Ext w w' := by
  go_enter Try.func16, Try.ntmps16
  go_wp2_with fail
  go_ret
  exact ⟨rfl, Mod.refl _ _⟩
set_option maxHeartbeats 2000000 in
theorem nil_each {w : World} {y z : Value} :
    Calls Try.prog 66 #[.pointer none, y, z] w fun e w' => e = .returned (ev 1) ∧ Ext w w' := by
  go_enter Try.func66, Try.ntmps66
  go_wp2_with fail
  go_ret
  exact ⟨rfl, Mod.refl _ _⟩
set_option maxHeartbeats 2000000 in
theorem nil_find {w : World} {x : List UInt8} :
    Calls Try.prog 69 #[.pointer none, sv x] w fun e w' => e = .returned (.tuple #[.pointer none, ev 1]) ∧ Ext w w' := by
  go_enter Try.func69, Try.ntmps69
  go_wp2_with fail
  refine nil_begin.mono ?_
  rintro e w1 ⟨rfl, x1⟩
  go_wp2_with fail
  go_ret2
  exact ⟨rfl, ext_trans ((Mod.refl _ _).alloc _) x1⟩
set_option maxHeartbeats 2000000 in
theorem nil_append {w : World} {x : List UInt8} {y : Value} :
    Calls Try.prog 18 #[.pointer none, sv x, y] w fun e w' => e = .returned (ev 1) ∧ Ext w w' := by
  go_enter Try.func18, Try.ntmps18
  go_wp2_with fail
  refine nil_begin.mono ?_
  rintro e w1 ⟨rfl, x1⟩
  go_wp2_with fail
  go_ret
  exact ⟨rfl, ext_trans ((Mod.refl _ _).alloc _) x1⟩
set_option maxHeartbeats 2000000 in
theorem nil_trunc {w : World} {x : List UInt8} {n : Int} :
    Calls Try.prog 27 #[.pointer none, sv x, .int .i64 n] w fun e w' => e = .returned (ev 1) ∧ Ext w w' := by
  go_enter Try.func27, Try.ntmps27
  go_wp2_with fail
  refine nil_find.mono ?_
  rintro e w1 ⟨rfl, x1⟩
  go_wp2_with fail
  go_ret
  exact ⟨rfl, x1⟩
set_option maxHeartbeats 2000000 in
theorem nil_rename {w : World} {x y : List UInt8} :
    Calls Try.prog 28 #[.pointer none, sv x, sv y] w fun e w' => e = .returned (ev 1) ∧ Ext w w' := by
  go_enter Try.func28, Try.ntmps28
  go_wp2_with fail
  refine nil_begin.mono ?_
  rintro e w1 ⟨rfl, x1⟩
  go_wp2_with fail
  go_ret
  exact ⟨rfl, ext_trans ((Mod.refl _ _).alloc _) x1⟩
set_option maxHeartbeats 2000000 in
theorem nil_sync {w : World} {y : Value} :
    Calls Try.prog 22 #[.pointer none, y] w fun e w' => e = .returned (ev 1) ∧ Ext w w' := by
  go_enter Try.func22, Try.ntmps22
  go_wp2_with fail
  refine nil_each.mono ?_
  rintro e w1 ⟨rfl, x1⟩
  go_wp2_with fail
  go_ret
  exact ⟨rfl, x1⟩
set_option maxHeartbeats 2000000 in
theorem nil_remove {w : World} {y : Value} :
    Calls Try.prog 26 #[.pointer none, y] w fun e w' => e = .returned (ev 1) ∧ Ext w w' := by
  go_enter Try.func26, Try.ntmps26
  go_wp2_with fail
  refine nil_each.mono ?_
  rintro e w1 ⟨rfl, x1⟩
  go_wp2_with fail
  go_ret
  exact ⟨rfl, x1⟩
set_option maxHeartbeats 8000000 in
theorem nothing_any {w : World} {S : Nat → Prop} {v : Value} {x l : List UInt8} {n : Int} (hx : x.length ≤ 140737488351232) (hv : Bs w S v l) (hl : l.length ≤ 140737488351232) (hn : -9223372036854775808 ≤ n ∧ n ≤ 9223372036854775807) :
    Calls Try.prog 6 #[sv x, v, .int .i64 n] w fun e w' => e = .returned (.bool true) ∧ Ext w w' := by
  obtain ⟨A, c, rfl, h1, h2, h3, h4⟩ := hv.open_
  have hsz := sv_size x
  clear hv h4
  by_cases hbig : 8000 < x.length + l.length
  · have hb : decide ((8000 : Int) < (x.length : Int) + (l.length : Int)) = true := dtrue (by omega)
    go_enter Try.func6, Try.ntmps6
    go_wp2_with fail
    go_ret
    exact ⟨rfl, Mod.refl _ _⟩
  have hb : decide ((8000 : Int) < (x.length : Int) + (l.length : Int)) = false := dfalse (by omega)
  go_enter Try.func6, Try.ntmps6
  have y0 : Ext w w := Mod.refl _ _
  go_wp2_with fail
  refine nil_fuse.mono ?_
  rintro e w1 ⟨rfl, x1⟩
  have y1 : Ext w w1 := ext_trans y0 x1
  clear y0 x1
  go_wp2_with fail
  refine nil_crash.mono ?_
  rintro e w2 ⟨rfl, x2⟩
  have y2 : Ext w w2 := ext_trans y1 x2
  clear y1 x2
  go_wp2_with fail
  refine nil_read.mono ?_
  rintro e w3 ⟨rfl, x3⟩
  have y3 : Ext w w3 := ext_trans y2 x3
  clear y2 x3
  go_wp2_with fail
  refine nil_append.mono ?_
  rintro e w4 ⟨rfl, x4⟩
  have y4 : Ext w w4 := ext_trans (Mod.alloc y3 _) x4
  clear y3 x4
  go_wp2_with fail
  refine nil_sync.mono ?_
  rintro e w5 ⟨rfl, x5⟩
  have y5 : Ext w w5 := ext_trans (Mod.alloc y4 _) x5
  clear y4 x5
  go_wp2_with fail
  refine nil_trunc.mono ?_
  rintro e w6 ⟨rfl, x6⟩
  have y6 : Ext w w6 := ext_trans y5 x6
  clear y5 x6
  go_wp2_with fail
  refine nil_rename.mono ?_
  rintro e w7 ⟨rfl, x7⟩
  have y7 : Ext w w7 := ext_trans y6 x7
  clear y6 x7
  go_wp2_with fail
  refine nil_remove.mono ?_
  rintro e w8 ⟨rfl, x8⟩
  have y8 : Ext w w8 := ext_trans (Mod.alloc y7 _) x8
  clear y7 x8
  go_wp2_with fail
  refine nil_list.mono ?_
  rintro e w9 ⟨rfl, x9⟩
  have y9 : Ext w w9 := ext_trans y8 x9
  clear y8 x9
  go_wp2_with fail
  refine nil_used.mono ?_
  rintro e w10 ⟨rfl, x10⟩
  have y10 : Ext w w10 := ext_trans y9 x10
  clear y9 x10
  go_wp2_with fail
  refine nil_copy.mono ?_
  rintro e w11 ⟨rfl, x11⟩
  have y11 : Ext w w11 := ext_trans y10 x11
  clear y10 x11
  go_wp2_with fail
  refine known3_any.mono ?_
  rintro e w12 ⟨rfl, x12⟩
  have y12 : Ext w w12 := ext_trans y11 x12
  clear y11 x12
  go_wp2_with fail
  go_ret
  exact ⟨rfl, y12⟩
end Go.Proofs.Ytagchhcpmibelaa

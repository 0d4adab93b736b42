/- table: a table built and opened; what is known; the law of nothing. -/
import Derived.Test.YthohghnfiicndaaDoorTabP
import Derived.Test.YthohghnfiicndaaDoorTabR
namespace Go.Proofs.YthohghnfiicndaaDoor
open Go.RowKit Go.Maps Go.WideMaps
set_option maxRecDepth 100000

theorem build_of {L : List Ce} (h : riseN L = 0) (h0 : L ≠ []) (hl : L.length ≤ 4096) : buildN L = 0 := by
  unfold buildN
  rw [if_neg (by rintro (e | e); exact h0 e; omega)]
  exact h
theorem build_len {L : List Ce} (h : buildN L = 0) (hw : wC L ≤ 6200) (hl : L.length ≤ 201) : (buildB L).length ≤ 40000 := by
  have h1 := body_len (build_rise h).2.2 (by omega)
  have e : buildB L = frec (bodyB L) := if_pos h
  rw [e, frec_len]
  omega
theorem opened_any {w : World} {S : Nat → Prop} {v : Value} {L : List Ce} (h : Bs w S v (buildB L)) (hN : Nib w) (hb : buildN L = 0) (hw : wC L ≤ 6200) (hl : L.length ≤ 201) :
    Calls Tryd.prog 14 #[v] w fun e w' => ∃ g, e = .returned (.tuple #[.pointer (some ⟨g, 0, none⟩), .int .i64 0]) ∧ TL (fun k => w.heap.size ≤ k) w' (.pointer (some ⟨g, 0, none⟩)) L ∧ Ext w w' := by
  obtain ⟨e1, e2, -, -⟩ := open_build hb (by omega)
  refine (open_any h hN (build_len hb hw hl)).mono ?_
  rintro e w' ⟨u, rfl, hO, hx⟩
  rw [e1] at hO
  obtain ⟨g, acc, rfl, h2, h3⟩ := hO
  exact ⟨g, by rw [e2]; rfl, ⟨g, acc, rfl, h2, h3⟩, hx⟩
theorem cs_two (w : World) (a b : Ce) : Cs (w.alloc (.cells #[sv a.key, sv a.val, .bool a.del, .int .i64 a.seq, sv b.key, sv b.val, .bool b.del, .int .i64 b.seq] 37)) (fun k => k = w.heap.size) (.slice (some ⟨w.heap.size, 0, none⟩) 2 2) [a, b] := by
  obtain ⟨A, c, hv, _, _, _, h5⟩ := Sl.lit w 37 [sv a.key, sv a.val, .bool a.del, .int .i64 a.seq, sv b.key, sv b.val, .bool b.del, .int .i64 b.seq] (by simp [maxLen])
  injection hv with e1 _ _
  subst e1
  exact ⟨_, _, rfl, Nat.le_refl _, by simp [maxLen], by simp, rfl, h5⟩
def kL : List Ce := [⟨[97], [120], false, 2⟩, ⟨[97], [121], false, 1⟩]
theorem kL_build : buildN kL = 0 := by decide
theorem kL_wC : wC kL = 6 := by decide
theorem kL_get : outS (firstC kL [97] 1) = (⟨[97], [121], false, 1⟩, true) := by decide
theorem kL_split : (splitB kL).length = 1 := by decide
theorem kL_first : (kL.getD 0 default).key = [97] := rfl

set_option maxHeartbeats 8000000 in
theorem known8_any {w : World} (hN : Nib w) : Calls Tryd.prog 13 #[] w fun e w' => e = .returned (.bool true) ∧ Ext w w' := by
  have hc0 : Cs (w.alloc (.cells #[sv [97], sv [120], .bool false, .int .i64 2, sv [97], sv [121], .bool false, .int .i64 1] 37)) (fun k => k = w.heap.size) (.slice (some ⟨w.heap.size, 0, none⟩) 2 2) kL := cs_two w ⟨[97], [120], false, 2⟩ ⟨[97], [121], false, 1⟩
  have x0 : Ext w (w.alloc (.cells #[sv [97], sv [120], .bool false, .int .i64 2, sv [97], sv [121], .bool false, .int .i64 1] 37)) := (Mod.refl _ w).alloc _
  have hc1 := build_any hc0 (by rw [kL_wC]; omega) (hN.mod x0 (fun h => h))
  rw [kL_build] at hc1
  have hc5 := fun {S : Nat → Prop} {wx : World} {u : Value} (h : TL S wx u kL) => get_any (key := [97]) (seq := 1) h kL_build (by decide)
  rw [kL_get] at hc5
  have hc6 := fun {S : Nat → Prop} {wx : World} {u : Value} (h : TL S wx u kL) => len_any h
  have hc7 := fun {S : Nat → Prop} {wx : World} {u : Value} (h : TL S wx u kL) => first_any h kL_build
  rw [kL_first] at hc7
  have hc8 := fun {S : Nat → Prop} {wx : World} {u : Value} (h : TL S wx u kL) => blocks_any h (build_rise kL_build).1
  rw [kL_split] at hc8
  have hop := fun {S : Nat → Prop} {wx : World} {v : Value} (h : Bs wx S v (buildB kL)) (n : Nib wx) => opened_any h n kL_build (by rw [kL_wC]; omega) (by decide)
  rw [show kL.length = 2 from rfl] at hc6
  generalize kL = K at *
  go_enter Tryd.func13, Tryd.ntmps13
  go_wp2_with fail
  refine hc1.mono ?_
  rintro e w1 ⟨v1, rfl, o1, f1, x1⟩
  have y1 := ext_trans x0 x1
  have hc2 := hop o1.sl (hN.mod y1 (fun h => h))
  clear hc1 hop x0 x1 hc0
  go_wp2_with fail
  refine hc2.mono ?_
  rintro e w2 ⟨g, rfl, T, x2⟩
  have y2 := ext_trans y1 x2
  have hc3 := hc5 T
  clear hc2 hc5 x2 y1
  go_wp2_with fail
  refine hc3.mono ?_
  rintro e w3 ⟨rfl, x3⟩
  have y3 := ext_trans y2 x3
  have T3 := T.ext x3
  have x4 : Ext w3 (w3.alloc (.cells (car ⟨[97], [121], false, 1⟩) 37)) := (Mod.refl _ w3).alloc _
  have B4 : Blk (w3.alloc (.cells (car ⟨[97], [121], false, 1⟩) 37)) w3.heap.size 37 (car ⟨[97], [121], false, 1⟩) := Blk.new w3 _ _
  have c41 : (w3.alloc (.cells (car ⟨[97], [121], false, 1⟩) 37)).cell? ⟨w3.heap.size, 1, none⟩ = some (sv [121]) := B4.cell 1
  have T4 := T3.ext x4
  have y4 := ext_trans y3 x4
  have hl := hc6 T4
  have hf := hc7 T4
  clear hc3 hc6 T T3 x3 x4 y3 y2 B4
  generalize hw4 : w3.alloc (.cells (car ⟨[97], [121], false, 1⟩) 37) = w4 at *
  replace hw4 := Lib.hid hw4
  go_upto_region 6 with fail
  rw [show w3.alloc (.cells #[sv [97], sv [121], .bool false, .int .i64 1] 37) = w4 from hw4.out]
  go_wp2_with fail
  refine hl.mono ?_
  rintro e w5 ⟨rfl, rfl⟩
  go_wp2_with fail
  refine hf.mono ?_
  rintro e w6 ⟨rfl, n, rfl⟩
  have T6 := T4.ext ((Mod.refl (fun _ => False) w5).drewN n)
  have hb := hc8 T6
  go_wp2_with fail
  refine hb.mono ?_
  rintro e w7 ⟨rfl, rfl⟩
  go_wp2_with fail
  go_ret
  exact ⟨rfl, y4.drewN n⟩
end Go.Proofs.YthohghnfiicndaaDoor

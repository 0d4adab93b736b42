/- table: the law of Build. -/
import Derived.Test.YthohghnfiicndaaDoorTabT
import Derived.Test.YthohghnfiicndaaDoorTabZa
namespace Go.Proofs.YthohghnfiicndaaDoor
open Go.RowKit Go.Maps Go.WideMaps
set_option maxRecDepth 100000

set_option maxHeartbeats 8000000 in
theorem builds8_any {w : World} {S : Nat → Prop} {v : Value} {L : List Ce} (h : Cs w S v L) (hf : LFits L) (hN : Nib w) :
    Calls Tryd.prog 3 #[v] w fun e w' => e = .returned (.bool true) ∧ Ext w w' := by
  have hc1 := heavy8_any h hf
  have hcs := fun {wx : World} (x : Ext w wx) => Rc.ext h x
  obtain ⟨A, c, rfl, h1, h2, h3, h4⟩ := h.open_ cel_len
  go_enter Tryd.func3, Tryd.ntmps3
  go_wp2_with fail
  refine hc1.mono ?_
  rintro e w1 ⟨q, rfl, hq, x1⟩
  clear hc1
  cases q with
  | true =>
    go_wp2_with fail
    go_ret
    exact ⟨rfl, x1⟩
  | false =>
  obtain ⟨hw, hl⟩ := hq rfl
  clear hq
  have hn : (0 + L.length) * 48 ≤ 140737488355328 := by omega
  have z1 : Ext w (w1.alloc (.cells #[] 37)) := x1.alloc _
  have hen := fun {wx : World} {y : Value} {T : Nat → Prop} (hy : Cs wx T y L) (n : Nib wx) => build_any hy (by omega) n
  have hre := fun {wx : World} (x : Ext w wx) => rbuild_any (hcs x) (by omega)
  have hni := fun {wx : World} (x : Ext w wx) => hN.mod x (fun h => h)
  generalize buildN L = R at *
  generalize buildB L = E at *
  have hee : (E == E) = true := by simp
  have hrr : ((R : Int) == (R : Int)) = true := by simp
  go_wp2_with ((with_reducible show wpList _ _ _ (⟨some 12, _, _, _, _, _⟩ :: _) _ _); refine wp_appk tyC (OwnR.lit0 cel 4 w1 37) (h.ext z1) flat_ok rfl (.tmp 10) (.tmp 11) rfl rfl rfl hn ?_; intro v2 w2 k1 k2 k3)
  have o2 : OwnC w2 v2 L := by
    show OwnK w2 37 4 v2 L.length (L.flatMap cel)
    simpa using k1
  have x2 : Ext w w2 := z1.trans k2 (fun _ _ h => h) (fun i hi hF => by
    have : w1.heap.size = i := Option.some.inj hF
    have := x1.size
    omega)
  refine (hen o2.rc (hni x2)).mono ?_
  rintro e w3 ⟨v3, rfl, o3, -, x3⟩
  replace x3 := ext_trans x2 x3
  clear k1 k2 k3 hen o2 z1
  go_wp2_with fail
  refine (hre x3).mono ?_
  rintro e w4 ⟨v4, rfl, o4, -, x4⟩
  have y3 := run_conv (P := Tryd.prog) Tryd.underlying24 Tryd.underlying5 Tryd.underlying9 (o3.sl.ext x4)
  have y4 := run_conv (P := Tryd.prog) Tryd.underlying24 Tryd.underlying5 Tryd.underlying9 o4.sl
  have x0 := ext_trans x3 x4
  have hkn := known8_any (hni x0)
  clear hre o3 o4 x3 x4 hcs hni h h4
  go_wp2_with fail
  refine hkn.mono ?_
  rintro e w7 ⟨rfl, x7⟩
  go_wp2_with fail
  go_ret
  exact ⟨rfl, ext_trans x0 x7⟩
end Go.Proofs.YthohghnfiicndaaDoor

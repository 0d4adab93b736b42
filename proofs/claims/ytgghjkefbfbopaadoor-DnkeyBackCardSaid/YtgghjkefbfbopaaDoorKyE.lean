/- dnkey: the law Back. -/
import Derived.Test.YtgghjkefbfbopaaDoorKyD
namespace Go.Proofs.YtgghjkefbfbopaaDoor
open Go.Shelf Go.RowKit
set_option maxRecDepth 100000
set_option maxHeartbeats 4000000 in
theorem dnkeyBack_walk {w : World} {v0 : Value} {a : List Av} (h0 : As w (fun _ => True) v0 a) (f0 : Fits a) (hm : Mxl w) :
    Calls Tryd.prog 6 #[v0] w fun e w' => e = .returned (.bool true) ∧ Ext w w' := by
  obtain ⟨A0, c0, rfl⟩ := h0.shape
  have hh := heavy19_any h0 f0
  go_enter Tryd.func6, Tryd.ntmps6
  go_wp2_with fail
  refine hh.mono ?_
  rintro e w1 ⟨q, rfl, g0, x1⟩
  clear hh
  cases q
  case true =>
    go_wp2_with fail
    go_ret
    exact ⟨rfl, x1⟩
  have hw := g0 rfl
  clear g0
  have hi := ris_any (h0.ext x1) f0
  by_cases hname : isName a
  case neg =>
    rw [decide_eq_false hname] at hi
    clear hname
    go_wp2_with fail
    refine hi.mono ?_
    rintro e w2 ⟨rfl, rfl⟩
    go_wp2_with fail
    go_ret
    exact ⟨rfl, x1⟩
  rw [decide_eq_true hname] at hi
  have hk := key_any (h0.ext x1) (by omega)
  have hwn := norm_wN a
  have hkl := partsK_len (norm a)
  have hbk := back_key hname
  have hct := count_key hname
  have hlen : (keyB a).length ≤ 5000 := by unfold keyB; omega
  have hb := fun (wx : World) m => back_any (w := wx) (keyB a) (by omega) m
  have hd := fun (wx : World) m => depth_any (w := wx) (keyB a) (by omega) m
  rw [hbk] at hb
  rw [hct] at hd
  have hrn := fun (wx : World) (x : Ext w wx) => rnorm_any (Rc.there h0 x) f0
  have hnm := fun (wx : World) (u v : Value) (S T : Nat → Prop) p q r => names19_any (w := wx) (S := S) (S' := T) (v := u) (v' := v) (L := norm a) (M := norm a) p q r
  have hnl : (norm a).length * 32 ≤ 140737488351232 := by have := f0.2; unfold norm; rw [List.length_map]; exact this
  have t1 : ((a.length : Int) == (a.length : Int)) = true := by simp
  clear hname hbk hct hwn hkl hlen hw
  generalize keyB a = key at *
  go_wp2_with fail
  refine hi.mono ?_
  rintro e w2 ⟨rfl, rfl⟩
  clear hi
  go_wp2_with fail
  refine hk.mono ?_
  rintro e w3 ⟨rfl, x3⟩
  have y3 := ext_trans x1 x3
  clear hk
  have hb1 := hb _ (hm.ext y3)
  clear hb
  go_wp2_with fail
  refine hb1.mono ?_
  rintro e w4 ⟨m, rfl, o4, x4⟩
  have y4 := ext_trans y3 x4
  clear hb1
  have hr1 := hrn _ y4
  clear hrn
  go_wp2_with fail
  refine hr1.mono ?_
  rintro e w5 ⟨n, rfl, o5, -, x5⟩
  have y5 := ext_trans y4 x5
  clear hr1
  have hn1 := hnm w5 m n _ _ (OwnR.rc (OwnR.ext o4 x5)) (OwnR.rc o5) hnl
  simp only [decide_true] at hn1
  clear hnm
  go_wp2_with fail
  refine hn1.mono ?_
  rintro e w6 ⟨rfl, x6⟩
  have y6 := ext_trans y5 x6
  clear hn1
  have hd1 := hd _ (hm.ext y6)
  clear hd
  go_wp2_with fail
  refine hd1.mono ?_
  rintro e w7 ⟨rfl, rfl⟩
  clear hd1
  go_wp2_with fail
  refine (known19_any).mono ?_
  rintro e w8 ⟨rfl, x8⟩
  go_wp2_with fail
  go_ret
  exact ⟨rfl, ext_trans y6 x8⟩
end Go.Proofs.YtgghjkefbfbopaaDoor

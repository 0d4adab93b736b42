/- disk: rows laid behind a file. -/
import Derived.Test.YtagchhcpmibelaaDkJ
namespace Go.Proofs.Ytagchhcpmibelaa
open Go.RowKit Go.Maps Go.WideMaps
set_option maxRecDepth 100000

def appendD (d : Ds) (x : List UInt8) (P : Tx) : Ds × Nat :=
  if begD d [x] ≠ 0 then (d, begD d [x]) else if ¬ sumB d.L + tot P ≤ d.room then (d, 6) else match getF d.L x with
  | none => if 4096 ≤ d.L.length then (d, 6) else (doneD { d with L := putF d.L ⟨x, P.flatten, 0⟩ }, 0)
  | some f => (doneD { d with L := putF d.L ⟨f.name, f.b ++ P.flatten, f.last⟩ }, 0)
theorem flat_len (P : Tx) : P.flatten.length = tot P := by simp [tot, List.length_flatten]
section
variable {S T F : Nat → Prop} {w w' : World} {bd bm : Nat} {D : DataW Unit} {G : Lay} {d : Ds} {v : Value}
set_option maxHeartbeats 4000000 in
theorem append_err (h : DkAt S w bd bm D G d) (x : List UInt8) (v : Value) (hb : begD d [x] ≠ 0) :
    Calls Try.prog 18 #[pv bd, sv x, v] w fun e w' => e = .returned (ev (begD d [x])) ∧ Ext w w' := by
  have x0 : Ext w (w.alloc (.cells #[sv x] 9)) := (Mod.refl _ w).alloc _
  have hc := begin_any (h.mod x0 (fun _ _ _ h => h)) (one_name w x) (by simp)
  have hn := n_ne0 hb
  clear h
  generalize begD d [x] = n at *
  go_enter Try.func18, Try.ntmps18
  go_wp2_with fail
  refine hc.mono ?_
  rintro e w1 ⟨rfl, x1⟩
  clear hc hb
  go_wp2_with fail
  go_ret
  exact ⟨rfl, ext_trans x0 x1⟩
set_option maxHeartbeats 4000000 in
theorem append_full (h : DkAt S w bd bm D G d) (x : List UInt8) {v : Value} {P : Tx} (hv : Rw w T v P) (hp : P.length ≤ 1000000) (hb : begD d [x] = 0) (hno : ¬ sumB d.L + tot P ≤ d.room ∨ (getF d.L x = none ∧ 4096 ≤ d.L.length)) :
    Calls Try.prog 18 #[pv bd, sv x, v] w fun e w' => e = .returned (ev 6) ∧ Ext w w' := by
  have x0 : Ext w (w.alloc (.cells #[sv x] 9)) := (Mod.refl _ w).alloc _
  have h0 := h.mod x0 (fun _ _ _ h => h)
  have hc := begin_any h0 (one_name w x) (by simp)
  have hl := (begD_len hb (List.mem_singleton.2 rfl)).2
  rw [hb] at hc
  have hcf := fun (wx : World) (x1 : Ext w wx) => fits_any (h.mod x1 (fun _ _ _ h => h)) (hv.mod x1 (fun _ _ _ h => h)) hp
  have hM : ∀ wx, Ext w wx → wx.ownsMap Try.prog 9 ptrElem bm d.L.length D := fun wx x1 => (h.mod x1 (fun _ _ _ h => h)).map
  have hC : ∀ wx, Ext w wx → wx.cell? ⟨bd, 2, none⟩ = some (.map (some bm)) := fun wx x1 => (h.mod x1 (fun _ _ _ h => h)).blk.cell 2
  have hsz := h.of.size
  have hnk : getF d.L x = none → has D (.string x) = false := fun hx => by rw [h.of.has]; exact decide_eq_false (getF_none hx)
  have hsk : ∀ f, getF d.L x = some f → has D (.string x) = true ∧ D.atKey (.string x) .nil = .lit (.int .i64 ((G x).1 : Nat)) := fun f hx => by
    have hin : x ∈ nms d.L := getF_iff.2 (by rw [hx]; rfl)
    exact ⟨by rw [h.of.has]; exact decide_eq_true hin, h.of.key _ hin⟩
  clear h h0 hv
  by_cases hft : sumB d.L + tot P ≤ d.room
  · obtain ⟨hx, hmany⟩ := hno.resolve_left (fun h => h hft)
    have hhas := Lib.hid (hnk hx)
    have hbl : decide ((4096 : Int) ≤ (d.L.length : Nat)) = true := dtrue (by omega)
    rw [dtrue hft] at hcf
    clear hno hnk hsk hx hb
    go_enter Try.func18, Try.ntmps18
    go_wp2_with fail
    refine hc.mono ?_
    rintro e w1 ⟨rfl, x1⟩
    have y1 := ext_trans x0 x1
    have hM1 := hM w1 y1
    have hC1 := hC w1 y1
    have hcf1 := hcf w1 y1
    clear hc hcf
    go_wp2_with (at_lookup; refine wp_lookN hM1 (by omega) hhas.out rfl _ _ rfl rfl rfl ?_)
    refine hcf1.mono ?_
    rintro e w2 ⟨rfl, x2⟩
    have y2 := ext_trans y1 x2
    have hM2 := (hM w2 y2).len Try.underlying68 3
    rw [hsz] at hM2
    have hC2 := hC w2 y2
    clear hM hC hM1 hcf1 hC1
    generalize d.L.length = n at *
    go_wp2_with fail
    go_ret
    exact ⟨rfl, y2⟩
  · rw [dfalse hft] at hcf
    clear hno hft hsz
    cases hx : getF d.L x with
    | none =>
      have hhas := Lib.hid (hnk hx)
      clear hnk hsk hx hb
      go_enter Try.func18, Try.ntmps18
      go_wp2_with fail
      refine hc.mono ?_
      rintro e w1 ⟨rfl, x1⟩
      have y1 := ext_trans x0 x1
      have hM1 := hM w1 y1
      have hC1 := hC w1 y1
      have hcf1 := hcf w1 y1
      clear hc hcf
      go_wp2_with (at_lookup; refine wp_lookN hM1 (by omega) hhas.out rfl _ _ rfl rfl rfl ?_)
      refine hcf1.mono ?_
      rintro e w2 ⟨rfl, x2⟩
      clear hM hC hM1 hcf1 hC1
      go_wp2_with fail
      go_ret
      exact ⟨rfl, ext_trans y1 x2⟩
    | some f =>
      have hhas := Lib.hid (hsk f hx).1
      have hat := Lib.hid (hsk f hx).2
      clear hnk hsk hx hb
      go_enter Try.func18, Try.ntmps18
      go_wp2_with fail
      refine hc.mono ?_
      rintro e w1 ⟨rfl, x1⟩
      have y1 := ext_trans x0 x1
      have hM1 := hM w1 y1
      have hC1 := hC w1 y1
      have hcf1 := hcf w1 y1
      clear hc hcf
      go_wp2_with (at_lookup; refine wp_lookS hM1 (by omega) hhas.out hat.out rfl _ _ rfl rfl rfl ?_)
      refine hcf1.mono ?_
      rintro e w2 ⟨rfl, x2⟩
      clear hM hC hM1 hcf1 hC1
      go_wp2_with fail
      go_ret
      exact ⟨rfl, ext_trans y1 x2⟩
end
end Go.Proofs.Ytagchhcpmibelaa

/- disk: a file read; a Disk made. -/
import Derived.Test.YtagchhcpmibelaaDkH
namespace Go.Proofs.Ytagchhcpmibelaa
open Go.RowKit Go.Maps Go.WideMaps
set_option maxRecDepth 100000

section
variable {S T F : Nat → Prop} {w w' : World} {bd bm : Nat} {D : DataW Unit} {G : Lay} {d : Ds} {v : Value}
/-- What is read: the bytes, or the error. -/
def readD (d : Ds) (x : List UInt8) : Option (List UInt8) := (getF d.L x).map Fi.b
def codeR : Option (List UInt8) → Nat
  | some _ => 0
  | none => 7
set_option maxHeartbeats 4000000 in
theorem read_any (h : Dk S w v d) (x : List UInt8) (hl : x.length ≤ 1000000) :
    Calls Try.prog 23 #[v, sv x] w fun e w' => ∃ u, e = .returned (.tuple #[u, ev (codeR (readD d x))]) ∧ Own w' 5 u (((readD d x).getD []).map bv) ∧ Fresh w.heap.size u ∧ Ext w w' := by
  obtain ⟨bd, bm, D, G, rfl, h⟩ := h
  have hM := h.map
  have c2 : w.cell? ⟨bd, 2, none⟩ = some (.map (some bm)) := h.blk.cell 2
  cases hx : getF d.L x with
  | none =>
    have hhas : has D (.string x) = false := by rw [h.of.has]; exact decide_eq_false (getF_none hx)
    have e : readD d x = none := by rw [readD, hx]; rfl
    rw [e]
    clear h hx e
    replace hhas := Lib.hid hhas
    go_enter Try.func23, Try.ntmps23
    go_wp2_with (at_lookup; refine wp_lookN hM (by omega) hhas.out rfl _ _ rfl rfl rfl ?_)
    go_ret2
    exact ⟨_, rfl, Own.nil _ _, fresh_nil _ _ _, Mod.refl _ _⟩
  | some f =>
    have hf := getF_mem hx
    have e : readD d x = some f.b := by rw [readD, hx]; rfl
    obtain rfl := getF_name hx
    rw [e]
    have hin : f.name ∈ nms d.L := List.mem_map.2 ⟨f, hf, rfl⟩
    have hhas : has D (.string f.name) = true := by rw [h.of.has]; exact decide_eq_true hin
    have hat := h.of.key _ hin
    have hlen : f.b.length ≤ sumB d.L := by
      have := sumB_delF (x := f.name) h.rise
      rw [getF_of_mem h.rise hf] at this
      simp only [lenB] at this
      omega
    have hc := own_any (h.fo f hf).sl (by have := h.room; have := h.most; omega)
    obtain ⟨A, c, hv⟩ := (h.fo f hf).shape
    rw [List.length_map] at hv
    have g0 : w.cell? ⟨(G f.name).1, 0, none⟩ = some (G f.name).2 := (h.fb f hf).cell 0
    rw [hv] at g0 hc
    clear h hx e hin hf hlen hv
    generalize (G f.name).1 = g at *
    generalize f.name = x at *
    replace hhas := Lib.hid hhas
    replace hat := Lib.hid hat
    go_enter Try.func23, Try.ntmps23
    go_wp2_with (at_lookup; refine wp_lookS hM (by omega) hhas.out hat.out rfl _ _ rfl rfl rfl ?_)
    refine hc.mono ?_
    rintro e w1 ⟨u, rfl, o1, f1, _, x1⟩
    go_wp2_with fail
    go_ret2
    exact ⟨_, rfl, o1, f1, x1⟩
end
end Go.Proofs.Ytagchhcpmibelaa

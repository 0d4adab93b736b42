/- disk: a file sought, made, dropped, cut; small methods. -/
import Derived.Test.YtagchhcpmibelaaDkC
import Derived.Deep.RegionHeld3
import Derived.Deep.RegionLaw
import Derived.BigRegion
import Derived.Deep.DeepCutAuto
namespace Go.Proofs.Ytagchhcpmibelaa
open Go.RowKit Go.Maps Go.WideMaps
set_option maxRecDepth 100000

section
variable {w : World} {ops : Array Oper} {rest : List Oper} {o : Oper} {a : Act} {Q : Exit → Act → World → Prop}
theorem wp_lookS {bm n : Nat} {D : DataW Unit} {x : List UInt8} {g : Nat} (hM : w.ownsMap Try.prog 9 ptrElem bm n D) (hl : x.length ≤ 1000000) (hhas : has D (.string x) = true) (hat : D.atKey (.string x) .nil = .lit (.int .i64 (g : Nat)))
    (hgd : o.guard = none) (m k : Operand) (hop : o.op = Op.lookup 68 m k true) (hm : a.eval m = .map (some bm)) (hx : a.eval k = sv x)
    (h : wpList Try.prog ops Q rest (a.put o.dst (.tuple #[pv g, .bool true])) w) : wpList Try.prog ops Q (o :: rest) a w := by
  refine wpList_lookup_own_ok w hgd m k 68 hop 9 74 keyS Try.underlying68 ptrElem (zeroP w) .nil [] rfl bm n D hm hM _ _ hx (keyOf_sv x (by omega)) ?_
  intro v ps hv
  rw [hat] at hv
  obtain rfl := ptr_inv hv
  rw [hhas]
  exact h
theorem wp_lookN {bm n : Nat} {D : DataW Unit} {x : List UInt8} (hM : w.ownsMap Try.prog 9 ptrElem bm n D) (hl : x.length ≤ 1000000) (hhas : has D (.string x) = false)
    (hgd : o.guard = none) (m k : Operand) (hop : o.op = Op.lookup 68 m k true) (hm : a.eval m = .map (some bm)) (hx : a.eval k = sv x)
    (h : wpList Try.prog ops Q rest (a.put o.dst (.tuple #[.pointer none, .bool false])) w) : wpList Try.prog ops Q (o :: rest) a w := by
  refine wpList_lookup_own_ok w hgd m k 68 hop 9 74 keyS Try.underlying68 ptrElem (zeroP w) .nil [] rfl bm n D hm hM _ _ hx (keyOf_sv x (by omega)) ?_
  intro v ps hv
  rw [atKey_of_not_has hhas] at hv
  obtain rfl := ptr_nil hv
  rw [hhas]
  exact h
end
theorem begD_len {d : Ds} {L : Tx} (h : begD d L = 0) {x : List UInt8} (hx : x ∈ L) : 1 ≤ x.length ∧ x.length ≤ 64 := by
  unfold begD at h
  by_cases h1 : d.fu = true ∧ d.left = 0
  · rw [if_pos h1] at h; cases h
  · rw [if_neg h1] at h
    by_cases h2 : L.any badN = true
    · rw [if_pos h2] at h; cases h
    · have h3 : badN x = false := by
        have := List.any_eq_false.1 (by simpa using h2) x hx
        simpa using this
      unfold badN at h3
      simp only [decide_eq_false_iff_not] at h3
      omega
section
variable {S T : Nat → Prop} {w : World} {bd bm : Nat} {D : DataW Unit} {G : Lay} {d : Ds}
theorem one_name (w : World) (x : List UInt8) : Ts (w.alloc (.cells #[sv x] 9)) (fun k => k = w.heap.size) (.slice (some ⟨w.heap.size, 0, none⟩) 1 1) [x] := Sl.one w 9 (sv x)
set_option maxHeartbeats 4000000 in
theorem find_err (h : DkAt S w bd bm D G d) (x : List UInt8) (hb : begD d [x] ≠ 0) :
    Calls Try.prog 69 #[pv bd, sv x] w fun e w' => e = .returned (.tuple #[.pointer none, ev (begD d [x])]) ∧ Ext w w' := by
  have x0 : Ext w (w.alloc (.cells #[sv x] 9)) := (Mod.refl _ w).alloc _
  have hc := begin_any (h.mod x0 (fun _ _ _ h => h)) (one_name w x) (by simp)
  have hn : ((begD d [x] : Int) != 0) = true := by rw [bne_iff_ne]; omega
  clear h
  generalize begD d [x] = n at *
  go_enter Try.func69, Try.ntmps69
  go_wp2_with fail
  refine hc.mono ?_
  rintro e w1 ⟨rfl, x1⟩
  clear hc hb
  go_wp2_with fail
  go_ret2
  exact ⟨rfl, ext_trans x0 x1⟩
set_option maxHeartbeats 4000000 in
theorem find_none (h : DkAt S w bd bm D G d) (x : List UInt8) (hb : begD d [x] = 0) (hx : getF d.L x = none) :
    Calls Try.prog 69 #[pv bd, sv x] w fun e w' => e = .returned (.tuple #[.pointer none, ev 7]) ∧ Ext w w' := by
  have x0 : Ext w (w.alloc (.cells #[sv x] 9)) := (Mod.refl _ w).alloc _
  have h0 := h.mod x0 (fun _ _ _ h => h)
  have hc := begin_any h0 (one_name w x) (by simp)
  have hl := (begD_len hb (List.mem_singleton.2 rfl)).2
  rw [hb] at hc
  have hhas : has D (.string x) = false := by rw [h.of.has]; exact decide_eq_false (getF_none hx)
  clear h
  go_enter Try.func69, Try.ntmps69
  go_wp2_with fail
  refine hc.mono ?_
  rintro e w1 ⟨rfl, x1⟩
  have h1 := h0.mod x1 (fun _ _ _ h => h)
  have hM := h1.map
  have c2 : w1.cell? ⟨bd, 2, none⟩ = some (.map (some bm)) := h1.blk.cell 2
  clear hc h0 h1 hb
  go_wp2_with (at_lookup; refine wp_lookN hM (by omega) hhas rfl _ _ rfl rfl rfl ?_)
  go_ret2
  exact ⟨rfl, ext_trans x0 x1⟩
set_option maxHeartbeats 4000000 in
theorem find_some (h : DkAt S w bd bm D G d) {f : Fi} (hb : begD d [f.name] = 0) (hf : f ∈ d.L) :
    Calls Try.prog 69 #[pv bd, sv f.name] w fun e w' => e = .returned (.tuple #[pv (G f.name).1, ev 0]) ∧ Ext w w' := by
  have x0 : Ext w (w.alloc (.cells #[sv f.name] 9)) := (Mod.refl _ w).alloc _
  have h0 := h.mod x0 (fun _ _ _ h => h)
  have hc := begin_any h0 (one_name w f.name) (by simp)
  have hl := (begD_len hb (List.mem_singleton.2 rfl)).2
  rw [hb] at hc
  have hin : f.name ∈ nms d.L := List.mem_map.2 ⟨f, hf, rfl⟩
  have hhas : has D (.string f.name) = true := by rw [h.of.has]; exact decide_eq_true hin
  have hat := h.of.key _ hin
  clear h hin
  generalize (G f.name).1 = g at *
  generalize f.name = x at *
  go_enter Try.func69, Try.ntmps69
  go_wp2_with fail
  refine hc.mono ?_
  rintro e w1 ⟨rfl, x1⟩
  have h1 := h0.mod x1 (fun _ _ _ h => h)
  have hM := h1.map
  have c2 : w1.cell? ⟨bd, 2, none⟩ = some (.map (some bm)) := h1.blk.cell 2
  clear hc h0 h1 hb
  replace hat := Lib.hid hat
  replace hhas := Lib.hid hhas
  go_wp2_with (at_lookup; refine wp_lookS hM (by omega) hhas.out hat.out rfl _ _ rfl rfl rfl ?_)
  go_ret2
  exact ⟨rfl, ext_trans x0 x1⟩
end
end Go.Proofs.Ytagchhcpmibelaa

/- block: a cell; Less, Is, Size, on both sides. -/
import Derived.Test.YthohghnfiicndaaDoorRecB
import Derived.Test.YthohghnfiicndaaDoorRecIn
import Derived.Test.YthohghnfiicndaaDoorOctU
import Derived.BigQuiet
import Derived.Deep.DeepCutAuto
import Derived.Laws.StructEq
import Derived.Test.YthohghnfiicndaaDoorStrB
import Derived.Laws.IdiomStrings
import Derived.Deep.RegionHeld3
namespace Go.Proofs.YthohghnfiicndaaDoor
open Go.RowKit
set_option maxRecDepth 100000

/-- A cell. -/
structure Ce where
  key : List UInt8
  val : List UInt8
  del : Bool
  seq : Int
instance : DecidableEq Ce := fun a b => decidable_of_iff (a.key = b.key ∧ a.val = b.val ∧ a.del = b.del ∧ a.seq = b.seq) ⟨fun ⟨h1, h2, h3, h4⟩ => by cases a; cases b; simp_all, fun h => by rw [h]; exact ⟨rfl, rfl, rfl, rfl⟩⟩
instance : Inhabited Ce := ⟨⟨[], [], false, 0⟩⟩
abbrev cel (c : Ce) : List Value := [sv c.key, sv c.val, .bool c.del, .int .i64 c.seq]
abbrev car (c : Ce) : Array Value := #[sv c.key, sv c.val, .bool c.del, .int .i64 c.seq]
theorem cel_len (c : Ce) : (cel c).length = 4 := rfl
theorem cel_ok (c : Ce) : ∀ u ∈ cel c, u.oneCell' = true := by
  intro u hu
  simp only [cel, List.mem_cons, List.not_mem_nil, or_false] at hu
  rcases hu with rfl | rfl | rfl | rfl <;> rfl
abbrev Cs (w : World) (S : Nat → Prop) (v : Value) (L : List Ce) : Prop := Rc cel 4 w S v L
abbrev OwnC (w : World) (v : Value) (L : List Ce) : Prop := OwnR cel 4 w 37 v L
theorem tyC : SliceTyK Tryd.prog 22 37 (.agg #[.string ⟨#[]⟩, .string ⟨#[]⟩, .bool false, .int .i64 0]) 4 48 := ⟨Tryd.underlying22, by kernel_rfl, rfl, by decide, by decide⟩
def CFits (c : Ce) : Prop := c.key.length ≤ 140737488351232 ∧ c.val.length ≤ 140737488351232
theorem Cs.at_ {w : World} {S : Nat → Prop} {A : Option Addr} {L : List Ce} (h : RcAt cel 4 w S A L) {i : Nat} (hi : i < L.length) :
    ∃ ad, A = some ad ∧ S ad.block ∧ w.cell? (ad.add (i * 4)) = some (sv L[i].key) ∧ w.cell? ⟨(ad.add (i * 4)).block, (ad.add (i * 4)).off + 1, none⟩ = some (sv L[i].val) ∧ w.cell? ⟨(ad.add (i * 4)).block, (ad.add (i * 4)).off + 2, none⟩ = some (.bool L[i].del) ∧ w.cell? ⟨(ad.add (i * 4)).block, (ad.add (i * 4)).off + 3, none⟩ = some (.int .i64 L[i].seq) := by
  obtain ⟨ad, hA, hS, h0⟩ := h i 0 (sv L[i].key) hi (by omega) rfl
  obtain ⟨ad1, hA1, _, h1⟩ := h i 1 (sv L[i].val) hi (by omega) rfl
  obtain ⟨ad2, hA2, _, h2⟩ := h i 2 (.bool L[i].del) hi (by omega) rfl
  obtain ⟨ad3, hA3, _, h3⟩ := h i 3 (.int .i64 L[i].seq) hi (by omega) rfl
  rw [hA] at hA1 hA2 hA3
  cases hA1
  cases hA2
  cases hA3
  rw [add_next _ _ _ (by omega)] at h1 h2 h3
  exact ⟨ad, hA, hS, h0, h1, h2, h3⟩

theorem dtrue {p : Prop} [Decidable p] (h : p) : decide p = true := decide_eq_true h
theorem dfalse {p : Prop} [Decidable p] (h : ¬ p) : decide p = false := decide_eq_false h
theorem sv_get (l : List UInt8) (k : Nat) (h : k < l.length) (h' : k < (⟨l.toArray⟩ : ByteArray).size) : (⟨l.toArray⟩ : ByteArray)[k]'h' = l[k] := by
  show l.toArray[k] = l[k]
  simp
theorem sv_size (l : List UInt8) : (⟨l.toArray⟩ : ByteArray).size = l.length := by
  show l.toArray.size = l.length
  simp
theorem ret_bool {b : Bool} {p : Prop} [Decidable p] {w w' : World} (h : b = true ↔ p) (hw : w' = w) : Ending.returned (.bool b) = .returned (.bool (decide p)) ∧ w' = w := by
  refine ⟨?_, hw⟩
  congr 2
  cases b
  · exact (decide_eq_false (fun hp => by have := h.2 hp; cases this)).symm
  · exact (decide_eq_true (h.1 rfl)).symm

/-- One is ahead of the other. -/
def lessC (a b : Ce) : Bool := if a.key = b.key then decide (b.seq < a.seq) else Op.bytesLess a.key b.key
def isC (c : Ce) : Prop := 1 ≤ c.key.length ∧ c.key.length ≤ 4096 ∧ c.val.length ≤ 16384 ∧ (c.del = true → c.val = []) ∧ 1 ≤ c.seq ∧ c.seq ≤ 1099511627776
instance (c : Ce) : Decidable (isC c) := inferInstanceAs (Decidable (_ ∧ _))

section
variable {w : World}
theorem boxed (w : World) (c : Ce) : (w.alloc (.cells (car c) 37)).cell? ⟨w.heap.size, 0, none⟩ = some (sv c.key) ∧ (w.alloc (.cells (car c) 37)).cell? ⟨w.heap.size, 1, none⟩ = some (sv c.val) ∧ (w.alloc (.cells (car c) 37)).cell? ⟨w.heap.size, 2, none⟩ = some (.bool c.del) ∧ (w.alloc (.cells (car c) 37)).cell? ⟨w.heap.size, 3, none⟩ = some (.int .i64 c.seq) :=
  ⟨Blk.cell (Blk.new w _ _) 0, Blk.cell (Blk.new w _ _) 1, Blk.cell (Blk.new w _ _) 2, Blk.cell (Blk.new w _ _) 3⟩
theorem boxed2 (w : World) (c d : Ce) : ((w.alloc (.cells (car c) 37)).alloc (.cells (car d) 37)).cell? ⟨w.heap.size, 0, none⟩ = some (sv c.key) ∧ ((w.alloc (.cells (car c) 37)).alloc (.cells (car d) 37)).cell? ⟨w.heap.size, 3, none⟩ = some (.int .i64 c.seq) ∧ ((w.alloc (.cells (car c) 37)).alloc (.cells (car d) 37)).cell? ⟨w.heap.size + 1, 0, none⟩ = some (sv d.key) ∧ ((w.alloc (.cells (car c) 37)).alloc (.cells (car d) 37)).cell? ⟨w.heap.size + 1, 3, none⟩ = some (.int .i64 d.seq) := by
  have h1 := (Blk.new w 37 (car c)).alloc (.cells (car d) 37)
  have h2 := Blk.new (w.alloc (.cells (car c) 37)) 37 (car d)
  rw [show (w.alloc (.cells (car c) 37)).heap.size = w.heap.size + 1 by simp] at h2
  exact ⟨Blk.cell h1 0, Blk.cell h1 3, Blk.cell h2 0, Blk.cell h2 3⟩
end

theorem less_self : ∀ (x : List UInt8), Op.bytesLess x x = false
  | [] => rfl
  | a :: x => by
    show (decide (a < a) || (a == a && Op.bytesLess x x)) = false
    rw [less_self x, decide_eq_false (by simp)]
    simp

set_option maxHeartbeats 4000000 in
theorem less_any {w : World} (a b : Ce) :
    Calls Tryd.prog 53 #[.agg (car a), .agg (car b)] w fun e w' => e = .returned (.bool (lessC a b)) ∧ Ext w w' := by
  obtain ⟨c0, c1, d0, d1⟩ := boxed2 w a b
  have hx : Ext w ((w.alloc (.cells (car a) 37)).alloc (.cells (car b) 37)) := ((Mod.refl _ w).alloc _).alloc _
  obtain ⟨w0, hw0⟩ : ∃ w0, w0 = (w.alloc (.cells (car a) 37)).alloc (.cells (car b) 37) := ⟨_, rfl⟩
  rw [← hw0] at c0 c1 d0 d1 hx
  replace hw0 := Lib.hid hw0
  unfold lessC
  by_cases hk : a.key = b.key
  · rw [if_pos hk]
    have hb : (a.key == b.key) = true := by rw [hk]; exact beq_self_eq_true _
    replace hk := Lib.hid hk
    go_enter Tryd.func53, Tryd.ntmps53
    go_upto_region 1 with fail
    rw [← hw0.out]
    go_wp2_with fail
    go_ret
    exact ⟨rfl, hx⟩
  · rw [if_neg hk]
    have hb : (a.key == b.key) = false := beq_eq_false_iff_ne.2 hk
    replace hk := Lib.hid hk
    go_enter Tryd.func53, Tryd.ntmps53
    go_upto_region 1 with fail
    rw [← hw0.out]
    go_wp2_with fail
    go_ret
    exact ⟨rfl, hx⟩

set_option maxHeartbeats 4000000 in
theorem rless_any {w : World} (a b : Ce) :
    Calls Tryd.prog 58 #[.agg (car a), .agg (car b)] w fun e w' => e = .returned (.bool (lessC a b)) ∧ Ext w w' := by
  obtain ⟨c0, c1, d0, d1⟩ := boxed2 w a b
  have hx : Ext w ((w.alloc (.cells (car a) 37)).alloc (.cells (car b) 37)) := ((Mod.refl _ w).alloc _).alloc _
  obtain ⟨w0, hw0⟩ : ∃ w0, w0 = (w.alloc (.cells (car a) 37)).alloc (.cells (car b) 37) := ⟨_, rfl⟩
  rw [← hw0] at c0 c1 d0 d1 hx
  replace hw0 := Lib.hid hw0
  unfold lessC
  by_cases hk : a.key = b.key
  · rw [if_pos hk]
    have hb : (a.key == b.key) = true := by rw [hk]; exact beq_self_eq_true _
    have hl : Op.bytesLess a.key b.key = false := by rw [hk]; exact less_self _
    replace hk := Lib.hid hk
    go_enter Tryd.func58, Tryd.ntmps58
    go_upto_region 1 with fail
    rw [← hw0.out]
    go_wp2_with fail
    go_ret
    exact ⟨rfl, hx⟩
  · rw [if_neg hk]
    have hb : (a.key == b.key) = false := beq_eq_false_iff_ne.2 hk
    replace hk := Lib.hid hk
    cases hl : Op.bytesLess a.key b.key
    all_goals (
      go_enter Tryd.func58, Tryd.ntmps58
      go_upto_region 1 with fail
      rw [← hw0.out]
      go_wp2_with fail
      go_ret
      exact ⟨rfl, hx⟩)

set_option maxHeartbeats 8000000 in
theorem is_any {w : World} (c : Ce) :
    Calls Tryd.prog 59 #[.agg (car c)] w fun e w' => e = .returned (.bool (decide (isC c))) ∧ Ext w w' := by
  obtain ⟨c0, c1, c2, c3⟩ := boxed w c
  have hx : Ext w (w.alloc (.cells (car c) 37)) := (Mod.refl _ w).alloc _
  obtain ⟨w0, hw0⟩ : ∃ w0, w0 = w.alloc (.cells (car c) 37) := ⟨_, rfl⟩
  rw [← hw0] at c0 c1 c2 c3 hx
  replace hw0 := Lib.hid hw0
  have hz1 := sv_size c.key
  have hz2 := sv_size c.val
  by_cases k1 : c.key.length < 1
  · have hb : decide ((c.key.length : Int) < 1) = true := dtrue (by omega)
    have hD : Hid (decide (isC c) = false) := Lib.hid (dfalse (fun h => by have := h.1; omega))
    clear k1
    go_enter Tryd.func59, Tryd.ntmps59
    go_upto_region 1 with fail
    rw [← hw0.out]
    go_wp2_with fail
    go_ret
    exact ⟨by rw [hD.out]; rfl, hx⟩
  have bk1 : decide ((c.key.length : Int) < 1) = false := dfalse (by omega)
  by_cases k2 : 4096 < c.key.length
  · have hb : decide ((4096 : Int) < (c.key.length : Int)) = true := dtrue (by omega)
    have hD : Hid (decide (isC c) = false) := Lib.hid (dfalse (fun h => by have := h.2.1; omega))
    clear k2
    go_enter Tryd.func59, Tryd.ntmps59
    go_upto_region 1 with fail
    rw [← hw0.out]
    go_wp2_with fail
    go_ret
    exact ⟨by rw [hD.out]; rfl, hx⟩
  have bk2 : decide ((4096 : Int) < (c.key.length : Int)) = false := dfalse (by omega)
  by_cases k3 : 16384 < c.val.length
  · have hb : decide ((16384 : Int) < (c.val.length : Int)) = true := dtrue (by omega)
    have hD : Hid (decide (isC c) = false) := Lib.hid (dfalse (fun h => by have := h.2.2.1; omega))
    clear k3
    go_enter Tryd.func59, Tryd.ntmps59
    go_upto_region 1 with fail
    rw [← hw0.out]
    go_wp2_with fail
    go_ret
    exact ⟨by rw [hD.out]; rfl, hx⟩
  have bk3 : decide ((16384 : Int) < (c.val.length : Int)) = false := dfalse (by omega)
  by_cases k4 : c.del = true ∧ c.val ≠ []
  · have hb : c.del = true := k4.1
    have hb2 : c.val.isEmpty = false := List.isEmpty_eq_false_iff.2 k4.2
    have hD : Hid (decide (isC c) = false) := Lib.hid (dfalse (fun h => k4.2 (h.2.2.2.1 k4.1)))
    clear k4
    go_enter Tryd.func59, Tryd.ntmps59
    go_upto_region 1 with fail
    rw [← hw0.out]
    go_wp2_with fail
    go_ret
    exact ⟨by rw [hD.out]; rfl, hx⟩
  have k5 : c.del = true → c.val.isEmpty = true := fun h => by
    rw [List.isEmpty_iff]
    exact Decidable.byContradiction fun hn => k4 ⟨h, hn⟩
  have hD : Hid (decide (isC c) = (decide (1 ≤ c.seq) && decide (c.seq ≤ 1099511627776))) := Lib.hid (by
    rw [Bool.eq_iff_iff, Bool.and_eq_true, decide_eq_true_eq, decide_eq_true_eq, decide_eq_true_eq]
    exact ⟨fun h => ⟨h.2.2.2.2.1, h.2.2.2.2.2⟩, fun h => ⟨by omega, by omega, by omega, fun hd => List.isEmpty_iff.1 (k5 hd), h.1, h.2⟩⟩)
  clear k4 k1 k2 k3
  cases hq : decide (1 ≤ c.seq)
  all_goals (
    rw [hq] at hD
    cases hd : c.del
    · clear k5
      go_enter Tryd.func59, Tryd.ntmps59
      go_upto_region 1 with fail
      rw [← hw0.out]
      go_wp2_with fail
      go_ret
      exact ⟨by rw [hD.out]; rfl, hx⟩
    · have hv := k5 hd
      clear k5
      go_enter Tryd.func59, Tryd.ntmps59
      go_upto_region 1 with fail
      rw [← hw0.out]
      go_wp2_with fail
      go_ret
      exact ⟨by rw [hD.out]; rfl, hx⟩)
set_option maxHeartbeats 8000000 in
theorem ris_any {w : World} (c : Ce) :
    Calls Tryd.prog 57 #[.agg (car c)] w fun e w' => e = .returned (.bool (decide (isC c))) ∧ Ext w w' := by
  obtain ⟨c0, c1, c2, c3⟩ := boxed w c
  have hx : Ext w (w.alloc (.cells (car c) 37)) := (Mod.refl _ w).alloc _
  obtain ⟨w0, hw0⟩ : ∃ w0, w0 = w.alloc (.cells (car c) 37) := ⟨_, rfl⟩
  rw [← hw0] at c0 c1 c2 c3 hx
  replace hw0 := Lib.hid hw0
  have hz1 := sv_size c.key
  have hz2 := sv_size c.val
  by_cases k1 : c.key.length < 1
  · have hb : decide ((1 : Int) ≤ (c.key.length : Int)) = false := dfalse (by omega)
    have hD : Hid (decide (isC c) = false) := Lib.hid (dfalse (fun h => by have := h.1; omega))
    clear k1
    go_enter Tryd.func57, Tryd.ntmps57
    go_upto_region 1 with fail
    rw [← hw0.out]
    go_wp2_with fail
    go_ret
    exact ⟨by rw [hD.out]; rfl, hx⟩
  have bk1 : decide ((1 : Int) ≤ (c.key.length : Int)) = true := dtrue (by omega)
  by_cases k2 : 4096 < c.key.length
  · have hb : decide ((c.key.length : Int) ≤ 4096) = false := dfalse (by omega)
    have hD : Hid (decide (isC c) = false) := Lib.hid (dfalse (fun h => by have := h.2.1; omega))
    clear k2
    go_enter Tryd.func57, Tryd.ntmps57
    go_upto_region 1 with fail
    rw [← hw0.out]
    go_wp2_with fail
    go_ret
    exact ⟨by rw [hD.out]; rfl, hx⟩
  have bk2 : decide ((c.key.length : Int) ≤ 4096) = true := dtrue (by omega)
  by_cases k3 : 16384 < c.val.length
  · have hb : decide ((c.val.length : Int) ≤ 16384) = false := dfalse (by omega)
    have hD : Hid (decide (isC c) = false) := Lib.hid (dfalse (fun h => by have := h.2.2.1; omega))
    clear k3
    go_enter Tryd.func57, Tryd.ntmps57
    go_upto_region 1 with fail
    rw [← hw0.out]
    go_wp2_with fail
    go_ret
    exact ⟨by rw [hD.out]; rfl, hx⟩
  have bk3 : decide ((c.val.length : Int) ≤ 16384) = true := dtrue (by omega)
  by_cases k4 : c.del = true ∧ c.val ≠ []
  · have hb : c.del = true := k4.1
    have hb2 : c.val.isEmpty = false := List.isEmpty_eq_false_iff.2 k4.2
    have hD : Hid (decide (isC c) = false) := Lib.hid (dfalse (fun h => k4.2 (h.2.2.2.1 k4.1)))
    clear k4
    go_enter Tryd.func57, Tryd.ntmps57
    go_upto_region 1 with fail
    rw [← hw0.out]
    go_wp2_with fail
    go_ret
    exact ⟨by rw [hD.out]; rfl, hx⟩
  have k5 : c.del = true → c.val.isEmpty = true := fun h => by
    rw [List.isEmpty_iff]
    exact Decidable.byContradiction fun hn => k4 ⟨h, hn⟩
  have hD : Hid (decide (isC c) = (decide (1 ≤ c.seq) && decide (c.seq ≤ 1099511627776))) := Lib.hid (by
    rw [Bool.eq_iff_iff, Bool.and_eq_true, decide_eq_true_eq, decide_eq_true_eq, decide_eq_true_eq]
    exact ⟨fun h => ⟨h.2.2.2.2.1, h.2.2.2.2.2⟩, fun h => ⟨by omega, by omega, by omega, fun hd => List.isEmpty_iff.1 (k5 hd), h.1, h.2⟩⟩)
  clear k4 k1 k2 k3
  cases hq : decide (1 ≤ c.seq)
  all_goals (
    rw [hq] at hD
    cases hd : c.del
    · clear k5
      go_enter Tryd.func57, Tryd.ntmps57
      go_upto_region 1 with fail
      rw [← hw0.out]
      go_wp2_with fail
      go_ret
      exact ⟨by rw [hD.out]; rfl, hx⟩
    · have hv := k5 hd
      clear k5
      go_enter Tryd.func57, Tryd.ntmps57
      go_upto_region 1 with fail
      rw [← hw0.out]
      go_wp2_with fail
      go_ret
      exact ⟨by rw [hD.out]; rfl, hx⟩)

end Go.Proofs.YthohghnfiicndaaDoor
namespace Go.Proofs.YthohghnfiicndaaDoor
open Go.RowKit
set_option maxRecDepth 100000

theorem beq_lit (c x : UInt8) : ((c.toNat : Int) == (x.toNat : Int)) = decide (c = x) := by
  rw [Bool.eq_iff_iff, beq_iff_eq, decide_eq_true_eq, ← UInt8.toNat_inj]; omega
theorem eqInC (w : World) (a b : Ce) : (Op.equalIn 10000 37 (.agg (car a)) (.agg (car b))).run Tryd.prog w = .ok (decide (a = b)) w := by
  rw [run_equalIn_agg w 9999 37 _ _ (by kernel_rfl) (by kernel_rfl)]
  simp only [Program.fieldsOf, Tryd.underlying37]
  obtain ⟨a1, a2, a3, a4⟩ := a
  obtain ⟨b1, b2, b3, b4⟩ := b
  have hd : decide ((⟨a1, a2, a3, a4⟩ : Ce) = ⟨b1, b2, b3, b4⟩) = (decide (a1 = b1) && (decide (a2 = b2) && (decide (a3 = b3) && decide (a4 = b4)))) := by
    rw [Bool.eq_iff_iff]; simp
  rw [hd]
  by_cases h1 : a1 = b1 <;> by_cases h2 : a2 = b2 <;> by_cases h3 : a3 = b3 <;> by_cases h4 : a4 = b4 <;>
    simp [Op.eqFields, part, go_sem, run_equalIn_string w _ 9 _ _ Tryd.underlying9, run_equalIn_bool' w _ 4 _ _ Tryd.underlying4, run_equalIn_int w _ 3 .i64 .i64 _ _ Tryd.underlying3, h1, h2, h3, h4]
theorem eqC (w : World) (a b : Ce) : (binOp .eql 37 (.agg (car a)) (.agg (car b))).run Tryd.prog w = .ok (.bool (decide (a = b))) w := by
  rw [run_eql_struct, eqInC]; rfl
theorem neqC (w : World) (a b : Ce) : (binOp .neq 37 (.agg (car a)) (.agg (car b))).run Tryd.prog w = .ok (.bool (!decide (a = b))) w := by
  rw [run_neq_struct, eqInC]; rfl
theorem guardC (w : World) (op : BinOp) (x y : Operand) (xs ys : Array Value) : (eqGuard op 37 x y (.agg xs) (.agg ys)).run Tryd.prog w = .ok () w :=
  run_eqGuard_agg w op _ x y xs ys (by kernel_rfl)

/-- How many bytes two texts have in common, from the first on. -/
def comm : List UInt8 → List UInt8 → Nat
  | a :: x, b :: y => if a = b then comm x y + 1 else 0
  | _, _ => 0
theorem comm_stop : ∀ {a b : List UInt8} {k : Nat}, k ≤ a.length → k ≤ b.length → a.take k = b.take k → (k = a.length ∨ k = b.length ∨ ∃ (h1 : k < a.length) (h2 : k < b.length), a[k] ≠ b[k]) → comm a b = k
  | [], b, k, h, _, _, _ => by
    obtain rfl : k = 0 := Nat.le_zero.1 h
    cases b <;> rfl
  | a :: x, [], k, _, h, _, _ => by
    obtain rfl : k = 0 := Nat.le_zero.1 h
    rfl
  | a :: x, b :: y, 0, _, _, _, h => by
    rcases h with h | h | ⟨h1, h2, h⟩
    · cases h
    · cases h
    · show (if a = b then comm x y + 1 else 0) = 0
      have h' : a ≠ b := h
      rw [if_neg h']
  | a :: x, b :: y, k + 1, h1, h2, ht, h => by
    rw [List.take_succ_cons, List.take_succ_cons] at ht
    injection ht with hab ht
    show (if a = b then comm x y + 1 else 0) = k + 1
    rw [if_pos hab, comm_stop (k := k) (Nat.le_of_succ_le_succ h1) (Nat.le_of_succ_le_succ h2) ht]
    rcases h with h | h | ⟨g1, g2, h⟩
    · exact .inl (Nat.succ.inj h)
    · exact .inr (.inl (Nat.succ.inj h))
    · exact .inr (.inr ⟨Nat.lt_of_succ_lt_succ g1, Nat.lt_of_succ_lt_succ g2, h⟩)
theorem comm_le : ∀ (a b : List UInt8), comm a b ≤ a.length ∧ comm a b ≤ b.length
  | [], b => by cases b <;> exact ⟨Nat.le_refl _, Nat.zero_le _⟩
  | a :: x, [] => ⟨Nat.zero_le _, Nat.le_refl _⟩
  | a :: x, b :: y => by
    show (if a = b then comm x y + 1 else 0) ≤ _ ∧ (if a = b then comm x y + 1 else 0) ≤ _
    have := comm_le x y
    split
    · exact ⟨Nat.succ_le_succ this.1, Nat.succ_le_succ this.2⟩
    · exact ⟨Nat.zero_le _, Nat.zero_le _⟩

set_option maxHeartbeats 4000000 in
theorem alike_any {w : World} (a b : List UInt8) (ha : a.length ≤ 140737488351232) (hb : b.length ≤ 140737488351232) :
    Calls Tryd.prog 81 #[sv a, sv b] w fun e w' => e = .returned (.int .i64 (comm a b : Nat)) ∧ Ext w w' := by
  have hza := sv_size a
  have hzb := sv_size b
  go_enter Tryd.func81, Tryd.ntmps81
  go_wp2_with fail
  go_loopw [5] (fun i wr => ∃ k : Nat, k ≤ a.length ∧ k ≤ b.length ∧ i = .int .i64 k ∧ Hid (a.take k = b.take k) ∧ Ext w wr) (fun i _ => a.length - (intOf i).toNat)
  case atStart => exact ⟨0, Nat.zero_le _, Nat.zero_le _, rfl, Lib.hid (by simp), Mod.refl _ _⟩
  case round =>
    obtain ⟨k, hka, hkb, rfl, ht, hx⟩ := hrel
    have hi0 : (0 : Int) ≤ (k : Int) := by omega
    by_cases h1 : k < a.length
    case neg =>
      have q1 : decide ((k : Int) < (a.length : Int)) = false := dfalse (by omega)
      have hE : Hid (comm a b = k) := Lib.hid (comm_stop hka hkb ht.out (.inl (by omega)))
      go_wp2_with fail
      go_quiet (fail)
      go_wp2_with fail
      go_ret
      exact ⟨by rw [hE.out]; rfl, hx.drewN _⟩
    have q1 : decide ((k : Int) < (a.length : Int)) = true := dtrue (by omega)
    by_cases h2 : k < b.length
    case neg =>
      have q2 : decide ((k : Int) < (b.length : Int)) = false := dfalse (by omega)
      have hE : Hid (comm a b = k) := Lib.hid (comm_stop hka hkb ht.out (.inr (.inl (by omega))))
      go_wp2_with fail
      go_quiet (fail)
      go_wp2_with fail
      go_ret
      exact ⟨by rw [hE.out]; rfl, hx.drewN _⟩
    have q2 : decide ((k : Int) < (b.length : Int)) = true := dtrue (by omega)
    have hi1 : (k : Int) < (a.length : Int) := by omega
    have hi2 : (k : Int) < (b.length : Int) := by omega
    obtain ⟨c, hc⟩ : ∃ c, c = a[k] := ⟨_, rfl⟩
    obtain ⟨d, hd⟩ : ∃ d, d = b[k] := ⟨_, rfl⟩
    have hg : ∀ h', (⟨a.toArray⟩ : ByteArray)[k]'h' = c := fun h' => (sv_get a k h1 h').trans hc.symm
    have hg2 : ∀ h', (⟨b.toArray⟩ : ByteArray)[k]'h' = d := fun h' => (sv_get b k h2 h').trans hd.symm
    have hq : ((c.toNat : Int) == (d.toNat : Int)) = decide (c = d) := beq_lit c d
    by_cases hcd : c = d
    · rw [dtrue hcd] at hq
      have ht2 := Lib.hid (take_next h1 h2 ht.out (by rw [← hc, ← hd]; exact hcd))
      clear hc hd hcd ht
      go_wp2_with fail
      go_quiet (fail)
      go_wp2_with fail
      exact ⟨⟨k + 1, by omega, by omega, by go_num, ht2, hx.drewN _⟩, by simp [intOf] <;> omega⟩
    · rw [dfalse hcd] at hq
      have hE : Hid (comm a b = k) := Lib.hid (comm_stop hka hkb ht.out (.inr (.inr ⟨h1, h2, by rw [← hc, ← hd]; exact hcd⟩)))
      clear hcd hd hc
      go_wp2_with fail
      go_quiet (fail)
      go_wp2_with fail
      go_ret
      exact ⟨by rw [hE.out]; rfl, hx.drewN _⟩

set_option maxHeartbeats 4000000 in
theorem common_any {w : World} (a b : List UInt8) (ha : a.length ≤ 140737488351232) (hb : b.length ≤ 140737488351232) :
    Calls Tryd.prog 67 #[sv a, sv b] w fun e w' => e = .returned (.int .i64 (comm a b : Nat)) ∧ Ext w w' := by
  have hza := sv_size a
  have hzb := sv_size b
  go_enter Tryd.func67, Tryd.ntmps67
  go_wp2_with fail
  go_loopw [5] (fun i wr => ∃ k : Nat, k ≤ a.length ∧ k ≤ b.length ∧ i = .int .i64 k ∧ Hid (a.take k = b.take k) ∧ Ext w wr) (fun i _ => a.length - (intOf i).toNat)
  case atStart => exact ⟨0, Nat.zero_le _, Nat.zero_le _, rfl, Lib.hid (by simp), Mod.refl _ _⟩
  case round =>
    obtain ⟨k, hka, hkb, rfl, ht, hx⟩ := hrel
    have hi0 : (0 : Int) ≤ (k : Int) := by omega
    by_cases h1 : k < a.length
    case neg =>
      have q1 : decide ((k : Int) < (a.length : Int)) = false := dfalse (by omega)
      have hE : Hid (comm a b = k) := Lib.hid (comm_stop hka hkb ht.out (.inl (by omega)))
      go_wp2_with fail
      go_quiet (fail)
      go_wp2_with fail
      go_ret
      exact ⟨by rw [hE.out]; rfl, hx.drewN _⟩
    have q1 : decide ((k : Int) < (a.length : Int)) = true := dtrue (by omega)
    by_cases h2 : k < b.length
    case neg =>
      have q2 : decide ((k : Int) < (b.length : Int)) = false := dfalse (by omega)
      have hE : Hid (comm a b = k) := Lib.hid (comm_stop hka hkb ht.out (.inr (.inl (by omega))))
      go_wp2_with fail
      go_quiet (fail)
      go_wp2_with fail
      go_ret
      exact ⟨by rw [hE.out]; rfl, hx.drewN _⟩
    have q2 : decide ((k : Int) < (b.length : Int)) = true := dtrue (by omega)
    have hi1 : (k : Int) < (a.length : Int) := by omega
    have hi2 : (k : Int) < (b.length : Int) := by omega
    obtain ⟨c, hc⟩ : ∃ c, c = a[k] := ⟨_, rfl⟩
    obtain ⟨d, hd⟩ : ∃ d, d = b[k] := ⟨_, rfl⟩
    have hg : ∀ h', (⟨a.toArray⟩ : ByteArray)[k]'h' = c := fun h' => (sv_get a k h1 h').trans hc.symm
    have hg2 : ∀ h', (⟨b.toArray⟩ : ByteArray)[k]'h' = d := fun h' => (sv_get b k h2 h').trans hd.symm
    have hq : ((c.toNat : Int) == (d.toNat : Int)) = decide (c = d) := beq_lit c d
    by_cases hcd : c = d
    · rw [dtrue hcd] at hq
      have ht2 := Lib.hid (take_next h1 h2 ht.out (by rw [← hc, ← hd]; exact hcd))
      clear hc hd hcd ht
      go_wp2_with fail
      go_quiet (fail)
      go_wp2_with fail
      exact ⟨⟨k + 1, by omega, by omega, by go_num, ht2, hx.drewN _⟩, by simp [intOf] <;> omega⟩
    · rw [dfalse hcd] at hq
      have hE : Hid (comm a b = k) := Lib.hid (comm_stop hka hkb ht.out (.inr (.inr ⟨h1, h2, by rw [← hc, ← hd]; exact hcd⟩)))
      clear hcd hd hc
      go_wp2_with fail
      go_quiet (fail)
      go_wp2_with fail
      go_ret
      exact ⟨by rw [hE.out]; rfl, hx.drewN _⟩

set_option maxHeartbeats 4000000 in
theorem size_any {w : World} (c : Ce) (hf : CFits c) :
    Calls Tryd.prog 60 #[.agg (car c)] w fun e w' => e = .returned (.int .i64 (c.key.length + c.val.length + 16 : Nat)) ∧ Ext w w' := by
  obtain ⟨c0, c1, _, _⟩ := boxed w c
  obtain ⟨hf1, hf2⟩ := hf
  have hx : Ext w (w.alloc (.cells (car c) 37)) := (Mod.refl _ w).alloc _
  obtain ⟨w0, hw0⟩ : ∃ w0, w0 = w.alloc (.cells (car c) 37) := ⟨_, rfl⟩
  rw [← hw0] at c0 c1 hx
  replace hw0 := Lib.hid hw0
  have hz1 := sv_size c.key
  have hz2 := sv_size c.val
  go_enter Tryd.func60, Tryd.ntmps60
  go_upto_region 1 with fail
  rw [← hw0.out]
  go_wp2_with fail
  go_ret
  exact ⟨by rw [Int.natCast_add, Int.natCast_add]; rfl, hx⟩
set_option maxHeartbeats 4000000 in
theorem rsize_any {w : World} (c : Ce) (hf : CFits c) :
    Calls Tryd.prog 56 #[.agg (car c)] w fun e w' => e = .returned (.int .i64 (c.key.length + c.val.length + 16 : Nat)) ∧ Ext w w' := by
  obtain ⟨c0, c1, _, _⟩ := boxed w c
  obtain ⟨hf1, hf2⟩ := hf
  have hx : Ext w (w.alloc (.cells (car c) 37)) := (Mod.refl _ w).alloc _
  obtain ⟨w0, hw0⟩ : ∃ w0, w0 = w.alloc (.cells (car c) 37) := ⟨_, rfl⟩
  rw [← hw0] at c0 c1 hx
  replace hw0 := Lib.hid hw0
  have hz1 := sv_size c.key
  have hz2 := sv_size c.val
  go_enter Tryd.func56, Tryd.ntmps56
  go_upto_region 1 with fail
  rw [← hw0.out]
  go_wp2_with fail
  go_ret
  exact ⟨by rw [Int.natCast_add, Int.natCast_add]; rfl, hx⟩

/-- How heavy cells are. -/
def wC (L : List Ce) : Nat := (L.map fun c => 1 + c.key.length + c.val.length).sum
theorem wC_cons (a : Ce) (L : List Ce) : wC (a :: L) = 1 + a.key.length + a.val.length + wC L := by simp [wC]
theorem wC_append (L M : List Ce) : wC (L ++ M) = wC L + wC M := by simp [wC]
theorem wC_snoc (L : List Ce) {k : Nat} (h : k < L.length) : wC (L.take (k + 1)) = wC (L.take k) + (1 + L[k].key.length + L[k].val.length) := by
  rw [List.take_succ_eq_append_getElem h, wC_append, wC_cons]; simp [wC]
theorem wC_take (L : List Ce) (k : Nat) : wC (L.take k) ≤ wC L := by
  have := wC_append (L.take k) (L.drop k)
  rw [List.take_append_drop] at this; omega
theorem wC_len (L : List Ce) : L.length ≤ wC L := by
  induction L with
  | nil => simp
  | cons a L ih => rw [wC_cons, List.length_cons]; omega
theorem wC_mem {L : List Ce} {a : Ce} (h : a ∈ L) : 1 + a.key.length + a.val.length ≤ wC L := by
  induction L with
  | nil => cases h
  | cons b L ih =>
    rw [wC_cons]
    rcases List.mem_cons.1 h with rfl | h
    · omega
    · have := ih h; omega
def LFits (L : List Ce) : Prop := (∀ c ∈ L, CFits c) ∧ L.length * 48 ≤ 140737488351232
theorem LFits.at_ {L : List Ce} (h : LFits L) {k : Nat} (hk : k < L.length) : L[k].key.length ≤ 140737488351232 ∧ L[k].val.length ≤ 140737488351232 := h.1 _ (List.getElem_mem _)
theorem lfits_of {L : List Ce} (h : wC L ≤ 1000000000) : LFits L := ⟨fun c hc => by have := wC_mem hc; exact ⟨by omega, by omega⟩, by have := wC_len L; omega⟩

set_option maxHeartbeats 4000000 in
theorem heavy8_any {w : World} {S : Nat → Prop} {v : Value} {L : List Ce} (h : Cs w S v L) (hf : LFits L) :
    Calls Tryd.prog 10 #[v] w fun e w' => ∃ q : Bool, e = .returned (.bool q) ∧ (q = false → wC L ≤ 6000 ∧ L.length ≤ 201) ∧ Ext w w' := by
  have hl := hf.2
  obtain ⟨A, c, rfl, h1, h2, h3, h4⟩ := h.open_ cel_len
  go_enter Tryd.func10, Tryd.ntmps10
  go_wp2_with fail
  go_loopw [3, 4] (fun n i wr => ∃ k : Nat, k ≤ L.length ∧ i = .int .i64 k ∧ n = .int .i64 (wC (L.take k) : Nat) ∧ Hid (wC (L.take k) ≤ 6000 ∧ k ≤ 201) ∧ Ext w wr) (fun _ i _ => L.length - (intOf i).toNat)
  case atStart => exact ⟨0, by omega, rfl, rfl, Lib.hid (by simp [wC]), Mod.refl _ _⟩
  case round =>
    obtain ⟨k, hk, rfl, rfl, hw0, hxr⟩ := hrel
    by_cases hlt : k < L.length
    · have hbl : decide ((k : Int) < (L.length : Int)) = true := dtrue (by omega)
      obtain ⟨ad, hA, hS, c0, c1, _, _⟩ := Cs.at_ (h4.ext hxr) hlt
      subst hA
      obtain ⟨k1, k2⟩ := hf.at_ hlt
      have hsn := wC_snoc L hlt
      obtain ⟨hw, hk2⟩ := hw0.out
      have hi0 : (0 : Int) ≤ (k : Int) := by omega
      have hi1 : (k : Int) < (L.length : Int) := by omega
      generalize L[k] = x at *
      generalize wC (L.take k) = n at *
      have hz1 := sv_size x.key
      have hz2 := sv_size x.val
      have hdw : ∀ m, Ext w (wr.drewN m) := fun m => hxr.drewN m
      by_cases hgt : 6000 < n + 1 + x.key.length + x.val.length
      · have hbg : decide ((6000 : Int) < (n : Int) + 1 + (x.key.length : Int) + (x.val.length : Int)) = true := dtrue (by omega)
        go_wp2_with fail
        go_quiet (fail)
        go_wp2_with fail
        go_ret
        exact ⟨true, rfl, by simp, hdw _⟩
      · have hbg : decide ((6000 : Int) < (n : Int) + 1 + (x.key.length : Int) + (x.val.length : Int)) = false := dfalse (by omega)
        by_cases hk3 : 200 < k
        · have hbk : decide ((200 : Int) < (k : Int)) = true := dtrue (by omega)
          replace hsn := Lib.hid hsn
          go_wp2_with fail
          go_quiet (fail)
          go_wp2_with fail
          go_ret
          exact ⟨true, rfl, by simp, hdw _⟩
        · have hbk : decide ((200 : Int) < (k : Int)) = false := dfalse (by omega)
          replace hsn := Lib.hid hsn
          go_wp2_with fail
          go_quiet (fail)
          go_wp2_with fail
          exact ⟨⟨k + 1, by omega, by go_num, by rw [hsn.out]; congr 1; omega, Lib.hid (by rw [hsn.out]; omega), hdw _⟩, by simp [intOf] <;> omega⟩
    · have hbl : decide ((k : Int) < (L.length : Int)) = false := dfalse (by omega)
      have hw2 : wC L ≤ 6000 ∧ L.length ≤ 201 := by
        have := hw0.out
        rw [List.take_of_length_le (by omega)] at this
        exact ⟨this.1, by omega⟩
      replace hw2 := Lib.hid hw2
      go_wp2_with fail
      go_ret
      exact ⟨false, rfl, fun _ => hw2.out, hxr⟩

set_option maxHeartbeats 4000000 in
theorem cells8_free {w : World} {S S' : Nat → Prop} {v v' : Value} {L M : List Ce} (h : Cs w S v L) (h' : Cs w S' v' M) :
    Calls Tryd.prog 18 #[v, v'] w fun e w' => e = .returned (.bool (decide (L = M))) ∧ Ext w w' := by
  obtain ⟨A, c, rfl, h1, h2, h3, h4⟩ := h.open_ cel_len
  obtain ⟨B, d, rfl, j1, j2, j3, j4⟩ := h'.open_ cel_len
  by_cases hl : L.length = M.length
  case neg =>
    have hb : ((L.length : Int) != (M.length : Int)) = true := by rw [bne_iff_ne]; omega
    go_enter Tryd.func18, Tryd.ntmps18
    go_wp2_with fail
    go_ret
    exact ⟨by rw [dfalse (fun h => hl (by rw [h]))]; rfl, Mod.refl _ _⟩
  have hb : ((L.length : Int) != (M.length : Int)) = false := by rw [bne_eq_false_iff_eq]; omega
  replace hl := Lib.hid hl
  go_enter Tryd.func18, Tryd.ntmps18
  go_wp2_with fail
  go_loopw [5] (fun i wr => ∃ k : Nat, k ≤ L.length ∧ i = .int .i64 k ∧ Hid (L.take k = M.take k) ∧ Ext w wr) (fun i _ => L.length - (intOf i).toNat)
  case atStart => exact ⟨0, Nat.zero_le _, rfl, Lib.hid (by simp), Mod.refl _ _⟩
  case round =>
    obtain ⟨k, hk, rfl, hs, q3⟩ := hrel
    by_cases hlt : k < L.length
    case neg =>
      have hbl : decide ((k : Int) < (L.length : Int)) = false := dfalse (by omega)
      have hres : L = M := by
        have := hs.out
        rwa [List.take_of_length_le (by omega), List.take_of_length_le (by have := hl.out; omega)] at this
      replace hres := Lib.hid hres
      go_wp2_with fail
      go_ret
      exact ⟨by rw [dtrue hres.out]; rfl, q3⟩
    have hbl : decide ((k : Int) < (L.length : Int)) = true := dtrue (by omega)
    have hlm : k < M.length := by have := hl.out; omega
    obtain ⟨ad, hA, hS, c0, c1, c2, c3⟩ := Cs.at_ (h4.ext q3) hlt
    subst hA
    obtain ⟨bd, hB, hT, d0, d1, d2, d3⟩ := Cs.at_ (j4.ext q3) hlm
    subst hB
    have hsn : L.take (k + 1) = M.take (k + 1) ↔ L[k] = M[k] := by
      rw [List.take_succ_eq_append_getElem hlt, List.take_succ_eq_append_getElem hlm, hs.out]
      exact ⟨fun h => List.singleton_inj.1 (List.append_cancel_left h), fun h => by rw [h]⟩
    have hno : L[k] ≠ M[k] → L ≠ M := fun hn he => hn (by subst he; rfl)
    have hi0 : (0 : Int) ≤ (k : Int) := by omega
    have hi1 : (k : Int) < (L.length : Int) := by omega
    have hi2 : (k : Int) < (M.length : Int) := by omega
    generalize L[k] = x at *
    generalize M[k] = y at *
    have hgu := fun wx a b => guardC wx .neq a b (car x) (car y)
    have hdw : ∀ m, Ext w (wr.drewN m) := fun m => q3.drewN m
    by_cases hxy : x = y
    · have hs2 := Lib.hid (hsn.2 hxy)
      have hne : ∀ wx, (binOp .neq 37 (.agg (car x)) (.agg (car y))).run Tryd.prog wx = .ok (.bool false) wx := fun wx => by rw [neqC, dtrue hxy]; rfl
      clear hsn hno hxy
      go_wp2_with fail
      go_quiet (fail)
      go_wp2_with fail
      exact ⟨⟨k + 1, by omega, by go_num, hs2, hdw _⟩, by simp [intOf] <;> omega⟩
    · have hne : ∀ wx, (binOp .neq 37 (.agg (car x)) (.agg (car y))).run Tryd.prog wx = .ok (.bool true) wx := fun wx => by rw [neqC, dfalse hxy]; rfl
      have hno2 := Lib.hid (hno hxy)
      clear hsn hno hxy
      go_wp2_with fail
      go_quiet (fail)
      go_wp2_with fail
      go_ret
      exact ⟨by rw [dfalse hno2.out]; rfl, hdw _⟩
theorem cells8_any {w : World} {S S' : Nat → Prop} {v v' : Value} {L M : List Ce} (h : Cs w S v L) (h' : Cs w S' v' M) (hf : L.length * 48 ≤ 140737488351232) :
    Calls Tryd.prog 18 #[v, v'] w fun e w' => e = .returned (.bool (decide (L = M))) ∧ Ext w w' := cells8_free h h'
end Go.Proofs.YthohghnfiicndaaDoor
namespace Go.Proofs.YthohghnfiicndaaDoor
open Go.RowKit
set_option maxRecDepth 100000

section
variable {P : Program} {w : World} {src dst e : TypeId} {ops : Array Oper} {rest : List Oper} {o : Oper} {a : Act} {Q : Exit → Act → World → Prop}
theorem run_tob (hs : P.underlying src = some .string) (hd : P.underlying dst = some (.slice e)) (he : P.underlying e = some (.int .u8)) (l : List UInt8) (hm : l.length ≤ maxLen) :
    ∃ c w', (convert src dst (sv l)).run P w = .ok (.slice (some ⟨w.heap.size, 0, none⟩) l.length c) w' ∧ Bs w' (fun k => k = w.heap.size) (.slice (some ⟨w.heap.size, 0, none⟩) l.length c) l ∧ Ext w w' ∧ w'.heap.size = w.heap.size + 1 := by
  have hsz : (⟨l.toArray⟩ : ByteArray).size = l.length := by
    show l.toArray.size = l.length
    simp
  have hrun := run_bytes_of_string (P := P) w src dst e ⟨l.toArray⟩ hs hd he
  have hge := grownCap_ge w (⟨l.toArray⟩ : ByteArray).size 0 e
  have hle := grownCap_le_maxLen w (⟨l.toArray⟩ : ByteArray).size 0 e (by rw [hsz]; exact hm)
  rw [hsz] at hrun hge hle
  generalize grownCap w l.length 0 e = c at *
  obtain ⟨fr, hfr⟩ : ∃ fr, fr = ((bytesRow ⟨l.toArray⟩ c).size, (bytesRow ⟨l.toArray⟩ c).size + 1) := ⟨_, rfl⟩
  rw [← hfr] at hrun
  refine ⟨c, _, hrun, ⟨some ⟨w.heap.size, 0, none⟩, c, by simp, by simpa using hge, hle, by simp, fun j u hu => ⟨_, rfl, rfl, ?_⟩⟩, ((Mod.refl _ w).drew).alloc _, by simp⟩
  rw [add_lit, cell_of_row (w.drew.alloc (.cells (bytesRow ⟨l.toArray⟩ c) e fr)) w.heap.size j _ e fr (heap_alloc_new w.drew _)]
  have hj : j < l.length := by
    have := (List.getElem?_eq_some_iff.1 hu).1
    simpa using this
  have hu2 : u = bv l[j] := by
    rw [List.getElem?_map, List.getElem?_eq_getElem hj] at hu
    exact (Option.some.inj hu).symm
  rw [hu2]
  simp [bytesRow, Array.getElem?_append, hj]
/-- []byte(s). -/
theorem wp_tob (hs : P.underlying src = some .string) (hd : P.underlying dst = some (.slice e)) (he : P.underlying e = some (.int .u8)) {l : List UInt8} (hm : l.length ≤ 1000000000)
    (hgd : o.guard = none) (s : Operand) (ho : o.op = .convert src dst s) (hv : a.eval s = sv l)
    (h : ∀ c w', Bs w' (fun k => k = w.heap.size) (.slice (some ⟨w.heap.size, 0, none⟩) l.length c) l → Ext w w' → w'.heap.size = w.heap.size + 1 → wpList P ops Q rest (a.put o.dst (.slice (some ⟨w.heap.size, 0, none⟩) l.length c)) w') : wpList P ops Q (o :: rest) a w := by
  refine wpList_plain hgd fun K hK => ?_
  obtain ⟨c, w', hrun, h2, h3, h4⟩ := run_tob (P := P) (w := w) hs hd he l (by simp only [maxLen]; omega)
  unfold Oper.wp execOp
  simp only [ho, hv, Sem.run_bind, Sem.run_pure, Result.andThen_ok, hrun]
  exact hK _ _ (h c w' h2 h3 h4)
end
end Go.Proofs.YthohghnfiicndaaDoor
namespace Go.Proofs.YthohghnfiicndaaDoor
open Go.RowKit
set_option maxRecDepth 100000

/-- A cell as bytes, the key ahead being known. -/
def encC (ahead : List UInt8) (c : Ce) : List UInt8 :=
  enc7 (comm ahead c.key) ++ (enc7 (c.key.drop (comm ahead c.key)).length ++ c.key.drop (comm ahead c.key)) ++ enc7 (clamp c.seq) ++ (if c.del then enc7 1 else enc7 0 ++ (enc7 c.val.length ++ c.val))

/-- A cell is being laid: what stands at wi, when the call began at w. -/
structure Ly (w : World) (b : Nat) (v : Value) (c : Ce) (wi : World) (vi : Value) (li : List UInt8) : Prop where
  wr : Wr wi b vi li
  md : Mod (wrF b v) w wi
  nx : Next w.heap.size v vi
  bx : Blk wi w.heap.size 37 (car c)
  lt : b < w.heap.size
  ov : ∀ k, v.ownBlock = some k → k < w.heap.size
section
variable {w wi wj wk : World} {b : Nat} {v vi vk : Value} {c : Ce} {li lk : List UInt8}
theorem Ly.ext (h : Ly w b v c wi vi li) (hx : Ext wi wj) : Ly w b v c wj vi li := ⟨h.wr.mod hx (fun h => h) (fun _ _ h => h), h.md.then_ hx (fun _ _ h => h.elim), h.nx, h.bx.mod hx (fun h => h), h.lt, h.ov⟩
theorem Ly.offbox (h : Ly w b v c wi vi li) : ¬ wrF b vi w.heap.size := by
  rintro (h1 | h1)
  · have := h.lt; omega
  · rcases h.nx with h2 | h2
    · rw [h2] at h1; have := h.ov _ h1; omega
    · have := h.wr.row.ne_blk h.bx (by decide)
      exact this h1
theorem Ly.off (h : Ly w b v c wi vi li) {k : Nat} (hk : wi.heap.size ≤ k) : ¬ wrF b vi k := by
  rintro (h1 | h1)
  · have := h.lt; have := h.md.size; omega
  · have := h.wr.row.lt h1; omega
theorem Ly.call (h : Ly w b v c wi vi li) (g : Wr wk b vk lk) (m : Mod (wrF b vi) wi wk) (n : Next wi.heap.size vi vk) : Ly w b v c wk vk lk :=
  ⟨g, h.md.then_ m (fun k hk hh => wrF_sub h.nx k hk hh), h.nx.trans n h.md.size, h.bx.mod m h.offbox, h.lt, h.ov⟩
end
theorem ext_tail (l : List UInt8) (n : Nat) : Value.string ((⟨l.toArray⟩ : ByteArray).extract n l.length) = sv (l.drop n) := by
  congr 1
  apply ByteArray.ext
  simp [ByteArray.data_extract]
  exact List.take_of_length_le (by rw [List.length_drop]; exact Nat.le_refl _)
theorem encr_one_ (p : List UInt8) : encr [p] = enc7 p.length ++ p := by simp [encr]
theorem clamp_zero : clamp 0 = 0 := by decide
theorem clamp_one : clamp 1 = 1 := by decide
theorem enc7_ten {n : Nat} (h : n ≤ 4611686018427387904) : (enc7 n).length ≤ 10 := enc7_length 9 n (by omega)

set_option maxHeartbeats 8000000 in
theorem lay_any {w : World} {b : Nat} {v : Value} {l ahead : List UInt8} (c : Ce) (h : Wr w b v l) (ha : ahead.length ≤ 100000) (hk : c.key.length ≤ 100000) (hv : c.val.length ≤ 100000) (hl : l.length ≤ 100000000000) :
    Calls Tryd.prog 62 #[.pointer (some ⟨b, 0, none⟩), sv ahead, .agg (car c)] w fun e w' => e = .returned (.tuple #[]) ∧ ∃ v', Wr w' b v' (l ++ encC ahead c) ∧ Mod (wrF b v) w w' ∧ Next w.heap.size v v' := by
  have hz1 := sv_size c.key
  have hz2 := sv_size c.val
  have hcm := comm_le ahead c.key
  obtain ⟨E, hE⟩ : ∃ E, E = encC ahead c := ⟨_, rfl⟩
  rw [← hE]
  unfold encC at hE
  replace hE := Lib.hid hE
  obtain ⟨w0, hw0⟩ : ∃ w0, w0 = w.alloc (.cells (car c) 37) := ⟨_, rfl⟩
  have L0 : Ly w b v c w0 v l := by
    rw [hw0]
    exact ⟨h.mod ((Mod.refl (fun _ => False) w).alloc _) (fun h => h) (fun _ _ h => h), (Mod.refl _ w).alloc _, Next.refl _ _, Blk.new w _ _, h.blk.lt, fun k hk => h.row.lt hk⟩
  replace hw0 := Lib.hid hw0
  have hc : ∀ {wx : World}, Blk wx w.heap.size 37 (car c) → wx.cell? ⟨w.heap.size, 0, none⟩ = some (sv c.key) ∧ wx.cell? ⟨w.heap.size, 1, none⟩ = some (sv c.val) ∧ wx.cell? ⟨w.heap.size, 2, none⟩ = some (.bool c.del) ∧ wx.cell? ⟨w.heap.size, 3, none⟩ = some (.int .i64 c.seq) := fun B => ⟨Blk.cell B 0, Blk.cell B 1, Blk.cell B 2, Blk.cell B 3⟩
  obtain ⟨c0, c1, c2, c3⟩ := hc L0.bx
  go_enter Tryd.func62, Tryd.ntmps62
  go_upto_region 1 with fail
  rw [← hw0.out]
  go_wp2_with fail
  refine (alike_any ahead c.key (by omega) (by omega)).mono ?_
  rintro e w1 ⟨rfl, x1⟩
  have L1 := L0.ext x1
  clear L0 c0 c1 c2 c3 x1 hw0 h
  obtain ⟨c0, c1, c2, c3⟩ := hc L1.bx
  generalize comm ahead c.key = n at *
  go_wp2_with fail
  have L1' := L1.ext ((Mod.refl (fun _ => False) w1).alloc (.cells #[.int .i64 n] 3))
  have hy : Is (w1.alloc (.cells #[.int .i64 n] 3)) (fun k => k = w1.heap.size) (.slice (some ⟨w1.heap.size, 0, none⟩) 1 1) [(n : Int)] := Sl.one w1 3 (.int .i64 n)
  refine (wnums_any L1'.wr hy (fun k _ hk2 => by rw [hk2]; exact fun hh => L1.off (Nat.le_refl _) hh) (by simp; omega)).mono ?_
  rintro e w2 ⟨rfl, v2, h2, m2, n2⟩
  have L2 := L1'.call h2 m2 n2
  have en : encs [(n : Int)] = enc7 n := by simp [encs, clamp_nat n (by omega)]
  rw [en] at L2
  clear L1 L1' h2 m2 n2 hy c0 c1 c2 c3 en
  obtain ⟨c0, c1, c2, c3⟩ := hc L2.bx
  have hn0 : (0 : Int) ≤ (n : Int) := by omega
  have hn1 : (n : Int) ≤ (c.key.length : Int) := by omega
  have hxt := ext_tail c.key n
  have hdl : (c.key.drop n).length ≤ 100000 := by rw [List.length_drop]; omega
  have hel1 := enc7_ten (n := n) (by omega)
  have hel2 := enc7_ten (n := (c.key.drop n).length) (by omega)
  generalize c.key.drop n = kd at *
  go_wp2_with ((with_reducible show wpList _ _ _ (⟨some 20, _, _, _, _, _⟩ :: _) _ _); refine wp_tob Tryd.underlying9 Tryd.underlying24 Tryd.underlying5 (l := kd) (by omega) rfl (.tmp 19) rfl rfl ?_; intro cp w3 k1 k2 k3; replace k3 := Lib.hid k3)
  have L3 := L2.ext k2
  have L3' := L3.ext ((Mod.refl (fun _ => False) w3).alloc (.cells #[.slice (some ⟨w2.heap.size, 0, none⟩) kd.length cp] 24))
  have hR := Rw.one 24 k1
  refine (wbytes_any L3'.wr hR (fun k hk hS hF => ?_) (by simp [encr]; omega)).mono ?_
  · rcases hS with hS | hS
    · exact L2.off (by omega) hF
    · exact L3.off (by have := k3.out; omega) hF
  rintro e w4 ⟨rfl, v4, h4, m4, n4⟩
  have L4 := L3'.call h4 m4 n4
  rw [encr_one_] at L4
  clear L2 L3 L3' h4 m4 n4 hR k1 k2 k3 c0 c1 c2 c3
  obtain ⟨c0, c1, c2, c3⟩ := hc L4.bx
  have es : encs [c.seq, 1] = enc7 (clamp c.seq) ++ enc7 1 := by simp [encs, clamp_one]
  have es0 : encs [c.seq, 0] = enc7 (clamp c.seq) ++ enc7 0 := by simp [encs, clamp_zero]
  have hel3 := enc7_ten (n := clamp c.seq) (clamp_le _)
  have hel4 := enc7_ten (n := 0) (by omega)
  have hel5 := enc7_ten (n := c.val.length) (by omega)
  cases hdel : c.del
  case true =>
    rw [hdel] at c2 hE
    have hE2 : Hid (l ++ E = l ++ enc7 n ++ (enc7 kd.length ++ kd) ++ (enc7 (clamp c.seq) ++ enc7 1)) := Lib.hid (by rw [hE.out]; simp)
    clear hE hdel
    go_wp2_with fail
    have L5 := L4.ext ((Mod.refl (fun _ => False) w4).alloc (.cells #[.int .i64 c.seq, .int .i64 1] 3))
    have hy : Is (w4.alloc (.cells #[.int .i64 c.seq, .int .i64 1] 3)) (fun k => k = w4.heap.size) (.slice (some ⟨w4.heap.size, 0, none⟩) 2 2) [c.seq, 1] := Sl.lit w4 3 [.int .i64 c.seq, .int .i64 1] (by simp [maxLen])
    refine (wnums_any L5.wr hy (fun k _ hk2 => by rw [hk2]; exact fun hh => L4.off (Nat.le_refl _) hh) (by simp; omega)).mono ?_
    rintro e w6 ⟨rfl, v6, h6, m6, n6⟩
    have L6 := L5.call h6 m6 n6
    rw [es] at L6
    go_wp2_with fail
    (try simp only [Exit.inBlock, Exit.then])
    refine bodyPost_ret (results_none rfl _ _ _) rfl ?_
    exact ⟨rfl, v6, by rw [hE2.out]; exact L6.wr, L6.md, L6.nx⟩
  rw [hdel] at c2 hE
  have hE2 : Hid (l ++ E = l ++ enc7 n ++ (enc7 kd.length ++ kd) ++ (enc7 (clamp c.seq) ++ enc7 0) ++ (enc7 c.val.length ++ c.val)) := Lib.hid (by rw [hE.out]; simp)
  clear hE hdel
  go_wp2_with fail
  have L5 := L4.ext ((Mod.refl (fun _ => False) w4).alloc (.cells #[.int .i64 c.seq, .int .i64 0] 3))
  have hy : Is (w4.alloc (.cells #[.int .i64 c.seq, .int .i64 0] 3)) (fun k => k = w4.heap.size) (.slice (some ⟨w4.heap.size, 0, none⟩) 2 2) [c.seq, 0] := Sl.lit w4 3 [.int .i64 c.seq, .int .i64 0] (by simp [maxLen])
  refine (wnums_any L5.wr hy (fun k _ hk2 => by rw [hk2]; exact fun hh => L4.off (Nat.le_refl _) hh) (by simp; omega)).mono ?_
  rintro e w6 ⟨rfl, v6, h6, m6, n6⟩
  have L6 := L5.call h6 m6 n6
  rw [es0] at L6
  clear L4 L5 h6 m6 n6 hy c0 c1 c2 c3
  obtain ⟨c0, c1, c2, c3⟩ := hc L6.bx
  go_wp2_with ((with_reducible show wpList _ _ _ (⟨some 38, _, _, _, _, _⟩ :: _) _ _); refine wp_tob Tryd.underlying9 Tryd.underlying24 Tryd.underlying5 (l := c.val) (by omega) rfl (.tmp 37) rfl rfl ?_; intro cp2 w7 k1 k2 k3; replace k3 := Lib.hid k3)
  have L7 := L6.ext k2
  have L7' := L7.ext ((Mod.refl (fun _ => False) w7).alloc (.cells #[.slice (some ⟨w6.heap.size, 0, none⟩) c.val.length cp2] 24))
  have hR := Rw.one 24 k1
  refine (wbytes_any L7'.wr hR (fun k hk hS hF => ?_) (by simp [encr]; omega)).mono ?_
  · rcases hS with hS | hS
    · exact L6.off (by omega) hF
    · exact L7.off (by have := k3.out; omega) hF
  rintro e w8 ⟨rfl, v8, h8, m8, n8⟩
  have L8 := L7'.call h8 m8 n8
  rw [encr_one_] at L8
  go_wp2_with fail
  go_end0
  exact ⟨rfl, v8, by rw [hE2.out]; exact L8.wr, L8.md, L8.nx⟩
end Go.Proofs.YthohghnfiicndaaDoor
namespace Go.Proofs.YthohghnfiicndaaDoor
open Go.RowKit
set_option maxRecDepth 100000

def rises (L : List Ce) : Prop := ∀ i, i < L.length → 0 < i → lessC (L.getD (i - 1) default) (L.getD i default) = true
instance (L : List Ce) : Decidable (rises L) := Nat.decidableBallLT L.length (fun i _ => 0 < i → lessC (L.getD (i - 1) default) (L.getD i default) = true)
/-- 0: all may be, and rise; else the error. -/
def riseN (L : List Ce) : Nat := if ∀ c ∈ L, isC c then (if rises L then 0 else 11) else 1
/-- The key ahead of cell i, as far as it is shared. -/
def aheadC (L : List Ce) (i : Nat) : List UInt8 := if i % 4 = 0 then [] else (L.getD (i - 1) default).key
def encTo (L : List Ce) (k : Nat) : List UInt8 := (List.range k).flatMap fun i => encC (aheadC L i) (L.getD i default)
/-- Cells as bytes. -/
def encB (L : List Ce) : List UInt8 := encTo L L.length
def encR (L : List Ce) : List UInt8 := if riseN L = 0 then encB L else []
theorem encTo_snoc (L : List Ce) (k : Nat) : encTo L (k + 1) = encTo L k ++ encC (aheadC L k) (L.getD k default) := by
  unfold encTo
  rw [List.range_succ, List.flatMap_append, List.flatMap_cons, List.flatMap_nil, List.append_nil]
theorem encC_len (a : List UInt8) (c : Ce) (hk : c.key.length ≤ 100000000000) (hv : c.val.length ≤ 100000000000) (ha : a.length ≤ 100000000000) : (encC a c).length ≤ c.key.length + c.val.length + 50 := by
  have hc := comm_le a c.key
  have e1 := enc7_ten (n := comm a c.key) (by omega)
  have e2 := enc7_ten (n := (c.key.drop (comm a c.key)).length) (by rw [List.length_drop]; omega)
  have e3 := enc7_ten (n := clamp c.seq) (clamp_le _)
  have e4 := enc7_ten (n := 0) (by omega)
  have e5 := enc7_ten (n := 1) (by omega)
  have e6 := enc7_ten (n := c.val.length) (by omega)
  unfold encC
  cases c.del <;> simp only [List.length_append, List.length_drop, if_true, Bool.false_eq_true, if_false] <;> (rw [List.length_drop] at e2; omega)
theorem getD_c (L : List Ce) {k : Nat} (h : k < L.length) : L.getD k default = L[k] := by rw [List.getD_eq_getElem?_getD, List.getElem?_eq_getElem h]; rfl
theorem aheadC_len (L : List Ce) (h : ∀ c ∈ L, isC c) (k : Nat) : (aheadC L k).length ≤ 4096 := by
  unfold aheadC
  split
  · simp
  · by_cases hk : k - 1 < L.length
    · rw [getD_c L hk]; exact (h _ (List.getElem_mem _)).2.1
    · rw [List.getD_eq_getElem?_getD, List.getElem?_eq_none (by omega)]; show ([] : List UInt8).length ≤ _; simp
theorem encTo_len (L : List Ce) (h : ∀ c ∈ L, isC c) (k : Nat) : k ≤ L.length → (encTo L k).length ≤ 51 * wC (L.take k) := by
  induction k with
  | zero => intro _; simp [encTo]
  | succ k ih =>
    intro hk
    have hlt : k < L.length := hk
    have := ih (by omega)
    rw [encTo_snoc, List.length_append, wC_snoc L hlt, getD_c L hlt]
    have hc := h _ (List.getElem_mem hlt)
    have ha := aheadC_len L h k
    have := encC_len (aheadC L k) L[k] (by have := hc.2.1; omega) (by have := hc.2.2.1; omega) (by omega)
    omega

set_option maxHeartbeats 16000000 in
theorem encode_any {w : World} {S : Nat → Prop} {v : Value} {L : List Ce} (h : Cs w S v L) (hw : wC L ≤ 1000000000) :
    Calls Tryd.prog 30 #[v] w fun e w' => ∃ v', e = .returned (.tuple #[v', .int .i64 (riseN L)]) ∧ Own w' 5 v' ((encR L).map bv) ∧ Fresh w.heap.size v' ∧ Ext w w' := by
  have hlw := wC_len L
  obtain ⟨A, c, rfl, h1, h2, h3, h4⟩ := h.open_ cel_len
  obtain ⟨R, hR⟩ : ∃ R, R = riseN L := ⟨_, rfl⟩
  obtain ⟨E, hE⟩ : ∃ E, E = encR L := ⟨_, rfl⟩
  rw [← hR, ← hE]
  unfold encR at hE
  rw [← hR] at hE
  unfold riseN at hR
  replace hR := Lib.hid hR
  replace hE := Lib.hid hE
  clear h
  go_enter Tryd.func30, Tryd.ntmps30
  go_wp2_with fail
  go_loopw [13] (fun i wr => ∃ k : Nat, k ≤ L.length ∧ i = .int .i64 k ∧ Hid (∀ c ∈ L.take k, isC c) ∧ Ext w wr) (fun i _ => L.length - (intOf i).toNat)
  case atStart => exact ⟨0, Nat.zero_le _, rfl, Lib.hid (by simp), Mod.refl _ _⟩
  case round =>
    obtain ⟨k, hk, rfl, hs, q3⟩ := hrel
    by_cases hlt : k < L.length
    · have hbl : decide ((k : Int) < (L.length : Int)) = true := dtrue (by omega)
      obtain ⟨ad, hA, hS, c0, c1, c2, c3⟩ := Cs.at_ (h4.ext q3) hlt
      subst hA
      have hin : ¬ isC L[k] → R = 1 := fun hn => by rw [hR.out, if_neg (fun h => hn (h _ (List.getElem_mem hlt)))]
      have hsn : isC L[k] → ∀ c ∈ L.take (k + 1), isC c := fun hi c hc => by
        rw [List.take_succ_eq_append_getElem hlt] at hc
        rcases List.mem_append.1 hc with hc | hc
        · exact hs.out c hc
        · rw [List.mem_singleton.1 hc]; exact hi
      have hi0 : (0 : Int) ≤ (k : Int) := by omega
      have hi1 : (k : Int) < (L.length : Int) := by omega
      generalize L[k] = x at *
      go_wp2_with fail
      refine (is_any x).mono ?_
      rintro e w2 ⟨rfl, x2⟩
      have q4 : Ext w w2 := ext_trans (q3.alloc _) x2
      by_cases hx : isC x
      · rw [dtrue hx]
        have hs2 := Lib.hid (hsn hx)
        clear hin hsn
        go_wp2_with fail
        exact ⟨⟨k + 1, by omega, by go_num, hs2, q4⟩, by simp [intOf] <;> omega⟩
      · rw [dfalse hx]
        have hR1 := Lib.hid (hin hx)
        have hE1 : Hid (E = []) := Lib.hid (by rw [hE.out, if_neg (by rw [hR1.out]; decide)])
        clear hin hsn
        go_wp2_with fail
        go_ret2
        exact ⟨_, by rw [hR1.out]; rfl, by rw [hE1.out]; exact Own.nil _ _, fresh_nil _ _ _, q4⟩
    have hbl : decide ((k : Int) < (L.length : Int)) = false := dfalse (by omega)
    have hall : ∀ c ∈ L, isC c := by have := hs.out; rwa [List.take_of_length_le (by omega)] at this
    have hR2 := hR.out
    rw [if_pos hall] at hR2
    clear hR hs
    replace hR := Lib.hid hR2
    replace hall := Lib.hid hall
    clear hR2 hbl
    go_wp2_with fail
    clear hk hlt
    go_loopw [23] (fun i wr => ∃ k : Nat, k ≤ L.length ∧ i = .int .i64 k ∧ Hid (∀ i, i < k → 0 < i → lessC (L.getD (i - 1) default) (L.getD i default) = true) ∧ Ext w wr) (fun i _ => L.length - (intOf i).toNat)
    case atStart => exact ⟨0, Nat.zero_le _, rfl, Lib.hid (fun i hi => absurd hi (Nat.not_lt_zero _)), q3⟩
    case round =>
      clear q3
      obtain ⟨k, hk, rfl, hs, q3⟩ := hrel
      by_cases hlt : k < L.length
      · have hbl : decide ((k : Int) < (L.length : Int)) = true := dtrue (by omega)
        by_cases hk0 : k = 0
        · have hs2 : Hid (∀ i, i < k + 1 → 0 < i → lessC (L.getD (i - 1) default) (L.getD i default) = true) := Lib.hid (fun i hi h0 => by omega)
          have hb0 : decide (0 < k) = false := dfalse (by omega)
          clear hk0
          go_wp2_with fail
          go_quiet (fail)
          go_wp2_with fail
          exact ⟨⟨k + 1, by omega, by go_num, hs2, q3.drewN _⟩, by simp [intOf] <;> omega⟩
        obtain ⟨j, rfl⟩ : ∃ j, k = j + 1 := ⟨k - 1, by omega⟩
        have hb0 : decide (0 < j + 1) = true := dtrue (by omega)
        have hj : j < L.length := by omega
        have hx : ∀ {wx : World}, Ext w wx → ∃ ad, A = some ad ∧ wx.cell? (ad.add (j * 4)) = some (sv L[j].key) ∧ wx.cell? ⟨(ad.add (j * 4)).block, (ad.add (j * 4)).off + 1, none⟩ = some (sv L[j].val) ∧ wx.cell? ⟨(ad.add (j * 4)).block, (ad.add (j * 4)).off + 2, none⟩ = some (.bool L[j].del) ∧ wx.cell? ⟨(ad.add (j * 4)).block, (ad.add (j * 4)).off + 3, none⟩ = some (.int .i64 L[j].seq) ∧ wx.cell? (ad.add ((j + 1) * 4)) = some (sv L[j + 1].key) ∧ wx.cell? ⟨(ad.add ((j + 1) * 4)).block, (ad.add ((j + 1) * 4)).off + 1, none⟩ = some (sv L[j + 1].val) ∧ wx.cell? ⟨(ad.add ((j + 1) * 4)).block, (ad.add ((j + 1) * 4)).off + 2, none⟩ = some (.bool L[j + 1].del) ∧ wx.cell? ⟨(ad.add ((j + 1) * 4)).block, (ad.add ((j + 1) * 4)).off + 3, none⟩ = some (.int .i64 L[j + 1].seq) := fun hx => by
          obtain ⟨ad, hA, _, d0, d1, d2, d3⟩ := Cs.at_ (h4.ext hx) hj
          obtain ⟨ad', hA', _, e0, e1, e2, e3⟩ := Cs.at_ (h4.ext hx) hlt
          rw [hA] at hA'
          cases hA'
          exact ⟨ad, hA, d0, d1, d2, d3, e0, e1, e2, e3⟩
        obtain ⟨ad, hA, _⟩ := hx q3
        subst hA
        have hls : lessC L[j] L[j + 1] = true → ∀ i, i < j + 1 + 1 → 0 < i → lessC (L.getD (i - 1) default) (L.getD i default) = true := fun hl i hi h0 => by
          by_cases hij : i = j + 1
          · subst hij
            rw [show j + 1 - 1 = j by omega, getD_c L hj, getD_c L hlt]; exact hl
          · exact hs.out i (by omega) h0
        have hno : lessC L[j] L[j + 1] = false → R = 11 := fun hl => by
          rw [hR.out, if_neg]
          intro hr
          have := hr (j + 1) hlt (by omega)
          rw [show j + 1 - 1 = j by omega, getD_c L hj, getD_c L hlt, hl] at this
          cases this
        have hi0 : (0 : Int) ≤ (j : Int) := by omega
        have hi1 : (j : Int) + 1 < (L.length : Int) := by omega
        have hi2 : (j : Int) < (L.length : Int) := by omega
        have hi3 : (0 : Int) ≤ (j : Int) + 1 := by omega
        have hi5 : IntKind.i64.wrap (j : Int) = (j : Int) := by rw [IntKind.wrap_i64]; omega
        generalize L[j] = x at *
        generalize L[j + 1] = y at *
        have q0 : Ext w wr.drew := q3.drew
        have hcx : ∀ {wx : World}, Ext w wx → wx.cell? (ad.add (j * 4)) = some (sv x.key) ∧ wx.cell? ⟨(ad.add (j * 4)).block, (ad.add (j * 4)).off + 1, none⟩ = some (sv x.val) ∧ wx.cell? ⟨(ad.add (j * 4)).block, (ad.add (j * 4)).off + 2, none⟩ = some (.bool x.del) ∧ wx.cell? ⟨(ad.add (j * 4)).block, (ad.add (j * 4)).off + 3, none⟩ = some (.int .i64 x.seq) ∧ wx.cell? (ad.add ((j + 1) * 4)) = some (sv y.key) ∧ wx.cell? ⟨(ad.add ((j + 1) * 4)).block, (ad.add ((j + 1) * 4)).off + 1, none⟩ = some (sv y.val) ∧ wx.cell? ⟨(ad.add ((j + 1) * 4)).block, (ad.add ((j + 1) * 4)).off + 2, none⟩ = some (.bool y.del) ∧ wx.cell? ⟨(ad.add ((j + 1) * 4)).block, (ad.add ((j + 1) * 4)).off + 3, none⟩ = some (.int .i64 y.seq) := fun h => by
          obtain ⟨ad', hA, d⟩ := hx h
          cases hA
          exact d
        have hless := fun wx => less_any (w := wx) x y
        cases hl : lessC x y
        · rw [hl] at hless
          have hR1 := Lib.hid (hno hl)
          have hE1 : Hid (E = []) := Lib.hid (by rw [hE.out, if_neg (by rw [hR1.out]; decide)])
          clear hx hls hno hl
          go_wp2_with fail
          go_region_held3 (fun w' => w'.cell? (ad.add (j * 4)) = some (sv x.key) ∧ w'.cell? ⟨(ad.add (j * 4)).block, (ad.add (j * 4)).off + 1, none⟩ = some (sv x.val) ∧ w'.cell? ⟨(ad.add (j * 4)).block, (ad.add (j * 4)).off + 2, none⟩ = some (.bool x.del) ∧ w'.cell? ⟨(ad.add (j * 4)).block, (ad.add (j * 4)).off + 3, none⟩ = some (.int .i64 x.seq) ∧ w'.cell? (ad.add ((j + 1) * 4)) = some (sv y.key) ∧ w'.cell? ⟨(ad.add ((j + 1) * 4)).block, (ad.add ((j + 1) * 4)).off + 1, none⟩ = some (sv y.val) ∧ w'.cell? ⟨(ad.add ((j + 1) * 4)).block, (ad.add ((j + 1) * 4)).off + 2, none⟩ = some (.bool y.del) ∧ w'.cell? ⟨(ad.add ((j + 1) * 4)).block, (ad.add ((j + 1) * 4)).off + 3, none⟩ = some (.int .i64 y.seq)) (first | exact hcx q0 | exact hcx q1) (first
            | (go_at_call 53; (with_reducible refine (hless _).mono ?_); rintro e wa ⟨rfl, xa⟩; have q1 := ext_trans q0 xa))
          all_goals go_wp2_with fail
          all_goals go_ret2
          all_goals exact ⟨_, by rw [hR1.out]; rfl, by rw [hE1.out]; exact Own.nil _ _, fresh_nil _ _ _, q1⟩
        · rw [hl] at hless
          have hs2 := Lib.hid (hls hl)
          clear hx hls hno hl
          go_wp2_with fail
          go_region_held3 (fun w' => w'.cell? (ad.add (j * 4)) = some (sv x.key) ∧ w'.cell? ⟨(ad.add (j * 4)).block, (ad.add (j * 4)).off + 1, none⟩ = some (sv x.val) ∧ w'.cell? ⟨(ad.add (j * 4)).block, (ad.add (j * 4)).off + 2, none⟩ = some (.bool x.del) ∧ w'.cell? ⟨(ad.add (j * 4)).block, (ad.add (j * 4)).off + 3, none⟩ = some (.int .i64 x.seq) ∧ w'.cell? (ad.add ((j + 1) * 4)) = some (sv y.key) ∧ w'.cell? ⟨(ad.add ((j + 1) * 4)).block, (ad.add ((j + 1) * 4)).off + 1, none⟩ = some (sv y.val) ∧ w'.cell? ⟨(ad.add ((j + 1) * 4)).block, (ad.add ((j + 1) * 4)).off + 2, none⟩ = some (.bool y.del) ∧ w'.cell? ⟨(ad.add ((j + 1) * 4)).block, (ad.add ((j + 1) * 4)).off + 3, none⟩ = some (.int .i64 y.seq)) (first | exact hcx q0 | exact hcx q1) (first
            | (go_at_call 53; (with_reducible refine (hless _).mono ?_); rintro e wa ⟨rfl, xa⟩; have q1 := ext_trans q0 xa))
          all_goals go_wp2_with fail
          all_goals exact ⟨⟨j + 1 + 1, by omega, by go_num, hs2, q1⟩, by simp [intOf] <;> omega⟩
      have hbl : decide ((k : Int) < (L.length : Int)) = false := dfalse (by omega)
      have hris : rises L := fun i hi h0 => hs.out i (by omega) h0
      have hR1 : Hid (R = 0) := Lib.hid (by rw [hR.out, if_pos hris])
      have hE1 : Hid (E = encB L) := Lib.hid (by rw [hE.out, if_pos hR1.out])
      clear hR hE hs hris
      go_wp2_with fail
      obtain ⟨w4, hw4⟩ : ∃ w4, w4 = wr.alloc (.cells #[.slice none 0 0] 56) := ⟨_, rfl⟩
      have W0 : Wr w4 wr.heap.size (.slice none 0 0) [] := by rw [hw4]; exact ⟨Blk.new wr _ _, Own.nil _ _⟩
      have x4 : Ext wr w4 := by rw [hw4]; exact (Mod.refl _ wr).alloc _
      have hz4 : wr.heap.size < w4.heap.size := by rw [hw4]; simp
      rw [← hw4]
      clear hw4
      replace hz4 := Lib.hid hz4
      generalize wr = wq at *
      obtain ⟨g, hg⟩ : ∃ g, g = wq.heap.size := ⟨_, rfl⟩
      rw [← hg] at W0 hz4 ⊢
      have hbase : w.heap.size ≤ g := by rw [hg]; exact q3.size
      replace hg := Lib.hid hg
      go_loopw [8, 44] (fun t i wx => ∃ (k : Nat) (v : Value), k ≤ L.length ∧ i = .int .i64 k ∧ t = sv (if k = 0 then [] else (L.getD (k - 1) default).key) ∧ Wr wx g v (encTo L k) ∧ Fresh g v ∧ Ext wq wx) (fun _ i _ => L.length - (intOf i).toNat)
      case atStart => exact ⟨0, _, Nat.zero_le _, rfl, rfl, W0, fresh_nil _ _ _, x4⟩
      case round =>
        clear W0 x4 hbl hk hlt
        obtain ⟨k, vw, hk, rfl, rfl, W1, f1, x1⟩ := hrel
        by_cases hlt : k < L.length
        · have hbl : decide ((k : Int) < (L.length : Int)) = true := dtrue (by omega)
          obtain ⟨ad, hA, hS, c0, c1, c2, c3⟩ := Cs.at_ (h4.ext (ext_trans q3 x1)) hlt
          subst hA
          have hsn := encTo_snoc L k
          have hen := encTo_len L hall.out k hk
          have hwt := wC_take L k
          have hah := aheadC_len L hall.out k
          have hic := hall.out L[k] (List.getElem_mem hlt)
          have hgd := getD_c L hlt
          have hgd1 : (L.getD (k + 1 - 1) default).key = L[k].key := by rw [show k + 1 - 1 = k by omega, hgd]
          rw [hgd] at hsn
          have hkl : L[k].key.length ≤ 4096 := hic.2.1
          have hvl : L[k].val.length ≤ 16384 := hic.2.2.1
          have hi0 : (0 : Int) ≤ (k : Int) := by omega
          have hi1 : (k : Int) < (L.length : Int) := by omega
          unfold aheadC at hsn hah
          generalize L[k] = x at *
          obtain ⟨ah, hahd⟩ : ∃ ah, ah = (if k = 0 then [] else (L.getD (k - 1) default).key) := ⟨_, rfl⟩
          rw [← hahd]
          replace hahd := Lib.hid hahd
          replace hsn := Lib.hid hsn
          replace hgd1 := Lib.hid hgd1
          clear hgd hic
          by_cases h4k : k % 4 = 0
          · have hb4 : ((k : Int) % 4 == 0) = true := by rw [beq_iff_eq]; omega
            go_wp2_with fail
            refine (lay_any x (W1.mod ((Mod.refl (fun _ => False) wr).alloc (.cells (car x) 37)) (fun h => h) (fun _ _ h => h)) (ahead := []) (by simp) (by omega) (by omega) (by omega)).mono ?_
            rintro e w6 ⟨rfl, v6, W6, m6, n6⟩
            have B6 := (Blk.new wr 37 (car x)).mod m6 (fun hF => by
              rcases hF with hF | hF
              · have := W1.blk.lt; omega
              · have := W1.row.lt hF; omega)
            have d0 : _ = some _ := Blk.cell B6 0
            have x6 : Ext wq w6 := (x1.alloc _).trans m6 (fun _ _ h => h) (fun i hi hF => by
              have := hg.out
              rcases hF with hF | hF
              · omega
              · have := f1 i hF; omega)
            have f6 : Fresh g v6 := n6.fresh f1 (by have := W1.blk.lt; simp; omega)
            clear B6 m6 n6
            go_wp2_with fail
            exact ⟨⟨k + 1, v6, by omega, by go_num, by rw [if_neg (by omega), hgd1.out], by rw [hsn.out, if_pos h4k]; exact W6, f6, x6⟩, by simp [intOf] <;> omega⟩
          have hb4 : ((k : Int) % 4 == 0) = false := by rw [beq_eq_false_iff_ne]; omega
          have hah2 : ah = (L.getD (k - 1) default).key := by rw [hahd.out, if_neg (by omega)]
          rw [if_neg h4k, ← hah2] at hah
          have hsn2 : Hid (encTo L (k + 1) = encTo L k ++ encC ah x) := Lib.hid (by rw [hsn.out, if_neg h4k, hah2])
          clear hah2
          go_wp2_with fail
          refine (lay_any x (W1.mod ((Mod.refl (fun _ => False) wr).alloc (.cells (car x) 37)) (fun h => h) (fun _ _ h => h)) (ahead := ah) (by omega) (by omega) (by omega) (by omega)).mono ?_
          rintro e w6 ⟨rfl, v6, W6, m6, n6⟩
          have B6 := (Blk.new wr 37 (car x)).mod m6 (fun hF => by
            rcases hF with hF | hF
            · have := W1.blk.lt; omega
            · have := W1.row.lt hF; omega)
          have d0 : _ = some _ := Blk.cell B6 0
          have x6 : Ext wq w6 := (x1.alloc _).trans m6 (fun _ _ h => h) (fun i hi hF => by
            have := hg.out
            rcases hF with hF | hF
            · omega
            · have := f1 i hF; omega)
          have f6 : Fresh g v6 := n6.fresh f1 (by have := W1.blk.lt; simp; omega)
          clear B6 m6 n6
          go_wp2_with fail
          exact ⟨⟨k + 1, v6, by omega, by go_num, by rw [if_neg (by omega), hgd1.out], by rw [hsn2.out]; exact W6, f6, x6⟩, by simp [intOf] <;> omega⟩
        have hbl : decide ((k : Int) < (L.length : Int)) = false := dfalse (by omega)
        obtain rfl : k = L.length := by omega
        have hen := encTo_len L hall.out L.length (Nat.le_refl _)
        have hwt := wC_take L L.length
        clear h4 h3
        obtain ⟨ah, hahd⟩ : ∃ ah, ah = (if L.length = 0 then [] else (L.getD (L.length - 1) default).key) := ⟨_, rfl⟩
        rw [← hahd]
        clear hahd
        go_wp2_with fail
        refine (wout_any W1 (by omega)).mono ?_
        rintro e w7 ⟨v7, rfl, o7, b7, x7, _⟩
        go_wp2_with fail
        go_ret2
        refine ⟨v7, by rw [hR1.out]; rfl, by rw [hE1.out]; exact o7, fun i hi => ?_, ext_trans q3 (ext_trans x1 x7)⟩
        rw [b7] at hi
        have := Option.some.inj hi
        have := x1.size
        have := q3.size
        omega
end Go.Proofs.YthohghnfiicndaaDoor

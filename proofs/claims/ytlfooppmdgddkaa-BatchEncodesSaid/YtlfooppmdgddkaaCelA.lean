/- block: a cell; Less, Is, Size, on both sides. -/
import Derived.Test.YtlfooppmdgddkaaRecB
import Derived.Test.YtlfooppmdgddkaaRecIn
import Derived.Test.YtlfooppmdgddkaaOctT
import Derived.BigQuiet
import Derived.Deep.DeepCutAuto
namespace Go.Proofs.Ytlfooppmdgddkaa
open Go.RowKit
set_option maxRecDepth 100000

/-- A cell. -/
structure Ce where
  key : List UInt8
  val : List UInt8
  del : Bool
  seq : Int
instance : DecidableEq Ce := fun a b => decidable_of_iff (a.key = b.key ∧ a.val = b.val ∧ a.del = b.del ∧ a.seq = b.seq) ⟨fun ⟨h1, h2, h3, h4⟩ => by cases a; cases b; simp_all, fun h => by rw [h]; exact ⟨rfl, rfl, rfl, rfl⟩⟩
instance : Inhabited Ce := ⟨⟨[], [], false, 0⟩⟩
abbrev cel (c : Ce) : List Value := [sv c.key, sv c.val, .bool c.del, .int .i64 c.seq]
abbrev car (c : Ce) : Array Value := #[sv c.key, sv c.val, .bool c.del, .int .i64 c.seq]
theorem cel_len (c : Ce) : (cel c).length = 4 := rfl
theorem cel_ok (c : Ce) : ∀ u ∈ cel c, u.oneCell' = true := by
  intro u hu
  simp only [cel, List.mem_cons, List.not_mem_nil, or_false] at hu
  rcases hu with rfl | rfl | rfl | rfl <;> rfl
abbrev Cs (w : World) (S : Nat → Prop) (v : Value) (L : List Ce) : Prop := Rc cel 4 w S v L
abbrev OwnC (w : World) (v : Value) (L : List Ce) : Prop := OwnR cel 4 w 23 v L
theorem tyC : SliceTyK Try.prog 28 23 (.agg #[.string ⟨#[]⟩, .string ⟨#[]⟩, .bool false, .int .i64 0]) 4 48 := ⟨Try.underlying28, by kernel_rfl, rfl, by decide, by decide⟩
def CFits (c : Ce) : Prop := c.key.length ≤ 140737488351232 ∧ c.val.length ≤ 140737488351232
theorem Cs.at_ {w : World} {S : Nat → Prop} {A : Option Addr} {L : List Ce} (h : RcAt cel 4 w S A L) {i : Nat} (hi : i < L.length) :
    ∃ ad, A = some ad ∧ S ad.block ∧ w.cell? (ad.add (i * 4)) = some (sv L[i].key) ∧ w.cell? ⟨(ad.add (i * 4)).block, (ad.add (i * 4)).off + 1, none⟩ = some (sv L[i].val) ∧ w.cell? ⟨(ad.add (i * 4)).block, (ad.add (i * 4)).off + 2, none⟩ = some (.bool L[i].del) ∧ w.cell? ⟨(ad.add (i * 4)).block, (ad.add (i * 4)).off + 3, none⟩ = some (.int .i64 L[i].seq) := by
  obtain ⟨ad, hA, hS, h0⟩ := h i 0 (sv L[i].key) hi (by omega) rfl
  obtain ⟨ad1, hA1, _, h1⟩ := h i 1 (sv L[i].val) hi (by omega) rfl
  obtain ⟨ad2, hA2, _, h2⟩ := h i 2 (.bool L[i].del) hi (by omega) rfl
  obtain ⟨ad3, hA3, _, h3⟩ := h i 3 (.int .i64 L[i].seq) hi (by omega) rfl
  rw [hA] at hA1 hA2 hA3
  cases hA1
  cases hA2
  cases hA3
  rw [add_next _ _ _ (by omega)] at h1 h2 h3
  exact ⟨ad, hA, hS, h0, h1, h2, h3⟩

theorem dtrue {p : Prop} [Decidable p] (h : p) : decide p = true := decide_eq_true h
theorem dfalse {p : Prop} [Decidable p] (h : ¬ p) : decide p = false := decide_eq_false h
theorem sv_get (l : List UInt8) (k : Nat) (h : k < l.length) (h' : k < (⟨l.toArray⟩ : ByteArray).size) : (⟨l.toArray⟩ : ByteArray)[k]'h' = l[k] := by
  show l.toArray[k] = l[k]
  simp
theorem sv_size (l : List UInt8) : (⟨l.toArray⟩ : ByteArray).size = l.length := by
  show l.toArray.size = l.length
  simp
theorem ret_bool {b : Bool} {p : Prop} [Decidable p] {w w' : World} (h : b = true ↔ p) (hw : w' = w) : Ending.returned (.bool b) = .returned (.bool (decide p)) ∧ w' = w := by
  refine ⟨?_, hw⟩
  congr 2
  cases b
  · exact (decide_eq_false (fun hp => by have := h.2 hp; cases this)).symm
  · exact (decide_eq_true (h.1 rfl)).symm

/-- One is ahead of the other. -/
def lessC (a b : Ce) : Bool := if a.key = b.key then decide (b.seq < a.seq) else Op.bytesLess a.key b.key
def isC (c : Ce) : Prop := 1 ≤ c.key.length ∧ c.key.length ≤ 4096 ∧ c.val.length ≤ 16384 ∧ (c.del = true → c.val = []) ∧ 1 ≤ c.seq ∧ c.seq ≤ 1099511627776
instance (c : Ce) : Decidable (isC c) := inferInstanceAs (Decidable (_ ∧ _))

section
variable {w : World}
theorem boxed (w : World) (c : Ce) : (w.alloc (.cells (car c) 23)).cell? ⟨w.heap.size, 0, none⟩ = some (sv c.key) ∧ (w.alloc (.cells (car c) 23)).cell? ⟨w.heap.size, 1, none⟩ = some (sv c.val) ∧ (w.alloc (.cells (car c) 23)).cell? ⟨w.heap.size, 2, none⟩ = some (.bool c.del) ∧ (w.alloc (.cells (car c) 23)).cell? ⟨w.heap.size, 3, none⟩ = some (.int .i64 c.seq) :=
  ⟨Blk.cell (Blk.new w _ _) 0, Blk.cell (Blk.new w _ _) 1, Blk.cell (Blk.new w _ _) 2, Blk.cell (Blk.new w _ _) 3⟩
theorem boxed2 (w : World) (c d : Ce) : ((w.alloc (.cells (car c) 23)).alloc (.cells (car d) 23)).cell? ⟨w.heap.size, 0, none⟩ = some (sv c.key) ∧ ((w.alloc (.cells (car c) 23)).alloc (.cells (car d) 23)).cell? ⟨w.heap.size, 3, none⟩ = some (.int .i64 c.seq) ∧ ((w.alloc (.cells (car c) 23)).alloc (.cells (car d) 23)).cell? ⟨w.heap.size + 1, 0, none⟩ = some (sv d.key) ∧ ((w.alloc (.cells (car c) 23)).alloc (.cells (car d) 23)).cell? ⟨w.heap.size + 1, 3, none⟩ = some (.int .i64 d.seq) := by
  have h1 := (Blk.new w 23 (car c)).alloc (.cells (car d) 23)
  have h2 := Blk.new (w.alloc (.cells (car c) 23)) 23 (car d)
  rw [show (w.alloc (.cells (car c) 23)).heap.size = w.heap.size + 1 by simp] at h2
  exact ⟨Blk.cell h1 0, Blk.cell h1 3, Blk.cell h2 0, Blk.cell h2 3⟩
end

theorem less_self : ∀ (x : List UInt8), Op.bytesLess x x = false
  | [] => rfl
  | a :: x => by
    show (decide (a < a) || (a == a && Op.bytesLess x x)) = false
    rw [less_self x, decide_eq_false (by simp)]
    simp

set_option maxHeartbeats 4000000 in
theorem less_any {w : World} (a b : Ce) :
    Calls Try.prog 20 #[.agg (car a), .agg (car b)] w fun e w' => e = .returned (.bool (lessC a b)) ∧ Ext w w' := by
  obtain ⟨c0, c1, d0, d1⟩ := boxed2 w a b
  have hx : Ext w ((w.alloc (.cells (car a) 23)).alloc (.cells (car b) 23)) := ((Mod.refl _ w).alloc _).alloc _
  obtain ⟨w0, hw0⟩ : ∃ w0, w0 = (w.alloc (.cells (car a) 23)).alloc (.cells (car b) 23) := ⟨_, rfl⟩
  rw [← hw0] at c0 c1 d0 d1 hx
  replace hw0 := Lib.hid hw0
  unfold lessC
  by_cases hk : a.key = b.key
  · rw [if_pos hk]
    have hb : (a.key == b.key) = true := by rw [hk]; exact beq_self_eq_true _
    replace hk := Lib.hid hk
    go_enter Try.func20, Try.ntmps20
    go_upto_region 1 with fail
    rw [← hw0.out]
    go_wp2_with fail
    go_ret
    exact ⟨rfl, hx⟩
  · rw [if_neg hk]
    have hb : (a.key == b.key) = false := beq_eq_false_iff_ne.2 hk
    replace hk := Lib.hid hk
    go_enter Try.func20, Try.ntmps20
    go_upto_region 1 with fail
    rw [← hw0.out]
    go_wp2_with fail
    go_ret
    exact ⟨rfl, hx⟩

set_option maxHeartbeats 4000000 in
theorem rless_any {w : World} (a b : Ce) :
    Calls Try.prog 21 #[.agg (car a), .agg (car b)] w fun e w' => e = .returned (.bool (lessC a b)) ∧ Ext w w' := by
  obtain ⟨c0, c1, d0, d1⟩ := boxed2 w a b
  have hx : Ext w ((w.alloc (.cells (car a) 23)).alloc (.cells (car b) 23)) := ((Mod.refl _ w).alloc _).alloc _
  obtain ⟨w0, hw0⟩ : ∃ w0, w0 = (w.alloc (.cells (car a) 23)).alloc (.cells (car b) 23) := ⟨_, rfl⟩
  rw [← hw0] at c0 c1 d0 d1 hx
  replace hw0 := Lib.hid hw0
  unfold lessC
  by_cases hk : a.key = b.key
  · rw [if_pos hk]
    have hb : (a.key == b.key) = true := by rw [hk]; exact beq_self_eq_true _
    have hl : Op.bytesLess a.key b.key = false := by rw [hk]; exact less_self _
    replace hk := Lib.hid hk
    go_enter Try.func21, Try.ntmps21
    go_upto_region 1 with fail
    rw [← hw0.out]
    go_wp2_with fail
    go_ret
    exact ⟨rfl, hx⟩
  · rw [if_neg hk]
    have hb : (a.key == b.key) = false := beq_eq_false_iff_ne.2 hk
    replace hk := Lib.hid hk
    cases hl : Op.bytesLess a.key b.key
    all_goals (
      go_enter Try.func21, Try.ntmps21
      go_upto_region 1 with fail
      rw [← hw0.out]
      go_wp2_with fail
      go_ret
      exact ⟨rfl, hx⟩)

set_option maxHeartbeats 8000000 in
theorem is_any {w : World} (c : Ce) :
    Calls Try.prog 22 #[.agg (car c)] w fun e w' => e = .returned (.bool (decide (isC c))) ∧ Ext w w' := by
  obtain ⟨c0, c1, c2, c3⟩ := boxed w c
  have hx : Ext w (w.alloc (.cells (car c) 23)) := (Mod.refl _ w).alloc _
  obtain ⟨w0, hw0⟩ : ∃ w0, w0 = w.alloc (.cells (car c) 23) := ⟨_, rfl⟩
  rw [← hw0] at c0 c1 c2 c3 hx
  replace hw0 := Lib.hid hw0
  have hz1 := sv_size c.key
  have hz2 := sv_size c.val
  by_cases k1 : c.key.length < 1
  · have hb : decide ((c.key.length : Int) < 1) = true := dtrue (by omega)
    have hD : Hid (decide (isC c) = false) := Lib.hid (dfalse (fun h => by have := h.1; omega))
    clear k1
    go_enter Try.func22, Try.ntmps22
    go_upto_region 1 with fail
    rw [← hw0.out]
    go_wp2_with fail
    go_ret
    exact ⟨by rw [hD.out]; rfl, hx⟩
  have bk1 : decide ((c.key.length : Int) < 1) = false := dfalse (by omega)
  by_cases k2 : 4096 < c.key.length
  · have hb : decide ((4096 : Int) < (c.key.length : Int)) = true := dtrue (by omega)
    have hD : Hid (decide (isC c) = false) := Lib.hid (dfalse (fun h => by have := h.2.1; omega))
    clear k2
    go_enter Try.func22, Try.ntmps22
    go_upto_region 1 with fail
    rw [← hw0.out]
    go_wp2_with fail
    go_ret
    exact ⟨by rw [hD.out]; rfl, hx⟩
  have bk2 : decide ((4096 : Int) < (c.key.length : Int)) = false := dfalse (by omega)
  by_cases k3 : 16384 < c.val.length
  · have hb : decide ((16384 : Int) < (c.val.length : Int)) = true := dtrue (by omega)
    have hD : Hid (decide (isC c) = false) := Lib.hid (dfalse (fun h => by have := h.2.2.1; omega))
    clear k3
    go_enter Try.func22, Try.ntmps22
    go_upto_region 1 with fail
    rw [← hw0.out]
    go_wp2_with fail
    go_ret
    exact ⟨by rw [hD.out]; rfl, hx⟩
  have bk3 : decide ((16384 : Int) < (c.val.length : Int)) = false := dfalse (by omega)
  by_cases k4 : c.del = true ∧ c.val ≠ []
  · have hb : c.del = true := k4.1
    have hb2 : c.val.isEmpty = false := List.isEmpty_eq_false_iff.2 k4.2
    have hD : Hid (decide (isC c) = false) := Lib.hid (dfalse (fun h => k4.2 (h.2.2.2.1 k4.1)))
    clear k4
    go_enter Try.func22, Try.ntmps22
    go_upto_region 1 with fail
    rw [← hw0.out]
    go_wp2_with fail
    go_ret
    exact ⟨by rw [hD.out]; rfl, hx⟩
  have k5 : c.del = true → c.val.isEmpty = true := fun h => by
    rw [List.isEmpty_iff]
    exact Decidable.byContradiction fun hn => k4 ⟨h, hn⟩
  have hD : Hid (decide (isC c) = (decide (1 ≤ c.seq) && decide (c.seq ≤ 1099511627776))) := Lib.hid (by
    rw [Bool.eq_iff_iff, Bool.and_eq_true, decide_eq_true_eq, decide_eq_true_eq, decide_eq_true_eq]
    exact ⟨fun h => ⟨h.2.2.2.2.1, h.2.2.2.2.2⟩, fun h => ⟨by omega, by omega, by omega, fun hd => List.isEmpty_iff.1 (k5 hd), h.1, h.2⟩⟩)
  clear k4 k1 k2 k3
  cases hq : decide (1 ≤ c.seq)
  all_goals (
    rw [hq] at hD
    cases hd : c.del
    · clear k5
      go_enter Try.func22, Try.ntmps22
      go_upto_region 1 with fail
      rw [← hw0.out]
      go_wp2_with fail
      go_ret
      exact ⟨by rw [hD.out]; rfl, hx⟩
    · have hv := k5 hd
      clear k5
      go_enter Try.func22, Try.ntmps22
      go_upto_region 1 with fail
      rw [← hw0.out]
      go_wp2_with fail
      go_ret
      exact ⟨by rw [hD.out]; rfl, hx⟩)
set_option maxHeartbeats 8000000 in
theorem ris_any {w : World} (c : Ce) :
    Calls Try.prog 23 #[.agg (car c)] w fun e w' => e = .returned (.bool (decide (isC c))) ∧ Ext w w' := by
  obtain ⟨c0, c1, c2, c3⟩ := boxed w c
  have hx : Ext w (w.alloc (.cells (car c) 23)) := (Mod.refl _ w).alloc _
  obtain ⟨w0, hw0⟩ : ∃ w0, w0 = w.alloc (.cells (car c) 23) := ⟨_, rfl⟩
  rw [← hw0] at c0 c1 c2 c3 hx
  replace hw0 := Lib.hid hw0
  have hz1 := sv_size c.key
  have hz2 := sv_size c.val
  by_cases k1 : c.key.length < 1
  · have hb : decide ((1 : Int) ≤ (c.key.length : Int)) = false := dfalse (by omega)
    have hD : Hid (decide (isC c) = false) := Lib.hid (dfalse (fun h => by have := h.1; omega))
    clear k1
    go_enter Try.func23, Try.ntmps23
    go_upto_region 1 with fail
    rw [← hw0.out]
    go_wp2_with fail
    go_ret
    exact ⟨by rw [hD.out]; rfl, hx⟩
  have bk1 : decide ((1 : Int) ≤ (c.key.length : Int)) = true := dtrue (by omega)
  by_cases k2 : 4096 < c.key.length
  · have hb : decide ((c.key.length : Int) ≤ 4096) = false := dfalse (by omega)
    have hD : Hid (decide (isC c) = false) := Lib.hid (dfalse (fun h => by have := h.2.1; omega))
    clear k2
    go_enter Try.func23, Try.ntmps23
    go_upto_region 1 with fail
    rw [← hw0.out]
    go_wp2_with fail
    go_ret
    exact ⟨by rw [hD.out]; rfl, hx⟩
  have bk2 : decide ((c.key.length : Int) ≤ 4096) = true := dtrue (by omega)
  by_cases k3 : 16384 < c.val.length
  · have hb : decide ((c.val.length : Int) ≤ 16384) = false := dfalse (by omega)
    have hD : Hid (decide (isC c) = false) := Lib.hid (dfalse (fun h => by have := h.2.2.1; omega))
    clear k3
    go_enter Try.func23, Try.ntmps23
    go_upto_region 1 with fail
    rw [← hw0.out]
    go_wp2_with fail
    go_ret
    exact ⟨by rw [hD.out]; rfl, hx⟩
  have bk3 : decide ((c.val.length : Int) ≤ 16384) = true := dtrue (by omega)
  by_cases k4 : c.del = true ∧ c.val ≠ []
  · have hb : c.del = true := k4.1
    have hb2 : c.val.isEmpty = false := List.isEmpty_eq_false_iff.2 k4.2
    have hD : Hid (decide (isC c) = false) := Lib.hid (dfalse (fun h => k4.2 (h.2.2.2.1 k4.1)))
    clear k4
    go_enter Try.func23, Try.ntmps23
    go_upto_region 1 with fail
    rw [← hw0.out]
    go_wp2_with fail
    go_ret
    exact ⟨by rw [hD.out]; rfl, hx⟩
  have k5 : c.del = true → c.val.isEmpty = true := fun h => by
    rw [List.isEmpty_iff]
    exact Decidable.byContradiction fun hn => k4 ⟨h, hn⟩
  have hD : Hid (decide (isC c) = (decide (1 ≤ c.seq) && decide (c.seq ≤ 1099511627776))) := Lib.hid (by
    rw [Bool.eq_iff_iff, Bool.and_eq_true, decide_eq_true_eq, decide_eq_true_eq, decide_eq_true_eq]
    exact ⟨fun h => ⟨h.2.2.2.2.1, h.2.2.2.2.2⟩, fun h => ⟨by omega, by omega, by omega, fun hd => List.isEmpty_iff.1 (k5 hd), h.1, h.2⟩⟩)
  clear k4 k1 k2 k3
  cases hq : decide (1 ≤ c.seq)
  all_goals (
    rw [hq] at hD
    cases hd : c.del
    · clear k5
      go_enter Try.func23, Try.ntmps23
      go_upto_region 1 with fail
      rw [← hw0.out]
      go_wp2_with fail
      go_ret
      exact ⟨by rw [hD.out]; rfl, hx⟩
    · have hv := k5 hd
      clear k5
      go_enter Try.func23, Try.ntmps23
      go_upto_region 1 with fail
      rw [← hw0.out]
      go_wp2_with fail
      go_ret
      exact ⟨by rw [hD.out]; rfl, hx⟩)

end Go.Proofs.Ytlfooppmdgddkaa

/- frame: Decode, One. -/
import Derived.Test.YtckgnnopoekniaaDoorFrmC
namespace Go.Proofs.YtckgnnopoekniaaDoor
open Go.RowKit
set_option maxRecDepth 100000

set_option maxHeartbeats 1000000 in
theorem decode_any {w : World} {S : Nat → Prop} {v : Value} {l : List UInt8} (h : Bs w S v l) (hN : Nib w) (hl : l.length ≤ 140737488355328) :
    Calls Tryd.prog 11 #[v] w fun e w' => ∃ v', e = .returned (.tuple #[v', .int .i64 ((dec l).2.1 : Nat), .int .i64 ((dec l).2.2 : Nat)]) ∧ Own w' 5 v' ((dec l).1.map bv) ∧ Fresh w.heap.size v' ∧ Ext w w' := by
  have hsz : ((dec l).1).length ≤ l.length := by
    by_cases hd : (dec l).2.2 = 0
    · rw [(dec_ok hd).2.2.2.2.2]; simp only [List.length_take, List.length_drop]; omega
    · rw [dec_err hd]; simp
  have her : ¬ (dec l).2.2 = 0 → (dec l).1 = [] ∧ (dec l).2.1 = 0 := fun hd => by rw [dec_err hd]; exact ⟨rfl, rfl⟩
  go_enter Tryd.func11, Tryd.ntmps11
  go_wp2_with fail
  refine (look_any h hN hl).mono ?_
  rintro e w1 ⟨v1, rfl, g1, g2⟩
  generalize hdl : dec l = d at *
  obtain ⟨p, n, er⟩ := d
  replace hdl := Lib.hid hdl
  simp only at g1 hsz her ⊢
  by_cases hd : er = 0
  · subst hd
    clear her
    obtain ⟨A1, c1, rfl, y1, y2, y3, y4⟩ := g1.open_
    go_wp2_with fail
    refine (join_any (Rw.one 23 g1) (by simp; omega)).mono ?_
    rintro e w2 ⟨v2, rfl, k1, k2, k3⟩
    have hx2 := ext_trans (Mod.alloc g2 _) k3
    have hs := g2.size
    clear k3
    go_wp2_with fail
    go_ret3
    rw [hdl.out]
    exact ⟨_, rfl, by simpa using k1, k2.mono (by simp; omega), hx2⟩
  · obtain ⟨rfl, rfl⟩ := her hd
    have hb : ((er : Int) != 0) = true := by rw [bne_iff_ne]; omega
    go_wp2_with fail
    go_ret3
    rw [hdl.out]
    exact ⟨_, rfl, Own.nil _ _, fresh_nil _ _ _, g2⟩

/-- The bytes that are just one record. -/
def one (l : List UInt8) : List UInt8 × Nat := if (dec l).2.2 ≠ 0 then ([], (dec l).2.2) else if (dec l).2.1 < l.length then ([], 3) else ((dec l).1, 0)
set_option maxHeartbeats 1000000 in
theorem one_any {w : World} {S : Nat → Prop} {v : Value} {l : List UInt8} (h : Bs w S v l) (hN : Nib w) (hl : l.length ≤ 140737488355328) :
    Calls Tryd.prog 12 #[v] w fun e w' => ∃ v', e = .returned (.tuple #[v', .int .i64 ((one l).2 : Nat)]) ∧ Own w' 5 v' ((one l).1.map bv) ∧ Fresh w.heap.size v' ∧ Ext w w' := by
  have hsz : ((dec l).1).length ≤ l.length := by
    by_cases hd : (dec l).2.2 = 0
    · rw [(dec_ok hd).2.2.2.2.2]; simp only [List.length_take, List.length_drop]; omega
    · rw [dec_err hd]; simp
  have h0 := h
  obtain ⟨A, c, rfl, h1, h2, h3, h4⟩ := h.open_
  obtain ⟨o, ho⟩ : ∃ o, o = one l := ⟨_, rfl⟩
  rw [← ho]
  unfold one at ho
  go_enter Tryd.func12, Tryd.ntmps12
  replace ho := Lib.hid ho
  go_wp2_with fail
  refine (look_any h0 hN hl).mono ?_
  rintro e w1 ⟨v1, rfl, g1, g2⟩
  replace ho := ho.out
  generalize dec l = d at *
  obtain ⟨p, n, er⟩ := d
  simp only at g1 hsz ho ⊢
  by_cases hd : er = 0
  · subst hd
    obtain ⟨A1, c1, rfl, y1, y2, y3, y4⟩ := g1.open_
    rw [if_neg (by simp)] at ho
    by_cases hlt : n < l.length
    · rw [if_pos hlt] at ho
      subst ho
      go_wp2_with fail
      go_ret2
      exact ⟨_, rfl, Own.nil _ _, fresh_nil _ _ _, g2⟩
    · rw [if_neg hlt] at ho
      replace ho := Lib.hid ho
      go_wp2_with fail
      refine (join_any (Rw.one 23 g1) (by simp; omega)).mono ?_
      rintro e w2 ⟨v2, rfl, k1, k2, k3⟩
      have hx2 := ext_trans (Mod.alloc g2 _) k3
      have hs := g2.size
      clear k3
      go_wp2_with fail
      go_ret2
      rw [ho.out]
      exact ⟨_, rfl, by simpa using k1, k2.mono (by simp; omega), hx2⟩
  · rw [if_pos hd] at ho
    replace ho := Lib.hid ho
    have hb : ((er : Int) != 0) = true := by rw [bne_iff_ne]; omega
    go_wp2_with fail
    go_ret2
    rw [ho.out]
    exact ⟨_, rfl, Own.nil _ _, fresh_nil _ _ _, g2⟩
end Go.Proofs.YtckgnnopoekniaaDoor

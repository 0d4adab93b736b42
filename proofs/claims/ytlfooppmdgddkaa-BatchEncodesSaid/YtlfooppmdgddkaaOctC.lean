/- octet: the Reader's calls. -/
import Derived.Test.YtlfooppmdgddkaaOctB
namespace Go.Proofs.Ytlfooppmdgddkaa
open Go.RowKit

/-- A Reader behind a pointer: what is left, or that it erred. -/
structure Rd (w : World) (b : Nat) (S : Nat → Prop) (v : Value) (st : Option (List UInt8)) : Prop where
  blk : Blk w b 121 #[v, .bool st.isNone]
  row : Bs w S v (st.getD [])
  off : ¬ S b
theorem Rd.mod {F S : Nat → Prop} {w w' : World} {b : Nat} {v : Value} {st : Option (List UInt8)} (h : Rd w b S v st) (hm : Mod F w w') (hb : ¬ F b) (hv : ∀ k, k < w.heap.size → S k → ¬ F k) : Rd w' b S v st :=
  ⟨h.blk.mod hm hb, h.row.mod hm hv, h.off⟩
theorem Blk.c1 {w : World} {g : Nat} {t : TypeId} {u v : Value} (h : Blk w g t #[u, v]) : w.cell? ⟨g, 0, none⟩ = some u ∧ w.cell? ⟨g, 1, none⟩ = some v := ⟨h.cell 0, h.cell 1⟩
theorem newreader_any {w : World} {S : Nat → Prop} {y : Value} {l : List UInt8} (h : Bs w S y l) (hn : l.length ≤ 281474976710656) :
    Calls Try.prog 66 #[y] w fun e w' => ∃ b v, e = .returned (.pointer (some ⟨b, 0, none⟩)) ∧ Rd w' b (fun k => k = w.heap.size) v (some l) ∧ w.heap.size < b ∧ b < w'.heap.size ∧ Ext w w' := by
  go_enter Try.func66, Try.ntmps66
  go_wp2_with (go_at_call 91; refine (own_any h hn).mono ?_; rintro e w1 ⟨v1, rfl, g1, g2, g3, g4⟩; obtain ⟨A1, c1, hv1⟩ := g1.shape; subst hv1)
  go_ret
  have e1 : (Value.slice A1 (l.map bv).length c1) = .slice A1 l.length c1 := by simp
  rw [e1] at g1 g2
  refine ⟨_, _, rfl, ⟨Blk.new _ _ _, (g1.alloc _).sl.mono (fun k _ hk => ?_), by show ¬ (_ = _); omega⟩, g4, by simp, g3.alloc _⟩
  exact (Option.some.inj (g2.symm.trans hk)).symm
theorem good_any {w : World} {b : Nat} {S : Nat → Prop} {v : Value} {st : Option (List UInt8)} (h : Rd w b S v st) : Calls Try.prog 69 #[.pointer (some ⟨b, 0, none⟩)] w fun e w' => e = .returned (.bool st.isSome) ∧ w' = w := by
  obtain ⟨h0, h1⟩ := h.blk.c1
  cases st <;> simp only [Option.isNone_none, Option.isNone_some] at h1 <;> (
    go_enter Try.func69, Try.ntmps69
    go_wp2
    go_ret
    exact ⟨rfl, rfl⟩)
/-- Nothing erred, and nothing is left. -/
def isWhole (st : Option (List UInt8)) : Bool := match st with | some l => l.isEmpty | none => false
theorem whole_any {w : World} {b : Nat} {S : Nat → Prop} {v : Value} {st : Option (List UInt8)} (h : Rd w b S v st) : Calls Try.prog 89 #[.pointer (some ⟨b, 0, none⟩)] w fun e w' => e = .returned (.bool (isWhole st)) ∧ w' = w := by
  obtain ⟨h0, h1⟩ := h.blk.c1
  cases st with
  | none =>
    go_enter Try.func89, Try.ntmps89
    go_wp2_with (go_at_call 69; refine (good_any h).mono ?_; rintro e w1 ⟨rfl, rfl⟩)
    go_ret
    exact ⟨rfl, rfl⟩
  | some l =>
    obtain ⟨A, c, rfl, g1, g2, g3, g4⟩ := h.row.open_
    simp only [Option.getD_some] at h0
    have hr : isWhole (some l) = ((l.length : Int) == 0) := by cases l <;> simp [isWhole]; omega
    rw [hr]
    go_enter Try.func89, Try.ntmps89
    go_wp2_with (go_at_call 69; refine (good_any h).mono ?_; rintro e w1 ⟨rfl, rfl⟩)
    go_ret
    exact ⟨rfl, rfl⟩
theorem left_any {w : World} {b : Nat} {S : Nat → Prop} {v : Value} {st : Option (List UInt8)} (h : Rd w b S v st) : Calls Try.prog 67 #[.pointer (some ⟨b, 0, none⟩)] w fun e w' => e = .returned (.int .i64 ((st.getD []).length : Nat)) ∧ w' = w := by
  obtain ⟨h0, h1⟩ := h.blk.c1
  cases st with
  | none =>
    go_enter Try.func67, Try.ntmps67
    go_wp2_with (go_at_call 69; refine (good_any h).mono ?_; rintro e w1 ⟨rfl, rfl⟩)
    go_ret
    exact ⟨rfl, rfl⟩
  | some l =>
    obtain ⟨A, c, rfl, g1, g2, g3, g4⟩ := h.row.open_
    simp only [Option.getD_some] at h0 g1
    simp only [Option.getD_some]
    go_enter Try.func67, Try.ntmps67
    go_wp2_with (go_at_call 69; refine (good_any h).mono ?_; rintro e w1 ⟨rfl, rfl⟩)
    go_ret
    exact ⟨rfl, rfl⟩
theorem bad_any {w : World} {b : Nat} {S : Nat → Prop} {v : Value} {st : Option (List UInt8)} (h : Rd w b S v st) :
    Calls Try.prog 92 #[.pointer (some ⟨b, 0, none⟩)] w fun e w' => e = .returned (.tuple #[]) ∧ Rd w' b S (.slice none 0 0) none ∧ Mod (fun k => k = b) w w' ∧ w'.heap.size = w.heap.size := by
  obtain ⟨h0, h1⟩ := h.blk.c1
  have hf0 := h.blk.frozen 0
  have hf1 := h.blk.frozen 1
  go_enter Try.func92, Try.ntmps92
  go_wp2
  go_end0
  refine ⟨rfl, ⟨(h.blk.set_ 1 _).set_ 0 _, Sl.nil _ _, h.off⟩, ((Mod.refl (fun k => k = b) w).setCell (fun _ => rfl) _).setCell (fun _ => rfl) _, by simp [World.setCell]⟩
/-- So many bytes, taken. -/
def takeRaw (n : Int) (st : Option (List UInt8)) : List UInt8 × Option (List UInt8) :=
  match st with
  | none => ([], none)
  | some l => if n < 0 ∨ (l.length : Int) < n then ([], none) else (l.take n.toNat, some (l.drop n.toNat))
set_option maxHeartbeats 400000 in
theorem raw_any {w : World} {b : Nat} {S : Nat → Prop} {v : Value} {st : Option (List UInt8)} (hrd : Rd w b S v st) (n : Int) (hl : (st.getD []).length ≤ 281474976710656) :
    Calls Try.prog 102 #[.pointer (some ⟨b, 0, none⟩), .int .i64 n] w fun e w' => ∃ v' v1, e = .returned v1 ∧ Rd w' b S v' (takeRaw n st).2 ∧ Own w' 5 v1 ((takeRaw n st).1.map bv) ∧ Fresh w.heap.size v1 ∧ Mod (fun k => k = b) w w' := by
  obtain ⟨h0, h1⟩ := hrd.blk.c1
  cases st with
  | none =>
    go_enter Try.func102, Try.ntmps102
    go_wp2_with (go_at_call 69; refine (good_any hrd).mono ?_; rintro e w1 ⟨rfl, rfl⟩)
    go_ret
    exact ⟨v, _, rfl, hrd, Own.nil _ _, fresh_nil _ _ _, Mod.refl _ _⟩
  | some l =>
    obtain ⟨A, c, rfl, g1, g2, g3, g4⟩ := hrd.row.open_
    simp only [Option.getD_some] at h0 g1 g2 g3 g4 hl
    by_cases hn : n < 0 ∨ (l.length : Int) < n
    · have e1 : takeRaw n (some l) = ([], none) := by simp [takeRaw, hn]
      rw [e1]
      clear e1
      rcases hn with hn | hn
      · have hb1 : decide (n < 0) = true := by simpa using hn
        go_enter Try.func102, Try.ntmps102
        go_wp2_with (first | (go_at_call 69; refine (good_any hrd).mono ?_; rintro e w1 ⟨rfl, rfl⟩) | (go_at_call 92; refine (bad_any hrd).mono ?_; rintro e w1 ⟨rfl, k1, k2, k3⟩))
        go_ret
        exact ⟨_, _, rfl, k1, Own.nil _ _, fresh_nil _ _ _, k2⟩
      · have hb1 : decide (n < 0) = false := by simp; omega
        have hb2 : decide ((l.length : Int) < n) = true := by simpa using hn
        go_enter Try.func102, Try.ntmps102
        go_wp2_with (first | (go_at_call 69; refine (good_any hrd).mono ?_; rintro e w1 ⟨rfl, rfl⟩) | (go_at_call 92; refine (bad_any hrd).mono ?_; rintro e w1 ⟨rfl, k1, k2, k3⟩))
        go_ret
        exact ⟨_, _, rfl, k1, Own.nil _ _, fresh_nil _ _ _, k2⟩
    · obtain ⟨m, rfl⟩ := Int.eq_ofNat_of_zero_le (show 0 ≤ n by omega)
      have hm : m ≤ l.length := by
        have h9 : ¬ (l.length : Int) < (m : Int) := fun h => hn (.inr h)
        omega
      have e1 : takeRaw (m : Int) (some l) = (l.take m, some (l.drop m)) := by simp only [takeRaw]; rw [if_neg hn]; simp
      rw [e1]
      clear e1
      have hb1 : decide ((m : Int) < 0) = false := by rw [decide_eq_false_iff_not]; omega
      have hb2 : decide ((l.length : Int) < (m : Int)) = false := by rw [decide_eq_false_iff_not]; omega
      have hbs : Bs w S (.slice A m c) (l.take m) := Bs.begin hrd.row hm
      go_enter Try.func102, Try.ntmps102
      go_wp2_with (first | (go_at_call 69; refine (good_any hrd).mono ?_; rintro e w1 ⟨rfl, rfl⟩) | (go_at_call 91; refine (own_any hbs (by simp; omega)).mono ?_; rintro e w1 ⟨v1, rfl, k1, k2, k3, k4⟩; have h' := hrd.mod k3 (fun h => h) (fun _ _ _ h => h); obtain ⟨h0', h1'⟩ := h'.blk.c1; have hf0 := h'.blk.frozen 0))
      · have hcm : c = m := by assumption
        go_ret
        have hr : Bs w1 S _ _ := Bs.rest0 h'.row hm hcm
        refine ⟨_, v1, rfl, ⟨h'.blk.set_ 0 _, hr.mod ((Mod.refl (fun k => k = b) w1).setCell (fun _ => rfl) _) (fun k _ hs e => hrd.off (e ▸ hs)), hrd.off⟩, ?_, ?_, (k3.mono (G := fun k => k = b) fun _ _ h => h.elim).setCell (fun _ => rfl) _⟩
        · simpa using k1.mod ((Mod.refl (fun k => k = b) w1).setCell (fun _ => rfl) _) (fun k hk e => by have := hrd.blk.lt; rw [own, k2] at hk; injection hk; omega)
        · intro k hk; rw [k2] at hk; injection hk; omega
      · go_ret
        have hr : Bs w1 S _ _ := Bs.rest h'.row hm
        refine ⟨_, v1, rfl, ⟨h'.blk.set_ 0 _, hr.mod ((Mod.refl (fun k => k = b) w1).setCell (fun _ => rfl) _) (fun k _ hs e => hrd.off (e ▸ hs)), hrd.off⟩, ?_, ?_, (k3.mono (G := fun k => k = b) fun _ _ h => h.elim).setCell (fun _ => rfl) _⟩
        · simpa using k1.mod ((Mod.refl (fun k => k = b) w1).setCell (fun _ => rfl) _) (fun k hk e => by have := hrd.blk.lt; rw [own, k2] at hk; injection hk; omega)
        · intro k hk; rw [k2] at hk; injection hk; omega
end Go.Proofs.Ytlfooppmdgddkaa

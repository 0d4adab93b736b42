/- filter: the program's reader: next, take, escape. -/
import Derived.Test.YtekocbphdckmkaaFpA
namespace Go.Proofs.Ytekocbphdckmkaa
open Go.RowKit
set_option maxRecDepth 100000

def preB (x p : List UInt8) : Bool := decide (p.length ≤ x.length) && (x.take p.length == p)
theorem ext_head (l : List UInt8) (n : Nat) : Value.string ((⟨l.toArray⟩ : ByteArray).extract 0 n) = sv (l.take n) := by
  congr 1
  apply ByteArray.ext
  simp [ByteArray.data_extract]
theorem ext_tail (l : List UInt8) (n : Nat) : Value.string ((⟨l.toArray⟩ : ByteArray).extract n l.length) = sv (l.drop n) := by
  rw [ext_sv, List.take_of_length_le (by simp)]
set_option maxHeartbeats 2000000 in
theorem pre0_any {w : World} {x p : List UInt8} :
    Calls Try.prog 56 #[sv x, sv p] w fun e w' => e = .returned (.bool (preB x p)) ∧ w' = w := by
  have hsx := sv_size x
  have hsp := sv_size p
  obtain ⟨q, hq⟩ : ∃ q, q = preB x p := ⟨_, rfl⟩
  rw [← hq]
  unfold preB at hq
  by_cases hl : p.length ≤ x.length
  · have hb : decide ((p.length : Int) ≤ (x.length : Int)) = true := dtrue (by omega)
    rw [decide_eq_true hl, Bool.true_and] at hq
    have he := ext_head x p.length
    have hi0 : (0 : Int) ≤ (p.length : Int) := by omega
    have hi1 : (p.length : Int) ≤ (x.length : Int) := by omega
    go_enter Try.func56, Try.ntmps56
    go_wp2_with fail
    subst hq
    go_ret
    exact ⟨rfl, rfl⟩
  · have hb : decide ((p.length : Int) ≤ (x.length : Int)) = false := dfalse (by omega)
    rw [decide_eq_false hl, Bool.false_and] at hq
    subst hq
    go_enter Try.func56, Try.ntmps56
    go_wp2_with fail
    go_ret
    exact ⟨rfl, rfl⟩
set_option maxHeartbeats 2000000 in
theorem pre_any {w : World} {x p : List UInt8} :
    Calls Try.prog 45 #[sv x, sv p] w fun e w' => e = .returned (.bool (preB x p)) ∧ w' = w := by
  have hc := pre0_any (w := w) (x := x) (p := p)
  generalize preB x p = q at *
  go_enter Try.func45, Try.ntmps45
  go_wp2_with fail
  refine hc.mono ?_
  rintro e w1 ⟨rfl, rfl⟩
  clear hc
  go_wp2_with fail
  go_ret
  exact ⟨rfl, rfl⟩
theorem Rd.go {w : World} {g : Nat} {s : List UInt8} {k j : Nat} (h : Rd w g s k) : Rd (w.setCell ⟨g, 1, none⟩ (.int .i64 (j : Int))) g s j := Blk.set_ h 1 _
set_option maxHeartbeats 4000000 in
theorem next_any {w : World} {g : Nat} {s : List UInt8} {k : Nat} (h : Rd w g s k) (hk : k ≤ s.length) :
    Calls Try.prog 30 #[.pointer (some ⟨g, 0, none⟩)] w fun e w' => e = .returned (bv ((s.drop k).headD 0)) ∧ ∃ m, w' = w.drewN m := by
  have hsz := sv_size s
  obtain ⟨c0, c1⟩ := h.c
  by_cases hlt : k < s.length
  · have hkb : ((k : Int) == (s.length : Int)) = false := beq_eq_false_iff_ne.2 (by omega)
    obtain ⟨c, hck⟩ : ∃ c, c = s[k] := ⟨_, rfl⟩
    have hg : ∀ h', (⟨s.toArray⟩ : ByteArray)[k]'h' = c := fun h' => (sv_get s k hlt h').trans hck.symm
    have hi0 : (0 : Int) ≤ (k : Int) := by omega
    have hi1 : (k : Int) < (s.length : Int) := by omega
    have hr : (s.drop k).headD 0 = c := by rw [List.drop_eq_getElem_cons hlt, hck]; rfl
    rw [hr]
    clear h hr hck
    go_enter Try.func30, Try.ntmps30
    go_wp2_with fail
    go_quiet (fail)
    go_wp2_with fail
    go_quiet (fail)
    go_wp2_with fail
    go_ret
    exact ⟨rfl, _, World.drewN_drewN _ _ _⟩
  · have hkb : ((k : Int) == (s.length : Int)) = true := beq_iff_eq.2 (by omega)
    have hr : (s.drop k).headD 0 = 0 := by rw [List.drop_of_length_le (by omega)]; rfl
    rw [hr]
    clear h hr
    go_enter Try.func30, Try.ntmps30
    go_wp2_with fail
    go_quiet (fail)
    go_wp2_with fail
    go_ret
    exact ⟨rfl, _, rfl⟩
set_option maxHeartbeats 4000000 in
theorem take_any {w : World} {g : Nat} {s : List UInt8} {k : Nat} (h : Rd w g s k) (hk : k ≤ s.length) (hl : s.length ≤ 140737488351232) (t : List UInt8) (ht : t.length ≤ 1000) :
    Calls Try.prog 32 #[.pointer (some ⟨g, 0, none⟩), sv t] w fun e w' => ∃ b, e = .returned (.bool b) ∧ b = preB (s.drop k) t ∧ Rd w' g s (if b = true then k + t.length else k) ∧ Mod (fun b => b = g) w w' := by
  have hsz := sv_size s
  have hst := sv_size t
  obtain ⟨c0, c1⟩ := h.c
  obtain ⟨q, hq⟩ : ∃ q, q = preB (s.drop k) t := ⟨_, rfl⟩
  rw [← hq]
  have hpc := fun n => pre_any (w := w.drewN n) (x := s.drop k) (p := t)
  rw [← hq] at hpc
  have hex := ext_tail s k
  have hi0 : (0 : Int) ≤ (k : Int) := by omega
  have hi1 : (k : Int) ≤ (s.length : Int) := by omega
  replace hpc := Lib.hid hpc
  clear hq
  go_enter Try.func32, Try.ntmps32
  go_wp2_with fail
  go_quiet ((go_at_call 45; (with_reducible refine Calls.quiet_of_same (hpc.out _))))
  obtain ⟨w1, hw1⟩ : ∃ x, x = w.drewN nq := ⟨_, rfl⟩
  rw [← hw1]
  have x1 : Ext w w1 := by rw [hw1]; exact (Mod.refl _ w).drewN nq
  clear hw1 c0 c1
  have r1 := h.mod x1 (fun h => h)
  have m1 : Mod (fun b => b = g) w w1 := x1.mono (fun _ _ h => h.elim)
  clear h x1
  obtain ⟨c0, c1⟩ := r1.c
  have z1 := Blk.frozen r1 1
  cases q
  · go_wp2_with fail
    go_ret
    exact ⟨_, rfl, rfl, r1, m1⟩
  · have hr2 : Rd (w1.setCell ⟨g, 1, none⟩ (.int .i64 ((k : Int) + (t.length : Int)))) g s (k + t.length) := by
      have := r1.go (j := k + t.length)
      rwa [Int.natCast_add] at this
    have m2 := m1.then_ (step_mod (w := w1) (g := g) (.int .i64 ((k : Int) + (t.length : Int)))) (fun _ _ h => h)
    go_wp2_with fail
    go_ret
    exact ⟨_, rfl, rfl, hr2, m2⟩
end Go.Proofs.Ytekocbphdckmkaa

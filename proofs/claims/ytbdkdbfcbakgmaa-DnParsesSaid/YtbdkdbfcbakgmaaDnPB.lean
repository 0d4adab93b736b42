/- dn: the reader: is, blanks. -/
import Derived.Test.YtbdkdbfcbakgmaaDnPA
namespace Go.Proofs.Ytbdkdbfcbakgmaa
open Go.RowKit
set_option maxRecDepth 100000

set_option maxHeartbeats 4000000 in
theorem rdis_any {w : World} {g : Nat} {s : List UInt8} {k : Nat} (h : Rd w g s k) (hk : k ≤ s.length) (b : UInt8) :
    Calls Try.prog 68 #[.pointer (some ⟨g, 0, none⟩), .int .u8 (b.toNat : Int)] w fun e w' => e = .returned (.bool (decide (s[k]? = some b))) ∧ ∃ m, w' = w.drewN m := by
  have hsz := sv_size s
  obtain ⟨c0, c1⟩ := h.c
  have he := fun n => rend_any (h.drewN n)
  by_cases hlt : k < s.length
  · have hd : decide (k = s.length) = false := dfalse (by omega)
    rw [hd] at he
    obtain ⟨c, hck⟩ : ∃ c, c = s[k] := ⟨_, rfl⟩
    have hres : decide (s[k]? = some b) = ((c.toNat : Int) == (b.toNat : Int)) := by
      rw [Bool.eq_iff_iff, decide_eq_true_eq, beq_iff_eq, List.getElem?_eq_getElem hlt, Option.some.injEq, ← UInt8.toNat_inj, ← hck]
      omega
    have hg : ∀ h', (⟨s.toArray⟩ : ByteArray)[k]'h' = c := fun h' => (sv_get s k hlt h').trans hck.symm
    clear hck
    replace hres := Lib.hid hres
    replace he := Lib.hid he
    have hi0 : (0 : Int) ≤ (k : Int) := by omega
    have hi1 : (k : Int) < (s.length : Int) := by omega
    clear hd h
    go_enter Try.func68, Try.ntmps68
    go_wp2_with fail
    go_quiet ((go_at_call 50; refine Calls.quiet_of (he.out _)))
    go_wp2_with fail
    go_ret
    exact ⟨by rw [hres.out]; rfl, _, rfl⟩
  · have hd : decide (k = s.length) = true := dtrue (by omega)
    rw [hd] at he
    have hres : decide (s[k]? = some b) = false := dfalse (by rw [List.getElem?_eq_none (by omega)]; simp)
    replace hres := Lib.hid hres
    replace he := Lib.hid he
    clear hd h
    go_enter Try.func68, Try.ntmps68
    go_wp2_with fail
    go_quiet ((go_at_call 50; refine Calls.quiet_of (he.out _)))
    go_wp2_with fail
    go_ret
    exact ⟨by rw [hres.out]; rfl, _, rfl⟩

/-- What stands behind blanks. -/
def skipB : List UInt8 → List UInt8
  | [] => []
  | b :: l => if b = 32 then skipB l else b :: l
/-- How far a reader has come. -/
def rdAt (w : World) (g : Nat) : Nat := (intOf ((w.cell? ⟨g, 1, none⟩).getD undef)).toNat
theorem Rd.at_ {w : World} {g : Nat} {s : List UInt8} {k : Nat} (h : Rd w g s k) : rdAt w g = k := by
  unfold rdAt
  rw [h.c.2]
  simp [intOf]

set_option maxHeartbeats 4000000 in
theorem blanks_any {w : World} {g : Nat} {s : List UInt8} {k : Nat} (h : Rd w g s k) (hk : k ≤ s.length) (hl : s.length ≤ 140737488351232) :
    Calls Try.prog 67 #[.pointer (some ⟨g, 0, none⟩)] w fun e w' => e = .returned (.tuple #[]) ∧ ∃ j, k ≤ j ∧ j ≤ s.length ∧ s.drop j = skipB (s.drop k) ∧ Rd w' g s j ∧ Mod (fun b => b = g) w w' := by
  go_enter Try.func67, Try.ntmps67
  go_wp2_with fail
  go_loopw [] (fun wr => ∃ j : Nat, k ≤ j ∧ j ≤ s.length ∧ Hid (skipB (s.drop j) = skipB (s.drop k)) ∧ Rd wr g s j ∧ Mod (fun b => b = g) w wr) (fun wr => s.length - rdAt wr g)
  case atStart => exact ⟨k, Nat.le_refl _, hk, Lib.hid rfl, h, Mod.refl _ _⟩
  case round =>
    obtain ⟨j, hj, hjl, hs, hr, hm⟩ := hrel
    go_wp2_with fail
    refine (rdis_any hr hjl 32).mono ?_
    rintro e w2 ⟨rfl, m2, hw2⟩
    have x2 : Ext wr w2 := by rw [hw2]; exact (Mod.refl _ wr).drewN m2
    clear hw2
    have hr2 := hr.mod x2 (fun h => h)
    have hm2 : Mod (fun b => b = g) w w2 := hm.then_ x2 (fun _ _ h => h.elim)
    by_cases hb : s[j]? = some 32
    · rw [decide_eq_true hb]
      have hlt : j < s.length := (List.getElem?_eq_some_iff.1 hb).1
      obtain ⟨c0, c1⟩ := hr2.c
      have z1 : w2.frozen? ⟨g, 1, none⟩ = false := Blk.frozen hr2 1
      have hsk : skipB (s.drop (j + 1)) = skipB (s.drop j) := by
        rw [List.drop_eq_getElem_cons hlt, skipB, if_pos (by have := (List.getElem?_eq_some_iff.1 hb).2; exact this)]
      go_wp2_with fail
      refine ⟨⟨j + 1, by omega, by omega, Lib.hid (hsk.trans hs.out), hr2.step, hm2.then_ (step_mod _) (fun _ _ h => h)⟩, ?_⟩
      rw [hr2.step.at_, hr.at_]; omega
    · rw [decide_eq_false hb]
      have hsk : s.drop j = skipB (s.drop k) := by
        rw [← hs.out]
        by_cases hlt : j < s.length
        · rw [List.drop_eq_getElem_cons hlt, skipB, if_neg]
          intro h; exact hb (by rw [List.getElem?_eq_getElem hlt, h])
        · rw [List.drop_of_length_le (by omega)]; rfl
      replace hsk := Lib.hid hsk
      go_wp2_with fail
      go_end0
      exact ⟨rfl, j, hj, hjl, hsk.out, hr2, hm2⟩
end Go.Proofs.Ytbdkdbfcbakgmaa

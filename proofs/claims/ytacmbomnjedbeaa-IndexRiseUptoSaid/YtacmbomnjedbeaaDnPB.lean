/- dn: the reader: end, is, blanks; digit; IndexByte. -/
import Derived.Test.YtacmbomnjedbeaaDnC
import Derived.Lib.Bytealg
import Derived.Deep.RegionHeld3
import Derived.Deep.QuietTactic
import Derived.BigQuiet
namespace Go.Proofs.Ytacmbomnjedbeaa
open Go.RowKit
set_option maxRecDepth 100000

theorem slite_any {w : World} (l : List UInt8) (b : UInt8) :
    Calls Try.prog 106 #[sv l, .int .u8 (b.toNat : Int)] w fun e w' => e = .returned (.int .i64 (Lib.indexByte l b)) ∧ w' = w := by
  have hb : (b.toNat : Int).toNat.toUInt8 = b := by rw [Int.toNat_natCast]; exact UInt8.ofNat_toNat
  go_enter Try.func106, Try.ntmps106
  go_wp2_with fail
  rw [run_callFunc_extern Try.func108 (by kernel_rfl) (by kernel_rfl) (by kernel_rfl) (e := Extern.BytealgIndexByte.indexByte) (by kernel_rfl), Lib.run_indexByteString, hb]
  simp only [Result.andThen]
  rw [Oper.upon_value]
  go_wp2_with fail
  go_ret
  exact ⟨rfl, rfl⟩
theorem sidx_any {w : World} (l : List UInt8) (b : UInt8) :
    Calls Try.prog 100 #[sv l, .int .u8 (b.toNat : Int)] w fun e w' => e = .returned (.int .i64 (Lib.indexByte l b)) ∧ w' = w := by
  go_enter Try.func100, Try.ntmps100
  go_wp2_with fail
  refine (slite_any l b).mono ?_
  rintro e w1 ⟨rfl, hw⟩
  rw [hw]
  go_wp2_with fail
  go_ret
  exact ⟨rfl, rfl⟩
theorem idx_mem (l : List UInt8) (b : UInt8) : decide ((0 : Int) ≤ Lib.indexByte l b) = decide (b ∈ l) := by
  apply decide_eq_decide.2
  induction l with
  | nil => simp [Lib.indexByte]
  | cons a l ih =>
    have hge := Lib.indexByte_ge l b
    unfold Lib.indexByte
    by_cases h : a = b
    · simp [h]
    · rw [if_neg (by simpa using h)]
      by_cases h2 : Lib.indexByte l b = -1
      · rw [if_pos (by simpa using h2)]
        rw [h2] at ih
        simp only [List.mem_cons]
        constructor
        · intro h3; omega
        · rintro (h3 | h3)
          · exact absurd h3.symm h
          · have := ih.2 h3; omega
      · rw [if_neg (by simpa using h2)]
        simp only [List.mem_cons]
        constructor
        · intro _; exact .inr (ih.1 (by omega))
        · rintro (h3 | h3)
          · exact absurd h3.symm h
          · have := ih.2 h3; omega

/-- A digit of sixteen. -/
def digB (b : UInt8) : Option UInt8 := if 48 ≤ b.toNat ∧ b.toNat ≤ 57 then some (b - 48) else if 97 ≤ b.toNat ∧ b.toNat ≤ 102 then some (b - 97 + 10) else if 65 ≤ b.toNat ∧ b.toNat ≤ 70 then some (b - 65 + 10) else none
theorem digit_any {w : World} (b : UInt8) :
    Calls Try.prog 107 #[.int .u8 (b.toNat : Int)] w fun e w' => e = .returned (.tuple #[.int .u8 ((digB b).getD 0).toNat, .bool (digB b).isSome]) ∧ w' = w := by
  have h8 := b.toNat_lt
  unfold digB
  by_cases h1 : 48 ≤ b.toNat ∧ b.toNat ≤ 57
  · rw [if_pos h1]
    have a1 : (48 : Int) ≤ (b.toNat : Int) := by omega
    have a2 : (b.toNat : Int) ≤ 57 := by omega
    have hv : ((b - 48).toNat : Int) = (b.toNat : Int) - 48 := by rw [UInt8.toNat_sub, show (48 : UInt8).toNat = 48 from rfl]; omega
    simp only [Option.getD_some, Option.isSome_some]
    rw [hv]
    go_enter Try.func107, Try.ntmps107
    go_wp2_with fail
    go_ret2
    exact ⟨rfl, rfl⟩
  rw [if_neg h1]
  by_cases h2 : 97 ≤ b.toNat ∧ b.toNat ≤ 102
  · rw [if_pos h2]
    have a1 : (97 : Int) ≤ (b.toNat : Int) := by omega
    have a2 : (b.toNat : Int) ≤ 102 := by omega
    have hv : ((b - 97 + 10).toNat : Int) = (b.toNat : Int) - 97 + 10 := by
      rw [UInt8.toNat_add, UInt8.toNat_sub, show (97 : UInt8).toNat = 97 from rfl, show (10 : UInt8).toNat = 10 from rfl]; omega
    simp only [Option.getD_some, Option.isSome_some]
    rw [hv]
    go_enter Try.func107, Try.ntmps107
    go_wp2_with fail
    go_ret2
    exact ⟨rfl, rfl⟩
  rw [if_neg h2]
  by_cases h3 : 65 ≤ b.toNat ∧ b.toNat ≤ 70
  · rw [if_pos h3]
    have a1 : (65 : Int) ≤ (b.toNat : Int) := by omega
    have a2 : (b.toNat : Int) ≤ 70 := by omega
    have hv : ((b - 65 + 10).toNat : Int) = (b.toNat : Int) - 65 + 10 := by
      rw [UInt8.toNat_add, UInt8.toNat_sub, show (65 : UInt8).toNat = 65 from rfl, show (10 : UInt8).toNat = 10 from rfl]; omega
    simp only [Option.getD_some, Option.isSome_some]
    rw [hv]
    go_enter Try.func107, Try.ntmps107
    go_wp2_with fail
    go_ret2
    exact ⟨rfl, rfl⟩
  rw [if_neg h3]
  simp only [Option.getD_none, Option.isSome_none]
  have k1 : (decide ((48 : Int) ≤ (b.toNat : Int)) && decide ((b.toNat : Int) ≤ 57)) = false := by rw [Bool.and_eq_false_iff, decide_eq_false_iff_not, decide_eq_false_iff_not]; omega
  have k2 : (decide ((97 : Int) ≤ (b.toNat : Int)) && decide ((b.toNat : Int) ≤ 102)) = false := by rw [Bool.and_eq_false_iff, decide_eq_false_iff_not, decide_eq_false_iff_not]; omega
  have k3 : (decide ((65 : Int) ≤ (b.toNat : Int)) && decide ((b.toNat : Int) ≤ 70)) = false := by rw [Bool.and_eq_false_iff, decide_eq_false_iff_not, decide_eq_false_iff_not]; omega
  go_enter Try.func107, Try.ntmps107
  go_wp2_with fail
  all_goals first
    | (exfalso; omega)
    | (go_ret2; exact ⟨rfl, rfl⟩)

/-- A reader of the text s stands at k. -/
def Rd (w : World) (g : Nat) (s : List UInt8) (k : Nat) : Prop := Blk w g 107 #[sv s, .int .i64 k]
theorem Rd.c {w : World} {g : Nat} {s : List UInt8} {k : Nat} (h : Rd w g s k) : w.cell? ⟨g, 0, none⟩ = some (sv s) ∧ w.cell? ⟨g, 1, none⟩ = some (.int .i64 k) := ⟨Blk.cell h 0, Blk.cell h 1⟩
theorem Rd.mod {w w' : World} {g : Nat} {s : List UInt8} {k : Nat} {F : Nat → Prop} (h : Rd w g s k) (hm : Mod F w w') (hg : ¬ F g) : Rd w' g s k := Blk.mod h hm hg
theorem Rd.step {w : World} {g : Nat} {s : List UInt8} {k : Nat} (h : Rd w g s k) : Rd (w.setCell ⟨g, 1, none⟩ (.int .i64 ((k : Int) + 1))) g s (k + 1) := Blk.set_ h 1 _
theorem step_mod {w : World} {g : Nat} (u : Value) : Mod (fun b => b = g) w (w.setCell ⟨g, 1, none⟩ u) := (Mod.refl (fun b => b = g) w).setCell (p := ⟨g, 1, none⟩) (fun _ => rfl) u

set_option maxHeartbeats 2000000 in
theorem rend_any {w : World} {g : Nat} {s : List UInt8} {k : Nat} (h : Rd w g s k) :
    Calls Try.prog 83 #[.pointer (some ⟨g, 0, none⟩)] w fun e w' => e = .returned (.bool (decide (k = s.length))) ∧ ∃ m, w' = w.drewN m := by
  obtain ⟨c0, c1⟩ := h.c
  have hsz := sv_size s
  have hk : ((k : Int) == (s.length : Int)) = decide (k = s.length) := by
    rw [Bool.eq_iff_iff, beq_iff_eq, decide_eq_true_eq]; omega
  replace hk := Lib.hid hk
  go_enter Try.func83, Try.ntmps83
  go_wp2_with fail
  go_quiet (fail)
  go_wp2_with fail
  go_ret
  exact ⟨by rw [← hk.out]; rfl, _, rfl⟩
theorem Rd.drewN {w : World} {g : Nat} {s : List UInt8} {k : Nat} (h : Rd w g s k) (n : Nat) : Rd (w.drewN n) g s k := h.mod ((Mod.refl (fun _ => False) w).drewN n) (fun h => h)
end Go.Proofs.Ytacmbomnjedbeaa
namespace Go.Proofs.Ytacmbomnjedbeaa
open Go.RowKit
set_option maxRecDepth 100000

set_option maxHeartbeats 4000000 in
theorem rdis_any {w : World} {g : Nat} {s : List UInt8} {k : Nat} (h : Rd w g s k) (hk : k ≤ s.length) (b : UInt8) :
    Calls Try.prog 98 #[.pointer (some ⟨g, 0, none⟩), .int .u8 (b.toNat : Int)] w fun e w' => e = .returned (.bool (decide (s[k]? = some b))) ∧ ∃ m, w' = w.drewN m := by
  have hsz := sv_size s
  obtain ⟨c0, c1⟩ := h.c
  have he := fun n => rend_any (h.drewN n)
  by_cases hlt : k < s.length
  · have hd : decide (k = s.length) = false := dfalse (by omega)
    rw [hd] at he
    obtain ⟨c, hck⟩ : ∃ c, c = s[k] := ⟨_, rfl⟩
    have hres : decide (s[k]? = some b) = ((c.toNat : Int) == (b.toNat : Int)) := by
      rw [Bool.eq_iff_iff, decide_eq_true_eq, beq_iff_eq, List.getElem?_eq_getElem hlt, Option.some.injEq, ← UInt8.toNat_inj, ← hck]
      omega
    have hg : ∀ h', (⟨s.toArray⟩ : ByteArray)[k]'h' = c := fun h' => (sv_get s k hlt h').trans hck.symm
    clear hck
    replace hres := Lib.hid hres
    replace he := Lib.hid he
    have hi0 : (0 : Int) ≤ (k : Int) := by omega
    have hi1 : (k : Int) < (s.length : Int) := by omega
    clear hd h
    go_enter Try.func98, Try.ntmps98
    go_wp2_with fail
    go_quiet ((go_at_call 83; refine Calls.quiet_of (he.out _)))
    go_wp2_with fail
    go_ret
    exact ⟨by rw [hres.out]; rfl, _, rfl⟩
  · have hd : decide (k = s.length) = true := dtrue (by omega)
    rw [hd] at he
    have hres : decide (s[k]? = some b) = false := dfalse (by rw [List.getElem?_eq_none (by omega)]; simp)
    replace hres := Lib.hid hres
    replace he := Lib.hid he
    clear hd h
    go_enter Try.func98, Try.ntmps98
    go_wp2_with fail
    go_quiet ((go_at_call 83; refine Calls.quiet_of (he.out _)))
    go_wp2_with fail
    go_ret
    exact ⟨by rw [hres.out]; rfl, _, rfl⟩

/-- What stands behind blanks. -/
def skipB : List UInt8 → List UInt8
  | [] => []
  | b :: l => if b = 32 then skipB l else b :: l
/-- How far a reader has come. -/
def rdAt (w : World) (g : Nat) : Nat := (intOf ((w.cell? ⟨g, 1, none⟩).getD undef)).toNat
theorem Rd.at_ {w : World} {g : Nat} {s : List UInt8} {k : Nat} (h : Rd w g s k) : rdAt w g = k := by
  unfold rdAt
  rw [h.c.2]
  simp [intOf]

set_option maxHeartbeats 4000000 in
theorem blanks_any {w : World} {g : Nat} {s : List UInt8} {k : Nat} (h : Rd w g s k) (hk : k ≤ s.length) (hl : s.length ≤ 140737488351232) :
    Calls Try.prog 95 #[.pointer (some ⟨g, 0, none⟩)] w fun e w' => e = .returned (.tuple #[]) ∧ ∃ j, k ≤ j ∧ j ≤ s.length ∧ s.drop j = skipB (s.drop k) ∧ Rd w' g s j ∧ Mod (fun b => b = g) w w' := by
  go_enter Try.func95, Try.ntmps95
  go_wp2_with fail
  go_loopw [] (fun wr => ∃ j : Nat, k ≤ j ∧ j ≤ s.length ∧ Hid (skipB (s.drop j) = skipB (s.drop k)) ∧ Rd wr g s j ∧ Mod (fun b => b = g) w wr) (fun wr => s.length - rdAt wr g)
  case atStart => exact ⟨k, Nat.le_refl _, hk, Lib.hid rfl, h, Mod.refl _ _⟩
  case round =>
    obtain ⟨j, hj, hjl, hs, hr, hm⟩ := hrel
    go_wp2_with fail
    refine (rdis_any hr hjl 32).mono ?_
    rintro e w2 ⟨rfl, m2, hw2⟩
    have x2 : Ext wr w2 := by rw [hw2]; exact (Mod.refl _ wr).drewN m2
    clear hw2
    have hr2 := hr.mod x2 (fun h => h)
    have hm2 : Mod (fun b => b = g) w w2 := hm.then_ x2 (fun _ _ h => h.elim)
    by_cases hb : s[j]? = some 32
    · rw [decide_eq_true hb]
      have hlt : j < s.length := (List.getElem?_eq_some_iff.1 hb).1
      obtain ⟨c0, c1⟩ := hr2.c
      have z1 : w2.frozen? ⟨g, 1, none⟩ = false := Blk.frozen hr2 1
      have hsk : skipB (s.drop (j + 1)) = skipB (s.drop j) := by
        rw [List.drop_eq_getElem_cons hlt, skipB, if_pos (by have := (List.getElem?_eq_some_iff.1 hb).2; exact this)]
      go_wp2_with fail
      refine ⟨⟨j + 1, by omega, by omega, Lib.hid (hsk.trans hs.out), hr2.step, hm2.then_ (step_mod _) (fun _ _ h => h)⟩, ?_⟩
      rw [hr2.step.at_, hr.at_]; omega
    · rw [decide_eq_false hb]
      have hsk : s.drop j = skipB (s.drop k) := by
        rw [← hs.out]
        by_cases hlt : j < s.length
        · rw [List.drop_eq_getElem_cons hlt, skipB, if_neg]
          intro h; exact hb (by rw [List.getElem?_eq_getElem hlt, h])
        · rw [List.drop_of_length_le (by omega)]; rfl
      replace hsk := Lib.hid hsk
      go_wp2_with fail
      go_end0
      exact ⟨rfl, j, hj, hjl, hsk.out, hr2, hm2⟩
end Go.Proofs.Ytacmbomnjedbeaa

/- dn: the reader: end, is, blanks; digit; IndexByte. -/
import Derived.Test.YtacmbomnjedbeaaDnC
import Derived.Lib.Bytealg
import Derived.Deep.RegionHeld3
import Derived.Deep.QuietTactic
import Derived.BigQuiet
import Derived.Test.YtacmbomnjedbeaaRecB
import Derived.Laws.ResultCell
namespace Go.Proofs.Ytacmbomnjedbeaa
open Go.RowKit
set_option maxRecDepth 100000

theorem slite_any {w : World} (l : List UInt8) (b : UInt8) :
    Calls Try.prog 106 #[sv l, .int .u8 (b.toNat : Int)] w fun e w' => e = .returned (.int .i64 (Lib.indexByte l b)) ∧ w' = w := by
  have hb : (b.toNat : Int).toNat.toUInt8 = b := by rw [Int.toNat_natCast]; exact UInt8.ofNat_toNat
  go_enter Try.func106, Try.ntmps106
  go_wp2_with fail
  rw [run_callFunc_extern Try.func108 (by kernel_rfl) (by kernel_rfl) (by kernel_rfl) (e := Extern.BytealgIndexByte.indexByte) (by kernel_rfl), Lib.run_indexByteString, hb]
  simp only [Result.andThen]
  rw [Oper.upon_value]
  go_wp2_with fail
  go_ret
  exact ⟨rfl, rfl⟩
theorem sidx_any {w : World} (l : List UInt8) (b : UInt8) :
    Calls Try.prog 100 #[sv l, .int .u8 (b.toNat : Int)] w fun e w' => e = .returned (.int .i64 (Lib.indexByte l b)) ∧ w' = w := by
  go_enter Try.func100, Try.ntmps100
  go_wp2_with fail
  refine (slite_any l b).mono ?_
  rintro e w1 ⟨rfl, hw⟩
  rw [hw]
  go_wp2_with fail
  go_ret
  exact ⟨rfl, rfl⟩
theorem idx_mem (l : List UInt8) (b : UInt8) : decide ((0 : Int) ≤ Lib.indexByte l b) = decide (b ∈ l) := by
  apply decide_eq_decide.2
  induction l with
  | nil => simp [Lib.indexByte]
  | cons a l ih =>
    have hge := Lib.indexByte_ge l b
    unfold Lib.indexByte
    by_cases h : a = b
    · simp [h]
    · rw [if_neg (by simpa using h)]
      by_cases h2 : Lib.indexByte l b = -1
      · rw [if_pos (by simpa using h2)]
        rw [h2] at ih
        simp only [List.mem_cons]
        constructor
        · intro h3; omega
        · rintro (h3 | h3)
          · exact absurd h3.symm h
          · have := ih.2 h3; omega
      · rw [if_neg (by simpa using h2)]
        simp only [List.mem_cons]
        constructor
        · intro _; exact .inr (ih.1 (by omega))
        · rintro (h3 | h3)
          · exact absurd h3.symm h
          · have := ih.2 h3; omega

/-- A digit of sixteen. -/
def digB (b : UInt8) : Option UInt8 := if 48 ≤ b.toNat ∧ b.toNat ≤ 57 then some (b - 48) else if 97 ≤ b.toNat ∧ b.toNat ≤ 102 then some (b - 97 + 10) else if 65 ≤ b.toNat ∧ b.toNat ≤ 70 then some (b - 65 + 10) else none
theorem digit_any {w : World} (b : UInt8) :
    Calls Try.prog 107 #[.int .u8 (b.toNat : Int)] w fun e w' => e = .returned (.tuple #[.int .u8 ((digB b).getD 0).toNat, .bool (digB b).isSome]) ∧ w' = w := by
  have h8 := b.toNat_lt
  unfold digB
  by_cases h1 : 48 ≤ b.toNat ∧ b.toNat ≤ 57
  · rw [if_pos h1]
    have a1 : (48 : Int) ≤ (b.toNat : Int) := by omega
    have a2 : (b.toNat : Int) ≤ 57 := by omega
    have hv : ((b - 48).toNat : Int) = (b.toNat : Int) - 48 := by rw [UInt8.toNat_sub, show (48 : UInt8).toNat = 48 from rfl]; omega
    simp only [Option.getD_some, Option.isSome_some]
    rw [hv]
    go_enter Try.func107, Try.ntmps107
    go_wp2_with fail
    go_ret2
    exact ⟨rfl, rfl⟩
  rw [if_neg h1]
  by_cases h2 : 97 ≤ b.toNat ∧ b.toNat ≤ 102
  · rw [if_pos h2]
    have a1 : (97 : Int) ≤ (b.toNat : Int) := by omega
    have a2 : (b.toNat : Int) ≤ 102 := by omega
    have hv : ((b - 97 + 10).toNat : Int) = (b.toNat : Int) - 97 + 10 := by
      rw [UInt8.toNat_add, UInt8.toNat_sub, show (97 : UInt8).toNat = 97 from rfl, show (10 : UInt8).toNat = 10 from rfl]; omega
    simp only [Option.getD_some, Option.isSome_some]
    rw [hv]
    go_enter Try.func107, Try.ntmps107
    go_wp2_with fail
    go_ret2
    exact ⟨rfl, rfl⟩
  rw [if_neg h2]
  by_cases h3 : 65 ≤ b.toNat ∧ b.toNat ≤ 70
  · rw [if_pos h3]
    have a1 : (65 : Int) ≤ (b.toNat : Int) := by omega
    have a2 : (b.toNat : Int) ≤ 70 := by omega
    have hv : ((b - 65 + 10).toNat : Int) = (b.toNat : Int) - 65 + 10 := by
      rw [UInt8.toNat_add, UInt8.toNat_sub, show (65 : UInt8).toNat = 65 from rfl, show (10 : UInt8).toNat = 10 from rfl]; omega
    simp only [Option.getD_some, Option.isSome_some]
    rw [hv]
    go_enter Try.func107, Try.ntmps107
    go_wp2_with fail
    go_ret2
    exact ⟨rfl, rfl⟩
  rw [if_neg h3]
  simp only [Option.getD_none, Option.isSome_none]
  have k1 : (decide ((48 : Int) ≤ (b.toNat : Int)) && decide ((b.toNat : Int) ≤ 57)) = false := by rw [Bool.and_eq_false_iff, decide_eq_false_iff_not, decide_eq_false_iff_not]; omega
  have k2 : (decide ((97 : Int) ≤ (b.toNat : Int)) && decide ((b.toNat : Int) ≤ 102)) = false := by rw [Bool.and_eq_false_iff, decide_eq_false_iff_not, decide_eq_false_iff_not]; omega
  have k3 : (decide ((65 : Int) ≤ (b.toNat : Int)) && decide ((b.toNat : Int) ≤ 70)) = false := by rw [Bool.and_eq_false_iff, decide_eq_false_iff_not, decide_eq_false_iff_not]; omega
  go_enter Try.func107, Try.ntmps107
  go_wp2_with fail
  all_goals first
    | (exfalso; omega)
    | (go_ret2; exact ⟨rfl, rfl⟩)

/-- A reader of the text s stands at k. -/
def Rd (w : World) (g : Nat) (s : List UInt8) (k : Nat) : Prop := Blk w g 107 #[sv s, .int .i64 k]
theorem Rd.c {w : World} {g : Nat} {s : List UInt8} {k : Nat} (h : Rd w g s k) : w.cell? ⟨g, 0, none⟩ = some (sv s) ∧ w.cell? ⟨g, 1, none⟩ = some (.int .i64 k) := ⟨Blk.cell h 0, Blk.cell h 1⟩
theorem Rd.mod {w w' : World} {g : Nat} {s : List UInt8} {k : Nat} {F : Nat → Prop} (h : Rd w g s k) (hm : Mod F w w') (hg : ¬ F g) : Rd w' g s k := Blk.mod h hm hg
theorem Rd.step {w : World} {g : Nat} {s : List UInt8} {k : Nat} (h : Rd w g s k) : Rd (w.setCell ⟨g, 1, none⟩ (.int .i64 ((k : Int) + 1))) g s (k + 1) := Blk.set_ h 1 _
theorem step_mod {w : World} {g : Nat} (u : Value) : Mod (fun b => b = g) w (w.setCell ⟨g, 1, none⟩ u) := (Mod.refl (fun b => b = g) w).setCell (p := ⟨g, 1, none⟩) (fun _ => rfl) u

set_option maxHeartbeats 2000000 in
theorem rend_any {w : World} {g : Nat} {s : List UInt8} {k : Nat} (h : Rd w g s k) :
    Calls Try.prog 83 #[.pointer (some ⟨g, 0, none⟩)] w fun e w' => e = .returned (.bool (decide (k = s.length))) ∧ ∃ m, w' = w.drewN m := by
  obtain ⟨c0, c1⟩ := h.c
  have hsz := sv_size s
  have hk : ((k : Int) == (s.length : Int)) = decide (k = s.length) := by
    rw [Bool.eq_iff_iff, beq_iff_eq, decide_eq_true_eq]; omega
  replace hk := Lib.hid hk
  go_enter Try.func83, Try.ntmps83
  go_wp2_with fail
  go_quiet (fail)
  go_wp2_with fail
  go_ret
  exact ⟨by rw [← hk.out]; rfl, _, rfl⟩
theorem Rd.drewN {w : World} {g : Nat} {s : List UInt8} {k : Nat} (h : Rd w g s k) (n : Nat) : Rd (w.drewN n) g s k := h.mod ((Mod.refl (fun _ => False) w).drewN n) (fun h => h)
end Go.Proofs.Ytacmbomnjedbeaa
namespace Go.Proofs.Ytacmbomnjedbeaa
open Go.RowKit
set_option maxRecDepth 100000

set_option maxHeartbeats 4000000 in
theorem rdis_any {w : World} {g : Nat} {s : List UInt8} {k : Nat} (h : Rd w g s k) (hk : k ≤ s.length) (b : UInt8) :
    Calls Try.prog 98 #[.pointer (some ⟨g, 0, none⟩), .int .u8 (b.toNat : Int)] w fun e w' => e = .returned (.bool (decide (s[k]? = some b))) ∧ ∃ m, w' = w.drewN m := by
  have hsz := sv_size s
  obtain ⟨c0, c1⟩ := h.c
  have he := fun n => rend_any (h.drewN n)
  by_cases hlt : k < s.length
  · have hd : decide (k = s.length) = false := dfalse (by omega)
    rw [hd] at he
    obtain ⟨c, hck⟩ : ∃ c, c = s[k] := ⟨_, rfl⟩
    have hres : decide (s[k]? = some b) = ((c.toNat : Int) == (b.toNat : Int)) := by
      rw [Bool.eq_iff_iff, decide_eq_true_eq, beq_iff_eq, List.getElem?_eq_getElem hlt, Option.some.injEq, ← UInt8.toNat_inj, ← hck]
      omega
    have hg : ∀ h', (⟨s.toArray⟩ : ByteArray)[k]'h' = c := fun h' => (sv_get s k hlt h').trans hck.symm
    clear hck
    replace hres := Lib.hid hres
    replace he := Lib.hid he
    have hi0 : (0 : Int) ≤ (k : Int) := by omega
    have hi1 : (k : Int) < (s.length : Int) := by omega
    clear hd h
    go_enter Try.func98, Try.ntmps98
    go_wp2_with fail
    go_quiet ((go_at_call 83; refine Calls.quiet_of (he.out _)))
    go_wp2_with fail
    go_ret
    exact ⟨by rw [hres.out]; rfl, _, rfl⟩
  · have hd : decide (k = s.length) = true := dtrue (by omega)
    rw [hd] at he
    have hres : decide (s[k]? = some b) = false := dfalse (by rw [List.getElem?_eq_none (by omega)]; simp)
    replace hres := Lib.hid hres
    replace he := Lib.hid he
    clear hd h
    go_enter Try.func98, Try.ntmps98
    go_wp2_with fail
    go_quiet ((go_at_call 83; refine Calls.quiet_of (he.out _)))
    go_wp2_with fail
    go_ret
    exact ⟨by rw [hres.out]; rfl, _, rfl⟩

/-- What stands behind blanks. -/
def skipB : List UInt8 → List UInt8
  | [] => []
  | b :: l => if b = 32 then skipB l else b :: l
/-- How far a reader has come. -/
def rdAt (w : World) (g : Nat) : Nat := (intOf ((w.cell? ⟨g, 1, none⟩).getD undef)).toNat
theorem Rd.at_ {w : World} {g : Nat} {s : List UInt8} {k : Nat} (h : Rd w g s k) : rdAt w g = k := by
  unfold rdAt
  rw [h.c.2]
  simp [intOf]

set_option maxHeartbeats 4000000 in
theorem blanks_any {w : World} {g : Nat} {s : List UInt8} {k : Nat} (h : Rd w g s k) (hk : k ≤ s.length) (hl : s.length ≤ 140737488351232) :
    Calls Try.prog 95 #[.pointer (some ⟨g, 0, none⟩)] w fun e w' => e = .returned (.tuple #[]) ∧ ∃ j, k ≤ j ∧ j ≤ s.length ∧ s.drop j = skipB (s.drop k) ∧ Rd w' g s j ∧ Mod (fun b => b = g) w w' := by
  go_enter Try.func95, Try.ntmps95
  go_wp2_with fail
  go_loopw [] (fun wr => ∃ j : Nat, k ≤ j ∧ j ≤ s.length ∧ Hid (skipB (s.drop j) = skipB (s.drop k)) ∧ Rd wr g s j ∧ Mod (fun b => b = g) w wr) (fun wr => s.length - rdAt wr g)
  case atStart => exact ⟨k, Nat.le_refl _, hk, Lib.hid rfl, h, Mod.refl _ _⟩
  case round =>
    obtain ⟨j, hj, hjl, hs, hr, hm⟩ := hrel
    go_wp2_with fail
    refine (rdis_any hr hjl 32).mono ?_
    rintro e w2 ⟨rfl, m2, hw2⟩
    have x2 : Ext wr w2 := by rw [hw2]; exact (Mod.refl _ wr).drewN m2
    clear hw2
    have hr2 := hr.mod x2 (fun h => h)
    have hm2 : Mod (fun b => b = g) w w2 := hm.then_ x2 (fun _ _ h => h.elim)
    by_cases hb : s[j]? = some 32
    · rw [decide_eq_true hb]
      have hlt : j < s.length := (List.getElem?_eq_some_iff.1 hb).1
      obtain ⟨c0, c1⟩ := hr2.c
      have z1 : w2.frozen? ⟨g, 1, none⟩ = false := Blk.frozen hr2 1
      have hsk : skipB (s.drop (j + 1)) = skipB (s.drop j) := by
        rw [List.drop_eq_getElem_cons hlt, skipB, if_pos (by have := (List.getElem?_eq_some_iff.1 hb).2; exact this)]
      go_wp2_with fail
      refine ⟨⟨j + 1, by omega, by omega, Lib.hid (hsk.trans hs.out), hr2.step, hm2.then_ (step_mod _) (fun _ _ h => h)⟩, ?_⟩
      rw [hr2.step.at_, hr.at_]; omega
    · rw [decide_eq_false hb]
      have hsk : s.drop j = skipB (s.drop k) := by
        rw [← hs.out]
        by_cases hlt : j < s.length
        · rw [List.drop_eq_getElem_cons hlt, skipB, if_neg]
          intro h; exact hb (by rw [List.getElem?_eq_getElem hlt, h])
        · rw [List.drop_of_length_le (by omega)]; rfl
      replace hsk := Lib.hid hsk
      go_wp2_with fail
      go_end0
      exact ⟨rfl, j, hj, hjl, hsk.out, hr2, hm2⟩
end Go.Proofs.Ytacmbomnjedbeaa
namespace Go.Proofs.Ytacmbomnjedbeaa
open Go.RowKit
set_option maxRecDepth 100000

/-- What may stand behind a stroke. -/
def mayB : List UInt8 := [44, 43, 34, 92, 60, 62, 59, 35, 61, 32]
/-- What stands behind a stroke, and what is left. -/
def escR : List UInt8 → Option (UInt8 × List UInt8)
  | [] => none
  | c :: l => if c ∈ mayB then some (c, l) else (digB c).bind fun x => l.head?.bind fun d => (digB d).map fun y => (x <<< 4 ||| y, l.tail)
theorem ext_mod {F : Nat → Prop} {a b : World} (h : Ext a b) : Mod F a b := h.mono (fun _ _ h => h.elim)
theorem digB_lt {b x : UInt8} (h : digB b = some x) : x.toNat < 16 := by
  have h8 := b.toNat_lt
  unfold digB at h
  split at h
  · rename_i h1; cases h; rw [UInt8.toNat_sub, show (48 : UInt8).toNat = 48 from rfl]; omega
  · split at h
    · cases h; rw [UInt8.toNat_add, UInt8.toNat_sub, show (97 : UInt8).toNat = 97 from rfl, show (10 : UInt8).toNat = 10 from rfl]; omega
    · split at h
      · cases h; rw [UInt8.toNat_add, UInt8.toNat_sub, show (65 : UInt8).toNat = 65 from rfl, show (10 : UInt8).toNat = 10 from rfl]; omega
      · cases h
theorem hilo_eq (x y : UInt8) (hx : x.toNat < 16) (hy : y.toNat < 16) : ((x <<< 4 ||| y).toNat : Int) = (x.toNat : Int) * 16 + (y.toNat : Int) := by
  have e : (x <<< 4 ||| y).toNat = x.toNat * 16 + y.toNat := by
    have h := fun (a b : Fin 16) => (show ((UInt8.ofNat a.1) <<< 4 ||| UInt8.ofNat b.1).toNat = a.1 * 16 + b.1 from by revert a b; decide)
    have h1 := h ⟨x.toNat, hx⟩ ⟨y.toNat, hy⟩
    simpa using h1
  omega

theorem bits_eq (x y : UInt8) (hx : x.toNat < 16) (hy : y.toNat < 16) : bits BinOp.or IntKind.u8 ((x.toNat : Int) * 16) (y.toNat : Int) = ((x <<< 4 ||| y).toNat : Int) := by
  rw [hilo_eq x y hx hy]
  have h := fun (a b : Fin 16) => (show bits BinOp.or IntKind.u8 ((a.1 : Int) * 16) (b.1 : Int) = (a.1 : Int) * 16 + (b.1 : Int) from by revert a b; decide)
  exact h ⟨x.toNat, hx⟩ ⟨y.toNat, hy⟩

set_option maxHeartbeats 4000000 in
theorem resc_any {w : World} {g : Nat} {s : List UInt8} {k : Nat} (h : Rd w g s k) (hk : k ≤ s.length) (hl : s.length ≤ 140737488351232) :
    Calls Try.prog 105 #[.pointer (some ⟨g, 0, none⟩)] w fun e w' => ∃ (v : UInt8) (ok : Bool) (j : Nat), e = .returned (.tuple #[.int .u8 (v.toNat : Int), .bool ok]) ∧ k ≤ j ∧ j ≤ s.length ∧ escR (s.drop k) = (if ok then some (v, s.drop j) else none) ∧ Rd w' g s j ∧ Mod (fun b => b = g) w w' := by
  have hsz := sv_size s
  by_cases hlt : k < s.length
  case neg =>
    have hd : decide (k = s.length) = true := dtrue (by omega)
    have hes : escR (s.drop k) = none := by rw [List.drop_of_length_le (by omega)]; rfl
    replace hes := Lib.hid hes
    go_enter Try.func105, Try.ntmps105
    go_wp2_with fail
    refine (rend_any h).mono ?_
    rintro e w1 ⟨rfl, m1, hw1⟩
    have x1 : Ext w w1 := by rw [hw1]; exact (Mod.refl _ w).drewN m1
    clear hw1
    rw [hd]
    go_wp2_with fail
    go_ret2
    exact ⟨0, false, k, rfl, Nat.le_refl _, hk, hes.out, h.mod x1 (fun h => h), ext_mod x1⟩
  have hd : decide (k = s.length) = false := dfalse (by omega)
  obtain ⟨c, hck⟩ : ∃ c, c = s[k] := ⟨_, rfl⟩
  have hg : ∀ h', (⟨s.toArray⟩ : ByteArray)[k]'h' = c := fun h' => (sv_get s k hlt h').trans hck.symm
  have hdr : s.drop k = c :: s.drop (k + 1) := by rw [List.drop_eq_getElem_cons hlt, hck]
  rw [hdr]
  clear hck hdr
  go_enter Try.func105, Try.ntmps105
  go_wp2_with fail
  refine (rend_any h).mono ?_
  rintro e w1 ⟨rfl, m1, hw1⟩
  have x1 : Ext w w1 := by rw [hw1]; exact (Mod.refl _ w).drewN m1
  clear hw1
  rw [hd]
  clear hd
  have r1 := h.mod x1 (fun h => h)
  obtain ⟨c0, c1⟩ := r1.c
  have z1 := Blk.frozen r1 1
  have hi0 : (0 : Int) ≤ (k : Int) := by omega
  have hi1 : (k : Int) < (s.length : Int) := by omega
  go_wp2_with fail
  go_quiet (fail)
  obtain ⟨w2, hw2⟩ : ∃ x, x = w1.drewN nq := ⟨_, rfl⟩
  rw [← hw2]
  have x2 : Ext w1 w2 := by rw [hw2]; exact (Mod.refl _ w1).drewN nq
  clear hw2
  have r2 := r1.mod x2 (fun h => h)
  have m2 : Mod (fun b => b = g) w w2 := (ext_mod x1).then_ x2 (fun _ _ h => h.elim)
  clear r1 z1 c0 c1 x1 x2
  obtain ⟨c0, c1⟩ := r2.c
  have z1 := Blk.frozen r2 1
  have r3 := r2.step
  have m3 := m2.then_ (step_mod (w := w2) (g := g) (.int .i64 ((k : Int) + 1))) (fun _ _ h => h)
  go_wp2_with fail
  obtain ⟨w3, hw3⟩ : ∃ x, x = w2.setCell ⟨g, 1, none⟩ (.int .i64 ((k : Int) + 1)) := ⟨_, rfl⟩
  rw [← hw3] at r3 m3 ⊢
  clear hw3 r2 m2 z1 c0 c1 w2
  refine (sidx_any mayB c).mono ?_
  rintro e w4 ⟨rfl, hw4⟩
  rw [hw4]
  clear hw4
  have hix := idx_mem mayB c
  by_cases hc : c ∈ mayB
  · rw [decide_eq_true hc] at hix
    go_wp2_with fail
    go_ret2
    exact ⟨c, true, k + 1, rfl, by omega, by omega, by rw [escR, if_pos hc]; rfl, r3, m3⟩
  rw [decide_eq_false hc] at hix
  replace hix := Lib.hid hix
  have hes : escR (c :: s.drop (k + 1)) = (digB c).bind fun x => s[k + 1]?.bind fun d => (digB d).map fun y => (x <<< 4 ||| y, s.drop (k + 2)) := by
    rw [escR, if_neg hc, List.head?_drop, List.tail_drop]
  replace hes := Lib.hid hes
  clear hg
  by_cases hd1 : (digB c).isSome
  case neg =>
    have hn : digB c = none := by simpa using hd1
    have hE := hes.out
    rw [hn, Option.bind_none] at hE
    replace hE := Lib.hid hE
    clear hes
    have hx := hix.out
    go_wp2_with fail
    refine (digit_any c).mono ?_
    rintro e w4 ⟨rfl, hw4⟩
    rw [hw4, hn]
    clear hw4
    go_wp2_with fail
    go_ret2
    exact ⟨0, false, k + 1, rfl, by omega, by omega, hE.out, r3, m3⟩
  obtain ⟨x, hx1⟩ := Option.isSome_iff_exists.1 hd1
  have hx16 := digB_lt hx1
  have hE := hes.out
  clear hes
  rw [hx1, Option.bind_some] at hE
  replace hE := Lib.hid hE
  clear hd1
  have hdg := digit_any c (w := w3)
  rw [hx1] at hdg
  simp only [Option.getD_some, Option.isSome_some] at hdg
  clear hx1
  by_cases hlt2 : k + 1 < s.length
  case neg =>
    have hde : decide (k + 1 = s.length) = true := dtrue (by omega)
    have hE1 := hE.out
    rw [List.getElem?_eq_none (by omega), Option.bind_none] at hE1
    replace hE1 := Lib.hid hE1
    clear hE
    have hx := hix.out
    go_wp2_with fail
    refine hdg.mono ?_
    rintro e w4 ⟨rfl, hw4⟩
    rw [hw4]
    clear hw4
    go_wp2_with fail
    refine (rend_any r3).mono ?_
    rintro e w4 ⟨rfl, n4, hw4⟩
    have x4 : Ext w3 w4 := by rw [hw4]; exact (Mod.refl _ w3).drewN n4
    clear hw4
    rw [hde]
    go_wp2_with fail
    go_ret2
    exact ⟨0, false, k + 1, rfl, by omega, by omega, hE1.out, r3.mod x4 (fun h => h), m3.then_ x4 (fun _ _ h => h.elim)⟩
  have hde : decide (k + 1 = s.length) = false := dfalse (by omega)
  obtain ⟨d, hdk⟩ : ∃ d, d = s[k + 1] := ⟨_, rfl⟩
  have hE1 := hE.out
  clear hE
  rw [List.getElem?_eq_getElem hlt2, ← hdk, Option.bind_some] at hE1
  replace hE := Lib.hid hE1
  clear hE1
  have hg : ∀ h', (⟨s.toArray⟩ : ByteArray)[k + 1]'h' = d := fun h' => (sv_get s (k + 1) hlt2 h').trans hdk.symm
  clear hdk
  have hix1 := hix.out
  go_wp2_with fail
  refine hdg.mono ?_
  rintro e w4 ⟨rfl, hw4⟩
  rw [hw4]
  clear hw4 hdg
  go_wp2_with fail
  refine (rend_any r3).mono ?_
  rintro e w4 ⟨rfl, n4, hw4⟩
  have x4 : Ext w3 w4 := by rw [hw4]; exact (Mod.refl _ w3).drewN n4
  clear hw4
  rw [hde]
  clear hde
  have r4 := r3.mod x4 (fun h => h)
  have m4 : Mod (fun b => b = g) w w4 := m3.then_ x4 (fun _ _ h => h.elim)
  clear x4 r3 m3 w3 hix hix1 h hi0 hi1
  obtain ⟨c0, c1⟩ := r4.c
  have hi0 : (0 : Int) ≤ ((k + 1 : Nat) : Int) := by omega
  have hi1 : ((k + 1 : Nat) : Int) < (s.length : Int) := by omega
  go_wp2_with fail
  go_quiet ((go_at_call 107; exact Calls.quiet_of_same (digit_any d)))
  obtain ⟨w5, hw5⟩ : ∃ x, x = w4.drewN nq := ⟨_, rfl⟩
  rw [← hw5]
  have x5 : Ext w4 w5 := by rw [hw5]; exact (Mod.refl _ w4).drewN nq
  clear hw5
  have r5 := r4.mod x5 (fun h => h)
  have m5 : Mod (fun b => b = g) w w5 := m4.then_ x5 (fun _ _ h => h.elim)
  clear r4 x5 m4 c0 c1 hg
  obtain ⟨c0, c1⟩ := r5.c
  have z1 := Blk.frozen r5 1
  have r6 := r5.step
  have m6 := m5.then_ (step_mod (w := w5) (g := g) (.int .i64 (((k + 1 : Nat) : Int) + 1))) (fun _ _ h => h)
  obtain ⟨y, hy⟩ : ∃ y, y = (digB d).getD 0 := ⟨_, rfl⟩
  have hy16 : y.toNat < 16 := by
    rw [hy]
    cases hh : digB d with
    | none => exact Nat.zero_lt_succ _
    | some z => exact digB_lt hh
  obtain ⟨ok, hok⟩ : ∃ ok, ok = (digB d).isSome := ⟨_, rfl⟩
  have hE2 : escR (c :: s.drop (k + 1)) = if ok then some (x <<< 4 ||| y, s.drop (k + 2)) else none := by
    rw [hE.out, hy, hok]
    cases digB d <;> rfl
  rw [← hy, ← hok]
  replace hE2 := Lib.hid hE2
  clear hE hy hok
  go_wp2_with fail
  rw [bits_eq x y hx16 hy16]
  go_ret2
  exact ⟨x <<< 4 ||| y, ok, k + 2, rfl, by omega, by omega, hE2.out, r6, m6⟩
end Go.Proofs.Ytacmbomnjedbeaa
namespace Go.Proofs.Ytacmbomnjedbeaa
open Go.RowKit
set_option maxRecDepth 100000

/-- What doesn't stand by itself in a value. -/
def sepB : List UInt8 := [44, 43, 34, 92, 60, 62, 59]
def valF : Nat → List UInt8 → List UInt8 → Nat → Option (List UInt8 × List UInt8)
  | 0, _, _, _ => none
  | _ + 1, [], out, n => some (out.take n, [])
  | f + 1, b :: l, out, n =>
    if b = 44 then some (out.take n, b :: l)
    else if b = 92 then (escR l).bind fun p => valF f p.2 (out ++ [p.1]) (out.length + 1)
    else if b ∈ sepB then none
    else valF f l (out ++ [b]) (if b = 32 then n else out.length + 1)
/-- A value with the blanks around it, and what is left. -/
def valueB (l : List UInt8) : Option (List UInt8 × List UInt8) := valF ((skipB l).length + 1) (skipB l) [] 0

theorem own_rd {w : World} {g : Nat} {s : List UInt8} {k : Nat} {v : Value} {B : Nat} (_h : Rd w g s k) (hg : g < B) (hv : Fresh B v) : ¬ own v g := fun hh => by have := hv g hh; omega

theorem own_shape1 {w : World} {e : TypeId} {v : Value} {l : List UInt8} {b : UInt8} (h : Own w e v ((l ++ [b]).map bv)) : ∃ A c, v = .slice A (l.length + 1) c := by
  obtain ⟨A, c, h⟩ := h.shape
  exact ⟨A, c, by rw [h]; simp⟩

set_option maxHeartbeats 8000000 in
theorem rvalue_any {w : World} {g : Nat} {s : List UInt8} {k : Nat} (h : Rd w g s k) (hk : k ≤ s.length) (hl : s.length ≤ 140737488351232) :
    Calls Try.prog 99 #[.pointer (some ⟨g, 0, none⟩)] w fun e w' => ∃ (v : List UInt8) (ok : Bool) (j : Nat), e = .returned (.tuple #[sv v, .bool ok]) ∧ k ≤ j ∧ j ≤ s.length ∧ v.length ≤ s.length ∧ valueB (s.drop k) = (if ok then some (v, s.drop j) else none) ∧ Rd w' g s j ∧ Mod (fun b => b = g) w w' := by
  have hsz := sv_size s
  have hgw : g < w.heap.size := Blk.lt h
  go_enter Try.func99, Try.ntmps99
  go_wp2_with fail
  refine (blanks_any h hk hl).mono ?_
  rintro e w1 ⟨rfl, k1, hk1, hk1l, hsk, r1, m1⟩
  obtain ⟨V, hV⟩ : ∃ V, V = valueB (s.drop k) := ⟨_, rfl⟩
  have hV1 : valF ((s.drop k1).length + 1) (s.drop k1) [] 0 = V := by rw [hV, valueB, hsk]
  replace hV := Lib.hid hV
  replace hV1 := Lib.hid hV1
  clear hsk
  have hw1 := m1.size
  go_wp2_with fail
  go_loopw [4, 5] (fun v nn wr => ∃ (j : Nat) (out : List UInt8) (n f : Nat), k1 ≤ j ∧ j ≤ s.length ∧ nn = .int .i64 n ∧ n ≤ out.length ∧ out.length ≤ j ∧ Hid (s.length < f + j ∧ valF f (s.drop j) out n = V) ∧ Own wr 5 v (out.map bv) ∧ Fresh w.heap.size v ∧ Rd wr g s j ∧ Mod (fun b => b = g) w wr) (fun _ _ wr => s.length - rdAt wr g)
  case atStart =>
    exact ⟨k1, [], 0, (s.drop k1).length + 1, Nat.le_refl _, hk1l, rfl, Nat.le_refl _, Nat.zero_le _, Lib.hid ⟨by rw [List.length_drop]; omega, hV1.out⟩, Own.nil _ _, fresh_nil _ _ _, r1, m1⟩
  case round =>
    obtain ⟨j, out, n, f, hj, hjl, rfl, hn, hoj, hv, p1, p2, r2, m2⟩ := hrel
    clear hV1 r1 m1 hw1
    obtain ⟨c0, c1⟩ := r2.c
    have z1 := Blk.frozen r2 1
    have hend := fun n => rend_any (r2.drewN n)
    have hat := r2.at_
    obtain ⟨f, rfl⟩ : ∃ f', f = f' + 1 := ⟨f - 1, by have := hv.out.1; omega⟩
    by_cases hlt : j < s.length
    case neg =>
      have hd : decide (j = s.length) = true := dtrue (by omega)
      rw [hd] at hend
      have hVe : V = some (out.take n, s.drop j) := by
        rw [← hv.out.2, List.drop_of_length_le (by omega), valF]
      replace hVe := Lib.hid hVe
      go_wp2_with fail
      go_quiet ((go_at_call 83; refine Calls.quiet_of (hend _)))
      obtain ⟨w3, hw3⟩ : ∃ x, x = wr.drewN nq := ⟨_, rfl⟩
      rw [← hw3]
      have xw3 : Ext wr w3 := by rw [hw3]; exact (Mod.refl _ wr).drewN nq
      clear hw3
      have r3 := r2.mod xw3 (fun h => h)
      have m3 : Mod (fun b => b = g) w w3 := m2.then_ xw3 (fun _ _ h => h.elim)
      replace p1 := p1.mod xw3 (fun _ _ h => h)
      clear nq c0 c1 z1
      obtain ⟨c0, c1⟩ := r3.c
      have z1 := Blk.frozen r3 1
      rcases p1.form with ⟨rfl, ho⟩ | ⟨g2, cap, rfl, q1, q2, q3⟩
      · simp only [List.map_eq_nil_iff] at ho
        subst ho
        obtain rfl : n = 0 := by simpa using hn
        have hcv := run_conv (P := Try.prog) (l := []) Try.underlying65 Try.underlying5 Try.underlying9 p1.sl
        replace hVe := Lib.hid (hV.out.symm.trans hVe.out)
        clear hV hoj hv hend
        go_wp2_with fail
        go_ret2
        exact ⟨[], true, j, rfl, by omega, hjl, Nat.zero_le _, by rw [hVe.out]; rfl, r3, m3⟩
      · rw [List.length_map] at q1
        have hpb := Own.begin p1 (m := n) (by simpa using hn)
        rw [← List.map_take] at hpb
        have hcv := run_conv (P := Try.prog) Try.underlying65 Try.underlying5 Try.underlying9 hpb.sl
        replace hVe := Lib.hid (hV.out.symm.trans hVe.out)
        have hnl : (out.take n).length ≤ s.length := by rw [List.length_take]; omega
        have hn1 : (n : Int) ≤ (out.length : Int) := by omega
        replace hnl := Lib.hid hnl
        clear hV hv hend p1 hpb
        go_wp2_with fail
        go_ret2
        exact ⟨out.take n, true, j, rfl, by omega, hjl, hnl.out, by rw [hVe.out]; rfl, r3, m3⟩
    obtain ⟨c, hck⟩ : ∃ c, c = s[j] := ⟨_, rfl⟩
    have hg : ∀ h', (⟨s.toArray⟩ : ByteArray)[j]'h' = c := fun h' => (sv_get s j hlt h').trans hck.symm
    have hdr : s.drop j = c :: s.drop (j + 1) := by rw [List.drop_eq_getElem_cons hlt, hck]
    have hd : decide (j = s.length) = false := dfalse (by omega)
    rw [hd] at hend
    clear hd hck
    have hi0 : (0 : Int) ≤ (j : Int) := by omega
    have hi1 : (j : Int) < (s.length : Int) := by omega
    by_cases h44 : c = 44
    · have hVe : V = some (out.take n, s.drop j) := by
        rw [← hv.out.2, hdr, valF, if_pos h44]
      have hcm : ((c.toNat : Int) != 44) = false := by rw [h44]; rfl
      replace hVe := Lib.hid hVe
      clear hdr h44
      go_wp2_with fail
      go_quiet ((go_at_call 83; refine Calls.quiet_of (hend _)))
      obtain ⟨w3, hw3⟩ : ∃ x, x = wr.drewN nq := ⟨_, rfl⟩
      rw [← hw3]
      have xw3 : Ext wr w3 := by rw [hw3]; exact (Mod.refl _ wr).drewN nq
      clear hw3
      have r3 := r2.mod xw3 (fun h => h)
      have m3 : Mod (fun b => b = g) w w3 := m2.then_ xw3 (fun _ _ h => h.elim)
      replace p1 := p1.mod xw3 (fun _ _ h => h)
      clear nq c0 c1 z1
      obtain ⟨c0, c1⟩ := r3.c
      have z1 := Blk.frozen r3 1
      rcases p1.form with ⟨rfl, ho⟩ | ⟨g2, cap, rfl, q1, q2, q3⟩
      · simp only [List.map_eq_nil_iff] at ho
        subst ho
        obtain rfl : n = 0 := by simpa using hn
        have hcv := run_conv (P := Try.prog) (l := []) Try.underlying65 Try.underlying5 Try.underlying9 p1.sl
        replace hVe := Lib.hid (hV.out.symm.trans hVe.out)
        clear hV hoj hv hend
        go_wp2_with fail
        go_ret2
        exact ⟨[], true, j, rfl, by omega, hjl, Nat.zero_le _, by rw [hVe.out]; rfl, r3, m3⟩
      · rw [List.length_map] at q1
        have hpb := Own.begin p1 (m := n) (by simpa using hn)
        rw [← List.map_take] at hpb
        have hcv := run_conv (P := Try.prog) Try.underlying65 Try.underlying5 Try.underlying9 hpb.sl
        replace hVe := Lib.hid (hV.out.symm.trans hVe.out)
        have hnl : (out.take n).length ≤ s.length := by rw [List.length_take]; omega
        have hn1 : (n : Int) ≤ (out.length : Int) := by omega
        replace hnl := Lib.hid hnl
        clear hV hv hend p1 hpb
        go_wp2_with fail
        go_ret2
        exact ⟨out.take n, true, j, rfl, by omega, hjl, hnl.out, by rw [hVe.out]; rfl, r3, m3⟩
    have hcm : ((c.toNat : Int) != 44) = true := by
      rw [bne_iff_ne]
      intro hh
      exact h44 (UInt8.toNat_inj.1 (by show c.toNat = 44; omega))
    go_wp2_with fail
    go_quiet ((go_at_call 83; refine Calls.quiet_of (hend _)))
    clear hend
    obtain ⟨w3, hw3⟩ : ∃ x, x = wr.drewN nq := ⟨_, rfl⟩
    rw [← hw3]
    have xw3 : Ext wr w3 := by rw [hw3]; exact (Mod.refl _ wr).drewN nq
    clear hw3
    have r3 := r2.mod xw3 (fun h => h)
    have m3 : Mod (fun b => b = g) w w3 := m2.then_ xw3 (fun _ _ h => h.elim)
    replace p1 := p1.mod xw3 (fun _ _ h => h)
    clear nq c0 c1 z1
    obtain ⟨c0, c1⟩ := r3.c
    have z1 := Blk.frozen r3 1
    go_wp2_with fail
    go_quiet (fail)
    obtain ⟨w4, hw4⟩ : ∃ x, x = w3.drewN nq := ⟨_, rfl⟩
    rw [← hw4]
    have xw4 : Ext w3 w4 := by rw [hw4]; exact (Mod.refl _ w3).drewN nq
    clear hw4
    have r4 := r3.mod xw4 (fun h => h)
    have m4 : Mod (fun b => b = g) w w4 := m3.then_ xw4 (fun _ _ h => h.elim)
    replace p1 := p1.mod xw4 (fun _ _ h => h)
    clear nq c0 c1 z1
    obtain ⟨c0, c1⟩ := r4.c
    have z1 := Blk.frozen r4 1
    clear hg hi0 hi1 r3 m3 hcm
    have r5 := r4.step
    have m5 := m4.then_ (step_mod (w := w4) (g := g) (.int .i64 ((j : Int) + 1))) (fun _ _ h => h)
    have p5 := p1.mod (step_mod (w := w4) (g := g) (.int .i64 ((j : Int) + 1))) (fun b hb hbg => own_rd r4 hgw p2 (hbg ▸ hb))
    obtain ⟨w5, hw5⟩ : ∃ x, x = w4.setCell ⟨g, 1, none⟩ (.int .i64 ((j : Int) + 1)) := ⟨_, rfl⟩
    have hwd : ∀ K : World → Prop, K w5 → K (w4.setCell ⟨g, 1, none⟩ (.int .i64 ((j : Int) + 1))) := fun K hK => hw5 ▸ hK
    rw [← hw5] at r5 m5 p5
    have hn1 : out.length + 1 ≤ 140737488355328 := by omega
    replace hn1 := Lib.hid hn1
    have hfl : s.length < f + (j + 1) := by have := hv.out.1; omega
    by_cases h92 : c = 92
    · have hcs : ((c.toNat : Int) == 92) = true := by rw [h92]; rfl
      have hve : V = (escR (s.drop (j + 1))).bind fun p => valF f p.2 (out ++ [p.1]) (out.length + 1) := by
        rw [← hv.out.2, hdr, valF, if_neg h44, if_pos h92]
      replace hve := Lib.hid hve
      clear hv hdr h44 h92
      go_wp2_with fail
      rw [← hw5]
      clear hw5 hwd r4 m4 p1 c0 c1 z1
      refine (resc_any r5 (by omega) hl).mono ?_
      rintro e w6 ⟨b, ok, j2, rfl, hj2, hj2l, hes, r6, m6⟩
      have hve2 := hve.out
      clear hve
      rw [hes] at hve2
      clear hes
      have p6 := p5.mod m6 (fun b hb hbg => own_rd r5 hgw p2 (hbg ▸ hb))
      have m7 := m5.then_ m6 (fun _ _ h => h)
      cases ok
      · replace hve2 := Lib.hid (hV.out.symm.trans hve2)
        go_wp2_with fail
        go_ret2
        exact ⟨[], false, j2, rfl, by omega, hj2l, Nat.zero_le _, hve2.out, r6, m7⟩
      · replace hve2 := Lib.hid hve2
        clear r5 m5 p5
        obtain ⟨A, cc, rfl⟩ := p6.shape
        rw [List.length_map] at p6 p2 ⊢
        go_wp2_with ((with_reducible show wpList _ _ _ (⟨some 63, _, _, _, _, _⟩ :: _) _ _); refine wp_app1 tyB p6 rfl hn1.out rfl (.tmp 60) (.tmp 62) rfl rfl rfl ?_; intro v2 w7 k1 k2 k3; obtain ⟨A2, c2, rfl⟩ := own_shape1 k1)
        have r7 := r6.mod k2 (own_rd r6 hgw p2)
        refine ⟨⟨j2, out ++ [b], out.length + 1, f, by omega, hj2l, by go_num, by simp, by simp; omega, Lib.hid ⟨by omega, ?_⟩, k1, k3.fresh p2 m7.size, r7, m7.then_ k2 (fun b hb hh => absurd (p2 b hh) (by omega))⟩, ?_⟩
        · rw [hve2.out]; rfl
        · rw [r7.at_, hat]; omega
    have hcs : ((c.toNat : Int) == 92) = false := by
      rw [beq_eq_false_iff_ne]
      intro hh
      exact h92 (UInt8.toNat_inj.1 (by show c.toNat = 92; omega))
    have hix := idx_mem sepB c
    have hve : V = if c ∈ sepB then none else valF f (s.drop (j + 1)) (out ++ [c]) (if c = 32 then n else out.length + 1) := by
      rw [← hv.out.2, hdr, valF, if_neg h44, if_neg h92]
    clear hv hdr h44 h92
    by_cases hcb : c ∈ sepB
    · rw [if_pos hcb] at hve
      rw [decide_eq_true hcb] at hix
      replace hve := Lib.hid (hV.out.symm.trans hve)
      go_wp2_with fail
      rw [← hw5]
      clear hw5 hwd r4 m4 p1 c0 c1 z1
      refine (sidx_any sepB c).mono ?_
      rintro e w6 ⟨rfl, hw6⟩
      rw [hw6]
      clear hw6
      go_wp2_with fail
      go_ret2
      exact ⟨[], false, j + 1, rfl, by omega, by omega, Nat.zero_le _, hve.out, r5, m5⟩
    rw [if_neg hcb] at hve
    rw [decide_eq_false hcb] at hix
    by_cases h32 : c = 32
    · rw [if_pos h32] at hve
      have hcq : ((c.toNat : Int) != 32) = false := by rw [h32]; rfl
      replace hve := Lib.hid hve
      clear h32 hcb
      go_wp2_with fail
      rw [← hw5]
      clear hw5 hwd r4 m4 p1 c0 c1 z1
      refine (sidx_any sepB c).mono ?_
      rintro e w6 ⟨rfl, hw6⟩
      rw [hw6]
      clear hw6
      obtain ⟨A, cc, rfl⟩ := p5.shape
      rw [List.length_map] at p5 p2 ⊢
      go_wp2_with ((with_reducible show wpList _ _ _ (⟨some 45, _, _, _, _, _⟩ :: _) _ _); refine wp_app1 tyB p5 rfl hn1.out rfl (.tmp 42) (.tmp 44) rfl rfl rfl ?_; intro v2 w7 k1 k2 k3)
      have r7 := r5.mod k2 (own_rd r5 hgw p2)
      refine ⟨⟨j + 1, out ++ [c], n, f, by omega, by omega, rfl, by simp; omega, by simp; omega, Lib.hid ⟨hfl, hve.out.symm⟩, k1, k3.fresh p2 m5.size, r7, m5.then_ k2 (fun b hb hh => absurd (p2 b hh) (by omega))⟩, ?_⟩
      rw [r7.at_, hat]; omega
    rw [if_neg h32] at hve
    have hcq : ((c.toNat : Int) != 32) = true := by
      rw [bne_iff_ne]
      intro hh
      exact h32 (UInt8.toNat_inj.1 (by show c.toNat = 32; omega))
    replace hve := Lib.hid hve
    clear h32 hcb
    go_wp2_with fail
    rw [← hw5]
    clear hw5 hwd r4 m4 p1 c0 c1 z1
    refine (sidx_any sepB c).mono ?_
    rintro e w6 ⟨rfl, hw6⟩
    rw [hw6]
    clear hw6
    obtain ⟨A, cc, rfl⟩ := p5.shape
    rw [List.length_map] at p5 p2 ⊢
    go_wp2_with ((with_reducible show wpList _ _ _ (⟨some 45, _, _, _, _, _⟩ :: _) _ _); refine wp_app1 tyB p5 rfl hn1.out rfl (.tmp 42) (.tmp 44) rfl rfl rfl ?_; intro v2 w7 k1 k2 k3; obtain ⟨A2, c2, rfl⟩ := own_shape1 k1)
    have r7 := r5.mod k2 (own_rd r5 hgw p2)
    refine ⟨⟨j + 1, out ++ [c], out.length + 1, f, by omega, by omega, by go_num, by simp, by simp; omega, Lib.hid ⟨hfl, hve.out.symm⟩, k1, k3.fresh p2 m5.size, r7, m5.then_ k2 (fun b hb hh => absurd (p2 b hh) (by omega))⟩, ?_⟩
    rw [r7.at_, hat]; omega
end Go.Proofs.Ytacmbomnjedbeaa
namespace Go.Proofs.Ytacmbomnjedbeaa
open Go.RowKit
set_option maxRecDepth 100000

def typP (b : UInt8) : Bool := decide (typN b.toNat)
/-- A type and a value, and what is left. -/
def partR (l : List UInt8) : Option ((List UInt8 × List UInt8) × List UInt8) :=
  if isTyp ((skipB l).takeWhile typP) then
    match skipB ((skipB l).dropWhile typP) with
    | 61 :: l3 => (valueB l3).bind fun p => if p.1 = [] then none else some (((skipB l).takeWhile typP, p.1), p.2)
    | _ => none
  else none
def Tk (s : List UInt8) (a j : Nat) : Prop := (s.drop a).takeWhile typP = (s.drop a).take (j - a) ++ (s.drop j).takeWhile typP ∧ (s.drop a).dropWhile typP = (s.drop j).dropWhile typP
theorem Tk.start (s : List UInt8) (a : Nat) : Tk s a a := ⟨by simp, rfl⟩
theorem Tk.next {s : List UInt8} {a j : Nat} (h : Tk s a j) (ha : a ≤ j) (hj : j < s.length) (hp : typP s[j] = true) : Tk s a (j + 1) := by
  obtain ⟨h1, h2⟩ := h
  have hd := List.drop_eq_getElem_cons hj
  refine ⟨?_, ?_⟩
  · rw [h1, hd, List.takeWhile_cons, if_pos hp]
    have ht : (s.drop a).take (j + 1 - a) = (s.drop a).take (j - a) ++ [s[j]] := by
      rw [show j + 1 - a = (j - a) + 1 by omega, List.take_succ_eq_append_getElem (by rw [List.length_drop]; omega), List.getElem_drop]
      congr 2
      congr 1
      omega
    rw [ht, List.append_assoc]
    rfl
  · rw [h2, hd, List.dropWhile_cons, if_pos hp]
theorem Tk.stop {s : List UInt8} {a j : Nat} (h : Tk s a j) (hp : ∀ h : j < s.length, typP s[j] = false) : (s.drop a).takeWhile typP = (s.drop a).take (j - a) ∧ (s.drop a).dropWhile typP = s.drop j := by
  obtain ⟨h1, h2⟩ := h
  by_cases hj : j < s.length
  · have hd := List.drop_eq_getElem_cons hj
    have := hp hj
    constructor
    · rw [h1, hd, List.takeWhile_cons, if_neg (by rw [this]; decide), List.append_nil]
    · rw [h2, hd, List.dropWhile_cons, if_neg (by rw [this]; decide)]
  · have hd : s.drop j = [] := List.drop_of_length_le (by omega)
    constructor
    · rw [h1, hd, List.takeWhile_nil, List.append_nil]
    · rw [h2, hd, List.dropWhile_nil]

theorem ext_sv (s : List UInt8) (a j : Nat) : (⟨s.toArray⟩ : ByteArray).extract a j = ⟨((s.drop a).take (j - a)).toArray⟩ := by
  apply ByteArray.ext
  simp [ByteArray.data_extract]
theorem results_cell_row2 {P : Program} {fn : Func} {p u : Tmp} {ty : TypeId} (h : fn.results = #[.cell p ty, .tmp u]) (tmps : Array Value) (w : World) (g : Nat) (t : TypeId) (cs : Array Value) (fr : Nat × Nat) (d : TypeDesc)
    (hp : tmps.getD p undef = .pointer (some ⟨g, 0, none⟩)) (hg : w.heap[g]? = some (.cells cs t fr))
    (hu : P.underlying ty = some d) (hd : (match d with | .struct _ | .array _ _ => true | _ => false) = true) (hi : (P.info? ty).map (·.size) = some cs.size) :
    (results fn tmps).run P w = .ok (.tuple #[.agg cs, tmps.getD u undef]) w := by
  have hp' : tmps[p]?.getD undef = .pointer (some ⟨g, 0, none⟩) := by simpa using hp
  rw [results_cell_tmp h]
  simp [hp', asAddr, Result.andThen, run_loadVar_row w g t ty cs fr d hg hu hd hi]

set_option maxHeartbeats 8000000 in
theorem rpart_any {w : World} {g : Nat} {s : List UInt8} {k : Nat} (h : Rd w g s k) (hk : k ≤ s.length) (hl : s.length ≤ 140737488351232) :
    Calls Try.prog 82 #[.pointer (some ⟨g, 0, none⟩)] w fun e w' => ∃ (t v : List UInt8) (ok : Bool) (j : Nat), e = .returned (.tuple #[.agg #[sv t, sv v], .bool ok]) ∧ k ≤ j ∧ j ≤ s.length ∧ t.length ≤ s.length ∧ v.length ≤ s.length ∧ partR (s.drop k) = (if ok then some ((t, v), s.drop j) else none) ∧ Rd w' g s j ∧ Mod (fun b => b = g) w w' := by
  have hsz := sv_size s
  have hgw : g < w.heap.size := Blk.lt h
  obtain ⟨P, hP⟩ : ∃ P, P = partR (s.drop k) := ⟨_, rfl⟩
  replace hP := Lib.hid hP
  go_enter Try.func82, Try.ntmps82
  go_wp2_with fail
  have B0 : Blk (w.alloc (.cells #[.string ⟨#[]⟩, .string ⟨#[]⟩] 46)) w.heap.size 46 #[.string ⟨#[]⟩, .string ⟨#[]⟩] := Blk.new w _ _
  have h0 := h.mod ((Mod.refl (fun _ => False) w).alloc (.cells #[.string ⟨#[]⟩, .string ⟨#[]⟩] 46)) (fun h => h)
  have m0 := (Mod.refl (fun b => b = g) w).alloc (.cells #[.string ⟨#[]⟩, .string ⟨#[]⟩] 46)
  refine (blanks_any h0 hk hl).mono ?_
  rintro e w1 ⟨rfl, a, ha, hal, hsa, r1, x1⟩
  have m1 := m0.then_ x1 (fun _ _ h => h)
  have B1 := B0.mod x1 (fun h => by omega)
  clear h0 m0 B0 x1
  replace hsa := Lib.hid hsa
  obtain ⟨c0, c1⟩ := r1.c
  go_wp2_with fail
  go_loopw [] (fun wr => ∃ j : Nat, a ≤ j ∧ j ≤ s.length ∧ Hid (Tk s a j) ∧ Rd wr g s j ∧ Mod (fun b => b = g) w wr ∧ Blk wr w.heap.size 46 #[.string ⟨#[]⟩, .string ⟨#[]⟩]) (fun wr => s.length - rdAt wr g)
  case atStart => exact ⟨a, Nat.le_refl _, hal, Lib.hid (Tk.start s a), r1, m1, B1⟩
  case round =>
    obtain ⟨j, hj, hjl, ht, r2, m2, B2⟩ := hrel
    clear c0 c1 r1 m1 B1
    obtain ⟨c0, c1⟩ := r2.c
    have z1 := Blk.frozen r2 1
    have hend := fun n => rend_any (r2.drewN n)
    have hat := r2.at_
    by_cases hlt : j < s.length
    case neg =>
      have hd : decide (j = s.length) = true := dtrue (by omega)
      rw [hd] at hend
      have hst := ht.out.stop (fun h => absurd h hlt)
      replace hst := Lib.hid hst
      clear ht hd
      go_wp2_with fail
      go_quiet ((go_at_call 83; refine Calls.quiet_of (hend _)))
      go_wp2_with fail
      obtain ⟨w3, hw3⟩ : ∃ x, x = wr.drewN nq := ⟨_, rfl⟩
      rw [← hw3]
      have xw3 : Ext wr w3 := by rw [hw3]; exact (Mod.refl _ wr).drewN nq
      clear hw3
      have r3 := r2.mod xw3 (fun h => h)
      have m3 : Mod (fun b => b = g) w w3 := m2.then_ xw3 (fun _ _ h => h.elim)
      have B3 := B2.mod xw3 (fun h => h)
      clear nq c0 c1 z1 xw3
      obtain ⟨c0, c1⟩ := r3.c
      have z1 := Blk.frozen r3 1
      clear hend hat r2 m2 B2
      have hj0 : (0 : Int) ≤ (a : Int) := by omega
      have hj1 : (a : Int) ≤ (j : Int) := by omega
      have hj2 : (j : Int) ≤ (s.length : Int) := by omega
      go_wp2_with fail
      go_quiet (fail)
      obtain ⟨w4, hw4⟩ : ∃ x, x = w3.drewN nq := ⟨_, rfl⟩
      rw [← hw4]
      have xw4 : Ext w3 w4 := by rw [hw4]; exact (Mod.refl _ w3).drewN nq
      clear hw4
      have r4 := r3.mod xw4 (fun h => h)
      have m4 : Mod (fun b => b = g) w w4 := m3.then_ xw4 (fun _ _ h => h.elim)
      have B4 := B3.mod xw4 (fun h => h)
      clear nq c0 c1 z1 xw4
      obtain ⟨c0, c1⟩ := r4.c
      have z1 := Blk.frozen r4 1
      clear r3 m3 B3
      go_wp2_with fail
      rw [ext_sv s a j, ← hst.out.1]
      obtain ⟨T, hT⟩ : ∃ T, T = (s.drop a).takeWhile typP := ⟨_, rfl⟩
      have hTl : T.length ≤ s.length := by rw [hT, hst.out.1, List.length_take, List.length_drop]; omega
      rw [← hT]
      refine (blanks_any r4 hjl hl).mono ?_
      rintro e w5 ⟨rfl, b, hb, hbl, hsb, r5, x5⟩
      have m5 := m4.then_ x5 (fun _ _ h => h)
      have B5 := B4.mod x5 (fun h => by omega)
      clear r4 m4 B4 x5 c0 c1 z1
      have hPT : P = if isTyp T then match s.drop b with | 61 :: l3 => (valueB l3).bind fun p => if p.1 = [] then none else some ((T, p.1), p.2) | _ => none else none := by
        rw [hP.out, partR, ← hsa.out, ← hT, hst.out.2, hsb]
      replace hPT := Lib.hid (hP.out.symm.trans hPT)
      clear hT hst hsb hP hsa
      go_wp2_with fail
      refine (type_any T (by omega)).mono ?_
      rintro e w6 ⟨rfl, hw6⟩
      rw [hw6]
      clear hw6
      by_cases hty : isTyp T
      case neg =>
        rw [dfalse hty]
        have hE : Hid (partR (s.drop k) = none) := Lib.hid (by rw [hPT.out, if_neg hty])
        clear hPT hty
        have d0 : _ = some _ := Blk.cell B5 0
        have d1 : _ = some _ := Blk.cell B5 1
        have f0 := Blk.frozen B5 0
        have f1 := Blk.frozen B5 1
        go_wp2_with fail
        have R5 := fun u v => ((B5).set_ 0 u).set_ 1 v
        have m9 := fun u v => ((m5).setCell (p := ⟨w.heap.size, 0, none⟩) (fun h => absurd h (Nat.lt_irrefl _)) u).setCell (p := ⟨w.heap.size, 1, none⟩) (fun h => absurd h (Nat.lt_irrefl _)) v
        have r9 := fun u v => ((r5).far (p := ⟨w.heap.size, 0, none⟩) (Nat.ne_of_lt hgw) u).far (p := ⟨w.heap.size, 1, none⟩) (Nat.ne_of_lt hgw) v
        refine bodyPost_ret (results_cell_row2 Try.results82 _ _ _ _ _ _ _ rfl (R5 _ _) Try.underlying46 rfl (by kernel_rfl)) rfl ?_
        exact ⟨[], [], false, b, rfl, by omega, hbl, Nat.zero_le _, Nat.zero_le _, hE.out, r9 _ _, m9 _ _⟩
      rw [dtrue hty]
      have hPT2 := hPT.out
      rw [if_pos hty] at hPT2
      clear hty hPT
      replace hPT2 := Lib.hid hPT2
      go_wp2_with fail
      refine (rdis_any r5 hbl 61).mono ?_
      rintro e w6 ⟨rfl, n6, hw6⟩
      have x6 : Ext w5 w6 := by rw [hw6]; exact (Mod.refl _ w5).drewN n6
      clear hw6
      have r6 := r5.mod x6 (fun h => h)
      have m6 : Mod (fun b => b = g) w w6 := m5.then_ x6 (fun _ _ h => h.elim)
      have B6 := B5.mod x6 (fun h => h)
      clear r5 m5 B5 x6
      by_cases heq : s[b]? = some 61
      case neg =>
        rw [dfalse heq]
        have hE : Hid (partR (s.drop k) = none) := Lib.hid (by
          rw [hPT2.out]
          split
          · rename_i l3 hl3
            exfalso
            apply heq
            rw [← List.head?_drop, hl3]
            rfl
          · rfl)
        clear hPT2 heq
        have d0 : _ = some _ := Blk.cell B6 0
        have d1 : _ = some _ := Blk.cell B6 1
        have f0 := Blk.frozen B6 0
        have f1 := Blk.frozen B6 1
        go_wp2_with fail
        have R5 := fun u v => ((B6).set_ 0 u).set_ 1 v
        have m9 := fun u v => ((m6).setCell (p := ⟨w.heap.size, 0, none⟩) (fun h => absurd h (Nat.lt_irrefl _)) u).setCell (p := ⟨w.heap.size, 1, none⟩) (fun h => absurd h (Nat.lt_irrefl _)) v
        have r9 := fun u v => ((r6).far (p := ⟨w.heap.size, 0, none⟩) (Nat.ne_of_lt hgw) u).far (p := ⟨w.heap.size, 1, none⟩) (Nat.ne_of_lt hgw) v
        refine bodyPost_ret (results_cell_row2 Try.results82 _ _ _ _ _ _ _ rfl (R5 _ _) Try.underlying46 rfl (by kernel_rfl)) rfl ?_
        exact ⟨[], [], false, b, rfl, by omega, hbl, Nat.zero_le _, Nat.zero_le _, hE.out, r9 _ _, m9 _ _⟩
      exfalso
      have hblt : b < s.length := (List.getElem?_eq_some_iff.1 heq).1
      omega
    obtain ⟨c, hck⟩ : ∃ c, c = s[j] := ⟨_, rfl⟩
    have hg : ∀ h', (⟨s.toArray⟩ : ByteArray)[j]'h' = c := fun h' => (sv_get s j hlt h').trans hck.symm
    have hd : decide (j = s.length) = false := dfalse (by omega)
    rw [hd] at hend
    clear hd
    have hi0 : (0 : Int) ≤ (j : Int) := by omega
    have hi1 : (j : Int) < (s.length : Int) := by omega
    have hin := fun (wx : World) => inType_any c.toNat (w := wx)
    by_cases htc : typN c.toNat
    case neg =>
      have hst := ht.out.stop (fun h => by unfold typP; exact dfalse (by rw [← hck]; exact htc))
      replace hst := Lib.hid hst
      rw [dfalse htc] at hin
      clear ht htc hck
      go_wp2_with fail
      go_quiet ((first | (go_at_call 83; refine Calls.quiet_of (hend _)) | (go_at_call 96; exact quiet_add_same (hin _)) | (go_at_call 96; exact Calls.quiet_of_same (hin _))))
      go_wp2_with fail
      obtain ⟨w3, hw3⟩ : ∃ x, x = wr.drewN nq := ⟨_, rfl⟩
      rw [← hw3]
      have xw3 : Ext wr w3 := by rw [hw3]; exact (Mod.refl _ wr).drewN nq
      clear hw3
      have r3 := r2.mod xw3 (fun h => h)
      have m3 : Mod (fun b => b = g) w w3 := m2.then_ xw3 (fun _ _ h => h.elim)
      have B3 := B2.mod xw3 (fun h => h)
      clear nq c0 c1 z1 xw3
      obtain ⟨c0, c1⟩ := r3.c
      have z1 := Blk.frozen r3 1
      clear hend hat r2 m2 B2
      have hj0 : (0 : Int) ≤ (a : Int) := by omega
      have hj1 : (a : Int) ≤ (j : Int) := by omega
      have hj2 : (j : Int) ≤ (s.length : Int) := by omega
      go_wp2_with fail
      go_quiet (fail)
      obtain ⟨w4, hw4⟩ : ∃ x, x = w3.drewN nq := ⟨_, rfl⟩
      rw [← hw4]
      have xw4 : Ext w3 w4 := by rw [hw4]; exact (Mod.refl _ w3).drewN nq
      clear hw4
      have r4 := r3.mod xw4 (fun h => h)
      have m4 : Mod (fun b => b = g) w w4 := m3.then_ xw4 (fun _ _ h => h.elim)
      have B4 := B3.mod xw4 (fun h => h)
      clear nq c0 c1 z1 xw4
      obtain ⟨c0, c1⟩ := r4.c
      have z1 := Blk.frozen r4 1
      clear r3 m3 B3
      go_wp2_with fail
      rw [ext_sv s a j, ← hst.out.1]
      obtain ⟨T, hT⟩ : ∃ T, T = (s.drop a).takeWhile typP := ⟨_, rfl⟩
      have hTl : T.length ≤ s.length := by rw [hT, hst.out.1, List.length_take, List.length_drop]; omega
      rw [← hT]
      refine (blanks_any r4 hjl hl).mono ?_
      rintro e w5 ⟨rfl, b, hb, hbl, hsb, r5, x5⟩
      have m5 := m4.then_ x5 (fun _ _ h => h)
      have B5 := B4.mod x5 (fun h => by omega)
      clear r4 m4 B4 x5 c0 c1 z1
      have hPT : P = if isTyp T then match s.drop b with | 61 :: l3 => (valueB l3).bind fun p => if p.1 = [] then none else some ((T, p.1), p.2) | _ => none else none := by
        rw [hP.out, partR, ← hsa.out, ← hT, hst.out.2, hsb]
      replace hPT := Lib.hid (hP.out.symm.trans hPT)
      clear hT hst hsb hP hsa
      go_wp2_with fail
      refine (type_any T (by omega)).mono ?_
      rintro e w6 ⟨rfl, hw6⟩
      rw [hw6]
      clear hw6
      by_cases hty : isTyp T
      case neg =>
        rw [dfalse hty]
        have hE : Hid (partR (s.drop k) = none) := Lib.hid (by rw [hPT.out, if_neg hty])
        clear hPT hty
        have d0 : _ = some _ := Blk.cell B5 0
        have d1 : _ = some _ := Blk.cell B5 1
        have f0 := Blk.frozen B5 0
        have f1 := Blk.frozen B5 1
        go_wp2_with fail
        have R5 := fun u v => ((B5).set_ 0 u).set_ 1 v
        have m9 := fun u v => ((m5).setCell (p := ⟨w.heap.size, 0, none⟩) (fun h => absurd h (Nat.lt_irrefl _)) u).setCell (p := ⟨w.heap.size, 1, none⟩) (fun h => absurd h (Nat.lt_irrefl _)) v
        have r9 := fun u v => ((r5).far (p := ⟨w.heap.size, 0, none⟩) (Nat.ne_of_lt hgw) u).far (p := ⟨w.heap.size, 1, none⟩) (Nat.ne_of_lt hgw) v
        refine bodyPost_ret (results_cell_row2 Try.results82 _ _ _ _ _ _ _ rfl (R5 _ _) Try.underlying46 rfl (by kernel_rfl)) rfl ?_
        exact ⟨[], [], false, b, rfl, by omega, hbl, Nat.zero_le _, Nat.zero_le _, hE.out, r9 _ _, m9 _ _⟩
      rw [dtrue hty]
      have hPT2 := hPT.out
      rw [if_pos hty] at hPT2
      clear hty hPT
      replace hPT2 := Lib.hid hPT2
      go_wp2_with fail
      refine (rdis_any r5 hbl 61).mono ?_
      rintro e w6 ⟨rfl, n6, hw6⟩
      have x6 : Ext w5 w6 := by rw [hw6]; exact (Mod.refl _ w5).drewN n6
      clear hw6
      have r6 := r5.mod x6 (fun h => h)
      have m6 : Mod (fun b => b = g) w w6 := m5.then_ x6 (fun _ _ h => h.elim)
      have B6 := B5.mod x6 (fun h => h)
      clear r5 m5 B5 x6
      by_cases heq : s[b]? = some 61
      case neg =>
        rw [dfalse heq]
        have hE : Hid (partR (s.drop k) = none) := Lib.hid (by
          rw [hPT2.out]
          split
          · rename_i l3 hl3
            exfalso
            apply heq
            rw [← List.head?_drop, hl3]
            rfl
          · rfl)
        clear hPT2 heq
        have d0 : _ = some _ := Blk.cell B6 0
        have d1 : _ = some _ := Blk.cell B6 1
        have f0 := Blk.frozen B6 0
        have f1 := Blk.frozen B6 1
        go_wp2_with fail
        have R5 := fun u v => ((B6).set_ 0 u).set_ 1 v
        have m9 := fun u v => ((m6).setCell (p := ⟨w.heap.size, 0, none⟩) (fun h => absurd h (Nat.lt_irrefl _)) u).setCell (p := ⟨w.heap.size, 1, none⟩) (fun h => absurd h (Nat.lt_irrefl _)) v
        have r9 := fun u v => ((r6).far (p := ⟨w.heap.size, 0, none⟩) (Nat.ne_of_lt hgw) u).far (p := ⟨w.heap.size, 1, none⟩) (Nat.ne_of_lt hgw) v
        refine bodyPost_ret (results_cell_row2 Try.results82 _ _ _ _ _ _ _ rfl (R5 _ _) Try.underlying46 rfl (by kernel_rfl)) rfl ?_
        exact ⟨[], [], false, b, rfl, by omega, hbl, Nat.zero_le _, Nat.zero_le _, hE.out, r9 _ _, m9 _ _⟩
      rw [dtrue heq]
      have hblt : b < s.length := (List.getElem?_eq_some_iff.1 heq).1
      have hdb : s.drop b = 61 :: s.drop (b + 1) := by
        rw [List.drop_eq_getElem_cons hblt, (List.getElem?_eq_some_iff.1 heq).2]
      have hPT := hPT2.out
      rw [hdb] at hPT
      replace hPT := Lib.hid hPT
      clear hPT2 hdb heq
      obtain ⟨c0, c1⟩ := r6.c
      have z1 := Blk.frozen r6 1
      have r7 := r6.step
      have m7 := m6.then_ (step_mod (w := w6) (g := g) (.int .i64 ((b : Int) + 1))) (fun _ _ h => h)
      have B7 := B6.mod (step_mod (w := w6) (g := g) (.int .i64 ((b : Int) + 1))) (fun h => by omega)
      go_wp2_with fail
      refine (rvalue_any r7 (by omega) hl).mono ?_
      rintro e w8 ⟨v, ok, j2, rfl, hj2, hj2l, hvl, hve, r8, x8⟩
      have m8 := m7.then_ x8 (fun _ _ h => h)
      have B8 := B7.mod x8 (fun h => by omega)
      have hPE := hPT.out
      rw [hve] at hPE
      clear hPT hve r6 m6 B6 r7 m7 B7 x8 c0 c1 z1
      have d0 : _ = some _ := Blk.cell B8 0
      have d1 : _ = some _ := Blk.cell B8 1
      have f0 := Blk.frozen B8 0
      have f1 := Blk.frozen B8 1
      cases ok
      · replace hPE := Lib.hid hPE
        go_wp2_with fail
        have R5 := fun u v => ((B8).set_ 0 u).set_ 1 v
        have m9 := fun u v => ((m8).setCell (p := ⟨w.heap.size, 0, none⟩) (fun h => absurd h (Nat.lt_irrefl _)) u).setCell (p := ⟨w.heap.size, 1, none⟩) (fun h => absurd h (Nat.lt_irrefl _)) v
        have r9 := fun u v => ((r8).far (p := ⟨w.heap.size, 0, none⟩) (Nat.ne_of_lt hgw) u).far (p := ⟨w.heap.size, 1, none⟩) (Nat.ne_of_lt hgw) v
        refine bodyPost_ret (results_cell_row2 Try.results82 _ _ _ _ _ _ _ rfl (R5 _ _) Try.underlying46 rfl (by kernel_rfl)) rfl ?_
        exact ⟨T, v, false, j2, rfl, by omega, hj2l, hTl, hvl, hPE.out, r9 _ _, m9 _ _⟩
      · by_cases hv0 : v = []
        · subst hv0
          replace hPE := Lib.hid hPE
          go_wp2_with fail
          have R5 := fun u v => ((B8).set_ 0 u).set_ 1 v
          have m9 := fun u v => ((m8).setCell (p := ⟨w.heap.size, 0, none⟩) (fun h => absurd h (Nat.lt_irrefl _)) u).setCell (p := ⟨w.heap.size, 1, none⟩) (fun h => absurd h (Nat.lt_irrefl _)) v
          have r9 := fun u v => ((r8).far (p := ⟨w.heap.size, 0, none⟩) (Nat.ne_of_lt hgw) u).far (p := ⟨w.heap.size, 1, none⟩) (Nat.ne_of_lt hgw) v
          refine bodyPost_ret (results_cell_row2 Try.results82 _ _ _ _ _ _ _ rfl (R5 _ _) Try.underlying46 rfl (by kernel_rfl)) rfl ?_
          exact ⟨T, [], false, j2, rfl, by omega, hj2l, hTl, Nat.zero_le _, by rw [hPE.out]; rfl, r9 _ _, m9 _ _⟩
        · replace hPE := Lib.hid hPE
          have hne : v.isEmpty = false := List.isEmpty_eq_false_iff.2 hv0
          go_wp2_with fail
          have R5 := fun u v => ((B8).set_ 0 u).set_ 1 v
          have m9 := fun u v => ((m8).setCell (p := ⟨w.heap.size, 0, none⟩) (fun h => absurd h (Nat.lt_irrefl _)) u).setCell (p := ⟨w.heap.size, 1, none⟩) (fun h => absurd h (Nat.lt_irrefl _)) v
          have r9 := fun u v => ((r8).far (p := ⟨w.heap.size, 0, none⟩) (Nat.ne_of_lt hgw) u).far (p := ⟨w.heap.size, 1, none⟩) (Nat.ne_of_lt hgw) v
          refine bodyPost_ret (results_cell_row2 Try.results82 _ _ _ _ _ _ _ rfl (R5 _ _) Try.underlying46 rfl (by kernel_rfl)) rfl ?_
          refine ⟨T, v, true, j2, rfl, by omega, hj2l, hTl, hvl, ?_, r9 _ _, m9 _ _⟩
          rw [hPE.out]
          show (if v = [] then none else some ((T, v), s.drop j2)) = some ((T, v), s.drop j2)
          rw [if_neg hv0]
    rw [dtrue htc] at hin
    have htn := ht.out.next hj hlt (by unfold typP; exact dtrue (by rw [← hck]; exact htc))
    replace htn := Lib.hid htn
    clear ht htc hck
    go_wp2_with fail
    go_quiet ((first | (go_at_call 83; refine Calls.quiet_of (hend _)) | (go_at_call 96; exact quiet_add_same (hin _)) | (go_at_call 96; exact Calls.quiet_of_same (hin _))))
    obtain ⟨w3, hw3⟩ : ∃ x, x = wr.drewN nq := ⟨_, rfl⟩
    rw [← hw3]
    have xw3 : Ext wr w3 := by rw [hw3]; exact (Mod.refl _ wr).drewN nq
    clear hw3
    have r3 := r2.mod xw3 (fun h => h)
    have m3 : Mod (fun b => b = g) w w3 := m2.then_ xw3 (fun _ _ h => h.elim)
    have B3 := B2.mod xw3 (fun h => h)
    clear nq c0 c1 z1 xw3
    obtain ⟨c0, c1⟩ := r3.c
    have z1 := Blk.frozen r3 1
    have r4 := r3.step
    have m4 := m3.then_ (step_mod (w := w3) (g := g) (.int .i64 ((j : Int) + 1))) (fun _ _ h => h)
    have B4 := B3.mod (step_mod (w := w3) (g := g) (.int .i64 ((j : Int) + 1))) (fun h => by omega)
    clear hend
    go_wp2_with fail
    refine ⟨⟨j + 1, by omega, by omega, htn, r4, m4, B4⟩, ?_⟩
    rw [r4.at_, hat]; omega
end Go.Proofs.Ytacmbomnjedbeaa

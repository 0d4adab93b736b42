/- dn: the reader: escape. -/
import Derived.Test.YtacmbomnjedbeaaDnPB
namespace Go.Proofs.Ytacmbomnjedbeaa
open Go.RowKit
set_option maxRecDepth 100000

/-- What may stand behind a stroke. -/
def mayB : List UInt8 := [44, 43, 34, 92, 60, 62, 59, 35, 61, 32]
/-- What stands behind a stroke, and what is left. -/
def escR : List UInt8 → Option (UInt8 × List UInt8)
  | [] => none
  | c :: l => if c ∈ mayB then some (c, l) else (digB c).bind fun x => l.head?.bind fun d => (digB d).map fun y => (x <<< 4 ||| y, l.tail)
theorem ext_mod {F : Nat → Prop} {a b : World} (h : Ext a b) : Mod F a b := h.mono (fun _ _ h => h.elim)
theorem digB_lt {b x : UInt8} (h : digB b = some x) : x.toNat < 16 := by
  have h8 := b.toNat_lt
  unfold digB at h
  split at h
  · rename_i h1; cases h; rw [UInt8.toNat_sub, show (48 : UInt8).toNat = 48 from rfl]; omega
  · split at h
    · cases h; rw [UInt8.toNat_add, UInt8.toNat_sub, show (97 : UInt8).toNat = 97 from rfl, show (10 : UInt8).toNat = 10 from rfl]; omega
    · split at h
      · cases h; rw [UInt8.toNat_add, UInt8.toNat_sub, show (65 : UInt8).toNat = 65 from rfl, show (10 : UInt8).toNat = 10 from rfl]; omega
      · cases h
theorem hilo_eq (x y : UInt8) (hx : x.toNat < 16) (hy : y.toNat < 16) : ((x <<< 4 ||| y).toNat : Int) = (x.toNat : Int) * 16 + (y.toNat : Int) := by
  have e : (x <<< 4 ||| y).toNat = x.toNat * 16 + y.toNat := by
    have h := fun (a b : Fin 16) => (show ((UInt8.ofNat a.1) <<< 4 ||| UInt8.ofNat b.1).toNat = a.1 * 16 + b.1 from by revert a b; decide)
    have h1 := h ⟨x.toNat, hx⟩ ⟨y.toNat, hy⟩
    simpa using h1
  omega

theorem bits_eq (x y : UInt8) (hx : x.toNat < 16) (hy : y.toNat < 16) : bits BinOp.or IntKind.u8 ((x.toNat : Int) * 16) (y.toNat : Int) = ((x <<< 4 ||| y).toNat : Int) := by
  rw [hilo_eq x y hx hy]
  have h := fun (a b : Fin 16) => (show bits BinOp.or IntKind.u8 ((a.1 : Int) * 16) (b.1 : Int) = (a.1 : Int) * 16 + (b.1 : Int) from by revert a b; decide)
  exact h ⟨x.toNat, hx⟩ ⟨y.toNat, hy⟩

set_option maxHeartbeats 4000000 in
theorem resc_any {w : World} {g : Nat} {s : List UInt8} {k : Nat} (h : Rd w g s k) (hk : k ≤ s.length) (hl : s.length ≤ 140737488351232) :
    Calls Try.prog 105 #[.pointer (some ⟨g, 0, none⟩)] w fun e w' => ∃ (v : UInt8) (ok : Bool) (j : Nat), e = .returned (.tuple #[.int .u8 (v.toNat : Int), .bool ok]) ∧ k ≤ j ∧ j ≤ s.length ∧ escR (s.drop k) = (if ok then some (v, s.drop j) else none) ∧ Rd w' g s j ∧ Mod (fun b => b = g) w w' := by
  have hsz := sv_size s
  by_cases hlt : k < s.length
  case neg =>
    have hd : decide (k = s.length) = true := dtrue (by omega)
    have hes : escR (s.drop k) = none := by rw [List.drop_of_length_le (by omega)]; rfl
    replace hes := Lib.hid hes
    go_enter Try.func105, Try.ntmps105
    go_wp2_with fail
    refine (rend_any h).mono ?_
    rintro e w1 ⟨rfl, m1, hw1⟩
    have x1 : Ext w w1 := by rw [hw1]; exact (Mod.refl _ w).drewN m1
    clear hw1
    rw [hd]
    go_wp2_with fail
    go_ret2
    exact ⟨0, false, k, rfl, Nat.le_refl _, hk, hes.out, h.mod x1 (fun h => h), ext_mod x1⟩
  have hd : decide (k = s.length) = false := dfalse (by omega)
  obtain ⟨c, hck⟩ : ∃ c, c = s[k] := ⟨_, rfl⟩
  have hg : ∀ h', (⟨s.toArray⟩ : ByteArray)[k]'h' = c := fun h' => (sv_get s k hlt h').trans hck.symm
  have hdr : s.drop k = c :: s.drop (k + 1) := by rw [List.drop_eq_getElem_cons hlt, hck]
  rw [hdr]
  clear hck hdr
  go_enter Try.func105, Try.ntmps105
  go_wp2_with fail
  refine (rend_any h).mono ?_
  rintro e w1 ⟨rfl, m1, hw1⟩
  have x1 : Ext w w1 := by rw [hw1]; exact (Mod.refl _ w).drewN m1
  clear hw1
  rw [hd]
  clear hd
  have r1 := h.mod x1 (fun h => h)
  obtain ⟨c0, c1⟩ := r1.c
  have z1 := Blk.frozen r1 1
  have hi0 : (0 : Int) ≤ (k : Int) := by omega
  have hi1 : (k : Int) < (s.length : Int) := by omega
  go_wp2_with fail
  go_quiet (fail)
  obtain ⟨w2, hw2⟩ : ∃ x, x = w1.drewN nq := ⟨_, rfl⟩
  rw [← hw2]
  have x2 : Ext w1 w2 := by rw [hw2]; exact (Mod.refl _ w1).drewN nq
  clear hw2
  have r2 := r1.mod x2 (fun h => h)
  have m2 : Mod (fun b => b = g) w w2 := (ext_mod x1).then_ x2 (fun _ _ h => h.elim)
  clear r1 z1 c0 c1 x1 x2
  obtain ⟨c0, c1⟩ := r2.c
  have z1 := Blk.frozen r2 1
  have r3 := r2.step
  have m3 := m2.then_ (step_mod (w := w2) (g := g) (.int .i64 ((k : Int) + 1))) (fun _ _ h => h)
  go_wp2_with fail
  obtain ⟨w3, hw3⟩ : ∃ x, x = w2.setCell ⟨g, 1, none⟩ (.int .i64 ((k : Int) + 1)) := ⟨_, rfl⟩
  rw [← hw3] at r3 m3 ⊢
  clear hw3 r2 m2 z1 c0 c1 w2
  refine (sidx_any mayB c).mono ?_
  rintro e w4 ⟨rfl, hw4⟩
  rw [hw4]
  clear hw4
  have hix := idx_mem mayB c
  by_cases hc : c ∈ mayB
  · rw [decide_eq_true hc] at hix
    go_wp2_with fail
    go_ret2
    exact ⟨c, true, k + 1, rfl, by omega, by omega, by rw [escR, if_pos hc]; rfl, r3, m3⟩
  rw [decide_eq_false hc] at hix
  replace hix := Lib.hid hix
  have hes : escR (c :: s.drop (k + 1)) = (digB c).bind fun x => s[k + 1]?.bind fun d => (digB d).map fun y => (x <<< 4 ||| y, s.drop (k + 2)) := by
    rw [escR, if_neg hc, List.head?_drop, List.tail_drop]
  replace hes := Lib.hid hes
  clear hg
  by_cases hd1 : (digB c).isSome
  case neg =>
    have hn : digB c = none := by simpa using hd1
    have hE := hes.out
    rw [hn, Option.bind_none] at hE
    replace hE := Lib.hid hE
    clear hes
    have hx := hix.out
    go_wp2_with fail
    refine (digit_any c).mono ?_
    rintro e w4 ⟨rfl, hw4⟩
    rw [hw4, hn]
    clear hw4
    go_wp2_with fail
    go_ret2
    exact ⟨0, false, k + 1, rfl, by omega, by omega, hE.out, r3, m3⟩
  obtain ⟨x, hx1⟩ := Option.isSome_iff_exists.1 hd1
  have hx16 := digB_lt hx1
  have hE := hes.out
  clear hes
  rw [hx1, Option.bind_some] at hE
  replace hE := Lib.hid hE
  clear hd1
  have hdg := digit_any c (w := w3)
  rw [hx1] at hdg
  simp only [Option.getD_some, Option.isSome_some] at hdg
  clear hx1
  by_cases hlt2 : k + 1 < s.length
  case neg =>
    have hde : decide (k + 1 = s.length) = true := dtrue (by omega)
    have hE1 := hE.out
    rw [List.getElem?_eq_none (by omega), Option.bind_none] at hE1
    replace hE1 := Lib.hid hE1
    clear hE
    have hx := hix.out
    go_wp2_with fail
    refine hdg.mono ?_
    rintro e w4 ⟨rfl, hw4⟩
    rw [hw4]
    clear hw4
    go_wp2_with fail
    refine (rend_any r3).mono ?_
    rintro e w4 ⟨rfl, n4, hw4⟩
    have x4 : Ext w3 w4 := by rw [hw4]; exact (Mod.refl _ w3).drewN n4
    clear hw4
    rw [hde]
    go_wp2_with fail
    go_ret2
    exact ⟨0, false, k + 1, rfl, by omega, by omega, hE1.out, r3.mod x4 (fun h => h), m3.then_ x4 (fun _ _ h => h.elim)⟩
  have hde : decide (k + 1 = s.length) = false := dfalse (by omega)
  obtain ⟨d, hdk⟩ : ∃ d, d = s[k + 1] := ⟨_, rfl⟩
  have hE1 := hE.out
  clear hE
  rw [List.getElem?_eq_getElem hlt2, ← hdk, Option.bind_some] at hE1
  replace hE := Lib.hid hE1
  clear hE1
  have hg : ∀ h', (⟨s.toArray⟩ : ByteArray)[k + 1]'h' = d := fun h' => (sv_get s (k + 1) hlt2 h').trans hdk.symm
  clear hdk
  have hix1 := hix.out
  go_wp2_with fail
  refine hdg.mono ?_
  rintro e w4 ⟨rfl, hw4⟩
  rw [hw4]
  clear hw4 hdg
  go_wp2_with fail
  refine (rend_any r3).mono ?_
  rintro e w4 ⟨rfl, n4, hw4⟩
  have x4 : Ext w3 w4 := by rw [hw4]; exact (Mod.refl _ w3).drewN n4
  clear hw4
  rw [hde]
  clear hde
  have r4 := r3.mod x4 (fun h => h)
  have m4 : Mod (fun b => b = g) w w4 := m3.then_ x4 (fun _ _ h => h.elim)
  clear x4 r3 m3 w3 hix hix1 h hi0 hi1
  obtain ⟨c0, c1⟩ := r4.c
  have hi0 : (0 : Int) ≤ ((k + 1 : Nat) : Int) := by omega
  have hi1 : ((k + 1 : Nat) : Int) < (s.length : Int) := by omega
  go_wp2_with fail
  go_quiet ((go_at_call 107; exact Calls.quiet_of_same (digit_any d)))
  obtain ⟨w5, hw5⟩ : ∃ x, x = w4.drewN nq := ⟨_, rfl⟩
  rw [← hw5]
  have x5 : Ext w4 w5 := by rw [hw5]; exact (Mod.refl _ w4).drewN nq
  clear hw5
  have r5 := r4.mod x5 (fun h => h)
  have m5 : Mod (fun b => b = g) w w5 := m4.then_ x5 (fun _ _ h => h.elim)
  clear r4 x5 m4 c0 c1 hg
  obtain ⟨c0, c1⟩ := r5.c
  have z1 := Blk.frozen r5 1
  have r6 := r5.step
  have m6 := m5.then_ (step_mod (w := w5) (g := g) (.int .i64 (((k + 1 : Nat) : Int) + 1))) (fun _ _ h => h)
  obtain ⟨y, hy⟩ : ∃ y, y = (digB d).getD 0 := ⟨_, rfl⟩
  have hy16 : y.toNat < 16 := by
    rw [hy]
    cases hh : digB d with
    | none => exact Nat.zero_lt_succ _
    | some z => exact digB_lt hh
  obtain ⟨ok, hok⟩ : ∃ ok, ok = (digB d).isSome := ⟨_, rfl⟩
  have hE2 : escR (c :: s.drop (k + 1)) = if ok then some (x <<< 4 ||| y, s.drop (k + 2)) else none := by
    rw [hE.out, hy, hok]
    cases digB d <;> rfl
  rw [← hy, ← hok]
  replace hE2 := Lib.hid hE2
  clear hE hy hok
  go_wp2_with fail
  rw [bits_eq x y hx16 hy16]
  go_ret2
  exact ⟨x <<< 4 ||| y, ok, k + 2, rfl, by omega, by omega, hE2.out, r6, m6⟩
end Go.Proofs.Ytacmbomnjedbeaa

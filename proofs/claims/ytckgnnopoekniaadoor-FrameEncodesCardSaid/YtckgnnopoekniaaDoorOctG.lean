/- octet: check sums. -/
import Derived.Test.YtckgnnopoekniaaDoorOctF
namespace Go.Proofs.YtckgnnopoekniaaDoor
open Go.RowKit
set_option maxRecDepth 100000

/-- What four digits do to a sum. -/
def nibs : List Nat := [0, 498536548, 997073096, 651767980, 1994146192, 1802195444, 1303535960, 1342533948, 3988292384, 4027552580, 3604390888, 3412177804, 2607071920, 2262029012, 2685067896, 3183342108]
def nib (k : Nat) : Nat := nibs.getD k 0
theorem nib_lt (k : Nat) : nib k < 4294967296 := by
  by_cases h : k < 16
  · have : ∀ k, k < 16 → nib k < 4294967296 := by decide
    exact this k h
  · unfold nib
    have : nibs[k]? = none := List.getElem?_eq_none (by simp [nibs]; omega)
    simp [List.getD, this]
/-- The table stands in its block. -/
def Nib (w : World) : Prop := ∀ k, k < 16 → w.cell? ⟨0, k, none⟩ = some (.int .u32 (nib k : Nat))
theorem Nib.mod {F : Nat → Prop} {w w' : World} (h : Nib w) (hm : Mod F w w') (hn : ¬ F 0) : Nib w' := fun k hk => (hm.cell (p := ⟨0, k, none⟩) (lt_of_cell (h k hk)) hn).trans (h k hk)
theorem Nib.drewN {w : World} (h : Nib w) (n : Nat) : Nib (w.drewN n) := h
def nstep (s : Nat) : Nat := (s / 16) ^^^ nib (s % 16)
def bstep (s : Nat) (b : UInt8) : Nat := nstep (nstep (s ^^^ b.toNat))
def crc (s : Nat) (l : List UInt8) : Nat := l.foldl bstep s
def sumOf (l : List UInt8) : Nat := 4294967295 ^^^ crc 4294967295 l
theorem u32_not (u : Nat) (hu : u < 4294967296) : bits .xor .u32 IntKind.u32.max (u : Int) = ((4294967295 ^^^ u : Nat) : Int) := u32_xor_nat 4294967295 u (by omega) hu
theorem xor_lt32 {a b : Nat} (ha : a < 4294967296) (hb : b < 4294967296) : a ^^^ b < 4294967296 := Nat.xor_lt_two_pow (n := 32) ha hb
theorem nstep_lt {s : Nat} (h : s < 4294967296) : nstep s < 4294967296 := xor_lt32 (by omega) (nib_lt _)
theorem bstep_lt {s : Nat} (b : UInt8) (h : s < 4294967296) : bstep s b < 4294967296 := nstep_lt (nstep_lt (xor_lt32 h (by have := b.toNat_lt; omega)))
theorem crc_lt (l : List UInt8) : ∀ s, s < 4294967296 → crc s l < 4294967296 := by
  induction l with
  | nil => intro s h; exact h
  | cons b l ih => intro s h; exact ih _ (bstep_lt b h)
theorem crc_append (s : Nat) (a b : List UInt8) : crc s (a ++ b) = crc (crc s a) b := by unfold crc; rw [List.foldl_append]
theorem crc_snoc (s : Nat) (a : List UInt8) (b : UInt8) : crc s (a ++ [b]) = bstep (crc s a) b := by rw [crc_append]; rfl
theorem u32_15 (s : Nat) (h : s < 4294967296) : bits .and .u32 (s : Int) 15 = ((s % 16 : Nat) : Int) := by
  have := u32_and_nat s 15 h (by omega)
  rw [show (15 : Nat) = 2 ^ 4 - 1 by decide, Nat.and_two_pow_sub_one_eq_mod] at this
  simpa using this
set_option maxHeartbeats 1000000 in
theorem sum_any {w : World} {S : Nat → Prop} {y : Value} {L : List (List UInt8)} (hy : Rw w S y L) (hN : Nib w) :
    Calls Tryd.prog 23 #[y] w fun e w' => e = .returned (.int .u32 (sumOf L.flatten : Nat)) ∧ w' = w := by
  obtain ⟨A, c, vs, rfl, h1, h2, h3, h4, h5, h6⟩ := hy.open_
  go_enter Tryd.func23, Tryd.ntmps23
  go_wp2
  go_loop [3, 10] (fun s i => ∃ k u : Nat, k ≤ L.length ∧ i = .int .i64 k ∧ s = .int .u32 u ∧ u < 4294967296 ∧ Hid (u = crc 4294967295 (L.take k).flatten)) (fun _ i => L.length - (intOf i).toNat)
  case atStart => exact ⟨0, 4294967295, Nat.zero_le _, rfl, rfl, by omega, by simp [Hid, crc]⟩
  case round =>
    obtain ⟨k, u, hk, rfl, rfl, hu, hr⟩ := hrel
    by_cases hlt : k < L.length
    · obtain ⟨ad, x, rfl, hs, hc, hbs⟩ := row_at h4 h5 h6 hlt
      obtain ⟨A2, c2, rfl, k1, k2, k3, k4⟩ := hbs.open_
      have hsn := Lib.hid (flat_snoc L k hlt)
      go_wp2
      go_loop [3, 16] (fun s i => ∃ j u : Nat, j ≤ L[k].length ∧ i = .int .i64 j ∧ s = .int .u32 u ∧ u < 4294967296 ∧ Hid (u = crc 4294967295 ((L.take k).flatten ++ L[k].take j))) (fun _ i => L[k].length - (intOf i).toNat)
      case atStart => exact ⟨0, u, Nat.zero_le _, rfl, rfl, hu, by simpa using hr⟩
      case round =>
        clear hu hr
        obtain ⟨j, u, hj, rfl, rfl, hu, hr⟩ := hrel
        by_cases hjt : j < L[k].length
        · obtain ⟨ad2, rfl, hs2, hc2⟩ := k4.byte hjt
          have hb := L[k][j].toNat_lt
          have hx1 : bits .xor .u32 (u : Int) (L[k][j].toNat : Int) = ((u ^^^ L[k][j].toNat : Nat) : Int) := u32_xor_nat _ _ hu (by omega)
          have hv : u ^^^ L[k][j].toNat < 4294967296 := xor_lt32 hu (by omega)
          have hst : bstep u L[k][j] = nstep (nstep (u ^^^ L[k][j].toNat)) := rfl
          replace hst := Lib.hid hst
          generalize u ^^^ L[k][j].toNat = v at *
          have ha1 := u32_15 v hv
          have hn1 := hN (v % 16) (by omega)
          have hx2 : bits .xor .u32 ((v : Int) / 16) (nib (v % 16) : Int) = ((nstep v : Nat) : Int) := by
            have := u32_xor_nat (v / 16) (nib (v % 16)) (by omega) (nib_lt _)
            rw [show ((v / 16 : Nat) : Int) = (v : Int) / 16 by omega] at this
            exact this
          have hv2 := nstep_lt hv
          generalize nstep v = v2 at *
          have ha2 := u32_15 v2 hv2
          have hn2 := hN (v2 % 16) (by omega)
          have hx3 : bits .xor .u32 ((v2 : Int) / 16) (nib (v2 % 16) : Int) = ((nstep v2 : Nat) : Int) := by
            have := u32_xor_nat (v2 / 16) (nib (v2 % 16)) (by omega) (nib_lt _)
            rw [show ((v2 / 16 : Nat) : Int) = (v2 : Int) / 16 by omega] at this
            exact this
          have hv3 := nstep_lt hv2
          generalize nstep v2 = v3 at *
          go_wp2
          refine ⟨⟨j + 1, v3, by omega, by go_num, rfl, hv3, Lib.hid ?_⟩, by simp [intOf]; omega⟩
          rw [List.take_succ_eq_append_getElem hjt, ← List.append_assoc, crc_snoc, ← hr.out, hst.out]
        · go_wp2
          refine ⟨⟨k + 1, u, by omega, by go_num, rfl, hu, Lib.hid ?_⟩, by simp [intOf]; omega⟩
          rw [hsn.out, hr.out, show L[k].take j = L[k] from List.take_of_length_le (by omega)]
    · have hsg : IntKind.u32.signed = false := rfl
      have hnot := u32_not u hu
      go_wp2
      go_ret
      rw [List.take_of_length_le (by omega)] at hr
      exact ⟨by rw [sumOf, ← hr.out]; rfl, rfl⟩

/- THE DOCUMENT'S ANSWER -/
def gstep (s : Nat) : Nat := if s % 2 = 1 then (s / 2) ^^^ 3988292384 else s / 2
def gsteps : Nat → Nat → Nat
  | 0, s => s
  | n + 1, s => gstep (gsteps n s)
theorem gstep_lt {s : Nat} (h : s < 4294967296) : gstep s < 4294967296 := by
  unfold gstep
  split
  · exact xor_lt32 (by omega) (by omega)
  · omega
theorem gsteps_lt (n : Nat) {s : Nat} (h : s < 4294967296) : gsteps n s < 4294967296 := by
  induction n with
  | zero => exact h
  | succ n ih => exact gstep_lt ih
theorem gsteps_add (a b s : Nat) : gsteps (a + b) s = gsteps a (gsteps b s) := by
  induction a with
  | zero => simp [gsteps]
  | succ a ih => rw [show a + 1 + b = (a + b) + 1 by omega, gsteps, ih]; rfl
/-- A row whose lowest digit is 0 passes a step by itself. -/
theorem gstep_xor (h l : Nat) (he : h % 2 = 0) : gstep (h ^^^ l) = (h / 2) ^^^ gstep l := by
  have e1 : (h ^^^ l) % 2 = l % 2 := by
    have := Nat.xor_mod_two_pow (a := h) (b := l) (n := 1)
    simp only [Nat.pow_one] at this
    rw [this, he]; simp
  have e2 : (h ^^^ l) / 2 = (h / 2) ^^^ (l / 2) := by
    have := Nat.shiftRight_xor_distrib (a := h) (b := l) (i := 1)
    simpa [Nat.shiftRight_eq_div_pow] using this
  unfold gstep
  rw [e1, e2]
  split
  · rw [Nat.xor_assoc]
  · rfl
theorem nib_four : ∀ k, k < 16 → gsteps 4 k = nib k := by decide
theorem nstep_eq (s : Nat) : nstep s = gsteps 4 s := by
  have e0 : s = (s / 16 * 16) ^^^ (s % 16) := by
    have h := Nat.shiftLeft_add_eq_or_of_lt (b := s % 16) (i := 4) (by omega) (s / 16)
    have h2 : (s / 16) <<< 4 ^^^ s % 16 = (s / 16) <<< 4 ||| s % 16 := by
      apply Nat.eq_of_testBit_eq
      intro i
      simp only [Nat.testBit_xor, Nat.testBit_or, Nat.testBit_shiftLeft]
      by_cases hi : 4 ≤ i
      · have : (s % 16).testBit i = false := Nat.testBit_lt_two_pow (Nat.lt_of_lt_of_le (Nat.mod_lt _ (by omega)) (Nat.pow_le_pow_right (n := 2) (by omega) hi))
        simp [this]
      · simp [hi]
    rw [← h, Nat.shiftLeft_eq] at h2
    rw [show s / 16 * 16 = s / 16 * 2 ^ 4 by omega, h2]; omega
  have h1 := gstep_xor (s / 16 * 16) (s % 16) (by omega)
  have h2 := gstep_xor (s / 16 * 16 / 2) (gstep (s % 16)) (by omega)
  have h3 := gstep_xor (s / 16 * 16 / 2 / 2) (gstep (gstep (s % 16))) (by omega)
  have h4 := gstep_xor (s / 16 * 16 / 2 / 2 / 2) (gstep (gstep (gstep (s % 16)))) (by omega)
  have hn := nib_four (s % 16) (by omega)
  simp only [gsteps] at hn ⊢
  rw [← e0] at h1
  rw [h1, h2, h3, h4, hn]
  unfold nstep
  congr 1
  omega
theorem bstep_eq (s : Nat) (b : UInt8) : bstep s b = gsteps 8 (s ^^^ b.toNat) := by
  unfold bstep
  rw [nstep_eq, nstep_eq, ← gsteps_add]
end Go.Proofs.YtckgnnopoekniaaDoor

/- octet: what its small functions do to the world. -/
import Derived.Test.YtblfhonfjljndaaDoorRows
import Derived.Test.YtblfhonfjljndaaDoorWords
import Derived.Deep.RegionWith
namespace Go.Proofs.YtblfhonfjljndaaDoor
open Go.RowKit

theorem tyB : SliceTy Tryd.prog 32 5 (.int .u8 0) 1 := ⟨Tryd.underlying32, by kernel_rfl, rfl, Nat.le_refl _⟩
/-- The number u in seven binary digits a byte. -/
def enc7 (u : Nat) : List UInt8 := if h : u < 128 then [UInt8.ofNat u] else UInt8.ofNat (u % 128 + 128) :: enc7 (u / 128)
termination_by u
decreasing_by omega
theorem enc7_lo {u : Nat} (h : u < 128) : enc7 u = [UInt8.ofNat u] := by rw [enc7]; simp [h]
theorem enc7_hi {u : Nat} (h : ¬ u < 128) : enc7 u = UInt8.ofNat (u % 128 + 128) :: enc7 (u / 128) := by rw [enc7]; simp [h]
theorem enc7_pos (u : Nat) : 0 < (enc7 u).length := by
  by_cases h : u < 128
  · simp [enc7_lo h]
  · simp [enc7_hi h]
theorem enc7_length (k : Nat) : ∀ u, u < 2 ^ (7 * (k + 1)) → (enc7 u).length ≤ k + 1 := by
  induction k with
  | zero => intro u hu; rw [enc7_lo (by simpa using hu)]; simp
  | succ k ih =>
    intro u hu
    by_cases h : u < 128
    · simp [enc7_lo h]
    · rw [enc7_hi h]
      have := ih (u / 128) (by
        have e : 2 ^ (7 * (k + 1 + 1)) = 2 ^ (7 * (k + 1)) * 128 := by rw [show 7 * (k + 1 + 1) = 7 * (k + 1) + 7 by omega, Nat.pow_add]
        rw [e] at hu
        exact Nat.div_lt_of_lt_mul (by omega))
      simpa using this
/-- The number that is laid for v. -/
def clamp (v : Int) : Nat := (min (max v 0) 4611686018427387904).toNat
theorem u8_ofNat (n : Nat) (h : n < 256) : ((UInt8.ofNat n).toNat : Int) = n := by rw [UInt8.toNat_ofNat_of_lt' h]
/-- Several numbers. -/
def encs (l : List Int) : List UInt8 := l.flatMap fun v => enc7 (clamp v)
end Go.Proofs.YtblfhonfjljndaaDoor
namespace Go.Proofs.YtblfhonfjljndaaDoor
open Go.RowKit

/-- Rows, each with its length. -/
def encr (L : List (List UInt8)) : List UInt8 := L.flatMap fun p => enc7 p.length ++ p
end Go.Proofs.YtblfhonfjljndaaDoor
namespace Go.Proofs.YtblfhonfjljndaaDoor
open Go.RowKit

/-- So many bytes, taken. -/
def takeRaw (n : Int) (st : Option (List UInt8)) : List UInt8 × Option (List UInt8) :=
  match st with
  | none => ([], none)
  | some l => if n < 0 ∨ (l.length : Int) < n then ([], none) else (l.take n.toNat, some (l.drop n.toNat))
end Go.Proofs.YtblfhonfjljndaaDoor
namespace Go.Proofs.YtblfhonfjljndaaDoor
open Go.RowKit

/-- A number, taken from the beginning of bytes: the number, and what is left. -/
def numF : Nat → Nat → Nat → List UInt8 → Option (Nat × List UInt8)
  | 0, _, _, _ => none
  | _ + 1, _, _, [] => none
  | f + 1, i, acc, c :: t =>
    if 127 < c.toNat then numF f (i + 1) (acc + c.toNat % 128 * 128 ^ i) t
    else if (0 < i ∧ c.toNat = 0) ∨ 4611686018427387904 < acc + c.toNat % 128 * 128 ^ i then none
    else some (acc + c.toNat % 128 * 128 ^ i, t)
def takeNum (l : List UInt8) : Option (Nat × List UInt8) := numF 9 0 0 l
/-- A number, taken by a Reader. -/
def takeN (st : Option (List UInt8)) : Nat × Option (List UInt8) :=
  match st with
  | none => (0, none)
  | some l => match takeNum l with
    | none => (0, none)
    | some (n, t) => (n, some t)
end Go.Proofs.YtblfhonfjljndaaDoor
namespace Go.Proofs.YtblfhonfjljndaaDoor
open Go.RowKit

theorem take_next {α : Type} {xs ys : List α} {k : Nat} (hx : k < xs.length) (hy : k < ys.length) (h : xs.take k = ys.take k) (he : xs[k] = ys[k]) : xs.take (k + 1) = ys.take (k + 1) := by
  rw [List.take_succ_eq_append_getElem hx, List.take_succ_eq_append_getElem hy, h, he]
theorem byte_bne (a b : UInt8) : ((a.toNat : Int) != (b.toNat : Int)) = decide (a ≠ b) := by
  rw [Bool.eq_iff_iff]; simp only [bne_iff_ne, ne_eq, decide_eq_true_eq, ← UInt8.toNat_inj]; omega
set_option maxHeartbeats 400000 in
theorem same_any {w : World} {S T : Nat → Prop} {u v : Value} {xs ys : List UInt8} (h : Bs w S u xs) (h' : Bs w T v ys) :
    Calls Tryd.prog 12 #[u, v] w fun e w' => e = .returned (.bool (decide (xs = ys))) ∧ ∃ k, w' = w.drewN k := by
  obtain ⟨A, c, rfl, h1, h2, h3, h4⟩ := h.open_
  obtain ⟨A', c', rfl, h1', h2', h3', h4'⟩ := h'.open_
  by_cases hl : xs.length = ys.length
  · have HL := Lib.hid hl
    have hb : ((xs.length : Int) != (ys.length : Int)) = false := by simp [hl]
    clear hl
    go_enter Tryd.func12, Tryd.ntmps12
    go_wp2
    go_loopw [5] (fun i wr => ∃ k n : Nat, k ≤ xs.length ∧ i = .int .i64 k ∧ wr = w.drewN n ∧ Hid (xs.take k = ys.take k)) (fun i _ => xs.length - (intOf i).toNat)
    case atStart => exact ⟨0, 0, Nat.zero_le _, rfl, rfl, rfl⟩
    case round =>
      obtain ⟨k, n, hk, rfl, rfl, hr⟩ := hrel
      by_cases hlt : k < xs.length
      · have hlt' : k < ys.length := by have := HL.out; omega
        obtain ⟨ad, rfl, hB, hc⟩ := h4.byte hlt
        obtain ⟨ad', rfl, hB', hc'⟩ := h4'.byte hlt'
        by_cases he : xs[k] = ys[k]
        · have hne : ((xs[k].toNat : Int) != (ys[k].toNat : Int)) = false := by simp [he]
          replace he := Lib.hid he
          go_wp2
          go_quiet (fail)
          go_wp2
          exact ⟨⟨k + 1, n + nq, by omega, by go_num, by simp, Lib.hid (take_next hlt hlt' hr.out he.out)⟩, by simp [intOf]; omega⟩
        · have hne : ((xs[k].toNat : Int) != (ys[k].toNat : Int)) = true := by simp [byte_bne, he]
          replace he := Lib.hid he
          go_wp2
          go_quiet (fail)
          go_wp2
          go_ret
          have : xs ≠ ys := by rintro rfl; exact he.out rfl
          exact ⟨by simp [this], n + nq, by simp⟩
      · go_wp2
        go_ret
        refine ⟨?_, n, rfl⟩
        have : xs = ys := by
          have h1 := hr.out
          rwa [List.take_of_length_le (by omega), List.take_of_length_le (by have := HL.out; omega)] at h1
        simp [this]
  · have hb : ((xs.length : Int) != (ys.length : Int)) = true := by simp; omega
    have hn : decide (xs = ys) = false := by simp; rintro rfl; exact hl rfl
    rw [hn]
    clear hn
    go_enter Tryd.func12, Tryd.ntmps12
    go_wp2
    go_ret
    exact ⟨rfl, 0, rfl⟩
/-- How much rows weigh. -/
def weight (L : List (List UInt8)) : Nat := (L.map fun p => p.length + 3).sum
theorem weight_snoc (L : List (List UInt8)) (k : Nat) (h : k < L.length) : weight (L.take (k + 1)) = weight (L.take k) + (L[k].length + 3) := by
  unfold weight
  rw [List.take_succ_eq_append_getElem h, List.map_append, List.sum_append]
  simp
theorem weight_take (L : List (List UInt8)) (k : Nat) : weight (L.take k) ≤ weight L := by
  have e : weight L = weight (L.take k) + weight (L.drop k) := by
    unfold weight
    rw [← List.sum_append, ← List.map_append, List.take_append_drop]
  omega
end Go.Proofs.YtblfhonfjljndaaDoor
namespace Go.Proofs.YtblfhonfjljndaaDoor
open Go.RowKit
set_option maxRecDepth 100000

/-- All rows, one behind the other. -/
theorem flat_snoc (L : List (List UInt8)) (k : Nat) (h : k < L.length) : (L.take (k + 1)).flatten = (L.take k).flatten ++ L[k] := by
  rw [List.take_succ_eq_append_getElem h, List.flatten_append]
  simp
theorem flat_take (L : List (List UInt8)) (k : Nat) : (L.take k).flatten.length ≤ L.flatten.length := by
  have e : L.flatten = (L.take k).flatten ++ (L.drop k).flatten := by
    rw [← List.flatten_append, List.take_append_drop]
  rw [e, List.length_append]; omega
def flen (L : List (List UInt8)) (k : Nat) : Nat := (L.take k).flatten.length
theorem flen_snoc (L : List (List UInt8)) (k : Nat) (h : k < L.length) : flen L (k + 1) = flen L k + L[k].length := by
  unfold flen; rw [flat_snoc L k h, List.length_append]
theorem flen_le (L : List (List UInt8)) (k : Nat) : flen L k ≤ L.flatten.length := flat_take L k
theorem flen_all (L : List (List UInt8)) (k : Nat) (h : L.length ≤ k) : flen L k = L.flatten.length := by unfold flen; rw [List.take_of_length_le h]
set_option maxHeartbeats 400000 in
theorem join_any {w : World} {S : Nat → Prop} {y : Value} {L : List (List UInt8)} (hy : Rw w S y L) (hl : L.flatten.length ≤ 140737488355328) :
    Calls Tryd.prog 60 #[y] w fun e w' => ∃ v', e = .returned v' ∧ Own w' 5 v' (L.flatten.map bv) ∧ Fresh w.heap.size v' ∧ Ext w w' := by
  obtain ⟨A, c, vs, rfl, h1, h2, h3, h4, h5, h6⟩ := hy.open_
  go_enter Tryd.func60, Tryd.ntmps60
  go_wp2
  go_loop [3, 11] (fun n i => ∃ k : Nat, k ≤ L.length ∧ i = .int .i64 k ∧ n = .int .i64 (flen L k : Nat)) (fun _ i => L.length - (intOf i).toNat)
  case atStart => exact ⟨0, Nat.zero_le _, rfl, by simp [flen]⟩
  case round =>
    obtain ⟨k, hk, rfl, rfl⟩ := hrel
    by_cases hlt : k < L.length
    · obtain ⟨ad, x, rfl, hs, hc, hbs⟩ := row_at h4 h5 h6 hlt
      obtain ⟨A2, c2, rfl, k1, k2, k3, k4⟩ := hbs.open_
      have hsn := Lib.hid (flen_snoc L k hlt)
      have hle := flen_le L k
      have hle1 := flen_le L (k + 1)
      rw [hsn.out] at hle1
      go_wp2
      exact ⟨⟨k + 1, by omega, by go_num, by rw [hsn.out]; go_num⟩, by simp [intOf]; omega⟩
    · have hfl : flen L k = L.flatten.length := flen_all L k (by omega)
      rw [hfl]
      clear hfl
      obtain ⟨N, hN⟩ : ∃ N, N = L.flatten.length := ⟨_, rfl⟩
      rw [← hN]
      replace hN := Lib.hid hN
      have hN1 : N ≤ 140737488355328 := by rw [hN.out]; exact hl
      go_wp2_with ((with_reducible show wpList _ _ _ (⟨some 21, _, _, _, _, _⟩ :: _) _ _); refine wp_make0 tyB N rfl (.const (.int .i64 0)) (.tmp 20) rfl rfl rfl (by omega) ?_; intro w1 hown1 hext1 hlt1)
      go_loopw [6, 24] (fun v i wr => ∃ k : Nat, k ≤ L.length ∧ i = .int .i64 k ∧ Own wr 5 v ((L.take k).flatten.map bv) ∧ Fresh w.heap.size v ∧ Ext w wr) (fun _ i _ => L.length - (intOf i).toNat)
      case atStart => exact ⟨0, Nat.zero_le _, rfl, by simpa using hown1, fun k hk => by injection hk with hk; have : w.heap.size = k := hk; omega, hext1⟩
      case round =>
        clear hlt hown1 hext1 hlt1
        obtain ⟨k, hk, rfl, hown, hf, hm⟩ := hrel
        by_cases hlt : k < L.length
        · obtain ⟨ad, x, rfl, hs, hc, hbs⟩ := row_at h4 (h5.mod hm (fun _ _ _ h => h)) (fun k x l hx hl => (h6 k x l hx hl).ext hm) hlt
          have hsn := Lib.hid (flat_snoc L k hlt)
          have hle1 := flat_take L (k + 1)
          rw [hsn.out, List.length_append] at hle1
          go_wp2_with ((with_reducible show wpList _ _ _ (⟨some 30, _, _, _, _, _⟩ :: _) _ _); refine wp_app tyB hown hbs (bv_one _) rfl (.tmp 28) (.tmp 29) rfl rfl rfl ?hn ?_; rotate_right; intro v2 w2 hown2 hmod2 hnx2)
          case hn => simp only [List.length_map]; omega
          exact ⟨⟨k + 1, by omega, by go_num, by rw [hsn.out, List.map_append]; exact hown2, hnx2.fresh hf hm.size, ext_app0 hm hf hmod2⟩, by simp [intOf]; omega⟩
        · go_wp2
          go_ret
          rw [List.take_of_length_le (by omega)] at hown
          exact ⟨_, rfl, hown, hf, hm⟩
/-- A row taken by a Reader. -/
def takeB (st : Option (List UInt8)) : List UInt8 × Option (List UInt8) := takeRaw (takeN st).1 (takeN st).2
theorem numF_lt (f : Nat) : ∀ (i acc : Nat) (l t : List UInt8) (n : Nat), numF f i acc l = some (n, t) → t.length < l.length ∧ n ≤ 4611686018427387904 := by
  induction f with
  | zero => intro i acc l t n h; cases h
  | succ f ih =>
    intro i acc l t n h
    cases l with
    | nil => cases h
    | cons c l =>
      simp only [numF] at h
      split at h
      · have := ih _ _ _ _ _ h
        simp; omega
      · split at h
        · cases h
        · rename_i h1
          injection h with h
          injection h with h2 h3
          subst h3
          constructor
          · simp
          · rw [← h2]
            have : ¬ 4611686018427387904 < acc + c.toNat % 128 * 128 ^ i := fun h => h1 (.inr h)
            omega
theorem takeN_len (st : Option (List UInt8)) : ((takeN st).2.getD []).length ≤ (st.getD []).length := by
  cases st with
  | none => simp [takeN]
  | some l =>
    cases h : takeNum l with
    | none => simp [takeN, h]
    | some p =>
      obtain ⟨n, t⟩ := p
      have := (numF_lt _ _ _ _ _ _ h).1
      simp [takeN, h]; omega
end Go.Proofs.YtblfhonfjljndaaDoor
namespace Go.Proofs.YtblfhonfjljndaaDoor
open Go.RowKit
set_option maxRecDepth 100000

/-- What four digits do to a sum. -/
def nibs : List Nat := [0, 498536548, 997073096, 651767980, 1994146192, 1802195444, 1303535960, 1342533948, 3988292384, 4027552580, 3604390888, 3412177804, 2607071920, 2262029012, 2685067896, 3183342108]
def nib (k : Nat) : Nat := nibs.getD k 0
theorem nib_lt (k : Nat) : nib k < 4294967296 := by
  by_cases h : k < 16
  · have : ∀ k, k < 16 → nib k < 4294967296 := by decide
    exact this k h
  · unfold nib
    have : nibs[k]? = none := List.getElem?_eq_none (by simp [nibs]; omega)
    simp [List.getD, this]
/-- The table stands in its block. -/
def Nib (w : World) : Prop := ∀ k, k < 16 → w.cell? ⟨0, k, none⟩ = some (.int .u32 (nib k : Nat))
theorem Nib.mod {F : Nat → Prop} {w w' : World} (h : Nib w) (hm : Mod F w w') (hn : ¬ F 0) : Nib w' := fun k hk => (hm.cell (p := ⟨0, k, none⟩) (lt_of_cell (h k hk)) hn).trans (h k hk)
theorem Nib.drewN {w : World} (h : Nib w) (n : Nat) : Nib (w.drewN n) := h
def nstep (s : Nat) : Nat := (s / 16) ^^^ nib (s % 16)
def bstep (s : Nat) (b : UInt8) : Nat := nstep (nstep (s ^^^ b.toNat))
def crc (s : Nat) (l : List UInt8) : Nat := l.foldl bstep s
def sumOf (l : List UInt8) : Nat := 4294967295 ^^^ crc 4294967295 l
theorem u32_not (u : Nat) (hu : u < 4294967296) : bits .xor .u32 IntKind.u32.max (u : Int) = ((4294967295 ^^^ u : Nat) : Int) := u32_xor_nat 4294967295 u (by omega) hu
theorem xor_lt32 {a b : Nat} (ha : a < 4294967296) (hb : b < 4294967296) : a ^^^ b < 4294967296 := Nat.xor_lt_two_pow (n := 32) ha hb
theorem nstep_lt {s : Nat} (h : s < 4294967296) : nstep s < 4294967296 := xor_lt32 (by omega) (nib_lt _)
theorem bstep_lt {s : Nat} (b : UInt8) (h : s < 4294967296) : bstep s b < 4294967296 := nstep_lt (nstep_lt (xor_lt32 h (by have := b.toNat_lt; omega)))
theorem crc_lt (l : List UInt8) : ∀ s, s < 4294967296 → crc s l < 4294967296 := by
  induction l with
  | nil => intro s h; exact h
  | cons b l ih => intro s h; exact ih _ (bstep_lt b h)
theorem crc_append (s : Nat) (a b : List UInt8) : crc s (a ++ b) = crc (crc s a) b := by unfold crc; rw [List.foldl_append]
theorem crc_snoc (s : Nat) (a : List UInt8) (b : UInt8) : crc s (a ++ [b]) = bstep (crc s a) b := by rw [crc_append]; rfl
theorem u32_15 (s : Nat) (h : s < 4294967296) : bits .and .u32 (s : Int) 15 = ((s % 16 : Nat) : Int) := by
  have := u32_and_nat s 15 h (by omega)
  rw [show (15 : Nat) = 2 ^ 4 - 1 by decide, Nat.and_two_pow_sub_one_eq_mod] at this
  simpa using this
set_option maxHeartbeats 1000000 in
theorem sum_any {w : World} {S : Nat → Prop} {y : Value} {L : List (List UInt8)} (hy : Rw w S y L) (hN : Nib w) :
    Calls Tryd.prog 49 #[y] w fun e w' => e = .returned (.int .u32 (sumOf L.flatten : Nat)) ∧ w' = w := by
  obtain ⟨A, c, vs, rfl, h1, h2, h3, h4, h5, h6⟩ := hy.open_
  go_enter Tryd.func49, Tryd.ntmps49
  go_wp2
  go_loop [3, 10] (fun s i => ∃ k u : Nat, k ≤ L.length ∧ i = .int .i64 k ∧ s = .int .u32 u ∧ u < 4294967296 ∧ Hid (u = crc 4294967295 (L.take k).flatten)) (fun _ i => L.length - (intOf i).toNat)
  case atStart => exact ⟨0, 4294967295, Nat.zero_le _, rfl, rfl, by omega, by simp [Hid, crc]⟩
  case round =>
    obtain ⟨k, u, hk, rfl, rfl, hu, hr⟩ := hrel
    by_cases hlt : k < L.length
    · obtain ⟨ad, x, rfl, hs, hc, hbs⟩ := row_at h4 h5 h6 hlt
      obtain ⟨A2, c2, rfl, k1, k2, k3, k4⟩ := hbs.open_
      have hsn := Lib.hid (flat_snoc L k hlt)
      go_wp2
      go_loop [3, 16] (fun s i => ∃ j u : Nat, j ≤ L[k].length ∧ i = .int .i64 j ∧ s = .int .u32 u ∧ u < 4294967296 ∧ Hid (u = crc 4294967295 ((L.take k).flatten ++ L[k].take j))) (fun _ i => L[k].length - (intOf i).toNat)
      case atStart => exact ⟨0, u, Nat.zero_le _, rfl, rfl, hu, by simpa using hr⟩
      case round =>
        clear hu hr
        obtain ⟨j, u, hj, rfl, rfl, hu, hr⟩ := hrel
        by_cases hjt : j < L[k].length
        · obtain ⟨ad2, rfl, hs2, hc2⟩ := k4.byte hjt
          have hb := L[k][j].toNat_lt
          have hx1 : bits .xor .u32 (u : Int) (L[k][j].toNat : Int) = ((u ^^^ L[k][j].toNat : Nat) : Int) := u32_xor_nat _ _ hu (by omega)
          have hv : u ^^^ L[k][j].toNat < 4294967296 := xor_lt32 hu (by omega)
          have hst : bstep u L[k][j] = nstep (nstep (u ^^^ L[k][j].toNat)) := rfl
          replace hst := Lib.hid hst
          generalize u ^^^ L[k][j].toNat = v at *
          have ha1 := u32_15 v hv
          have hn1 := hN (v % 16) (by omega)
          have hx2 : bits .xor .u32 ((v : Int) / 16) (nib (v % 16) : Int) = ((nstep v : Nat) : Int) := by
            have := u32_xor_nat (v / 16) (nib (v % 16)) (by omega) (nib_lt _)
            rw [show ((v / 16 : Nat) : Int) = (v : Int) / 16 by omega] at this
            exact this
          have hv2 := nstep_lt hv
          generalize nstep v = v2 at *
          have ha2 := u32_15 v2 hv2
          have hn2 := hN (v2 % 16) (by omega)
          have hx3 : bits .xor .u32 ((v2 : Int) / 16) (nib (v2 % 16) : Int) = ((nstep v2 : Nat) : Int) := by
            have := u32_xor_nat (v2 / 16) (nib (v2 % 16)) (by omega) (nib_lt _)
            rw [show ((v2 / 16 : Nat) : Int) = (v2 : Int) / 16 by omega] at this
            exact this
          have hv3 := nstep_lt hv2
          generalize nstep v2 = v3 at *
          go_wp2
          refine ⟨⟨j + 1, v3, by omega, by go_num, rfl, hv3, Lib.hid ?_⟩, by simp [intOf]; omega⟩
          rw [List.take_succ_eq_append_getElem hjt, ← List.append_assoc, crc_snoc, ← hr.out, hst.out]
        · go_wp2
          refine ⟨⟨k + 1, u, by omega, by go_num, rfl, hu, Lib.hid ?_⟩, by simp [intOf]; omega⟩
          rw [hsn.out, hr.out, show L[k].take j = L[k] from List.take_of_length_le (by omega)]
    · have hsg : IntKind.u32.signed = false := rfl
      have hnot := u32_not u hu
      go_wp2
      go_ret
      rw [List.take_of_length_le (by omega)] at hr
      exact ⟨by rw [sumOf, ← hr.out]; rfl, rfl⟩

/- THE DOCUMENT'S ANSWER -/
def gstep (s : Nat) : Nat := if s % 2 = 1 then (s / 2) ^^^ 3988292384 else s / 2
def gsteps : Nat → Nat → Nat
  | 0, s => s
  | n + 1, s => gstep (gsteps n s)
theorem gstep_lt {s : Nat} (h : s < 4294967296) : gstep s < 4294967296 := by
  unfold gstep
  split
  · exact xor_lt32 (by omega) (by omega)
  · omega
theorem gsteps_lt (n : Nat) {s : Nat} (h : s < 4294967296) : gsteps n s < 4294967296 := by
  induction n with
  | zero => exact h
  | succ n ih => exact gstep_lt ih
theorem gsteps_add (a b s : Nat) : gsteps (a + b) s = gsteps a (gsteps b s) := by
  induction a with
  | zero => simp [gsteps]
  | succ a ih => rw [show a + 1 + b = (a + b) + 1 by omega, gsteps, ih]; rfl
/-- A row whose lowest digit is 0 passes a step by itself. -/
theorem gstep_xor (h l : Nat) (he : h % 2 = 0) : gstep (h ^^^ l) = (h / 2) ^^^ gstep l := by
  have e1 : (h ^^^ l) % 2 = l % 2 := by
    have := Nat.xor_mod_two_pow (a := h) (b := l) (n := 1)
    simp only [Nat.pow_one] at this
    rw [this, he]; simp
  have e2 : (h ^^^ l) / 2 = (h / 2) ^^^ (l / 2) := by
    have := Nat.shiftRight_xor_distrib (a := h) (b := l) (i := 1)
    simpa [Nat.shiftRight_eq_div_pow] using this
  unfold gstep
  rw [e1, e2]
  split
  · rw [Nat.xor_assoc]
  · rfl
theorem nib_four : ∀ k, k < 16 → gsteps 4 k = nib k := by decide
theorem nstep_eq (s : Nat) : nstep s = gsteps 4 s := by
  have e0 : s = (s / 16 * 16) ^^^ (s % 16) := by
    have h := Nat.shiftLeft_add_eq_or_of_lt (b := s % 16) (i := 4) (by omega) (s / 16)
    have h2 : (s / 16) <<< 4 ^^^ s % 16 = (s / 16) <<< 4 ||| s % 16 := by
      apply Nat.eq_of_testBit_eq
      intro i
      simp only [Nat.testBit_xor, Nat.testBit_or, Nat.testBit_shiftLeft]
      by_cases hi : 4 ≤ i
      · have : (s % 16).testBit i = false := Nat.testBit_lt_two_pow (Nat.lt_of_lt_of_le (Nat.mod_lt _ (by omega)) (Nat.pow_le_pow_right (n := 2) (by omega) hi))
        simp [this]
      · simp [hi]
    rw [← h, Nat.shiftLeft_eq] at h2
    rw [show s / 16 * 16 = s / 16 * 2 ^ 4 by omega, h2]; omega
  have h1 := gstep_xor (s / 16 * 16) (s % 16) (by omega)
  have h2 := gstep_xor (s / 16 * 16 / 2) (gstep (s % 16)) (by omega)
  have h3 := gstep_xor (s / 16 * 16 / 2 / 2) (gstep (gstep (s % 16))) (by omega)
  have h4 := gstep_xor (s / 16 * 16 / 2 / 2 / 2) (gstep (gstep (gstep (s % 16)))) (by omega)
  have hn := nib_four (s % 16) (by omega)
  simp only [gsteps] at hn ⊢
  rw [← e0] at h1
  rw [h1, h2, h3, h4, hn]
  unfold nstep
  congr 1
  omega
theorem bstep_eq (s : Nat) (b : UInt8) : bstep s b = gsteps 8 (s ^^^ b.toNat) := by
  unfold bstep
  rw [nstep_eq, nstep_eq, ← gsteps_add]
end Go.Proofs.YtblfhonfjljndaaDoor
namespace Go.Proofs.YtblfhonfjljndaaDoor
open Go.RowKit
set_option maxRecDepth 100000

theorem enc7_step (V : Nat) : (enc7 V).length = 1 + (if V / 128 = 0 then 0 else (enc7 (V / 128)).length) := by
  by_cases h : V < 128
  · rw [enc7_lo h, if_pos (by omega)]; rfl
  · rw [enc7_hi h, if_neg (by omega)]; simp; omega
end Go.Proofs.YtblfhonfjljndaaDoor
namespace Go.Proofs.YtblfhonfjljndaaDoor
open Go.RowKit
set_option maxRecDepth 100000

theorem numF_enc7 (f : Nat) : ∀ (i acc V : Nat) (rest : List UInt8), (enc7 V).length ≤ f → (0 < i → 0 < V) → acc + V * 128 ^ i ≤ 4611686018427387904 →
    numF f i acc (enc7 V ++ rest) = some (acc + V * 128 ^ i, rest) := by
  induction f with
  | zero => intro i acc V rest h; have := enc7_pos V; omega
  | succ f ih =>
    intro i acc V rest h h0 hb
    by_cases hv : V < 128
    · rw [enc7_lo hv]
      have e := u8_ofNat V (by omega)
      have e2 : (UInt8.ofNat V).toNat = V := by omega
      simp only [List.cons_append, List.nil_append, numF, e2]
      rw [if_neg (by omega), Nat.mod_eq_of_lt hv, if_neg (by omega)]
    · rw [enc7_hi hv] at h ⊢
      have e := u8_ofNat (V % 128 + 128) (by omega)
      have e2 : (UInt8.ofNat (V % 128 + 128)).toNat = V % 128 + 128 := by omega
      simp only [List.cons_append, numF, e2]
      rw [if_pos (by omega), show (V % 128 + 128) % 128 = V % 128 by omega]
      have e3 : acc + V % 128 * 128 ^ i + V / 128 * 128 ^ (i + 1) = acc + V * 128 ^ i := by
        rw [Nat.pow_succ, Nat.add_assoc]
        congr 1
        have : V / 128 * (128 ^ i * 128) = (V / 128 * 128) * 128 ^ i := by rw [Nat.mul_comm (128 ^ i) 128, Nat.mul_assoc]
        rw [this, ← Nat.add_mul]
        congr 1; omega
      rw [ih (i + 1) _ (V / 128) rest (by simpa using h) (fun _ => by omega) (by rw [e3]; exact hb), e3]
/-- What was laid is taken as it was. -/
theorem takeN_enc (V : Nat) (rest : List UInt8) (h : V ≤ 4611686018427387904) : takeN (some (enc7 V ++ rest)) = (V, some rest) := by
  have := numF_enc7 9 0 0 V rest (enc7_length 8 V (by omega)) (by omega) (by omega)
  simp only [Nat.pow_zero, Nat.mul_one, Nat.zero_add] at this
  simp only [takeN, takeNum, this]
theorem clamp_le (v : Int) : clamp v ≤ 4611686018427387904 := by unfold clamp; omega
theorem encs_drop (l : List Int) (k : Nat) (h : k < l.length) : encs (l.drop k) = enc7 (clamp l[k]) ++ encs (l.drop (k + 1)) := by
  unfold encs
  rw [List.drop_eq_getElem_cons h, List.flatMap_cons]
end Go.Proofs.YtblfhonfjljndaaDoor
namespace Go.Proofs.YtblfhonfjljndaaDoor
open Go.RowKit
set_option maxRecDepth 100000

theorem u32_1 (s : Nat) (h : s < 4294967296) : bits .and .u32 (s : Int) 1 = ((s % 2 : Nat) : Int) := by
  have := u32_and_nat s 1 h (by omega)
  rw [show (1 : Nat) = 2 ^ 1 - 1 by decide, Nat.and_two_pow_sub_one_eq_mod] at this
  simpa using this
set_option maxHeartbeats 1000000 in
theorem rsum_any {w : World} {S : Nat → Prop} {y : Value} {l : List UInt8} (hy : Bs w S y l) :
    Calls Tryd.prog 55 #[y] w fun e w' => e = .returned (.int .u32 (sumOf l : Nat)) ∧ w' = w := by
  obtain ⟨A, c, rfl, h1, h2, h3, h4⟩ := hy.open_
  go_enter Tryd.func55, Tryd.ntmps55
  go_wp2
  go_loop [3, 4] (fun s i => ∃ k u : Nat, k ≤ l.length ∧ i = .int .i64 k ∧ s = .int .u32 u ∧ u < 4294967296 ∧ Hid (u = crc 4294967295 (l.take k))) (fun _ i => l.length - (intOf i).toNat)
  case atStart => exact ⟨0, 4294967295, Nat.zero_le _, rfl, rfl, by omega, by simp [Hid, crc]⟩
  case round =>
    obtain ⟨k, u, hk, rfl, rfl, hu, hr⟩ := hrel
    by_cases hlt : k < l.length
    · obtain ⟨ad, rfl, hs, hc⟩ := h4.byte hlt
      have hb := l[k].toNat_lt
      have hx1 : bits .xor .u32 (u : Int) (l[k].toNat : Int) = ((u ^^^ l[k].toNat : Nat) : Int) := u32_xor_nat _ _ hu (by omega)
      have hv : u ^^^ l[k].toNat < 4294967296 := xor_lt32 hu (by omega)
      have hst := bstep_eq u l[k]
      replace hst := Lib.hid hst
      generalize u ^^^ l[k].toNat = v at *
      go_wp2
      go_loop [3, 5] (fun s i => ∃ j x : Nat, j ≤ 8 ∧ i = .int .i64 j ∧ s = .int .u32 x ∧ x < 4294967296 ∧ Hid (x = gsteps j v)) (fun _ i => 8 - (intOf i).toNat)
      case atStart => exact ⟨0, v, Nat.zero_le _, rfl, rfl, hv, rfl⟩
      case round =>
        obtain ⟨j, x, hj, rfl, rfl, hx, hrx⟩ := hrel
        by_cases hjt : j < 8
        · have ha := u32_1 x hx
          have hxl := gstep_lt hx
          have HS := Lib.hid (show gsteps (j + 1) v = gstep x by rw [gsteps, ← hrx.out])
          by_cases ho : x % 2 = 1
          · have hob : (((x % 2 : Nat) : Int) == 1) = true := by simp [ho]
            have hg : gstep x = (x / 2) ^^^ 3988292384 := by unfold gstep; rw [if_pos ho]
            have hx2 : bits .xor .u32 ((x : Int) / 2) 3988292384 = ((gstep x : Nat) : Int) := by
              rw [hg]
              have := u32_xor_nat (x / 2) 3988292384 (by omega) (by omega)
              rwa [show ((x / 2 : Nat) : Int) = (x : Int) / 2 by omega] at this
            generalize gstep x = z at *
            clear ho hg
            rw [show bits .and .u32 (x : Int) 1 = ((x % 2 : Nat) : Int) from ha] at ha
            have ha2 : bits .and .u32 (x : Int) 1 = 1 := by have := u32_1 x hx; rw [this]; simpa using hob
            clear ha hob
            go_wp2
            exact ⟨⟨j + 1, z, by omega, by go_num, rfl, hxl, Lib.hid HS.out.symm⟩, by simp [intOf]; omega⟩
          · have hg : gstep x = x / 2 := by unfold gstep; rw [if_neg ho]
            have ha2 : bits .and .u32 (x : Int) 1 = 0 := by rw [ha]; omega
            clear ha
            replace hg := Lib.hid hg
            go_wp2
            exact ⟨⟨j + 1, gstep x, by omega, by go_num, by rw [hg.out]; go_num, hxl, Lib.hid HS.out.symm⟩, by simp [intOf]; omega⟩
        · have h8 : j = 8 := by omega
          subst h8
          go_wp2
          refine ⟨⟨k + 1, x, by omega, by go_num, rfl, hx, Lib.hid ?_⟩, by simp [intOf]; omega⟩
          rw [List.take_succ_eq_append_getElem hlt, crc_snoc, ← hr.out, hst.out, hrx.out]
    · have hsg : IntKind.u32.signed = false := rfl
      have hnot := u32_not u hu
      go_wp2
      go_ret
      rw [List.take_of_length_le (by omega)] at hr
      exact ⟨by rw [sumOf, ← hr.out]; rfl, rfl⟩
end Go.Proofs.YtblfhonfjljndaaDoor
namespace Go.Proofs.YtblfhonfjljndaaDoor
open Go.RowKit
set_option maxRecDepth 100000
/- ANOTHER BYTE, ANOTHER SUM -/

theorem gstep_top (s : Nat) (h : s < 4294967296) : (2147483648 ≤ gstep s) ↔ s % 2 = 1 := by
  have tb : ∀ n, n < 4294967296 → (2147483648 ≤ n ↔ n.testBit 31 = true) := by
    intro n hn
    rw [Nat.testBit_eq_decide_div_mod_eq, decide_eq_true_eq]
    omega
  rw [tb _ (gstep_lt h)]
  unfold gstep
  split
  · rename_i ho
    rw [Nat.testBit_xor]
    have h1 : (s / 2).testBit 31 = false := by
      rw [Nat.testBit_eq_decide_div_mod_eq, decide_eq_false_iff_not]; omega
    have h2 : (3988292384 : Nat).testBit 31 = true := by decide
    simp [h1, h2, ho]
  · rename_i ho
    have h1 : (s / 2).testBit 31 = false := by
      rw [Nat.testBit_eq_decide_div_mod_eq, decide_eq_false_iff_not]; omega
    simp [h1, ho]
theorem gstep_inj {s t : Nat} (hs : s < 4294967296) (ht : t < 4294967296) (h : gstep s = gstep t) : s = t := by
  have h1 := gstep_top s hs
  have h2 := gstep_top t ht
  rw [h] at h1
  have h3 : s % 2 = 1 ↔ t % 2 = 1 := h1.symm.trans h2
  unfold gstep at h
  by_cases ho : s % 2 = 1
  · rw [if_pos ho, if_pos (h3.1 ho)] at h
    have h4 : s / 2 = t / 2 := by
      have := congrArg (· ^^^ 3988292384) h
      simpa [Nat.xor_assoc] using this
    have := h3.1 ho
    omega
  · rw [if_neg ho, if_neg (fun h => ho (h3.2 h))] at h
    have : ¬ t % 2 = 1 := fun h => ho (h3.2 h)
    omega
theorem gsteps_inj (n : Nat) {s t : Nat} (hs : s < 4294967296) (ht : t < 4294967296) (h : gsteps n s = gsteps n t) : s = t := by
  induction n with
  | zero => exact h
  | succ n ih => exact ih (gstep_inj (gsteps_lt n hs) (gsteps_lt n ht) h)
theorem bstep_inj_s {s t : Nat} (b : UInt8) (hs : s < 4294967296) (ht : t < 4294967296) (h : bstep s b = bstep t b) : s = t := by
  rw [bstep_eq, bstep_eq] at h
  have hb := b.toNat_lt
  have := gsteps_inj 8 (xor_lt32 hs (by omega)) (xor_lt32 ht (by omega)) h
  have := congrArg (· ^^^ b.toNat) this
  simpa [Nat.xor_assoc] using this
theorem bstep_inj_b {s : Nat} {a b : UInt8} (hs : s < 4294967296) (h : bstep s a = bstep s b) : a = b := by
  rw [bstep_eq, bstep_eq] at h
  have ha := a.toNat_lt
  have hb := b.toNat_lt
  have h1 := gsteps_inj 8 (xor_lt32 hs (by omega)) (xor_lt32 hs (by omega)) h
  have h2 := congrArg (s ^^^ ·) h1
  simp only [← Nat.xor_assoc, Nat.xor_self, Nat.zero_xor] at h2
  exact UInt8.toNat_inj.1 h2
theorem crc_inj (l : List UInt8) : ∀ {s t : Nat}, s < 4294967296 → t < 4294967296 → crc s l = crc t l → s = t := by
  induction l with
  | nil => intro s t _ _ h; exact h
  | cons b l ih => intro s t hs ht h; exact bstep_inj_s b hs ht (ih (bstep_lt b hs) (bstep_lt b ht) h)
theorem sumOf_set (l : List UInt8) (i : Nat) (c : UInt8) (hi : i < l.length) (hc : c ≠ l[i]) : sumOf (l.set i c) ≠ sumOf l := by
  intro h
  unfold sumOf at h
  have h1 : crc 4294967295 (l.set i c) = crc 4294967295 l := by
    have := congrArg (4294967295 ^^^ ·) h
    simp only [← Nat.xor_assoc, Nat.xor_self, Nat.zero_xor] at this
    exact this
  rw [List.set_eq_take_append_cons_drop, if_pos hi] at h1
  have e : l = l.take i ++ l[i] :: l.drop (i + 1) := by rw [← List.drop_eq_getElem_cons hi, List.take_append_drop]
  have h2 : crc 4294967295 l = crc 4294967295 (l.take i ++ l[i] :: l.drop (i + 1)) := by rw [← e]
  rw [h2, crc_append, crc_append] at h1
  have hp : crc 4294967295 (l.take i) < 4294967296 := crc_lt _ _ (by omega)
  have h3 := crc_inj (l.drop (i + 1)) (bstep_lt c hp) (bstep_lt l[i] hp) h1
  exact hc (bstep_inj_b hp h3)
end Go.Proofs.YtblfhonfjljndaaDoor
namespace Go.Proofs.YtblfhonfjljndaaDoor
open Go.RowKit
set_option maxRecDepth 100000

theorem weight_flat (L : List (List UInt8)) : L.flatten.length ≤ weight L := by
  unfold weight
  induction L with
  | nil => simp
  | cons a L ih => simp only [List.flatten_cons, List.length_append, List.map_cons, List.sum_cons]; omega
end Go.Proofs.YtblfhonfjljndaaDoor
namespace Go.Proofs.YtblfhonfjljndaaDoor
open Go.RowKit
set_option maxRecDepth 100000

theorem tyR : SliceTy Tryd.prog 59 32 (.slice none 0 0) 24 := ⟨Tryd.underlying59, by kernel_rfl, rfl, by omega⟩
/-- Rows with the values that hold them named. -/
theorem Rw.vals {w : World} {S : Nat → Prop} {v : Value} {L : List (List UInt8)} (h : Rw w S v L) : ∃ vs : List Value, vs.length = L.length ∧ Sl w S v vs ∧ (∀ (k : Nat) (x : Value) (l : List UInt8), vs[k]? = some x → L[k]? = some l → Bs w S x l) ∧ ∀ u ∈ vs, u.oneCell' = true := by
  obtain ⟨vs, h1, h2, h3⟩ := h
  refine ⟨vs, h1, h2, h3, fun u hu => ?_⟩
  obtain ⟨k, hk, rfl⟩ := List.mem_iff_getElem.1 hu
  obtain ⟨A, c, he, _⟩ := h3 k vs[k] (L[k]'(by omega)) (by simp [hk]) (by simp [h1 ▸ hk])
  rw [he]; rfl
/-- Two lists of rows in one of the call's own. -/
theorem Rw.join {w w' : World} {S : Nat → Prop} {v : Value} {L M : List (List UInt8)} {vs us : List Value} (hown : Own w' 32 v (vs ++ us)) (hx : Ext w w') (h1 : vs.length = L.length) (h2 : us.length = M.length)
    (h3 : ∀ (k : Nat) (x : Value) (l : List UInt8), vs[k]? = some x → L[k]? = some l → Bs w S x l) (h4 : ∀ (k : Nat) (x : Value) (l : List UInt8), us[k]? = some x → M[k]? = some l → Bs w S x l) :
    Rw w' (fun k => S k ∨ own v k) v (L ++ M) := by
  refine ⟨vs ++ us, by simp [h1, h2], hown.sl.mono (fun _ _ h => .inr h), fun k x l hx' hl => ?_⟩
  by_cases hk : k < vs.length
  · rw [List.getElem?_append_left hk] at hx'
    rw [List.getElem?_append_left (by omega)] at hl
    exact ((h3 k x l hx' hl).ext hx).mono (fun _ _ h => .inl h)
  · rw [List.getElem?_append_right (by omega)] at hx'
    rw [List.getElem?_append_right (by omega)] at hl
    rw [h1] at hx'
    exact ((h4 _ x l hx' hl).ext hx).mono (fun _ _ h => .inl h)
end Go.Proofs.YtblfhonfjljndaaDoor
namespace Go.Proofs.YtblfhonfjljndaaDoor
open Go.RowKit
set_option maxRecDepth 100000

theorem takeB_enc (p rest : List UInt8) (h : p.length ≤ 4611686018427387904) : takeB (some (enc7 p.length ++ p ++ rest)) = (p, some rest) := by
  unfold takeB
  rw [List.append_assoc, takeN_enc _ _ h]
  simp only [takeRaw]
  rw [if_neg (by simp only [List.length_append]; omega)]
  simp
theorem encr_drop (L : List (List UInt8)) (k : Nat) (h : k < L.length) : encr (L.drop k) = enc7 L[k].length ++ L[k] ++ encr (L.drop (k + 1)) := by
  unfold encr
  rw [List.drop_eq_getElem_cons h, List.flatMap_cons]
theorem encr_one (p : List UInt8) : encr [p] = enc7 p.length ++ p := by simp [encr]
theorem encr_len (L : List (List UInt8)) : (encr L).length ≤ 10 * weight L := by
  unfold encr weight
  induction L with
  | nil => simp
  | cons a L ih =>
    have h2 : (enc7 a.length).length ≤ a.length + 1 := by
      by_cases h : a.length < 128
      · rw [enc7_lo h]; simp
      · have := enc7_length a.length a.length (by
          have h1 : a.length < 2 ^ a.length := Nat.lt_two_pow_self
          have h2 : 2 ^ a.length ≤ 2 ^ (7 * (a.length + 1)) := Nat.pow_le_pow_right (by omega) (by omega)
          omega)
        exact this
    simp only [List.flatMap_cons, List.length_append, List.map_cons, List.sum_cons]
    omega
theorem len_le_weight (L : List (List UInt8)) (k : Nat) (h : k < L.length) : L[k].length ≤ weight L := by
  have h1 := weight_snoc L k h
  have h2 := weight_take L (k + 1)
  omega
end Go.Proofs.YtblfhonfjljndaaDoor
namespace Go.Proofs.YtblfhonfjljndaaDoor
open Go.RowKit
set_option maxRecDepth 100000

/-- Rows of unlike elements are not one block's. -/
theorem own_ne {w : World} {e e' : TypeId} {v v' : Value} {xs ys : List Value} (h : Own w e v xs) (h' : Own w e' v' ys) (hne : e ≠ e') {k : Nat} (hk : own v k) (hk' : own v' k) : False := by
  rcases h'.2 with ⟨rfl, _⟩ | ⟨g, cap, cur, rfl, _, hh, _⟩
  · cases hk'
  · have : g = k := Option.some.inj hk'
    subst this
    exact h.ne_blk (t := e') hh hne hk
end Go.Proofs.YtblfhonfjljndaaDoor
namespace Go.Proofs.YtblfhonfjljndaaDoor
open Go.RowKit
set_option maxRecDepth 100000

theorem takeRaw_len (n : Int) (st : Option (List UInt8)) : ((takeRaw n st).2.getD []).length ≤ (st.getD []).length ∧ (takeRaw n st).1.length ≤ (st.getD []).length := by
  cases st with
  | none => simp [takeRaw]
  | some l =>
    simp only [takeRaw]
    split
    · simp
    · simp only [Option.getD_some, List.length_drop, List.length_take]; omega
theorem takeB_len (st : Option (List UInt8)) : ((takeB st).2.getD []).length ≤ (st.getD []).length ∧ (takeB st).1.length ≤ (st.getD []).length := by
  have h1 := takeRaw_len (takeN st).1 (takeN st).2
  have h2 := takeN_len st
  unfold takeB
  omega
variable {w0 wr : World} {B b8 b9 : Nat} {T T' : Nat → Prop} {x : Value} {l : List UInt8} {sA sB : Option (List UInt8)}
end Go.Proofs.YtblfhonfjljndaaDoor

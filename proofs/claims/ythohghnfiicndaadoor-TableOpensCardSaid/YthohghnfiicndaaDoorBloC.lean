/- bloom: Hash, bits. -/
import Derived.Test.YthohghnfiicndaaDoorCelD
import Derived.Test.YthohghnfiicndaaDoorOctU
import Derived.ChangeKeysEq
namespace Go.Proofs.YthohghnfiicndaaDoor
open Go.RowKit
set_option maxRecDepth 100000

def fnvS (h : Nat) (c : UInt8) : Nat := (h ^^^ c.toNat) * 16777619 % 4294967296
/-- A text's number. -/
def fnv (l : List UInt8) : Nat := l.foldl fnvS 2166136261
theorem fnv_snoc (l : List UInt8) (c : UInt8) : fnv (l ++ [c]) = fnvS (fnv l) c := by
  unfold fnv
  rw [List.foldl_append, List.foldl_cons, List.foldl_nil]
theorem fcast (y : Nat) : ((y * 16777619 % 4294967296 : Nat) : Int) = (y : Int) * 16777619 % 4294967296 := by omega
theorem fnvS_lt (h : Nat) (c : UInt8) : fnvS h c < 4294967296 := by
  unfold fnvS
  generalize (h ^^^ c.toNat) * 16777619 = x
  omega
theorem fold_lt (l : List UInt8) : ∀ h, h < 4294967296 → l.foldl fnvS h < 4294967296 := by
  induction l with
  | nil => intro h hh; exact hh
  | cons c l ih => intro h _; exact ih _ (fnvS_lt h c)
theorem fnv_lt (l : List UInt8) : fnv l < 4294967296 := fold_lt l _ (by omega)
set_option maxHeartbeats 1000000 in
theorem hash_any {w : World} (l : List UInt8) (hl : l.length ≤ 9223372036854775807) :
    Calls Tryd.prog 82 #[sv l] w fun e w' => e = .returned (.int .u32 (fnv l)) ∧ w' = w := by
  have hsz := sv_size l
  go_enter Tryd.func82, Tryd.ntmps82
  go_wp2_with fail
  go_loop [3, 7] (fun h i => ∃ k : Nat, k ≤ l.length ∧ i = .int .i64 k ∧ h = .int .u32 (fnv (l.take k) : Nat)) (fun _ i => l.length - (intOf i).toNat)
  case atStart => exact ⟨0, Nat.zero_le _, rfl, rfl⟩
  case round =>
    obtain ⟨k, hk, rfl, rfl⟩ := hrel
    by_cases hlt : k < l.length
    · have hsn : fnv (l.take (k + 1)) = fnvS (fnv (l.take k)) l[k] := by
        rw [List.take_succ_eq_append_getElem hlt, fnv_snoc]
      have hfl := fnv_lt (l.take k)
      obtain ⟨b, hbk⟩ : ∃ b, b = l[k] := ⟨_, rfl⟩
      have hg : ∀ h', (⟨l.toArray⟩ : ByteArray)[k]'h' = b := fun h' => (sv_get l k hlt h').trans hbk.symm
      rw [← hbk] at hsn
      clear hbk
      have hb := b.toNat_lt
      have hx := u32_xor_nat (fnv (l.take k)) b.toNat hfl (by omega)
      have hxs : fnvS (fnv (l.take k)) b = (fnv (l.take k) ^^^ b.toNat) * 16777619 % 4294967296 := rfl
      generalize fnvS (fnv (l.take k)) b = z at *
      generalize fnv (l.take k) ^^^ b.toNat = y at *
      generalize fnv (l.take k) = f at *
      replace hsn := Lib.hid hsn
      replace hxs := Lib.hid hxs
      have hb2 : (b.toNat : Int) % 4294967296 = (b.toNat : Int) := by omega
      go_wp2_with fail
      exact ⟨⟨k + 1, by omega, by go_num, by rw [hsn.out, hxs.out, fcast]⟩, by simp [intOf] <;> omega⟩
    · rw [List.take_of_length_le (by omega)]
      go_wp2_with fail
      go_ret
      exact ⟨rfl, rfl⟩
end Go.Proofs.YthohghnfiicndaaDoor
namespace Go.Proofs.YthohghnfiicndaaDoor
open Go.RowKit
set_option maxRecDepth 100000

set_option maxHeartbeats 1000000 in
theorem rhash_any {w : World} (l : List UInt8) (hl : l.length ≤ 9223372036854775807) :
    Calls Tryd.prog 83 #[sv l] w fun e w' => e = .returned (.int .u32 (fnv l)) ∧ w' = w := by
  have hsz := sv_size l
  go_enter Tryd.func83, Tryd.ntmps83
  go_wp2_with fail
  go_loop [3, 4] (fun h i => ∃ k : Nat, k ≤ l.length ∧ i = .int .i64 k ∧ h = .int .u32 (fnv (l.take k) : Nat)) (fun _ i => l.length - (intOf i).toNat)
  case atStart => exact ⟨0, Nat.zero_le _, rfl, rfl⟩
  case round =>
    obtain ⟨k, hk, rfl, rfl⟩ := hrel
    by_cases hlt : k < l.length
    · have hsn : fnv (l.take (k + 1)) = fnvS (fnv (l.take k)) l[k] := by
        rw [List.take_succ_eq_append_getElem hlt, fnv_snoc]
      have hfl := fnv_lt (l.take k)
      obtain ⟨b, hbk⟩ : ∃ b, b = l[k] := ⟨_, rfl⟩
      have hg : ∀ h', (⟨l.toArray⟩ : ByteArray)[k]'h' = b := fun h' => (sv_get l k hlt h').trans hbk.symm
      rw [← hbk] at hsn
      clear hbk
      have hb := b.toNat_lt
      have hx := u32_xor_nat (fnv (l.take k)) b.toNat hfl (by omega)
      have hxs : fnvS (fnv (l.take k)) b = (fnv (l.take k) ^^^ b.toNat) * 16777619 % 4294967296 := rfl
      generalize fnvS (fnv (l.take k)) b = z at *
      generalize fnv (l.take k) ^^^ b.toNat = y at *
      generalize fnv (l.take k) = f at *
      replace hsn := Lib.hid hsn
      replace hxs := Lib.hid hxs
      have hb2 : (b.toNat : Int) % 4294967296 = (b.toNat : Int) := by omega
      go_wp2_with fail
      exact ⟨⟨k + 1, by omega, by go_num, by rw [hsn.out, hxs.out, fcast]⟩, by simp [intOf] <;> omega⟩
    · rw [List.take_of_length_le (by omega)]
      go_wp2_with fail
      go_ret
      exact ⟨rfl, rfl⟩

/-- What is added from bit to bit. -/
def rot (h : Nat) : Nat := (h / 131072) ||| (h * 32768 % 4294967296)
theorem rot_lt {h : Nat} (hh : h < 4294967296) : rot h < 4294967296 := by
  unfold rot
  exact Nat.or_lt_two_pow (n := 32) (by omega) (by omega)
/-- The i-th bit's place among those of n bytes. -/
def place (h n i : Nat) : Nat := (h + i * rot h) % 4294967296 % (n * 8)

set_option maxHeartbeats 1000000 in
theorem bits_any {w : World} (l : List UInt8) (n : Nat) (hl : l.length ≤ 9223372036854775807) (hn : n ≤ 1000000) (hn0 : 0 < n) :
    Calls Tryd.prog 63 #[sv l, .int .i64 n] w fun e w' => e = .returned (.agg #[.int .u64 (place (fnv l) n 0), .int .u64 (place (fnv l) n 1), .int .u64 (place (fnv l) n 2), .int .u64 (place (fnv l) n 3), .int .u64 (place (fnv l) n 4), .int .u64 (place (fnv l) n 5)]) ∧ Ext w w' := by
  go_enter Tryd.func63, Tryd.ntmps63
  go_wp2_with fail
  refine (hash_any l hl).mono ?_
  rintro e w1 ⟨rfl, rfl⟩
  have hf := fnv_lt l
  obtain ⟨r, hr⟩ : ∃ r, r = rot (fnv l) := ⟨_, rfl⟩
  have hrl : r < 4294967296 := by rw [hr]; exact rot_lt hf
  have hor : bits .or .u32 ((fnv l : Int) / 131072) ((fnv l : Int) * 32768 % 4294967296) = (r : Int) := by
    have := u32_or_nat (fnv l / 131072) (fnv l * 32768 % 4294967296) (by omega) (by omega)
    rw [show ((fnv l / 131072 : Nat) : Int) = (fnv l : Int) / 131072 by omega, show ((fnv l * 32768 % 4294967296 : Nat) : Int) = (fnv l : Int) * 32768 % 4294967296 by omega] at this
    rw [this, hr]
    rfl
  have hpl : ∀ i, place (fnv l) n i = (fnv l + i * r) % 4294967296 % (n * 8) := fun i => by rw [hr]; rfl
  replace hr := Lib.hid hr
  replace hpl := Lib.hid hpl
  have q0 : Blk ((w.alloc (.cells #[.int .u64 0, .int .u64 0, .int .u64 0, .int .u64 0, .int .u64 0, .int .u64 0] 95)).alloc (.cells #[.int .u64 0, .int .u64 0, .int .u64 0, .int .u64 0, .int .u64 0, .int .u64 0] 95)) w.heap.size 95 [.int .u64 0, .int .u64 0, .int .u64 0, .int .u64 0, .int .u64 0, .int .u64 0].toArray := (Blk.new w _ _).alloc _
  have q1 : Blk ((w.alloc (.cells #[.int .u64 0, .int .u64 0, .int .u64 0, .int .u64 0, .int .u64 0, .int .u64 0] 95)).alloc (.cells #[.int .u64 0, .int .u64 0, .int .u64 0, .int .u64 0, .int .u64 0, .int .u64 0] 95)) (w.heap.size + 1) 95 [.int .u64 0, .int .u64 0, .int .u64 0, .int .u64 0, .int .u64 0, .int .u64 0].toArray := by
    have := Blk.new (w.alloc (.cells #[.int .u64 0, .int .u64 0, .int .u64 0, .int .u64 0, .int .u64 0, .int .u64 0] 95)) 95 #[.int .u64 0, .int .u64 0, .int .u64 0, .int .u64 0, .int .u64 0, .int .u64 0]
    rw [World.size_alloc] at this
    exact this
  have q2 : Ext w ((w.alloc (.cells #[.int .u64 0, .int .u64 0, .int .u64 0, .int .u64 0, .int .u64 0, .int .u64 0] 95)).alloc (.cells #[.int .u64 0, .int .u64 0, .int .u64 0, .int .u64 0, .int .u64 0, .int .u64 0] 95)) := ((Mod.refl _ w).alloc _).alloc _
  go_wp2_with fail
  go_loopw [6, 16] (fun h i wr => ∃ (k : Nat) (cs : List Value), k ≤ 6 ∧ i = .int .i64 k ∧ h = .int .u32 ((fnv l + k * r) % 4294967296 : Nat) ∧ cs.length = 6 ∧ Blk wr (w.heap.size + 1) 95 cs.toArray ∧ Blk wr w.heap.size 95 [.int .u64 0, .int .u64 0, .int .u64 0, .int .u64 0, .int .u64 0, .int .u64 0].toArray ∧ Ext w wr ∧ Hid (∀ m, m < k → cs[m]? = some (.int .u64 (place (fnv l) n m)))) (fun _ i _ => 6 - (intOf i).toNat)
  case atStart => exact ⟨0, _, by omega, rfl, by rw [Nat.zero_mul, Nat.add_zero, Nat.mod_eq_of_lt hf], rfl, q1, q0, q2, Lib.hid (fun m hm => by omega)⟩
  case round =>
    clear q0 q1 q2
    obtain ⟨k, cs, hk, rfl, rfl, hcs, b1, b0, hx, hall⟩ := hrel
    by_cases hlt : k < 6
    · have hpk := hpl.out k
      have hnx : (fnv l + (k + 1) * r) % 4294967296 = ((fnv l + k * r) % 4294967296 + r) % 4294967296 := by
        rw [Nat.succ_mul]; omega
      have hhl : (fnv l + k * r) % 4294967296 < 4294967296 := Nat.mod_lt _ (by decide)
      generalize (fnv l + k * r) % 4294967296 = h at *
      replace hnx := Lib.hid hnx
      replace hpk := Lib.hid hpk
      have hc9 := b1.cell k
      have hz9 := b1.frozen k
      have hki : (k : Int) < 6 := by omega
      have hv : (.int .u64 ((h : Int) % ((n : Int) * 8)) : Value) = .int .u64 (place (fnv l) n k : Nat) := by
        rw [hpk.out, Int.natCast_emod, Int.natCast_mul]; rfl
      replace hv := Lib.hid hv
      clear hpl hor
      go_wp2_with fail
      refine ⟨⟨k + 1, cs.set k (.int .u64 (place (fnv l) n k : Nat)), by omega, by go_num, by rw [hnx.out]; congr 1, by rw [List.length_set]; exact hcs, ?_, b0.far (by show w.heap.size ≠ w.heap.size + 1; omega) _, Mod.setCell hx (p := ⟨w.heap.size + 1, k, none⟩) (fun hh => by have hh : w.heap.size + 1 < w.heap.size := hh; omega) _, Lib.hid (fun m hm => ?_)⟩, by simp [intOf] <;> omega⟩
      · rw [hv.out]
        have := b1.set_ k (.int .u64 (place (fnv l) n k : Nat))
        rwa [List.setIfInBounds_toArray] at this
      · by_cases hmk : m = k
        · subst hmk; rw [List.getElem?_set_self (by omega)]
        · rw [List.getElem?_set_ne (by omega)]; exact hall.out m (by omega)
    · obtain rfl : k = 6 := by omega
      have c0 := (b1.cell 0).trans (by simpa using hall.out 0 (by omega))
      have c1 := (b1.cell 1).trans (by simpa using hall.out 1 (by omega))
      have c2 := (b1.cell 2).trans (by simpa using hall.out 2 (by omega))
      have c3 := (b1.cell 3).trans (by simpa using hall.out 3 (by omega))
      have c4 := (b1.cell 4).trans (by simpa using hall.out 4 (by omega))
      have c5 := (b1.cell 5).trans (by simpa using hall.out 5 (by omega))
      have z0 := b0.frozen 0
      have z1 := b0.frozen 1
      have z2 := b0.frozen 2
      have z3 := b0.frozen 3
      have z4 := b0.frozen 4
      have z5 := b0.frozen 5
      have y0 := b0.cell 0
      have y1 := b0.cell 1
      have y2 := b0.cell 2
      have y3 := b0.cell 3
      have y4 := b0.cell 4
      have y5 := b0.cell 5
      clear hpl hor
      obtain ⟨p0, e0⟩ : ∃ p, p = place (fnv l) n 0 := ⟨_, rfl⟩
      obtain ⟨p1, e1⟩ : ∃ p, p = place (fnv l) n 1 := ⟨_, rfl⟩
      obtain ⟨p2, e2⟩ : ∃ p, p = place (fnv l) n 2 := ⟨_, rfl⟩
      obtain ⟨p3, e3⟩ : ∃ p, p = place (fnv l) n 3 := ⟨_, rfl⟩
      obtain ⟨p4, e4⟩ : ∃ p, p = place (fnv l) n 4 := ⟨_, rfl⟩
      obtain ⟨p5, e5⟩ : ∃ p, p = place (fnv l) n 5 := ⟨_, rfl⟩
      rw [← e0] at c0
      rw [← e1] at c1
      rw [← e2] at c2
      rw [← e3] at c3
      rw [← e4] at c4
      rw [← e5] at c5
      replace e0 := Lib.hid e0
      replace e1 := Lib.hid e1
      replace e2 := Lib.hid e2
      replace e3 := Lib.hid e3
      replace e4 := Lib.hid e4
      replace e5 := Lib.hid e5
      go_wp2_with fail
      have b6 := (((((b0.set_ 0 (.int .u64 (p0 : Nat))).set_ 1 (.int .u64 (p1 : Nat))).set_ 2 (.int .u64 (p2 : Nat))).set_ 3 (.int .u64 (p3 : Nat))).set_ 4 (.int .u64 (p4 : Nat))).set_ 5 (.int .u64 (p5 : Nat))
      have hs : ∀ (ww : World) (j : Nat) (u : Value), Ext w ww → Ext w (ww.setCell ⟨w.heap.size, j, none⟩ u) := fun ww j u h => Mod.setCell h (p := ⟨w.heap.size, j, none⟩) (fun hh => by have hh : w.heap.size < w.heap.size := hh; omega) _
      have hx6 := hs _ 5 (.int .u64 (p5 : Nat)) (hs _ 4 (.int .u64 (p4 : Nat)) (hs _ 3 (.int .u64 (p3 : Nat)) (hs _ 2 (.int .u64 (p2 : Nat)) (hs _ 1 (.int .u64 (p1 : Nat)) (hs _ 0 (.int .u64 (p0 : Nat)) hx)))))
      rw [← e0.out, ← e1.out, ← e2.out, ← e3.out, ← e4.out, ← e5.out]
      have r0 := b6.cell 0
      have r1 := b6.cell 1
      have r2 := b6.cell 2
      have r3 := b6.cell 3
      have r4 := b6.cell 4
      have r5 := b6.cell 5
      clear b6 b0 b1 y0 y1 y2 y3 y4 y5 z0 z1 z2 z3 z4 z5 c0 c1 c2 c3 c4 c5 hs hx
      generalize ((((((wr.setCell ⟨w.heap.size, 0, none⟩ (.int .u64 (p0 : Nat))).setCell ⟨w.heap.size, 1, none⟩ (.int .u64 (p1 : Nat))).setCell ⟨w.heap.size, 2, none⟩ (.int .u64 (p2 : Nat))).setCell ⟨w.heap.size, 3, none⟩ (.int .u64 (p3 : Nat))).setCell ⟨w.heap.size, 4, none⟩ (.int .u64 (p4 : Nat))).setCell ⟨w.heap.size, 5, none⟩ (.int .u64 (p5 : Nat))) = W6 at *
      simp at r0 r1 r2 r3 r4 r5
      refine bodyPost_ret (v := .agg #[.int .u64 (p0 : Nat), .int .u64 (p1 : Nat), .int .u64 (p2 : Nat), .int .u64 (p3 : Nat), .int .u64 (p4 : Nat), .int .u64 (p5 : Nat)]) (by simp [results, Tryd.results63, go_sem, r0, r1, r2, r3, r4, r5]) rfl ⟨rfl, hx6⟩
end Go.Proofs.YthohghnfiicndaaDoor
namespace Go.Proofs.YthohghnfiicndaaDoor
open Go.RowKit
set_option maxRecDepth 100000

set_option maxHeartbeats 1000000 in
theorem bit_any {w : World} (l : List UInt8) (i n : Nat) (hl : l.length ≤ 9223372036854775807) (hi : i < 6) (hn : n ≤ 1000000) (hn0 : 0 < n) :
    Calls Tryd.prog 68 #[sv l, .int .i64 i, .int .i64 (8 * (n : Int))] w fun e w' => e = .returned (.int .i64 (place (fnv l) n i : Nat)) ∧ w' = w := by
  go_enter Tryd.func68, Tryd.ntmps68
  go_wp2_with fail
  refine (rhash_any l hl).mono ?_
  rintro e w1 ⟨rfl, rfl⟩
  have hf := fnv_lt l
  obtain ⟨r, hr⟩ : ∃ r, r = rot (fnv l) := ⟨_, rfl⟩
  have hrl : r < 4294967296 := by rw [hr]; exact rot_lt hf
  have hor : bits .or .u32 ((fnv l : Int) / 131072) ((fnv l : Int) * 32768 % 4294967296) = (r : Int) := by
    have := u32_or_nat (fnv l / 131072) (fnv l * 32768 % 4294967296) (by omega) (by omega)
    rw [show ((fnv l / 131072 : Nat) : Int) = (fnv l : Int) / 131072 by omega, show ((fnv l * 32768 % 4294967296 : Nat) : Int) = (fnv l : Int) * 32768 % 4294967296 by omega] at this
    rw [this, hr]
    rfl
  have hpl : place (fnv l) n i = (fnv l + i * r) % 4294967296 % (n * 8) := by rw [hr]; rfl
  have hwr : wrap64 (((fnv l : Int) + (i : Int) * (r : Int)) % 4294967296 % (8 * (n : Int))) = (place (fnv l) n i : Nat) := by
    have h1 : ((place (fnv l) n i : Nat) : Int) = ((fnv l : Int) + (i : Int) * (r : Int)) % 4294967296 % (8 * (n : Int)) := by
      rw [hpl, Int.natCast_emod, Int.natCast_emod, Int.natCast_add, Int.natCast_mul, Int.natCast_mul, Int.mul_comm (n : Int) _]
      rfl
    rw [← h1]
    have h2 : place (fnv l) n i < n * 8 := by rw [hpl]; exact Nat.mod_lt _ (by omega)
    unfold wrap64
    omega
  clear hpl
  replace hr := Lib.hid hr
  go_wp2_with fail
  go_ret
  rw [hwr]
  generalize place (fnv l) n i = p at *
  exact ⟨rfl, rfl⟩

theorem and1_eq (c t : Nat) (hc : c < 256) : (bits .and .u8 ((c : Int) / 2 ^ t) 1 == 0) = !decide (c / 2 ^ t % 2 = 1) := by
  have h1 : c / 2 ^ t < 256 := Nat.lt_of_le_of_lt (Nat.div_le_self _ _) hc
  have h2 := u8_and_nat (c / 2 ^ t) 1 h1 (by omega)
  have h3 : ((c / 2 ^ t : Nat) : Int) = (c : Int) / 2 ^ t := by simp
  rw [h3, show ((1 : Nat) : Int) = 1 from rfl] at h2
  rw [h2, Nat.and_one_is_mod]
  have h4 : c / 2 ^ t % 2 = 0 ∨ c / 2 ^ t % 2 = 1 := by omega
  rcases h4 with h4 | h4 <;> rw [h4] <;> rfl
/-- A bit of bytes. -/
def hasBit (b : List UInt8) (p : Nat) : Bool := (b.getD (p / 8) 0).toNat / 2 ^ (p % 8) % 2 = 1
/-- What May says of a key's number. -/
def mayH (b : List UInt8) (h : Nat) : Prop := b.length = 0 ∨ ∀ i, i < 6 → hasBit b (place h b.length i) = true

set_option maxHeartbeats 1000000 in
theorem may_any {w : World} {S : Nat → Prop} {v : Value} {b : List UInt8} (l : List UInt8) (hb : Bs w S v b) (hl : l.length ≤ 9223372036854775807) (hn : b.length ≤ 1000000) :
    Calls Tryd.prog 50 #[v, sv l] w fun e w' => ∃ q, e = .returned (.bool q) ∧ (q = true ↔ mayH b (fnv l)) ∧ Ext w w' := by
  obtain ⟨A, c, rfl, h1, h2, h3, h4⟩ := hb.open_
  by_cases e0 : b.length = 0
  · have hb0 : ((b.length : Int) == 0) = true := by rw [e0]; rfl
    go_enter Tryd.func50, Tryd.ntmps50
    go_wp2_with fail
    go_ret
    exact ⟨true, rfl, ⟨fun _ => .inl e0, fun _ => rfl⟩, Mod.refl _ _⟩
  have hb0 : ((b.length : Int) == 0) = false := by rw [beq_eq_false_iff_ne]; omega
  go_enter Tryd.func50, Tryd.ntmps50
  go_wp2_with fail
  refine (bits_any l b.length hl hn (by omega)).mono ?_
  rintro e w1 ⟨rfl, hx1⟩
  go_wp2_with fail
  go_loopw [14] (fun i wr => wr = w1 ∧ ∃ k : Nat, k ≤ 6 ∧ i = .int .i64 k ∧ Hid (∀ m, m < k → hasBit b (place (fnv l) b.length m) = true)) (fun i _ => 6 - (intOf i).toNat)
  case atStart => exact ⟨rfl, 0, by omega, rfl, Lib.hid (fun m hm => by omega)⟩
  case round =>
    obtain ⟨rfl, k, hk, rfl, hall⟩ := hrel
    by_cases hlt : k < 6
    · have hix : ∀ wx, (Instr.index 95 (.agg #[.int .u64 (place (fnv l) b.length 0 : Nat), .int .u64 (place (fnv l) b.length 1 : Nat), .int .u64 (place (fnv l) b.length 2 : Nat), .int .u64 (place (fnv l) b.length 3 : Nat), .int .u64 (place (fnv l) b.length 4 : Nat), .int .u64 (place (fnv l) b.length 5 : Nat)]) (.int .i64 (k : Int))).run Tryd.prog wx = .ok (.int .u64 (place (fnv l) b.length k : Nat)) wx := by
        intro wx
        obtain rfl | rfl | rfl | rfl | rfl | rfl : k = 0 ∨ k = 1 ∨ k = 2 ∨ k = 3 ∨ k = 4 ∨ k = 5 := by omega
        all_goals
          simp only [Instr.index, asIntOf, run_underlying Tryd.underlying95, Sem.run_bind, Result.andThen]
          exact run_part_plain wx (by kernel_rfl) rfl
      have hpl : place (fnv l) b.length k < b.length * 8 := Nat.mod_lt _ (by omega)
      have hhb : hasBit b (place (fnv l) b.length k) = decide ((b.getD (place (fnv l) b.length k / 8) 0).toNat / 2 ^ (place (fnv l) b.length k % 8) % 2 = 1) := rfl
      obtain ⟨p, hp⟩ : ∃ p, p = place (fnv l) b.length k := ⟨_, rfl⟩
      rw [← hp] at hix hpl hhb
      obtain ⟨j, hj⟩ : ∃ j, j = p / 8 := ⟨_, rfl⟩
      have hjl : j < b.length := by omega
      have hji : (p : Int) / 8 = (j : Int) := by omega
      obtain ⟨ad, hA, hS, hc9⟩ := h4.byte hjl
      subst hA
      replace hc9 := (hx1.cell (lt_of_cell hc9) (fun h => h)).trans hc9
      have hcl : b[j].toNat < 256 := b[j].toNat_lt
      rw [← hj, List.getD_eq_getElem?_getD, List.getElem?_eq_getElem hjl, Option.getD_some] at hhb
      generalize b[j].toNat = cb at *
      obtain ⟨t, ht⟩ : ∃ t, t = p % 8 := ⟨_, rfl⟩
      have ht8 : t < 8 := by omega
      have hta : bits .and .u64 (p : Int) 7 = (t : Int) := by
        have := u64_and_nat p 7 (by omega) (by omega)
        rw [show ((7 : Nat) : Int) = 7 from rfl, show p &&& 7 = p % 8 from Nat.and_two_pow_sub_one_eq_mod p 3] at this
        rw [this, ht]
      rw [← ht] at hhb
      replace hp := Lib.hid hp
      replace hhb := Lib.hid hhb
      clear hj ht
      have hq := and1_eq cb t hcl
      rw [← hhb.out] at hq
      cases hB : hasBit b p
      · rw [hB] at hq
        replace hB := Lib.hid hB
        go_wp2_with fail
        go_ret
        refine ⟨false, rfl, ⟨(fun h => by cases h), fun h => ?_⟩, hx1⟩
        exfalso
        rcases h with h | h
        · exact e0 h
        · have h9 := h k hlt
          rw [← hp.out, hB.out] at h9
          cases h9
      · rw [hB] at hq
        replace hB := Lib.hid hB
        go_wp2_with fail
        refine ⟨⟨trivial, k + 1, by omega, by go_num, Lib.hid (fun m hm => ?_)⟩, by simp [intOf] <;> omega⟩
        by_cases hmk : m = k
        · subst hmk; rw [← hp.out]; exact hB.out
        · exact hall.out m (by omega)
    · obtain rfl : k = 6 := by omega
      go_wp2_with fail
      go_ret
      exact ⟨true, rfl, ⟨fun _ => .inr (fun m hm => hall.out m hm), fun _ => rfl⟩, hx1⟩
end Go.Proofs.YthohghnfiicndaaDoor

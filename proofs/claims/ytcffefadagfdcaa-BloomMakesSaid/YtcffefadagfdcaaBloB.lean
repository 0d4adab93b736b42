/- bloom: the document's Hash; bits. -/
import Derived.Test.YtcffefadagfdcaaBloA
namespace Go.Proofs.Ytcffefadagfdcaa
open Go.RowKit
set_option maxRecDepth 100000

set_option maxHeartbeats 1000000 in
theorem rhash_any {w : World} (l : List UInt8) (hl : l.length ≤ 9223372036854775807) :
    Calls Try.prog 18 #[sv l] w fun e w' => e = .returned (.int .u32 (fnv l)) ∧ w' = w := by
  have hsz := sv_size l
  go_enter Try.func18, Try.ntmps18
  go_wp2_with fail
  go_loop [3, 4] (fun h i => ∃ k : Nat, k ≤ l.length ∧ i = .int .i64 k ∧ h = .int .u32 (fnv (l.take k) : Nat)) (fun _ i => l.length - (intOf i).toNat)
  case atStart => exact ⟨0, Nat.zero_le _, rfl, rfl⟩
  case round =>
    obtain ⟨k, hk, rfl, rfl⟩ := hrel
    by_cases hlt : k < l.length
    · have hsn : fnv (l.take (k + 1)) = fnvS (fnv (l.take k)) l[k] := by
        rw [List.take_succ_eq_append_getElem hlt, fnv_snoc]
      have hfl := fnv_lt (l.take k)
      obtain ⟨b, hbk⟩ : ∃ b, b = l[k] := ⟨_, rfl⟩
      have hg : ∀ h', (⟨l.toArray⟩ : ByteArray)[k]'h' = b := fun h' => (sv_get l k hlt h').trans hbk.symm
      rw [← hbk] at hsn
      clear hbk
      have hb := b.toNat_lt
      have hx := u32_xor_nat (fnv (l.take k)) b.toNat hfl (by omega)
      have hxs : fnvS (fnv (l.take k)) b = (fnv (l.take k) ^^^ b.toNat) * 16777619 % 4294967296 := rfl
      generalize fnvS (fnv (l.take k)) b = z at *
      generalize fnv (l.take k) ^^^ b.toNat = y at *
      generalize fnv (l.take k) = f at *
      replace hsn := Lib.hid hsn
      replace hxs := Lib.hid hxs
      have hb2 : (b.toNat : Int) % 4294967296 = (b.toNat : Int) := by omega
      go_wp2_with fail
      exact ⟨⟨k + 1, by omega, by go_num, by rw [hsn.out, hxs.out, fcast]⟩, by simp [intOf] <;> omega⟩
    · rw [List.take_of_length_le (by omega)]
      go_wp2_with fail
      go_ret
      exact ⟨rfl, rfl⟩

/-- What is added from bit to bit. -/
def rot (h : Nat) : Nat := (h / 131072) ||| (h * 32768 % 4294967296)
theorem rot_lt {h : Nat} (hh : h < 4294967296) : rot h < 4294967296 := by
  unfold rot
  exact Nat.or_lt_two_pow (n := 32) (by omega) (by omega)
/-- The i-th bit's place among those of n bytes. -/
def place (h n i : Nat) : Nat := (h + i * rot h) % 4294967296 % (n * 8)

set_option maxHeartbeats 1000000 in
theorem bits_any {w : World} (l : List UInt8) (n : Nat) (hl : l.length ≤ 9223372036854775807) (hn : n ≤ 1000000) (hn0 : 0 < n) :
    Calls Try.prog 36 #[sv l, .int .i64 n] w fun e w' => e = .returned (.agg #[.int .u64 (place (fnv l) n 0), .int .u64 (place (fnv l) n 1), .int .u64 (place (fnv l) n 2), .int .u64 (place (fnv l) n 3), .int .u64 (place (fnv l) n 4), .int .u64 (place (fnv l) n 5)]) ∧ Ext w w' := by
  go_enter Try.func36, Try.ntmps36
  go_wp2_with fail
  refine (hash_any l hl).mono ?_
  rintro e w1 ⟨rfl, rfl⟩
  have hf := fnv_lt l
  obtain ⟨r, hr⟩ : ∃ r, r = rot (fnv l) := ⟨_, rfl⟩
  have hrl : r < 4294967296 := by rw [hr]; exact rot_lt hf
  have hor : bits .or .u32 ((fnv l : Int) / 131072) ((fnv l : Int) * 32768 % 4294967296) = (r : Int) := by
    have := u32_or_nat (fnv l / 131072) (fnv l * 32768 % 4294967296) (by omega) (by omega)
    rw [show ((fnv l / 131072 : Nat) : Int) = (fnv l : Int) / 131072 by omega, show ((fnv l * 32768 % 4294967296 : Nat) : Int) = (fnv l : Int) * 32768 % 4294967296 by omega] at this
    rw [this, hr]
    rfl
  have hpl : ∀ i, place (fnv l) n i = (fnv l + i * r) % 4294967296 % (n * 8) := fun i => by rw [hr]; rfl
  replace hr := Lib.hid hr
  replace hpl := Lib.hid hpl
  have q0 : Blk ((w.alloc (.cells #[.int .u64 0, .int .u64 0, .int .u64 0, .int .u64 0, .int .u64 0, .int .u64 0] 65)).alloc (.cells #[.int .u64 0, .int .u64 0, .int .u64 0, .int .u64 0, .int .u64 0, .int .u64 0] 65)) w.heap.size 65 [.int .u64 0, .int .u64 0, .int .u64 0, .int .u64 0, .int .u64 0, .int .u64 0].toArray := (Blk.new w _ _).alloc _
  have q1 : Blk ((w.alloc (.cells #[.int .u64 0, .int .u64 0, .int .u64 0, .int .u64 0, .int .u64 0, .int .u64 0] 65)).alloc (.cells #[.int .u64 0, .int .u64 0, .int .u64 0, .int .u64 0, .int .u64 0, .int .u64 0] 65)) (w.heap.size + 1) 65 [.int .u64 0, .int .u64 0, .int .u64 0, .int .u64 0, .int .u64 0, .int .u64 0].toArray := by
    have := Blk.new (w.alloc (.cells #[.int .u64 0, .int .u64 0, .int .u64 0, .int .u64 0, .int .u64 0, .int .u64 0] 65)) 65 #[.int .u64 0, .int .u64 0, .int .u64 0, .int .u64 0, .int .u64 0, .int .u64 0]
    rw [World.size_alloc] at this
    exact this
  have q2 : Ext w ((w.alloc (.cells #[.int .u64 0, .int .u64 0, .int .u64 0, .int .u64 0, .int .u64 0, .int .u64 0] 65)).alloc (.cells #[.int .u64 0, .int .u64 0, .int .u64 0, .int .u64 0, .int .u64 0, .int .u64 0] 65)) := ((Mod.refl _ w).alloc _).alloc _
  go_wp2_with fail
  go_loopw [6, 16] (fun h i wr => ∃ (k : Nat) (cs : List Value), k ≤ 6 ∧ i = .int .i64 k ∧ h = .int .u32 ((fnv l + k * r) % 4294967296 : Nat) ∧ cs.length = 6 ∧ Blk wr (w.heap.size + 1) 65 cs.toArray ∧ Blk wr w.heap.size 65 [.int .u64 0, .int .u64 0, .int .u64 0, .int .u64 0, .int .u64 0, .int .u64 0].toArray ∧ Ext w wr ∧ Hid (∀ m, m < k → cs[m]? = some (.int .u64 (place (fnv l) n m)))) (fun _ i _ => 6 - (intOf i).toNat)
  case atStart => exact ⟨0, _, by omega, rfl, by rw [Nat.zero_mul, Nat.add_zero, Nat.mod_eq_of_lt hf], rfl, q1, q0, q2, Lib.hid (fun m hm => by omega)⟩
  case round =>
    clear q0 q1 q2
    obtain ⟨k, cs, hk, rfl, rfl, hcs, b1, b0, hx, hall⟩ := hrel
    by_cases hlt : k < 6
    · have hpk := hpl.out k
      have hnx : (fnv l + (k + 1) * r) % 4294967296 = ((fnv l + k * r) % 4294967296 + r) % 4294967296 := by
        rw [Nat.succ_mul]; omega
      have hhl : (fnv l + k * r) % 4294967296 < 4294967296 := Nat.mod_lt _ (by decide)
      generalize (fnv l + k * r) % 4294967296 = h at *
      replace hnx := Lib.hid hnx
      replace hpk := Lib.hid hpk
      have hc9 := b1.cell k
      have hz9 := b1.frozen k
      have hki : (k : Int) < 6 := by omega
      have hv : (.int .u64 ((h : Int) % ((n : Int) * 8)) : Value) = .int .u64 (place (fnv l) n k : Nat) := by
        rw [hpk.out, Int.natCast_emod, Int.natCast_mul]; rfl
      replace hv := Lib.hid hv
      clear hpl hor
      go_wp2_with fail
      refine ⟨⟨k + 1, cs.set k (.int .u64 (place (fnv l) n k : Nat)), by omega, by go_num, by rw [hnx.out]; congr 1, by rw [List.length_set]; exact hcs, ?_, b0.far (by show w.heap.size ≠ w.heap.size + 1; omega) _, Mod.setCell hx (p := ⟨w.heap.size + 1, k, none⟩) (fun hh => by have hh : w.heap.size + 1 < w.heap.size := hh; omega) _, Lib.hid (fun m hm => ?_)⟩, by simp [intOf] <;> omega⟩
      · rw [hv.out]
        have := b1.set_ k (.int .u64 (place (fnv l) n k : Nat))
        rwa [List.setIfInBounds_toArray] at this
      · by_cases hmk : m = k
        · subst hmk; rw [List.getElem?_set_self (by omega)]
        · rw [List.getElem?_set_ne (by omega)]; exact hall.out m (by omega)
    · obtain rfl : k = 6 := by omega
      have c0 := (b1.cell 0).trans (by simpa using hall.out 0 (by omega))
      have c1 := (b1.cell 1).trans (by simpa using hall.out 1 (by omega))
      have c2 := (b1.cell 2).trans (by simpa using hall.out 2 (by omega))
      have c3 := (b1.cell 3).trans (by simpa using hall.out 3 (by omega))
      have c4 := (b1.cell 4).trans (by simpa using hall.out 4 (by omega))
      have c5 := (b1.cell 5).trans (by simpa using hall.out 5 (by omega))
      have z0 := b0.frozen 0
      have z1 := b0.frozen 1
      have z2 := b0.frozen 2
      have z3 := b0.frozen 3
      have z4 := b0.frozen 4
      have z5 := b0.frozen 5
      have y0 := b0.cell 0
      have y1 := b0.cell 1
      have y2 := b0.cell 2
      have y3 := b0.cell 3
      have y4 := b0.cell 4
      have y5 := b0.cell 5
      clear hpl hor
      obtain ⟨p0, e0⟩ : ∃ p, p = place (fnv l) n 0 := ⟨_, rfl⟩
      obtain ⟨p1, e1⟩ : ∃ p, p = place (fnv l) n 1 := ⟨_, rfl⟩
      obtain ⟨p2, e2⟩ : ∃ p, p = place (fnv l) n 2 := ⟨_, rfl⟩
      obtain ⟨p3, e3⟩ : ∃ p, p = place (fnv l) n 3 := ⟨_, rfl⟩
      obtain ⟨p4, e4⟩ : ∃ p, p = place (fnv l) n 4 := ⟨_, rfl⟩
      obtain ⟨p5, e5⟩ : ∃ p, p = place (fnv l) n 5 := ⟨_, rfl⟩
      rw [← e0] at c0
      rw [← e1] at c1
      rw [← e2] at c2
      rw [← e3] at c3
      rw [← e4] at c4
      rw [← e5] at c5
      replace e0 := Lib.hid e0
      replace e1 := Lib.hid e1
      replace e2 := Lib.hid e2
      replace e3 := Lib.hid e3
      replace e4 := Lib.hid e4
      replace e5 := Lib.hid e5
      go_wp2_with fail
      have b6 := (((((b0.set_ 0 (.int .u64 (p0 : Nat))).set_ 1 (.int .u64 (p1 : Nat))).set_ 2 (.int .u64 (p2 : Nat))).set_ 3 (.int .u64 (p3 : Nat))).set_ 4 (.int .u64 (p4 : Nat))).set_ 5 (.int .u64 (p5 : Nat))
      have hs : ∀ (ww : World) (j : Nat) (u : Value), Ext w ww → Ext w (ww.setCell ⟨w.heap.size, j, none⟩ u) := fun ww j u h => Mod.setCell h (p := ⟨w.heap.size, j, none⟩) (fun hh => by have hh : w.heap.size < w.heap.size := hh; omega) _
      have hx6 := hs _ 5 (.int .u64 (p5 : Nat)) (hs _ 4 (.int .u64 (p4 : Nat)) (hs _ 3 (.int .u64 (p3 : Nat)) (hs _ 2 (.int .u64 (p2 : Nat)) (hs _ 1 (.int .u64 (p1 : Nat)) (hs _ 0 (.int .u64 (p0 : Nat)) hx)))))
      rw [← e0.out, ← e1.out, ← e2.out, ← e3.out, ← e4.out, ← e5.out]
      have r0 := b6.cell 0
      have r1 := b6.cell 1
      have r2 := b6.cell 2
      have r3 := b6.cell 3
      have r4 := b6.cell 4
      have r5 := b6.cell 5
      clear b6 b0 b1 y0 y1 y2 y3 y4 y5 z0 z1 z2 z3 z4 z5 c0 c1 c2 c3 c4 c5 hs hx
      generalize ((((((wr.setCell ⟨w.heap.size, 0, none⟩ (.int .u64 (p0 : Nat))).setCell ⟨w.heap.size, 1, none⟩ (.int .u64 (p1 : Nat))).setCell ⟨w.heap.size, 2, none⟩ (.int .u64 (p2 : Nat))).setCell ⟨w.heap.size, 3, none⟩ (.int .u64 (p3 : Nat))).setCell ⟨w.heap.size, 4, none⟩ (.int .u64 (p4 : Nat))).setCell ⟨w.heap.size, 5, none⟩ (.int .u64 (p5 : Nat))) = W6 at *
      simp at r0 r1 r2 r3 r4 r5
      refine bodyPost_ret (v := .agg #[.int .u64 (p0 : Nat), .int .u64 (p1 : Nat), .int .u64 (p2 : Nat), .int .u64 (p3 : Nat), .int .u64 (p4 : Nat), .int .u64 (p5 : Nat)]) (by simp [results, Try.results36, go_sem, r0, r1, r2, r3, r4, r5]) rfl ⟨rfl, hx6⟩
end Go.Proofs.Ytcffefadagfdcaa

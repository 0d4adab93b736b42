/- octet: a number taken. -/
import Derived.Test.YtlfooppmdgddkaaOctC
namespace Go.Proofs.Ytlfooppmdgddkaa
open Go.RowKit

/-- A number, taken from the beginning of bytes: the number, and what is left. -/
def numF : Nat → Nat → Nat → List UInt8 → Option (Nat × List UInt8)
  | 0, _, _, _ => none
  | _ + 1, _, _, [] => none
  | f + 1, i, acc, c :: t =>
    if 127 < c.toNat then numF f (i + 1) (acc + c.toNat % 128 * 128 ^ i) t
    else if (0 < i ∧ c.toNat = 0) ∨ 4611686018427387904 < acc + c.toNat % 128 * 128 ^ i then none
    else some (acc + c.toNat % 128 * 128 ^ i, t)
def takeNum (l : List UInt8) : Option (Nat × List UInt8) := numF 9 0 0 l
/-- A number, taken by a Reader. -/
def takeN (st : Option (List UInt8)) : Nat × Option (List UInt8) :=
  match st with
  | none => (0, none)
  | some l => match takeNum l with
    | none => (0, none)
    | some (n, t) => (n, some t)
theorem and127 (c : UInt8) : bits .and .u8 (c.toNat : Int) 127 = ((c.toNat % 128 : Nat) : Int) := by
  have : ∀ k : Nat, k < 256 → bits .and .u8 (k : Int) 127 = ((k % 128 : Nat) : Int) := by decide +kernel
  exact this _ c.toNat_lt
theorem add_succ (ad : Addr) (k : Nat) : ad.add (k + 1) = ⟨ad.block, ad.off + (k + 1), none⟩ := by simp [Addr.add]
theorem pow128 (k : Nat) : 128 ^ k = 2 ^ (7 * k) := by rw [Nat.pow_mul]
theorem or7 (k x acc : Nat) (hk : k ≤ 8) (hx : x < 128) (ha : acc < 128 ^ k) : bits .or .u64 (acc : Int) (IntKind.u64.wrap ((x : Int) * 2 ^ (7 * k))) = ((acc + x * 128 ^ k : Nat) : Int) := by
  rw [pow128] at ha ⊢
  have h1 : 2 ^ (7 * k) ≤ 2 ^ 56 := Nat.pow_le_pow_right (by omega) (by omega)
  have h2 : x * 2 ^ (7 * k) ≤ 127 * 2 ^ 56 := Nat.mul_le_mul (by omega) h1
  have h3 : IntKind.u64.wrap ((x : Int) * 2 ^ (7 * k)) = ((x * 2 ^ (7 * k) : Nat) : Int) := by
    rw [show (x : Int) * 2 ^ (7 * k) = ((x * 2 ^ (7 * k) : Nat) : Int) by push_cast; rfl]
    generalize x * 2 ^ (7 * k) = z at *
    simp [IntKind.wrap, IntKind.bits, IntKind.signed]; omega
  rw [h3, u64_or_nat _ _ (by omega) (by omega)]
  congr 1
  rw [Nat.or_comm, ← Nat.shiftLeft_eq, ← Nat.shiftLeft_add_eq_or_of_lt ha, Nat.add_comm]
theorem acc_lt (k x acc : Nat) (hx : x < 128) (ha : acc < 128 ^ k) : acc + x * 128 ^ k < 128 ^ (k + 1) := by
  rw [Nat.pow_succ]
  have : x * 128 ^ k ≤ 127 * 128 ^ k := Nat.mul_le_mul_right _ (by omega)
  omega
theorem numF_step (f k acc : Nat) (l : List UInt8) (hk : k < l.length) : numF (f + 1) k acc (l.drop k) =
    if 127 < l[k].toNat then numF f (k + 1) (acc + l[k].toNat % 128 * 128 ^ k) (l.drop (k + 1))
    else if (0 < k ∧ l[k].toNat = 0) ∨ 4611686018427387904 < acc + l[k].toNat % 128 * 128 ^ k then none
    else some (acc + l[k].toNat % 128 * 128 ^ k, l.drop (k + 1)) := by
  rw [List.drop_eq_getElem_cons hk]
  rfl
theorem numF_out (k m acc : Nat) (l : List UInt8) (hm : m = min 9 l.length) (hk : k ≤ m) (h : ¬ k < m) : numF (9 - k) k acc (l.drop k) = none := by
  by_cases h9 : k = 9
  · rw [h9]; rfl
  · have : l.length ≤ k := by omega
    rw [List.drop_of_length_le this, show 9 - k = (8 - k) + 1 by omega]
    rfl
set_option maxHeartbeats 400000 in
theorem num_any {w : World} {b : Nat} {S : Nat → Prop} {v : Value} {st : Option (List UInt8)} (hrd : Rd w b S v st) :
    Calls Try.prog 87 #[.pointer (some ⟨b, 0, none⟩)] w fun e w' => ∃ v', e = .returned (.int .i64 (takeN st).1) ∧ Rd w' b S v' (takeN st).2 ∧ Mod (fun k => k = b) w w' ∧ w'.heap.size = w.heap.size := by
  obtain ⟨h0, h1⟩ := hrd.blk.c1
  have hf0 := hrd.blk.frozen 0
  cases st with
  | none =>
    go_enter Try.func87, Try.ntmps87
    go_wp2_with (go_at_call 69; refine (good_any hrd).mono ?_; rintro e w1 ⟨rfl, rfl⟩)
    go_ret
    exact ⟨v, rfl, hrd, Mod.refl _ _, rfl⟩
  | some l =>
    obtain ⟨A, c, rfl, g1, g2, g3, g4⟩ := hrd.row.open_
    simp only [Option.getD_some] at h0 g1 g2 g3 g4
    have hmin : ∀ (ts : Array TypeId) (t : TypeId) (w : World), (Builtin.min_ ts t #[.int .i64 9, .int .i64 (l.length : Nat)]).run Try.prog w = .ok (.int .i64 (min 9 l.length : Nat)) w := by
      intro ts t w
      rw [run_min_int2]
      congr 2; omega
    go_enter Try.func87, Try.ntmps87
    go_wp2_with (go_at_call 69; refine (good_any hrd).mono ?_; rintro e w1 ⟨rfl, rfl⟩)
    clear hmin
    have hm9 : min 9 l.length ≤ 9 ∧ min 9 l.length ≤ l.length := by omega
    obtain ⟨m, hm⟩ : ∃ m, m = min 9 l.length := ⟨_, rfl⟩
    rw [← hm] at hm9 ⊢
    have HM := Lib.hid hm
    clear hm
    go_loop [3, 15] (fun n i => ∃ k acc : Nat, k ≤ m ∧ i = .int .i64 k ∧ n = .int .u64 acc ∧ acc < 128 ^ k ∧ Hid (numF (9 - k) k acc (l.drop k) = takeNum l)) (fun _ i => m - (intOf i).toNat)
    case atStart => exact ⟨0, 0, Nat.zero_le _, rfl, rfl, by simp, rfl⟩
    case round =>
      obtain ⟨k, acc, hk, rfl, rfl, hacc, hr⟩ := hrel
      by_cases hlt : k < m
      · obtain ⟨ad, rfl, hs, hc⟩ := g4.byte (show k < l.length by omega)
        obtain ⟨x, hx⟩ : ∃ x, x = l[k].toNat % 128 := ⟨_, rfl⟩
        have hand : bits .and .u8 (l[k].toNat : Int) 127 = (x : Int) := by rw [and127, hx]
        have hx1 : x < 128 := by omega
        replace hx := Lib.hid hx
        have hor := or7 k x acc (by omega) hx1 hacc
        have hal := acc_lt k x acc hx1 hacc
        have hst := numF_step (8 - k) k acc l (by omega)
        rw [show 8 - k + 1 = 9 - k by omega, ← hx.out, hr.out] at hst
        generalize acc + x * 128 ^ k = acc' at *
        replace hst := Lib.hid hst
        by_cases hgt : 127 < l[k].toNat
        · go_wp2_with (fail)
          refine ⟨⟨k + 1, acc', by omega, by go_num, rfl, hal, Lib.hid ?_⟩, by simp [intOf]; omega⟩
          rw [hst.out, if_pos hgt, show 9 - (k + 1) = 8 - k by omega]
        · by_cases hz : (0 < k ∧ l[k].toNat = 0) ∨ 4611686018427387904 < acc'
          · have hres : takeN (some l) = (0, none) := by
              have := hst.out
              rw [if_neg hgt, if_pos hz] at this
              simp [takeN, this]
            replace hres := Lib.hid hres
            by_cases hk0 : 0 < k
            · by_cases hz0 : l[k].toNat = 0
              · have hz0' : ((l[k].toNat : Int) == 0) = true := by simp [hz0]
                clear hz0 hz
                go_wp2_with (go_at_call 92; refine (bad_any hrd).mono ?_; rintro e w2 ⟨rfl, k1, k2, k3⟩)
                go_ret
                rw [hres.out]
                exact ⟨_, rfl, k1, k2, k3⟩
              · have hz0' : ((l[k].toNat : Int) == 0) = false := by simp; omega
                have hbig : 4611686018427387904 < acc' := by omega
                clear hz0 hz
                go_wp2_with (go_at_call 92; refine (bad_any hrd).mono ?_; rintro e w2 ⟨rfl, k1, k2, k3⟩)
                go_ret
                rw [hres.out]
                exact ⟨_, rfl, k1, k2, k3⟩
            · obtain rfl : k = 0 := by omega
              simp at hal
              omega
          · have hres : takeN (some l) = (acc', some (l.drop (k + 1))) := by
              have := hst.out
              rw [if_neg hgt, if_neg hz] at this
              simp [takeN, this]
            replace hres := Lib.hid hres
            have hbig : ¬ 4611686018427387904 < acc' := fun h => hz (.inr h)
            have hrow : Bs w1 S (.slice (some ad) l.length c) l := hrd.row
            have hset : ∀ u, Mod (fun k => k = b) w1 (w1.setCell ⟨b, 0, none⟩ u) := fun u => (Mod.refl (fun k => k = b) w1).setCell (fun _ => rfl) u
            by_cases hk0 : 0 < k
            · have hz0' : ((l[k].toNat : Int) == 0) = false := by simp; omega
              clear hz
              go_wp2_with (fail)
              · have hcm : c = k + 1 := by assumption
                have hr2 := Bs.rest0 hrow (show k + 1 ≤ l.length by omega) hcm
                go_ret
                rw [hres.out]
                exact ⟨rfl, ⟨_, ⟨hrd.blk.set_ 0 _, hr2.mod (hset _) (fun k _ hs e => hrd.off (e ▸ hs)), hrd.off⟩⟩, hset _, by simp [World.setCell]⟩
              · have hr2 := Bs.rest hrow (show k + 1 ≤ l.length by omega)
                rw [Option.map_some, add_succ] at hr2
                go_ret
                rw [hres.out]
                exact ⟨rfl, ⟨_, ⟨hrd.blk.set_ 0 _, hr2.mod (hset _) (fun k _ hs e => hrd.off (e ▸ hs)), hrd.off⟩⟩, hset _, by simp [World.setCell]⟩
            · have hb0 : decide (0 < (k : Int)) = false := by simp; omega
              clear hz
              go_wp2_with (fail)
              · have hcm : c = k + 1 := by assumption
                have hr2 := Bs.rest0 hrow (show k + 1 ≤ l.length by omega) hcm
                go_ret
                rw [hres.out]
                exact ⟨rfl, ⟨_, ⟨hrd.blk.set_ 0 _, hr2.mod (hset _) (fun k _ hs e => hrd.off (e ▸ hs)), hrd.off⟩⟩, hset _, by simp [World.setCell]⟩
              · have hr2 := Bs.rest hrow (show k + 1 ≤ l.length by omega)
                rw [Option.map_some, add_succ] at hr2
                go_ret
                rw [hres.out]
                exact ⟨rfl, ⟨_, ⟨hrd.blk.set_ 0 _, hr2.mod (hset _) (fun k _ hs e => hrd.off (e ▸ hs)), hrd.off⟩⟩, hset _, by simp [World.setCell]⟩
      · have hres : takeN (some l) = (0, none) := by
          have := hr.out
          rw [numF_out k m acc l HM.out hk hlt] at this
          simp [takeN, ← this]
        replace hres := Lib.hid hres
        go_wp2_with (go_at_call 92; refine (bad_any hrd).mono ?_; rintro e w2 ⟨rfl, k1, k2, k3⟩)
        go_ret
        rw [hres.out]
        exact ⟨_, rfl, k1, k2, k3⟩
end Go.Proofs.Ytlfooppmdgddkaa

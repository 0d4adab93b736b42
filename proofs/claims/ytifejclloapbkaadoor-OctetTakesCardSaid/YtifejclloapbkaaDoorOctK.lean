/- octet: numbers as bytes, and back: the statement's own walk. -/
import Derived.Test.YtifejclloapbkaaDoorOctH
import Derived.Deep.RegionWith
namespace Go.Proofs.YtifejclloapbkaaDoor
open Go.RowKit
set_option maxRecDepth 100000

theorem numF_enc7 (f : Nat) : ∀ (i acc V : Nat) (rest : List UInt8), (enc7 V).length ≤ f → (0 < i → 0 < V) → acc + V * 128 ^ i ≤ 4611686018427387904 →
    numF f i acc (enc7 V ++ rest) = some (acc + V * 128 ^ i, rest) := by
  induction f with
  | zero => intro i acc V rest h; have := enc7_pos V; omega
  | succ f ih =>
    intro i acc V rest h h0 hb
    by_cases hv : V < 128
    · rw [enc7_lo hv]
      have e := u8_ofNat V (by omega)
      have e2 : (UInt8.ofNat V).toNat = V := by omega
      simp only [List.cons_append, List.nil_append, numF, e2]
      rw [if_neg (by omega), Nat.mod_eq_of_lt hv, if_neg (by omega)]
    · rw [enc7_hi hv] at h ⊢
      have e := u8_ofNat (V % 128 + 128) (by omega)
      have e2 : (UInt8.ofNat (V % 128 + 128)).toNat = V % 128 + 128 := by omega
      simp only [List.cons_append, numF, e2]
      rw [if_pos (by omega), show (V % 128 + 128) % 128 = V % 128 by omega]
      have e3 : acc + V % 128 * 128 ^ i + V / 128 * 128 ^ (i + 1) = acc + V * 128 ^ i := by
        rw [Nat.pow_succ, Nat.add_assoc]
        congr 1
        have : V / 128 * (128 ^ i * 128) = (V / 128 * 128) * 128 ^ i := by rw [Nat.mul_comm (128 ^ i) 128, Nat.mul_assoc]
        rw [this, ← Nat.add_mul]
        congr 1; omega
      rw [ih (i + 1) _ (V / 128) rest (by simpa using h) (fun _ => by omega) (by rw [e3]; exact hb), e3]
/-- What was laid is taken as it was. -/
theorem takeN_enc (V : Nat) (rest : List UInt8) (h : V ≤ 4611686018427387904) : takeN (some (enc7 V ++ rest)) = (V, some rest) := by
  have := numF_enc7 9 0 0 V rest (enc7_length 8 V (by omega)) (by omega) (by omega)
  simp only [Nat.pow_zero, Nat.mul_one, Nat.zero_add] at this
  simp only [takeN, takeNum, this]
theorem clamp_le (v : Int) : clamp v ≤ 4611686018427387904 := by unfold clamp; omega
theorem encs_drop (l : List Int) (k : Nat) (h : k < l.length) : encs (l.drop k) = enc7 (clamp l[k]) ++ encs (l.drop (k + 1)) := by
  unfold encs
  rw [List.drop_eq_getElem_cons h, List.flatMap_cons]
theorem Rd.drewN {w : World} {b : Nat} {S : Nat → Prop} {v : Value} {st : Option (List UInt8)} (h : Rd w b S v st) (n : Nat) : Rd (w.drewN n) b S v st := ⟨h.blk, h.row, h.off⟩
theorem Rd.drew {w : World} {b : Nat} {S : Nat → Prop} {v : Value} {st : Option (List UInt8)} (h : Rd w b S v st) : Rd w.drew b S v st := ⟨h.blk, h.row, h.off⟩

set_option maxHeartbeats 2000000 in
theorem law_nums {w : World} {S : Nat → Prop} {y : Value} {ns : List Int} (hy : Is w S y ns) (hN : Nib w) :
    Calls Tryd.prog 3 #[y] w fun e w' => e = .returned (.bool true) ∧ Ext w w' := by
  replace hy : Is w (fun k => k < w.heap.size) y ns := hy.mono (fun k hk _ => hk)
  obtain ⟨A, c, rfl, h1, h2, h3, h4⟩ := hy.open_
  by_cases hbig : 500 < ns.length
  · go_enter Tryd.func3, Tryd.ntmps3
    go_wp2
    go_ret
    exact ⟨rfl, Mod.refl _ _⟩
  · have hle := encs_length ns
    go_enter Tryd.func3, Tryd.ntmps3
    go_wp2_with fail
    have hwr : Wr (w.alloc (.cells #[.slice none 0 0] 25)) w.heap.size (.slice none 0 0) [] := ⟨Blk.new _ _ _, Own.nil _ _⟩
    have hx0 : Ext w (w.alloc (.cells #[.slice none 0 0] 25)) := (Mod.refl _ w).alloc _
    refine (wnums_any hwr (hy.ext hx0) (fun k hk hs hf => ?_) (by simp; omega)).mono ?_
    · rcases hf with hf | hf
      · omega
      · cases hf
    rintro e w1 ⟨rfl, v1, g1, g2, g3⟩
    have hx1 : Ext w w1 := hx0.trans g2 (fun _ _ h => h) (fun k hk h => by
      rcases h with h | h
      · omega
      · cases h)
    rw [List.nil_append] at g1
    have hf1 : Fresh w.heap.size v1 := g3.fresh (fresh_nil _ _ _) (by simp)
    clear g2 g3 hx0 hwr
    go_wp2_with fail
    refine (wout_any g1 (by omega)).mono ?_
    rintro e w2 ⟨v2, rfl, k1, k2, k3, k4⟩
    have hx2 := ext_trans hx1 k3
    have g12 := g1.mod k3 (fun h => h) (fun _ _ h => h)
    have hl1 := hx1.size
    go_wp2_with fail
    refine (rnums_any (hy.ext hx2) (by omega)).mono ?_
    rintro e w3 ⟨v3, rfl, m1, m2, m3⟩
    have hx3 := ext_trans hx2 m3
    have g13 := g12.mod m3 (fun h => h) (fun _ _ h => h)
    have k13 := k1.mod m3 (fun _ _ h => h)
    clear hx2 g12
    go_wp2_with fail
    refine (same_any k13.sl m1.sl).mono ?_
    rintro e w4 ⟨rfl, n4, hw4⟩
    have hm4 : Ext w3 w4 := by rw [hw4]; exact (Mod.refl _ w3).drewN n4
    have hx4 := ext_trans hx3 hm4
    have g14 := g13.mod hm4 (fun h => h) (fun _ _ h => h)
    have k14 := k13.mod hm4 (fun _ _ h => h)
    clear hw4 hm4 hx3 g13 k13 m1 m2 m3 k1 k3
    rw [decide_eq_true (rfl : encs ns = encs ns)]
    go_wp2_with fail
    refine (newreader_any k14.sl (by omega)).mono ?_
    rintro e w5 ⟨b5, v5, rfl, r1, r2, r3, r4⟩
    have hx5 := ext_trans hx4 r4
    have g15 := g14.mod r4 (fun h => h) (fun _ _ h => h)
    have k15 := k14.mod r4 (fun _ _ h => h)
    clear hx4 g14 k14 r1 r2 r3
    go_wp2_with fail
    refine (spoil_any k15 (by omega)).mono ?_
    rintro e w6 ⟨rfl, hm6⟩
    have hv1 : ∀ k, v1.ownBlock = some k → k < w1.heap.size := fun k hk => g1.row.lt hk
    have hv0 := g1.blk.lt
    have hx6 : Ext w w6 := hx5.trans hm6 (fun _ _ h => h) (fun k hk h => by have : v2.ownBlock = some k := h; rw [k2] at this; injection this; omega)
    have g16 := g15.mod hm6 (fun h => by have : v2.ownBlock = some _ := h; rw [k2] at this; injection this; omega) (fun k hk h => by have : v2.ownBlock = some k := h; rw [k2] at this; injection this; have := hv1 k hk; omega)
    clear hm6 k15 g15 hx5 r4
    go_wp2_with fail
    refine (wout_any g16 (by omega)).mono ?_
    rintro e w7 ⟨v7, rfl, n1, n2, n3, n4⟩
    have hx7 := ext_trans hx6 n3
    clear g16 n3 n4 hx6
    go_wp2_with fail
    refine (newreader_any n1.sl (by omega)).mono ?_
    rintro e w8 ⟨b8, v8, rfl, r1, r2, r3, r4⟩
    have hx8 := ext_trans hx7 r4
    have hb8 : w.heap.size ≤ b8 := by have := hx7.size; omega
    have hN8 := hN.mod hx8 (fun h => h)
    clear hx7 n1 n2 r2 r3 r4
    generalize (fun k => k = w7.heap.size) = T at *
    go_wp2_with fail
    go_loopw [6] (fun i wr => ∃ (k : Nat) (v' : Value), k ≤ ns.length ∧ i = .int .i64 k ∧ Rd wr b8 T v' (some (encs (ns.drop k))) ∧ Ext w wr) (fun i _ => ns.length - (intOf i).toNat)
    case atStart => exact ⟨0, v8, Nat.zero_le _, rfl, r1, hx8⟩
    case round =>
      obtain ⟨k, v', hk, rfl, hrd, hm⟩ := hrel
      by_cases hlt : k < ns.length
      · obtain ⟨ad, rfl, hs, hc⟩ := (h4.mod hm (fun _ _ _ h => h)).at_ hlt
        have hed := encs_drop ns k hlt
        rw [hed] at hrd
        have htk := takeN_enc (clamp ns[k]) (encs (ns.drop (k + 1))) (clamp_le _)
        have hmin : ∀ (ts : Array TypeId) (t : TypeId) (w : World), (Builtin.min_ ts t #[.int .i64 ns[k], .int .i64 4611686018427387904]).run Tryd.prog w = .ok (.int .i64 (min ns[k] 4611686018427387904)) w := by
          intro ts t w
          rw [run_min_int2]
          congr 2; omega
        have hmax : ∀ (ts : Array TypeId) (t : TypeId) (w : World), (Builtin.max_ ts t #[.int .i64 0, .int .i64 (min ns[k] 4611686018427387904)]).run Tryd.prog w = .ok (.int .i64 (clamp ns[k] : Nat)) w := by
          intro ts t w
          rw [run_max_int2]
          congr 2; unfold clamp; omega
        replace hed := Lib.hid hed
        replace htk := Lib.hid htk
        go_wp2
        have hsz := hm.size
        have hne : ad.block ≠ b8 := by omega
        go_region_with (go_at_call 17; refine (num_any hrd.drew).mono ?_; rintro e w9 ⟨v9, rfl, q1, q2, q3⟩; have hc9 := (q2.cell (p := ad.add k) (by rw [block_of_add]; show _ < wr.heap.size; omega) (by rw [block_of_add]; exact hne)).trans hc; rw [htk.out] at q1; rw [htk.out])
        all_goals
          have hm9 : Ext w w9 := hm.drew.trans q2 (fun _ _ h => h) (fun k hk h => by omega)
          go_wp2_with fail
          exact ⟨⟨k + 1, v9, by omega, by go_num, q1, hm9⟩, by simp [intOf]; omega⟩
      · rw [List.drop_of_length_le (by omega)] at hrd
        go_wp2_with fail
        refine (good_any hrd).mono ?_; rintro e w9 ⟨rfl, rfl⟩
        go_wp2_with fail
        refine (whole_any hrd).mono ?_; rintro e w9 ⟨rfl, rfl⟩
        rw [show isWhole (some (encs [])) = true from rfl]
        go_wp2_with fail
        refine (known_any (hN.mod hm (fun h => h))).mono ?_; rintro e w10 ⟨rfl, hx10⟩
        go_wp2_with fail
        go_ret
        exact ⟨rfl, ext_trans hm hx10⟩
end Go.Proofs.YtifejclloapbkaaDoor

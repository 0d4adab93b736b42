/- bloom: heavy; Make. -/
import Derived.Test.YtcffefadagfdcaaBloD
namespace Go.Proofs.Ytcffefadagfdcaa
open Go.RowKit
set_option maxRecDepth 100000

def wsum (L : List (List UInt8)) : Nat := (L.map fun l => l.length + 1).sum
theorem wsum_snoc (L : List (List UInt8)) (k : Nat) (h : k < L.length) : wsum (L.take (k + 1)) = wsum (L.take k) + (1 + L[k].length) := by
  unfold wsum
  rw [List.take_succ_eq_append_getElem h, List.map_append, List.sum_append]
  simp; omega
theorem wsum_small {L : List (List UInt8)} {m : Nat} (h : wsum L ≤ m) : L.length ≤ m ∧ ∀ l ∈ L, l.length ≤ m := by
  induction L generalizing m with
  | nil => exact ⟨Nat.zero_le _, fun l hl => by cases hl⟩
  | cons a L ih =>
    unfold wsum at h
    rw [List.map_cons, List.sum_cons] at h
    obtain ⟨h1, h2⟩ := ih (m := m - (a.length + 1)) (show wsum L ≤ _ by unfold wsum; omega)
    refine ⟨by rw [List.length_cons]; omega, fun l hl => ?_⟩
    rcases List.mem_cons.1 hl with rfl | hl
    · omega
    · have := h2 l hl; omega

set_option maxHeartbeats 1000000 in
theorem heavy_any {w : World} {S : Nat → Prop} {y : Value} {L : List (List UInt8)} (hy : Ss w S y L) (hz : ∀ l ∈ L, l.length ≤ 140737488351232) :
    Calls Try.prog 14 #[y] w fun e w' => (e = .returned (.bool true) ∨ (e = .returned (.bool false) ∧ wsum L ≤ 4000)) ∧ w' = w := by
  obtain ⟨A, c, rfl, h1, h2, h3, h4⟩ := hy.open_
  go_enter Try.func14, Try.ntmps14
  go_wp2_with fail
  go_loop [3, 4] (fun n i => ∃ k : Nat, k ≤ L.length ∧ i = .int .i64 k ∧ n = .int .i64 (wsum (L.take k) : Nat) ∧ Hid (wsum (L.take k) ≤ 4000)) (fun _ i => L.length - (intOf i).toNat)
  case atStart => exact ⟨0, Nat.zero_le _, rfl, rfl, Lib.hid (by simp [wsum])⟩
  case round =>
    obtain ⟨k, hk, rfl, rfl, hle⟩ := hrel
    by_cases hlt : k < L.length
    · obtain ⟨ad, rfl, hS, hc⟩ := h4.at_ hlt
      have hsz := sv_size L[k]
      have hll := hz L[k] (List.getElem_mem hlt)
      have hsn := Lib.hid (wsum_snoc L k hlt)
      have hle9 := hle.out
      obtain ⟨n, hn⟩ : ∃ n, n = L[k].length := ⟨_, rfl⟩
      rw [← hn] at hsz hll
      replace hn := Lib.hid hn
      by_cases hbig : 4000 < wsum (L.take k) + (1 + n)
      · generalize wsum (L.take k) = u at *
        go_wp2_with fail
        go_ret
        exact ⟨.inl rfl, rfl⟩
      · have hle2 : Hid (wsum (L.take (k + 1)) ≤ 4000) := Lib.hid (by rw [hsn.out, ← hn.out]; omega)
        generalize wsum (L.take k) = u at *
        go_wp2_with fail
        exact ⟨⟨k + 1, by omega, by go_num, by rw [hsn.out, ← hn.out]; go_num, hle2⟩, by simp [intOf] <;> omega⟩
    · rw [List.take_of_length_le (by omega)] at hle
      go_wp2_with fail
      go_ret
      exact ⟨.inr ⟨rfl, hle.out⟩, rfl⟩

/-- One bit more. -/
def orb (b : List UInt8) (p : Nat) : List UInt8 := b.set (p / 8) (UInt8.ofNat ((b.getD (p / 8) 0).toNat ||| 2 ^ (p % 8)))
/-- The first k bits of a number more. -/
def adds (n h : Nat) (b : List UInt8) (k : Nat) : List UInt8 := ((List.range k).map (place h n)).foldl orb b
def mk (n : Nat) (L : List (List UInt8)) : List UInt8 := L.foldl (fun b l => adds n (fnv l) b 6) (List.replicate n 0)
/-- How many bytes. -/
def bn (k : Nat) : Nat := max 8 ((10 * k + 7) / 8)
theorem orb_len (b : List UInt8) (p : Nat) : (orb b p).length = b.length := by simp [orb]
theorem adds_zero (n h : Nat) (b : List UInt8) : adds n h b 0 = b := rfl
theorem adds_snoc (n h : Nat) (b : List UInt8) (k : Nat) : adds n h b (k + 1) = orb (adds n h b k) (place h n k) := by
  unfold adds
  rw [List.range_succ, List.map_append, List.foldl_append]
  rfl
theorem adds_len (n h : Nat) (b : List UInt8) : ∀ k, (adds n h b k).length = b.length
  | 0 => rfl
  | k + 1 => by rw [adds_snoc, orb_len, adds_len n h b k]
theorem mk_snoc (n : Nat) (L : List (List UInt8)) (k : Nat) (h : k < L.length) : mk n (L.take (k + 1)) = adds n (fnv L[k]) (mk n (L.take k)) 6 := by
  unfold mk
  rw [List.take_succ_eq_append_getElem h, List.foldl_append]
  rfl
theorem fold_len (n : Nat) (L : List (List UInt8)) : ∀ b : List UInt8, (L.foldl (fun b l => adds n (fnv l) b 6) b).length = b.length := by
  induction L with
  | nil => intro b; rfl
  | cons l L ih => intro b; rw [List.foldl_cons, ih, adds_len]
theorem mk_len (n : Nat) (L : List (List UInt8)) : (mk n L).length = n := by unfold mk; rw [fold_len, List.length_replicate]

theorem or_pow {c t : Nat} (hc : c < 256) (ht : t < 8) : Value.int .u8 (bits .or .u8 (c : Int) (2 ^ t % 256)) = bv (UInt8.ofNat (c ||| 2 ^ t)) := by
  have h1 : 2 ^ t < 256 := by
    have := Nat.pow_lt_pow_right (a := 2) (by omega) ht
    simpa using this
  have h2 : ((2 : Int) ^ t % 256) = ((2 ^ t : Nat) : Int) := by
    have : ((2 ^ t : Nat) : Int) = (2 : Int) ^ t := by simp
    have h3 : ((2 ^ t : Nat) : Int) % 256 = ((2 ^ t : Nat) : Int) := by
      clear this
      generalize 2 ^ t = x at *
      omega
    rw [← this]; exact h3
  rw [h2, u8_or_nat c (2 ^ t) hc h1]
  exact byte_of (Nat.or_lt_two_pow (n := 8) (by omega) (by omega))

set_option maxHeartbeats 2000000 in
theorem make_any {w : World} {S : Nat → Prop} {y : Value} {L : List (List UInt8)} (hy : Ss w S y L) (hl : L.length ≤ 4000) (hz : ∀ l ∈ L, l.length ≤ 4000) :
    Calls Try.prog 15 #[y] w fun e w' => ∃ v', e = .returned v' ∧ Own w' 5 v' ((mk (bn L.length) L).map bv) ∧ Fresh w.heap.size v' ∧ Ext w w' := by
  have hy0 := hy
  obtain ⟨A, c, rfl, h1, h2, h3, h4⟩ := hy.open_
  obtain ⟨n, hn⟩ : ∃ n, n = bn L.length := ⟨_, rfl⟩
  have hn8 : 8 ≤ n ∧ n ≤ 5001 := by rw [hn]; unfold bn; omega
  have hmax : ∀ (ts : Array TypeId) (t : TypeId) (w : World), (Builtin.max_ ts t #[.int .i64 8, .int .i64 ((10 * (L.length : Int) + 7) / 8)]).run Try.prog w = .ok (.int .i64 (n : Nat)) w := by
    intro ts t w
    rw [run_max_int2]
    congr 2; rw [hn]; unfold bn; omega
  rw [← hn]
  replace hn := Lib.hid hn
  go_enter Try.func15, Try.ntmps15
  go_wp2_with ((with_reducible show wpList _ _ _ (⟨some 14, _, _, _, _, _⟩ :: _) _ _); refine wp_make tyB n rfl (.tmp 13) (.tmp 13) rfl rfl rfl (by omega) ?_; intro w1 hown1 hext1 hlt1)
  have hg0 : Fresh w.heap.size (.slice (some ⟨w.heap.size, 0, none⟩) n n) := fun x hk => by have : w.heap.size = x := Option.some.inj hk; omega
  obtain ⟨g, hg⟩ : ∃ g, g = w.heap.size := ⟨_, rfl⟩
  rw [← hg] at hown1 hg0
  have hgl : w.heap.size ≤ g := by omega
  rw [← hg]
  clear hlt1 hg
  replace hown1 : Own w1 5 (.slice (some ⟨g, 0, none⟩) n n) ((mk n (L.take 0)).map bv) := by
    rw [show mk n (L.take 0) = List.replicate n 0 from rfl, List.map_replicate]; exact hown1
  go_loopw [17] (fun i wr => ∃ k : Nat, k ≤ L.length ∧ i = .int .i64 k ∧ Own wr 5 (.slice (some ⟨g, 0, none⟩) n n) ((mk n (L.take k)).map bv) ∧ Ext w wr) (fun i _ => L.length - (intOf i).toNat)
  case atStart => exact ⟨0, Nat.zero_le _, rfl, hown1, hext1⟩
  case round =>
    clear hown1 hext1
    obtain ⟨k, hk, rfl, hown, hx⟩ := hrel
    by_cases hlt : k < L.length
    · obtain ⟨ad, rfl, hS, hc⟩ := h4.at_ hlt
      replace hc := (hx.cell (lt_of_cell hc) (fun h => h)).trans hc
      have hll := hz L[k] (List.getElem_mem hlt)
      have hsn := Lib.hid (mk_snoc n L k hlt)
      have hbl := mk_len n (L.take k)
      generalize mk n (L.take k) = b0 at *
      obtain ⟨l, hlk⟩ : ∃ l, l = L[k] := ⟨_, rfl⟩
      rw [← hlk] at hc hll hsn
      clear hlk
      go_wp2_with fail
      refine (bits_any l n (by omega) (by omega) (by omega)).mono ?_
      rintro e w2 ⟨rfl, hx2⟩
      have hown2 := hown.mod hx2 (fun _ _ h => h)
      have hx3 := ext_trans hx hx2
      clear hown hx hx2 hc
      generalize fnv l = h at *
      go_wp2_with fail
      go_loopw [25] (fun i wr => ∃ j : Nat, j ≤ 6 ∧ i = .int .i64 j ∧ Own wr 5 (.slice (some ⟨g, 0, none⟩) n n) ((adds n h b0 j).map bv) ∧ Ext w wr) (fun i _ => 6 - (intOf i).toNat)
      case atStart => exact ⟨0, by omega, rfl, hown2, hx3⟩
      case round =>
        clear hown2 hx3
        obtain ⟨j, hj, rfl, hown, hx⟩ := hrel
        by_cases hjlt : j < 6
        · have hix := fun wx => agg_index (w := wx) (place h n) hjlt
          have hpl : place h n j < n * 8 := Nat.mod_lt _ (by omega)
          have hsn2 := Lib.hid (adds_snoc n h b0 j)
          have hbl2 := adds_len n h b0 j
          rw [hbl] at hbl2
          generalize adds n h b0 j = b at *
          generalize place h n j = p at *
          obtain ⟨m, hm⟩ : ∃ m, m = p / 8 := ⟨_, rfl⟩
          have hml : m < b.length := by omega
          have hmi : (p : Int) / 8 = (m : Int) := by omega
          have hmn : (m : Int) < (n : Int) := by omega
          obtain ⟨t, ht⟩ : ∃ t, t = p % 8 := ⟨_, rfl⟩
          have ht8 : t < 8 := by omega
          have hta : bits .and .u64 (p : Int) 7 = (t : Int) := by
            have := u64_and_nat p 7 (by omega) (by omega)
            rw [show ((7 : Nat) : Int) = 7 from rfl, show p &&& 7 = p % 8 from Nat.and_two_pow_sub_one_eq_mod p 3] at this
            rw [this, ht]
          have hc9 := hown.cellAt (j := m) (by rw [List.length_map]; exact hml)
          rw [List.getElem_map] at hc9
          have hz9 := hown.frozenAt m
          have hcl : b[m].toNat < 256 := b[m].toNat_lt
          have horb : orb b p = b.set m (UInt8.ofNat (b[m].toNat ||| 2 ^ t)) := by
            unfold orb
            rw [← hm, ← ht, List.getD_eq_getElem?_getD, List.getElem?_eq_getElem hml, Option.getD_some]
          clear hm ht
          have hval := Lib.hid (or_pow hcl ht8)
          have hst := hown.store (j := m) (bv (UInt8.ofNat (b[m].toNat ||| 2 ^ t)))
          rw [show (b.map bv).set m (bv (UInt8.ofNat (b[m].toNat ||| 2 ^ t))) = (b.set m (UInt8.ofNat (b[m].toNat ||| 2 ^ t))).map bv from (List.map_set ..).symm, ← horb] at hst
          replace horb := Lib.hid horb
          go_wp2_with fail
          refine ⟨⟨j + 1, by omega, by go_num, ?_, ?_⟩, by simp [intOf] <;> omega⟩
          · rw [hsn2.out, hval.out]; exact hst
          · exact Mod.setCell hx (p := ⟨g, m, none⟩) (fun hh => by have hh : g < w.heap.size := hh; omega) _
        · obtain rfl : j = 6 := by omega
          go_wp2_with fail
          exact ⟨⟨k + 1, by omega, by go_num, by rw [hsn.out]; exact hown, hx⟩, by simp [intOf] <;> omega⟩
    · rw [List.take_of_length_le (by omega)] at hown
      go_wp2_with fail
      go_ret
      exact ⟨_, rfl, hown, fun x hk => by have : g = x := Option.some.inj hk; omega, hx⟩
end Go.Proofs.Ytcffefadagfdcaa

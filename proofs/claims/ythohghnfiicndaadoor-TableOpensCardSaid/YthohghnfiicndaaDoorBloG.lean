/- bloom: the document's May; heavy; Make. -/
import Derived.Test.YthohghnfiicndaaDoorBloC
namespace Go.Proofs.YthohghnfiicndaaDoor
open Go.RowKit
set_option maxRecDepth 100000

theorem agg_index {w : World} (f : Nat → Nat) {k : Nat} (hlt : k < 6) : (Instr.index 95 (.agg #[.int .u64 (f 0 : Nat), .int .u64 (f 1 : Nat), .int .u64 (f 2 : Nat), .int .u64 (f 3 : Nat), .int .u64 (f 4 : Nat), .int .u64 (f 5 : Nat)]) (.int .i64 (k : Int))).run Tryd.prog w = .ok (.int .u64 (f k : Nat)) w := by
  obtain rfl | rfl | rfl | rfl | rfl | rfl : k = 0 ∨ k = 1 ∨ k = 2 ∨ k = 3 ∨ k = 4 ∨ k = 5 := by omega
  all_goals
    simp only [Instr.index, asIntOf, run_underlying Tryd.underlying95, Sem.run_bind, Result.andThen]
    exact run_part_plain w (by kernel_rfl) rfl

/-- What May says. -/
def mayB (b : List UInt8) (h : Nat) : Bool := decide (b.length = 0) || (List.range 6).all (fun i => hasBit b (place h b.length i))
theorem mayB_iff (b : List UInt8) (h : Nat) : mayB b h = true ↔ mayH b h := by
  unfold mayB mayH
  rw [Bool.or_eq_true, decide_eq_true_eq, List.all_eq_true]
  constructor
  · rintro (h | h)
    · exact .inl h
    · exact .inr fun i hi => h i (List.mem_range.2 hi)
  · rintro (h | h)
    · exact .inl h
    · exact .inr fun i hi => h i (List.mem_range.1 hi)
theorem mayb_any {w : World} {S : Nat → Prop} {v : Value} {b : List UInt8} (l : List UInt8) (hb : Bs w S v b) (hl : l.length ≤ 9223372036854775807) (hn : b.length ≤ 1000000) :
    Calls Tryd.prog 50 #[v, sv l] w fun e w' => e = .returned (.bool (mayB b (fnv l))) ∧ Ext w w' :=
  (may_any l hb hl hn).mono fun e w' ⟨q, he, hq, hx⟩ => ⟨by
    have : q = mayB b (fnv l) := by rw [Bool.eq_iff_iff, hq, mayB_iff]
    rw [he, this], hx⟩

end Go.Proofs.YthohghnfiicndaaDoor
namespace Go.Proofs.YthohghnfiicndaaDoor
open Go.RowKit
set_option maxRecDepth 100000

def wsum (L : List (List UInt8)) : Nat := (L.map fun l => l.length + 1).sum
theorem wsum_snoc (L : List (List UInt8)) (k : Nat) (h : k < L.length) : wsum (L.take (k + 1)) = wsum (L.take k) + (1 + L[k].length) := by
  unfold wsum
  rw [List.take_succ_eq_append_getElem h, List.map_append, List.sum_append]
  simp; omega
theorem wsum_small {L : List (List UInt8)} {m : Nat} (h : wsum L ≤ m) : L.length ≤ m ∧ ∀ l ∈ L, l.length ≤ m := by
  induction L generalizing m with
  | nil => exact ⟨Nat.zero_le _, fun l hl => by cases hl⟩
  | cons a L ih =>
    unfold wsum at h
    rw [List.map_cons, List.sum_cons] at h
    obtain ⟨h1, h2⟩ := ih (m := m - (a.length + 1)) (show wsum L ≤ _ by unfold wsum; omega)
    refine ⟨by rw [List.length_cons]; omega, fun l hl => ?_⟩
    rcases List.mem_cons.1 hl with rfl | hl
    · omega
    · have := h2 l hl; omega

/-- One bit more. -/
def orb (b : List UInt8) (p : Nat) : List UInt8 := b.set (p / 8) (UInt8.ofNat ((b.getD (p / 8) 0).toNat ||| 2 ^ (p % 8)))
/-- The first k bits of a number more. -/
def adds (n h : Nat) (b : List UInt8) (k : Nat) : List UInt8 := ((List.range k).map (place h n)).foldl orb b
def mk (n : Nat) (L : List (List UInt8)) : List UInt8 := L.foldl (fun b l => adds n (fnv l) b 6) (List.replicate n 0)
/-- How many bytes. -/
def bn (k : Nat) : Nat := max 8 ((10 * k + 7) / 8)
theorem orb_len (b : List UInt8) (p : Nat) : (orb b p).length = b.length := by simp [orb]
theorem adds_zero (n h : Nat) (b : List UInt8) : adds n h b 0 = b := rfl
theorem adds_snoc (n h : Nat) (b : List UInt8) (k : Nat) : adds n h b (k + 1) = orb (adds n h b k) (place h n k) := by
  unfold adds
  rw [List.range_succ, List.map_append, List.foldl_append]
  rfl
theorem adds_len (n h : Nat) (b : List UInt8) : ∀ k, (adds n h b k).length = b.length
  | 0 => rfl
  | k + 1 => by rw [adds_snoc, orb_len, adds_len n h b k]
theorem mk_snoc (n : Nat) (L : List (List UInt8)) (k : Nat) (h : k < L.length) : mk n (L.take (k + 1)) = adds n (fnv L[k]) (mk n (L.take k)) 6 := by
  unfold mk
  rw [List.take_succ_eq_append_getElem h, List.foldl_append]
  rfl
theorem fold_len (n : Nat) (L : List (List UInt8)) : ∀ b : List UInt8, (L.foldl (fun b l => adds n (fnv l) b 6) b).length = b.length := by
  induction L with
  | nil => intro b; rfl
  | cons l L ih => intro b; rw [List.foldl_cons, ih, adds_len]
theorem mk_len (n : Nat) (L : List (List UInt8)) : (mk n L).length = n := by unfold mk; rw [fold_len, List.length_replicate]

theorem or_pow {c t : Nat} (hc : c < 256) (ht : t < 8) : Value.int .u8 (bits .or .u8 (c : Int) (2 ^ t % 256)) = bv (UInt8.ofNat (c ||| 2 ^ t)) := by
  have h1 : 2 ^ t < 256 := by
    have := Nat.pow_lt_pow_right (a := 2) (by omega) ht
    simpa using this
  have h2 : ((2 : Int) ^ t % 256) = ((2 ^ t : Nat) : Int) := by
    have : ((2 ^ t : Nat) : Int) = (2 : Int) ^ t := by simp
    have h3 : ((2 ^ t : Nat) : Int) % 256 = ((2 ^ t : Nat) : Int) := by
      clear this
      generalize 2 ^ t = x at *
      omega
    rw [← this]; exact h3
  rw [h2, u8_or_nat c (2 ^ t) hc h1]
  exact byte_of (Nat.or_lt_two_pow (n := 8) (by omega) (by omega))

set_option maxHeartbeats 2000000 in
theorem make_any {w : World} {S : Nat → Prop} {y : Value} {L : List (List UInt8)} (hy : Ss w S y L) (hl : L.length ≤ 5000) (hz : ∀ l ∈ L, l.length ≤ 5000) :
    Calls Tryd.prog 32 #[y] w fun e w' => ∃ v', e = .returned v' ∧ Own w' 5 v' ((mk (bn L.length) L).map bv) ∧ Fresh w.heap.size v' ∧ Ext w w' := by
  have hy0 := hy
  obtain ⟨A, c, rfl, h1, h2, h3, h4⟩ := hy.open_
  obtain ⟨n, hn⟩ : ∃ n, n = bn L.length := ⟨_, rfl⟩
  have hn8 : 8 ≤ n ∧ n ≤ 7000 := by rw [hn]; unfold bn; omega
  have hmax : ∀ (ts : Array TypeId) (t : TypeId) (w : World), (Builtin.max_ ts t #[.int .i64 8, .int .i64 ((10 * (L.length : Int) + 7) / 8)]).run Tryd.prog w = .ok (.int .i64 (n : Nat)) w := by
    intro ts t w
    rw [run_max_int2]
    congr 2; rw [hn]; unfold bn; omega
  rw [← hn]
  replace hn := Lib.hid hn
  go_enter Tryd.func32, Tryd.ntmps32
  go_wp2_with ((with_reducible show wpList _ _ _ (⟨some 14, _, _, _, _, _⟩ :: _) _ _); refine wp_make tyB n rfl (.tmp 13) (.tmp 13) rfl rfl rfl (by omega) ?_; intro w1 hown1 hext1 hlt1)
  have hg0 : Fresh w.heap.size (.slice (some ⟨w.heap.size, 0, none⟩) n n) := fun x hk => by have : w.heap.size = x := Option.some.inj hk; omega
  obtain ⟨g, hg⟩ : ∃ g, g = w.heap.size := ⟨_, rfl⟩
  rw [← hg] at hown1 hg0
  have hgl : w.heap.size ≤ g := by omega
  rw [← hg]
  clear hlt1 hg
  replace hown1 : Own w1 5 (.slice (some ⟨g, 0, none⟩) n n) ((mk n (L.take 0)).map bv) := by
    rw [show mk n (L.take 0) = List.replicate n 0 from rfl, List.map_replicate]; exact hown1
  go_loopw [17] (fun i wr => ∃ k : Nat, k ≤ L.length ∧ i = .int .i64 k ∧ Own wr 5 (.slice (some ⟨g, 0, none⟩) n n) ((mk n (L.take k)).map bv) ∧ Ext w wr) (fun i _ => L.length - (intOf i).toNat)
  case atStart => exact ⟨0, Nat.zero_le _, rfl, hown1, hext1⟩
  case round =>
    clear hown1 hext1
    obtain ⟨k, hk, rfl, hown, hx⟩ := hrel
    by_cases hlt : k < L.length
    · obtain ⟨ad, rfl, hS, hc⟩ := h4.at_ hlt
      replace hc := (hx.cell (lt_of_cell hc) (fun h => h)).trans hc
      have hll := hz L[k] (List.getElem_mem hlt)
      have hsn := Lib.hid (mk_snoc n L k hlt)
      have hbl := mk_len n (L.take k)
      generalize mk n (L.take k) = b0 at *
      obtain ⟨l, hlk⟩ : ∃ l, l = L[k] := ⟨_, rfl⟩
      rw [← hlk] at hc hll hsn
      clear hlk
      go_wp2_with fail
      refine (bits_any l n (by omega) (by omega) (by omega)).mono ?_
      rintro e w2 ⟨rfl, hx2⟩
      have hown2 := hown.mod hx2 (fun _ _ h => h)
      have hx3 := ext_trans hx hx2
      clear hown hx hx2 hc
      generalize fnv l = h at *
      go_wp2_with fail
      go_loopw [25] (fun i wr => ∃ j : Nat, j ≤ 6 ∧ i = .int .i64 j ∧ Own wr 5 (.slice (some ⟨g, 0, none⟩) n n) ((adds n h b0 j).map bv) ∧ Ext w wr) (fun i _ => 6 - (intOf i).toNat)
      case atStart => exact ⟨0, by omega, rfl, hown2, hx3⟩
      case round =>
        clear hown2 hx3
        obtain ⟨j, hj, rfl, hown, hx⟩ := hrel
        by_cases hjlt : j < 6
        · have hix := fun wx => agg_index (w := wx) (place h n) hjlt
          have hpl : place h n j < n * 8 := Nat.mod_lt _ (by omega)
          have hsn2 := Lib.hid (adds_snoc n h b0 j)
          have hbl2 := adds_len n h b0 j
          rw [hbl] at hbl2
          generalize adds n h b0 j = b at *
          generalize place h n j = p at *
          obtain ⟨m, hm⟩ : ∃ m, m = p / 8 := ⟨_, rfl⟩
          have hml : m < b.length := by omega
          have hmi : (p : Int) / 8 = (m : Int) := by omega
          have hmn : (m : Int) < (n : Int) := by omega
          obtain ⟨t, ht⟩ : ∃ t, t = p % 8 := ⟨_, rfl⟩
          have ht8 : t < 8 := by omega
          have hta : bits .and .u64 (p : Int) 7 = (t : Int) := by
            have := u64_and_nat p 7 (by omega) (by omega)
            rw [show ((7 : Nat) : Int) = 7 from rfl, show p &&& 7 = p % 8 from Nat.and_two_pow_sub_one_eq_mod p 3] at this
            rw [this, ht]
          have hc9 := hown.cellAt (j := m) (by rw [List.length_map]; exact hml)
          rw [List.getElem_map] at hc9
          have hz9 := hown.frozenAt m
          have hcl : b[m].toNat < 256 := b[m].toNat_lt
          have horb : orb b p = b.set m (UInt8.ofNat (b[m].toNat ||| 2 ^ t)) := by
            unfold orb
            rw [← hm, ← ht, List.getD_eq_getElem?_getD, List.getElem?_eq_getElem hml, Option.getD_some]
          clear hm ht
          have hval := Lib.hid (or_pow hcl ht8)
          have hst := hown.store (j := m) (bv (UInt8.ofNat (b[m].toNat ||| 2 ^ t)))
          rw [show (b.map bv).set m (bv (UInt8.ofNat (b[m].toNat ||| 2 ^ t))) = (b.set m (UInt8.ofNat (b[m].toNat ||| 2 ^ t))).map bv from (List.map_set ..).symm, ← horb] at hst
          replace horb := Lib.hid horb
          go_wp2_with fail
          refine ⟨⟨j + 1, by omega, by go_num, ?_, ?_⟩, by simp [intOf] <;> omega⟩
          · rw [hsn2.out, hval.out]; exact hst
          · exact Mod.setCell hx (p := ⟨g, m, none⟩) (fun hh => by have hh : g < w.heap.size := hh; omega) _
        · obtain rfl : j = 6 := by omega
          go_wp2_with fail
          exact ⟨⟨k + 1, by omega, by go_num, by rw [hsn.out]; exact hown, hx⟩, by simp [intOf] <;> omega⟩
    · rw [List.take_of_length_le (by omega)] at hown
      go_wp2_with fail
      go_ret
      exact ⟨_, rfl, hown, fun x hk => by have : g = x := Option.some.inj hk; omega, hx⟩
end Go.Proofs.YthohghnfiicndaaDoor
namespace Go.Proofs.YthohghnfiicndaaDoor
open Go.RowKit
set_option maxRecDepth 100000

theorem hasBit_test (b : List UInt8) (p : Nat) : hasBit b p = (b.getD (p / 8) 0).toNat.testBit (p % 8) := by
  unfold hasBit
  rw [Nat.testBit_eq_decide_div_mod_eq]
theorem getD_set (b : List UInt8) (i j : Nat) (x : UInt8) : (b.set i x).getD j 0 = if i = j ∧ j < b.length then x else b.getD j 0 := by
  rw [List.getD_eq_getElem?_getD, List.getD_eq_getElem?_getD, List.getElem?_set]
  by_cases h : i = j
  · subst h
    by_cases h2 : i < b.length
    · simp [h2]
    · simp [h2]
  · simp [h]
theorem or_val (c : UInt8) (t : Nat) (ht : t < 8) : (UInt8.ofNat (c.toNat ||| 2 ^ t)).toNat = c.toNat ||| 2 ^ t := by
  have h1 : 2 ^ t < 256 := by
    have := Nat.pow_lt_pow_right (a := 2) (by omega) ht
    simpa using this
  exact UInt8.toNat_ofNat_of_lt' (Nat.or_lt_two_pow (n := 8) c.toNat_lt (by omega))
theorem orb_mono (b : List UInt8) (p q : Nat) (h : hasBit b p = true) : hasBit (orb b q) p = true := by
  rw [hasBit_test] at h ⊢
  unfold orb
  rw [getD_set]
  split
  · rename_i hh
    rw [or_val _ _ (Nat.mod_lt _ (by omega)), Nat.testBit_or, hh.1, h]
    rfl
  · exact h
theorem orb_self (b : List UInt8) (p : Nat) (hp : p / 8 < b.length) : hasBit (orb b p) p = true := by
  rw [hasBit_test]
  unfold orb
  rw [getD_set, if_pos ⟨rfl, hp⟩, or_val _ _ (Nat.mod_lt _ (by omega)), Nat.testBit_or, Nat.testBit_two_pow_self]
  simp
theorem adds_mono (n h : Nat) (b : List UInt8) (p : Nat) (hb : hasBit b p = true) : ∀ k, hasBit (adds n h b k) p = true
  | 0 => hb
  | k + 1 => by rw [adds_snoc]; exact orb_mono _ _ _ (adds_mono n h b p hb k)
theorem adds_has (n h : Nat) (b : List UInt8) (hn : b.length = n) (hn0 : 0 < n) : ∀ k i, i < k → hasBit (adds n h b k) (place h n i) = true
  | 0, i, hi => by omega
  | k + 1, i, hi => by
    rw [adds_snoc]
    by_cases hik : i = k
    · subst hik
      refine orb_self _ _ ?_
      rw [adds_len, hn]
      have : place h n i < n * 8 := Nat.mod_lt _ (by omega)
      omega
    · exact orb_mono _ _ _ (adds_has n h b hn hn0 k i (by omega))
theorem fold_mono (n : Nat) (L : List (List UInt8)) (p : Nat) : ∀ b : List UInt8, hasBit b p = true → hasBit (L.foldl (fun b l => adds n (fnv l) b 6) b) p = true := by
  induction L with
  | nil => intro b h; exact h
  | cons l L ih => intro b h; exact ih _ (adds_mono n (fnv l) b p h 6)
theorem fold_has (n : Nat) (hn0 : 0 < n) (l : List UInt8) (i : Nat) (hi : i < 6) (L : List (List UInt8)) : ∀ b : List UInt8, b.length = n → l ∈ L → hasBit (L.foldl (fun b l => adds n (fnv l) b 6) b) (place (fnv l) n i) = true := by
  induction L with
  | nil => intro b _ h; cases h
  | cons a L ih =>
    intro b hb hl
    rw [List.foldl_cons]
    rcases List.mem_cons.1 hl with rfl | hl
    · exact fold_mono n L _ _ (adds_has n (fnv l) b hb hn0 6 i hi)
    · exact ih _ (by rw [adds_len]; exact hb) hl
theorem may_mk {n : Nat} (hn0 : 0 < n) {L : List (List UInt8)} {l : List UInt8} (hl : l ∈ L) : mayB (mk n L) (fnv l) = true := by
  rw [mayB_iff]
  refine .inr fun i hi => ?_
  rw [mk_len]
  exact fold_has n hn0 l i hi L _ (by simp) hl

end Go.Proofs.YthohghnfiicndaaDoor
namespace Go.Proofs.YthohghnfiicndaaDoor
open Go.RowKit
set_option maxRecDepth 100000

set_option maxHeartbeats 2000000 in
theorem rmake_any {w : World} {S : Nat → Prop} {y : Value} {L : List (List UInt8)} (hy : Ss w S y L) (hl : L.length ≤ 5000) (hz : ∀ l ∈ L, l.length ≤ 5000) :
    Calls Tryd.prog 39 #[y] w fun e w' => ∃ v', e = .returned v' ∧ Own w' 5 v' ((mk (bn L.length) L).map bv) ∧ Fresh w.heap.size v' ∧ Ext w w' := by
  have hy0 := hy
  obtain ⟨A, c, rfl, h1, h2, h3, h4⟩ := hy.open_
  obtain ⟨n, hn⟩ : ∃ n, n = bn L.length := ⟨_, rfl⟩
  have hn8 : 8 ≤ n ∧ n ≤ 7000 := by rw [hn]; unfold bn; omega
  have hmax : ∀ (ts : Array TypeId) (t : TypeId) (w : World), (Builtin.max_ ts t #[.int .i64 8, .int .i64 ((10 * (L.length : Int) + 7) / 8)]).run Tryd.prog w = .ok (.int .i64 (n : Nat)) w := by
    intro ts t w
    rw [run_max_int2]
    congr 2; rw [hn]; unfold bn; omega
  rw [← hn]
  replace hn := Lib.hid hn
  go_enter Tryd.func39, Tryd.ntmps39
  go_wp2_with ((with_reducible show wpList _ _ _ (⟨some 13, _, _, _, _, _⟩ :: _) _ _); refine wp_make tyB n rfl (.tmp 12) (.tmp 12) rfl rfl rfl (by omega) ?_; intro w1 hown1 hext1 hlt1)
  obtain ⟨g, hg⟩ : ∃ g, g = w.heap.size := ⟨_, rfl⟩
  rw [← hg] at hown1
  have hgl : w.heap.size ≤ g := by omega
  rw [← hg]
  clear hlt1 hg
  replace hown1 : Own w1 5 (.slice (some ⟨g, 0, none⟩) n n) ((mk n (L.take 0)).map bv) := by
    rw [show mk n (L.take 0) = List.replicate n 0 from rfl, List.map_replicate]; exact hown1
  go_loopw [4] (fun i wr => ∃ k : Nat, k ≤ L.length ∧ i = .int .i64 k ∧ Own wr 5 (.slice (some ⟨g, 0, none⟩) n n) ((mk n (L.take k)).map bv) ∧ Ext w wr) (fun i _ => L.length - (intOf i).toNat)
  case atStart => exact ⟨0, Nat.zero_le _, rfl, hown1, hext1⟩
  case round =>
    clear hown1 hext1
    obtain ⟨k, hk, rfl, hown, hx⟩ := hrel
    by_cases hlt : k < L.length
    · obtain ⟨ad, rfl, hS, hc0⟩ := h4.at_ hlt
      have hll := hz L[k] (List.getElem_mem hlt)
      have hsn := Lib.hid (mk_snoc n L k hlt)
      have hbl := mk_len n (L.take k)
      generalize mk n (L.take k) = b0 at *
      obtain ⟨l, hlk⟩ : ∃ l, l = L[k] := ⟨_, rfl⟩
      rw [← hlk] at hc0 hll hsn
      clear hlk
      go_wp2_with fail
      go_loopw [5] (fun i wr => ∃ j : Nat, j ≤ 6 ∧ i = .int .i64 j ∧ Own wr 5 (.slice (some ⟨g, 0, none⟩) n n) ((adds n (fnv l) b0 j).map bv) ∧ Ext w wr) (fun i _ => 6 - (intOf i).toNat)
      case atStart => exact ⟨0, by omega, rfl, hown, hx⟩
      case round =>
        clear hown hx
        obtain ⟨j, hj, rfl, hown, hx⟩ := hrel
        by_cases hjlt : j < 6
        · have hc := (hx.cell (lt_of_cell hc0) (fun h => h)).trans hc0
          have hba := @bit_any wr l j n (by omega) hjlt (by omega) (by omega)
          have hpl : place (fnv l) n j < n * 8 := Nat.mod_lt _ (by omega)
          have hsn2 := Lib.hid (adds_snoc n (fnv l) b0 j)
          have hbl2 := adds_len n (fnv l) b0 j
          rw [hbl] at hbl2
          generalize adds n (fnv l) b0 j = b at *
          generalize place (fnv l) n j = p at *
          obtain ⟨m, hm⟩ : ∃ m, m = p / 8 := ⟨_, rfl⟩
          have hml : m < b.length := by omega
          have hmi : (p : Int) / 8 = (m : Int) := by omega
          have hmn : (m : Int) < (n : Int) := by omega
          obtain ⟨t, ht⟩ : ∃ t, t = p % 8 := ⟨_, rfl⟩
          have ht8 : t < 8 := by omega
          have hta : (p : Int) % 8 = (t : Int) := by omega
          have hc9 := hown.cellAt (j := m) (by rw [List.length_map]; exact hml)
          rw [List.getElem_map] at hc9
          have hz9 := hown.frozenAt m
          have hcl : b[m].toNat < 256 := b[m].toNat_lt
          have horb : orb b p = b.set m (UInt8.ofNat (b[m].toNat ||| 2 ^ t)) := by
            unfold orb
            rw [← hm, ← ht, List.getD_eq_getElem?_getD, List.getElem?_eq_getElem hml, Option.getD_some]
          clear hm ht
          have hval := Lib.hid (or_pow hcl ht8)
          have hst := hown.store (j := m) (bv (UInt8.ofNat (b[m].toNat ||| 2 ^ t)))
          rw [show (b.map bv).set m (bv (UInt8.ofNat (b[m].toNat ||| 2 ^ t))) = (b.set m (UInt8.ofNat (b[m].toNat ||| 2 ^ t))).map bv from (List.map_set ..).symm, ← horb] at hst
          replace horb := Lib.hid horb
          go_wp2_with fail
          refine hba.mono ?_
          rintro e w9 ⟨rfl, rfl⟩
          go_wp2_with fail
          refine ⟨⟨j + 1, by omega, by go_num, ?_, ?_⟩, by simp [intOf] <;> omega⟩
          · rw [hsn2.out, hval.out]; exact hst
          · exact Mod.setCell hx (p := ⟨g, m, none⟩) (fun hh => by have hh : g < w.heap.size := hh; omega) _
        · obtain rfl : j = 6 := by omega
          go_wp2_with fail
          exact ⟨⟨k + 1, by omega, by go_num, by rw [hsn.out]; exact hown, hx⟩, by simp [intOf] <;> omega⟩
    · rw [List.take_of_length_le (by omega)] at hown
      go_wp2_with fail
      go_ret
      exact ⟨_, rfl, hown, fun x hk => by have : g = x := Option.some.inj hk; omega, hx⟩

theorem orb_comm (b : List UInt8) (p q : Nat) : orb (orb b p) q = orb (orb b q) p := by
  unfold orb
  rw [getD_set, getD_set]
  by_cases h : p / 8 = q / 8
  · rw [h]
    by_cases h2 : q / 8 < b.length
    · rw [if_pos ⟨rfl, h2⟩, if_pos ⟨rfl, h2⟩, or_val _ _ (Nat.mod_lt _ (by omega)), or_val _ _ (Nat.mod_lt _ (by omega)), List.set_set, List.set_set, Nat.or_assoc, Nat.or_assoc, Nat.or_comm (2 ^ (p % 8))]
    · have e1 : ∀ x, b.set (q / 8) x = b := fun x => List.set_eq_of_length_le (by omega)
      simp only [e1]
  · rw [if_neg (fun hh => h hh.1), if_neg (fun hh => h hh.1.symm), List.set_comm _ _ h]
theorem orb_fold (xs : List Nat) (q : Nat) : ∀ b, xs.foldl orb (orb b q) = orb (xs.foldl orb b) q := by
  induction xs with
  | nil => intro b; rfl
  | cons p xs ih => intro b; rw [List.foldl_cons, List.foldl_cons, orb_comm, ih]
theorem fold_fold (ys xs : List Nat) : ∀ b, xs.foldl orb (ys.foldl orb b) = ys.foldl orb (xs.foldl orb b) := by
  induction ys with
  | nil => intro b; rfl
  | cons q ys ih => intro b; rw [List.foldl_cons, List.foldl_cons, ih, orb_fold]
theorem adds_comm (n h k : Nat) (b : List UInt8) (i j : Nat) : adds n h (adds n k b i) j = adds n k (adds n h b j) i := fold_fold _ _ _
theorem step_fold (n h : Nat) (L : List (List UInt8)) : ∀ b, L.foldl (fun b l => adds n (fnv l) b 6) (adds n h b 6) = adds n h (L.foldl (fun b l => adds n (fnv l) b 6) b) 6 := by
  induction L with
  | nil => intro b; rfl
  | cons l L ih => intro b; rw [List.foldl_cons, List.foldl_cons, adds_comm, ih]
theorem fold_rev (n : Nat) (L : List (List UInt8)) : ∀ b, L.reverse.foldl (fun b l => adds n (fnv l) b 6) b = L.foldl (fun b l => adds n (fnv l) b 6) b := by
  induction L with
  | nil => intro b; rfl
  | cons l L ih => intro b; rw [List.reverse_cons, List.foldl_append, ih, List.foldl_cons, List.foldl_cons, List.foldl_nil, step_fold]
theorem mk_rev (n : Nat) (L : List (List UInt8)) : mk n L.reverse = mk n L := fold_rev n L _
end Go.Proofs.YthohghnfiicndaaDoor

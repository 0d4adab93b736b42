/- bloom: what is known; a key that it was made of may be there; whether it may be there: the statements' own walks. -/
import Derived.Test.YtcffefadagfdcaaBloE
namespace Go.Proofs.Ytcffefadagfdcaa
open Go.RowKit
set_option maxRecDepth 100000

theorem hasBit_test (b : List UInt8) (p : Nat) : hasBit b p = (b.getD (p / 8) 0).toNat.testBit (p % 8) := by
  unfold hasBit
  rw [Nat.testBit_eq_decide_div_mod_eq]
theorem getD_set (b : List UInt8) (i j : Nat) (x : UInt8) : (b.set i x).getD j 0 = if i = j ∧ j < b.length then x else b.getD j 0 := by
  rw [List.getD_eq_getElem?_getD, List.getD_eq_getElem?_getD, List.getElem?_set]
  by_cases h : i = j
  · subst h
    by_cases h2 : i < b.length
    · simp [h2]
    · simp [h2]
  · simp [h]
theorem or_val (c : UInt8) (t : Nat) (ht : t < 8) : (UInt8.ofNat (c.toNat ||| 2 ^ t)).toNat = c.toNat ||| 2 ^ t := by
  have h1 : 2 ^ t < 256 := by
    have := Nat.pow_lt_pow_right (a := 2) (by omega) ht
    simpa using this
  exact UInt8.toNat_ofNat_of_lt' (Nat.or_lt_two_pow (n := 8) c.toNat_lt (by omega))
theorem orb_mono (b : List UInt8) (p q : Nat) (h : hasBit b p = true) : hasBit (orb b q) p = true := by
  rw [hasBit_test] at h ⊢
  unfold orb
  rw [getD_set]
  split
  · rename_i hh
    rw [or_val _ _ (Nat.mod_lt _ (by omega)), Nat.testBit_or, hh.1, h]
    rfl
  · exact h
theorem orb_self (b : List UInt8) (p : Nat) (hp : p / 8 < b.length) : hasBit (orb b p) p = true := by
  rw [hasBit_test]
  unfold orb
  rw [getD_set, if_pos ⟨rfl, hp⟩, or_val _ _ (Nat.mod_lt _ (by omega)), Nat.testBit_or, Nat.testBit_two_pow_self]
  simp
theorem adds_mono (n h : Nat) (b : List UInt8) (p : Nat) (hb : hasBit b p = true) : ∀ k, hasBit (adds n h b k) p = true
  | 0 => hb
  | k + 1 => by rw [adds_snoc]; exact orb_mono _ _ _ (adds_mono n h b p hb k)
theorem adds_has (n h : Nat) (b : List UInt8) (hn : b.length = n) (hn0 : 0 < n) : ∀ k i, i < k → hasBit (adds n h b k) (place h n i) = true
  | 0, i, hi => by omega
  | k + 1, i, hi => by
    rw [adds_snoc]
    by_cases hik : i = k
    · subst hik
      refine orb_self _ _ ?_
      rw [adds_len, hn]
      have : place h n i < n * 8 := Nat.mod_lt _ (by omega)
      omega
    · exact orb_mono _ _ _ (adds_has n h b hn hn0 k i (by omega))
theorem fold_mono (n : Nat) (L : List (List UInt8)) (p : Nat) : ∀ b : List UInt8, hasBit b p = true → hasBit (L.foldl (fun b l => adds n (fnv l) b 6) b) p = true := by
  induction L with
  | nil => intro b h; exact h
  | cons l L ih => intro b h; exact ih _ (adds_mono n (fnv l) b p h 6)
theorem fold_has (n : Nat) (hn0 : 0 < n) (l : List UInt8) (i : Nat) (hi : i < 6) (L : List (List UInt8)) : ∀ b : List UInt8, b.length = n → l ∈ L → hasBit (L.foldl (fun b l => adds n (fnv l) b 6) b) (place (fnv l) n i) = true := by
  induction L with
  | nil => intro b _ h; cases h
  | cons a L ih =>
    intro b hb hl
    rw [List.foldl_cons]
    rcases List.mem_cons.1 hl with rfl | hl
    · exact fold_mono n L _ _ (adds_has n (fnv l) b hb hn0 6 i hi)
    · exact ih _ (by rw [adds_len]; exact hb) hl
theorem may_mk {n : Nat} (hn0 : 0 < n) {L : List (List UInt8)} {l : List UInt8} (hl : l ∈ L) : mayB (mk n L) (fnv l) = true := by
  rw [mayB_iff]
  refine .inr fun i hi => ?_
  rw [mk_len]
  exact fold_has n hn0 l i hi L _ (by simp) hl

set_option maxHeartbeats 1000000 in
theorem known6_any {w : World} : Calls Try.prog 19 #[] w fun e w' => e = .returned (.bool true) ∧ Ext w w' := by
  have h0 : Ss w (fun _ => True) (.slice none 0 0) [] := Sl.nil _ _
  have hb : (((fnv [] : Nat) : Int) == 2166136261) = true := rfl
  go_enter Try.func19, Try.ntmps19
  go_wp2_with fail
  refine (hash_any [] (by simp)).mono ?_
  rintro e w1 ⟨rfl, rfl⟩
  generalize fnv [] = f at *
  go_wp2_with fail
  refine (make_any h0 (by simp) (fun l hl => by cases hl)).mono ?_
  rintro e w2 ⟨v2, rfl, g1, g2, g3⟩
  have hl8 := mk_len (bn ([] : List (List UInt8)).length) []
  rw [show bn ([] : List (List UInt8)).length = 8 from rfl] at g1 hl8
  generalize mk 8 [] = b at *
  obtain ⟨A, c, rfl⟩ := g1.shape
  rw [List.length_map, hl8] at g1 ⊢
  have hbn : Bs w2 (fun _ => True) (.slice none 0 0) [] := Sl.nil _ _
  clear g1 g2 hl8
  go_wp2_with fail
  refine (mayb_any [97] hbn (by simp) (by simp)).mono ?_
  rintro e w3 ⟨rfl, hx3⟩
  rw [show mayB [] (fnv [97]) = true by unfold mayB; rfl]
  go_wp2_with fail
  go_ret
  exact ⟨rfl, ext_trans g3 hx3⟩

set_option maxHeartbeats 1000000 in
theorem law_asks {w : World} {v : Value} {b l : List UInt8} (hb : Bs w (fun _ => True) v b) (hz : l.length ≤ 140737488351232) :
    Calls Try.prog 4 #[v, sv l] w fun e w' => e = .returned (.bool true) ∧ Ext w w' := by
  have hb0 := hb
  obtain ⟨A, c, rfl, h1, h2, h3, h4⟩ := hb.open_
  clear h3 h4 hb
  have hsz := sv_size l
  by_cases e1 : 1000 < b.length
  · go_enter Try.func4, Try.ntmps4
    go_wp2_with fail
    go_ret
    exact ⟨rfl, Mod.refl _ _⟩
  by_cases e2 : 1000 < l.length
  · go_enter Try.func4, Try.ntmps4
    go_wp2_with fail
    go_ret
    exact ⟨rfl, Mod.refl _ _⟩
  go_enter Try.func4, Try.ntmps4
  go_wp2_with fail
  refine (mayb_any l hb0 (by omega) (by omega)).mono ?_
  rintro e w1 ⟨rfl, hx1⟩
  go_wp2_with fail
  refine (rmay_any l (hb0.ext hx1) (by omega) (by omega)).mono ?_
  rintro e w2 ⟨rfl, rfl⟩
  generalize mayB b (fnv l) = q at *
  have hqq : (q == q) = true := by simp
  go_wp2_with fail
  refine known6_any.mono ?_
  rintro e w3 ⟨rfl, hx3⟩
  go_wp2_with fail
  go_ret
  exact ⟨rfl, ext_trans hx1 hx3⟩

set_option maxHeartbeats 1000000 in
theorem law_has {w : World} {y : Value} {L : List (List UInt8)} (hy : Ss w (fun _ => True) y L) (hz : ∀ l ∈ L, l.length ≤ 140737488351232) :
    Calls Try.prog 5 #[y] w fun e w' => e = .returned (.bool true) ∧ Ext w w' := by
  have hy0 := hy
  obtain ⟨A, c, rfl, h1, h2, h3, h4⟩ := hy.open_
  go_enter Try.func5, Try.ntmps5
  go_wp2_with fail
  refine (heavy_any hy0 hz).mono ?_
  rintro e w1 ⟨rfl | ⟨rfl, hws⟩, rfl⟩
  · go_wp2_with fail
    go_ret
    exact ⟨rfl, Mod.refl _ _⟩
  obtain ⟨hL, hls⟩ := wsum_small hws
  clear hz hws
  go_wp2_with fail
  refine (make_any hy0 hL hls).mono ?_
  rintro e w2 ⟨v2, rfl, g1, g2, g3⟩
  have hlen := mk_len (bn L.length) L
  have hin := fun l (hl : l ∈ L) => may_mk (n := bn L.length) (by unfold bn; omega) hl
  obtain ⟨n, hn⟩ : ∃ n, n = bn L.length := ⟨_, rfl⟩
  have hn8 : 8 ≤ n ∧ n ≤ 5001 := by rw [hn]; unfold bn; omega
  have hmax : ∀ (ts : Array TypeId) (t : TypeId) (w : World), (Builtin.max_ ts t #[.int .i64 8, .int .i64 ((10 * (L.length : Int) + 7) / 8)]).run Try.prog w = .ok (.int .i64 (n : Nat)) w := by
    intro ts t w
    rw [run_max_int2]
    congr 2; rw [hn]; unfold bn; omega
  rw [← hn] at hlen hin g1
  clear hn
  generalize mk n L = b at *
  obtain ⟨A2, c2, rfl⟩ := g1.shape
  rw [List.length_map, hlen] at g1 ⊢
  have hb2 := g1.sl
  replace hin := Lib.hid hin
  clear g1 g2
  go_wp2_with fail
  go_loopw [4] (fun i wr => ∃ k : Nat, k ≤ L.length ∧ i = .int .i64 k ∧ Bs wr (fun _ => True) (.slice A2 n c2) b ∧ Ext w1 wr) (fun i _ => L.length - (intOf i).toNat)
  case atStart => exact ⟨0, Nat.zero_le _, rfl, hb2.mono (fun _ _ _ => trivial), g3⟩
  case round =>
    clear hb2 g3
    obtain ⟨k, hk, rfl, hb3, hx⟩ := hrel
    by_cases hlt : k < L.length
    · obtain ⟨ad, rfl, hS, hc⟩ := h4.at_ hlt
      replace hc := (hx.cell (lt_of_cell hc) (fun h => h)).trans hc
      have hmem := List.getElem_mem hlt
      have hll := hls _ hmem
      have hmb := hin.out _ hmem
      generalize L[k] = l at *
      go_wp2_with fail
      refine (mayb_any l hb3 (by omega) (by omega)).mono ?_
      rintro e w3 ⟨rfl, hx3⟩
      rw [hmb]
      go_wp2_with fail
      exact ⟨⟨k + 1, by omega, by go_num, hb3.ext hx3, ext_trans hx hx3⟩, by simp [intOf] <;> omega⟩
    · go_wp2_with fail
      refine known6_any.mono ?_
      rintro e w3 ⟨rfl, hx3⟩
      go_wp2_with fail
      go_ret
      exact ⟨rfl, ext_trans hx hx3⟩
end Go.Proofs.Ytcffefadagfdcaa

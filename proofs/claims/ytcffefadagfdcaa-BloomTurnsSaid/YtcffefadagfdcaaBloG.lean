/- bloom: the document's Make; the order of the keys. -/
import Derived.Test.YtcffefadagfdcaaBloF
namespace Go.Proofs.Ytcffefadagfdcaa
open Go.RowKit
set_option maxRecDepth 100000

set_option maxHeartbeats 2000000 in
theorem rmake_any {w : World} {S : Nat → Prop} {y : Value} {L : List (List UInt8)} (hy : Ss w S y L) (hl : L.length ≤ 4000) (hz : ∀ l ∈ L, l.length ≤ 4000) :
    Calls Try.prog 16 #[y] w fun e w' => ∃ v', e = .returned v' ∧ Own w' 5 v' ((mk (bn L.length) L).map bv) ∧ Fresh w.heap.size v' ∧ Ext w w' := by
  have hy0 := hy
  obtain ⟨A, c, rfl, h1, h2, h3, h4⟩ := hy.open_
  obtain ⟨n, hn⟩ : ∃ n, n = bn L.length := ⟨_, rfl⟩
  have hn8 : 8 ≤ n ∧ n ≤ 5001 := by rw [hn]; unfold bn; omega
  have hmax : ∀ (ts : Array TypeId) (t : TypeId) (w : World), (Builtin.max_ ts t #[.int .i64 8, .int .i64 ((10 * (L.length : Int) + 7) / 8)]).run Try.prog w = .ok (.int .i64 (n : Nat)) w := by
    intro ts t w
    rw [run_max_int2]
    congr 2; rw [hn]; unfold bn; omega
  rw [← hn]
  replace hn := Lib.hid hn
  go_enter Try.func16, Try.ntmps16
  go_wp2_with ((with_reducible show wpList _ _ _ (⟨some 13, _, _, _, _, _⟩ :: _) _ _); refine wp_make tyB n rfl (.tmp 12) (.tmp 12) rfl rfl rfl (by omega) ?_; intro w1 hown1 hext1 hlt1)
  obtain ⟨g, hg⟩ : ∃ g, g = w.heap.size := ⟨_, rfl⟩
  rw [← hg] at hown1
  have hgl : w.heap.size ≤ g := by omega
  rw [← hg]
  clear hlt1 hg
  replace hown1 : Own w1 5 (.slice (some ⟨g, 0, none⟩) n n) ((mk n (L.take 0)).map bv) := by
    rw [show mk n (L.take 0) = List.replicate n 0 from rfl, List.map_replicate]; exact hown1
  go_loopw [4] (fun i wr => ∃ k : Nat, k ≤ L.length ∧ i = .int .i64 k ∧ Own wr 5 (.slice (some ⟨g, 0, none⟩) n n) ((mk n (L.take k)).map bv) ∧ Ext w wr) (fun i _ => L.length - (intOf i).toNat)
  case atStart => exact ⟨0, Nat.zero_le _, rfl, hown1, hext1⟩
  case round =>
    clear hown1 hext1
    obtain ⟨k, hk, rfl, hown, hx⟩ := hrel
    by_cases hlt : k < L.length
    · obtain ⟨ad, rfl, hS, hc0⟩ := h4.at_ hlt
      have hll := hz L[k] (List.getElem_mem hlt)
      have hsn := Lib.hid (mk_snoc n L k hlt)
      have hbl := mk_len n (L.take k)
      generalize mk n (L.take k) = b0 at *
      obtain ⟨l, hlk⟩ : ∃ l, l = L[k] := ⟨_, rfl⟩
      rw [← hlk] at hc0 hll hsn
      clear hlk
      go_wp2_with fail
      go_loopw [5] (fun i wr => ∃ j : Nat, j ≤ 6 ∧ i = .int .i64 j ∧ Own wr 5 (.slice (some ⟨g, 0, none⟩) n n) ((adds n (fnv l) b0 j).map bv) ∧ Ext w wr) (fun i _ => 6 - (intOf i).toNat)
      case atStart => exact ⟨0, by omega, rfl, hown, hx⟩
      case round =>
        clear hown hx
        obtain ⟨j, hj, rfl, hown, hx⟩ := hrel
        by_cases hjlt : j < 6
        · have hc := (hx.cell (lt_of_cell hc0) (fun h => h)).trans hc0
          have hba := @bit_any wr l j n (by omega) hjlt (by omega) (by omega)
          have hpl : place (fnv l) n j < n * 8 := Nat.mod_lt _ (by omega)
          have hsn2 := Lib.hid (adds_snoc n (fnv l) b0 j)
          have hbl2 := adds_len n (fnv l) b0 j
          rw [hbl] at hbl2
          generalize adds n (fnv l) b0 j = b at *
          generalize place (fnv l) n j = p at *
          obtain ⟨m, hm⟩ : ∃ m, m = p / 8 := ⟨_, rfl⟩
          have hml : m < b.length := by omega
          have hmi : (p : Int) / 8 = (m : Int) := by omega
          have hmn : (m : Int) < (n : Int) := by omega
          obtain ⟨t, ht⟩ : ∃ t, t = p % 8 := ⟨_, rfl⟩
          have ht8 : t < 8 := by omega
          have hta : (p : Int) % 8 = (t : Int) := by omega
          have hc9 := hown.cellAt (j := m) (by rw [List.length_map]; exact hml)
          rw [List.getElem_map] at hc9
          have hz9 := hown.frozenAt m
          have hcl : b[m].toNat < 256 := b[m].toNat_lt
          have horb : orb b p = b.set m (UInt8.ofNat (b[m].toNat ||| 2 ^ t)) := by
            unfold orb
            rw [← hm, ← ht, List.getD_eq_getElem?_getD, List.getElem?_eq_getElem hml, Option.getD_some]
          clear hm ht
          have hval := Lib.hid (or_pow hcl ht8)
          have hst := hown.store (j := m) (bv (UInt8.ofNat (b[m].toNat ||| 2 ^ t)))
          rw [show (b.map bv).set m (bv (UInt8.ofNat (b[m].toNat ||| 2 ^ t))) = (b.set m (UInt8.ofNat (b[m].toNat ||| 2 ^ t))).map bv from (List.map_set ..).symm, ← horb] at hst
          replace horb := Lib.hid horb
          go_wp2_with fail
          refine hba.mono ?_
          rintro e w9 ⟨rfl, rfl⟩
          go_wp2_with fail
          refine ⟨⟨j + 1, by omega, by go_num, ?_, ?_⟩, by simp [intOf] <;> omega⟩
          · rw [hsn2.out, hval.out]; exact hst
          · exact Mod.setCell hx (p := ⟨g, m, none⟩) (fun hh => by have hh : g < w.heap.size := hh; omega) _
        · obtain rfl : j = 6 := by omega
          go_wp2_with fail
          exact ⟨⟨k + 1, by omega, by go_num, by rw [hsn.out]; exact hown, hx⟩, by simp [intOf] <;> omega⟩
    · rw [List.take_of_length_le (by omega)] at hown
      go_wp2_with fail
      go_ret
      exact ⟨_, rfl, hown, fun x hk => by have : g = x := Option.some.inj hk; omega, hx⟩

theorem orb_comm (b : List UInt8) (p q : Nat) : orb (orb b p) q = orb (orb b q) p := by
  unfold orb
  rw [getD_set, getD_set]
  by_cases h : p / 8 = q / 8
  · rw [h]
    by_cases h2 : q / 8 < b.length
    · rw [if_pos ⟨rfl, h2⟩, if_pos ⟨rfl, h2⟩, or_val _ _ (Nat.mod_lt _ (by omega)), or_val _ _ (Nat.mod_lt _ (by omega)), List.set_set, List.set_set, Nat.or_assoc, Nat.or_assoc, Nat.or_comm (2 ^ (p % 8))]
    · have e1 : ∀ x, b.set (q / 8) x = b := fun x => List.set_eq_of_length_le (by omega)
      simp only [e1]
  · rw [if_neg (fun hh => h hh.1), if_neg (fun hh => h hh.1.symm), List.set_comm _ _ h]
theorem orb_fold (xs : List Nat) (q : Nat) : ∀ b, xs.foldl orb (orb b q) = orb (xs.foldl orb b) q := by
  induction xs with
  | nil => intro b; rfl
  | cons p xs ih => intro b; rw [List.foldl_cons, List.foldl_cons, orb_comm, ih]
theorem fold_fold (ys xs : List Nat) : ∀ b, xs.foldl orb (ys.foldl orb b) = ys.foldl orb (xs.foldl orb b) := by
  induction ys with
  | nil => intro b; rfl
  | cons q ys ih => intro b; rw [List.foldl_cons, List.foldl_cons, ih, orb_fold]
theorem adds_comm (n h k : Nat) (b : List UInt8) (i j : Nat) : adds n h (adds n k b i) j = adds n k (adds n h b j) i := fold_fold _ _ _
theorem step_fold (n h : Nat) (L : List (List UInt8)) : ∀ b, L.foldl (fun b l => adds n (fnv l) b 6) (adds n h b 6) = adds n h (L.foldl (fun b l => adds n (fnv l) b 6) b) 6 := by
  induction L with
  | nil => intro b; rfl
  | cons l L ih => intro b; rw [List.foldl_cons, List.foldl_cons, adds_comm, ih]
theorem fold_rev (n : Nat) (L : List (List UInt8)) : ∀ b, L.reverse.foldl (fun b l => adds n (fnv l) b 6) b = L.foldl (fun b l => adds n (fnv l) b 6) b := by
  induction L with
  | nil => intro b; rfl
  | cons l L ih => intro b; rw [List.reverse_cons, List.foldl_append, ih, List.foldl_cons, List.foldl_cons, List.foldl_nil, step_fold]
theorem mk_rev (n : Nat) (L : List (List UInt8)) : mk n L.reverse = mk n L := fold_rev n L _
end Go.Proofs.Ytcffefadagfdcaa

/- octet: rows joined; the document's answer to numbers and rows; bytes with room behind them. -/
import Derived.Test.YtlfooppmdgddkaaOctE
namespace Go.Proofs.Ytlfooppmdgddkaa
open Go.RowKit
set_option maxRecDepth 100000

theorem oneb (x : Int) : ∀ u ∈ [Value.int .u8 x], u.oneCell' = true := by simp [Value.oneCell']
theorem or128' (x : Nat) (h : x < 128) : bits .or .u8 (x : Int) 128 = ((UInt8.ofNat (x + 128)).toNat : Int) := by
  have := or128 x
  rwa [show (x : Int) % 256 = x by omega, show x % 128 + 128 = x + 128 by omega] at this
theorem u64_127 (u : Nat) (h : u < 18446744073709551616) : bits .and .u64 (u : Int) 127 = ((u % 128 : Nat) : Int) := by
  have := u64_and_nat u 127 h (by omega)
  rw [show (127 : Nat) = 2 ^ 7 - 1 by decide, Nat.and_two_pow_sub_one_eq_mod] at this
  simpa using this
set_option maxHeartbeats 800000 in
theorem rnum_any {w : World} (n : Int) :
    Calls Try.prog 64 #[.int .i64 n] w fun e w' => ∃ v', e = .returned v' ∧ Own w' 5 v' ((enc7 (clamp n)).map bv) ∧ Fresh w.heap.size v' ∧ Ext w w' := by
  have hc := clamp_lt n
  have h3 : (4611686018427387904 < n) ∨ (¬ 4611686018427387904 < n ∧ 0 < n) ∨ (¬ 4611686018427387904 < n ∧ ¬ 0 < n) := by omega
  have hcl : (4611686018427387904 < n → clamp n = 4611686018427387904) ∧ (¬ 4611686018427387904 < n → 0 < n → (clamp n : Int) = n) ∧ (¬ 0 < n → clamp n = 0) := by unfold clamp; omega
  generalize clamp n = u0 at *
  replace hcl := Lib.hid hcl
  go_enter Try.func64, Try.ntmps64
  rcases h3 with hb | ⟨hb, hb2⟩ | ⟨hb, hb2⟩
  all_goals go_wp2
  all_goals
    go_loopw [3, 4] (fun i v wr => ∃ (u : Nat) (pre : List UInt8), u < 18446744073709551616 ∧ i = .int .u64 u ∧ Own wr 5 v (pre.map bv) ∧ Fresh w.heap.size v ∧ Ext w wr ∧ Hid (pre ++ enc7 u = enc7 u0)) (fun i _ _ => (intOf i).toNat)
    case atStart =>
      refine ⟨u0, [], hc, ?_, Own.nil _ _, fresh_nil _ _ _, Mod.refl _ _, rfl⟩
      first | rw [hcl.out.1 hb]; rfl | rw [hcl.out.2.1 hb hb2] | rw [hcl.out.2.2 hb2]; rfl
    case round =>
      clear hb
      try clear hb2
      obtain ⟨u, pre, hu, rfl, hown, hf, hm, he⟩ := hrel
      have hlen : pre.length + (enc7 u).length ≤ 10 := by
        rw [← List.length_append, he.out]; exact enc7_length 9 u0 (by omega)
      have hpos := enc7_pos u
      by_cases hlt : u < 128
      · go_wp2_with ((with_reducible show wpList _ _ _ (⟨some 26, _, _, _, _, _⟩ :: _) _ _); refine wp_app tyB (hown.alloc _) (Sl.one _ _ _) (by simp [Value.oneCell']) rfl (.tmp 22) (.tmp 25) rfl rfl rfl ?hn ?_; rotate_right; intro v1 w1 hown1 hmod1 hnx1)
        case hn => simp; omega
        go_ret
        have e1 : (Value.int .u8 (u : Int)) = bv (UInt8.ofNat u) := by unfold bv; rw [u8_ofNat _ (by omega)]
        rw [e1] at hown1 hnx1 hmod1
        refine ⟨v1, rfl, ?_, hnx1.fresh hf (Nat.le_trans hm.size (by simp)), ext_app hm hf hmod1⟩
        rw [← he.out, enc7_lo hlt, List.map_append]; exact hown1
      · obtain ⟨x, hx⟩ : ∃ x, x = u % 128 := ⟨_, rfl⟩
        have hand : bits .and .u64 (u : Int) 127 = (x : Int) := by rw [u64_127 u hu, hx]
        have hx1 : x < 128 := by omega
        have hor := or128' x hx1
        replace hx := Lib.hid hx
        go_wp2_with ((with_reducible show wpList _ _ _ (⟨some 19, _, _, _, _, _⟩ :: _) _ _); refine wp_app tyB (hown.alloc _) (Sl.one _ _ _) (by simp [Value.oneCell']) rfl (.tmp 13) (.tmp 18) rfl rfl rfl ?hn ?_; rotate_right; intro v1 w1 hown1 hmod1 hnx1)
        case hn => simp; omega
        refine ⟨⟨u / 128, pre ++ [UInt8.ofNat (x + 128)], by omega, by simp, by rw [List.map_append]; exact hown1, hnx1.fresh hf (Nat.le_trans hm.size (by simp)), ext_app hm hf hmod1, Lib.hid ?_⟩, by simp [intOf]; omega⟩
        rw [← he.out, enc7_hi hlt, List.append_assoc, hx.out]; rfl
set_option maxHeartbeats 400000 in
theorem rbytes_any {w : World} {S : Nat → Prop} {y : Value} {l : List UInt8} (hy : Bs w S y l) (hl : l.length + 10 ≤ 140737488355328) :
    Calls Try.prog 65 #[y] w fun e w' => ∃ v', e = .returned v' ∧ Own w' 5 v' ((enc7 l.length ++ l).map bv) ∧ Fresh w.heap.size v' ∧ Ext w w' := by
  obtain ⟨A, c, rfl, h1, h2, h3, h4⟩ := hy.open_
  have hcl := clamp_nat l.length (by omega)
  have hle2 := enc7_length 9 l.length (by omega)
  go_enter Try.func65, Try.ntmps65
  go_wp2_with (first
    | (go_at_call 64; refine (rnum_any _).mono ?_; rintro e w1 ⟨v1, rfl, g1, g2, g3⟩; rw [hcl] at g1; have hy1 := hy.ext g3)
    | ((with_reducible show wpList _ _ _ (⟨some 7, _, _, _, _, _⟩ :: _) _ _); refine wp_app tyB g1 hy1 (bv_one _) rfl (.tmp 5) (.tmp 6) rfl rfl rfl ?hn ?_; rotate_right; intro v2 w2 hown2 hmod2 hnx2))
  case hn => simp; omega
  go_ret
  exact ⟨_, rfl, by rw [List.map_append]; exact hown2, hnx2.fresh g2 g3.size, ext_app0 g3 g2 hmod2⟩
/-- All rows, one behind the other. -/
theorem flat_snoc (L : List (List UInt8)) (k : Nat) (h : k < L.length) : (L.take (k + 1)).flatten = (L.take k).flatten ++ L[k] := by
  rw [List.take_succ_eq_append_getElem h, List.flatten_append]
  simp
theorem flat_take (L : List (List UInt8)) (k : Nat) : (L.take k).flatten.length ≤ L.flatten.length := by
  have e : L.flatten = (L.take k).flatten ++ (L.drop k).flatten := by
    rw [← List.flatten_append, List.take_append_drop]
  rw [e, List.length_append]; omega
def flen (L : List (List UInt8)) (k : Nat) : Nat := (L.take k).flatten.length
theorem flen_snoc (L : List (List UInt8)) (k : Nat) (h : k < L.length) : flen L (k + 1) = flen L k + L[k].length := by
  unfold flen; rw [flat_snoc L k h, List.length_append]
theorem flen_le (L : List (List UInt8)) (k : Nat) : flen L k ≤ L.flatten.length := flat_take L k
theorem flen_all (L : List (List UInt8)) (k : Nat) (h : L.length ≤ k) : flen L k = L.flatten.length := by unfold flen; rw [List.take_of_length_le h]
/-- A row taken by a Reader. -/
def takeB (st : Option (List UInt8)) : List UInt8 × Option (List UInt8) := takeRaw (takeN st).1 (takeN st).2
theorem numF_lt (f : Nat) : ∀ (i acc : Nat) (l t : List UInt8) (n : Nat), numF f i acc l = some (n, t) → t.length < l.length ∧ n ≤ 4611686018427387904 := by
  induction f with
  | zero => intro i acc l t n h; cases h
  | succ f ih =>
    intro i acc l t n h
    cases l with
    | nil => cases h
    | cons c l =>
      simp only [numF] at h
      split at h
      · have := ih _ _ _ _ _ h
        simp; omega
      · split at h
        · cases h
        · rename_i h1
          injection h with h
          injection h with h2 h3
          subst h3
          constructor
          · simp
          · rw [← h2]
            have : ¬ 4611686018427387904 < acc + c.toNat % 128 * 128 ^ i := fun h => h1 (.inr h)
            omega
theorem takeN_len (st : Option (List UInt8)) : ((takeN st).2.getD []).length ≤ (st.getD []).length := by
  cases st with
  | none => simp [takeN]
  | some l =>
    cases h : takeNum l with
    | none => simp [takeN, h]
    | some p =>
      obtain ⟨n, t⟩ := p
      have := (numF_lt _ _ _ _ _ _ h).1
      simp [takeN, h]; omega
theorem bytes_any {w : World} {b : Nat} {S : Nat → Prop} {v : Value} {st : Option (List UInt8)} (hrd : Rd w b S v st) (hl : (st.getD []).length ≤ 281474976710656) :
    Calls Try.prog 93 #[.pointer (some ⟨b, 0, none⟩)] w fun e w' => ∃ v' v1, e = .returned v1 ∧ Rd w' b S v' (takeB st).2 ∧ Own w' 5 v1 ((takeB st).1.map bv) ∧ Fresh w.heap.size v1 ∧ Mod (fun k => k = b) w w' := by
  have hle := takeN_len st
  go_enter Try.func93, Try.ntmps93
  go_wp2_with (first
    | (go_at_call 87; refine (num_any hrd).mono ?_; rintro e w1 ⟨v1, rfl, g1, g2, g3⟩)
    | (go_at_call 102; refine (raw_any g1 _ (by omega)).mono ?_; rintro e w2 ⟨v2, v3, rfl, k1, k2, k3, k4⟩))
  go_ret
  exact ⟨v2, v3, rfl, k1, k2, k3.mono (by omega), g2.trans k4 (fun _ _ h => h) (fun _ _ h => h)⟩
end Go.Proofs.Ytlfooppmdgddkaa

/- octet: rows joined; the document's answer to numbers and rows; bytes with room behind them. -/
import Derived.Test.YtoockogceobfgaaGreatEnxm
import Derived.Test.YtoockogceobfgaaGreatSized
import Derived.Deep.DeepCutAuto
import Derived.Deep.RegionHeld3
import Derived.BigQuiet
import Derived.Deep.QuietTactic
import Derived.Lib.SlBytesConst
import Derived.Test.YtoockogceobfgaaGreatWords
namespace Go.Proofs.YtoockogceobfgaaGreat
open Go.RowKit
set_option maxRecDepth 100000

/-- All rows, one behind the other. -/
theorem flat_snoc (L : List (List UInt8)) (k : Nat) (h : k < L.length) : (L.take (k + 1)).flatten = (L.take k).flatten ++ L[k] := by
  rw [List.take_succ_eq_append_getElem h, List.flatten_append]
  simp
theorem flatR_take (L : List (List UInt8)) (k : Nat) : (L.take k).flatten.length ≤ L.flatten.length := by
  have e : L.flatten = (L.take k).flatten ++ (L.drop k).flatten := by
    rw [← List.flatten_append, List.take_append_drop]
  rw [e, List.length_append]; omega
def flen (L : List (List UInt8)) (k : Nat) : Nat := (L.take k).flatten.length
theorem flen_snoc (L : List (List UInt8)) (k : Nat) (h : k < L.length) : flen L (k + 1) = flen L k + L[k].length := by
  unfold flen; rw [flat_snoc L k h, List.length_append]
theorem flen_le (L : List (List UInt8)) (k : Nat) : flen L k ≤ L.flatten.length := flatR_take L k
theorem flen_all (L : List (List UInt8)) (k : Nat) (h : L.length ≤ k) : flen L k = L.flatten.length := by unfold flen; rw [List.take_of_length_le h]
theorem tyR : SliceTy Tryz.prog 50 22 (.slice none 0 0) 24 := ⟨Tryz.underlying50, by kernel_rfl, rfl, by omega⟩
/-- Two lists of rows in one of the call's own. -/
theorem Rw.join {w w' : World} {S : Nat → Prop} {v : Value} {L M : List (List UInt8)} {vs us : List Value} (hown : Own w' 22 v (vs ++ us)) (hx : Ext w w') (h1 : vs.length = L.length) (h2 : us.length = M.length)
    (h3 : ∀ (k : Nat) (x : Value) (l : List UInt8), vs[k]? = some x → L[k]? = some l → Bs w S x l) (h4 : ∀ (k : Nat) (x : Value) (l : List UInt8), us[k]? = some x → M[k]? = some l → Bs w S x l) :
    Rw w' (fun k => S k ∨ own v k) v (L ++ M) := by
  refine ⟨vs ++ us, by simp [h1, h2], hown.sl.mono (fun _ _ h => .inr h), fun k x l hx' hl => ?_⟩
  by_cases hk : k < vs.length
  · rw [List.getElem?_append_left hk] at hx'
    rw [List.getElem?_append_left (by omega)] at hl
    exact ((h3 k x l hx' hl).ext hx).mono (fun _ _ h => .inl h)
  · rw [List.getElem?_append_right (by omega)] at hx'
    rw [List.getElem?_append_right (by omega)] at hl
    rw [h1] at hx'
    exact ((h4 _ x l hx' hl).ext hx).mono (fun _ _ h => .inl h)
end Go.Proofs.YtoockogceobfgaaGreat
namespace Go.Proofs.YtoockogceobfgaaGreat
open Go.RowKit
set_option maxRecDepth 100000

/-- The byte of n at place i. -/
def bt (n : Int) (i : Nat) : UInt8 := UInt8.ofNat ((n / 2 ^ (8 * i)) % 256).toNat
/-- k bytes of n, the greatest first. -/
def bes (n : Int) : Nat → List UInt8
  | 0 => []
  | k + 1 => bt n k :: bes n k
/-- Bytes as a number. -/
def uval (l : List UInt8) : Nat := l.foldl (fun a c => a * 256 + c.toNat) 0

theorem bt_val (n : Int) (i : Nat) : ((bt n i).toNat : Int) = (n / 2 ^ (8 * i)) % 256 := by
  unfold bt
  have h0 : 0 ≤ (n / 2 ^ (8 * i)) % 256 := Int.emod_nonneg _ (by omega)
  have h1 : (n / 2 ^ (8 * i)) % 256 < 256 := Int.emod_lt_of_pos _ (by omega)
  rw [u8_ofNat' _ (by omega)]; omega
theorem bes_len (n : Int) : ∀ k, (bes n k).length = k
  | 0 => rfl
  | k + 1 => by rw [bes, List.length_cons, bes_len n k]
theorem foldl_from (l : List UInt8) : ∀ a : Nat, l.foldl (fun a c => a * 256 + c.toNat) a = a * 2 ^ (8 * l.length) + uval l := by
  induction l with
  | nil => intro a; simp [uval]
  | cons c l ih =>
    intro a
    unfold uval
    rw [List.foldl_cons, List.foldl_cons, ih, ih (0 * 256 + c.toNat), List.length_cons, show 8 * (l.length + 1) = 8 + 8 * l.length by omega, Nat.pow_add]
    rw [show (2 : Nat) ^ 8 = 256 from rfl]
    generalize 2 ^ (8 * l.length) = P
    rw [Nat.zero_mul, Nat.zero_add, Nat.add_mul, Nat.mul_assoc]
    omega
theorem uval_cons (c : UInt8) (l : List UInt8) : uval (c :: l) = c.toNat * 2 ^ (8 * l.length) + uval l := by
  unfold uval
  rw [List.foldl_cons, foldl_from]
  unfold uval
  simp
theorem uval_snoc (l : List UInt8) (c : UInt8) : uval (l ++ [c]) = uval l * 256 + c.toNat := by simp [uval]
theorem uval_lt (l : List UInt8) : uval l < 2 ^ (8 * l.length) := by
  induction l with
  | nil => simp [uval]
  | cons c l ih =>
    rw [uval_cons, List.length_cons, show 8 * (l.length + 1) = 8 + 8 * l.length by omega, Nat.pow_add]
    have := c.toNat_lt
    have h2 : (c.toNat + 1) * 2 ^ (8 * l.length) ≤ 2 ^ 8 * 2 ^ (8 * l.length) := Nat.mul_le_mul_right _ (by omega)
    rw [Nat.add_mul] at h2
    omega
theorem uval_bes (n : Int) : ∀ k, (uval (bes n k) : Int) = n % 2 ^ (8 * k)
  | 0 => by simp [uval, bes]
  | k + 1 => by
    rw [bes, uval_cons, bes_len, Int.natCast_add, Int.natCast_mul, bt_val, uval_bes n k]
    have h1 := Int.emod_def n (2 ^ (8 * k))
    have h2 := Int.emod_def (n / 2 ^ (8 * k)) 256
    have h3 := Int.emod_def n (2 ^ (8 * (k + 1)))
    have h5 : (2 : Int) ^ (8 * (k + 1)) = 2 ^ (8 * k) * 256 := by rw [show 8 * (k + 1) = 8 * k + 8 by omega, Int.pow_add]; rfl
    have h4 : n / 2 ^ (8 * k) / 256 = n / 2 ^ (8 * (k + 1)) := by
      rw [Int.ediv_ediv_of_nonneg (Int.pow_nonneg (by omega)), h5]
    have h6 : ((2 ^ (8 * k) : Nat) : Int) = (2 : Int) ^ (8 * k) := by simp
    rw [h1, h2, h3, h4, h5, h6]
    generalize (2 : Int) ^ (8 * k) = P
    generalize n / (P * 256 : Int) = r
    generalize n / (P : Int) = q
    have e1 : (q - 256 * r) * P = P * q - P * 256 * r := by rw [Int.sub_mul, Int.mul_comm q P, Int.mul_comm (256 * r) P, Int.mul_assoc]
    rw [e1]; omega
theorem uval_nat (n k : Nat) (h : n < 2 ^ (8 * k)) : uval (bes n k) = n := by
  have h1 := uval_bes n k
  have h2 : ((2 ^ (8 * k) : Nat) : Int) = (2 : Int) ^ (8 * k) := by simp
  rw [← h2] at h1
  have h3 : ((n % 2 ^ (8 * k) : Nat) : Int) = (n : Int) % ((2 ^ (8 * k) : Nat) : Int) := Int.natCast_emod _ _
  rw [Nat.mod_eq_of_lt h] at h3
  omega
/-- How many bytes a length takes behind its first one. -/
def lw (n : Nat) : Nat := if n < 256 then 1 else if n < 65536 then 2 else 3
theorem lw_pos (n : Nat) : 1 ≤ lw n ∧ lw n ≤ 3 := by
  unfold lw
  split
  · omega
  · split <;> omega
theorem lw_lt {n : Nat} (h : n < 16777216) : n < 2 ^ (8 * lw n) := by
  unfold lw
  split
  · simpa using ‹n < 256›
  · split
    · simpa using ‹n < 65536›
    · simpa using h
theorem lw_of {n k : Nat} (h0 : 1 ≤ k) (h1 : n < 2 ^ (8 * k)) (h2 : k = 1 ∨ 2 ^ (8 * (k - 1)) ≤ n) (h3 : k ≤ 3) : lw n = k := by
  unfold lw
  obtain rfl | rfl | rfl : k = 1 ∨ k = 2 ∨ k = 3 := by omega
  · have h1' : n < 256 := h1
    rw [if_pos h1']
  · have h1' : n < 65536 := h1
    have h2' : 2 = 1 ∨ 256 ≤ n := h2
    rw [if_neg (by omega), if_pos h1']
  · have h2' : 3 = 1 ∨ 65536 ≤ n := h2
    rw [if_neg (by omega), if_neg (by omega)]
/-- A length as bytes. -/
def lay (n : Nat) : List UInt8 := if n < 128 then [UInt8.ofNat n] else UInt8.ofNat (128 + lw n) :: bes n (lw n)
theorem lay_len (n : Nat) : 1 ≤ (lay n).length ∧ (lay n).length ≤ 4 := by
  unfold lay
  have := lw_pos n
  split
  · simp
  · simp [bes_len]; omega
end Go.Proofs.YtoockogceobfgaaGreat
namespace Go.Proofs.YtoockogceobfgaaGreat
open Go.RowKit
set_option maxRecDepth 100000

theorem room1 {l : List UInt8} {u : Value} (hl : l.length ≤ 100000000) : ((l.map bv).length + ([u] : List Value).length) * 1 ≤ 140737488355328 := by simp; omega
set_option maxHeartbeats 1000000 in
theorem laylen_any {w : World} {n : Nat} {v : Value} {l : List UInt8} (h : Own w 5 v (l.map bv)) (hn : n < 16777216) (hl : l.length ≤ 1000000) :
    Calls Tryz.prog 50 #[v, .int .i64 n] w fun e w' => ∃ v', e = .returned v' ∧ Own w' 5 v' ((l ++ lay n).map bv) ∧ Next w.heap.size v v' ∧ Mod (own v) w w' := by
  by_cases h128 : n < 128
  · have hlay : lay n = [UInt8.ofNat n] := by unfold lay; rw [if_pos h128]
    rw [hlay]
    have hbv := byte_of (n := n) (by omega)
    have hn1 := Lib.hid (room1 (u := .int .u8 n) (show l.length ≤ 100000000 by omega))
    replace hbv := Lib.hid hbv
    have hsl := Sl.one w 5 (.int .u8 n)
    have hown := h.alloc (.cells #[.int .u8 n] 5)
    have ho := one_ok (.int .u8 n) rfl
    obtain ⟨A, c, rfl⟩ := h.shape
    go_enter Tryz.func50, Tryz.ntmps50
    go_wp2_with ((with_reducible show wpList _ _ _ (⟨some 13, _, _, _, _, _⟩ :: _) _ _); refine wp_app tyB hown hsl ho rfl (.tmp 9) (.tmp 12) rfl rfl rfl hn1.out ?_; intro v2 w2 k1 k2 k3)
    go_ret
    exact ⟨v2, rfl, by rw [List.map_append]; rw [hbv.out] at k1; exact k1, k3.sooner (by simp), mod_app k2⟩
  · have hlay : lay n = UInt8.ofNat (128 + lw n) :: bes n (lw n) := by unfold lay; rw [if_neg h128]
    replace hlay := Lib.hid hlay
    obtain ⟨A, c, rfl⟩ := h.shape
    rw [List.length_map] at h ⊢
    have hl0 := Lib.hid hl
    go_enter Tryz.func50, Tryz.ntmps50
    go_wp2_with fail
    go_loop [5] (fun i => ∃ k : Nat, k ≤ 3 ∧ 1 ≤ k ∧ i = .int .i64 k ∧ Hid (k = 1 ∨ 2 ^ (8 * (k - 1)) ≤ n)) (fun i => 3 - (intOf i).toNat)
    case atStart => exact ⟨1, by omega, by omega, rfl, Lib.hid (.inl rfl)⟩
    case round =>
      obtain ⟨k, hk, hk1, rfl, hlow⟩ := hrel
      by_cases hlt : n < 2 ^ (8 * k)
      · have hw : lw n = k := lw_of hk1 hlt hlow.out hk
        have hd : ((n : Int) / 2 ^ (8 * k)) = 0 := by
          have : ((n / 2 ^ (8 * k) : Nat) : Int) = (n : Int) / 2 ^ (8 * k) := by simp
          rw [← this, Nat.div_eq_of_lt hlt]; rfl
        have hd2 : decide ((0 : Int) < (n : Int) / 2 ^ (8 * k)) = false := by rw [hd]; rfl
        rw [hw] at hlay
        have hbv := byte_of (n := 128 + k) (by omega)
        rw [Int.natCast_add] at hbv
        replace hbv := Lib.hid hbv
        have hn1 := Lib.hid (room1 (u := .int .u8 (128 + (k : Int))) (show l.length ≤ 100000000 by have := hl0.out; omega))
        have hsl := Sl.one w 5 (.int .u8 (128 + (k : Int)))
        have hown := h.alloc (.cells #[.int .u8 (128 + (k : Int))] 5)
        have ho := one_ok (.int .u8 (128 + (k : Int))) rfl
        clear hlt hw hlow
        go_wp2_with ((with_reducible show wpList _ _ _ (⟨some 26, _, _, _, _, _⟩ :: _) _ _); refine wp_app tyB hown hsl ho rfl (.tmp 21) (.tmp 25) rfl rfl rfl hn1.out ?_; intro v2 w2 k1 k2 k3)
        have m0 : Own w2 5 v2 ((l ++ [UInt8.ofNat (128 + k)]).map bv) := by
          rw [List.map_append, List.map_cons, List.map_nil, ← hbv.out]; exact k1
        have m1 : Next w.heap.size (.slice A l.length c) v2 := k3.sooner (by simp)
        have m2 : Mod (own (.slice A l.length c)) w w2 := mod_app k2
        clear k1 k2 k3 hn1 hsl hown ho hbv hd hd2
        go_loopw [0, 6] (fun v i wr => ∃ (j : Nat) (pre : List UInt8), j ≤ k ∧ i = .int .i64 ((j : Int) - 1) ∧ Own wr 5 v ((l ++ pre).map bv) ∧ Hid (pre.length + j = k + 1) ∧ Hid (pre ++ bes n j = lay n) ∧ Next w.heap.size (.slice A l.length c) v ∧ Mod (own (.slice A l.length c)) w wr) (fun _ i _ => ((intOf i) + 1).toNat)
        case atStart => exact ⟨k, _, Nat.le_refl _, rfl, m0, Lib.hid (by simp; omega), Lib.hid (by rw [hlay.out]; rfl), m1, m2⟩
        case round =>
          clear m0 m1 m2
          obtain ⟨j, pre, hj, rfl, p0, pl, pe, p1, p2⟩ := hrel
          rcases j with _ | j
          · rw [show (((0 : Nat) : Int) - 1) = -1 from rfl]
            go_wp2_with fail
            go_ret
            have he := pe.out
            rw [bes, List.append_nil] at he
            exact ⟨_, rfl, by rw [← he]; exact p0, p1, p2⟩
          · rw [show (((j + 1 : Nat) : Int) - 1) = (j : Int) by omega]
            have hbt : bv (bt n j) = .int .u8 ((n : Int) / 2 ^ (8 * j) % 256) := by
              show Value.int .u8 ((bt n j).toNat : Int) = _
              rw [bt_val]
            have hn1 := Lib.hid (room1 (u := bv (bt n j)) (show (l ++ pre).length ≤ 100000000 by have := hl0.out; have := pl.out; rw [List.length_append]; omega))
            have hsl := Sl.one wr 5 (bv (bt n j))
            have hown := p0.alloc (.cells #[bv (bt n j)] 5)
            have ho := one_ok (bv (bt n j)) rfl
            rw [hbt] at hn1 hsl hown ho
            replace hbt := Lib.hid hbt
            obtain ⟨A2, c2, rfl⟩ := p0.shape
            rw [List.length_map] at hown p0 p1 ⊢
            go_wp2_with ((with_reducible show wpList _ _ _ (⟨some 40, _, _, _, _, _⟩ :: _) _ _); refine wp_app tyB hown hsl ho rfl (.tmp 33) (.tmp 39) rfl rfl rfl hn1.out ?_; intro v3 w3 k1 k2 k3)
            refine ⟨⟨j, pre ++ [bt n j], by omega, by go_num, ?_, Lib.hid (by have := pl.out; simp <;> omega), Lib.hid (by have := pe.out; rw [bes] at this; simpa using this), p1.trans k3 (by have := p2.size; simp <;> omega), ?_⟩, by simp [intOf] <;> omega⟩
            · rw [← hbt.out] at k1
              simpa using k1
            · exact p2.then_ (mod_app k2) (fun x hx hh => p1.sub hx hh)
      · have hlt' : 2 ^ (8 * k) ≤ n := by omega
        have hk2 : k < 3 := by
          rcases Nat.lt_or_ge k 3 with h | h
          · exact h
          · obtain rfl : k = 3 := by omega
            have : 16777216 ≤ n := hlt'
            omega
        have hd : 1 ≤ n / 2 ^ (8 * k) := (Nat.le_div_iff_mul_le (Nat.two_pow_pos _)).2 (by omega)
        have hd1 : ((n / 2 ^ (8 * k) : Nat) : Int) = (n : Int) / 2 ^ (8 * k) := by simp
        have hd2 : decide ((0 : Int) < (n : Int) / 2 ^ (8 * k)) = true := by rw [← hd1]; simp; omega
        replace hlt' := Lib.hid hlt'
        clear hd hd1 hlt hlow
        go_wp2_with fail
        exact ⟨⟨k + 1, by omega, by omega, by go_num, Lib.hid (.inr hlt'.out)⟩, by simp [intOf] <;> omega⟩
end Go.Proofs.YtoockogceobfgaaGreat
namespace Go.Proofs.YtoockogceobfgaaGreat
open Go.RowKit
set_option maxRecDepth 100000

theorem bown_any {w : World} {S : Nat → Prop} {v : Value} {l : List UInt8} (h : Bs w S v l) (hn : l.length ≤ 281474976710656) :
    Calls Tryz.prog 49 #[v] w fun e w' => ∃ v', e = .returned v' ∧ Own w' 5 v' (l.map bv) ∧ Fresh w.heap.size v' ∧ Ext w w' ∧ w.heap.size < w'.heap.size := by
  have h0 := h
  obtain ⟨A, c, rfl, h2, h3, h4, h5⟩ := h.open_
  go_enter Tryz.func49, Tryz.ntmps49
  go_wp2_with (first
    | ((with_reducible show wpList _ _ _ (⟨some 6, _, _, _, _, _⟩ :: _) _ _); refine wp_make tyB l.length rfl (.tmp 5) (.tmp 5) rfl rfl rfl (by omega) ?_; intro w1 hown1 hext1 hlt1)
    | ((with_reducible show wpList _ _ _ (⟨some 9, _, _, _, _, _⟩ :: _) _ _); refine wp_copy tyB hown1 (h0.ext hext1) (bv_one l) rfl (.tmp 7) (.tmp 8) rfl rfl rfl ?_; intro w2 hown2 hmod2))
  go_ret
  refine ⟨_, rfl, ?_, fun k hk => by have : w.heap.size = k := Option.some.inj hk; omega, hext1.trans hmod2 (fun _ _ h => h) (fun k hk h => ?_), Nat.lt_of_lt_of_le hlt1 hmod2.size⟩
  · simpa [show List.take l.length (l.map bv) = l.map bv from List.take_of_length_le (by simp)] using hown2
  · injection h with h; have : w.heap.size = k := h; omega

set_option maxHeartbeats 1000000 in
theorem tag_any {w : World} {S : Nat → Prop} {y : Value} {L : List (List UInt8)} (t : UInt8) (hy : Rw w S y L) (hl : L.flatten.length ≤ 65536) :
    Calls Tryz.prog 18 #[.int .u8 t.toNat, y] w fun e w' => ∃ v', e = .returned v' ∧ Own w' 5 v' ((t :: lay L.flatten.length ++ L.flatten).map bv) ∧ Fresh w.heap.size v' ∧ Ext w w' := by
  obtain ⟨A, c, vs, rfl, h1, h2, h3, h4, h5, h6⟩ := hy.open_
  go_enter Tryz.func18, Tryz.ntmps18
  go_wp2_with fail
  go_loop [5, 13] (fun n i => ∃ k : Nat, k ≤ L.length ∧ i = .int .i64 k ∧ n = .int .i64 (flen L k : Nat)) (fun _ i => L.length - (intOf i).toNat)
  case atStart => exact ⟨0, Nat.zero_le _, rfl, by simp [flen]⟩
  case round =>
    obtain ⟨k, hk, rfl, rfl⟩ := hrel
    by_cases hlt : k < L.length
    · obtain ⟨ad, x, rfl, hs, hc, hbs⟩ := row_at h4 h5 h6 hlt
      obtain ⟨A2, c2, rfl, k1, k2, k3, k4⟩ := hbs.open_
      have hsn := flen_snoc L k hlt
      have hle := flen_le L k
      have hle1 := flen_le L (k + 1)
      rw [hsn] at hle1
      replace hsn := Lib.hid hsn
      obtain ⟨tot, htot⟩ : ∃ t, t = L.flatten.length := ⟨_, rfl⟩
      rw [← htot] at hl hle hle1
      replace htot := Lib.hid htot
      go_wp2
      exact ⟨⟨k + 1, by omega, by go_num, by rw [hsn.out]; go_num⟩, by simp [intOf] <;> omega⟩
    · have hfl : flen L k = L.flatten.length := flen_all L k (by omega)
      rw [hfl]
      clear hfl
      obtain ⟨n, hn⟩ : ∃ n, n = L.flatten.length := ⟨_, rfl⟩
      rw [← hn]
      rw [← hn] at hl
      replace hn := Lib.hid hn
      go_wp2_with fail
      have hown1 : Own (w.alloc (.cells #[.int .u8 (t.toNat : Int)] 5)) 5 (.slice (some ⟨w.heap.size, 0, none⟩) 1 1) ([t].map bv) := Own.lit w 5 [bv t] (by simp [maxLen])
      have hf1 : Fresh w.heap.size (.slice (some ⟨w.heap.size, 0, none⟩) 1 1) := fun k hk => by have : w.heap.size = k := Option.some.inj hk; omega
      have hx1 : Ext w (w.alloc (.cells #[.int .u8 (t.toNat : Int)] 5)) := (Mod.refl _ w).alloc _
      refine (laylen_any hown1 (by omega) (by simp)).mono ?_
      rintro e w2 ⟨v2, rfl, k1, k2, k3⟩
      have hx2 : Ext w w2 := ext_app0 hx1 hf1 k3
      have hf2 : Fresh w.heap.size v2 := k2.fresh hf1 hx1.size
      have hll := lay_len n
      rw [show [t] ++ lay n = t :: lay n from rfl] at k1
      obtain ⟨ly, hly⟩ : ∃ ly, ly = lay n := ⟨_, rfl⟩
      rw [← hly] at hll k1
      replace hly := Lib.hid hly
      clear k2 k3 hx1 hown1 hf1
      obtain ⟨A2, c2, rfl⟩ := k1.shape
      go_wp2_with fail
      go_loopw [8, 28] (fun v i wr => ∃ k : Nat, k ≤ L.length ∧ i = .int .i64 k ∧ Own wr 5 v ((t :: ly ++ (L.take k).flatten).map bv) ∧ Fresh w.heap.size v ∧ Ext w wr) (fun _ i _ => L.length - (intOf i).toNat)
      case atStart => exact ⟨0, Nat.zero_le _, rfl, by simpa using k1, by simpa using hf2, hx2⟩
      case round =>
        clear hlt k1 hf2 hx2
        obtain ⟨k, hk, rfl, hown, hf, hm⟩ := hrel
        by_cases hlt : k < L.length
        · obtain ⟨ad, x, rfl, hs, hc, hbs⟩ := row_at h4 (h5.mod hm (fun _ _ _ h => h)) (fun k x l hx hl => (h6 k x l hx hl).ext hm) hlt
          have hsn := Lib.hid (flat_snoc L k hlt)
          have hle1 := flatR_take L (k + 1)
          rw [hsn.out, List.length_append, ← hn.out] at hle1
          have hln : (((t :: ly ++ (L.take k).flatten).map bv).length + (L[k].map bv).length) * 1 ≤ 140737488355328 := by
            rw [List.length_map, List.length_append, List.length_cons, List.length_map]; omega
          replace hle1 := Lib.hid hle1
          replace hln := Lib.hid hln
          go_wp2_with ((with_reducible show wpList _ _ _ (⟨some 34, _, _, _, _, _⟩ :: _) _ _); refine wp_app tyB hown hbs (bv_one _) rfl (.tmp 32) (.tmp 33) rfl rfl rfl hln.out ?_; intro v2 w2 hown2 hmod2 hnx2)
          exact ⟨⟨k + 1, by omega, by go_num, by rw [hsn.out, ← List.append_assoc, List.map_append]; exact hown2, hnx2.fresh hf hm.size, ext_app0 hm hf hmod2⟩, by simp [intOf] <;> omega⟩
        · rw [List.take_of_length_le (by omega)] at hown
          go_wp2_with fail
          go_ret
          exact ⟨_, rfl, by rw [← hn.out, ← hly.out]; exact hown, hf, hm⟩
end Go.Proofs.YtoockogceobfgaaGreat
namespace Go.Proofs.YtoockogceobfgaaGreat
open Go.RowKit
set_option maxRecDepth 100000

theorem i64_or_byte (m : Int) (c : Nat) (hc : c < 256) : bits .or .i64 (IntKind.i64.wrap (m * 256)) (c : Int) = IntKind.i64.wrap (m * 256 + c) := by
  show IntKind.i64.wrap (((BitVec.ofInt 64 (IntKind.i64.wrap (m * 256)) ||| BitVec.ofInt 64 (c : Int)).toNat : Nat) : Int) = _
  have h1 : (BitVec.ofInt 64 (IntKind.i64.wrap (m * 256))).toNat = 2 ^ 8 * (m % 72057594037927936).toNat := by
    rw [BitVec.toNat_ofInt, IntKind.wrap_i64]
    have : 0 ≤ m % 72057594037927936 := Int.emod_nonneg _ (by omega)
    omega
  have h2 : (BitVec.ofInt 64 (c : Int)).toNat = c := by
    rw [BitVec.toNat_ofInt]; omega
  rw [BitVec.toNat_or, h1, h2, ← Nat.two_pow_add_eq_or_of_lt (by omega), IntKind.wrap_i64, IntKind.wrap_i64]
  have : 0 ≤ m % 72057594037927936 := Int.emod_nonneg _ (by omega)
  have h3 : ((2 ^ 8 * (m % 72057594037927936).toNat + c : Nat) : Int) = 256 * (m % 72057594037927936) + c := by
    rw [Int.natCast_add, Int.natCast_mul, Int.toNat_of_nonneg this]; rfl
  rw [h3]
  omega
theorem i64_or_small (m c : Nat) (hm : m < 36028797018963968) (hc : c < 256) : bits .or .i64 ((m : Int) * 256) (c : Int) = ((m * 256 + c : Nat) : Int) := by
  have h := i64_or_byte m c hc
  rw [IntKind.wrap_i64, IntKind.wrap_i64] at h
  have e1 : ((m : Int) * 256 + 9223372036854775808) % 18446744073709551616 - 9223372036854775808 = (m : Int) * 256 := by omega
  rw [e1] at h
  rw [h]; omega

def bfin (at_ n len : Nat) : Nat × Nat × Nat := if 65536 < n then (0, 0, 5) else if len - at_ < n then (0, 0, 2) else (at_, at_ + n, 0)
/-- Where the first one's body begins and ends. -/
def blook (l : List UInt8) : Nat × Nat × Nat :=
  if l.length = 0 then (0, 0, 2)
  else if l.getD 0 0 &&& 31 = 31 then (0, 0, 3)
  else if l.length = 1 then (0, 0, 2)
  else if (l.getD 1 0).toNat < 128 then bfin 2 (l.getD 1 0).toNat l.length
  else if (l.getD 1 0).toNat - 128 = 0 ∨ 4 < (l.getD 1 0).toNat - 128 then (0, 0, 3)
  else if l.length < 2 + ((l.getD 1 0).toNat - 128) then (0, 0, 2)
  else bfin (2 + ((l.getD 1 0).toNat - 128)) (uval ((l.drop 2).take ((l.getD 1 0).toNat - 128))) l.length

set_option maxHeartbeats 1000000 in
theorem blook_any {w : World} {S : Nat → Prop} {v : Value} {l : List UInt8} (h : Bs w S v l) (hl : l.length ≤ 140737488355328) :
    Calls Tryz.prog 48 #[v] w fun e w' => e = .returned (.tuple #[.int .i64 ((blook l).1 : Nat), .int .i64 ((blook l).2.1 : Nat), .int .i64 ((blook l).2.2 : Nat)]) ∧ w' = w := by
  obtain ⟨o, ho⟩ : ∃ o, o = blook l := ⟨_, rfl⟩
  rw [← ho]
  unfold blook at ho
  have h0 := h
  obtain ⟨A, c, rfl, h1, h2, h3, h4⟩ := h.open_
  by_cases e0 : l.length = 0
  · rw [if_pos e0] at ho
    subst ho
    have hb : ((l.length : Int) == 0) = true := by rw [e0]; rfl
    go_enter Tryz.func48, Tryz.ntmps48
    go_wp2_with fail
    go_ret3
    exact ⟨rfl, rfl⟩
  rw [if_neg e0] at ho
  have hb0 : ((l.length : Int) == 0) = false := by rw [beq_eq_false_iff_ne]; omega
  obtain ⟨ad, hA, hB, hc0⟩ := h4.byte (k := 0) (by omega)
  subst hA
  rw [show ad.add 0 = ad by simp [Addr.add]] at hc0
  have hg0 : l.getD 0 0 = l[0] := by rw [List.getD_eq_getElem?_getD, List.getElem?_eq_getElem (by omega)]; rfl
  rw [hg0] at ho
  have hand : bits .and .u8 (l[0].toNat : Int) 31 = ((l[0] &&& 31).toNat : Int) := u8_and_nat l[0].toNat 31 l[0].toNat_lt (by omega)
  by_cases e1 : l[0] &&& 31 = 31
  · rw [if_pos e1] at ho
    subst ho
    have hb1 : ((((l[0] &&& 31).toNat : Nat) : Int) == 31) = true := by rw [e1]; rfl
    go_enter Tryz.func48, Tryz.ntmps48
    go_wp2_with fail
    go_ret3
    exact ⟨rfl, rfl⟩
  rw [if_neg e1] at ho
  have hb1 : ((((l[0] &&& 31).toNat : Nat) : Int) == 31) = false := by
    rw [beq_eq_false_iff_ne]; intro h; exact e1 (UInt8.toNat_inj.1 (by have : (31 : UInt8).toNat = 31 := rfl; omega))
  generalize (((l[0] &&& 31).toNat : Nat) : Int) = zz at *
  have hp := l[0].toNat_lt
  clear hg0 e1
  generalize l[0].toNat = p0 at *
  by_cases e2 : l.length = 1
  · rw [if_pos e2] at ho
    subst ho
    have hb2 : ((l.length : Int) == 1) = true := by rw [e2]; rfl
    go_enter Tryz.func48, Tryz.ntmps48
    go_wp2_with fail
    go_ret3
    exact ⟨rfl, rfl⟩
  rw [if_neg e2] at ho
  have hb2 : ((l.length : Int) == 1) = false := by rw [beq_eq_false_iff_ne]; omega
  obtain ⟨ad', hA', hB', hc1⟩ := h4.byte (k := 1) (by omega)
  injection hA' with hA'
  subst hA'
  rw [show ad.add 1 = ⟨ad.block, ad.off + 1, none⟩ by simp [Addr.add]] at hc1
  have hg1 : (l.getD 1 0).toNat = l[1].toNat := by rw [List.getD_eq_getElem?_getD, List.getElem?_eq_getElem (by omega)]; rfl
  rw [hg1] at ho
  have hq := l[1].toNat_lt
  generalize l[1].toNat = q at *
  have hi0 : 0 < l.length := by omega
  have hi1 : 1 < (l.length : Int) := by omega
  clear hg1 e0 e2
  by_cases e3 : q < 128
  · rw [if_pos e3] at ho
    unfold bfin at ho
    rw [if_neg (by omega)] at ho
    by_cases e4 : l.length - 2 < q
    · rw [if_pos e4] at ho
      subst ho
      go_enter Tryz.func48, Tryz.ntmps48
      go_wp2_with fail
      go_ret3
      exact ⟨rfl, rfl⟩
    · rw [if_neg e4] at ho
      subst ho
      go_enter Tryz.func48, Tryz.ntmps48
      go_wp2_with fail
      go_ret3
      exact ⟨rfl, rfl⟩
  rw [if_neg e3] at ho
  obtain ⟨k, hk⟩ : ∃ k, k = q - 128 := ⟨_, rfl⟩
  rw [← hk] at ho
  by_cases e4 : k = 0 ∨ 4 < k
  · rw [if_pos e4] at ho
    subst ho
    have hb3 : ((q : Int) - 128 == 0) = decide (k = 0) := by rw [Bool.eq_iff_iff]; simp only [beq_iff_eq, decide_eq_true_eq]; omega
    have hb4 : decide ((4 : Int) < (q : Int) - 128) = decide (4 < k) := by rw [Bool.eq_iff_iff]; simp only [decide_eq_true_eq]; omega
    rcases e4 with e4 | e4
    · rw [decide_eq_true e4] at hb3
      go_enter Tryz.func48, Tryz.ntmps48
      go_wp2_with fail
      go_ret3
      exact ⟨rfl, rfl⟩
    · rw [decide_eq_true e4] at hb4
      rw [decide_eq_false (by omega)] at hb3
      go_enter Tryz.func48, Tryz.ntmps48
      go_wp2_with fail
      go_ret3
      exact ⟨rfl, rfl⟩
  rw [if_neg e4] at ho
  have hk4 : k ≤ 4 := by omega
  have hk1 : 1 ≤ k := by omega
  have hb4 : (q : Int) - 128 = (k : Int) := by omega
  have hq1 : 128 ≤ (q : Int) := by omega
  have hb3 : ((k : Int) == 0) = false := by rw [beq_eq_false_iff_ne]; omega
  clear hk e3 e4
  by_cases e5 : l.length < 2 + k
  · rw [if_pos e5] at ho
    subst ho
    have hb5 : decide ((l.length : Int) < 2 + (k : Int)) = true := by rw [decide_eq_true_eq]; omega
    go_enter Tryz.func48, Tryz.ntmps48
    go_wp2_with fail
    go_ret3
    exact ⟨rfl, rfl⟩
  rw [if_neg e5] at ho
  go_enter Tryz.func48, Tryz.ntmps48
  go_wp2_with fail
  obtain ⟨ds, hds⟩ : ∃ ds, ds = (l.drop 2).take k := ⟨_, rfl⟩
  have hdl : ds.length = k := by rw [hds, List.length_take, List.length_drop]; omega
  have hcell : ∀ j, (hj : j < k) → w.cell? ⟨ad.block, ad.off + 2 + j, none⟩ = some (.int .u8 ((ds[j]'(by omega)).toNat : Int)) := fun j hj => by
    obtain ⟨ad9, hA9, hB9, hc9⟩ := h4.byte (k := 2 + j) (by omega)
    injection hA9 with hA9
    subst hA9
    rw [show (⟨ad.block, ad.off + 2 + j, none⟩ : Addr) = ad.add (2 + j) by simp [Addr.add, Nat.add_assoc], hc9]
    congr 3
    simp [hds]
  rw [← hds] at ho
  replace hds := Lib.hid hds
  go_loop [5, 47] (fun n i => ∃ j : Nat, j ≤ k ∧ i = .int .i64 j ∧ n = .int .i64 (uval (ds.take j) : Nat)) (fun _ i => k - (intOf i).toNat)
  case atStart => exact ⟨0, Nat.zero_le _, rfl, by simp [uval]⟩
  case round =>
    obtain ⟨j, hj, rfl, rfl⟩ := hrel
    by_cases hlt : j < k
    · have hc9 := hcell j hlt
      have hsn : uval (ds.take (j + 1)) = uval (ds.take j) * 256 + ds[j].toNat := by
        rw [List.take_succ_eq_append_getElem (by omega), uval_snoc]
      have hlt2 : uval (ds.take j) < 16777216 := by
        have := uval_lt (ds.take j)
        have h9 : 2 ^ (8 * (ds.take j).length) ≤ 2 ^ (8 * 3) := Nat.pow_le_pow_right (by omega) (by rw [List.length_take]; omega)
        have h10 : (2 : Nat) ^ (8 * 3) = 16777216 := rfl
        omega
      have hb := ds[j].toNat_lt
      replace hsn := Lib.hid hsn
      generalize ds[j].toNat = b at *
      generalize uval (ds.take j) = u at *
      have hor := i64_or_small u b (by omega) (by omega)
      clear hcell hdl
      go_wp2_with fail
      exact ⟨⟨j + 1, by omega, by go_num, by rw [hsn.out]; go_num⟩, by simp [intOf] <;> omega⟩
    · rw [List.take_of_length_le (by omega)]
      have hul := uval_lt ds
      have h9 : 2 ^ (8 * ds.length) ≤ 2 ^ (8 * 4) := Nat.pow_le_pow_right (by omega) (by omega)
      have h10 : (2 : Nat) ^ (8 * 4) = 4294967296 := rfl
      have hu : uval ds < 4294967296 := by omega
      clear hul h9 h10 hcell
      generalize uval ds = u at *
      unfold bfin at ho
      by_cases e6 : 65536 < u
      · rw [if_pos e6] at ho
        subst ho
        go_wp2_with fail
        go_ret3
        exact ⟨rfl, rfl⟩
      rw [if_neg e6] at ho
      by_cases e7 : l.length - (2 + k) < u
      · rw [if_pos e7] at ho
        subst ho
        have hb7 : decide ((l.length : Int) - (2 + (k : Int)) < (u : Int)) = true := by rw [decide_eq_true_eq]; omega
        go_wp2_with fail
        go_ret3
        exact ⟨rfl, rfl⟩
      · rw [if_neg e7] at ho
        subst ho
        have hb7 : decide ((l.length : Int) - (2 + (k : Int)) < (u : Int)) = false := by rw [decide_eq_false_iff_not]; omega
        go_wp2_with fail
        go_ret3
        exact ⟨by simp only []; rfl, rfl⟩
end Go.Proofs.YtoockogceobfgaaGreat
namespace Go.Proofs.YtoockogceobfgaaGreat
open Go.RowKit
set_option maxRecDepth 100000

theorem results_tmp4 {fn : Func} {t u v x : Tmp} (h : fn.results = #[.tmp t, .tmp u, .tmp v, .tmp x]) (tmps : Array Value) (P : Program) (w : World) :
    (results fn tmps).run P w = .ok (.tuple #[tmps.getD t undef, tmps.getD u undef, tmps.getD v undef, tmps.getD x undef]) w := by
  simp [results, h]
theorem bfin_ok {a n len : Nat} (h : (bfin a n len).2.2 = 0) (ha : a ≤ len) : (bfin a n len).1 = a ∧ (bfin a n len).2.1 = a + n ∧ a + n ≤ len ∧ n ≤ 65536 := by
  unfold bfin at h ⊢
  by_cases h1 : 65536 < n
  · rw [if_pos h1] at h; cases h
  rw [if_neg h1] at h ⊢
  by_cases h2 : len - a < n
  · rw [if_pos h2] at h; cases h
  rw [if_neg h2]
  exact ⟨rfl, rfl, by omega, by omega⟩
theorem blook_ok {l : List UInt8} (h : (blook l).2.2 = 0) : 2 ≤ (blook l).1 ∧ (blook l).1 ≤ (blook l).2.1 ∧ (blook l).2.1 ≤ l.length := by
  unfold blook at h ⊢
  split at h
  · cases h
  rw [if_neg (by assumption)]
  split at h
  · cases h
  rw [if_neg (by assumption)]
  split at h
  · cases h
  rw [if_neg (by assumption)]
  split at h
  · rw [if_pos (by assumption)]
    have := bfin_ok h (by omega)
    omega
  rw [if_neg (by assumption)]
  split at h
  · cases h
  rw [if_neg (by assumption)]
  split at h
  · cases h
  rw [if_neg (by assumption)]
  have := bfin_ok h (by omega)
  omega
/-- The first one, and what stands behind. -/
def bnext (l : List UInt8) : UInt8 × List UInt8 × List UInt8 × Nat :=
  if (blook l).2.2 = 0 then (l.getD 0 0, (l.drop (blook l).1).take ((blook l).2.1 - (blook l).1), l.drop (blook l).2.1, 0) else (0, [], [], (blook l).2.2)

set_option maxHeartbeats 1000000 in
theorem bnext_any {w : World} {S : Nat → Prop} {v : Value} {l : List UInt8} (h : Bs w S v l) (hl : l.length ≤ 140737488355328) :
    Calls Tryz.prog 17 #[v] w fun e w' => ∃ v1 v2, e = .returned (.tuple #[.int .u8 (bnext l).1.toNat, v1, v2, .int .i64 ((bnext l).2.2.2 : Nat)]) ∧ Own w' 5 v1 ((bnext l).2.1.map bv) ∧ Own w' 5 v2 ((bnext l).2.2.1.map bv) ∧ Fresh w.heap.size v1 ∧ Fresh w.heap.size v2 ∧ Ext w w' := by
  have hok := @blook_ok l
  have h0 := h
  obtain ⟨A, c, rfl, h1, h2, h3, h4⟩ := h.open_
  obtain ⟨o, ho⟩ : ∃ o, o = bnext l := ⟨_, rfl⟩
  rw [← ho]
  unfold bnext at ho
  replace ho := Lib.hid ho
  go_enter Tryz.func17, Tryz.ntmps17
  go_wp2_with fail
  refine (blook_any h0 hl).mono ?_
  rintro e w1 ⟨rfl, rfl⟩
  replace ho := ho.out
  generalize blook l = d at *
  obtain ⟨m, n, er⟩ := d
  simp only at hok ho ⊢
  by_cases hd : er = 0
  · subst hd
    obtain ⟨a1, a2, a3⟩ := hok rfl
    clear hok
    rw [if_pos rfl] at ho
    obtain ⟨ad, hA, hB, hc0⟩ := h4.byte (k := 0) (by omega)
    subst hA
    rw [show ad.add 0 = ad by simp [Addr.add]] at hc0
    rw [show l.getD 0 0 = l[0] by rw [List.getD_eq_getElem?_getD, List.getElem?_eq_getElem (by omega)]; rfl] at ho
    have hi0 : 0 < l.length := by omega
    generalize l[0] = b0 at *
    replace ho := Lib.hid ho
    have x1 : (0 : Int) ≤ (m : Int) := by omega
    have x2 : (m : Int) ≤ (n : Int) := by omega
    have x3 : (n : Int) ≤ (l.length : Int) := by omega
    have x4 : (n : Int) ≤ (c : Int) := by omega
    have x5 : (0 : Int) ≤ (n : Int) := by omega
    have x6 : (l.length : Int) ≤ (c : Int) := by omega
    have hx : ∀ wx, Ext w1.drew wx → wx.cell? ad = some (.int .u8 (b0.toNat : Int)) := fun wx hx => (hx.cell (lt_of_cell (w := w1) hc0) (fun h => h)).trans hc0
    have hl1 : ((l.drop m).take (n - m)).length ≤ 281474976710656 := by simp only [List.length_take, List.length_drop]; omega
    have hl2 : (l.drop n).length ≤ 281474976710656 := by simp only [List.length_drop]; omega
    have hbd : Bs w1.drew S (.slice (some ad) l.length c) l := h0
    have three : (n = c ∧ m = c ∧ Bs w1.drew S (.slice (some ad) (n - m) 0) ((l.drop m).take (n - m)) ∧ Bs w1.drew S (.slice (some ad) (l.length - n) 0) (l.drop n)) ∨ (n = c ∧ ¬ c = m ∧ Bs w1.drew S (.slice (some (ad.add m)) (n - m) (c - m)) ((l.drop m).take (n - m)) ∧ Bs w1.drew S (.slice (some ad) (l.length - n) 0) (l.drop n)) ∨ (¬ c = n ∧ ¬ c = m ∧ Bs w1.drew S (.slice (some (ad.add m)) (n - m) (c - m)) ((l.drop m).take (n - m)) ∧ Bs w1.drew S (.slice (some (ad.add n)) (l.length - n) (c - n)) (l.drop n)) := by
      have t1 : ¬ c = m → Bs w1.drew S (.slice (some (ad.add m)) (n - m) (c - m)) ((l.drop m).take (n - m)) := fun _ => by
        have := hbd.rest (m := m) (by omega)
        rw [show l.length - m = (l.drop m).length by simp] at this
        exact this.begin (m := n - m) (by simp; omega)
      have t2 : n = c → Bs w1.drew S (.slice (some ad) (l.length - n) 0) (l.drop n) := fun h => hbd.rest0 (m := n) (by omega) h.symm
      by_cases hcm : c = m
      · refine .inl ⟨by omega, hcm.symm, ?_, t2 (by omega)⟩
        have := hbd.rest0 (m := m) (by omega) hcm
        rw [show l.length - m = (l.drop m).length by simp] at this
        exact this.begin (m := n - m) (by simp; omega)
      · by_cases hcn : n = c
        · exact .inr (.inl ⟨hcn, hcm, t1 hcm, t2 hcn⟩)
        · exact .inr (.inr ⟨fun h => hcn h.symm, hcm, t1 hcm, hbd.rest (m := n) (by omega)⟩)
    clear h h0 h4 h3 hbd hl
    generalize (l.drop m).take (n - m) = bd at *
    generalize l.drop n = rs at *
    rcases three with ⟨hcn, hcm, hb1, hb2⟩ | ⟨hcn, hcm, hb1, hb2⟩ | ⟨hcn, hcm, hb1, hb2⟩
    · subst hcn
      subst hcm
      rw [Nat.sub_self] at hb1
      rw [show l.length - m = 0 by omega] at hb2
      have e1 : bd = [] := List.eq_nil_of_length_eq_zero (by obtain ⟨_, _, h, _⟩ := hb1.open_; injection h with _ h; exact h.symm)
      have e2 : rs = [] := List.eq_nil_of_length_eq_zero (by obtain ⟨_, _, h, _⟩ := hb2.open_; injection h with _ h; exact h.symm)
      subst e1
      subst e2
      go_upto_region 4 with fail
      go_cut [2, 3, 4, 5] (fun s2 s3 s4 s5 wx => s2 = .int .u8 (b0.toNat : Int) ∧ s5 = .int .i64 0 ∧ Own wx 5 s3 (([] : List UInt8).map bv) ∧ Own wx 5 s4 (([] : List UInt8).map bv) ∧ Fresh w1.heap.size s3 ∧ Fresh w1.heap.size s4 ∧ Ext w1 wx)
      case first =>
        go_region_held3 (fun w' => w'.cell? ad = some (.int .u8 (b0.toNat : Int))) (first | exact hc0 | exact hx _ p3 | exact hx _ q3 | exact hx _ (ext_trans p3 q3) | exact hx _ (ext_trans q3 p3))
          ((go_at_call 49; first
            | (with_reducible show Calls _ _ #[.slice (some ad) _ _] w1.drew _; refine (bown_any hb1 hl1).mono ?_; rintro e w2 ⟨v1, rfl, p1, p2, p3, p4⟩)
            | (with_reducible show Calls _ _ #[.slice (some ad) _ _] _ _; refine (bown_any (hb2.ext p3) hl2).mono ?_; rintro e w3 ⟨v2, rfl, q1, q2, q3, q4⟩; replace q2 := q2.mono p3.size; replace p1 := p1.mod q3 (fun _ _ h => h))))
        all_goals go_wp2_with fail
        all_goals go_meet
        all_goals first
          | exact ⟨rfl, rfl, p1, q1, p2, q2, ((Mod.refl _ w1).drew).trans (ext_trans p3 q3) (fun _ _ h => h) (fun _ _ h => h)⟩
          | exact ⟨rfl, rfl, q1, p1, q2, p2, ((Mod.refl _ w1).drew).trans (ext_trans p3 q3) (fun _ _ h => h) (fun _ _ h => h)⟩
          | exact ⟨rfl, rfl, p1, q1, p2, q2, ((Mod.refl _ w1).drew).trans (ext_trans q3 p3) (fun _ _ h => h) (fun _ _ h => h)⟩
      case rest =>
        obtain ⟨rfl, rfl, r1, r2, r3, r4, r5⟩ := hcut
        go_wp2_with fail
        (try simp only [Exit.inBlock, Exit.then]); refine bodyPost_ret (results_tmp4 rfl _ _ _) rfl ?_
        rw [ho.out]
        exact ⟨_, _, rfl, r1, r2, r3, r4, r5⟩
    · subst hcn
      rw [show l.length - n = 0 by omega] at hb2
      go_upto_region 4 with fail
      go_cut [2, 3, 4, 5] (fun s2 s3 s4 s5 wx => s2 = .int .u8 (b0.toNat : Int) ∧ s5 = .int .i64 0 ∧ Own wx 5 s3 (bd.map bv) ∧ Own wx 5 s4 (rs.map bv) ∧ Fresh w1.heap.size s3 ∧ Fresh w1.heap.size s4 ∧ Ext w1 wx)
      case first =>
        go_region_held3 (fun w' => w'.cell? ad = some (.int .u8 (b0.toNat : Int))) (first | exact hc0 | exact hx _ p3 | exact hx _ q3 | exact hx _ (ext_trans p3 q3) | exact hx _ (ext_trans q3 p3))
          ((go_at_call 49; first
            | (with_reducible show Calls _ _ #[.slice (some (ad.add m)) _ _] w1.drew _; refine (bown_any hb1 hl1).mono ?_; rintro e w2 ⟨v1, rfl, p1, p2, p3, p4⟩)
            | (with_reducible show Calls _ _ #[.slice (some (ad.add m)) _ _] _ _; refine (bown_any (hb1.ext q3) hl1).mono ?_; rintro e w3 ⟨v1, rfl, p1, p2, p3, p4⟩; replace p2 := p2.mono q3.size; replace q1 := q1.mod p3 (fun _ _ h => h))
            | (with_reducible show Calls _ _ #[.slice (some ad) _ _] w1.drew _; refine (bown_any hb2 hl2).mono ?_; rintro e w2 ⟨v2, rfl, q1, q2, q3, q4⟩)
            | (with_reducible show Calls _ _ #[.slice (some ad) _ _] _ _; refine (bown_any (hb2.ext p3) hl2).mono ?_; rintro e w3 ⟨v2, rfl, q1, q2, q3, q4⟩; replace q2 := q2.mono p3.size; replace p1 := p1.mod q3 (fun _ _ h => h))))
        all_goals go_wp2_with fail
        all_goals go_meet
        all_goals first
          | exact ⟨rfl, rfl, p1, q1, p2, q2, ((Mod.refl _ w1).drew).trans (ext_trans p3 q3) (fun _ _ h => h) (fun _ _ h => h)⟩
          | exact ⟨rfl, rfl, q1, p1, q2, p2, ((Mod.refl _ w1).drew).trans (ext_trans p3 q3) (fun _ _ h => h) (fun _ _ h => h)⟩
          | exact ⟨rfl, rfl, p1, q1, p2, q2, ((Mod.refl _ w1).drew).trans (ext_trans q3 p3) (fun _ _ h => h) (fun _ _ h => h)⟩
      case rest =>
        obtain ⟨rfl, rfl, r1, r2, r3, r4, r5⟩ := hcut
        go_wp2_with fail
        (try simp only [Exit.inBlock, Exit.then]); refine bodyPost_ret (results_tmp4 rfl _ _ _) rfl ?_
        rw [ho.out]
        exact ⟨_, _, rfl, r1, r2, r3, r4, r5⟩
    · skip
      go_upto_region 4 with fail
      go_cut [2, 3, 4, 5] (fun s2 s3 s4 s5 wx => s2 = .int .u8 (b0.toNat : Int) ∧ s5 = .int .i64 0 ∧ Own wx 5 s3 (bd.map bv) ∧ Own wx 5 s4 (rs.map bv) ∧ Fresh w1.heap.size s3 ∧ Fresh w1.heap.size s4 ∧ Ext w1 wx)
      case first =>
        go_region_held3 (fun w' => w'.cell? ad = some (.int .u8 (b0.toNat : Int))) (first | exact hc0 | exact hx _ p3 | exact hx _ q3 | exact hx _ (ext_trans p3 q3) | exact hx _ (ext_trans q3 p3))
          ((go_at_call 49; first
            | (with_reducible show Calls _ _ #[.slice (some (ad.add m)) _ _] w1.drew _; refine (bown_any hb1 hl1).mono ?_; rintro e w2 ⟨v1, rfl, p1, p2, p3, p4⟩)
            | (with_reducible show Calls _ _ #[.slice (some (ad.add m)) _ _] _ _; refine (bown_any (hb1.ext q3) hl1).mono ?_; rintro e w3 ⟨v1, rfl, p1, p2, p3, p4⟩; replace p2 := p2.mono q3.size; replace q1 := q1.mod p3 (fun _ _ h => h))
            | (with_reducible show Calls _ _ #[.slice (some (ad.add n)) _ _] w1.drew _; refine (bown_any hb2 hl2).mono ?_; rintro e w2 ⟨v2, rfl, q1, q2, q3, q4⟩)
            | (with_reducible show Calls _ _ #[.slice (some (ad.add n)) _ _] _ _; refine (bown_any (hb2.ext p3) hl2).mono ?_; rintro e w3 ⟨v2, rfl, q1, q2, q3, q4⟩; replace q2 := q2.mono p3.size; replace p1 := p1.mod q3 (fun _ _ h => h))))
        all_goals go_wp2_with fail
        all_goals go_meet
        all_goals first
          | exact ⟨rfl, rfl, p1, q1, p2, q2, ((Mod.refl _ w1).drew).trans (ext_trans p3 q3) (fun _ _ h => h) (fun _ _ h => h)⟩
          | exact ⟨rfl, rfl, q1, p1, q2, p2, ((Mod.refl _ w1).drew).trans (ext_trans p3 q3) (fun _ _ h => h) (fun _ _ h => h)⟩
          | exact ⟨rfl, rfl, p1, q1, p2, q2, ((Mod.refl _ w1).drew).trans (ext_trans q3 p3) (fun _ _ h => h) (fun _ _ h => h)⟩
      case rest =>
        obtain ⟨rfl, rfl, r1, r2, r3, r4, r5⟩ := hcut
        go_wp2_with fail
        (try simp only [Exit.inBlock, Exit.then]); refine bodyPost_ret (results_tmp4 rfl _ _ _) rfl ?_
        rw [ho.out]
        exact ⟨_, _, rfl, r1, r2, r3, r4, r5⟩
  · have hd1 : ((er : Int) != 0) = true := by rw [bne_iff_ne]; omega
    rw [if_neg hd] at ho
    subst ho
    go_wp2_with fail
    (try simp only [Exit.inBlock, Exit.then]); refine bodyPost_ret (results_tmp4 rfl _ _ _) rfl ?_
    exact ⟨_, _, rfl, Own.nil _ _, Own.nil _ _, fresh_nil _ _ _, fresh_nil _ _ _, Mod.refl _ _⟩
end Go.Proofs.YtoockogceobfgaaGreat
namespace Go.Proofs.YtoockogceobfgaaGreat
open Go.RowKit
set_option maxRecDepth 100000

/-- n fits in k bytes. -/
def FitsI (n : Int) (k : Nat) : Prop := n / 2 ^ (8 * k - 1) = n / 9223372036854775808
/-- k is how many bytes n takes. -/
def IsW (n : Int) (k : Nat) : Prop := 1 ≤ k ∧ k ≤ 8 ∧ FitsI n k ∧ (k = 1 ∨ ¬ FitsI n (k - 1))
theorem fits8 (n : Int) : FitsI n 8 := rfl

set_option maxHeartbeats 1000000 in
theorem int_any {w : World} (n : Int) (_h0 : -9223372036854775808 ≤ n) (_h1 : n ≤ 9223372036854775807) :
    Calls Tryz.prog 113 #[.int .i64 n] w fun e w' => ∃ k v', e = .returned v' ∧ IsW n k ∧ Own w' 5 v' ((bes n k).map bv) ∧ Fresh w.heap.size v' ∧ Ext w w' := by
  go_enter Tryz.func113, Tryz.ntmps113
  go_wp2_with fail
  go_loop [3] (fun i => ∃ k : Nat, k ≤ 8 ∧ 1 ≤ k ∧ i = .int .i64 k ∧ Hid (k = 1 ∨ ¬ FitsI n (k - 1))) (fun i => 8 - (intOf i).toNat)
  case atStart => exact ⟨1, by omega, by omega, rfl, Lib.hid (.inl rfl)⟩
  case round =>
    obtain ⟨k, hk, hk1, rfl, hlow⟩ := hrel
    by_cases h8 : k < 8
    · by_cases hf : FitsI n k
      · have hw : Hid (IsW n k) := Lib.hid ⟨hk1, hk, hf, hlow.out⟩
        have hb : (n / 2 ^ (8 * k - 1) != n / 9223372036854775808) = false := by rw [show n / 2 ^ (8 * k - 1) = n / 9223372036854775808 from hf]; simp
        clear hlow hf
        go_wp2_with ((with_reducible show wpList _ _ _ (⟨some 21, _, _, _, _, _⟩ :: _) _ _); refine wp_make0 tyB k rfl (.const (.int .i64 0)) (.tmp 20) rfl rfl rfl (by omega) ?_; intro w1 hown1 hext1 hlt1)
        have hf1 : Fresh w.heap.size (.slice (some ⟨w.heap.size, 0, none⟩) 0 k) := fun x hk => by have : w.heap.size = x := Option.some.inj hk; omega
        clear hlt1
        go_loopw [4, 5] (fun v i wr => ∃ (j : Nat) (pre : List UInt8), j ≤ k ∧ i = .int .i64 ((j : Int) - 1) ∧ Own wr 5 v (pre.map bv) ∧ Hid (pre.length + j = k) ∧ Hid (pre ++ bes n j = bes n k) ∧ Fresh w.heap.size v ∧ Ext w wr) (fun _ i _ => ((intOf i) + 1).toNat)
        case atStart => exact ⟨k, [], Nat.le_refl _, rfl, hown1, Lib.hid (by simp), Lib.hid rfl, hf1, hext1⟩
        case round =>
          clear hown1 hf1 hext1
          obtain ⟨j, pre, hj, rfl, p0, pl, pe, p1, p2⟩ := hrel
          rcases j with _ | j
          · rw [show (((0 : Nat) : Int) - 1) = -1 from rfl]
            go_wp2_with fail
            go_ret
            have he := pe.out
            rw [bes, List.append_nil] at he
            exact ⟨k, _, rfl, hw.out, by rw [← he]; exact p0, p1, p2⟩
          · rw [show (((j + 1 : Nat) : Int) - 1) = (j : Int) by omega]
            have hbt : bv (bt n j) = .int .u8 (n / 2 ^ (8 * j) % 256) := by
              show Value.int .u8 ((bt n j).toNat : Int) = _
              rw [bt_val]
            have hn1 := Lib.hid (room1 (u := bv (bt n j)) (show pre.length ≤ 100000000 by have := pl.out; omega))
            have hsl := Sl.one wr 5 (bv (bt n j))
            have hown := p0.alloc (.cells #[bv (bt n j)] 5)
            have ho := one_ok (bv (bt n j)) rfl
            rw [hbt] at hn1 hsl hown ho
            replace hbt := Lib.hid hbt
            obtain ⟨A2, c2, rfl⟩ := p0.shape
            rw [List.length_map] at hown p0 p1 ⊢
            go_wp2_with ((with_reducible show wpList _ _ _ (⟨some 35, _, _, _, _, _⟩ :: _) _ _); refine wp_app tyB hown hsl ho rfl (.tmp 28) (.tmp 34) rfl rfl rfl hn1.out ?_; intro v3 w3 k1 k2 k3)
            refine ⟨⟨j, pre ++ [bt n j], by omega, by go_num, ?_, Lib.hid (by have := pl.out; simp <;> omega), Lib.hid (by have := pe.out; rw [bes] at this; simpa using this), (k3.sooner (by simp)).fresh p1 p2.size, ?_⟩, by simp [intOf] <;> omega⟩
            · rw [← hbt.out] at k1
              simpa using k1
            · exact ext_app p2 p1 k2
      · have hb : (n / 2 ^ (8 * k - 1) != n / 9223372036854775808) = true := by rw [bne_iff_ne]; exact hf
        replace hf := Lib.hid hf
        go_wp2_with fail
        exact ⟨⟨k + 1, by omega, by omega, by go_num, Lib.hid (.inr hf.out)⟩, by simp [intOf] <;> omega⟩
    · obtain rfl : k = 8 := by omega
      have hw : Hid (IsW n 8) := Lib.hid ⟨hk1, hk, fits8 n, hlow.out⟩
      clear hlow
      go_wp2_with ((with_reducible show wpList _ _ _ (⟨some 21, _, _, _, _, _⟩ :: _) _ _); refine wp_make0 tyB 8 rfl (.const (.int .i64 0)) (.tmp 20) rfl rfl rfl (by omega) ?_; intro w1 hown1 hext1 hlt1)
      have hf1 : Fresh w.heap.size (.slice (some ⟨w.heap.size, 0, none⟩) 0 8) := fun x hk => by have : w.heap.size = x := Option.some.inj hk; omega
      clear hlt1
      go_loopw [4, 5] (fun v i wr => ∃ (j : Nat) (pre : List UInt8), j ≤ 8 ∧ i = .int .i64 ((j : Int) - 1) ∧ Own wr 5 v (pre.map bv) ∧ Hid (pre.length + j = 8) ∧ Hid (pre ++ bes n j = bes n 8) ∧ Fresh w.heap.size v ∧ Ext w wr) (fun _ i _ => ((intOf i) + 1).toNat)
      case atStart => exact ⟨8, [], Nat.le_refl _, rfl, hown1, Lib.hid (by simp), Lib.hid rfl, hf1, hext1⟩
      case round =>
        clear hown1 hf1 hext1
        obtain ⟨j, pre, hj, rfl, p0, pl, pe, p1, p2⟩ := hrel
        rcases j with _ | j
        · rw [show (((0 : Nat) : Int) - 1) = -1 from rfl]
          go_wp2_with fail
          go_ret
          have he := pe.out
          rw [bes, List.append_nil] at he
          exact ⟨8, _, rfl, hw.out, by rw [← he]; exact p0, p1, p2⟩
        · rw [show (((j + 1 : Nat) : Int) - 1) = (j : Int) by omega]
          have hbt : bv (bt n j) = .int .u8 (n / 2 ^ (8 * j) % 256) := by
            show Value.int .u8 ((bt n j).toNat : Int) = _
            rw [bt_val]
          have hn1 := Lib.hid (room1 (u := bv (bt n j)) (show pre.length ≤ 100000000 by have := pl.out; omega))
          have hsl := Sl.one wr 5 (bv (bt n j))
          have hown := p0.alloc (.cells #[bv (bt n j)] 5)
          have ho := one_ok (bv (bt n j)) rfl
          rw [hbt] at hn1 hsl hown ho
          replace hbt := Lib.hid hbt
          obtain ⟨A2, c2, rfl⟩ := p0.shape
          rw [List.length_map] at hown p0 p1 ⊢
          go_wp2_with ((with_reducible show wpList _ _ _ (⟨some 35, _, _, _, _, _⟩ :: _) _ _); refine wp_app tyB hown hsl ho rfl (.tmp 28) (.tmp 34) rfl rfl rfl hn1.out ?_; intro v3 w3 k1 k2 k3)
          refine ⟨⟨j, pre ++ [bt n j], by omega, by go_num, ?_, Lib.hid (by have := pl.out; simp <;> omega), Lib.hid (by have := pe.out; rw [bes] at this; simpa using this), (k3.sooner (by simp)).fresh p1 p2.size, ?_⟩, by simp [intOf] <;> omega⟩
          · rw [← hbt.out] at k1
            simpa using k1
          · exact ext_app p2 p1 k2
end Go.Proofs.YtoockogceobfgaaGreat
namespace Go.Proofs.YtoockogceobfgaaGreat
open Go.RowKit
set_option maxRecDepth 100000

theorem isw_129 {k : Nat} (h : IsW (-129) k) : k = 2 := by
  obtain ⟨h1, h2, h3, h4⟩ := h
  have e1 : ¬ FitsI (-129) 1 := by unfold FitsI; decide
  have e2 : FitsI (-129) 2 := by unfold FitsI; decide
  have e3 : FitsI (-129) 3 := by unfold FitsI; decide
  have e4 : FitsI (-129) 4 := by unfold FitsI; decide
  have e5 : FitsI (-129) 5 := by unfold FitsI; decide
  have e6 : FitsI (-129) 6 := by unfold FitsI; decide
  have e7 : FitsI (-129) 7 := by unfold FitsI; decide
  obtain rfl | rfl | rfl | rfl | rfl | rfl | rfl | rfl : k = 1 ∨ k = 2 ∨ k = 3 ∨ k = 4 ∨ k = 5 ∨ k = 6 ∨ k = 7 ∨ k = 8 := by omega
  · exact absurd h3 e1
  · rfl
  · exact absurd e2 (h4.resolve_left (by omega))
  · exact absurd e3 (h4.resolve_left (by omega))
  · exact absurd e4 (h4.resolve_left (by omega))
  · exact absurd e5 (h4.resolve_left (by omega))
  · exact absurd e6 (h4.resolve_left (by omega))
  · exact absurd e7 (h4.resolve_left (by omega))

theorem known_row24 (w : World) : Rw ((w.alloc (.cells #[.int .u8 97] 5 (1, 2))).alloc (.cells #[.slice (some ⟨w.heap.size, 0, none⟩) 1 1] 22)) (fun k => w.heap.size ≤ k) (.slice (some ⟨w.heap.size + 1, 0, none⟩) 1 1) [[97]] := by
  have hb : Bs (w.alloc (.cells #[.int .u8 97] 5 (1, 2))) (fun k => k = w.heap.size) (.slice (some ⟨w.heap.size, 0, none⟩) 1 1) [97] := Bs.text w 5 [97] (1, 2) (by simp [maxLen])
  have := Rw.one 22 hb
  rw [show (w.alloc (.cells #[.int .u8 97] 5 (1, 2))).heap.size = w.heap.size + 1 by simp] at this
  exact this.mono (fun k _ h => by rcases h with h | h <;> omega)

end Go.Proofs.YtoockogceobfgaaGreat
namespace Go.Proofs.YtoockogceobfgaaGreat
open Go.RowKit
set_option maxRecDepth 100000

theorem blook_two (t c : UInt8) (r : List UInt8) (ht : ¬ t &&& 31 = 31) : blook (t :: c :: r) = if c.toNat < 128 then bfin 2 c.toNat (r.length + 2) else if c.toNat - 128 = 0 ∨ 4 < c.toNat - 128 then (0, 0, 3) else if r.length < c.toNat - 128 then (0, 0, 2) else bfin (2 + (c.toNat - 128)) (uval (r.take (c.toNat - 128))) (r.length + 2) := by
  unfold blook
  rw [if_neg (by simp), if_neg (by simpa using ht), if_neg (by simp)]
  have e1 : (t :: c :: r).getD 1 0 = c := rfl
  have e2 : (t :: c :: r).length = r.length + 2 := rfl
  have e3 : (t :: c :: r).drop 2 = r := rfl
  rw [e1, e2, e3]
  by_cases h1 : c.toNat < 128
  · rw [if_pos h1, if_pos h1]
  rw [if_neg h1, if_neg h1]
  by_cases h2 : c.toNat - 128 = 0 ∨ 4 < c.toNat - 128
  · rw [if_pos h2, if_pos h2]
  rw [if_neg h2, if_neg h2]
  by_cases h3 : r.length < c.toNat - 128
  · rw [if_pos (by omega), if_pos h3]
  · rw [if_neg (by omega), if_neg h3]
/-- hd says a length of n. -/
def Hd (hd : List UInt8) (n : Nat) : Prop := (n < 128 ∧ hd = [UInt8.ofNat n]) ∨ ∃ k ks, 1 ≤ k ∧ k ≤ 4 ∧ ks.length = k ∧ uval ks = n ∧ hd = UInt8.ofNat (128 + k) :: ks
theorem lay_hd {n : Nat} (h : n < 16777216) : Hd (lay n) n := by
  unfold lay
  by_cases h1 : n < 128
  · rw [if_pos h1]; exact .inl ⟨h1, rfl⟩
  · rw [if_neg h1]
    have := lw_pos n
    exact .inr ⟨lw n, bes n (lw n), this.1, by omega, bes_len _ _, uval_nat n _ (lw_lt h), rfl⟩
theorem ofNat_val {n : Nat} (h : n < 256) : (UInt8.ofNat n).toNat = n := UInt8.toNat_ofNat_of_lt' h
theorem blook_hd {t : UInt8} {hd : List UInt8} {n : Nat} (ht : ¬ t &&& 31 = 31) (h : Hd hd n) (x : List UInt8) : blook (t :: hd ++ x) = bfin (1 + hd.length) n (1 + hd.length + x.length) := by
  rcases h with ⟨h1, rfl⟩ | ⟨k, ks, h1, h2, rfl, rfl, rfl⟩
  · show blook (t :: UInt8.ofNat n :: x) = _
    rw [blook_two t _ x ht, ofNat_val (by omega), if_pos h1]
    show bfin 2 n (x.length + 2) = bfin 2 n (2 + x.length)
    rw [Nat.add_comm]
  · show blook (t :: UInt8.ofNat (128 + ks.length) :: (ks ++ x)) = _
    rw [blook_two t _ _ ht, ofNat_val (by omega), if_neg (by omega), show 128 + ks.length - 128 = ks.length by omega, if_neg (by omega), if_neg (by simp)]
    rw [List.take_left, List.length_cons, List.length_append]
    congr 1 <;> omega
theorem bnext_hd {t : UInt8} {hd body rest : List UInt8} (ht : ¬ t &&& 31 = 31) (h : Hd hd body.length) (hb : body.length ≤ 65536) : bnext (t :: hd ++ body ++ rest) = (t, body, rest, 0) := by
  have e := blook_hd ht h (body ++ rest)
  rw [← List.append_assoc] at e
  have e2 : bfin (1 + hd.length) body.length (1 + hd.length + (body ++ rest).length) = (1 + hd.length, 1 + hd.length + body.length, 0) := by
    unfold bfin
    rw [if_neg (by omega), if_neg (by rw [List.length_append]; omega)]
  rw [e2] at e
  unfold bnext
  rw [e, if_pos rfl]
  have e3 : (t :: hd ++ body ++ rest).drop (1 + hd.length) = body ++ rest := by
    rw [show t :: hd ++ body ++ rest = (t :: hd) ++ (body ++ rest) by simp, show 1 + hd.length = (t :: hd).length by simp; omega]
    exact List.drop_left
  have e4 : (t :: hd ++ body ++ rest).drop (1 + hd.length + body.length) = rest := by
    rw [show 1 + hd.length + body.length = (t :: hd ++ body).length by simp; omega]
    exact List.drop_left
  show ((t :: hd ++ body ++ rest).getD 0 0, ((t :: hd ++ body ++ rest).drop (1 + hd.length)).take (1 + hd.length + body.length - (1 + hd.length)), (t :: hd ++ body ++ rest).drop (1 + hd.length + body.length), 0) = _
  rw [e3, e4, show 1 + hd.length + body.length - (1 + hd.length) = body.length by omega, List.take_left]
  rfl
theorem blook_cut {t : UInt8} {hd body : List UInt8} (ht : ¬ t &&& 31 = 31) (h : Hd hd body.length) (hb : body.length ≤ 65536) {j : Nat} (hj : j < (t :: hd ++ body).length) : (blook ((t :: hd ++ body).take j)).2.2 = 2 := by
  match j with
  | 0 => rfl
  | 1 =>
    show (blook [t]).2.2 = 2
    unfold blook
    rw [if_neg (by simp), if_neg (by simpa using ht), if_pos (by simp)]
  | j + 2 =>
    rcases h with ⟨h1, rfl⟩ | ⟨k, ks, h1, h2, rfl, h3, rfl⟩
    · show (blook (t :: UInt8.ofNat body.length :: body.take j)).2.2 = 2
      rw [blook_two t _ _ ht, ofNat_val (by omega), if_pos h1]
      unfold bfin
      simp only [List.cons_append, List.nil_append, List.length_cons] at hj
      rw [if_neg (by omega), if_pos (by rw [List.length_take]; omega)]
    · show (blook (t :: UInt8.ofNat (128 + ks.length) :: (ks ++ body).take j)).2.2 = 2
      rw [blook_two t _ _ ht, ofNat_val (by omega), if_neg (by omega), show 128 + ks.length - 128 = ks.length by omega, if_neg (by omega)]
      simp only [List.cons_append, List.length_cons, List.length_append] at hj
      by_cases h5 : ((ks ++ body).take j).length < ks.length
      · rw [if_pos h5]
      · rw [if_neg h5]
        rw [List.length_take, List.length_append] at h5
        have h6 : ((ks ++ body).take j).take ks.length = ks := by
          rw [List.take_take, Nat.min_eq_left (by omega), List.take_left]
        rw [h6, h3]
        unfold bfin
        rw [if_neg (by omega), if_pos (by rw [List.length_take, List.length_append]; omega)]
theorem bnext_err {l : List UInt8} {e : Nat} (h : (blook l).2.2 = e) (he : e ≠ 0) : bnext l = (0, [], [], e) := by
  unfold bnext
  rw [h, if_neg he]
end Go.Proofs.YtoockogceobfgaaGreat
namespace Go.Proofs.YtoockogceobfgaaGreat
open Go.RowKit
set_option maxRecDepth 100000

theorem and31 (t : UInt8) : bits .and .u8 (t.toNat : Int) 31 = ((t &&& 31).toNat : Int) := u8_and_nat t.toNat 31 t.toNat_lt (by omega)
theorem and31_eq (t : UInt8) : ((((t &&& 31).toNat : Nat) : Int) == 31) = decide (t &&& 31 = 31) := by
  rw [Bool.eq_iff_iff, beq_iff_eq, decide_eq_true_eq, ← UInt8.toNat_inj, show (31 : UInt8).toNat = 31 from rfl]
  omega
theorem and31_ex (t : UInt8) : ∃ z : Int, bits .and .u8 (t.toNat : Int) 31 = z ∧ (z == 31) = decide (t &&& 31 = 31) := ⟨_, and31 t, and31_eq t⟩
theorem i64_and16 (a : Int) : bits .and .i64 a 65535 = a % 65536 := by
  show IntKind.i64.wrap (((BitVec.ofInt 64 a &&& BitVec.ofInt 64 65535).toNat : Nat) : Int) = _
  rw [BitVec.toNat_and, show (BitVec.ofInt 64 65535).toNat = 2 ^ 16 - 1 by decide, Nat.and_two_pow_sub_one_eq_mod, BitVec.toNat_ofInt]
  have : 0 ≤ a % 18446744073709551616 := Int.emod_nonneg _ (by omega)
  have h2 : ((a % ((2 ^ 64 : Nat) : Int)).toNat : Int) = a % 18446744073709551616 := by
    rw [Int.toNat_of_nonneg (by exact this)]; rfl
  have h3 : (((a % ((2 ^ 64 : Nat) : Int)).toNat % 2 ^ 16 : Nat) : Int) = a % 65536 := by
    rw [Int.natCast_emod, h2]; omega
  rw [h3, IntKind.wrap_i64]
  omega
theorem list_beq (l : List UInt8) : (l == l) = true := by simp

end Go.Proofs.YtoockogceobfgaaGreat
namespace Go.Proofs.YtoockogceobfgaaGreat
open Go.RowKit
set_option maxRecDepth 100000

/-- Bytes as a number that may be below nought. -/
def sval (l : List UInt8) : Int := (uval l : Int) - (if 128 ≤ (l.getD 0 0).toNat then ((2 ^ (8 * l.length) : Nat) : Int) else 0)
theorem getD_snoc (l : List UInt8) (c : UInt8) (h : l ≠ []) : (l ++ [c]).getD 0 0 = l.getD 0 0 := by
  cases l with
  | nil => exact absurd rfl h
  | cons a l => rfl
theorem pow_next (k : Nat) : 2 ^ (8 * (k + 1)) = 2 ^ (8 * k) * 256 := by
  rw [show 8 * (k + 1) = 8 * k + 8 by omega, Nat.pow_add]
theorem sval_snoc (l : List UInt8) (c : UInt8) (h : l ≠ []) : sval (l ++ [c]) = sval l * 256 + c.toNat := by
  unfold sval
  rw [getD_snoc l c h, uval_snoc, List.length_append, List.length_singleton, pow_next]
  generalize 2 ^ (8 * l.length) = P
  generalize uval l = u
  split <;> omega
theorem sval_bd {l : List UInt8} (h : l ≠ []) : -((2 ^ (8 * l.length) : Nat) : Int) ≤ 2 * sval l ∧ 2 * sval l < ((2 ^ (8 * l.length) : Nat) : Int) := by
  cases l with
  | nil => exact absurd rfl h
  | cons c l =>
    unfold sval
    have h1 := uval_lt l
    have h2 := c.toNat_lt
    have e : (c :: l).getD 0 0 = c := rfl
    rw [e, uval_cons, List.length_cons, pow_next]
    generalize 2 ^ (8 * l.length) = P at *
    generalize uval l = u at *
    generalize c.toNat = d at *
    by_cases h3 : 128 ≤ d
    · rw [if_pos h3]
      have h4 := Nat.mul_le_mul_right P h3
      have h5 := Nat.mul_le_mul_right P (show d ≤ 255 by omega)
      generalize d * P = q at *
      omega
    · rw [if_neg h3]
      have h5 := Nat.mul_le_mul_right P (show d ≤ 127 by omega)
      generalize d * P = q at *
      omega
theorem sval_bd8 {l : List UInt8} (h : l ≠ []) (k : Nat) (hk : l.length ≤ k) : -((2 ^ (8 * k) : Nat) : Int) ≤ 2 * sval l ∧ 2 * sval l < ((2 ^ (8 * k) : Nat) : Int) := by
  have h1 := sval_bd h
  have h2 : 2 ^ (8 * l.length) ≤ 2 ^ (8 * k) := Nat.pow_le_pow_right (by omega) (by omega)
  omega
theorem i64_or_in (m : Int) (c : Nat) (h0 : -36028797018963968 ≤ m) (h1 : m < 36028797018963968) (hc : c < 256) : bits .or .i64 (m * 256) (c : Int) = m * 256 + c := by
  have h := i64_or_byte m c hc
  rw [IntKind.wrap_i64, IntKind.wrap_i64] at h
  have e1 : (m * 256 + 9223372036854775808) % 18446744073709551616 - 9223372036854775808 = m * 256 := by omega
  rw [e1] at h
  rw [h]; omega
theorem i8_byte (b : Nat) (h : b < 256) : IntKind.i8.wrap (b : Int) = if b < 128 then (b : Int) else (b : Int) - 256 := by
  have all : ∀ b : Fin 256, IntKind.i8.wrap (b.val : Int) = if b.val < 128 then (b.val : Int) else (b.val : Int) - 256 := by decide +kernel
  exact all ⟨b, h⟩
/-- FromInt's answer. -/
def frm (l : List UInt8) : Int × Nat := if l.length < 1 ∨ 8 < l.length then (0, 3) else (sval l, 0)

set_option maxHeartbeats 1000000 in
theorem from_any {w : World} {S : Nat → Prop} {v : Value} {l : List UInt8} (h : Bs w S v l) :
    Calls Tryz.prog 81 #[v] w fun e w' => e = .returned (.tuple #[.int .i64 (frm l).1, .int .i64 ((frm l).2 : Nat)]) ∧ w' = w := by
  obtain ⟨o, ho⟩ : ∃ o, o = frm l := ⟨_, rfl⟩
  rw [← ho]
  unfold frm at ho
  obtain ⟨A, c, rfl, h1, h2, h3, h4⟩ := h.open_
  clear h
  by_cases e0 : l.length < 1
  · rw [if_pos (.inl e0)] at ho
    subst ho
    go_enter Tryz.func81, Tryz.ntmps81
    go_wp2_with fail
    go_ret2
    exact ⟨rfl, rfl⟩
  by_cases e1 : 8 < l.length
  · rw [if_pos (.inr e1)] at ho
    subst ho
    go_enter Tryz.func81, Tryz.ntmps81
    go_wp2_with fail
    go_ret2
    exact ⟨rfl, rfl⟩
  rw [if_neg (by omega)] at ho
  obtain ⟨ad, hA, hB, hc0⟩ := h4.byte (k := 0) (by omega)
  subst hA
  rw [show ad.add 0 = ad by simp [Addr.add]] at hc0
  have hcell : ∀ j, (hj : j + 1 < l.length) → w.cell? ⟨ad.block, ad.off + 1 + j, none⟩ = some (.int .u8 (l[j + 1].toNat : Int)) := fun j hj => by
    obtain ⟨ad9, hA9, hB9, hc9⟩ := h4.byte (k := j + 1) (by omega)
    injection hA9 with hA9
    subst hA9
    rw [show (⟨ad.block, ad.off + 1 + j, none⟩ : Addr) = ad.add (j + 1) by simp [Addr.add]; omega, hc9]
  have hs1 : sval (l.take 1) = if l[0].toNat < 128 then (l[0].toNat : Int) else (l[0].toNat : Int) - 256 := by
    have : l.take 1 = [l[0]] := by rw [List.take_succ_eq_append_getElem (by omega)]; simp
    rw [this]
    unfold sval
    have e : ([l[0]] : List UInt8).getD 0 0 = l[0] := rfl
    rw [e, uval_cons]
    simp only [List.length_nil, uval, List.foldl_nil, List.length_cons]
    split <;> split <;> omega
  have hb0 := l[0].toNat_lt
  have hpos : 0 < l.length := by omega
  generalize l[0].toNat = b0 at *
  clear e0 h4
  obtain ⟨s0, hs0⟩ : ∃ s0, s0 = sval (l.take 1) := ⟨_, rfl⟩
  have hb1 : b0 < 256 := hb0
  have hw8 : IntKind.i8.wrap (b0 : Int) = s0 := by
    rw [hs0, hs1]
    exact i8_byte b0 hb1
  have hs2 : -128 ≤ s0 ∧ s0 < 128 := by
    rw [hs0, hs1]; split <;> omega
  have hw64 : wrap64 s0 = s0 := by unfold wrap64; omega
  replace hs0 := Lib.hid hs0
  clear hs1 hs2
  by_cases hcap : c = 1
  · have hl1 : l.length = 1 := by omega
    rw [hl1]
    subst hcap
    have hsv : sval l = s0 := by rw [hs0.out, List.take_of_length_le (by omega)]
    clear hcell hpos e1 hl1 h1
    subst ho
    go_enter Tryz.func81, Tryz.ntmps81
    go_wp2_with fail
    go_loop [4, 23] (fun n i => n = .int .i64 s0 ∧ i = .int .i64 0) (fun _ _ => 0)
    case atStart => exact ⟨by first | rfl | rw [hw64], rfl⟩
    case round =>
      obtain ⟨rfl, rfl⟩ := hrel
      go_wp2_with fail
      go_ret2
      exact ⟨by first | rfl | rw [hsv], rfl⟩
  go_enter Tryz.func81, Tryz.ntmps81
  go_wp2_with fail
  go_loop [4, 23] (fun n i => ∃ j : Nat, j + 1 ≤ l.length ∧ i = .int .i64 j ∧ n = .int .i64 (sval (l.take (j + 1)))) (fun _ i => l.length - (intOf i).toNat)
  case atStart => exact ⟨0, by omega, rfl, by rw [hw64, hs0.out]⟩
  case round =>
    obtain ⟨j, hj, rfl, rfl⟩ := hrel
    by_cases hlt : j + 1 < l.length
    · have hc9 := hcell j hlt
      have hne : l.take (j + 1) ≠ [] := by intro h; have := congrArg List.length h; simp at this; subst this; simp at hpos
      have hsn : sval (l.take (j + 1 + 1)) = sval (l.take (j + 1)) * 256 + l[j + 1].toNat := by
        rw [List.take_succ_eq_append_getElem hlt, sval_snoc _ _ hne]
      have hbd := sval_bd8 hne 7 (by rw [List.length_take]; omega)
      have hb := l[j + 1].toNat_lt
      replace hsn := Lib.hid hsn
      rw [show ((2 ^ (8 * 7) : Nat) : Int) = 72057594037927936 by decide] at hbd
      generalize l[j + 1].toNat = b at *
      generalize sval (l.take (j + 1)) = u at *
      have hor := i64_or_in u b (by omega) (by omega) (by omega)
      have hu0 : -36028797018963968 ≤ u := by omega
      have hu1 : u < 36028797018963968 := by omega
      have hjl : j < l.length - 1 := by omega
      clear hcell hbd hne
      go_wp2_with fail
      exact ⟨⟨j + 1, by omega, by go_num, by rw [hsn.out]⟩, by simp [intOf] <;> omega⟩
    · rw [List.take_of_length_le (by omega)]
      have hjl : ¬ j < l.length - 1 := by omega
      clear hcell
      go_wp2_with fail
      go_ret2
      subst ho
      exact ⟨rfl, rfl⟩
end Go.Proofs.YtoockogceobfgaaGreat
namespace Go.Proofs.YtoockogceobfgaaGreat
open Go.RowKit
set_option maxRecDepth 100000

theorem fits_of {a : Int} {j : Nat} (h1j : 1 ≤ j) (hj8 : j ≤ 8) (h0 : -((2 ^ (8 * j) : Nat) : Int) ≤ 2 * a) (h1 : 2 * a < ((2 ^ (8 * j) : Nat) : Int)) : FitsI a j := by
  obtain rfl | rfl | rfl | rfl | rfl | rfl | rfl | rfl : j = 1 ∨ j = 2 ∨ j = 3 ∨ j = 4 ∨ j = 5 ∨ j = 6 ∨ j = 7 ∨ j = 8 := by omega
  · have e1 : (2 : Int) ^ (8 * 1 - 1) = 128 := by decide
    have e2 : 2 ^ (8 * 1) = 256 := by decide
    unfold FitsI
    rw [e1]
    rw [e2] at h0 h1
    omega
  · have e1 : (2 : Int) ^ (8 * 2 - 1) = 32768 := by decide
    have e2 : 2 ^ (8 * 2) = 65536 := by decide
    unfold FitsI
    rw [e1]
    rw [e2] at h0 h1
    omega
  · have e1 : (2 : Int) ^ (8 * 3 - 1) = 8388608 := by decide
    have e2 : 2 ^ (8 * 3) = 16777216 := by decide
    unfold FitsI
    rw [e1]
    rw [e2] at h0 h1
    omega
  · have e1 : (2 : Int) ^ (8 * 4 - 1) = 2147483648 := by decide
    have e2 : 2 ^ (8 * 4) = 4294967296 := by decide
    unfold FitsI
    rw [e1]
    rw [e2] at h0 h1
    omega
  · have e1 : (2 : Int) ^ (8 * 5 - 1) = 549755813888 := by decide
    have e2 : 2 ^ (8 * 5) = 1099511627776 := by decide
    unfold FitsI
    rw [e1]
    rw [e2] at h0 h1
    omega
  · have e1 : (2 : Int) ^ (8 * 6 - 1) = 140737488355328 := by decide
    have e2 : 2 ^ (8 * 6) = 281474976710656 := by decide
    unfold FitsI
    rw [e1]
    rw [e2] at h0 h1
    omega
  · have e1 : (2 : Int) ^ (8 * 7 - 1) = 36028797018963968 := by decide
    have e2 : 2 ^ (8 * 7) = 72057594037927936 := by decide
    unfold FitsI
    rw [e1]
    rw [e2] at h0 h1
    omega
  · exact fits8 a
theorem fits1 {a : Int} (h : FitsI a 1) (h0 : -9223372036854775808 ≤ a) (h1 : a ≤ 9223372036854775807) : -128 ≤ a ∧ a ≤ 127 := by
  unfold FitsI at h
  rw [show (2 : Int) ^ (8 * 1 - 1) = 128 by decide] at h
  omega

end Go.Proofs.YtoockogceobfgaaGreat
namespace Go.Proofs.YtoockogceobfgaaGreat
open Go.RowKit
set_option maxRecDepth 100000

def fbo (l : List UInt8) : Bool × Nat := if l.length = 1 then (decide (l.getD 0 0 ≠ 0), 0) else (false, 3)
theorem fromb_any {w : World} {S : Nat → Prop} {v : Value} {l : List UInt8} (h : Bs w S v l) :
    Calls Tryz.prog 121 #[v] w fun e w' => e = .returned (.tuple #[.bool (fbo l).1, .int .i64 ((fbo l).2 : Nat)]) ∧ w' = w := by
  obtain ⟨o, ho⟩ : ∃ o, o = fbo l := ⟨_, rfl⟩
  rw [← ho]
  unfold fbo at ho
  obtain ⟨A, c, rfl, h1, h2, h3, h4⟩ := h.open_
  clear h
  by_cases e0 : l.length = 1
  · rw [if_pos e0] at ho
    obtain ⟨ad, hA, hB, hc0⟩ := h4.byte (k := 0) (by omega)
    subst hA
    rw [show ad.add 0 = ad by simp [Addr.add]] at hc0
    rw [show l.getD 0 0 = l[0] by rw [List.getD_eq_getElem?_getD, List.getElem?_eq_getElem (by omega)]; rfl] at ho
    have hb : ((l.length : Int) != 1) = false := by rw [e0]; rfl
    have hi0 : 0 < l.length := by omega
    generalize l[0] = b0 at *
    have hb0 : ((b0.toNat : Int) != 0) = decide (b0 ≠ 0) := by
      rw [Bool.eq_iff_iff, bne_iff_ne, decide_eq_true_eq, ne_eq, ne_eq, ← UInt8.toNat_inj, show (0 : UInt8).toNat = 0 from rfl]; omega
    generalize decide (b0 ≠ 0) = q at *
    generalize b0.toNat = b at *
    subst ho
    clear e0
    go_enter Tryz.func121, Tryz.ntmps121
    go_wp2_with fail
    go_ret2
    exact ⟨rfl, rfl⟩
  · rw [if_neg e0] at ho
    have hb : ((l.length : Int) != 1) = true := by rw [bne_iff_ne]; omega
    subst ho
    go_enter Tryz.func121, Tryz.ntmps121
    go_wp2_with fail
    go_ret2
    exact ⟨rfl, rfl⟩
theorem rfromb_any {w : World} {S : Nat → Prop} {v : Value} {l : List UInt8} (h : Bs w S v l) :
    Calls Tryz.prog 125 #[v] w fun e w' => e = .returned (.tuple #[.bool (fbo l).1, .int .i64 ((fbo l).2 : Nat)]) ∧ w' = w := by
  obtain ⟨o, ho⟩ : ∃ o, o = fbo l := ⟨_, rfl⟩
  rw [← ho]
  unfold fbo at ho
  obtain ⟨A, c, rfl, h1, h2, h3, h4⟩ := h.open_
  clear h
  by_cases e0 : l.length = 1
  · rw [if_pos e0] at ho
    obtain ⟨ad, hA, hB, hc0⟩ := h4.byte (k := 0) (by omega)
    subst hA
    rw [show ad.add 0 = ad by simp [Addr.add]] at hc0
    rw [show l.getD 0 0 = l[0] by rw [List.getD_eq_getElem?_getD, List.getElem?_eq_getElem (by omega)]; rfl] at ho
    have hb : ((l.length : Int) != 1) = false := by rw [e0]; rfl
    have hi0 : 0 < l.length := by omega
    generalize l[0] = b0 at *
    have hb0 : ((b0.toNat : Int) != 0) = decide (b0 ≠ 0) := by
      rw [Bool.eq_iff_iff, bne_iff_ne, decide_eq_true_eq, ne_eq, ne_eq, ← UInt8.toNat_inj, show (0 : UInt8).toNat = 0 from rfl]; omega
    generalize decide (b0 ≠ 0) = q at *
    generalize b0.toNat = b at *
    subst ho
    clear e0
    go_enter Tryz.func125, Tryz.ntmps125
    go_wp2_with fail
    go_ret2
    exact ⟨rfl, rfl⟩
  · rw [if_neg e0] at ho
    have hb : ((l.length : Int) != 1) = true := by rw [bne_iff_ne]; omega
    subst ho
    go_enter Tryz.func125, Tryz.ntmps125
    go_wp2_with fail
    go_ret2
    exact ⟨rfl, rfl⟩

theorem bool_any {w : World} (q : Bool) : Calls Tryz.prog 116 #[.bool q] w fun e w' => ∃ v', e = .returned v' ∧ Bs w' (fun _ => True) v' [if q then 255 else 0] ∧ Ext w w' := by
  have h1 : Bs (w.alloc (.cells #[.int .u8 255] 5)) (fun _ => True) (.slice (some ⟨w.heap.size, 0, none⟩) 1 1) [255] := (Bs.lit w 5 [255] (by simp [maxLen])).mono (fun _ _ _ => trivial)
  have h2 : Bs (w.alloc (.cells #[.int .u8 0] 5)) (fun _ => True) (.slice (some ⟨w.heap.size, 0, none⟩) 1 1) [0] := (Bs.lit w 5 [0] (by simp [maxLen])).mono (fun _ _ _ => trivial)
  cases q
  · go_enter Tryz.func116, Tryz.ntmps116
    go_wp2_with fail
    go_ret
    exact ⟨_, rfl, h2, (Mod.refl _ _).alloc _⟩
  · go_enter Tryz.func116, Tryz.ntmps116
    go_wp2_with fail
    go_ret
    exact ⟨_, rfl, h1, (Mod.refl _ _).alloc _⟩

theorem u64_or_byte (m : Int) (c : Nat) (hc : c < 256) : bits .or .u64 (IntKind.u64.wrap (m * 256)) (IntKind.u64.wrap (c : Int)) = (m * 256 + c) % 18446744073709551616 := by
  show IntKind.u64.wrap (((BitVec.ofInt 64 (IntKind.u64.wrap (m * 256)) ||| BitVec.ofInt 64 (IntKind.u64.wrap (c : Int))).toNat : Nat) : Int) = _
  have h1 : (BitVec.ofInt 64 (IntKind.u64.wrap (m * 256))).toNat = 2 ^ 8 * (m % 72057594037927936).toNat := by
    rw [BitVec.toNat_ofInt, IntKind.wrap_u64]
    have : 0 ≤ m % 72057594037927936 := Int.emod_nonneg _ (by omega)
    omega
  have h2 : (BitVec.ofInt 64 (IntKind.u64.wrap (c : Int))).toNat = c := by
    rw [BitVec.toNat_ofInt, IntKind.wrap_u64]; omega
  rw [BitVec.toNat_or, h1, h2, ← Nat.two_pow_add_eq_or_of_lt (by omega), IntKind.wrap_u64]
  have : 0 ≤ m % 72057594037927936 := Int.emod_nonneg _ (by omega)
  have h3 : ((2 ^ 8 * (m % 72057594037927936).toNat + c : Nat) : Int) = 256 * (m % 72057594037927936) + c := by
    rw [Int.natCast_add, Int.natCast_mul, Int.toNat_of_nonneg this]; rfl
  rw [h3]
  omega
set_option maxHeartbeats 1000000 in
theorem rfrom_any {w : World} {S : Nat → Prop} {v : Value} {l : List UInt8} (h : Bs w S v l) :
    Calls Tryz.prog 60 #[v] w fun e w' => e = .returned (.tuple #[.int .i64 (frm l).1, .int .i64 ((frm l).2 : Nat)]) ∧ w' = w := by
  obtain ⟨o, ho⟩ : ∃ o, o = frm l := ⟨_, rfl⟩
  rw [← ho]
  unfold frm at ho
  obtain ⟨A, c, rfl, h1, h2, h3, h4⟩ := h.open_
  clear h
  by_cases e0 : l.length < 1
  · rw [if_pos (.inl e0)] at ho
    subst ho
    go_enter Tryz.func60, Tryz.ntmps60
    go_wp2_with fail
    go_ret2
    exact ⟨rfl, rfl⟩
  by_cases e1 : 8 < l.length
  · rw [if_pos (.inr e1)] at ho
    subst ho
    go_enter Tryz.func60, Tryz.ntmps60
    go_wp2_with fail
    go_ret2
    exact ⟨rfl, rfl⟩
  rw [if_neg (by omega)] at ho
  obtain ⟨ad, hA, hB, hc0⟩ := h4.byte (k := 0) (by omega)
  subst hA
  rw [show ad.add 0 = ad by simp [Addr.add]] at hc0
  have hcell : ∀ j, (hj : j < l.length) → w.cell? (ad.add j) = some (.int .u8 (l[j].toNat : Int)) := fun j hj => by
    obtain ⟨ad9, hA9, hB9, hc9⟩ := h4.byte (k := j) hj
    injection hA9 with hA9
    subst hA9
    exact hc9
  have hb0 := l[0].toNat_lt
  have hpos : 0 < l.length := by omega
  have hg0 : (l.getD 0 0).toNat = l[0].toNat := by rw [List.getD_eq_getElem?_getD, List.getElem?_eq_getElem (by omega)]; rfl
  generalize l[0].toNat = b0 at *
  clear e0 h4
  by_cases hn : 127 < b0
  · skip
    go_enter Tryz.func60, Tryz.ntmps60
    go_wp2_with fail
    go_loop [4, 5] (fun n i => ∃ j : Nat, j ≤ l.length ∧ i = .int .i64 j ∧ n = .int .u64 (((uval (l.take j) : Int) - ((2 ^ (8 * j) : Nat) : Int)) % 18446744073709551616)) (fun _ i => l.length - (intOf i).toNat)
    case atStart => exact ⟨0, Nat.zero_le _, rfl, by simp [uval]⟩
    case round =>
      obtain ⟨j, hj, rfl, rfl⟩ := hrel
      by_cases hlt : j < l.length
      · have hc9 := hcell j hlt
        have hX : ((uval (l.take (j + 1)) : Int) - ((2 ^ (8 * (j + 1)) : Nat) : Int)) = ((uval (l.take j) : Int) - ((2 ^ (8 * j) : Nat) : Int)) * 256 + l[j].toNat := by
          rw [List.take_succ_eq_append_getElem hlt, uval_snoc, pow_next]; omega
        have hb := l[j].toNat_lt
        generalize ((uval (l.take j) : Int) - ((2 ^ (8 * j) : Nat) : Int)) = X at *
        replace hX := Lib.hid hX
        generalize l[j].toNat = b at *
        have hor := u64_or_byte (X % 18446744073709551616) b hb
        rw [show IntKind.u64.wrap (b : Int) = (b : Int) by rw [IntKind.wrap_u64]; omega] at hor
        clear hcell
        obtain ⟨u, hu⟩ : ∃ u, u = X % 18446744073709551616 := ⟨_, rfl⟩
        rw [← hu] at hor ⊢
        replace hu := Lib.hid hu
        go_wp2_with fail
        exact ⟨⟨j + 1, by omega, by go_num, by rw [hX.out]; first | (congr 1; rw [hu.out]; omega) | (rw [hor]; congr 1; rw [hu.out]; omega)⟩, by simp [intOf] <;> omega⟩
      · obtain rfl : j = l.length := by omega
        have hwr : wrap64 (((uval (l.take l.length) : Int) - ((2 ^ (8 * l.length) : Nat) : Int)) % 18446744073709551616) = sval l := by
          have hs : sval l = ((uval (l.take l.length) : Int) - ((2 ^ (8 * l.length) : Nat) : Int)) := by rw [List.take_of_length_le (Nat.le_refl _)]; unfold sval; rw [hg0, if_pos (by omega)]
          have hbd := sval_bd8 (l := l) (by rintro rfl; simp at hpos) 8 (by omega)
          rw [show ((2 ^ (8 * 8) : Nat) : Int) = 18446744073709551616 by decide] at hbd
          rw [← hs]
          unfold wrap64
          omega
        generalize ((uval (l.take l.length) : Int) - ((2 ^ (8 * l.length) : Nat) : Int)) % 18446744073709551616 = u at *
        clear hcell hg0
        subst ho
        go_wp2_with fail
        go_ret2
        exact ⟨by first | rfl | rw [hwr], rfl⟩
  · skip
    go_enter Tryz.func60, Tryz.ntmps60
    go_wp2_with fail
    go_loop [4, 5] (fun n i => ∃ j : Nat, j ≤ l.length ∧ i = .int .i64 j ∧ n = .int .u64 ((uval (l.take j) : Int) % 18446744073709551616)) (fun _ i => l.length - (intOf i).toNat)
    case atStart => exact ⟨0, Nat.zero_le _, rfl, by simp [uval]⟩
    case round =>
      obtain ⟨j, hj, rfl, rfl⟩ := hrel
      by_cases hlt : j < l.length
      · have hc9 := hcell j hlt
        have hX : (uval (l.take (j + 1)) : Int) = (uval (l.take j) : Int) * 256 + l[j].toNat := by
          rw [List.take_succ_eq_append_getElem hlt, uval_snoc]; omega
        have hb := l[j].toNat_lt
        generalize (uval (l.take j) : Int) = X at *
        replace hX := Lib.hid hX
        generalize l[j].toNat = b at *
        have hor := u64_or_byte (X % 18446744073709551616) b hb
        rw [show IntKind.u64.wrap (b : Int) = (b : Int) by rw [IntKind.wrap_u64]; omega] at hor
        clear hcell
        obtain ⟨u, hu⟩ : ∃ u, u = X % 18446744073709551616 := ⟨_, rfl⟩
        rw [← hu] at hor ⊢
        replace hu := Lib.hid hu
        go_wp2_with fail
        exact ⟨⟨j + 1, by omega, by go_num, by rw [hX.out]; first | (congr 1; rw [hu.out]; omega) | (rw [hor]; congr 1; rw [hu.out]; omega)⟩, by simp [intOf] <;> omega⟩
      · obtain rfl : j = l.length := by omega
        have hwr : wrap64 ((uval (l.take l.length) : Int) % 18446744073709551616) = sval l := by
          have hs : sval l = (uval (l.take l.length) : Int) := by rw [List.take_of_length_le (Nat.le_refl _)]; unfold sval; rw [hg0, if_neg (by omega), Int.sub_zero]
          have hbd := sval_bd8 (l := l) (by rintro rfl; simp at hpos) 8 (by omega)
          rw [show ((2 ^ (8 * 8) : Nat) : Int) = 18446744073709551616 by decide] at hbd
          rw [← hs]
          unfold wrap64
          omega
        generalize (uval (l.take l.length) : Int) % 18446744073709551616 = u at *
        clear hcell hg0
        subst ho
        go_wp2_with fail
        go_ret2
        exact ⟨by first | rfl | rw [hwr], rfl⟩
end Go.Proofs.YtoockogceobfgaaGreat
namespace Go.Proofs.YtoockogceobfgaaGreat
open Go.RowKit
set_option maxRecDepth 100000

theorem div_next (n : Int) (j : Nat) : n / 2 ^ (8 * j) / 256 = n / 2 ^ (8 * (j + 1)) := by
  have h5 : (2 : Int) ^ (8 * (j + 1)) = 2 ^ (8 * j) * 256 := by rw [show 8 * (j + 1) = 8 * j + 8 by omega, Int.pow_add]; rfl
  rw [Int.ediv_ediv_of_nonneg (Int.pow_nonneg (by omega)), h5]
theorem fits_next {n : Int} (h0 : -9223372036854775808 ≤ n) (h1 : n ≤ 9223372036854775807) (j : Nat) :
    FitsI n (j + 1) ↔ (n / 2 ^ (8 * j) / 256 = 0 ∧ (bt n j).toNat / 128 = 0) ∨ (n / 2 ^ (8 * j) / 256 = -1 ∧ (bt n j).toNat / 128 = 1) := by
  have hy : n / 2 ^ (8 * j) / 128 = n / 2 ^ (8 * (j + 1) - 1) := by
    have h5 : (2 : Int) ^ (8 * (j + 1) - 1) = 2 ^ (8 * j) * 128 := by rw [show 8 * (j + 1) - 1 = 8 * j + 7 by omega, Int.pow_add]; rfl
    rw [Int.ediv_ediv_of_nonneg (Int.pow_nonneg (by omega)), h5]
  have hs : 0 ≤ n / 2 ^ (8 * j) ↔ 0 ≤ n := Int.ediv_nonneg_iff_of_pos (Int.pow_pos (by omega))
  have hb := bt_val n j
  unfold FitsI
  rw [← hy]
  generalize n / 2 ^ (8 * j) = x at *
  generalize (bt n j).toNat = c at *
  omega

/-- How long a slice is. -/
def slen : Value → Nat
  | .slice _ n _ => n
  | _ => 0
theorem own_some {w : World} {e : TypeId} {v : Value} {xs : List Value} (h : Own w e v xs) (hne : xs ≠ []) : ∃ g cap, v = .slice (some ⟨g, 0, none⟩) xs.length cap ∧ xs.length ≤ cap ∧ cap ≤ 9223372036854775807 ∧ g < w.heap.size := by
  rcases h.form with ⟨_, h⟩ | ⟨g, cap, h, h2, h3, h4⟩
  · exact absurd h hne
  · exact ⟨g, cap, h, h2, by simpa [maxLen] using h3, h4⟩

set_option maxHeartbeats 1000000 in
theorem rint_any {w : World} (n : Int) (h0 : -9223372036854775808 ≤ n) (h1 : n ≤ 9223372036854775807) :
    Calls Tryz.prog 96 #[.int .i64 n] w fun e w' => ∃ k v', e = .returned v' ∧ IsW n k ∧ Own w' 5 v' ((bes n k).map bv) ∧ Fresh w.heap.size v' ∧ Ext w w' := by
  go_enter Tryz.func96, Tryz.ntmps96
  go_wp2_with fail
  go_loopw [0, 3] (fun m v wr => ∃ j : Nat, j ≤ 7 ∧ m = .int .i64 (n / 2 ^ (8 * j)) ∧ Own wr 5 v ((bes n j).map bv) ∧ Fresh w.heap.size v ∧ Ext w wr ∧ Hid (j = 0 ∨ ¬ FitsI n j)) (fun _ v _ => 8 - slen v)
  case atStart => exact ⟨0, by omega, by simp, Own.nil _ _, fresh_nil _ _ _, Mod.refl _ _, Lib.hid (.inl rfl)⟩
  case round =>
    obtain ⟨j, hj, rfl, p0, p1, p2, pf⟩ := hrel
    have hfn := fits_next h0 h1 j
    have hdn := div_next n j
    have hbt := bt_val n j
    have hc := (bt n j).toNat_lt
    have hxr : -9223372036854775808 ≤ n / 2 ^ (8 * j) ∧ n / 2 ^ (8 * j) ≤ 9223372036854775807 := by
      have hP : (0 : Int) < 2 ^ (8 * j) := Int.pow_pos (by omega)
      constructor
      · exact Int.le_ediv_of_mul_le hP (by
          have : (1 : Int) ≤ 2 ^ (8 * j) := hP
          have h9 : (-9223372036854775808 : Int) * 2 ^ (8 * j) ≤ -9223372036854775808 * 1 := by omega
          omega)
      · refine Int.ediv_le_of_le_mul hP ?_
        have : (1 : Int) ≤ 2 ^ (8 * j) := hP
        have h9 : (9223372036854775807 : Int) * 1 ≤ 9223372036854775807 * 2 ^ (8 * j) := Int.mul_le_mul_of_nonneg_left this (by omega)
        omega
    have hbs : bes n (j + 1) = bt n j :: bes n j := rfl
    generalize n / 2 ^ (8 * j) = x at *
    obtain ⟨A, c, rfl⟩ := p0.shape
    rw [List.length_map, bes_len] at p0 p1 ⊢
    have hlit := Own.lit wr 5 [.int .u8 (x % 256)] (by simp [maxLen])
    have hfl : Fresh w.heap.size (.slice (some ⟨wr.heap.size, 0, none⟩) 1 1) := fun q hk => by have : wr.heap.size = q := Option.some.inj hk; have := p2.size; omega
    have hsl := (p0.alloc (.cells [.int .u8 (x % 256)].toArray 5)).sl
    have hn1 : (([.int .u8 (x % 256)] : List Value).length + ((bes n j).map bv).length) * 1 ≤ 140737488355328 := by rw [List.length_map, bes_len]; simp; omega
    replace hn1 := Lib.hid hn1
    replace hfn := Lib.hid hfn
    replace hdn := Lib.hid hdn
    replace hbs := Lib.hid hbs
    have hbv : (.int .u8 (x % 256) : Value) = bv (bt n j) := by show _ = Value.int .u8 ((bt n j).toNat : Int); rw [hbt]
    replace hbv := Lib.hid hbv
    replace hbt := Lib.hid hbt
    have hc3 : ((bt n j).toNat : Int) / 128 = 0 ∨ ((bt n j).toNat : Int) / 128 = 1 := by omega
    have hf9 := hfn.out
    by_cases hF : FitsI n (j + 1)
    · have hw : Hid (IsW n (j + 1)) := Lib.hid ⟨by omega, by omega, hF, by
        rcases pf.out with h | h
        · exact .inl (by omega)
        · exact .inr (by simpa using h)⟩
      replace hf9 := hf9.1 hF
      rcases hf9 with ⟨e1, e2⟩ | ⟨e1, e2⟩
      · have e3 : ((bt n j).toNat : Int) / 128 = 0 := by omega
        clear e2 hc3 hF
        rw [show x % 256 = x by omega] at hlit hsl hn1 hbv
        go_wp2_with ((with_reducible show wpList _ _ _ (⟨some 9, _, _, _, _, _⟩ :: _) _ _); refine wp_app tyB hlit hsl (bv_one _) rfl (.tmp 7) (.tmp 8) rfl rfl rfl hn1.out ?_; intro v2 w2 k1 k2 k3; rw [hbv.out] at k1; replace k1 : Own w2 5 v2 ((bt n j :: bes n j).map bv) := k1; have hx2 := ext_app p2 hfl k2; have hf2 := (k3.sooner (B' := w.heap.size) (by have := p2.size; simp; omega)).fresh hfl (Nat.le_refl _); obtain ⟨g, cap, rfl, y1, y2, y3⟩ := own_some k1 (by simp); rw [List.length_map, List.length_cons, bes_len] at k1 hf2 y1 ⊢; have hc0 := k1.cellAt (j := 0) (by simp); simp only [List.map_cons, List.getElem_cons_zero] at hc0; clear k2 k3)
        go_ret
        exact ⟨j + 1, _, rfl, hw.out, by rw [hbs.out]; exact k1, hf2, hx2⟩
      · have e3 : ((bt n j).toNat : Int) / 128 = 1 := by omega
        clear e2 hc3 hF
        go_wp2_with ((with_reducible show wpList _ _ _ (⟨some 9, _, _, _, _, _⟩ :: _) _ _); refine wp_app tyB hlit hsl (bv_one _) rfl (.tmp 7) (.tmp 8) rfl rfl rfl hn1.out ?_; intro v2 w2 k1 k2 k3; rw [hbv.out] at k1; replace k1 : Own w2 5 v2 ((bt n j :: bes n j).map bv) := k1; have hx2 := ext_app p2 hfl k2; have hf2 := (k3.sooner (B' := w.heap.size) (by have := p2.size; simp; omega)).fresh hfl (Nat.le_refl _); obtain ⟨g, cap, rfl, y1, y2, y3⟩ := own_some k1 (by simp); rw [List.length_map, List.length_cons, bes_len] at k1 hf2 y1 ⊢; have hc0 := k1.cellAt (j := 0) (by simp); simp only [List.map_cons, List.getElem_cons_zero] at hc0; clear k2 k3)
        go_ret
        exact ⟨j + 1, _, rfl, hw.out, by rw [hbs.out]; exact k1, hf2, hx2⟩
    · have hj6 : j + 1 ≤ 7 := by
        rcases Nat.lt_or_ge j 7 with h | h
        · omega
        · obtain rfl : j = 7 := by omega
          exact absurd (fits8 n) hF
      have hf8 : ¬ ((x / 256 = 0 ∧ (bt n j).toNat / 128 = 0) ∨ (x / 256 = -1 ∧ (bt n j).toNat / 128 = 1)) := fun h => hF (hf9.2 h)
      clear hf9
      replace hF := Lib.hid hF
      have hq3 : (x / 256 = 0 ∧ ((bt n j).toNat : Int) / 128 = 1) ∨ (x / 256 = -1 ∧ ((bt n j).toNat : Int) / 128 = 0) ∨ (¬ x / 256 = 0 ∧ ¬ x / 256 = -1) := by omega
      clear hf8 hc3
      rcases hq3 with ⟨e1, e3⟩ | ⟨e1, e3⟩ | ⟨e1, e3⟩
      · rw [show x % 256 = x by omega] at hlit hsl hn1 hbv
        go_wp2_with ((with_reducible show wpList _ _ _ (⟨some 9, _, _, _, _, _⟩ :: _) _ _); refine wp_app tyB hlit hsl (bv_one _) rfl (.tmp 7) (.tmp 8) rfl rfl rfl hn1.out ?_; intro v2 w2 k1 k2 k3; rw [hbv.out] at k1; replace k1 : Own w2 5 v2 ((bt n j :: bes n j).map bv) := k1; have hx2 := ext_app p2 hfl k2; have hf2 := (k3.sooner (B' := w.heap.size) (by have := p2.size; simp; omega)).fresh hfl (Nat.le_refl _); obtain ⟨g, cap, rfl, y1, y2, y3⟩ := own_some k1 (by simp); rw [List.length_map, List.length_cons, bes_len] at k1 hf2 y1 ⊢; have hc0 := k1.cellAt (j := 0) (by simp); simp only [List.map_cons, List.getElem_cons_zero] at hc0; clear k2 k3)
        exact ⟨⟨j + 1, by omega, by first | (rw [← hdn.out, e1]; done) | rw [← hdn.out], by rw [hbs.out]; exact k1, hf2, hx2, Lib.hid (.inr hF.out)⟩, by simp only [slen]; omega⟩
      · skip
        go_wp2_with ((with_reducible show wpList _ _ _ (⟨some 9, _, _, _, _, _⟩ :: _) _ _); refine wp_app tyB hlit hsl (bv_one _) rfl (.tmp 7) (.tmp 8) rfl rfl rfl hn1.out ?_; intro v2 w2 k1 k2 k3; rw [hbv.out] at k1; replace k1 : Own w2 5 v2 ((bt n j :: bes n j).map bv) := k1; have hx2 := ext_app p2 hfl k2; have hf2 := (k3.sooner (B' := w.heap.size) (by have := p2.size; simp; omega)).fresh hfl (Nat.le_refl _); obtain ⟨g, cap, rfl, y1, y2, y3⟩ := own_some k1 (by simp); rw [List.length_map, List.length_cons, bes_len] at k1 hf2 y1 ⊢; have hc0 := k1.cellAt (j := 0) (by simp); simp only [List.map_cons, List.getElem_cons_zero] at hc0; clear k2 k3)
        exact ⟨⟨j + 1, by omega, by first | (rw [← hdn.out, e1]; done) | rw [← hdn.out], by rw [hbs.out]; exact k1, hf2, hx2, Lib.hid (.inr hF.out)⟩, by simp only [slen]; omega⟩
      · have e4 : (x / 256 == 0) = false := by rw [beq_eq_false_iff_ne]; exact e1
        have e5 : (x / 256 == -1) = false := by rw [beq_eq_false_iff_ne]; exact e3
        go_wp2_with ((with_reducible show wpList _ _ _ (⟨some 9, _, _, _, _, _⟩ :: _) _ _); refine wp_app tyB hlit hsl (bv_one _) rfl (.tmp 7) (.tmp 8) rfl rfl rfl hn1.out ?_; intro v2 w2 k1 k2 k3; rw [hbv.out] at k1; replace k1 : Own w2 5 v2 ((bt n j :: bes n j).map bv) := k1; have hx2 := ext_app p2 hfl k2; have hf2 := (k3.sooner (B' := w.heap.size) (by have := p2.size; simp; omega)).fresh hfl (Nat.le_refl _); obtain ⟨g, cap, rfl, y1, y2, y3⟩ := own_some k1 (by simp); rw [List.length_map, List.length_cons, bes_len] at k1 hf2 y1 ⊢; have hc0 := k1.cellAt (j := 0) (by simp); simp only [List.map_cons, List.getElem_cons_zero] at hc0; clear k2 k3)
        exact ⟨⟨j + 1, by omega, by first | (rw [← hdn.out, e1]; done) | rw [← hdn.out], by rw [hbs.out]; exact k1, hf2, hx2, Lib.hid (.inr hF.out)⟩, by simp only [slen]; omega⟩
end Go.Proofs.YtoockogceobfgaaGreat
namespace Go.Proofs.YtoockogceobfgaaGreat
open Go.RowKit
theorem wpAnyH_mono {P : Program} {md : Region.Mode} {ops : Array Oper} {Q : Exit → Act → World → Prop} {S S' : World → Prop} (hS : ∀ w, S' w → S w) :
    ∀ (fuel : Nat) (listed : Array Bool) (a : Act) (w : World), wpAnyH P md ops Q S' fuel listed a w → wpAnyH P md ops Q S fuel listed a w
  | 0, _, _, _, h => h
  | fuel + 1, _, _, _, h => ⟨h.1, fun i hi => wpOp_mono (fun a' w' h' => ⟨hS w' h'.1, wpAnyH_mono hS fuel _ a' w' h'.2⟩) (h.2 i hi)⟩
end Go.Proofs.YtoockogceobfgaaGreat

/- frame: four bytes, laid and taken. -/
import Derived.Test.YtckgnnopoekniaaDoorFrmA
import Derived.Deep.QuietTactic
import Derived.BigQuiet
namespace Go.Proofs.YtckgnnopoekniaaDoor
open Go.RowKit
set_option maxRecDepth 100000

theorem cells4 {w : World} {S : Nat → Prop} {A : Option Addr} {l : List UInt8} (h : Cells w S A (l.map bv)) (hl : 4 ≤ l.length) :
    ∃ (ad : Addr) (x0 x1 x2 x3 : Nat), A = some ad ∧ x0 < 256 ∧ x1 < 256 ∧ x2 < 256 ∧ x3 < 256 ∧ from4 l = x0 + 256 * x1 + 65536 * x2 + 16777216 * x3 ∧
      w.cell? ad = some (.int .u8 x0) ∧ w.cell? ⟨ad.block, ad.off + 1, none⟩ = some (.int .u8 x1) ∧ w.cell? ⟨ad.block, ad.off + 2, none⟩ = some (.int .u8 x2) ∧ w.cell? ⟨ad.block, ad.off + 3, none⟩ = some (.int .u8 x3) := by
  match l, hl with
  | b0 :: b1 :: b2 :: b3 :: l, _ =>
    obtain ⟨ad, rfl, _, c0⟩ := h.at_ (show 0 < (b0 :: b1 :: b2 :: b3 :: l).length by simp)
    obtain ⟨_, e, _, c1⟩ := h.at_ (show 1 < (b0 :: b1 :: b2 :: b3 :: l).length by simp)
    cases e
    obtain ⟨_, e, _, c2⟩ := h.at_ (show 2 < (b0 :: b1 :: b2 :: b3 :: l).length by simp)
    cases e
    obtain ⟨_, e, _, c3⟩ := h.at_ (show 3 < (b0 :: b1 :: b2 :: b3 :: l).length by simp)
    cases e
    refine ⟨ad, b0.toNat, b1.toNat, b2.toNat, b3.toNat, rfl, b0.toNat_lt, b1.toNat_lt, b2.toNat_lt, b3.toNat_lt, rfl, c0, ?_, ?_, ?_⟩
    · exact c1
    · exact c2
    · exact c3
theorem or_up (i a b : Nat) (ha : a < 2 ^ i) (hb : b < 256) (hi : i ≤ 24) : bits .or .u32 (a : Int) ((b * 2 ^ i : Nat) : Int) = ((a + b * 2 ^ i : Nat) : Int) := by
  have h1 : 2 ^ i ≤ 2 ^ 24 := Nat.pow_le_pow_right (by omega) hi
  have h2 : b * 2 ^ i ≤ 255 * 2 ^ 24 := Nat.mul_le_mul (by omega) h1
  rw [u32_or_nat _ _ (by omega) (by omega)]
  congr 1
  rw [Nat.or_comm, ← Nat.shiftLeft_eq, ← Nat.shiftLeft_add_eq_or_of_lt ha, Nat.add_comm]
theorem or4 (x0 x1 x2 x3 : Nat) (h0 : x0 < 256) (h1 : x1 < 256) (h2 : x2 < 256) (h3 : x3 < 256) :
    bits .or .u32 (bits .or .u32 (bits .or .u32 (x0 : Int) ((x1 : Int) * 256)) ((x2 : Int) * 65536)) ((x3 : Int) * 16777216) = ((x0 + 256 * x1 + 65536 * x2 + 16777216 * x3 : Nat) : Int) := by
  have p8 : (2 ^ 8 : Nat) = 256 := rfl
  have p16 : (2 ^ 16 : Nat) = 65536 := rfl
  have p24 : (2 ^ 24 : Nat) = 16777216 := rfl
  have e1 := or_up 8 x0 x1 (by omega) h1 (by omega)
  have e2 := or_up 16 (x0 + x1 * 2 ^ 8) x2 (by omega) h2 (by omega)
  have e3 := or_up 24 (x0 + x1 * 2 ^ 8 + x2 * 2 ^ 16) x3 (by omega) h3 (by omega)
  rw [p8] at e1 e2 e3
  rw [p16] at e2 e3
  rw [p24] at e3
  rw [Int.natCast_mul] at e1 e2 e3
  rw [show (x1 : Int) * 256 = (x1 : Int) * ((256 : Nat) : Int) from rfl, e1, show (x2 : Int) * 65536 = (x2 : Int) * ((65536 : Nat) : Int) from rfl, e2, show (x3 : Int) * 16777216 = (x3 : Int) * ((16777216 : Nat) : Int) from rfl, e3]
  congr 1
  omega

set_option maxHeartbeats 1000000 in
theorem take_any {w : World} {S : Nat → Prop} {v : Value} {l : List UInt8} (h : Bs w S v l) (hl : 4 ≤ l.length) :
    Calls Tryd.prog 29 #[v] w fun e w' => e = .returned (.int .u32 (from4 l : Nat)) ∧ ∃ n, w' = w.drewN n := by
  obtain ⟨A, c, rfl, h1, h2, h3, h4⟩ := h.open_
  obtain ⟨ad, x0, x1, x2, x3, rfl, y0, y1, y2, y3, hv, c0, c1, c2, c3⟩ := cells4 h4 hl
  rw [hv]
  have b0 : (0 : Int) < (l.length : Int) := by omega
  have b1 : (1 : Int) < (l.length : Int) := by omega
  have b2 : (2 : Int) < (l.length : Int) := by omega
  have b3 : (3 : Int) < (l.length : Int) := by omega
  clear hv h3 h4 h1 h2 h
  go_enter Tryd.func29, Tryd.ntmps29
  go_wp2_with fail
  go_quiet (fail)
  go_wp2_with fail
  go_ret
  exact ⟨by rw [← or4 x0 x1 x2 x3 y0 y1 y2 y3]; rfl, _, rfl⟩
set_option maxHeartbeats 1000000 in
theorem from_any {w : World} {S : Nat → Prop} {v : Value} {l : List UInt8} (h : Bs w S v l) (hl : 4 ≤ l.length) :
    Calls Tryd.prog 28 #[v] w fun e w' => e = .returned (.int .u32 (from4 l : Nat)) ∧ ∃ n, w' = w.drewN n := by
  obtain ⟨A, c, rfl, h1, h2, h3, h4⟩ := h.open_
  obtain ⟨ad, x0, x1, x2, x3, rfl, y0, y1, y2, y3, hv, c0, c1, c2, c3⟩ := cells4 h4 hl
  rw [hv]
  have b0 : (0 : Int) < (l.length : Int) := by omega
  have b1 : (1 : Int) < (l.length : Int) := by omega
  have b2 : (2 : Int) < (l.length : Int) := by omega
  have b3 : (3 : Int) < (l.length : Int) := by omega
  clear hv h3 h4 h1 h2 h
  go_enter Tryd.func28, Tryd.ntmps28
  go_wp2_with fail
  go_quiet (fail)
  go_wp2_with fail
  go_ret
  exact ⟨by rw [← or4 x0 x1 x2 x3 y0 y1 y2 y3]; rfl, _, rfl⟩

theorem four_map (n : Nat) (hn : n < 4294967296) : (four n).map bv = [.int .u8 ((n : Int) % 256), .int .u8 ((n : Int) / 256 % 256), .int .u8 ((n : Int) / 65536 % 256), .int .u8 ((n : Int) / 16777216)] := by
  have : n / 16777216 % 256 = n / 16777216 := by omega
  simp only [four, List.map_cons, List.map_nil, bv, u8_mod, this]
  rfl
set_option maxHeartbeats 1000000 in
theorem four_any {w : World} (n : Nat) (hn : n < 4294967296) :
    Calls Tryd.prog 24 #[.int .u32 n] w fun e w' => ∃ v', e = .returned v' ∧ Own w' 5 v' ((four n).map bv) ∧ Fresh w.heap.size v' ∧ Ext w w' := by
  go_enter Tryd.func24, Tryd.ntmps24
  go_wp2_with fail
  go_ret
  rw [four_map n hn]
  exact ⟨_, rfl, Own.lit w 5 _ (by simp [maxLen]), fun k hk => by have : w.heap.size = k := Option.some.inj hk; omega, (Mod.refl _ w).alloc _⟩
set_option maxHeartbeats 1000000 in
theorem lay_any {w : World} {v : Value} {xs : List Value} (h : Own w 5 v xs) (n : Nat) (hn : n < 4294967296) (hl : xs.length + 4 ≤ 140737488355328) :
    Calls Tryd.prog 22 #[v, .int .u32 n] w fun e w' => ∃ v', e = .returned v' ∧ Own w' 5 v' (xs ++ (four n).map bv) ∧ Next w.heap.size v v' ∧ Mod (own v) w w' := by
  have hs := Sl.lit w 5 [.int .u8 ((n : Int) % 256), .int .u8 ((n : Int) / 256 % 256), .int .u8 ((n : Int) / 65536 % 256), .int .u8 ((n : Int) / 16777216)] (by simp [maxLen])
  have ho : ∀ u ∈ [Value.int .u8 ((n : Int) % 256), .int .u8 ((n : Int) / 256 % 256), .int .u8 ((n : Int) / 65536 % 256), .int .u8 ((n : Int) / 16777216)], u.oneCell' = true := by simp [Value.oneCell']
  obtain ⟨A, c, rfl⟩ := h.shape
  rw [four_map n hn]
  go_enter Tryd.func22, Tryd.ntmps22
  go_wp2_with ((with_reducible show wpList _ _ _ (⟨some 18, _, _, _, _, _⟩ :: _) _ _); refine wp_app tyB (h.alloc _) hs ho rfl (.tmp 5) (.tmp 17) rfl rfl rfl ?hn ?_; rotate_right; intro v1 w1 hown1 hmod1 hnx1)
  case hn => simp; omega
  go_ret
  exact ⟨v1, rfl, hown1, hnx1.imp id (fun h => h.mono (by simp)), (Mod.alloc (Mod.refl (fun _ => False) w) _).trans hmod1 (fun _ _ h => h.elim) (fun _ _ h => h)⟩
end Go.Proofs.YtckgnnopoekniaaDoor

/- block: the law Shares. -/
import Derived.Test.YtlfooppmdgddkaaCelO
import Derived.Test.YtlfooppmdgddkaaAppS
namespace Go.Proofs.Ytlfooppmdgddkaa
open Go.RowKit
set_option maxRecDepth 100000

set_option maxHeartbeats 16000000 in
theorem blockShares_walk {w : World} {n m : Int} :
    Calls Try.prog 9 #[.int .i64 n, .int .i64 m] w fun e w' => e = .returned (.bool true) ∧ Ext w w' := by
  have hkn := fun wx => known7_any (w := wx)
  by_cases hs : n < 1 ∨ 60 < n ∨ m < 4 ∨ 100 < m
  · by_cases g1 : n < 1
    · have b1 : decide (n < 1) = true := dtrue g1
      go_enter Try.func9, Try.ntmps9
      go_wp2_with fail
      refine (hkn _).mono ?_
      rintro e w7 ⟨rfl, x7⟩
      go_wp2_with fail
      go_ret
      exact ⟨rfl, x7⟩
    have b1 : decide (n < 1) = false := dfalse g1
    by_cases g2 : 60 < n
    · have b2 : decide (60 < n) = true := dtrue g2
      go_enter Try.func9, Try.ntmps9
      go_wp2_with fail
      refine (hkn _).mono ?_
      rintro e w7 ⟨rfl, x7⟩
      go_wp2_with fail
      go_ret
      exact ⟨rfl, x7⟩
    have b2 : decide (60 < n) = false := dfalse g2
    by_cases g3 : m < 4
    · have b3 : decide (m < 4) = true := dtrue g3
      go_enter Try.func9, Try.ntmps9
      go_wp2_with fail
      refine (hkn _).mono ?_
      rintro e w7 ⟨rfl, x7⟩
      go_wp2_with fail
      go_ret
      exact ⟨rfl, x7⟩
    have b3 : decide (m < 4) = false := dfalse g3
    have b4 : decide (100 < m) = true := dtrue (by omega)
    go_enter Try.func9, Try.ntmps9
    go_wp2_with fail
    refine (hkn _).mono ?_
    rintro e w7 ⟨rfl, x7⟩
    go_wp2_with fail
    go_ret
    exact ⟨rfl, x7⟩
  have b1 : decide (n < 1) = false := dfalse (by omega)
  have b2 : decide (60 < n) = false := dfalse (by omega)
  have b3 : decide (m < 4) = false := dfalse (by omega)
  have b4 : decide (100 < m) = false := dfalse (by omega)
  obtain ⟨N, rfl⟩ : ∃ N : Nat, n = N := ⟨n.toNat, by omega⟩
  obtain ⟨M, rfl⟩ : ∃ M : Nat, m = M := ⟨m.toNat, by omega⟩
  have hN : N ≤ 60 := by omega
  have hM : M ≤ 100 := by omega
  clear hs
  go_enter Try.func9, Try.ntmps9
  go_wp2_with fail
  clear b1 b2 b3 b4
  go_loopw [5, 6] (fun t i wr => ∃ k : Nat, k ≤ M ∧ i = .int .i64 k ∧ t = sv (List.replicate k 107) ∧ Ext w wr) (fun _ i _ => M - (intOf i).toNat)
  case atStart => exact ⟨0, Nat.zero_le _, rfl, rfl, Mod.refl _ _⟩
  case round =>
    obtain ⟨k, hk, rfl, rfl, q3⟩ := hrel
    by_cases hlt : k < M
    · have hbl : decide ((k : Int) < (M : Int)) = true := dtrue (by omega)
      have hcat : (⟨(List.replicate k (107 : UInt8)).toArray⟩ : ByteArray) ++ ⟨#[107]⟩ = ⟨(List.replicate k (107 : UInt8) ++ [107]).toArray⟩ := cat_data _ [107]
      have hrep : List.replicate k (107 : UInt8) ++ [107] = List.replicate (k + 1) 107 := List.replicate_succ'.symm
      rw [hrep] at hcat
      have hln : (List.replicate k (107 : UInt8)).length = k := List.length_replicate
      have hzs := sv_size (List.replicate k (107 : UInt8))
      generalize List.replicate k (107 : UInt8) = P at *
      obtain ⟨P1, hP1⟩ : ∃ P1, P1 = List.replicate (k + 1) (107 : UInt8) := ⟨_, rfl⟩
      rw [← hP1] at hcat hrep
      replace hP1 := Lib.hid hP1
      go_wp2_with fail
      exact ⟨⟨k + 1, by omega, by go_num, by rw [← hP1.out], q3⟩, by simp [intOf] <;> omega⟩
    have hbl : decide ((k : Int) < (M : Int)) = false := dfalse (by omega)
    obtain rfl : k = M := by omega
    obtain ⟨P, hP⟩ : ∃ P, P = List.replicate k (107 : UInt8) := ⟨_, rfl⟩
    have hPl : P.length = k := by rw [hP]; exact List.length_replicate
    rw [← hP]
    clear hP
    go_wp2_with fail
    generalize wr = w0 at *
    go_loopw [7, 8, 9] (fun vl vk i wx => ∃ j : Nat, j ≤ N ∧ i = .int .i64 j ∧ OwnC wx vl (shL (shC P) j) ∧ OwnC wx vk (shL (shD P) j) ∧ Fresh w0.heap.size vl ∧ Fresh w0.heap.size vk ∧ Hid (∀ b, own vl b → own vk b → False) ∧ Ext w0 wx) (fun _ _ i _ => N - (intOf i).toNat)
    case atStart => exact ⟨0, Nat.zero_le _, rfl, OwnR.nil _ _ _ _, OwnR.nil _ _ _ _, fresh_nil _ _ _, fresh_nil _ _ _, Lib.hid (fun b h => (by cases h)), Mod.refl _ _⟩
    case round =>
      obtain ⟨j, hj, rfl, ol, ok, fl, fk, dj, q4⟩ := hrel
      by_cases hjl : j < N
      · have hbj : decide ((j : Int) < (N : Int)) = true := dtrue (by omega)
        have hu8 : IntKind.u8.wrap (65 + (j : Int)) = ((shB j).toNat : Int) := by rw [shB_nat (by omega), IntKind.wrap_u8]; omega
        have sl1 : ∀ wx : World, Bs (wx.alloc (.cells #[.int .u8 ((shB j).toNat : Int)] 5)) (fun k => k = wx.heap.size) (.slice (some ⟨wx.heap.size, 0, none⟩) 1 1) [shB j] := fun wx => Sl.one wx _ _
        have hcv := fun wx : World => run_conv (P := Try.prog) Try.underlying30 Try.underlying5 Try.underlying9 (sl1 wx)
        have hc1 : (⟨P.toArray⟩ : ByteArray) ++ ⟨[shB j].toArray⟩ = ⟨(P ++ [shB j]).toArray⟩ := cat_data _ _
        have hc2 : (⟨[shB j].toArray⟩ : ByteArray) ++ ⟨P.toArray⟩ = ⟨(shB j :: P).toArray⟩ := cat_data _ _
        have hzp := sv_size P
        have hzp2 := sv_size [shB j]
        go_upto_region 13 with fail
        have hn1 := Lib.hid (show ((shL (shC P) j).length + 1) * 48 ≤ 140737488355328 by rw [shL_len]; omega)
        have hn2 := Lib.hid (show ((shL (shD P) j).length + 1) * 48 ≤ 140737488355328 by rw [shL_len]; omega)
        have g1 := ol.alloc (.cells #[.int .u8 ((shB j).toNat : Int)] 5)
        have g2 := ok.alloc (.cells #[.int .u8 ((shB j).toNat : Int)] 5)
        have q5 : Ext w0 (wr.alloc (.cells #[.int .u8 ((shB j).toNat : Int)] 5)) := q4.alloc _
        have hz5 := Lib.hid q5.size
        obtain ⟨w5, hw5⟩ : ∃ w5, w5 = wr.alloc (.cells #[.int .u8 ((shB j).toNat : Int)] 5) := ⟨_, rfl⟩
        rw [← hw5] at g1 g2 q5 hz5 ⊢
        clear hw5 ol ok q4 hcv sl1 hu8
        obtain ⟨A7, c7, rfl⟩ := g1.shape
        obtain ⟨A8, c8, rfl⟩ := g2.shape
        go_upto_region 14 with ((with_reducible show wpList _ _ _ (⟨some 53, _, _, _, _, _⟩ :: _) _ _); refine wp_appR tyC cel_len g1 rfl (cel_ok (shC P j)) hn1.out rfl (.tmp 47) (.tmp 52) rfl rfl rfl ?_; intro v6 w6 k1 k2 k3)
        have g6 := g2.mod k2 (fun b hb hb' => dj.out b hb' hb)
        have q6 : Ext w0 w6 := q5.trans k2 (fun _ _ h => h) (fun i hi hF => by have := fl i hF; omega)
        have f6 : Fresh w0.heap.size v6 := k3.fresh fl hz5.out
        have d6 : Hid (∀ b, own v6 b → own (.slice A8 (shL (shD P) j).length c8) b → False) := Lib.hid (fun b hb hb' => dj.out b (k3.sub (g2.lt hb') hb) hb')
        have hz6 := Lib.hid q6.size
        clear g1 g2 q5 k2 k3 fl dj hz5 hn1
        rw [← shL_snoc] at k1
        go_wp2_with ((with_reducible show wpList _ _ _ (⟨some 60, _, _, _, _, _⟩ :: _) _ _); refine wp_appR tyC cel_len g6 rfl (cel_ok (shD P j)) hn2.out rfl (.tmp 54) (.tmp 59) rfl rfl rfl ?_; intro v7 w7 m1 m2 m3)
        have g7 := k1.mod m2 (fun b hb hb' => d6.out b hb hb')
        have q7 : Ext w0 w7 := q6.trans m2 (fun _ _ h => h) (fun i hi hF => by have := fk i hF; omega)
        have f7 : Fresh w0.heap.size v7 := m3.fresh fk hz6.out
        have d7 : Hid (∀ b, own v6 b → own v7 b → False) := Lib.hid (fun b hb hb' => d6.out b hb (m3.sub (k1.lt hb) hb'))
        rw [← shL_snoc] at m1
        exact ⟨⟨j + 1, by omega, by go_num, g7, m1, f6, f7, d7, q7⟩, by simp [intOf] <;> omega⟩
      have hbj : decide ((j : Int) < (N : Int)) = false := dfalse (by omega)
      obtain rfl : j = N := by omega
      have hmul : j * (P.length + 2) ≤ 60 * 102 := Nat.mul_le_mul hN (by omega)
      have hen1 := fun (wx : World) (hx : Ext wr wx) => encode_any (ol.rc.ext hx) (by rw [shC_wC]; omega)
      have hen2 := fun (wx : World) (hx : Ext wr wx) => encode_any (ok.rc.ext hx) (by rw [shD_wC]; omega)
      rw [shC_rise (by omega) hN, encR_zero (shC_rise (by omega) hN)] at hen1
      rw [shD_rise (by omega) hN, encR_zero (shD_rise (by omega) hN)] at hen2
      go_wp2_with fail
      refine (hen1 _ (Mod.refl _ _)).mono ?_
      rintro e w3 ⟨v3, rfl, o3, -, x3⟩
      go_wp2_with fail
      refine (hen2 _ x3).mono ?_
      rintro e w4 ⟨v4, rfl, o4, -, x4⟩
      have x0 := ext_trans q3 (ext_trans q4 (ext_trans x3 x4))
      obtain ⟨a, ha⟩ : ∃ a, a = (encB (shL (shC P) j)).length := ⟨_, rfl⟩
      obtain ⟨b, hb⟩ : ∃ b, b = (encB (shL (shD P) j)).length := ⟨_, rfl⟩
      have s3 : ∃ A c, v3 = .slice A a c := by
        obtain ⟨A, c, hs⟩ := o3.shape
        exact ⟨A, c, by rw [hs, List.length_map, ha]⟩
      have s4 : ∃ A c, v4 = .slice A b c := by
        obtain ⟨A, c, hs⟩ := o4.shape
        exact ⟨A, c, by rw [hs, List.length_map, hb]⟩
      obtain ⟨A3, c3, rfl⟩ := s3
      obtain ⟨A4, c4, rfl⟩ := s4
      rw [shC_len (by omega) hN, hPl] at ha
      rw [shD_len (by omega) hN, hPl] at hb
      have hm1 : j * k ≤ 60 * 100 := Nat.mul_le_mul hN hM
      have hm2 : (j + 3) / 4 * k ≤ 60 * 100 := Nat.mul_le_mul (by omega) hM
      have hm3 : (j - (j + 3) / 4) * k = j * k - (j + 3) / 4 * k := Nat.sub_mul _ _ _
      have hm4 : (j + 3) / 4 * k ≤ j * k := Nat.mul_le_mul (by omega) (Nat.le_refl _)
      rw [Nat.mul_add] at hb
      have hb0 : b ≤ 10000 := by omega
      have ha0 : a ≤ 10000 := by omega
      have e1 : (j : Int) * ((k : Int) + 6) = (b : Int) := by
        have : (j : Int) * ((k : Int) + 6) = ((j * (k + 6) : Nat) : Int) := by push_cast; rfl
        rw [this, Nat.mul_add]
        omega
      have e2 : ((j : Int) - ((j : Int) + 4 - 1) / 4) * (k : Int) = (b : Int) - (a : Int) := by
        have h3 : (j : Int) - ((j : Int) + 4 - 1) / 4 = ((j - (j + 3) / 4 : Nat) : Int) := by omega
        have h4 : ((j - (j + 3) / 4 : Nat) : Int) * (k : Int) = (((j - (j + 3) / 4) * k : Nat) : Int) := by push_cast; rfl
        rw [h3, h4, hm3]
        omega
      clear hm1 hm2 hm3 hm4 ha hb
      clear hen1 hen2 o3 o4 ol ok fl fk dj x3 x4 hmul
      go_wp2_with fail
      refine (hkn _).mono ?_
      rintro e w7 ⟨rfl, x7⟩
      go_wp2_with fail
      go_ret
      exact ⟨rfl, ext_trans x0 x7⟩
end Go.Proofs.Ytlfooppmdgddkaa

/- ber: own, Tag. -/
import Derived.Test.YtodklnbimpdbjaaBerB
namespace Go.Proofs.Ytodklnbimpdbjaa
open Go.RowKit
set_option maxRecDepth 100000

set_option maxHeartbeats 1000000 in
theorem tag_any {w : World} {S : Nat → Prop} {y : Value} {L : List (List UInt8)} (t : UInt8) (hy : Rw w S y L) (hl : L.flatten.length ≤ 65536) :
    Calls Try.prog 13 #[.int .u8 t.toNat, y] w fun e w' => ∃ v', e = .returned v' ∧ Own w' 5 v' ((t :: lay L.flatten.length ++ L.flatten).map bv) ∧ Fresh w.heap.size v' ∧ Ext w w' := by
  obtain ⟨A, c, vs, rfl, h1, h2, h3, h4, h5, h6⟩ := hy.open_
  go_enter Try.func13, Try.ntmps13
  go_wp2_with fail
  go_loop [5, 13] (fun n i => ∃ k : Nat, k ≤ L.length ∧ i = .int .i64 k ∧ n = .int .i64 (flen L k : Nat)) (fun _ i => L.length - (intOf i).toNat)
  case atStart => exact ⟨0, Nat.zero_le _, rfl, by simp [flen]⟩
  case round =>
    obtain ⟨k, hk, rfl, rfl⟩ := hrel
    by_cases hlt : k < L.length
    · obtain ⟨ad, x, rfl, hs, hc, hbs⟩ := row_at h4 h5 h6 hlt
      obtain ⟨A2, c2, rfl, k1, k2, k3, k4⟩ := hbs.open_
      have hsn := flen_snoc L k hlt
      have hle := flen_le L k
      have hle1 := flen_le L (k + 1)
      rw [hsn] at hle1
      replace hsn := Lib.hid hsn
      obtain ⟨tot, htot⟩ : ∃ t, t = L.flatten.length := ⟨_, rfl⟩
      rw [← htot] at hl hle hle1
      replace htot := Lib.hid htot
      go_wp2
      exact ⟨⟨k + 1, by omega, by go_num, by rw [hsn.out]; go_num⟩, by simp [intOf] <;> omega⟩
    · have hfl : flen L k = L.flatten.length := flen_all L k (by omega)
      rw [hfl]
      clear hfl
      obtain ⟨n, hn⟩ : ∃ n, n = L.flatten.length := ⟨_, rfl⟩
      rw [← hn]
      rw [← hn] at hl
      replace hn := Lib.hid hn
      go_wp2_with fail
      have hown1 : Own (w.alloc (.cells #[.int .u8 (t.toNat : Int)] 5)) 5 (.slice (some ⟨w.heap.size, 0, none⟩) 1 1) ([t].map bv) := Own.lit w 5 [bv t] (by simp [maxLen])
      have hf1 : Fresh w.heap.size (.slice (some ⟨w.heap.size, 0, none⟩) 1 1) := fun k hk => by have : w.heap.size = k := Option.some.inj hk; omega
      have hx1 : Ext w (w.alloc (.cells #[.int .u8 (t.toNat : Int)] 5)) := (Mod.refl _ w).alloc _
      refine (laylen_any hown1 (by omega) (by simp)).mono ?_
      rintro e w2 ⟨v2, rfl, k1, k2, k3⟩
      have hx2 : Ext w w2 := ext_app0 hx1 hf1 k3
      have hf2 : Fresh w.heap.size v2 := k2.fresh hf1 hx1.size
      have hll := lay_len n
      rw [show [t] ++ lay n = t :: lay n from rfl] at k1
      obtain ⟨ly, hly⟩ : ∃ ly, ly = lay n := ⟨_, rfl⟩
      rw [← hly] at hll k1
      replace hly := Lib.hid hly
      clear k2 k3 hx1 hown1 hf1
      obtain ⟨A2, c2, rfl⟩ := k1.shape
      go_wp2_with fail
      go_loopw [8, 28] (fun v i wr => ∃ k : Nat, k ≤ L.length ∧ i = .int .i64 k ∧ Own wr 5 v ((t :: ly ++ (L.take k).flatten).map bv) ∧ Fresh w.heap.size v ∧ Ext w wr) (fun _ i _ => L.length - (intOf i).toNat)
      case atStart => exact ⟨0, Nat.zero_le _, rfl, by simpa using k1, by simpa using hf2, hx2⟩
      case round =>
        clear hlt k1 hf2 hx2
        obtain ⟨k, hk, rfl, hown, hf, hm⟩ := hrel
        by_cases hlt : k < L.length
        · obtain ⟨ad, x, rfl, hs, hc, hbs⟩ := row_at h4 (h5.mod hm (fun _ _ _ h => h)) (fun k x l hx hl => (h6 k x l hx hl).ext hm) hlt
          have hsn := Lib.hid (flat_snoc L k hlt)
          have hle1 := flat_take L (k + 1)
          rw [hsn.out, List.length_append, ← hn.out] at hle1
          have hln : (((t :: ly ++ (L.take k).flatten).map bv).length + (L[k].map bv).length) * 1 ≤ 140737488355328 := by
            rw [List.length_map, List.length_append, List.length_cons, List.length_map]; omega
          replace hle1 := Lib.hid hle1
          replace hln := Lib.hid hln
          go_wp2_with ((with_reducible show wpList _ _ _ (⟨some 34, _, _, _, _, _⟩ :: _) _ _); refine wp_app tyB hown hbs (bv_one _) rfl (.tmp 32) (.tmp 33) rfl rfl rfl hln.out ?_; intro v2 w2 hown2 hmod2 hnx2)
          exact ⟨⟨k + 1, by omega, by go_num, by rw [hsn.out, ← List.append_assoc, List.map_append]; exact hown2, hnx2.fresh hf hm.size, ext_app0 hm hf hmod2⟩, by simp [intOf] <;> omega⟩
        · rw [List.take_of_length_le (by omega)] at hown
          go_wp2_with fail
          go_ret
          exact ⟨_, rfl, by rw [← hn.out, ← hly.out]; exact hown, hf, hm⟩
end Go.Proofs.Ytodklnbimpdbjaa

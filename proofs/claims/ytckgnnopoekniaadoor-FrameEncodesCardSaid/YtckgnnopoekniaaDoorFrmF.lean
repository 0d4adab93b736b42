/- frame: Encode. -/
import Derived.Test.YtckgnnopoekniaaDoorFrmE
namespace Go.Proofs.YtckgnnopoekniaaDoor
open Go.RowKit
set_option maxRecDepth 100000

set_option maxHeartbeats 1000000 in
theorem encode_any {w : World} {S : Nat → Prop} {y : Value} {L : List (List UInt8)} (hy : Rw w S y L) (hN : Nib w) (hl : L.flatten.length ≤ 1048576) :
    Calls Tryd.prog 8 #[y] w fun e w' => ∃ v', e = .returned (.tuple #[v', .int .i64 0]) ∧ Own w' 5 v' ((frec L.flatten).map bv) ∧ Fresh w.heap.size v' ∧ Ext w w' := by
  obtain ⟨A, c, vs, rfl, h1, h2, h3, h4, h5, h6⟩ := hy.open_
  go_enter Tryd.func8, Tryd.ntmps8
  go_wp2_with fail
  go_loop [4, 12] (fun n i => ∃ k : Nat, k ≤ L.length ∧ i = .int .i64 k ∧ n = .int .i64 (flen L k : Nat)) (fun _ i => L.length - (intOf i).toNat)
  case atStart => exact ⟨0, Nat.zero_le _, rfl, by simp [flen]⟩
  case round =>
    obtain ⟨k, hk, rfl, rfl⟩ := hrel
    by_cases hlt : k < L.length
    · obtain ⟨ad, x, rfl, hs, hc, hbs⟩ := row_at h4 h5 h6 hlt
      obtain ⟨A2, c2, rfl, k1, k2, k3, k4⟩ := hbs.open_
      have hsn := flen_snoc L k hlt
      have hle := flen_le L k
      have hle1 := flen_le L (k + 1)
      rw [hsn] at hle1
      replace hsn := Lib.hid hsn
      obtain ⟨tot, htot⟩ : ∃ t, t = L.flatten.length := ⟨_, rfl⟩
      rw [← htot] at hl hle hle1
      replace htot := Lib.hid htot
      go_wp2
      exact ⟨⟨k + 1, by omega, by go_num, by rw [hsn.out]; go_num⟩, by simp [intOf]; omega⟩
    · have hfl : flen L k = L.flatten.length := flen_all L k (by omega)
      rw [hfl]
      clear hfl
      obtain ⟨n, hn⟩ : ∃ n, n = L.flatten.length := ⟨_, rfl⟩
      rw [← hn]
      rw [← hn] at hl
      replace hn := Lib.hid hn
      go_wp2_with ((with_reducible show wpList _ _ _ (⟨some 26, _, _, _, _, _⟩ :: _) _ _); refine wp_make0 tyB (8 + n + 4) rfl (.const (.int .i64 0)) (.tmp 25) rfl rfl rfl (by omega) ?_; intro w1 hown1 hext1 hlt1)
      have hf1 : Fresh w.heap.size (.slice (some ⟨w.heap.size, 0, none⟩) 0 (8 + n + 4)) := fun k hk => by have : w.heap.size = k := Option.some.inj hk; omega
      refine (lay_any hown1 n (by omega) (by simp)).mono ?_
      rintro e w2 ⟨v2, rfl, k1, k2, k3⟩
      have hx2 : Ext w w2 := ext_app0 hext1 hf1 k3
      have hf2 : Fresh w.heap.size v2 := k2.fresh hf1 hext1.size
      rw [List.nil_append] at k1
      clear k2 k3 hext1 hown1 hlt1 hf1
      obtain ⟨A2, c2, rfl⟩ := k1.shape
      go_wp2_with fail
      refine (sum_any (Rw.one 23 k1.sl) (hN.mod (Mod.alloc hx2 _) (fun h => h))).mono ?_
      rintro e w3 ⟨rfl, rfl⟩
      go_wp2_with fail
      refine (lay_any (k1.alloc _) _ (sumOf_lt _) (by simp [four])).mono ?_
      rintro e w4 ⟨v4, rfl, m1, m2, m3⟩
      rw [← List.map_append] at m1
      have hx4 : Ext w w4 := ext_app hx2 hf2 m3
      have hf4 : Fresh w.heap.size v4 := m2.fresh hf2 (by simp; have := hx2.size; omega)
      clear m2 m3 k1 hf2 hx2
      replace m1 : Own w4 5 v4 ((fhead n).map bv) := m1
      obtain ⟨A4, c4, rfl⟩ := m1.shape
      go_wp2_with fail
      go_loopw [7, 38] (fun v i wr => ∃ k : Nat, k ≤ L.length ∧ i = .int .i64 k ∧ Own wr 5 v ((fhead n ++ (L.take k).flatten).map bv) ∧ Fresh w.heap.size v ∧ Ext w wr) (fun _ i _ => L.length - (intOf i).toNat)
      case atStart => exact ⟨0, Nat.zero_le _, rfl, by simpa using m1, hf4, hx4⟩
      case round =>
        clear hlt m1 hf4 hx4
        obtain ⟨k, hk, rfl, hown, hf, hm⟩ := hrel
        by_cases hlt : k < L.length
        · obtain ⟨ad, x, rfl, hs, hc, hbs⟩ := row_at h4 (h5.mod hm (fun _ _ _ h => h)) (fun k x l hx hl => (h6 k x l hx hl).ext hm) hlt
          have hsn := Lib.hid (flat_snoc L k hlt)
          have hle1 := flat_take L (k + 1)
          rw [hsn.out, List.length_append, ← hn.out] at hle1
          have hln : (((fhead n ++ (L.take k).flatten).map bv).length + (L[k].map bv).length) * 1 ≤ 140737488355328 := by
            rw [List.length_map, List.length_append, fhead_len, List.length_map]; omega
          replace hle1 := Lib.hid hle1
          replace hln := Lib.hid hln
          go_wp2_with ((with_reducible show wpList _ _ _ (⟨some 44, _, _, _, _, _⟩ :: _) _ _); refine wp_app tyB hown hbs (bv_one _) rfl (.tmp 42) (.tmp 43) rfl rfl rfl hln.out ?_; intro v2 w2 hown2 hmod2 hnx2)
          exact ⟨⟨k + 1, by omega, by go_num, by rw [hsn.out, ← List.append_assoc, List.map_append]; exact hown2, hnx2.fresh hf hm.size, ext_app0 hm hf hmod2⟩, by simp [intOf]; omega⟩
        · have hfb : fhead n ++ (L.take k).flatten = fbody L.flatten := by rw [List.take_of_length_le (by omega), hn.out]; rfl
          rw [hfb] at hown
          clear hfb
          have hbl : (fbody L.flatten).length ≤ 2000000 := by rw [fbody_len, ← hn.out]; omega
          have hfr : frec L.flatten = fbody L.flatten ++ four (sumOf (fbody L.flatten)) := rfl
          replace hfr := Lib.hid hfr
          generalize fbody L.flatten = bd at *
          obtain ⟨A5, c5, rfl⟩ := hown.shape
          rw [List.length_map] at hown hf ⊢
          go_wp2_with fail
          refine (sum_any (Rw.one 23 hown.sl) (hN.mod (Mod.alloc hm _) (fun h => h))).mono ?_
          rintro e w3 ⟨rfl, rfl⟩
          go_wp2_with fail
          refine (lay_any (hown.alloc _) _ (sumOf_lt _) (by rw [List.length_map]; omega)).mono ?_
          rintro e w6 ⟨v6, rfl, p1, p2, p3⟩
          go_wp2_with fail
          go_ret2
          rw [hfr.out]
          exact ⟨v6, rfl, by rw [List.map_append]; simpa using p1, p2.fresh hf (by simp; have := hm.size; omega), ext_app hm hf p3⟩
end Go.Proofs.YtckgnnopoekniaaDoor

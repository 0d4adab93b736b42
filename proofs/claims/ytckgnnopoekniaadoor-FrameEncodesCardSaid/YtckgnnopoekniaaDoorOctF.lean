/- octet: rows joined; the document's answer to numbers and rows; bytes with room behind them. -/
import Derived.Test.YtckgnnopoekniaaDoorOctE
namespace Go.Proofs.YtckgnnopoekniaaDoor
open Go.RowKit
set_option maxRecDepth 100000

/-- All rows, one behind the other. -/
theorem flat_snoc (L : List (List UInt8)) (k : Nat) (h : k < L.length) : (L.take (k + 1)).flatten = (L.take k).flatten ++ L[k] := by
  rw [List.take_succ_eq_append_getElem h, List.flatten_append]
  simp
theorem flat_take (L : List (List UInt8)) (k : Nat) : (L.take k).flatten.length ≤ L.flatten.length := by
  have e : L.flatten = (L.take k).flatten ++ (L.drop k).flatten := by
    rw [← List.flatten_append, List.take_append_drop]
  rw [e, List.length_append]; omega
def flen (L : List (List UInt8)) (k : Nat) : Nat := (L.take k).flatten.length
theorem flen_snoc (L : List (List UInt8)) (k : Nat) (h : k < L.length) : flen L (k + 1) = flen L k + L[k].length := by
  unfold flen; rw [flat_snoc L k h, List.length_append]
theorem flen_le (L : List (List UInt8)) (k : Nat) : flen L k ≤ L.flatten.length := flat_take L k
theorem flen_all (L : List (List UInt8)) (k : Nat) (h : L.length ≤ k) : flen L k = L.flatten.length := by unfold flen; rw [List.take_of_length_le h]
set_option maxHeartbeats 400000 in
theorem join_any {w : World} {S : Nat → Prop} {y : Value} {L : List (List UInt8)} (hy : Rw w S y L) (hl : L.flatten.length ≤ 140737488355328) :
    Calls Tryd.prog 27 #[y] w fun e w' => ∃ v', e = .returned v' ∧ Own w' 5 v' (L.flatten.map bv) ∧ Fresh w.heap.size v' ∧ Ext w w' := by
  obtain ⟨A, c, vs, rfl, h1, h2, h3, h4, h5, h6⟩ := hy.open_
  go_enter Tryd.func27, Tryd.ntmps27
  go_wp2
  go_loop [3, 11] (fun n i => ∃ k : Nat, k ≤ L.length ∧ i = .int .i64 k ∧ n = .int .i64 (flen L k : Nat)) (fun _ i => L.length - (intOf i).toNat)
  case atStart => exact ⟨0, Nat.zero_le _, rfl, by simp [flen]⟩
  case round =>
    obtain ⟨k, hk, rfl, rfl⟩ := hrel
    by_cases hlt : k < L.length
    · obtain ⟨ad, x, rfl, hs, hc, hbs⟩ := row_at h4 h5 h6 hlt
      obtain ⟨A2, c2, rfl, k1, k2, k3, k4⟩ := hbs.open_
      have hsn := Lib.hid (flen_snoc L k hlt)
      have hle := flen_le L k
      have hle1 := flen_le L (k + 1)
      rw [hsn.out] at hle1
      go_wp2
      exact ⟨⟨k + 1, by omega, by go_num, by rw [hsn.out]; go_num⟩, by simp [intOf]; omega⟩
    · have hfl : flen L k = L.flatten.length := flen_all L k (by omega)
      rw [hfl]
      clear hfl
      obtain ⟨N, hN⟩ : ∃ N, N = L.flatten.length := ⟨_, rfl⟩
      rw [← hN]
      replace hN := Lib.hid hN
      have hN1 : N ≤ 140737488355328 := by rw [hN.out]; exact hl
      go_wp2_with ((with_reducible show wpList _ _ _ (⟨some 21, _, _, _, _, _⟩ :: _) _ _); refine wp_make0 tyB N rfl (.const (.int .i64 0)) (.tmp 20) rfl rfl rfl (by omega) ?_; intro w1 hown1 hext1 hlt1)
      go_loopw [6, 24] (fun v i wr => ∃ k : Nat, k ≤ L.length ∧ i = .int .i64 k ∧ Own wr 5 v ((L.take k).flatten.map bv) ∧ Fresh w.heap.size v ∧ Ext w wr) (fun _ i _ => L.length - (intOf i).toNat)
      case atStart => exact ⟨0, Nat.zero_le _, rfl, by simpa using hown1, fun k hk => by injection hk with hk; have : w.heap.size = k := hk; omega, hext1⟩
      case round =>
        clear hlt hown1 hext1 hlt1
        obtain ⟨k, hk, rfl, hown, hf, hm⟩ := hrel
        by_cases hlt : k < L.length
        · obtain ⟨ad, x, rfl, hs, hc, hbs⟩ := row_at h4 (h5.mod hm (fun _ _ _ h => h)) (fun k x l hx hl => (h6 k x l hx hl).ext hm) hlt
          have hsn := Lib.hid (flat_snoc L k hlt)
          have hle1 := flat_take L (k + 1)
          rw [hsn.out, List.length_append] at hle1
          go_wp2_with ((with_reducible show wpList _ _ _ (⟨some 30, _, _, _, _, _⟩ :: _) _ _); refine wp_app tyB hown hbs (bv_one _) rfl (.tmp 28) (.tmp 29) rfl rfl rfl ?hn ?_; rotate_right; intro v2 w2 hown2 hmod2 hnx2)
          case hn => simp only [List.length_map]; omega
          exact ⟨⟨k + 1, by omega, by go_num, by rw [hsn.out, List.map_append]; exact hown2, hnx2.fresh hf hm.size, ext_app0 hm hf hmod2⟩, by simp [intOf]; omega⟩
        · go_wp2
          go_ret
          rw [List.take_of_length_le (by omega)] at hown
          exact ⟨_, rfl, hown, hf, hm⟩
end Go.Proofs.YtckgnnopoekniaaDoor

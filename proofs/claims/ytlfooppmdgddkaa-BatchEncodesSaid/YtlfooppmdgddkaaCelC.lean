/- block: lay. -/
import Derived.Test.YtlfooppmdgddkaaCelB
import Derived.Test.YtlfooppmdgddkaaToB
import Derived.Test.YtlfooppmdgddkaaOctK
namespace Go.Proofs.Ytlfooppmdgddkaa
open Go.RowKit
set_option maxRecDepth 100000

/-- A cell as bytes, the key ahead being known. -/
def encC (ahead : List UInt8) (c : Ce) : List UInt8 :=
  enc7 (comm ahead c.key) ++ (enc7 (c.key.drop (comm ahead c.key)).length ++ c.key.drop (comm ahead c.key)) ++ enc7 (clamp c.seq) ++ (if c.del then enc7 1 else enc7 0 ++ (enc7 c.val.length ++ c.val))

/-- A cell is being laid: what stands at wi, when the call began at w. -/
structure Ly (w : World) (b : Nat) (v : Value) (c : Ce) (wi : World) (vi : Value) (li : List UInt8) : Prop where
  wr : Wr wi b vi li
  md : Mod (wrF b v) w wi
  nx : Next w.heap.size v vi
  bx : Blk wi w.heap.size 23 (car c)
  lt : b < w.heap.size
  ov : ∀ k, v.ownBlock = some k → k < w.heap.size
section
variable {w wi wj wk : World} {b : Nat} {v vi vk : Value} {c : Ce} {li lk : List UInt8}
theorem Ly.ext (h : Ly w b v c wi vi li) (hx : Ext wi wj) : Ly w b v c wj vi li := ⟨h.wr.mod hx (fun h => h) (fun _ _ h => h), h.md.then_ hx (fun _ _ h => h.elim), h.nx, h.bx.mod hx (fun h => h), h.lt, h.ov⟩
theorem Ly.offbox (h : Ly w b v c wi vi li) : ¬ wrF b vi w.heap.size := by
  rintro (h1 | h1)
  · have := h.lt; omega
  · rcases h.nx with h2 | h2
    · rw [h2] at h1; have := h.ov _ h1; omega
    · have := h.wr.row.ne_blk h.bx (by decide)
      exact this h1
theorem Ly.off (h : Ly w b v c wi vi li) {k : Nat} (hk : wi.heap.size ≤ k) : ¬ wrF b vi k := by
  rintro (h1 | h1)
  · have := h.lt; have := h.md.size; omega
  · have := h.wr.row.lt h1; omega
theorem Ly.call (h : Ly w b v c wi vi li) (g : Wr wk b vk lk) (m : Mod (wrF b vi) wi wk) (n : Next wi.heap.size vi vk) : Ly w b v c wk vk lk :=
  ⟨g, h.md.then_ m (fun k hk hh => wrF_sub h.nx k hk hh), h.nx.trans n h.md.size, h.bx.mod m h.offbox, h.lt, h.ov⟩
end
theorem ext_tail (l : List UInt8) (n : Nat) : Value.string ((⟨l.toArray⟩ : ByteArray).extract n l.length) = sv (l.drop n) := by
  congr 1
  apply ByteArray.ext
  simp [ByteArray.data_extract]
  exact List.take_of_length_le (by rw [List.length_drop]; exact Nat.le_refl _)
theorem encr_one_ (p : List UInt8) : encr [p] = enc7 p.length ++ p := by simp [encr]
theorem clamp_zero : clamp 0 = 0 := by decide
theorem clamp_one : clamp 1 = 1 := by decide
theorem enc7_ten {n : Nat} (h : n ≤ 4611686018427387904) : (enc7 n).length ≤ 10 := enc7_length 9 n (by omega)

set_option maxHeartbeats 8000000 in
theorem lay_any {w : World} {b : Nat} {v : Value} {l ahead : List UInt8} (c : Ce) (h : Wr w b v l) (ha : ahead.length ≤ 100000) (hk : c.key.length ≤ 100000) (hv : c.val.length ≤ 100000) (hl : l.length ≤ 100000000000) :
    Calls Try.prog 61 #[.pointer (some ⟨b, 0, none⟩), sv ahead, .agg (car c)] w fun e w' => e = .returned (.tuple #[]) ∧ ∃ v', Wr w' b v' (l ++ encC ahead c) ∧ Mod (wrF b v) w w' ∧ Next w.heap.size v v' := by
  have hz1 := sv_size c.key
  have hz2 := sv_size c.val
  have hcm := comm_le ahead c.key
  obtain ⟨E, hE⟩ : ∃ E, E = encC ahead c := ⟨_, rfl⟩
  rw [← hE]
  unfold encC at hE
  replace hE := Lib.hid hE
  obtain ⟨w0, hw0⟩ : ∃ w0, w0 = w.alloc (.cells (car c) 23) := ⟨_, rfl⟩
  have L0 : Ly w b v c w0 v l := by
    rw [hw0]
    exact ⟨h.mod ((Mod.refl (fun _ => False) w).alloc _) (fun h => h) (fun _ _ h => h), (Mod.refl _ w).alloc _, Next.refl _ _, Blk.new w _ _, h.blk.lt, fun k hk => h.row.lt hk⟩
  replace hw0 := Lib.hid hw0
  have hc : ∀ {wx : World}, Blk wx w.heap.size 23 (car c) → wx.cell? ⟨w.heap.size, 0, none⟩ = some (sv c.key) ∧ wx.cell? ⟨w.heap.size, 1, none⟩ = some (sv c.val) ∧ wx.cell? ⟨w.heap.size, 2, none⟩ = some (.bool c.del) ∧ wx.cell? ⟨w.heap.size, 3, none⟩ = some (.int .i64 c.seq) := fun B => ⟨Blk.cell B 0, Blk.cell B 1, Blk.cell B 2, Blk.cell B 3⟩
  obtain ⟨c0, c1, c2, c3⟩ := hc L0.bx
  go_enter Try.func61, Try.ntmps61
  go_upto_region 1 with fail
  rw [← hw0.out]
  go_wp2_with fail
  refine (alike_any ahead c.key (by omega) (by omega)).mono ?_
  rintro e w1 ⟨rfl, x1⟩
  have L1 := L0.ext x1
  clear L0 c0 c1 c2 c3 x1 hw0 h
  obtain ⟨c0, c1, c2, c3⟩ := hc L1.bx
  generalize comm ahead c.key = n at *
  go_wp2_with fail
  have L1' := L1.ext ((Mod.refl (fun _ => False) w1).alloc (.cells #[.int .i64 n] 3))
  have hy : Is (w1.alloc (.cells #[.int .i64 n] 3)) (fun k => k = w1.heap.size) (.slice (some ⟨w1.heap.size, 0, none⟩) 1 1) [(n : Int)] := Sl.one w1 3 (.int .i64 n)
  refine (wnums_any L1'.wr hy (fun k _ hk2 => by rw [hk2]; exact fun hh => L1.off (Nat.le_refl _) hh) (by simp; omega)).mono ?_
  rintro e w2 ⟨rfl, v2, h2, m2, n2⟩
  have L2 := L1'.call h2 m2 n2
  have en : encs [(n : Int)] = enc7 n := by simp [encs, clamp_nat n (by omega)]
  rw [en] at L2
  clear L1 L1' h2 m2 n2 hy c0 c1 c2 c3 en
  obtain ⟨c0, c1, c2, c3⟩ := hc L2.bx
  have hn0 : (0 : Int) ≤ (n : Int) := by omega
  have hn1 : (n : Int) ≤ (c.key.length : Int) := by omega
  have hxt := ext_tail c.key n
  have hdl : (c.key.drop n).length ≤ 100000 := by rw [List.length_drop]; omega
  have hel1 := enc7_ten (n := n) (by omega)
  have hel2 := enc7_ten (n := (c.key.drop n).length) (by omega)
  generalize c.key.drop n = kd at *
  go_wp2_with ((with_reducible show wpList _ _ _ (⟨some 20, _, _, _, _, _⟩ :: _) _ _); refine wp_tob Try.underlying9 Try.underlying30 Try.underlying5 (l := kd) (by omega) rfl (.tmp 19) rfl rfl ?_; intro cp w3 k1 k2 k3; replace k3 := Lib.hid k3)
  have L3 := L2.ext k2
  have L3' := L3.ext ((Mod.refl (fun _ => False) w3).alloc (.cells #[.slice (some ⟨w2.heap.size, 0, none⟩) kd.length cp] 30))
  have hR := Rw.one 30 k1
  refine (wbytes_any L3'.wr hR (fun k hk hS hF => ?_) (by simp [encr]; omega)).mono ?_
  · rcases hS with hS | hS
    · exact L2.off (by omega) hF
    · exact L3.off (by have := k3.out; omega) hF
  rintro e w4 ⟨rfl, v4, h4, m4, n4⟩
  have L4 := L3'.call h4 m4 n4
  rw [encr_one_] at L4
  clear L2 L3 L3' h4 m4 n4 hR k1 k2 k3 c0 c1 c2 c3
  obtain ⟨c0, c1, c2, c3⟩ := hc L4.bx
  have es : encs [c.seq, 1] = enc7 (clamp c.seq) ++ enc7 1 := by simp [encs, clamp_one]
  have es0 : encs [c.seq, 0] = enc7 (clamp c.seq) ++ enc7 0 := by simp [encs, clamp_zero]
  have hel3 := enc7_ten (n := clamp c.seq) (clamp_le _)
  have hel4 := enc7_ten (n := 0) (by omega)
  have hel5 := enc7_ten (n := c.val.length) (by omega)
  cases hdel : c.del
  case true =>
    rw [hdel] at c2 hE
    have hE2 : Hid (l ++ E = l ++ enc7 n ++ (enc7 kd.length ++ kd) ++ (enc7 (clamp c.seq) ++ enc7 1)) := Lib.hid (by rw [hE.out]; simp)
    clear hE hdel
    go_wp2_with fail
    have L5 := L4.ext ((Mod.refl (fun _ => False) w4).alloc (.cells #[.int .i64 c.seq, .int .i64 1] 3))
    have hy : Is (w4.alloc (.cells #[.int .i64 c.seq, .int .i64 1] 3)) (fun k => k = w4.heap.size) (.slice (some ⟨w4.heap.size, 0, none⟩) 2 2) [c.seq, 1] := Sl.lit w4 3 [.int .i64 c.seq, .int .i64 1] (by simp [maxLen])
    refine (wnums_any L5.wr hy (fun k _ hk2 => by rw [hk2]; exact fun hh => L4.off (Nat.le_refl _) hh) (by simp; omega)).mono ?_
    rintro e w6 ⟨rfl, v6, h6, m6, n6⟩
    have L6 := L5.call h6 m6 n6
    rw [es] at L6
    go_wp2_with fail
    (try simp only [Exit.inBlock, Exit.then])
    refine bodyPost_ret (results_none rfl _ _ _) rfl ?_
    exact ⟨rfl, v6, by rw [hE2.out]; exact L6.wr, L6.md, L6.nx⟩
  rw [hdel] at c2 hE
  have hE2 : Hid (l ++ E = l ++ enc7 n ++ (enc7 kd.length ++ kd) ++ (enc7 (clamp c.seq) ++ enc7 0) ++ (enc7 c.val.length ++ c.val)) := Lib.hid (by rw [hE.out]; simp)
  clear hE hdel
  go_wp2_with fail
  have L5 := L4.ext ((Mod.refl (fun _ => False) w4).alloc (.cells #[.int .i64 c.seq, .int .i64 0] 3))
  have hy : Is (w4.alloc (.cells #[.int .i64 c.seq, .int .i64 0] 3)) (fun k => k = w4.heap.size) (.slice (some ⟨w4.heap.size, 0, none⟩) 2 2) [c.seq, 0] := Sl.lit w4 3 [.int .i64 c.seq, .int .i64 0] (by simp [maxLen])
  refine (wnums_any L5.wr hy (fun k _ hk2 => by rw [hk2]; exact fun hh => L4.off (Nat.le_refl _) hh) (by simp; omega)).mono ?_
  rintro e w6 ⟨rfl, v6, h6, m6, n6⟩
  have L6 := L5.call h6 m6 n6
  rw [es0] at L6
  clear L4 L5 h6 m6 n6 hy c0 c1 c2 c3
  obtain ⟨c0, c1, c2, c3⟩ := hc L6.bx
  go_wp2_with ((with_reducible show wpList _ _ _ (⟨some 38, _, _, _, _, _⟩ :: _) _ _); refine wp_tob Try.underlying9 Try.underlying30 Try.underlying5 (l := c.val) (by omega) rfl (.tmp 37) rfl rfl ?_; intro cp2 w7 k1 k2 k3; replace k3 := Lib.hid k3)
  have L7 := L6.ext k2
  have L7' := L7.ext ((Mod.refl (fun _ => False) w7).alloc (.cells #[.slice (some ⟨w6.heap.size, 0, none⟩) c.val.length cp2] 30))
  have hR := Rw.one 30 k1
  refine (wbytes_any L7'.wr hR (fun k hk hS hF => ?_) (by simp [encr]; omega)).mono ?_
  · rcases hS with hS | hS
    · exact L6.off (by omega) hF
    · exact L7.off (by have := k3.out; omega) hF
  rintro e w8 ⟨rfl, v8, h8, m8, n8⟩
  have L8 := L7'.call h8 m8 n8
  rw [encr_one_] at L8
  go_wp2_with fail
  go_end0
  exact ⟨rfl, v8, by rw [hE2.out]; exact L8.wr, L8.md, L8.nx⟩
end Go.Proofs.Ytlfooppmdgddkaa

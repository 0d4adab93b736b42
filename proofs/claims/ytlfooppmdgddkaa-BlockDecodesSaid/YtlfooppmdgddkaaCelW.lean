/- block: the document's Seek; the law Decodes. -/
import Derived.Test.YtlfooppmdgddkaaCelV
import Derived.Test.YtlfooppmdgddkaaCelR
import Derived.Test.YtlfooppmdgddkaaCelJ
namespace Go.Proofs.Ytlfooppmdgddkaa
open Go.RowKit
set_option maxRecDepth 100000

set_option maxHeartbeats 16000000 in
theorem rseek_any {w : World} {T : Nat → Prop} {y : Value} {bs key : List UInt8} {seq : Int} (hy : Bs w T y bs) (hlen : bs.length ≤ 2000) :
    Calls Try.prog 33 #[y, sv key, .int .i64 seq] w fun e w' => e = .returned (.tuple #[.agg (car (seekB bs key seq).1.1), .bool (seekB bs key seq).1.2, .int .i64 (seekB bs key seq).2]) ∧ Ext w w' := by
  obtain ⟨R, hR⟩ : ∃ R, R = seekB bs key seq := ⟨_, rfl⟩
  rw [← hR]
  unfold seekB at hR
  obtain ⟨L, hL⟩ : ∃ L, L = (decB bs).1 := ⟨_, rfl⟩
  obtain ⟨n, hn⟩ : ∃ n, n = (decB bs).2 := ⟨_, rfl⟩
  rw [← hL, ← hn] at hR
  have hdec := fun (wx : World) (h : Bs wx T y bs) => rdecode_any h hlen
  rw [← hL, ← hn] at hdec
  clear hL hn
  replace hR := Lib.hid hR
  have B0 : Blk (w.alloc (.cells #[sv [], sv [], .bool false, .int .i64 0] 23)) w.heap.size 23 #[sv [], sv [], .bool false, .int .i64 0] := Blk.new w _ _
  have x0 : Ext w (w.alloc (.cells #[sv [], sv [], .bool false, .int .i64 0] 23)) := (Mod.refl _ w).alloc _
  go_enter Try.func33, Try.ntmps33
  go_wp2_with fail
  refine (hdec _ (hy.ext x0)).mono ?_
  rintro e w1 ⟨v1, rfl, o1, f1, x1⟩
  have B1 := B0.mod x1 (fun h => h)
  replace x1 := ext_trans x0 x1
  clear B0 x0 hdec f1
  by_cases h0 : n = 0
  case neg =>
    have hb1 : ((n : Int) != 0) = true := by rw [bne_iff_ne]; omega
    have hR1 := Lib.hid (hR.out.trans (if_neg h0))
    clear h0
    have f0 := Blk.frozen B1 0
    have f1 := Blk.frozen B1 1
    have f2 := Blk.frozen B1 2
    have f3 := Blk.frozen B1 3
    have e0 : _ = some _ := Blk.cell B1 0
    have e1 : _ = some _ := Blk.cell B1 1
    have e2 : _ = some _ := Blk.cell B1 2
    have e3 : _ = some _ := Blk.cell B1 3
    go_wp2_with fail
    have R5 := fun p q r s => (((B1.set_ 0 p).set_ 1 q).set_ 2 r).set_ 3 s
    have m9 := fun p q r s => (set4_mod w1 w.heap.size p q r s)
    refine bodyPost_ret (results_cell_row3 Try.results33 _ _ _ _ _ _ _ rfl (R5 _ _ _ _) Try.underlying23 rfl (by kernel_rfl)) rfl ?_
    exact ⟨by rw [hR1.out]; rfl, x1.trans (m9 _ _ _ _) (fun _ _ h => h) (fun k hk h => by omega)⟩
  have hb1 : ((n : Int) != 0) = false := by rw [h0]; rfl
  have hR1 := Lib.hid (hR.out.trans (if_pos h0))
  clear hR h0
  go_wp2_with fail
  refine (rfirst_any (key := key) (seq := seq) o1.rc).mono ?_
  rintro e w2 ⟨rfl, x2⟩
  have B2 := B1.mod x2 (fun h => h)
  replace x2 := ext_trans x1 x2
  obtain ⟨q, hq⟩ : ∃ q, q = outS (firstC L key seq) := ⟨_, rfl⟩
  rw [← hq]
  replace hR1 : Hid (R = (q, 0)) := Lib.hid (by rw [hR1.out, hq])
  clear hq B1 x1 o1
  obtain ⟨⟨x, ok⟩, hq⟩ : ∃ x, x = q := ⟨_, rfl⟩
  subst hq
  have xb : Ext w2 (w2.alloc (.cells (car x) 23)) := (Mod.refl _ w2).alloc _
  obtain ⟨d0, d1, d2, d3⟩ := boxed w2 x
  obtain ⟨w3, hw3⟩ : ∃ w3, w3 = w2.alloc (.cells (car x) 23) := ⟨_, rfl⟩
  rw [← hw3] at xb d0 d1 d2 d3
  have B3 := B2.mod xb (fun h => h)
  have x3 := ext_trans x2 xb
  replace hw3 := Lib.hid hw3
  clear xb B2
  have f0 := Blk.frozen B3 0
  have f1 := Blk.frozen B3 1
  have f2 := Blk.frozen B3 2
  have f3 := Blk.frozen B3 3
  have e0 : _ = some _ := Blk.cell B3 0
  have e1 : _ = some _ := Blk.cell B3 1
  have e2 : _ = some _ := Blk.cell B3 2
  have e3 : _ = some _ := Blk.cell B3 3
  go_upto_region 5 with fail
  rw [← hw3.out]
  go_wp2_with fail
  have R5 := fun p q r s => (((B3.set_ 0 p).set_ 1 q).set_ 2 r).set_ 3 s
  have m9 := fun p q r s => (set4_mod w3 w.heap.size p q r s)
  refine bodyPost_ret (results_cell_row3 Try.results33 _ _ _ _ _ _ _ rfl (R5 _ _ _ _) Try.underlying23 rfl (by kernel_rfl)) rfl ?_
  exact ⟨by rw [hR1.out]; rfl, x3.trans (m9 _ _ _ _) (fun _ _ h => h) (fun k hk h => by omega)⟩

set_option maxHeartbeats 32000000 in
theorem blockDecodes_walk {w : World} {S : Nat → Prop} {v : Value} {bs key : List UInt8} {seq : Int} (h : Bs w S v bs) :
    Calls Try.prog 5 #[v, sv key, .int .i64 seq] w fun e w' => e = .returned (.bool true) ∧ Ext w w' := by
  have hzk := sv_size key
  obtain ⟨A, c, hv, h1, h2, h3⟩ := h.open_
  subst hv
  go_enter Try.func5, Try.ntmps5
  by_cases h2000 : 2000 < bs.length
  · have hb : decide ((2000 : Int) < (bs.length : Int)) = true := dtrue (by omega)
    go_wp2_with fail
    go_ret
    exact ⟨rfl, Mod.refl _ _⟩
  have hb : decide ((2000 : Int) < (bs.length : Int)) = false := dfalse (by omega)
  by_cases h200 : 200 < key.length
  · have hb2 : decide ((200 : Int) < (key.length : Int)) = true := dtrue (by omega)
    go_wp2_with fail
    go_ret
    exact ⟨rfl, Mod.refl _ _⟩
  have hb2 : decide ((200 : Int) < (key.length : Int)) = false := dfalse (by omega)
  have hde := fun (wx : World) (y : Value) (T : Nat → Prop) (hy : Bs wx T y bs) => decode_any hy (by omega)
  have hrd := fun (wx : World) (y : Value) (T : Nat → Prop) (hy : Bs wx T y bs) => rdecode_any hy (by omega)
  have hsk := fun (wx : World) (y : Value) (T : Nat → Prop) (hy : Bs wx T y bs) => seek_any (key := key) (seq := seq) hy (by omega)
  have hrs := fun (wx : World) (y : Value) (T : Nat → Prop) (hy : Bs wx T y bs) => rseek_any (key := key) (seq := seq) hy (by omega)
  have hkn := fun wx => known7_any (w := wx)
  obtain ⟨L, hL⟩ : ∃ L, L = (decB bs).1 := ⟨_, rfl⟩
  obtain ⟨n, hn⟩ : ∃ n, n = (decB bs).2 := ⟨_, rfl⟩
  rw [← hL, ← hn] at hde hrd
  obtain ⟨⟨⟨x, ok⟩, g⟩, hq⟩ : ∃ x, x = seekB bs key seq := ⟨_, rfl⟩
  rw [← hq] at hsk hrs
  have hnn : ((n : Int) == (n : Int)) = true := by simp
  have hgg : ((g : Int) == (g : Int)) = true := by simp
  have hoo : (ok == ok) = true := by simp
  have hlen : (0 + bs.length) * 1 ≤ 140737488355328 := by omega
  clear hL hn hq h2000 h200
  have hlit : Own (w.alloc (.cells #[] 5)) 5 (.slice (some ⟨w.heap.size, 0, none⟩) 0 0) (([] : List UInt8).map bv) := Own.lit w 5 [] (by simp [maxLen])
  have x0 : Ext w (w.alloc (.cells #[] 5)) := (Mod.refl _ w).alloc _
  have hn0 : ((([] : List UInt8).map bv).length + (bs.map bv).length) * 1 ≤ 140737488355328 := by simp only [List.length_map, List.length_nil]; omega
  go_wp2_with ((with_reducible show wpList _ _ _ (⟨some 28, _, _, _, _, _⟩ :: _) _ _); refine wp_app tyB hlit (h.ext x0) (bv_one _) rfl (.tmp 26) (.tmp 27) rfl rfl rfl hn0 ?_; intro v2 w2 k1 k2 k3)
  have o2 : Own w2 5 v2 (bs.map bv) := by simpa using k1
  have x2 : Ext w w2 := x0.trans k2 (fun _ _ h => h) (fun i hi hF => by
    have : w.heap.size = i := Option.some.inj hF
    omega)
  clear k1 k2 k3 hlit x0 hn0
  refine (hde _ _ _ o2.sl).mono ?_
  rintro e w3 ⟨v3, rfl, o3, -, x3⟩
  have x0 := ext_trans x2 x3
  clear o2 x2 hde x3
  go_wp2_with fail
  refine (hrd _ _ _ (h.ext x0)).mono ?_
  rintro e w4 ⟨v4, rfl, o4, -, x4⟩
  have c3 := o3.rc.ext x4
  have c4 := o4.rc
  replace x0 := ext_trans x0 x4
  clear o3 o4 hrd x4
  go_wp2_with fail
  refine (hsk _ _ _ (h.ext x0)).mono ?_
  rintro e w5 ⟨rfl, x5⟩
  replace c3 := c3.ext x5
  replace c4 := c4.ext x5
  replace x0 := ext_trans x0 x5
  have xb : Ext w5 (w5.alloc (.cells (car x) 23)) := (Mod.refl _ w5).alloc _
  have B5 : Blk (w5.alloc (.cells (car x) 23)) w5.heap.size 23 (car x) := Blk.new w5 _ _
  clear hsk x5
  go_wp2_with fail
  refine (hrs _ _ _ (h.ext (ext_trans x0 xb))).mono ?_
  rintro e w6 ⟨rfl, x6⟩
  have B6 := B5.mod x6 (fun h => h)
  replace x6 := ext_trans xb x6
  replace c3 := c3.ext x6
  replace c4 := c4.ext x6
  replace x0 := ext_trans x0 x6
  clear B5 xb x6 hrs
  have xb : Ext w6 (w6.alloc (.cells (car x) 23)) := (Mod.refl _ w6).alloc _
  have C7 : Blk (w6.alloc (.cells (car x) 23)) w6.heap.size 23 (car x) := Blk.new w6 _ _
  obtain ⟨w7, hw7⟩ : ∃ w7, w7 = w6.alloc (.cells (car x) 23) := ⟨_, rfl⟩
  rw [← hw7] at xb C7
  have B7 := B6.mod xb (fun h => h)
  replace c3 := c3.ext xb
  replace c4 := c4.ext xb
  replace x0 := ext_trans x0 xb
  replace hw7 := Lib.hid hw7
  clear B6 xb
  go_upto_region 7 with fail
  rw [← hw7.out]
  have hce := cells7_free c3 c4
  rw [dtrue rfl] at hce
  have hgu := fun wx a b => guardC wx .eql a b (car x) (car x)
  have heq : ∀ wx, (binOp .eql 23 (.agg (car x)) (.agg (car x))).run Try.prog wx = .ok (.bool true) wx := fun wx => by rw [eqC, dtrue rfl]
  go_wp2_with fail
  refine hce.mono ?_
  rintro e w8 ⟨rfl, x8⟩
  have B8 := B7.mod x8 (fun h => h)
  have C8 := C7.mod x8 (fun h => h)
  replace x0 := ext_trans x0 x8
  clear B7 C7 hce x8 c3 c4
  have e0 : _ = some _ := Blk.cell B8 0
  have e1 : _ = some _ := Blk.cell B8 1
  have e2 : _ = some _ := Blk.cell B8 2
  have e3 : _ = some _ := Blk.cell B8 3
  have d0 : _ = some _ := Blk.cell C8 0
  have d1 : _ = some _ := Blk.cell C8 1
  have d2 : _ = some _ := Blk.cell C8 2
  have d3 : _ = some _ := Blk.cell C8 3
  go_wp2_with fail
  refine (hkn _).mono ?_
  rintro e w9 ⟨rfl, x9⟩
  go_wp2_with fail
  go_ret
  exact ⟨rfl, ext_trans x0 x9⟩
end Go.Proofs.Ytlfooppmdgddkaa

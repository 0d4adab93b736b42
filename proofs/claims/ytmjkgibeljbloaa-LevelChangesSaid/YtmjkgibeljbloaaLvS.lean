/- level: two versions; the law Back. -/
import Derived.Test.YtmjkgibeljbloaaLvR
import Derived.Test.YtmjkgibeljbloaaLvK
import Derived.Test.YtmjkgibeljbloaaLvM
namespace Go.Proofs.Ytmjkgibeljbloaa
open Go.RowKit
set_option maxRecDepth 100000

theorem fm_w : ∀ (L : List Fl) {n : Int}, (∀ c ∈ L, fitF c n) → (L.flatMap encF).length ≤ 50 * wF L
  | [], _, _ => by simp
  | a :: L, n, h => by
    have ih := fm_w L (fun c hc => h c (List.mem_cons_of_mem _ hc))
    have hf := h a List.mem_cons_self
    have h1 := hf.2.2.2.2.2.2.1.2
    have h2 := hf.2.2.2.2.2.2.2.1.2
    have e1 := encI a.id
    have e2 := encI a.lev
    have e3 := encI a.size
    have e4 := enc7_ten (n := a.first.length) (by omega)
    have e5 := enc7_ten (n := a.last.length) (by omega)
    rw [List.flatMap_cons, List.length_append, wF_cons]
    have : (encF a).length ≤ 50 + a.first.length + a.last.length := by
      unfold encF lb
      simp only [List.length_append]
      omega
    omega
theorem encV_w {n : Int} {L : List Fl} (h : isV n L) : (encV n L).length ≤ 20 + 50 * wF L := by
  have h1 := fm_w L h.fit
  have e1 := encI n
  have e2 := enc7_ten (n := L.length) (by have := h.2.2.1; omega)
  unfold encV
  simp only [List.length_append]
  omega

set_option maxHeartbeats 8000000 in
theorem same_any {w : World} {S T : Nat → Prop} {v u : Value} {n : Int} {L : List Fl} (h : Fs w S v L) (h' : Fs w T u L) :
    Calls Try.prog 21 #[.agg #[.int .i64 n, v], .agg #[.int .i64 n, u]] w fun e w' => e = .returned (.bool true) ∧ Ext w w' := by
  obtain ⟨A, c, rfl⟩ := h.shape
  obtain ⟨A', c', rfl⟩ := h'.shape
  have B0 := (Blk.new w 24 #[.int .i64 n, .slice A L.length c]).alloc (.cells #[.int .i64 n, .slice A' L.length c'] 24)
  have B1 := Blk.new (w.alloc (.cells #[.int .i64 n, .slice A L.length c] 24)) 24 #[.int .i64 n, .slice A' L.length c']
  rw [show (w.alloc (.cells #[.int .i64 n, .slice A L.length c] 24)).heap.size = w.heap.size + 1 by simp] at B1
  have hB : Ext w ((w.alloc (.cells #[.int .i64 n, .slice A L.length c] 24)).alloc (.cells #[.int .i64 n, .slice A' L.length c'] 24)) := ((Mod.refl _ w).alloc _).alloc _
  obtain ⟨w0, hw0⟩ : ∃ w0, w0 = (w.alloc (.cells #[.int .i64 n, .slice A L.length c] 24)).alloc (.cells #[.int .i64 n, .slice A' L.length c'] 24) := ⟨_, rfl⟩
  rw [← hw0] at B0 B1 hB
  replace hw0 := Lib.hid hw0
  have b0 : w0.cell? ⟨w.heap.size, 0, none⟩ = some (.int .i64 n) := B0.cell 0
  have b1 : w0.cell? ⟨w.heap.size, 1, none⟩ = some (.slice A L.length c) := B0.cell 1
  have d0 : w0.cell? ⟨w.heap.size + 1, 0, none⟩ = some (.int .i64 n) := B1.cell 0
  have d1 : w0.cell? ⟨w.heap.size + 1, 1, none⟩ = some (.slice A' L.length c') := B1.cell 1
  have hfi := files_any (h.ext hB) (h'.ext hB)
  rw [dtrue rfl] at hfi
  have hq : (n == n) = true := beq_self_eq_true n
  clear B0 B1 h h'
  go_enter Try.func21, Try.ntmps21
  go_upto_region 1 with fail
  rw [← hw0.out]
  go_wp2_with fail
  refine hfi.mono ?_
  rintro e w1 ⟨rfl, x1⟩
  go_wp2_with fail
  go_ret
  exact ⟨rfl, ext_trans hB x1⟩

set_option maxHeartbeats 32000000 in
theorem lback_any {w : World} {S : Nat → Prop} {v : Value} {n : Int} {L : List Fl} (h : Fs w S v L) (hf : MFits L) :
    Calls Try.prog 5 #[.agg #[.int .i64 n, v]] w fun e w' => e = .returned (.bool true) ∧ Ext w w' := by
  obtain ⟨A, c, rfl⟩ := h.shape
  have B0 : Blk (w.alloc (.cells #[.int .i64 n, .slice A L.length c] 24)) w.heap.size 24 #[.int .i64 n, .slice A L.length c] := Blk.new w _ _
  have hB : Ext w (w.alloc (.cells #[.int .i64 n, .slice A L.length c] 24)) := (Mod.refl _ w).alloc _
  obtain ⟨w0, hw0⟩ : ∃ w0, w0 = w.alloc (.cells #[.int .i64 n, .slice A L.length c] 24) := ⟨_, rfl⟩
  rw [← hw0] at B0 hB
  replace hw0 := Lib.hid hw0
  have b0 : w0.cell? ⟨w.heap.size, 0, none⟩ = some (.int .i64 n) := B0.cell 0
  have b1 : w0.cell? ⟨w.heap.size, 1, none⟩ = some (.slice A L.length c) := B0.cell 1
  have hhv := heavy11_any (h.ext hB) hf
  have hri := fun {wx : World} (x : Ext w0 wx) => ris_any (n := n) ((h.ext hB).ext x) hf
  have hen := fun {wx : World} (x : Ext w0 wx) => encode_any (n := n) ((h.ext hB).ext x) hf
  have hrow := h.ext hB
  have hkn := known11_any
  have hbb : ∀ {wx : World}, Ext w0 wx → wx.cell? ⟨w.heap.size, 0, none⟩ = some (.int .i64 n) ∧ wx.cell? ⟨w.heap.size, 1, none⟩ = some (.slice A L.length c) := fun x => ⟨ext_cell x b0, ext_cell x b1⟩
  clear h B0
  go_enter Try.func5, Try.ntmps5
  go_upto_region 1 with fail
  rw [← hw0.out]
  clear hw0
  go_wp2_with fail
  refine hhv.mono ?_
  rintro e w1 ⟨hq, rfl, hlt, x1⟩
  cases hq
  case true =>
    go_wp2_with fail
    go_ret
    exact ⟨rfl, ext_trans hB x1⟩
  obtain ⟨hw, -⟩ := hlt rfl
  clear hhv b0 b1 hlt
  obtain ⟨b0, b1⟩ := hbb x1
  have hr1 := hri x1
  go_wp2_with fail
  refine hr1.mono ?_
  rintro e w2 ⟨rfl, x2⟩
  have y2 := ext_trans x1 x2
  clear hri hr1 b0 b1 x1 x2
  by_cases hv : isV n L
  case neg =>
    rw [dfalse hv]
    clear hv
    go_wp2_with fail
    go_ret
    exact ⟨rfl, ext_trans hB y2⟩
  rw [dtrue hv]
  obtain ⟨e1, e2⟩ := bytesV_yes hv
  obtain ⟨e3, e4⟩ := dec_enc hv
  have hlen := encV_w hv
  rw [e1, e2] at hen
  clear hv e1 e2
  generalize encV n L = B at *
  obtain ⟨b0, b1⟩ := hbb y2
  go_wp2_with fail
  refine (hen y2).mono ?_
  rintro e w3 ⟨v3, rfl, o3, -, x3⟩
  have y3 := ext_trans y2 x3
  have hde := decode_any o3.sl (by omega)
  rw [e3, e4] at hde
  clear hen b0 b1 y2 x3 o3 e3 e4
  go_wp2_with fail
  refine hde.mono ?_
  rintro e w4 ⟨v4, rfl, o4, x4⟩
  have y4 := ext_trans y3 x4
  obtain ⟨A4, c4, rfl⟩ := ownF_shape o4
  have x5 : Ext w4 (w4.alloc (.cells #[.int .i64 n, .slice A4 L.length c4] 24)) := (Mod.refl _ w4).alloc _
  have B5 := Blk.new w4 24 #[.int .i64 n, .slice A4 L.length c4]
  obtain ⟨w5, hw5⟩ : ∃ w5, w5 = w4.alloc (.cells #[.int .i64 n, .slice A4 L.length c4] 24) := ⟨_, rfl⟩
  rw [← hw5] at x5 B5
  replace hw5 := Lib.hid hw5
  have y5 := ext_trans y4 x5
  have o5 := OwnR.ext o4 x5
  obtain ⟨b0, b1⟩ := hbb y5
  have d0 : w5.cell? ⟨w4.heap.size, 0, none⟩ = some (.int .i64 n) := B5.cell 0
  have d1 : w5.cell? ⟨w4.heap.size, 1, none⟩ = some (.slice A4 L.length c4) := B5.cell 1
  have hsa := same_any (n := n) (hrow.ext y5) o5.rc
  clear hde x4 y3 x5 o4 o5 B5 hbb hrow y4
  go_upto_region 5 with fail
  rw [← hw5.out]
  clear hw5
  go_wp2_with fail
  refine hsa.mono ?_
  rintro e w6 ⟨rfl, x6⟩
  go_wp2_with fail
  refine (hkn _).mono ?_
  rintro e w7 ⟨rfl, x7⟩
  go_wp2_with fail
  go_ret
  exact ⟨rfl, ext_trans hB (ext_trans y5 (ext_trans x6 x7))⟩
end Go.Proofs.Ytmjkgibeljbloaa

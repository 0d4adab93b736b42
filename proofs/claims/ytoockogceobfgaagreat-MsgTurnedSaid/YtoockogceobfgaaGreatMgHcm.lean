/- msg: the document's bytes of a filter. -/
import Derived.Test.YtoockogceobfgaaGreatDnGm
import Derived.Test.YtoockogceobfgaaGreatMgF
import Derived.Test.YtoockogceobfgaaGreatMgHb
import Derived.Test.YtoockogceobfgaaGreatMgQm
namespace Go.Proofs.YtoockogceobfgaaGreat
open Go.RowKit
set_option maxRecDepth 100000

/-- What the document's bytes of a filter ask of it. -/
def KrN : Nat → Fi → Prop
  | 0, _ => False
  | n + 1, F => 0 ≤ F.kind ∧ F.kind ≤ 7 ∧ F.typ.length ≤ 1000 ∧ F.subs.length ≤ 1000 ∧ F.kids.length ≤ 1000 ∧ (3 ≤ F.kind → F.kids = []) ∧ ∀ K ∈ F.kids, KrN n K
def RfIH (n : Nat) : Prop := ∀ {w : World} {F : Fi} {vs vk : Value}, FilN n w F vs vk → KrN n F → (filB n F).length ≤ 65536 →
  Calls Tryz.prog 99 #[.agg #[.int .i64 F.kind, sv F.typ, sv F.val, vs, vk]] w fun e w' => ∃ v', e = .returned v' ∧ Own w' 5 v' ((filB n F).map bv) ∧ Fresh w.heap.size v' ∧ Ext w w'
theorem flat_next (g : Fi → List UInt8) {L : List Fi} {k : Nat} (h : k < L.length) : ((L.take (k + 1)).map g).flatten = ((L.take k).map g).flatten ++ g L[k] := by
  rw [List.take_succ_eq_append_getElem h, List.map_append, List.flatten_append]; simp
theorem flat_le (g : Fi → List UInt8) (L : List Fi) (k : Nat) : ((L.take k).map g).flatten.length ≤ (L.map g).flatten.length := by
  have h : (L.map g).flatten = ((L.take k).map g).flatten ++ ((L.drop k).map g).flatten := by rw [← List.flatten_append, ← List.map_append, List.take_append_drop]
  rw [h, List.length_append]; omega
theorem pie_flat_next (B : List (List UInt8)) (k : Nat) : ((List.range (k + 1)).flatMap (pie1 B)).flatten = ((List.range k).flatMap (pie1 B)).flatten ++ (pie1 B k).flatten := by
  rw [pie_next, List.flatten_append]
theorem pie_flat_le (B : List (List UInt8)) {k m : Nat} (h : k ≤ m) : ((List.range k).flatMap (pie1 B)).flatten.length ≤ ((List.range m).flatMap (pie1 B)).flatten.length := by
  induction m with
  | zero => have : k = 0 := by omega
            subst this; exact Nat.le_refl _
  | succ m ih =>
    by_cases e : k = m + 1
    · subst e; exact Nat.le_refl _
    · rw [pie_flat_next, List.length_append]; have := ih (by omega); omega
set_option maxHeartbeats 16000000 in
theorem rfk0_any {n : Nat} (ih : RfIH n) {w : World} {F : Fi} {vs vk : Value} (h : FilN (n + 1) w F vs vk) (hk : KrN (n + 1) F) (_e0 : F.kind = 0) (hl : (tlv 160 (F.kids.map (filB n)).flatten).length ≤ 65536) :
    Calls Tryz.prog 99 #[.agg #[.int .i64 0, sv F.typ, sv F.val, vs, vk]] w fun e w' => ∃ v', e = .returned v' ∧ Own w' 5 v' ((tlv 160 (F.kids.map (filB n)).flatten).map bv) ∧ Fresh w.heap.size v' ∧ Ext w w' := by
  have hax := fun {wx : World} (x : Ext w wx) => (h.ext x).open_
  obtain ⟨-, ⟨A1, c1, e1⟩, -, A2, c2, e2, -⟩ := h.open_
  obtain ⟨-, -, -, -, k5, -, k6⟩ := hk
  have hl2 := tlv_le hl
  have hsn := fun k h => @flat_next (filB n) F.kids k h
  have htk := fun k => flat_le (filB n) F.kids k
  have hkl : ∀ K ∈ F.kids, (filB n K).length ≤ 65536 := fun K hK => by
    obtain ⟨p, q, e⟩ := List.append_of_mem hK
    rw [e, List.map_append, List.map_cons, List.flatten_append, List.flatten_cons, List.length_append, List.length_append] at hl2
    omega
  clear h _e0
  generalize F.typ = T at *
  generalize F.val = V at *
  generalize F.subs = B at *
  generalize F.kids = Ks at *
  obtain ⟨m, hm⟩ : ∃ m, m = B.length := ⟨_, rfl⟩
  obtain ⟨q, hq⟩ : ∃ q, q = Ks.length := ⟨_, rfl⟩
  rw [← hm] at e1
  rw [← hq] at e2 k5
  subst e1 e2
  replace hq := Lib.hid hq
  clear hm
  obtain ⟨w1, hw1⟩ : ∃ x, x = w.alloc (.cells #[.int .i64 0, sv T, sv V, .slice A1 m c1, .slice A2 q c2] 26) := ⟨_, rfl⟩
  obtain ⟨p, hp⟩ : ∃ p, p = w.heap.size := ⟨_, rfl⟩
  have x1 : Ext w w1 := by rw [hw1]; exact (Mod.refl _ w).alloc _
  have BP : Blk w1 p 26 #[.int .i64 0, sv T, sv V, .slice A1 m c1, .slice A2 q c2] := by rw [hw1, hp]; exact Blk.new w _ _
  have hcc : ∀ {wx : World}, Ext w1 wx → wx.cell? ⟨p, 0, none⟩ = some (.int .i64 0) ∧ wx.cell? ⟨p, 4, none⟩ = some (.slice A2 q c2) := fun x => ⟨(BP.mod x (fun h => h)).cell 0, (BP.mod x (fun h => h)).cell 4⟩
  obtain ⟨Z, hZ⟩ : ∃ Z, Z = tlv 160 (Ks.map (filB n)).flatten := ⟨_, rfl⟩
  rw [← hZ]
  replace hZ := Lib.hid hZ
  have hwp : w.heap.size ≤ p := by omega
  replace hw1 := Lib.hid hw1
  replace hp := Lib.hid hp
  clear BP hl
  go_enter Tryz.func99, Tryz.ntmps99
  go_upto_region 1 with fail
  rw [← hw1.out, ← hp.out]
  clear hw1 hp
  go_wp2_with fail
  go_loopw [3, 4] (fun v i wr => ∃ k : Nat, i = .int .i64 k ∧ k ≤ q ∧ Own wr 5 v ((((Ks.take k).map (filB n)).flatten).map bv) ∧ Fresh w1.heap.size v ∧ Ext w1 wr) (fun _ i _ => q - (intOf i).toNat)
  case atStart => exact ⟨0, rfl, Nat.zero_le _, by simpa using Own.nil w1 5, fresh_nil _ _ _, Mod.refl _ _⟩
  case round =>
    obtain ⟨k, rfl, hkq, ho, hf0, hx⟩ := hrel
    obtain ⟨p0, p4⟩ := hcc hx
    have hqq := hq.out
    by_cases hlt : k < q
    · have hb : decide ((k : Int) < (q : Int)) = true := dtrue (by omega)
      have hbn : decide (k < q) = true := dtrue hlt
      obtain ⟨-, -, -, A', c', hv, hat⟩ := hax (ext_trans x1 hx)
      rw [← hqq] at hv
      injection hv with hv1 hv2 hv3
      subst hv1
      subst hv3
      obtain ⟨ad, ys, yk, hA, d0, d1, d2, d3, d4, hf⟩ := hat k (by omega)
      subst hA
      clear hv2 hat
      have hmem : Ks[k]'(by omega) ∈ Ks := List.getElem_mem _
      have hkk := k6 _ hmem
      have hkb := hkl _ hmem
      have h1 := hsn k (by omega)
      have h2 := htk (k + 1)
      rw [h1] at h2
      generalize Ks[k]'(by omega) = a at *
      have hk0 : (0 : Int) ≤ (k : Int) := by omega
      have hk1 : (k : Int) < (q : Int) := by omega
      obtain ⟨M, hM⟩ : ∃ M, M = ((Ks.take k).map (filB n)).flatten := ⟨_, rfl⟩
      rw [← hM] at ho h1 h2
      have hst := Lib.hid h1
      obtain ⟨⟨Y1, Y2, Y3, rfl⟩, Z1, Z2, Z3, rfl⟩ := hf.shape
      have hcall := ih hf hkk hkb
      generalize a.kind = ak at *
      generalize a.typ = at_ at *
      generalize a.val = av at *
      generalize filB n a = X at *
      have hln := Lib.hid (show ((M.map bv).length + (X.map bv).length) * 1 ≤ 140737488355328 by rw [List.length_append] at h2; rw [List.length_map, List.length_map]; omega)
      replace hcall := Lib.hid hcall
      clear h1 h2 hM hqq hsn htk hax hkl k6 hkk hkb hmem hf
      go_wp2_with fail
      refine hcall.out.mono ?_
      rintro e wa ⟨va, rfl, a1, a2, a3⟩
      obtain ⟨A5, c5, e5⟩ := a1.shape
      rw [List.length_map] at e5
      subst e5
      have ho1 := ho.mod a3 (fun _ _ h => h)
      clear hcall p0 p4 d0 d1 d2 d3 d4
      go_wp2_with ((with_reducible show wpList _ _ _ (⟨some 21, _, _, _, _, _⟩ :: _) _ _); refine wp_app tyB ho1 a1.sl (bv_one _) rfl (.tmp 14) (.tmp 20) rfl rfl rfl hln.out ?_; intro v4 w4 q1 q2 q3)
      have hx1 := ext_trans hx a3
      exact ⟨⟨k + 1, by go_num, by omega, by rw [hst.out, List.map_append]; exact q1, q3.fresh hf0 hx1.size, ext_app0 hx1 hf0 q2⟩, by simp [intOf] <;> omega⟩
    · have hb : decide ((k : Int) < (q : Int)) = false := dfalse (by omega)
      have hbn : decide (k < q) = false := dfalse hlt
      have hkn : k = q := by omega
      subst hkn
      rw [hqq, List.take_length] at ho
      generalize (Ks.map (filB n)).flatten = X at *
      clear hsn htk hax hqq hkl k6
      obtain ⟨A5, c5, e5⟩ := ho.shape
      rw [List.length_map] at e5
      subst e5
      have hr := Rw.one 22 ho.sl
      have hx2 := fun cs => ext_trans hx ((Mod.refl (fun _ => False) wr).alloc (.cells cs 22))
      go_wp2_with fail
      refine (rtag25_any 160 hr (by rw [one_flat]; exact hl2)).mono ?_
      rintro e w2 ⟨v2, rfl, m1, m2, m3⟩
      rw [one_flat] at m1
      go_wp2_with fail
      go_ret
      exact ⟨_, rfl, by rw [hZ.out]; exact m1, fresh_le m2 (Nat.le_trans x1.size (hx2 _).size), ext_trans x1 (ext_trans (hx2 _) m3)⟩
set_option maxHeartbeats 16000000 in
theorem rfk1_any {n : Nat} (ih : RfIH n) {w : World} {F : Fi} {vs vk : Value} (h : FilN (n + 1) w F vs vk) (hk : KrN (n + 1) F) (_e0 : F.kind = 1) (hl : (tlv 161 (F.kids.map (filB n)).flatten).length ≤ 65536) :
    Calls Tryz.prog 99 #[.agg #[.int .i64 1, sv F.typ, sv F.val, vs, vk]] w fun e w' => ∃ v', e = .returned v' ∧ Own w' 5 v' ((tlv 161 (F.kids.map (filB n)).flatten).map bv) ∧ Fresh w.heap.size v' ∧ Ext w w' := by
  have hax := fun {wx : World} (x : Ext w wx) => (h.ext x).open_
  obtain ⟨-, ⟨A1, c1, e1⟩, -, A2, c2, e2, -⟩ := h.open_
  obtain ⟨-, -, -, -, k5, -, k6⟩ := hk
  have hl2 := tlv_le hl
  have hsn := fun k h => @flat_next (filB n) F.kids k h
  have htk := fun k => flat_le (filB n) F.kids k
  have hkl : ∀ K ∈ F.kids, (filB n K).length ≤ 65536 := fun K hK => by
    obtain ⟨p, q, e⟩ := List.append_of_mem hK
    rw [e, List.map_append, List.map_cons, List.flatten_append, List.flatten_cons, List.length_append, List.length_append] at hl2
    omega
  clear h _e0
  generalize F.typ = T at *
  generalize F.val = V at *
  generalize F.subs = B at *
  generalize F.kids = Ks at *
  obtain ⟨m, hm⟩ : ∃ m, m = B.length := ⟨_, rfl⟩
  obtain ⟨q, hq⟩ : ∃ q, q = Ks.length := ⟨_, rfl⟩
  rw [← hm] at e1
  rw [← hq] at e2 k5
  subst e1 e2
  replace hq := Lib.hid hq
  clear hm
  obtain ⟨w1, hw1⟩ : ∃ x, x = w.alloc (.cells #[.int .i64 1, sv T, sv V, .slice A1 m c1, .slice A2 q c2] 26) := ⟨_, rfl⟩
  obtain ⟨p, hp⟩ : ∃ p, p = w.heap.size := ⟨_, rfl⟩
  have x1 : Ext w w1 := by rw [hw1]; exact (Mod.refl _ w).alloc _
  have BP : Blk w1 p 26 #[.int .i64 1, sv T, sv V, .slice A1 m c1, .slice A2 q c2] := by rw [hw1, hp]; exact Blk.new w _ _
  have hcc : ∀ {wx : World}, Ext w1 wx → wx.cell? ⟨p, 0, none⟩ = some (.int .i64 1) ∧ wx.cell? ⟨p, 4, none⟩ = some (.slice A2 q c2) := fun x => ⟨(BP.mod x (fun h => h)).cell 0, (BP.mod x (fun h => h)).cell 4⟩
  obtain ⟨Z, hZ⟩ : ∃ Z, Z = tlv 161 (Ks.map (filB n)).flatten := ⟨_, rfl⟩
  rw [← hZ]
  replace hZ := Lib.hid hZ
  have hwp : w.heap.size ≤ p := by omega
  replace hw1 := Lib.hid hw1
  replace hp := Lib.hid hp
  clear BP hl
  go_enter Tryz.func99, Tryz.ntmps99
  go_upto_region 1 with fail
  rw [← hw1.out, ← hp.out]
  clear hw1 hp
  go_wp2_with fail
  go_loopw [3, 4] (fun v i wr => ∃ k : Nat, i = .int .i64 k ∧ k ≤ q ∧ Own wr 5 v ((((Ks.take k).map (filB n)).flatten).map bv) ∧ Fresh w1.heap.size v ∧ Ext w1 wr) (fun _ i _ => q - (intOf i).toNat)
  case atStart => exact ⟨0, rfl, Nat.zero_le _, by simpa using Own.nil w1 5, fresh_nil _ _ _, Mod.refl _ _⟩
  case round =>
    obtain ⟨k, rfl, hkq, ho, hf0, hx⟩ := hrel
    obtain ⟨p0, p4⟩ := hcc hx
    have hqq := hq.out
    by_cases hlt : k < q
    · have hb : decide ((k : Int) < (q : Int)) = true := dtrue (by omega)
      have hbn : decide (k < q) = true := dtrue hlt
      obtain ⟨-, -, -, A', c', hv, hat⟩ := hax (ext_trans x1 hx)
      rw [← hqq] at hv
      injection hv with hv1 hv2 hv3
      subst hv1
      subst hv3
      obtain ⟨ad, ys, yk, hA, d0, d1, d2, d3, d4, hf⟩ := hat k (by omega)
      subst hA
      clear hv2 hat
      have hmem : Ks[k]'(by omega) ∈ Ks := List.getElem_mem _
      have hkk := k6 _ hmem
      have hkb := hkl _ hmem
      have h1 := hsn k (by omega)
      have h2 := htk (k + 1)
      rw [h1] at h2
      generalize Ks[k]'(by omega) = a at *
      have hk0 : (0 : Int) ≤ (k : Int) := by omega
      have hk1 : (k : Int) < (q : Int) := by omega
      obtain ⟨M, hM⟩ : ∃ M, M = ((Ks.take k).map (filB n)).flatten := ⟨_, rfl⟩
      rw [← hM] at ho h1 h2
      have hst := Lib.hid h1
      obtain ⟨⟨Y1, Y2, Y3, rfl⟩, Z1, Z2, Z3, rfl⟩ := hf.shape
      have hcall := ih hf hkk hkb
      generalize a.kind = ak at *
      generalize a.typ = at_ at *
      generalize a.val = av at *
      generalize filB n a = X at *
      have hln := Lib.hid (show ((M.map bv).length + (X.map bv).length) * 1 ≤ 140737488355328 by rw [List.length_append] at h2; rw [List.length_map, List.length_map]; omega)
      replace hcall := Lib.hid hcall
      clear h1 h2 hM hqq hsn htk hax hkl k6 hkk hkb hmem hf
      go_wp2_with fail
      refine hcall.out.mono ?_
      rintro e wa ⟨va, rfl, a1, a2, a3⟩
      obtain ⟨A5, c5, e5⟩ := a1.shape
      rw [List.length_map] at e5
      subst e5
      have ho1 := ho.mod a3 (fun _ _ h => h)
      clear hcall p0 p4 d0 d1 d2 d3 d4
      go_wp2_with ((with_reducible show wpList _ _ _ (⟨some 21, _, _, _, _, _⟩ :: _) _ _); refine wp_app tyB ho1 a1.sl (bv_one _) rfl (.tmp 14) (.tmp 20) rfl rfl rfl hln.out ?_; intro v4 w4 q1 q2 q3)
      have hx1 := ext_trans hx a3
      exact ⟨⟨k + 1, by go_num, by omega, by rw [hst.out, List.map_append]; exact q1, q3.fresh hf0 hx1.size, ext_app0 hx1 hf0 q2⟩, by simp [intOf] <;> omega⟩
    · have hb : decide ((k : Int) < (q : Int)) = false := dfalse (by omega)
      have hbn : decide (k < q) = false := dfalse hlt
      have hkn : k = q := by omega
      subst hkn
      rw [hqq, List.take_length] at ho
      generalize (Ks.map (filB n)).flatten = X at *
      clear hsn htk hax hqq hkl k6
      obtain ⟨A5, c5, e5⟩ := ho.shape
      rw [List.length_map] at e5
      subst e5
      have hr := Rw.one 22 ho.sl
      have hx2 := fun cs => ext_trans hx ((Mod.refl (fun _ => False) wr).alloc (.cells cs 22))
      go_wp2_with fail
      refine (rtag25_any 161 hr (by rw [one_flat]; exact hl2)).mono ?_
      rintro e w2 ⟨v2, rfl, m1, m2, m3⟩
      rw [one_flat] at m1
      go_wp2_with fail
      go_ret
      exact ⟨_, rfl, by rw [hZ.out]; exact m1, fresh_le m2 (Nat.le_trans x1.size (hx2 _).size), ext_trans x1 (ext_trans (hx2 _) m3)⟩
set_option maxHeartbeats 16000000 in
theorem rfk2_any {n : Nat} (ih : RfIH n) {w : World} {F : Fi} {vs vk : Value} (h : FilN (n + 1) w F vs vk) (hk : KrN (n + 1) F) (_e0 : F.kind = 2) (hl : (tlv 162 (F.kids.map (filB n)).flatten).length ≤ 65536) :
    Calls Tryz.prog 99 #[.agg #[.int .i64 2, sv F.typ, sv F.val, vs, vk]] w fun e w' => ∃ v', e = .returned v' ∧ Own w' 5 v' ((tlv 162 (F.kids.map (filB n)).flatten).map bv) ∧ Fresh w.heap.size v' ∧ Ext w w' := by
  have hax := fun {wx : World} (x : Ext w wx) => (h.ext x).open_
  obtain ⟨-, ⟨A1, c1, e1⟩, -, A2, c2, e2, -⟩ := h.open_
  obtain ⟨-, -, -, -, k5, -, k6⟩ := hk
  have hl2 := tlv_le hl
  have hsn := fun k h => @flat_next (filB n) F.kids k h
  have htk := fun k => flat_le (filB n) F.kids k
  have hkl : ∀ K ∈ F.kids, (filB n K).length ≤ 65536 := fun K hK => by
    obtain ⟨p, q, e⟩ := List.append_of_mem hK
    rw [e, List.map_append, List.map_cons, List.flatten_append, List.flatten_cons, List.length_append, List.length_append] at hl2
    omega
  clear h _e0
  generalize F.typ = T at *
  generalize F.val = V at *
  generalize F.subs = B at *
  generalize F.kids = Ks at *
  obtain ⟨m, hm⟩ : ∃ m, m = B.length := ⟨_, rfl⟩
  obtain ⟨q, hq⟩ : ∃ q, q = Ks.length := ⟨_, rfl⟩
  rw [← hm] at e1
  rw [← hq] at e2 k5
  subst e1 e2
  replace hq := Lib.hid hq
  clear hm
  obtain ⟨w1, hw1⟩ : ∃ x, x = w.alloc (.cells #[.int .i64 2, sv T, sv V, .slice A1 m c1, .slice A2 q c2] 26) := ⟨_, rfl⟩
  obtain ⟨p, hp⟩ : ∃ p, p = w.heap.size := ⟨_, rfl⟩
  have x1 : Ext w w1 := by rw [hw1]; exact (Mod.refl _ w).alloc _
  have BP : Blk w1 p 26 #[.int .i64 2, sv T, sv V, .slice A1 m c1, .slice A2 q c2] := by rw [hw1, hp]; exact Blk.new w _ _
  have hcc : ∀ {wx : World}, Ext w1 wx → wx.cell? ⟨p, 0, none⟩ = some (.int .i64 2) ∧ wx.cell? ⟨p, 4, none⟩ = some (.slice A2 q c2) := fun x => ⟨(BP.mod x (fun h => h)).cell 0, (BP.mod x (fun h => h)).cell 4⟩
  obtain ⟨Z, hZ⟩ : ∃ Z, Z = tlv 162 (Ks.map (filB n)).flatten := ⟨_, rfl⟩
  rw [← hZ]
  replace hZ := Lib.hid hZ
  have hwp : w.heap.size ≤ p := by omega
  replace hw1 := Lib.hid hw1
  replace hp := Lib.hid hp
  clear BP hl
  go_enter Tryz.func99, Tryz.ntmps99
  go_upto_region 1 with fail
  rw [← hw1.out, ← hp.out]
  clear hw1 hp
  go_wp2_with fail
  go_loopw [3, 4] (fun v i wr => ∃ k : Nat, i = .int .i64 k ∧ k ≤ q ∧ Own wr 5 v ((((Ks.take k).map (filB n)).flatten).map bv) ∧ Fresh w1.heap.size v ∧ Ext w1 wr) (fun _ i _ => q - (intOf i).toNat)
  case atStart => exact ⟨0, rfl, Nat.zero_le _, by simpa using Own.nil w1 5, fresh_nil _ _ _, Mod.refl _ _⟩
  case round =>
    obtain ⟨k, rfl, hkq, ho, hf0, hx⟩ := hrel
    obtain ⟨p0, p4⟩ := hcc hx
    have hqq := hq.out
    by_cases hlt : k < q
    · have hb : decide ((k : Int) < (q : Int)) = true := dtrue (by omega)
      have hbn : decide (k < q) = true := dtrue hlt
      obtain ⟨-, -, -, A', c', hv, hat⟩ := hax (ext_trans x1 hx)
      rw [← hqq] at hv
      injection hv with hv1 hv2 hv3
      subst hv1
      subst hv3
      obtain ⟨ad, ys, yk, hA, d0, d1, d2, d3, d4, hf⟩ := hat k (by omega)
      subst hA
      clear hv2 hat
      have hmem : Ks[k]'(by omega) ∈ Ks := List.getElem_mem _
      have hkk := k6 _ hmem
      have hkb := hkl _ hmem
      have h1 := hsn k (by omega)
      have h2 := htk (k + 1)
      rw [h1] at h2
      generalize Ks[k]'(by omega) = a at *
      have hk0 : (0 : Int) ≤ (k : Int) := by omega
      have hk1 : (k : Int) < (q : Int) := by omega
      obtain ⟨M, hM⟩ : ∃ M, M = ((Ks.take k).map (filB n)).flatten := ⟨_, rfl⟩
      rw [← hM] at ho h1 h2
      have hst := Lib.hid h1
      obtain ⟨⟨Y1, Y2, Y3, rfl⟩, Z1, Z2, Z3, rfl⟩ := hf.shape
      have hcall := ih hf hkk hkb
      generalize a.kind = ak at *
      generalize a.typ = at_ at *
      generalize a.val = av at *
      generalize filB n a = X at *
      have hln := Lib.hid (show ((M.map bv).length + (X.map bv).length) * 1 ≤ 140737488355328 by rw [List.length_append] at h2; rw [List.length_map, List.length_map]; omega)
      replace hcall := Lib.hid hcall
      clear h1 h2 hM hqq hsn htk hax hkl k6 hkk hkb hmem hf
      go_wp2_with fail
      refine hcall.out.mono ?_
      rintro e wa ⟨va, rfl, a1, a2, a3⟩
      obtain ⟨A5, c5, e5⟩ := a1.shape
      rw [List.length_map] at e5
      subst e5
      have ho1 := ho.mod a3 (fun _ _ h => h)
      clear hcall p0 p4 d0 d1 d2 d3 d4
      go_wp2_with ((with_reducible show wpList _ _ _ (⟨some 21, _, _, _, _, _⟩ :: _) _ _); refine wp_app tyB ho1 a1.sl (bv_one _) rfl (.tmp 14) (.tmp 20) rfl rfl rfl hln.out ?_; intro v4 w4 q1 q2 q3)
      have hx1 := ext_trans hx a3
      exact ⟨⟨k + 1, by go_num, by omega, by rw [hst.out, List.map_append]; exact q1, q3.fresh hf0 hx1.size, ext_app0 hx1 hf0 q2⟩, by simp [intOf] <;> omega⟩
    · have hb : decide ((k : Int) < (q : Int)) = false := dfalse (by omega)
      have hbn : decide (k < q) = false := dfalse hlt
      have hkn : k = q := by omega
      subst hkn
      rw [hqq, List.take_length] at ho
      generalize (Ks.map (filB n)).flatten = X at *
      clear hsn htk hax hqq hkl k6
      obtain ⟨A5, c5, e5⟩ := ho.shape
      rw [List.length_map] at e5
      subst e5
      have hr := Rw.one 22 ho.sl
      have hx2 := fun cs => ext_trans hx ((Mod.refl (fun _ => False) wr).alloc (.cells cs 22))
      go_wp2_with fail
      refine (rtag25_any 162 hr (by rw [one_flat]; exact hl2)).mono ?_
      rintro e w2 ⟨v2, rfl, m1, m2, m3⟩
      rw [one_flat] at m1
      go_wp2_with fail
      go_ret
      exact ⟨_, rfl, by rw [hZ.out]; exact m1, fresh_le m2 (Nat.le_trans x1.size (hx2 _).size), ext_trans x1 (ext_trans (hx2 _) m3)⟩
set_option maxHeartbeats 16000000 in
theorem rft3_any {n : Nat} {w : World} {F : Fi} {vs vk : Value} (h : FilN (n + 1) w F vs vk) (hk : KrN (n + 1) F) (e0 : F.kind = 3) (hl : (tlv 163 (txB F.typ ++ txB F.val)).length ≤ 65536) :
    Calls Tryz.prog 99 #[.agg #[.int .i64 3, sv F.typ, sv F.val, vs, vk]] w fun e w' => ∃ v', e = .returned v' ∧ Own w' 5 v' ((tlv 163 (txB F.typ ++ txB F.val)).map bv) ∧ Fresh w.heap.size v' ∧ Ext w w' := by
  obtain ⟨-, ⟨A1, c1, e1⟩, hss, A2, c2, e2, -⟩ := h.open_
  obtain ⟨-, -, hT, hB, -, k5, -⟩ := hk
  have hK : F.kids = [] := k5 (by omega)
  rw [hK] at e2
  replace e2 : vk = .slice A2 0 c2 := e2
  clear h e0 hK k5
  generalize F.typ = T at *
  generalize F.val = V at *
  generalize F.subs = B at *
  generalize F.kids = Ks at *
  obtain ⟨m, hm⟩ : ∃ m, m = B.length := ⟨_, rfl⟩
  rw [← hm] at e1 hB
  subst e1 e2
  obtain ⟨w1, hw1⟩ : ∃ x, x = w.alloc (.cells #[.int .i64 3, sv T, sv V, .slice A1 m c1, .slice A2 0 c2] 26) := ⟨_, rfl⟩
  obtain ⟨p, hp⟩ : ∃ p, p = w.heap.size := ⟨_, rfl⟩
  have x1 : Ext w w1 := by rw [hw1]; exact (Mod.refl _ w).alloc _
  have BP : Blk w1 p 26 #[.int .i64 3, sv T, sv V, .slice A1 m c1, .slice A2 0 c2] := by rw [hw1, hp]; exact Blk.new w _ _
  have hcc : ∀ {wx : World}, Ext w1 wx → wx.cell? ⟨p, 0, none⟩ = some (.int .i64 3) ∧ wx.cell? ⟨p, 1, none⟩ = some (sv T) ∧ wx.cell? ⟨p, 2, none⟩ = some (sv V) ∧ wx.cell? ⟨p, 3, none⟩ = some (.slice A1 m c1) ∧ wx.cell? ⟨p, 4, none⟩ = some (.slice A2 0 c2) := fun x => ⟨(BP.mod x (fun h => h)).cell 0, (BP.mod x (fun h => h)).cell 1, (BP.mod x (fun h => h)).cell 2, (BP.mod x (fun h => h)).cell 3, (BP.mod x (fun h => h)).cell 4⟩
  obtain ⟨p0, p1, p2, p3, p4⟩ := hcc (Mod.refl _ w1)
  obtain ⟨Z, hZ⟩ : ∃ Z, Z = tlv 163 (txB T ++ txB V) := ⟨_, rfl⟩
  rw [← hZ] at hl ⊢
  replace hZ := Lib.hid hZ
  replace hw1 := Lib.hid hw1
  replace hp := Lib.hid hp
  clear BP
  have hl2 : (txB T ++ txB V).length ≤ 65536 := by rw [hZ.out] at hl; exact tlv_le hl
  have hV : V.length ≤ 65536 := by rw [List.length_append] at hl2; exact tlv_le (t := 4) (show (txB V).length ≤ 65536 by omega)
  have htx1 : ∀ wx, Calls Tryz.prog 97 #[sv T] wx fun e w' => ∃ v', e = .returned v' ∧ Own w' 5 v' ((txB T).map bv) ∧ Fresh wx.heap.size v' ∧ Ext wx w' := fun wx => rtext25_any (w := wx) T (by omega)
  have htx2 : ∀ wx, Calls Tryz.prog 97 #[sv V] wx fun e w' => ∃ v', e = .returned v' ∧ Own w' 5 v' ((txB V).map bv) ∧ Fresh wx.heap.size v' ∧ Ext wx w' := fun wx => rtext25_any (w := wx) V hV
  generalize txB T = P at *
  generalize txB V = Q at *
  have hf2 : [P, Q].flatten = P ++ Q := by simp
  have htag : ∀ (wx : World) (S : Nat → Prop) (y : Value), Rw wx S y [P, Q] → Calls Tryz.prog 72 #[.int .u8 (IntKind.u8.wrap (IntKind.i64.wrap 163)), y] wx fun e w' => ∃ v', e = .returned v' ∧ Own w' 5 v' (Z.map bv) ∧ Fresh wx.heap.size v' ∧ Ext wx w' := fun wx S y hr => by
    have h := rtag25_any 163 hr (by rw [hf2]; exact hl2)
    rw [hf2, ← hZ.out] at h
    rw [show IntKind.u8.wrap (IntKind.i64.wrap 163) = 163 by decide]
    exact h
  have hS : ∀ wx, Ext w1 wx → wx.cell? ⟨p, 0, none⟩ = some (.int .i64 3) ∧ wx.cell? ⟨p, 1, none⟩ = some (sv T) ∧ wx.cell? ⟨p, 2, none⟩ = some (sv V) := fun wx x => ⟨(hcc x).1, (hcc x).2.1, (hcc x).2.2.1⟩
  have q0 : Ext w1 w1.drew := (Mod.refl _ w1).drew
  clear hcc hl hl2 hf2 hV hT hB hm hss
  go_enter Tryz.func99, Tryz.ntmps99
  go_upto_region 1 with fail
  rw [← hw1.out, ← hp.out]
  clear hw1 hp
  go_wp2_with fail
  go_loopw [3, 4] (fun v i wr => v = .slice none 0 0 ∧ i = .int .i64 0 ∧ wr = w1) (fun _ _ _ => 0)
  case atStart => exact ⟨rfl, rfl, rfl⟩
  case round =>
    obtain ⟨rfl, rfl, hw⟩ := hrel
    replace hw := hw.symm
    subst hw
    go_wp2_with fail
    go_region_held3 (fun wx => wx.cell? ⟨p, 0, none⟩ = some (.int .i64 3) ∧ wx.cell? ⟨p, 1, none⟩ = some (sv T) ∧ wx.cell? ⟨p, 2, none⟩ = some (sv V)) (first | exact hS _ qd | exact hS _ qc | exact hS _ qb | exact hS _ qa | exact hS _ q0 | go_keep) (first
      | (go_at_call 97; (with_reducible refine (htx1 _).mono ?_); rintro e wa ⟨va, rfl, a1, a2, a3⟩; have qa := ext_trans q0 a3)
      | (go_at_call 97; (with_reducible refine (htx2 _).mono ?_); rintro e wb ⟨vb, rfl, b1, b2, b3⟩; have qb := ext_trans qa b3; obtain ⟨Aa, ca, ea⟩ := a1.shape; obtain ⟨Ab, cb, eb⟩ := b1.shape; rw [List.length_map] at ea eb; subst ea eb; have hr := Rw.two 22 (a1.mod b3 (fun _ _ h => h)).sl b1.sl; have qc := ext_trans qb ((Mod.refl (fun _ => False) wb).alloc (.cells #[.slice Aa P.length ca, .slice Ab Q.length cb] 22)))
      | (go_at_call 72; (with_reducible refine (htag _ _ _ hr).mono ?_); rintro e wc ⟨vc, rfl, t1, t2, t3⟩; have qd := ext_trans qc t3))
    go_wp2_with fail
    go_ret
    exact ⟨_, rfl, t1, fresh_le t2 (Nat.le_trans x1.size qc.size), ext_trans x1 qd⟩
set_option maxHeartbeats 16000000 in
theorem rft5_any {n : Nat} {w : World} {F : Fi} {vs vk : Value} (h : FilN (n + 1) w F vs vk) (hk : KrN (n + 1) F) (e0 : F.kind = 5) (hl : (tlv 165 (txB F.typ ++ txB F.val)).length ≤ 65536) :
    Calls Tryz.prog 99 #[.agg #[.int .i64 5, sv F.typ, sv F.val, vs, vk]] w fun e w' => ∃ v', e = .returned v' ∧ Own w' 5 v' ((tlv 165 (txB F.typ ++ txB F.val)).map bv) ∧ Fresh w.heap.size v' ∧ Ext w w' := by
  obtain ⟨-, ⟨A1, c1, e1⟩, hss, A2, c2, e2, -⟩ := h.open_
  obtain ⟨-, -, hT, hB, -, k5, -⟩ := hk
  have hK : F.kids = [] := k5 (by omega)
  rw [hK] at e2
  replace e2 : vk = .slice A2 0 c2 := e2
  clear h e0 hK k5
  generalize F.typ = T at *
  generalize F.val = V at *
  generalize F.subs = B at *
  generalize F.kids = Ks at *
  obtain ⟨m, hm⟩ : ∃ m, m = B.length := ⟨_, rfl⟩
  rw [← hm] at e1 hB
  subst e1 e2
  obtain ⟨w1, hw1⟩ : ∃ x, x = w.alloc (.cells #[.int .i64 5, sv T, sv V, .slice A1 m c1, .slice A2 0 c2] 26) := ⟨_, rfl⟩
  obtain ⟨p, hp⟩ : ∃ p, p = w.heap.size := ⟨_, rfl⟩
  have x1 : Ext w w1 := by rw [hw1]; exact (Mod.refl _ w).alloc _
  have BP : Blk w1 p 26 #[.int .i64 5, sv T, sv V, .slice A1 m c1, .slice A2 0 c2] := by rw [hw1, hp]; exact Blk.new w _ _
  have hcc : ∀ {wx : World}, Ext w1 wx → wx.cell? ⟨p, 0, none⟩ = some (.int .i64 5) ∧ wx.cell? ⟨p, 1, none⟩ = some (sv T) ∧ wx.cell? ⟨p, 2, none⟩ = some (sv V) ∧ wx.cell? ⟨p, 3, none⟩ = some (.slice A1 m c1) ∧ wx.cell? ⟨p, 4, none⟩ = some (.slice A2 0 c2) := fun x => ⟨(BP.mod x (fun h => h)).cell 0, (BP.mod x (fun h => h)).cell 1, (BP.mod x (fun h => h)).cell 2, (BP.mod x (fun h => h)).cell 3, (BP.mod x (fun h => h)).cell 4⟩
  obtain ⟨p0, p1, p2, p3, p4⟩ := hcc (Mod.refl _ w1)
  obtain ⟨Z, hZ⟩ : ∃ Z, Z = tlv 165 (txB T ++ txB V) := ⟨_, rfl⟩
  rw [← hZ] at hl ⊢
  replace hZ := Lib.hid hZ
  replace hw1 := Lib.hid hw1
  replace hp := Lib.hid hp
  clear BP
  have hl2 : (txB T ++ txB V).length ≤ 65536 := by rw [hZ.out] at hl; exact tlv_le hl
  have hV : V.length ≤ 65536 := by rw [List.length_append] at hl2; exact tlv_le (t := 4) (show (txB V).length ≤ 65536 by omega)
  have htx1 : ∀ wx, Calls Tryz.prog 97 #[sv T] wx fun e w' => ∃ v', e = .returned v' ∧ Own w' 5 v' ((txB T).map bv) ∧ Fresh wx.heap.size v' ∧ Ext wx w' := fun wx => rtext25_any (w := wx) T (by omega)
  have htx2 : ∀ wx, Calls Tryz.prog 97 #[sv V] wx fun e w' => ∃ v', e = .returned v' ∧ Own w' 5 v' ((txB V).map bv) ∧ Fresh wx.heap.size v' ∧ Ext wx w' := fun wx => rtext25_any (w := wx) V hV
  generalize txB T = P at *
  generalize txB V = Q at *
  have hf2 : [P, Q].flatten = P ++ Q := by simp
  have htag : ∀ (wx : World) (S : Nat → Prop) (y : Value), Rw wx S y [P, Q] → Calls Tryz.prog 72 #[.int .u8 (IntKind.u8.wrap (IntKind.i64.wrap 165)), y] wx fun e w' => ∃ v', e = .returned v' ∧ Own w' 5 v' (Z.map bv) ∧ Fresh wx.heap.size v' ∧ Ext wx w' := fun wx S y hr => by
    have h := rtag25_any 165 hr (by rw [hf2]; exact hl2)
    rw [hf2, ← hZ.out] at h
    rw [show IntKind.u8.wrap (IntKind.i64.wrap 165) = 165 by decide]
    exact h
  have hS : ∀ wx, Ext w1 wx → wx.cell? ⟨p, 0, none⟩ = some (.int .i64 5) ∧ wx.cell? ⟨p, 1, none⟩ = some (sv T) ∧ wx.cell? ⟨p, 2, none⟩ = some (sv V) := fun wx x => ⟨(hcc x).1, (hcc x).2.1, (hcc x).2.2.1⟩
  have q0 : Ext w1 w1.drew := (Mod.refl _ w1).drew
  clear hcc hl hl2 hf2 hV hT hB hm hss
  go_enter Tryz.func99, Tryz.ntmps99
  go_upto_region 1 with fail
  rw [← hw1.out, ← hp.out]
  clear hw1 hp
  go_wp2_with fail
  go_loopw [3, 4] (fun v i wr => v = .slice none 0 0 ∧ i = .int .i64 0 ∧ wr = w1) (fun _ _ _ => 0)
  case atStart => exact ⟨rfl, rfl, rfl⟩
  case round =>
    obtain ⟨rfl, rfl, hw⟩ := hrel
    replace hw := hw.symm
    subst hw
    go_wp2_with fail
    go_region_held3 (fun wx => wx.cell? ⟨p, 0, none⟩ = some (.int .i64 5) ∧ wx.cell? ⟨p, 1, none⟩ = some (sv T) ∧ wx.cell? ⟨p, 2, none⟩ = some (sv V)) (first | exact hS _ qd | exact hS _ qc | exact hS _ qb | exact hS _ qa | exact hS _ q0 | go_keep) (first
      | (go_at_call 97; (with_reducible refine (htx1 _).mono ?_); rintro e wa ⟨va, rfl, a1, a2, a3⟩; have qa := ext_trans q0 a3)
      | (go_at_call 97; (with_reducible refine (htx2 _).mono ?_); rintro e wb ⟨vb, rfl, b1, b2, b3⟩; have qb := ext_trans qa b3; obtain ⟨Aa, ca, ea⟩ := a1.shape; obtain ⟨Ab, cb, eb⟩ := b1.shape; rw [List.length_map] at ea eb; subst ea eb; have hr := Rw.two 22 (a1.mod b3 (fun _ _ h => h)).sl b1.sl; have qc := ext_trans qb ((Mod.refl (fun _ => False) wb).alloc (.cells #[.slice Aa P.length ca, .slice Ab Q.length cb] 22)))
      | (go_at_call 72; (with_reducible refine (htag _ _ _ hr).mono ?_); rintro e wc ⟨vc, rfl, t1, t2, t3⟩; have qd := ext_trans qc t3))
    go_wp2_with fail
    go_ret
    exact ⟨_, rfl, t1, fresh_le t2 (Nat.le_trans x1.size qc.size), ext_trans x1 qd⟩
set_option maxHeartbeats 16000000 in
theorem rft6_any {n : Nat} {w : World} {F : Fi} {vs vk : Value} (h : FilN (n + 1) w F vs vk) (hk : KrN (n + 1) F) (e0 : F.kind = 6) (hl : (tlv 166 (txB F.typ ++ txB F.val)).length ≤ 65536) :
    Calls Tryz.prog 99 #[.agg #[.int .i64 6, sv F.typ, sv F.val, vs, vk]] w fun e w' => ∃ v', e = .returned v' ∧ Own w' 5 v' ((tlv 166 (txB F.typ ++ txB F.val)).map bv) ∧ Fresh w.heap.size v' ∧ Ext w w' := by
  obtain ⟨-, ⟨A1, c1, e1⟩, hss, A2, c2, e2, -⟩ := h.open_
  obtain ⟨-, -, hT, hB, -, k5, -⟩ := hk
  have hK : F.kids = [] := k5 (by omega)
  rw [hK] at e2
  replace e2 : vk = .slice A2 0 c2 := e2
  clear h e0 hK k5
  generalize F.typ = T at *
  generalize F.val = V at *
  generalize F.subs = B at *
  generalize F.kids = Ks at *
  obtain ⟨m, hm⟩ : ∃ m, m = B.length := ⟨_, rfl⟩
  rw [← hm] at e1 hB
  subst e1 e2
  obtain ⟨w1, hw1⟩ : ∃ x, x = w.alloc (.cells #[.int .i64 6, sv T, sv V, .slice A1 m c1, .slice A2 0 c2] 26) := ⟨_, rfl⟩
  obtain ⟨p, hp⟩ : ∃ p, p = w.heap.size := ⟨_, rfl⟩
  have x1 : Ext w w1 := by rw [hw1]; exact (Mod.refl _ w).alloc _
  have BP : Blk w1 p 26 #[.int .i64 6, sv T, sv V, .slice A1 m c1, .slice A2 0 c2] := by rw [hw1, hp]; exact Blk.new w _ _
  have hcc : ∀ {wx : World}, Ext w1 wx → wx.cell? ⟨p, 0, none⟩ = some (.int .i64 6) ∧ wx.cell? ⟨p, 1, none⟩ = some (sv T) ∧ wx.cell? ⟨p, 2, none⟩ = some (sv V) ∧ wx.cell? ⟨p, 3, none⟩ = some (.slice A1 m c1) ∧ wx.cell? ⟨p, 4, none⟩ = some (.slice A2 0 c2) := fun x => ⟨(BP.mod x (fun h => h)).cell 0, (BP.mod x (fun h => h)).cell 1, (BP.mod x (fun h => h)).cell 2, (BP.mod x (fun h => h)).cell 3, (BP.mod x (fun h => h)).cell 4⟩
  obtain ⟨p0, p1, p2, p3, p4⟩ := hcc (Mod.refl _ w1)
  obtain ⟨Z, hZ⟩ : ∃ Z, Z = tlv 166 (txB T ++ txB V) := ⟨_, rfl⟩
  rw [← hZ] at hl ⊢
  replace hZ := Lib.hid hZ
  replace hw1 := Lib.hid hw1
  replace hp := Lib.hid hp
  clear BP
  have hl2 : (txB T ++ txB V).length ≤ 65536 := by rw [hZ.out] at hl; exact tlv_le hl
  have hV : V.length ≤ 65536 := by rw [List.length_append] at hl2; exact tlv_le (t := 4) (show (txB V).length ≤ 65536 by omega)
  have htx1 : ∀ wx, Calls Tryz.prog 97 #[sv T] wx fun e w' => ∃ v', e = .returned v' ∧ Own w' 5 v' ((txB T).map bv) ∧ Fresh wx.heap.size v' ∧ Ext wx w' := fun wx => rtext25_any (w := wx) T (by omega)
  have htx2 : ∀ wx, Calls Tryz.prog 97 #[sv V] wx fun e w' => ∃ v', e = .returned v' ∧ Own w' 5 v' ((txB V).map bv) ∧ Fresh wx.heap.size v' ∧ Ext wx w' := fun wx => rtext25_any (w := wx) V hV
  generalize txB T = P at *
  generalize txB V = Q at *
  have hf2 : [P, Q].flatten = P ++ Q := by simp
  have htag : ∀ (wx : World) (S : Nat → Prop) (y : Value), Rw wx S y [P, Q] → Calls Tryz.prog 72 #[.int .u8 (IntKind.u8.wrap (IntKind.i64.wrap 166)), y] wx fun e w' => ∃ v', e = .returned v' ∧ Own w' 5 v' (Z.map bv) ∧ Fresh wx.heap.size v' ∧ Ext wx w' := fun wx S y hr => by
    have h := rtag25_any 166 hr (by rw [hf2]; exact hl2)
    rw [hf2, ← hZ.out] at h
    rw [show IntKind.u8.wrap (IntKind.i64.wrap 166) = 166 by decide]
    exact h
  have hS : ∀ wx, Ext w1 wx → wx.cell? ⟨p, 0, none⟩ = some (.int .i64 6) ∧ wx.cell? ⟨p, 1, none⟩ = some (sv T) ∧ wx.cell? ⟨p, 2, none⟩ = some (sv V) := fun wx x => ⟨(hcc x).1, (hcc x).2.1, (hcc x).2.2.1⟩
  have q0 : Ext w1 w1.drew := (Mod.refl _ w1).drew
  clear hcc hl hl2 hf2 hV hT hB hm hss
  go_enter Tryz.func99, Tryz.ntmps99
  go_upto_region 1 with fail
  rw [← hw1.out, ← hp.out]
  clear hw1 hp
  go_wp2_with fail
  go_loopw [3, 4] (fun v i wr => v = .slice none 0 0 ∧ i = .int .i64 0 ∧ wr = w1) (fun _ _ _ => 0)
  case atStart => exact ⟨rfl, rfl, rfl⟩
  case round =>
    obtain ⟨rfl, rfl, hw⟩ := hrel
    replace hw := hw.symm
    subst hw
    go_wp2_with fail
    go_region_held3 (fun wx => wx.cell? ⟨p, 0, none⟩ = some (.int .i64 6) ∧ wx.cell? ⟨p, 1, none⟩ = some (sv T) ∧ wx.cell? ⟨p, 2, none⟩ = some (sv V)) (first | exact hS _ qd | exact hS _ qc | exact hS _ qb | exact hS _ qa | exact hS _ q0 | go_keep) (first
      | (go_at_call 97; (with_reducible refine (htx1 _).mono ?_); rintro e wa ⟨va, rfl, a1, a2, a3⟩; have qa := ext_trans q0 a3)
      | (go_at_call 97; (with_reducible refine (htx2 _).mono ?_); rintro e wb ⟨vb, rfl, b1, b2, b3⟩; have qb := ext_trans qa b3; obtain ⟨Aa, ca, ea⟩ := a1.shape; obtain ⟨Ab, cb, eb⟩ := b1.shape; rw [List.length_map] at ea eb; subst ea eb; have hr := Rw.two 22 (a1.mod b3 (fun _ _ h => h)).sl b1.sl; have qc := ext_trans qb ((Mod.refl (fun _ => False) wb).alloc (.cells #[.slice Aa P.length ca, .slice Ab Q.length cb] 22)))
      | (go_at_call 72; (with_reducible refine (htag _ _ _ hr).mono ?_); rintro e wc ⟨vc, rfl, t1, t2, t3⟩; have qd := ext_trans qc t3))
    go_wp2_with fail
    go_ret
    exact ⟨_, rfl, t1, fresh_le t2 (Nat.le_trans x1.size qc.size), ext_trans x1 qd⟩
set_option maxHeartbeats 16000000 in
theorem rft7_any {n : Nat} {w : World} {F : Fi} {vs vk : Value} (h : FilN (n + 1) w F vs vk) (hk : KrN (n + 1) F) (e0 : F.kind = 7) (_hl : (tlv 135 F.typ).length ≤ 65536) :
    Calls Tryz.prog 99 #[.agg #[.int .i64 7, sv F.typ, sv F.val, vs, vk]] w fun e w' => ∃ v', e = .returned v' ∧ Own w' 5 v' ((tlv 135 F.typ).map bv) ∧ Fresh w.heap.size v' ∧ Ext w w' := by
  obtain ⟨-, ⟨A1, c1, e1⟩, hss, A2, c2, e2, -⟩ := h.open_
  obtain ⟨-, -, hT, hB, -, k5, -⟩ := hk
  have hK : F.kids = [] := k5 (by omega)
  rw [hK] at e2
  replace e2 : vk = .slice A2 0 c2 := e2
  clear h e0 hK k5
  generalize F.typ = T at *
  generalize F.val = V at *
  generalize F.subs = B at *
  generalize F.kids = Ks at *
  obtain ⟨m, hm⟩ : ∃ m, m = B.length := ⟨_, rfl⟩
  rw [← hm] at e1 hB
  subst e1 e2
  obtain ⟨w1, hw1⟩ : ∃ x, x = w.alloc (.cells #[.int .i64 7, sv T, sv V, .slice A1 m c1, .slice A2 0 c2] 26) := ⟨_, rfl⟩
  obtain ⟨p, hp⟩ : ∃ p, p = w.heap.size := ⟨_, rfl⟩
  have x1 : Ext w w1 := by rw [hw1]; exact (Mod.refl _ w).alloc _
  have BP : Blk w1 p 26 #[.int .i64 7, sv T, sv V, .slice A1 m c1, .slice A2 0 c2] := by rw [hw1, hp]; exact Blk.new w _ _
  have hcc : ∀ {wx : World}, Ext w1 wx → wx.cell? ⟨p, 0, none⟩ = some (.int .i64 7) ∧ wx.cell? ⟨p, 1, none⟩ = some (sv T) ∧ wx.cell? ⟨p, 2, none⟩ = some (sv V) ∧ wx.cell? ⟨p, 3, none⟩ = some (.slice A1 m c1) ∧ wx.cell? ⟨p, 4, none⟩ = some (.slice A2 0 c2) := fun x => ⟨(BP.mod x (fun h => h)).cell 0, (BP.mod x (fun h => h)).cell 1, (BP.mod x (fun h => h)).cell 2, (BP.mod x (fun h => h)).cell 3, (BP.mod x (fun h => h)).cell 4⟩
  obtain ⟨p0, p1, p2, p3, p4⟩ := hcc (Mod.refl _ w1)
  obtain ⟨Z, hZ⟩ : ∃ Z, Z = tlv 135 T := ⟨_, rfl⟩
  rw [← hZ] at _hl ⊢
  replace hZ := Lib.hid hZ
  replace hw1 := Lib.hid hw1
  replace hp := Lib.hid hp
  clear BP
  have hl2 : T.length ≤ 65536 := by omega
  clear hcc _hl hT hB hm hss
  go_enter Tryz.func99, Tryz.ntmps99
  go_upto_region 1 with fail
  rw [← hw1.out, ← hp.out]
  clear hw1 hp
  go_wp2_with fail
  go_loopw [3, 4] (fun v i wr => v = .slice none 0 0 ∧ i = .int .i64 0 ∧ wr = w1) (fun _ _ _ => 0)
  case atStart => exact ⟨rfl, rfl, rfl⟩
  case round =>
    obtain ⟨rfl, rfl, hw⟩ := hrel
    replace hw := hw.symm
    subst hw
    go_wp2_with ((with_reducible show wpList _ _ _ (⟨some 55, _, _, _, _, _⟩ :: _) _ _); refine wp_tob Tryz.underlying9 Tryz.underlying22 Tryz.underlying5 (l := T) (by omega) rfl (.tmp 54) rfl rfl ?_; intro cp w2 k1 k2 k3; clear k3)
    have hr := Rw.one 22 k1
    have hx2 := ext_trans k2 ((Mod.refl (fun _ => False) w2).alloc (.cells #[.slice (some ⟨w1.heap.size, 0, none⟩) T.length cp] 22))
    refine (rtag25_any 135 hr (by rw [one_flat]; exact hl2)).mono ?_
    rintro e w3 ⟨v3, rfl, m1, m2, m3⟩
    rw [one_flat] at m1
    go_wp2_with fail
    go_ret
    exact ⟨_, rfl, by rw [hZ.out]; exact m1, fresh_le m2 (Nat.le_trans x1.size hx2.size), ext_trans x1 (ext_trans hx2 m3)⟩
set_option maxHeartbeats 16000000 in
theorem rft4_any {n : Nat} {w : World} {F : Fi} {vs vk : Value} (h : FilN (n + 1) w F vs vk) (hk : KrN (n + 1) F) (e0 : F.kind = 4) (hl : (tlv 164 (txB F.typ ++ tlv 48 (pieB F.subs).flatten)).length ≤ 65536) :
    Calls Tryz.prog 99 #[.agg #[.int .i64 4, sv F.typ, sv F.val, vs, vk]] w fun e w' => ∃ v', e = .returned v' ∧ Own w' 5 v' ((tlv 164 (txB F.typ ++ tlv 48 (pieB F.subs).flatten)).map bv) ∧ Fresh w.heap.size v' ∧ Ext w w' := by
  obtain ⟨-, ⟨A1, c1, e1⟩, hss, A2, c2, e2, -⟩ := h.open_
  obtain ⟨-, -, hT, hB, -, k5, -⟩ := hk
  have hK : F.kids = [] := k5 (by omega)
  rw [hK] at e2
  replace e2 : vk = .slice A2 0 c2 := e2
  clear h e0 hK k5
  generalize F.typ = T at *
  generalize F.val = V at *
  generalize F.subs = B at *
  generalize F.kids = Ks at *
  obtain ⟨m, hm⟩ : ∃ m, m = B.length := ⟨_, rfl⟩
  rw [← hm] at e1 hB
  subst e1 e2
  obtain ⟨w1, hw1⟩ : ∃ x, x = w.alloc (.cells #[.int .i64 4, sv T, sv V, .slice A1 m c1, .slice A2 0 c2] 26) := ⟨_, rfl⟩
  obtain ⟨p, hp⟩ : ∃ p, p = w.heap.size := ⟨_, rfl⟩
  have x1 : Ext w w1 := by rw [hw1]; exact (Mod.refl _ w).alloc _
  have BP : Blk w1 p 26 #[.int .i64 4, sv T, sv V, .slice A1 m c1, .slice A2 0 c2] := by rw [hw1, hp]; exact Blk.new w _ _
  have hcc : ∀ {wx : World}, Ext w1 wx → wx.cell? ⟨p, 0, none⟩ = some (.int .i64 4) ∧ wx.cell? ⟨p, 1, none⟩ = some (sv T) ∧ wx.cell? ⟨p, 2, none⟩ = some (sv V) ∧ wx.cell? ⟨p, 3, none⟩ = some (.slice A1 m c1) ∧ wx.cell? ⟨p, 4, none⟩ = some (.slice A2 0 c2) := fun x => ⟨(BP.mod x (fun h => h)).cell 0, (BP.mod x (fun h => h)).cell 1, (BP.mod x (fun h => h)).cell 2, (BP.mod x (fun h => h)).cell 3, (BP.mod x (fun h => h)).cell 4⟩
  obtain ⟨p0, p1, p2, p3, p4⟩ := hcc (Mod.refl _ w1)
  obtain ⟨Z, hZ⟩ : ∃ Z, Z = tlv 164 (txB T ++ tlv 48 (pieB B).flatten) := ⟨_, rfl⟩
  rw [← hZ] at hl ⊢
  replace hZ := Lib.hid hZ
  replace hw1 := Lib.hid hw1
  replace hp := Lib.hid hp
  clear BP
  have hl2 : (txB T ++ tlv 48 (pieB B).flatten).length ≤ 65536 := by rw [hZ.out] at hl; exact tlv_le hl
  have hl3 : (tlv 48 (pieB B).flatten).length ≤ 65536 := by rw [List.length_append] at hl2; omega
  have hl4 := tlv_le hl3
  have hp1 : ∀ (k : Nat), pie1 B k = if 0 < k ∧ k + 1 < m then [tlv 129 (B.getD k [])] else if B.getD k [] = [] then [] else if k = 0 then [tlv 128 (B.getD k [])] else [tlv 130 (B.getD k [])] := fun k => by rw [hm]; rfl
  have hpB : pieB B = (List.range m).flatMap (pie1 B) := by rw [hm]; rfl
  have htk : ∀ k, k < m → ((List.range (k + 1)).flatMap (pie1 B)).flatten.length ≤ 65536 := fun k hk => Nat.le_trans (pie_flat_le B (m := m) (by omega)) (by rw [← hpB]; exact hl4)
  have hcv : ∀ {wx : World} (j : Nat) (hj : j < B.length), Ext w1 wx → ∃ ad, A1 = some ad ∧ wx.cell? (ad.add j) = some (sv B[j]) := fun j hj x => by
    obtain ⟨A9, c9, e9, -, -, -, h4⟩ := (Sl.ext hss (ext_trans x1 x)).open_
    injection e9 with e9 _ _
    subst e9
    obtain ⟨ad, h1, h2, h3⟩ := h4.at_ hj
    exact ⟨ad, h1, h3⟩
  have hcd : ∀ {wx : World}, Ext w1 wx → wx.cell? ⟨p, 1, none⟩ = some (sv T) ∧ wx.cell? ⟨p, 3, none⟩ = some (.slice A1 m c1) := fun x => ⟨(hcc x).2.1, (hcc x).2.2.2.1⟩
  replace hm := Lib.hid hm
  clear hcc hl hss
  go_enter Tryz.func99, Tryz.ntmps99
  go_upto_region 1 with fail
  rw [← hw1.out, ← hp.out]
  clear hw1 hp
  go_wp2_with fail
  go_loopw [3, 4] (fun v i wr => v = .slice none 0 0 ∧ i = .int .i64 0 ∧ wr = w1) (fun _ _ _ => 0)
  case atStart => exact ⟨rfl, rfl, rfl⟩
  case round =>
    obtain ⟨rfl, rfl, hw⟩ := hrel
    replace hw := hw.symm
    subst hw
    go_wp2_with fail
    clear p0 p1 p2 p3 p4
    go_loopw [3, 6] (fun v i wr => ∃ k : Nat, i = .int .i64 k ∧ k ≤ m ∧ Own wr 5 v ((((List.range k).flatMap (pie1 B)).flatten).map bv) ∧ Fresh w1.heap.size v ∧ Ext w1 wr) (fun _ i _ => m - (intOf i).toNat)
    case atStart => exact ⟨0, rfl, Nat.zero_le _, by simpa using Own.nil w1 5, fresh_nil _ _ _, Mod.refl _ _⟩
    case round =>
      obtain ⟨k, rfl, hk, ho, hf0, hx⟩ := hrel
      have hcd1 := hcd hx
      obtain ⟨p1, p3⟩ := hcd1
      have hmm := hm.out
      by_cases hlt : k < m
      · have hb : decide ((k : Int) < (m : Int)) = true := dtrue (by omega)
        have hbn : decide (k < m) = true := dtrue hlt
        obtain ⟨ad, hA, cv⟩ := hcv k (by omega) hx
        subst hA
        have h1 := pie_flat_next B k
        have h2 := htk k hlt
        rw [h1] at h2
        have hgd : B.getD k [] = B[k]'(by omega) := by rw [List.getD_eq_getElem?_getD, List.getElem?_eq_getElem (by omega)]; rfl
        have hpk := hp1 k
        rw [hgd] at hpk
        rw [hpk] at h1 h2
        generalize B[k]'(by omega) = x at *
        have hk0 : (0 : Int) ≤ (k : Int) := by omega
        have hk1 : (k : Int) < (m : Int) := by omega
        have hm9 : (m : Int) ≤ 1000 := by omega
        obtain ⟨M, hM⟩ : ∃ M, M = ((List.range k).flatMap (pie1 B)).flatten := ⟨_, rfl⟩
        rw [← hM] at ho h1 h2
        clear hpk hgd hmm hp1 hcv hcd htk hM hl2 hl3 hl4 hpB
        by_cases c1' : 0 < k ∧ k + 1 < m
        · rw [if_pos c1'] at h1 h2
          have hxl : x.length ≤ 65536 := by
            rw [List.length_append] at h2
            exact tlv_le (t := 129) (show (tlv 129 x).length ≤ 65536 by simp only [List.flatten_cons, List.flatten_nil, List.append_nil] at h2; omega)
          have hfx : [tlv 129 x].flatten = tlv 129 x := by simp
          rw [hfx] at h1 h2
          have hst := Lib.hid h1
          have hln := Lib.hid (show ((M.map bv).length + ((tlv 129 x).map bv).length) * 1 ≤ 140737488355328 by rw [List.length_append] at h2; rw [List.length_map, List.length_map]; omega)
          clear h1 h2 hfx
          have b1 : decide (0 < k) = true := dtrue (by omega)
          have b1' : decide ((0 : Int) < (k : Int)) = true := dtrue (by omega)
          have b4 : ((k : Int) == 0) = false := by rw [beq_eq_false_iff_ne]; omega
          have b2 : decide ((k : Int) + 1 < (m : Int)) = true := dtrue (by omega)
          go_wp2_with ((with_reducible show wpList _ _ _ (⟨some 102, _, _, _, _, _⟩ :: _) _ _); refine wp_tob Tryz.underlying9 Tryz.underlying22 Tryz.underlying5 (l := x) (by omega) rfl (.tmp 101) rfl rfl ?_; intro cp w2 k1 k2 k3; clear k3)
          have hr := Rw.one 22 k1
          have hx2 := ext_trans k2 ((Mod.refl (fun _ => False) w2).alloc (.cells #[.slice (some ⟨wr.heap.size, 0, none⟩) x.length cp] 22))
          refine (rtag25_any 129 hr (by rw [one_flat]; exact hxl)).mono ?_
          rintro e w3 ⟨v3, rfl, m1, m2, m3⟩
          rw [one_flat] at m1
          generalize tlv 129 x = X at *
          obtain ⟨A5, c5, e5⟩ := m1.shape
          rw [List.length_map] at e5
          subst e5
          have x3 : Ext wr w3 := ext_trans hx2 m3
          have ho1 := ho.mod x3 (fun _ _ h => h)
          have hxx := ext_trans hx x3
          go_wp2_with ((with_reducible show wpList _ _ _ (⟨some 105, _, _, _, _, _⟩ :: _) _ _); refine wp_app tyB ho1 m1.sl (bv_one _) rfl (.tmp 96) (.tmp 104) rfl rfl rfl hln.out ?_; intro v4 w4 q1 q2 q3)
          exact ⟨⟨k + 1, by go_num, by omega, by rw [hst.out, List.map_append]; exact q1, q3.fresh hf0 hxx.size, ext_app0 hxx hf0 q2⟩, by simp [intOf] <;> omega⟩
        rw [if_neg c1'] at h1 h2
        have hz1 : (0 < k ∧ ¬ (k + 1 < m)) ∨ k = 0 := by omega
        by_cases hx0 : x = []
        · rw [if_pos hx0] at h1
          simp only [List.flatten_nil, List.append_nil] at h1
          subst hx0
          have hst := Lib.hid h1
          clear h1 h2
          rcases hz1 with ⟨z1, z2⟩ | z1
          · have b1 : decide (0 < k) = true := dtrue (by omega)
            have b1' : decide ((0 : Int) < (k : Int)) = true := dtrue (by omega)
            have b4 : ((k : Int) == 0) = false := by rw [beq_eq_false_iff_ne]; omega
            have b2 : decide ((k : Int) + 1 < (m : Int)) = false := dfalse (by omega)
            go_wp2_with fail
            exact ⟨⟨k + 1, by go_num, by omega, by rw [hst.out]; exact ho, hf0, hx⟩, by simp [intOf] <;> omega⟩
          · have b1 : decide (0 < k) = false := dfalse (by omega)
            have b1' : decide ((0 : Int) < (k : Int)) = false := dfalse (by omega)
            have b4 : ((k : Int) == 0) = true := by rw [beq_iff_eq]; omega
            clear z1
            go_wp2_with fail
            exact ⟨⟨k + 1, by go_num, by omega, by rw [hst.out]; exact ho, hf0, hx⟩, by simp [intOf] <;> omega⟩
        rw [if_neg hx0] at h1 h2
        have b3 : x.isEmpty = false := by simpa using hx0
        rcases hz1 with ⟨z1, z2⟩ | z1
        · rw [if_neg (show ¬ k = 0 by omega)] at h1 h2
          have hxl : x.length ≤ 65536 := by
            rw [List.length_append] at h2
            exact tlv_le (t := 130) (show (tlv 130 x).length ≤ 65536 by simp only [List.flatten_cons, List.flatten_nil, List.append_nil] at h2; omega)
          have hfx : [tlv 130 x].flatten = tlv 130 x := by simp
          rw [hfx] at h1 h2
          have hst := Lib.hid h1
          have hln := Lib.hid (show ((M.map bv).length + ((tlv 130 x).map bv).length) * 1 ≤ 140737488355328 by rw [List.length_append] at h2; rw [List.length_map, List.length_map]; omega)
          clear h1 h2 hfx
          have b1 : decide (0 < k) = true := dtrue (by omega)
          have b1' : decide ((0 : Int) < (k : Int)) = true := dtrue (by omega)
          have b4 : ((k : Int) == 0) = false := by rw [beq_eq_false_iff_ne]; omega
          have b2 : decide ((k : Int) + 1 < (m : Int)) = false := dfalse (by omega)
          go_wp2_with ((with_reducible show wpList _ _ _ (⟨some 123, _, _, _, _, _⟩ :: _) _ _); refine wp_tob Tryz.underlying9 Tryz.underlying22 Tryz.underlying5 (l := x) (by omega) rfl (.tmp 122) rfl rfl ?_; intro cp w2 k1 k2 k3; clear k3)
          have hr := Rw.one 22 k1
          have hx2 := ext_trans k2 ((Mod.refl (fun _ => False) w2).alloc (.cells #[.slice (some ⟨wr.heap.size, 0, none⟩) x.length cp] 22))
          refine (rtag25_any 130 hr (by rw [one_flat]; exact hxl)).mono ?_
          rintro e w3 ⟨v3, rfl, m1, m2, m3⟩
          rw [one_flat] at m1
          generalize tlv 130 x = X at *
          obtain ⟨A5, c5, e5⟩ := m1.shape
          rw [List.length_map] at e5
          subst e5
          have x3 : Ext wr w3 := ext_trans hx2 m3
          have ho1 := ho.mod x3 (fun _ _ h => h)
          have hxx := ext_trans hx x3
          go_wp2_with ((with_reducible show wpList _ _ _ (⟨some 126, _, _, _, _, _⟩ :: _) _ _); refine wp_app tyB ho1 m1.sl (bv_one _) rfl (.tmp 117) (.tmp 125) rfl rfl rfl hln.out ?_; intro v4 w4 q1 q2 q3)
          exact ⟨⟨k + 1, by go_num, by omega, by rw [hst.out, List.map_append]; exact q1, q3.fresh hf0 hxx.size, ext_app0 hxx hf0 q2⟩, by simp [intOf] <;> omega⟩
        · rw [if_pos z1] at h1 h2
          have hxl : x.length ≤ 65536 := by
            rw [List.length_append] at h2
            exact tlv_le (t := 128) (show (tlv 128 x).length ≤ 65536 by simp only [List.flatten_cons, List.flatten_nil, List.append_nil] at h2; omega)
          have hfx : [tlv 128 x].flatten = tlv 128 x := by simp
          rw [hfx] at h1 h2
          have hst := Lib.hid h1
          have hln := Lib.hid (show ((M.map bv).length + ((tlv 128 x).map bv).length) * 1 ≤ 140737488355328 by rw [List.length_append] at h2; rw [List.length_map, List.length_map]; omega)
          clear h1 h2 hfx
          have b4 : ((k : Int) == 0) = true := by rw [beq_iff_eq]; omega
          clear z1
          go_wp2_with ((with_reducible show wpList _ _ _ (⟨some 83, _, _, _, _, _⟩ :: _) _ _); refine wp_tob Tryz.underlying9 Tryz.underlying22 Tryz.underlying5 (l := x) (by omega) rfl (.tmp 82) rfl rfl ?_; intro cp w2 k1 k2 k3; clear k3)
          have hr := Rw.one 22 k1
          have hx2 := ext_trans k2 ((Mod.refl (fun _ => False) w2).alloc (.cells #[.slice (some ⟨wr.heap.size, 0, none⟩) x.length cp] 22))
          refine (rtag25_any 128 hr (by rw [one_flat]; exact hxl)).mono ?_
          rintro e w3 ⟨v3, rfl, m1, m2, m3⟩
          rw [one_flat] at m1
          generalize tlv 128 x = X at *
          obtain ⟨A5, c5, e5⟩ := m1.shape
          rw [List.length_map] at e5
          subst e5
          have x3 : Ext wr w3 := ext_trans hx2 m3
          have ho1 := ho.mod x3 (fun _ _ h => h)
          have hxx := ext_trans hx x3
          go_wp2_with ((with_reducible show wpList _ _ _ (⟨some 86, _, _, _, _, _⟩ :: _) _ _); refine wp_app tyB ho1 m1.sl (bv_one _) rfl (.tmp 77) (.tmp 85) rfl rfl rfl hln.out ?_; intro v4 w4 q1 q2 q3)
          exact ⟨⟨k + 1, by go_num, by omega, by rw [hst.out, List.map_append]; exact q1, q3.fresh hf0 hxx.size, ext_app0 hxx hf0 q2⟩, by simp [intOf] <;> omega⟩
      · have hb : decide ((k : Int) < (m : Int)) = false := dfalse (by omega)
        have hbn : decide (k < m) = false := dfalse hlt
        have hkm : k = m := by omega
        subst hkm
        rw [← hpB] at ho
        have hT2 : T.length ≤ 65536 := by omega
        obtain ⟨X, hX⟩ : ∃ X, X = txB T := ⟨_, rfl⟩
        obtain ⟨Y, hY⟩ : ∃ Y, Y = tlv 48 (pieB B).flatten := ⟨_, rfl⟩
        rw [← hX, ← hY] at hl2
        replace hX := Lib.hid hX
        replace hY := Lib.hid hY
        generalize (pieB B).flatten = D at *
        clear hp1 hcv hcd htk hmm hpB hl3
        obtain ⟨A5, c5, e5⟩ := ho.shape
        rw [List.length_map] at e5
        subst e5
        go_wp2_with fail
        refine (rtext25_any T hT2).mono ?_
        rintro e w2 ⟨v2, rfl, m1, m2, m3⟩
        rw [← hX.out] at m1
        obtain ⟨A6, c6, e6⟩ := m1.shape
        rw [List.length_map] at e6
        subst e6
        have ho1 := ho.mod m3 (fun _ _ h => h)
        have hr := Rw.one 22 ho1.sl
        have hx2 := ext_trans m3 ((Mod.refl (fun _ => False) w2).alloc (.cells #[.slice A5 D.length c5] 22))
        have y2 := (Mod.refl (fun _ => False) w2).alloc (.cells #[.slice A5 D.length c5] 22)
        go_wp2_with fail
        refine (rtag25_any 48 hr (by rw [one_flat]; exact hl4)).mono ?_
        rintro e w3 ⟨v3, rfl, r1, r2, r3⟩
        rw [one_flat, ← hY.out] at r1
        obtain ⟨A7, c7, e7⟩ := r1.shape
        rw [List.length_map] at e7
        subst e7
        have m5 := m1.mod (ext_trans y2 r3) (fun _ _ h => h)
        have hr2 := Rw.two 22 m5.sl r1.sl
        have hfl : [X, Y].flatten = X ++ Y := by simp
        have x4 := ext_trans hx2 (ext_trans r3 ((Mod.refl (fun _ => False) w3).alloc (.cells #[.slice A6 X.length c6, .slice A7 Y.length c7] 22)))
        go_wp2_with fail
        refine (rtag25_any 164 hr2 (by rw [hfl]; exact hl2)).mono ?_
        rintro e w5 ⟨v5, rfl, s1, s2, s3⟩
        rw [hfl] at s1
        have x5 := ext_trans hx x4
        go_wp2_with fail
        go_ret
        exact ⟨_, rfl, by rw [hZ.out, ← hX.out, ← hY.out]; exact s1, fresh_le s2 (Nat.le_trans x1.size x5.size), ext_trans x1 (ext_trans x5 s3)⟩
theorem rf_step {n : Nat} (ih : RfIH n) : RfIH (n + 1) := by
  intro w F vs vk h hk hl
  obtain ⟨k1, k2, -⟩ := id hk
  rw [filB_succ] at hl ⊢
  have hkd : F.kind = 0 ∨ F.kind = 1 ∨ F.kind = 2 ∨ F.kind = 3 ∨ F.kind = 4 ∨ F.kind = 5 ∨ F.kind = 6 ∨ F.kind = 7 := by omega
  rcases hkd with e | e | e | e | e | e | e | e
  · rw [e] at hl ⊢
    rw [if_neg (by omega), if_neg (by omega), if_neg (by omega)] at hl ⊢
    exact rfk0_any ih h hk e hl
  · rw [e] at hl ⊢
    rw [if_neg (by omega), if_neg (by omega), if_neg (by omega)] at hl ⊢
    exact rfk1_any ih h hk e hl
  · rw [e] at hl ⊢
    rw [if_neg (by omega), if_neg (by omega), if_neg (by omega)] at hl ⊢
    exact rfk2_any ih h hk e hl
  · rw [e] at hl ⊢
    rw [if_neg (by omega), if_neg (by omega), if_pos (by omega)] at hl ⊢
    exact rft3_any h hk e hl
  · rw [e] at hl ⊢
    rw [if_neg (by omega), if_pos rfl] at hl ⊢
    exact rft4_any h hk e hl
  · rw [e] at hl ⊢
    rw [if_neg (by omega), if_neg (by omega), if_pos (by omega)] at hl ⊢
    exact rft5_any h hk e hl
  · rw [e] at hl ⊢
    rw [if_neg (by omega), if_neg (by omega), if_pos (by omega)] at hl ⊢
    exact rft6_any h hk e hl
  · rw [e] at hl ⊢
    rw [if_pos rfl] at hl ⊢
    exact rft7_any h hk e hl
theorem rf_any : ∀ n, RfIH n
  | 0 => fun h => h.elim
  | n + 1 => rf_step (rf_any n)
end Go.Proofs.YtoockogceobfgaaGreat
namespace Go.Proofs.YtoockogceobfgaaGreat
open Go.RowKit
set_option maxRecDepth 100000

theorem tlv_len (t : UInt8) (l : List UInt8) : (tlv t l).length ≤ l.length + 10 := by
  have := (lay_len l.length).2
  simp only [tlv, List.length_append, List.length_cons]
  omega
theorem sumQ_mul {α : Type} (f g : α → Nat) (c : Nat) : ∀ (L : List α), (∀ a ∈ L, f a ≤ c * g a) → (L.map f).sum ≤ c * (L.map g).sum
  | [], _ => by simp
  | a :: L, h => by
    have h1 := h a List.mem_cons_self
    have h2 := sumQ_mul f g c L (fun b hb => h b (List.mem_cons_of_mem _ hb))
    simp only [List.map_cons, List.sum_cons, Nat.mul_add]
    omega
theorem flatQ_len {α : Type} (f : α → List UInt8) : ∀ (L : List α), (L.flatMap f).length = (L.map fun a => (f a).length).sum
  | [] => rfl
  | a :: L => by rw [List.flatMap_cons, List.length_append, flatQ_len f L]; rfl
theorem sumQ_mem {α : Type} (f : α → Nat) : ∀ (L : List α) (a : α), a ∈ L → f a ≤ (L.map f).sum
  | b :: L, a, h => by
    simp only [List.map_cons, List.sum_cons]
    rcases List.mem_cons.1 h with h | h
    · subst h; omega
    · have := sumQ_mem f L a h; omega
theorem wQ_all {L : List (List UInt8)} (h : L.length ≤ 1000) : wQ L = (L.map vQ).sum := by unfold wQ; rw [List.take_of_length_le h]
theorem tx_len (s : List UInt8) : (txB s).length ≤ 4 * vQ s := by have : (txB s).length ≤ s.length + 10 := tlv_len 4 s; unfold vQ; omega
theorem txs_len (t : UInt8) {L : List (List UInt8)} (h : L.length ≤ 1000) : (txsB t L).length ≤ 10 + 4 * wQ L := by
  have h1 : (txsB t L).length ≤ (L.flatMap txB).length + 10 := tlv_len t (L.flatMap txB)
  have h0 := flatQ_len txB L
  have h2 := sumQ_mul (fun a => (txB a).length) vQ 4 L (fun a _ => tx_len a)
  rw [wQ_all h]
  omega
theorem nu_len (t : UInt8) (n : Int) : (nuB t n).length ≤ 18 := by have : (nuB t n).length ≤ (iB n).length + 10 := tlv_len t (iB n); have := iB_len n; omega
theorem atB_len {typ : List UInt8} {vals : List (List UInt8)} (h : vals.length ≤ 1000) : (atB typ vals).length ≤ 4 * (9 + typ.length + wQ vals) := by
  have h1 : (atB typ vals).length ≤ (txB typ ++ txsB 49 vals).length + 10 := tlv_len 48 (txB typ ++ txsB 49 vals)
  have h0 : (txB typ ++ txsB 49 vals).length = (txB typ).length + (txsB 49 vals).length := List.length_append
  have h2 : (txB typ).length ≤ typ.length + 10 := tlv_len 4 typ
  have h3 := txs_len 49 h
  omega
theorem mdB_len {m : Md} (h : m.vals.length ≤ 1000) : (mdB m).length ≤ 8 * mQ m := by
  have h1 : (mdB m).length ≤ (nuB 10 m.kind ++ atB m.typ m.vals).length + 10 := tlv_len 48 (nuB 10 m.kind ++ atB m.typ m.vals)
  have h0 : (nuB 10 m.kind ++ atB m.typ m.vals).length = (nuB 10 m.kind).length + (atB m.typ m.vals).length := List.length_append
  have h2 := nu_len 10 m.kind
  have h3 := atB_len (typ := m.typ) h
  unfold mQ
  omega
theorem mods_len {L : List Md} (h : ∀ m ∈ L, m.vals.length ≤ 1000) : (L.flatMap mdB).length ≤ 8 * (L.map mQ).sum := by
  rw [flatQ_len]
  exact sumQ_mul (fun m => (mdB m).length) mQ 8 L (fun m hm => mdB_len (h m hm))
theorem ats_len {L : List Att} (h : ∀ a ∈ L, a.vals.length ≤ 1000) : (atsB L).length ≤ 10 + 4 * (L.map aQ).sum := by
  have h1 : (atsB L).length ≤ (L.flatMap fun a : Att => atB a.typ a.vals).length + 10 := by
    unfold atsB
    generalize (L.flatMap fun a : Att => atB a.typ a.vals) = X
    exact tlv_len 48 X
  have h0 := flatQ_len (fun a : Att => atB a.typ a.vals) L
  have h2 := sumQ_mul (fun a : Att => (atB a.typ a.vals).length) aQ 4 L (fun a ha => atB_len (typ := a.typ) (h a ha))
  omega
theorem pie1_len (L : List (List UInt8)) (i : Nat) (h : i < L.length) : (pie1 L i).flatten.length ≤ 4 * vQ L[i] := by
  have hg : L.getD i [] = L[i] := by rw [List.getD_eq_getElem?_getD, List.getElem?_eq_getElem h]; rfl
  unfold pie1
  rw [hg]
  have h1 := tlv_len 129 L[i]
  have h2 := tlv_len 128 L[i]
  have h3 := tlv_len 130 L[i]
  unfold vQ
  split
  · simp only [List.flatten_cons, List.flatten_nil, List.append_nil]; omega
  · split
    · simp
    · split
      · simp only [List.flatten_cons, List.flatten_nil, List.append_nil]; omega
      · simp only [List.flatten_cons, List.flatten_nil, List.append_nil]; omega
theorem pies_len (L : List (List UInt8)) : ∀ k, k ≤ L.length → ((List.range k).flatMap (pie1 L)).flatten.length ≤ 4 * ((L.take k).map vQ).sum
  | 0, _ => by simp
  | k + 1, h => by
    have h1 := pies_len L k (by omega)
    have h2 := pie1_len L k (by omega)
    rw [pie_flat_next, List.length_append, sumQ_next vQ L (by omega), Nat.mul_add]
    omega
theorem pieB_len {L : List (List UInt8)} (h : L.length ≤ 1000) : (pieB L).flatten.length ≤ 4 * wQ L := by
  have := pies_len L L.length (Nat.le_refl _)
  rw [List.take_length] at this
  rw [wQ_all h]
  exact this
theorem filB_len : ∀ (n : Nat) (F : Fi), KdN n F → (filB n F).length ≤ 4 * wF25 n F
  | 0, _, h => h.elim
  | n + 1, F, h => by
    obtain ⟨k1, k2, k3, k4, k5, k6⟩ := h
    have ih := sumQ_mul (fun K => (filB n K).length) (wF25 n) 4 F.kids (fun K hK => filB_len n K (k6 K hK))
    rw [filB_succ, wF25_succ]
    have hp := pieB_len (L := F.subs) (by omega)
    have t1 : (txB F.typ).length ≤ F.typ.length + 10 := tlv_len 4 F.typ
    have t2 : (txB F.val).length ≤ F.val.length + 10 := tlv_len 4 F.val
    have e1 : (txB F.typ ++ tlv 48 (pieB F.subs).flatten).length = (txB F.typ).length + (tlv 48 (pieB F.subs).flatten).length := List.length_append
    have e2 : (txB F.typ ++ txB F.val).length = (txB F.typ).length + (txB F.val).length := List.length_append
    split
    · have := tlv_len 135 F.typ; omega
    · split
      · have h1 := tlv_len 164 (txB F.typ ++ tlv 48 (pieB F.subs).flatten)
        have h2 := tlv_len 48 (pieB F.subs).flatten
        omega
      · split
        · have h1 := tlv_len (UInt8.ofNat (160 + F.kind).toNat) (txB F.typ ++ txB F.val)
          omega
        · have h1 := tlv_len (UInt8.ofNat (160 + F.kind).toNat) (F.kids.map (filB n)).flatten
          have h2 : (F.kids.map (filB n)).flatten.length = (F.kids.map fun K => (filB n K).length).sum := by rw [← flatQ_len, List.flatMap_def]
          omega
/-- A filter that may be: what its bytes ask. -/
theorem one_kd : ∀ (n : Nat) (F : Fi) (d : Nat), oneN n F d = true → wF25 n F ≤ 1500 → KdN n F ∧ KrN n F
  | 0, _, _, h, _ => by simp [oneN] at h
  | n + 1, F, d, h, hw => by
    rw [wF25_succ] at hw
    unfold oneN at h
    split at h
    · cases h
    · have hkids : (∀ K ∈ F.kids, wF25 n K ≤ 1500) := fun K hK => by have := sumQ_mem (wF25 n) F.kids K hK; omega
      have hty : F.typ.length ≤ 1500 := by omega
      split at h
      · rename_i hk
        simp only [Bool.and_eq_true, decide_eq_true_eq, List.all_eq_true] at h
        obtain ⟨⟨h1, h2, h3, h4, h5⟩, h6⟩ := h
        have hpos : ∀ (m : Nat) (K : Fi) (e : Nat), oneN m K e = true → 9 ≤ wF25 m K := fun m K e he => by
          cases m with
          | zero => simp [oneN] at he
          | succ m => rw [wF25_succ]; omega
        have hkl : F.kids.length * 9 ≤ (F.kids.map (wF25 n)).sum := by
          have : ∀ (L : List Fi), (∀ K ∈ L, oneN n K (d + 1) = true) → L.length * 9 ≤ (L.map (wF25 n)).sum := by
            intro L
            induction L with
            | nil => intro _; simp
            | cons K L ih =>
              intro hL
              have a1 := hpos n K (d + 1) (hL K List.mem_cons_self)
              have a2 := ih (fun J hJ => hL J (List.mem_cons_of_mem _ hJ))
              simp only [List.length_cons, List.map_cons, List.sum_cons]
              omega
          exact this F.kids h6
        have hsub : ∀ K ∈ F.kids, KdN n K ∧ KrN n K := fun K hK => one_kd n K (d + 1) (h6 K hK) (hkids K hK)
        exact ⟨⟨by omega, by omega, by rw [h1]; simp, by rw [h3]; simp, by omega, fun K hK => (hsub K hK).1⟩, ⟨by omega, by omega, by rw [h1]; simp, by rw [h3]; simp, by omega, fun g => by omega, fun K hK => (hsub K hK).2⟩⟩
      · split at h
        · rename_i hk
          simp only [decide_eq_true_eq] at h
          obtain ⟨h1, h2, h3, h4⟩ := h
          have hk0 : F.kids = [] := List.length_eq_zero_iff.1 h4
          have hty2 : F.typ.length ≤ 1000 := by have := h1.2.1; omega
          exact ⟨⟨by omega, by omega, hty2, by rw [h3]; simp, by omega, fun K hK => by rw [hk0] at hK; cases hK⟩, ⟨by omega, by omega, hty2, by rw [h3]; simp, by omega, fun _ => hk0, fun K hK => by rw [hk0] at hK; cases hK⟩⟩
        · split at h
          · rename_i hk
            simp only [decide_eq_true_eq] at h
            obtain ⟨h1, h2, h3, h4⟩ := h
            have hk0 : F.kids = [] := List.length_eq_zero_iff.1 h4
            have hs := h3.2.1
            have hty2 : F.typ.length ≤ 1000 := by have := h1.2.1; omega
            exact ⟨⟨by omega, by omega, hty2, by omega, by omega, fun K hK => by rw [hk0] at hK; cases hK⟩, ⟨by omega, by omega, hty2, by omega, by omega, fun _ => hk0, fun K hK => by rw [hk0] at hK; cases hK⟩⟩
          · split at h
            · rename_i hk
              simp only [decide_eq_true_eq] at h
              obtain ⟨h1, h2, h3, h4⟩ := h
              have hk0 : F.kids = [] := List.length_eq_zero_iff.1 h4
              have hty2 : F.typ.length ≤ 1000 := by have := h1.2.1; omega
              exact ⟨⟨by omega, by omega, hty2, by rw [h3]; simp, by omega, fun K hK => by rw [hk0] at hK; cases hK⟩, ⟨by omega, by omega, hty2, by rw [h3]; simp, by omega, fun _ => hk0, fun K hK => by rw [hk0] at hK; cases hK⟩⟩
            · cases h
theorem nodes_w25 : ∀ (n : Nat) (F : Fi), nodesN n F * 9 ≤ wF25 n F
  | 0, _ => by simp [nodesN]
  | n + 1, F => by
    rw [wF25_succ]
    have h : nodesN (n + 1) F = 1 + (F.kids.map (nodesN n)).sum := rfl
    have h2 : ∀ (L : List Fi), (L.map (nodesN n)).sum * 9 ≤ (L.map (wF25 n)).sum := by
      intro L
      induction L with
      | nil => simp
      | cons K L ih =>
        have := nodes_w25 n K
        simp only [List.map_cons, List.sum_cons]
        omega
    have := h2 F.kids
    omega
/-- What is not heavy is small. -/
theorem light_q {n : Nat} {r : Rq} (h : heavyQ n r = false) : wR0 r + wR1 r + wR2 r ≤ 2500 ∧ wF25 n r.fil ≤ 1500 := by
  unfold heavyQ at h
  simp only [Bool.or_eq_false_iff, decide_eq_false_iff_not] at h
  omega
theorem req_len {n : Nat} {r : Rq} (h : heavyQ n r = false) (ho : isOp r.kind) (hl : listsQ r = true) (hk : r.kind = 3 → KdN n r.fil) : (reqB n r).length ≤ 65536 := by
  obtain ⟨hw, hf⟩ := light_q h
  unfold listsQ at hl
  simp only [Bool.and_eq_true, decide_eq_true_eq, List.all_eq_true] at hl
  obtain ⟨⟨l1, l2, l3⟩, l4, l5⟩ := hl
  have m1 : (r.mods.take 200) = r.mods := List.take_of_length_le (by omega)
  have m2 : (r.ats.take 200) = r.ats := List.take_of_length_le (by omega)
  unfold wR0 wR1 wR2 at hw
  rw [m1, m2] at hw
  have a1 := txs_len 48 (L := r.want) (by omega)
  have a2 := mods_len (L := r.mods) (fun m hm => by have := l4 m hm; omega)
  have a3 := ats_len (L := r.ats) (fun a ha => by have := l5 a ha; omega)
  have t1 : (txB r.dn).length ≤ r.dn.length + 10 := tlv_len 4 r.dn
  have t2 := tlv_len 128 r.pass
  have t3 : (txB r.rdn).length ≤ r.rdn.length + 10 := tlv_len 4 r.rdn
  have t4 := tlv_len 128 r.up
  have t5 : (txB r.avt).length ≤ r.avt.length + 10 := tlv_len 4 r.avt
  have t6 : (txB r.avv).length ≤ r.avv.length + 10 := tlv_len 4 r.avv
  have t7 := tlv_len 48 (r.mods.flatMap mdB)
  have t8 := tlv_len 48 (txB r.avt ++ txB r.avv)
  have t9 : (txB r.avt ++ txB r.avv).length = (txB r.avt).length + (txB r.avv).length := List.length_append
  have n1 := nu_len 2 3
  have n2 := nu_len 10 r.scope
  have n3 := nu_len 10 0
  have n4 := nu_len 2 r.limit
  have n5 := nu_len 2 0
  have n6 := nu_len 2 r.num
  have n7 := iB_len r.which
  have b1 : (boB (!r.keep)).length ≤ 1 + 10 := tlv_len 1 [if (!r.keep) = true then (255 : UInt8) else 0]
  have b2 : (boB false).length ≤ 1 + 10 := tlv_len 1 [if false = true then (255 : UInt8) else 0]
  have hb : (bodyB n r).length ≤ 60000 := by
    rcases ho with e | e | e | e | e | e | e | e | e
    · have hb : bodyB n r = nuB 2 3 ++ txB r.dn ++ tlv 128 r.pass := by simp [bodyB, e]
      rw [hb]
      have u0 : (nuB 2 3 ++ txB r.dn).length = (nuB 2 3).length + (txB r.dn).length := List.length_append
      have u1 : (nuB 2 3 ++ txB r.dn ++ tlv 128 r.pass).length = (nuB 2 3 ++ txB r.dn).length + (tlv 128 r.pass).length := List.length_append
      omega
    · have hb : bodyB n r = [] := by simp [bodyB, e]
      rw [hb]; simp
    · have hb : bodyB n r = txB r.dn ++ nuB 10 r.scope ++ nuB 10 0 ++ nuB 2 r.limit ++ nuB 2 0 ++ boB false ++ filB n r.fil ++ txsB 48 r.want := by unfold bodyB; rw [if_neg (by omega), if_pos e]
      have f1 := filB_len n r.fil (hk e)
      rw [hb]
      have u0 : (txB r.dn ++ nuB 10 r.scope).length = (txB r.dn).length + (nuB 10 r.scope).length := List.length_append
      have u1 : (txB r.dn ++ nuB 10 r.scope ++ nuB 10 0).length = (txB r.dn ++ nuB 10 r.scope).length + (nuB 10 0).length := List.length_append
      have u2 : (txB r.dn ++ nuB 10 r.scope ++ nuB 10 0 ++ nuB 2 r.limit).length = (txB r.dn ++ nuB 10 r.scope ++ nuB 10 0).length + (nuB 2 r.limit).length := List.length_append
      have u3 : (txB r.dn ++ nuB 10 r.scope ++ nuB 10 0 ++ nuB 2 r.limit ++ nuB 2 0).length = (txB r.dn ++ nuB 10 r.scope ++ nuB 10 0 ++ nuB 2 r.limit).length + (nuB 2 0).length := List.length_append
      have u4 : (txB r.dn ++ nuB 10 r.scope ++ nuB 10 0 ++ nuB 2 r.limit ++ nuB 2 0 ++ boB false).length = (txB r.dn ++ nuB 10 r.scope ++ nuB 10 0 ++ nuB 2 r.limit ++ nuB 2 0).length + (boB false).length := List.length_append
      have u5 : (txB r.dn ++ nuB 10 r.scope ++ nuB 10 0 ++ nuB 2 r.limit ++ nuB 2 0 ++ boB false ++ filB n r.fil).length = (txB r.dn ++ nuB 10 r.scope ++ nuB 10 0 ++ nuB 2 r.limit ++ nuB 2 0 ++ boB false).length + (filB n r.fil).length := List.length_append
      have u6 : (txB r.dn ++ nuB 10 r.scope ++ nuB 10 0 ++ nuB 2 r.limit ++ nuB 2 0 ++ boB false ++ filB n r.fil ++ txsB 48 r.want).length = (txB r.dn ++ nuB 10 r.scope ++ nuB 10 0 ++ nuB 2 r.limit ++ nuB 2 0 ++ boB false ++ filB n r.fil).length + (txsB 48 r.want).length := List.length_append
      omega
    · have hb : bodyB n r = txB r.dn ++ tlv 48 (r.mods.flatMap mdB) := by simp [bodyB, e]
      rw [hb]
      have u0 : (txB r.dn ++ tlv 48 (r.mods.flatMap mdB)).length = (txB r.dn).length + (tlv 48 (r.mods.flatMap mdB)).length := List.length_append
      omega
    · have hb : bodyB n r = txB r.dn ++ atsB r.ats := by simp [bodyB, e]
      rw [hb]
      have u0 : (txB r.dn ++ atsB r.ats).length = (txB r.dn).length + (atsB r.ats).length := List.length_append
      omega
    · have hb : bodyB n r = r.dn := by simp [bodyB, e]
      rw [hb]; omega
    · have hb : bodyB n r = txB r.dn ++ txB r.rdn ++ boB (!r.keep) ++ (if r.above then tlv 128 r.up else []) := by unfold bodyB; rw [if_neg (by omega), if_neg (by omega), if_neg (by omega), if_neg (by omega), if_neg (by omega), if_pos e]
      have h9 : (if r.above then tlv 128 r.up else []).length ≤ r.up.length + 10 := by split <;> first | exact t4 | simp
      rw [hb]
      have u0 : (txB r.dn ++ txB r.rdn).length = (txB r.dn).length + (txB r.rdn).length := List.length_append
      have u1 : (txB r.dn ++ txB r.rdn ++ boB (!r.keep)).length = (txB r.dn ++ txB r.rdn).length + (boB (!r.keep)).length := List.length_append
      have u2 : (txB r.dn ++ txB r.rdn ++ boB (!r.keep) ++ (if r.above then tlv 128 r.up else [])).length = (txB r.dn ++ txB r.rdn ++ boB (!r.keep)).length + ((if r.above then tlv 128 r.up else [])).length := List.length_append
      omega
    · have hb : bodyB n r = txB r.dn ++ tlv 48 (txB r.avt ++ txB r.avv) := by simp [bodyB, e]
      rw [hb]
      have u0 : (txB r.dn ++ tlv 48 (txB r.avt ++ txB r.avv)).length = (txB r.dn).length + (tlv 48 (txB r.avt ++ txB r.avv)).length := List.length_append
      omega
    · have hb : bodyB n r = iB r.which := by simp [bodyB, e]
      rw [hb]; omega
  have z1 := tlv_len (opT r.kind) (bodyB n r)
  have z2 := tlv_len 48 (nuB 2 r.num ++ tlv (opT r.kind) (bodyB n r))
  have z3 : (nuB 2 r.num ++ tlv (opT r.kind) (bodyB n r)).length = (nuB 2 r.num).length + (tlv (opT r.kind) (bodyB n r)).length := List.length_append
  show (tlv 48 (nuB 2 r.num ++ tlv (opT r.kind) (bodyB n r))).length ≤ _
  omega
end Go.Proofs.YtoockogceobfgaaGreat

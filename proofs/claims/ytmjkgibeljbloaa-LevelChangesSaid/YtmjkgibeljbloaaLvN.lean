/- level: Encode, both sides. -/
import Derived.Test.YtmjkgibeljbloaaLvW
import Derived.Test.YtmjkgibeljbloaaLvD
namespace Go.Proofs.Ytmjkgibeljbloaa
open Go.RowKit
set_option maxRecDepth 100000

/-- A file as bytes. -/
def encF (f : Fl) : List UInt8 := enc7 (clamp f.id) ++ enc7 (clamp f.lev) ++ enc7 (clamp f.size) ++ (lb f.first ++ lb f.last)
/-- P11.1: a version as bytes. -/
def encV (n : Int) (L : List Fl) : List UInt8 := enc7 (clamp n) ++ enc7 L.length ++ L.flatMap encF
noncomputable def bytesV (n : Int) (L : List Fl) : List UInt8 := if isV n L then encV n L else []
noncomputable def codeV (n : Int) (L : List Fl) : Nat := if isV n L then 0 else 1
theorem encI (v : Int) : (enc7 (clamp v)).length ≤ 10 := enc7_ten (clamp_le v)
theorem encF_len {f : Fl} {n : Int} (h : fitF f n) : (encF f).length ≤ 8300 := by
  have h1 := h.2.2.2.2.2.2.1.2
  have h2 := h.2.2.2.2.2.2.2.1.2
  have e1 := encI f.id
  have e2 := encI f.lev
  have e3 := encI f.size
  have e4 := enc7_ten (n := f.first.length) (by omega)
  have e5 := enc7_ten (n := f.last.length) (by omega)
  unfold encF lb
  simp only [List.length_append]
  omega
theorem isV.fit {n : Int} {L : List Fl} (h : isV n L) : ∀ c ∈ L, fitF c n := fun c hc => by
  obtain ⟨k, hk, rfl⟩ := List.getElem_of_mem hc
  obtain ⟨_, h2, _⟩ := h.2.2.2 k hk
  exact h2
theorem fm_le {n : Int} : ∀ (L : List Fl), (∀ c ∈ L, fitF c n) → (L.flatMap encF).length ≤ L.length * 8300
  | [], _ => by simp
  | a :: L, h => by
    have := fm_le L (fun c hc => h c (List.mem_cons_of_mem _ hc))
    have := encF_len (h a List.mem_cons_self)
    rw [List.flatMap_cons, List.length_append, List.length_cons]
    omega
theorem isV.len {n : Int} {L : List Fl} (h : isV n L) (k : Nat) : ((L.take k).flatMap encF).length ≤ 10000000 := by
  have h1 := fm_take encF L k
  have h2 := fm_le L h.fit
  have h3 := h.2.2.1
  omega

set_option maxHeartbeats 32000000 in
theorem encode_any {w : World} {S : Nat → Prop} {v : Value} {n : Int} {L : List Fl} (h : Fs w S v L) (hf : MFits L) :
    Calls Try.prog 11 #[.agg #[.int .i64 n, v]] w fun e w' => ∃ v', e = .returned (.tuple #[v', .int .i64 (codeV n L : Nat)]) ∧ Own w' 5 v' ((bytesV n L).map bv) ∧ Fresh w.heap.size v' ∧ Ext w w' := by
  have hshape := h.shape
  obtain ⟨A, c, rfl⟩ := hshape
  have B0 : Blk (w.alloc (.cells #[.int .i64 n, .slice A L.length c] 24)) w.heap.size 24 #[.int .i64 n, .slice A L.length c] := Blk.new w _ _
  have hB : Ext w (w.alloc (.cells #[.int .i64 n, .slice A L.length c] 24)) := (Mod.refl _ w).alloc _
  obtain ⟨w0, hw0⟩ : ∃ w0, w0 = w.alloc (.cells #[.int .i64 n, .slice A L.length c] 24) := ⟨_, rfl⟩
  rw [← hw0] at B0 hB
  replace hw0 := Lib.hid hw0
  have b0 : w0.cell? ⟨w.heap.size, 0, none⟩ = some (.int .i64 n) := B0.cell 0
  have b1 : w0.cell? ⟨w.heap.size, 1, none⟩ = some (.slice A L.length c) := B0.cell 1
  have his := is_any (n := n) (h.ext hB) hf
  obtain ⟨R, hR⟩ : ∃ R, R = bytesV n L := ⟨_, rfl⟩
  obtain ⟨E, hE⟩ : ∃ E, E = codeV n L := ⟨_, rfl⟩
  rw [← hR, ← hE]
  by_cases hv : isV n L
  case neg =>
    rw [dfalse hv] at his
    have hE : Hid (R = [] ∧ E = 1) := Lib.hid ⟨hR.trans (if_neg hv), hE.trans (if_neg hv)⟩
    clear hR hv
    go_enter Try.func11, Try.ntmps11
    go_upto_region 1 with fail
    rw [← hw0.out]
    clear hw0
    go_wp2_with fail
    refine his.mono ?_
    rintro e w1 ⟨rfl, x1⟩
    go_wp2_with fail
    go_ret2
    exact ⟨_, by rw [hE.out.2]; rfl, by rw [hE.out.1]; exact Own.nil _ _, fresh_nil _ _ _, ext_trans hB x1⟩
  rw [dtrue hv] at his
  have hlen : L.length ≤ 1024 := hv.2.2.1
  have hE2 : Hid (E = 0) := Lib.hid (hE.trans (if_pos hv))
  have hR2 : Hid (R = enc7 (clamp n) ++ enc7 L.length ++ L.flatMap encF) := Lib.hid (hR.trans (if_pos hv))
  have hft := fun k => hv.len k
  have hsn := fun k h => @fm_snoc Fl UInt8 encF L k h
  have hfit := hv.fit
  have e1 := encI n
  have e2 := enc7_ten (n := L.length) (by omega)
  have hcl := clamp_nat L.length (by omega)
  have hbb : ∀ {wx : World}, Ext w0 wx → wx.cell? ⟨w.heap.size, 0, none⟩ = some (.int .i64 n) ∧ wx.cell? ⟨w.heap.size, 1, none⟩ = some (.slice A L.length c) := fun x => ⟨ext_cell x b0, ext_cell x b1⟩
  obtain ⟨_, _, he, h1, h2, h3, h4⟩ := (h.ext hB).open_ fic_len
  injection he with he1 _ he3
  subst he1; subst he3
  clear hR hE hv h B0
  go_enter Try.func11, Try.ntmps11
  go_upto_region 1 with fail
  rw [← hw0.out]
  clear hw0
  go_wp2_with fail
  refine his.mono ?_
  rintro e w1 ⟨rfl, x1⟩
  clear his b0 b1
  have W0 := wo_begin w1
  obtain ⟨g, hg⟩ : ∃ g, g = w1.heap.size := ⟨_, rfl⟩
  obtain ⟨w3, hw3⟩ : ∃ w3, w3 = w1.alloc (.cells #[.slice none 0 0] 54) := ⟨_, rfl⟩
  rw [← hg, ← hw3] at W0
  replace hw3 := Lib.hid hw3
  replace hg := Lib.hid hg
  obtain ⟨b0, b1⟩ := hbb (ext_trans x1 W0.ex)
  go_upto_region 4 with fail
  rw [← hw3.out, ← hg.out]
  clear hw3 hg
  go_wp2_with fail
  refine (wo_num2 W0 n (L.length : Nat) (by simp)).mono ?_
  rintro e w4 ⟨rfl, v4, W4, -⟩
  rw [List.nil_append, hcl] at W4
  clear W0 b0 b1
  obtain ⟨b0, b1⟩ := hbb (ext_trans x1 W4.ex)
  go_wp2_with fail
  go_loopw [20] (fun i wr => ∃ (k : Nat) (vw : Value), k ≤ L.length ∧ i = .int .i64 k ∧ Wo w1 g wr vw (enc7 (clamp n) ++ enc7 L.length ++ (L.take k).flatMap encF)) (fun i _ => L.length - (intOf i).toNat)
  case atStart => exact ⟨0, v4, Nat.zero_le _, rfl, by rw [List.take_zero, List.flatMap_nil, List.append_nil]; exact W4⟩
  case round =>
    clear W4 b0 b1
    obtain ⟨k, vw, hk, rfl, W⟩ := hrel
    have hdk := hft k
    by_cases hlt : k < L.length
    case neg =>
      have hbl : decide ((k : Int) < (L.length : Int)) = false := dfalse (by omega)
      obtain rfl : k = L.length := by omega
      rw [List.take_length, ← hR2.out] at W
      have hRl : R.length ≤ 281474976710656 := by rw [hR2.out]; simp only [List.length_append]; rw [List.take_length] at hdk; omega
      clear hft hsn hfit hbb hdk
      go_wp2_with fail
      refine (wout_any W.it hRl).mono ?_
      rintro e w5 ⟨v5, rfl, o5, f5, x5, -⟩
      go_wp2_with fail
      go_ret2
      refine ⟨_, by rw [hE2.out]; rfl, o5, fun k hk => ?_, ext_trans hB (ext_trans x1 (ext_trans W.ex x5))⟩
      rw [f5] at hk
      have h9 := Option.some.inj hk
      have h8 := (ext_trans hB (ext_trans x1 W.ex)).size
      omega
    have hbl : decide ((k : Int) < (L.length : Int)) = true := dtrue (by omega)
    obtain ⟨ad, hA, -, c0, c1, c2, c3, c4⟩ := Fs.at_ (h4.ext (ext_trans x1 W.ex)) hlt
    subst hA
    have hs := hsn k hlt
    have hfx := hfit _ (List.getElem_mem hlt)
    have hi0 : (0 : Int) ≤ (k : Int) := by omega
    have hi1 : (k : Int) < (L.length : Int) := by omega
    clear hsn hft hfit hbb
    obtain ⟨M2, hM2⟩ : ∃ M2, M2 = (L.take (k + 1)).flatMap encF := ⟨_, rfl⟩
    rw [← hM2] at hs
    replace hM2 := Lib.hid hM2
    generalize L[k] = x at *
    generalize (L.take k).flatMap encF = M at *
    have g1 := encI x.id
    have g2 := encI x.lev
    have g3 := encI x.size
    have k3 := hfx.2.2.2.2.2.2.1.2
    have k4 := hfx.2.2.2.2.2.2.2.1.2
    replace hs := Lib.hid (show enc7 (clamp n) ++ enc7 L.length ++ M2 = enc7 (clamp n) ++ enc7 L.length ++ M ++ (enc7 (clamp x.id) ++ enc7 (clamp x.lev) ++ enc7 (clamp x.size)) ++ (lb x.first ++ lb x.last) by rw [hs]; unfold encF; simp only [List.append_assoc])
    clear hfx
    have hbx : Ext wr (wr.alloc (.cells (fia x) 48)) := (Mod.refl _ wr).alloc _
    have hBF := Blk.new wr 48 (fia x)
    obtain ⟨w6, hw6⟩ : ∃ w6, w6 = wr.alloc (.cells (fia x) 48) := ⟨_, rfl⟩
    rw [← hw6] at hbx hBF
    have hoff := W.off (Nat.le_refl _)
    have W6 := W.ext hbx
    obtain ⟨p, hp⟩ : ∃ p, p = wr.heap.size := ⟨_, rfl⟩
    rw [← hp] at hBF hoff
    replace hw6 := Lib.hid hw6
    replace hp := Lib.hid hp
    obtain ⟨z0, z1, z2, z3, z4⟩ := cell5 hBF
    clear W hbx
    go_upto_region 8 with fail
    rw [← hw6.out, ← hp.out]
    clear hw6 hp c0 c1 c2 c3 c4
    go_wp2_with fail
    refine (wo_num3 W6 x.id x.lev x.size (by simp only [List.length_append]; omega)).mono ?_
    rintro e w7 ⟨rfl, v7, W7, K7⟩
    obtain ⟨hB7, hn7⟩ := K7.blk hBF hoff
    clear W6 K7 hBF hoff z0 z1 z2 z3 z4
    obtain ⟨z0, z1, z2, z3, z4⟩ := cell5 hB7
    go_wp2_with (first
      | ((with_reducible show wpList _ _ _ (⟨some 34, _, _, _, _, _⟩ :: _) _ _); refine wp_tob Try.underlying9 Try.underlying26 Try.underlying5 (l := x.first) (by omega) rfl (.tmp 33) rfl rfl ?_; intro cp5 w8 t1 t2 t3; clear t3; have ht2 := t2.size; have hB8 := hB7.mod t2 (fun h => h); have q4 : w8.cell? ⟨p, 4, none⟩ = some (sv x.last) := hB8.cell 4)
      | ((with_reducible show wpList _ _ _ (⟨some 37, _, _, _, _, _⟩ :: _) _ _); refine wp_tob Try.underlying9 Try.underlying26 Try.underlying5 (l := x.last) (by omega) rfl (.tmp 36) rfl rfl ?_; intro cp6 w9 l1 l2 l3; clear l3))
    refine (wo_two W7 (ext_trans t2 l2) (t1.ext l2) l1 (fun k h => by cases h; first | omega | exact ht2) (fun k h => by cases h; first | omega | exact ht2) (by simp only [List.length_append]; omega)).mono ?_
    rintro e w10 ⟨rfl, v10, W10⟩
    rw [← hs.out] at W10
    clear W7 t1 t2 l1 l2 hB8 hB7 q4
    go_wp2_with fail
    exact ⟨⟨k + 1, v10, by omega, by go_num, by rw [← hM2.out]; exact W10⟩, by simp [intOf] <;> omega⟩

section
variable {P : Program} {w : World} {t e : TypeId} {z : Value} {bytes : Nat} {ops : Array Oper} {o : Oper} {a : Act} {Q : Exit → Act → World → Prop}
/-- append(v, bytes that were laid) at a step of a region that draws. -/
theorem step_app {K : Act → World → Prop} {E : Prop} (d : Tmp) (hT : SliceTy P t e z bytes) {v y : Value} {S : Nat → Prop} {xs news : List Value} (hown : Own w e v xs) (hr : Sl w S y news) (h1 : ∀ u ∈ news, u.oneCell' = true)
    (hn : (xs.length + news.length) * bytes ≤ 140737488355328) (hgd : o.guard = none) (hd : o.dst = some d) (s yy : Operand) (ho : o.op = .call { callee := .builtin .append, args := #[s, yy], argTypes := #[t, t] }) (hs : a.eval s = v) (hy : a.eval yy = y)
    (h : ∀ v' w', Own w' e v' (xs ++ news) → Mod (own v) w w' → Next w.heap.size v v' → K (a.put o.dst v') w') : if Region.wanted o (yielded ops a.tmps) = true then Oper.wp P o a w K Q else E := by
  have hw : Region.wanted o (yielded ops a.tmps) = true := by simp [Region.wanted, hgd]
  rw [if_pos hw]
  obtain ⟨v', w', hrun, h2, h3, h4⟩ := run_app (P := P) hT o.type hown hr h1 hn
  unfold Oper.wp execOp
  simp only [ho, resolve, invoke, builtin, Sem.run_bind, Sem.run_pure, Result.andThen_ok, List.map_toArray, List.map_cons, List.map_nil, hs, hy, hrun]
  simp only [Oper.upon, hd]
  have := h v' w' h2 h3 h4
  rw [hd] at this
  exact this
end
set_option maxHeartbeats 32000000 in
theorem rencode_any {w : World} {S : Nat → Prop} {v : Value} {n : Int} {L : List Fl} (h : Fs w S v L) (hf : MFits L) :
    Calls Try.prog 12 #[.agg #[.int .i64 n, v]] w fun e w' => ∃ v', e = .returned (.tuple #[v', .int .i64 (codeV n L : Nat)]) ∧ Own w' 5 v' ((bytesV n L).map bv) ∧ Fresh w.heap.size v' ∧ Ext w w' := by
  have hshape := h.shape
  obtain ⟨A, c, rfl⟩ := hshape
  have B0 : Blk (w.alloc (.cells #[.int .i64 n, .slice A L.length c] 24)) w.heap.size 24 #[.int .i64 n, .slice A L.length c] := Blk.new w _ _
  have hB : Ext w (w.alloc (.cells #[.int .i64 n, .slice A L.length c] 24)) := (Mod.refl _ w).alloc _
  obtain ⟨w0, hw0⟩ : ∃ w0, w0 = w.alloc (.cells #[.int .i64 n, .slice A L.length c] 24) := ⟨_, rfl⟩
  rw [← hw0] at B0 hB
  replace hw0 := Lib.hid hw0
  have b0 : w0.cell? ⟨w.heap.size, 0, none⟩ = some (.int .i64 n) := B0.cell 0
  have b1 : w0.cell? ⟨w.heap.size, 1, none⟩ = some (.slice A L.length c) := B0.cell 1
  have his := ris_any (n := n) (h.ext hB) hf
  obtain ⟨R, hR⟩ : ∃ R, R = bytesV n L := ⟨_, rfl⟩
  obtain ⟨E, hE⟩ : ∃ E, E = codeV n L := ⟨_, rfl⟩
  rw [← hR, ← hE]
  by_cases hv : isV n L
  case neg =>
    rw [dfalse hv] at his
    have hE : Hid (R = [] ∧ E = 1) := Lib.hid ⟨hR.trans (if_neg hv), hE.trans (if_neg hv)⟩
    clear hR hv
    go_enter Try.func12, Try.ntmps12
    go_upto_region 1 with fail
    rw [← hw0.out]
    clear hw0
    go_wp2_with fail
    refine his.mono ?_
    rintro e w1 ⟨rfl, x1⟩
    go_wp2_with fail
    go_ret2
    exact ⟨_, by rw [hE.out.2]; rfl, by rw [hE.out.1]; exact Own.nil _ _, fresh_nil _ _ _, ext_trans hB x1⟩
  rw [dtrue hv] at his
  have hlen : L.length ≤ 1024 := hv.2.2.1
  have hE2 : Hid (E = 0) := Lib.hid (hE.trans (if_pos hv))
  have hR2 : Hid (R = enc7 (clamp n) ++ enc7 L.length ++ L.flatMap encF) := Lib.hid (hR.trans (if_pos hv))
  have hft := fun k => hv.len k
  have hsn := fun k h => @fm_snoc Fl UInt8 encF L k h
  have hfit := hv.fit
  have e1 := encI n
  have e2 := enc7_ten (n := L.length) (by omega)
  have hcl := clamp_nat L.length (by omega)
  have hbb : ∀ {wx : World}, Ext w0 wx → wx.cell? ⟨w.heap.size, 0, none⟩ = some (.int .i64 n) ∧ wx.cell? ⟨w.heap.size, 1, none⟩ = some (.slice A L.length c) := fun x => ⟨ext_cell x b0, ext_cell x b1⟩
  obtain ⟨_, _, he, h1, h2, h3, h4⟩ := (h.ext hB).open_ fic_len
  injection he with he1 _ he3
  subst he1; subst he3
  clear hR hE hv h B0
  go_enter Try.func12, Try.ntmps12
  go_upto_region 1 with fail
  rw [← hw0.out]
  clear hw0
  go_wp2_with fail
  refine his.mono ?_
  rintro e w1 ⟨rfl, x1⟩
  clear his b0 b1
  have hbk : ∀ {wx : World}, Ext w1 wx → wx.cell? ⟨w.heap.size, 0, none⟩ = some (.int .i64 n) ∧ wx.cell? ⟨w.heap.size, 1, none⟩ = some (.slice A L.length c) := fun x => hbb (ext_trans x1 x)
  have q0 : Ext w1 w1.drew := (Mod.refl _ w1).drew
  obtain ⟨b0, b1⟩ := hbk (Mod.refl _ w1)
  go_wp2_with fail
  refine wp_region_held_drew (S := fun wx => wx.cell? ⟨w.heap.size, 0, none⟩ = some (.int .i64 n) ∧ wx.cell? ⟨w.heap.size, 1, none⟩ = some (.slice A L.length c)) (by kernel_rfl) (hbk q0) (fun hH => ?_)
  (refine wpAnyH_take (i := 0) (oi := ⟨_, _, _, _, _, _⟩) (v := ?tv1) rfl (by kernel_rfl) (by kernel_rfl) (by kernel_rfl) (fun _ _ _ h => h) (Or.inl ⟨by kernel_rfl, ?hy1⟩) hH ?rs1; (case hy1 => (intro wx hSw; (try dsimp only at hSw); go_simp; try with_reducible rfl)); try simp only [Act.put, List.setIfInBounds_toArray, List.set_cons_zero, List.set_cons_succ]; try simp only [List.getElem_toArray, List.getElem_cons_succ, List.getElem_cons_zero])
  (refine wpAnyH_take (i := 1) (oi := ⟨_, _, _, _, _, _⟩) (v := ?tv2) rfl (by kernel_rfl) (by kernel_rfl) (by kernel_rfl) (fun _ _ _ h => h) (Or.inl ⟨by kernel_rfl, ?hy2⟩) hH ?rs2; (case hy2 => (intro wx hSw; (try dsimp only at hSw); go_simp; try with_reducible rfl)); try simp only [Act.put, List.setIfInBounds_toArray, List.set_cons_zero, List.set_cons_succ]; try simp only [List.getElem_toArray, List.getElem_cons_succ, List.getElem_cons_zero])
  (refine wpAnyH_take (i := 3) (oi := ⟨_, _, _, _, _, _⟩) (v := ?tv3) rfl (by kernel_rfl) (by kernel_rfl) (by kernel_rfl) (fun _ _ _ h => h) (Or.inl ⟨by kernel_rfl, ?hy3⟩) hH ?rs3; (case hy3 => (intro wx hSw; (try dsimp only at hSw); go_simp; try with_reducible rfl)); try simp only [Act.put, List.setIfInBounds_toArray, List.set_cons_zero, List.set_cons_succ]; try simp only [List.getElem_toArray, List.getElem_cons_succ, List.getElem_cons_zero])
  (refine wpAnyH_take (i := 4) (oi := ⟨_, _, _, _, _, _⟩) (v := ?tv4) rfl (by kernel_rfl) (by kernel_rfl) (by kernel_rfl) (fun _ _ _ h => h) (Or.inl ⟨by kernel_rfl, ?hy4⟩) hH ?rs4; (case hy4 => (intro wx hSw; (try dsimp only at hSw); go_simp; try with_reducible rfl)); try simp only [Act.put, List.setIfInBounds_toArray, List.set_cons_zero, List.set_cons_succ]; try simp only [List.getElem_toArray, List.getElem_cons_succ, List.getElem_cons_zero])
  (refine wpAnyH_take (i := 5) (oi := ⟨_, _, _, _, _, _⟩) (v := ?tv5) rfl (by kernel_rfl) (by kernel_rfl) (by kernel_rfl) (fun _ _ _ h => h) (Or.inl ⟨by kernel_rfl, ?hy5⟩) hH ?rs5; (case hy5 => (intro wx hSw; (try dsimp only at hSw); go_simp; try with_reducible rfl)); try simp only [Act.put, List.setIfInBounds_toArray, List.set_cons_zero, List.set_cons_succ]; try simp only [List.getElem_toArray, List.getElem_cons_succ, List.getElem_cons_zero])
  (refine wpAnyH_ready (rs := [2]) (by kernel_rfl) (by simp) ?_; refine AllReadyH.cons rfl (fun K hK => ?_) AllReadyH.nil)
  go_simp
  refine (rnum_any n).mono ?_
  rintro e wa ⟨va, rfl, oa, fa, xa⟩
  have q1 := ext_trans q0 xa
  (go_wp2_with fail; refine hK.out _ _ (hbk q1) (fun hH => ?_); clear hK K; try simp only [Act.put, List.setIfInBounds_toArray, List.set_cons_zero, List.set_cons_succ]; try simp only [List.getElem_toArray, List.getElem_cons_succ, List.getElem_cons_zero])
  (refine wpAnyH_ready (rs := [6]) (by kernel_rfl) (by simp) ?_; refine AllReadyH.cons rfl (fun K hK => ?_) AllReadyH.nil)
  go_simp
  refine (rnum_any (L.length : Nat)).mono ?_
  rintro e wb ⟨vb, rfl, ob, fb, xb⟩
  have q2 := ext_trans q1 xb
  rw [hcl] at ob
  (go_wp2_with fail; refine hK.out _ _ (hbk q2) (fun hH => ?_); clear hK K; try simp only [Act.put, List.setIfInBounds_toArray, List.set_cons_zero, List.set_cons_succ]; try simp only [List.getElem_toArray, List.getElem_cons_succ, List.getElem_cons_zero])
  (refine wpAnyH_ready (rs := [7]) (by kernel_rfl) (by simp) ?_; refine AllReadyH.cons rfl (fun K hK => ?_) AllReadyH.nil)
  have oab := oa.mod xb (fun _ _ h => h)
  refine step_app 17 tyB oab ob.sl (bv_one _) (by simp only [List.length_map]; omega) rfl rfl (.tmp 12) (.tmp 16) rfl rfl rfl ?_
  intro vc wc ka1 ka2 ka3
  have fa2 : Fresh w1.heap.size va := fa
  have qA := ext_app0 q2 fa2 ka2
  have fA := ka3.fresh fa2 q2.size
  (refine hK.out _ _ (hbk qA) (fun hH => ?_); clear hK K; try simp only [Act.put, List.setIfInBounds_toArray, List.set_cons_zero, List.set_cons_succ]; try simp only [List.getElem_toArray, List.getElem_cons_succ, List.getElem_cons_zero])
  (refine wpAnyH_take (i := 8) (oi := ⟨_, _, _, _, _, _⟩) (v := ?tv6) rfl (by kernel_rfl) (by kernel_rfl) (by kernel_rfl) (fun _ _ _ h => h) (Or.inl ⟨by kernel_rfl, ?hy6⟩) hH ?rs6; (case hy6 => (intro wx hSw; (try dsimp only at hSw); go_simp; try with_reducible rfl)); try simp only [Act.put, List.setIfInBounds_toArray, List.set_cons_zero, List.set_cons_succ]; try simp only [List.getElem_toArray, List.getElem_cons_succ, List.getElem_cons_zero])
  refine wpAnyH_done (by kernel_rfl) ?_ _
  have G0 : Gw w1 wc vc (enc7 (clamp n) ++ enc7 L.length) := ⟨by rw [List.map_append]; exact ka1, fA, qA⟩
  clear oa ob oab ka1 ka2 ka3 fa fb fa2 fA qA q0 q1 q2 xa xb b0 b1 hH
  go_wp2_with fail
  go_loopw [4, 5] (fun s i wr => ∃ (k : Nat), k ≤ L.length ∧ i = .int .i64 k ∧ Gw w1 wr s (enc7 (clamp n) ++ enc7 L.length ++ (L.take k).flatMap encF)) (fun _ i _ => L.length - (intOf i).toNat)
  case atStart => exact ⟨0, Nat.zero_le _, rfl, by rw [List.take_zero, List.flatMap_nil, List.append_nil]; exact G0⟩
  case round =>
    clear G0
    obtain ⟨k, hk, rfl, G⟩ := hrel
    have hdk := hft k
    obtain ⟨b0, b1⟩ := hbk G.ex
    by_cases hlt : k < L.length
    case neg =>
      have hbl : decide ((k : Int) < (L.length : Int)) = false := dfalse (by omega)
      obtain rfl : k = L.length := by omega
      rw [List.take_length, ← hR2.out] at G
      clear hft hsn hfit hbb hdk
      go_wp2_with fail
      go_ret2
      exact ⟨_, by rw [hE2.out]; rfl, G.row, G.fr.mono (by have := (ext_trans hB x1).size; omega), ext_trans hB (ext_trans x1 G.ex)⟩
    have hbl : decide ((k : Int) < (L.length : Int)) = true := dtrue (by omega)
    obtain ⟨ad, hA, -, c0, c1, c2, c3, c4⟩ := Fs.at_ (h4.ext (ext_trans x1 G.ex)) hlt
    subst hA
    have hs := hsn k hlt
    have hfx := hfit _ (List.getElem_mem hlt)
    have hi0 : (0 : Int) ≤ (k : Int) := by omega
    have hi1 : (k : Int) < (L.length : Int) := by omega
    clear hsn hft hfit hbb hbk
    obtain ⟨M2, hM2⟩ : ∃ M2, M2 = (L.take (k + 1)).flatMap encF := ⟨_, rfl⟩
    rw [← hM2] at hs
    replace hM2 := Lib.hid hM2
    generalize L[k] = x at *
    generalize (L.take k).flatMap encF = M at *
    have g1 := encI x.id
    have g2 := encI x.lev
    have g3 := encI x.size
    have k3 := hfx.2.2.2.2.2.2.1.2
    have k4 := hfx.2.2.2.2.2.2.2.1.2
    have g4 := enc7_ten (n := x.first.length) (by omega)
    have g5 := enc7_ten (n := x.last.length) (by omega)
    replace hs := Lib.hid (show enc7 (clamp n) ++ enc7 L.length ++ M2 = enc7 (clamp n) ++ enc7 L.length ++ M ++ enc7 (clamp x.id) ++ enc7 (clamp x.lev) ++ enc7 (clamp x.size) ++ (enc7 x.first.length ++ x.first) ++ (enc7 x.last.length ++ x.last) by rw [hs]; unfold encF lb; simp only [List.append_assoc])
    clear hfx
    have hbx : Ext wr (wr.alloc (.cells (fia x) 48)) := (Mod.refl _ wr).alloc _
    have hBF := Blk.new wr 48 (fia x)
    obtain ⟨w6, hw6⟩ : ∃ w6, w6 = wr.alloc (.cells (fia x) 48) := ⟨_, rfl⟩
    rw [← hw6] at hbx hBF
    have G00 := G.ext hbx
    obtain ⟨p, hp⟩ : ∃ p, p = wr.heap.size := ⟨_, rfl⟩
    rw [← hp] at hBF
    have hpw : w1.heap.size ≤ p := by rw [hp]; exact G.ex.size
    have hown := (G.row.alloc (.cells (fia x) 48))
    rw [← hw6] at hown
    have hno := hown.ne_blk hBF (by decide)
    replace hw6 := Lib.hid hw6
    replace hp := Lib.hid hp
    obtain ⟨z0, z1, z2, z3, z4⟩ := cell5 hBF
    clear G hbx hown
    go_upto_region 8 with fail
    rw [← hw6.out, ← hp.out]
    clear hw6 hp c0 c1 c2 c3 c4 b0 b1
    have hT0 : (enc7 (clamp n) ++ enc7 L.length ++ M).length ≤ 100000000 := by simp only [List.length_append]; omega
    generalize enc7 (clamp n) ++ enc7 L.length ++ M = T0 at *
    go_wp2_with fail
    refine (rnum_any x.id).mono ?_
    rintro e wn1 ⟨vn1, rfl, o1, f1, x1⟩
    have Ga1 := G00.ext x1
    have hBa1 := hBF.mod x1 (fun h => h)
    have hna1 := Ga1.row.ne_blk hBa1 (by decide)
    clear z0 z1 z2 z3 z4
    obtain ⟨z0, z1, z2, z3, z4⟩ := cell5 hBa1
    go_wp2_with ((with_reducible show wpList _ _ _ (⟨some 34, _, _, _, _, _⟩ :: _) _ _); refine wp_gwm tyB Ga1 o1.sl rfl (.tmp 30) (.tmp 33) rfl rfl rfl (by (try simp only [List.length_append]); omega) ?_; intro vg1 wg1 G1 mg1 ng1; clear z0 z1 z2 z3 z4; have hBb1 := hBa1.mod mg1 hna1; obtain ⟨z0, z1, z2, z3, z4⟩ := cell5 hBb1)
    refine (rnum_any x.lev).mono ?_
    rintro e wn2 ⟨vn2, rfl, o2, f2, x2⟩
    have Ga2 := G1.ext x2
    have hBa2 := hBb1.mod x2 (fun h => h)
    have hna2 := Ga2.row.ne_blk hBa2 (by decide)
    clear z0 z1 z2 z3 z4
    obtain ⟨z0, z1, z2, z3, z4⟩ := cell5 hBa2
    go_wp2_with ((with_reducible show wpList _ _ _ (⟨some 39, _, _, _, _, _⟩ :: _) _ _); refine wp_gwm tyB Ga2 o2.sl rfl (.tmp 35) (.tmp 38) rfl rfl rfl (by (try simp only [List.length_append]); omega) ?_; intro vg2 wg2 G2 mg2 ng2; clear z0 z1 z2 z3 z4; have hBb2 := hBa2.mod mg2 hna2; obtain ⟨z0, z1, z2, z3, z4⟩ := cell5 hBb2)
    refine (rnum_any x.size).mono ?_
    rintro e wn3 ⟨vn3, rfl, o3, f3, x3⟩
    have Ga3 := G2.ext x3
    have hBa3 := hBb2.mod x3 (fun h => h)
    have hna3 := Ga3.row.ne_blk hBa3 (by decide)
    clear z0 z1 z2 z3 z4
    obtain ⟨z0, z1, z2, z3, z4⟩ := cell5 hBa3
    go_wp2_with (first | ((with_reducible show wpList _ _ _ (⟨some 44, _, _, _, _, _⟩ :: _) _ _); refine wp_gwm tyB Ga3 o3.sl rfl (.tmp 40) (.tmp 43) rfl rfl rfl (by (try simp only [List.length_append]); omega) ?_; intro vg3 wg3 G3 mg3 ng3; clear z0 z1 z2 z3 z4; have hBb3 := hBa3.mod mg3 hna3; obtain ⟨z0, z1, z2, z3, z4⟩ := cell5 hBb3) | ((with_reducible show wpList _ _ _ (⟨some 48, _, _, _, _, _⟩ :: _) _ _); refine wp_tob Try.underlying9 Try.underlying26 Try.underlying5 (l := x.first) (by omega) rfl (.tmp 47) rfl rfl ?_; intro cp4 wt4 t14 t24 t34; clear t34))
    refine (rbytes_any t14 (by omega)).mono ?_
    rintro e wn4 ⟨vn4, rfl, o4, f4, x4⟩
    have Ga4 := G3.ext (ext_trans t24 x4)
    have hBa4 := hBb3.mod (ext_trans t24 x4) (fun h => h)
    have hna4 := Ga4.row.ne_blk hBa4 (by decide)
    clear z0 z1 z2 z3 z4
    obtain ⟨z0, z1, z2, z3, z4⟩ := cell5 hBa4
    go_wp2_with (first | ((with_reducible show wpList _ _ _ (⟨some 50, _, _, _, _, _⟩ :: _) _ _); refine wp_gwm tyB Ga4 o4.sl rfl (.tmp 45) (.tmp 49) rfl rfl rfl (by (try simp only [List.length_append]); omega) ?_; intro vg4 wg4 G4 mg4 ng4; clear z0 z1 z2 z3 z4; have hBb4 := hBa4.mod mg4 hna4; obtain ⟨z0, z1, z2, z3, z4⟩ := cell5 hBb4) | ((with_reducible show wpList _ _ _ (⟨some 54, _, _, _, _, _⟩ :: _) _ _); refine wp_tob Try.underlying9 Try.underlying26 Try.underlying5 (l := x.last) (by omega) rfl (.tmp 53) rfl rfl ?_; intro cp5 wt5 t15 t25 t35; clear t35))
    refine (rbytes_any t15 (by omega)).mono ?_
    rintro e wn5 ⟨vn5, rfl, o5, f5, x5⟩
    have Ga5 := G4.ext (ext_trans t25 x5)
    have hBa5 := hBb4.mod (ext_trans t25 x5) (fun h => h)
    have hna5 := Ga5.row.ne_blk hBa5 (by decide)
    clear z0 z1 z2 z3 z4
    obtain ⟨z0, z1, z2, z3, z4⟩ := cell5 hBa5
    go_wp2_with ((with_reducible show wpList _ _ _ (⟨some 56, _, _, _, _, _⟩ :: _) _ _); refine wp_gwm tyB Ga5 o5.sl rfl (.tmp 51) (.tmp 55) rfl rfl rfl (by (try simp only [List.length_append]); omega) ?_; intro vg5 wg5 G5 mg5 ng5; clear z0 z1 z2 z3 z4; have hBb5 := hBa5.mod mg5 hna5; obtain ⟨z0, z1, z2, z3, z4⟩ := cell5 hBb5)
    exact ⟨⟨k + 1, by omega, by go_num, by rw [← hM2.out, hs.out]; exact G5⟩, by simp [intOf] <;> omega⟩
end Go.Proofs.Ytmjkgibeljbloaa

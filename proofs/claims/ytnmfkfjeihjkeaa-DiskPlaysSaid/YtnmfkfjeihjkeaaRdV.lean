/- disk: the document's Copy. -/
import Derived.Test.YtnmfkfjeihjkeaaRdU
namespace Go.Proofs.Ytnmfkfjeihjkeaa
open Go.RowKit Go.Maps Go.WideMaps
set_option maxRecDepth 100000

section
variable {S T F V : Nat → Prop} {w w' : World} {bd : Nat} {vL v y : Value} {A : List (Fi × Value)} {d : Ds} {b : List UInt8}
/-- One file more, behind all others. -/
theorem RdAt.more {B : Nat} (h : RdAt (fun k => B ≤ k) w bd vL A d) (hB : B ≤ w.heap.size) {vN : Value} {f : Fi} {u : Value} (hm : Mod F w w') (hF : ∀ k, k < w.heap.size → F k → k = bd ∨ own vL k) (hblk : Blk w' bd 51 (rcells d vN)) (hrow : OwnR fiv 3 w' fileT vN (A ++ [(f, u)])) (hsub : ∀ k, own vN k → own vL k ∨ w.heap.size ≤ k) (hb : Bs w' T u f.b) (hT : ∀ k, T k → B ≤ k ∧ k ≠ bd ∧ ¬ own vN k)
    (hrise : Rise (d.L ++ [f])) (hfl : f.last ≤ f.b.length) (hroom : sumB (d.L ++ [f]) ≤ d.room) (hfew : (d.L ++ [f]).length ≤ 4096) : RdAt (fun k => B ≤ k) w' bd vN (A ++ [(f, u)]) { d with L := d.L ++ [f] } := by
  have hlt := h.blk.lt
  refine ⟨h.sd, hblk, hrow, fun k hk => ?_, by rw [List.map_append, h.nm]; rfl, fun a ha => ?_, hrise, fun g hg => ?_, hroom, h.most, hfew, h.lf⟩
  · rcases hsub k hk with h1 | h1
    · exact h.ro k h1
    · exact ⟨by omega, by omega⟩
  · rcases List.mem_append.1 ha with h1 | h1
    · have h2 : Bs w (fun k => (B ≤ k ∧ k ≠ bd ∧ ¬ own vL k) ∧ k < w.heap.size) a.2 a.1.b := (h.fb a h1).mono fun k hk hs => ⟨hs, hk⟩
      exact (h2.mod hm fun k hk hs hf => (hF k hk hf).elim hs.1.2.1 hs.1.2.2).mono fun k _ hs => ⟨hs.1.1, hs.1.2.1, fun hv => (hsub k hv).elim hs.1.2.2 fun h => by have := hs.2; omega⟩
    · rw [List.mem_singleton.1 h1]
      exact hb.mono fun k _ hk => hT k hk
  · rcases List.mem_append.1 hg with h1 | h1
    · exact h.fl g h1
    · rw [List.mem_singleton.1 h1]; exact hfl
theorem take_rise {L : Fis} (h : Rise L) (k : Nat) : Rise (L.take k) := by
  unfold Rise nms at *
  rw [List.map_take]
  exact List.Pairwise.sublist (List.take_sublist _ _) h
set_option maxHeartbeats 16000000 in
theorem rcopy_any (h : Rd S w v d) :
    Calls Try.prog 9 #[v] w fun e w' => ∃ bo, e = .returned (pv bo) ∧ Rd (fun k => w.heap.size ≤ k) w' (pv bo) { d with fu := false, left := 0 } ∧ Ext w w' := by
  obtain ⟨bd, vL, A, rfl, h⟩ := h
  have c0 := h.room0
  have hlen := h.len
  have hroom := h.room
  have hmost := h.most
  have hfew := h.few
  obtain ⟨ad, c, rfl, p1, p2, p3⟩ := h.at_
  have hbd : ∀ {wx : World}, Ext w wx → wx.cell? ⟨bd, 1, none⟩ = some (.slice ad d.L.length c) := fun q => (h.mod q (fun _ _ _ h => h)).blk.cell 1
  have h0 : RdAt (fun k => w.heap.size ≤ k) (w.alloc (.cells #[.int .i64 (d.room : Int), .slice none 0 0, .int .i64 (-1)] 51)) w.heap.size (.slice none 0 0) [] ⟨d.room, d.L.take 0, false, 0⟩ := by
    refine ⟨Nat.le_refl _, ?_, OwnK.nil _ _ _, (fun k hk => by cases hk), rfl, (fun a ha => by cases ha), List.Pairwise.nil, (fun f hf => by cases hf), by simp [sumB], hmost, by simp, by simp⟩
    have : rcells ⟨d.room, d.L.take 0, false, 0⟩ (.slice none 0 0) = #[.int .i64 (d.room : Int), .slice none 0 0, .int .i64 (-1)] := by
      unfold rcells leftI
      simp only [Bool.false_eq_true, if_false]
    rw [this]
    exact Blk.new _ _ _
  go_enter Try.func9, Try.ntmps9
  go_wp2_with fail
  go_loopw [4] (fun i wr => ∃ k : Nat, k ≤ d.L.length ∧ i = .int .i64 k ∧ (∃ vo Ao, RdAt (fun k => w.heap.size ≤ k) wr w.heap.size vo Ao ⟨d.room, d.L.take k, false, 0⟩) ∧ Ext w wr) (fun i _ => d.L.length - (intOf i).toNat)
  case atStart => exact ⟨0, Nat.zero_le _, rfl, ⟨_, _, h0⟩, (Mod.refl _ _).alloc _⟩
  case round =>
    clear h0
    obtain ⟨k, hk, rfl, ⟨vo, Ao, ho⟩, xw⟩ := hrel
    have d1 := hbd xw
    by_cases hlt : k < d.L.length
    case neg =>
      obtain rfl : k = d.L.length := by omega
      rw [List.take_length] at ho
      have hbl : decide ((d.L.length : Int) < (d.L.length : Int)) = false := dfalse (by omega)
      go_wp2_with fail
      go_ret
      exact ⟨_, rfl, ho.rd, xw⟩
    have hbl : decide ((k : Int) < (d.L.length : Int)) = true := dtrue (by omega)
    have hiA : k < A.length := by omega
    obtain ⟨f, hf⟩ : ∃ f, f = d.L[k] := ⟨_, rfl⟩
    obtain ⟨u0, hu0⟩ : ∃ u0, u0 = A[k].2 := ⟨_, rfl⟩
    have hA : A[k] = (f, u0) := by rw [hf, ← h.fst hiA, hu0]
    have hvi := h.fb _ (List.getElem_mem hiA)
    rw [hA] at hvi
    replace hvi : Bs w _ u0 f.b := hvi
    have hmem : f ∈ d.L := by rw [hf]; exact List.getElem_mem hlt
    have hfl := h.fl f hmem
    have hbig := len_of_mem h.rise hmem
    have hrise := h.rise
    obtain ⟨B, cb, rfl, e1, e2, e3, e4⟩ := hvi.open_
    obtain ⟨p, rfl⟩ := p3 (by omega)
    have hat := (h.row.ext xw).at3 (i := k) hiA
    rw [hA] at hat
    obtain ⟨r1, r2, r3, r4, r5, r6⟩ := hat
    have hi0 : (0 : Int) ≤ (k : Int) := by omega
    have hi1 : (k : Int) < (d.L.length : Int) := by omega
    have hsn : d.L.take k ++ [f] = d.L.take (k + 1) := by rw [hf]; exact (List.take_succ_eq_append_getElem hlt).symm
    have hhr : Rise (d.L.take k ++ [f]) := by rw [hsn]; exact take_rise hrise _
    have hhs : sumB (d.L.take k ++ [f]) ≤ d.room := by
      rw [hsn]
      have := sumB_le d.L (k + 1)
      omega
    have hhl : (d.L.take k ++ [f]).length ≤ 4096 := by rw [hsn, List.length_take]; omega
    have xr : Ext wr (wr.alloc (.cells #[sv f.name, .slice B f.b.length cb, .int .i64 (f.last : Int)] 57)) := (Mod.refl _ _).alloc _
    clear hf hu0 r6 e4 hbd hrise hmem hA
    go_upto_region 6 with fail
    obtain ⟨w2, hw2⟩ : ∃ w2, w2 = wr.alloc (.cells #[.string ⟨f.name.toArray⟩, .slice B f.b.length cb, .int .i64 (f.last : Int)] 57) := ⟨_, rfl⟩
    rw [← hw2]
    have x2 : Ext wr w2 := by rw [hw2]; exact xr
    have bF : Blk w2 wr.heap.size 57 #[sv f.name, .slice B f.b.length cb, .int .i64 (f.last : Int)] := by rw [hw2]; exact Blk.new _ _ _
    have hzr : w2.heap.size = wr.heap.size + 1 := by rw [hw2]; simp
    have hzw := xw.size
    clear hw2 xr
    replace hzr := Lib.hid hzr
    have qE : Ext w2 (w2.alloc (.cells #[] 5)) := (Mod.refl _ _).alloc _
    have tE : (w2.alloc (.cells #[] 5)).cell? ⟨wr.heap.size, 1, none⟩ = some (.slice B f.b.length cb) := (bF.mod qE (fun h => h)).cell 1
    have oE := Own.empty w2 5
    have fE : Fresh w2.heap.size (.slice (some ⟨w2.heap.size, 0, none⟩) 0 0) := fresh_new (Nat.le_refl _)
    have rE := hvi.mod (ext_trans xw (ext_trans x2 qE)) (fun _ _ _ h => h)
    have n1 : (([] : List Value).length + (f.b.map bv).length) * 1 ≤ 140737488355328 := by rw [List.length_map, List.length_nil]; omega
    go_wp2_with (first
      | ((with_reducible show wpList _ _ _ (⟨some 31, _, _, _, _, _⟩ :: _) _ _); refine wp_app tyB oE rE (bv_one _) rfl (.tmp 28) (.tmp 30) rfl rfl rfl n1 ?_; intro v4 w4 k1 k2 k3; have q1 := ext_app0 qE fE k2; have f4 := k3.fresh fE qE.size; rw [List.nil_append] at k1; have bF4 := bF.mod q1 (fun h => h); have t4 : w4.cell? ⟨wr.heap.size, 1, none⟩ = some (.slice B f.b.length cb) := bF4.cell 1; have z4 : w4.frozen? ⟨wr.heap.size, 1, none⟩ = false := bF4.frozen 1; obtain ⟨A4, l4, c4, hv4⟩ : ∃ A n c, v4 = Value.slice A n c := (by obtain ⟨A, c, h⟩ := k1.shape; exact ⟨A, _, c, h⟩); subst hv4; clear k2 k3))
    obtain ⟨v4, hv4⟩ : ∃ v4, v4 = Value.slice A4 l4 c4 := ⟨_, rfl⟩
    obtain ⟨w5, hw5⟩ : ∃ w5, w5 = w4.setCell ⟨wr.heap.size, 1, none⟩ (.slice A4 l4 c4) := ⟨_, rfl⟩
    rw [← hw5]
    have s5 : Mod (fun k => k = wr.heap.size) w4 w5 := by rw [hw5]; exact setg_mod _ _ _ _
    have bF5 : Blk w5 wr.heap.size 57 #[sv f.name, .slice A4 l4 c4, .int .i64 (f.last : Int)] := by rw [hw5]; exact bF4.set_ 1 _
    have m25 : Mod (fun k => k = wr.heap.size) wr w5 := ((ext_trans x2 q1).mono fun _ _ h => h.elim).then_ s5 fun _ _ h => h
    have hz4 := q1.size
    have hz5 := s5.size
    have ho5 := ho.mod m25 (fun k hk _ e => by omega)
    have x5 : Ext w w5 := xw.trans m25 (fun _ _ h => h) (fun k hk e => by omega)
    have hzr2 := hzr.out
    have k5 := k1.mod s5 (fun k hk e => by have := f4 k hk; omega)
    have hovr : ∀ k, own vo k → w.heap.size ≤ k ∧ k ≠ w.heap.size ∧ k < wr.heap.size := fun k hk => ⟨(ho.ro k hk).1, (ho.ro k hk).2, ho.row.lt hk⟩
    have hob : w.heap.size < wr.heap.size := ho.blk.lt
    have hone := fiv_one ho.slices
    have hAo : Ao.length ≤ 4096 := by have := ho.len; simp only [List.length_take] at this; omega
    clear hw5 hv4 v4 ho k1 bF bF4 t4 z4 m25 rE oE tE s5 x2 xw q1 qE fE
    have hrec : ∀ {wx : World}, Ext w5 wx → wx.cell? ⟨wr.heap.size, 0, none⟩ = some (sv f.name) ∧ wx.cell? ⟨wr.heap.size, 1, none⟩ = some (.slice A4 l4 c4) ∧ wx.cell? ⟨wr.heap.size, 2, none⟩ = some (.int .i64 (f.last : Int)) := fun q => ⟨(bF5.mod q (fun h => h)).cell 0, (bF5.mod q (fun h => h)).cell 1, (bF5.mod q (fun h => h)).cell 2⟩
    have q0 : Ext w5 w5.drew := (Mod.refl _ _).drew
    have qE : Ext w5 ((w5.alloc (.cells #[sv f.name, .slice A4 l4 c4, .int .i64 (f.last : Int)] fileT)).drew) := ((Mod.refl _ _).alloc _).drew
    have oR := ho5.row.ext qE
    have rN : Rc fiv 3 ((w5.alloc (.cells #[sv f.name, .slice A4 l4 c4, .int .i64 (f.last : Int)] fileT)).drew) (fun b => b = w5.heap.size) (.slice (some ⟨w5.heap.size, 0, none⟩) 1 1) [(f, Value.slice A4 l4 c4)] := Rc.lit1 fiv_len w5 fileT (f, Value.slice A4 l4 c4)
    have o2 : ∀ a ∈ [(f, Value.slice A4 l4 c4)], ∀ u ∈ fiv a, u.oneCell' = true := fiv_one (fun a ha => ⟨A4, l4, c4, by rw [List.mem_singleton.1 ha]⟩)
    have n2 : (Ao.length + [(f, Value.slice A4 l4 c4)].length) * 48 ≤ 140737488355328 := by simp only [List.length_cons, List.length_nil]; omega
    have bO : ∀ {wx : World}, Ext w5 wx → Blk wx w.heap.size 51 (rcells ⟨d.room, d.L.take k, false, 0⟩ vo) := fun q => (ho5.mod q (fun _ _ _ h => h)).blk
    have d0 : w5.drew.cell? ⟨w.heap.size, 1, none⟩ = some vo := (bO q0).cell 1
    have dE : ((w5.alloc (.cells #[sv f.name, .slice A4 l4 c4, .int .i64 (f.last : Int)] 57)).drew).cell? ⟨w.heap.size, 1, none⟩ = some vo := (bO qE).cell 1
    have hkeep : ∀ w7, Mod (own vo) ((w5.alloc (.cells #[sv f.name, .slice A4 l4 c4, .int .i64 (f.last : Int)] fileT)).drew) w7 → (w7.cell? ⟨wr.heap.size, 0, none⟩ = some (sv f.name) ∧ w7.cell? ⟨wr.heap.size, 1, none⟩ = some (.slice A4 l4 c4) ∧ w7.cell? ⟨wr.heap.size, 2, none⟩ = some (.int .i64 (f.last : Int))) ∧ (∀ u, (w7.setCell ⟨w.heap.size, 1, none⟩ u).cell? ⟨wr.heap.size, 0, none⟩ = some (sv f.name) ∧ (w7.setCell ⟨w.heap.size, 1, none⟩ u).cell? ⟨wr.heap.size, 1, none⟩ = some (.slice A4 l4 c4) ∧ (w7.setCell ⟨w.heap.size, 1, none⟩ u).cell? ⟨wr.heap.size, 2, none⟩ = some (.int .i64 (f.last : Int))) ∧ w7.cell? ⟨w.heap.size, 1, none⟩ = some vo ∧ w7.frozen? ⟨w.heap.size, 1, none⟩ = false := fun w7 m => by
      have b7 := (bF5.mod qE (fun h => h)).mod m (fun hv => by have := hovr _ hv; omega)
      have b8 : ∀ u, Blk (w7.setCell ⟨w.heap.size, 1, none⟩ u) wr.heap.size 57 #[sv f.name, .slice A4 l4 c4, .int .i64 (f.last : Int)] := fun u => b7.mod (setg_mod w7 w.heap.size 1 u) (by omega)
      have bo := (bO qE).mod m (fun hv => (hovr _ hv).2.1 rfl)
      exact ⟨⟨b7.cell 0, b7.cell 1, b7.cell 2⟩, fun u => ⟨(b8 u).cell 0, (b8 u).cell 1, (b8 u).cell 2⟩, bo.cell 1, bo.frozen 1⟩
    have hfin : ∀ v7 w7, OwnR fiv 3 w7 fileT v7 (Ao ++ [(f, Value.slice A4 l4 c4)]) → Mod (own vo) ((w5.alloc (.cells #[sv f.name, .slice A4 l4 c4, .int .i64 (f.last : Int)] fileT)).drew) w7 → Next ((w5.alloc (.cells #[sv f.name, .slice A4 l4 c4, .int .i64 (f.last : Int)] fileT)).drew).heap.size vo v7 → RdAt (fun k => w.heap.size ≤ k) (w7.setCell ⟨w.heap.size, 1, none⟩ v7) w.heap.size v7 (Ao ++ [(f, Value.slice A4 l4 c4)]) ⟨d.room, d.L.take (k + 1), false, 0⟩ ∧ Ext w (w7.setCell ⟨w.heap.size, 1, none⟩ v7) := fun v7 w7 m1 m2 m3 => by
      have s8 := setg_mod w7 w.heap.size 1 v7
      have hzE := qE.size
      have hz7 := m2.size
      have mm : Mod (fun j => j = w.heap.size ∨ own vo j) w5 (w7.setCell ⟨w.heap.size, 1, none⟩ v7) := ((qE.mono (G := fun j => j = w.heap.size ∨ own vo j) fun _ _ h => h.elim).then_ m2 fun _ _ h => .inr h).then_ s8 fun _ _ h => .inl h
      have hsub : ∀ j, own v7 j → own vo j ∨ w5.heap.size ≤ j := fun j hj => by
        rcases Nat.lt_or_ge j ((w5.alloc (.cells #[sv f.name, .slice A4 l4 c4, .int .i64 (f.last : Int)] fileT)).drew).heap.size with h1 | h1
        · exact .inl (m3.sub h1 hj)
        · exact .inr (Nat.le_trans hzE h1)
      have hR := ho5.more (by have := x5.size; omega) mm (fun j _ hj => hj) (((bO qE).mod m2 (fun hv => (hovr _ hv).2.1 rfl)).set_ 1 v7) (m1.mod s8 (fun j hj e => by
        rcases hsub j hj with h1 | h1
        · exact (hovr j h1).2.1 e
        · omega)) hsub (T := fun j => own (Value.slice A4 l4 c4) j) (((k5.mod mm (fun j hj hf => by
        have := f4 j hj
        rcases hf with h1 | h1
        · omega
        · have := hovr j h1; omega))).sl) (fun j hj => ⟨by have := f4 j hj; omega, by have := f4 j hj; omega, fun hv => by
        have h4 := f4 j hj
        have h5 := k5.lt hj
        rcases hsub j hv with h1 | h1
        · have := hovr j h1; omega
        · omega⟩) hhr hfl hhs hhl
      simp only [hsn] at hR
      exact ⟨hR, x5.trans mm (fun _ _ h => h) (fun j hj hf => by
        rcases hf with h1 | h1
        · omega
        · have := hovr j h1; omega)⟩
    replace hfin := Lib.hid hfin
    replace n2 := Lib.hid n2
    clear ho5 bO bF5 hvi k5 f4 hovr hone hsn hhr hhs hhl x5 hzr2 hzr
    refine wp_region_held_drew (S := fun wx => wx.cell? ⟨wr.heap.size, 0, none⟩ = some (sv f.name) ∧ wx.cell? ⟨wr.heap.size, 1, none⟩ = some (.slice A4 l4 c4) ∧ wx.cell? ⟨wr.heap.size, 2, none⟩ = some (.int .i64 (f.last : Int))) (by kernel_rfl) (hrec q0) (fun hH => ?_)
    (refine wpAnyH_take (i := 0) (oi := ⟨_, _, _, _, _, _⟩) (v := ?tv1) rfl (by kernel_rfl) (by kernel_rfl) (by kernel_rfl) (fun _ _ _ h => h) (Or.inl ⟨by kernel_rfl, ?hy1⟩) hH ?rs1; (case hy1 => (intro wx hSw; (try dsimp only at hSw); go_simp; try with_reducible rfl)); try simp only [Act.put, List.setIfInBounds_toArray, List.set_cons_zero, List.set_cons_succ]; try simp only [List.getElem_toArray, List.getElem_cons_succ, List.getElem_cons_zero])
    (refine wpAnyH_take (i := 1) (oi := ⟨_, _, _, _, _, _⟩) (v := ?tv2) rfl (by kernel_rfl) (by kernel_rfl) (by kernel_rfl) (fun _ _ _ h => h) (Or.inl ⟨by kernel_rfl, ?hy2⟩) hH ?rs2; (case hy2 => (intro wx hSw; (try dsimp only at hSw); go_simp; try with_reducible rfl)); try simp only [Act.put, List.setIfInBounds_toArray, List.set_cons_zero, List.set_cons_succ]; try simp only [List.getElem_toArray, List.getElem_cons_succ, List.getElem_cons_zero])
    (refine wpAnyH_take (i := 2) (oi := ⟨_, _, _, _, _, _⟩) (v := ?tv3) rfl (by kernel_rfl) (by kernel_rfl) (by kernel_rfl) (fun _ _ _ h => h) (Or.inl ⟨by kernel_rfl, ?hy3⟩) hH ?rs3; (case hy3 => (intro wx hSw; (try dsimp only at hSw); go_simp; try with_reducible rfl)); try simp only [Act.put, List.setIfInBounds_toArray, List.set_cons_zero, List.set_cons_succ]; try simp only [List.getElem_toArray, List.getElem_cons_succ, List.getElem_cons_zero])
    (refine wpAnyH_take (i := 3) (oi := ⟨_, _, _, _, _, _⟩) (v := ?tv4) rfl (by kernel_rfl) (by kernel_rfl) (by kernel_rfl) (fun _ _ _ h => h) (Or.inl ⟨by kernel_rfl, ?hy4⟩) hH ?rs4; (case hy4 => (intro wx hSw; (try dsimp only at hSw); go_simp; try with_reducible rfl)); try simp only [Act.put, List.setIfInBounds_toArray, List.set_cons_zero, List.set_cons_succ]; try simp only [List.getElem_toArray, List.getElem_cons_succ, List.getElem_cons_zero])
    (refine wpAnyH_take (i := 5) (oi := ⟨_, _, _, _, _, _⟩) (v := ?tv5) rfl (by kernel_rfl) (by kernel_rfl) (by kernel_rfl) (fun _ _ _ h => h) (Or.inl ⟨by kernel_rfl, ?hy5⟩) hH ?rs5; (case hy5 => (intro wx hSw; (try dsimp only at hSw); go_simp; try with_reducible rfl)); try simp only [Act.put, List.setIfInBounds_toArray, List.set_cons_zero, List.set_cons_succ]; try simp only [List.getElem_toArray, List.getElem_cons_succ, List.getElem_cons_zero])
    refine wpAnyH_ready (rs := [4, 6]) (by kernel_rfl) (by simp) ?_
    refine AllReadyH.cons rfl (fun K hK => ?a1) (AllReadyH.cons rfl (fun K hK => ?a2) AllReadyH.nil)
    case' a1 =>
      go_simp
      (go_wp2_with fail; refine hK.out _ _ (hH) (fun hH => ?_); clear hK K; try simp only [Act.put, List.setIfInBounds_toArray, List.set_cons_zero, List.set_cons_succ]; try simp only [List.getElem_toArray, List.getElem_cons_succ, List.getElem_cons_zero])
      (refine wpAnyH_ready (rs := [6]) (by kernel_rfl) (by simp) ?_; refine AllReadyH.cons rfl (fun K hK => ?_) AllReadyH.nil)
      go_simp
      (go_wp2_with fail; refine hK.out _ _ (hrec qE) (fun hH => ?_); clear hK K; try simp only [Act.put, List.setIfInBounds_toArray, List.set_cons_zero, List.set_cons_succ]; try simp only [List.getElem_toArray, List.getElem_cons_succ, List.getElem_cons_zero])
      (refine wpAnyH_ready (rs := [7]) (by kernel_rfl) (by simp) ?_; refine AllReadyH.cons rfl (fun K hK => ?_) AllReadyH.nil; refine step_appRs 40 tyF oR rN o2 n2.out rfl rfl (.tmp 37) (.tmp 39) rfl rfl rfl ?_; intro v7 w7 m1 m2 m3; have hff := hfin.out v7 w7 m1 m2 m3; obtain ⟨j1, j2, j4, j5⟩ := hkeep w7 m2; obtain ⟨A3, l3, c3, hv3⟩ : ∃ A n c, v7 = Value.slice A n c := (by obtain ⟨A, c, h⟩ := m1.shape; exact ⟨A, _, c, h⟩); clear m1 m3 hfin; subst hv3; refine hK.out _ _ j1 (fun hH => ?_); clear hK K; try simp only [Act.put, List.setIfInBounds_toArray, List.set_cons_zero, List.set_cons_succ]; try simp only [List.getElem_toArray, List.getElem_cons_succ, List.getElem_cons_zero])
      (refine wpAnyH_take (i := 8) (oi := ⟨_, _, _, _, _, _⟩) (v := ?tv6) rfl (by kernel_rfl) (by kernel_rfl) (by kernel_rfl) (fun _ _ _ h => h) (Or.inl ⟨by kernel_rfl, ?hy6⟩) hH ?rs6; (case hy6 => (intro wx hSw; (try dsimp only at hSw); go_simp; try with_reducible rfl)); try simp only [Act.put, List.setIfInBounds_toArray, List.set_cons_zero, List.set_cons_succ]; try simp only [List.getElem_toArray, List.getElem_cons_succ, List.getElem_cons_zero])
      (refine wpAnyH_take (i := 9) (oi := ⟨_, _, _, _, _, _⟩) (v := ?tv7) rfl (by kernel_rfl) (by kernel_rfl) (by kernel_rfl) (fun _ _ _ h => h) (Or.inl ⟨by kernel_rfl, ?hy7⟩) hH ?rs7; (case hy7 => (intro wx hSw; (try dsimp only at hSw); go_simp; try with_reducible rfl)); try simp only [Act.put, List.setIfInBounds_toArray, List.set_cons_zero, List.set_cons_succ]; try simp only [List.getElem_toArray, List.getElem_cons_succ, List.getElem_cons_zero])
      (refine wpAnyH_ready (rs := [10]) (by kernel_rfl) (by simp) ?_; refine AllReadyH.cons rfl (fun K hK => ?_) AllReadyH.nil)
      go_simp
      (go_wp2_with fail; refine hK.out _ _ (j2 _) (fun hH => ?_); clear hK K; try simp only [Act.put, List.setIfInBounds_toArray, List.set_cons_zero, List.set_cons_succ]; try simp only [List.getElem_toArray, List.getElem_cons_succ, List.getElem_cons_zero])
      refine wpAnyH_done (by kernel_rfl) ?_ _
    case' a2 =>
      go_simp
      (go_wp2_with fail; refine hK.out _ _ (hrec qE) (fun hH => ?_); clear hK K; try simp only [Act.put, List.setIfInBounds_toArray, List.set_cons_zero, List.set_cons_succ]; try simp only [List.getElem_toArray, List.getElem_cons_succ, List.getElem_cons_zero])
      (refine wpAnyH_ready (rs := [4]) (by kernel_rfl) (by simp) ?_; refine AllReadyH.cons rfl (fun K hK => ?_) AllReadyH.nil)
      go_simp
      (go_wp2_with fail; refine hK.out _ _ (hH) (fun hH => ?_); clear hK K; try simp only [Act.put, List.setIfInBounds_toArray, List.set_cons_zero, List.set_cons_succ]; try simp only [List.getElem_toArray, List.getElem_cons_succ, List.getElem_cons_zero])
      (refine wpAnyH_ready (rs := [7]) (by kernel_rfl) (by simp) ?_; refine AllReadyH.cons rfl (fun K hK => ?_) AllReadyH.nil; refine step_appRs 40 tyF oR rN o2 n2.out rfl rfl (.tmp 37) (.tmp 39) rfl rfl rfl ?_; intro v7 w7 m1 m2 m3; have hff := hfin.out v7 w7 m1 m2 m3; obtain ⟨j1, j2, j4, j5⟩ := hkeep w7 m2; obtain ⟨A3, l3, c3, hv3⟩ : ∃ A n c, v7 = Value.slice A n c := (by obtain ⟨A, c, h⟩ := m1.shape; exact ⟨A, _, c, h⟩); clear m1 m3 hfin; subst hv3; refine hK.out _ _ j1 (fun hH => ?_); clear hK K; try simp only [Act.put, List.setIfInBounds_toArray, List.set_cons_zero, List.set_cons_succ]; try simp only [List.getElem_toArray, List.getElem_cons_succ, List.getElem_cons_zero])
      (refine wpAnyH_take (i := 8) (oi := ⟨_, _, _, _, _, _⟩) (v := ?tv8) rfl (by kernel_rfl) (by kernel_rfl) (by kernel_rfl) (fun _ _ _ h => h) (Or.inl ⟨by kernel_rfl, ?hy8⟩) hH ?rs8; (case hy8 => (intro wx hSw; (try dsimp only at hSw); go_simp; try with_reducible rfl)); try simp only [Act.put, List.setIfInBounds_toArray, List.set_cons_zero, List.set_cons_succ]; try simp only [List.getElem_toArray, List.getElem_cons_succ, List.getElem_cons_zero])
      (refine wpAnyH_take (i := 9) (oi := ⟨_, _, _, _, _, _⟩) (v := ?tv9) rfl (by kernel_rfl) (by kernel_rfl) (by kernel_rfl) (fun _ _ _ h => h) (Or.inl ⟨by kernel_rfl, ?hy9⟩) hH ?rs9; (case hy9 => (intro wx hSw; (try dsimp only at hSw); go_simp; try with_reducible rfl)); try simp only [Act.put, List.setIfInBounds_toArray, List.set_cons_zero, List.set_cons_succ]; try simp only [List.getElem_toArray, List.getElem_cons_succ, List.getElem_cons_zero])
      (refine wpAnyH_ready (rs := [10]) (by kernel_rfl) (by simp) ?_; refine AllReadyH.cons rfl (fun K hK => ?_) AllReadyH.nil)
      go_simp
      (go_wp2_with fail; refine hK.out _ _ (j2 _) (fun hH => ?_); clear hK K; try simp only [Act.put, List.setIfInBounds_toArray, List.set_cons_zero, List.set_cons_succ]; try simp only [List.getElem_toArray, List.getElem_cons_succ, List.getElem_cons_zero])
      refine wpAnyH_done (by kernel_rfl) ?_ _
    all_goals
      obtain ⟨hR, xE⟩ := hff
      go_wp2_with fail
      exact ⟨⟨k + 1, by omega, by go_num, ⟨_, _, hR⟩, xE⟩, by simp [intOf] <;> omega⟩
end
end Go.Proofs.Ytnmfkfjeihjkeaa

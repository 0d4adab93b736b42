/- disk: the document's remove, Remove. -/
import Derived.Test.YtblfhonfjljndaaDoorRdO
import Derived.Test.YtblfhonfjljndaaDoorRdP
namespace Go.Proofs.YtblfhonfjljndaaDoor
open Go.RowKit Go.Maps Go.WideMaps
set_option maxRecDepth 100000

section
variable {S T F V : Nat → Prop} {w w' : World} {bd : Nat} {vL v y : Value} {A : List (Fi × Value)} {d : Ds} {b : List UInt8}
theorem rem_any (h : Dz S w v d) (x : List UInt8) :
    Calls Tryd.prog 64 #[v, sv x] w fun e w' => e = .returned (.tuple #[]) ∧ Dz (Grow S w) w' v { d with L := delF d.L x } ∧ Mod S w w' := by
  obtain ⟨bd, vL, A, rfl, h⟩ := h
  cases hx : getF d.L x with
  | none =>
    have e : delF d.L x = d.L := by
      unfold delF
      refine List.filter_eq_self.2 fun g hg => ?_
      have := getF_none hx
      simp only [bne_iff_ne, ne_eq]
      exact fun e => this (List.mem_map.2 ⟨g, hg, e⟩)
    rw [e]
    exact (rem_none h x hx).mono fun e w' ⟨q1, q2⟩ => ⟨q1, (h.rd.ext q2).grow w, q2.mono fun _ _ h => h.elim⟩
  | some f =>
    have hSd := h.sd
    suffices hs : Calls Tryd.prog 64 #[pv bd, sv x] w fun e w' => e = .returned (.tuple #[]) ∧ Dz (Grow S w) w' (pv bd) { d with L := delF d.L x } ∧ Mod (fun k => k = bd) w w' from hs.mono fun e w' ⟨q1, q2, q3⟩ => ⟨q1, q2, q3.mono fun k _ e => e ▸ hSd⟩
    obtain ⟨n', _, hi, e, _⟩ := h.found hx
    have hlen := h.len
    rcases h.row.form with ⟨rfl, h0⟩ | ⟨g, c, rfl, h1, h2, h3⟩
    · omega
    · rw [hlen] at h h1
      by_cases hc : posF d.L x + 1 < c
      · exact rem_someA h rfl x hx rfl h2 hc
      · have e1 : d.L.length = posF d.L x + 1 := by omega
        have e2 : c = posF d.L x + 1 := by omega
        rw [e2] at h h2
        have h' : RdAt S w bd (.slice (some ⟨g, 0, none⟩) (posF d.L x + 1) (posF d.L x + 1)) A d := by
          have h9 := h
          rw [e1] at h9
          exact h9
        exact rem_someB h' e1 x hx rfl h2
set_option maxHeartbeats 8000000 in
theorem rremove_any (h : Dz S w v d) (x : List UInt8) :
    Calls Tryd.prog 36 #[v, sv x] w fun e w' => e = .returned (ev (removeD d x).2) ∧ Dz (Grow S w) w' v (removeD d x).1 ∧ Mod S w w' := by
  obtain ⟨bd, vL, A, rfl, h⟩ := h
  have xa : Ext w (w.alloc (.cells #[sv x] 9)) := (Mod.refl _ _).alloc _
  have hcm := rmay_any (h.mod xa (fun _ _ _ h => h)) (one_name w x) (by simp)
  by_cases hb : begD d [x] = 0
  case neg =>
    have hn := n_ne0 hb
    have hd := h.rd
    rw [removeD, onF_err _ hb]
    clear h hb
    generalize begD d [x] = n at *
    go_enter Tryd.func36, Tryd.ntmps36
    go_wp2_with fail
    refine hcm.mono ?_
    rintro e w1 ⟨rfl, x1⟩
    clear hcm
    go_wp2_with fail
    go_ret
    exact ⟨rfl, (hd.ext (ext_trans xa x1)).grow w, (ext_trans xa x1).mono fun _ _ h => h.elim⟩
  rw [hb] at hcm
  have hcs := fun (w' : World) (x1 : Ext w w') => spot_any (h.mod x1 (fun _ _ _ h => h)) x
  cases hx : getF d.L x with
  | none =>
    have hd := h.rd
    rw [removeD, onF_none _ hb hx]
    rw [hx] at hcs
    clear h hb hx
    generalize posF d.L x = n at *
    go_enter Tryd.func36, Tryd.ntmps36
    go_wp2_with fail
    refine hcm.mono ?_
    rintro e w1 ⟨rfl, x1⟩
    clear hcm
    replace hcs := hcs _ (ext_trans xa x1)
    go_wp2_with fail
    refine hcs.mono ?_
    rintro e w2 ⟨rfl, x2⟩
    clear hcs
    go_wp2_with fail
    go_ret
    exact ⟨rfl, (hd.ext (ext_trans (ext_trans xa x1) x2)).grow w, (ext_trans (ext_trans xa x1) x2).mono fun _ _ h => h.elim⟩
  | some f =>
    obtain rfl := getF_name hx
    rw [removeD, onF_some _ hb hx]
    rw [hx] at hcs
    have hd := h.rd
    have hSd := h.sd
    clear h hb hx
    generalize posF d.L f.name = n at *
    go_enter Tryd.func36, Tryd.ntmps36
    go_wp2_with fail
    refine hcm.mono ?_
    rintro e w1 ⟨rfl, x1⟩
    clear hcm
    replace hcs := hcs _ (ext_trans xa x1)
    go_wp2_with fail
    refine hcs.mono ?_
    rintro e w2 ⟨rfl, x2⟩
    have y2 := ext_trans (ext_trans xa x1) x2
    have hcr := rem_any (hd.ext y2) f.name
    clear hcs xa x1 x2 hd
    go_wp2_with fail
    refine hcr.mono ?_
    rintro e w3 ⟨rfl, h3, m3⟩
    clear hcr
    obtain ⟨bd', vL', A', e9, h3⟩ := h3
    injection e9 with e9
    injection e9 with e9
    injection e9 with e9
    subst e9
    have hcd := did_any h3
    have hz2 := y2.size
    have hz3 := m3.size
    clear h3
    go_wp2_with fail
    refine hcd.mono ?_
    rintro e w4 ⟨rfl, h4, m4⟩
    clear hcd
    go_wp2_with fail
    go_ret
    exact ⟨rfl, h4.rd.mono fun k _ hk => hk.elim .inl fun h => .inr (Nat.le_trans hz2 h), ((y2.mono (G := S) fun _ _ h => h.elim).then_ m3 fun _ _ h => h).then_ m4 fun k _ hk => hk ▸ hSd⟩
end
end Go.Proofs.YtblfhonfjljndaaDoor
namespace Go.Proofs.YtblfhonfjljndaaDoor
open Go.RowKit Go.Maps Go.WideMaps
set_option maxRecDepth 100000

section
variable {S T F V : Nat → Prop} {w w' : World} {bd : Nat} {vL v y : Value} {A : List (Fi × Value)} {d : Ds} {b : List UInt8}
/-- The first k crashed. -/
def mixC (n : Int) (L : Fis) (k : Nat) : Fis := (L.take k).map (crashF n) ++ L.drop k
theorem mixC_len (n : Int) (L : Fis) (k : Nat) : (mixC n L k).length = L.length := by
  simp only [mixC, List.length_append, List.length_map, List.length_take, List.length_drop]
  omega
theorem mixC_get {n : Int} {L : Fis} {k : Nat} (hk : k < L.length) (h : k < (mixC n L k).length) : (mixC n L k)[k] = L[k] := by
  have e : ((L.take k).map (crashF n)).length = k := by rw [List.length_map, List.length_take]; omega
  have : (mixC n L k)[k]? = some L[k] := by
    unfold mixC
    rw [List.getElem?_append_right (by omega), e, Nat.sub_self, List.getElem?_drop, Nat.add_zero, List.getElem?_eq_getElem hk]
  rw [List.getElem?_eq_getElem h] at this
  exact Option.some.inj this
theorem mixC_succ {n : Int} {L : Fis} {k : Nat} (hk : k < L.length) (hr : Rise (mixC n L k)) : putF (mixC n L k) (crashF n L[k]) = mixC n L (k + 1) := by
  have hl : k < (mixC n L k).length := by rw [mixC_len]; exact hk
  have e : ((L.take k).map (crashF n)).length = k := by rw [List.length_map, List.length_take]; omega
  have hg := mixC_get (n := n) hk hl
  have hp : posF (mixC n L k) (crashF n L[k]).name = k := by
    have := posF_self hr hl
    rw [hg] at this
    exact this
  have hget : getF (mixC n L k) (crashF n L[k]).name = some L[k] := by
    have := getF_of_mem hr (List.getElem_mem hl)
    rw [hg] at this
    exact this
  rw [putF_set hr hget, hp]
  unfold mixC
  rw [List.set_append_right _ _ (by omega), e, Nat.sub_self, List.take_succ_eq_append_getElem hk, List.map_append, List.append_assoc, ← List.getElem_cons_drop hk]
  rfl
theorem mixC_all (n : Int) (L : Fis) : mixC n L L.length = L.map (crashF n) := by
  unfold mixC
  rw [List.take_length, List.drop_length, List.append_nil]
set_option maxHeartbeats 16000000 in
theorem rcrash_any (h : Dz S w v d) (n : Int) (hn : n ≤ 9223372036854775807) :
    Calls Tryd.prog 16 #[v, .int .i64 n] w fun e w' => e = .returned (.tuple #[]) ∧ Dz (Grow S w) w' v (crashD n d) ∧ Mod S w w' := by
  obtain ⟨bd, vL, A, rfl, h⟩ := h
  obtain ⟨dr, hdr⟩ : ∃ dr : Nat, dr = (max n 0).toNat := ⟨_, rfl⟩
  have hdr9 : dr ≤ 9223372036854775807 := by omega
  have hcase : (n ≤ 0 ∧ dr = 0) ∨ (¬ n ≤ 0 ∧ n = (dr : Int)) := by omega
  have hSd := h.sd
  have hlt := h.blk.lt
  obtain ⟨ad, c, rfl, p1, p2, p3⟩ := h.at_
  have hown : ∀ k, own (Value.slice ad d.L.length c) k → S k ∧ k < w.heap.size := fun k hk => ⟨(h.ro k hk).1, h.row.lt hk⟩
  have hfew := h.few
  have h0 : RdAt (Grow S w) w bd (.slice ad d.L.length c) A { d with L := mixC n d.L 0 } := h.mono fun k _ hk => .inl hk
  replace hdr := Lib.hid hdr
  clear h
  go_enter Tryd.func16, Tryd.ntmps16
  go_upto_region 0 with fail
  go_cut [1] (fun z wx => z = .int .i64 (dr : Int) ∧ w = wx)
  case first =>
    rcases hcase with ⟨hc1, hc2⟩ | ⟨hc1, hc2⟩
    all_goals
      go_wp2_with fail
      all_goals go_meet
      all_goals exact ⟨by congr 1 <;> omega, rfl⟩
  case rest =>
    obtain ⟨rfl, rfl⟩ := hcut
    clear hcase
    go_wp2_with fail
    go_loopw [4] (fun i wr => ∃ k : Nat, k ≤ d.L.length ∧ i = .int .i64 k ∧ (∃ A', RdAt (Grow S w) wr bd (.slice ad d.L.length c) A' { d with L := mixC n d.L k }) ∧ Mod S w wr) (fun i _ => d.L.length - (intOf i).toNat)
    case atStart => exact ⟨0, Nat.zero_le _, rfl, ⟨A, h0⟩, Mod.refl _ _⟩
    case round =>
      clear h0
      obtain ⟨k, hk, rfl, ⟨A', h⟩, mw⟩ := hrel
      have d1 : wr.cell? ⟨bd, 1, none⟩ = some (.slice ad d.L.length c) := h.blk.cell 1
      by_cases hlt2 : k < d.L.length
      case neg =>
        obtain rfl : k = d.L.length := by omega
        have hbl : decide ((d.L.length : Int) < (d.L.length : Int)) = false := dfalse (by omega)
        rw [mixC_all] at h
        have z2 : wr.frozen? ⟨bd, 2, none⟩ = false := h.blk.frozen 2
        have d2 : wr.cell? ⟨bd, 2, none⟩ = some (.int .i64 (leftI { d with L := d.L.map (crashF n) })) := h.blk.cell 2
        have hfin : Dz (Grow S w) (wr.setCell ⟨bd, 2, none⟩ (.int .i64 (-1))) (pv bd) (crashD n d) ∧ Mod S w (wr.setCell ⟨bd, 2, none⟩ (.int .i64 (-1))) := by
          have m := setg_mod wr bd 2 (.int .i64 (-1))
          exact ⟨(h.self (fu := false) (left := 0) m (h.blk.set_ 2 _) (by omega)).rd, mw.then_ m fun j _ e => e ▸ hSd⟩
        clear h
        go_wp2_with fail
        go_end0
        exact ⟨rfl, hfin⟩
      have hbl : decide ((k : Int) < (d.L.length : Int)) = true := dtrue (by omega)
      have hml := mixC_len n d.L k
      have hiA : k < A'.length := by rw [h.len]; simp only [hml]; exact hlt2
      have hA1 : A'[k].1 = d.L[k] := by rw [h.fst hiA]; exact mixC_get hlt2 _
      obtain ⟨f, hf⟩ : ∃ f, f = d.L[k] := ⟨_, rfl⟩
      obtain ⟨u0, hu0⟩ : ∃ u0, u0 = A'[k].2 := ⟨_, rfl⟩
      have hA : A'[k] = (f, u0) := by rw [hf, ← hA1, hu0]
      have hvi := h.fb _ (List.getElem_mem hiA)
      rw [hA] at hvi
      replace hvi : Bs wr _ u0 f.b := hvi
      have hmem : f ∈ mixC n d.L k := by
        have := List.getElem_mem (l := mixC n d.L k) (n := k) (by rw [hml]; exact hlt2)
        rw [mixC_get hlt2] at this
        rw [hf]; exact this
      have hfl := h.fl f hmem
      have hbig := len_of_mem h.rise hmem
      have hroom := h.room
      have hmost := h.most
      simp only at hroom hmost hbig
      obtain ⟨B, cb, rfl, e1, e2, e3, e4⟩ := hvi.open_
      obtain ⟨p, rfl⟩ := p3 (by omega)
      obtain ⟨cn, hcn⟩ : ∃ cn, cn = crashN n f := ⟨_, rfl⟩
      obtain ⟨m, hm⟩ : ∃ m, m = dr % (f.b.length - f.last + 1) := ⟨_, rfl⟩
      have hcm : cn = f.last + m := by rw [hcn, hm, hdr.out]; rfl
      have hm9 : m < f.b.length - f.last + 1 := by rw [hm]; exact Nat.mod_lt _ (by omega)
      obtain ⟨u, hu⟩ : ∃ u, u = f.b.length - f.last := ⟨_, rfl⟩
      rw [← hu] at hm hm9
      have hs0 : (f.b.length : Int) - (f.last : Int) = (u : Int) := by omega
      have hsw : IntKind.i64.wrap (u : Int) = (u : Int) := IntWalk.i64_in _ ⟨by omega, by omega⟩
      have hmod : (dr : Int) % ((u : Int) + 1) = (m : Int) := by rw [hm]; rfl
      have hmod2 : Int.tmod (dr : Int) ((u : Int) + 1) = (m : Int) := by rw [hm]; rfl
      have hnz : ((u : Int) + 1 == 0) = false := by rw [beq_eq_false_iff_ne]; omega
      have hnz2 : ¬ (u : Int) + 1 = 0 := by omega
      have hadd : (f.last : Int) + (m : Int) = (cn : Int) := by omega
      have hcl : cn ≤ f.b.length := by omega
      have hw1 : IntKind.i64.wrap ((u : Int) + 1) = (u : Int) + 1 := IntWalk.i64_in _ ⟨by omega, by omega⟩
      have hw2 : IntKind.i64.wrap (m : Int) = (m : Int) := IntWalk.i64_in _ ⟨by omega, by omega⟩
      have hw3 : IntKind.i64.wrap (cn : Int) = (cn : Int) := IntWalk.i64_in _ ⟨by omega, by omega⟩
      have hat := fun (wx : World) (x1 : Ext wr wx) => (h.row.ext x1).at3 (i := k) hiA
      rw [hA] at hat
      have hi0 : (0 : Int) ≤ (k : Int) := by omega
      have hi1 : (k : Int) < (d.L.length : Int) := by omega
      have hcrf : crashF n d.L[k] = ⟨f.name, f.b.take cn, cn⟩ := by rw [← hf, hcn]; rfl
      have hsc := mixC_succ (n := n) hlt2 h.rise
      rw [hcrf] at hsc
      replace hsc := Lib.hid hsc
      have hel1 : ∀ {wx : World}, Ext wr wx → wx.cell? ⟨(p.add (k * 3)).block, (p.add (k * 3)).off + 1, none⟩ = some (.slice B f.b.length cb) := fun q => (hat _ q).2.2.2.1
      have hel2 : ∀ {wx : World}, Ext wr wx → wx.cell? ⟨(p.add (k * 3)).block, (p.add (k * 3)).off + 2, none⟩ = some (.int .i64 (f.last : Int)) := fun q => (hat _ q).2.2.2.2.1
      have hfz : ∀ (j : Nat) {wx : World}, Ext wr wx → wx.frozen? ⟨(p.add (k * 3)).block, (p.add (k * 3)).off + j, none⟩ = false := fun j {wx} q => (hat wx q).2.2.2.2.2 j
      have t1 := hel1 (Mod.refl _ wr)
      have t2 := hel2 (Mod.refl _ wr)
      clear hf hA1 hu0 hcn hm hcrf e4 hdr hmem hu hcm
      go_upto_region 5 with fail
      go_wp2_with fail
      go_quiet (fail)
      go_wp2_with fail
      obtain ⟨ws, hws⟩ : ∃ ws, ws = wr.drewN nq := ⟨_, rfl⟩
      have xs : Ext wr ws := by rw [hws]; exact (Mod.refl _ _).drewN nq
      rw [← hws]
      clear hws
      have hE1 : ∀ {wx : World}, Ext ws wx → wx.cell? ⟨(p.add (k * 3)).block, (p.add (k * 3)).off + 1, none⟩ = some (.slice B f.b.length cb) := fun q => hel1 (ext_trans xs q)
      have hE2 : ∀ {wx : World}, Ext ws wx → wx.cell? ⟨(p.add (k * 3)).block, (p.add (k * 3)).off + 2, none⟩ = some (.int .i64 (f.last : Int)) := fun q => hel2 (ext_trans xs q)
      have hfZ : ∀ {wx : World}, Ext ws wx → wx.frozen? ⟨(p.add (k * 3)).block, (p.add (k * 3)).off + 1, none⟩ = false := fun q => hfz 1 (ext_trans xs q)
      have q0 : Ext ws ws.drew := (Mod.refl _ ws).drew
      have oE := (Own.empty ws 5).mod ((Mod.refl (fun _ => False) (ws.alloc (.cells #[] 5))).drew) (fun _ _ h => h)
      have fE : Fresh ws.heap.size (.slice (some ⟨ws.heap.size, 0, none⟩) 0 0) := fresh_new (Nat.le_refl _)
      have qE : Ext ws ((ws.alloc (.cells #[] 5)).drew) := ((Mod.refl _ _).alloc _).drew
      have rE := Bs.begin (hvi.mod (ext_trans xs qE) (fun _ _ _ h => h)) hcl
      have n1 : (([] : List Value).length + ((f.b.take cn).map bv).length) * 1 ≤ 140737488355328 := by rw [List.length_map, List.length_nil, List.length_take]; omega
      have hi2 : (0 : Int) ≤ (cn : Int) := by omega
      have hi3 : (cn : Int) ≤ (cb : Int) := by omega
      have hi4 : (cn : Int) ≤ (f.b.length : Int) := by omega
      have r40 := hE1 q0
      have r4a := hE1 qE
      have hlast : ∀ {wx : World} (u : Value), Ext ws wx → (wx.setCell ⟨(p.add (k * 3)).block, (p.add (k * 3)).off + 1, none⟩ u).cell? ⟨(p.add (k * 3)).block, (p.add (k * 3)).off + 2, none⟩ = some (.int .i64 (f.last : Int)) := fun u q => (World.cell?_setCell_other _ _ _ _ (by intro e; injection e with _ e; omega)).trans (hE2 q)
      refine wp_region_held_drew (S := fun wx => wx.cell? ⟨(p.add (k * 3)).block, (p.add (k * 3)).off + 2, none⟩ = some (.int .i64 (f.last : Int))) (by kernel_rfl) (hE2 q0) (fun hH => ?_)
      (refine wpAnyH_take (i := 0) (oi := ⟨_, _, _, _, _, _⟩) (v := ?tv1) rfl (by kernel_rfl) (by kernel_rfl) (by kernel_rfl) (fun _ _ _ h => h) (Or.inl ⟨by kernel_rfl, ?hy1⟩) hH ?rs1; (case hy1 => (intro wx hSw; (try dsimp only at hSw); go_simp; try with_reducible rfl)); try simp only [Act.put, List.setIfInBounds_toArray, List.set_cons_zero, List.set_cons_succ]; try simp only [List.getElem_toArray, List.getElem_cons_succ, List.getElem_cons_zero])
      (refine wpAnyH_take (i := 2) (oi := ⟨_, _, _, _, _, _⟩) (v := ?tv2) rfl (by kernel_rfl) (by kernel_rfl) (by kernel_rfl) (fun _ _ _ h => h) (Or.inl ⟨by kernel_rfl, ?hy2⟩) hH ?rs2; (case hy2 => (intro wx hSw; (try dsimp only at hSw); go_simp; try with_reducible rfl)); try simp only [Act.put, List.setIfInBounds_toArray, List.set_cons_zero, List.set_cons_succ]; try simp only [List.getElem_toArray, List.getElem_cons_succ, List.getElem_cons_zero])
      (refine wpAnyH_take (i := 3) (oi := ⟨_, _, _, _, _, _⟩) (v := ?tv3) rfl (by kernel_rfl) (by kernel_rfl) (by kernel_rfl) (fun _ _ _ h => h) (Or.inl ⟨by kernel_rfl, ?hy3⟩) hH ?rs3; (case hy3 => (intro wx hSw; (try dsimp only at hSw); go_simp; try with_reducible rfl)); try simp only [Act.put, List.setIfInBounds_toArray, List.set_cons_zero, List.set_cons_succ]; try simp only [List.getElem_toArray, List.getElem_cons_succ, List.getElem_cons_zero])
      (refine wpAnyH_take (i := 4) (oi := ⟨_, _, _, _, _, _⟩) (v := ?tv4) rfl (by kernel_rfl) (by kernel_rfl) (by kernel_rfl) (fun _ _ _ h => h) (Or.inl ⟨by kernel_rfl, ?hy4⟩) hH ?rs4; (case hy4 => (intro wx hSw; (try dsimp only at hSw); go_simp; try with_reducible rfl)); try simp only [Act.put, List.setIfInBounds_toArray, List.set_cons_zero, List.set_cons_succ]; try simp only [List.getElem_toArray, List.getElem_cons_succ, List.getElem_cons_zero])
      (refine wpAnyH_take (i := 6) (oi := ⟨_, _, _, _, _, _⟩) (v := ?tv5) rfl (by kernel_rfl) (by kernel_rfl) (by kernel_rfl) (fun _ _ _ h => h) (Or.inl ⟨by kernel_rfl, ?hy5⟩) hH ?rs5; (case hy5 => (intro wx hSw; (try dsimp only at hSw); go_simp; try with_reducible rfl)); try simp only [Act.put, List.setIfInBounds_toArray, List.set_cons_zero, List.set_cons_succ]; try simp only [List.getElem_toArray, List.getElem_cons_succ, List.getElem_cons_zero])
      (refine wpAnyH_take (i := 7) (oi := ⟨_, _, _, _, _, _⟩) (v := ?tv6) rfl (by kernel_rfl) (by kernel_rfl) (by kernel_rfl) (fun _ _ _ h => h) (Or.inl ⟨by kernel_rfl, ?hy6⟩) hH ?rs6; (case hy6 => (intro wx hSw; (try dsimp only at hSw); go_simp; try with_reducible rfl)); try simp only [Act.put, List.setIfInBounds_toArray, List.set_cons_zero, List.set_cons_succ]; try simp only [List.getElem_toArray, List.getElem_cons_succ, List.getElem_cons_zero])
      (refine wpAnyH_take (i := 8) (oi := ⟨_, _, _, _, _, _⟩) (v := ?tv7) rfl (by kernel_rfl) (by kernel_rfl) (by kernel_rfl) (fun _ _ _ h => h) (Or.inl ⟨by kernel_rfl, ?hy7⟩) hH ?rs7; (case hy7 => (intro wx hSw; (try dsimp only at hSw); go_simp; try with_reducible rfl)); try simp only [Act.put, List.setIfInBounds_toArray, List.set_cons_zero, List.set_cons_succ]; try simp only [List.getElem_toArray, List.getElem_cons_succ, List.getElem_cons_zero])
      (refine wpAnyH_take (i := 9) (oi := ⟨_, _, _, _, _, _⟩) (v := ?tv8) rfl (by kernel_rfl) (by kernel_rfl) (by kernel_rfl) (fun _ _ _ h => h) (Or.inl ⟨by kernel_rfl, ?hy8⟩) hH ?rs8; (case hy8 => (intro wx hSw; (try dsimp only at hSw); go_simp; try with_reducible rfl)); try simp only [Act.put, List.setIfInBounds_toArray, List.set_cons_zero, List.set_cons_succ]; try simp only [List.getElem_toArray, List.getElem_cons_succ, List.getElem_cons_zero])
      (refine wpAnyH_take (i := 10) (oi := ⟨_, _, _, _, _, _⟩) (v := ?tv9) rfl (by kernel_rfl) (by kernel_rfl) (by kernel_rfl) (fun _ _ _ h => h) (Or.inl ⟨by kernel_rfl, ?hy9⟩) hH ?rs9; (case hy9 => (intro wx hSw; (try dsimp only at hSw); go_simp; try with_reducible rfl)); try simp only [Act.put, List.setIfInBounds_toArray, List.set_cons_zero, List.set_cons_succ]; try simp only [List.getElem_toArray, List.getElem_cons_succ, List.getElem_cons_zero])
      (refine wpAnyH_take (i := 11) (oi := ⟨_, _, _, _, _, _⟩) (v := ?tv10) rfl (by kernel_rfl) (by kernel_rfl) (by kernel_rfl) (fun _ _ _ h => h) (Or.inl ⟨by kernel_rfl, ?hy10⟩) hH ?rs10; (case hy10 => (intro wx hSw; (try dsimp only at hSw); go_simp; try with_reducible rfl)); try simp only [Act.put, List.setIfInBounds_toArray, List.set_cons_zero, List.set_cons_succ]; try simp only [List.getElem_toArray, List.getElem_cons_succ, List.getElem_cons_zero])
      (refine wpAnyH_take (i := 12) (oi := ⟨_, _, _, _, _, _⟩) (v := ?tv11) rfl (by kernel_rfl) (by kernel_rfl) (by kernel_rfl) (fun _ _ _ h => h) (Or.inl ⟨by kernel_rfl, ?hy11⟩) hH ?rs11; (case hy11 => (intro wx hSw; (try dsimp only at hSw); go_simp; try with_reducible rfl)); try simp only [Act.put, List.setIfInBounds_toArray, List.set_cons_zero, List.set_cons_succ]; try simp only [List.getElem_toArray, List.getElem_cons_succ, List.getElem_cons_zero])
      (refine wpAnyH_take (i := 13) (oi := ⟨_, _, _, _, _, _⟩) (v := ?tv12) rfl (by kernel_rfl) (by kernel_rfl) (by kernel_rfl) (fun _ _ _ h => h) (Or.inl ⟨by kernel_rfl, ?hy12⟩) hH ?rs12; (case hy12 => (intro wx hSw; (try dsimp only at hSw); go_simp; try with_reducible rfl)); try simp only [Act.put, List.setIfInBounds_toArray, List.set_cons_zero, List.set_cons_succ]; try simp only [List.getElem_toArray, List.getElem_cons_succ, List.getElem_cons_zero])
      (refine wpAnyH_take (i := 14) (oi := ⟨_, _, _, _, _, _⟩) (v := ?tv13) rfl (by kernel_rfl) (by kernel_rfl) (by kernel_rfl) (fun _ _ _ h => h) (Or.inl ⟨by kernel_rfl, ?hy13⟩) hH ?rs13; (case hy13 => (intro wx hSw; (try dsimp only at hSw); go_simp; try with_reducible rfl)); try simp only [Act.put, List.setIfInBounds_toArray, List.set_cons_zero, List.set_cons_succ]; try simp only [List.getElem_toArray, List.getElem_cons_succ, List.getElem_cons_zero])
      refine wpAnyH_ready (rs := [1, 5]) (by kernel_rfl) (by simp) ?_
      refine AllReadyH.cons rfl (fun K hK => ?a1) (AllReadyH.cons rfl (fun K hK => ?a2) AllReadyH.nil)
      case' a1 =>
        go_simp
        (go_wp2_with fail; refine hK.out _ _ (hE2 qE) (fun hH => ?_); clear hK K; try simp only [Act.put, List.setIfInBounds_toArray, List.set_cons_zero, List.set_cons_succ]; try simp only [List.getElem_toArray, List.getElem_cons_succ, List.getElem_cons_zero])
        (refine wpAnyH_ready (rs := [5]) (by kernel_rfl) (by simp) ?_; refine AllReadyH.cons rfl (fun K hK => ?_) AllReadyH.nil)
        go_simp
        (go_wp2_with fail; refine hK.out _ _ (hH) (fun hH => ?_); clear hK K; try simp only [Act.put, List.setIfInBounds_toArray, List.set_cons_zero, List.set_cons_succ]; try simp only [List.getElem_toArray, List.getElem_cons_succ, List.getElem_cons_zero])
        (refine wpAnyH_take (i := 15) (oi := ⟨_, _, _, _, _, _⟩) (v := ?tv16) rfl (by kernel_rfl) (by kernel_rfl) (by kernel_rfl) (fun _ _ _ h => h) (Or.inl ⟨by kernel_rfl, ?hy16⟩) hH ?rs16; (case hy16 => (intro wx hSw; (try dsimp only at hSw); go_simp; try with_reducible rfl)); try simp only [Act.put, List.setIfInBounds_toArray, List.set_cons_zero, List.set_cons_succ]; try simp only [List.getElem_toArray, List.getElem_cons_succ, List.getElem_cons_zero])
        (refine wpAnyH_ready (rs := [16]) (by kernel_rfl) (by simp) ?_; refine AllReadyH.cons rfl (fun K hK => ?_) AllReadyH.nil; refine step_app 50 tyB oE rE (bv_one _) n1 rfl rfl (.tmp 35) (.tmp 49) rfl rfl rfl ?_; intro va wa ka1 ka2 ka3; have q1 := ext_app0 qE fE ka2; have kf := ka3.fresh fE qE.size; obtain ⟨Av, cv, rfl⟩ := ka1.shape; have j2 := hE1 q1; have j3 := hfZ q1; refine hK.out _ _ (hE2 q1) (fun hH => ?_); clear hK K; try simp only [Act.put, List.setIfInBounds_toArray, List.set_cons_zero, List.set_cons_succ]; try simp only [List.getElem_toArray, List.getElem_cons_succ, List.getElem_cons_zero])
        (refine wpAnyH_take (i := 17) (oi := ⟨_, _, _, _, _, _⟩) (v := ?tv17) rfl (by kernel_rfl) (by kernel_rfl) (by kernel_rfl) (fun _ _ _ h => h) (Or.inl ⟨by kernel_rfl, ?hy17⟩) hH ?rs17; (case hy17 => (intro wx hSw; (try dsimp only at hSw); go_simp; try with_reducible rfl)); try simp only [Act.put, List.setIfInBounds_toArray, List.set_cons_zero, List.set_cons_succ]; try simp only [List.getElem_toArray, List.getElem_cons_succ, List.getElem_cons_zero])
        (refine wpAnyH_take (i := 18) (oi := ⟨_, _, _, _, _, _⟩) (v := ?tv18) rfl (by kernel_rfl) (by kernel_rfl) (by kernel_rfl) (fun _ _ _ h => h) (Or.inl ⟨by kernel_rfl, ?hy18⟩) hH ?rs18; (case hy18 => (intro wx hSw; (try dsimp only at hSw); go_simp; try with_reducible rfl)); try simp only [Act.put, List.setIfInBounds_toArray, List.set_cons_zero, List.set_cons_succ]; try simp only [List.getElem_toArray, List.getElem_cons_succ, List.getElem_cons_zero])
        (refine wpAnyH_ready (rs := [19]) (by kernel_rfl) (by simp) ?_; refine AllReadyH.cons rfl (fun K hK => ?_) AllReadyH.nil)
        go_simp
        (go_wp2_with fail; refine hK.out _ _ (hlast _ q1) (fun hH => ?_); clear hK K; try simp only [Act.put, List.setIfInBounds_toArray, List.set_cons_zero, List.set_cons_succ]; try simp only [List.getElem_toArray, List.getElem_cons_succ, List.getElem_cons_zero])
        refine wpAnyH_done (by kernel_rfl) ?_ _
      case' a2 =>
        go_simp
        (go_wp2_with fail; refine hK.out _ _ (hH) (fun hH => ?_); clear hK K; try simp only [Act.put, List.setIfInBounds_toArray, List.set_cons_zero, List.set_cons_succ]; try simp only [List.getElem_toArray, List.getElem_cons_succ, List.getElem_cons_zero])
        (refine wpAnyH_take (i := 15) (oi := ⟨_, _, _, _, _, _⟩) (v := ?tv19) rfl (by kernel_rfl) (by kernel_rfl) (by kernel_rfl) (fun _ _ _ h => h) (Or.inl ⟨by kernel_rfl, ?hy19⟩) hH ?rs19; (case hy19 => (intro wx hSw; (try dsimp only at hSw); go_simp; try with_reducible rfl)); try simp only [Act.put, List.setIfInBounds_toArray, List.set_cons_zero, List.set_cons_succ]; try simp only [List.getElem_toArray, List.getElem_cons_succ, List.getElem_cons_zero])
        (refine wpAnyH_ready (rs := [1]) (by kernel_rfl) (by simp) ?_; refine AllReadyH.cons rfl (fun K hK => ?_) AllReadyH.nil)
        go_simp
        (go_wp2_with fail; refine hK.out _ _ (hE2 qE) (fun hH => ?_); clear hK K; try simp only [Act.put, List.setIfInBounds_toArray, List.set_cons_zero, List.set_cons_succ]; try simp only [List.getElem_toArray, List.getElem_cons_succ, List.getElem_cons_zero])
        (refine wpAnyH_ready (rs := [16]) (by kernel_rfl) (by simp) ?_; refine AllReadyH.cons rfl (fun K hK => ?_) AllReadyH.nil; refine step_app 50 tyB oE rE (bv_one _) n1 rfl rfl (.tmp 35) (.tmp 49) rfl rfl rfl ?_; intro va wa ka1 ka2 ka3; have q1 := ext_app0 qE fE ka2; have kf := ka3.fresh fE qE.size; obtain ⟨Av, cv, rfl⟩ := ka1.shape; have j2 := hE1 q1; have j3 := hfZ q1; refine hK.out _ _ (hE2 q1) (fun hH => ?_); clear hK K; try simp only [Act.put, List.setIfInBounds_toArray, List.set_cons_zero, List.set_cons_succ]; try simp only [List.getElem_toArray, List.getElem_cons_succ, List.getElem_cons_zero])
        (refine wpAnyH_take (i := 17) (oi := ⟨_, _, _, _, _, _⟩) (v := ?tv20) rfl (by kernel_rfl) (by kernel_rfl) (by kernel_rfl) (fun _ _ _ h => h) (Or.inl ⟨by kernel_rfl, ?hy20⟩) hH ?rs20; (case hy20 => (intro wx hSw; (try dsimp only at hSw); go_simp; try with_reducible rfl)); try simp only [Act.put, List.setIfInBounds_toArray, List.set_cons_zero, List.set_cons_succ]; try simp only [List.getElem_toArray, List.getElem_cons_succ, List.getElem_cons_zero])
        (refine wpAnyH_take (i := 18) (oi := ⟨_, _, _, _, _, _⟩) (v := ?tv21) rfl (by kernel_rfl) (by kernel_rfl) (by kernel_rfl) (fun _ _ _ h => h) (Or.inl ⟨by kernel_rfl, ?hy21⟩) hH ?rs21; (case hy21 => (intro wx hSw; (try dsimp only at hSw); go_simp; try with_reducible rfl)); try simp only [Act.put, List.setIfInBounds_toArray, List.set_cons_zero, List.set_cons_succ]; try simp only [List.getElem_toArray, List.getElem_cons_succ, List.getElem_cons_zero])
        (refine wpAnyH_ready (rs := [19]) (by kernel_rfl) (by simp) ?_; refine AllReadyH.cons rfl (fun K hK => ?_) AllReadyH.nil)
        go_simp
        (go_wp2_with fail; refine hK.out _ _ (hlast _ q1) (fun hH => ?_); clear hK K; try simp only [Act.put, List.setIfInBounds_toArray, List.set_cons_zero, List.set_cons_succ]; try simp only [List.getElem_toArray, List.getElem_cons_succ, List.getElem_cons_zero])
        refine wpAnyH_done (by kernel_rfl) ?_ _
      all_goals
        have ka : Own wa 5 (.slice Av cn cv) ((f.b.take cn).map bv) := by
          have h9 := ka1
          rw [List.nil_append] at h9
          have e : ((f.b.take cn).map bv).length = cn := by rw [List.length_map, List.length_take]; omega
          rw [e] at h9
          exact h9
        have kf' : Fresh ws.heap.size (.slice Av cn cv) := by
          have h9 := kf
          have e : (([] : List Value) ++ (f.b.take cn).map bv).length = cn := by rw [List.nil_append, List.length_map, List.length_take]; omega
          rw [e] at h9
          exact h9
        have hw := h.mod (ext_trans xs q1) (fun _ _ _ h => h)
        obtain ⟨k1, k2⟩ := hw.row.set3 hiA (j := 1) (u := .slice Av cn cv) (a' := (f, .slice Av cn cv)) (by omega) (by rw [hA]; rfl)
        obtain ⟨w4, hw4⟩ : ∃ w4, w4 = wa.setCell ⟨(p.add (k * 3)).block, (p.add (k * 3)).off + 1, none⟩ (.slice Av cn cv) := ⟨_, rfl⟩
        rw [← hw4] at k1 k2 hH ⊢
        have hiA2 : k < (A'.set k (f, Value.slice Av cn cv)).length := by rw [List.length_set]; exact hiA
        obtain ⟨s1, s2, s3, s4, s5, s6⟩ := k1.at3 (i := k) hiA2
        rw [List.getElem_set_self] at s4
        have s62 := s6 2
        obtain ⟨k3, k4⟩ := k1.set3 hiA2 (j := 2) (u := .int .i64 (cn : Int)) (a' := (⟨f.name, f.b.take cn, cn⟩, .slice Av cn cv)) (by omega) (by rw [List.getElem_set_self]; rfl)
        rw [List.set_set] at k3
        have hz1 := mw.size
        have hz2 := xs.size
        have hz3 := q1.size
        have m5 : Mod (fun j => j = p.block) wa (w4.setCell ⟨(p.add (k * 3)).block, (p.add (k * 3)).off + 2, none⟩ (.int .i64 (cn : Int))) := k2.then_ k4 fun _ _ h => h
        have h5 := hw.turn (S' := Grow S w) hiA (f' := ⟨f.name, f.b.take cn, cn⟩) (v' := .slice Av cn cv) (by rw [hA]) m5 (fun j _ hj => hj ▸ s2) k3 (T := fun j => ws.heap.size ≤ j) ((ka.mod m5 (fun j hj e => by have := kf' j hj; have := h.row.lt s2; omega)).sl.mono fun j _ hj => kf' j hj) (fun j _ hj => ⟨.inr (by omega), by omega, fun hv => by have := h.row.lt hv; omega⟩) (fun _ h => h) (by simp only [List.length_take]; omega) (by rw [hA]; simp only [List.length_take]; omega)
        simp only at h5
        rw [hsc.out] at h5
        have m6 : Mod S w (w4.setCell ⟨(p.add (k * 3)).block, (p.add (k * 3)).off + 2, none⟩ (.int .i64 (cn : Int))) := (mw.then_ (ext_trans xs q1) fun _ _ h => h.elim).then_ m5 fun j _ hj => hj ▸ (hown _ s2).1
        clear hat h hw k1 k2 k3 k4 m5 ka ka1 ka2 ka3 kf kf' oE fE qE rE n1 q0 q1 r4a r40 j2 j3 hE1 hE2 hfZ hel1 hel2 hfz hlast hvi hA xs s6 s1 s2 s3 hw4 hsc t1 t2
        go_wp2_with fail
        exact ⟨⟨k + 1, by omega, by go_num, ⟨_, h5⟩, m6⟩, by simp [intOf] <;> omega⟩
end
end Go.Proofs.YtblfhonfjljndaaDoor
namespace Go.Proofs.YtblfhonfjljndaaDoor
open Go.RowKit Go.Maps Go.WideMaps
set_option maxRecDepth 100000

section
variable {S T F V : Nat → Prop} {w w' : World} {bd : Nat} {vL v y : Value} {A : List (Fi × Value)} {d : Ds} {b : List UInt8}
theorem Dz.pv (h : Dz S w (pv bd) d) : ∃ vL A, RdAt S w bd vL A d := by
  obtain ⟨bd', vL', A', e9, h3⟩ := h
  injection e9 with e9
  injection e9 with e9
  injection e9 with e9
  subst e9
  exact ⟨vL', A', h3⟩
theorem rem_at (h : RdAt S w bd vL A d) (x : List UInt8) :
    Calls Tryd.prog 64 #[pv bd, sv x] w fun e w' => e = .returned (.tuple #[]) ∧ Dz (Grow S w) w' (pv bd) { d with L := delF d.L x } ∧ Mod (fun k => k = bd) w w' := by
  cases hx : getF d.L x with
  | none =>
    rw [delF_none (getF_none hx)]
    exact (rem_none h x hx).mono fun e w' ⟨q1, q2⟩ => ⟨q1, (h.rd.ext q2).grow w, q2.mono fun _ _ h => h.elim⟩
  | some f =>
    obtain ⟨n', _, hi, e, _⟩ := h.found hx
    have hlen := h.len
    rcases h.row.form with ⟨rfl, h0⟩ | ⟨g, c, rfl, h1, h2, h3⟩
    · omega
    · rw [hlen] at h h1
      by_cases hc : posF d.L x + 1 < c
      · exact rem_someA h rfl x hx rfl h2 hc
      · have e1 : d.L.length = posF d.L x + 1 := by omega
        have e2 : c = posF d.L x + 1 := by omega
        rw [e2] at h h2
        have h' : RdAt S w bd (.slice (some ⟨g, 0, none⟩) (posF d.L x + 1) (posF d.L x + 1)) A d := by
          have h9 := h
          rw [e1] at h9
          exact h9
        exact rem_someB h' e1 x hx rfl h2
/-- A new row of files, some of which have bytes elsewhere. -/
theorem RdAt.renew2 (h : RdAt S w bd vL A d) {w' : World} {vN : Value} {A' : List (Fi × Value)} {L' : Fis} (hm : Mod F w w') (hF : ∀ k, k < w.heap.size → F k → k = bd) (hblk : Blk w' bd 58 (rcells d vN)) (hrow : OwnR fiv 3 w' fileT vN A') (hfr : ∀ k, own vN k → w.heap.size ≤ k)
    (hnm : A'.map Prod.fst = L') (hA' : ∀ a ∈ A', a ∈ A ∨ Bs w (fun k => S k ∧ k ≠ bd) a.2 a.1.b) (hrise : Rise L') (hfl : ∀ f ∈ L', f.last ≤ f.b.length) (hroom : sumB L' ≤ d.room) (hfew : L'.length ≤ 4096) :
    RdAt (Grow S w) w' bd vN A' { d with L := L' } := by
  have hlt := h.blk.lt
  refine ⟨.inl h.sd, hblk, hrow, fun k hk => ⟨.inr (hfr k hk), by have := hfr k hk; omega⟩, hnm, fun a ha => ?_, hrise, hfl, hroom, h.most, hfew, h.lf⟩
  have h1 : Bs w (fun k => S k ∧ k ≠ bd) a.2 a.1.b := by
    rcases hA' a ha with h1 | h1
    · exact (h.fb a h1).mono fun k _ hs => ⟨hs.1, hs.2.1⟩
    · exact h1
  have h2 : Bs w (fun k => (S k ∧ k ≠ bd) ∧ k < w.heap.size) a.2 a.1.b := h1.mono fun k hk hs => ⟨hs, hk⟩
  exact (h2.mod hm fun k hk hs hf => hs.1.2 (hF k hk hf)).mono fun k _ hs => ⟨.inl hs.1.1, hs.1.2, fun hv => by have := hfr k hv; have := hs.2; omega⟩
abbrev putA (A : List (Fi × Value)) (n : Nat) (a : Fi × Value) : List (Fi × Value) := [] ++ A.take n ++ [a] ++ A.drop n
theorem putA_len {A : List (Fi × Value)} {n : Nat} {a : Fi × Value} (hn : n ≤ A.length) : (putA A n a).length = A.length + 1 := by
  simp only [putA, List.length_append, List.length_cons, List.length_nil, List.length_take, List.length_drop]
  omega
theorem putA_mem {A : List (Fi × Value)} {n : Nat} {a b : Fi × Value} (h : b ∈ putA A n a) : b ∈ A ∨ b = a := by
  unfold putA at h
  rw [List.nil_append] at h
  rcases List.mem_append.1 h with h | h
  · rcases List.mem_append.1 h with h | h
    · exact .inl (List.mem_of_mem_take h)
    · exact .inr (List.mem_singleton.1 h)
  · exact .inl (List.mem_of_mem_drop h)
theorem putA_nm {A : List (Fi × Value)} {L : Fis} {f : Fi} {v : Value} (hr : Rise L) (hx : getF L f.name = none) (h : A.map Prod.fst = L) : (putA A (posF L f.name) (f, v)).map Prod.fst = putF L f := by
  rw [putF_ins hr hx]
  unfold putA
  rw [List.nil_append, List.map_append, List.map_append, List.map_take, List.map_drop, h]
  simp
theorem ren_fin {f : Fi} {u : Value} {w6 : World} {v3 : Value} (h : RdAt S w bd vL A d) (hx : getF d.L f.name = none) (hb : Bs w (fun k => S k ∧ k ≠ bd) u f.b) (hl : f.last ≤ f.b.length) (hroom : sumB d.L + f.b.length ≤ d.room) (hfew : d.L.length < 4096) (q : Ext w w6) (ho : OwnR fiv 3 w6 fileT v3 (putA A (posF d.L f.name) (f, u))) (hf : Fresh w.heap.size v3) :
    RdAt (Grow S w) (w6.setCell ⟨bd, 1, none⟩ v3) bd v3 (putA A (posF d.L f.name) (f, u)) { d with L := putF d.L f } ∧ Mod (fun k => k = bd) w (w6.setCell ⟨bd, 1, none⟩ v3) := by
  have hlt := h.blk.lt
  have s7 : Mod (fun k => k = bd) w6 (w6.setCell ⟨bd, 1, none⟩ v3) := setg_mod _ _ _ _
  have mm : Mod (fun k => k = bd) w (w6.setCell ⟨bd, 1, none⟩ v3) := (q.mono fun _ _ h => h.elim).then_ s7 fun _ _ h => h
  have hput := sumB_putF (f := f) h.rise
  rw [hx] at hput
  simp only [lenB, one] at hput
  exact ⟨h.renew2 mm (fun k _ e => e) ((h.mod q (fun _ _ _ h => h)).blk.set_ 1 _) (ho.mod s7 (fun k hk e => by have := hf k hk; omega)) (fun k hk => hf k hk) (putA_nm h.rise hx h.nm) (fun a ha => (putA_mem ha).imp id fun e => by rw [e]; exact hb) (rise_putF h.rise) (fun g hg => by
    rcases (mem_putF h.rise g).1 hg with rfl | ⟨h1, _⟩
    · exact hl
    · exact h.fl g h1) (by omega) (by omega), mm⟩
end
end Go.Proofs.YtblfhonfjljndaaDoor

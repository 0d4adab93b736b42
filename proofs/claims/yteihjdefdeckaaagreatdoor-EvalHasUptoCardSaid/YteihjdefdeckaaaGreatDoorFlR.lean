/- eval: the law EvalHas. -/
import Derived.Test.YteihjdefdeckaaaGreatDoorFlN
namespace Go.Proofs.YteihjdefdeckaaaGreatDoor
open Go.RowKit
set_option maxRecDepth 100000

theorem isN_leaf3 {T V : List UInt8} (h : isN 1 (.mk 3 T V [] []) = true) : isN 1 (.mk 7 T [] [] []) = true := by
  unfold isN at h ⊢
  rw [oneN_succ] at h ⊢
  unfold oneB at h ⊢
  simp [Fi.kind, Fi.typ, Fi.val, Fi.subs, Fi.kids] at h ⊢
  refine ⟨h.1.1, ?_⟩
  show 1 + (([] : List Fi).map (nodesN 0)).sum ≤ 64
  simp
theorem has_own {T V : List UInt8} {L : List Att} {a : Att} (ha : a ∈ L) (hT : a.typ = T) (hV : V ∈ a.vals) (hi : isN 1 (.mk 3 T V [] []) = true) :
    (topN 1 (.mk 3 T V [] []) L = 1 ∧ topN 1 (.mk 7 T [] [] []) L = 1) ∨ topN 1 (.mk 3 T V [] []) L = 2 := by
  have hm : V ∈ L.flatMap (selE (foldB T)) := List.mem_flatMap.2 ⟨a, ha, by unfold selE; rw [if_pos (by rw [hT])]; exact hV⟩
  unfold topN
  rw [if_pos hi, if_pos (isN_leaf3 hi)]
  rw [show evalN 1 (.mk 3 T V [] []) L = itemB 3 T V [] (L.flatMap (selE (foldB T))) by rw [evalN_succ]; exact if_pos rfl]
  rw [show evalN 1 (.mk 7 T [] [] []) L = itemB 7 T [] [] (L.flatMap (selE (foldB T))) by rw [evalN_succ]; exact if_pos rfl]
  unfold itemB
  by_cases hT2 : foldB T ∈ typesL
  · rw [if_pos hT2, if_pos hT2, if_neg (by omega), if_pos rfl]
    by_cases hk : asksB 3 V ([] : List (List UInt8)).length (synT (foldB T)) = true
    · rw [if_pos hk]
      have hq : fitsFB 3 V [] (synT (foldB T)) V = true := by
        unfold asksB at hk
        rw [if_pos rfl] at hk
        unfold fitsFB equalM
        rw [if_pos rfl, hk]; simp
      rw [if_pos (List.any_eq_true.2 ⟨V, hm, hq⟩), if_neg (fun h => by rw [h] at hm; cases hm)]
      exact .inl ⟨rfl, rfl⟩
    · rw [if_neg hk]; exact .inr rfl
  · rw [if_neg hT2]; exact .inr rfl
theorem FilN.leaf (w : World) {kd : Int} {T V : List UInt8} (hk : -9223372036854775808 ≤ kd ∧ kd ≤ 9223372036854775807) (hT : T.length ≤ 1000000) (hV : V.length ≤ 1000000) :
    FilN 1 w (.mk kd T V [] []) (.slice none 0 0) (.slice none 0 0) :=
  ⟨⟨hk, by simp only [Fi.typ]; omega, by simp only [Fi.val]; omega, by simp [Fi.subs], (fun s hs => (by cases hs)), by simp [Fi.kids]⟩, Sl.nil _ _, [], Rc.nil _ _ _ _, rfl, fun x hx => by cases hx⟩
set_option maxHeartbeats 16000000 in
theorem lhas_any {w : World} {vd va : Value} {E : Ent} (hd : As w AllE vd E.dn) (ha : Ats w va E.ats) (hw : wA E.ats ≤ 1048576) (hMx : Mxl w) :
    Calls Tryz.prog 7 #[.agg #[vd, va]] w fun e w' => e = .returned (.bool true) ∧ Ext w w' := by
  have hgr := fun {wx : World} (x : Ext w wx) => great17_any (E := E) (hd.ext x) (ha.ext x) (by omega)
  have hIs := fun {wx : World} (T V : List UInt8) (hT : T.length ≤ 2000) (hV : V.length ≤ 2000) => rIsF_any (FilN.leaf wx (kd := 3) (T := T) (V := V) (by omega) (by omega) (by omega)) (by have h : nodesN 1 (.mk 3 T V [] []) = 1 := rfl; omega)
  have hEf := fun {wx : World} (x : Ext w wx) (h2 : wA E.ats ≤ 2000) (T V : List UInt8) (hT : T.length ≤ 2000) (hV : V.length ≤ 2000) => EvalT_any (FilN.leaf wx (kd := 3) (T := T) (V := V) (by omega) (by omega) (by omega)) (hd.ext x) (ha.ext x) (by rw [wF_succ]; simp [Fi.typ, Fi.val, Fi.subs, Fi.kids, wV]; omega) (by omega) (hMx.ext x)
  have hEp := fun {wx : World} (x : Ext w wx) (h2 : wA E.ats ≤ 2000) (T : List UInt8) (hT : T.length ≤ 2000) => EvalT_any (FilN.leaf wx (kd := 7) (T := T) (V := []) (by omega) (by omega) (by simp)) (hd.ext x) (ha.ext x) (by rw [wF_succ]; simp [Fi.typ, Fi.val, Fi.subs, Fi.kids, wV]; omega) (by omega) (hMx.ext x)
  have hkn := fun wx : World => known17_any (w := wx)
  have hown := fun {T V : List UInt8} {a : Att} (h : a ∈ E.ats) => has_own (T := T) (V := V) h
  obtain ⟨D0, dn, dc, rfl⟩ : ∃ D0 dn dc, vd = .slice D0 dn dc := by obtain ⟨A, c, e⟩ := Rc.shape hd; exact ⟨A, _, c, e⟩
  obtain ⟨B0, bc, eb, -⟩ := ha.open_
  obtain ⟨L, hL⟩ : ∃ L, L = E.ats := ⟨_, rfl⟩
  rw [← hL] at eb ha hw
  simp only [← hL] at hgr hEf hEp hown
  have hge := wA_ge L
  have hmem := fun {a : Att} (h : a ∈ L) => wA_mem h
  obtain ⟨bn, hbn0⟩ : ∃ n, n = L.length := ⟨_, rfl⟩
  rw [← hbn0] at eb
  subst eb
  have hop := fun {wx : World} (x : Ext w wx) => (ha.ext x).open_
  obtain ⟨w1, hw1⟩ : ∃ x, x = w.alloc (.cells #[.slice D0 dn dc, .slice B0 bn bc] 29) := ⟨_, rfl⟩
  obtain ⟨p, hp⟩ : ∃ p, p = w.heap.size := ⟨_, rfl⟩
  have x1 : Ext w w1 := by rw [hw1]; exact (Mod.refl _ w).alloc _
  have BP : Blk w1 p 29 #[.slice D0 dn dc, .slice B0 bn bc] := by rw [hw1, hp]; exact Blk.new w _ _
  have hcc : ∀ {wx : World}, Ext w1 wx → wx.cell? ⟨p, 0, none⟩ = some (.slice D0 dn dc) ∧ wx.cell? ⟨p, 1, none⟩ = some (.slice B0 bn bc) := fun x => ⟨(BP.mod x (fun h => h)).cell 0, (BP.mod x (fun h => h)).cell 1⟩
  have hM : bn ≤ 1100000 := by omega
  obtain ⟨p0, p1⟩ := hcc (Mod.refl _ w1)
  replace hL := Lib.hid hL
  replace hbn0 := Lib.hid hbn0
  replace hw1 := Lib.hid hw1
  replace hp := Lib.hid hp
  clear BP ha hd
  go_enter Tryz.func7, Tryz.ntmps7
  go_upto_region 1 with fail
  rw [← hw1.out, ← hp.out]
  clear hw1 hp
  go_wp2_with fail
  by_cases hA : 2000 < wA L
  · have hgr2 := hgr x1
    rw [dtrue hA] at hgr2
    clear hIs hEf hEp hown
    refine hgr2.mono ?_
    rintro e w3 ⟨rfl, x3⟩
    go_wp2_with fail
    go_ret
    exact ⟨rfl, ext_trans x1 x3⟩
  have hgr2 := hgr x1
  rw [dfalse hA] at hgr2
  have hA2 : wA L ≤ 2000 := by omega
  refine hgr2.mono ?_
  rintro e w3 ⟨rfl, x3⟩
  clear p0 p1 hgr hgr2
  simp only [Fi.kind, Fi.typ, Fi.val] at hIs hEf hEp
  go_wp2_with fail
  go_loopw [3] (fun i wr => ∃ k : Nat, k ≤ bn ∧ i = .int .i64 k ∧ Ext w1 wr) (fun i _ => bn - (intOf i).toNat)
  case atStart => exact ⟨0, Nat.zero_le _, rfl, x3⟩
  case round =>
    clear x3
    obtain ⟨k, hk, rfl, hx⟩ := hrel
    obtain ⟨p0, p1⟩ := hcc hx
    by_cases hlt : k < bn
    case neg =>
      have hbl : decide ((k : Int) < (bn : Int)) = false := dfalse (by omega)
      have hbn : decide (k < bn) = false := dfalse (by omega)
      clear hIs hEf hEp hown
      go_wp2_with fail
      refine (hkn _).mono ?_
      rintro e w9 ⟨rfl, x9⟩
      go_wp2_with fail
      go_ret
      exact ⟨rfl, ext_trans x1 (ext_trans hx x9)⟩
    have hbl : decide ((k : Int) < (bn : Int)) = true := dtrue (by omega)
    have hbn : decide (k < bn) = true := dtrue (by omega)
    have hi0 : (0 : Int) ≤ (k : Int) := by omega
    have hi1 : (k : Int) < (bn : Int) := by omega
    have l1 : k < L.length := by have := hbn0.out; omega
    obtain ⟨A2, c2, e1, h5⟩ := hop (ext_trans x1 hx)
    rw [← hbn0.out] at e1
    injection e1 with e1 e2 e3
    clear e2
    subst e1
    subst e3
    obtain ⟨ad, y, e2, h6, h7, h8⟩ := h5 k l1
    subst e2
    have hwt := hmem (List.getElem_mem l1)
    have how := fun {V : List UInt8} => hown (V := V) (List.getElem_mem l1) rfl
    generalize L[k].typ = t at *
    generalize L[k].vals = V at *
    have hge2 := wV_ge V
    obtain ⟨Ay, cy, ey, -, -, -, -⟩ := h8.open_
    obtain ⟨M, hM2⟩ : ∃ N, N = V.length := ⟨_, rfl⟩
    rw [← hM2] at ey
    subst ey
    have hvx : ∀ {wx : World}, Ext wr wx → wx.cell? (ad.add (k * 2)) = some (sv t) ∧ wx.cell? ⟨(ad.add (k * 2)).block, (ad.add (k * 2)).off + 1, none⟩ = some (.slice Ay M cy) := fun x => ⟨ext_cell x h6, ext_cell x h7⟩
    have hM4 : M ≤ 2000 := by omega
    have ht2 : t.length ≤ 2000 := by omega
    have hV2 : ∀ x ∈ V, x.length ≤ 2000 := fun x hx => by have := wV_mem hx; omega
    have iS := fun {wx : World} (V : List UInt8) (hV : V.length ≤ 2000) => hIs (wx := wx) t V ht2 hV
    have iF := fun {wx : World} (x : Ext w wx) (V : List UInt8) (hV : V.length ≤ 2000) => hEf x hA2 t V ht2 hV
    have iP := fun {wx : World} (x : Ext w wx) => hEp x hA2 t ht2
    replace hM2 := Lib.hid hM2
    have hzt := sv_size t
    clear h5 hIs hEf hEp hown hge2 hwt hmem hge hw
    go_wp2_with fail
    go_loopw [4] (fun i wr' => ∃ j : Nat, j ≤ M ∧ i = .int .i64 j ∧ Ext wr wr') (fun i _ => M - (intOf i).toNat)
    case atStart => exact ⟨0, Nat.zero_le _, rfl, Mod.refl _ _⟩
    case round =>
      obtain ⟨j, hj, rfl, hx2⟩ := hrel
      clear p0 p1
      obtain ⟨p0, p1⟩ := hcc (ext_trans hx hx2)
      obtain ⟨v1, v2⟩ := hvx hx2
      by_cases hjt : j < M
      case neg =>
        have hjl : decide ((j : Int) < (M : Int)) = false := dfalse (by omega)
        have hjn : decide (j < M) = false := dfalse (by omega)
        have x10 := ext_trans hx hx2
        clear iS iF iP how
        go_wp2_with fail
        exact ⟨⟨k + 1, by omega, by go_num, x10⟩, by simp [intOf] <;> omega⟩
      have hjl : decide ((j : Int) < (M : Int)) = true := dtrue (by omega)
      have hjn : decide (j < M) = true := dtrue (by omega)
      have hj0 : (0 : Int) ≤ (j : Int) := by omega
      have hj1 : (j : Int) < (M : Int) := by omega
      have hjv : j < V.length := by have := hM2.out; omega
      obtain ⟨A9, c9, e9, _, _, _, h5⟩ := (Sl.ext h8 hx2).open_
      rw [← hM2.out] at e9
      injection e9 with e1 e2 e3
      clear e2
      subst e1
      subst e3
      obtain ⟨ag, e2, _, h9⟩ := h5.at_ hjv
      subst e2
      have hvl := hV2 _ (List.getElem_mem hjv)
      have hw0 := how (List.getElem_mem hjv)
      generalize V[j] = v at *
      have jS := fun {wx : World} => iS (wx := wx) v hvl
      have jF := fun {wx : World} (x : Ext w wx) => iF x v hvl
      have hzv := sv_size v
      clear h5 hjv iS iF how
      have jtop : (topN 1 (.mk 3 t v [] []) L = 1 ∧ topN 1 (.mk 7 t [] [] []) L = 1) ∨ topN 1 (.mk 3 t v [] []) L = 2 ∨ isN 1 (.mk 3 t v [] []) = false := by
        by_cases h : isN 1 (.mk 3 t v [] []) = true
        · rcases hw0 h with h | h
          · exact .inl h
          · exact .inr (.inl h)
        · exact .inr (.inr (by simpa using h))
      clear hw0
      generalize isN 1 (.mk 3 t v [] []) = b at *
      generalize topN 1 (.mk 3 t v [] []) L = r at *
      generalize topN 1 (.mk 7 t [] [] []) L = q at *
      go_upto_region 9 with fail
      have z0 := World.new_ne wr _ p1
      have z1 := World.new_ne wr _ v1
      have z2 := World.new_ne wr _ v2
      have z3 := World.new_ne wr _ h9
      go_region_held3 (fun wx => wx.cell? ⟨p, 1, none⟩ = some (.slice (some ad) bn bc) ∧ wx.cell? (ad.add (k * 2)) = some (sv t) ∧ wx.cell? ⟨(ad.add (k * 2)).block, (ad.add (k * 2)).off + 1, none⟩ = some (.slice (some ag) M cy) ∧ wx.cell? (ag.add j) = some (sv v)) (first | go_keep) (fail)
      rename_i hHeld
      clear hHeld z0 z1 z2 z3
      obtain ⟨wb, hwb⟩ : ∃ wb, wb = (wr.alloc (.cells #[.int .i64 3, sv t, sv v, .slice none 0 0, .slice none 0 0] 25)).drew := ⟨_, rfl⟩
      have xb : Ext wr wb := by rw [hwb]; exact ((Mod.refl _ wr).alloc _).drew
      have BF : Blk wb wr.heap.size 25 #[.int .i64 3, sv t, sv v, .slice none 0 0, .slice none 0 0] := by rw [hwb]; exact (Blk.new wr _ _).mod (F := fun _ => False) ((Mod.refl _ _).drew) (fun h => h)
      rw [show (wr.alloc (.cells #[.int .i64 3, .string ⟨t.toArray⟩, .string ⟨v.toArray⟩, .slice none 0 0, .slice none 0 0] 25)).drew = wb from hwb.symm]
      obtain ⟨gb, hgb⟩ : ∃ gb, gb = wr.heap.size := ⟨_, rfl⟩
      rw [← hgb] at BF ⊢
      clear hwb hgb p0 p1 v1 v2 h9
      have hx3 := ext_trans hx2 xb
      obtain ⟨p0, p1⟩ := hcc (ext_trans hx hx3)
      obtain ⟨v1, v2⟩ := hvx hx3
      clear p0 v2
      go_upto_region 11 with fail
      obtain ⟨wc, hwc⟩ : ∃ wc, wc = wb.alloc (.cells #[.int .i64 7, sv t, sv [], .slice none 0 0, .slice none 0 0] 25) := ⟨_, rfl⟩
      have xc : Ext wb wc := by rw [hwc]; exact (Mod.refl _ wb).alloc _
      have BP : Blk wc wb.heap.size 25 #[.int .i64 7, sv t, sv [], .slice none 0 0, .slice none 0 0] := by rw [hwc]; exact Blk.new wb _ _
      rw [show wb.alloc (.cells #[.int .i64 7, sv t, .string ⟨#[]⟩, .slice none 0 0, .slice none 0 0] 25) = wc from hwc.symm]
      obtain ⟨gc, hgc⟩ : ∃ gc, gc = wb.heap.size := ⟨_, rfl⟩
      rw [← hgc] at BP ⊢
      clear hwc hgc p1 v1
      have hx4 := ext_trans hx3 xc
      have hall : ∀ {wx : World}, Ext wc wx → (wx.cell? ⟨gb, 0, none⟩ = some (.int .i64 3) ∧ wx.cell? ⟨gb, 1, none⟩ = some (sv t) ∧ wx.cell? ⟨gb, 2, none⟩ = some (sv v) ∧ wx.cell? ⟨gb, 3, none⟩ = some (.slice none 0 0) ∧ wx.cell? ⟨gb, 4, none⟩ = some (.slice none 0 0)) ∧ (wx.cell? ⟨gc, 0, none⟩ = some (.int .i64 7) ∧ wx.cell? ⟨gc, 1, none⟩ = some (sv t) ∧ wx.cell? ⟨gc, 2, none⟩ = some (sv []) ∧ wx.cell? ⟨gc, 3, none⟩ = some (.slice none 0 0) ∧ wx.cell? ⟨gc, 4, none⟩ = some (.slice none 0 0)) ∧ wx.cell? ⟨p, 0, none⟩ = some (.slice D0 dn dc) ∧ wx.cell? ⟨p, 1, none⟩ = some (.slice (some ad) bn bc) := fun x => have B := BF.mod (ext_trans xc x) (fun h => h); have C := BP.mod x (fun h => h); ⟨⟨B.cell 0, B.cell 1, B.cell 2, B.cell 3, B.cell 4⟩, ⟨C.cell 0, C.cell 1, C.cell 2, C.cell 3, C.cell 4⟩, hcc (ext_trans hx (ext_trans hx4 x))⟩
      clear BF BP xb xc hx2 hx3
      obtain ⟨⟨f0, f1, f2, f3, f4⟩, ⟨q0, q1, q2, q3, q4⟩, p0, p1⟩ := hall (Mod.refl _ wc)
      have hX := ext_trans hx hx4
      go_wp2_with fail
      refine jS.mono ?_
      rintro e w5 ⟨rfl, x5⟩
      clear f0 f1 f2 f3 f4 q0 q1 q2 q3 q4 p0 p1
      obtain ⟨⟨f0, f1, f2, f3, f4⟩, ⟨q0, q1, q2, q3, q4⟩, p0, p1⟩ := hall x5
      cases b with
      | false =>
        clear jS jF iP jtop
        go_wp2_with fail
        exact ⟨⟨j + 1, by omega, by go_num, ext_trans hx4 x5⟩, by simp [intOf] <;> omega⟩
      | true =>
        clear jS
        have hX1 := ext_trans x1 hX
        go_wp2_with fail
        rcases jtop with ⟨rfl, rfl⟩ | rfl | h
        · refine (jF (ext_trans hX1 x5)).mono ?_
          rintro e w6 ⟨rfl, x6⟩
          have z6 := ext_trans x5 x6
          clear f0 f1 f2 f3 f4 q0 q1 q2 q3 q4 p0 p1
          obtain ⟨⟨f0, f1, f2, f3, f4⟩, ⟨q0, q1, q2, q3, q4⟩, p0, p1⟩ := hall z6
          go_wp2_with fail
          refine (jF (ext_trans hX1 z6)).mono ?_
          rintro e w7 ⟨rfl, x7⟩
          have z7 := ext_trans z6 x7
          clear f0 f1 f2 f3 f4 q0 q1 q2 q3 q4 p0 p1
          obtain ⟨⟨f0, f1, f2, f3, f4⟩, ⟨q0, q1, q2, q3, q4⟩, p0, p1⟩ := hall z7
          go_wp2_with fail
          refine (iP (ext_trans hX1 z7)).mono ?_
          rintro e w8 ⟨rfl, x8⟩
          clear jF iP
          go_wp2_with fail
          exact ⟨⟨j + 1, by omega, by go_num, ext_trans hx4 (ext_trans z7 x8)⟩, by simp [intOf] <;> omega⟩
        · refine (jF (ext_trans hX1 x5)).mono ?_
          rintro e w6 ⟨rfl, x6⟩
          have z6 := ext_trans x5 x6
          clear f0 f1 f2 f3 f4 q0 q1 q2 q3 q4 p0 p1
          obtain ⟨⟨f0, f1, f2, f3, f4⟩, ⟨q0, q1, q2, q3, q4⟩, p0, p1⟩ := hall z6
          go_wp2_with fail
          refine (jF (ext_trans hX1 z6)).mono ?_
          rintro e w7 ⟨rfl, x7⟩
          clear jF iP
          go_wp2_with fail
          exact ⟨⟨j + 1, by omega, by go_num, ext_trans hx4 (ext_trans z6 x7)⟩, by simp [intOf] <;> omega⟩
        · cases h
end Go.Proofs.YteihjdefdeckaaaGreatDoor

/- table: Scan, walked. -/
import Derived.Test.YthohghnfiicndaaDoorTabQ
namespace Go.Proofs.YthohghnfiicndaaDoor
open Go.RowKit Go.Maps Go.WideMaps
set_option maxRecDepth 100000

theorem scan_len (L : List Ce) (a b : List UInt8) : (scanC L a b).length ≤ L.length := List.length_filter_le ..
theorem sofar_len {L : List Ce} {PS : List (List Ce)} (h : Pcs L PS) {m j i : Nat} (hj : m + j < PS.length) (hi : i < (PS.getD (m + j) []).length) : (sofar PS m j i).length < L.length := by
  obtain ⟨B, e⟩ := h.rest hj hi
  have := congrArg List.length e
  rw [List.length_append, List.length_append, List.length_cons] at this
  omega
theorem scan_nil {w : World} {a b : List UInt8} : Calls Tryd.prog 19 #[.pointer none, sv a, sv b] w fun e w' => e = .returned (.slice none 0 0) ∧ Ext w w' := by
  have x0 : Ext w ((w.alloc (.cells #[.pointer none] 31)).alloc (.cells #[sv a] 9)) := ((Mod.refl _ w).alloc _).alloc _
  have B0 : Blk ((w.alloc (.cells #[.pointer none] 31)).alloc (.cells #[sv a] 9)) w.heap.size 31 #[.pointer none] := (Blk.new w _ _).alloc _
  have c0 : ((w.alloc (.cells #[.pointer none] 31)).alloc (.cells #[sv a] 9)).cell? ⟨w.heap.size, 0, none⟩ = some (.pointer none) := B0.cell 0
  go_enter Tryd.func19, Tryd.ntmps19
  go_wp2_with fail
  go_ret
  exact ⟨rfl, x0⟩

set_option maxHeartbeats 16000000 in
theorem scan_any {S : Nat → Prop} {w : World} {u : Value} {L : List Ce} {a b : List UInt8} (h : TL S w u L) (hb : buildN L = 0) :
    Calls Tryd.prog 19 #[u, sv a, sv b] w fun e w' => ∃ v', e = .returned v' ∧ OwnC w' v' (scanC L a b) ∧ Fresh w.heap.size v' ∧ Ext w w' := by
  obtain ⟨hne, h4096, hri⟩ := build_rise hb
  have hP := pcs_of hri
  have hso := sorted_of (riseN_zero hri).2
  have hsl := split_len L
  have hpl0 : ∀ p ∈ splitB L, p.length ≤ L.length := fun p hp => by
    obtain ⟨X, Y, e⟩ := split_mem hp
    have := congrArg List.length e
    rw [List.length_append, List.length_append] at this
    omega
  have hkm := Lib.hid (fun x y => @Pcs.kmono L (splitB L) hP a x y)
  have hEnd := Lib.hid (fun m j (h1 : m ≤ (splitB L).length) (h2 : m + j = (splitB L).length) h3 => scan_end (a := a) (b := b) hP h1 h2 (hP.klow h1 h3))
  have hStop := Lib.hid (fun m j i (h0 : m ≤ (splitB L).length) h1 h2 h3 (h4 : b ≠ []) h5 => scan_stop (a := a) (b := b) (m := m) (j := j) (i := i) hP hso h1 h2 (hP.klow h0 h3) h4 h5)
  have hSl := Lib.hid (fun m j i h1 h2 => @sofar_len L (splitB L) hP m j i h1 h2)
  obtain ⟨g, bm, A, c, vf, G, rfl, H⟩ := h.open_ hne
  obtain ⟨R, hR⟩ : ∃ R, R = scanC L a b := ⟨_, rfl⟩
  rw [← hR]
  rw [← hR] at hEnd hStop
  generalize splitB L = PS at *
  obtain ⟨w0, hw0⟩ : ∃ w0, w0 = (w.alloc (.cells #[.pointer (some ⟨g, 0, none⟩)] 31)).alloc (.cells #[sv a] 9) := ⟨_, rfl⟩
  obtain ⟨bt, hbt⟩ : ∃ bt, bt = w.heap.size := ⟨_, rfl⟩
  have BT : Blk w0 bt 31 #[.pointer (some ⟨g, 0, none⟩)] := by rw [hw0, hbt]; exact (Blk.new w _ _).alloc _
  have BF : Blk w0 (bt + 1) 9 #[sv a] := by
    rw [hw0, hbt]
    have := Blk.new (w.alloc (.cells #[.pointer (some ⟨g, 0, none⟩)] 31)) 9 #[sv a]
    rw [show (w.alloc (.cells #[.pointer (some ⟨g, 0, none⟩)] 31)).heap.size = w.heap.size + 1 by simp] at this
    exact this
  have x0 : Ext w w0 := by rw [hw0]; exact ((Mod.refl _ w).alloc _).alloc _
  have c00 : w0.cell? ⟨bt, 0, none⟩ = some (.pointer (some ⟨g, 0, none⟩)) := BT.cell 0
  have g00 : w0.cell? ⟨g, 0, none⟩ = some (.slice (some A) PS.length c) := (H w0 x0).blk.cell 0
  have hcl := (H w0 x0).len
  have hs1 := search_any (w := w0) 55 #[.pointer (some ⟨bt, 0, none⟩), .pointer (some ⟨bt + 1, 0, none⟩)] PS.length (fun t => !Op.bytesLess (lastC (PS.getD t [])).key a) (by omega) (enters_of Tryd.func55 (by kernel_rfl) rfl)
    (fun wx hx i hi => sclo_any (fun wy hy => H wy (ext_trans x0 (ext_trans hx hy))) (BT.mod hx (fun h => h)) (BF.mod hx (fun h => h)) hi (by omega)) hkm.out
  replace hw0 := Lib.hid hw0
  replace hbt := Lib.hid hbt
  clear hP hso h hri hb hR
  go_enter Tryd.func19, Tryd.ntmps19
  go_upto_region 1 with fail
  rw [← hw0.out, ← hbt.out]
  go_wp2_with fail
  refine hs1.mono ?_
  rintro e w3 ⟨m, rfl, hm1, hm2, hm3, x3⟩
  have y3 := ext_trans x0 x3
  have BT3 := BT.mod x3 (fun h => h)
  have BF3 := BF.mod x3 (fun h => h)
  have hlo : ∀ t, t < m → Op.bytesLess (lastC (PS.getD t [])).key a = true := fun t ht => by
    have := hm2 t ht
    cases hq : Op.bytesLess (lastC (PS.getD t [])).key a
    · rw [hq] at this; cases this
    · rfl
  replace hlo := Lib.hid hlo
  have c30 : w3.cell? ⟨bt, 0, none⟩ = some (.pointer (some ⟨g, 0, none⟩)) := BT3.cell 0
  have g30 : w3.cell? ⟨g, 0, none⟩ = some (.slice (some A) PS.length c) := (H w3 y3).blk.cell 0
  obtain ⟨n, hn⟩ : ∃ n, m + n = PS.length := ⟨PS.length - m, by omega⟩
  have hEn : ∀ j, j < n → ∀ wx, Ext w3 wx → wx.cell? (A.add ((m + j) * 2)) = some (sv (endE (PS.getD (m + j) [])).key) ∧ wx.cell? ⟨(A.add ((m + j) * 2)).block, (A.add ((m + j) * 2)).off + 1, none⟩ = some (.int .i64 (endE (PS.getD (m + j) [])).seq) := fun j hj wx hx => by
    rw [getD_at PS [] (by omega)]
    exact (H wx (ext_trans y3 hx)).at_ (by omega)
  have hm0 : (0 : Int) ≤ (m : Int) := by omega
  have hmP : (m : Int) ≤ (PS.length : Int) := by omega
  have hPc : (PS.length : Int) ≤ (c : Int) := by omega
  clear hs1 c00 g00 BT BF hm2 hm3 hkm
  go_upto_region 5 with fail
  go_cut [2, 3, 4, 7, 27, 28, 29] (fun s2 s3 s4 s7 s27 s28 s29 wx => s2 = sv b ∧ s3 = .pointer (some ⟨bt, 0, none⟩) ∧ s4 = .pointer (some ⟨bt + 1, 0, none⟩) ∧ s7 = .slice none 0 0 ∧ s28 = .int .i64 (n : Int) ∧ s29 = .int .i64 0 ∧ wx = w3 ∧ ∃ A2 c2, s27 = .slice (some A2) n c2 ∧ Hid (∀ j, j < n → A2.add (j * 2) = A.add ((m + j) * 2)))
  case first =>
    by_cases hcm : c = m
    · obtain rfl : n = 0 := by omega
      obtain rfl : m = PS.length := by omega
      subst hcm
      go_wp2_with fail
      go_meet
      exact ⟨rfl, rfl, rfl, rfl, rfl, rfl, rfl, _, _, rfl, Lib.hid (fun j hj => absurd hj (Nat.not_lt_zero _))⟩
    · have hcm2 : PS.length - m = n := by omega
      go_wp2_with fail
      go_meet
      refine ⟨rfl, rfl, rfl, rfl, rfl, rfl, rfl, A.add (m * 2), c - m, rfl, Lib.hid (fun j hj => ?_)⟩
      rw [add_of_add]
      congr 1; omega
  case rest =>
    obtain ⟨rfl, rfl, rfl, rfl, rfl, rfl, rfl, A2, c2, rfl, hA2⟩ := hcut
    clear c30 g30 hm0 hmP hPc hcl hbt hw0
    go_wp2_with fail
    go_loopw [7, 29] (fun u i wr => ∃ j : Nat, j ≤ n ∧ i = .int .i64 j ∧ OwnC wr u (scanC (sofar PS m j 0) a b) ∧ Fresh wc.heap.size u ∧ Ext wc wr) (fun _ i _ => n - (intOf i).toNat)
    case atStart => exact ⟨0, Nat.zero_le _, rfl, by rw [sofar_zero]; exact OwnR.nil cel 4 _ _, fresh_nil _ _ _, Mod.refl _ _⟩
    case round =>
      obtain ⟨j, hj, rfl, o1, f1, x1⟩ := hrel
      by_cases hjn : j < n
      case neg =>
        have hbl : decide ((j : Int) < (n : Int)) = false := dfalse (by omega)
        have hRe := hEnd.out m j (by omega) (by omega) hlo.out
        rw [← hRe] at o1
        clear hEnd hStop hEn
        go_wp2_with fail
        go_ret
        exact ⟨_, rfl, o1, f1.mono y3.size, ext_trans y3 x1⟩
      have hbl : decide ((j : Int) < (n : Int)) = true := dtrue (by omega)
      have hmj : m + j < PS.length := by omega
      obtain ⟨e0, e1⟩ := hEn j hjn _ x1
      rw [← hA2.out j hjn] at e0 e1
      have hlk := fun {wx : World} (hx : Ext wc wx) => (H wx (ext_trans y3 hx)).look _ (List.getElem_mem hmj)
      rw [← getD_at PS [] hmj] at hlk
      have hbm := fun {wx : World} (hx : Ext wc wx) => (H wx (ext_trans y3 hx)).blk
      have hpl : (PS.getD (m + j) []).length ≤ 4096 := by rw [getD_at PS [] hmj]; exact Nat.le_trans (hpl0 _ (List.getElem_mem hmj)) h4096
      have hSt := fun i hi => hStop.out m j i (by omega) hmj hi hlo.out
      have hS2 := fun i hi => hSl.out m j i hmj hi
      have hnxt := sofar_next hmj
      have hcel := fun i hi => @sofar_cell PS m j i hi
      generalize PS.getD (m + j) [] = q at *
      have hq1 : ∃ ek es, endE q = ⟨ek, es⟩ := ⟨_, _, rfl⟩
      obtain ⟨ek, es, hen⟩ := hq1
      rw [hen] at e0 e1 hlk
      have hlk1 := fun {wx : World} (hx : Ext wc wx) => (hlk hx).1
      have hcs1 := fun {wx : World} (hx : Ext wc wx) => (hlk hx).2
      clear hlk hen
      generalize G q = xv at *
      obtain ⟨Ax, cx, rfl⟩ := (hcs1 (Mod.refl (fun _ => False) wc)).shape
      obtain ⟨wb, hwb⟩ : ∃ wb, wb = wr.alloc (.cells #[sv ek, .int .i64 es] 85) := ⟨_, rfl⟩
      have xb : Ext wr wb := by rw [hwb]; exact (Mod.refl _ wr).alloc _
      have B0 : Blk wb wr.heap.size 85 #[sv ek, .int .i64 es] := by rw [hwb]; exact Blk.new wr _ _
      have qb : Ext wc wb.drew := (ext_trans x1 xb).drew
      have qq : wb.drew.cell? ⟨bt, 0, none⟩ = some (.pointer (some ⟨g, 0, none⟩)) ∧ wb.drew.cell? ⟨g, 1, none⟩ = some (.map (some bm)) ∧ wb.drew.cell? ⟨wr.heap.size, 0, none⟩ = some (sv ek) ∧ wb.drew.cell? ⟨wr.heap.size, 1, none⟩ = some (.int .i64 es) ∧
        (Instr.lookup 69 (.map (some bm)) (.agg #[sv ek, .int .i64 es]) false).run Tryd.prog wb.drew = .ok (.slice Ax q.length cx) wb.drew := ⟨(BT3.mod qb (fun h => h)).cell 0, (hbm qb).cell 1, B0.cell 0, B0.cell 1, hlk1 qb⟩
      have hcd := hcs1 (Mod.refl (fun _ => False) wc)
      have ob : OwnC wb u7 (scanC (sofar PS m j 0) a b) := o1.ext xb
      have od : OwnC wb.drew u7 (scanC (sofar PS m j 0) a b) := ob
      have hi0 : (0 : Int) ≤ (j : Int) := by omega
      have hi1 : (j : Int) < (n : Int) := by omega
      replace hwb := Lib.hid hwb
      replace hnxt := Lib.hid hnxt
      replace hSt := Lib.hid hSt
      replace hS2 := Lib.hid hS2
      replace hcel := Lib.hid hcel
      clear hcs1 hlk1 hbm o1 ob
      go_upto_region 8 with fail
      rw [← hwb.out]
      clear e0 e1
      go_region_held3 (fun wx => wx.cell? ⟨bt, 0, none⟩ = some (.pointer (some ⟨g, 0, none⟩)) ∧ wx.cell? ⟨g, 1, none⟩ = some (.map (some bm)) ∧ wx.cell? ⟨wr.heap.size, 0, none⟩ = some (sv ek) ∧ wx.cell? ⟨wr.heap.size, 1, none⟩ = some (.int .i64 es) ∧
        (Instr.lookup 69 (.map (some bm)) (.agg #[sv ek, .int .i64 es]) false).run Tryd.prog wx = .ok (.slice Ax q.length cx) wx) (exact qq) (fail)
      rename_i hHH
      clear hHH qq B0
      obtain ⟨A', c', hv, _, _, _, h4⟩ := hcd.open_ cel_len
      injection hv with v1 v2 v3
      subst v1; subst v3
      clear hcd v2 xb
      generalize wb.drew = wd at *
      go_wp2_with fail
      go_loopw [7, 40] (fun u i wx => ∃ k : Nat, k ≤ q.length ∧ i = .int .i64 k ∧ OwnC wx u (scanC (sofar PS m j k) a b) ∧ Fresh wc.heap.size u ∧ Ext wc wx) (fun _ i _ => q.length - (intOf i).toNat)
      case atStart => exact ⟨0, Nat.zero_le _, rfl, od, f1, qb⟩
      case round =>
        clear od f1
        obtain ⟨k, hk, rfl, o2, f2, x2⟩ := hrel
        have y2 := ext_trans y3 x2
        by_cases hkq : k < q.length
        case neg =>
          have hbl2 : decide ((k : Int) < (q.length : Int)) = false := dfalse (by omega)
          obtain rfl : k = q.length := by omega
          rw [← hnxt.out] at o2
          go_wp2_with fail
          exact ⟨⟨j + 1, by omega, by go_num, o2, f2, x2⟩, by simp [intOf] <;> omega⟩
        have hbl2 : decide ((k : Int) < (q.length : Int)) = true := dtrue (by omega)
        obtain ⟨ad, hA, -, d0, d1, d2, d3⟩ := Cs.at_ (h4.ext x2) hkq
        subst hA
        have hnx := congrArg (fun z => scanC z a b) (hcel.out k hkq)
        have hsm := hS2.out k hkq
        have hst := hSt.out k hkq
        have hsl2 := scan_len (sofar PS m j k) a b
        simp only [scan_app, scan_one] at hnx
        generalize hY' : scanC (sofar PS m j (k + 1)) a b = Y' at *
        generalize scanC (sofar PS m j k) a b = Y at *
        have hj0 : (0 : Int) ≤ (k : Int) := by omega
        have hj1 : (k : Int) < (q.length : Int) := by omega
        have hn1 : (Y.length + 1) * 48 ≤ 140737488355328 := by omega
        replace hn1 := Lib.hid hn1
        generalize q[k] = x at *
        have hbe : (b == []) = b.isEmpty := by cases b <;> rfl
        rw [hbe] at hnx
        obtain ⟨w5, hw5⟩ : ∃ w5, w5 = wr.alloc (.cells (car x) 37) := ⟨_, rfl⟩
        have x5 : Ext wr w5 := by rw [hw5]; exact (Mod.refl _ wr).alloc _
        have BX : Blk w5 wr.heap.size 37 (car x) := by rw [hw5]; exact Blk.new wr _ _
        have y5 := ext_trans y2 x5
        have o5 := OwnR.ext o2 x5
        have k0 : w5.cell? ⟨wr.heap.size, 0, none⟩ = some (sv x.key) := BX.cell 0
        have k1 : w5.cell? ⟨wr.heap.size, 1, none⟩ = some (sv x.val) := BX.cell 1
        have k2 : w5.cell? ⟨wr.heap.size, 2, none⟩ = some (.bool x.del) := BX.cell 2
        have k3 : w5.cell? ⟨wr.heap.size, 3, none⟩ = some (.int .i64 x.seq) := BX.cell 3
        have b5 : w5.cell? ⟨bt + 1, 0, none⟩ = some (sv a) := (BF3.mod (ext_trans x2 x5) (fun h => h)).cell 0
        replace hw5 := Lib.hid hw5
        clear hbe BX hcel hS2 hSt hnxt hEn hEnd hStop hSl h4 o2 hsl2 hsm
        go_upto_region 11 with fail
        rw [← hw5.out]
        clear d0 d1 d2 d3
        cases hb2 : b.isEmpty
        case true =>
          rw [hb2, Bool.true_or, Bool.and_true] at hnx
          cases hb1 : Op.bytesLess x.key a
          case true =>
            have hY2 := Lib.hid (hY'.trans (hnx.trans (show _ = Y by rw [hb1]; simp)))
            clear hnx hY' hst
            go_wp2_with fail
            exact ⟨⟨k + 1, by omega, by go_num, by rw [hY2.out]; exact o5, f2, ext_trans x2 x5⟩, by simp [intOf] <;> omega⟩
          case false =>
            have hY2 := Lib.hid (hY'.trans (hnx.trans (show _ = Y ++ [x] by rw [hb1]; simp)))
            clear hnx hY' hst
            go_wp2_with ((with_reducible show wpList _ _ _ (⟨some 60, _, _, _, _, _⟩ :: _) _ _); refine wp_appR tyC cel_len (x := x) o5 rfl (cel_ok _) hn1.out rfl _ _ rfl rfl rfl ?_; intro v6 w6 o6 m6 n6)
            exact ⟨⟨k + 1, by omega, by go_num, by rw [hY2.out]; exact o6, n6.fresh f2 (ext_trans x2 x5).size, ext_app0 (ext_trans x2 x5) f2 m6⟩, by simp [intOf] <;> omega⟩
        case false =>
          rw [hb2, Bool.false_or] at hnx
          cases hb3 : Op.bytesLess x.key b
          case false =>
            have hR2 := Lib.hid (hst (by intro e; rw [e] at hb2; cases hb2) hb3)
            clear hnx hY' hst
            go_wp2_with fail
            go_ret
            exact ⟨_, rfl, by rw [hR2.out]; exact o5, f2.mono y3.size, y5⟩
          case true =>
            rw [hb3, Bool.and_true] at hnx
            cases hb1 : Op.bytesLess x.key a
            case true =>
              have hY2 := Lib.hid (hY'.trans (hnx.trans (show _ = Y by rw [hb1]; simp)))
              clear hnx hY' hst
              go_wp2_with fail
              exact ⟨⟨k + 1, by omega, by go_num, by rw [hY2.out]; exact o5, f2, ext_trans x2 x5⟩, by simp [intOf] <;> omega⟩
            case false =>
              have hY2 := Lib.hid (hY'.trans (hnx.trans (show _ = Y ++ [x] by rw [hb1]; simp)))
              clear hnx hY' hst
              go_wp2_with ((with_reducible show wpList _ _ _ (⟨some 60, _, _, _, _, _⟩ :: _) _ _); refine wp_appR tyC cel_len (x := x) o5 rfl (cel_ok _) hn1.out rfl _ _ rfl rfl rfl ?_; intro v6 w6 o6 m6 n6)
              exact ⟨⟨k + 1, by omega, by go_num, by rw [hY2.out]; exact o6, n6.fresh f2 (ext_trans x2 x5).size, ext_app0 (ext_trans x2 x5) f2 m6⟩, by simp [intOf] <;> omega⟩
end Go.Proofs.YthohghnfiicndaaDoor

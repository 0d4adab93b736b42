/- entry: the document's Encode. -/
import Derived.Test.YtlaaicdofompkaaEntE
namespace Go.Proofs.Ytlaaicdofompkaa
open Go.RowKit
set_option maxRecDepth 100000

set_option maxHeartbeats 32000000 in
theorem reenc_any {w : World} {S : Nat → Prop} {vd va : Value} {e : Ent} (hd : As w S vd e.dn) (ha : Ats w va e.ats) (hw : wE e ≤ 1000000) :
    Calls Try.prog 8 #[.agg #[vd, va]] w fun e' w' => e' = .returned (.tuple #[sv (bytesE e), .int .i64 (codeE e : Nat)]) ∧ Ext w w' := by
  have hwd : wD e.dn ≤ 1000000 := by unfold wE at hw; omega
  have hwa : wA e.ats ≤ 1000000 := by unfold wE at hw; omega
  have hge := wA_ge e.ats
  have hgd := wD_ge e.dn
  have hdl := avs_len e.dn (by omega)
  have hal := ats_len e.ats (by omega)
  obtain ⟨A, c, rfl, hat⟩ := ha.open_
  obtain ⟨A0, c0, rfl, -, -, -, hd4⟩ := hd.open_ avc_len
  obtain ⟨BE, hBE⟩ : ∃ b, b = bytesE e := ⟨_, rfl⟩
  obtain ⟨NE, hNE⟩ : ∃ b, b = codeE e := ⟨_, rfl⟩
  rw [← hBE, ← hNE]
  have B0 : Blk (w.alloc (.cells #[.slice A0 e.dn.length c0, .slice A e.ats.length c] 25)) w.heap.size 25 #[.slice A0 e.dn.length c0, .slice A e.ats.length c] := Blk.new w _ _
  have x0 : Ext w (w.alloc (.cells #[.slice A0 e.dn.length c0, .slice A e.ats.length c] 25)) := (Mod.refl _ w).alloc _
  have hc1 := reis_any (hd.ext x0) (ha.ext x0) (by omega)
  clear hd ha
  by_cases hn : isE e
  case neg =>
    rw [decide_eq_false hn] at hc1
    have hR2 := Lib.hid (show BE = [] ∧ NE = 1 from ⟨hBE.trans (if_neg hn), hNE.trans (if_neg hn)⟩)
    clear hBE hNE hn
    go_enter Try.func8, Try.ntmps8
    go_wp2_with fail
    refine hc1.mono ?_
    rintro e' w1 ⟨rfl, x1⟩
    go_wp2_with fail
    go_ret2
    exact ⟨by rw [hR2.out.1, hR2.out.2]; rfl, ext_trans x0 x1⟩
  rw [decide_eq_true hn] at hc1
  have hBE2 : BE = encE e := hBE.trans (if_pos hn)
  have hNE2 := Lib.hid (show NE = 0 from hNE.trans (if_pos hn))
  have hBd : BE = enc7 e.dn.length ++ e.dn.flatMap avE ++ enc7 e.ats.length ++ e.ats.flatMap atE := by rw [hBE2]; unfold encE; simp only [List.append_assoc]
  have en1 := enc7_ten (n := e.dn.length) (by omega)
  have en2 := enc7_ten (n := e.ats.length) (by omega)
  have hds := fun k h => @fm_snoc Av UInt8 avE e.dn k h
  have hdt := fun k => @fm_take Av UInt8 avE e.dn k
  have has := fun k h => @fm_snoc Att UInt8 atE e.ats k h
  have hatt := fun k => @fm_take Att UInt8 atE e.ats k
  have hwm := fun a (h : a ∈ e.ats) => wA_mem h
  have hwdm := fun a (h : a ∈ e.dn) => wD_mem h
  have hNEr : (0 : Nat) = NE := hNE2.out.symm
  subst hNEr
  replace hBd := Lib.hid hBd
  clear hBE hNE hBE2 hn hNE2
  generalize e.dn = D at *
  generalize e.ats = L at *
  go_enter Try.func8, Try.ntmps8
  go_wp2_with fail
  refine hc1.mono ?_
  rintro e' w1 ⟨rfl, x1⟩
  have B1 := B0.mod x1 (fun h => h)
  have y1 := ext_trans x0 x1
  clear hc1 B0 x0 x1
  have hB := fun {wx : World} (x : Ext w1 wx) => B1.mod x (fun h => h)
  have b0 : w1.cell? ⟨w.heap.size, 0, none⟩ = some (Value.slice A0 D.length c0) := B1.cell 0
  clear B1
  go_wp2_with fail
  refine (rnum_any (D.length : Nat)).mono ?_
  rintro e' w2 ⟨v2, rfl, o2, f2, x2⟩
  rw [clamp_n _ (by omega)] at o2
  have G2 : Gw w1 w2 v2 (enc7 D.length) := ⟨o2, f2, x2⟩
  have b0 : w2.cell? ⟨w.heap.size, 0, none⟩ = some (Value.slice A0 D.length c0) := (hB x2).cell 0
  clear o2 f2 x2
  go_wp2_with fail
  go_loopw [4, 5] (fun vb i wr => ∃ (k : Nat), k ≤ D.length ∧ i = .int .i64 k ∧ Gw w1 wr vb (enc7 D.length ++ (D.take k).flatMap avE)) (fun _ i _ => D.length - (intOf i).toNat)
  case atStart => exact ⟨0, Nat.zero_le _, rfl, by rw [List.take_zero, List.flatMap_nil, List.append_nil]; exact G2⟩
  case round =>
    clear G2 b0
    obtain ⟨k, hk, rfl, G⟩ := hrel
    have hdk := hdt k
    have b0 : wr.cell? ⟨w.heap.size, 0, none⟩ = some (Value.slice A0 D.length c0) := (hB G.ex).cell 0
    by_cases hlt : k < D.length
    · have hbl : decide ((k : Int) < (D.length : Int)) = true := dtrue (by omega)
      obtain ⟨ad, hA, -, d00, d11⟩ := As.at_ hd4 hlt
      subst hA
      have c00 := ext_cell (ext_trans y1 G.ex) d00
      have hsn := hds k hlt
      have hwx := hwdm _ (List.getElem_mem hlt)
      have hi0 : (0 : Int) ≤ (k : Int) := by omega
      have hi1 : (k : Int) < (D.length : Int) := by omega
      generalize D[k] = a at *
      obtain ⟨t, u⟩ := a
      have ea : avE (t, u) = lb t ++ lb u := rfl
      rw [ea, ← List.append_assoc] at hsn
      simp only at hwx c00 d11
      have hsn : enc7 D.length ++ (D.take k).flatMap avE ++ lb t ++ lb u = enc7 D.length ++ (D.take (k + 1)).flatMap avE := by rw [hsn]; simp only [List.append_assoc]
      have hl1 : (enc7 D.length ++ (D.take k).flatMap avE).length ≤ 20000010 := by simp only [List.length_append]; omega
      have el1 := lb_len t (by omega)
      have el2 := lb_len u (by omega)
      have eu : ∀ p, enc7 p.length ++ p = lb p := fun p => rfl
      generalize enc7 D.length ++ (D.take k).flatMap avE = Q at *
      obtain ⟨Q', hQ'⟩ : ∃ Q', Q' = enc7 D.length ++ (D.take (k + 1)).flatMap avE := ⟨_, rfl⟩
      rw [← hQ'] at hsn
      replace hQ' := Lib.hid hQ'
      replace hsn := Lib.hid hsn
      clear hd4 hds hdt has hatt hat ea
      go_wp2_with ((with_reducible show wpList _ _ _ (⟨some 30, _, _, _, _, _⟩ :: _) _ _); refine wp_tob Try.underlying9 Try.underlying50 Try.underlying5 (l := t) (by omega) rfl (.tmp 29) rfl rfl ?_; intro cp5 w5 k1 k2 k3; clear k3)
      refine (rbytes_any k1 (by omega)).mono ?_
      rintro e' w6 ⟨v6, rfl, o6, -, x6⟩
      rw [eu] at o6
      have G6 := (G.ext k2).ext x6
      clear G k1 k2 x6 b0 c00
      go_wp2_with (first
        | ((with_reducible show wpList _ _ _ (⟨some 32, _, _, _, _, _⟩ :: _) _ _); refine wp_gwm tyB G6 o6.sl rfl (.tmp 23) (.tmp 31) rfl rfl rfl (by omega) ?_; intro v8 w8 G8 m8 n8; have b0 : _ = some (Value.slice (some ad) D.length c0) := (hB G8.ex).cell 0; have c11 := ext_cell (ext_trans y1 G8.ex) d11)
        | ((with_reducible show wpList _ _ _ (⟨some 40, _, _, _, _, _⟩ :: _) _ _); refine wp_tob Try.underlying9 Try.underlying50 Try.underlying5 (l := u) (by omega) rfl (.tmp 39) rfl rfl ?_; intro cp9 w9 k1 k2 k3; clear k3))
      refine (rbytes_any k1 (by omega)).mono ?_
      rintro e' w10 ⟨v10, rfl, o10, -, x10⟩
      rw [eu] at o10
      have G10 := (G8.ext k2).ext x10
      clear G6 o6 G8 m8 n8 k1 k2 x10 b0 c11
      go_wp2_with ((with_reducible show wpList _ _ _ (⟨some 42, _, _, _, _, _⟩ :: _) _ _); refine wp_gwm tyB G10 o10.sl rfl (.tmp 33) (.tmp 41) rfl rfl rfl (by simp only [List.length_append]; omega) ?_; intro v12 w12 G12 m12 n12)
      rw [hsn.out] at G12
      exact ⟨⟨k + 1, by omega, by go_num, by rw [← hQ'.out]; exact G12⟩, by simp [intOf] <;> omega⟩
    have hbl : decide ((k : Int) < (D.length : Int)) = false := dfalse (by omega)
    obtain rfl : k = D.length := by omega
    rw [List.take_length] at G
    have b1 : wr.cell? ⟨w.heap.size, 1, none⟩ = some (Value.slice A L.length c) := (hB G.ex).cell 1
    clear hdk hd4 hds hdt hwdm hlt hk
    go_wp2_with fail
    refine (rnum_any (L.length : Nat)).mono ?_
    rintro e' w5 ⟨v5, rfl, o5, -, x5⟩
    rw [clamp_n _ (by omega)] at o5
    have G5 := G.ext x5
    obtain ⟨PP, hPP⟩ : ∃ PP, PP = enc7 D.length ++ D.flatMap avE ++ enc7 L.length := ⟨_, rfl⟩
    rw [← hPP] at hBd
    have hpl : PP.length ≤ 20000020 := by rw [hPP]; simp only [List.length_append]; omega
    replace hPP := Lib.hid hPP
    clear G x5 b0 b1
    go_wp2_with ((with_reducible show wpList _ _ _ (⟨some 48, _, _, _, _, _⟩ :: _) _ _); refine wp_gwm tyB G5 o5.sl rfl (.tmp 43) (.tmp 47) rfl rfl rfl (by simp only [List.length_append]; omega) ?_; intro v6 w6 G6 m6 n6)
    rw [← hPP.out] at G6
    clear G5 o5 m6 n6
    go_loopw [4, 6] (fun vb i wr => ∃ (k : Nat), k ≤ L.length ∧ i = .int .i64 k ∧ Gw w1 wr vb (PP ++ (L.take k).flatMap atE)) (fun _ i _ => L.length - (intOf i).toNat)
    case atStart => exact ⟨0, Nat.zero_le _, rfl, by rw [List.take_zero, List.flatMap_nil, List.append_nil]; exact G6⟩
    case round =>
      clear G6
      obtain ⟨k, hk, rfl, G⟩ := hrel
      have hlk := hatt k
      have b1 : wr.cell? ⟨w.heap.size, 1, none⟩ = some (Value.slice A L.length c) := (hB G.ex).cell 1
      by_cases hlt : k < L.length
      case neg =>
        have hbl : decide ((k : Int) < (L.length : Int)) = false := dfalse (by omega)
        obtain rfl : k = L.length := by omega
        rw [List.take_length] at G
        rw [← hBd.out] at G
        have hbb : BE.length ≤ 100000000 := by rw [hBd.out]; simp only [List.length_append]; omega
        have z9 := run_conv (P := Try.prog) Try.underlying50 Try.underlying5 Try.underlying9 G.row.sl
        have y9 := ext_trans y1 G.ex
        go_wp2_with fail
        go_ret2
        exact ⟨rfl, y9⟩
      have hbl : decide ((k : Int) < (L.length : Int)) = true := dtrue (by omega)
      obtain ⟨ad, y, hA, d00, d11, hy⟩ := hat k hlt
      subst hA
      have c00 := ext_cell (ext_trans y1 G.ex) d00
      have c11 := ext_cell (ext_trans y1 G.ex) d11
      have hsn := has k hlt
      have hwx := hwm _ (List.getElem_mem hlt)
      have hi0 : (0 : Int) ≤ (k : Int) := by omega
      have hi1 : (k : Int) < (L.length : Int) := by omega
      generalize L[k] = a at *
      obtain ⟨t, vs⟩ := a
      have ea : atE ⟨t, vs⟩ = lb t ++ (enc7 vs.length ++ vs.flatMap lb) := rfl
      rw [ea] at hsn
      simp only at hwx c00 c11 hy
      obtain ⟨Ay, cy, rfl, -, -, -, hy4⟩ := hy.open_
      have hwv := wV_ge vs
      have hvl := vals_len vs (by omega)
      have hvm := fun (v : List UInt8) (h : v ∈ vs) => wV_mem h
      have hvs := fun k h => @fm_snoc (List UInt8) UInt8 lb vs k h
      have hvt := fun k => @fm_take (List UInt8) UInt8 lb vs k
      have elt := lb_len t (by omega)
      have env := enc7_ten (n := vs.length) (by omega)
      have eu : ∀ p, enc7 p.length ++ p = lb p := fun p => rfl
      obtain ⟨wb, hwb⟩ : ∃ wb, wb = wr.alloc (.cells #[sv t, .slice Ay vs.length cy] 46) := ⟨_, rfl⟩
      have z1 : Ext wr wb := by rw [hwb]; exact (Mod.refl _ wr).alloc _
      have B5 : Blk wb wr.heap.size 46 #[sv t, .slice Ay vs.length cy] := by rw [hwb]; exact Blk.new wr _ _
      obtain ⟨gb, hgb⟩ : ∃ gb, gb = wr.heap.size := ⟨_, rfl⟩
      rw [← hgb] at B5
      have q0 : wb.cell? ⟨gb, 0, none⟩ = some (sv t) := B5.cell 0
      replace hwb := Lib.hid hwb
      replace hgb := Lib.hid hgb
      have G1 := G.ext z1
      have hLk : (PP ++ (L.take k).flatMap atE).length ≤ 60000020 := by rw [List.length_append]; omega
      have hfin : PP ++ (L.take k).flatMap atE ++ lb t ++ enc7 vs.length ++ vs.flatMap lb = PP ++ (L.take (k + 1)).flatMap atE := by rw [hsn]; simp only [List.append_assoc]
      generalize PP ++ (L.take k).flatMap atE = Q at *
      obtain ⟨Q', hQ'⟩ : ∃ Q', Q' = PP ++ (L.take (k + 1)).flatMap atE := ⟨_, rfl⟩
      rw [← hQ'] at hfin
      replace hQ' := Lib.hid hQ'
      replace hfin := Lib.hid hfin
      clear has hatt hat ea hy hsn hlk
      go_upto_region 14 with fail
      rw [← hwb.out, ← hgb.out]
      clear c00 c11 G hwb hgb z1 b1
      go_wp2_with ((with_reducible show wpList _ _ _ (⟨some 64, _, _, _, _, _⟩ :: _) _ _); refine wp_tob Try.underlying9 Try.underlying50 Try.underlying5 (l := t) (by omega) rfl (.tmp 63) rfl rfl ?_; intro cp5 w5 k1 k2 k3; clear k3)
      refine (rbytes_any k1 (by omega)).mono ?_
      rintro e' w6 ⟨v6, rfl, o6, -, x6⟩
      rw [eu] at o6
      have G6 := (G1.ext k2).ext x6
      have B6 := (B5.mod k2 (fun h => h)).mod x6 (fun h => h)
      clear G1 k1 k2 x6 B5 q0
      go_wp2_with ((with_reducible show wpList _ _ _ (⟨some 66, _, _, _, _, _⟩ :: _) _ _); refine wp_gwm tyB G6 o6.sl rfl (.tmp 61) (.tmp 65) rfl rfl rfl (by omega) ?_; intro v8 w8 G8 m8 n8; have B8 := B6.mod m8 (fun hh => G6.row.ne_blk B6 (by decide) hh); have q1 : w8.cell? ⟨gb, 1, none⟩ = some (Value.slice Ay vs.length cy) := B8.cell 1)
      refine (rnum_any (vs.length : Nat)).mono ?_
      rintro e' w9 ⟨v9, rfl, o9, -, x9⟩
      rw [clamp_n _ (by omega)] at o9
      have G9 := G8.ext x9
      have B9 := B8.mod x9 (fun h => h)
      clear G6 o6 B6 G8 m8 n8 B8 q1 x9
      go_wp2_with ((with_reducible show wpList _ _ _ (⟨some 72, _, _, _, _, _⟩ :: _) _ _); refine wp_gwm tyB G9 o9.sl rfl (.tmp 67) (.tmp 71) rfl rfl rfl (by simp only [List.length_append]; omega) ?_; intro v10 w10 G10 m10 n10)
      have B10 := B9.mod m10 (fun hh => G9.row.ne_blk B9 (by decide) hh)
      have hLt : (Q ++ lb t ++ enc7 vs.length).length ≤ 80000020 := by simp only [List.length_append]; omega
      generalize Q ++ lb t ++ enc7 vs.length = Q2 at *
      clear G9 o9 B9 m10 n10
      go_loopw [4, 8] (fun vb i wx => ∃ (j : Nat), j ≤ vs.length ∧ i = .int .i64 j ∧ Gw w1 wx vb (Q2 ++ (vs.take j).flatMap lb) ∧ Blk wx gb 46 #[sv t, .slice Ay vs.length cy]) (fun _ i _ => vs.length - (intOf i).toNat)
      case atStart => exact ⟨0, Nat.zero_le _, rfl, by rw [List.take_zero, List.flatMap_nil, List.append_nil]; exact G10, B10⟩
      case round =>
        clear G10 B10
        obtain ⟨j, hj, rfl, G, B⟩ := hrel
        have hlj := hvt j
        have q1 : _ = some (Value.slice Ay vs.length cy) := B.cell 1
        by_cases hlt2 : j < vs.length
        case neg =>
          have hbl2 : decide ((j : Int) < (vs.length : Int)) = false := dfalse (by omega)
          obtain rfl : j = vs.length := by omega
          rw [List.take_length, hfin.out] at G
          go_wp2_with fail
          exact ⟨⟨k + 1, by omega, by go_num, by rw [← hQ'.out]; exact G⟩, by simp [intOf] <;> omega⟩
        have hbl2 : decide ((j : Int) < (vs.length : Int)) = true := dtrue (by omega)
        obtain ⟨ad2, hA2, -, cv⟩ := hy4.at_ hlt2
        subst hA2
        have cv := ext_cell (ext_trans y1 G.ex) cv
        have hsn2 := hvs j hlt2
        have hwv2 := hvm _ (List.getElem_mem hlt2)
        have hj0 : (0 : Int) ≤ (j : Int) := by omega
        have hj1 : (j : Int) < (vs.length : Int) := by omega
        generalize vs[j] = v at *
        have elv := lb_len v (by omega)
        have hsn3 : Q2 ++ (vs.take j).flatMap lb ++ lb v = Q2 ++ (vs.take (j + 1)).flatMap lb := by rw [hsn2, List.append_assoc]
        replace hsn3 := Lib.hid hsn3
        clear hvs hvt hy4 hsn2
        go_wp2_with ((with_reducible show wpList _ _ _ (⟨some 86, _, _, _, _, _⟩ :: _) _ _); refine wp_tob Try.underlying9 Try.underlying50 Try.underlying5 (l := v) (by omega) rfl (.tmp 85) rfl rfl ?_; intro cp5 w5 k1 k2 k3; clear k3)
        refine (rbytes_any k1 (by omega)).mono ?_
        rintro e' w6 ⟨v6, rfl, o6, -, x6⟩
        rw [eu] at o6
        have G6 := (G.ext k2).ext x6
        have B6 := (B.mod k2 (fun h => h)).mod x6 (fun h => h)
        clear G k1 k2 x6 B q1 cv
        go_wp2_with ((with_reducible show wpList _ _ _ (⟨some 88, _, _, _, _, _⟩ :: _) _ _); refine wp_gwm tyB G6 o6.sl rfl (.tmp 80) (.tmp 87) rfl rfl rfl (by simp only [List.length_append]; omega) ?_; intro v8 w8 G8 m8 n8)
        have B8 := B6.mod m8 (fun hh => G6.row.ne_blk B6 (by decide) hh)
        rw [hsn3.out] at G8
        exact ⟨⟨j + 1, by omega, by go_num, G8, B8⟩, by simp [intOf] <;> omega⟩
end Go.Proofs.Ytlaaicdofompkaa

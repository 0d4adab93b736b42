/- entry: Encode. -/
import Derived.Test.YtlaaicdofompkaaEntD
namespace Go.Proofs.Ytlaaicdofompkaa
open Go.RowKit
set_option maxRecDepth 100000

theorem ext_cell {w w' : World} (x : Ext w w') {p : Addr} {u : Value} (h : w.cell? p = some u) : w'.cell? p = some u := (x.cell (lt_of_cell h) (fun h => h)).trans h
theorem fm_snoc {α β : Type} (f : α → List β) (L : List α) {k : Nat} (h : k < L.length) : (L.take (k + 1)).flatMap f = (L.take k).flatMap f ++ f L[k] := by
  rw [List.take_succ_eq_append_getElem h, List.flatMap_append]
  simp
theorem fm_take {α β : Type} (f : α → List β) (L : List α) (k : Nat) : ((L.take k).flatMap f).length ≤ (L.flatMap f).length := by
  have : L.flatMap f = (L.take k).flatMap f ++ (L.drop k).flatMap f := by rw [← List.flatMap_append, List.take_append_drop]
  rw [this, List.length_append]; omega
def bytesE (e : Ent) : List UInt8 := if isE e then encE e else []
def codeE (e : Ent) : Nat := if isE e then 0 else 1
theorem wo_two {w wx w' : World} {g : Nat} {v : Value} {l : List UInt8} (h : Wo w g wx v l) (hx : Ext wx w') {S T : Nat → Prop} {y z : Value} {p q : List UInt8} (hy : Bs w' S y p) (hz : Bs w' T z q) (hS : ∀ k, S k → wx.heap.size ≤ k) (hT : ∀ k, T k → wx.heap.size ≤ k) (hl : l.length + p.length + q.length ≤ 100000000000) :
    Calls Try.prog 21 #[.pointer (some ⟨g, 0, none⟩), .slice (some ⟨w'.heap.size, 0, none⟩) 2 2] (w'.alloc (.cells #[y, z] 50)) fun e w'' => e = .returned (.tuple #[]) ∧ ∃ v', Wo w g w'' v' (l ++ (lb p ++ lb q)) := by
  have x1 : Ext wx (w'.alloc (.cells #[y, z] 50)) := hx.alloc _
  have e7 := enc7_ten (n := p.length) (by omega)
  have e8 := enc7_ten (n := q.length) (by omega)
  have hs := hx.size
  refine (wbytes_any (h.ext x1).it (Rw.two 50 hy hz) (fun k hk hk2 hF => ?_) (by simp [encr]; omega)).mono ?_
  · rcases hk2 with hk2 | hk2 | hk2
    · exact h.off (hS k hk2) hF
    · exact h.off (hT k hk2) hF
    · exact h.off (by omega) hF
  rintro e w2 ⟨rfl, v2, h2, m2, n2⟩
  have en : encr [p, q] = lb p ++ lb q := by simp [encr, lb]
  rw [en] at h2
  exact ⟨rfl, v2, h.call x1 h2 m2 n2⟩
theorem wo_lb {w wx w' : World} {g : Nat} {v : Value} {l : List UInt8} (h : Wo w g wx v l) (hx : Ext wx w') {S : Nat → Prop} {y : Value} {p : List UInt8} (hy : Bs w' S y p) (hS : ∀ k, S k → wx.heap.size ≤ k) (hl : l.length + p.length ≤ 100000000000) :
    Calls Try.prog 21 #[.pointer (some ⟨g, 0, none⟩), .slice (some ⟨w'.heap.size, 0, none⟩) 1 1] (w'.alloc (.cells #[y] 50)) fun e w'' => e = .returned (.tuple #[]) ∧ ∃ v', Wo w g w'' v' (l ++ lb p) ∧ Wk g w' v w'' v' :=
  wo_row (h.ext hx) hy (fun k _ hk hF => h.off (hS k hk) hF) hl

set_option maxHeartbeats 32000000 in
theorem eenc_any {w : World} {S : Nat → Prop} {vd va : Value} {e : Ent} (hd : As w S vd e.dn) (ha : Ats w va e.ats) (hw : wE e ≤ 1000000) :
    Calls Try.prog 7 #[.agg #[vd, va]] w fun e' w' => e' = .returned (.tuple #[sv (bytesE e), .int .i64 (codeE e : Nat)]) ∧ Ext w w' := by
  have hwd : wD e.dn ≤ 1000000 := by unfold wE at hw; omega
  have hwa : wA e.ats ≤ 1000000 := by unfold wE at hw; omega
  have hge := wA_ge e.ats
  have hgd := wD_ge e.dn
  have hdl := avs_len e.dn (by omega)
  have hal := ats_len e.ats (by omega)
  obtain ⟨A, c, rfl, hat⟩ := ha.open_
  obtain ⟨A0, c0, rfl, -, -, -, hd4⟩ := hd.open_ avc_len
  obtain ⟨BE, hBE⟩ : ∃ b, b = bytesE e := ⟨_, rfl⟩
  obtain ⟨NE, hNE⟩ : ∃ b, b = codeE e := ⟨_, rfl⟩
  rw [← hBE, ← hNE]
  have B0 : Blk (w.alloc (.cells #[.slice A0 e.dn.length c0, .slice A e.ats.length c] 25)) w.heap.size 25 #[.slice A0 e.dn.length c0, .slice A e.ats.length c] := Blk.new w _ _
  have x0 : Ext w (w.alloc (.cells #[.slice A0 e.dn.length c0, .slice A e.ats.length c] 25)) := (Mod.refl _ w).alloc _
  have hc1 := eis_any (hd.ext x0) (ha.ext x0) (by omega)
  clear hd ha
  by_cases hn : isE e
  case neg =>
    rw [decide_eq_false hn] at hc1
    have hR2 := Lib.hid (show BE = [] ∧ NE = 1 from ⟨hBE.trans (if_neg hn), hNE.trans (if_neg hn)⟩)
    clear hBE hNE hn
    go_enter Try.func7, Try.ntmps7
    go_wp2_with fail
    refine hc1.mono ?_
    rintro e' w1 ⟨rfl, x1⟩
    go_wp2_with fail
    go_ret2
    exact ⟨by rw [hR2.out.1, hR2.out.2]; rfl, ext_trans x0 x1⟩
  rw [decide_eq_true hn] at hc1
  have hBE2 : BE = encE e := hBE.trans (if_pos hn)
  have hNE2 := Lib.hid (show NE = 0 from hNE.trans (if_pos hn))
  have hBd : BE = enc7 e.dn.length ++ e.dn.flatMap avE ++ enc7 e.ats.length ++ e.ats.flatMap atE := by rw [hBE2]; unfold encE; simp only [List.append_assoc]
  have en1 := enc7_ten (n := e.dn.length) (by omega)
  have en2 := enc7_ten (n := e.ats.length) (by omega)
  have hds := fun k h => @fm_snoc Av UInt8 avE e.dn k h
  have hdt := fun k => @fm_take Av UInt8 avE e.dn k
  have has := fun k h => @fm_snoc Att UInt8 atE e.ats k h
  have hatt := fun k => @fm_take Att UInt8 atE e.ats k
  have hwm := fun a (h : a ∈ e.ats) => wA_mem h
  have hwdm := fun a (h : a ∈ e.dn) => wD_mem h
  have hNEr : (0 : Nat) = NE := hNE2.out.symm
  subst hNEr
  replace hBd := Lib.hid hBd
  clear hBE hNE hBE2 hn hNE2
  generalize e.dn = D at *
  generalize e.ats = L at *
  go_enter Try.func7, Try.ntmps7
  go_wp2_with fail
  refine hc1.mono ?_
  rintro e' w1 ⟨rfl, x1⟩
  have B1 := B0.mod x1 (fun h => h)
  have y1 := ext_trans x0 x1
  clear hc1 B0 x0 x1
  have W0 := wo_begin w1
  obtain ⟨g, hg⟩ : ∃ g, g = w1.heap.size := ⟨_, rfl⟩
  obtain ⟨w3, hw3⟩ : ∃ w3, w3 = w1.alloc (.cells #[.slice none 0 0] 52) := ⟨_, rfl⟩
  rw [← hg, ← hw3] at W0
  have hB := fun {wx : World} (x : Ext w1 wx) => B1.mod x (fun h => h)
  clear B1
  go_upto_region 4 with fail
  rw [← hg, ← hw3]
  clear hw3
  replace hg := Lib.hid hg
  have b0 : _ = some (Value.slice A0 D.length c0) := (hB W0.ex).cell 0
  go_wp2_with fail
  refine (wo_num W0 (D.length : Nat) (by simp)).mono ?_
  rintro e' w4 ⟨rfl, v4, W4, -⟩
  rw [clamp_n _ (by omega), List.nil_append] at W4
  have b0 : w4.cell? ⟨w.heap.size, 0, none⟩ = some (Value.slice A0 D.length c0) := (hB W4.ex).cell 0
  clear W0
  go_wp2_with fail
  go_loopw [22] (fun i wr => ∃ (k : Nat) (vw : Value), k ≤ D.length ∧ i = .int .i64 k ∧ Wo w1 g wr vw (enc7 D.length ++ (D.take k).flatMap avE)) (fun i _ => D.length - (intOf i).toNat)
  case atStart => exact ⟨0, v4, Nat.zero_le _, rfl, by rw [List.take_zero, List.flatMap_nil, List.append_nil]; exact W4⟩
  case round =>
    clear W4
    obtain ⟨k, vw, hk, rfl, W⟩ := hrel
    have hdk := hdt k
    by_cases hlt : k < D.length
    · have hbl : decide ((k : Int) < (D.length : Int)) = true := dtrue (by omega)
      obtain ⟨ad, hA, -, c00, c11⟩ := As.at_ hd4 hlt
      subst hA
      have c00 := ext_cell (ext_trans y1 W.ex) c00
      have c11 := ext_cell (ext_trans y1 W.ex) c11
      have hsn := hds k hlt
      have hwx := hwdm _ (List.getElem_mem hlt)
      have hi0 : (0 : Int) ≤ (k : Int) := by omega
      have hi1 : (k : Int) < (D.length : Int) := by omega
      generalize D[k] = a at *
      obtain ⟨t, u⟩ := a
      have ea : avE (t, u) = lb t ++ lb u := rfl
      rw [ea, ← List.append_assoc] at hsn
      simp only at hwx c00 c11
      replace hsn := Lib.hid hsn
      obtain ⟨wb, hwb⟩ : ∃ wb, wb = wr.alloc (.cells #[sv t, sv u] 49) := ⟨_, rfl⟩
      have z1 : Ext wr wb := by rw [hwb]; exact (Mod.refl _ wr).alloc _
      have B4 : Blk wb wr.heap.size 49 #[sv t, sv u] := by rw [hwb]; exact Blk.new wr _ _
      have q0 : wb.cell? ⟨wr.heap.size, 0, none⟩ = some (sv t) := B4.cell 0
      have hz1 := z1.size
      replace hwb := Lib.hid hwb
      clear hd4 hds hdt has hatt hat ea
      go_upto_region 8 with fail
      rw [← hwb.out]
      clear c00 c11
      go_wp2_with (first
        | ((with_reducible show wpList _ _ _ (⟨some 28, _, _, _, _, _⟩ :: _) _ _); refine wp_tob Try.underlying9 Try.underlying50 Try.underlying5 (l := t) (by omega) rfl (.tmp 27) rfl rfl ?_; intro cp5 w5 k1 k2 k3; clear k3; have hk2 := k2.size; have B5 := B4.mod k2 (fun h => h); have q1 : _ = some (sv u) := B5.cell 1)
        | ((with_reducible show wpList _ _ _ (⟨some 31, _, _, _, _, _⟩ :: _) _ _); refine wp_tob Try.underlying9 Try.underlying50 Try.underlying5 (l := u) (by omega) rfl (.tmp 30) rfl rfl ?_; intro cp6 w6 l1 l2 l3; clear l3))
      refine (wo_two W (ext_trans z1 (ext_trans k2 l2)) (k1.ext l2) l1 (fun k h => by cases h; first | omega | exact hz1 | exact Nat.le_trans hz1 hk2) (fun k h => by cases h; first | omega | exact hz1 | exact Nat.le_trans hz1 hk2) (by simp only [List.length_append]; omega)).mono ?_
      rintro e' w7 ⟨rfl, v7, W7⟩
      rw [show enc7 D.length ++ (D.take k).flatMap avE ++ (lb t ++ lb u) = enc7 D.length ++ (D.take (k + 1)).flatMap avE by rw [hsn.out]; simp only [List.append_assoc]] at W7
      clear W k1 k2 l1 l2 B5 q1
      go_wp2_with fail
      exact ⟨⟨k + 1, v7, by omega, by go_num, W7⟩, by simp [intOf] <;> omega⟩
    have hbl : decide ((k : Int) < (D.length : Int)) = false := dfalse (by omega)
    obtain rfl : k = D.length := by omega
    rw [List.take_length] at W
    have b1 : wr.cell? ⟨w.heap.size, 1, none⟩ = some (Value.slice A L.length c) := (hB W.ex).cell 1
    clear hdk hd4 hds hdt hwdm hlt hk
    go_wp2_with fail
    refine (wo_num W (L.length : Nat) (by simp only [List.length_append]; omega)).mono ?_
    rintro e' w5 ⟨rfl, v5, W5, -⟩
    rw [clamp_n _ (by omega)] at W5
    have b1 : w5.cell? ⟨w.heap.size, 1, none⟩ = some (Value.slice A L.length c) := (hB W5.ex).cell 1
    clear W
    obtain ⟨PP, hPP⟩ : ∃ PP, PP = enc7 D.length ++ D.flatMap avE ++ enc7 L.length := ⟨_, rfl⟩
    rw [← hPP] at W5 hBd
    have hpl : PP.length ≤ 20000020 := by rw [hPP]; simp only [List.length_append]; omega
    clear hPP
    go_wp2_with fail
    go_loopw [43] (fun i wr => ∃ (k : Nat) (vw : Value), k ≤ L.length ∧ i = .int .i64 k ∧ Wo w1 g wr vw (PP ++ (L.take k).flatMap atE)) (fun i _ => L.length - (intOf i).toNat)
    case atStart => exact ⟨0, v5, Nat.zero_le _, rfl, by rw [List.take_zero, List.flatMap_nil, List.append_nil]; exact W5⟩
    case round =>
      clear W5 b1
      obtain ⟨k, vw, hk, rfl, W⟩ := hrel
      have hlk := hatt k
      by_cases hlt : k < L.length
      case neg =>
        have hbl : decide ((k : Int) < (L.length : Int)) = false := dfalse (by omega)
        obtain rfl : k = L.length := by omega
        rw [List.take_length] at W
        rw [← hBd.out] at W
        have hbb : BE.length ≤ 100000000 := by rw [hBd.out]; simp only [List.length_append]; omega
        go_wp2_with fail
        refine (wout_any W.it (by omega)).mono ?_
        rintro e' w9 ⟨v9, rfl, o9, b9, x9, -⟩
        have z9 := run_conv (P := Try.prog) Try.underlying50 Try.underlying5 Try.underlying9 o9.sl
        have y9 := ext_trans (ext_trans y1 W.ex) x9
        go_wp2_with fail
        go_ret2
        exact ⟨rfl, y9⟩
      have hbl : decide ((k : Int) < (L.length : Int)) = true := dtrue (by omega)
      obtain ⟨ad, y, hA, c00, c11, hy⟩ := hat k hlt
      subst hA
      have c00 := ext_cell (ext_trans y1 W.ex) c00
      have c11 := ext_cell (ext_trans y1 W.ex) c11
      have hsn := has k hlt
      have hwx := hwm _ (List.getElem_mem hlt)
      have hi0 : (0 : Int) ≤ (k : Int) := by omega
      have hi1 : (k : Int) < (L.length : Int) := by omega
      generalize L[k] = a at *
      obtain ⟨t, vs⟩ := a
      have ea : atE ⟨t, vs⟩ = lb t ++ (enc7 vs.length ++ vs.flatMap lb) := rfl
      rw [ea] at hsn
      simp only at hwx c00 c11 hy
      replace hsn := Lib.hid hsn
      obtain ⟨Ay, cy, rfl, -, -, -, hy4⟩ := hy.open_
      have hwv := wV_ge vs
      have hvl := vals_len vs (by omega)
      have hvm := fun (v : List UInt8) (h : v ∈ vs) => wV_mem h
      have hvs := fun k h => @fm_snoc (List UInt8) UInt8 lb vs k h
      have hvt := fun k => @fm_take (List UInt8) UInt8 lb vs k
      have elt := lb_len t (by omega)
      have env := enc7_ten (n := vs.length) (by omega)
      obtain ⟨wb, hwb⟩ : ∃ wb, wb = wr.alloc (.cells #[sv t, .slice Ay vs.length cy] 46) := ⟨_, rfl⟩
      have z1 : Ext wr wb := by rw [hwb]; exact (Mod.refl _ wr).alloc _
      have hz1 := z1.size
      have B5 : Blk wb wr.heap.size 46 #[sv t, .slice Ay vs.length cy] := by rw [hwb]; exact Blk.new wr _ _
      have q0 : wb.cell? ⟨wr.heap.size, 0, none⟩ = some (sv t) := B5.cell 0
      replace hwb := Lib.hid hwb
      have nB : ¬ wrF g vw wr.heap.size := W.off (Nat.le_refl _)
      have W1 := W.ext z1
      have hLk : (PP ++ (L.take k).flatMap atE).length ≤ 60000020 := by rw [List.length_append]; omega
      have hfin : PP ++ (L.take k).flatMap atE ++ lb t ++ enc7 vs.length ++ vs.flatMap lb = PP ++ (L.take (k + 1)).flatMap atE := by rw [hsn.out]; simp only [List.append_assoc]
      generalize PP ++ (L.take k).flatMap atE = Q at *
      obtain ⟨Q', hQ'⟩ : ∃ Q', Q' = PP ++ (L.take (k + 1)).flatMap atE := ⟨_, rfl⟩
      rw [← hQ'] at hfin
      replace hQ' := Lib.hid hQ'
      replace hfin := Lib.hid hfin
      clear has hatt hat ea hy hsn hlk W
      go_upto_region 14 with fail
      rw [← hwb.out]
      clear c00 c11
      go_wp2_with ((with_reducible show wpList _ _ _ (⟨some 49, _, _, _, _, _⟩ :: _) _ _); refine wp_tob Try.underlying9 Try.underlying50 Try.underlying5 (l := t) (by omega) rfl (.tmp 48) rfl rfl ?_; intro cp5 w5 k1 k2 k3; clear k3)
      obtain ⟨B6, nB6⟩ : Blk w5 wr.heap.size 46 #[sv t, .slice Ay vs.length cy] ∧ True := ⟨B5.mod k2 (fun h => h), trivial⟩
      have hk2 := k2.size
      refine (wo_lb W1 k2 k1 (fun k h => by cases h; first | omega | exact hz1 | exact Nat.le_trans hz1 hk2) (by omega)).mono ?_
      rintro e' w6 ⟨rfl, v6, W6, K6⟩
      obtain ⟨B7, nB7⟩ := K6.blk B6 nB
      have q1 : _ = some (Value.slice Ay vs.length cy) := B7.cell 1
      clear B5 B6 nB nB6 W1 K6 k1 k2 z1
      go_wp2_with fail
      refine (wo_num W6 (vs.length : Nat) (by simp only [List.length_append]; omega)).mono ?_
      rintro e' w7 ⟨rfl, v7, W7, K7⟩
      rw [clamp_n _ (by omega)] at W7
      obtain ⟨B8, nB8⟩ := K7.blk B7 nB7
      have q1 : _ = some (Value.slice Ay vs.length cy) := B8.cell 1
      clear B7 nB7 nB8 W6 K7
      have hLt : (Q ++ lb t ++ enc7 vs.length).length ≤ 80000020 := by simp only [List.length_append]; omega
      generalize Q ++ lb t ++ enc7 vs.length = Q2 at *
      go_wp2_with fail
      go_loopw [60] (fun i wx => ∃ (j : Nat) (vw : Value), j ≤ vs.length ∧ i = .int .i64 j ∧ Wo w1 g wx vw (Q2 ++ (vs.take j).flatMap lb)) (fun i _ => vs.length - (intOf i).toNat)
      case atStart => exact ⟨0, v7, Nat.zero_le _, rfl, by rw [List.take_zero, List.flatMap_nil, List.append_nil]; exact W7⟩
      case round =>
        clear W7 q1 B8
        obtain ⟨j, vw, hj, rfl, W⟩ := hrel
        have hlj := hvt j
        by_cases hlt2 : j < vs.length
        case neg =>
          have hbl2 : decide ((j : Int) < (vs.length : Int)) = false := dfalse (by omega)
          obtain rfl : j = vs.length := by omega
          rw [List.take_length, hfin.out] at W
          go_wp2_with fail
          exact ⟨⟨k + 1, vw, by omega, by go_num, by rw [← hQ'.out]; exact W⟩, by simp [intOf] <;> omega⟩
        have hbl2 : decide ((j : Int) < (vs.length : Int)) = true := dtrue (by omega)
        obtain ⟨ad2, hA2, -, cv⟩ := hy4.at_ hlt2
        subst hA2
        have cv := ext_cell (ext_trans y1 W.ex) cv
        have hsn2 := hvs j hlt2
        have hwv2 := hvm _ (List.getElem_mem hlt2)
        have hj0 : (0 : Int) ≤ (j : Int) := by omega
        have hj1 : (j : Int) < (vs.length : Int) := by omega
        generalize vs[j] = v at *
        have hsn3 : Q2 ++ (vs.take j).flatMap lb ++ lb v = Q2 ++ (vs.take (j + 1)).flatMap lb := by rw [hsn2, List.append_assoc]
        replace hsn3 := Lib.hid hsn3
        clear hvs hvt hy4 hsn2
        go_wp2_with ((with_reducible show wpList _ _ _ (⟨some 65, _, _, _, _, _⟩ :: _) _ _); refine wp_tob Try.underlying9 Try.underlying50 Try.underlying5 (l := v) (by omega) rfl (.tmp 64) rfl rfl ?_; intro cp5 w5 k1 k2 k3; clear k3)
        refine (wo_lb W k2 k1 (fun k h => by cases h; first | omega | exact hz1 | exact Nat.le_trans hz1 hk2) (by simp only [List.length_append]; omega)).mono ?_
        rintro e' w6 ⟨rfl, v6, W6, -⟩
        rw [hsn3.out] at W6
        clear W k1 k2 cv
        go_wp2_with fail
        exact ⟨⟨j + 1, v6, by omega, by go_num, W6⟩, by simp [intOf] <;> omega⟩
end Go.Proofs.Ytlaaicdofompkaa

/- block: no key ahead. -/
import Derived.Test.YthohghnfiicndaaDoorCelL
namespace Go.Proofs.YthohghnfiicndaaDoor
open Go.RowKit

theorem comm_nil (k : List UInt8) : comm [] k = 0 := by
  have := (comm_le [] k).1
  simpa using this
end Go.Proofs.YthohghnfiicndaaDoor
namespace Go.Proofs.YthohghnfiicndaaDoor
open Go.RowKit
set_option maxRecDepth 100000

/-- Bytes of one's own that grow behind a world. -/
structure Gw (w0 w : World) (v : Value) (l : List UInt8) : Prop where
  row : Own w 5 v (l.map bv)
  fr : Fresh w0.heap.size v
  ex : Ext w0 w
theorem Gw.ext {w0 w w' : World} {v : Value} {l : List UInt8} (h : Gw w0 w v l) (hx : Ext w w') : Gw w0 w' v l := ⟨h.row.mod hx (fun _ _ h => h), h.fr, ext_trans h.ex hx⟩
theorem wp_gw {P : Program} {ops : Array Oper} {rest : List Oper} {o : Oper} {a : Act} {Q : Exit → Act → World → Prop} {t : TypeId} {z : Value} {S : Nat → Prop} {w0 w : World} {v y : Value} {l l1 : List UInt8}
    (hT : SliceTy P t 5 z 1) (hg : Gw w0 w v l) (hr : Sl w S y (l1.map bv)) (hgd : o.guard = none) (s x : Operand) (ho : o.op = .call { callee := .builtin .append, args := #[s, x], argTypes := #[t, t] }) (hs : a.eval s = v) (hx : a.eval x = y)
    (hn : l.length + l1.length ≤ 1000000000000) (h : ∀ v' w', Gw w0 w' v' (l ++ l1) → wpList P ops Q rest (a.put o.dst v') w') : wpList P ops Q (o :: rest) a w := by
  refine wp_app hT hg.row hr (bv_one _) hgd s x ho hs hx (by simp only [List.length_map]; omega) fun v' w' k1 k2 k3 => ?_
  refine h v' w' ⟨by rw [List.map_append]; exact k1, k3.fresh hg.fr hg.ex.size, hg.ex.trans k2 (fun _ _ h => h) (fun i hi hF => by have := hg.fr i hF; omega)⟩

set_option maxHeartbeats 32000000 in
theorem rencode_any {w : World} {S : Nat → Prop} {v : Value} {L : List Ce} (h : Cs w S v L) (hw : wC L ≤ 1000000000) :
    Calls Tryd.prog 37 #[v] w fun e w' => ∃ v', e = .returned (.tuple #[v', .int .i64 (riseN L)]) ∧ Own w' 5 v' ((encR L).map bv) ∧ Fresh w.heap.size v' ∧ Ext w w' := by
  have hlw := wC_len L
  have hri := rise_any h hw
  obtain ⟨A, c, rfl, h1, h2, h3, h4⟩ := h.open_ cel_len
  clear h
  obtain ⟨R, hR⟩ : ∃ R, R = riseN L := ⟨_, rfl⟩
  obtain ⟨EE, hEE⟩ : ∃ E, E = encR L := ⟨_, rfl⟩
  rw [← hR] at hri
  rw [← hR, ← hEE]
  replace hR := Lib.hid hR
  replace hEE := Lib.hid hEE
  go_enter Tryd.func37, Tryd.ntmps37
  go_wp2_with fail
  refine hri.mono ?_
  rintro e w2 ⟨rfl, x2⟩
  clear hri
  by_cases h0 : R = 0
  case neg =>
    have hb1 : ((R : Int) != 0) = true := by rw [bne_iff_ne]; omega
    have hE : Hid (EE = []) := Lib.hid (by rw [hEE.out]; exact if_neg (by rw [← hR.out]; exact h0))
    clear h0
    go_wp2_with fail
    go_ret2
    exact ⟨_, rfl, by rw [hE.out]; exact Own.nil _ _, fresh_nil _ _ _, x2⟩
  have hr0 : riseN L = 0 := by rw [← hR.out]; exact h0
  have hall : ∀ c ∈ L, isC c := (riseN_zero hr0).1
  have hE0 : Hid (EE = encB L) := Lib.hid (by rw [hEE.out, encR_zero hr0])
  have hb1 : ((R : Int) != 0) = false := by rw [h0]; rfl
  have hR0 : Hid (R = 0) := Lib.hid h0
  clear hr0 hEE hR
  replace h4 := h4.ext x2
  have hz2 := Lib.hid x2.size
  clear h0
  go_wp2_with fail
  go_loopw [5, 6] (fun b i wx => ∃ (k : Nat) (vb : Value), k ≤ L.length ∧ i = .int .i64 k ∧ b = vb ∧ Gw w2 wx vb (encTo L k)) (fun _ i _ => L.length - (intOf i).toNat)
  case atStart => exact ⟨0, _, Nat.zero_le _, rfl, rfl, Own.nil _ _, fresh_nil _ _ _, Mod.refl _ _⟩
  case round =>
    obtain ⟨k, vb, hk, rfl, rfl, G0⟩ := hrel
    by_cases hlt : k < L.length
    case neg =>
      have hbl : decide ((k : Int) < (L.length : Int)) = false := dfalse (by omega)
      obtain rfl : k = L.length := by omega
      go_wp2_with fail
      go_ret2
      exact ⟨_, by rw [hR0.out]; rfl, by rw [hE0.out]; exact G0.row, fun i hi => by have := G0.fr i hi; have := hz2.out; omega, ext_trans x2 G0.ex⟩
    have hbl : decide ((k : Int) < (L.length : Int)) = true := dtrue (by omega)
    obtain ⟨ad, hA, hS, c0, c1, c2, c3⟩ := Cs.at_ (h4.ext G0.ex) hlt
    subst hA
    have hcy := fun {wx : World} (hx : Ext w2 wx) => Cs.at_ (h4.ext hx) hlt
    have hsn := encTo_snoc L k
    have hen := encTo_len L hall k hk
    have hwt := wC_take L k
    have hic := hall L[k] (List.getElem_mem hlt)
    have hgd := getD_c L hlt
    rw [hgd] at hsn
    have hkl : L[k].key.length ≤ 4096 := hic.2.1
    have hvl : L[k].val.length ≤ 16384 := hic.2.2.1
    have hi0 : (0 : Int) ≤ (k : Int) := by omega
    have hi1 : (k : Int) < (L.length : Int) := by omega
    have hl0 : (encTo L k).length ≤ 51000000000 := by omega
    by_cases h4k : k % 4 = 0
    · have hb4 : (((k : Int) % 4) != 0) = false := by rw [bne_eq_false_iff_eq]; omega
      have hah : aheadC L k = [] := if_pos h4k
      rw [hah] at hsn
      obtain ⟨E, hE⟩ : ∃ E, E = encC [] L[k] := ⟨_, rfl⟩
      rw [← hE] at hsn
      unfold encC at hE
      rw [comm_nil, List.drop_zero] at hE
      replace hE := Lib.hid hE
      replace hsn := Lib.hid hsn
      clear hah hgd hic h4k hen hwt
      generalize encTo L k = l0 at *
      generalize L[k] = x at *
      have hcx : ∀ {wx : World}, Ext w2 wx → wx.cell? (ad.add (k * 4)) = some (sv x.key) ∧ wx.cell? ⟨(ad.add (k * 4)).block, (ad.add (k * 4)).off + 1, none⟩ = some (sv x.val) ∧ wx.cell? ⟨(ad.add (k * 4)).block, (ad.add (k * 4)).off + 2, none⟩ = some (.bool x.del) ∧ wx.cell? ⟨(ad.add (k * 4)).block, (ad.add (k * 4)).off + 3, none⟩ = some (.int .i64 x.seq) := fun hx => by
        obtain ⟨ad', hA, _, d⟩ := hcy hx
        cases hA
        exact d
      clear hcy
      have hxt : Value.string ((⟨x.key.toArray⟩ : ByteArray).extract 0 x.key.length) = sv x.key := ext_tail x.key 0
      have hdl : x.key.length ≤ 4096 := hkl
      have hel2 := enc7_ten (n := x.key.length) (by omega)
      have hel3 := enc7_ten (n := clamp x.seq) (clamp_le _)
      have hel4 := enc7_ten (n := 0) (by omega)
      have hel6 := enc7_ten (n := 1) (by omega)
      have hel5 := enc7_ten (n := x.val.length) (by omega)
      have hzx := sv_size x.key
      go_wp2_with fail
      refine (rnum_any 0).mono ?_
      rintro e w3 ⟨v3, rfl, o3, -, x3⟩
      rw [clamp_zero] at o3
      have G3 := G0.ext x3
      clear G0 x3 c0 c1 c2 c3
      go_wp2_with (first
        | ((with_reducible show wpList _ _ _ (⟨some 37, _, _, _, _, _⟩ :: _) _ _); refine wp_gw tyB G3 o3.sl rfl (.tmp 34) (.tmp 36) rfl rfl rfl (by (try simp only [List.length_append]); omega) ?_; intro v4 w4 G4; obtain ⟨c0, c1, c2, c3⟩ := hcx G4.ex)
        | ((with_reducible show wpList _ _ _ (⟨some 46, _, _, _, _, _⟩ :: _) _ _); refine wp_tob Tryd.underlying9 Tryd.underlying24 Tryd.underlying5 (l := x.key) (by omega) rfl (.tmp 45) rfl rfl ?_; intro cp w5 k1 k2 k3; clear k3; have G5 := G4.ext k2))
      refine (rbytes_any k1 (by omega)).mono ?_
      rintro e w6 ⟨v6, rfl, o6, -, x6⟩
      have G6 := G5.ext x6
      clear G3 o3 G4 G5 x6 k1 k2 c0 c1 c2 c3
      go_wp2_with ((with_reducible show wpList _ _ _ (⟨some 48, _, _, _, _, _⟩ :: _) _ _); refine wp_gw tyB G6 o6.sl rfl (.tmp 38) (.tmp 47) rfl rfl rfl (by (try simp only [List.length_append]); omega) ?_; intro v7 w7 G7; obtain ⟨c0, c1, c2, c3⟩ := hcx G7.ex)
      refine (rnum_any x.seq).mono ?_
      rintro e w8 ⟨v8, rfl, o8, -, x8⟩
      have G8 := G7.ext x8
      clear G6 o6 G7 x8 c0 c1 c2 c3
      cases hdel : x.del
      case true =>
        have hE2 : Hid (l0 ++ E = l0 ++ enc7 0 ++ (enc7 x.key.length ++ x.key) ++ enc7 (clamp x.seq) ++ enc7 1) := Lib.hid (by rw [hE.out, hdel]; simp)
        rw [hdel] at hcx
        clear hE hdel
        go_wp2_with ((with_reducible show wpList _ _ _ (⟨some 56, _, _, _, _, _⟩ :: _) _ _); refine wp_gw tyB G8 o8.sl rfl (.tmp 49) (.tmp 55) rfl rfl rfl (by (try simp only [List.length_append]); omega) ?_; intro v9 w9 G9; obtain ⟨c0, c1, c2, c3⟩ := hcx G9.ex)
        refine (rnum_any 1).mono ?_
        rintro e w10 ⟨v10, rfl, o10, -, x10⟩
        rw [clamp_one] at o10
        have G10 := G9.ext x10
        clear G8 o8 G9 x10 c0 c1 c2 c3
        go_wp2_with ((with_reducible show wpList _ _ _ (⟨some 64, _, _, _, _, _⟩ :: _) _ _); refine wp_gw tyB G10 o10.sl rfl (.tmp 62) (.tmp 63) rfl rfl rfl (by (try simp only [List.length_append]); omega) ?_; intro v11 w11 G11; obtain ⟨c0, c1, c2, c3⟩ := hcx G11.ex)
        rw [← hE2.out, ← hsn.out] at G11
        exact ⟨⟨k + 1, v11, by omega, by go_num, rfl, G11⟩, by simp [intOf] <;> omega⟩
      have hE2 : Hid (l0 ++ E = l0 ++ enc7 0 ++ (enc7 x.key.length ++ x.key) ++ enc7 (clamp x.seq) ++ enc7 0 ++ (enc7 x.val.length ++ x.val)) := Lib.hid (by rw [hE.out, hdel]; simp)
      rw [hdel] at hcx
      clear hE hdel
      go_wp2_with ((with_reducible show wpList _ _ _ (⟨some 56, _, _, _, _, _⟩ :: _) _ _); refine wp_gw tyB G8 o8.sl rfl (.tmp 49) (.tmp 55) rfl rfl rfl (by (try simp only [List.length_append]); omega) ?_; intro v9 w9 G9; obtain ⟨c0, c1, c2, c3⟩ := hcx G9.ex)
      refine (rnum_any 0).mono ?_
      rintro e w10 ⟨v10, rfl, o10, -, x10⟩
      rw [clamp_zero] at o10
      have G10 := G9.ext x10
      clear G8 o8 G9 x10 c0 c1 c2 c3
      go_wp2_with (first
        | ((with_reducible show wpList _ _ _ (⟨some 67, _, _, _, _, _⟩ :: _) _ _); refine wp_gw tyB G10 o10.sl rfl (.tmp 65) (.tmp 66) rfl rfl rfl (by (try simp only [List.length_append]); omega) ?_; intro v11 w11 G11; obtain ⟨c0, c1, c2, c3⟩ := hcx G11.ex)
        | ((with_reducible show wpList _ _ _ (⟨some 74, _, _, _, _, _⟩ :: _) _ _); refine wp_tob Tryd.underlying9 Tryd.underlying24 Tryd.underlying5 (l := x.val) (by omega) rfl (.tmp 73) rfl rfl ?_; intro cp2 w12 k1 k2 k3; clear k3; have G12 := G11.ext k2))
      refine (rbytes_any k1 (by omega)).mono ?_
      rintro e w13 ⟨v13, rfl, o13, -, x13⟩
      have G13 := G12.ext x13
      clear G10 o10 G11 G12 x13 k1 k2 c0 c1 c2 c3
      go_wp2_with ((with_reducible show wpList _ _ _ (⟨some 76, _, _, _, _, _⟩ :: _) _ _); refine wp_gw tyB G13 o13.sl rfl (.tmp 68) (.tmp 75) rfl rfl rfl (by (try simp only [List.length_append]); omega) ?_; intro v14 w14 G14; obtain ⟨c0, c1, c2, c3⟩ := hcx G14.ex)
      rw [← hE2.out, ← hsn.out] at G14
      exact ⟨⟨k + 1, v14, by omega, by go_num, rfl, G14⟩, by simp [intOf] <;> omega⟩
    obtain ⟨j, rfl⟩ : ∃ j, k = j + 1 := ⟨k - 1, by omega⟩
    have hb4 : ((((j : Int) + 1) % 4) != 0) = true := by rw [bne_iff_ne]; omega
    have hj : j < L.length := by omega
    have hah : aheadC L (j + 1) = L[j].key := by
      unfold aheadC
      rw [if_neg h4k, show j + 1 - 1 = j by omega, getD_c L hj]
    have hal := aheadC_len L hall (j + 1)
    rw [hah] at hsn hal
    have hcw := fun {wx : World} (hx : Ext w2 wx) => Cs.at_ (h4.ext hx) hj
    obtain ⟨E, hE⟩ : ∃ E, E = encC L[j].key L[j + 1] := ⟨_, rfl⟩
    rw [← hE] at hsn
    unfold encC at hE
    have hcm := comm_le L[j].key L[j + 1].key
    have hco := fun wx => common_any (w := wx) L[j].key L[j + 1].key (by omega) (by omega)
    obtain ⟨n, hn⟩ : ∃ n, n = comm L[j].key L[j + 1].key := ⟨_, rfl⟩
    rw [← hn] at hE hcm hco
    clear hn
    replace hE := Lib.hid hE
    replace hsn := Lib.hid hsn
    clear hah hgd hic h4k hen hwt
    generalize encTo L (j + 1) = l0 at *
    generalize L[j + 1] = x at *
    generalize L[j] = y at *
    have hcx : ∀ {wx : World}, Ext w2 wx → wx.cell? (ad.add (j * 4)) = some (sv y.key) ∧ wx.cell? (ad.add ((j + 1) * 4)) = some (sv x.key) ∧ wx.cell? ⟨(ad.add ((j + 1) * 4)).block, (ad.add ((j + 1) * 4)).off + 1, none⟩ = some (sv x.val) ∧ wx.cell? ⟨(ad.add ((j + 1) * 4)).block, (ad.add ((j + 1) * 4)).off + 2, none⟩ = some (.bool x.del) ∧ wx.cell? ⟨(ad.add ((j + 1) * 4)).block, (ad.add ((j + 1) * 4)).off + 3, none⟩ = some (.int .i64 x.seq) := fun hx => by
      obtain ⟨ad', hA, _, d⟩ := hcy hx
      obtain ⟨ad2, hA2, _, d2, _⟩ := hcw hx
      cases hA
      cases hA2
      exact ⟨d2, d⟩
    clear hcy hcw
    have hi2 : (j : Int) < (L.length : Int) := by omega
    have hi3 : (0 : Int) ≤ (j : Int) + 1 := by omega
    have hi4 : (j : Int) + 1 < (L.length : Int) := by omega
    have hi6 : (0 : Int) ≤ (j : Int) := by omega
    have hi5 : IntKind.i64.wrap (j : Int) = (j : Int) := by rw [IntKind.wrap_i64]; omega
    have q0 : Ext w2 wr.drew := G0.ex.drew
    go_wp2_with fail
    go_region_held3 (fun w' => w'.cell? (ad.add (j * 4)) = some (sv y.key) ∧ w'.cell? (ad.add ((j + 1) * 4)) = some (sv x.key) ∧ w'.cell? ⟨(ad.add ((j + 1) * 4)).block, (ad.add ((j + 1) * 4)).off + 1, none⟩ = some (sv x.val) ∧ w'.cell? ⟨(ad.add ((j + 1) * 4)).block, (ad.add ((j + 1) * 4)).off + 2, none⟩ = some (.bool x.del) ∧ w'.cell? ⟨(ad.add ((j + 1) * 4)).block, (ad.add ((j + 1) * 4)).off + 3, none⟩ = some (.int .i64 x.seq)) (first | exact hcx q0 | exact hcx q1) (first
      | (go_at_call 67; (with_reducible refine (hco _).mono ?_); rintro e wa ⟨rfl, xa⟩; have q1 := ext_trans q0 xa))
    replace G0 := G0.ext (ext_trans ((Mod.refl _ wr).drew) xa)
    obtain ⟨-, c0, c1, c2, c3⟩ := hcx G0.ex
    clear hi5 q0 q1 xa hco
    replace hcx : ∀ {wx : World}, Ext w2 wx → wx.cell? (ad.add ((j + 1) * 4)) = some (sv x.key) ∧ wx.cell? ⟨(ad.add ((j + 1) * 4)).block, (ad.add ((j + 1) * 4)).off + 1, none⟩ = some (sv x.val) ∧ wx.cell? ⟨(ad.add ((j + 1) * 4)).block, (ad.add ((j + 1) * 4)).off + 2, none⟩ = some (.bool x.del) ∧ wx.cell? ⟨(ad.add ((j + 1) * 4)).block, (ad.add ((j + 1) * 4)).off + 3, none⟩ = some (.int .i64 x.seq) := fun hx => (hcx hx).2
    have hxt := ext_tail x.key n
    have hn0 : (0 : Int) ≤ (n : Int) := by omega
    have hn1 : (n : Int) ≤ (x.key.length : Int) := by omega
    have hdl : (x.key.drop n).length ≤ 4096 := by rw [List.length_drop]; omega
    have hel1 := enc7_ten (n := n) (by omega)
    have hel2 := enc7_ten (n := (x.key.drop n).length) (by omega)
    have hel3 := enc7_ten (n := clamp x.seq) (clamp_le _)
    have hel4 := enc7_ten (n := 0) (by omega)
    have hel6 := enc7_ten (n := 1) (by omega)
    have hel5 := enc7_ten (n := x.val.length) (by omega)
    generalize x.key.drop n = kd at *
    go_wp2_with fail
    refine (rnum_any (n : Int)).mono ?_
    rintro e w3 ⟨v3, rfl, o3, -, x3⟩
    rw [clamp_nat n (by omega)] at o3
    have G3 := G0.ext x3
    clear G0 x3 c0 c1 c2 c3
    go_wp2_with (first
      | ((with_reducible show wpList _ _ _ (⟨some 37, _, _, _, _, _⟩ :: _) _ _); refine wp_gw tyB G3 o3.sl rfl (.tmp 34) (.tmp 36) rfl rfl rfl (by (try simp only [List.length_append]); omega) ?_; intro v4 w4 G4; obtain ⟨c0, c1, c2, c3⟩ := hcx G4.ex)
      | ((with_reducible show wpList _ _ _ (⟨some 46, _, _, _, _, _⟩ :: _) _ _); refine wp_tob Tryd.underlying9 Tryd.underlying24 Tryd.underlying5 (l := kd) (by omega) rfl (.tmp 45) rfl rfl ?_; intro cp w5 k1 k2 k3; clear k3; have G5 := G4.ext k2))
    refine (rbytes_any k1 (by omega)).mono ?_
    rintro e w6 ⟨v6, rfl, o6, -, x6⟩
    have G6 := G5.ext x6
    clear G3 o3 G4 G5 x6 k1 k2 c0 c1 c2 c3
    go_wp2_with ((with_reducible show wpList _ _ _ (⟨some 48, _, _, _, _, _⟩ :: _) _ _); refine wp_gw tyB G6 o6.sl rfl (.tmp 38) (.tmp 47) rfl rfl rfl (by (try simp only [List.length_append]); omega) ?_; intro v7 w7 G7; obtain ⟨c0, c1, c2, c3⟩ := hcx G7.ex)
    refine (rnum_any x.seq).mono ?_
    rintro e w8 ⟨v8, rfl, o8, -, x8⟩
    have G8 := G7.ext x8
    clear G6 o6 G7 x8 c0 c1 c2 c3
    cases hdel : x.del
    case true =>
      have hE2 : Hid (l0 ++ E = l0 ++ enc7 n ++ (enc7 kd.length ++ kd) ++ enc7 (clamp x.seq) ++ enc7 1) := Lib.hid (by rw [hE.out, hdel]; simp)
      rw [hdel] at hcx
      clear hE hdel
      go_wp2_with ((with_reducible show wpList _ _ _ (⟨some 56, _, _, _, _, _⟩ :: _) _ _); refine wp_gw tyB G8 o8.sl rfl (.tmp 49) (.tmp 55) rfl rfl rfl (by (try simp only [List.length_append]); omega) ?_; intro v9 w9 G9; obtain ⟨c0, c1, c2, c3⟩ := hcx G9.ex)
      refine (rnum_any 1).mono ?_
      rintro e w10 ⟨v10, rfl, o10, -, x10⟩
      rw [clamp_one] at o10
      have G10 := G9.ext x10
      clear G8 o8 G9 x10 c0 c1 c2 c3
      go_wp2_with ((with_reducible show wpList _ _ _ (⟨some 64, _, _, _, _, _⟩ :: _) _ _); refine wp_gw tyB G10 o10.sl rfl (.tmp 62) (.tmp 63) rfl rfl rfl (by (try simp only [List.length_append]); omega) ?_; intro v11 w11 G11; obtain ⟨c0, c1, c2, c3⟩ := hcx G11.ex)
      rw [← hE2.out, ← hsn.out] at G11
      exact ⟨⟨j + 1 + 1, v11, by omega, by go_num, rfl, G11⟩, by simp [intOf] <;> omega⟩
    have hE2 : Hid (l0 ++ E = l0 ++ enc7 n ++ (enc7 kd.length ++ kd) ++ enc7 (clamp x.seq) ++ enc7 0 ++ (enc7 x.val.length ++ x.val)) := Lib.hid (by rw [hE.out, hdel]; simp)
    rw [hdel] at hcx
    clear hE hdel
    go_wp2_with ((with_reducible show wpList _ _ _ (⟨some 56, _, _, _, _, _⟩ :: _) _ _); refine wp_gw tyB G8 o8.sl rfl (.tmp 49) (.tmp 55) rfl rfl rfl (by (try simp only [List.length_append]); omega) ?_; intro v9 w9 G9; obtain ⟨c0, c1, c2, c3⟩ := hcx G9.ex)
    refine (rnum_any 0).mono ?_
    rintro e w10 ⟨v10, rfl, o10, -, x10⟩
    rw [clamp_zero] at o10
    have G10 := G9.ext x10
    clear G8 o8 G9 x10 c0 c1 c2 c3
    go_wp2_with (first
      | ((with_reducible show wpList _ _ _ (⟨some 67, _, _, _, _, _⟩ :: _) _ _); refine wp_gw tyB G10 o10.sl rfl (.tmp 65) (.tmp 66) rfl rfl rfl (by (try simp only [List.length_append]); omega) ?_; intro v11 w11 G11; obtain ⟨c0, c1, c2, c3⟩ := hcx G11.ex)
      | ((with_reducible show wpList _ _ _ (⟨some 74, _, _, _, _, _⟩ :: _) _ _); refine wp_tob Tryd.underlying9 Tryd.underlying24 Tryd.underlying5 (l := x.val) (by omega) rfl (.tmp 73) rfl rfl ?_; intro cp2 w12 k1 k2 k3; clear k3; have G12 := G11.ext k2))
    refine (rbytes_any k1 (by omega)).mono ?_
    rintro e w13 ⟨v13, rfl, o13, -, x13⟩
    have G13 := G12.ext x13
    clear G10 o10 G11 G12 x13 k1 k2 c0 c1 c2 c3
    go_wp2_with ((with_reducible show wpList _ _ _ (⟨some 76, _, _, _, _, _⟩ :: _) _ _); refine wp_gw tyB G13 o13.sl rfl (.tmp 68) (.tmp 75) rfl rfl rfl (by (try simp only [List.length_append]); omega) ?_; intro v14 w14 G14; obtain ⟨c0, c1, c2, c3⟩ := hcx G14.ex)
    rw [← hE2.out, ← hsn.out] at G14
    exact ⟨⟨j + 1 + 1, v14, by omega, by go_num, rfl, G14⟩, by simp [intOf] <;> omega⟩
end Go.Proofs.YthohghnfiicndaaDoor
namespace Go.Proofs.YthohghnfiicndaaDoor
open Go.RowKit
set_option maxRecDepth 100000

theorem OwnR.lit0 {α : Type} (f : α → List Value) (k : Nat) (w : World) (e : TypeId) : OwnR f k (w.alloc (.cells #[] e)) e (.slice (some ⟨w.heap.size, 0, none⟩) 0 0) [] :=
  ⟨by simp, .inr ⟨w.heap.size, 0, #[], rfl, Nat.zero_le _, heap_alloc_new w _, Nat.zero_le _, Nat.zero_le _, by simp, by simp⟩⟩
theorem flat_ok {L : List Ce} : ∀ u ∈ L.flatMap cel, u.oneCell' = true := by
  intro u hu
  obtain ⟨c, _, hc⟩ := List.mem_flatMap.1 hu
  exact cel_ok c u hc

end Go.Proofs.YthohghnfiicndaaDoor

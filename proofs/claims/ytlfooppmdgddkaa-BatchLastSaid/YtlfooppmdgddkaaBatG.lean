/- batch: the law Last. -/
import Derived.Test.YtlfooppmdgddkaaBatF
import Derived.Laws.Cover1
namespace Go.Proofs.Ytlfooppmdgddkaa
open Go.RowKit Go.ChangeShapes
set_option maxRecDepth 100000

set_option maxHeartbeats 32000000 in
theorem batchLast_walk {w : World} {S : Nat → Prop} {v : Value} {L : List Ro} {s : Int} (h : Rs w S v L) (hf : MFits L) :
    Calls Try.prog 17 #[v, .int .i64 s] w fun e w' => e = .returned (.bool true) ∧ Ext w w' := by
  have hheavy := heavy10_any h hf
  have hkn := fun wx => known10_any (w := wx)
  have hcl := fun (wx : World) (hx : Ext w wx) (hl : L.length ≤ 100000) => bcells_any sortC_holds (s := s) (h.ext hx) hf hl
  have hrise : ∀ i j (hij : i < j) (hj : j < (cellsB s L).length), Op.bytesLess ((cellsB s L)[i]'(Nat.lt_trans hij hj)).key (cellsB s L)[j].key = true := fun i j hij hj => cellsB_rise hij hj
  have hmem := fun c => mem_cellsB s L c
  have hhas := fun i (hi : i < L.length) => cellsB_has (s := s) hi
  have hclen := cellsB_len s L
  generalize cellsB s L = C at hcl hrise hmem hhas hclen
  replace hrise := Lib.hid hrise
  replace hmem := Lib.hid hmem
  replace hhas := Lib.hid hhas
  obtain ⟨A, c, rfl, h1, h2, h3, h4⟩ := h.open_ rol_len
  clear h
  go_enter Try.func17, Try.ntmps17
  go_wp2_with fail
  refine hheavy.mono ?_
  rintro e w1 ⟨q, rfl, hq, x1⟩
  clear hheavy
  cases q
  case true =>
    clear hq
    go_wp2_with fail
    go_ret
    exact ⟨rfl, x1⟩
  obtain ⟨_, hl⟩ := hq rfl
  clear hq
  go_wp2_with fail
  refine (hcl _ x1 (by omega)).mono ?_
  rintro e w2 ⟨vc, rfl, o2, -, x2⟩
  replace x2 := ext_trans x1 x2
  clear hcl x1
  obtain ⟨B, d, rfl, j1, j2, j3, j4⟩ := o2.rc.open_ cel_len
  clear o2
  go_wp2_with fail
  go_loopw [6] (fun i wr => ∃ k : Nat, k ≤ C.length ∧ i = .int .i64 k ∧ Ext w2 wr) (fun i _ => C.length - (intOf i).toNat)
  case atStart => exact ⟨0, Nat.zero_le _, rfl, Mod.refl _ _⟩
  case round =>
    obtain ⟨k, hk, rfl, hxr⟩ := hrel
    by_cases hlt : k < C.length
    case neg =>
      have hbl : decide ((k : Int) < (C.length : Int)) = false := dfalse (by omega)
      clear hmem hrise
      go_wp2_with fail
      go_loopw [8] (fun i wr => ∃ k : Nat, k ≤ L.length ∧ i = .int .i64 k ∧ Ext w2 wr) (fun i _ => L.length - (intOf i).toNat)
      case atStart => exact ⟨0, Nat.zero_le _, rfl, hxr⟩
      case round =>
        clear hxr
        obtain ⟨i, hi, rfl, hxr⟩ := hrel
        by_cases hlt2 : i < L.length
        case neg =>
          have hbl2 : decide ((i : Int) < (L.length : Int)) = false := dfalse (by omega)
          go_wp2_with fail
          refine (hkn _).mono ?_
          rintro e w9 ⟨rfl, x9⟩
          go_wp2_with fail
          go_ret
          exact ⟨rfl, ext_trans x2 (ext_trans hxr x9)⟩
        have hbl2 : decide ((i : Int) < (L.length : Int)) = true := dtrue (by omega)
        have hha := Lib.hid (hhas.out i hlt2)
        go_wp2_with fail
        go_loopw [9] (fun j wr => ∃ k : Nat, k ≤ C.length ∧ j = .int .i64 k ∧ Hid (∀ j (hj : j < C.length), j < k → C[j].key ≠ L[i].key) ∧ Ext w2 wr) (fun i _ => C.length - (intOf i).toNat)
        case atStart => exact ⟨0, Nat.zero_le _, rfl, Lib.hid (fun j hj h => by omega), hxr⟩
        case round =>
          clear hxr
          obtain ⟨j, hj, rfl, hno, hxr⟩ := hrel
          have hjl : j < C.length := by
            rcases Nat.lt_or_ge j C.length with h | h
            · exact h
            · obtain ⟨x, hx, e⟩ := hha.out
              obtain ⟨m, hm, rfl⟩ := List.mem_iff_getElem.1 hx
              exact absurd e (hno.out m hm (by omega))
          have hbj : decide ((j : Int) < (C.length : Int)) = true := dtrue (by omega)
          have hbe : ((j : Int) == (C.length : Int)) = false := by rw [beq_eq_false_iff_ne]; omega
          obtain ⟨ad, hA, -, c0, -, -⟩ := Rs.at_ (h4.ext (ext_trans x2 hxr)) hlt2
          subst hA
          obtain ⟨bd, hB, -, d0, -, -, -⟩ := Cs.at_ (j4.ext hxr) hjl
          subst hB
          have i0 : (0 : Int) ≤ (i : Int) := by omega
          have i1 : (i : Int) < (L.length : Int) := by omega
          have i2 : (0 : Int) ≤ (j : Int) := by omega
          have i3 : (j : Int) < (C.length : Int) := by omega
          have hno2 : C[j].key ≠ L[i].key → Hid (∀ j' (hj : j' < C.length), j' < j + 1 → C[j'].key ≠ L[i].key) := fun hn => Lib.hid (fun j' hj' h => by
            by_cases e : j' = j
            · subst e; exact hn
            · exact hno.out j' hj' (by omega))
          obtain ⟨P, hP⟩ : ∃ P : Prop, P = (∀ j' (hj : j' < C.length), j' < j + 1 → C[j'].key ≠ L[i].key) := ⟨_, rfl⟩
          rw [← hP] at hno2
          replace hP := Lib.hid hP
          clear hno hha hhas
          generalize L[i] = x at *
          generalize C[j] = y at *
          have hdw : ∀ m, Ext w2 (wr.drewN m) := fun m => hxr.drewN m
          cases hkk : (y.key == x.key)
          case false =>
            have hp := hno2 (by rw [beq_eq_false_iff_ne] at hkk; exact hkk)
            clear hno2
            go_wp2_with fail
            go_quiet (fail)
            go_wp2_with fail
            exact ⟨⟨j + 1, by omega, by go_num, Lib.hid (hP.out ▸ hp.out), hdw _⟩, by simp [intOf] <;> omega⟩
          clear hno2
          go_wp2_with fail
          go_quiet (fail)
          go_wp2_with fail
          exact ⟨⟨i + 1, by omega, by go_num, hdw _⟩, by simp [intOf] <;> omega⟩
    have hbl : decide ((k : Int) < (C.length : Int)) = true := dtrue (by omega)
    have i0 : (0 : Int) ≤ (k : Int) := by omega
    have i1 : (k : Int) < (C.length : Int) := by omega
    have hdw : ∀ m, Ext w2 (wr.drewN m) := fun m => hxr.drewN m
    obtain ⟨n0, hn0, hl0, he0⟩ := (hmem.out C[k]).1 (List.getElem_mem _)
    have hcells := fun {wx : World} (hx : Ext w2 wx) => Cs.at_ (j4.ext hx) hlt
    rw [he0] at hcells
    have hold := fun {wx : World} (hx : Ext w2 wx) n (hn : n < L.length) => Rs.at_ (h4.ext (ext_trans x2 hx)) hn
    have hbig : ∀ n (hn : n < L.length), n0 ≤ n → ¬ n = n0 → L[n].key ≠ L[n0].key := fun n hn h1 h2 => hl0.2 n hn (by omega)
    obtain ⟨bd, hB, -⟩ := hcells hxr
    subst hB
    replace hcells : ∀ {wx : World}, Ext w2 wx → wx.cell? (bd.add (k * 4)) = some (sv L[n0].key) ∧ wx.cell? ⟨(bd.add (k * 4)).block, (bd.add (k * 4)).off + 1, none⟩ = some (sv L[n0].val) ∧ wx.cell? ⟨(bd.add (k * 4)).block, (bd.add (k * 4)).off + 2, none⟩ = some (.bool L[n0].del) ∧ wx.cell? ⟨(bd.add (k * 4)).block, (bd.add (k * 4)).off + 3, none⟩ = some (.int .i64 s) := fun hx => by
      obtain ⟨bd', hB, -, h⟩ := hcells hx
      cases hB
      exact h
    replace hbig := Lib.hid hbig
    have hrk : 0 < k → ∀ {wx : World}, Ext w2 wx → ∃ y : List UInt8, wx.cell? (bd.add ((k - 1) * 4)) = some (sv y) ∧ Op.bytesLess y L[n0].key = true := fun hk1 wx hx => by
      have h1 := hrise.out (k - 1) k (by omega) hlt
      rw [he0] at h1
      obtain ⟨bd', hB, -, h, -⟩ := Cs.at_ (j4.ext hx) (show k - 1 < C.length by omega)
      cases hB
      exact ⟨_, h, h1⟩
    clear hmem hhas he0 hl0
    clear hrise
    by_cases hk0 : k = 0
    case pos =>
      have hb0 : decide (0 < k) = false := dfalse (by omega)
      clear hk0 hrk
      go_wp2_with fail
      go_quiet (fail)
      have y2 := hdw nq
      clear hdw hxr
      have hln : ((L.length : Int) - 1) = ((L.length - 1 : Nat) : Int) := by omega
      go_wp2_with fail
      clear hln
      go_loopw [7] (fun i wx => ∃ n : Nat, n < L.length ∧ n0 ≤ n ∧ i = .int .i64 (n : Int) ∧ Ext w2 wx) (fun i _ => (intOf i).toNat)
      case atStart => exact ⟨L.length - 1, by omega, by omega, rfl, y2⟩
      case round =>
        clear y2
        obtain ⟨n, hn, hnn, rfl, y2⟩ := hrel
        obtain ⟨ad, hA, -, a0, a1, a2⟩ := hold y2 n hn
        subst hA
        obtain ⟨d0, d1, d2, d3⟩ := hcells y2
        have hdw : ∀ m, Ext w2 (wr.drewN m) := fun m => y2.drewN m
        have q0 : (0 : Int) ≤ (n : Int) := by omega
        have q1 : (n : Int) < (L.length : Int) := by omega
        have hbn : decide ((0 : Int) ≤ (n : Int)) = true := dtrue (by omega)
        have hbn2 : decide ((n : Int) < 0) = false := dfalse (by omega)
        by_cases hnq : n = n0
        case pos =>
          subst hnq
          clear hold hcells hbig
          generalize L[n] = x at *
          have hkk : (x.key == x.key) = true := beq_self_eq_true _
          have hvv : (x.val == x.val) = true := beq_self_eq_true _
          go_wp2_with fail
          go_quiet (fail)
          go_wp2_with fail
          have b0 : (wr.drewN nq).cell? _ = _ := a0
          have b1 : (wr.drewN nq).cell? _ = _ := a1
          have b2 : (wr.drewN nq).cell? _ = _ := a2
          have e0 : (wr.drewN nq).cell? _ = _ := d0
          have e1 : (wr.drewN nq).cell? _ = _ := d1
          have e2 : (wr.drewN nq).cell? _ = _ := d2
          have e3 : (wr.drewN nq).cell? _ = _ := d3
          have y3 := hdw nq
          clear a0 a1 a2 d0 d1 d2 d3 hdw y2
          generalize wr.drewN nq = w7 at *
          have hdw : ∀ m, Ext w2 (w7.drewN m) := fun m => y3.drewN m
          have hdd : (x.del == x.del) = true := beq_self_eq_true _
          have hss : (s == s) = true := beq_self_eq_true _
          go_quiet (fail)
          go_wp2_with fail
          exact ⟨⟨k + 1, by omega, by go_num, hdw _⟩, by simp [intOf] <;> omega⟩
        have hne := hbig.out n hn hnn hnq
        have hkk : (L[n].key == L[n0].key) = false := beq_eq_false_iff_ne.2 hne
        clear hold hcells hbig hne
        generalize L[n] = x at *
        generalize L[n0] = x0 at *
        go_wp2_with fail
        go_quiet (fail)
        go_wp2_with fail
        exact ⟨⟨n - 1, by omega, by omega, by congr 1; omega, hdw _⟩, by simp [intOf] <;> omega⟩
    obtain ⟨y, e0, hlss⟩ := hrk (by omega) hxr
    obtain ⟨d0, -⟩ := hcells hxr
    have hb0 : decide (0 < k) = true := dtrue (by omega)
    have i2 : (0 : Int) ≤ (k : Int) - 1 := by omega
    have i3 : (k : Int) - 1 < (C.length : Int) := by omega
    clear hrk
    go_wp2_with fail
    go_quiet (fail)
    clear d0 e0
    have y2 := hdw nq
    clear hdw hxr
    have hln : ((L.length : Int) - 1) = ((L.length - 1 : Nat) : Int) := by omega
    go_wp2_with fail
    clear hln
    go_loopw [7] (fun i wx => ∃ n : Nat, n < L.length ∧ n0 ≤ n ∧ i = .int .i64 (n : Int) ∧ Ext w2 wx) (fun i _ => (intOf i).toNat)
    case atStart => exact ⟨L.length - 1, by omega, by omega, rfl, y2⟩
    case round =>
      clear y2
      obtain ⟨n, hn, hnn, rfl, y2⟩ := hrel
      obtain ⟨ad, hA, -, a0, a1, a2⟩ := hold y2 n hn
      subst hA
      obtain ⟨d0, d1, d2, d3⟩ := hcells y2
      have hdw : ∀ m, Ext w2 (wr.drewN m) := fun m => y2.drewN m
      have q0 : (0 : Int) ≤ (n : Int) := by omega
      have q1 : (n : Int) < (L.length : Int) := by omega
      have hbn : decide ((0 : Int) ≤ (n : Int)) = true := dtrue (by omega)
      have hbn2 : decide ((n : Int) < 0) = false := dfalse (by omega)
      by_cases hnq : n = n0
      case pos =>
        subst hnq
        clear hold hcells hbig
        generalize L[n] = x at *
        have hkk : (x.key == x.key) = true := beq_self_eq_true _
        have hvv : (x.val == x.val) = true := beq_self_eq_true _
        go_wp2_with fail
        go_quiet (fail)
        go_wp2_with fail
        have b0 : (wr.drewN nq).cell? _ = _ := a0
        have b1 : (wr.drewN nq).cell? _ = _ := a1
        have b2 : (wr.drewN nq).cell? _ = _ := a2
        have e0 : (wr.drewN nq).cell? _ = _ := d0
        have e1 : (wr.drewN nq).cell? _ = _ := d1
        have e2 : (wr.drewN nq).cell? _ = _ := d2
        have e3 : (wr.drewN nq).cell? _ = _ := d3
        have y3 := hdw nq
        clear a0 a1 a2 d0 d1 d2 d3 hdw y2
        generalize wr.drewN nq = w7 at *
        have hdw : ∀ m, Ext w2 (w7.drewN m) := fun m => y3.drewN m
        have hdd : (x.del == x.del) = true := beq_self_eq_true _
        have hss : (s == s) = true := beq_self_eq_true _
        go_quiet (fail)
        go_wp2_with fail
        exact ⟨⟨k + 1, by omega, by go_num, hdw _⟩, by simp [intOf] <;> omega⟩
      have hne := hbig.out n hn hnn hnq
      have hkk : (L[n].key == L[n0].key) = false := beq_eq_false_iff_ne.2 hne
      clear hold hcells hbig hne
      generalize L[n] = x at *
      generalize L[n0] = x0 at *
      go_wp2_with fail
      go_quiet (fail)
      go_wp2_with fail
      exact ⟨⟨n - 1, by omega, by omega, by congr 1; omega, hdw _⟩, by simp [intOf] <;> omega⟩
end Go.Proofs.Ytlfooppmdgddkaa

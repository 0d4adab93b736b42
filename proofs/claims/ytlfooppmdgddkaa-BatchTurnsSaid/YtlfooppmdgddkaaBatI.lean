/- batch: the law Turns. -/
import Derived.Test.YtlfooppmdgddkaaBatF
namespace Go.Proofs.Ytlfooppmdgddkaa
open Go.RowKit Go.ChangeShapes
set_option maxRecDepth 100000

/-- No two rows are of one key. -/
def ApartR (L : List Ro) : Prop := ∀ i j (hi : i < L.length) (hj : j < L.length), i < j → L[i].key ≠ L[j].key
theorem apart_last {L : List Ro} (h : ApartR L) {i : Nat} (hi : i < L.length) : lastI L i := ⟨hi, fun j hj hij => (h i j hi hj hij).symm⟩
theorem apart_rev {L : List Ro} (h : ApartR L) : ApartR L.reverse := fun i j hi hj hij => by
  rw [List.length_reverse] at hi hj
  rw [List.getElem_reverse, List.getElem_reverse]
  exact (h _ _ (by omega) (by omega) (by omega)).symm
theorem apart_mem {L : List Ro} (h : ApartR L) (s : Int) (c : Ce) : c ∈ cellsB s L ↔ ∃ r ∈ L, c = cellR r s := by
  rw [mem_cellsB]
  constructor
  · rintro ⟨i, hi, _, e⟩
    exact ⟨L[i], List.getElem_mem _, e⟩
  · rintro ⟨r, hr, e⟩
    obtain ⟨i, hi, rfl⟩ := List.mem_iff_getElem.1 hr
    exact ⟨i, hi, apart_last h hi, e⟩
theorem apart_turns {L : List Ro} (h : ApartR L) (s : Int) : cellsB s L.reverse = cellsB s L :=
  sorted_ext (cellsB_sorted s _) (cellsB_sorted s _) fun c => by
    rw [apart_mem h, apart_mem (apart_rev h)]
    simp
theorem apart_len {s : Int} : ∀ {L : List Ro}, ApartR L → (cellsB s L).length = L.length
  | [], _ => rfl
  | a :: L, h => by
    have h2 : ApartR L := fun i j hi hj hij => by
      have := h (i + 1) (j + 1) (by simpa using hi) (by simpa using hj) (by omega)
      simpa using this
    have hk : hasK L a.key = false := by
      rw [hasK_no]
      intro r hr
      obtain ⟨j, hj, rfl⟩ := List.mem_iff_getElem.1 hr
      have := h 0 (j + 1) (by simp) (by simpa using hj) (by omega)
      exact fun e => this (by simpa using e.symm)
    unfold cellsB
    rw [hk, if_neg (by decide), ins_length, apart_len h2, List.length_cons]
theorem drop_cons {L : List Ro} {k : Nat} (h : k < L.length) : (L.drop (k + 1)).reverse ++ [L[k]] = (L.drop k).reverse := by
  rw [List.drop_eq_getElem_cons h, List.reverse_cons]

set_option maxHeartbeats 32000000 in
theorem batchTurns_walk {w : World} {S : Nat → Prop} {v : Value} {L : List Ro} {s : Int} (h : Rs w S v L) (hf : MFits L) :
    Calls Try.prog 18 #[v, .int .i64 s] w fun e w' => e = .returned (.bool true) ∧ Ext w w' := by
  have hheavy := heavy10_any h hf
  have hkn := fun wx => known10_any (w := wx)
  have hcl := fun (wx : World) (hx : Ext w wx) (hl : L.length ≤ 100000) => bcells_any sortC_holds (s := s) (h.ext hx) hf hl
  have hcr := fun (wx : World) (u : Value) (M : List Ro) (hu : OwnW wx u M) (hM : MFits M) (hl : M.length ≤ 100000) => bcells_any sortC_holds (s := s) hu.rc hM hl
  obtain ⟨A, c, rfl, h1, h2, h3, h4⟩ := h.open_ rol_len
  clear h
  go_enter Try.func18, Try.ntmps18
  go_wp2_with fail
  refine hheavy.mono ?_
  rintro e w1 ⟨q, rfl, hq, x1⟩
  clear hheavy
  cases q
  case true =>
    clear hq hcl hcr
    go_wp2_with fail
    go_ret
    exact ⟨rfl, x1⟩
  obtain ⟨_, hl⟩ := hq rfl
  clear hq
  go_wp2_with fail
  go_loopw [5, 6] (fun t i wr => ∃ m : Nat, m ≤ L.length ∧ i = .int .i64 ((m : Int) - 1) ∧ OwnW wr t (L.drop m).reverse ∧ Fresh w1.heap.size t ∧ Hid (∀ i j (hi : i < L.length) (hj : j < L.length), i < j → m ≤ j → L[i].key ≠ L[j].key) ∧ Ext w1 wr) (fun _ i _ => (intOf i + 1).toNat)
  case atStart => exact ⟨L.length, Nat.le_refl _, rfl, by rw [List.drop_length]; exact OwnR.nil _ _ _ _, fresh_nil _ _ _, Lib.hid (fun i j hi hj h1 h2 => by omega), Mod.refl _ _⟩
  case round =>
    obtain ⟨m, hm, rfl, o1, f1, hap, y1⟩ := hrel
    by_cases hm0 : m = 0
    case pos =>
      subst hm0
      have hapL : ApartR L := fun i j hi hj hij => hap.out i j hi hj hij (Nat.zero_le _)
      have hA1 := apart_turns hapL s
      have hA2 := apart_len (s := s) hapL
      have hlr : L.reverse.length = L.length := List.length_reverse
      rw [List.drop_zero] at o1
      have hfr : MFits L.reverse := ⟨fun c hc => hf.1 c (List.mem_reverse.1 hc), by rw [hlr]; exact hf.2⟩
      have hcr2 := fun (wx : World) (hu : OwnW wx u5 L.reverse) => hcr wx u5 L.reverse hu hfr (by omega)
      rw [hA1] at hcr2
      generalize cellsB s L = C at *
      generalize L.reverse = R at *
      have hC2 := Lib.hid hA2
      clear hA1 hcr hapL hap hfr hA2 hlr
      go_wp2_with fail
      refine (hcl _ (ext_trans x1 y1) (by omega)).mono ?_
      rintro e w2 ⟨va, rfl, oa, -, x2⟩
      have o2 := o1.mod x2 (fun _ _ h => h)
      have z2 := ext_trans x1 (ext_trans y1 x2)
      clear hcl o1
      go_wp2_with fail
      refine (hcr2 _ o2).mono ?_
      rintro e w3 ⟨vb, rfl, ob, -, x3⟩
      replace oa := oa.ext x3
      have z3 := ext_trans z2 x3
      clear hcr2 o2
      obtain ⟨B, d, rfl, j1, j2, j3, j4⟩ := oa.rc.open_ cel_len
      obtain ⟨B', d', rfl, k1, k2, k3, k4⟩ := ob.rc.open_ cel_len
      clear oa ob
      have hcc : ((C.length : Int) != (L.length : Int)) = false := by rw [bne_eq_false_iff_eq, hC2.out]
      go_wp2_with fail
      go_loopw [10] (fun i wr => ∃ k : Nat, k ≤ C.length ∧ i = .int .i64 k ∧ Ext w3 wr) (fun i _ => C.length - (intOf i).toNat)
      case atStart => exact ⟨0, Nat.zero_le _, rfl, Mod.refl _ _⟩
      case round =>
        obtain ⟨k, hk, rfl, y3⟩ := hrel
        by_cases hlt : k < C.length
        case neg =>
          have hbl : decide ((k : Int) < (C.length : Int)) = false := dfalse (by omega)
          go_wp2_with fail
          refine (hkn _).mono ?_
          rintro e w9 ⟨rfl, x9⟩
          go_wp2_with fail
          go_ret
          exact ⟨rfl, ext_trans z3 (ext_trans y3 x9)⟩
        have hbl : decide ((k : Int) < (C.length : Int)) = true := dtrue (by omega)
        obtain ⟨ad, hA, hS, c0, c1, c2, c3⟩ := Cs.at_ (j4.ext y3) hlt
        subst hA
        obtain ⟨bd, hB, hT, d0, d1, d2, d3⟩ := Cs.at_ (k4.ext y3) hlt
        subst hB
        have hi0 : (0 : Int) ≤ (k : Int) := by omega
        have hi1 : (k : Int) < (C.length : Int) := by omega
        generalize C[k] = x at *
        have hgu := fun wx a b => guardC wx .neq a b (car x) (car x)
        have hne : ∀ wx, (binOp .neq 23 (.agg (car x)) (.agg (car x))).run Try.prog wx = .ok (.bool false) wx := fun wx => by rw [neqC, dtrue rfl]; rfl
        have hdw : ∀ m, Ext w3 (wr.drewN m) := fun m => y3.drewN m
        go_wp2_with fail
        go_quiet (fail)
        go_wp2_with fail
        exact ⟨⟨k + 1, by omega, by go_num, hdw _⟩, by simp [intOf] <;> omega⟩
    obtain ⟨k, rfl⟩ : ∃ k, m = k + 1 := ⟨m - 1, by omega⟩
    have hk1 : ((k + 1 : Nat) : Int) - 1 = (k : Int) := by omega
    have hk0 : decide ((0 : Int) ≤ (k : Int)) = true := dtrue (by omega)
    have hkl : k < L.length := by omega
    rw [hk1]
    replace hk1 := Lib.hid hk1
    go_wp2_with fail
    go_loopw [7] (fun i wr => ∃ j : Nat, j ≤ k ∧ i = .int .i64 (j : Nat) ∧ OwnW wr u5 (L.drop (k + 1)).reverse ∧ Hid (∀ i (hi : i < L.length), i < j → L[i].key ≠ L[k].key) ∧ Ext w1 wr) (fun i _ => k - (intOf i).toNat)
    case atStart => exact ⟨0, Nat.zero_le _, rfl, o1, Lib.hid (fun i hi h => by omega), y1⟩
    case round =>
      clear o1 y1
      obtain ⟨j, hj, rfl, o1, hB, y1⟩ := hrel
      by_cases hjk : j < k
      case neg =>
        have hbj : decide ((j : Int) < (k : Int)) = false := dfalse (by omega)
        obtain ⟨ad, hA, hS, c0, c1, c2⟩ := Rs.at_ (h4.ext (ext_trans x1 y1)) hkl
        subst hA
        have hsn := drop_cons hkl
        have hap2 : Hid (∀ i j (hi : i < L.length) (hj : j < L.length), i < j → k ≤ j → L[i].key ≠ L[j].key) := Lib.hid (fun i j' hi hj' h1 h2 => by
          by_cases e : j' = k
          · subst e; exact hB.out i hi (by omega)
          · exact hap.out i j' hi hj' h1 (by omega))
        have hi0 : (0 : Int) ≤ (k : Int) := by omega
        have hi1 : (k : Int) < (L.length : Int) := by omega
        have hdl : (L.drop (k + 1)).reverse.length ≤ 1000 := by rw [List.length_reverse, List.length_drop]; omega
        obtain ⟨M2, hM2⟩ : ∃ M2, M2 = (L.drop k).reverse := ⟨_, rfl⟩
        rw [← hM2] at hsn
        replace hM2 := Lib.hid hM2
        generalize (L.drop (k + 1)).reverse = M at *
        obtain ⟨P, hP⟩ : ∃ P : Prop, P = (∀ i j (hi : i < L.length) (hj : j < L.length), i < j → k ≤ j → L[i].key ≠ L[j].key) := ⟨_, rfl⟩
        rw [← hP] at hap2
        replace hP := Lib.hid hP
        clear hap hB hcl hcr
        generalize L[k] = x at *
        replace hsn := Lib.hid hsn
        go_wp2_with ((with_reducible show wpList _ _ _ (⟨some 43, _, _, _, _, _⟩ :: _) _ _); refine wp_appR tyW rol_len (x := x) o1 rfl (rol_ok _) (by omega) rfl _ _ rfl rfl rfl ?_; intro v4 w4 o4 m4 n4)
        rw [hsn.out, hM2.out] at o4
        exact ⟨⟨k, by omega, rfl, o4, n4.fresh f1 y1.size, Lib.hid (hP.out ▸ hap2.out), y1.trans m4 (fun _ _ h => h) (fun b hb h => by have := f1 b h; omega)⟩, by simp [intOf] <;> omega⟩
      have hbj : decide ((j : Int) < (k : Int)) = true := dtrue (by omega)
      have hjl : j < L.length := by omega
      obtain ⟨ad, hA, hS, c0, -, -⟩ := Rs.at_ (h4.ext (ext_trans x1 y1)) hkl
      subst hA
      obtain ⟨ad', hA, -, d0, -, -⟩ := Rs.at_ (h4.ext (ext_trans x1 y1)) hjl
      cases hA
      have hi0 : (0 : Int) ≤ (k : Int) := by omega
      have hi1 : (k : Int) < (L.length : Int) := by omega
      have hi2 : (0 : Int) ≤ (j : Int) := by omega
      have hi3 : (j : Int) < (L.length : Int) := by omega
      have hB2 : L[j].key ≠ L[k].key → Hid (∀ i (hi : i < L.length), i < j + 1 → L[i].key ≠ L[k].key) := fun hn => Lib.hid (fun i hi h1 => by
        by_cases e : i = j
        · subst e; exact hn
        · exact hB.out i hi (by omega))
      obtain ⟨P, hP⟩ : ∃ P : Prop, P = (∀ i (hi : i < L.length), i < j + 1 → L[i].key ≠ L[k].key) := ⟨_, rfl⟩
      rw [← hP] at hB2
      replace hP := Lib.hid hP
      clear hB hap hcl hcr
      generalize L[k] = y at *
      generalize L[j] = x at *
      have hdw : ∀ m, Ext w1 (wr.drewN m) := fun m => y1.drewN m
      have hdo : ∀ m, OwnW (wr.drewN m) u5 (L.drop (k + 1)).reverse := fun m => o1
      cases hk1 : (x.key == y.key)
      case false =>
        have hB3 := hB2 (by rw [beq_eq_false_iff_ne] at hk1; exact hk1)
        clear hB2
        go_wp2_with fail
        go_quiet (fail)
        go_wp2_with fail
        exact ⟨⟨j + 1, by omega, by go_num, hdo _, Lib.hid (hP.out ▸ hB3.out), hdw _⟩, by simp [intOf] <;> omega⟩
      clear hB2
      go_wp2_with fail
      go_quiet (fail)
      go_wp2_with fail
      refine (hkn _).mono ?_
      rintro e w8 ⟨rfl, x8⟩
      go_wp2_with fail
      go_ret
      exact ⟨rfl, ext_trans x1 (ext_trans (hdw _) x8)⟩
end Go.Proofs.Ytlfooppmdgddkaa

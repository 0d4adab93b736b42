/- entry: Is. -/
import Derived.Test.YtlaaicdofompkaaEntB
import Derived.Test.YtlaaicdofompkaaAppS
import Derived.Deep.CutBlock
namespace Go.Proofs.Ytlaaicdofompkaa
open Go.RowKit
set_option maxRecDepth 100000

theorem wD_mem : ∀ {L : List Av} {a : Av}, a ∈ L → a.1.length + a.2.length ≤ wD L
  | [], _, h => by cases h
  | b :: L, a, h => by
    have e : wD (b :: L) = 1 + b.1.length + b.2.length + wD L := rfl
    rcases List.mem_cons.1 h with h | h
    · subst h; omega
    · have := wD_mem h; omega
theorem wV_mem : ∀ {L : List (List UInt8)} {a : List UInt8}, a ∈ L → a.length + 1 ≤ wV L
  | [], _, h => by cases h
  | b :: L, a, h => by
    have e : wV (b :: L) = 1 + b.length + wV L := rfl
    rcases List.mem_cons.1 h with h | h
    · subst h; omega
    · have := wV_mem h; omega
theorem wA_mem : ∀ {L : List Att} {a : Att}, a ∈ L → 1 + a.typ.length + wV a.vals ≤ wA L
  | [], _, h => by cases h
  | b :: L, a, h => by
    have e : wA (b :: L) = 1 + b.typ.length + wV b.vals + wA L := rfl
    rcases List.mem_cons.1 h with h | h
    · subst h; omega
    · have := wA_mem h; omega
theorem fits_of {L : List Av} (h : wD L ≤ 1000000000) : Fits L := ⟨fun a ha => by have := wD_mem ha; omega, by have := wD_ge L; omega⟩

set_option maxHeartbeats 8000000 in
theorem eis_any {w : World} {S : Nat → Prop} {vd va : Value} {e : Ent} (hd : As w S vd e.dn) (ha : Ats w va e.ats) (hw : wE e ≤ 1000000000) :
    Calls Try.prog 9 #[.agg #[vd, va]] w fun e' w' => e' = .returned (.bool (decide (isE e))) ∧ Ext w w' := by
  have hwd : wD e.dn ≤ 1000000000 := by unfold wE at hw; omega
  have hwa : wA e.ats ≤ 1000000000 := by unfold wE at hw; omega
  have hge := wA_ge e.ats
  have hdn := fun {wx : World} (x : Ext w wx) => is_any (hd.ext x) (fits_of hwd)
  have hax := fun {wx : World} (x : Ext w wx) => (ha.ext x).open_
  obtain ⟨A, c, rfl, -⟩ := ha.open_
  obtain ⟨A0, c0, rfl, -, -, -, -⟩ := hd.open_ avc_len
  obtain ⟨R, hR⟩ : ∃ R, R = decide (isE e) := ⟨_, rfl⟩
  rw [← hR]
  have B0 : Blk (w.alloc (.cells #[.slice A0 e.dn.length c0, .slice A e.ats.length c] 25)) w.heap.size 25 #[.slice A0 e.dn.length c0, .slice A e.ats.length c] := Blk.new w _ _
  have x0 : Ext w (w.alloc (.cells #[.slice A0 e.dn.length c0, .slice A e.ats.length c] 25)) := (Mod.refl _ w).alloc _
  have hc1 := hdn x0
  clear hd ha hdn
  by_cases hn : isName e.dn
  case neg =>
    rw [decide_eq_false hn] at hc1
    have hR2 := Lib.hid (show R = false from hR.trans (decide_eq_false (fun h => hn h.1)))
    clear hR hn
    go_enter Try.func9, Try.ntmps9
    go_wp2_with fail
    refine hc1.mono ?_
    rintro e' w1 ⟨rfl, x1⟩
    go_wp2_with fail
    go_ret
    exact ⟨by rw [hR2.out]; rfl, ext_trans x0 x1⟩
  rw [decide_eq_true hn] at hc1
  obtain ⟨q, hq⟩ : ∃ q, q = e.ats.length := ⟨_, rfl⟩
  by_cases h16 : 16 < q
  · have hb : decide ((16 : Int) < (q : Int)) = true := dtrue (by omega)
    have hR2 := Lib.hid (show R = false from hR.trans (decide_eq_false (fun h => by have := h.2.1; omega)))
    rw [← hq] at hc1 B0 x0 ⊢
    clear hR hn hq
    go_enter Try.func9, Try.ntmps9
    go_wp2_with fail
    refine hc1.mono ?_
    rintro e' w1 ⟨rfl, x1⟩
    have b1 : w1.cell? ⟨w.heap.size, 1, none⟩ = some (.slice A q c) := (B0.mod x1 (fun h => h)).cell 1
    go_wp2_with fail
    go_ret
    exact ⟨by rw [hR2.out]; rfl, ext_trans x0 x1⟩
  have hb : decide ((16 : Int) < (q : Int)) = false := dfalse (by omega)
  have hR2 : Hid (R = decide (∀ a ∈ e.ats, isAt a)) := Lib.hid (by rw [hR, decide_eq_decide]; exact ⟨fun h => h.2.2, fun h => ⟨hn, by omega, h⟩⟩)
  rw [← hq] at hc1 B0 x0 ⊢
  replace hq := Lib.hid hq
  clear hR hn
  go_enter Try.func9, Try.ntmps9
  go_wp2_with fail
  refine hc1.mono ?_
  rintro e' w1 ⟨rfl, x1⟩
  have B1 := B0.mod x1 (fun h => h)
  have b1 : w1.cell? ⟨w.heap.size, 1, none⟩ = some (.slice A q c) := B1.cell 1
  have y1 := ext_trans x0 x1
  clear hc1 B0 x1
  go_wp2_with fail
  go_loopw [20] (fun i wr => ∃ k : Nat, k ≤ q ∧ i = .int .i64 k ∧ Hid (∀ a ∈ e.ats.take k, isAt a) ∧ Ext w wr) (fun i _ => q - (intOf i).toNat)
  case atStart => exact ⟨0, Nat.zero_le _, rfl, Lib.hid (by simp), y1⟩
  case round =>
    clear B1 b1
    obtain ⟨k, hk, rfl, hs, hx⟩ := hrel
    by_cases hlt : k < q
    case neg =>
      have hbl : decide ((k : Int) < (q : Int)) = false := dfalse (by omega)
      have hR3 : Hid (R = true) := Lib.hid (by
        rw [hR2.out]
        have h := hs.out
        rw [List.take_of_length_le (by have := hq.out; omega)] at h
        exact decide_eq_true h)
      go_wp2_with fail
      go_ret
      exact ⟨by rw [hR3.out]; rfl, hx⟩
    have hbl : decide ((k : Int) < (q : Int)) = true := dtrue (by omega)
    obtain ⟨A', c', hv, hat⟩ := hax hx
    have hqq := hq.out
    obtain ⟨ad, y, hA, c0', c1', hy⟩ := hat k (by omega)
    injection hv with hv1 hv2 hv3
    subst hv1
    subst hv3
    subst hA
    clear hv2
    have hm : e.ats[k]'(by omega) ∈ e.ats := List.getElem_mem _
    have hwm := wA_mem hm
    have hno : ¬ isAt (e.ats[k]'(by omega)) → R = false := fun h => by rw [hR2.out]; exact decide_eq_false (fun g => h (g _ hm))
    have hsn : isAt (e.ats[k]'(by omega)) → ∀ a ∈ e.ats.take (k + 1), isAt a := fun hi a ha => by
      rw [List.take_succ_eq_append_getElem (by omega)] at ha
      rcases List.mem_append.1 ha with ha | ha
      · exact hs.out a ha
      · rw [List.mem_singleton.1 ha]; exact hi
    generalize e.ats[k]'(by omega) = a at *
    have hi0 : (0 : Int) ≤ (k : Int) := by omega
    have hi1 : (k : Int) < (q : Int) := by omega
    obtain ⟨Ay, cy, rfl, -, -, hy3, hy4⟩ := hy.open_
    have hwv := wV_ge a.vals
    have hvm := fun (v : List UInt8) (h : v ∈ a.vals) => wV_mem h
    have htp := fun wx => type_any (w := wx) a.typ (by omega)
    have hat' : isAt a ↔ (isTyp a.typ ∧ 1 ≤ a.vals.length ∧ a.vals.length ≤ 16 ∧ ∀ v ∈ a.vals, v.length ≤ 256) := Iff.rfl
    obtain ⟨m, hm⟩ : ∃ m, m = a.vals.length := ⟨_, rfl⟩
    rw [← hm] at hy hat' c1'
    have hcv : ∀ {wx : World} (j : Nat) (hj : j < a.vals.length), Ext wr wx → ∃ ad, Ay = some ad ∧ wx.cell? (ad.add j) = some (sv a.vals[j]) := fun j hj x => by
      obtain ⟨A2, c2, e1, _, _, _, h5⟩ := (Sl.ext hy x).open_
      injection e1 with e1 _ _
      subst e1
      obtain ⟨ad2, e2, _, h6⟩ := h5.at_ hj
      exact ⟨ad2, e2, h6⟩
    have y4 := hx.alloc (.cells #[sv a.typ, .slice Ay m cy] 46)
    have z4 : Ext wr (wr.alloc (.cells #[sv a.typ, .slice Ay m cy] 46)) := (Mod.refl _ wr).alloc _
    replace hm := Lib.hid hm
    clear hat hy3 hy4 hwv hwm hax hqq hR2
    by_cases ht : isTyp a.typ
    case neg =>
      rw [decide_eq_false ht] at htp
      have hR3 := Lib.hid (hno (fun h => ht (hat'.1 h).1))
      clear hno hsn hat' ht hcv
      go_wp2_with fail
      refine (htp _).mono ?_
      rintro e' w2 ⟨rfl, rfl⟩
      go_wp2_with fail
      go_ret
      exact ⟨by rw [hR3.out]; rfl, y4⟩
    rw [decide_eq_true ht] at htp
    by_cases hm0 : m = 0
    · have hR3 := Lib.hid (hno (fun h => by have := (hat'.1 h).2.1; omega))
      subst hm0
      clear hno hsn hat' ht hcv
      go_wp2_with fail
      refine (htp _).mono ?_
      rintro e' w2 ⟨rfl, rfl⟩
      go_wp2_with fail
      go_ret
      exact ⟨by rw [hR3.out]; rfl, y4⟩
    have hb5 : decide ((m : Int) < 1) = false := dfalse (by omega)
    by_cases hm1 : 16 < m
    · have hb6 : decide ((16 : Int) < (m : Int)) = true := dtrue (by omega)
      have hR3 := Lib.hid (hno (fun h => by have := (hat'.1 h).2.2.1; omega))
      clear hno hsn hat' ht hcv
      go_wp2_with fail
      refine (htp _).mono ?_
      rintro e' w2 ⟨rfl, rfl⟩
      go_wp2_with fail
      go_ret
      exact ⟨by rw [hR3.out]; rfl, y4⟩
    have hb6 : decide ((16 : Int) < (m : Int)) = false := dfalse (by omega)
    have hvno : Hid (∀ v ∈ a.vals, ¬ v.length ≤ 256 → R = false) := Lib.hid fun v hv h => hno (fun g => h ((hat'.1 g).2.2.2 v hv))
    have hvyes : Hid ((∀ v ∈ a.vals, v.length ≤ 256) → ∀ a ∈ e.ats.take (k + 1), isAt a) := Lib.hid fun h => hsn (hat'.2 ⟨ht, by omega, by omega, h⟩)
    clear hno hsn hat' ht hs
    go_wp2_with fail
    refine (htp _).mono ?_
    rintro e' w2 ⟨rfl, rfl⟩
    clear htp
    go_wp2_with fail
    go_loopw [43] (fun i wx => ∃ j : Nat, j ≤ m ∧ i = .int .i64 j ∧ Hid (∀ v ∈ a.vals.take j, v.length ≤ 256) ∧ Ext wr wx) (fun i _ => m - (intOf i).toNat)
    case atStart => exact ⟨0, Nat.zero_le _, rfl, Lib.hid (by simp), z4⟩
    case round =>
      clear z4 y4
      obtain ⟨j, hj, rfl, hs2, hx2⟩ := hrel
      have hmm := hm.out
      by_cases hlt2 : j < m
      case neg =>
        have hbl2 : decide ((j : Int) < (m : Int)) = false := dfalse (by omega)
        have hn := hs2.out
        rw [List.take_of_length_le (by omega)] at hn
        have hnx := Lib.hid (hvyes.out hn)
        clear hmm hn hcv
        go_wp2_with fail
        exact ⟨⟨k + 1, by omega, by go_num, hnx, ext_trans hx hx2⟩, by simp [intOf] <;> omega⟩
      have hbl2 : decide ((j : Int) < (m : Int)) = true := dtrue (by omega)
      obtain ⟨ad2, hA2, cv⟩ := hcv j (by omega) hx2
      subst hA2
      have hmem : a.vals[j]'(by omega) ∈ a.vals := List.getElem_mem _
      have hn1 := hvno.out _ hmem
      have hn2 := hvm _ hmem
      have hsn2 : (a.vals[j]'(by omega)).length ≤ 256 → ∀ v ∈ a.vals.take (j + 1), v.length ≤ 256 := fun hi v hv => by
        rw [List.take_succ_eq_append_getElem (by omega)] at hv
        rcases List.mem_append.1 hv with hv | hv
        · exact hs2.out v hv
        · rw [List.mem_singleton.1 hv]; exact hi
      generalize a.vals[j]'(by omega) = v at *
      have hzv := sv_size' v
      have hj0 : (0 : Int) ≤ (j : Int) := by omega
      have hj1 : (j : Int) < (m : Int) := by omega
      clear hmm
      by_cases hv : v.length ≤ 256
      · have hb7 : decide ((256 : Int) < (v.length : Int)) = false := dfalse (by omega)
        have hs3 := Lib.hid (hsn2 hv)
        clear hsn2 hn1
        go_wp2_with fail
        exact ⟨⟨j + 1, by omega, by go_num, hs3, hx2⟩, by simp [intOf] <;> omega⟩
      · have hb7 : decide ((256 : Int) < (v.length : Int)) = true := dtrue (by omega)
        have hR3 := Lib.hid (hn1 hv)
        clear hsn2 hn1
        go_wp2_with fail
        go_ret
        exact ⟨by rw [hR3.out]; rfl, ext_trans hx hx2⟩
end Go.Proofs.Ytlaaicdofompkaa

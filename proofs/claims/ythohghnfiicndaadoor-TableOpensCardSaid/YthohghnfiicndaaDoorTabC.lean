/- table: whether cells may be a table's. -/
import Derived.Test.YthohghnfiicndaaDoorTabA
namespace Go.Proofs.YthohghnfiicndaaDoor
open Go.RowKit
set_option maxRecDepth 100000

set_option maxHeartbeats 8000000 in
theorem check_any {w : World} {S : Nat → Prop} {v : Value} {L : List Ce} (h : Cs w S v L) (hw : wC L ≤ 1000000000) :
    Calls Tryd.prog 27 #[v] w fun e w' => e = .returned (.int .i64 (buildN L : Nat)) ∧ Ext w w' := by
  have hlw := wC_len L
  obtain ⟨A, c, rfl, h1, h2, h3, h4⟩ := h.open_ cel_len
  obtain ⟨R, hR⟩ : ∃ R, R = buildN L := ⟨_, rfl⟩
  rw [← hR]
  clear h
  by_cases hE : L = []
  · subst hE
    have hR1 := Lib.hid (show R = 1 from hR.trans (if_pos (.inl rfl)))
    go_enter Tryd.func27, Tryd.ntmps27
    go_wp2_with fail
    go_ret
    exact ⟨by rw [hR1.out]; rfl, Mod.refl _ _⟩
  have hpos : 0 < L.length := List.length_pos_iff.2 hE
  have hb0 : ((L.length : Int) == 0) = false := by rw [beq_eq_false_iff_ne]; omega
  by_cases hM : 4096 < L.length
  · have hb1 : decide ((4096 : Int) < (L.length : Int)) = true := dtrue (by omega)
    have hR1 := Lib.hid (show R = 1 from hR.trans (if_pos (.inr hM)))
    go_enter Tryd.func27, Tryd.ntmps27
    go_wp2_with fail
    go_ret
    exact ⟨by rw [hR1.out]; rfl, Mod.refl _ _⟩
  have hb1 : decide ((4096 : Int) < (L.length : Int)) = false := dfalse (by omega)
  have hR0 : R = riseN L := hR.trans (if_neg (fun h => h.elim hE hM))
  clear hR
  have hR := hR0
  clear hR0 hE
  unfold riseN at hR
  replace hR := Lib.hid hR
  go_enter Tryd.func27, Tryd.ntmps27
  go_wp2_with fail
  go_loopw [16] (fun i wr => ∃ k : Nat, k ≤ L.length ∧ i = .int .i64 k ∧ Hid (∀ c ∈ L.take k, isC c) ∧ Ext w wr) (fun i _ => L.length - (intOf i).toNat)
  case atStart => exact ⟨0, Nat.zero_le _, rfl, Lib.hid (by simp), Mod.refl _ _⟩
  case round =>
    obtain ⟨k, hk, rfl, hs, q3⟩ := hrel
    by_cases hlt : k < L.length
    · have hbl : decide ((k : Int) < (L.length : Int)) = true := dtrue (by omega)
      obtain ⟨ad, hA, hS, c0, c1, c2, c3⟩ := Cs.at_ (h4.ext q3) hlt
      subst hA
      have hin : ¬ isC L[k] → R = 1 := fun hn => by rw [hR.out, if_neg (fun h => hn (h _ (List.getElem_mem hlt)))]
      have hsn : isC L[k] → ∀ c ∈ L.take (k + 1), isC c := fun hi c hc => by
        rw [List.take_succ_eq_append_getElem hlt] at hc
        rcases List.mem_append.1 hc with hc | hc
        · exact hs.out c hc
        · rw [List.mem_singleton.1 hc]; exact hi
      have hi0 : (0 : Int) ≤ (k : Int) := by omega
      have hi1 : (k : Int) < (L.length : Int) := by omega
      generalize L[k] = x at *
      go_wp2_with fail
      refine (is_any x).mono ?_
      rintro e w2 ⟨rfl, x2⟩
      have q4 : Ext w w2 := ext_trans (q3.alloc _) x2
      by_cases hx : isC x
      · rw [dtrue hx]
        have hs2 := Lib.hid (hsn hx)
        clear hin hsn
        go_wp2_with fail
        exact ⟨⟨k + 1, by omega, by go_num, hs2, q4⟩, by simp [intOf] <;> omega⟩
      · rw [dfalse hx]
        have hR1 := Lib.hid (hin hx)
        clear hin hsn
        go_wp2_with fail
        go_ret
        exact ⟨by rw [hR1.out]; rfl, q4⟩
    have hbl : decide ((k : Int) < (L.length : Int)) = false := dfalse (by omega)
    have hall : ∀ c ∈ L, isC c := by have := hs.out; rwa [List.take_of_length_le (by omega)] at this
    have hR2 := hR.out
    rw [if_pos hall] at hR2
    clear hR hs
    replace hR := Lib.hid hR2
    clear hR2 hbl hall
    go_wp2_with fail
    clear hk hlt
    go_loopw [5] (fun i wr => ∃ j : Nat, j ≤ L.length ∧ i = .int .i64 ((j : Int) + 1) ∧ Hid (∀ i, i < j + 1 → 0 < i → lessC (L.getD (i - 1) default) (L.getD i default) = true) ∧ Ext w wr) (fun i _ => L.length + 1 - (intOf i).toNat)
    case atStart => exact ⟨0, Nat.zero_le _, rfl, Lib.hid (fun i hi h0 => by omega), q3⟩
    case round =>
      clear q3
      obtain ⟨j, hjl, rfl, hs, q3⟩ := hrel
      by_cases hlt : j + 1 < L.length
      · have hbl : decide ((j : Int) + 1 < (L.length : Int)) = true := dtrue (by omega)
        have hj : j < L.length := by omega
        have hx : ∀ {wx : World}, Ext w wx → ∃ ad, A = some ad ∧ wx.cell? (ad.add (j * 4)) = some (sv L[j].key) ∧ wx.cell? ⟨(ad.add (j * 4)).block, (ad.add (j * 4)).off + 1, none⟩ = some (sv L[j].val) ∧ wx.cell? ⟨(ad.add (j * 4)).block, (ad.add (j * 4)).off + 2, none⟩ = some (.bool L[j].del) ∧ wx.cell? ⟨(ad.add (j * 4)).block, (ad.add (j * 4)).off + 3, none⟩ = some (.int .i64 L[j].seq) ∧ wx.cell? (ad.add ((j + 1) * 4)) = some (sv L[j + 1].key) ∧ wx.cell? ⟨(ad.add ((j + 1) * 4)).block, (ad.add ((j + 1) * 4)).off + 1, none⟩ = some (sv L[j + 1].val) ∧ wx.cell? ⟨(ad.add ((j + 1) * 4)).block, (ad.add ((j + 1) * 4)).off + 2, none⟩ = some (.bool L[j + 1].del) ∧ wx.cell? ⟨(ad.add ((j + 1) * 4)).block, (ad.add ((j + 1) * 4)).off + 3, none⟩ = some (.int .i64 L[j + 1].seq) := fun hx => by
          obtain ⟨ad, hA, _, d0, d1, d2, d3⟩ := Cs.at_ (h4.ext hx) hj
          obtain ⟨ad', hA', _, e0, e1, e2, e3⟩ := Cs.at_ (h4.ext hx) hlt
          rw [hA] at hA'
          cases hA'
          exact ⟨ad, hA, d0, d1, d2, d3, e0, e1, e2, e3⟩
        obtain ⟨ad, hA, _⟩ := hx q3
        subst hA
        have hls : lessC L[j] L[j + 1] = true → ∀ i, i < j + 1 + 1 → 0 < i → lessC (L.getD (i - 1) default) (L.getD i default) = true := fun hl i hi h0 => by
          by_cases hij : i = j + 1
          · subst hij
            rw [show j + 1 - 1 = j by omega, getD_c L hj, getD_c L hlt]; exact hl
          · exact hs.out i (by omega) h0
        have hno : lessC L[j] L[j + 1] = false → R = 11 := fun hl => by
          rw [hR.out, if_neg]
          intro hr
          have := hr (j + 1) hlt (by omega)
          rw [show j + 1 - 1 = j by omega, getD_c L hj, getD_c L hlt, hl] at this
          cases this
        have hi0 : (0 : Int) ≤ (j : Int) := by omega
        have hi1 : (j : Int) + 1 < (L.length : Int) := by omega
        have hi2 : (j : Int) < (L.length : Int) := by omega
        have hi3 : (0 : Int) ≤ (j : Int) + 1 := by omega
        have hi5 : IntKind.i64.wrap (j : Int) = (j : Int) := by rw [IntKind.wrap_i64]; omega
        generalize L[j] = x at *
        generalize L[j + 1] = y at *
        have q0 : Ext w wr.drew := q3.drew
        have hcx : ∀ {wx : World}, Ext w wx → wx.cell? (ad.add (j * 4)) = some (sv x.key) ∧ wx.cell? ⟨(ad.add (j * 4)).block, (ad.add (j * 4)).off + 1, none⟩ = some (sv x.val) ∧ wx.cell? ⟨(ad.add (j * 4)).block, (ad.add (j * 4)).off + 2, none⟩ = some (.bool x.del) ∧ wx.cell? ⟨(ad.add (j * 4)).block, (ad.add (j * 4)).off + 3, none⟩ = some (.int .i64 x.seq) ∧ wx.cell? (ad.add ((j + 1) * 4)) = some (sv y.key) ∧ wx.cell? ⟨(ad.add ((j + 1) * 4)).block, (ad.add ((j + 1) * 4)).off + 1, none⟩ = some (sv y.val) ∧ wx.cell? ⟨(ad.add ((j + 1) * 4)).block, (ad.add ((j + 1) * 4)).off + 2, none⟩ = some (.bool y.del) ∧ wx.cell? ⟨(ad.add ((j + 1) * 4)).block, (ad.add ((j + 1) * 4)).off + 3, none⟩ = some (.int .i64 y.seq) := fun h => by
          obtain ⟨ad', hA, d⟩ := hx h
          cases hA
          exact d
        have hless := fun wx => less_any (w := wx) x y
        cases hl : lessC x y
        · rw [hl] at hless
          have hR1 := Lib.hid (hno hl)
          clear hx hls hno hl
          go_wp2_with fail
          go_region_held3 (fun w' => w'.cell? (ad.add (j * 4)) = some (sv x.key) ∧ w'.cell? ⟨(ad.add (j * 4)).block, (ad.add (j * 4)).off + 1, none⟩ = some (sv x.val) ∧ w'.cell? ⟨(ad.add (j * 4)).block, (ad.add (j * 4)).off + 2, none⟩ = some (.bool x.del) ∧ w'.cell? ⟨(ad.add (j * 4)).block, (ad.add (j * 4)).off + 3, none⟩ = some (.int .i64 x.seq) ∧ w'.cell? (ad.add ((j + 1) * 4)) = some (sv y.key) ∧ w'.cell? ⟨(ad.add ((j + 1) * 4)).block, (ad.add ((j + 1) * 4)).off + 1, none⟩ = some (sv y.val) ∧ w'.cell? ⟨(ad.add ((j + 1) * 4)).block, (ad.add ((j + 1) * 4)).off + 2, none⟩ = some (.bool y.del) ∧ w'.cell? ⟨(ad.add ((j + 1) * 4)).block, (ad.add ((j + 1) * 4)).off + 3, none⟩ = some (.int .i64 y.seq)) (first | exact hcx q0 | exact hcx q1) (first
            | (go_at_call 53; (with_reducible refine (hless _).mono ?_); rintro e wa ⟨rfl, xa⟩; have q1 := ext_trans q0 xa))
          all_goals go_wp2_with fail
          all_goals go_ret
          all_goals exact ⟨by rw [hR1.out]; rfl, q1⟩
        · rw [hl] at hless
          have hs2 := Lib.hid (hls hl)
          clear hx hls hno hl
          go_wp2_with fail
          go_region_held3 (fun w' => w'.cell? (ad.add (j * 4)) = some (sv x.key) ∧ w'.cell? ⟨(ad.add (j * 4)).block, (ad.add (j * 4)).off + 1, none⟩ = some (sv x.val) ∧ w'.cell? ⟨(ad.add (j * 4)).block, (ad.add (j * 4)).off + 2, none⟩ = some (.bool x.del) ∧ w'.cell? ⟨(ad.add (j * 4)).block, (ad.add (j * 4)).off + 3, none⟩ = some (.int .i64 x.seq) ∧ w'.cell? (ad.add ((j + 1) * 4)) = some (sv y.key) ∧ w'.cell? ⟨(ad.add ((j + 1) * 4)).block, (ad.add ((j + 1) * 4)).off + 1, none⟩ = some (sv y.val) ∧ w'.cell? ⟨(ad.add ((j + 1) * 4)).block, (ad.add ((j + 1) * 4)).off + 2, none⟩ = some (.bool y.del) ∧ w'.cell? ⟨(ad.add ((j + 1) * 4)).block, (ad.add ((j + 1) * 4)).off + 3, none⟩ = some (.int .i64 y.seq)) (first | exact hcx q0 | exact hcx q1) (first
            | (go_at_call 53; (with_reducible refine (hless _).mono ?_); rintro e wa ⟨rfl, xa⟩; have q1 := ext_trans q0 xa))
          all_goals go_wp2_with fail
          all_goals exact ⟨⟨j + 1, by omega, by go_num, hs2, q1⟩, by simp [intOf] <;> omega⟩
      have hbl : decide ((j : Int) + 1 < (L.length : Int)) = false := dfalse (by omega)
      have hris : rises L := fun i hi h0 => hs.out i (by omega) h0
      have hR1 : Hid (R = 0) := Lib.hid (by rw [hR.out, if_pos hris])
      clear hR hs hris
      go_wp2_with fail
      go_ret
      exact ⟨by rw [hR1.out]; rfl, q3⟩
end Go.Proofs.YthohghnfiicndaaDoor

/- block: Encode. -/
import Derived.Test.YtlfooppmdgddkaaCelC
import Derived.Deep.RegionHeld3
namespace Go.Proofs.Ytlfooppmdgddkaa
open Go.RowKit
set_option maxRecDepth 100000

def rises (L : List Ce) : Prop := ∀ i, i < L.length → 0 < i → lessC (L.getD (i - 1) default) (L.getD i default) = true
instance (L : List Ce) : Decidable (rises L) := Nat.decidableBallLT L.length (fun i _ => 0 < i → lessC (L.getD (i - 1) default) (L.getD i default) = true)
/-- 0: all may be, and rise; else the error. -/
def riseN (L : List Ce) : Nat := if ∀ c ∈ L, isC c then (if rises L then 0 else 11) else 1
/-- The key ahead of cell i, as far as it is shared. -/
def aheadC (L : List Ce) (i : Nat) : List UInt8 := if i % 4 = 0 then [] else (L.getD (i - 1) default).key
def encTo (L : List Ce) (k : Nat) : List UInt8 := (List.range k).flatMap fun i => encC (aheadC L i) (L.getD i default)
/-- Cells as bytes. -/
def encB (L : List Ce) : List UInt8 := encTo L L.length
def encR (L : List Ce) : List UInt8 := if riseN L = 0 then encB L else []
theorem encTo_snoc (L : List Ce) (k : Nat) : encTo L (k + 1) = encTo L k ++ encC (aheadC L k) (L.getD k default) := by
  unfold encTo
  rw [List.range_succ, List.flatMap_append, List.flatMap_cons, List.flatMap_nil, List.append_nil]
theorem encC_len (a : List UInt8) (c : Ce) (hk : c.key.length ≤ 100000000000) (hv : c.val.length ≤ 100000000000) (ha : a.length ≤ 100000000000) : (encC a c).length ≤ c.key.length + c.val.length + 50 := by
  have hc := comm_le a c.key
  have e1 := enc7_ten (n := comm a c.key) (by omega)
  have e2 := enc7_ten (n := (c.key.drop (comm a c.key)).length) (by rw [List.length_drop]; omega)
  have e3 := enc7_ten (n := clamp c.seq) (clamp_le _)
  have e4 := enc7_ten (n := 0) (by omega)
  have e5 := enc7_ten (n := 1) (by omega)
  have e6 := enc7_ten (n := c.val.length) (by omega)
  unfold encC
  cases c.del <;> simp only [List.length_append, List.length_drop, if_true, Bool.false_eq_true, if_false] <;> (rw [List.length_drop] at e2; omega)
theorem getD_c (L : List Ce) {k : Nat} (h : k < L.length) : L.getD k default = L[k] := by rw [List.getD_eq_getElem?_getD, List.getElem?_eq_getElem h]; rfl
theorem aheadC_len (L : List Ce) (h : ∀ c ∈ L, isC c) (k : Nat) : (aheadC L k).length ≤ 4096 := by
  unfold aheadC
  split
  · simp
  · by_cases hk : k - 1 < L.length
    · rw [getD_c L hk]; exact (h _ (List.getElem_mem _)).2.1
    · rw [List.getD_eq_getElem?_getD, List.getElem?_eq_none (by omega)]; show ([] : List UInt8).length ≤ _; simp
theorem encTo_len (L : List Ce) (h : ∀ c ∈ L, isC c) (k : Nat) : k ≤ L.length → (encTo L k).length ≤ 51 * wC (L.take k) := by
  induction k with
  | zero => intro _; simp [encTo]
  | succ k ih =>
    intro hk
    have hlt : k < L.length := hk
    have := ih (by omega)
    rw [encTo_snoc, List.length_append, wC_snoc L hlt, getD_c L hlt]
    have hc := h _ (List.getElem_mem hlt)
    have ha := aheadC_len L h k
    have := encC_len (aheadC L k) L[k] (by have := hc.2.1; omega) (by have := hc.2.2.1; omega) (by omega)
    omega

set_option maxHeartbeats 16000000 in
theorem encode_any {w : World} {S : Nat → Prop} {v : Value} {L : List Ce} (h : Cs w S v L) (hw : wC L ≤ 1000000000) :
    Calls Try.prog 28 #[v] w fun e w' => ∃ v', e = .returned (.tuple #[v', .int .i64 (riseN L)]) ∧ Own w' 5 v' ((encR L).map bv) ∧ Fresh w.heap.size v' ∧ Ext w w' := by
  have hlw := wC_len L
  obtain ⟨A, c, rfl, h1, h2, h3, h4⟩ := h.open_ cel_len
  obtain ⟨R, hR⟩ : ∃ R, R = riseN L := ⟨_, rfl⟩
  obtain ⟨E, hE⟩ : ∃ E, E = encR L := ⟨_, rfl⟩
  rw [← hR, ← hE]
  unfold encR at hE
  rw [← hR] at hE
  unfold riseN at hR
  replace hR := Lib.hid hR
  replace hE := Lib.hid hE
  clear h
  go_enter Try.func28, Try.ntmps28
  go_wp2_with fail
  go_loopw [13] (fun i wr => ∃ k : Nat, k ≤ L.length ∧ i = .int .i64 k ∧ Hid (∀ c ∈ L.take k, isC c) ∧ Ext w wr) (fun i _ => L.length - (intOf i).toNat)
  case atStart => exact ⟨0, Nat.zero_le _, rfl, Lib.hid (by simp), Mod.refl _ _⟩
  case round =>
    obtain ⟨k, hk, rfl, hs, q3⟩ := hrel
    by_cases hlt : k < L.length
    · have hbl : decide ((k : Int) < (L.length : Int)) = true := dtrue (by omega)
      obtain ⟨ad, hA, hS, c0, c1, c2, c3⟩ := Cs.at_ (h4.ext q3) hlt
      subst hA
      have hin : ¬ isC L[k] → R = 1 := fun hn => by rw [hR.out, if_neg (fun h => hn (h _ (List.getElem_mem hlt)))]
      have hsn : isC L[k] → ∀ c ∈ L.take (k + 1), isC c := fun hi c hc => by
        rw [List.take_succ_eq_append_getElem hlt] at hc
        rcases List.mem_append.1 hc with hc | hc
        · exact hs.out c hc
        · rw [List.mem_singleton.1 hc]; exact hi
      have hi0 : (0 : Int) ≤ (k : Int) := by omega
      have hi1 : (k : Int) < (L.length : Int) := by omega
      generalize L[k] = x at *
      go_wp2_with fail
      refine (is_any x).mono ?_
      rintro e w2 ⟨rfl, x2⟩
      have q4 : Ext w w2 := ext_trans (q3.alloc _) x2
      by_cases hx : isC x
      · rw [dtrue hx]
        have hs2 := Lib.hid (hsn hx)
        clear hin hsn
        go_wp2_with fail
        exact ⟨⟨k + 1, by omega, by go_num, hs2, q4⟩, by simp [intOf] <;> omega⟩
      · rw [dfalse hx]
        have hR1 := Lib.hid (hin hx)
        have hE1 : Hid (E = []) := Lib.hid (by rw [hE.out, if_neg (by rw [hR1.out]; decide)])
        clear hin hsn
        go_wp2_with fail
        go_ret2
        exact ⟨_, by rw [hR1.out]; rfl, by rw [hE1.out]; exact Own.nil _ _, fresh_nil _ _ _, q4⟩
    have hbl : decide ((k : Int) < (L.length : Int)) = false := dfalse (by omega)
    have hall : ∀ c ∈ L, isC c := by have := hs.out; rwa [List.take_of_length_le (by omega)] at this
    have hR2 := hR.out
    rw [if_pos hall] at hR2
    clear hR hs
    replace hR := Lib.hid hR2
    replace hall := Lib.hid hall
    clear hR2 hbl
    go_wp2_with fail
    clear hk hlt
    go_loopw [23] (fun i wr => ∃ k : Nat, k ≤ L.length ∧ i = .int .i64 k ∧ Hid (∀ i, i < k → 0 < i → lessC (L.getD (i - 1) default) (L.getD i default) = true) ∧ Ext w wr) (fun i _ => L.length - (intOf i).toNat)
    case atStart => exact ⟨0, Nat.zero_le _, rfl, Lib.hid (fun i hi => absurd hi (Nat.not_lt_zero _)), q3⟩
    case round =>
      clear q3
      obtain ⟨k, hk, rfl, hs, q3⟩ := hrel
      by_cases hlt : k < L.length
      · have hbl : decide ((k : Int) < (L.length : Int)) = true := dtrue (by omega)
        by_cases hk0 : k = 0
        · have hs2 : Hid (∀ i, i < k + 1 → 0 < i → lessC (L.getD (i - 1) default) (L.getD i default) = true) := Lib.hid (fun i hi h0 => by omega)
          have hb0 : decide (0 < k) = false := dfalse (by omega)
          clear hk0
          go_wp2_with fail
          go_quiet (fail)
          go_wp2_with fail
          exact ⟨⟨k + 1, by omega, by go_num, hs2, q3.drewN _⟩, by simp [intOf] <;> omega⟩
        obtain ⟨j, rfl⟩ : ∃ j, k = j + 1 := ⟨k - 1, by omega⟩
        have hb0 : decide (0 < j + 1) = true := dtrue (by omega)
        have hj : j < L.length := by omega
        have hx : ∀ {wx : World}, Ext w wx → ∃ ad, A = some ad ∧ wx.cell? (ad.add (j * 4)) = some (sv L[j].key) ∧ wx.cell? ⟨(ad.add (j * 4)).block, (ad.add (j * 4)).off + 1, none⟩ = some (sv L[j].val) ∧ wx.cell? ⟨(ad.add (j * 4)).block, (ad.add (j * 4)).off + 2, none⟩ = some (.bool L[j].del) ∧ wx.cell? ⟨(ad.add (j * 4)).block, (ad.add (j * 4)).off + 3, none⟩ = some (.int .i64 L[j].seq) ∧ wx.cell? (ad.add ((j + 1) * 4)) = some (sv L[j + 1].key) ∧ wx.cell? ⟨(ad.add ((j + 1) * 4)).block, (ad.add ((j + 1) * 4)).off + 1, none⟩ = some (sv L[j + 1].val) ∧ wx.cell? ⟨(ad.add ((j + 1) * 4)).block, (ad.add ((j + 1) * 4)).off + 2, none⟩ = some (.bool L[j + 1].del) ∧ wx.cell? ⟨(ad.add ((j + 1) * 4)).block, (ad.add ((j + 1) * 4)).off + 3, none⟩ = some (.int .i64 L[j + 1].seq) := fun hx => by
          obtain ⟨ad, hA, _, d0, d1, d2, d3⟩ := Cs.at_ (h4.ext hx) hj
          obtain ⟨ad', hA', _, e0, e1, e2, e3⟩ := Cs.at_ (h4.ext hx) hlt
          rw [hA] at hA'
          cases hA'
          exact ⟨ad, hA, d0, d1, d2, d3, e0, e1, e2, e3⟩
        obtain ⟨ad, hA, _⟩ := hx q3
        subst hA
        have hls : lessC L[j] L[j + 1] = true → ∀ i, i < j + 1 + 1 → 0 < i → lessC (L.getD (i - 1) default) (L.getD i default) = true := fun hl i hi h0 => by
          by_cases hij : i = j + 1
          · subst hij
            rw [show j + 1 - 1 = j by omega, getD_c L hj, getD_c L hlt]; exact hl
          · exact hs.out i (by omega) h0
        have hno : lessC L[j] L[j + 1] = false → R = 11 := fun hl => by
          rw [hR.out, if_neg]
          intro hr
          have := hr (j + 1) hlt (by omega)
          rw [show j + 1 - 1 = j by omega, getD_c L hj, getD_c L hlt, hl] at this
          cases this
        have hi0 : (0 : Int) ≤ (j : Int) := by omega
        have hi1 : (j : Int) + 1 < (L.length : Int) := by omega
        have hi2 : (j : Int) < (L.length : Int) := by omega
        have hi3 : (0 : Int) ≤ (j : Int) + 1 := by omega
        have hi5 : IntKind.i64.wrap (j : Int) = (j : Int) := by rw [IntKind.wrap_i64]; omega
        generalize L[j] = x at *
        generalize L[j + 1] = y at *
        have q0 : Ext w wr.drew := q3.drew
        have hcx : ∀ {wx : World}, Ext w wx → wx.cell? (ad.add (j * 4)) = some (sv x.key) ∧ wx.cell? ⟨(ad.add (j * 4)).block, (ad.add (j * 4)).off + 1, none⟩ = some (sv x.val) ∧ wx.cell? ⟨(ad.add (j * 4)).block, (ad.add (j * 4)).off + 2, none⟩ = some (.bool x.del) ∧ wx.cell? ⟨(ad.add (j * 4)).block, (ad.add (j * 4)).off + 3, none⟩ = some (.int .i64 x.seq) ∧ wx.cell? (ad.add ((j + 1) * 4)) = some (sv y.key) ∧ wx.cell? ⟨(ad.add ((j + 1) * 4)).block, (ad.add ((j + 1) * 4)).off + 1, none⟩ = some (sv y.val) ∧ wx.cell? ⟨(ad.add ((j + 1) * 4)).block, (ad.add ((j + 1) * 4)).off + 2, none⟩ = some (.bool y.del) ∧ wx.cell? ⟨(ad.add ((j + 1) * 4)).block, (ad.add ((j + 1) * 4)).off + 3, none⟩ = some (.int .i64 y.seq) := fun h => by
          obtain ⟨ad', hA, d⟩ := hx h
          cases hA
          exact d
        have hless := fun wx => less_any (w := wx) x y
        cases hl : lessC x y
        · rw [hl] at hless
          have hR1 := Lib.hid (hno hl)
          have hE1 : Hid (E = []) := Lib.hid (by rw [hE.out, if_neg (by rw [hR1.out]; decide)])
          clear hx hls hno hl
          go_wp2_with fail
          go_region_held3 (fun w' => w'.cell? (ad.add (j * 4)) = some (sv x.key) ∧ w'.cell? ⟨(ad.add (j * 4)).block, (ad.add (j * 4)).off + 1, none⟩ = some (sv x.val) ∧ w'.cell? ⟨(ad.add (j * 4)).block, (ad.add (j * 4)).off + 2, none⟩ = some (.bool x.del) ∧ w'.cell? ⟨(ad.add (j * 4)).block, (ad.add (j * 4)).off + 3, none⟩ = some (.int .i64 x.seq) ∧ w'.cell? (ad.add ((j + 1) * 4)) = some (sv y.key) ∧ w'.cell? ⟨(ad.add ((j + 1) * 4)).block, (ad.add ((j + 1) * 4)).off + 1, none⟩ = some (sv y.val) ∧ w'.cell? ⟨(ad.add ((j + 1) * 4)).block, (ad.add ((j + 1) * 4)).off + 2, none⟩ = some (.bool y.del) ∧ w'.cell? ⟨(ad.add ((j + 1) * 4)).block, (ad.add ((j + 1) * 4)).off + 3, none⟩ = some (.int .i64 y.seq)) (first | exact hcx q0 | exact hcx q1) (first
            | (go_at_call 20; (with_reducible refine (hless _).mono ?_); rintro e wa ⟨rfl, xa⟩; have q1 := ext_trans q0 xa))
          all_goals go_wp2_with fail
          all_goals go_ret2
          all_goals exact ⟨_, by rw [hR1.out]; rfl, by rw [hE1.out]; exact Own.nil _ _, fresh_nil _ _ _, q1⟩
        · rw [hl] at hless
          have hs2 := Lib.hid (hls hl)
          clear hx hls hno hl
          go_wp2_with fail
          go_region_held3 (fun w' => w'.cell? (ad.add (j * 4)) = some (sv x.key) ∧ w'.cell? ⟨(ad.add (j * 4)).block, (ad.add (j * 4)).off + 1, none⟩ = some (sv x.val) ∧ w'.cell? ⟨(ad.add (j * 4)).block, (ad.add (j * 4)).off + 2, none⟩ = some (.bool x.del) ∧ w'.cell? ⟨(ad.add (j * 4)).block, (ad.add (j * 4)).off + 3, none⟩ = some (.int .i64 x.seq) ∧ w'.cell? (ad.add ((j + 1) * 4)) = some (sv y.key) ∧ w'.cell? ⟨(ad.add ((j + 1) * 4)).block, (ad.add ((j + 1) * 4)).off + 1, none⟩ = some (sv y.val) ∧ w'.cell? ⟨(ad.add ((j + 1) * 4)).block, (ad.add ((j + 1) * 4)).off + 2, none⟩ = some (.bool y.del) ∧ w'.cell? ⟨(ad.add ((j + 1) * 4)).block, (ad.add ((j + 1) * 4)).off + 3, none⟩ = some (.int .i64 y.seq)) (first | exact hcx q0 | exact hcx q1) (first
            | (go_at_call 20; (with_reducible refine (hless _).mono ?_); rintro e wa ⟨rfl, xa⟩; have q1 := ext_trans q0 xa))
          all_goals go_wp2_with fail
          all_goals exact ⟨⟨j + 1 + 1, by omega, by go_num, hs2, q1⟩, by simp [intOf] <;> omega⟩
      have hbl : decide ((k : Int) < (L.length : Int)) = false := dfalse (by omega)
      have hris : rises L := fun i hi h0 => hs.out i (by omega) h0
      have hR1 : Hid (R = 0) := Lib.hid (by rw [hR.out, if_pos hris])
      have hE1 : Hid (E = encB L) := Lib.hid (by rw [hE.out, if_pos hR1.out])
      clear hR hE hs hris
      go_wp2_with fail
      obtain ⟨w4, hw4⟩ : ∃ w4, w4 = wr.alloc (.cells #[.slice none 0 0] 84) := ⟨_, rfl⟩
      have W0 : Wr w4 wr.heap.size (.slice none 0 0) [] := by rw [hw4]; exact ⟨Blk.new wr _ _, Own.nil _ _⟩
      have x4 : Ext wr w4 := by rw [hw4]; exact (Mod.refl _ wr).alloc _
      have hz4 : wr.heap.size < w4.heap.size := by rw [hw4]; simp
      rw [← hw4]
      clear hw4
      replace hz4 := Lib.hid hz4
      generalize wr = wq at *
      obtain ⟨g, hg⟩ : ∃ g, g = wq.heap.size := ⟨_, rfl⟩
      rw [← hg] at W0 hz4 ⊢
      have hbase : w.heap.size ≤ g := by rw [hg]; exact q3.size
      replace hg := Lib.hid hg
      go_loopw [8, 44] (fun t i wx => ∃ (k : Nat) (v : Value), k ≤ L.length ∧ i = .int .i64 k ∧ t = sv (if k = 0 then [] else (L.getD (k - 1) default).key) ∧ Wr wx g v (encTo L k) ∧ Fresh g v ∧ Ext wq wx) (fun _ i _ => L.length - (intOf i).toNat)
      case atStart => exact ⟨0, _, Nat.zero_le _, rfl, rfl, W0, fresh_nil _ _ _, x4⟩
      case round =>
        clear W0 x4 hbl hk hlt
        obtain ⟨k, vw, hk, rfl, rfl, W1, f1, x1⟩ := hrel
        by_cases hlt : k < L.length
        · have hbl : decide ((k : Int) < (L.length : Int)) = true := dtrue (by omega)
          obtain ⟨ad, hA, hS, c0, c1, c2, c3⟩ := Cs.at_ (h4.ext (ext_trans q3 x1)) hlt
          subst hA
          have hsn := encTo_snoc L k
          have hen := encTo_len L hall.out k hk
          have hwt := wC_take L k
          have hah := aheadC_len L hall.out k
          have hic := hall.out L[k] (List.getElem_mem hlt)
          have hgd := getD_c L hlt
          have hgd1 : (L.getD (k + 1 - 1) default).key = L[k].key := by rw [show k + 1 - 1 = k by omega, hgd]
          rw [hgd] at hsn
          have hkl : L[k].key.length ≤ 4096 := hic.2.1
          have hvl : L[k].val.length ≤ 16384 := hic.2.2.1
          have hi0 : (0 : Int) ≤ (k : Int) := by omega
          have hi1 : (k : Int) < (L.length : Int) := by omega
          unfold aheadC at hsn hah
          generalize L[k] = x at *
          obtain ⟨ah, hahd⟩ : ∃ ah, ah = (if k = 0 then [] else (L.getD (k - 1) default).key) := ⟨_, rfl⟩
          rw [← hahd]
          replace hahd := Lib.hid hahd
          replace hsn := Lib.hid hsn
          replace hgd1 := Lib.hid hgd1
          clear hgd hic
          by_cases h4k : k % 4 = 0
          · have hb4 : ((k : Int) % 4 == 0) = true := by rw [beq_iff_eq]; omega
            go_wp2_with fail
            refine (lay_any x (W1.mod ((Mod.refl (fun _ => False) wr).alloc (.cells (car x) 23)) (fun h => h) (fun _ _ h => h)) (ahead := []) (by simp) (by omega) (by omega) (by omega)).mono ?_
            rintro e w6 ⟨rfl, v6, W6, m6, n6⟩
            have B6 := (Blk.new wr 23 (car x)).mod m6 (fun hF => by
              rcases hF with hF | hF
              · have := W1.blk.lt; omega
              · have := W1.row.lt hF; omega)
            have d0 : _ = some _ := Blk.cell B6 0
            have x6 : Ext wq w6 := (x1.alloc _).trans m6 (fun _ _ h => h) (fun i hi hF => by
              have := hg.out
              rcases hF with hF | hF
              · omega
              · have := f1 i hF; omega)
            have f6 : Fresh g v6 := n6.fresh f1 (by have := W1.blk.lt; simp; omega)
            clear B6 m6 n6
            go_wp2_with fail
            exact ⟨⟨k + 1, v6, by omega, by go_num, by rw [if_neg (by omega), hgd1.out], by rw [hsn.out, if_pos h4k]; exact W6, f6, x6⟩, by simp [intOf] <;> omega⟩
          have hb4 : ((k : Int) % 4 == 0) = false := by rw [beq_eq_false_iff_ne]; omega
          have hah2 : ah = (L.getD (k - 1) default).key := by rw [hahd.out, if_neg (by omega)]
          rw [if_neg h4k, ← hah2] at hah
          have hsn2 : Hid (encTo L (k + 1) = encTo L k ++ encC ah x) := Lib.hid (by rw [hsn.out, if_neg h4k, hah2])
          clear hah2
          go_wp2_with fail
          refine (lay_any x (W1.mod ((Mod.refl (fun _ => False) wr).alloc (.cells (car x) 23)) (fun h => h) (fun _ _ h => h)) (ahead := ah) (by omega) (by omega) (by omega) (by omega)).mono ?_
          rintro e w6 ⟨rfl, v6, W6, m6, n6⟩
          have B6 := (Blk.new wr 23 (car x)).mod m6 (fun hF => by
            rcases hF with hF | hF
            · have := W1.blk.lt; omega
            · have := W1.row.lt hF; omega)
          have d0 : _ = some _ := Blk.cell B6 0
          have x6 : Ext wq w6 := (x1.alloc _).trans m6 (fun _ _ h => h) (fun i hi hF => by
            have := hg.out
            rcases hF with hF | hF
            · omega
            · have := f1 i hF; omega)
          have f6 : Fresh g v6 := n6.fresh f1 (by have := W1.blk.lt; simp; omega)
          clear B6 m6 n6
          go_wp2_with fail
          exact ⟨⟨k + 1, v6, by omega, by go_num, by rw [if_neg (by omega), hgd1.out], by rw [hsn2.out]; exact W6, f6, x6⟩, by simp [intOf] <;> omega⟩
        have hbl : decide ((k : Int) < (L.length : Int)) = false := dfalse (by omega)
        obtain rfl : k = L.length := by omega
        have hen := encTo_len L hall.out L.length (Nat.le_refl _)
        have hwt := wC_take L L.length
        clear h4 h3
        obtain ⟨ah, hahd⟩ : ∃ ah, ah = (if L.length = 0 then [] else (L.getD (L.length - 1) default).key) := ⟨_, rfl⟩
        rw [← hahd]
        clear hahd
        go_wp2_with fail
        refine (wout_any W1 (by omega)).mono ?_
        rintro e w7 ⟨v7, rfl, o7, b7, x7, _⟩
        go_wp2_with fail
        go_ret2
        refine ⟨v7, by rw [hR1.out]; rfl, by rw [hE1.out]; exact o7, fun i hi => ?_, ext_trans q3 (ext_trans x1 x7)⟩
        rw [b7] at hi
        have := Option.some.inj hi
        have := x1.size
        have := q3.size
        omega
end Go.Proofs.Ytlfooppmdgddkaa

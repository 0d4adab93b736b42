/- match: what the law looks at, what it knows; the laws Once, Whole. -/
import Derived.Test.YtopdkeaekgiejaaMtF
import Derived.Shelf.Vars
namespace Go.Proofs.Ytopdkeaekgiejaa
open Go.RowKit
set_option maxRecDepth 100000

theorem mxl_of {W : World} (h : W.ShapedOpen Try.prog) : Mxl W := Go.Proofs.cell_of_shapedOpen_int (zero := #[.int .i64 0]) (t := 3) h (of_decide_eq_true (by kernel_rfl)) (by kernel_rfl) rfl (by kernel_rfl) (by kernel_rfl) Try.underlying3
def hvy (n : Nat) (L : List (List UInt8)) : Prop := ∀ x ∈ L, x.length ≤ n
def Hv15 (L : List (List UInt8)) (w : World) (e : Ending) (w' : World) : Prop := ∃ q : Bool, e = .returned (.bool q) ∧ (q = false → hvy 1500 L) ∧ w' = w
section
variable {w : World} {S : Nat → Prop} {v : Value}
set_option maxHeartbeats 4000000 in
theorem heavy15_any {L : List (List UInt8)} (hv : Ss w S v L) (hL : ∀ x ∈ L, x.length ≤ 140737488351232) :
    Calls Try.prog 21 #[v] w (Hv15 L w) := by
  obtain ⟨A, c, rfl, q1, q2, q3, q4⟩ := hv.open_
  clear hv
  go_enter Try.func21, Try.ntmps21
  go_wp2_with fail
  go_loop [3, 4] (fun n i => ∃ (k m : Nat), k ≤ L.length ∧ i = .int .i64 k ∧ n = .int .i64 m ∧ m ≤ 1500 ∧ Hid (hvy 1500 (L.take k))) (fun _ i => L.length - (intOf i).toNat)
  case atStart => exact ⟨0, 0, Nat.zero_le _, rfl, rfl, by omega, Lib.hid (fun x hx => by simp at hx)⟩
  case round =>
    obtain ⟨k, m, hk, rfl, rfl, hm, hh⟩ := hrel
    by_cases hlt : k < L.length
    · have hbl : decide ((k : Int) < (L.length : Int)) = true := dtrue (by omega)
      obtain ⟨ad, hA, hS, c0⟩ := q4.at_ hlt
      subst hA
      have hi0 : (0 : Int) ≤ (k : Int) := by omega
      have hi1 : (k : Int) < (L.length : Int) := by omega
      have hxl := hL _ (List.getElem_mem hlt)
      have hsn : ∀ h : L[k].length ≤ 1500, hvy 1500 (L.take (k + 1)) := fun h x hx => by
        rw [List.take_succ_eq_append_getElem hlt] at hx
        rcases List.mem_append.1 hx with hx | hx
        · exact hh.out x hx
        · rw [List.mem_singleton.1 hx]; exact h
      generalize L[k] = x at *
      have hz := sv_size x
      by_cases hgt : 1500 < m + 1 + x.length
      · have hb : decide ((1500 : Int) < (m : Int) + 1 + (x.length : Int)) = true := dtrue (by omega)
        clear hsn
        go_wp2_with fail
        go_ret
        exact ⟨true, rfl, by simp, rfl⟩
      · have hb : decide ((1500 : Int) < (m : Int) + 1 + (x.length : Int)) = false := dfalse (by omega)
        have hx := Lib.hid (hsn (by omega))
        clear hsn
        go_wp2_with fail
        go_round
        case rel => exact ⟨k + 1, m + 1 + x.length, by omega, by go_num, by go_num, by omega, hx⟩
        case measure => simp [intOf]; omega
    · have hbl : decide ((k : Int) < (L.length : Int)) = false := dfalse (by omega)
      have hx : Hid (hvy 1500 L) := Lib.hid (by have := hh.out; rwa [List.take_of_length_le (by omega)] at this)
      go_wp2_with fail
      go_ret
      exact ⟨false, rfl, fun _ => hx.out, rfl⟩
abbrev kJohn : List UInt8 := [74, 111, 104, 110, 32, 83, 109, 105, 116, 104]
abbrev kSubs : List (List UInt8) := [[106, 111], [110, 32, 115], [116, 104]]
theorem sub_john : subM 1 kJohn kSubs = (true, true) := by decide +kernel
theorem equal_ab : equalM 1 [32, 65, 32, 32, 98] [97, 32, 66] = true := by decide +kernel
set_option maxHeartbeats 4000000 in
theorem known15_any (hm : Mxl w) : Calls Try.prog 26 #[] w fun e w' => e = .returned (.bool true) ∧ Ext w w' := by
  have hx : Ext w (w.alloc (.cells #[.string ⟨#[106, 111]⟩, .string ⟨#[110, 32, 115]⟩, .string ⟨#[116, 104]⟩] 9)) := (Mod.refl _ w).alloc _
  have hr : Ss (w.alloc (.cells #[.string ⟨#[106, 111]⟩, .string ⟨#[110, 32, 115]⟩, .string ⟨#[116, 104]⟩] 9)) (fun k => k = w.heap.size) (.slice (some ⟨w.heap.size, 0, none⟩) 3 3) kSubs := Sl.lit w 9 (kSubs.map sv) (by simp [maxLen])
  have hc := msub_any 1 kJohn hr (by simp) (by simp) (hm.ext hx)
  rw [sub_john] at hc
  have hc2 := fun wx : World => mequal_any (w := wx) 1 [32, 65, 32, 32, 98] [97, 32, 66] (by simp) (by simp)
  rw [equal_ab] at hc2
  clear hr
  go_enter Try.func26, Try.ntmps26
  go_wp2_with fail
  refine hc.mono ?_
  rintro e w1 ⟨rfl, x1⟩
  clear hc
  go_wp2_with fail
  refine (hc2 w1).mono ?_
  rintro e w2 ⟨rfl, x2⟩
  clear hc2
  go_wp2_with fail
  go_ret
  exact ⟨rfl, ext_trans hx (ext_trans x1 x2)⟩
theorem ss_one (w : World) (s : List UInt8) : Ss (w.alloc (.cells #[sv s] 9)) (fun k => k = w.heap.size) (.slice (some ⟨w.heap.size, 0, none⟩) 1 1) [s] := Sl.one w 9 (sv s)
set_option maxHeartbeats 4000000 in
theorem once_any (k : Int) (s : List UInt8) (hs : s.length ≤ 140737488351232) (hm : Mxl w) :
    Calls Try.prog 8 #[.int .i64 k, sv s] w fun e w' => e = .returned (.bool true) ∧ Ext w w' := by
  have hx : Ext w (w.alloc (.cells #[sv s] 9)) := (Mod.refl _ w).alloc _
  have hc := heavy15_any (ss_one w s) (by simpa using hs)
  have hc2 := mnorm_any (w := w.alloc (.cells #[sv s] 9)) k s hs
  have htw := normM_twice (k := k) (s := s)
  have hkn := fun (wx : World) (q : Ext w wx) => known15_any (w := wx) (hm.ext q)
  have he : ∀ h : (normM k s).2 = true, (normM k s).1.length ≤ 256 → equalM k s (normM k s).1 = true := fun h h2 => by
    unfold equalM
    rw [htw h h2, h]
    simp
  have heq := fun (wx : World) (h : (normM k s).1.length ≤ 256) => mequal_any (w := wx) k s (normM k s).1 hs (by omega)
  have hn2 := fun (wx : World) (h : (normM k s).1.length ≤ 256) => mnorm_any (w := wx) k (normM k s).1 (by omega)
  clear hm
  generalize normM k s = p at *
  obtain ⟨a, ok⟩ := p
  simp only at hc2 htw he heq hn2
  have hsz := sv_size a
  replace htw := Lib.hid htw
  replace he := Lib.hid he
  go_enter Try.func8, Try.ntmps8
  go_wp2_with fail
  refine hc.mono ?_
  rintro e w1 ⟨q, rfl, -, rfl⟩
  clear hc
  cases q with
  | true =>
    go_wp2_with fail
    go_ret
    exact ⟨rfl, hx⟩
  | false =>
  go_wp2_with fail
  refine hc2.mono ?_
  rintro e w2 ⟨rfl, x2⟩
  have y2 := ext_trans hx x2
  clear hc2
  cases ok with
  | false =>
    have hk := hkn w2 y2
    clear hkn heq hn2
    go_wp2_with fail
    refine hk.mono ?_
    rintro e w3 ⟨rfl, x3⟩
    go_wp2_with fail
    go_ret
    exact ⟨rfl, ext_trans y2 x3⟩
  | true =>
  by_cases hl : 256 < a.length
  · have hb : decide ((256 : Int) < (a.length : Int)) = true := dtrue (by omega)
    have hk := hkn w2 y2
    clear hkn heq hn2
    go_wp2_with fail
    refine hk.mono ?_
    rintro e w3 ⟨rfl, x3⟩
    go_wp2_with fail
    go_ret
    exact ⟨rfl, ext_trans y2 x3⟩
  have hb : decide ((256 : Int) < (a.length : Int)) = false := dfalse (by omega)
  have hna := hn2 w2 (by omega)
  rw [htw.out rfl (by omega)] at hna
  have hea := fun wx : World => heq wx (by omega)
  rw [he.out rfl (by omega)] at hea
  have bb := beq_self_eq_true a
  clear htw he heq hn2
  go_wp2_with fail
  refine hna.mono ?_
  rintro e w3 ⟨rfl, x3⟩
  clear hna
  go_wp2_with fail
  refine (hea w3).mono ?_
  rintro e w4 ⟨rfl, x4⟩
  clear hea
  have y4 := ext_trans y2 (ext_trans x3 x4)
  have hk := hkn w4 y4
  clear hkn
  go_wp2_with fail
  refine hk.mono ?_
  rintro e w5 ⟨rfl, x5⟩
  go_wp2_with fail
  go_ret
  exact ⟨rfl, ext_trans y4 x5⟩
theorem sub_bytes {s : List UInt8} {L : List (List UInt8)} (hs : s.length ≤ 256) (h1 : 2 ≤ L.length) (h2 : L.length ≤ 16) : subM 4 s L = (hasP s (L.getD 0 []) ((L.drop 1).take (L.length - 2)) (L.getD (L.length - 1) []), true) := by
  have hn : normM 4 s = (s, true) := by rw [normM_short hs]; rfl
  have hp : pieceM 4 = id := rfl
  unfold subM hasM
  rw [hn, if_neg (by rintro (h | h | h | h) <;> first | cases h; done | omega), hp, List.map_id]
  rfl
theorem whole1 (s : List UInt8) (hs : s.length ≤ 256) : subM 4 s [s, []] = (true, true) := by
  rw [sub_bytes hs (by simp) (by simp)]
  simp [hasP, midsF]
theorem whole2 (s : List UInt8) (hs : s.length ≤ 256) : subM 4 s [[], s] = (true, true) := by
  rw [sub_bytes hs (by simp) (by simp)]
  simp [hasP, midsF]
theorem whole3 (s : List UInt8) (hs : s.length ≤ 256) (f t : Nat) (hf : f < t) (ht : t ≤ s.length) : subM 4 s [[], (s.drop f).take (t - f), []] = (true, true) := by
  rw [sub_bytes hs (by simp) (by simp)]
  obtain ⟨r, h1, _⟩ := mids_has (s := s) (p := (s.drop f).take (t - f)) (y := s.take f) (z := s.drop t) (ps := []) (r0 := s.drop t) (by
    rw [List.append_assoc]
    have h2 : (s.drop f).take (t - f) ++ s.drop t = s.drop f := by
      have h3 : s.drop t = (s.drop f).drop (t - f) := by rw [List.drop_drop, show f + (t - f) = t by omega]
      rw [h3, List.take_append_drop]
    rw [h2, List.take_append_drop]) rfl
  have e : hasP s [] [(s.drop f).take (t - f)] [] = true := by
    unfold hasP
    simp only [List.length_nil, List.drop_zero, h1]
    simp
  exact congrArg (fun b => (b, true)) e
theorem whole4 (s : List UInt8) (hs : s.length ≤ 256) : subM 4 s [s, [120]] = (false, true) := by
  rw [sub_bytes hs (by simp) (by simp)]
  simp [hasP, midsF]
set_option maxHeartbeats 4000000 in
theorem whole_any (s : List UInt8) (from_ to_ : Int) (hs : s.length ≤ 140737488351232) (hm : Mxl w) :
    Calls Try.prog 9 #[sv s, .int .i64 from_, .int .i64 to_] w fun e w' => e = .returned (.bool true) ∧ Ext w w' := by
  have hsz := sv_size s
  by_cases hbad : s.length < 1 ∨ 256 < s.length ∨ from_ < 0 ∨ to_ ≤ from_ ∨ (s.length : Int) < to_
  · have hcase : (decide ((s.length : Int) < 1) = true) ∨ (decide ((s.length : Int) < 1) = false ∧ decide ((256 : Int) < (s.length : Int)) = true) ∨ (decide ((s.length : Int) < 1) = false ∧ decide ((256 : Int) < (s.length : Int)) = false ∧ decide (from_ < 0) = true) ∨
        (decide ((s.length : Int) < 1) = false ∧ decide ((256 : Int) < (s.length : Int)) = false ∧ decide (from_ < 0) = false ∧ decide (to_ ≤ from_) = true) ∨
        (decide ((s.length : Int) < 1) = false ∧ decide ((256 : Int) < (s.length : Int)) = false ∧ decide (from_ < 0) = false ∧ decide (to_ ≤ from_) = false ∧ decide ((s.length : Int) < to_) = true) := by
      simp only [decide_eq_true_eq, decide_eq_false_iff_not]
      omega
    clear hbad
    rcases hcase with b1 | ⟨b1, b2⟩ | ⟨b1, b2, b3⟩ | ⟨b1, b2, b3, b4⟩ | ⟨b1, b2, b3, b4, b5⟩
    all_goals
      go_enter Try.func9, Try.ntmps9
      go_wp2_with fail
      go_ret
      exact ⟨rfl, Mod.refl _ _⟩
  have b1 : decide ((s.length : Int) < 1) = false := dfalse (by omega)
  have b2 : decide ((256 : Int) < (s.length : Int)) = false := dfalse (by omega)
  have b3 : decide (from_ < 0) = false := dfalse (by omega)
  have b4 : decide (to_ ≤ from_) = false := dfalse (by omega)
  have b5 : decide ((s.length : Int) < to_) = false := dfalse (by omega)
  obtain ⟨f, hf⟩ : ∃ f : Nat, from_ = (f : Int) := ⟨from_.toNat, by omega⟩
  obtain ⟨t, ht⟩ : ∃ t : Nat, to_ = (t : Int) := ⟨to_.toNat, by omega⟩
  subst hf
  subst ht
  have hex := ext_sv s f t
  have e3 := whole3 s (by omega) f t (by omega) (by omega)
  have pl : ((s.drop f).take (t - f)).length ≤ 256 := by rw [List.length_take, List.length_drop]; omega
  generalize (s.drop f).take (t - f) = P at *
  have hi0 : (0 : Int) ≤ (f : Int) := by omega
  have hi1 : (f : Int) ≤ (t : Int) := by omega
  have hi2 : (t : Int) ≤ (s.length : Int) := by omega
  have hc1 := fun (wx : World) (q : Ext w wx) => msub_any 4 s (w := wx.alloc (.cells #[sv s, .string ⟨#[]⟩] 9)) (L := [s, []]) (v := .slice (some ⟨wx.heap.size, 0, none⟩) 2 2) (Sl.lit wx 9 [sv s, sv []] (by simp [maxLen])) hs (by simp; omega) ((hm.ext q).ext ((Mod.refl _ _).alloc _))
  have hc2 := fun (wx : World) (q : Ext w wx) => msub_any 4 s (w := wx.alloc (.cells #[.string ⟨#[]⟩, sv s] 9)) (L := [[], s]) (v := .slice (some ⟨wx.heap.size, 0, none⟩) 2 2) (Sl.lit wx 9 [sv [], sv s] (by simp [maxLen])) hs (by simp; omega) ((hm.ext q).ext ((Mod.refl _ _).alloc _))
  have hc3 := fun (wx : World) (q : Ext w wx) => msub_any 4 s (w := wx.alloc (.cells #[.string ⟨#[]⟩, sv P, .string ⟨#[]⟩] 9)) (L := [[], P, []]) (v := .slice (some ⟨wx.heap.size, 0, none⟩) 3 3) (Sl.lit wx 9 [sv [], sv P, sv []] (by simp [maxLen])) hs (by simp; omega) ((hm.ext q).ext ((Mod.refl _ _).alloc _))
  have hc4 := fun (wx : World) (q : Ext w wx) => msub_any 4 s (w := wx.alloc (.cells #[sv s, .string ⟨#[120]⟩] 9)) (L := [s, [120]]) (v := .slice (some ⟨wx.heap.size, 0, none⟩) 2 2) (Sl.lit wx 9 [sv s, sv [120]] (by simp [maxLen])) hs (by simp; omega) ((hm.ext q).ext ((Mod.refl _ _).alloc _))
  rw [whole1 s (by omega)] at hc1
  rw [whole2 s (by omega)] at hc2
  rw [e3] at hc3
  rw [whole4 s (by omega)] at hc4
  have hkn := fun (wx : World) (q : Ext w wx) => known15_any (w := wx) (hm.ext q)
  have h1 := hc1 w (Mod.refl _ _)
  clear hm e3 hc1
  go_enter Try.func9, Try.ntmps9
  go_wp2_with fail
  refine h1.mono ?_
  rintro e w1 ⟨rfl, x1⟩
  have y1 := ext_trans ((Mod.refl _ w).alloc _) x1
  have h2 := hc2 w1 y1
  clear h1 hc2 x1
  go_wp2_with fail
  refine h2.mono ?_
  rintro e w2 ⟨rfl, x2⟩
  have y2 := ext_trans y1 (ext_trans ((Mod.refl _ w1).alloc _) x2)
  have h3 := hc3 w2 y2
  clear h2 hc3 x2 y1
  go_wp2_with fail
  refine h3.mono ?_
  rintro e w3 ⟨rfl, x3⟩
  have y3 := ext_trans y2 (ext_trans ((Mod.refl _ w2).alloc _) x3)
  have h4 := hc4 w3 y3
  clear h3 hc4 x3 y2
  go_wp2_with fail
  refine h4.mono ?_
  rintro e w4 ⟨rfl, x4⟩
  have y4 := ext_trans y3 (ext_trans ((Mod.refl _ w3).alloc _) x4)
  have h5 := hkn w4 y4
  clear h4 hkn x4 y3
  go_wp2_with fail
  refine h5.mono ?_
  rintro e w5 ⟨rfl, x5⟩
  go_wp2_with fail
  go_ret
  exact ⟨rfl, ext_trans y4 x5⟩
end
end Go.Proofs.Ytopdkeaekgiejaa

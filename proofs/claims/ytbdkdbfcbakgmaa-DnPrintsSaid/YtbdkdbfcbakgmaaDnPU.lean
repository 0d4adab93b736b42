/- dn: the document's Print and Up; the law Prints. -/
import Derived.Test.YtbdkdbfcbakgmaaDnPS
namespace Go.Proofs.Ytbdkdbfcbakgmaa
open Go.RowKit
set_option maxRecDepth 100000

theorem catP (o t P : List UInt8) : (⟨o.toArray⟩ : ByteArray) ++ ⟨t.toArray⟩ ++ ⟨#[61]⟩ ++ ⟨P.toArray⟩ = ⟨(o ++ t ++ [61] ++ P).toArray⟩ := by
  rw [← cat_data, ← cat_data, ← cat_data]
theorem catQ (o t P : List UInt8) : (⟨o.toArray⟩ : ByteArray) ++ ⟨#[44]⟩ ++ ⟨t.toArray⟩ ++ ⟨#[61]⟩ ++ ⟨P.toArray⟩ = ⟨(o ++ [44] ++ t ++ [61] ++ P).toArray⟩ := by
  rw [← cat_data, ← cat_data, ← cat_data, ← cat_data]

set_option maxHeartbeats 8000000 in
theorem rprint_any {w : World} {S : Nat → Prop} {v : Value} {L : List Av} (h : As w S v L) (hw : wN L ≤ 100000) :
    Calls Try.prog 26 #[v] w fun e w' => e = .returned (sv (printB L)) ∧ Ext w w' := by
  have hlw := wN_len L
  obtain ⟨A, c, rfl, h1, h2, h3, h4⟩ := h.open_ avc_len
  go_enter Try.func26, Try.ntmps26
  go_wp2_with fail
  go_loopw [3, 4] (fun t i wr => ∃ k : Nat, k ≤ L.length ∧ i = .int .i64 k ∧ t = sv (printB (L.take k)) ∧ Ext w wr) (fun _ i _ => L.length - (intOf i).toNat)
  case atStart => exact ⟨0, Nat.zero_le _, rfl, rfl, Mod.refl _ _⟩
  case round =>
    obtain ⟨k, hk, rfl, rfl, q3⟩ := hrel
    by_cases hlt : k < L.length
    case neg =>
      have hbl : decide ((k : Int) < (L.length : Int)) = false := dfalse (by omega)
      rw [List.take_of_length_le (by omega)]
      go_wp2_with fail
      go_ret
      exact ⟨rfl, q3⟩
    have hbl : decide ((k : Int) < (L.length : Int)) = true := dtrue (by omega)
    obtain ⟨ad, hA, hS, c0, c1⟩ := As.at_ (h4.ext q3) hlt
    subst hA
    have hsn : printB (L.take (k + 1)) = printB (L.take k) ++ (if k = 0 then [] else [44]) ++ partP L[k] := by
      rw [List.take_succ_eq_append_getElem hlt, printB_snoc]
      congr 2
      by_cases h0 : k = 0
      · subst h0; simp
      · rw [if_neg h0, if_neg (by intro h; have := congrArg List.length h; rw [List.length_take, List.length_nil] at this; omega)]
    have hol := printB_len (L.take k)
    have hwk := wN_snoc L hlt
    have hwt := wN_take L (k + 1)
    have hpl := pvB_len L[k].2
    have hx : ∀ {wx : World}, Ext w wx → wx.cell? (ad.add (k * 2)) = some (sv L[k].1) ∧ wx.cell? ⟨(ad.add (k * 2)).block, (ad.add (k * 2)).off + 1, none⟩ = some (sv L[k].2) := fun hx => by
      obtain ⟨ad', hA, _, d0, d1⟩ := As.at_ (h4.ext hx) hlt
      cases hA
      exact ⟨d0, d1⟩
    have htd := fun wx => told_any (w := wx) L[k].2 (by omega)
    have hi0 : (0 : Int) ≤ (k : Int) := by omega
    have hi1 : (k : Int) < (L.length : Int) := by omega
    generalize L[k] = x at *
    obtain ⟨t, u⟩ := x
    dsimp only at *
    unfold partP at hsn
    dsimp only at hsn
    generalize printB (L.take k) = o at *
    have hvw : u.length ≤ 100000 := by omega
    have htw : t.length ≤ 100000 := by omega
    have how : o.length ≤ 400000 := by omega
    clear hol hwk hwt
    generalize pvB u = P at *
    have hPs := sv_size P
    have hts := sv_size t
    have hos := sv_size o
    by_cases hk0 : k = 0
    · rw [if_pos hk0, List.append_nil] at hsn
      have hb1 : decide (0 < k) = false := dfalse (by omega)
      have n1 : ¬ 9223372036854775807 < o.length + t.length := by omega
      have n2 : ¬ 9223372036854775807 < o.length + t.length + 1 := by omega
      have n3 : ¬ 9223372036854775807 < o.length + t.length + 1 + P.length := by omega
      have hsn2 : Hid (printB (L.take (k + 1)) = o ++ t ++ [61] ++ P) := Lib.hid (by rw [hsn]; simp)
      have q0 : Ext w wr.drew := q3.drew
      clear hk0 hsn
      go_wp2_with fail
      go_region_held3 (fun w' => w'.cell? (ad.add (k * 2)) = some (sv t) ∧ w'.cell? ⟨(ad.add (k * 2)).block, (ad.add (k * 2)).off + 1, none⟩ = some (sv u)) (first | exact hx q0 | exact hx q1) (first
        | (go_at_call 56; (with_reducible refine (htd _).mono ?_); rintro e wa ⟨rfl, xa⟩; have q1 := ext_trans q0 xa))
      all_goals go_wp2_with fail
      all_goals exact ⟨⟨k + 1, by omega, by go_num, by rw [hsn2.out]; exact congrArg Value.string (catP _ _ _), q1⟩, by simp [intOf] <;> omega⟩
    rw [if_neg hk0] at hsn
    have hb1 : decide (0 < k) = true := dtrue (by omega)
    have n0 : ¬ 9223372036854775807 < o.length + 1 := by omega
    have n1 : ¬ 9223372036854775807 < o.length + 1 + t.length := by omega
    have n2 : ¬ 9223372036854775807 < o.length + 1 + t.length + 1 := by omega
    have n3 : ¬ 9223372036854775807 < o.length + 1 + t.length + 1 + P.length := by omega
    have hsn2 : Hid (printB (L.take (k + 1)) = o ++ [44] ++ t ++ [61] ++ P) := Lib.hid (by rw [hsn]; simp)
    have q0 : Ext w wr.drew := q3.drew
    clear hk0 hsn
    go_wp2_with fail
    go_region_held3 (fun w' => w'.cell? (ad.add (k * 2)) = some (sv t) ∧ w'.cell? ⟨(ad.add (k * 2)).block, (ad.add (k * 2)).off + 1, none⟩ = some (sv u)) (first | exact hx q0 | exact hx q1) (first
      | (go_at_call 56; (with_reducible refine (htd _).mono ?_); rintro e wa ⟨rfl, xa⟩; have q1 := ext_trans q0 xa))
    all_goals go_wp2_with fail
    all_goals exact ⟨⟨k + 1, by omega, by go_num, by rw [hsn2.out]; exact congrArg Value.string (catQ _ _ _), q1⟩, by simp [intOf] <;> omega⟩

set_option maxHeartbeats 2000000 in
theorem rup_any {w : World} {v : Value} {L : List Av} (h : As w (fun b => b < w.heap.size) v L) (hf : L.length * 32 ≤ 140737488351232) :
    Calls Try.prog 32 #[v] w fun e w' => ∃ v', e = .returned v' ∧ OwnA w' v' (L.drop 1) ∧ Fresh w.heap.size v' ∧ Ext w w' := by
  obtain ⟨A, c, rfl, h1, h2, h3, h4⟩ := h.open_ avc_len
  by_cases hl : L.length = 0
  · obtain rfl : L = [] := List.eq_nil_of_length_eq_zero hl
    go_enter Try.func32, Try.ntmps32
    go_wp2_with fail
    go_ret
    exact ⟨_, rfl, OwnR.nil _ _ _ _, fresh_nil _ _ _, Mod.refl _ _⟩
  have hb : ((L.length : Int) == 0) = false := by rw [beq_eq_false_iff_ne]; omega
  obtain ⟨ad, rfl⟩ : ∃ ad, A = some ad := by
    cases A with
    | none => have := h3 rfl; omega
    | some ad => exact ⟨ad, rfl⟩
  have hb1 : (1 : Int) ≤ (L.length : Int) := by omega
  have hdl : (([] : List Av).length + (L.drop 1).length) * 32 ≤ 140737488355328 := by rw [List.length_drop, List.length_nil]; omega
  have hx : Ext w (w.alloc (.cells #[] 37)) := (Mod.refl _ w).alloc _
  have ho := OwnR.empty avc 2 w 37
  by_cases hc : c = 1
  · have hr := (Rc.rest0 h (m := 1) (by omega) hc).ext hx
    have e0 : L.length - 1 = 0 := by omega
    rw [e0] at hr
    replace hdl := Lib.hid hdl
    subst hc
    clear e0 h
    go_enter Try.func32, Try.ntmps32
    go_wp2_with ((with_reducible show wpList _ _ _ (⟨some 9, _, _, _, _, _⟩ :: _) _ _); refine wp_appRs tyA ho hr (fun x => avc_ok x) hdl.out rfl (.tmp 6) (.tmp 8) rfl rfl rfl ?_; intro v2 w2 k1 k2 k3)
    go_ret
    exact ⟨_, rfl, k1, k3.fresh (fresh_new w 0 0) (by simp), hx.trans k2 (fun _ _ h => h) (fun b hb hh => by have : w.heap.size = b := Option.some.inj hh; omega)⟩
  · have hr := (Rc.rest avc_len h (m := 1) (by omega)).ext hx
    rw [Option.map_some, show ad.add (1 * 2) = ⟨ad.block, ad.off + 2, none⟩ from by simp [Addr.add]] at hr
    replace hdl := Lib.hid hdl
    clear h
    go_enter Try.func32, Try.ntmps32
    go_wp2_with ((with_reducible show wpList _ _ _ (⟨some 9, _, _, _, _, _⟩ :: _) _ _); refine wp_appRs tyA ho hr (fun x => avc_ok x) hdl.out rfl (.tmp 6) (.tmp 8) rfl rfl rfl ?_; intro v2 w2 k1 k2 k3)
    go_ret
    exact ⟨_, rfl, k1, k3.fresh (fresh_new w 0 0) (by simp), hx.trans k2 (fun _ _ h => h) (fun b hb hh => by have : w.heap.size = b := Option.some.inj hh; omega)⟩

set_option maxHeartbeats 8000000 in
theorem dnPrints_walk {w : World} {v : Value} {L : List Av} (h1 : As w (fun _ => True) v L) (f1 : Fits L) :
    Calls Try.prog 4 #[v] w fun e w' => e = .returned (.bool true) ∧ Ext w w' := by
  go_enter Try.func4, Try.ntmps4
  go_wp2_with fail
  refine (heavy13_any h1 f1).mono ?_
  rintro e w1 ⟨q, rfl, g0, x1⟩
  cases q
  case true =>
    go_wp2_with fail
    go_ret
    exact ⟨rfl, x1⟩
  replace g0 := Lib.hid (g0 rfl)
  obtain ⟨P, hP⟩ : ∃ P, P = printB L := ⟨_, rfl⟩
  have pp := bb_of P
  obtain ⟨q, hq⟩ : ∃ q, q = decide (isName L) := ⟨_, rfl⟩
  have qq : (q == q) = true := by cases q <;> rfl
  go_wp2_with fail
  refine (printW_any (h1.ext x1) (by have := g0.out; omega)).mono ?_
  rintro e w2 ⟨rfl, x2⟩
  rw [← hP]
  replace x2 := ext_trans x1 x2
  clear x1
  go_wp2_with fail
  refine (rprint_any (h1.ext x2) (by have := g0.out; omega)).mono ?_
  rintro e w3 ⟨rfl, x3⟩
  rw [← hP]
  replace x3 := ext_trans x2 x3
  clear x2 hP
  go_wp2_with fail
  refine (is_any (h1.ext x3) f1).mono ?_
  rintro e w4 ⟨rfl, x4⟩
  rw [← hq]
  replace x4 := ext_trans x3 x4
  clear x3
  go_wp2_with fail
  refine (ris_any (h1.ext x4) f1).mono ?_
  rintro e w5 ⟨rfl, hw5⟩
  rw [← hq, hw5]
  clear hw5 w5 hq
  go_wp2_with fail
  refine (norm_any (h1.ext x4) f1).mono ?_
  rintro e w5 ⟨v5, rfl, p5, _, x5⟩
  replace x5 := ext_trans x4 x5
  clear x4
  go_wp2_with fail
  refine (rnorm_any (h1.there x5) f1).mono ?_
  rintro e w6 ⟨v6, rfl, p6, _, x6⟩
  have p5' := p5.ext x6
  replace x6 := ext_trans x5 x6
  clear x5 p5
  go_wp2_with fail
  refine (names13_any p5'.rc p6.rc (by unfold norm; rw [List.length_map]; exact f1.2)).mono ?_
  rintro e w7 ⟨rfl, x7⟩
  rw [dtrue rfl]
  replace x7 := ext_trans x6 x7
  clear x6 p5' p6
  go_wp2_with fail
  refine (up_any (h1.there x7) f1.2).mono ?_
  rintro e w8 ⟨v8, rfl, p8, _, x8⟩
  replace x8 := ext_trans x7 x8
  clear x7
  go_wp2_with fail
  refine (rup_any (h1.there x8) f1.2).mono ?_
  rintro e w9 ⟨v9, rfl, p9, _, x9⟩
  have p8' := p8.ext x9
  replace x9 := ext_trans x8 x9
  clear x8 p8
  go_wp2_with fail
  refine (names13_any p8'.rc p9.rc (by rw [List.length_drop]; have := f1.2; omega)).mono ?_
  rintro e wa ⟨rfl, xa⟩
  rw [dtrue rfl]
  replace xa := ext_trans x9 xa
  go_wp2_with fail
  refine known13_any.mono ?_
  rintro e wk ⟨rfl, xk⟩
  go_wp2_with fail
  go_ret
  exact ⟨rfl, ext_trans xa xk⟩
end Go.Proofs.Ytbdkdbfcbakgmaa

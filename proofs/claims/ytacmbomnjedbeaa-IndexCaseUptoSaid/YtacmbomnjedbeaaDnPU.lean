/- dn: the document's Print and Up; the law Prints. -/
import Derived.Test.YtacmbomnjedbeaaDnPS
namespace Go.Proofs.Ytacmbomnjedbeaa
open Go.RowKit
set_option maxRecDepth 100000

theorem catP (o t P : List UInt8) : (⟨o.toArray⟩ : ByteArray) ++ ⟨t.toArray⟩ ++ ⟨#[61]⟩ ++ ⟨P.toArray⟩ = ⟨(o ++ t ++ [61] ++ P).toArray⟩ := by
  rw [← cat_data, ← cat_data, ← cat_data]
theorem catQ (o t P : List UInt8) : (⟨o.toArray⟩ : ByteArray) ++ ⟨#[44]⟩ ++ ⟨t.toArray⟩ ++ ⟨#[61]⟩ ++ ⟨P.toArray⟩ = ⟨(o ++ [44] ++ t ++ [61] ++ P).toArray⟩ := by
  rw [← cat_data, ← cat_data, ← cat_data, ← cat_data]

set_option maxHeartbeats 8000000 in
theorem rprint_any {w : World} {S : Nat → Prop} {v : Value} {L : List Av} (h : As w S v L) (hw : wN L ≤ 100000) :
    Calls Try.prog 30 #[v] w fun e w' => e = .returned (sv (printB L)) ∧ Ext w w' := by
  have hlw := wN_len L
  obtain ⟨A, c, rfl, h1, h2, h3, h4⟩ := h.open_ avc_len
  go_enter Try.func30, Try.ntmps30
  go_wp2_with fail
  go_loopw [3, 4] (fun t i wr => ∃ k : Nat, k ≤ L.length ∧ i = .int .i64 k ∧ t = sv (printB (L.take k)) ∧ Ext w wr) (fun _ i _ => L.length - (intOf i).toNat)
  case atStart => exact ⟨0, Nat.zero_le _, rfl, rfl, Mod.refl _ _⟩
  case round =>
    obtain ⟨k, hk, rfl, rfl, q3⟩ := hrel
    by_cases hlt : k < L.length
    case neg =>
      have hbl : decide ((k : Int) < (L.length : Int)) = false := dfalse (by omega)
      rw [List.take_of_length_le (by omega)]
      go_wp2_with fail
      go_ret
      exact ⟨rfl, q3⟩
    have hbl : decide ((k : Int) < (L.length : Int)) = true := dtrue (by omega)
    obtain ⟨ad, hA, hS, c0, c1⟩ := As.at_ (h4.ext q3) hlt
    subst hA
    have hsn : printB (L.take (k + 1)) = printB (L.take k) ++ (if k = 0 then [] else [44]) ++ partP L[k] := by
      rw [List.take_succ_eq_append_getElem hlt, printB_snoc]
      congr 2
      by_cases h0 : k = 0
      · subst h0; simp
      · rw [if_neg h0, if_neg (by intro h; have := congrArg List.length h; rw [List.length_take, List.length_nil] at this; omega)]
    have hol := printB_len (L.take k)
    have hwk := wN_snoc L hlt
    have hwt := wN_take L (k + 1)
    have hpl := pvB_len L[k].2
    have hx : ∀ {wx : World}, Ext w wx → wx.cell? (ad.add (k * 2)) = some (sv L[k].1) ∧ wx.cell? ⟨(ad.add (k * 2)).block, (ad.add (k * 2)).off + 1, none⟩ = some (sv L[k].2) := fun hx => by
      obtain ⟨ad', hA, _, d0, d1⟩ := As.at_ (h4.ext hx) hlt
      cases hA
      exact ⟨d0, d1⟩
    have htd := fun wx => told_any (w := wx) L[k].2 (by omega)
    have hi0 : (0 : Int) ≤ (k : Int) := by omega
    have hi1 : (k : Int) < (L.length : Int) := by omega
    generalize L[k] = x at *
    obtain ⟨t, u⟩ := x
    dsimp only at *
    unfold partP at hsn
    dsimp only at hsn
    generalize printB (L.take k) = o at *
    have hvw : u.length ≤ 100000 := by omega
    have htw : t.length ≤ 100000 := by omega
    have how : o.length ≤ 400000 := by omega
    clear hol hwk hwt
    generalize pvB u = P at *
    have hPs := sv_size P
    have hts := sv_size t
    have hos := sv_size o
    by_cases hk0 : k = 0
    · rw [if_pos hk0, List.append_nil] at hsn
      have hb1 : decide (0 < k) = false := dfalse (by omega)
      have n1 : ¬ 9223372036854775807 < o.length + t.length := by omega
      have n2 : ¬ 9223372036854775807 < o.length + t.length + 1 := by omega
      have n3 : ¬ 9223372036854775807 < o.length + t.length + 1 + P.length := by omega
      have hsn2 : Hid (printB (L.take (k + 1)) = o ++ t ++ [61] ++ P) := Lib.hid (by rw [hsn]; simp)
      have q0 : Ext w wr.drew := q3.drew
      clear hk0 hsn
      go_wp2_with fail
      go_region_held3 (fun w' => w'.cell? (ad.add (k * 2)) = some (sv t) ∧ w'.cell? ⟨(ad.add (k * 2)).block, (ad.add (k * 2)).off + 1, none⟩ = some (sv u)) (first | exact hx q0 | exact hx q1) (first
        | (go_at_call 51; (with_reducible refine (htd _).mono ?_); rintro e wa ⟨rfl, xa⟩; have q1 := ext_trans q0 xa))
      all_goals go_wp2_with fail
      all_goals exact ⟨⟨k + 1, by omega, by go_num, by rw [hsn2.out]; exact congrArg Value.string (catP _ _ _), q1⟩, by simp [intOf] <;> omega⟩
    rw [if_neg hk0] at hsn
    have hb1 : decide (0 < k) = true := dtrue (by omega)
    have n0 : ¬ 9223372036854775807 < o.length + 1 := by omega
    have n1 : ¬ 9223372036854775807 < o.length + 1 + t.length := by omega
    have n2 : ¬ 9223372036854775807 < o.length + 1 + t.length + 1 := by omega
    have n3 : ¬ 9223372036854775807 < o.length + 1 + t.length + 1 + P.length := by omega
    have hsn2 : Hid (printB (L.take (k + 1)) = o ++ [44] ++ t ++ [61] ++ P) := Lib.hid (by rw [hsn]; simp)
    have q0 : Ext w wr.drew := q3.drew
    clear hk0 hsn
    go_wp2_with fail
    go_region_held3 (fun w' => w'.cell? (ad.add (k * 2)) = some (sv t) ∧ w'.cell? ⟨(ad.add (k * 2)).block, (ad.add (k * 2)).off + 1, none⟩ = some (sv u)) (first | exact hx q0 | exact hx q1) (first
      | (go_at_call 51; (with_reducible refine (htd _).mono ?_); rintro e wa ⟨rfl, xa⟩; have q1 := ext_trans q0 xa))
    all_goals go_wp2_with fail
    all_goals exact ⟨⟨k + 1, by omega, by go_num, by rw [hsn2.out]; exact congrArg Value.string (catQ _ _ _), q1⟩, by simp [intOf] <;> omega⟩

end Go.Proofs.Ytacmbomnjedbeaa

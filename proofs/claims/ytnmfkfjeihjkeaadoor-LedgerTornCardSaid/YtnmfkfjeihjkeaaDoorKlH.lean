/- ledger: a record of the log taken in. -/
import Derived.Test.YtnmfkfjeihjkeaaDoorKlG
namespace Go.Proofs.YtnmfkfjeihjkeaaDoor
open Go.RowKit Go.Maps Go.WideMaps
set_option maxRecDepth 100000

section
variable {w w' : World} {t B : Nat} {tv y : Value} {vs : List Value} {base ah n : Nat} {es : Tx} {r p : List UInt8} {V : Nat → Prop}
abbrev tcells (base ah : Nat) (tv : Value) : Array Value := #[.int .i64 (base : Int), .int .i64 (ah : Int), tv]
def esN (base n : Nat) (es : Tx) (p : List UInt8) : Tx := if n ≤ base then es else es ++ [p]
set_option maxHeartbeats 16000000 in
theorem take5_any (tk : Blk w t 133 (tcells base ah tv)) (ho : Orw w B tv vs es) (hB : B ≤ w.heap.size) (hrow : Bs w V y r) (hr : r.length ≤ 1000000) (hi : Img r n p) (h1 : 1 ≤ n) (hah : ah = 0 ∨ n = ah + 1) (hcase : n ≤ base ∨ n = base + es.length + 1) (hah2 : ah ≤ 1099511627776) (hbase : base ≤ 1099511627776) (hes : es.length ≤ 200000) :
    Calls Tryd.prog 98 #[pv t, y] w fun e w' => e = .returned (.int .i64 0) ∧ (∃ tv' vs', Blk w' t 133 (tcells base n tv') ∧ Orw w' B tv' vs' (esN base n es p)) ∧ Mod (fun k => k = t ∨ own tv k) w w' := by
  obtain ⟨st1, st2, hi1, hi2, hi3, hi4⟩ := hi
  have hs1 : (st1.getD []).length ≤ r.length := by
    have h2 := takeN_len (some r)
    rw [hi1] at h2
    exact h2
  have hp : p.length ≤ 1000000 := by
    have h1 := (takeB_len st1).2
    rw [hi2] at h1
    simp only at h1
    omega
  have htl : t < w.heap.size := tk.lt
  have hnr := newreader_any hrow (by omega)
  have hb1 : decide ((n : Int) < 1) = false := dfalse (by omega)
  have hb2 : decide ((1099511627776 : Int) < (n : Int)) = false := dfalse (by omega)
  have hnt : ¬ own tv t := fun h => by
    obtain ⟨cur, hc⟩ := ho.own.ty h
    exact absurd (hc.ty_eq tk) (by decide)
  clear hrow
  obtain ⟨E, hE⟩ : ∃ E, E = esN base n es p := ⟨_, rfl⟩
  rw [← hE]
  replace hE := Lib.hid hE
  go_enter Tryd.func98, Tryd.ntmps98
  go_wp2_with fail
  refine hnr.mono ?_
  rintro e w5 ⟨br, v5, rfl, rd5, z5, z6, x5⟩
  clear hnr
  have hnm := num_any rd5
  rw [hi1] at hnm
  simp only at hnm
  go_wp2_with fail
  refine hnm.mono ?_
  rintro e w6 ⟨v6, rfl, rd6, m6, z7⟩
  have y6 : Ext w w6 := x5.trans m6 (fun _ _ h => h) (fun k hk e => by omega)
  have hby := bytes_any rd6 (by omega)
  rw [hi2] at hby
  simp only at hby
  clear hnm rd5 m6
  go_wp2_with fail
  refine hby.mono ?_
  rintro e w7 ⟨v7, u7, rfl, rd7, o7, f7, m7⟩
  have y7 : Ext w w7 := y6.trans m7 (fun _ _ h => h) (fun k hk e => by omega)
  have hz6 := y6.size
  have hwh := whole_any rd7
  rw [hi3] at hwh
  clear hby rd6 m7
  go_wp2_with fail
  refine hwh.mono ?_
  rintro e w8 ⟨rfl, rfl⟩
  clear hwh rd7
  have tk8 := tk.mod y7 (fun h => h)
  have ho8 := ho.ext y7
  have f7' := f7.mono hz6
  have c0 : w8.cell? ⟨t, 0, none⟩ = some (.int .i64 (base : Int)) := tk8.cell 0
  have c1 : w8.cell? ⟨t, 1, none⟩ = some (.int .i64 (ah : Int)) := tk8.cell 1
  have c2 : w8.cell? ⟨t, 2, none⟩ = some tv := tk8.cell 2
  have z1 : w8.frozen? ⟨t, 1, none⟩ = false := tk8.frozen 1
  have s9 : Mod (fun k => k = t) w8 (w8.setCell ⟨t, 1, none⟩ (.int .i64 (n : Int))) := setg_mod _ _ _ _
  have tk9 : Blk (w8.setCell ⟨t, 1, none⟩ (.int .i64 (n : Int))) t 133 (tcells base n tv) := tk8.set_ 1 _
  have d0 : (w8.setCell ⟨t, 1, none⟩ (.int .i64 (n : Int))).cell? ⟨t, 0, none⟩ = some (.int .i64 (base : Int)) := tk9.cell 0
  have d2 : (w8.setCell ⟨t, 1, none⟩ (.int .i64 (n : Int))).cell? ⟨t, 2, none⟩ = some tv := tk9.cell 2
  have ho9 : Orw (w8.setCell ⟨t, 1, none⟩ (.int .i64 (n : Int))) B tv vs es := ⟨ho8.own.mod s9 (fun k hk e => hnt (e ▸ hk)), ho8.fresh, ho8.len, fun k x e hx he => ⟨(ho8.els k x e hx he).1.mod s9 (fun k hk e => by
    obtain ⟨cur, hc⟩ := (ho8.els _ x _ hx he).1.ty hk
    rw [e] at hc
    exact absurd (hc.ty_eq tk8) (by decide)), (ho8.els k x e hx he).2⟩⟩
  have o9 : Own (w8.setCell ⟨t, 1, none⟩ (.int .i64 (n : Int))) 5 u7 (p.map bv) := o7.mod s9 (fun k hk e => by have := f7' k hk; omega)
  have m9 : Mod (fun k => k = t ∨ own tv k) w (w8.setCell ⟨t, 1, none⟩ (.int .i64 (n : Int))) := y7.trans s9 (fun _ _ h => h.elim) (fun _ _ h => .inl h)
  have hgo : (ah = 0 ∧ True) ∨ (decide (0 < ah) = true ∧ n = ah + 1) := by
    rcases hah with h | h
    · exact .inl ⟨h, trivial⟩
    · by_cases h0 : ah = 0
      · exact .inl ⟨h0, trivial⟩
      · exact .inr ⟨decide_eq_true (by omega), h⟩
  clear hah tk ho ho8 o7 tk8 hi1 hi2 hi3
  have hne : n = ah + 1 → ((n : Int) != (ah : Int) + 1) = false := fun h => by rw [bne_eq_false_iff_eq]; omega
  obtain ⟨Au, lu, cu, hu⟩ : ∃ A n c, u7 = .slice A n c := (by obtain ⟨A, c, h⟩ := o9.shape; exact ⟨A, _, c, h⟩)
  obtain ⟨w9, hw9⟩ : ∃ w9, w9 = w8.setCell ⟨t, 1, none⟩ (.int .i64 (n : Int)) := ⟨_, rfl⟩
  have hfin1 : n ≤ base → (∃ tv' vs', Blk (w8.setCell ⟨t, 1, none⟩ (.int .i64 (n : Int))) t 133 (tcells base n tv') ∧ Orw (w8.setCell ⟨t, 1, none⟩ (.int .i64 (n : Int))) B tv' vs' E) ∧ Mod (fun k => k = t ∨ own tv k) w (w8.setCell ⟨t, 1, none⟩ (.int .i64 (n : Int))) := fun h => ⟨⟨tv, vs, tk9, by rw [hE.out, show esN base n es p = es by unfold esN; rw [if_pos h]]; exact ho9⟩, m9⟩
  replace hfin1 := Lib.hid hfin1
  have e0 : w9.cell? ⟨t, 0, none⟩ = some (.int .i64 (base : Int)) := by rw [hw9]; exact d0
  have e2 : w9.cell? ⟨t, 2, none⟩ = some tv := by rw [hw9]; exact d2
  rw [← hw9] at tk9 ho9 o9 m9
  have hlen := ho9.len
  obtain ⟨At, ct, htv⟩ := ho9.own.shape
  rw [hlen] at htv
  have hz9 : w.heap.size ≤ w9.heap.size := m9.size
  by_cases hle : n ≤ base
  · have hb4 : decide ((n : Int) ≤ (base : Int)) = true := dtrue (by omega)
    have hf := Lib.hid (hfin1.out hle)
    clear hfin1 tk9 ho9 o9 m9 e0 e2 hw9
    rcases hgo with ⟨rfl, -⟩ | ⟨hg, hg2⟩
    · go_wp2_with fail
      go_ret
      exact ⟨rfl, hf.out⟩
    · have hne2 := hne hg2
      clear hg2 hne
      go_wp2_with fail
      go_ret
      exact ⟨rfl, hf.out⟩
  have hb4 : decide ((n : Int) ≤ (base : Int)) = false := dfalse (by omega)
  have hn2 := hcase.resolve_left hle
  have hne4 : ((n : Int) != (base : Int) + (es.length : Int) + 1) = false := by rw [bne_eq_false_iff_eq]; omega
  clear hn2
  have hes' : E = es ++ [p] := by rw [hE.out]; unfold esN; rw [if_neg hle]
  have hn1 : (vs.length + [Value.bool true].length) * 24 ≤ 140737488355328 := by simp; omega
  replace hes' := Lib.hid hes'
  have hfin2 : ∀ (m : Nat) (v6 : Value) (w6 : World), Own w6 32 v6 (vs ++ [u7]) → Mod (own tv) ((w9.drewN m).alloc (.cells #[u7] 32)) w6 → Next ((w9.drewN m).alloc (.cells #[u7] 32)).heap.size tv v6 →
      (∃ tv' vs', Blk (w6.setCell ⟨t, 2, none⟩ v6) t 133 (tcells base n tv') ∧ Orw (w6.setCell ⟨t, 2, none⟩ v6) B tv' vs' E) ∧ Mod (fun k => k = t ∨ own tv k) w (w6.setCell ⟨t, 2, none⟩ v6) := fun m v6 w6 o6 m6 n6 => by
    have xa : Ext w9 ((w9.drewN m).alloc (.cells #[u7] 32)) := ((Mod.refl _ w9).drewN m).alloc _
    have hoa := ho9.ext xa
    have oa := o9.mod xa (fun _ _ h => h)
    have hsn := hoa.snoc o6 m6 n6 oa (f7'.mono (by omega)) (by have := xa.size; omega)
    have tk6 := (tk9.mod xa (fun h => h)).mod m6 hnt
    have s6 : Mod (fun k => k = t) w6 (w6.setCell ⟨t, 2, none⟩ v6) := setg_mod _ _ _ _
    have hnv : ¬ own v6 t := fun h => by
      obtain ⟨cur, hc⟩ := o6.ty h
      exact absurd (hc.ty_eq tk6) (by decide)
    refine ⟨⟨v6, _, tk6.set_ 2 v6, by rw [hes'.out]; exact ⟨hsn.own.mod s6 (fun k hk e => hnv (e ▸ hk)), hsn.fresh, hsn.len, fun k x e hx he => ⟨(hsn.els k x e hx he).1.mod s6 (fun k hk e => by
      obtain ⟨cur, hc⟩ := (hsn.els _ x _ hx he).1.ty hk
      rw [e] at hc
      exact absurd (hc.ty_eq tk6) (by decide)), (hsn.els k x e hx he).2⟩⟩⟩, ?_⟩
    exact ((m9.trans xa (fun _ _ h => h) (fun _ _ h => h.elim)).trans m6 (fun _ _ h => h) (fun _ _ h => .inr h)).trans s6 (fun _ _ h => h) (fun _ _ h => .inl h)
  replace hfin2 := Lib.hid hfin2
  have hc6 : ∀ (m : Nat) (w6 : World), Mod (own tv) ((w9.drewN m).alloc (.cells #[u7] 32)) w6 → w6.cell? ⟨t, 2, none⟩ = some tv ∧ w6.frozen? ⟨t, 2, none⟩ = false := fun m w6 m6 => by
    have tk6 := (tk9.mod (((Mod.refl (fun _ => False) w9).drewN m).alloc (.cells #[u7] 32)) (fun h => h)).mod m6 hnt
    exact ⟨tk6.cell 2, tk6.frozen 2⟩
  have hown : ∀ m : Nat, Own ((w9.drewN m).alloc (.cells #[u7] 32)) 32 tv vs := fun m => ho9.own.mod (((Mod.refl (fun _ => False) w9).drewN m).alloc _) (fun _ _ h => h)
  have hone : ∀ x ∈ [u7], x.oneCell' = true := fun x hx => by rw [List.mem_singleton.1 hx, hu]; rfl
  have hsl : ∀ m : Nat, Sl ((w9.drewN m).alloc (.cells #[u7] 32)) (fun k => k = w8.heap.size) (.slice (some ⟨w8.heap.size, 0, none⟩) 1 1) [u7] := fun m => by
    have hsz : (w9.drewN m).heap.size = w8.heap.size := by rw [hw9]; simp [World.setCell]
    have := Sl.one (w9.drewN m) 32 u7
    rwa [hsz] at this
  have hd : ∀ m : Nat, (w9.drewN m).cell? ⟨t, 2, none⟩ = some tv := fun m => e2
  clear hfin1 tk9 ho9 o9 m9 hcase s9 y7 y6
  subst hu
  subst htv
  subst hw9
  rcases hgo with ⟨rfl, -⟩ | ⟨hg, hg2⟩
  case' inr =>
    have hne2 := hne hg2
    clear hg2
  all_goals
    clear hne
    go_wp2_with fail
    go_quiet (fail)
    go_wp2_with ((with_reducible show wpList _ _ _ (⟨some 69, _, _, _, _, _⟩ :: _) _ _); refine wp_app tyR (hown _) (hsl _) hone rfl (.tmp 66) (.tmp 68) rfl rfl rfl hn1 ?_; intro v6 w10 o6 m6 n6; obtain ⟨A6, l6, c6, hv6⟩ : ∃ A n c, v6 = .slice A n c := (by obtain ⟨A, c, h⟩ := o6.shape; exact ⟨A, _, c, h⟩); subst hv6; have hf := Lib.hid (hfin2.out _ _ _ o6 m6 n6); obtain ⟨g2, y2⟩ := hc6 _ _ m6; clear o6 m6 n6 hfin2 hc6 hown hd)
    go_ret
    exact ⟨rfl, hf.out⟩
end
end Go.Proofs.YtnmfkfjeihjkeaaDoor

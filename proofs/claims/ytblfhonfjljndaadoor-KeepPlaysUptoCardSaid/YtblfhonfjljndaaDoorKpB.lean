/- keep: Save. -/
import Derived.Test.YtblfhonfjljndaaDoorKpA
namespace Go.Proofs.YtblfhonfjljndaaDoor
open Go.RowKit Go.Maps Go.WideMaps
set_option maxRecDepth 100000

def bindD (r : Ds × Nat) (f : Ds → Ds × Nat) : Ds × Nat := if r.2 = 0 then f r.1 else r
theorem bindD_ok {d : Ds} {f : Ds → Ds × Nat} : bindD (d, 0) f = f d := by simp [bindD]
theorem bindD_err {d : Ds} {n : Nat} {f : Ds → Ds × Nat} (h : n ≠ 0) : bindD (d, n) f = (d, n) := by simp [bindD, h]
/-- What was left behind on the way is taken away. -/
def rmT (d : Ds) (t : List UInt8) : Ds × Nat := if (readD d t).isSome = true then eachD removeD d [t] else (d, 0)
def whole1 (d : Ds) (t : List UInt8) (b : List UInt8) : Ds × Nat := appendD d t [b]
def saveD (d : Ds) (x p : List UInt8) : Ds × Nat :=
  if x.length < 1 ∨ 60 < x.length then (d, 1) else
  bindD (rmT d (x ++ [126])) fun d1 => bindD (whole1 d1 (x ++ [126]) (frec p)) fun d2 => bindD (eachD syncD d2 [x ++ [126]]) fun d3 => renameD d3 (x ++ [126]) x
theorem cat_data (a b : List UInt8) : ((⟨a.toArray⟩ : ByteArray) ++ ⟨b.toArray⟩) = ⟨(a ++ b).toArray⟩ := by
  apply ByteArray.ext
  rw [ByteArray.data_append]
  simp
section
variable {S T : Nat → Prop} {w : World} {v y : Value} {d : Ds}
theorem sep_name {w w1 wj : World} {U : Nat → Prop} (h5 : w1.heap.size ≤ wj.heap.size) (hw : w.heap.size ≤ w1.heap.size) (hU : ∀ k, U k → (S k ∧ k < w.heap.size) ∨ (w1.heap.size ≤ k ∧ k < wj.heap.size)) (k : Nat) (hk : k = wj.heap.size) : ¬ U k := fun h => by
  rcases hU k h with h | h <;> omega
theorem row_one {wa : World} {T : Nat → Prop} {u : Value} {b : List UInt8} (hu : Bs wa T u b) : Rw (wa.alloc (.cells #[u] 32)) (fun k => T k ∨ k = wa.heap.size) (.slice (some ⟨wa.heap.size, 0, none⟩) 1 1) [b] := Rw.one 32 hu
theorem off_it {w w1 wj wa : World} {u : Value} (hus : ∀ k, own u k → w.heap.size ≤ k ∧ k < w1.heap.size) (k : Nat) (_ : k < wa.heap.size) (hk : own u k) : ¬ ((S k ∧ k < w.heap.size) ∨ (w1.heap.size ≤ k ∧ k < wj.heap.size)) := fun h => by
  have := hus k hk
  rcases h with h | h <;> omega
set_option maxHeartbeats 8000000 in
theorem save_any (h : Dk S w v d) (x : List UInt8) (hx : x.length ≤ 1000000) {P : Tx} (hy : Rw w T y P) (hN : Nib w) (hp : P.flatten.length ≤ 1048576) :
    Calls Tryd.prog 8 #[v, sv x, y] w fun e w' => e = .returned (ev (saveD d x P.flatten).2) ∧ Dk (Grow S w) w' v (saveD d x P.flatten).1 ∧ Mod S w w' := by
  have hpv : ∃ bd, v = pv bd := by obtain ⟨bd, _, _, _, e, _⟩ := h; exact ⟨bd, e⟩
  obtain ⟨bd, rfl⟩ := hpv
  have hsz := sv_size x
  have hshape : ∃ A n c, y = .slice A n c := by obtain ⟨A, c, vs, e, _⟩ := hy.open_; exact ⟨A, _, c, e⟩
  obtain ⟨R, hR⟩ : ∃ R, R = saveD d x P.flatten := ⟨_, rfl⟩
  rw [← hR]
  unfold saveD at hR
  have hce := encode_any hy hN hp
  obtain ⟨A0, n0, c0, rfl⟩ := hshape
  clear hy
  generalize P.flatten = p at *
  by_cases h1 : x.length < 1
  · rw [if_pos (.inl h1)] at hR
    have hb : decide ((x.length : Int) < 1) = true := dtrue (by omega)
    subst hR
    go_enter Tryd.func8, Tryd.ntmps8
    go_wp2_with fail
    go_ret
    exact ⟨rfl, h.grow w, Mod.refl _ _⟩
  by_cases h2 : 60 < x.length
  · rw [if_pos (.inr h2)] at hR
    have hb : decide ((x.length : Int) < 1) = false := dfalse (by omega)
    have hb2 : decide ((60 : Int) < (x.length : Int)) = true := dtrue (by omega)
    subst hR
    go_enter Tryd.func8, Tryd.ntmps8
    go_wp2_with fail
    go_ret
    exact ⟨rfl, h.grow w, Mod.refl _ _⟩
  rw [if_neg (by omega)] at hR
  have hb : decide ((x.length : Int) < 1) = false := dfalse (by omega)
  have hb2 : decide ((60 : Int) < (x.length : Int)) = false := dfalse (by omega)
  replace hR := Lib.hid hR
  have hxl : x.length ≤ 60 := by omega
  have htl : (x ++ [126]).length ≤ 1000000 := by simp; omega
  clear h1 h2
  go_enter Tryd.func8, Tryd.ntmps8
  go_wp2_with fail
  refine hce.mono ?_
  rintro e w1 ⟨u, rfl, o1, f1, x1⟩
  have H1 := Held.start h x1
  have hus : ∀ k, own u k → w.heap.size ≤ k ∧ k < w1.heap.size := fun k hk => ⟨f1 k hk, o1.lt hk⟩
  obtain ⟨Au, cu, hu⟩ := o1.shape
  rw [List.length_map] at hu
  clear hce h f1
  generalize frec p = fr at *
  obtain ⟨t, ht⟩ : ∃ t, t = x ++ [126] := ⟨_, rfl⟩
  rw [← ht] at hR htl
  have hcr := H1.read t htl
  have hcat : ((⟨x.toArray⟩ : ByteArray) ++ ⟨#[126]⟩) = ⟨t.toArray⟩ := by rw [ht]; exact cat_data x [126]
  replace ht := Lib.hid ht
  have hw1 := x1.size
  go_wp2_with fail
  refine hcr.mono ?_
  rintro e w2 ⟨u2, rfl, -, -, x2⟩
  have H2 := H1.ext x2
  clear hcr H1
  have hz2 := x2.size
  have hou2 : Bs w2 (own u) u fr := (o1.mod x2 (fun _ _ h => h)).sl
  clear x1 x2 o1 hcat
  -- what was left behind
  have hcase : (readD d t = none ∧ rmT d t = (d, 0)) ∨ (∃ b, readD d t = some b ∧ rmT d t = eachD removeD d [t]) := by
    unfold rmT
    cases hb : readD d t with
    | none => exact .inl ⟨rfl, by simp⟩
    | some b => exact .inr ⟨b, rfl, by simp⟩
  rcases hcase with ⟨hr1, hr2⟩ | ⟨b, hr1, hr2⟩
  case' inl =>
    rw [hr1, codeR_none]
    rw [hr2, bindD_ok] at hR
    have H3 := H2
    have hou3 := hou2
    have hz3 := hz2
    clear hr1 hr2 H2 hou2 hz2
    obtain ⟨w3, rfl⟩ : ∃ w3, w3 = w2 := ⟨_, rfl⟩
    obtain ⟨d1, rfl⟩ : ∃ d1, d1 = d := ⟨_, rfl⟩
    go_wp2_with fail
  case' inr =>
    rw [hr1, codeR_some]
    rw [hr2] at hR
    have xa : Ext w2 (w2.alloc (.cells #[sv t] 9)) := (Mod.refl _ _).alloc _
    have hc := held_call H2 xa fun U hU hdk => Remove_any hdk (one_name w2 t) (sep_name hz2 hw1 hU)
    clear hr1 hr2
    generalize eachD removeD d [t] = r at hc hR
    obtain ⟨d1, n1⟩ := r
    simp only at hc
    go_wp2_with fail
    refine hc.mono ?_
    rintro e w3 ⟨rfl, H3, m3⟩
    have hz3 : w1.heap.size ≤ w3.heap.size := Nat.le_trans (Nat.le_trans hz2 xa.size) m3.size
    have hou3 : Bs w3 (own u) u fr := (hou2.mod xa (fun _ _ _ h => h)).mod m3 (off_it hus)
    clear hc H2 m3 hou2 xa hz2
    by_cases hn : n1 = 0
    case neg =>
      rw [bindD_err hn] at hR
      have hb3 := n_ne0 hn
      have hR2 := hR.out
      subst hR2
      clear hR
      go_wp2_with fail
      go_ret
      exact ⟨rfl, H3.dk, H3.mod⟩
    subst hn
    rw [bindD_ok] at hR
    go_wp2_with fail
  all_goals
    have xa : Ext w3 (w3.alloc (.cells #[u] 32)) := (Mod.refl _ _).alloc _
    have hc := held_call H3 xa fun U hU hdk => append_any hdk t (row_one hou3) (fun k hk => hk.elim (fun hk hu => off_it (wj := w3) (wa := w3) (S := S) hus k (Nat.lt_of_lt_of_le (hus k hk).2 hz3) hk (hU k hu)) (sep_name hz3 hw1 hU k)) (by simp)
    generalize hq : whole1 d1 t fr = r at hR
    rw [show appendD d1 t [fr] = r from hq] at hc
    clear hq
    obtain ⟨d2, n2⟩ := r
    simp only at hc
    subst hu
    refine hc.mono ?_
    rintro e w4 ⟨rfl, H4, m4⟩
    have hz4 : w1.heap.size ≤ w4.heap.size := Nat.le_trans (Nat.le_trans hz3 xa.size) m4.size
    clear hc H3 m4 hou3 xa hz3 hus
    by_cases hn : n2 = 0
    case neg =>
      rw [bindD_err hn] at hR
      have hb3 := n_ne0 hn
      have hR2 := hR.out
      subst hR2
      clear hR
      go_wp2_with fail
      go_ret
      exact ⟨rfl, H4.dk, H4.mod⟩
    subst hn
    rw [bindD_ok] at hR
    have xa : Ext w4 (w4.alloc (.cells #[sv t] 9)) := (Mod.refl _ _).alloc _
    have hc := held_call H4 xa fun U hU hdk => Sync_any hdk (one_name w4 t) (sep_name hz4 hw1 hU)
    generalize eachD syncD d2 [t] = r at hc hR
    obtain ⟨d3, n3⟩ := r
    simp only at hc
    go_wp2_with fail
    refine hc.mono ?_
    rintro e w5 ⟨rfl, H5, m5⟩
    clear hc H4 m5 xa hz4
    by_cases hn : n3 = 0
    case neg =>
      rw [bindD_err hn] at hR
      have hb3 := n_ne0 hn
      have hR2 := hR.out
      subst hR2
      clear hR
      go_wp2_with fail
      go_ret
      exact ⟨rfl, H5.dk, H5.mod⟩
    subst hn
    rw [bindD_ok] at hR
    have hc := held_call H5 (Mod.refl _ _) fun U hU hdk => rename_any hdk t x
    generalize renameD d3 t x = r at hc hR
    obtain ⟨d4, n4⟩ := r
    simp only at hc
    have hR2 := hR.out
    subst hR2
    clear hR
    go_wp2_with fail
    refine hc.mono ?_
    rintro e w6 ⟨rfl, H6, m6⟩
    clear hc H5 m6
    go_wp2_with fail
    go_ret
    exact ⟨rfl, H6.dk, H6.mod⟩
end
end Go.Proofs.YtblfhonfjljndaaDoor

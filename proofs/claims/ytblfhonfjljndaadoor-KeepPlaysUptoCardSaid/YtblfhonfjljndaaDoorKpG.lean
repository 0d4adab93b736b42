/- keep: Clear. -/
import Derived.Test.YtblfhonfjljndaaDoorKpF
import Derived.StringKeys
namespace Go.Proofs.YtblfhonfjljndaaDoor
open Go.RowKit Go.Maps Go.WideMaps
set_option maxRecDepth 100000

def preB (x p : List UInt8) : Bool := decide (p.length ≤ x.length) && (x.take p.length == p)
theorem ext_head (l : List UInt8) (n : Nat) : Value.string ((⟨l.toArray⟩ : ByteArray).extract 0 n) = sv (l.take n) := by
  congr 1
  apply ByteArray.ext
  simp [ByteArray.data_extract]
set_option maxHeartbeats 2000000 in
theorem pre0_any {w : World} {x p : List UInt8} :
    Calls Tryd.prog 62 #[sv x, sv p] w fun e w' => e = .returned (.bool (preB x p)) ∧ Ext w w' := by
  have hsx := sv_size x
  have hsp := sv_size p
  obtain ⟨q, hq⟩ : ∃ q, q = preB x p := ⟨_, rfl⟩
  rw [← hq]
  unfold preB at hq
  by_cases hl : p.length ≤ x.length
  · have hb : decide ((p.length : Int) ≤ (x.length : Int)) = true := dtrue (by omega)
    rw [decide_eq_true hl, Bool.true_and] at hq
    have he := ext_head x p.length
    have hi0 : (0 : Int) ≤ (p.length : Int) := by omega
    have hi1 : (p.length : Int) ≤ (x.length : Int) := by omega
    go_enter Tryd.func62, Tryd.ntmps62
    go_wp2_with fail
    subst hq
    go_ret
    exact ⟨rfl, Mod.refl _ _⟩
  · have hb : decide ((p.length : Int) ≤ (x.length : Int)) = false := dfalse (by omega)
    rw [decide_eq_false hl, Bool.false_and] at hq
    subst hq
    go_enter Tryd.func62, Tryd.ntmps62
    go_wp2_with fail
    go_ret
    exact ⟨rfl, Mod.refl _ _⟩
set_option maxHeartbeats 2000000 in
theorem pre_any {w : World} {x p : List UInt8} :
    Calls Tryd.prog 34 #[sv x, sv p] w fun e w' => e = .returned (.bool (preB x p)) ∧ Ext w w' := by
  have hc := pre0_any (w := w) (x := x) (p := p)
  generalize preB x p = q at *
  go_enter Tryd.func34, Tryd.ntmps34
  go_wp2_with fail
  refine hc.mono ?_
  rintro e w1 ⟨rfl, x1⟩
  clear hc
  go_wp2_with fail
  go_ret
  exact ⟨rfl, x1⟩
set_option maxHeartbeats 4000000 in
theorem indexT_any {w : World} {T : Nat → Prop} {v : Value} {L : Tx} {x : List UInt8} (hv : Ts w T v L) (hl : L.length ≤ 1000000) :
    Calls Tryd.prog 63 #[v, sv x] w fun e w' => ∃ j : Int, e = .returned (.int .i64 j) ∧ decide (0 ≤ j) = decide (x ∈ L) ∧ Ext w w' := by
  obtain ⟨A, c, rfl, h1, h2, h3, h4⟩ := hv.open_
  clear hv
  go_enter Tryd.func63, Tryd.ntmps63
  go_wp2_with fail
  go_loopw [8] (fun i wr => ∃ k : Nat, k ≤ L.length ∧ i = .int .i64 k ∧ Hid (x ∉ L.take k) ∧ Ext w wr) (fun i _ => L.length - (intOf i).toNat)
  case atStart => exact ⟨0, Nat.zero_le _, rfl, Lib.hid (by simp), Mod.refl _ _⟩
  case round =>
    obtain ⟨k, hk, rfl, hs, hx⟩ := hrel
    by_cases hlt : k < L.length
    case neg =>
      have hbl : decide ((k : Int) < (L.length : Int)) = false := dfalse (by omega)
      have hno : x ∉ L := by have := hs.out; rwa [List.take_of_length_le (by omega)] at this
      have hfin : decide ((0 : Int) ≤ -1) = decide (x ∈ L) := by rw [decide_eq_false hno]; rfl
      clear hs
      replace hfin := Lib.hid hfin
      go_wp2_with fail
      go_ret
      exact ⟨_, rfl, hfin.out, hx⟩
    have hbl : decide ((k : Int) < (L.length : Int)) = true := dtrue (by omega)
    obtain ⟨ad, hA, hS, c0⟩ := (Cells.mod h4 hx (fun _ _ _ h => h)).at_ hlt
    subst hA
    have hi0 : (0 : Int) ≤ (k : Int) := by omega
    have hi1 : (k : Int) < (L.length : Int) := by omega
    have hmem : L[k] ∈ L := List.getElem_mem hlt
    have htk := List.take_succ_eq_append_getElem hlt
    by_cases he : (x == L[k]) = true
    · have e : x = L[k] := by simpa using he
      have hfin : decide ((0 : Int) ≤ (k : Int)) = decide (x ∈ L) := by rw [decide_eq_true (by omega : (0 : Int) ≤ (k : Int)), decide_eq_true (e ▸ hmem)]
      clear hs hmem htk e
      replace hfin := Lib.hid hfin
      generalize L[k] = y at *
      go_wp2_with fail
      go_ret
      exact ⟨_, rfl, hfin.out, hx⟩
    · have hs2 : Hid (x ∉ L.take (k + 1)) := Lib.hid (by
        rw [htk, List.mem_append, List.mem_singleton]
        rintro (h | h)
        · exact hs.out h
        · exact he (by simpa using h))
      have he2 : (x == L[k]) = false := by simpa using he
      clear hs hmem htk he
      generalize L[k] = y at *
      go_wp2_with fail
      exact ⟨⟨k + 1, by omega, by go_num, hs2, hx⟩, by simp [intOf] <;> omega⟩
set_option maxHeartbeats 2000000 in
theorem contains_any {w : World} {T : Nat → Prop} {v : Value} {L : Tx} {x : List UInt8} (hv : Ts w T v L) (hl : L.length ≤ 1000000) :
    Calls Tryd.prog 35 #[v, sv x] w fun e w' => e = .returned (.bool (decide (x ∈ L))) ∧ Ext w w' := by
  have hc := indexT_any (x := x) hv hl
  clear hv
  generalize decide (x ∈ L) = q at *
  go_enter Tryd.func35, Tryd.ntmps35
  go_wp2_with fail
  refine hc.mono ?_
  rintro e w1 ⟨j, rfl, hj, x1⟩
  clear hc
  go_wp2_with fail
  go_ret
  exact ⟨by rw [← hj]; rfl, x1⟩
/-- The names that go. -/
def goneN (L : Tx) (p : List UInt8) (stay : Tx) : Tx := L.filter fun x => preB x p && !decide (x ∈ stay)
def clearD (d : Ds) (p : List UInt8) (stay : Tx) : Ds × Nat := eachD removeD d (goneN (nms d.L) p stay)
theorem goneN_snoc {L : Tx} {p : List UInt8} {stay : Tx} {k : Nat} (hk : k < L.length) : goneN (L.take (k + 1)) p stay = if preB L[k] p && !decide (L[k] ∈ stay) then goneN (L.take k) p stay ++ [L[k]] else goneN (L.take k) p stay := by
  unfold goneN
  rw [List.take_succ_eq_append_getElem hk, List.filter_append, List.filter_cons]
  split
  · rfl
  · rw [List.filter_nil, List.append_nil]
theorem goneN_len {L : Tx} {p : List UInt8} {stay : Tx} (k : Nat) : (goneN (L.take k) p stay).length ≤ L.length := by
  unfold goneN
  have := List.length_filter_le (fun x => preB x p && !decide (x ∈ stay)) (L.take k)
  rw [List.length_take] at this
  omega
set_option maxHeartbeats 8000000 in
theorem clear_any {S T : Nat → Prop} {w : World} {d : Ds} {v y : Value} (h : Dk S w v d) (p : List UInt8) {stay : Tx} (hy : Ts w T y stay) (hl : stay.length ≤ 1000000) :
    Calls Tryd.prog 13 #[v, sv p, y] w fun e w' => e = .returned (ev (clearD d p stay).2) ∧ Dk (Grow S w) w' v (clearD d p stay).1 ∧ Mod S w w' := by
  have hpv : ∃ bd, v = pv bd := by obtain ⟨bd, _, _, _, e, _⟩ := h; exact ⟨bd, e⟩
  obtain ⟨bd, rfl⟩ := hpv
  have hcl := list_any h
  have hfew : (nms d.L).length ≤ 4096 := by obtain ⟨_, _, _, _, _, h⟩ := h; rw [nms, List.length_map]; exact h.few
  obtain ⟨R, hR⟩ : ∃ R, R = clearD d p stay := ⟨_, rfl⟩
  rw [← hR]
  unfold clearD at hR
  replace hR := Lib.hid hR
  generalize nms d.L = L at *
  go_enter Tryd.func13, Tryd.ntmps13
  go_wp2_with fail
  refine hcl.mono ?_
  rintro e w1 ⟨u, rfl, o1, f1, x1⟩
  clear hcl
  obtain ⟨A, c, rfl, h1, h2, h3, h4⟩ := (show Ts w1 (own u) u L from o1.sl).open_
  clear o1
  go_wp2_with fail
  go_loopw [7, 15] (fun q i wr => ∃ k : Nat, k ≤ L.length ∧ i = .int .i64 k ∧ OwnT wr q (goneN (L.take k) p stay) ∧ Fresh w.heap.size q ∧ Fresh w1.heap.size q ∧ Ext w1 wr) (fun _ i _ => L.length - (intOf i).toNat)
  case atStart => exact ⟨0, Nat.zero_le _, rfl, Own.nil _ _, fresh_nil _ _ _, fresh_nil _ _ _, Mod.refl _ _⟩
  case round =>
    obtain ⟨k, hk, rfl, ho, hf, hf1, hx⟩ := hrel
    have yx := ext_trans x1 hx
    by_cases hlt : k < L.length
    case neg =>
      have hbl : decide ((k : Int) < (L.length : Int)) = false := dfalse (by omega)
      rw [List.take_of_length_le (by omega)] at ho
      have H := Held.start h yx
      have hsep : ∀ (v : Value), Fresh w.heap.size v → ∀ (U : Nat → Prop), (∀ k, U k → (S k ∧ k < w.heap.size) ∨ (wr.heap.size ≤ k ∧ k < wr.heap.size)) → ∀ k, own v k → ¬ U k := fun v hf U hU k hk hu => by
        have h1 := hf k hk
        rcases hU k hu with h | h <;> omega
      have hc := held_call H (Mod.refl _ _) fun U hU hdk => Remove_any hdk ho.sl (hsep _ hf U hU)
      generalize eachD removeD d (goneN L p stay) = r at hR hc
      have hR2 := hR.out
      subst hR2
      clear ho hf hf1 hsep h H h4 hR
      go_wp2_with fail
      refine hc.mono ?_
      rintro e w2 ⟨rfl, H2, -⟩
      clear hc
      go_wp2_with fail
      go_ret
      exact ⟨rfl, H2.dk, H2.mod⟩
    have hbl : decide ((k : Int) < (L.length : Int)) = true := dtrue (by omega)
    obtain ⟨ad, hA, hS, c0⟩ := (Cells.mod h4 hx (fun _ _ _ h => h)).at_ hlt
    subst hA
    have hi0 : (0 : Int) ≤ (k : Int) := by omega
    have hi1 : (k : Int) < (L.length : Int) := by omega
    have hsn := goneN_snoc (p := p) (stay := stay) hlt
    have hgl := goneN_len (L := L) (p := p) (stay := stay) k
    have hcc := fun (wx : World) (hx : Ext w wx) => contains_any (x := L[k]) (hy.mod hx (fun _ _ _ h => h)) hl
    have hcp := pre_any (w := wr) (x := L[k]) (p := p)
    generalize hgk : goneN (L.take k) p stay = g at *
    generalize hgk1 : goneN (L.take (k + 1)) p stay = g1 at *
    replace hgk := Lib.hid hgk
    replace hgk1 := Lib.hid hgk1
    generalize L[k] = x at *
    generalize hqp : preB x p = q1 at *
    generalize decide (x ∈ stay) = q2 at *
    clear hqp h
    go_wp2_with fail
    refine hcp.mono ?_
    rintro e w2 ⟨rfl, x2⟩
    clear hcp
    have y2 := ext_trans yx x2
    have o2 : OwnT w2 _ g := Own.mod ho x2 (fun _ _ h => h)
    have z2 := ext_trans hx x2
    clear ho x2 hx
    cases q1 with
    | false =>
      simp only [Bool.false_and, Bool.false_eq_true, if_false] at hsn
      subst hsn
      go_wp2_with fail
      exact ⟨⟨k + 1, by omega, by go_num, by rw [hgk1.out]; exact o2, hf, hf1, z2⟩, by simp [intOf] <;> omega⟩
    | true =>
      have hc3 := hcc w2 y2
      go_wp2_with fail
      refine hc3.mono ?_
      rintro e w3 ⟨rfl, x3⟩
      clear hc3 hcc
      have o3 : OwnT w3 _ g := Own.mod o2 x3 (fun _ _ h => h)
      have z3 := ext_trans z2 x3
      have y3 := ext_trans y2 x3
      clear o2 x3 z2 y2
      cases q2 with
      | true =>
        simp only [Bool.not_true, Bool.and_false, Bool.false_eq_true, if_false] at hsn
        subst hsn
        go_wp2_with fail
        exact ⟨⟨k + 1, by omega, by go_num, by rw [hgk1.out]; exact o3, hf, hf1, z3⟩, by simp [intOf] <;> omega⟩
      | false =>
        simp only [Bool.not_false, Bool.and_self, if_true] at hsn
        subst hsn
        go_wp2_with ((with_reducible show wpList _ _ _ (⟨some 31, _, _, _, _, _⟩ :: _) _ _); refine wp_appT (x := x) o3 (by omega) rfl _ _ rfl rfl rfl ?_; intro v6 w6 o6 m6 n6)
        exact ⟨⟨k + 1, by omega, by go_num, by rw [hgk1.out]; exact o6, n6.fresh hf y3.size, n6.fresh hf1 z3.size, ext_app0 z3 hf1 m6⟩, by simp [intOf] <;> omega⟩
end Go.Proofs.YtblfhonfjljndaaDoor

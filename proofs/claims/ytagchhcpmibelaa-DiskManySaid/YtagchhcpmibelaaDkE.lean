/- disk: how a method ends; whether rows fit; bytes of one's own. -/
import Derived.Test.YtagchhcpmibelaaDkD
namespace Go.Proofs.Ytagchhcpmibelaa
open Go.RowKit Go.Maps Go.WideMaps
set_option maxRecDepth 100000

section
variable {S T : Nat → Prop} {w w' : World} {bd bm : Nat} {D : DataW Unit} {G : Lay} {d : Ds}
/-- The Disk's own cells turned. -/
theorem DkAt.self (h : DkAt S w bd bm D G d) {fu : Bool} {left : Nat} (hm : Mod (fun k => k = bd) w w') (hb : Blk w' bd 70 (dcells { d with fu := fu, left := left } bm)) (hlf : left ≤ 9223372036854775807) : DkAt S w' bd bm D G { d with fu := fu, left := left } where
  sd := h.sd
  sm := h.sm
  blk := hb
  map := ownsMap_mod h.map hm fun e => h.blk.ne_map h.map e.symm
  of := h.of
  rise := h.rise
  fs := h.fs
  fb := fun f hf => (h.fb f hf).mod hm (h.bd_ne hf)
  fo := fun f hf => (h.fo f hf).mod hm fun _ hk => (h.own_ne hf hk).1
  fl := h.fl
  apart := h.apart
  room := h.room
  most := h.most
  few := h.few
  lf := hlf
theorem setg_mod (w : World) (g i : Nat) (u : Value) : Mod (fun k => k = g) w (w.setCell ⟨g, i, none⟩ u) := (Mod.refl (fun k => k = g) w).setCell (p := ⟨g, i, none⟩) (fun _ => rfl) u

set_option maxHeartbeats 4000000 in
theorem done_any (h : DkAt S w bd bm D G d) (hl : d.fu = true → 1 ≤ d.left) :
    Calls Try.prog 51 #[pv bd] w fun e w' => e = .returned (ev 0) ∧ DkAt S w' bd bm D G (doneD d) ∧ Mod (fun k => k = bd) w w' := by
  have c3 : w.cell? ⟨bd, 3, none⟩ = some (.bool d.fu) := h.blk.cell 3
  have c4 : w.cell? ⟨bd, 4, none⟩ = some (.int .i64 (d.left : Int)) := h.blk.cell 4
  have z4 : w.frozen? ⟨bd, 4, none⟩ = false := h.blk.frozen 4
  have hb := h.lf
  by_cases hf : d.fu = true
  · rw [hf] at c3
    have h1 := hl hf
    have hfin : ∀ x : Int, x = ((d.left - 1 : Nat) : Int) → DkAt S (w.setCell ⟨bd, 4, none⟩ (.int .i64 x)) bd bm D G (doneD d) ∧ Mod (fun k => k = bd) w (w.setCell ⟨bd, 4, none⟩ (.int .i64 x)) := fun x hx => by
      subst hx
      have e : doneD d = { d with fu := d.fu, left := d.left - 1 } := by unfold doneD; rw [if_pos hf]
      rw [e]
      exact ⟨h.self (setg_mod _ _ _ _) (h.blk.set_ 4 _) (by omega), setg_mod _ _ _ _⟩
    replace hfin := Lib.hid hfin
    clear h hl hf
    go_enter Try.func51, Try.ntmps51
    go_wp2_with fail
    go_ret
    exact ⟨rfl, hfin.out _ (by omega)⟩
  · have hf' : d.fu = false := by simpa using hf
    rw [hf'] at c3
    have hfin : DkAt S w bd bm D G (doneD d) ∧ Mod (fun k => k = bd) w w := by
      have e : doneD d = d := by unfold doneD; rw [if_neg hf]
      rw [e]
      exact ⟨h, Mod.refl _ _⟩
    replace hfin := Lib.hid hfin
    clear h hl hf hf'
    go_enter Try.func51, Try.ntmps51
    go_wp2_with fail
    go_ret
    exact ⟨rfl, hfin.out⟩
theorem tot_snoc (P : Tx) (k : Nat) (h : k < P.length) : ((P.take (k + 1)).map List.length).sum = ((P.take k).map List.length).sum + P[k].length := by
  rw [List.take_succ_eq_append_getElem h, List.map_append, List.sum_append]
  simp
theorem tot_le (P : Tx) (k : Nat) : ((P.take k).map List.length).sum ≤ (P.map List.length).sum := by
  conv => rhs; rw [← List.take_append_drop k P, List.map_append, List.sum_append]
  omega
abbrev tot (P : Tx) : Nat := (P.map List.length).sum
set_option maxHeartbeats 4000000 in
theorem fits_any (h : DkAt S w bd bm D G d) {v : Value} {P : Tx} (hv : Rw w T v P) (hp : P.length ≤ 1000000) :
    Calls Try.prog 49 #[pv bd, v] w fun e w' => e = .returned (.bool (decide (sumB d.L + tot P ≤ d.room))) ∧ Ext w w' := by
  have c0 : w.cell? ⟨bd, 0, none⟩ = some (.int .i64 (d.room : Int)) := h.blk.cell 0
  have c1 : w.cell? ⟨bd, 1, none⟩ = some (.int .i64 (sumB d.L : Nat)) := h.blk.cell 1
  have hr := h.room
  have hm := h.most
  clear h
  obtain ⟨A, c, vs, rfl, h1, h2, h3, h0, h5, h6⟩ := hv.open_
  generalize d.room = R at *
  generalize sumB d.L = U at *
  obtain ⟨q, hq⟩ : ∃ q, q = decide (U + tot P ≤ R) := ⟨_, rfl⟩
  rw [← hq]
  replace hq := Lib.hid hq
  have hw : IntKind.i64.wrap ((R : Int) - (U : Int)) = (R : Int) - (U : Int) := by rw [IntKind.wrap_i64]; omega
  go_enter Try.func49, Try.ntmps49
  go_wp2_with fail
  go_quiet (fail)
  go_wp2_with fail
  go_loopw [5, 19] (fun l i wr => ∃ (k n : Nat), k ≤ P.length ∧ i = .int .i64 k ∧ l = .int .i64 n ∧ Hid (n + U + tot (P.take k) = R) ∧ n ≤ 1073741824 ∧ Ext w wr) (fun _ i _ => P.length - (intOf i).toNat)
  case atStart => exact ⟨0, R - U, Nat.zero_le _, rfl, by congr 1; omega, Lib.hid (by simp [tot]; omega), by omega, (Mod.refl _ _).drewN _⟩
  case round =>
    clear hw
    obtain ⟨k, n, hk, rfl, rfl, hs, hn, hx⟩ := hrel
    by_cases hlt : k < P.length
    case neg =>
      have hbl : decide ((k : Int) < (P.length : Int)) = false := dfalse (by omega)
      have he : q = true := by
        have := hs.out
        rw [List.take_of_length_le (by omega)] at this
        rw [hq.out]
        exact decide_eq_true (by omega)
      clear hs hq
      subst he
      go_wp2_with fail
      go_ret
      exact ⟨rfl, hx⟩
    have hbl : decide ((k : Int) < (P.length : Int)) = true := dtrue (by omega)
    obtain ⟨ad, y, hA, hc, hB⟩ := row_now h0 h5 h6 hx (fun _ _ _ h => h) hlt
    subst hA
    have hi0 : (0 : Int) ≤ (k : Int) := by omega
    have hi1 : (k : Int) < (P.length : Int) := by omega
    have hsn := tot_snoc P k hlt
    have hle := tot_le P (k + 1)
    obtain ⟨B, e, rfl, j1, j2, j3, j4⟩ := hB.open_
    have hst : P[k].length ≤ n → Hid ((n - P[k].length) + U + tot (P.take (k + 1)) = R) := fun h => Lib.hid (by
      have := hs.out
      simp only [tot] at this ⊢
      omega)
    have hst2 : n < P[k].length → q = false := fun h => by
      rw [hq.out]
      have := hs.out
      simp only [tot] at this ⊢
      exact decide_eq_false (by omega)
    clear hs hsn hle j4
    generalize P[k].length = m at *
    by_cases hmn : n < m
    · have hb : decide ((n : Int) < (m : Int)) = true := dtrue (by omega)
      have he := hst2 hmn
      clear hst hst2 hq
      subst he
      go_wp2_with fail
      go_ret
      exact ⟨rfl, hx⟩
    have hb : decide ((n : Int) < (m : Int)) = false := dfalse (by omega)
    have hs := hst (by omega)
    clear hst hst2
    go_wp2_with fail
    exact ⟨⟨k + 1, n - m, by omega, by go_num, by congr 1; omega, hs, by omega, hx⟩, by simp [intOf] <;> omega⟩
end
set_option maxHeartbeats 4000000 in
theorem own_any {w : World} {S : Nat → Prop} {v : Value} {l : List UInt8} (h : Bs w S v l) (hl : l.length ≤ 100000000000) :
    Calls Try.prog 47 #[v] w fun e w' => ∃ u, e = .returned u ∧ Own w' 5 u (l.map bv) ∧ Fresh w.heap.size u ∧ u ≠ .slice none 0 0 ∧ Ext w w' := by
  obtain ⟨A, c, rfl, h1, h2, h3, h4⟩ := h.open_
  go_enter Try.func47, Try.ntmps47
  go_wp2_with (first
    | ((with_reducible show wpList _ _ _ (⟨some 6, _, _, _, _, _⟩ :: _) _ _); refine wp_make tyB l.length rfl _ _ rfl rfl rfl (by omega) ?_; intro w2 o2 x2 z2)
    | ((with_reducible show wpList _ _ _ (⟨some 9, _, _, _, _, _⟩ :: _) _ _); refine wp_copy tyB o2 (h.ext x2) (bv_one l) rfl (.tmp 7) (.tmp 8) rfl rfl rfl ?_; intro w3 o3 x3))
  rw [List.length_map, List.length_replicate, Nat.min_self, List.take_of_length_le (by simp), List.drop_of_length_le (by simp), List.append_nil] at o3
  have f3 : Fresh w.heap.size (.slice (some ⟨w.heap.size, 0, none⟩) l.length l.length) := fun b hb => by
    have e : w.heap.size = b := by simpa [Value.ownBlock] using hb
    omega
  go_ret
  exact ⟨_, rfl, o3, f3, by simp, ext_app0 x2 f3 x3⟩
end Go.Proofs.Ytagchhcpmibelaa

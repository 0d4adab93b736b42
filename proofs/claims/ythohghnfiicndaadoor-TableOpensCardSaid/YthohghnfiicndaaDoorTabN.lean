/- table: what a Table tells: Len, Blocks, First, Last; a nil one. -/
import Derived.Test.YthohghnfiicndaaDoorTabL
import Derived.Test.YthohghnfiicndaaDoorTabM
import Derived.Test.YthohghnfiicndaaDoorTabS
import Derived.Laws.Cover1
namespace Go.Proofs.YthohghnfiicndaaDoor
open Go.RowKit Go.Maps Go.WideMaps
set_option maxRecDepth 100000

/-- u is a Table of the cells L, all of it in blocks of S. -/
def TL (S : Nat → Prop) (w : World) (u : Value) (L : List Ce) : Prop := ∃ g acc, u = .pointer (some ⟨g, 0, none⟩) ∧ acc.map Prod.fst = (splitB L).map bl ∧ Tb S w g acc (L.length : Nat) (filB L)
section
variable {S T F : Nat → Prop} {w w' : World} {u : Value} {L : List Ce}
theorem TL.mod (h : TL S w u L) (hm : Mod F w w') (hn : ∀ k, k < w.heap.size → S k → ¬ F k) : TL S w' u L := by
  obtain ⟨g, acc, h1, h2, h3⟩ := h
  exact ⟨g, acc, h1, h2, h3.mod hm hn⟩
theorem TL.ext (h : TL S w u L) (hm : Ext w w') : TL S w' u L := h.mod hm fun _ _ _ h => h
theorem TL.mono (h : TL S w u L) (hn : ∀ k, k < w.heap.size → S k → T k) : TL T w u L := by
  obtain ⟨g, acc, h1, h2, h3⟩ := h
  exact ⟨g, acc, h1, h2, h3.mono hn⟩
end
/-- A Table's parts. -/
structure TP (w : World) (g bm : Nat) (A : Addr) (c : Nat) (vf : Value) (G : List Ce → Value) (L : List Ce) (PS : List (List Ce)) : Prop where
  blk : Blk w g 72 (tcells (.slice (some A) PS.length c) bm vf (L.length : Nat))
  len : PS.length ≤ c
  ends : RcAt enl 2 w (fun _ => True) (some A) (PS.map endE)
  look : ∀ p ∈ PS, (Instr.lookup 69 (.map (some bm)) (.agg (ear (endE p))) false).run Tryd.prog w = .ok (G p) w ∧ Cs w (fun _ => True) (G p) p
  fil : Bs w (fun _ => True) vf (filB L)
theorem TL.open_ {S : Nat → Prop} {w : World} {u : Value} {L : List Ce} (h : TL S w u L) (hne : L ≠ []) : ∃ g bm A c vf G, u = .pointer (some ⟨g, 0, none⟩) ∧ ∀ wx, Ext w wx → TP wx g bm A c vf G L (splitB L) := by
  obtain ⟨g, acc, rfl, hac, bm, ve, vf, D, h⟩ := h
  have hl : acc.length = (splitB L).length := by rw [← List.length_map (f := Prod.fst), hac, List.length_map]
  have hee : acc.map (fun x => x.1.1) = (splitB L).map endE := by
    have := congrArg (List.map Prod.fst) hac
    rw [List.map_map, List.map_map] at this
    exact this
  have hpos : splitB L ≠ [] := fun e => by
    have := split_flat L
    rw [e] at this
    exact hne this.symm
  obtain ⟨A, c, hve, h1, h2, h3, h4⟩ := h.ends.rc.open_ enl_len
  rw [List.length_map, hl] at hve h1
  obtain ⟨ad, rfl⟩ : ∃ ad, A = some ad := by
    rcases A with _ | ad
    · have := h3 rfl; have := List.length_pos_iff.2 hpos; omega
    · exact ⟨ad, rfl⟩
  subst hve
  obtain ⟨G, hG⟩ : ∃ G : List Ce → Value, ∀ p v, (Instr.lookup 69 (.map (some bm)) (.agg (ear (endE p))) false).run Tryd.prog w = .ok v w → G p = v :=
    ⟨fun p => match (Instr.lookup 69 (.map (some bm)) (.agg (ear (endE p))) false).run Tryd.prog w with | .ok v _ => v | _ => undef, fun p v hv => by simp only [hv]⟩
  refine ⟨g, bm, ad, c, vf, G, rfl, fun wx hx => ⟨h.blk.mod hx (fun h => h), h1, ?_, fun p hp => ?_, ((h.fil.sl).mono (fun _ _ _ => trivial)).ext hx⟩⟩
  · rw [← hee]
    have := (h.ends.ext hx).rc.mono (T := fun _ => True) (fun _ _ _ => trivial)
    obtain ⟨A', c', hv, _, _, _, h5⟩ := this.open_ enl_len
    injection hv with e1 _ _
    subst e1
    exact h5
  · obtain ⟨i, hi, rfl⟩ := List.getElem_of_mem hp
    have hi' : i < acc.length := by omega
    have hx1 : acc[i].1 = bl (splitB L)[i] := by
      have : (acc.map Prod.fst)[i]'(by rw [List.length_map]; exact hi') = ((splitB L).map bl)[i]'(by rw [List.length_map]; exact hi) := by simp only [hac]
      rw [List.getElem_map, List.getElem_map] at this
      exact this
    have hk := (h.ext hx).look (List.getElem_mem hi')
    rw [hx1] at hk
    have hc := (((h.ext hx).cells _ (List.getElem_mem hi')).rc).mono (T := fun _ => True) (fun _ _ _ => trivial)
    rw [hx1] at hc
    have hk0 := h.look (List.getElem_mem hi')
    rw [hx1] at hk0
    rw [hG _ _ hk0]
    exact ⟨hk, hc⟩

set_option maxHeartbeats 4000000 in
theorem len_any {S : Nat → Prop} {w : World} {u : Value} {L : List Ce} (h : TL S w u L) : Calls Tryd.prog 20 #[u] w fun e w' => e = .returned (.int .i64 (L.length : Nat)) ∧ w' = w := by
  obtain ⟨g, acc, rfl, hac, bm, ve, vf, D, h⟩ := h
  have c3 : w.cell? ⟨g, 3, none⟩ = some (.int .i64 (L.length : Nat)) := h.blk.cell 3
  clear h
  go_enter Tryd.func20, Tryd.ntmps20
  go_wp2_with fail
  go_ret
  exact ⟨rfl, rfl⟩
theorem len_nil {w : World} : Calls Tryd.prog 20 #[.pointer none] w fun e w' => e = .returned (.int .i64 0) ∧ w' = w := by
  go_enter Tryd.func20, Tryd.ntmps20
  go_wp2_with fail
  go_ret
  exact ⟨rfl, rfl⟩
theorem blocks_nil {w : World} : Calls Tryd.prog 21 #[.pointer none] w fun e w' => e = .returned (.int .i64 0) ∧ w' = w := by
  go_enter Tryd.func21, Tryd.ntmps21
  go_wp2_with fail
  go_ret
  exact ⟨rfl, rfl⟩
theorem first_nil {w : World} : Calls Tryd.prog 25 #[.pointer none] w fun e w' => e = .returned (sv []) ∧ w' = w := by
  go_enter Tryd.func25, Tryd.ntmps25
  go_wp2_with fail
  go_ret
  exact ⟨rfl, rfl⟩
theorem last_nil {w : World} : Calls Tryd.prog 26 #[.pointer none] w fun e w' => e = .returned (sv []) ∧ w' = w := by
  go_enter Tryd.func26, Tryd.ntmps26
  go_wp2_with fail
  go_ret
  exact ⟨rfl, rfl⟩
set_option maxHeartbeats 4000000 in
theorem blocks_any {S : Nat → Prop} {w : World} {u : Value} {L : List Ce} (h : TL S w u L) (hne : L ≠ []) : Calls Tryd.prog 21 #[u] w fun e w' => e = .returned (.int .i64 ((splitB L).length : Nat)) ∧ w' = w := by
  obtain ⟨g, bm, A, c, vf, G, rfl, H⟩ := h.open_ hne
  have c0 : w.cell? ⟨g, 0, none⟩ = some (.slice (some A) (splitB L).length c) := (H w (Mod.refl _ _)).blk.cell 0
  clear h H
  go_enter Tryd.func21, Tryd.ntmps21
  go_wp2_with fail
  go_ret
  exact ⟨rfl, rfl⟩
theorem first_flat : ∀ {PS : List (List Ce)} (h : 0 < PS.length), (∀ p ∈ PS, p ≠ []) → PS[0].getD 0 default = PS.flatten.getD 0 default
  | [], h, _ => absurd h (Nat.lt_irrefl _)
  | [] :: _, _, h => absurd rfl (h [] List.mem_cons_self)
  | (a :: p) :: Q, _, _ => rfl
theorem lastC_flat {Q : List (List Ce)} {p : List Ce} (hp : p ≠ []) : lastC (Q.flatten ++ p) = lastC p := by
  have hpos : 0 < p.length := List.length_pos_iff.2 hp
  unfold lastC
  rw [List.getD_eq_getElem?_getD, List.getD_eq_getElem?_getD, List.length_append, List.getElem?_append_right (by omega)]
  rw [show Q.flatten.length + p.length - 1 - Q.flatten.length = p.length - 1 by omega]
set_option maxHeartbeats 4000000 in
theorem last_any {S : Nat → Prop} {w : World} {u : Value} {L : List Ce} (h : TL S w u L) (hb : buildN L = 0) : Calls Tryd.prog 26 #[u] w fun e w' => e = .returned (sv (lastC L).key) ∧ ∃ n, w' = w.drewN n := by
  obtain ⟨hne, h4096, -⟩ := build_rise hb
  have hsl := split_len L
  have hfl := split_flat L
  have hfu := split_full L
  obtain ⟨g, bm, A, c, vf, G, rfl, H⟩ := h.open_ hne
  have hlk : ∃ n p, (splitB L).length = n + 1 ∧ (splitB L)[n]? = some p ∧ (lastC p).key = (lastC L).key := by
    rcases List.eq_nil_or_concat (splitB L) with e | ⟨Q, p, e⟩
    · rw [e] at hfl; exact absurd hfl.symm hne
    · refine ⟨Q.length, p, by rw [e]; simp, by rw [e]; simp, ?_⟩
      have hp : p ≠ [] := hfu p (by rw [e]; simp)
      have hL : L = Q.flatten ++ p := by rw [← hfl, e]; simp
      rw [hL, lastC_flat hp]
  obtain ⟨n, p, hn, hp, hkey⟩ := hlk
  have hcx : ∀ {wx : World}, Ext w wx → wx.cell? ⟨g, 0, none⟩ = some (.slice (some A) (n + 1) c) ∧ wx.cell? (A.add (n * 2)) = some (sv (lastC p).key) := fun hx => by
    have H1 := H _ hx
    have c0 := H1.blk.cell 0
    rw [hn] at c0
    obtain ⟨ad, hA, _, e0, _⟩ := En.at_ H1.ends (i := n) (by rw [List.length_map]; omega)
    cases hA
    rw [List.getElem_map] at e0
    have hq : (splitB L)[n]'(by omega) = p := by
      have := hp
      rw [List.getElem?_eq_getElem (by omega)] at this
      exact Option.some.inj this
    rw [hq] at e0
    exact ⟨c0, e0⟩
  obtain ⟨c0, e0⟩ := hcx (Mod.refl _ w)
  obtain ⟨c01, e01⟩ := hcx ((Mod.refl (fun _ => False) w).drew)
  rw [← hkey]
  have hi5 : IntKind.i64.wrap (n : Int) = (n : Int) := by rw [IntKind.wrap_i64]; omega
  have hn0 : (0 : Int) ≤ (n : Int) := by omega
  have hn1 : (n : Int) < (n : Int) + 1 := by omega
  have hz : ((n : Int) + 1 == 0) = false := by rw [beq_eq_false_iff_ne]; omega
  clear hcx h H hfl hfu hp hkey hn
  go_enter Tryd.func26, Tryd.ntmps26
  go_upto_region 3 with fail
  go_quiet (fail)
  go_wp2_with fail
  go_ret
  exact ⟨rfl, _, rfl⟩
set_option maxHeartbeats 4000000 in
theorem first_any {S : Nat → Prop} {w : World} {u : Value} {L : List Ce} (h : TL S w u L) (hb : buildN L = 0) : Calls Tryd.prog 25 #[u] w fun e w' => e = .returned (sv (L.getD 0 default).key) ∧ ∃ n, w' = w.drewN n := by
  obtain ⟨hne, h4096, -⟩ := build_rise hb
  have hsl := split_len L
  have hfl := split_flat L
  have hfu := split_full L
  obtain ⟨g, bm, A, c, vf, G, rfl, H⟩ := h.open_ hne
  obtain ⟨n, hn⟩ : ∃ n, (splitB L).length = n + 1 := by
    cases e : splitB L with
    | nil => rw [e] at hfl; exact absurd hfl.symm hne
    | cons p Q => exact ⟨Q.length, rfl⟩
  have hk0 := first_flat (by omega : 0 < (splitB L).length) hfu
  rw [hfl] at hk0
  have hm0 : (splitB L)[0]'(by omega) ∈ splitB L := List.getElem_mem _
  have hp0 := hfu _ hm0
  have hend : endE ((splitB L)[0]'(by omega)) = ((splitB L).map endE)[0]'(by rw [List.length_map]; omega) := by rw [List.getElem_map]
  obtain ⟨hl0, hc0⟩ := (H w.drew ((Mod.refl _ w).drew)).look _ hm0
  generalize hxv : G ((splitB L)[0]'(by omega)) = xv at *
  obtain ⟨A0, cc0, rfl, _, _, _, hc4⟩ := hc0.open_ cel_len
  have hpos : 0 < ((splitB L)[0]'(by omega)).length := List.length_pos_iff.2 hp0
  obtain ⟨a0, hA0, -, d0, -⟩ := Cs.at_ hc4 (i := 0) hpos
  subst hA0
  have hd := getD_c ((splitB L)[0]'(by omega)) hpos
  rw [hk0] at hd
  rw [← hd] at d0
  have H1 := H w.drew ((Mod.refl _ w).drew)
  have c00 := (H w (Mod.refl _ w)).blk.cell 0
  have c01 := H1.blk.cell 0
  have c11 : w.drew.cell? ⟨g, 1, none⟩ = some (.map (some bm)) := H1.blk.cell 1
  obtain ⟨ad, hA, _, e0, e1⟩ := En.at_ H1.ends (i := 0) (by rw [List.length_map]; omega)
  cases hA
  rw [← hend] at e0 e1
  generalize (splitB L)[0]'(by omega) = p at *
  generalize hen : endE p = en at *
  obtain ⟨ek, es⟩ := en
  simp only at e0 e1
  rw [hn] at c00 c01
  rw [Nat.zero_mul, show ∀ a : Addr, a.add 0 = a from fun a => rfl] at d0 e0 e1
  have hl1 : (Instr.lookup 69 (.map (some bm)) (.agg #[sv ek, .int .i64 es]) false).run Tryd.prog w.drew = .ok (.slice (some a0) p.length cc0) w.drew := hl0
  generalize (L.getD 0 default).key = key at *
  have hz : ((n : Int) + 1 == 0) = false := by rw [beq_eq_false_iff_ne]; omega
  have hn1 : (0 : Int) < (n : Int) + 1 := by omega
  have hp1 : (0 : Int) < (p.length : Int) := by omega
  clear hxv hl0 h H H1 hfl hfu hn hc4 hc0 hend hm0 hk0
  go_enter Tryd.func25, Tryd.ntmps25
  go_upto_region 3 with fail
  go_region_held3 (fun wx => wx.cell? ⟨g, 1, none⟩ = some (.map (some bm)) ∧ wx.cell? ⟨g, 0, none⟩ = some (.slice (some A) (n + 1) c) ∧ wx.cell? A = some (sv ek) ∧ wx.cell? ⟨A.block, A.off + 1, none⟩ = some (.int .i64 es) ∧ wx.cell? a0 = some (sv key) ∧ (Instr.lookup 69 (.map (some bm)) (.agg #[sv ek, .int .i64 es]) false).run Tryd.prog wx = .ok (.slice (some a0) p.length cc0) wx) (exact ⟨c11, c01, e0, e1, d0, hl1⟩) (fail)
  all_goals go_wp2_with fail
  all_goals go_ret
  all_goals exact ⟨rfl, 1, rfl⟩
end Go.Proofs.YthohghnfiicndaaDoor

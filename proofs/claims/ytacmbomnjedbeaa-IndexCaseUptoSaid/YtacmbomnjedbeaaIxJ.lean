/- index: a key laid in. -/
import Derived.Test.YtacmbomnjedbeaaIxI
namespace Go.Proofs.Ytacmbomnjedbeaa
open Go.RowKit
set_option maxRecDepth 100000

theorem fresh_at {w wr : World} (hx : Ext w wr) : Fresh w.heap.size (.slice (some ⟨wr.heap.size, 0, none⟩) 0 0) := fun b hb => by
  have e : wr.heap.size = b := by simpa [Value.ownBlock] using hb
  have := hx.size; omega
set_option maxHeartbeats 16000000 in
theorem lay_any {w : World} {S : Nat → Prop} {v : Value} {L : Tx} {s : List UInt8} (h : Ts w S v L) (hr : riseT L) (hl : L.length ≤ 10000) :
    Calls Try.prog 24 #[v, sv s] w fun e w' => (∃ u, e = .returned u ∧ ∃ L', Ts w' (fun k => S k ∨ w.heap.size ≤ k) u L' ∧ riseT L' ∧ (∀ x, x ∈ L' ↔ x ∈ L ∨ x = s) ∧ L'.length ≤ L.length + 1) ∧ Ext w w' := by
  obtain ⟨n, n1, n2, n3, n4, n5⟩ := comesT hr s
  have h0 := h
  obtain ⟨A, c, rfl, h1, h2, h3, h4⟩ := h.open_
  clear h
  have hsame : s ∈ L → ∀ (w' : World), Ext w w' → Hid (Ts w' (fun k => S k ∨ w.heap.size ≤ k) (.slice A L.length c) L ∧ riseT L ∧ (∀ x, x ∈ L ↔ x ∈ L ∨ x = s) ∧ L.length ≤ L.length + 1) := fun hs w' hx => Lib.hid ⟨(h0.ext hx).mono (fun _ _ hs => .inl hs), hr, fun x => ⟨.inl, fun hx => hx.elim id (fun e => e ▸ hs)⟩, by omega⟩
  have hres : s ∉ L → Hid (∀ v9 (w9 : World), Own w9 9 v9 ((L.take n ++ [s]).map sv ++ (L.drop n).map sv) → Fresh w.heap.size v9 → Ts w9 (fun k => S k ∨ w.heap.size ≤ k) v9 ((L.take n ++ [s]) ++ L.drop n) ∧ riseT ((L.take n ++ [s]) ++ L.drop n) ∧ (∀ x, x ∈ (L.take n ++ [s]) ++ L.drop n ↔ x ∈ L ∨ x = s) ∧ ((L.take n ++ [s]) ++ L.drop n).length ≤ L.length + 1) := fun hs => Lib.hid (fun v9 w9 ho hf => by
    have h6 := n5 (fun hn e => hs (n4.2 ⟨hn, e⟩))
    refine ⟨?_, h6.1, h6.2, by simp; omega⟩
    rw [← List.map_append] at ho
    exact ho.sl.mono (fun _ _ hk => .inr (hf _ hk)))
  have hg1 : Hid (((([] : List Value)).length + ((L.take n).map sv).length) * 16 ≤ 140737488355328) := Lib.hid (by rw [List.length_map, List.length_take, List.length_nil]; omega)
  have hg2 : Hid ((L.take n).length + 1 ≤ 1000000) := Lib.hid (by rw [List.length_take]; omega)
  have hg3 : Hid ((((L.take n ++ [s]).map sv).length + ((L.drop n).map sv).length) * 16 ≤ 140737488355328) := Lib.hid (gapT _ _ (by simp; omega))
  have n2' := Lib.hid n2
  have n4' := Lib.hid n4
  clear n5 hr n2 n4
  go_enter Try.func24, Try.ntmps24
  go_wp2_with fail
  go_loopw [5] (fun i wr => ∃ k : Nat, k ≤ n ∧ i = .int .i64 k ∧ Ext w wr) (fun i _ => L.length - (intOf i).toNat)
  case atStart => exact ⟨0, Nat.zero_le _, rfl, Mod.refl _ _⟩
  case round =>
    obtain ⟨k, hk, rfl, hx⟩ := hrel
    have hi0 : (0 : Int) ≤ (k : Int) := by omega
    by_cases hkn : k < n
    case pos =>
      have hlt : k < L.length := by omega
      have hbl : decide ((k : Int) < (L.length : Int)) = true := dtrueI (by omega)
      obtain ⟨ad, hA, hS, c0⟩ := (Cells.mod h4 hx (fun _ _ _ h => h)).at_ hlt
      subst hA
      have hlx := n2'.out k hlt hkn
      have hi1 : (k : Int) < (L.length : Int) := by omega
      clear hsame hres hg1 hg2 hg3 n2' n4' n3 h0
      generalize L[k] = x at *
      go_wp2_with fail
      exact ⟨⟨k + 1, by omega, by go_num, hx⟩, by simp [intOf] <;> omega⟩
    obtain rfl : k = n := by omega
    have hkl : (k : Int) ≤ (L.length : Int) := by omega
    have hkc : (k : Int) ≤ (c : Int) := by omega
    by_cases hlt : k < L.length
    case neg =>
      have hbl : decide ((k : Int) < (L.length : Int)) = false := dfalseI (by omega)
      replace hres := hres (fun hs => hlt (n4'.out.1 hs).1)
      clear hsame n4' n2' n3
      by_cases hck : c = k
      case pos =>
        obtain rfl : k = c := hck.symm
        have hck2 : (k : Int) - (k : Int) = 0 := by omega
        have hlk : L.length - k = 0 := by omega
        cases A with
        | none =>
          obtain rfl : k = 0 := h3 rfl
          have rT := (Ts.begin (m := 0) h0 n1).ext hx
          have rR : Ts w S (.slice none 0 0) (L.drop 0) := by have h9 := h0.rest0 (m := 0) (by omega) rfl; rw [hlk] at h9; exact h9
          have fe : Fresh w.heap.size (.slice (some ⟨wr.heap.size, 0, none⟩) 0 0) := fresh_at hx
          have ya : Ext w (wr.alloc (.cells #[] 9)) := hx.alloc _
          go_wp2_with (first
            | ((with_reducible show wpList _ _ _ (⟨some 38, _, _, _, _, _⟩ :: _) _ _); refine wp_app tyS (Own.empty wr 9) (rT.alloc _) (sv_ok _) rfl (.tmp 34) (.tmp 37) rfl rfl rfl hg1.out ?_; intro v1 w1 k1 k2 k3; have o1 : OwnT w1 v1 (L.take 0) := k1; have f1 := k3.fresh fe ya.size; have x1 := ext_app0 ya fe k2; clear k1 k2 k3)
            | ((with_reducible show wpList _ _ _ (⟨some 41, _, _, _, _, _⟩ :: _) _ _); refine wp_appT (x := s) o1 hg2.out rfl _ _ rfl rfl rfl ?_; intro v2 w2 o2 m2 n2; have f2 := n2.fresh f1 x1.size; have x2 := ext_app0 x1 f1 m2)
            | ((with_reducible show wpList _ _ _ (⟨some 46, _, _, _, _, _⟩ :: _) _ _); refine wp_app tyS o2 (rR.ext x2) (sv_ok _) rfl (.tmp 42) (.tmp 45) rfl rfl rfl hg3.out ?_; intro v3 w3 k1 k2 k3))
          go_ret
          exact ⟨⟨_, rfl, _, hres.out _ _ k1 (k3.fresh f2 x2.size)⟩, ext_app0 x2 f2 k2⟩
        | some ad =>
          have rT := (Ts.begin (m := k) h0 n1).ext hx
          have rR : Ts w S (.slice (some ad) 0 0) (L.drop k) := by have h9 := h0.rest0 (m := k) (by omega) rfl; rw [hlk] at h9; exact h9
          have fe : Fresh w.heap.size (.slice (some ⟨wr.heap.size, 0, none⟩) 0 0) := fresh_at hx
          have ya : Ext w (wr.alloc (.cells #[] 9)) := hx.alloc _
          go_wp2_with (first
            | ((with_reducible show wpList _ _ _ (⟨some 38, _, _, _, _, _⟩ :: _) _ _); refine wp_app tyS (Own.empty wr 9) (rT.alloc _) (sv_ok _) rfl (.tmp 34) (.tmp 37) rfl rfl rfl hg1.out ?_; intro v1 w1 k1 k2 k3; have o1 : OwnT w1 v1 (L.take k) := k1; have f1 := k3.fresh fe ya.size; have x1 := ext_app0 ya fe k2; clear k1 k2 k3)
            | ((with_reducible show wpList _ _ _ (⟨some 41, _, _, _, _, _⟩ :: _) _ _); refine wp_appT (x := s) o1 hg2.out rfl _ _ rfl rfl rfl ?_; intro v2 w2 o2 m2 n2; have f2 := n2.fresh f1 x1.size; have x2 := ext_app0 x1 f1 m2)
            | ((with_reducible show wpList _ _ _ (⟨some 46, _, _, _, _, _⟩ :: _) _ _); refine wp_app tyS o2 (rR.ext x2) (sv_ok _) rfl (.tmp 42) (.tmp 45) rfl rfl rfl hg3.out ?_; intro v3 w3 k1 k2 k3))
          go_ret
          exact ⟨⟨_, rfl, _, hres.out _ _ k1 (k3.fresh f2 x2.size)⟩, ext_app0 x2 f2 k2⟩
      obtain ⟨ad, hA⟩ : ∃ ad, A = some ad := by
        cases A with
        | none => exact absurd (by have := h3 rfl; omega) hck
        | some ad => exact ⟨ad, rfl⟩
      subst hA
      have rT := (Ts.begin (m := k) h0 n1).ext hx
      have rR : Ts w S _ (L.drop k) := h0.rest (m := k) (by omega)
      have fe : Fresh w.heap.size (.slice (some ⟨wr.heap.size, 0, none⟩) 0 0) := fresh_at hx
      have ya : Ext w (wr.alloc (.cells #[] 9)) := hx.alloc _
      go_wp2_with (first
        | ((with_reducible show wpList _ _ _ (⟨some 38, _, _, _, _, _⟩ :: _) _ _); refine wp_app tyS (Own.empty wr 9) (rT.alloc _) (sv_ok _) rfl (.tmp 34) (.tmp 37) rfl rfl rfl hg1.out ?_; intro v1 w1 k1 k2 k3; have o1 : OwnT w1 v1 (L.take k) := k1; have f1 := k3.fresh fe ya.size; have x1 := ext_app0 ya fe k2; clear k1 k2 k3)
        | ((with_reducible show wpList _ _ _ (⟨some 41, _, _, _, _, _⟩ :: _) _ _); refine wp_appT (x := s) o1 hg2.out rfl _ _ rfl rfl rfl ?_; intro v2 w2 o2 m2 n2; have f2 := n2.fresh f1 x1.size; have x2 := ext_app0 x1 f1 m2)
        | ((with_reducible show wpList _ _ _ (⟨some 46, _, _, _, _, _⟩ :: _) _ _); refine wp_app tyS o2 (rR.ext x2) (sv_ok _) rfl (.tmp 42) (.tmp 45) rfl rfl rfl hg3.out ?_; intro v3 w3 k1 k2 k3))
      go_ret
      exact ⟨⟨_, rfl, _, hres.out _ _ k1 (k3.fresh f2 x2.size)⟩, ext_app0 x2 f2 k2⟩
    have hbl : decide ((k : Int) < (L.length : Int)) = true := dtrueI (by omega)
    obtain ⟨ad, hA, hS, c0⟩ := (Cells.mod h4 hx (fun _ _ _ h => h)).at_ hlt
    subst hA
    have hi1 : (k : Int) < (L.length : Int) := by omega
    have hlx := n3 hlt
    have hck : ¬ c = k := by omega
    have hmem : L[k] = s ↔ s ∈ L := ⟨fun h => n4'.out.2 ⟨hlt, h⟩, fun h => (n4'.out.1 h).2⟩
    clear n4' n2' n3
    generalize L[k] = x at *
    cases hq : (x == s)
    case true =>
      have hs : s ∈ L := hmem.1 (by rwa [beq_iff_eq] at hq)
      have hz := hsame hs wr hx
      clear hsame hres hmem h0
      go_wp2_with fail
      go_ret
      exact ⟨⟨_, rfl, L, hz.out⟩, hx⟩
    replace hres := hres (fun hs => by rw [← hmem] at hs; rw [beq_eq_false_iff_ne] at hq; exact hq hs)
    clear hsame hmem
    have rT := (Ts.begin (m := k) h0 n1).ext hx
    have rR : Ts w S _ (L.drop k) := h0.rest (m := k) (by omega)
    have fe : Fresh w.heap.size (.slice (some ⟨wr.heap.size, 0, none⟩) 0 0) := fresh_at hx
    have ya : Ext w (wr.alloc (.cells #[] 9)) := hx.alloc _
    go_wp2_with (first
      | ((with_reducible show wpList _ _ _ (⟨some 38, _, _, _, _, _⟩ :: _) _ _); refine wp_app tyS (Own.empty wr 9) (rT.alloc _) (sv_ok _) rfl (.tmp 34) (.tmp 37) rfl rfl rfl hg1.out ?_; intro v1 w1 k1 k2 k3; have o1 : OwnT w1 v1 (L.take k) := k1; have f1 := k3.fresh fe ya.size; have x1 := ext_app0 ya fe k2; clear k1 k2 k3)
      | ((with_reducible show wpList _ _ _ (⟨some 41, _, _, _, _, _⟩ :: _) _ _); refine wp_appT (x := s) o1 hg2.out rfl _ _ rfl rfl rfl ?_; intro v2 w2 o2 m2 n2; have f2 := n2.fresh f1 x1.size; have x2 := ext_app0 x1 f1 m2)
      | ((with_reducible show wpList _ _ _ (⟨some 46, _, _, _, _, _⟩ :: _) _ _); refine wp_app tyS o2 (rR.ext x2) (sv_ok _) rfl (.tmp 42) (.tmp 45) rfl rfl rfl hg3.out ?_; intro v3 w3 k1 k2 k3))
    go_ret
    exact ⟨⟨_, rfl, _, hres.out _ _ k1 (k3.fresh f2 x2.size)⟩, ext_app0 x2 f2 k2⟩
end Go.Proofs.Ytacmbomnjedbeaa

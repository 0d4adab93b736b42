/- dnkey: slices.Reverse at parts of names. -/
import Derived.Test.YtgghjkefbfbopaaDoorDnM
namespace Go.Proofs.YtgghjkefbfbopaaDoor
open Go.RowKit
set_option maxRecDepth 100000
theorem OwnK.store {w : World} {e : TypeId} {k g n c : Nat} {xs : List Value} (h : OwnK w e k (.slice (some ⟨g, 0, none⟩) n c) n xs) (j : Nat) (u : Value) :
    OwnK (w.setCell ⟨g, j, none⟩ u) e k (.slice (some ⟨g, 0, none⟩) n c) n (xs.set j u) :=
  (World.ownsRow.stored (w := w) (base := 0) (e := e) (size := k) (g := g) (n := n) (cap := c) (xs := xs) h j u).1
theorem flat_set (x : Av) : ∀ (L : List Av) (i : Nat), ((L.flatMap avc).set (i * 2) (sv x.1)).set (i * 2 + 1) (sv x.2) = (L.set i x).flatMap avc
  | [], i => by simp
  | a :: L, 0 => rfl
  | a :: L, i + 1 => by
    have e : (i + 1) * 2 = i * 2 + 1 + 1 := by omega
    rw [e]
    show sv a.1 :: sv a.2 :: (((L.flatMap avc).set (i * 2) (sv x.1)).set (i * 2 + 1) (sv x.2)) = _
    rw [flat_set x L i]; rfl
theorem OwnR.set {w : World} {e : TypeId} {g n c : Nat} {L : List Av} (h : OwnR avc 2 w e (.slice (some ⟨g, 0, none⟩) n c) L) (hn : n = L.length) (i : Nat) (x : Av) :
    OwnR avc 2 ((w.setCell ⟨g, i * 2, none⟩ (sv x.1)).setCell ⟨g, i * 2 + 1, none⟩ (sv x.2)) e (.slice (some ⟨g, 0, none⟩) n c) (L.set i x) := by
  subst hn
  have h1 := (OwnK.store h (i * 2) (sv x.1)).store (i * 2 + 1) (sv x.2)
  unfold OwnR
  rw [List.length_set, ← flat_set]
  exact h1
theorem flatA2 : ∀ (L : List Av) (i : Nat) (h : i < L.length), (L.flatMap avc)[i * 2]? = some (sv L[i].1) ∧ (L.flatMap avc)[i * 2 + 1]? = some (sv L[i].2)
  | [], i, h => by simp at h
  | a :: L, 0, _ => ⟨rfl, rfl⟩
  | a :: L, i + 1, h => by
    have e : (i + 1) * 2 = i * 2 + 1 + 1 := by omega
    rw [e]
    exact flatA2 L i (by simpa using h)
theorem OwnR.cellA {w : World} {e : TypeId} {g n c : Nat} {L : List Av} (h : OwnR avc 2 w e (.slice (some ⟨g, 0, none⟩) n c) L) {i : Nat} (hi : i < L.length) : w.cell? ⟨g, i * 2, none⟩ = some (sv L[i].1) := by
  have := World.ownsRow.cells h (g := g) rfl (i * 2) _ (flatA2 L i hi).1
  rwa [add_lit] at this
theorem OwnR.cellB {w : World} {e : TypeId} {g n c : Nat} {L : List Av} (h : OwnR avc 2 w e (.slice (some ⟨g, 0, none⟩) n c) L) {i : Nat} (hi : i < L.length) : w.cell? ⟨g, i * 2 + 1, none⟩ = some (sv L[i].2) := by
  have := World.ownsRow.cells h (g := g) rfl (i * 2 + 1) _ (flatA2 L i hi).2
  rwa [add_lit] at this
theorem OwnR.frozenAt {w : World} {e : TypeId} {g n c : Nat} {L : List Av} (h : OwnR avc 2 w e (.slice (some ⟨g, 0, none⟩) n c) L) (j : Nat) : w.frozen? ⟨g, j, none⟩ = false := by
  rcases h.2 with ⟨hv, _⟩ | ⟨g', cap, cur, hv, _, hh, _⟩
  · cases hv
  · injection hv with e1
    injection e1 with e1
    injection e1 with e1
    subst e1
    simp [World.frozen?, hh]
/-- M is L with i places at each end turned. -/
def Turned (L M : List Av) (i : Nat) : Prop := M.length = L.length ∧ ∀ t, t < L.length → M[t]? = if t < i ∨ L.length ≤ t + i then L[L.length - 1 - t]? else L[t]?
theorem Turned.zero (L : List Av) : Turned L L 0 := ⟨rfl, fun t ht => by rw [if_neg (by omega)]⟩
theorem Turned.done {L M : List Av} {i : Nat} (h : Turned L M i) (hi : L.length ≤ i + i + 1) : M = L.reverse := by
  refine List.ext_getElem? fun t => ?_
  by_cases ht : t < L.length
  · rw [h.2 t ht, List.getElem?_reverse ht]
    split
    · rfl
    · rw [show L.length - 1 - t = t by omega]
  · rw [List.getElem?_eq_none (by rw [h.1]; omega), List.getElem?_eq_none (by rw [List.length_reverse]; omega)]
theorem Turned.step {L M : List Av} {i : Nat} (h : Turned L M i) (hi : i + i + 1 < L.length) (h1 : i < M.length) (h2 : L.length - 1 - i < M.length) :
    Turned L ((M.set i M[L.length - 1 - i]).set (L.length - 1 - i) M[i]) (i + 1) := by
  have hl := h.1
  refine ⟨by rw [List.length_set, List.length_set]; exact hl, fun t ht => ?_⟩
  have ei := h.2 i (by omega)
  have ej := h.2 (L.length - 1 - i) (by omega)
  rw [if_neg (by omega), List.getElem?_eq_getElem h1] at ei
  rw [if_neg (by omega), List.getElem?_eq_getElem h2] at ej
  rw [List.getElem?_set]
  by_cases c1 : L.length - 1 - i = t
  · rw [if_pos c1, if_pos (by rw [List.length_set]; omega), if_pos (by omega), ei]
    congr 1; omega
  · rw [if_neg c1, List.getElem?_set]
    by_cases c2 : i = t
    · rw [if_pos c2, if_pos (by omega), if_pos (by omega), ej]
      congr 1; omega
    · rw [if_neg c2, h.2 t ht]
      by_cases c3 : t < i ∨ L.length ≤ t + i
      · rw [if_pos c3, if_pos (by omega)]
      · rw [if_neg c3, if_neg (by omega)]
section
variable {w : World} {v : Value} {L : List Av}
set_option maxHeartbeats 2000000 in
theorem reverse_any (h : OwnR avc 2 w 48 v L) (hlen : L.length ≤ 1000000) : Calls Tryd.prog 32 #[v] w fun e w' => e = .returned (.tuple #[]) ∧ OwnR avc 2 w' 48 v L.reverse ∧ Mod (own v) w w' := by
  rcases OwnK.form h with ⟨rfl, h0⟩ | ⟨g, cp, rfl, h1, h2, h3⟩
  · have e0 : L = [] := List.eq_nil_of_length_eq_zero h0
    subst e0
    go_enter Tryd.func32, Tryd.ntmps32
    go_wp2_with fail
    go_loop [2, 3] (fun i j => i = .int .i64 0 ∧ j = .int .i64 (-1)) (fun _ _ => 0)
    case atStart => exact ⟨rfl, rfl⟩
    case round =>
      obtain ⟨rfl, rfl⟩ := hrel
      go_wp2_with fail
      go_end0
      exact ⟨rfl, h, Mod.refl _ _⟩
  · go_enter Tryd.func32, Tryd.ntmps32
    go_wp2_with fail
    go_loopw [2, 3] (fun a b wr => ∃ (i : Nat) (M : List Av), a = .int .i64 i ∧ b = .int .i64 ((L.length : Int) - 1 - i) ∧ Turned L M i ∧ i ≤ L.length ∧ OwnR avc 2 wr 48 (.slice (some ⟨g, 0, none⟩) L.length cp) M ∧ Mod (fun k => k = g) w wr) (fun a _ _ => L.length - (intOf a).toNat)
    case atStart => exact ⟨0, L, rfl, by simp, Turned.zero L, by omega, h, Mod.refl _ _⟩
    case round =>
      obtain ⟨i, M, rfl, rfl, hT, hi, ho, hm⟩ := hrel
      have hml := hT.1
      by_cases hlt : i + i + 1 < L.length
      · have hst' : ∀ (j : Nat) (_ : j = L.length - 1 - i) (h1 : i < M.length) (h2 : j < M.length), Turned L ((M.set i M[j]).set j M[i]) (i + 1) := fun j h h1 h2 => by subst h; exact hT.step hlt h1 h2
        obtain ⟨j, hj⟩ : ∃ j : Nat, j = L.length - 1 - i := ⟨_, rfl⟩
        have ej : (L.length : Int) - 1 - i = (j : Int) := by omega
        rw [ej]
        have hbl : decide (i < j) = true := dtrue (by omega)
        clear ej
        have hjm : j < M.length := by omega
        have him : i < M.length := by omega
        have hst := hst' j hj him hjm
        clear hst'
        have hjI : Hid ((L.length : Int) - 1 - ((i + 1 : Nat) : Int) = (j : Int) - 1) := Lib.hid (by omega)
        have ci : wr.cell? ⟨g, i * 2, none⟩ = some (sv M[i].1) := ho.cellA him
        have di : wr.cell? ⟨g, i * 2 + 1, none⟩ = some (sv M[i].2) := ho.cellB him
        have cj : wr.cell? ⟨g, j * 2, none⟩ = some (sv M[j].1) := ho.cellA hjm
        have dj : wr.cell? ⟨g, j * 2 + 1, none⟩ = some (sv M[j].2) := ho.cellB hjm
        have fz : ∀ k, wr.frozen? ⟨g, k, none⟩ = false := fun k => ho.frozenAt k
        have fi := fz (i * 2)
        have fi1 := fz (i * 2 + 1)
        have fj := fz (j * 2)
        have fj1 := fz (j * 2 + 1)
        have i0 : (0 : Int) ≤ (i : Int) := by omega
        have i1 : (i : Int) < (L.length : Int) := by omega
        have j0 : (0 : Int) ≤ (j : Int) := by omega
        have j1 : (j : Int) < (L.length : Int) := by omega
        have ij : i ≠ j := by omega
        clear fz hj
        replace hst := Lib.hid hst
        go_wp2_with fail
        go_region
        have k1 := OwnR.set ho hml.symm i M[j]
        have k2 := OwnR.set k1 (by rw [List.length_set]; exact hml.symm) j M[i]
        have m2 := ((((hm.setCell (p := ⟨g, i * 2, none⟩) (fun _ => rfl) (sv M[j].1)).setCell (p := ⟨g, i * 2 + 1, none⟩) (fun _ => rfl) (sv M[j].2)).setCell (p := ⟨g, j * 2, none⟩) (fun _ => rfl) (sv M[i].1)).setCell (p := ⟨g, j * 2 + 1, none⟩) (fun _ => rfl) (sv M[i].2)).drew
        clear ci di cj dj fi fi1 fj fj1 k1
        go_wp2_with fail
        exact ⟨⟨i + 1, (M.set i M[j]).set j M[i], by go_num, by rw [hjI.out], hst.out, by omega, k2, m2⟩, by simp [intOf] <;> omega⟩
      · have hbl : decide ((i : Int) < (L.length : Int) - 1 - i) = false := dfalse (by omega)
        have hd := hT.done (by omega)
        subst hd
        go_wp2_with fail
        go_end0
        exact ⟨rfl, ho, hm.mono fun k _ hk => by rw [hk]; rfl⟩
end
end Go.Proofs.YtgghjkefbfbopaaDoor

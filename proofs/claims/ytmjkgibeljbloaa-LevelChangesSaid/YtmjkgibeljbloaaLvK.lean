/- level: what the laws know of the program; the law Picks. -/
import Derived.Test.YtmjkgibeljbloaaLvJ
namespace Go.Proofs.Ytmjkgibeljbloaa
open Go.RowKit
set_option maxRecDepth 100000

def kF (i : Int) : Fl := ⟨i, 0, 10, [97], [98]⟩
def kL : List Fl := [kF 1, kF 2, kF 3, kF 4]
theorem kL_isV : isV 5 kL := by
  refine ⟨by decide, by decide, by decide, fun k hk => ?_⟩
  have hk4 : k < 4 := hk
  refine ⟨hk, ?_, fun h0 => ?_, fun j hj => ?_⟩
  · match k, hk4 with
    | 0, _ => exact (show fitF (kF 1) 5 by decide)
    | 1, _ => exact (show fitF (kF 2) 5 by decide)
    | 2, _ => exact (show fitF (kF 3) 5 by decide)
    | 3, _ => exact (show fitF (kF 4) 5 by decide)
  · match k, hk4, h0 with
    | 1, _, _ => exact (show riseF (kF 1) (kF 2) by decide)
    | 2, _, _ => exact (show riseF (kF 2) (kF 3) by decide)
    | 3, _, _ => exact (show riseF (kF 3) (kF 4) by decide)
  · match k, hk4, j, hj with
    | 1, _, 0, _ => exact (show (1 : Int) ≠ 2 by decide)
    | 2, _, 0, _ => exact (show (1 : Int) ≠ 3 by decide)
    | 2, _, 1, _ => exact (show (2 : Int) ≠ 3 by decide)
    | 3, _, 0, _ => exact (show (1 : Int) ≠ 4 by decide)
    | 3, _, 1, _ => exact (show (2 : Int) ≠ 4 by decide)
    | 3, _, 2, _ => exact (show (3 : Int) ≠ 4 by decide)
theorem kL_pick : pickF 5 kL = (kL, true) := by
  have h1 : dueZ kL = kL := by unfold dueZ; rw [show levF 1 kL = [] from rfl]; rfl
  unfold pickF
  rw [if_pos kL_isV, if_pos (by decide), h1]
theorem kL_fits : MFits kL := mfits_of (by decide)

set_option maxHeartbeats 16000000 in
theorem known11_any (w : World) : Calls Try.prog 18 #[] w fun e w' => e = .returned (.bool true) ∧ Ext w w' := by
  have hpk := fun {wx : World} {T : Nat → Prop} {u : Value} (h : Fs wx T u kL) => pick_any (n := 5) h kL_fits
  rw [kL_pick] at hpk
  have htk : ∀ j (h : j < 4), kL.take (j + 1) = kL.take j ++ [kF ((j : Int) + 1)] := fun j h => by
    match j, h with
    | 0, _ => rfl
    | 1, _ => rfl
    | 2, _ => rfl
    | 3, _ => rfl
  have hta : kL.take 4 = kL := rfl
  have hlen : ∀ j, (kL.take j).length ≤ 4 := fun j => by rw [List.length_take]; exact Nat.min_le_right _ _
  replace hta := Lib.hid hta
  generalize kL = K at *
  go_enter Try.func18, Try.ntmps18
  go_wp2_with fail
  go_loopw [1, 2] (fun s i wr => ∃ (j : Nat), j ≤ 4 ∧ i = .int .i64 ((j : Int) + 1) ∧ OwnF wr s (K.take j) ∧ Fresh w.heap.size s ∧ Ext w wr) (fun _ i _ => 5 - (intOf i).toNat)
  case atStart => exact ⟨0, by omega, rfl, by rw [List.take_zero]; exact OwnF.nil _, fresh_nil _ _ _, Mod.refl _ _⟩
  case round =>
    obtain ⟨j, hj, rfl, ho, hfr, hx⟩ := hrel
    by_cases hlt : j < 4
    case pos =>
      have hb : decide ((j : Int) + 1 ≤ 4) = true := dtrue (by omega)
      have hst := Lib.hid (htk j hlt)
      have hn : ((K.take j).length + 1) * 56 ≤ 140737488355328 := by have := hlen j; omega
      clear htk hpk hlen
      generalize K.take j = M at *
      go_wp2_with ((with_reducible show wpList _ _ _ (⟨some 13, _, _, _, _, _⟩ :: _) _ _); refine wp_appR tyF fic_len (x := kF ((j : Int) + 1)) ho rfl (fic_ok _) hn rfl (.tmp 9) (.tmp 12) rfl rfl rfl ?_; intro va wa ka1 ka2 ka3)
      exact ⟨⟨j + 1, by omega, by go_num, by rw [hst.out]; exact ka1, fresh_ext hx hfr ka3, ext_app0 hx hfr ka2⟩, by simp [intOf] <;> omega⟩
    have hb : decide ((j : Int) + 1 ≤ 4) = false := dfalse (by omega)
    obtain rfl : j = 4 := by omega
    rw [hta.out] at ho
    obtain ⟨A9, c9, e9⟩ := ho.shape
    subst e9
    clear htk hlen
    go_wp2_with fail
    refine (hpk ho.rc).mono ?_
    rintro e w1 ⟨v1, rfl, o1, f1, x1⟩
    have o2 := ho.ext x1
    have y1 := ext_trans hx x1
    have hfi := files_any o1.rc o2.rc
    rw [dtrue rfl] at hfi
    clear hpk ho hx x1 f1
    go_wp2_with fail
    refine hfi.mono ?_
    rintro e w2 ⟨rfl, x2⟩
    go_wp2_with fail
    go_ret
    exact ⟨rfl, ext_trans y1 x2⟩

/-- What is due: files Z of level m, and what of the next level they meet. -/
structure Spl (p L : List Fl) (m : Int) (Z N : List Fl) : Prop where
  p : p = Z ++ N
  z : 0 < Z.length
  zl : ∀ c ∈ Z, c.lev = m
  nl : ∀ c ∈ N, c.lev = m + 1
  n : N = L.filter (inL (m + 1) (bnd Z).1 (bnd Z).2)
  m0 : 0 ≤ m ∧ m ≤ 4
theorem lev_mem {l : Int} {L : List Fl} {c : Fl} (h : c ∈ levF l L) : c.lev = l := by
  have := (List.mem_filter.1 h).2
  exact of_decide_eq_true this
theorem inL_lev {l : Int} {lo hi : Tt} {L : List Fl} {c : Fl} (h : c ∈ L.filter (inL l lo hi)) : c.lev = l := by
  rw [over_eq] at h
  exact lev_mem (List.mem_filter.1 h).1
theorem eld_mem {L : List Fl} (h : 0 < L.length) : eld L ∈ L := by
  have : ∀ (M : List Fl) (a : Fl), M.foldl estep a = a ∨ M.foldl estep a ∈ M := by
    intro M
    induction M with
    | nil => intro a; exact .inl rfl
    | cons b M ih =>
      intro a
      rw [List.foldl_cons]
      rcases ih (estep a b) with h | h
      · rw [h]
        unfold estep
        split
        · exact .inr List.mem_cons_self
        · exact .inl rfl
      · exact .inr (List.mem_cons_of_mem _ h)
  unfold eld
  rcases this L (L.headD ⟨0, 0, 0, [], []⟩) with h1 | h1
  · rw [h1, head_get h]; exact List.getElem_mem _
  · exact h1
theorem bnd_one (f : Fl) : bnd [f] = (f.first, f.last) := by
  show bstep (f.first, f.last) f = _
  unfold bstep minT maxT
  simp [less_irr]
theorem due_spl (L : List Fl) {m : Nat} (h : 0 < (levF m L).length) (hm : m ≤ 4) : ∃ Z N, Spl (due L m) L m Z N := by
  refine ⟨[eld (levF m L)], (levF ((m : Int) + 1) L).filter (inR (eld (levF m L)).first (eld (levF m L)).last), rfl, by simp, fun c hc => ?_, fun c hc => lev_mem (List.mem_filter.1 hc).1, ?_, by omega, by omega⟩
  · rw [List.mem_singleton.1 hc]; exact lev_mem (eld_mem h)
  · rw [bnd_one, over_eq]
theorem pickR_spl (L : List Fl) : ∀ (f m p : Nat), m + f ≤ 4 → (pickR L f m p).2 = true → ∃ q Z N, Spl (pickR L f m p).1 L q Z N
  | 0, _, _, _, h => by cases h
  | f + 1, m, p, hm, h => by
    unfold pickR at h ⊢
    split
    · rename_i hp
      obtain ⟨Z, N, hs⟩ := due_spl L (m := m) (by omega) (by omega)
      exact ⟨_, Z, N, hs⟩
    · rename_i hp
      rw [if_neg hp] at h
      exact pickR_spl L f (m + 1) (p * 4) (by omega) h
theorem pickR_no (L : List Fl) : ∀ (f m p : Nat), (pickR L f m p).2 = false → (pickR L f m p).1 = []
  | 0, _, _, _ => rfl
  | f + 1, m, p, h => by
    unfold pickR at h ⊢
    split
    · rename_i hp
      rw [if_pos hp] at h
      cases h
    · rename_i hp
      rw [if_neg hp] at h
      exact pickR_no L f (m + 1) (p * 4) h
theorem pick_no {n : Int} {L : List Fl} (h : (pickF n L).2 = false) : (pickF n L).1 = [] := by
  unfold pickF at h ⊢
  split
  · rename_i hv
    rw [if_pos hv] at h
    split
    · rename_i hz
      rw [if_pos hz] at h
      cases h
    · rename_i hz
      rw [if_neg hz] at h
      exact pickR_no _ _ _ _ h
  · rfl
theorem pick_spl {n : Int} {L : List Fl} (h : (pickF n L).2 = true) : ∃ m Z N, Spl (pickF n L).1 L m Z N := by
  unfold pickF at h ⊢
  split
  · rename_i hv
    rw [if_pos hv] at h
    split
    · rename_i hz
      refine ⟨0, levF 0 L, (levF 1 L).filter (inR (bnd (levF 0 L)).1 (bnd (levF 0 L)).2), rfl, by omega, fun c hc => lev_mem hc, fun c hc => lev_mem (List.mem_filter.1 hc).1, ?_, by omega, by omega⟩
      rw [show (0 : Int) + 1 = 1 from rfl, over_eq]
    · rename_i hz
      rw [if_neg hz] at h
      exact pickR_spl _ _ _ _ (by omega) h
  · rename_i hv
    rw [if_neg hv] at h
    cases h
theorem bndK_more (Z : List Fl) {k : Nat} (h : Z.length ≤ k) : bndK Z (k + 1) = bndK Z k := by
  unfold bndK
  rw [List.take_of_length_le h, List.take_of_length_le (by omega)]
end Go.Proofs.Ytmjkgibeljbloaa

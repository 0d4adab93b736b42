/- level: a version's files stand in one order alone; what is left of them. -/
import Derived.Test.YtmjkgibeljbloaaLsL
namespace Go.Proofs.Ytmjkgibeljbloaa
open Go.RowKit
set_option maxRecDepth 100000

/-- How files stand in a version. -/
def Rl (x y : Fl) : Prop := x.lev < y.lev ∨ (x.lev = y.lev ∧ x.lev = 0 ∧ x.id < y.id) ∨ (x.lev = y.lev ∧ x.lev ≠ 0 ∧ Op.bytesLess x.last y.first = true)
theorem rl_of {x y : Fl} (h : riseF x y) : Rl x y := by
  unfold riseF at h
  split at h
  · rename_i e
    split at h
    · rename_i e0
      exact .inr (.inl ⟨e, e0, h⟩)
    · rename_i e0
      exact .inr (.inr ⟨e, e0, h⟩)
  · exact .inl h
theorem rl_trans {x y z : Fl} (h : Rl x y) (k : Rl y z) (hy : leT y.first y.last) : Rl x z := by
  rcases h with h | ⟨h1, h2, h3⟩ | ⟨h1, h2, h3⟩ <;> rcases k with k | ⟨k1, k2, k3⟩ | ⟨k1, k2, k3⟩
  · exact .inl (by omega)
  · exact .inl (by omega)
  · exact .inl (by omega)
  · exact .inl (by omega)
  · exact .inr (.inl ⟨by omega, by omega, by omega⟩)
  · exact absurd (h1 ▸ h2) k2
  · exact .inl (by omega)
  · exact absurd (h1.trans k2) h2
  · exact .inr (.inr ⟨by omega, h2, less_trans _ _ _ (lt_le h3 hy) k3⟩)
theorem isV.pair {n : Int} {L : List Fl} (h : isV n L) : L.Pairwise Rl := by
  have hr : ∀ i (hi : i + 1 < L.length), Rl (L[i]'(by omega)) L[i + 1] := fun i hi => by
    obtain ⟨_, _, h2, _⟩ := h.2.2.2 (i + 1) hi
    exact rl_of (h2 (by omega))
  have hf : ∀ i (hi : i < L.length), leT L[i].first L[i].last := fun i hi => by
    obtain ⟨_, h1, _⟩ := h.2.2.2 i hi
    exact h1.2.2.2.2.2.2.2.2
  refine List.pairwise_iff_getElem.2 fun i j hi hj hij => ?_
  obtain ⟨d, rfl⟩ : ∃ d, j = i + 1 + d := ⟨j - i - 1, by omega⟩
  induction d with
  | zero => exact hr i hj
  | succ d ih => exact rl_trans (ih (by omega) (by omega)) (hr (i + 1 + d) hj) (hf _ _)
abbrev idNe (a b : Fl) : Prop := a.id ≠ b.id
theorem rise_of {x y : Fl} (h : Rl x y) : riseF x y := by
  unfold riseF
  rcases h with h | ⟨h1, h2, h3⟩ | ⟨h1, h2, h3⟩
  · rw [if_neg (by omega)]; exact h
  · rw [if_pos h1, if_pos h2]; exact h3
  · rw [if_pos h1, if_neg h2]; exact h3
theorem rl_ahead {x y : Fl} (h : Rl x y) (hx : leT x.first x.last) : aheadF x y := by
  unfold aheadF
  rcases h with h | ⟨h1, h2, h3⟩ | ⟨h1, h2, h3⟩
  · rw [if_neg (by omega)]; exact h
  · rw [if_pos h1, if_pos h2]; exact h3
  · rw [if_pos h1, if_neg h2]; exact le_lt hx h3
theorem isV.fitc {n : Int} {L : List Fl} (h : isV n L) : ∀ c ∈ L, fitF c n := by
  intro c hc
  obtain ⟨k, hk, rfl⟩ := List.getElem_of_mem hc
  exact (h.2.2.2 k hk).2.1
theorem isV.ids {n : Int} {L : List Fl} (h : isV n L) : L.Pairwise idNe :=
  List.pairwise_iff_getElem.2 fun i j hi hj hij => (h.2.2.2 j hj).2.2.2 i hij
theorem isV_iff {n : Int} {L : List Fl} : isV n L ↔ 1 ≤ n ∧ n ≤ 1099511627776 ∧ L.length ≤ 1024 ∧ (∀ c ∈ L, fitF c n) ∧ L.Pairwise Rl ∧ L.Pairwise idNe := by
  constructor
  · exact fun h => ⟨h.1, h.2.1, h.2.2.1, h.fitc, h.pair, h.ids⟩
  · rintro ⟨h1, h2, h3, h4, h5, h6⟩
    refine ⟨h1, h2, h3, fun k hk => ⟨hk, h4 _ (List.getElem_mem hk), fun h0 => rise_of (List.pairwise_iff_getElem.1 h5 (k - 1) k (by omega) hk (by omega)), fun j hj => List.pairwise_iff_getElem.1 h6 j k (by omega) hk hj⟩⟩
/-- Some of a version's files are a version's files. -/
theorem isV.sub {n : Int} {L M : List Fl} (h : isV n L) (hs : M.Sublist L) : isV n M := by
  obtain ⟨h1, h2, h3, h4, h5, h6⟩ := isV_iff.1 h
  exact isV_iff.2 ⟨h1, h2, Nat.le_trans hs.length_le h3, fun c hc => h4 c (hs.subset hc), h5.sublist hs, h6.sublist hs⟩
theorem isV.strict {n : Int} {L : List Fl} (h : isV n L) : L.Pairwise aheadF :=
  h.pair.imp_of_mem fun {x y} hx _ hxy => rl_ahead hxy (h.fitc x hx).2.2.2.2.2.2.2.2
theorem isV.srt {n : Int} {L : List Fl} (h : isV n L) : Srt L := h.strict.imp leF_of
/-- A version's files stand in one order alone. -/
theorem srt_uniq {n : Int} {L S : List Fl} (h : isV n L) (s : Srt S) (p : S.Perm L) : S = L := by
  refine List.Perm.eq_of_pairwise ?_ s h.srt p
  intro a b ha hb hab hba
  have ha' := p.mem_iff.1 ha
  obtain ⟨i, hi, rfl⟩ := List.getElem_of_mem ha'
  obtain ⟨j, hj, rfl⟩ := List.getElem_of_mem hb
  rcases Nat.lt_trichotomy i j with q | rfl | q
  · exact absurd (List.pairwise_iff_getElem.1 h.strict i j hi hj q) hba
  · rfl
  · exact absurd (List.pairwise_iff_getElem.1 h.strict j i hj hi q) hab
theorem srt_same {n : Int} {S T : List Fl} (hs : Srt S) (ht : Srt T) (p : S.Perm T) : isV n S ↔ isV n T :=
  ⟨fun h => (srt_uniq h ht p.symm) ▸ h, fun h => (srt_uniq h hs p) ▸ h⟩
theorem woS_in {acc : List Fl} {G : List Int} {a : Fl} (e : a.id ∈ G) : woS (acc, G) a = (acc, G.erase a.id) := if_pos e
theorem woS_out {acc : List Fl} {G : List Int} {a : Fl} (e : a.id ∉ G) : woS (acc, G) a = (acc ++ [a], G) := if_neg e
/-- What is left of files whose numbers differ. -/
theorem wo_fold : ∀ (L : List Fl) (acc : List Fl) (G : List Int), L.Pairwise idNe → G.Nodup → L.foldl woS (acc, G) = (acc ++ L.filter (fun c => !decide (c.id ∈ G)), G.filter (fun x => !decide (x ∈ L.map (·.id))))
  | [], acc, G, _, _ => by
    have e : G.filter (fun x => !decide (x ∈ ([] : List Fl).map (·.id))) = G := List.filter_eq_self.2 (fun x _ => by simp)
    rw [e]
    simp
  | a :: L, acc, G, hp, hn => by
    obtain ⟨h1, h2⟩ := List.pairwise_cons.1 hp
    rw [List.foldl_cons]
    by_cases e : a.id ∈ G
    · rw [woS_in e, wo_fold L acc (G.erase a.id) h2 (hn.erase _)]
      congr 1
      · rw [List.filter_cons_of_neg (by simpa using e)]
        congr 1
        refine List.filter_congr fun c hc => ?_
        rw [Bool.not_inj_iff, decide_eq_decide, hn.mem_erase_iff]
        exact ⟨fun q => q.2, fun q => ⟨fun e2 => h1 c hc e2.symm, q⟩⟩
      · rw [hn.erase_eq_filter, List.filter_filter]
        refine List.filter_congr fun x _ => ?_
        by_cases q : x = a.id
        · subst q; simp
        · by_cases q2 : x ∈ L.map (·.id)
          · simp only [List.map_cons, List.mem_cons, q2, or_true, decide_true, Bool.not_true, Bool.false_and]
          · simp only [List.map_cons, List.mem_cons, q2, q, or_false, decide_false, Bool.not_false, Bool.true_and]
            simpa using q
    · rw [woS_out e, wo_fold L (acc ++ [a]) G h2 hn]
      congr 1
      · rw [List.filter_cons_of_pos (by simpa using e), List.append_assoc]
        rfl
      · refine List.filter_congr fun x hx => ?_
        have q : x ≠ a.id := fun q => e (q ▸ hx)
        simp only [List.map_cons, List.mem_cons, q, false_or]
theorem wo_eq {G : List Int} {L : List Fl} (hp : L.Pairwise idNe) (hn : G.Nodup) : wo G L = (L.filter (fun c => !decide (c.id ∈ G)), G.filter (fun x => !decide (x ∈ L.map (·.id)))) := by
  unfold wo
  rw [wo_fold L [] G hp hn]
  rfl
/-- One file less. -/
theorem wo_one {L1 L2 : List Fl} {f : Fl} (hp : (L1 ++ f :: L2).Pairwise idNe) : wo [f.id] (L1 ++ f :: L2) = (L1 ++ L2, []) := by
  rw [wo_eq hp (List.pairwise_singleton _ _)]
  obtain ⟨h1, h2, h3⟩ := List.pairwise_append.1 hp
  obtain ⟨h4, h5⟩ := List.pairwise_cons.1 h2
  congr 1
  · rw [List.filter_append, List.filter_cons_of_neg (by simp)]
    congr 1
    · exact List.filter_eq_self.2 fun c hc => by
        have := h3 c hc f (List.mem_cons_self ..)
        simpa using this
    · exact List.filter_eq_self.2 fun c hc => by
        have := h4 c hc
        simpa using fun e => this e.symm
  · simp
theorem wo_none (L : List Fl) : wo [] L = (L, []) := by
  have h : ∀ (L acc : List Fl), L.foldl woS (acc, []) = (acc ++ L, []) := by
    intro L
    induction L with
    | nil => intro acc; simp
    | cons a L ih =>
      intro acc
      rw [List.foldl_cons, woS_out (by simp), ih, List.append_assoc]
      rfl
  have := h L []
  simpa [wo] using this
end Go.Proofs.Ytmjkgibeljbloaa

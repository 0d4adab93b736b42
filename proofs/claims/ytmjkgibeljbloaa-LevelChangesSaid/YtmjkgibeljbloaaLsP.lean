/- level: the document's Change, purely: numbers struck out one after another, files put in one after another. -/
import Derived.Test.YtmjkgibeljbloaaLsM
namespace Go.Proofs.Ytmjkgibeljbloaa
open Go.RowKit
set_option maxRecDepth 100000

abbrev strike (g : Int) (L : List Fl) : List Fl := L.filter (fun c => !decide (c.id = g))
/-- The document's way: each number is struck out, and must have been there. -/
def dels : List Int → List Fl → Option (List Fl)
  | [], L => some L
  | g :: G, L => if (strike g L).length = L.length then none else dels G (strike g L)
theorem strike_len (g : Int) (L : List Fl) : (strike g L).length = L.length ↔ ∀ c ∈ L, c.id ≠ g := by
  rw [List.length_filter_eq_length_iff]
  exact ⟨fun h c hc => by simpa using h c hc, fun h c hc => by simpa using h c hc⟩
abbrev allIn (G : List Int) (L : List Fl) : Prop := G.Nodup ∧ ∀ g ∈ G, ∃ c ∈ L, c.id = g
theorem allIn_cons {g : Int} {G : List Int} {L : List Fl} (hg : ∃ c ∈ L, c.id = g) : allIn (g :: G) L ↔ allIn G (strike g L) := by
  constructor
  · rintro ⟨h1, h2⟩
    obtain ⟨h3, h4⟩ := List.nodup_cons.1 h1
    refine ⟨h4, fun x hx => ?_⟩
    obtain ⟨c, hc, e⟩ := h2 x (List.mem_cons_of_mem _ hx)
    refine ⟨c, List.mem_filter.2 ⟨hc, ?_⟩, e⟩
    have : c.id ≠ g := fun q => h3 (by rw [← q, e]; exact hx)
    simpa using this
  · rintro ⟨h1, h2⟩
    refine ⟨List.nodup_cons.2 ⟨fun hx => ?_, h1⟩, fun x hx => ?_⟩
    · obtain ⟨c, hc, e⟩ := h2 g hx
      have := (List.mem_filter.1 hc).2
      simp [e] at this
    · rcases List.mem_cons.1 hx with rfl | hx
      · exact hg
      · obtain ⟨c, hc, e⟩ := h2 x hx
        exact ⟨c, (List.mem_filter.1 hc).1, e⟩
theorem dels_yes : ∀ (G : List Int) (L : List Fl), allIn G L → dels G L = some (L.filter (fun c => !decide (c.id ∈ G)))
  | [], L, _ => by
    have e : L.filter (fun c => !decide (c.id ∈ ([] : List Int))) = L := List.filter_eq_self.2 (fun c _ => by simp)
    rw [e]
    rfl
  | g :: G, L, h => by
    have hg := h.2 g (List.mem_cons_self ..)
    unfold dels
    rw [if_neg (fun q => by obtain ⟨c, hc, e⟩ := hg; exact (strike_len g L).1 q c hc e), dels_yes G _ ((allIn_cons hg).1 h), List.filter_filter]
    congr 1
    refine List.filter_congr fun c _ => ?_
    by_cases q : c.id = g
    · simp [q]
    · simp [q]
theorem dels_no : ∀ (G : List Int) (L : List Fl), ¬ allIn G L → dels G L = none
  | [], L, h => absurd ⟨List.Pairwise.nil, fun g hg => by cases hg⟩ h
  | g :: G, L, h => by
    unfold dels
    by_cases hg : ∃ c ∈ L, c.id = g
    · rw [if_neg (fun q => by obtain ⟨c, hc, e⟩ := hg; exact (strike_len g L).1 q c hc e)]
      exact dels_no G _ (fun q => h ((allIn_cons hg).2 q))
    · rw [if_pos ((strike_len g L).2 (fun c hc e => hg ⟨c, hc, e⟩))]
/-- Both ways leave the same. -/
theorem dels_wo {G : List Int} {L : List Fl} (hp : L.Pairwise idNe) :
    (G.Nodup ∧ (wo G L).2 = [] → dels G L = some (wo G L).1) ∧ (¬ (G.Nodup ∧ (wo G L).2 = []) → dels G L = none) := by
  have hiff : G.Nodup ∧ (wo G L).2 = [] ↔ allIn G L := by
    constructor
    · rintro ⟨h1, h2⟩
      refine ⟨h1, fun g hg => ?_⟩
      rw [wo_eq hp h1] at h2
      have := List.filter_eq_nil_iff.1 h2 g hg
      simpa using this
    · rintro ⟨h1, h2⟩
      refine ⟨h1, ?_⟩
      rw [wo_eq hp h1]
      refine List.filter_eq_nil_iff.2 fun g hg => ?_
      have := h2 g hg
      simpa using this
  constructor
  · intro h
    rw [dels_yes G L (hiff.1 h), wo_eq hp h.1]
  · intro h
    exact dels_no G L (fun q => h (hiff.2 q))
/-- The document's way to put a file in. -/
def insD (L : List Fl) (f : Fl) : List Fl := L.takeWhile (fun c => decide (aheadF c f)) ++ f :: L.dropWhile (fun c => decide (aheadF c f))
theorem insD_perm (L : List Fl) (f : Fl) : (insD L f).Perm (L ++ [f]) := by
  unfold insD
  refine List.perm_middle.trans ?_
  rw [List.takeWhile_append_dropWhile]
  exact List.perm_append_comm (l₁ := [f])
theorem mem_tw {p : Fl → Bool} : ∀ {L : List Fl} {c : Fl}, c ∈ L.takeWhile p → p c = true
  | a :: L, c, h => by
    rw [List.takeWhile_cons] at h
    split at h
    · rename_i ha
      rcases List.mem_cons.1 h with rfl | h
      · exact ha
      · exact mem_tw h
    · cases h
theorem insD_srt : ∀ {L : List Fl} {f : Fl}, Srt L → Srt (insD L f)
  | [], f, _ => List.pairwise_singleton _ _
  | a :: L, f, h => by
    obtain ⟨h1, h2⟩ := List.pairwise_cons.1 h
    unfold insD
    by_cases ha : aheadF a f
    · rw [List.takeWhile_cons_of_pos (by simpa using ha), List.dropWhile_cons_of_pos (by simpa using ha), List.cons_append]
      refine List.pairwise_cons.2 ⟨fun c hc => ?_, insD_srt h2⟩
      have := (insD_perm L f).mem_iff.1 hc
      rcases List.mem_append.1 this with q | q
      · exact h1 c q
      · rw [List.mem_singleton.1 q]; exact leF_of ha
    · rw [List.takeWhile_cons_of_neg (by simpa using ha), List.dropWhile_cons_of_neg (by simpa using ha)]
      refine List.pairwise_cons.2 ⟨fun c hc => ?_, h⟩
      rcases List.mem_cons.1 hc with rfl | hc
      · exact ha
      · exact leF_trans (show leF f a from ha) (h1 c hc)
theorem insD_all : ∀ (B L : List Fl), Srt L → (B.foldl insD L).Perm (L ++ B) ∧ Srt (B.foldl insD L)
  | [], L, h => ⟨by simp, h⟩
  | f :: B, L, h => by
    obtain ⟨h1, h2⟩ := insD_all B (insD L f) (insD_srt h)
    refine ⟨?_, h2⟩
    refine h1.trans ?_
    refine ((insD_perm L f).append_right B).trans ?_
    rw [List.append_assoc]
    exact List.Perm.refl _
end Go.Proofs.Ytmjkgibeljbloaa

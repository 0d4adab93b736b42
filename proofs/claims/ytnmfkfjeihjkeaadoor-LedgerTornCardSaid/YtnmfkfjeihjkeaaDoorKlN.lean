/- ledger: what is opened, without a walk. -/
import Derived.Test.YtnmfkfjeihjkeaaDoorKlM
namespace Go.Proofs.YtnmfkfjeihjkeaaDoor
open Go.RowKit Go.Maps Go.WideMaps
set_option maxRecDepth 100000

/-- A log of these entries, the first one's number m. -/
def logB (m : Nat) (ps : Tx) : List UInt8 := frecs (numd m ps)
theorem logB_nil (m : Nat) : logB m [] = [] := rfl
theorem logB_snoc (m : Nat) (ps : Tx) (b : List UInt8) : logB m (ps ++ [b]) = logB m ps ++ frec (numB (m + ps.length) b) := by
  unfold logB
  rw [numd_app, frecs, List.flatMap_append]
  simp [frecs, numd]
theorem numd_small : ∀ (m : Nat) (ps : Tx), m + ps.length ≤ 1099511627777 → (∀ p ∈ ps, p.length ≤ 900000) → ∀ q ∈ numd m ps, q.length ≤ 1048576
  | _, [], _, _, _, h => by cases h
  | m, p :: ps, hm, hp, q, h => by
    rw [numd, List.mem_cons] at h
    rw [List.length_cons] at hm
    rcases h with rfl | h
    · have h1 := hp p (by simp)
      have := numB_len m p (by omega) (by omega)
      omega
    · exact numd_small (m + 1) ps (by omega) (fun p hq => hp p (by simp [hq])) q h
theorem scan_logB (m : Nat) (ps : Tx) (h1 : m + ps.length ≤ 1099511627777) (h2 : ∀ p ∈ ps, p.length ≤ 900000) : scan (logB m ps) = (numd m ps, (logB m ps).length) := scan_all _ (numd_small m ps h1 h2)
section
variable {F : Fn} {B N r n : Nat} {L : Fis} {b p dt : List UInt8} {es : Tx} {o : Option (List UInt8)}
def openF (F : Fn) (p : List UInt8) (o : Option (List UInt8)) : Fn := updF (updF F (imgN p ++ [126]) none) (logN p) o
theorem img_ne_log (p : List UInt8) : imgN p ≠ logN p := fun h => by
  have := List.append_cancel_left h
  cases this
theorem aside_ne_log (p : List UInt8) : logN p ≠ imgN p ++ [126] := fun h => by
  have := congrArg List.length h
  simp [imgN, logN] at this
theorem aside_ne_img (p : List UInt8) : imgN p ≠ imgN p ++ [126] := fun h => by
  have := congrArg List.length h
  simp at this
/-- What a log must be. -/
def LogF (g : Option (List UInt8)) (n : Nat) (es : Tx) (o : Option (List UInt8)) : Prop :=
  (g = none ∧ es = [] ∧ o = none) ∨ ∃ m ps b good, g = some b ∧ scan b = (numd m ps, good) ∧ good ≤ b.length ∧ 1 ≤ m ∧ m ≤ n + 1 ∧ m + ps.length ≤ 1099511627776 ∧ ps.length ≤ 100000 ∧ (∀ p ∈ ps, p.length ≤ 900000) ∧ es = ps.drop (n + 1 - m) ∧ o = if es = [] then none else some (b.take good)
def ImgF (i : Option (List UInt8)) (n : Nat) (dt : List UInt8) : Prop := (i = none ∧ n = 0 ∧ dt = []) ∨ (i = some (frec (numB n dt)) ∧ n ≤ 1099511627776 ∧ dt.length ≤ 900000)
theorem HasX.opens (h : HasX (imgN p ++ [126]) F B N L) (h2 : p.length ≤ 20) (hB : B ≤ 1000000) (hi : ImgF (F (imgN p)) n dt) (hg : LogF (F (logN p)) n es o) :
    ∃ L', OpensD ⟨r, L, false, 0⟩ p ⟨r, L', false, 0⟩ n dt es ∧ HasL (openF F p o) B (N + 1) L' := by
  unfold openF
  obtain ⟨L1, e1, H1⟩ := h.rm (r := r) (by simp) (by simp [imgN]; omega)
  have eI : updF F (imgN p ++ [126]) none (imgN p) = F (imgN p) := updF_other (aside_ne_img p)
  have eG : updF F (imgN p ++ [126]) none (logN p) = F (logN p) := updF_other (aside_ne_log p)
  have hl1 : 1 ≤ (logN p).length := by simp [logN]
  have hl2 : (logN p).length ≤ 64 := by simp [logN]; omega
  have hI : ImgD ⟨r, L1, false, 0⟩ (imgN p) n dt := by
    rcases hi with ⟨q1, q2, q3⟩ | ⟨q1, q2, q3⟩
    · exact .inl ⟨load_none (by show getF L1 _ = none; rw [H1.get, eI, q1]; rfl), q2, q3⟩
    · refine .inr ⟨numB n dt, load_saved (n := (frec (numB n dt)).length) ?_ ?_, ?_, Img.numB n dt q2 (by omega)⟩
      · show getF L1 _ = _
        rw [H1.get, eI, q1]
        rfl
      · have := numB_len n dt (by omega) (by omega); omega
      · have := numB_len n dt (by omega) (by omega); omega
  generalize updF F (imgN p ++ [126]) none = F1 at *
  have hread : readD ⟨r, L1, false, 0⟩ (logN p) = F (logN p) := by rw [H1.read, eG]
  suffices hs : ∃ L', LogD ⟨r, L1, false, 0⟩ (logN p) n es ⟨r, L', false, 0⟩ ∧ HasL (updF F1 (logN p) o) B (N + 1) L' from by
    obtain ⟨L', hs1, hs2⟩ := hs
    exact ⟨L', ⟨_, e1, hI, hs1⟩, hs2⟩
  rcases hg with ⟨q1, q2, q3⟩ | ⟨m, ps, b, good, q1, q2, q3, q4, q5, q6, q7, q8, q9, q10⟩
  · refine ⟨L1, .inl ⟨by rw [hread, q1], q2, rfl⟩, (H1.mono (Nat.le_refl _) (Nat.le_succ _)).congr fun x => ?_⟩
    by_cases hx : x = logN p
    · subst hx; rw [q3, eG, q1]; simp [updF]
    · exact updF_other hx
  have hbl := H1.len (x := logN p) (b := b) (by rw [eG, q1])
  have hmid : ∃ L2, HasL (updF F1 (logN p) (some (b.take good))) B (N + 1) L2 ∧ ((good = b.length ∧ (⟨r, L2, false, 0⟩ : Ds) = ⟨r, L1, false, 0⟩) ∨ (good < b.length ∧ ∃ d1, truncD ⟨r, L1, false, 0⟩ (logN p) good = (d1, 0) ∧ eachD syncD d1 [logN p] = (⟨r, L2, false, 0⟩, 0))) := by
    by_cases hgd : good = b.length
    · refine ⟨L1, (H1.mono (Nat.le_refl _) (Nat.le_succ _)).congr fun x => ?_, .inl ⟨hgd, rfl⟩⟩
      by_cases hx : x = logN p
      · subst hx; rw [updF_same, eG, q1, hgd, List.take_length]
      · exact updF_other hx
    · have hgl : getF L1 (logN p) = some ⟨logN p, b, b.length⟩ := by rw [H1.get, eG, q1]; rfl
      refine ⟨putF L1 ⟨logN p, b.take good, (b.take good).length⟩, H1.put (by rw [oldB, eG, q1]; simp only [Option.getD_some, List.length_take]; omega), .inr ⟨by omega, ⟨r, putF L1 ⟨logN p, b.take good, min b.length good⟩, false, 0⟩, ?_, ?_⟩⟩
      · rw [truncD, onF_some _ (beg_ok (fun h => by cases h) (bad_one hl1 hl2)) hgl]
        simp only
        rw [if_neg (by omega)]
        rfl
      · exact sync_one H1.rise hl1 hl2 (fun h => by cases h)
  obtain ⟨L2, H2, hcut⟩ := hmid
  by_cases hes : es = []
  · obtain ⟨L3, e3, H3⟩ := H2.remove (r := r) updF_same hl1 hl2
    refine ⟨L3, .inr ⟨b, m, good, ps, _, by rw [hread, q1], by omega, q2, q4, q5, q6, q7, q8, q9, hcut, .inr ⟨hes, e3⟩⟩, H3.congr fun x => ?_⟩
    rw [q10, if_pos hes]
    by_cases hx : x = logN p
    · subst hx; simp [updF]
    · rw [updF_other hx, updF_other hx, updF_other hx]
  · refine ⟨L2, .inr ⟨b, m, good, ps, _, by rw [hread, q1], by omega, q2, q4, q5, q6, q7, q8, q9, hcut, .inl ⟨hes, rfl⟩⟩, ?_⟩
    rw [q10, if_neg hes]
    exact H2
/-- A whole log. -/
theorem LogF.whole {m : Nat} {ps : Tx} (h1 : 1 ≤ m) (h2 : m ≤ n + 1) (h3 : m + ps.length ≤ 1099511627776) (h4 : ps.length ≤ 100000) (h5 : ∀ p ∈ ps, p.length ≤ 900000) :
    LogF (some (logB m ps)) n (ps.drop (n + 1 - m)) (if ps.drop (n + 1 - m) = [] then none else some (logB m ps)) :=
  .inr ⟨m, ps, logB m ps, (logB m ps).length, rfl, scan_logB m ps (by omega) h5, Nat.le_refl _, h1, h2, h3, h4, h5, rfl, by rw [List.take_length]⟩
end
end Go.Proofs.YtnmfkfjeihjkeaaDoor

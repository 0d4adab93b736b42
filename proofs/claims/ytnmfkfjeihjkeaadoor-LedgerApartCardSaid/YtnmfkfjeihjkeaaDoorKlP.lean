/- ledger: a Disk's files as a function, without a walk. -/
import Derived.Test.YtnmfkfjeihjkeaaDoorKlL
import Derived.Test.YtnmfkfjeihjkeaaDoorKpC
import Derived.Test.YtnmfkfjeihjkeaaDoorKpF
namespace Go.Proofs.YtnmfkfjeihjkeaaDoor
open Go.RowKit Go.Maps Go.WideMaps
set_option maxRecDepth 100000

/-- What stands under each name; all of it lasts. -/
abbrev Fn := List UInt8 → Option (List UInt8)
def updF (F : Fn) (x : List UInt8) (o : Option (List UInt8)) : Fn := fun y => if y = x then o else F y
def oldB (F : Fn) (x : List UInt8) : List UInt8 := (F x).getD []
/-- Files but the one of a name: that may be anything. -/
structure HasX (a : List UInt8) (F : Fn) (B N : Nat) (L : Fis) : Prop where
  rise : Rise L
  get : ∀ x, x ≠ a → getF L x = (F x).map fun b => ⟨x, b, b.length⟩
  sum : sumB L ≤ B
  few : L.length ≤ N
structure HasL (F : Fn) (B N : Nat) (L : Fis) : Prop where
  rise : Rise L
  get : ∀ x, getF L x = (F x).map fun b => ⟨x, b, b.length⟩
  sum : sumB L ≤ B
  few : L.length ≤ N
section
variable {F : Fn} {B N r l n : Nat} {L : Fis} {x a b p t : List UInt8} {fu : Bool}
theorem updF_same : updF F x (some b) x = some b := by simp [updF]
theorem updF_other {o : Option (List UInt8)} (h : t ≠ x) : updF F x o t = F t := by simp [updF, h]
theorem HasL.anyx (h : HasL F B N L) (a : List UInt8) : HasX a F B N L := ⟨h.rise, fun x _ => h.get x, h.sum, h.few⟩
theorem HasX.hasL (h : HasX a F B N L) (ha : getF L a = (F a).map fun b => ⟨a, b, b.length⟩) : HasL F B N L := ⟨h.rise, fun x => if e : x = a then e ▸ ha else h.get x e, h.sum, h.few⟩
theorem HasL.mono (h : HasL F B N L) {B' N' : Nat} (hB : B ≤ B') (hN : N ≤ N') : HasL F B' N' L := ⟨h.rise, h.get, Nat.le_trans h.sum hB, Nat.le_trans h.few hN⟩
theorem HasL.nil (B N : Nat) : HasL (fun _ => none) B N [] := ⟨List.Pairwise.nil, fun _ => rfl, by simp [sumB], by simp⟩
theorem HasL.congr {G : Fn} (h : HasL F B N L) (e : ∀ x, G x = F x) : HasL G B N L := ⟨h.rise, fun x => by rw [e]; exact h.get x, h.sum, h.few⟩
theorem HasL.lasts (h : HasL F B N L) : ∀ f ∈ L, f.last = f.b.length := fun f hf => by
  have h1 := getF_of_mem h.rise hf
  rw [h.get] at h1
  cases hx : F f.name with
  | none => rw [hx] at h1; cases h1
  | some b => rw [hx] at h1; injection h1 with h1; rw [← h1]
theorem HasX.lasts (h : HasX a F B N L) : ∀ f ∈ L, f.name ≠ a → f.last = f.b.length := fun f hf ha => by
  have h1 := getF_of_mem h.rise hf
  rw [h.get _ ha] at h1
  cases hx : F f.name with
  | none => rw [hx] at h1; cases h1
  | some b => rw [hx] at h1; injection h1 with h1; rw [← h1]
theorem HasL.len (h : HasL F B N L) {b : List UInt8} (hb : F x = some b) : b.length ≤ B := by
  have h1 := (sumB_delF (x := x) h.rise).1
  rw [h.get, hb] at h1
  simp only [Option.map_some, lenB] at h1
  have := h.sum
  omega
theorem HasL.put (h : HasL F B N L) {B' : Nat} (hB : B + b.length ≤ B' + (oldB F x).length) : HasL (updF F x (some b)) B' (N + 1) (putF L ⟨x, b, b.length⟩) := by
  refine ⟨rise_putF h.rise, fun y => ?_, ?_, ?_⟩
  · by_cases e : y = x
    · subst e
      rw [updF_same]
      exact getF_put_same h.rise ⟨y, b, b.length⟩
    · rw [updF_other e, getF_put_other h.rise _ e]
      exact h.get y
  · have h1 := (sumB_putF (f := ⟨x, b, b.length⟩) h.rise).1
    simp only [h.get] at h1
    have h2 := h.sum
    unfold oldB at hB
    cases hx : F x with
    | none => rw [hx] at h1 hB; simp only [Option.map_none, lenB, Option.getD_none, List.length_nil] at h1 hB; omega
    | some c => rw [hx] at h1 hB; simp only [Option.map_some, lenB, Option.getD_some] at h1 hB; omega
  · have h1 := (sumB_putF (f := ⟨x, b, b.length⟩) h.rise).2
    have h2 := h.few
    omega
theorem HasX.del (h : HasX a F B N L) : HasL (updF F a none) B N (delF L a) := by
  refine ⟨rise_delF h.rise a, fun y => ?_, ?_, ?_⟩
  · by_cases e : y = a
    · subst e
      rw [getF_del_same]
      simp [updF]
    · rw [updF_other e, getF_del_other h.rise e]
      exact h.get y e
  · have h1 := (sumB_delF (x := a) h.rise).1
    have := h.sum
    omega
  · have h1 := (sumB_delF (x := a) h.rise).2
    have := h.few
    omega
theorem HasL.del (h : HasL F B N L) (x : List UInt8) : HasL (updF F x none) B N (delF L x) := (h.anyx x).del
/-- A crash leaves it. -/
theorem HasX.crash (h : HasX a F B N L) (draw : Int) : ∃ L', crashD draw ⟨r, L, fu, l⟩ = ⟨r, L', false, 0⟩ ∧ HasX a F B N L' := by
  refine ⟨L.map (crashF draw), rfl, ?_, fun x hx => ?_, ?_, by rw [List.length_map]; exact h.few⟩
  · have e : nms (L.map (crashF draw)) = nms L := by simp [nms, crashF, Function.comp_def]
    unfold Rise
    rw [e]
    exact h.rise
  · have h1 : getF (L.map (crashF draw)) x = (getF L x).map (crashF draw) := crash_get (d := ⟨r, L, fu, l⟩)
    rw [h1, h.get x hx]
    cases F x with
    | none => rfl
    | some b => simp only [Option.map_some]; rw [crash_keeps rfl]
  · have : ∀ M : Fis, sumB (M.map (crashF draw)) ≤ sumB M := fun M => by
      induction M with
      | nil => simp [sumB]
      | cons f M ih => rw [List.map_cons, sumB_cons, sumB_cons]; have : (crashF draw f).b.length ≤ f.b.length := by simp [crashF]; omega
                       omega
    exact Nat.le_trans (this L) h.sum
theorem HasL.crash (h : HasL F B N L) (draw : Int) : crashD draw ⟨r, L, fu, l⟩ = ⟨r, L, false, 0⟩ := by
  show (⟨r, L.map (crashF draw), false, 0⟩ : Ds) = _
  congr 1
  exact (List.map_congr_left fun f hf => crash_keeps (h.lasts f hf)).trans (List.map_id _)
theorem HasL.read (h : HasL F B N L) : readD ⟨r, L, fu, l⟩ x = F x := by
  show (getF L x).map Fi.b = F x
  rw [h.get]
  cases F x <;> rfl
/-- Something taken away, if it is there. -/
theorem HasX.rm (h : HasX a F B N L) (h1 : 1 ≤ a.length) (h2 : a.length ≤ 64) : ∃ L', rmT ⟨r, L, false, 0⟩ a = (⟨r, L', false, 0⟩, 0) ∧ HasL (updF F a none) B N L' := by
  have hb : begD ⟨r, L, false, 0⟩ [a] = 0 := beg_ok (fun h => by cases h) (bad_one h1 h2)
  unfold rmT readD
  cases hg : getF L a with
  | none =>
    refine ⟨L, by simp [hg], ?_⟩
    refine ⟨h.rise, fun y => ?_, h.sum, h.few⟩
    by_cases e : y = a
    · subst e; rw [hg]; simp [updF]
    · rw [updF_other e]; exact h.get y e
  | some f =>
    obtain rfl := getF_name hg
    refine ⟨delF L f.name, ?_, h.del⟩
    have e : removeD ⟨r, L, false, 0⟩ f.name = (⟨r, delF L f.name, false, 0⟩, 0) := by
      rw [removeD, onF_some _ hb hg]
      rfl
    simp only [hg, Option.map_some, Option.isSome_some, if_true]
    rw [eachD_ok (by rw [e]), e]
    rfl
theorem HasL.remove (h : HasL F B N L) (hx : F x = some b) (h1 : 1 ≤ x.length) (h2 : x.length ≤ 64) : ∃ L', eachD removeD ⟨r, L, false, 0⟩ [x] = (⟨r, L', false, 0⟩, 0) ∧ HasL (updF F x none) B N L' := by
  obtain ⟨L', e, h'⟩ := (h.anyx x).rm (r := r) h1 h2
  refine ⟨L', ?_, h'⟩
  unfold rmT at e
  rw [h.read, hx] at e
  simpa using e
/-- Bytes behind a file, to last. -/
theorem HasL.app (h : HasL F B N L) (h1 : 1 ≤ x.length) (h2 : x.length ≤ 64) (hr : B + b.length ≤ r) (hN : N < 4096) :
    ∃ L', (bindD (appendD ⟨r, L, false, 0⟩ x [b]) fun d1 => eachD syncD d1 [x]) = (⟨r, L', false, 0⟩, 0) ∧ HasL (updF F x (some (oldB F x ++ b))) (B + b.length) (N + 1) L' := by
  refine ⟨putF L ⟨x, oldB F x ++ b, (oldB F x ++ b).length⟩, ?_, h.put (by rw [List.length_append]; omega)⟩
  have hb : begD ⟨r, L, false, 0⟩ [x] = 0 := beg_ok (fun h => by cases h) (bad_one h1 h2)
  have hsum := h.sum
  have hfew := h.few
  have e : ∃ n, appendD ⟨r, L, false, 0⟩ x [b] = (⟨r, putF L ⟨x, oldB F x ++ b, n⟩, false, 0⟩, 0) := by
    unfold appendD
    rw [if_neg (by rw [hb]; simp), if_neg (by simp only [tot, List.map_cons, List.map_nil, List.sum_cons, List.sum_nil]; omega)]
    simp only [h.get]
    unfold oldB
    cases hx : F x with
    | none =>
      simp only [Option.map_none]
      rw [if_neg (by omega)]
      exact ⟨0, by simp [doneD]⟩
    | some c => exact ⟨c.length, by simp [doneD]⟩
  obtain ⟨n, e⟩ := e
  rw [e, bindD_ok, sync_one h.rise h1 h2 (fun h => by cases h)]
  rfl
theorem HasL.lay (h : HasL F B N L) (h2 : p.length ≤ 20) (hr : B + (frec (numB n b)).length ≤ r) (hN : N < 4096) :
    ∃ L', layD ⟨r, L, false, 0⟩ p n b = (⟨r, L', false, 0⟩, 0) ∧ HasL (updF F (logN p) (some (oldB F (logN p) ++ frec (numB n b)))) (B + (frec (numB n b)).length) (N + 1) L' :=
  h.app (by simp [logN]) (by simp [logN]; omega) hr hN
/-- A file saved. -/
theorem HasL.save (h : HasL F B N L) (h1 : 1 ≤ x.length) (h2 : x.length ≤ 60) (ha : F (x ++ [126]) = none) (hr : B + (12 + b.length) ≤ r) (hN : N < 4096) (hf : fu = true → 3 ≤ l) :
    ∃ L', saveD ⟨r, L, fu, l⟩ x b = (⟨r, L', fu, sub fu l 3⟩, 0) ∧ HasL (updF F x (some (frec b))) (B + (12 + b.length)) (N + 1) L' := by
  have hs := h.sum
  have hn := h.few
  refine ⟨_, save_ok h.rise h1 h2 (by rw [h.get, ha]; rfl) (by omega) (by omega) hf, h.put (by rw [frec_len]; omega)⟩
theorem HasL.burnt (h : HasL F B N L) (h1 : 1 ≤ x.length) (h2 : x.length ≤ 60) (ha : F (x ++ [126]) = none) (hr : B + (12 + b.length) ≤ r) (hN : N < 4096) (hl : l < 3) :
    ∃ L', saveD ⟨r, L, true, l⟩ x b = (⟨r, L', true, 0⟩, 9) ∧ HasX (x ++ [126]) F (B + (12 + b.length)) (N + 1) L' := by
  have hs := h.sum
  have hn := h.few
  have ht : getF L (x ++ [126]) = none := by rw [h.get, ha]; rfl
  have hput : ∀ m, HasX (x ++ [126]) F (B + (12 + b.length)) (N + 1) (putF L ⟨x ++ [126], frec b, m⟩) := fun m => by
    refine ⟨rise_putF h.rise, fun y hy => by rw [getF_put_other h.rise _ hy]; exact h.get y, ?_, ?_⟩
    · have := (sumB_putF (f := ⟨x ++ [126], frec b, m⟩) h.rise).1
      simp only [frec_len] at this
      omega
    · have := (sumB_putF (f := ⟨x ++ [126], frec b, m⟩) h.rise).2
      omega
  rw [save_head h1 h2 ht]
  have hc : l = 0 ∨ l = 1 ∨ l = 2 := by omega
  rcases hc with rfl | rfl | rfl
  · refine ⟨L, ?_, ?_⟩
    · have e : appendD ⟨r, L, true, 0⟩ (x ++ [126]) [frec b] = (⟨r, L, true, 0⟩, 9) := by
        unfold appendD
        rw [if_pos (by rw [beg_dead rfl rfl]; simp), beg_dead rfl rfl]
      rw [e, bindD_err (by simp)]
    · have := h.anyx (x ++ [126])
      exact ⟨this.rise, this.get, by omega, by omega⟩
  · refine ⟨_, ?_, hput 0⟩
    rw [save_app h2 ht (by omega) (by omega) (fun _ => by omega), bindD_ok]
    have e1 : syncD ⟨r, putF L ⟨x ++ [126], frec b, 0⟩, true, sub true 1 1⟩ (x ++ [126]) = (⟨r, putF L ⟨x ++ [126], frec b, 0⟩, true, 0⟩, 9) := by rw [syncD, onF_err _ (by rw [beg_dead rfl rfl]; simp), beg_dead rfl rfl]; rfl
    rw [eachD_err (by rw [e1]; simp), e1, bindD_err (by simp)]
  · refine ⟨_, ?_, hput (frec b).length⟩
    rw [save_app h2 ht (by omega) (by omega) (fun _ => by omega), bindD_ok, sync_one h.rise (by simp) (by simp; omega) (fun _ => by simp [sub]), bindD_ok, sub_sub]
    unfold renameD
    rw [if_pos (by rw [beg_dead rfl (by simp [sub])]; simp), beg_dead rfl (by simp [sub])]
    rfl
end
end Go.Proofs.YtnmfkfjeihjkeaaDoor
namespace Go.Proofs.YtnmfkfjeihjkeaaDoor
open Go.RowKit Go.Maps Go.WideMaps
set_option maxRecDepth 100000

/-- A log of these entries, the first one's number m. -/
def logB (m : Nat) (ps : Tx) : List UInt8 := frecs (numd m ps)
theorem logB_nil (m : Nat) : logB m [] = [] := rfl
theorem logB_snoc (m : Nat) (ps : Tx) (b : List UInt8) : logB m (ps ++ [b]) = logB m ps ++ frec (numB (m + ps.length) b) := by
  unfold logB
  rw [numd_app, frecs, List.flatMap_append]
  simp [frecs, numd]
theorem numd_small : ∀ (m : Nat) (ps : Tx), m + ps.length ≤ 1099511627777 → (∀ p ∈ ps, p.length ≤ 900000) → ∀ q ∈ numd m ps, q.length ≤ 1048576
  | _, [], _, _, _, h => by cases h
  | m, p :: ps, hm, hp, q, h => by
    rw [numd, List.mem_cons] at h
    rw [List.length_cons] at hm
    rcases h with rfl | h
    · have h1 := hp p (by simp)
      have := numB_len m p (by omega) (by omega)
      omega
    · exact numd_small (m + 1) ps (by omega) (fun p hq => hp p (by simp [hq])) q h
theorem scan_logB (m : Nat) (ps : Tx) (h1 : m + ps.length ≤ 1099511627777) (h2 : ∀ p ∈ ps, p.length ≤ 900000) : scan (logB m ps) = (numd m ps, (logB m ps).length) := scan_all _ (numd_small m ps h1 h2)
section
variable {F : Fn} {B N r n : Nat} {L : Fis} {b p dt : List UInt8} {es : Tx} {o : Option (List UInt8)}
def openF (F : Fn) (p : List UInt8) (o : Option (List UInt8)) : Fn := updF (updF F (imgN p ++ [126]) none) (logN p) o
theorem img_ne_log (p : List UInt8) : imgN p ≠ logN p := fun h => by
  have := List.append_cancel_left h
  cases this
theorem aside_ne_log (p : List UInt8) : logN p ≠ imgN p ++ [126] := fun h => by
  have := congrArg List.length h
  simp [imgN, logN] at this
theorem aside_ne_img (p : List UInt8) : imgN p ≠ imgN p ++ [126] := fun h => by
  have := congrArg List.length h
  simp at this
/-- What a log must be. -/
def LogF (g : Option (List UInt8)) (n : Nat) (es : Tx) (o : Option (List UInt8)) : Prop :=
  (g = none ∧ es = [] ∧ o = none) ∨ ∃ m ps b good, g = some b ∧ scan b = (numd m ps, good) ∧ good ≤ b.length ∧ 1 ≤ m ∧ m ≤ n + 1 ∧ m + ps.length ≤ 1099511627776 ∧ ps.length ≤ 100000 ∧ (∀ p ∈ ps, p.length ≤ 900000) ∧ es = ps.drop (n + 1 - m) ∧ o = if es = [] then none else some (b.take good)
def ImgF (i : Option (List UInt8)) (n : Nat) (dt : List UInt8) : Prop := (i = none ∧ n = 0 ∧ dt = []) ∨ (i = some (frec (numB n dt)) ∧ n ≤ 1099511627776 ∧ dt.length ≤ 900000)
theorem HasX.opens (h : HasX (imgN p ++ [126]) F B N L) (h2 : p.length ≤ 20) (hB : B ≤ 1000000) (hi : ImgF (F (imgN p)) n dt) (hg : LogF (F (logN p)) n es o) :
    ∃ L', OpensD ⟨r, L, false, 0⟩ p ⟨r, L', false, 0⟩ n dt es ∧ HasL (openF F p o) B (N + 1) L' := by
  unfold openF
  obtain ⟨L1, e1, H1⟩ := h.rm (r := r) (by simp) (by simp [imgN]; omega)
  have eI : updF F (imgN p ++ [126]) none (imgN p) = F (imgN p) := updF_other (aside_ne_img p)
  have eG : updF F (imgN p ++ [126]) none (logN p) = F (logN p) := updF_other (aside_ne_log p)
  have hl1 : 1 ≤ (logN p).length := by simp [logN]
  have hl2 : (logN p).length ≤ 64 := by simp [logN]; omega
  have hI : ImgD ⟨r, L1, false, 0⟩ (imgN p) n dt := by
    rcases hi with ⟨q1, q2, q3⟩ | ⟨q1, q2, q3⟩
    · exact .inl ⟨load_none (by show getF L1 _ = none; rw [H1.get, eI, q1]; rfl), q2, q3⟩
    · refine .inr ⟨numB n dt, load_saved (n := (frec (numB n dt)).length) ?_ ?_, ?_, Img.numB n dt q2 (by omega)⟩
      · show getF L1 _ = _
        rw [H1.get, eI, q1]
        rfl
      · have := numB_len n dt (by omega) (by omega); omega
      · have := numB_len n dt (by omega) (by omega); omega
  generalize updF F (imgN p ++ [126]) none = F1 at *
  have hread : readD ⟨r, L1, false, 0⟩ (logN p) = F (logN p) := by rw [H1.read, eG]
  suffices hs : ∃ L', LogD ⟨r, L1, false, 0⟩ (logN p) n es ⟨r, L', false, 0⟩ ∧ HasL (updF F1 (logN p) o) B (N + 1) L' from by
    obtain ⟨L', hs1, hs2⟩ := hs
    exact ⟨L', ⟨_, e1, hI, hs1⟩, hs2⟩
  rcases hg with ⟨q1, q2, q3⟩ | ⟨m, ps, b, good, q1, q2, q3, q4, q5, q6, q7, q8, q9, q10⟩
  · refine ⟨L1, .inl ⟨by rw [hread, q1], q2, rfl⟩, (H1.mono (Nat.le_refl _) (Nat.le_succ _)).congr fun x => ?_⟩
    by_cases hx : x = logN p
    · subst hx; rw [q3, eG, q1]; simp [updF]
    · exact updF_other hx
  have hbl := H1.len (x := logN p) (b := b) (by rw [eG, q1])
  have hmid : ∃ L2, HasL (updF F1 (logN p) (some (b.take good))) B (N + 1) L2 ∧ ((good = b.length ∧ (⟨r, L2, false, 0⟩ : Ds) = ⟨r, L1, false, 0⟩) ∨ (good < b.length ∧ ∃ d1, truncD ⟨r, L1, false, 0⟩ (logN p) good = (d1, 0) ∧ eachD syncD d1 [logN p] = (⟨r, L2, false, 0⟩, 0))) := by
    by_cases hgd : good = b.length
    · refine ⟨L1, (H1.mono (Nat.le_refl _) (Nat.le_succ _)).congr fun x => ?_, .inl ⟨hgd, rfl⟩⟩
      by_cases hx : x = logN p
      · subst hx; rw [updF_same, eG, q1, hgd, List.take_length]
      · exact updF_other hx
    · have hgl : getF L1 (logN p) = some ⟨logN p, b, b.length⟩ := by rw [H1.get, eG, q1]; rfl
      refine ⟨putF L1 ⟨logN p, b.take good, (b.take good).length⟩, H1.put (by rw [oldB, eG, q1]; simp only [Option.getD_some, List.length_take]; omega), .inr ⟨by omega, ⟨r, putF L1 ⟨logN p, b.take good, min b.length good⟩, false, 0⟩, ?_, ?_⟩⟩
      · rw [truncD, onF_some _ (beg_ok (fun h => by cases h) (bad_one hl1 hl2)) hgl]
        simp only
        rw [if_neg (by omega)]
        rfl
      · exact sync_one H1.rise hl1 hl2 (fun h => by cases h)
  obtain ⟨L2, H2, hcut⟩ := hmid
  by_cases hes : es = []
  · obtain ⟨L3, e3, H3⟩ := H2.remove (r := r) updF_same hl1 hl2
    refine ⟨L3, .inr ⟨b, m, good, ps, _, by rw [hread, q1], by omega, q2, q4, q5, q6, q7, q8, q9, hcut, .inr ⟨hes, e3⟩⟩, H3.congr fun x => ?_⟩
    rw [q10, if_pos hes]
    by_cases hx : x = logN p
    · subst hx; simp [updF]
    · rw [updF_other hx, updF_other hx, updF_other hx]
  · refine ⟨L2, .inr ⟨b, m, good, ps, _, by rw [hread, q1], by omega, q2, q4, q5, q6, q7, q8, q9, hcut, .inl ⟨hes, rfl⟩⟩, ?_⟩
    rw [q10, if_neg hes]
    exact H2
/-- A whole log. -/
theorem LogF.whole {m : Nat} {ps : Tx} (h1 : 1 ≤ m) (h2 : m ≤ n + 1) (h3 : m + ps.length ≤ 1099511627776) (h4 : ps.length ≤ 100000) (h5 : ∀ p ∈ ps, p.length ≤ 900000) :
    LogF (some (logB m ps)) n (ps.drop (n + 1 - m)) (if ps.drop (n + 1 - m) = [] then none else some (logB m ps)) :=
  .inr ⟨m, ps, logB m ps, (logB m ps).length, rfl, scan_logB m ps (by omega) h5, Nat.le_refl _, h1, h2, h3, h4, h5, rfl, by rw [List.take_length]⟩
end
end Go.Proofs.YtnmfkfjeihjkeaaDoor
namespace Go.Proofs.YtnmfkfjeihjkeaaDoor
open Go.RowKit Go.Maps Go.WideMaps
set_option maxRecDepth 100000

/-- A Disk and a Ledger that have come since w0. -/
def Lh (w0 w : World) (bd : Nat) (d : Ds) (g : Nat) (l : Lst) : Prop := LDk (fun k => w0.heap.size ≤ k ∧ k < w.heap.size) w bd d g l ∧ Ext w0 w
section
variable {T U V X Y : Nat → Prop} {w0 w w' wa : World} {g bd n : Nat} {dv ew y : Value} {vs : List Value} {l : Lst} {d d1 d' : Ds} {b dt p : List UInt8} {es : Tx}
theorem LDk.mono (H : LDk X w bd d g l) (h : ∀ k, k < w.heap.size → X k → Y k) : LDk Y w bd d g l := by
  obtain ⟨T, U, dv, ew, vs, h1, h2, h3, h4, h5⟩ := H
  exact ⟨T, U, dv, ew, vs, h1, h2, h3, fun k hk => ⟨h k (h4 k hk).2 (h4 k hk).1, (h4 k hk).2⟩, fun k hk => ⟨h k (h5 k hk).2 (h5 k hk).1, (h5 k hk).2⟩⟩
theorem Lh.ext (H : Lh w0 w bd d g l) (hx : Ext w wa) : Lh w0 wa bd d g l := ⟨(H.1.ext hx).mono fun k hk h => ⟨h.1, hk⟩, ext_trans H.2 hx⟩
theorem Lh.hold (H : Lh w0 w bd d g l) : Hold w0 w (pv bd) d := by
  obtain ⟨⟨T, U, dv, ew, vs, h1, h2, h3, h4, h5⟩, hx⟩ := H
  exact ⟨T, h1, fun k hk => .inr (h4 k hk).1, hx, Nat.le_refl _, hx.size⟩
theorem Lh.of {m : Mod X wa w'} (hx : Ext w0 wa) (H : LDk Y w' bd d g l) (hX : ∀ k, X k → w0.heap.size ≤ k) (hY : ∀ k, Y k → w0.heap.size ≤ k) : Lh w0 w' bd d g l :=
  ⟨H.mono fun k hk h => ⟨hY k h, hk⟩, hx.trans m (fun _ _ h => h) fun k hk h => by have := hX k h; omega⟩
theorem Lh.xt (H : Lh w0 w bd d g l) : Ext w0 w := H.2
theorem lh_open (H : Hold w0 w (pv bd) d) (hN : Nib w0) (hp1 : 1 ≤ p.length) (hp : p.length ≤ 20) (ho : OpensD d p d' n dt es) :
    Calls Tryd.prog 34 #[pv bd, sv p] w fun e w' => ∃ g, e = .returned (.tuple #[pv g, ev 0]) ∧ Lh w0 w' bd d' g ⟨p, n, dt, es, false⟩ := by
  have hx := H.xt
  obtain ⟨T, h1, h2, h3, h4, h5⟩ := H
  refine (lopen_any (X := fun k => w0.heap.size ≤ k) h1 (fun k hk => ?_) (fun k hk => Nat.le_trans h5 hk) (hN.ext hx) (fun h => by have := lt_of_cell (hN 0 (by decide)); omega) hp1 hp ho).mono fun e w' ⟨g, q1, q2, q3, q4⟩ => ⟨g, q1, Lh.of (m := q4) hx q3 (fun _ h => h) (fun _ h => h)⟩
  rcases h2 k hk with h | h
  · exact h.1.elim
  · exact h
theorem lh_append (H : Lh w0 w bd d g l) (hx : Ext w wa) (hdead : l.dead = false) (hy : Bs wa V y b) (hV : ∀ k, V k → k < wa.heap.size ∧ (k < w0.heap.size ∨ w.heap.size ≤ k)) (hb : b.length ≤ 65536) (hn : lastL5 l + 1 ≤ 1099511627776) (hes : l.es.length + 1 ≤ 100000) (hr : layD d l.p (lastL5 l + 1) b = (d', 0)) (hN : Nib w0) :
    Calls Tryd.prog 35 #[pv g, y] wa fun e w' => e = .returned (.tuple #[.int .i64 ((lastL5 l + 1 : Nat) : Int), .int .i64 0]) ∧ Lh w0 w' bd d' g (lappL l b) := by
  obtain ⟨⟨T, U, dv, ew, vs, h1, h2, h3, h4, h5⟩, hx0⟩ := H
  have hz := hx.size
  have hz0 := hx0.size
  refine (lapp_ok (X := fun k => w0.heap.size ≤ k ∧ k < w.heap.size) (h1.ext hx) (h2.ext hx) h3 (fun k hk => ⟨(h4 k hk).1, by have := (h4 k hk).2; omega⟩) (fun k hk => ⟨(h5 k hk).1, by have := (h5 k hk).2; omega⟩) hdead hy (fun k hk => ⟨(hV k hk).1, fun h => by have := (hV k hk).2; omega⟩) hb hn hes hr (hN.ext (ext_trans hx0 hx))).mono fun e w' ⟨q1, q2, q3⟩ => ⟨q1, Lh.of (m := q3) (ext_trans hx0 hx) q2 (fun _ h => h.1) (fun k h => ?_)⟩
  rcases h with h | h
  · exact h.1
  · omega
theorem lh_write (H : Lh w0 w bd d g l) (hx : Ext w wa) (hdead : l.dead = false) (hy : Bs wa V y b) (hV : ∀ k, V k → k < wa.heap.size ∧ (k < w0.heap.size ∨ w.heap.size ≤ k)) (hb : b.length ≤ 524288) (hn : n ≤ 1099511627776) (hln : lastL5 l ≤ n) {e : Nat} (hr : replD d l.p n b = (d', e)) (hN : Nib w0) :
    Calls Tryd.prog 36 #[pv g, .int .i64 (n : Int), y] wa fun q w' => q = .returned (.int .i64 (e : Int)) ∧ Lh w0 w' bd d' g (writL l n b e) := by
  obtain ⟨⟨T, U, dv, ew, vs, h1, h2, h3, h4, h5⟩, hx0⟩ := H
  have hz := hx.size
  have hz0 := hx0.size
  have := lwrite_any (X := fun k => w0.heap.size ≤ k ∧ k < w.heap.size) (h1.ext hx) (h2.ext hx) h3 (fun k hk => ⟨(h4 k hk).1, by have := (h4 k hk).2; omega⟩) (fun k hk => ⟨(h5 k hk).1, by have := (h5 k hk).2; omega⟩) hdead hy (fun k hk => ⟨(hV k hk).1, fun h => by have := (hV k hk).2; omega⟩) hb hn hln (hN.ext (ext_trans hx0 hx))
  rw [hr] at this
  refine this.mono fun e w' ⟨q1, q2, q3⟩ => ⟨q1, Lh.of (m := q3) (ext_trans hx0 hx) q2 (fun _ h => h.1) (fun k h => ?_)⟩
  rcases h with h | h
  · exact h.1
  · omega
theorem lh_last (H : Lh w0 w bd d g l) :
    Calls Tryd.prog 37 #[pv g] w fun e w' => e = .returned (.int .i64 (lastL5 l : Nat)) ∧ ∃ k, w' = w.drewN k := by
  obtain ⟨⟨T, U, dv, ew, vs, h1, h2, h3, h4, h5⟩, hx0⟩ := H
  exact last5_any h2
theorem lh_base (H : Lh w0 w bd d g l) :
    Calls Tryd.prog 39 #[pv g] w fun e w' => ∃ u, e = .returned (.tuple #[.int .i64 (l.base : Nat), u]) ∧ Own w' 5 u (l.data.map bv) ∧ Fresh w.heap.size u ∧ Ext w w' := by
  obtain ⟨⟨T, U, dv, ew, vs, h1, h2, h3, h4, h5⟩, hx0⟩ := H
  exact base_any h2
end
/-- What a prefix's files say: a ledger. -/
def On (F : Fn) (p : List UInt8) (n : Nat) (dt : List UInt8) (es : Tx) : Prop :=
  F (imgN p ++ [126]) = none ∧ ImgF (F (imgN p)) n dt ∧ F (logN p) = (if es = [] then none else some (logB (n + 1) es)) ∧ (∀ e ∈ es, e.length ≤ 900000)
section
variable {F : Fn} {B N r n : Nat} {L : Fis} {b p dt x : List UInt8} {es : Tx} {o : Option (List UInt8)}
theorem On.old (h : On F p n dt es) : oldB F (logN p) = logB (n + 1) es := by
  unfold oldB
  rw [h.2.2.1]
  by_cases he : es = []
  · rw [if_pos he, he]; rfl
  · rw [if_neg he]; rfl
theorem On.log (h : On F p n dt es) (hn : n + 1 + es.length ≤ 1099511627776) (hl : es.length ≤ 100000) : LogF (F (logN p)) n es (F (logN p)) := by
  rw [h.2.2.1]
  by_cases he : es = []
  · rw [if_pos he]; exact .inl ⟨rfl, he, rfl⟩
  · rw [if_neg he]
    have := LogF.whole (n := n) (m := n + 1) (ps := es) (by omega) (Nat.le_refl _) hn hl h.2.2.2
    rw [Nat.sub_self, List.drop_zero, if_neg he] at this
    exact this
theorem On.opens (h : On F p n dt es) (hL : HasL F B N L) (h2 : p.length ≤ 20) (hB : B ≤ 1000000) (hn : n + 1 + es.length ≤ 1099511627776) (hl : es.length ≤ 100000) :
    ∃ L', OpensD ⟨r, L, false, 0⟩ p ⟨r, L', false, 0⟩ n dt es ∧ HasL F B (N + 1) L' := by
  obtain ⟨L', q1, q2⟩ := (hL.anyx _).opens (r := r) h2 hB h.2.1 (h.log hn hl)
  refine ⟨L', q1, q2.congr fun x => ?_⟩
  unfold openF
  by_cases hx : x = logN p
  · subst hx; simp [updF]
  · rw [updF_other hx]
    by_cases hx2 : x = imgN p ++ [126]
    · subst hx2; rw [h.1]; simp [updF]
    · rw [updF_other hx2]
theorem On.lays (h : On F p n dt es) (hb : b.length ≤ 900000) : On (updF F (logN p) (some (oldB F (logN p) ++ frec (numB (n + es.length + 1) b)))) p n dt (es ++ [b]) := by
  refine ⟨?_, ?_, ?_, fun e he => ?_⟩
  · rw [updF_other (aside_ne_log p).symm]; exact h.1
  · rw [updF_other (img_ne_log p)]; exact h.2.1
  · rw [updF_same, h.old, if_neg (by simp), logB_snoc, show n + 1 + es.length = n + es.length + 1 by omega]
  · rcases List.mem_append.1 he with h' | h'
    · exact h.2.2.2 e h'
    · rw [List.mem_singleton.1 h']; exact hb
/-- What another name's file turns does not matter. -/
theorem On.other (h : On F p n dt es) {o : Option (List UInt8)} (h1 : imgN p ++ [126] ≠ x) (h2 : imgN p ≠ x) (h3 : logN p ≠ x) : On (updF F x o) p n dt es :=
  ⟨by rw [updF_other h1]; exact h.1, by rw [updF_other h2]; exact h.2.1, by rw [updF_other h3]; exact h.2.2.1, h.2.2.2⟩
theorem On.none (p : List UInt8) : On (fun _ => none) p 0 [] [] := ⟨rfl, .inl ⟨rfl, rfl, rfl⟩, rfl, fun e he => by cases he⟩
/-- Behind an image that was written. -/
theorem On.wrote {F : Fn} (h1 : F (imgN p ++ [126]) = Option.none) (h2 : F (imgN p) = some (frec (numB n b))) (h3 : F (logN p) = Option.none) (hn : n ≤ 1099511627776) (hb : b.length ≤ 900000) : On F p n b [] :=
  ⟨h1, .inr ⟨h2, hn, hb⟩, h3, fun e he => by cases he⟩
end
end Go.Proofs.YtnmfkfjeihjkeaaDoor

/- ledger: a Disk's files as a function, without a walk. -/
import Derived.Test.YtnmfkfjeihjkeaaDoorKlL
import Derived.Test.YtnmfkfjeihjkeaaDoorKpC
namespace Go.Proofs.YtnmfkfjeihjkeaaDoor
open Go.RowKit Go.Maps Go.WideMaps
set_option maxRecDepth 100000

/-- What stands under each name; all of it lasts. -/
abbrev Fn := List UInt8 → Option (List UInt8)
def updF (F : Fn) (x : List UInt8) (o : Option (List UInt8)) : Fn := fun y => if y = x then o else F y
def oldB (F : Fn) (x : List UInt8) : List UInt8 := (F x).getD []
/-- Files but the one of a name: that may be anything. -/
structure HasX (a : List UInt8) (F : Fn) (B N : Nat) (L : Fis) : Prop where
  rise : Rise L
  get : ∀ x, x ≠ a → getF L x = (F x).map fun b => ⟨x, b, b.length⟩
  sum : sumB L ≤ B
  few : L.length ≤ N
structure HasL (F : Fn) (B N : Nat) (L : Fis) : Prop where
  rise : Rise L
  get : ∀ x, getF L x = (F x).map fun b => ⟨x, b, b.length⟩
  sum : sumB L ≤ B
  few : L.length ≤ N
section
variable {F : Fn} {B N r l n : Nat} {L : Fis} {x a b p t : List UInt8} {fu : Bool}
theorem updF_same : updF F x (some b) x = some b := by simp [updF]
theorem updF_other {o : Option (List UInt8)} (h : t ≠ x) : updF F x o t = F t := by simp [updF, h]
theorem HasL.anyx (h : HasL F B N L) (a : List UInt8) : HasX a F B N L := ⟨h.rise, fun x _ => h.get x, h.sum, h.few⟩
theorem HasX.hasL (h : HasX a F B N L) (ha : getF L a = (F a).map fun b => ⟨a, b, b.length⟩) : HasL F B N L := ⟨h.rise, fun x => if e : x = a then e ▸ ha else h.get x e, h.sum, h.few⟩
theorem HasL.mono (h : HasL F B N L) {B' N' : Nat} (hB : B ≤ B') (hN : N ≤ N') : HasL F B' N' L := ⟨h.rise, h.get, Nat.le_trans h.sum hB, Nat.le_trans h.few hN⟩
theorem HasL.nil (B N : Nat) : HasL (fun _ => none) B N [] := ⟨List.Pairwise.nil, fun _ => rfl, by simp [sumB], by simp⟩
theorem HasL.congr {G : Fn} (h : HasL F B N L) (e : ∀ x, G x = F x) : HasL G B N L := ⟨h.rise, fun x => by rw [e]; exact h.get x, h.sum, h.few⟩
theorem HasL.lasts (h : HasL F B N L) : ∀ f ∈ L, f.last = f.b.length := fun f hf => by
  have h1 := getF_of_mem h.rise hf
  rw [h.get] at h1
  cases hx : F f.name with
  | none => rw [hx] at h1; cases h1
  | some b => rw [hx] at h1; injection h1 with h1; rw [← h1]
theorem HasX.lasts (h : HasX a F B N L) : ∀ f ∈ L, f.name ≠ a → f.last = f.b.length := fun f hf ha => by
  have h1 := getF_of_mem h.rise hf
  rw [h.get _ ha] at h1
  cases hx : F f.name with
  | none => rw [hx] at h1; cases h1
  | some b => rw [hx] at h1; injection h1 with h1; rw [← h1]
theorem HasL.len (h : HasL F B N L) {b : List UInt8} (hb : F x = some b) : b.length ≤ B := by
  have h1 := (sumB_delF (x := x) h.rise).1
  rw [h.get, hb] at h1
  simp only [Option.map_some, lenB] at h1
  have := h.sum
  omega
theorem HasL.put (h : HasL F B N L) {B' : Nat} (hB : B + b.length ≤ B' + (oldB F x).length) : HasL (updF F x (some b)) B' (N + 1) (putF L ⟨x, b, b.length⟩) := by
  refine ⟨rise_putF h.rise, fun y => ?_, ?_, ?_⟩
  · by_cases e : y = x
    · subst e
      rw [updF_same]
      exact getF_put_same h.rise ⟨y, b, b.length⟩
    · rw [updF_other e, getF_put_other h.rise _ e]
      exact h.get y
  · have h1 := (sumB_putF (f := ⟨x, b, b.length⟩) h.rise).1
    simp only [h.get] at h1
    have h2 := h.sum
    unfold oldB at hB
    cases hx : F x with
    | none => rw [hx] at h1 hB; simp only [Option.map_none, lenB, Option.getD_none, List.length_nil] at h1 hB; omega
    | some c => rw [hx] at h1 hB; simp only [Option.map_some, lenB, Option.getD_some] at h1 hB; omega
  · have h1 := (sumB_putF (f := ⟨x, b, b.length⟩) h.rise).2
    have h2 := h.few
    omega
theorem HasX.del (h : HasX a F B N L) : HasL (updF F a none) B N (delF L a) := by
  refine ⟨rise_delF h.rise a, fun y => ?_, ?_, ?_⟩
  · by_cases e : y = a
    · subst e
      rw [getF_del_same]
      simp [updF]
    · rw [updF_other e, getF_del_other h.rise e]
      exact h.get y e
  · have h1 := (sumB_delF (x := a) h.rise).1
    have := h.sum
    omega
  · have h1 := (sumB_delF (x := a) h.rise).2
    have := h.few
    omega
theorem HasL.del (h : HasL F B N L) (x : List UInt8) : HasL (updF F x none) B N (delF L x) := (h.anyx x).del
/-- A crash leaves it. -/
theorem HasX.crash (h : HasX a F B N L) (draw : Int) : ∃ L', crashD draw ⟨r, L, fu, l⟩ = ⟨r, L', false, 0⟩ ∧ HasX a F B N L' := by
  refine ⟨L.map (crashF draw), rfl, ?_, fun x hx => ?_, ?_, by rw [List.length_map]; exact h.few⟩
  · have e : nms (L.map (crashF draw)) = nms L := by simp [nms, crashF, Function.comp_def]
    unfold Rise
    rw [e]
    exact h.rise
  · have h1 : getF (L.map (crashF draw)) x = (getF L x).map (crashF draw) := crash_get (d := ⟨r, L, fu, l⟩)
    rw [h1, h.get x hx]
    cases F x with
    | none => rfl
    | some b => simp only [Option.map_some]; rw [crash_keeps rfl]
  · have : ∀ M : Fis, sumB (M.map (crashF draw)) ≤ sumB M := fun M => by
      induction M with
      | nil => simp [sumB]
      | cons f M ih => rw [List.map_cons, sumB_cons, sumB_cons]; have : (crashF draw f).b.length ≤ f.b.length := by simp [crashF]; omega
                       omega
    exact Nat.le_trans (this L) h.sum
theorem HasL.crash (h : HasL F B N L) (draw : Int) : crashD draw ⟨r, L, fu, l⟩ = ⟨r, L, false, 0⟩ := by
  show (⟨r, L.map (crashF draw), false, 0⟩ : Ds) = _
  congr 1
  exact (List.map_congr_left fun f hf => crash_keeps (h.lasts f hf)).trans (List.map_id _)
theorem HasL.read (h : HasL F B N L) : readD ⟨r, L, fu, l⟩ x = F x := by
  show (getF L x).map Fi.b = F x
  rw [h.get]
  cases F x <;> rfl
/-- Something taken away, if it is there. -/
theorem HasX.rm (h : HasX a F B N L) (h1 : 1 ≤ a.length) (h2 : a.length ≤ 64) : ∃ L', rmT ⟨r, L, false, 0⟩ a = (⟨r, L', false, 0⟩, 0) ∧ HasL (updF F a none) B N L' := by
  have hb : begD ⟨r, L, false, 0⟩ [a] = 0 := beg_ok (fun h => by cases h) (bad_one h1 h2)
  unfold rmT readD
  cases hg : getF L a with
  | none =>
    refine ⟨L, by simp [hg], ?_⟩
    refine ⟨h.rise, fun y => ?_, h.sum, h.few⟩
    by_cases e : y = a
    · subst e; rw [hg]; simp [updF]
    · rw [updF_other e]; exact h.get y e
  | some f =>
    obtain rfl := getF_name hg
    refine ⟨delF L f.name, ?_, h.del⟩
    have e : removeD ⟨r, L, false, 0⟩ f.name = (⟨r, delF L f.name, false, 0⟩, 0) := by
      rw [removeD, onF_some _ hb hg]
      rfl
    simp only [hg, Option.map_some, Option.isSome_some, if_true]
    rw [eachD_ok (by rw [e]), e]
    rfl
theorem HasL.remove (h : HasL F B N L) (hx : F x = some b) (h1 : 1 ≤ x.length) (h2 : x.length ≤ 64) : ∃ L', eachD removeD ⟨r, L, false, 0⟩ [x] = (⟨r, L', false, 0⟩, 0) ∧ HasL (updF F x none) B N L' := by
  obtain ⟨L', e, h'⟩ := (h.anyx x).rm (r := r) h1 h2
  refine ⟨L', ?_, h'⟩
  unfold rmT at e
  rw [h.read, hx] at e
  simpa using e
/-- Bytes behind a file, to last. -/
theorem HasL.app (h : HasL F B N L) (h1 : 1 ≤ x.length) (h2 : x.length ≤ 64) (hr : B + b.length ≤ r) (hN : N < 4096) :
    ∃ L', (bindD (appendD ⟨r, L, false, 0⟩ x [b]) fun d1 => eachD syncD d1 [x]) = (⟨r, L', false, 0⟩, 0) ∧ HasL (updF F x (some (oldB F x ++ b))) (B + b.length) (N + 1) L' := by
  refine ⟨putF L ⟨x, oldB F x ++ b, (oldB F x ++ b).length⟩, ?_, h.put (by rw [List.length_append]; omega)⟩
  have hb : begD ⟨r, L, false, 0⟩ [x] = 0 := beg_ok (fun h => by cases h) (bad_one h1 h2)
  have hsum := h.sum
  have hfew := h.few
  have e : ∃ n, appendD ⟨r, L, false, 0⟩ x [b] = (⟨r, putF L ⟨x, oldB F x ++ b, n⟩, false, 0⟩, 0) := by
    unfold appendD
    rw [if_neg (by rw [hb]; simp), if_neg (by simp only [tot, List.map_cons, List.map_nil, List.sum_cons, List.sum_nil]; omega)]
    simp only [h.get]
    unfold oldB
    cases hx : F x with
    | none =>
      simp only [Option.map_none]
      rw [if_neg (by omega)]
      exact ⟨0, by simp [doneD]⟩
    | some c => exact ⟨c.length, by simp [doneD]⟩
  obtain ⟨n, e⟩ := e
  rw [e, bindD_ok, sync_one h.rise h1 h2 (fun h => by cases h)]
  rfl
theorem HasL.lay (h : HasL F B N L) (h2 : p.length ≤ 20) (hr : B + (frec (numB n b)).length ≤ r) (hN : N < 4096) :
    ∃ L', layD ⟨r, L, false, 0⟩ p n b = (⟨r, L', false, 0⟩, 0) ∧ HasL (updF F (logN p) (some (oldB F (logN p) ++ frec (numB n b)))) (B + (frec (numB n b)).length) (N + 1) L' :=
  h.app (by simp [logN]) (by simp [logN]; omega) hr hN
/-- A file saved. -/
theorem HasL.save (h : HasL F B N L) (h1 : 1 ≤ x.length) (h2 : x.length ≤ 60) (ha : F (x ++ [126]) = none) (hr : B + (12 + b.length) ≤ r) (hN : N < 4096) (hf : fu = true → 3 ≤ l) :
    ∃ L', saveD ⟨r, L, fu, l⟩ x b = (⟨r, L', fu, sub fu l 3⟩, 0) ∧ HasL (updF F x (some (frec b))) (B + (12 + b.length)) (N + 1) L' := by
  have hs := h.sum
  have hn := h.few
  refine ⟨_, save_ok h.rise h1 h2 (by rw [h.get, ha]; rfl) (by omega) (by omega) hf, h.put (by rw [frec_len]; omega)⟩
theorem HasL.burnt (h : HasL F B N L) (h1 : 1 ≤ x.length) (h2 : x.length ≤ 60) (ha : F (x ++ [126]) = none) (hr : B + (12 + b.length) ≤ r) (hN : N < 4096) (hl : l < 3) :
    ∃ L', saveD ⟨r, L, true, l⟩ x b = (⟨r, L', true, 0⟩, 9) ∧ HasX (x ++ [126]) F (B + (12 + b.length)) (N + 1) L' := by
  have hs := h.sum
  have hn := h.few
  have ht : getF L (x ++ [126]) = none := by rw [h.get, ha]; rfl
  have hput : ∀ m, HasX (x ++ [126]) F (B + (12 + b.length)) (N + 1) (putF L ⟨x ++ [126], frec b, m⟩) := fun m => by
    refine ⟨rise_putF h.rise, fun y hy => by rw [getF_put_other h.rise _ hy]; exact h.get y, ?_, ?_⟩
    · have := (sumB_putF (f := ⟨x ++ [126], frec b, m⟩) h.rise).1
      simp only [frec_len] at this
      omega
    · have := (sumB_putF (f := ⟨x ++ [126], frec b, m⟩) h.rise).2
      omega
  rw [save_head h1 h2 ht]
  have hc : l = 0 ∨ l = 1 ∨ l = 2 := by omega
  rcases hc with rfl | rfl | rfl
  · refine ⟨L, ?_, ?_⟩
    · have e : appendD ⟨r, L, true, 0⟩ (x ++ [126]) [frec b] = (⟨r, L, true, 0⟩, 9) := by
        unfold appendD
        rw [if_pos (by rw [beg_dead rfl rfl]; simp), beg_dead rfl rfl]
      rw [e, bindD_err (by simp)]
    · have := h.anyx (x ++ [126])
      exact ⟨this.rise, this.get, by omega, by omega⟩
  · refine ⟨_, ?_, hput 0⟩
    rw [save_app h2 ht (by omega) (by omega) (fun _ => by omega), bindD_ok]
    have e1 : syncD ⟨r, putF L ⟨x ++ [126], frec b, 0⟩, true, sub true 1 1⟩ (x ++ [126]) = (⟨r, putF L ⟨x ++ [126], frec b, 0⟩, true, 0⟩, 9) := by rw [syncD, onF_err _ (by rw [beg_dead rfl rfl]; simp), beg_dead rfl rfl]; rfl
    rw [eachD_err (by rw [e1]; simp), e1, bindD_err (by simp)]
  · refine ⟨_, ?_, hput (frec b).length⟩
    rw [save_app h2 ht (by omega) (by omega) (fun _ => by omega), bindD_ok, sync_one h.rise (by simp) (by simp; omega) (fun _ => by simp [sub]), bindD_ok, sub_sub]
    unfold renameD
    rw [if_pos (by rw [beg_dead rfl (by simp [sub])]; simp), beg_dead rfl (by simp [sub])]
    rfl
end
end Go.Proofs.YtnmfkfjeihjkeaaDoor

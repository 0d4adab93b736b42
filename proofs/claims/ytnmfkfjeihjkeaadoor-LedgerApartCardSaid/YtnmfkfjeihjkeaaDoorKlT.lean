/- ledger: a Ledger beside other memory; a log that was cut. -/
import Derived.Test.YtnmfkfjeihjkeaaDoorKlS
namespace Go.Proofs.YtnmfkfjeihjkeaaDoor
open Go.RowKit Go.Maps Go.WideMaps
set_option maxRecDepth 100000

/-- A Disk and a Ledger that have come since w0, beside Y. -/
def Ky (Y : Nat → Prop) (w0 w : World) (bd g r B N : Nat) (F : Fn) (l : Lst) : Prop :=
  ∃ L, LDk (fun k => w0.heap.size ≤ k ∧ ¬ Y k) w bd ⟨r, L, false, 0⟩ g l ∧ Ext w0 w ∧ HasL F B N L ∧ On F l.p l.base l.data l.es ∧ l.dead = false
section
variable {X Y Y' F' V : Nat → Prop} {w0 w w' wa : World} {g bd r B N n : Nat} {F : Fn} {l : Lst} {d : Ds} {p b dt : List UInt8} {es P : Tx} {y : Value} {L : Fis}
theorem LDk.mod (H : LDk X w bd d g l) (m : Mod F' w wa) (hn : ∀ k, k < w.heap.size → X k → ¬ F' k) : LDk X wa bd d g l := by
  obtain ⟨T, U, dv, ew, vs, h1, h2, h3, h4, h5⟩ := H
  exact ⟨T, U, dv, ew, vs, h1.mod m (fun k hk ht => hn k hk (h4 k ht).1), h2.mod m (fun k hk ht => hn k hk (h5 k ht).1), h3, fun k hk => ⟨(h4 k hk).1, Nat.lt_of_lt_of_le (h4 k hk).2 m.size⟩, fun k hk => ⟨(h5 k hk).1, Nat.lt_of_lt_of_le (h5 k hk).2 m.size⟩⟩
theorem Li.beside (H : Li w0 w bd g r B N F l) : Ky (fun _ => False) w0 w bd g r B N F l := by
  obtain ⟨L, ⟨h1, h0⟩, h2, h3, h4⟩ := H
  exact ⟨L, h1.mono (fun k _ h => ⟨h.1, fun h => h⟩), h0, h2, h3, h4⟩
theorem Ky.xt (H : Ky Y w0 w bd g r B N F l) : Ext w0 w := by
  obtain ⟨L, h1, h0, _⟩ := H
  exact h0
theorem Ky.ext (H : Ky Y w0 w bd g r B N F l) (hx : Ext w wa) : Ky Y w0 wa bd g r B N F l := by
  obtain ⟨L, h1, h0, h2⟩ := H
  exact ⟨L, h1.ext hx, ext_trans h0 hx, h2⟩
theorem Ky.turn (H : Ky Y w0 w bd g r B N F l) (m : Mod Y w wa) (hY : ∀ k, Y' k → k < w.heap.size → Y k) (hY0 : ∀ k, Y k → w0.heap.size ≤ k) : Ky Y' w0 wa bd g r B N F l := by
  obtain ⟨L, h1, h0, h2⟩ := H
  have h1' : LDk (fun k => w0.heap.size ≤ k ∧ ¬ Y' k) w bd ⟨r, L, false, 0⟩ g l := h1.mono fun k hk h => ⟨h.1, fun h' => h.2 (hY k h' hk)⟩
  have h9 : LDk (fun k => (w0.heap.size ≤ k ∧ ¬ Y' k) ∧ ¬ Y k) w bd ⟨r, L, false, 0⟩ g l := h1.mono fun k hk h => ⟨⟨h.1, fun h' => h.2 (hY k h' hk)⟩, h.2⟩
  exact ⟨L, (h9.mod m (fun k _ h => h.2)).mono (fun k _ h => h.1), h0.trans m (fun _ _ h => h) (fun k hk h => by have := hY0 k h; omega), h2⟩
theorem ky_append (H : Ky Y w0 w bd g r B N F l) (hN : Nib w0) (hY : ∀ k, Y k → k < w.heap.size) (hy : Bs w V y b) (hV : ∀ k, V k → k < w0.heap.size) (hb : b.length ≤ 65536) (hn : lastL5 l + 1 ≤ 1099511627776) (hes : l.es.length + 1 ≤ 100000) (hp : l.p.length ≤ 20) (hr : B + (32 + b.length) ≤ r) (hN2 : N < 4096) :
    Calls Tryd.prog 35 #[pv g, y] w fun e w' => e = .returned (.tuple #[.int .i64 ((lastL5 l + 1 : Nat) : Int), .int .i64 0]) ∧ Ky Y w0 w' bd g r (B + (32 + b.length)) (N + 1) (layF F l b) (lappL l b) ∧ Mod (fun k => w0.heap.size ≤ k ∧ ¬ Y k) w w' := by
  obtain ⟨L, ⟨T, U, dv, ew, vs, h1, h2, h3, h4, h5⟩, h0, q2, q3, q4⟩ := H
  have hz := h0.size
  have hlen := numB_len (lastL5 l + 1) b (by omega) (by omega)
  obtain ⟨L', k1, k2⟩ := q2.lay (r := r) (p := l.p) (n := lastL5 l + 1) (b := b) hp (by rw [frec_len]; omega) hN2
  refine (lapp_ok (X := fun k => w0.heap.size ≤ k ∧ ¬ Y k) h1 h2 h3 h4 h5 q4 hy (fun k hk => ⟨by have := hV k hk; omega, fun h => by have := hV k hk; omega⟩) hb hn hes k1 (hN.ext h0)).mono fun e w' ⟨m1, m2, m3⟩ => ⟨m1, ⟨L', ?_, ?_, k2.mono (by rw [frec_len]; omega) (Nat.le_refl _), q3.lays (b := b) (by omega), q4⟩, m3⟩
  · refine m2.mono fun k hk h => ?_
    rcases h with h | h
    · exact h
    · exact ⟨by omega, fun h' => by have := hY k h'; omega⟩
  · exact h0.trans m3 (fun _ _ h => h) (fun k hk h => by have := h.1; omega)
theorem Ky.disk (H : Ky Y w0 w bd g r B N F l) : ∃ L, Held (fun k => w0.heap.size ≤ k ∧ ¬ Y k) w w w (pv bd) ⟨r, L, false, 0⟩ ∧ HasL F B N L := by
  obtain ⟨L, ⟨T, U, dv, ew, vs, h1, h2, h3, h4, h5⟩, h0, q2, q3, q4⟩ := H
  exact ⟨L, ⟨T, h1, fun k hk => .inl (h4 k hk), Mod.refl _ _, Nat.le_refl _, Nat.le_refl _⟩, q2⟩
theorem Ky.li (H : Ky Y w0 w bd g r B N F l) : Li w0 w bd g r B N F l := by
  obtain ⟨L, h1, h0, h2⟩ := H
  obtain ⟨T, U, dv, ew, vs, h1, h3, h4, h5, h6⟩ := h1
  exact ⟨L, ⟨⟨T, U, dv, ew, vs, h1, h3, h4, fun k hk => ⟨⟨(h5 k hk).1.1, (h5 k hk).2⟩, (h5 k hk).2⟩, fun k hk => ⟨⟨(h6 k hk).1.1, (h6 k hk).2⟩, (h6 k hk).2⟩⟩, h0⟩, h2⟩
theorem Held.toHold {w1 wj : World} {v : Value} (H : Held X w w1 wj v d) (h0 : Ext w0 w) (hX : ∀ k, X k → w0.heap.size ≤ k) : Hold w0 wj v d := by
  obtain ⟨T, h1, h2, h3, h4, h5⟩ := H
  have hz := h0.size
  refine ⟨T, h1, fun k hk => ?_, h0.trans h3 (fun _ _ h => h) (fun k hk h => by have := hX k h; omega), Nat.le_refl _, by omega⟩
  rcases h2 k hk with h | h
  · exact .inr ⟨hX k h.1, by omega⟩
  · exact .inr ⟨by omega, h.2⟩
end
/-- Records numbered from m on, the first n of them. -/
theorem numd_take : ∀ (m : Nat) (ps : Tx) (n : Nat), (numd m ps).take n = numd m (ps.take n)
  | _, _, 0 => by simp [numd]
  | _, [], n + 1 => by simp [numd]
  | m, p :: ps, n + 1 => by simp only [numd, List.take_succ_cons]; rw [numd_take]
theorem logB_take (m : Nat) (P : Tx) (n : Nat) : (logB m P).take (logB m (P.take n)).length = logB m (P.take n) := by
  unfold logB
  rw [← numd_take]
  have e : frecs (numd m P) = frecs ((numd m P).take n) ++ frecs ((numd m P).drop n) := by unfold frecs; rw [← List.flatMap_append, List.take_append_drop]
  rw [e]
  simp
section
variable {r B N k n : Nat} {F : Fn} {L : Fis} {p : List UInt8} {P : Tx}
theorem On.logOf (h : On F p 0 [] P) (hP : P ≠ []) : F (logN p) = some (logB 1 P) := by
  have := h.2.2.1
  rw [if_neg hP] at this
  exact this
theorem torn_cut (h : On F p 0 [] P) (hL : HasL F B N L) (hP : P ≠ []) (hp : p.length ≤ 20) (hk : k ≤ (logB 1 P).length) :
    ∃ L1, truncD ⟨r, L, false, 0⟩ (logN p) k = (⟨r, L1, false, 0⟩, 0) ∧ HasL (updF F (logN p) (some ((logB 1 P).take k))) B (N + 1) L1 := by
  have hgl : getF L (logN p) = some ⟨logN p, logB 1 P, (logB 1 P).length⟩ := by rw [hL.get, h.logOf hP]; rfl
  refine ⟨putF L ⟨logN p, (logB 1 P).take k, ((logB 1 P).take k).length⟩, ?_, hL.put (by rw [oldB, h.logOf hP]; simp only [Option.getD_some, List.length_take]; omega)⟩
  rw [truncD, onF_some _ (beg_ok (fun h => by cases h) (bad_one (by simp [logN]) (by simp [logN]; omega))) hgl]
  simp only
  rw [if_neg (by omega)]
  simp [doneD, cutF, Nat.min_comm]
theorem torn_opens (h : On F p 0 [] P) (hL : HasL (updF F (logN p) (some ((logB 1 P).take k))) B N L) (hp : p.length ≤ 20) (hB : B ≤ 1000000) (hk : k ≤ (logB 1 P).length) (hn : n ≤ P.length) (h1 : (logB 1 (P.take n)).length ≤ k) (h2 : n < P.length → k < (logB 1 (P.take (n + 1))).length) (hPl : P.length ≤ 1000) (hP9 : ∀ p ∈ P, p.length ≤ 900000) :
    ∃ L' F', OpensD ⟨r, L, false, 0⟩ p ⟨r, L', false, 0⟩ 0 [] (P.take n) ∧ HasL F' B (N + 1) L' ∧ On F' p 0 [] (P.take n) := by
  have hsc : scan ((logB 1 P).take k) = (numd 1 (P.take n), (logB 1 (P.take n)).length) := by
    have := scan_cut (numd 1 P) k n (by rw [numd_len]; exact hn) (numd_small 1 P (by omega) hP9) (by rw [numd_take]; exact h1) (by rw [numd_len, numd_take]; exact h2) hk
    rw [numd_take] at this
    exact this
  have hi : ImgF (F (imgN p)) 0 [] := h.2.1
  have hlt : (P.take n).length ≤ 1000 := by rw [List.length_take]; omega
  have hg : LogF (updF F (logN p) (some ((logB 1 P).take k)) (logN p)) 0 (P.take n) (if P.take n = [] then none else some (logB 1 (P.take n))) := by
    rw [updF_same]
    refine .inr ⟨1, P.take n, (logB 1 P).take k, (logB 1 (P.take n)).length, rfl, hsc, by rw [List.length_take]; omega, Nat.le_refl _, by omega, by omega, by omega, fun p hp => hP9 p (List.mem_of_mem_take hp), by simp, ?_⟩
    rw [List.take_take, Nat.min_eq_left h1, logB_take]
  have hi' : ImgF (updF F (logN p) (some ((logB 1 P).take k)) (imgN p)) 0 [] := by rw [updF_other (img_ne_log p)]; exact hi
  obtain ⟨L', q1, q2⟩ := (hL.anyx (imgN p ++ [126])).opens (r := r) hp hB hi' hg
  refine ⟨L', _, q1, q2, ?_, ?_, ?_, fun e he => hP9 e (List.mem_of_mem_take he)⟩
  · unfold openF
    rw [updF_other (aside_ne_log p).symm]
    simp [updF]
  · unfold openF
    rw [updF_other (img_ne_log p), updF_other (aside_ne_img p)]
    exact hi'
  · unfold openF
    simp [updF]
end
end Go.Proofs.YtnmfkfjeihjkeaaDoor

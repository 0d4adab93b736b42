/- ledger: an image written while a fuse burns, without a walk; Fuse under a Ledger. -/
import Derived.Test.YtnmfkfjeihjkeaaDoorKlU
namespace Go.Proofs.YtnmfkfjeihjkeaaDoor
open Go.RowKit Go.Maps Go.WideMaps
set_option maxRecDepth 100000

section
variable {F : Fn} {B N r n l : Nat} {L : Fis} {b p dt : List UInt8} {es : Tx} {o : Option (List UInt8)}
theorem opens_on (h : HasX (imgN p ++ [126]) F B N L) (h2 : p.length ≤ 20) (hB : B ≤ 1000000) (hi : ImgF (F (imgN p)) n dt) (hg : LogF (F (logN p)) n es o) (ho : o = if es = [] then none else some (logB (n + 1) es)) (hes : ∀ e ∈ es, e.length ≤ 900000) :
    ∃ L', OpensD ⟨r, L, false, 0⟩ p ⟨r, L', false, 0⟩ n dt es ∧ HasL (openF F p o) B (N + 1) L' ∧ On (openF F p o) p n dt es := by
  obtain ⟨L', q1, q2⟩ := h.opens (r := r) h2 hB hi hg
  refine ⟨L', q1, q2, ?_, ?_, ?_, hes⟩
  · unfold openF
    rw [updF_other (aside_ne_log p).symm]
    simp [updF]
  · unfold openF
    rw [updF_other (img_ne_log p), updF_other (aside_ne_img p)]
    exact hi
  · unfold openF
    rw [← ho]
    simp [updF]
theorem jump_pure (h : HasL F B N L) (hOn : On F p 0 [] es) (h2 : p.length ≤ 20) (hn : n ≤ 2000) (hes : es.length ≤ n) (hb : b.length ≤ 1000) (hr : B + (32 + b.length) ≤ r) (hB : B + (32 + b.length) ≤ 1000000) (hN : N < 4000) (draw : Int) :
    ∃ L' left e, replD ⟨r, L, true, l⟩ p n b = (⟨r, L', true, left⟩, e) ∧ ∃ L2 L3 F3 l', crashD draw ⟨r, L', true, left⟩ = ⟨r, L2, false, 0⟩ ∧ OpensD ⟨r, L2, false, 0⟩ p ⟨r, L3, false, 0⟩ l'.base l'.data l'.es ∧ HasL F3 (B + (32 + b.length)) (N + 2) L3 ∧ On F3 p l'.base l'.data l'.es ∧
      l' = ⟨p, l'.base, l'.data, l'.es, false⟩ ∧ l'.es.length ≤ 2000 ∧ ((e = 0 ∧ lastL5 l' = n) ∨ (e = 9 ∧ (lastL5 l' = n ∨ lastL5 l' = es.length))) := by
  obtain ⟨L', left, e, e1, hc⟩ := h.replF (r := r) (l := l) (p := p) (n := n) (b := b) h2 hOn.1 (by omega) (by omega) hr (by omega)
  refine ⟨L', left, e, e1, ?_⟩
  rcases hc with ⟨rfl, H⟩ | ⟨rfl, H⟩ | ⟨rfl, H⟩
  · have hi : ImgF (wroteF F p n b (imgN p)) n b := .inr ⟨by unfold wroteF; rw [updF_other (img_ne_log p), updF_same], by omega, by omega⟩
    have hg : LogF (wroteF F p n b (logN p)) n [] none := .inl ⟨by unfold wroteF; simp [updF], rfl, rfl⟩
    obtain ⟨L3, q1, q2, q3⟩ := opens_on (r := r) (H.anyx _) h2 hB hi hg (by simp) (fun e he => by cases he)
    exact ⟨L', L3, _, ⟨p, n, b, [], false⟩, H.crash draw, q1, q2, q3, rfl, by simp, .inl ⟨rfl, by simp [lastL5]⟩⟩
  · have hi : ImgF (updF F (imgN p) (some (frec (numB n b))) (imgN p)) n b := .inr ⟨by rw [updF_same], by omega, by omega⟩
    have hg : LogF (updF F (imgN p) (some (frec (numB n b))) (logN p)) n [] none := by
      rw [updF_other (img_ne_log p).symm, hOn.2.2.1]
      by_cases he : es = []
      · rw [if_pos he]; exact .inl ⟨rfl, rfl, rfl⟩
      · rw [if_neg he]
        have := LogF.whole (n := n) (m := 1) (ps := es) (by omega) (by omega) (by omega) (by omega) hOn.2.2.2
        rw [show n + 1 - 1 = n by omega, List.drop_of_length_le hes, if_pos rfl] at this
        exact this
    obtain ⟨L3, q1, q2, q3⟩ := opens_on (r := r) (H.anyx _) h2 hB hi hg (by simp) (fun e he => by cases he)
    exact ⟨L', L3, _, ⟨p, n, b, [], false⟩, H.crash draw, q1, q2, q3, rfl, by simp, .inr ⟨rfl, .inl (by simp [lastL5])⟩⟩
  · obtain ⟨L2, c1, c2⟩ := H.crash (r := r) (fu := true) (l := left) draw
    obtain ⟨L3, q1, q2, q3⟩ := opens_on (r := r) c2 h2 hB hOn.2.1 (hOn.log (by omega) (by omega)) hOn.2.2.1 hOn.2.2.2
    exact ⟨L2, L3, _, ⟨p, 0, [], es, false⟩, c1, q1, q2, q3, rfl, by show es.length ≤ 2000; omega, .inr ⟨rfl, .inr (by simp [lastL5])⟩⟩
end
section
variable {w0 w wa : World} {v : Value} {g bd n : Nat} {l : Lst} {d : Ds} {T : Nat → Prop}
theorem dk_fuse (h : Dk T w v d) (n : Nat) (hn : n ≤ 1000) :
    Calls Tryd.prog 24 #[v, .int .i64 (n : Int)] w fun e w' => e = .returned (.tuple #[]) ∧ Dk (Grow T w) w' v { d with fu := true, left := n } ∧ Mod T w w' := by
  obtain ⟨bd, bm, D, G, rfl, h⟩ := h
  refine (fuse_any h n (by omega)).mono fun e w' ⟨h1, h2, h3⟩ => ⟨h1, ⟨bd, bm, D, G, rfl, ?_⟩, h3.mono fun k _ hk => hk ▸ h.sd⟩
  have e2 : fuseD d (n : Int) = { d with fu := true, left := n } := by
    unfold fuseD
    rw [dtrue (show (0 : Int) ≤ (n : Int) by omega)]
    simp
  rw [← e2]
  exact h2.mono fun k _ hk => .inl hk
theorem lh_fuse (H : Lh w0 w bd d g l) (n : Nat) (hn : n ≤ 1000) :
    Calls Tryd.prog 24 #[pv bd, .int .i64 (n : Int)] w fun e w' => e = .returned (.tuple #[]) ∧ Lh w0 w' bd { d with fu := true, left := n } g l := by
  obtain ⟨h1, h0⟩ := H
  have hz := h0.size
  refine (ldk_call (X := fun k => w0.heap.size ≤ k) (h1.mono fun k _ h => h.1) (fun k hk => by omega) (Mod.refl _ _) fun T _ hdk => dk_fuse hdk n hn).mono fun e w' ⟨q1, q2, q3⟩ => ⟨q1, Lh.of (m := q3) h0 q2 (fun _ h => h) (fun _ h => h)⟩
end
end Go.Proofs.YtnmfkfjeihjkeaaDoor

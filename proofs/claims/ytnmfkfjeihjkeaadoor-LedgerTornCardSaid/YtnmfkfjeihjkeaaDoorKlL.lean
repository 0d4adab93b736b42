/- ledger: Open. -/
import Derived.Test.YtnmfkfjeihjkeaaDoorKlK
namespace Go.Proofs.YtnmfkfjeihjkeaaDoor
open Go.RowKit Go.Maps Go.WideMaps
set_option maxRecDepth 100000

section
variable {T U V X : Nat → Prop} {w w' wa : World} {g bd n : Nat} {dv ew y : Value} {vs : List Value} {l : Lst} {d d1 d' : Ds} {b dt p : List UInt8} {es : Tx}
def ImgD (d : Ds) (t : List UInt8) (n : Nat) (dt : List UInt8) : Prop := (loadD d t = ([], 7) ∧ n = 0 ∧ dt = []) ∨ ∃ b, loadD d t = (b, 0) ∧ b.length ≤ 1000000 ∧ Img b n dt
theorem rimg_any (h : Dk T w (pv bd) d) (hl : LgAt U w g bd dv ew vs l) (hU : ∀ k, U k → X k ∧ k < w.heap.size) (hN : Nib w) (hl0 : l.base = 0) (hd0 : l.data = []) (hi : ImgD d (imgN l.p) n dt) :
    Calls Tryd.prog 67 #[pv g] w fun e w' => e = .returned (.int .i64 0) ∧ (∃ U3 u, LgAt U3 w' g bd u ew vs ⟨l.p, n, dt, l.es, l.dead⟩ ∧ ∀ k, U3 k → U k ∨ (w.heap.size ≤ k ∧ k < w'.heap.size)) ∧ Mod (fun k => k = g) w w' := by
  rcases hi with ⟨h1, rfl, rfl⟩ | ⟨b, h1, h2, h3⟩
  · refine (rimg_none h hl hN h1).mono fun e w' ⟨q1, q2⟩ => ⟨q1, ⟨U, dv, ?_, fun k hk => .inl hk⟩, q2.mono fun _ _ h => h.elim⟩
    have := hl.ext q2
    obtain ⟨p, b, dt, es, dead⟩ := l
    simp only at hl0 hd0
    subst hl0
    subst hd0
    exact this
  · exact (rimg_some h hl hU hN h1 h2 h3).mono fun e w' ⟨q1, ⟨u, q2⟩, q3⟩ => ⟨q1, ⟨_, u, q2, fun k hk => hk⟩, q3⟩
def LogD (d : Ds) (t : List UInt8) (base : Nat) (es : Tx) (d' : Ds) : Prop :=
  (readD d t = none ∧ es = [] ∧ d' = d) ∨ ∃ b m good ps d2, readD d t = some b ∧ b.length ≤ 1000000 ∧ scan b = (numd m ps, good) ∧ 1 ≤ m ∧ m ≤ base + 1 ∧ m + ps.length ≤ 1099511627776 ∧ ps.length ≤ 100000 ∧ (∀ p ∈ ps, p.length ≤ 900000) ∧ es = ps.drop (base + 1 - m) ∧
    ((good = b.length ∧ d2 = d) ∨ (good < b.length ∧ ∃ d1, truncD d t good = (d1, 0) ∧ eachD syncD d1 [t] = (d2, 0))) ∧ ((es ≠ [] ∧ d' = d2) ∨ (es = [] ∧ eachD removeD d2 [t] = (d', 0)))
theorem rlog_any (h : Dk T w (pv bd) d) (hl : LgAt U w g bd dv ew vs l) (sep : ∀ k, T k → ¬ U k) (hT : ∀ k, T k → X k ∧ k < w.heap.size) (hU : ∀ k, U k → X k ∧ k < w.heap.size) (hup : ∀ k, w.heap.size ≤ k → X k) (hN : Nib w) (he : l.es = []) (hlog : LogD d (logN l.p) l.base es d') :
    Calls Tryd.prog 68 #[pv g] w fun e w' => e = .returned (.int .i64 0) ∧ LDk X w' bd d' g { l with es := es } ∧ Mod X w w' := by
  rcases hlog with ⟨h1, rfl, rfl⟩ | ⟨b, m, good, ps, d2, h1, h2, h3, h4, h5, h6, h7, h8, rfl, h9, h10⟩
  · refine (rlog_none h hl h1).mono fun e w' ⟨q1, q2⟩ => ⟨q1, ⟨T, U, dv, ew, vs, h.ext q2, ?_, sep, fun k hk => ⟨(hT k hk).1, Nat.lt_of_lt_of_le (hT k hk).2 q2.size⟩, fun k hk => ⟨(hU k hk).1, Nat.lt_of_lt_of_le (hU k hk).2 q2.size⟩⟩, q2.mono fun _ _ h => h.elim⟩
    have := hl.ext q2
    obtain ⟨p, b, dt, es, dead⟩ := l
    simp only at he
    subst he
    exact this
  · exact rlog_some h hl sep hT hU hup hN h1 h2 h3 h4 h5 h6 h7 h8 h9 h10
/-- What stands under a ledger's names is one. -/
def OpensD (d : Ds) (p : List UInt8) (d' : Ds) (n : Nat) (dt : List UInt8) (es : Tx) : Prop := ∃ d1, rmT d (imgN p ++ [126]) = (d1, 0) ∧ ImgD d1 (imgN p) n dt ∧ LogD d1 (logN p) n es d'
set_option maxHeartbeats 8000000 in
theorem lopen_any (h : Dk T w (pv bd) d) (hT : ∀ k, T k → X k ∧ k < w.heap.size) (hup : ∀ k, w.heap.size ≤ k → X k) (hN : Nib w) (hnX : ¬ X 0) (hp1 : 1 ≤ p.length) (hp : p.length ≤ 20) (ho : OpensD d p d' n dt es) :
    Calls Tryd.prog 34 #[pv bd, sv p] w fun e w' => ∃ g, e = .returned (.tuple #[pv g, ev 0]) ∧ w.heap.size ≤ g ∧ LDk X w' bd d' g ⟨p, n, dt, es, false⟩ ∧ Mod X w w' := by
  obtain ⟨d1, h1, h2, h3⟩ := ho
  have hsz := sv_size p
  have hb1 : decide ((p.length : Int) < 1) = false := dfalse (by omega)
  have hb2 : decide ((20 : Int) < (p.length : Int)) = false := dfalse (by omega)
  have hcat : ((⟨(imgN p).toArray⟩ : ByteArray) ++ ⟨#[126]⟩) = ⟨(imgN p ++ [126]).toArray⟩ := cat_data (imgN p) [126]
  have hil : (imgN p).length = p.length + 4 := by simp [imgN]
  have hno : ¬ 9223372036854775807 < (imgN p).length + 1 := by omega
  obtain ⟨wa, hwa⟩ : ∃ wa, wa = w.alloc (.cells #[pv bd, sv p, .int .i64 0, .slice none 0 0, .slice none 0 0, .bool false] 103) := ⟨_, rfl⟩
  have xa : Ext w wa := by rw [hwa]; exact (Mod.refl _ _).alloc _
  have hza : wa.heap.size = w.heap.size + 1 := by rw [hwa]; simp
  have hblk : Blk wa w.heap.size 103 (lcells bd ⟨p, 0, [], [], false⟩ (.slice none 0 0) (.slice none 0 0)) := by rw [hwa]; exact Blk.new _ _ _
  have hla : LgAt (fun k => k = w.heap.size) wa w.heap.size bd (.slice none 0 0) (.slice none 0 0) [] ⟨p, 0, [], [], false⟩ :=
    ⟨rfl, hblk, (Own.nil wa 5).sl.mono (fun k _ hk => by cases hk), Own.nil _ _, (fun k hk => by cases hk), rfl, (fun k x e hx => by simp at hx), (fun e he => by cases he), hp, by simp, by simp, by simp⟩
  have himg := img_any hblk (l := ⟨p, 0, [], [], false⟩) hp
  have hrm := lremove_any (h.ext xa) (imgN p ++ [126]) (by simp; omega)
  rw [h1] at hrm
  have hg0 : ∀ k, T k → k ≠ w.heap.size := fun k hk => by have := (hT k hk).2; omega
  have hNa := hN.ext xa
  clear h h1
  go_enter Tryd.func34, Tryd.ntmps34
  go_wp2_with fail
  rw [← hwa]
  clear hwa
  refine himg.mono ?_
  rintro e wx ⟨rfl, rfl⟩
  clear himg
  go_wp2_with fail
  refine hrm.mono ?_
  rintro e w2 ⟨rfl, k2, m2⟩
  have hz2 := m2.size
  have l2 := hla.mod m2 (fun k _ hu ht => hg0 k ht hu)
  have k2 := k2.cut
  have hT2 : ∀ k, (Grow T wx k ∧ k < w2.heap.size) → X k ∧ k < w2.heap.size := fun k hk => ⟨hk.1.elim (fun h => (hT k h).1) (fun h => hup k (by omega)), hk.2⟩
  have hN2 := hNa.mod m2 (fun h => hnX (hT _ h).1)
  have hri := rimg_any (X := X) k2 l2 (fun k hk => ⟨hup k (by omega), by omega⟩) hN2 rfl rfl h2
  have m2' : Mod X w w2 := xa.trans m2 (fun _ _ h => h.elim) (fun k _ h => (hT k h).1)
  clear hrm hla hblk
  go_wp2_with fail
  refine hri.mono ?_
  rintro e w3 ⟨rfl, ⟨U3, u3, l3, hU3⟩, m3⟩
  have hz3 := m3.size
  have m3' : Mod X w w3 := m2'.then_ m3 (fun k _ h => hup k (by omega))
  have k3 := k2.mod m3 (fun k _ hk e => by rcases hk.1 with h | h
                                           · exact hg0 k h e
                                           · omega)
  have hrl := rlog_any (X := X) k3 l3 (fun k hk hu => by
      have h3 := hk.2
      rcases hU3 k hu with e | e
      · rcases hk.1 with h | h
        · exact hg0 k h e
        · have : k = w.heap.size := e
          omega
      · omega) (fun k hk => ⟨(hT2 k hk).1, by have := hk.2; omega⟩) (fun k hu => by
      rcases hU3 k hu with e | e
      · exact ⟨hup k (by have : k = w.heap.size := e; omega), by have : k = w.heap.size := e; omega⟩
      · exact ⟨hup k (by omega), e.2⟩) (fun k hk => hup k (by omega)) (hN2.mod m3 (fun h => hnX (hup _ (by omega)))) rfl h3
  clear hri k2 k3 l2 l3 m2 m3
  go_wp2_with fail
  refine hrl.mono ?_
  rintro e w4 ⟨rfl, H4, m4⟩
  clear hrl
  have m4' : Mod X w w4 := m3'.then_ m4 (fun _ _ h => h)
  go_wp2_with fail
  go_ret2
  exact ⟨_, rfl, Nat.le_refl _, H4, m4'⟩
end
end Go.Proofs.YtnmfkfjeihjkeaaDoor

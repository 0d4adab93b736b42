/- schema: known; the law Checks. -/
import Derived.Test.YtdfjldlfimbimaaScO
namespace Go.Proofs.Ytdfjldlfimbimaa
open Go.RowKit
set_option maxRecDepth 100000

theorem Rc.lit {α : Type} {f : α → List Value} {k : Nat} (w : World) (e : TypeId) (L : List α) (hk : (L.flatMap f).length = L.length * k) (hm : (L.flatMap f).length ≤ maxLen) (hn : L.length ≤ maxLen) : Rc f k (w.alloc (.cells (L.flatMap f).toArray e)) AllE (.slice (some ⟨w.heap.size, 0, none⟩) L.length L.length) L := by
  obtain ⟨A, c, hv, _, _, _, hc⟩ := Sl.lit w e (L.flatMap f) hm
  injection hv with hv _ _
  rw [← hv] at hc
  exact ⟨_, _, rfl, Nat.le_refl _, hn, by simp, hk, fun j u hu => by obtain ⟨ad, h1, _, h3⟩ := hc j u hu; exact ⟨ad, h1, trivial, h3⟩⟩
/-- The entry that known builds. -/
def kE : Ent := ⟨[([111], [120])], [⟨[111, 98, 106, 101, 99, 116, 99, 108, 97, 115, 115], [[111, 114, 103, 97, 110, 105, 122, 97, 116, 105, 111, 110]]⟩, ⟨[111], [[120]]⟩]⟩
theorem kE_chk : chkE kE = 0 := by decide
theorem kE_mem (w : World) : As ((((w.alloc (.cells #[.string ⟨#[111]⟩, .string ⟨#[120]⟩] 54)).alloc (.cells #[.string ⟨#[111, 114, 103, 97, 110, 105, 122, 97, 116, 105, 111, 110]⟩] 9)).alloc (.cells #[.string ⟨#[120]⟩] 9)).alloc (.cells #[.string ⟨#[111, 98, 106, 101, 99, 116, 99, 108, 97, 115, 115]⟩, .slice (some ⟨w.heap.size + 1, 0, none⟩) 1 1, .string ⟨#[111]⟩, .slice (some ⟨w.heap.size + 1 + 1, 0, none⟩) 1 1] 43)) AllE (.slice (some ⟨w.heap.size, 0, none⟩) 1 1) kE.dn ∧
    Ats ((((w.alloc (.cells #[.string ⟨#[111]⟩, .string ⟨#[120]⟩] 54)).alloc (.cells #[.string ⟨#[111, 114, 103, 97, 110, 105, 122, 97, 116, 105, 111, 110]⟩] 9)).alloc (.cells #[.string ⟨#[120]⟩] 9)).alloc (.cells #[.string ⟨#[111, 98, 106, 101, 99, 116, 99, 108, 97, 115, 115]⟩, .slice (some ⟨w.heap.size + 1, 0, none⟩) 1 1, .string ⟨#[111]⟩, .slice (some ⟨w.heap.size + 1 + 1, 0, none⟩) 1 1] 43)) (.slice (some ⟨w.heap.size + 1 + 1 + 1, 0, none⟩) 2 2) kE.ats ∧
    Ext w ((((w.alloc (.cells #[.string ⟨#[111]⟩, .string ⟨#[120]⟩] 54)).alloc (.cells #[.string ⟨#[111, 114, 103, 97, 110, 105, 122, 97, 116, 105, 111, 110]⟩] 9)).alloc (.cells #[.string ⟨#[120]⟩] 9)).alloc (.cells #[.string ⟨#[111, 98, 106, 101, 99, 116, 99, 108, 97, 115, 115]⟩, .slice (some ⟨w.heap.size + 1, 0, none⟩) 1 1, .string ⟨#[111]⟩, .slice (some ⟨w.heap.size + 1 + 1, 0, none⟩) 1 1] 43)) := by
  obtain ⟨w1, hw1⟩ : ∃ x, x = w.alloc (.cells #[.string ⟨#[111]⟩, .string ⟨#[120]⟩] 54) := ⟨_, rfl⟩
  obtain ⟨w2, hw2⟩ : ∃ x, x = w1.alloc (.cells #[.string ⟨#[111, 114, 103, 97, 110, 105, 122, 97, 116, 105, 111, 110]⟩] 9) := ⟨_, rfl⟩
  obtain ⟨w3, hw3⟩ : ∃ x, x = w2.alloc (.cells #[.string ⟨#[120]⟩] 9) := ⟨_, rfl⟩
  obtain ⟨w4, hw4⟩ : ∃ x, x = w3.alloc (.cells #[.string ⟨#[111, 98, 106, 101, 99, 116, 99, 108, 97, 115, 115]⟩, .slice (some ⟨w.heap.size + 1, 0, none⟩) 1 1, .string ⟨#[111]⟩, .slice (some ⟨w.heap.size + 1 + 1, 0, none⟩) 1 1] 43) := ⟨_, rfl⟩
  have s1 : w1.heap.size = w.heap.size + 1 := by rw [hw1]; simp
  have s2 : w2.heap.size = w.heap.size + 1 + 1 := by rw [hw2, ← s1]; simp
  have s3 : w3.heap.size = w.heap.size + 1 + 1 + 1 := by rw [hw3, ← s2]; simp
  have x1 : Ext w w1 := by rw [hw1]; exact (Mod.refl _ w).alloc _
  have x2 : Ext w1 w2 := by rw [hw2]; exact (Mod.refl _ w1).alloc _
  have x3 : Ext w2 w3 := by rw [hw3]; exact (Mod.refl _ w2).alloc _
  have x4 : Ext w3 w4 := by rw [hw4]; exact (Mod.refl _ w3).alloc _
  have a1 : As w1 AllE (.slice (some ⟨w.heap.size, 0, none⟩) 1 1) kE.dn := by rw [hw1]; exact Rc.lit (f := avc) w 54 [([111], [120])] rfl (by decide) (by decide)
  have t2 : Ts w2 AllE (.slice (some ⟨w.heap.size + 1, 0, none⟩) 1 1) [[111, 114, 103, 97, 110, 105, 122, 97, 116, 105, 111, 110]] := by rw [hw2, ← s1]; exact (Sl.lit w1 9 [sv [111, 114, 103, 97, 110, 105, 122, 97, 116, 105, 111, 110]] (by decide)).mono (fun _ _ _ => trivial)
  have t3 : Ts w3 AllE (.slice (some ⟨w.heap.size + 1 + 1, 0, none⟩) 1 1) [[120]] := by rw [hw3, ← s2]; exact (Sl.lit w2 9 [sv [120]] (by decide)).mono (fun _ _ _ => trivial)
  have r4 : Rc atc 2 w4 AllE (.slice (some ⟨w.heap.size + 1 + 1 + 1, 0, none⟩) 2 2) [([111, 98, 106, 101, 99, 116, 99, 108, 97, 115, 115], .slice (some ⟨w.heap.size + 1, 0, none⟩) 1 1), ([111], .slice (some ⟨w.heap.size + 1 + 1, 0, none⟩) 1 1)] := by
    rw [hw4, ← s3]
    exact Rc.lit (f := atc) w3 43 [([111, 98, 106, 101, 99, 116, 99, 108, 97, 115, 115], .slice (some ⟨w.heap.size + 1, 0, none⟩) 1 1), ([111], .slice (some ⟨w.heap.size + 1 + 1, 0, none⟩) 1 1)] rfl (by simp [maxLen]) (by simp [maxLen])
  rw [← hw1, ← hw2, ← hw3, ← hw4]
  refine ⟨a1.ext (ext_trans x2 (ext_trans x3 x4)), ⟨_, r4, rfl, fun k r a hr ha => ?_⟩, ext_trans x1 (ext_trans x2 (ext_trans x3 x4))⟩
  match k, hr, ha with
  | 0, hr, ha =>
    obtain rfl := Option.some.inj hr
    obtain rfl := Option.some.inj ha
    exact ⟨rfl, t2.ext (ext_trans x3 x4)⟩
  | 1, hr, ha =>
    obtain rfl := Option.some.inj hr
    obtain rfl := Option.some.inj ha
    exact ⟨rfl, t3.ext x4⟩
set_option maxHeartbeats 16000000 in
theorem known14_any (w : World) : Calls Try.prog 10 #[] w fun e w' => e = .returned (.bool true) ∧ Ext w w' := by
  obtain ⟨h1, h2, h3⟩ := kE_mem w
  obtain ⟨w4, hw4⟩ : ∃ x, x = (((w.alloc (.cells #[.string ⟨#[111]⟩, .string ⟨#[120]⟩] 54)).alloc (.cells #[.string ⟨#[111, 114, 103, 97, 110, 105, 122, 97, 116, 105, 111, 110]⟩] 9)).alloc (.cells #[.string ⟨#[120]⟩] 9)).alloc (.cells #[.string ⟨#[111, 98, 106, 101, 99, 116, 99, 108, 97, 115, 115]⟩, .slice (some ⟨w.heap.size + 1, 0, none⟩) 1 1, .string ⟨#[111]⟩, .slice (some ⟨w.heap.size + 1 + 1, 0, none⟩) 1 1] 43) := ⟨_, rfl⟩
  rw [← hw4] at h1 h2 h3
  have x5 : Ext w4 (w4.alloc (.cells #[.slice (some ⟨w.heap.size, 0, none⟩) 1 1, .slice (some ⟨w.heap.size + 1 + 1 + 1, 0, none⟩) 2 2] 31)) := (Mod.refl _ w4).alloc _
  have hck := check_any (E := kE) (h1.ext x5) (h2.ext x5) (by decide)
  rw [kE_chk] at hck
  rw [hw4] at hck x5 h3
  replace h3 := Lib.hid h3
  replace x5 := Lib.hid x5
  clear h1 h2 hw4
  go_enter Try.func10, Try.ntmps10
  go_wp2_with fail
  refine hck.mono ?_
  rintro e w6 ⟨rfl, x6⟩
  go_wp2_with fail
  go_ret
  exact ⟨rfl, ext_trans h3.out (ext_trans x5.out x6)⟩
set_option maxHeartbeats 16000000 in
theorem lchecks_any {w : World} {vd va : Value} {E : Ent} (hd : As w AllE vd E.dn) (ha : Ats w va E.ats) (hw : wE E ≤ 2000000) :
    Calls Try.prog 4 #[.agg #[vd, va]] w fun e w' => e = .returned (.bool true) ∧ Ext w w' := by
  have hwa : wA E.ats ≤ 2000000 := by unfold wE at hw; omega
  have hgl := wA_ge E.ats
  have hax := fun {wx : World} (x : Ext w wx) => (ha.ext x).open_
  obtain ⟨A, c, hva, -⟩ := ha.open_
  obtain ⟨A0, c0, hvd⟩ := Rc.shape hd
  obtain ⟨m, hm⟩ : ∃ n, n = E.ats.length := ⟨_, rfl⟩
  obtain ⟨m0, hm0⟩ : ∃ n, n = E.dn.length := ⟨_, rfl⟩
  rw [← hm] at hva hgl
  rw [← hm0] at hvd
  subst hva
  subst hvd
  have hM : m ≤ 2000000 := by omega
  obtain ⟨w1, hw1⟩ : ∃ x, x = w.alloc (.cells #[.slice A0 m0 c0, .slice A m c] 31) := ⟨_, rfl⟩
  obtain ⟨p, hp⟩ : ∃ p, p = w.heap.size := ⟨_, rfl⟩
  have x1 : Ext w w1 := by rw [hw1]; exact (Mod.refl _ w).alloc _
  have BP : Blk w1 p 31 #[.slice A0 m0 c0, .slice A m c] := by rw [hw1, hp]; exact Blk.new w _ _
  have hpc : ∀ {wx : World}, Ext w1 wx → wx.cell? ⟨p, 1, none⟩ = some (.slice A m c) := fun x => (BP.mod x (fun h => h)).cell 1
  have hpd : ∀ {wx : World}, Ext w1 wx → wx.cell? ⟨p, 0, none⟩ = some (.slice A0 m0 c0) := fun x => (BP.mod x (fun h => h)).cell 0
  replace hm := Lib.hid hm
  replace hm0 := Lib.hid hm0
  replace hw1 := Lib.hid hw1
  replace hp := Lib.hid hp
  clear BP
  have hhv := fun {wx : World} (x : Ext w wx) => heavy14_any (E := E) (hd.ext x) (ha.ext x) hw
  have hkn := known14_any
  have hcell : ∀ {wx : World}, Ext w1 wx → wx.cell? ⟨p, 0, none⟩ = some (.slice A0 m0 c0) ∧ wx.cell? ⟨p, 1, none⟩ = some (.slice A m c) := fun x => ⟨hpd x, hpc x⟩
  obtain ⟨b0, b1⟩ := hcell (Mod.refl _ w1)
  go_enter Try.func4, Try.ntmps4
  go_upto_region 1 with fail
  rw [← hw1.out, ← hp.out]
  clear hw1 hp
  go_wp2_with fail
  refine (hhv x1).mono ?_
  rintro e w2 ⟨q, rfl, hsm, x2⟩
  cases q
  case true =>
    go_wp2_with fail
    go_ret
    exact ⟨rfl, ext_trans x1 x2⟩
  have hw3 : wE E ≤ 1000000 := by have := hsm (by simp); omega
  have hck := fun {wx : World} (x : Ext w wx) => check_any (E := E) (hd.ext x) (ha.ext x) hw3
  have hcr := fun {wx : World} (x : Ext w wx) => rcheck_any (E := E) (hd.ext x) (ha.ext x) hw3
  have r3 : Ext w1 w2.drew := x2.drew
  generalize chkE E = cc at *
  have hcc : (cc == cc) = true := by simp
  clear b0 b1 hhv
  go_upto_region 3 with fail
  refine wp_region_held_drew (S := fun wx => wx.cell? ⟨p, 0, none⟩ = some (.slice A0 m0 c0) ∧ wx.cell? ⟨p, 1, none⟩ = some (.slice A m c)) (by kernel_rfl) (hcell r3) (fun hH => ?_)
  (refine wpAnyH_take (i := 0) (oi := ⟨_, _, _, _, _, _⟩) (v := ?tv701) rfl (by kernel_rfl) (by kernel_rfl) (by kernel_rfl) (fun _ _ _ h => h) (Or.inl ⟨by kernel_rfl, ?hy701⟩) hH ?rs701; (case hy701 => (intro wx hSw; (try dsimp only at hSw); go_simp; try with_reducible rfl)); try simp only [Act.put, List.setIfInBounds_toArray, List.set_cons_zero, List.set_cons_succ]; try simp only [List.getElem_toArray, List.getElem_cons_succ, List.getElem_cons_zero])
  (refine wpAnyH_take (i := 2) (oi := ⟨_, _, _, _, _, _⟩) (v := ?tv702) rfl (by kernel_rfl) (by kernel_rfl) (by kernel_rfl) (fun _ _ _ h => h) (Or.inl ⟨by kernel_rfl, ?hy702⟩) hH ?rs702; (case hy702 => (intro wx hSw; (try dsimp only at hSw); go_simp; try with_reducible rfl)); try simp only [Act.put, List.setIfInBounds_toArray, List.set_cons_zero, List.set_cons_succ]; try simp only [List.getElem_toArray, List.getElem_cons_succ, List.getElem_cons_zero])
  (refine wpAnyH_ready (rs := [1]) (by kernel_rfl) (by simp) ?_; refine AllReadyH.cons rfl (fun K hK => ?_) AllReadyH.nil; go_simp)
  refine (hck (ext_trans x1 r3)).mono ?_
  rintro e wb ⟨rfl, xb⟩
  have q3 := ext_trans r3 xb
  (go_wp2_with fail; refine hK.out _ _ (hcell q3) (fun hH => ?_); clear hK K; try simp only [Act.put, List.setIfInBounds_toArray, List.set_cons_zero, List.set_cons_succ]; try simp only [List.getElem_toArray, List.getElem_cons_succ, List.getElem_cons_zero])
  (refine wpAnyH_ready (rs := [3]) (by kernel_rfl) (by simp) ?_; refine AllReadyH.cons rfl (fun K hK => ?_) AllReadyH.nil; go_simp)
  refine (hcr (ext_trans x1 q3)).mono ?_
  rintro e wd ⟨rfl, xd⟩
  have q4 := ext_trans q3 xd
  (go_wp2_with fail; refine hK.out _ _ (hcell q4) (fun hH => ?_); clear hK K; try simp only [Act.put, List.setIfInBounds_toArray, List.set_cons_zero, List.set_cons_succ]; try simp only [List.getElem_toArray, List.getElem_cons_succ, List.getElem_cons_zero])
  (refine wpAnyH_take (i := 4) (oi := ⟨_, _, _, _, _, _⟩) (v := ?tv703) rfl (by kernel_rfl) (by kernel_rfl) (by kernel_rfl) (fun _ _ _ h => h) (Or.inl ⟨by kernel_rfl, ?hy703⟩) hH ?rs703; (case hy703 => (intro wx hSw; (try dsimp only at hSw); go_simp; try with_reducible rfl)); try simp only [Act.put, List.setIfInBounds_toArray, List.set_cons_zero, List.set_cons_succ]; try simp only [List.getElem_toArray, List.getElem_cons_succ, List.getElem_cons_zero])
  (refine wpAnyH_take (i := 5) (oi := ⟨_, _, _, _, _, _⟩) (v := ?tv704) rfl (by kernel_rfl) (by kernel_rfl) (by kernel_rfl) (fun _ _ _ h => h) (Or.inl ⟨by kernel_rfl, ?hy704⟩) hH ?rs704; (case hy704 => (intro wx hSw; (try dsimp only at hSw); go_simp; try with_reducible rfl)); try simp only [Act.put, List.setIfInBounds_toArray, List.set_cons_zero, List.set_cons_succ]; try simp only [List.getElem_toArray, List.getElem_cons_succ, List.getElem_cons_zero])
  (refine wpAnyH_ready (rs := [6]) (by kernel_rfl) (by simp) ?_; refine AllReadyH.cons rfl (fun K hK => ?_) AllReadyH.nil; go_simp)
  refine (hkn _).mono ?_
  rintro e we ⟨rfl, xe⟩
  have q5 := ext_trans q4 xe
  (go_wp2_with fail; refine hK.out _ _ (hcell q5) (fun hH => ?_); clear hK K; try simp only [Act.put, List.setIfInBounds_toArray, List.set_cons_zero, List.set_cons_succ]; try simp only [List.getElem_toArray, List.getElem_cons_succ, List.getElem_cons_zero])
  (refine wpAnyH_take (i := 7) (oi := ⟨_, _, _, _, _, _⟩) (v := ?tv705) rfl (by kernel_rfl) (by kernel_rfl) (by kernel_rfl) (fun _ _ _ h => h) (Or.inl ⟨by kernel_rfl, ?hy705⟩) hH ?rs705; (case hy705 => (intro wx hSw; (try dsimp only at hSw); go_simp; try with_reducible rfl)); try simp only [Act.put, List.setIfInBounds_toArray, List.set_cons_zero, List.set_cons_succ]; try simp only [List.getElem_toArray, List.getElem_cons_succ, List.getElem_cons_zero])
  (refine wpAnyH_take (i := 8) (oi := ⟨_, _, _, _, _, _⟩) (v := ?tv706) rfl (by kernel_rfl) (by kernel_rfl) (by kernel_rfl) (fun _ _ _ h => h) (Or.inl ⟨by kernel_rfl, ?hy706⟩) hH ?rs706; (case hy706 => (intro wx hSw; (try dsimp only at hSw); go_simp; try with_reducible rfl)); try simp only [Act.put, List.setIfInBounds_toArray, List.set_cons_zero, List.set_cons_succ]; try simp only [List.getElem_toArray, List.getElem_cons_succ, List.getElem_cons_zero])
  refine wpAnyH_done (by kernel_rfl) ?_ _
  go_wp2_with fail
  go_ret
  exact ⟨rfl, ext_trans x1 q5⟩
end Go.Proofs.Ytdfjldlfimbimaa

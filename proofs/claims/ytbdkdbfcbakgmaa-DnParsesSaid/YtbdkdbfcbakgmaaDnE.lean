/- dn: Norm. -/
import Derived.Test.YtbdkdbfcbakgmaaDnD
import Derived.Test.YtbdkdbfcbakgmaaRecB
import Derived.Deep.RegionHeld3
namespace Go.Proofs.Ytbdkdbfcbakgmaa
open Go.RowKit
set_option maxRecDepth 100000

theorem tyA : SliceTyK Try.prog 22 37 (.agg #[.string ⟨#[]⟩, .string ⟨#[]⟩]) 2 32 := ⟨Try.underlying22, by kernel_rfl, rfl, by decide, by decide⟩
abbrev Av : Type := List UInt8 × List UInt8
abbrev OwnA (w : World) (v : Value) (L : List Av) : Prop := OwnR avc 2 w 37 v L
/-- No text is longer than memory. -/
def Fits (L : List Av) : Prop := (∀ a ∈ L, a.1.length ≤ 140737488351232 ∧ a.2.length ≤ 140737488351232) ∧ L.length * 32 ≤ 140737488351232
theorem Fits.at_ {L : List Av} (h : Fits L) {k : Nat} (hk : k < L.length) : L[k].1.length ≤ 140737488351232 ∧ L[k].2.length ≤ 140737488351232 := h.1 _ (List.getElem_mem _)
/-- A name, folded. -/
def norm (L : List Av) : List Av := L.map normA
theorem norm_snoc (L : List Av) {k : Nat} (h : k < L.length) : norm (L.take (k + 1)) = norm (L.take k) ++ [normA L[k]] := by
  unfold norm
  rw [List.take_succ_eq_append_getElem h, List.map_append]; rfl

set_option maxHeartbeats 2000000 in
theorem norm_any {w : World} {S : Nat → Prop} {v : Value} {L : List Av} (h : As w S v L) (hf : Fits L) :
    Calls Try.prog 29 #[v] w fun e w' => ∃ v', e = .returned v' ∧ OwnA w' v' (norm L) ∧ Fresh w.heap.size v' ∧ Ext w w' := by
  have hl := hf.2
  obtain ⟨A, c, rfl, h1, h2, h3, h4⟩ := h.open_ avc_len
  go_enter Try.func29, Try.ntmps29
  go_wp2_with ((with_reducible show wpList _ _ _ (⟨some 8, _, _, _, _, _⟩ :: _) _ _); refine wp_makeR0 tyA avc L.length rfl (.const _) (.tmp 7) rfl rfl rfl (by omega) ?_; intro w1 hown1 hext1 hlt1)
  go_loopw [3, 11] (fun vo i wr => ∃ k : Nat, k ≤ L.length ∧ i = .int .i64 k ∧ OwnA wr vo (norm (L.take k)) ∧ Fresh w.heap.size vo ∧ Ext w wr) (fun _ i _ => L.length - (intOf i).toNat)
  case atStart => exact ⟨0, Nat.zero_le _, rfl, hown1, fun k hk => by have : w.heap.size = k := Option.some.inj hk; omega, hext1⟩
  case round =>
    obtain ⟨k, hk, rfl, p1, p2, p3⟩ := hrel
    by_cases hlt : k < L.length
    · have hbl : decide ((k : Int) < (L.length : Int)) = true := dtrue (by omega)
      obtain ⟨ad, hA, hS, c0, c1⟩ := As.at_ (h4.ext p3) hlt
      subst hA
      obtain ⟨k1, k2⟩ := hf.at_ hlt
      have hsn := norm_snoc L hlt
      have hln : (norm (L.take k)).length = k := by unfold norm; simp; omega
      generalize L[k] = x at *
      generalize norm (L.take k) = M at *
      replace hsn := Lib.hid hsn
      have hn1 := Lib.hid (show (M.length + 1) * 32 ≤ 140737488355328 by omega)
      clear hln
      go_wp2_with fail
      refine (dfold_any x k1 k2).mono ?_
      rintro e w2 ⟨rfl, q1⟩
      have hx2 : Ext wr w2 := ext_trans ((Mod.refl _ wr).alloc _) q1
      have p1' : OwnA w2 u3 M := p1.ext hx2
      obtain ⟨A3, c3, rfl⟩ := p1.shape
      go_wp2_with ((with_reducible show wpList _ _ _ (⟨some 19, _, _, _, _, _⟩ :: _) _ _); refine wp_appR tyA avc_len p1' rfl (avc_ok (normA x)) hn1.out rfl (.tmp 15) (.tmp 18) rfl rfl rfl ?_; intro v3 w3 g1 g2 g3)
      exact ⟨⟨k + 1, by omega, by go_num, by rw [hsn.out]; exact g1, g3.fresh p2 (ext_trans p3 hx2).size, ext_app0 (ext_trans p3 hx2) p2 g2⟩, by simp [intOf] <;> omega⟩
    · have hbl : decide ((k : Int) < (L.length : Int)) = false := dfalse (by omega)
      rw [List.take_of_length_le (by omega)] at p1
      go_wp2_with fail
      go_ret
      exact ⟨_, rfl, p1, p2, p3⟩

set_option maxHeartbeats 2000000 in
theorem rnorm_any {w : World} {v : Value} {L : List Av} (h : As w (fun b => b < w.heap.size) v L) (hf : Fits L) :
    Calls Try.prog 30 #[v] w fun e w' => ∃ v', e = .returned v' ∧ OwnA w' v' (norm L) ∧ Fresh w.heap.size v' ∧ Ext w w' := by
  have hl := hf.2
  obtain ⟨A, c, rfl, h1, h2, h3, h4⟩ := h.open_ avc_len
  go_enter Try.func30, Try.ntmps30
  go_wp2_with fail
  go_loopw [3, 4] (fun vo i wr => ∃ k : Nat, k ≤ L.length ∧ i = .int .i64 k ∧ OwnA wr vo (norm (L.take k)) ∧ Fresh w.heap.size vo ∧ Ext w wr) (fun _ i _ => L.length - (intOf i).toNat)
  case atStart => exact ⟨0, Nat.zero_le _, rfl, OwnR.nil _ _ _ _, fresh_nil _ _ _, Mod.refl _ _⟩
  case round =>
    obtain ⟨k, hk, rfl, p1, p2, p3⟩ := hrel
    by_cases hlt : k < L.length
    · have hbl : decide ((k : Int) < (L.length : Int)) = true := dtrue (by omega)
      obtain ⟨ad, hA, hS, c0, c1⟩ := As.at_ (h4.ext p3) hlt
      subst hA
      obtain ⟨k1, k2⟩ := hf.at_ hlt
      have hsn := norm_snoc L hlt
      have hln : (norm (L.take k)).length = k := by unfold norm; simp; omega
      generalize L[k] = x at *
      generalize norm (L.take k) = M at *
      replace hsn := Lib.hid hsn
      have hn1 := Lib.hid (show (M.length + 1) * 32 ≤ 140737488355328 by omega)
      clear hln
      have hS' : (ad.add (k * 2)).block < w.heap.size := by rw [block_of_add]; exact hS
      have hx : ∀ wx, Mod (fun b => w.heap.size ≤ b) wr wx → wx.cell? (ad.add (k * 2)) = some (sv x.1) ∧ wx.cell? ⟨(ad.add (k * 2)).block, (ad.add (k * 2)).off + 1, none⟩ = some (sv x.2) :=
        fun wx hm => ⟨(hm.cell (lt_of_cell c0) (by omega)).trans c0, (hm.cell (lt_of_cell c1) (by show ¬ w.heap.size ≤ (ad.add (k * 2)).block; omega)).trans c1⟩
      clear c0 c1 hS'
      obtain ⟨A3, c3, rfl⟩ := p1.shape
      have hi0 : (0 : Int) ≤ (k : Int) := by omega
      have hi1 : (k : Int) < (L.length : Int) := by omega
      go_wp2_with fail
      have q0 : Mod (fun b => w.heap.size ≤ b) wr wr.drew := (Mod.refl _ wr).drew
      have p0 : OwnA wr.drew (.slice A3 M.length c3) M := p1
      go_region_held3 (fun w' => w'.cell? (ad.add (k * 2)) = some (sv x.1) ∧ w'.cell? ⟨(ad.add (k * 2)).block, (ad.add (k * 2)).off + 1, none⟩ = some (sv x.2)) (first | exact hx _ q0 | exact hx _ q1 | exact hx _ q2 | exact hx _ (q2.alloc _) | exact hx _ q3) (first | (go_at_call 22; refine (rfold_any x.1 k1).mono ?_; rintro e w2 ⟨rfl, r1⟩; have q1 := q0.then_ r1 (fun _ _ h => h.elim); have p11 := p0.ext r1) | (go_at_call 58; refine (value_any x.2 k2).mono ?_; rintro e w3 ⟨rfl, r2⟩; have q2 := q1.then_ r2 (fun _ _ h => h.elim); have p12 := p11.ext r2) | (refine step_appR (x := normA x) tyA avc_len p12 rfl (avc_ok (normA x)) hn1.out rfl rfl (.tmp 11) (.tmp 25) rfl rfl rfl ?_; intro v4 w4 g1 g2 g3; have q3 := q2.then_ g2 (fun b _ h => p2 b h)))
      have e3 : Ext wr w3 := ext_trans (ext_trans ((Mod.refl _ wr).drew) r1) r2
      go_wp2_with fail
      exact ⟨⟨k + 1, by omega, by go_num, by rw [hsn.out]; exact g1, g3.fresh p2 (ext_trans p3 e3).size, ext_app0 (ext_trans p3 e3) p2 g2⟩, by simp [intOf] <;> omega⟩
    · have hbl : decide ((k : Int) < (L.length : Int)) = false := dfalse (by omega)
      rw [List.take_of_length_le (by omega)] at p1
      go_wp2_with fail
      go_ret
      exact ⟨_, rfl, p1, p2, p3⟩
end Go.Proofs.Ytbdkdbfcbakgmaa

/- octet: the Writer's other calls. -/
import Derived.Test.YtlfooppmdgddkaaOctA
namespace Go.Proofs.Ytlfooppmdgddkaa
open Go.RowKit

/-- Rows, each with its length. -/
def encr (L : List (List UInt8)) : List UInt8 := L.flatMap fun p => enc7 p.length ++ p
theorem encr_snoc (L : List (List UInt8)) (k : Nat) (h : k < L.length) : encr (L.take (k + 1)) = encr (L.take k) ++ (enc7 L[k].length ++ L[k]) := by
  unfold encr
  rw [List.take_succ_eq_append_getElem h, List.flatMap_append]
  simp
theorem encr_take (L : List (List UInt8)) (k : Nat) : (encr (L.take k)).length ≤ (encr L).length := by
  have e : encr L = encr (L.take k) ++ encr (L.drop k) := by
    unfold encr
    rw [← List.flatMap_append, List.take_append_drop]
  rw [e, List.length_append]; omega
theorem clamp_nat (n : Nat) (h : n ≤ 4611686018427387904) : clamp (n : Int) = n := by unfold clamp; omega
/-- A Writer whose row has been grown, stored back. -/
theorem Wr.back {w w1 : World} {b : Nat} {v v1 v2 : Value} {l m : List UInt8} (h : Wr w b v l) (hown : Own w1 5 v1 (l.map bv ++ m.map bv)) (hmod : Mod (own v) w w1)
    (hnx : Next w.heap.size v v1) (hv : v2 = v1) : Wr (w1.setCell ⟨b, 0, none⟩ v2) b v2 (l ++ m) ∧ Mod (wrF b v) w (w1.setCell ⟨b, 0, none⟩ v2) ∧ Next w.heap.size v v2 := by
  subst hv
  have hb1 := h.blk.mod hmod h.ne
  have hne : v2.ownBlock ≠ some b := hown.ne_blk hb1 (by decide)
  refine ⟨⟨hb1.set_ 0 v2, ?_⟩, (hmod.mono fun _ _ h => .inr h).setCell (fun _ => .inl rfl) _, hnx⟩
  rw [List.map_append]
  exact hown.mod ((Mod.refl (fun k => k = b) w1).setCell (fun _ => rfl) _) (fun k hk e => hne (by rw [← e]; exact hk))
set_option maxHeartbeats 400000 in
theorem wbytes_any {w : World} {b : Nat} {v y : Value} {l : List UInt8} {L : List (List UInt8)} {S : Nat → Prop} (h : Wr w b v l) (hy : Rw w S y L) (hS : ∀ k, k < w.heap.size → S k → ¬ wrF b v k) (hl : l.length + (encr L).length + 10 ≤ 140737488355328) :
    Calls Try.prog 81 #[.pointer (some ⟨b, 0, none⟩), y] w fun e w' => e = .returned (.tuple #[]) ∧ ∃ v', Wr w' b v' (l ++ encr L) ∧ Mod (wrF b v) w w' ∧ Next w.heap.size v v' := by
  obtain ⟨A, c, vs, rfl, h1, h2, h3, h4, h5, h6⟩ := hy.open_
  go_enter Try.func81, Try.ntmps81
  go_wp2
  go_loopw [10] (fun i wr => ∃ (k : Nat) (v' : Value), k ≤ L.length ∧ i = .int .i64 k ∧ Wr wr b v' (l ++ encr (L.take k)) ∧ Mod (wrF b v) w wr ∧ Next w.heap.size v v') (fun i _ => L.length - (intOf i).toNat)
  case atStart => exact ⟨0, v, Nat.zero_le _, rfl, by simpa [encr] using h, Mod.refl _ _, Next.refl _ _⟩
  case round =>
    obtain ⟨k, v', hk, rfl, hw, hm, hx⟩ := hrel
    by_cases hlt : k < L.length
    · obtain ⟨ad, x, rfl, hc, hbs⟩ := row_now h4 h5 h6 hm hS hlt
      have hle := encr_take L (k + 1)
      rw [encr_snoc _ _ hlt, List.length_append, List.length_append] at hle
      have hpos := enc7_pos L[k].length
      obtain ⟨A2, c2, rfl, _, _, _, _⟩ := hbs.open_
      have hcl := clamp_nat L[k].length (by omega)
      go_wp2_with (first
        | (go_at_call 98; refine (wnum_any hw _ (by simp; omega)).mono ?_; rintro e w1 ⟨rfl, v1, g1, g2, g3⟩; rw [hcl] at g1; have hbc := g1.blk.c0; have hm1 := hm.then_ g2 (fun k hk h => wrF_sub hx k hk h); have hx1 := hx.trans g3 hm.size; have hbs1 := hbs.mod hm1 hS)
        | ((with_reducible show wpList _ _ _ (⟨some 24, _, _, _, _, _⟩ :: _) _ _); refine wp_app tyB g1.row hbs1 (bv_one _) rfl (.tmp 22) (.tmp 23) rfl rfl rfl ?hn ?_; rotate_right; intro v2 w2 hown2 hmod2 hnx2; obtain ⟨A3, c3, hv3⟩ := hown2.shape; subst hv3; have hb2 := g1.blk.mod hmod2 g1.ne; have hbc2 := hb2.c0; have hbf2 := hb2.frozen 0))
      case hn => simp; omega
      obtain ⟨k1, k2, k3⟩ := g1.back hown2 hmod2 hnx2 (v2 := .slice A3 (l.length + ((encr (L.take k)).length + ((enc7 L[k].length).length + L[k].length))) c3) (by simp)
      exact ⟨⟨k + 1, _, by omega, by go_num, by rw [encr_snoc _ _ hlt, ← List.append_assoc, ← List.append_assoc]; exact k1, hm1.then_ k2 (fun k hk h => wrF_sub hx1 k hk h), hx1.trans k3 hm1.size⟩, by simp [intOf]; omega⟩
    · go_wp2
      go_end0
      rw [List.take_of_length_le (by omega)] at hw
      exact ⟨rfl, v', hw, hm, hx⟩
theorem wout_any {w : World} {b : Nat} {v : Value} {l : List UInt8} (h : Wr w b v l) (hn : l.length ≤ 281474976710656) :
    Calls Try.prog 62 #[.pointer (some ⟨b, 0, none⟩)] w fun e w' => ∃ v', e = .returned v' ∧ Own w' 5 v' (l.map bv) ∧ v'.ownBlock = some w.heap.size ∧ Ext w w' ∧ w.heap.size < w'.heap.size := by
  have hbc := h.blk.c0
  go_enter Try.func62, Try.ntmps62
  go_wp2_with (go_at_call 91; refine (own_any h.row.sl hn).mono ?_; rintro e w1 ⟨v1, rfl, g1, g2, g3, g4⟩)
  go_ret
  exact ⟨v1, rfl, g1, g2, g3, g4⟩
end Go.Proofs.Ytlfooppmdgddkaa

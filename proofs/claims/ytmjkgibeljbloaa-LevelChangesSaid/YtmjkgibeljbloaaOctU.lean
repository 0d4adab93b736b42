/- octet: what its small functions do to the world. -/
import Derived.Test.YtmjkgibeljbloaaRows
import Derived.Test.YtmjkgibeljbloaaWords
import Derived.Deep.RegionWith
import Derived.Deep.RegionHeld3
import Derived.Deep.QuietTactic
import Derived.BigQuiet
namespace Go.Proofs.Ytmjkgibeljbloaa
open Go.RowKit

theorem tyB : SliceTy Try.prog 26 5 (.int .u8 0) 1 := ⟨Try.underlying26, by kernel_rfl, rfl, Nat.le_refl _⟩
/-- own: the same bytes in new memory. -/
theorem own_any {w : World} {S : Nat → Prop} {v : Value} {l : List UInt8} (h : Bs w S v l) (hn : l.length ≤ 281474976710656) :
    Calls Try.prog 57 #[v] w fun e w' => ∃ v', e = .returned v' ∧ Own w' 5 v' (l.map bv) ∧ v'.ownBlock = some w.heap.size ∧ Ext w w' ∧ w.heap.size < w'.heap.size := by
  have h0 := h
  obtain ⟨A, c, rfl, h2, h3, h4, h5⟩ := h.open_
  go_enter Try.func57, Try.ntmps57
  go_wp2_with (first
    | ((with_reducible show wpList _ _ _ (⟨some 6, _, _, _, _, _⟩ :: _) _ _); refine wp_make tyB l.length rfl (.tmp 5) (.tmp 5) rfl rfl rfl (by omega) ?_; intro w1 hown1 hext1 hlt1)
    | ((with_reducible show wpList _ _ _ (⟨some 9, _, _, _, _, _⟩ :: _) _ _); refine wp_copy tyB hown1 (h0.ext hext1) (bv_one l) rfl (.tmp 7) (.tmp 8) rfl rfl rfl ?_; intro w2 hown2 hmod2))
  go_ret
  refine ⟨_, rfl, ?_, rfl, hext1.trans hmod2 (fun _ _ h => h) (fun k hk h => ?_), Nat.lt_of_lt_of_le hlt1 hmod2.size⟩
  · simpa [show List.take l.length (l.map bv) = l.map bv from List.take_of_length_le (by simp)] using hown2
  · injection h with h; have : w.heap.size = k := h; omega
/-- The number u in seven binary digits a byte. -/
def enc7 (u : Nat) : List UInt8 := if h : u < 128 then [UInt8.ofNat u] else UInt8.ofNat (u % 128 + 128) :: enc7 (u / 128)
termination_by u
decreasing_by omega
theorem enc7_lo {u : Nat} (h : u < 128) : enc7 u = [UInt8.ofNat u] := by rw [enc7]; simp [h]
theorem enc7_hi {u : Nat} (h : ¬ u < 128) : enc7 u = UInt8.ofNat (u % 128 + 128) :: enc7 (u / 128) := by rw [enc7]; simp [h]
theorem enc7_pos (u : Nat) : 0 < (enc7 u).length := by
  by_cases h : u < 128
  · simp [enc7_lo h]
  · simp [enc7_hi h]
theorem enc7_length (k : Nat) : ∀ u, u < 2 ^ (7 * (k + 1)) → (enc7 u).length ≤ k + 1 := by
  induction k with
  | zero => intro u hu; rw [enc7_lo (by simpa using hu)]; simp
  | succ k ih =>
    intro u hu
    by_cases h : u < 128
    · simp [enc7_lo h]
    · rw [enc7_hi h]
      have := ih (u / 128) (by
        have e : 2 ^ (7 * (k + 1 + 1)) = 2 ^ (7 * (k + 1)) * 128 := by rw [show 7 * (k + 1 + 1) = 7 * (k + 1) + 7 by omega, Nat.pow_add]
        rw [e] at hu
        exact Nat.div_lt_of_lt_mul (by omega))
      simpa using this
/-- The number that is laid for v. -/
def clamp (v : Int) : Nat := (min (max v 0) 4611686018427387904).toNat
/-- A Writer behind a pointer: what is laid, and that it is its own. -/
structure Wr (w : World) (b : Nat) (v : Value) (l : List UInt8) : Prop where
  blk : Blk w b 54 #[v]
  row : Own w 5 v (l.map bv)
/-- What a Writer may turn. -/
abbrev wrF (b : Nat) (v : Value) : Nat → Prop := fun k => k = b ∨ v.ownBlock = some k
theorem Wr.ne {w : World} {b : Nat} {v : Value} {l : List UInt8} (h : Wr w b v l) : v.ownBlock ≠ some b := h.row.ne_blk h.blk (by decide)
theorem Wr.mod {F : Nat → Prop} {w w' : World} {b : Nat} {v : Value} {l : List UInt8} (h : Wr w b v l) (hm : Mod F w w') (hb : ¬ F b) (hv : ∀ k, v.ownBlock = some k → ¬ F k) : Wr w' b v l :=
  ⟨h.blk.mod hm hb, h.row.mod hm hv⟩
theorem clamp_lt (n : Int) : clamp n < 18446744073709551616 := by unfold clamp; omega
theorem u8_ofNat (n : Nat) (h : n < 256) : ((UInt8.ofNat n).toNat : Int) = n := by rw [UInt8.toNat_ofNat_of_lt' h]
theorem or128 (u : Nat) : bits .or .u8 (((u : Int) % 256 : Int)) 128 = ((UInt8.ofNat (u % 128 + 128)).toNat : Int) := by
  rw [u8_ofNat _ (by omega)]
  have : ∀ k : Nat, k < 256 → bits .or .u8 (k : Int) 128 = ((k % 128 + 128 : Nat) : Int) := by decide +kernel
  have h := this (u % 256) (by omega)
  rw [show ((u % 256 : Nat) : Int) = (u : Int) % 256 by omega] at h
  rw [h]; omega
theorem Wr.step {w w1 : World} {b : Nat} {v v1 v2 : Value} {l m : List UInt8} (h : Wr w b v l) {o : Obj} (hown : Own w1 5 v1 (l.map bv ++ m.map bv)) (hmod : Mod (own v) (w.alloc o) w1)
    (hnx : Next (w.alloc o).heap.size v v1) (hv : v2 = v1) : Wr (w1.setCell ⟨b, 0, none⟩ v2) b v2 (l ++ m) ∧ Mod (wrF b v) w (w1.setCell ⟨b, 0, none⟩ v2) ∧ Next w.heap.size v v2 := by
  subst hv
  have hb1 := (h.blk.alloc o).mod hmod h.ne
  have hm1 : Mod (wrF b v) w w1 := ((Mod.refl _ w).alloc o).trans hmod (fun _ _ h => h) (fun _ _ h => .inr h)
  have hne : v2.ownBlock ≠ some b := hown.ne_blk hb1 (by decide)
  refine ⟨⟨hb1.set_ 0 v2, ?_⟩, hm1.setCell (fun _ => .inl rfl) _, ?_⟩
  · rw [List.map_append]
    exact hown.mod ((Mod.refl (fun k => k = b) w1).setCell (fun _ => rfl) _) (fun k hk e => hne (by rw [← e]; exact hk))
  · exact (Next.refl w.heap.size v).trans hnx (by simp)
set_option maxHeartbeats 400000 in
theorem wnum_any {w : World} {b : Nat} {v : Value} {l : List UInt8} (h : Wr w b v l) (n : Int) (hl : l.length + 10 ≤ 140737488355328) :
    Calls Try.prog 56 #[.pointer (some ⟨b, 0, none⟩), .int .i64 n] w fun e w' => e = .returned (.tuple #[]) ∧ ∃ v', Wr w' b v' (l ++ enc7 (clamp n)) ∧ Mod (wrF b v) w w' ∧ Next w.heap.size v v' := by
  have hmax : ∀ (ts : Array TypeId) (t : TypeId) (w : World), (Builtin.max_ ts t #[.int .i64 n, .int .i64 0]).run Try.prog w = .ok (.int .i64 (max n 0)) w := by
    intro ts t w
    rw [run_max_int2]
    congr 2; omega
  have hmin : ∀ (ts : Array TypeId) (t : TypeId) (w : World), (Builtin.min_ ts t #[.int .i64 (max n 0), .int .i64 4611686018427387904]).run Try.prog w = .ok (.int .i64 (clamp n : Nat)) w := by
    intro ts t w
    rw [run_min_int2]
    congr 2; unfold clamp; omega
  have hc := clamp_lt n
  generalize clamp n = u0 at *
  go_enter Try.func56, Try.ntmps56
  go_wp2
  clear hmax hmin
  go_loopw [4] (fun i wr => ∃ (u : Nat) (v' : Value) (pre : List UInt8), u < 18446744073709551616 ∧ i = .int .u64 u ∧ Wr wr b v' (l ++ pre) ∧ Mod (wrF b v) w wr ∧ Next w.heap.size v v' ∧ Hid (pre ++ enc7 u = enc7 u0)) (fun i _ => (intOf i).toNat)
  case atStart => exact ⟨_, v, [], hc, rfl, by simpa using h, Mod.refl _ _, Next.refl _ _, rfl⟩
  case round =>
    obtain ⟨u, v', pre, hu, rfl, hw, hm, hx, he⟩ := hrel
    have hbc := hw.blk.c0
    have hbf := hw.blk.frozen 0
    have hlen : pre.length + (enc7 u).length ≤ 10 := by
      rw [← List.length_append, he.out]; exact enc7_length 9 u0 (by omega)
    have hpos := enc7_pos u
    by_cases hlt : u < 128
    · go_wp2_with (((with_reducible show wpList _ _ _ (⟨some 33, _, _, _, _, _⟩ :: _) _ _); refine wp_app tyB (hw.row.alloc _) (Sl.one _ _ _) (by simp [Value.oneCell']) rfl (.tmp 29) (.tmp 32) rfl rfl rfl ?hn ?_; rotate_right; intro v1 w1 hown1 hmod1 hnx1; obtain ⟨A1, c1, hv1⟩ := hown1.shape; subst hv1; have hb1 := (hw.blk.alloc _).mod hmod1 hw.ne; have hbc1 := hb1.c0; have hbf1 := hb1.frozen 0))
      case hn => simp; omega
      go_end0
      have e1 : (Value.int .u8 (u : Int)) = bv (UInt8.ofNat u) := by unfold bv; rw [u8_ofNat _ (by omega)]
      rw [e1] at hown1 hmod1 hnx1
      obtain ⟨g1, g2, g3⟩ := hw.step (m := [UInt8.ofNat u]) hown1 hmod1 hnx1 (v2 := .slice A1 (l.length + (pre.length + 1)) c1) (by simp)
      refine ⟨rfl, _, ?_, hm.trans g2 (fun _ _ h => h) (fun k hk h => ?_), hx.trans g3 hm.size⟩
      · rw [← he.out, enc7_lo hlt, ← List.append_assoc]; exact g1
      · rcases h with h | h
        · exact .inl h
        · exact .inr (hx.sub hk h)
    · have hor := or128 u
      go_wp2_with (((with_reducible show wpList _ _ _ (⟨some 20, _, _, _, _, _⟩ :: _) _ _); refine wp_app tyB (hw.row.alloc _) (Sl.one _ _ _) (by simp [Value.oneCell']) rfl (.tmp 15) (.tmp 19) rfl rfl rfl ?hn ?_; rotate_right; intro v1 w1 hown1 hmod1 hnx1; obtain ⟨A1, c1, hv1⟩ := hown1.shape; subst hv1; have hb1 := (hw.blk.alloc _).mod hmod1 hw.ne; have hbc1 := hb1.c0; have hbf1 := hb1.frozen 0))
      case hn => simp; omega
      obtain ⟨g1, g2, g3⟩ := hw.step (m := [UInt8.ofNat (u % 128 + 128)]) hown1 hmod1 hnx1 (v2 := .slice A1 (l.length + (pre.length + 1)) c1) (by simp)
      refine ⟨⟨u / 128, _, pre ++ [UInt8.ofNat (u % 128 + 128)], by omega, by simp, by rw [← List.append_assoc]; exact g1, hm.trans g2 (fun _ _ h => h) (fun k hk h => ?_), hx.trans g3 hm.size, ?_⟩, by simp [intOf]; omega⟩
      · rcases h with h | h
        · exact .inl h
        · exact .inr (hx.sub hk h)
      · exact Lib.hid (by rw [← he.out, enc7_hi hlt, List.append_assoc]; rfl)
/-- Several numbers. -/
def encs (l : List Int) : List UInt8 := l.flatMap fun v => enc7 (clamp v)
theorem encs_length (l : List Int) : (encs l).length ≤ 10 * l.length := by
  unfold encs
  induction l with
  | nil => simp
  | cons a l ih =>
    have := enc7_length 9 (clamp a) (by have := clamp_lt a; omega)
    simp only [List.flatMap_cons, List.length_append, List.length_cons]
    omega
theorem encs_snoc (l : List Int) (k : Nat) (h : k < l.length) : encs (l.take (k + 1)) = encs (l.take k) ++ enc7 (clamp l[k]) := by
  unfold encs
  rw [List.take_succ_eq_append_getElem h, List.flatMap_append]
  simp
theorem wrF_sub {w : World} {b : Nat} {v v' : Value} (hx : Next w.heap.size v v') : ∀ k, k < w.heap.size → wrF b v' k → wrF b v k := fun k hk h => by
  rcases h with h | h
  · exact .inl h
  · exact .inr (hx.sub hk h)
set_option maxHeartbeats 400000 in
theorem wnums_any {w : World} {b : Nat} {v y : Value} {l : List UInt8} {ns : List Int} {S : Nat → Prop} (h : Wr w b v l) (hy : Is w S y ns) (hS : ∀ k, k < w.heap.size → S k → ¬ wrF b v k) (hl : l.length + 10 * ns.length + 10 ≤ 140737488355328) :
    Calls Try.prog 26 #[.pointer (some ⟨b, 0, none⟩), y] w fun e w' => e = .returned (.tuple #[]) ∧ ∃ v', Wr w' b v' (l ++ encs ns) ∧ Mod (wrF b v) w w' ∧ Next w.heap.size v v' := by
  obtain ⟨A, c, rfl, h1, h2, h3, h4⟩ := hy.open_

  go_enter Try.func26, Try.ntmps26
  go_wp2
  go_loopw [10] (fun i wr => ∃ (k : Nat) (v' : Value), k ≤ ns.length ∧ i = .int .i64 k ∧ Wr wr b v' (l ++ encs (ns.take k)) ∧ Mod (wrF b v) w wr ∧ Next w.heap.size v v') (fun i _ => ns.length - (intOf i).toNat)
  case atStart => exact ⟨0, v, Nat.zero_le _, rfl, by simpa [encs] using h, Mod.refl _ _, Next.refl _ _⟩
  case round =>
    obtain ⟨k, v', hk, rfl, hw, hm, hx⟩ := hrel
    by_cases hlt : k < ns.length
    · obtain ⟨ad, rfl, hs, hc⟩ := (h4.mod hm hS).at_ hlt
      have hle := encs_length (ns.take k)
      rw [List.length_take] at hle
      go_wp2_with (go_at_call 56; refine (wnum_any hw _ (by simp; omega)).mono ?_; rintro e w1 ⟨rfl, v1, g1, g2, g3⟩)
      exact ⟨⟨k + 1, v1, by omega, by go_num, by rw [encs_snoc _ _ hlt, ← List.append_assoc]; exact g1, hm.then_ g2 (fun k hk h => wrF_sub hx k hk h), hx.trans g3 hm.size⟩, by simp [intOf]; omega⟩
    · go_wp2
      go_end0
      rw [List.take_of_length_le (by omega)] at hw
      exact ⟨rfl, v', hw, hm, hx⟩
end Go.Proofs.Ytmjkgibeljbloaa
namespace Go.Proofs.Ytmjkgibeljbloaa
open Go.RowKit

/-- Rows, each with its length. -/
def encr (L : List (List UInt8)) : List UInt8 := L.flatMap fun p => enc7 p.length ++ p
theorem encr_snoc (L : List (List UInt8)) (k : Nat) (h : k < L.length) : encr (L.take (k + 1)) = encr (L.take k) ++ (enc7 L[k].length ++ L[k]) := by
  unfold encr
  rw [List.take_succ_eq_append_getElem h, List.flatMap_append]
  simp
theorem encr_take (L : List (List UInt8)) (k : Nat) : (encr (L.take k)).length ≤ (encr L).length := by
  have e : encr L = encr (L.take k) ++ encr (L.drop k) := by
    unfold encr
    rw [← List.flatMap_append, List.take_append_drop]
  rw [e, List.length_append]; omega
theorem clamp_nat (n : Nat) (h : n ≤ 4611686018427387904) : clamp (n : Int) = n := by unfold clamp; omega
/-- A Writer whose row has been grown, stored back. -/
theorem Wr.back {w w1 : World} {b : Nat} {v v1 v2 : Value} {l m : List UInt8} (h : Wr w b v l) (hown : Own w1 5 v1 (l.map bv ++ m.map bv)) (hmod : Mod (own v) w w1)
    (hnx : Next w.heap.size v v1) (hv : v2 = v1) : Wr (w1.setCell ⟨b, 0, none⟩ v2) b v2 (l ++ m) ∧ Mod (wrF b v) w (w1.setCell ⟨b, 0, none⟩ v2) ∧ Next w.heap.size v v2 := by
  subst hv
  have hb1 := h.blk.mod hmod h.ne
  have hne : v2.ownBlock ≠ some b := hown.ne_blk hb1 (by decide)
  refine ⟨⟨hb1.set_ 0 v2, ?_⟩, (hmod.mono fun _ _ h => .inr h).setCell (fun _ => .inl rfl) _, hnx⟩
  rw [List.map_append]
  exact hown.mod ((Mod.refl (fun k => k = b) w1).setCell (fun _ => rfl) _) (fun k hk e => hne (by rw [← e]; exact hk))
set_option maxHeartbeats 400000 in
theorem wbytes_any {w : World} {b : Nat} {v y : Value} {l : List UInt8} {L : List (List UInt8)} {S : Nat → Prop} (h : Wr w b v l) (hy : Rw w S y L) (hS : ∀ k, k < w.heap.size → S k → ¬ wrF b v k) (hl : l.length + (encr L).length + 10 ≤ 140737488355328) :
    Calls Try.prog 27 #[.pointer (some ⟨b, 0, none⟩), y] w fun e w' => e = .returned (.tuple #[]) ∧ ∃ v', Wr w' b v' (l ++ encr L) ∧ Mod (wrF b v) w w' ∧ Next w.heap.size v v' := by
  obtain ⟨A, c, vs, rfl, h1, h2, h3, h4, h5, h6⟩ := hy.open_
  go_enter Try.func27, Try.ntmps27
  go_wp2
  go_loopw [10] (fun i wr => ∃ (k : Nat) (v' : Value), k ≤ L.length ∧ i = .int .i64 k ∧ Wr wr b v' (l ++ encr (L.take k)) ∧ Mod (wrF b v) w wr ∧ Next w.heap.size v v') (fun i _ => L.length - (intOf i).toNat)
  case atStart => exact ⟨0, v, Nat.zero_le _, rfl, by simpa [encr] using h, Mod.refl _ _, Next.refl _ _⟩
  case round =>
    obtain ⟨k, v', hk, rfl, hw, hm, hx⟩ := hrel
    by_cases hlt : k < L.length
    · obtain ⟨ad, x, rfl, hc, hbs⟩ := row_now h4 h5 h6 hm hS hlt
      have hle := encr_take L (k + 1)
      rw [encr_snoc _ _ hlt, List.length_append, List.length_append] at hle
      have hpos := enc7_pos L[k].length
      obtain ⟨A2, c2, rfl, _, _, _, _⟩ := hbs.open_
      have hcl := clamp_nat L[k].length (by omega)
      go_wp2_with (first
        | (go_at_call 56; refine (wnum_any hw _ (by simp; omega)).mono ?_; rintro e w1 ⟨rfl, v1, g1, g2, g3⟩; rw [hcl] at g1; have hbc := g1.blk.c0; have hm1 := hm.then_ g2 (fun k hk h => wrF_sub hx k hk h); have hx1 := hx.trans g3 hm.size; have hbs1 := hbs.mod hm1 hS)
        | ((with_reducible show wpList _ _ _ (⟨some 24, _, _, _, _, _⟩ :: _) _ _); refine wp_app tyB g1.row hbs1 (bv_one _) rfl (.tmp 22) (.tmp 23) rfl rfl rfl ?hn ?_; rotate_right; intro v2 w2 hown2 hmod2 hnx2; obtain ⟨A3, c3, hv3⟩ := hown2.shape; subst hv3; have hb2 := g1.blk.mod hmod2 g1.ne; have hbc2 := hb2.c0; have hbf2 := hb2.frozen 0))
      case hn => simp; omega
      obtain ⟨k1, k2, k3⟩ := g1.back hown2 hmod2 hnx2 (v2 := .slice A3 (l.length + ((encr (L.take k)).length + ((enc7 L[k].length).length + L[k].length))) c3) (by simp)
      exact ⟨⟨k + 1, _, by omega, by go_num, by rw [encr_snoc _ _ hlt, ← List.append_assoc, ← List.append_assoc]; exact k1, hm1.then_ k2 (fun k hk h => wrF_sub hx1 k hk h), hx1.trans k3 hm1.size⟩, by simp [intOf]; omega⟩
    · go_wp2
      go_end0
      rw [List.take_of_length_le (by omega)] at hw
      exact ⟨rfl, v', hw, hm, hx⟩
theorem wout_any {w : World} {b : Nat} {v : Value} {l : List UInt8} (h : Wr w b v l) (hn : l.length ≤ 281474976710656) :
    Calls Try.prog 28 #[.pointer (some ⟨b, 0, none⟩)] w fun e w' => ∃ v', e = .returned v' ∧ Own w' 5 v' (l.map bv) ∧ v'.ownBlock = some w.heap.size ∧ Ext w w' ∧ w.heap.size < w'.heap.size := by
  have hbc := h.blk.c0
  go_enter Try.func28, Try.ntmps28
  go_wp2_with (go_at_call 57; refine (own_any h.row.sl hn).mono ?_; rintro e w1 ⟨v1, rfl, g1, g2, g3, g4⟩)
  go_ret
  exact ⟨v1, rfl, g1, g2, g3, g4⟩
end Go.Proofs.Ytmjkgibeljbloaa
namespace Go.Proofs.Ytmjkgibeljbloaa
open Go.RowKit

/-- A Reader behind a pointer: what is left, or that it erred. -/
structure Rd (w : World) (b : Nat) (S : Nat → Prop) (v : Value) (st : Option (List UInt8)) : Prop where
  blk : Blk w b 99 #[v, .bool st.isNone]
  row : Bs w S v (st.getD [])
  off : ¬ S b
theorem Rd.mod {F S : Nat → Prop} {w w' : World} {b : Nat} {v : Value} {st : Option (List UInt8)} (h : Rd w b S v st) (hm : Mod F w w') (hb : ¬ F b) (hv : ∀ k, k < w.heap.size → S k → ¬ F k) : Rd w' b S v st :=
  ⟨h.blk.mod hm hb, h.row.mod hm hv, h.off⟩
theorem Blk.c1 {w : World} {g : Nat} {t : TypeId} {u v : Value} (h : Blk w g t #[u, v]) : w.cell? ⟨g, 0, none⟩ = some u ∧ w.cell? ⟨g, 1, none⟩ = some v := ⟨h.cell 0, h.cell 1⟩
theorem newreader_any {w : World} {S : Nat → Prop} {y : Value} {l : List UInt8} (h : Bs w S y l) (hn : l.length ≤ 281474976710656) :
    Calls Try.prog 41 #[y] w fun e w' => ∃ b v, e = .returned (.pointer (some ⟨b, 0, none⟩)) ∧ Rd w' b (fun k => k = w.heap.size) v (some l) ∧ w.heap.size < b ∧ b < w'.heap.size ∧ Ext w w' := by
  go_enter Try.func41, Try.ntmps41
  go_wp2_with (go_at_call 57; refine (own_any h hn).mono ?_; rintro e w1 ⟨v1, rfl, g1, g2, g3, g4⟩; obtain ⟨A1, c1, hv1⟩ := g1.shape; subst hv1)
  go_ret
  have e1 : (Value.slice A1 (l.map bv).length c1) = .slice A1 l.length c1 := by simp
  rw [e1] at g1 g2
  refine ⟨_, _, rfl, ⟨Blk.new _ _ _, (g1.alloc _).sl.mono (fun k _ hk => ?_), by show ¬ (_ = _); omega⟩, g4, by simp, g3.alloc _⟩
  exact (Option.some.inj (g2.symm.trans hk)).symm
theorem good_any {w : World} {b : Nat} {S : Nat → Prop} {v : Value} {st : Option (List UInt8)} (h : Rd w b S v st) : Calls Try.prog 43 #[.pointer (some ⟨b, 0, none⟩)] w fun e w' => e = .returned (.bool st.isSome) ∧ w' = w := by
  obtain ⟨h0, h1⟩ := h.blk.c1
  cases st <;> simp only [Option.isNone_none, Option.isNone_some] at h1 <;> (
    go_enter Try.func43, Try.ntmps43
    go_wp2
    go_ret
    exact ⟨rfl, rfl⟩)
/-- Nothing erred, and nothing is left. -/
def isWhole (st : Option (List UInt8)) : Bool := match st with | some l => l.isEmpty | none => false
theorem whole_any {w : World} {b : Nat} {S : Nat → Prop} {v : Value} {st : Option (List UInt8)} (h : Rd w b S v st) : Calls Try.prog 45 #[.pointer (some ⟨b, 0, none⟩)] w fun e w' => e = .returned (.bool (isWhole st)) ∧ w' = w := by
  obtain ⟨h0, h1⟩ := h.blk.c1
  cases st with
  | none =>
    go_enter Try.func45, Try.ntmps45
    go_wp2_with (go_at_call 43; refine (good_any h).mono ?_; rintro e w1 ⟨rfl, rfl⟩)
    go_ret
    exact ⟨rfl, rfl⟩
  | some l =>
    obtain ⟨A, c, rfl, g1, g2, g3, g4⟩ := h.row.open_
    simp only [Option.getD_some] at h0
    have hr : isWhole (some l) = ((l.length : Int) == 0) := by cases l <;> simp [isWhole]; omega
    rw [hr]
    go_enter Try.func45, Try.ntmps45
    go_wp2_with (go_at_call 43; refine (good_any h).mono ?_; rintro e w1 ⟨rfl, rfl⟩)
    go_ret
    exact ⟨rfl, rfl⟩
theorem bad_any {w : World} {b : Nat} {S : Nat → Prop} {v : Value} {st : Option (List UInt8)} (h : Rd w b S v st) :
    Calls Try.prog 69 #[.pointer (some ⟨b, 0, none⟩)] w fun e w' => e = .returned (.tuple #[]) ∧ Rd w' b S (.slice none 0 0) none ∧ Mod (fun k => k = b) w w' ∧ w'.heap.size = w.heap.size := by
  obtain ⟨h0, h1⟩ := h.blk.c1
  have hf0 := h.blk.frozen 0
  have hf1 := h.blk.frozen 1
  go_enter Try.func69, Try.ntmps69
  go_wp2
  go_end0
  refine ⟨rfl, ⟨(h.blk.set_ 1 _).set_ 0 _, Sl.nil _ _, h.off⟩, ((Mod.refl (fun k => k = b) w).setCell (fun _ => rfl) _).setCell (fun _ => rfl) _, by simp [World.setCell]⟩
/-- So many bytes, taken. -/
def takeRaw (n : Int) (st : Option (List UInt8)) : List UInt8 × Option (List UInt8) :=
  match st with
  | none => ([], none)
  | some l => if n < 0 ∨ (l.length : Int) < n then ([], none) else (l.take n.toNat, some (l.drop n.toNat))
set_option maxHeartbeats 400000 in
theorem raw_any {w : World} {b : Nat} {S : Nat → Prop} {v : Value} {st : Option (List UInt8)} (hrd : Rd w b S v st) (n : Int) (hl : (st.getD []).length ≤ 281474976710656) :
    Calls Try.prog 63 #[.pointer (some ⟨b, 0, none⟩), .int .i64 n] w fun e w' => ∃ v' v1, e = .returned v1 ∧ Rd w' b S v' (takeRaw n st).2 ∧ Own w' 5 v1 ((takeRaw n st).1.map bv) ∧ Fresh w.heap.size v1 ∧ Mod (fun k => k = b) w w' := by
  obtain ⟨h0, h1⟩ := hrd.blk.c1
  cases st with
  | none =>
    go_enter Try.func63, Try.ntmps63
    go_wp2_with (go_at_call 43; refine (good_any hrd).mono ?_; rintro e w1 ⟨rfl, rfl⟩)
    go_ret
    exact ⟨v, _, rfl, hrd, Own.nil _ _, fresh_nil _ _ _, Mod.refl _ _⟩
  | some l =>
    obtain ⟨A, c, rfl, g1, g2, g3, g4⟩ := hrd.row.open_
    simp only [Option.getD_some] at h0 g1 g2 g3 g4 hl
    by_cases hn : n < 0 ∨ (l.length : Int) < n
    · have e1 : takeRaw n (some l) = ([], none) := by simp [takeRaw, hn]
      rw [e1]
      clear e1
      rcases hn with hn | hn
      · have hb1 : decide (n < 0) = true := by simpa using hn
        go_enter Try.func63, Try.ntmps63
        go_wp2_with (first | (go_at_call 43; refine (good_any hrd).mono ?_; rintro e w1 ⟨rfl, rfl⟩) | (go_at_call 69; refine (bad_any hrd).mono ?_; rintro e w1 ⟨rfl, k1, k2, k3⟩))
        go_ret
        exact ⟨_, _, rfl, k1, Own.nil _ _, fresh_nil _ _ _, k2⟩
      · have hb1 : decide (n < 0) = false := by simp; omega
        have hb2 : decide ((l.length : Int) < n) = true := by simpa using hn
        go_enter Try.func63, Try.ntmps63
        go_wp2_with (first | (go_at_call 43; refine (good_any hrd).mono ?_; rintro e w1 ⟨rfl, rfl⟩) | (go_at_call 69; refine (bad_any hrd).mono ?_; rintro e w1 ⟨rfl, k1, k2, k3⟩))
        go_ret
        exact ⟨_, _, rfl, k1, Own.nil _ _, fresh_nil _ _ _, k2⟩
    · obtain ⟨m, rfl⟩ := Int.eq_ofNat_of_zero_le (show 0 ≤ n by omega)
      have hm : m ≤ l.length := by
        have h9 : ¬ (l.length : Int) < (m : Int) := fun h => hn (.inr h)
        omega
      have e1 : takeRaw (m : Int) (some l) = (l.take m, some (l.drop m)) := by simp only [takeRaw]; rw [if_neg hn]; simp
      rw [e1]
      clear e1
      have hb1 : decide ((m : Int) < 0) = false := by rw [decide_eq_false_iff_not]; omega
      have hb2 : decide ((l.length : Int) < (m : Int)) = false := by rw [decide_eq_false_iff_not]; omega
      have hbs : Bs w S (.slice A m c) (l.take m) := Bs.begin hrd.row hm
      go_enter Try.func63, Try.ntmps63
      go_wp2_with (first | (go_at_call 43; refine (good_any hrd).mono ?_; rintro e w1 ⟨rfl, rfl⟩) | (go_at_call 57; refine (own_any hbs (by simp; omega)).mono ?_; rintro e w1 ⟨v1, rfl, k1, k2, k3, k4⟩; have h' := hrd.mod k3 (fun h => h) (fun _ _ _ h => h); obtain ⟨h0', h1'⟩ := h'.blk.c1; have hf0 := h'.blk.frozen 0))
      · have hcm : c = m := by assumption
        go_ret
        have hr : Bs w1 S _ _ := Bs.rest0 h'.row hm hcm
        refine ⟨_, v1, rfl, ⟨h'.blk.set_ 0 _, hr.mod ((Mod.refl (fun k => k = b) w1).setCell (fun _ => rfl) _) (fun k _ hs e => hrd.off (e ▸ hs)), hrd.off⟩, ?_, ?_, (k3.mono (G := fun k => k = b) fun _ _ h => h.elim).setCell (fun _ => rfl) _⟩
        · simpa using k1.mod ((Mod.refl (fun k => k = b) w1).setCell (fun _ => rfl) _) (fun k hk e => by have := hrd.blk.lt; rw [own, k2] at hk; injection hk; omega)
        · intro k hk; rw [k2] at hk; injection hk; omega
      · go_ret
        have hr : Bs w1 S _ _ := Bs.rest h'.row hm
        refine ⟨_, v1, rfl, ⟨h'.blk.set_ 0 _, hr.mod ((Mod.refl (fun k => k = b) w1).setCell (fun _ => rfl) _) (fun k _ hs e => hrd.off (e ▸ hs)), hrd.off⟩, ?_, ?_, (k3.mono (G := fun k => k = b) fun _ _ h => h.elim).setCell (fun _ => rfl) _⟩
        · simpa using k1.mod ((Mod.refl (fun k => k = b) w1).setCell (fun _ => rfl) _) (fun k hk e => by have := hrd.blk.lt; rw [own, k2] at hk; injection hk; omega)
        · intro k hk; rw [k2] at hk; injection hk; omega
end Go.Proofs.Ytmjkgibeljbloaa
namespace Go.Proofs.Ytmjkgibeljbloaa
open Go.RowKit

/-- A number, taken from the beginning of bytes: the number, and what is left. -/
def numF : Nat → Nat → Nat → List UInt8 → Option (Nat × List UInt8)
  | 0, _, _, _ => none
  | _ + 1, _, _, [] => none
  | f + 1, i, acc, c :: t =>
    if 127 < c.toNat then numF f (i + 1) (acc + c.toNat % 128 * 128 ^ i) t
    else if (0 < i ∧ c.toNat = 0) ∨ 4611686018427387904 < acc + c.toNat % 128 * 128 ^ i then none
    else some (acc + c.toNat % 128 * 128 ^ i, t)
def takeNum (l : List UInt8) : Option (Nat × List UInt8) := numF 9 0 0 l
/-- A number, taken by a Reader. -/
def takeN (st : Option (List UInt8)) : Nat × Option (List UInt8) :=
  match st with
  | none => (0, none)
  | some l => match takeNum l with
    | none => (0, none)
    | some (n, t) => (n, some t)
theorem and127 (c : UInt8) : bits .and .u8 (c.toNat : Int) 127 = ((c.toNat % 128 : Nat) : Int) := by
  have : ∀ k : Nat, k < 256 → bits .and .u8 (k : Int) 127 = ((k % 128 : Nat) : Int) := by decide +kernel
  exact this _ c.toNat_lt
theorem add_succ (ad : Addr) (k : Nat) : ad.add (k + 1) = ⟨ad.block, ad.off + (k + 1), none⟩ := by simp [Addr.add]
theorem pow128 (k : Nat) : 128 ^ k = 2 ^ (7 * k) := by rw [Nat.pow_mul]
theorem or7 (k x acc : Nat) (hk : k ≤ 8) (hx : x < 128) (ha : acc < 128 ^ k) : bits .or .u64 (acc : Int) (IntKind.u64.wrap ((x : Int) * 2 ^ (7 * k))) = ((acc + x * 128 ^ k : Nat) : Int) := by
  rw [pow128] at ha ⊢
  have h1 : 2 ^ (7 * k) ≤ 2 ^ 56 := Nat.pow_le_pow_right (by omega) (by omega)
  have h2 : x * 2 ^ (7 * k) ≤ 127 * 2 ^ 56 := Nat.mul_le_mul (by omega) h1
  have h3 : IntKind.u64.wrap ((x : Int) * 2 ^ (7 * k)) = ((x * 2 ^ (7 * k) : Nat) : Int) := by
    rw [show (x : Int) * 2 ^ (7 * k) = ((x * 2 ^ (7 * k) : Nat) : Int) by push_cast; rfl]
    generalize x * 2 ^ (7 * k) = z at *
    simp [IntKind.wrap, IntKind.bits, IntKind.signed]; omega
  rw [h3, u64_or_nat _ _ (by omega) (by omega)]
  congr 1
  rw [Nat.or_comm, ← Nat.shiftLeft_eq, ← Nat.shiftLeft_add_eq_or_of_lt ha, Nat.add_comm]
theorem acc_lt (k x acc : Nat) (hx : x < 128) (ha : acc < 128 ^ k) : acc + x * 128 ^ k < 128 ^ (k + 1) := by
  rw [Nat.pow_succ]
  have : x * 128 ^ k ≤ 127 * 128 ^ k := Nat.mul_le_mul_right _ (by omega)
  omega
theorem numF_step (f k acc : Nat) (l : List UInt8) (hk : k < l.length) : numF (f + 1) k acc (l.drop k) =
    if 127 < l[k].toNat then numF f (k + 1) (acc + l[k].toNat % 128 * 128 ^ k) (l.drop (k + 1))
    else if (0 < k ∧ l[k].toNat = 0) ∨ 4611686018427387904 < acc + l[k].toNat % 128 * 128 ^ k then none
    else some (acc + l[k].toNat % 128 * 128 ^ k, l.drop (k + 1)) := by
  rw [List.drop_eq_getElem_cons hk]
  rfl
theorem numF_out (k m acc : Nat) (l : List UInt8) (hm : m = min 9 l.length) (hk : k ≤ m) (h : ¬ k < m) : numF (9 - k) k acc (l.drop k) = none := by
  by_cases h9 : k = 9
  · rw [h9]; rfl
  · have : l.length ≤ k := by omega
    rw [List.drop_of_length_le this, show 9 - k = (8 - k) + 1 by omega]
    rfl
set_option maxHeartbeats 400000 in
theorem num_any {w : World} {b : Nat} {S : Nat → Prop} {v : Value} {st : Option (List UInt8)} (hrd : Rd w b S v st) :
    Calls Try.prog 62 #[.pointer (some ⟨b, 0, none⟩)] w fun e w' => ∃ v', e = .returned (.int .i64 (takeN st).1) ∧ Rd w' b S v' (takeN st).2 ∧ Mod (fun k => k = b) w w' ∧ w'.heap.size = w.heap.size := by
  obtain ⟨h0, h1⟩ := hrd.blk.c1
  have hf0 := hrd.blk.frozen 0
  cases st with
  | none =>
    go_enter Try.func62, Try.ntmps62
    go_wp2_with (go_at_call 43; refine (good_any hrd).mono ?_; rintro e w1 ⟨rfl, rfl⟩)
    go_ret
    exact ⟨v, rfl, hrd, Mod.refl _ _, rfl⟩
  | some l =>
    obtain ⟨A, c, rfl, g1, g2, g3, g4⟩ := hrd.row.open_
    simp only [Option.getD_some] at h0 g1 g2 g3 g4
    have hmin : ∀ (ts : Array TypeId) (t : TypeId) (w : World), (Builtin.min_ ts t #[.int .i64 9, .int .i64 (l.length : Nat)]).run Try.prog w = .ok (.int .i64 (min 9 l.length : Nat)) w := by
      intro ts t w
      rw [run_min_int2]
      congr 2; omega
    go_enter Try.func62, Try.ntmps62
    go_wp2_with (go_at_call 43; refine (good_any hrd).mono ?_; rintro e w1 ⟨rfl, rfl⟩)
    clear hmin
    have hm9 : min 9 l.length ≤ 9 ∧ min 9 l.length ≤ l.length := by omega
    obtain ⟨m, hm⟩ : ∃ m, m = min 9 l.length := ⟨_, rfl⟩
    rw [← hm] at hm9 ⊢
    have HM := Lib.hid hm
    clear hm
    go_loop [3, 15] (fun n i => ∃ k acc : Nat, k ≤ m ∧ i = .int .i64 k ∧ n = .int .u64 acc ∧ acc < 128 ^ k ∧ Hid (numF (9 - k) k acc (l.drop k) = takeNum l)) (fun _ i => m - (intOf i).toNat)
    case atStart => exact ⟨0, 0, Nat.zero_le _, rfl, rfl, by simp, rfl⟩
    case round =>
      obtain ⟨k, acc, hk, rfl, rfl, hacc, hr⟩ := hrel
      by_cases hlt : k < m
      · obtain ⟨ad, rfl, hs, hc⟩ := g4.byte (show k < l.length by omega)
        obtain ⟨x, hx⟩ : ∃ x, x = l[k].toNat % 128 := ⟨_, rfl⟩
        have hand : bits .and .u8 (l[k].toNat : Int) 127 = (x : Int) := by rw [and127, hx]
        have hx1 : x < 128 := by omega
        replace hx := Lib.hid hx
        have hor := or7 k x acc (by omega) hx1 hacc
        have hal := acc_lt k x acc hx1 hacc
        have hst := numF_step (8 - k) k acc l (by omega)
        rw [show 8 - k + 1 = 9 - k by omega, ← hx.out, hr.out] at hst
        generalize acc + x * 128 ^ k = acc' at *
        replace hst := Lib.hid hst
        by_cases hgt : 127 < l[k].toNat
        · go_wp2_with (fail)
          refine ⟨⟨k + 1, acc', by omega, by go_num, rfl, hal, Lib.hid ?_⟩, by simp [intOf]; omega⟩
          rw [hst.out, if_pos hgt, show 9 - (k + 1) = 8 - k by omega]
        · by_cases hz : (0 < k ∧ l[k].toNat = 0) ∨ 4611686018427387904 < acc'
          · have hres : takeN (some l) = (0, none) := by
              have := hst.out
              rw [if_neg hgt, if_pos hz] at this
              simp [takeN, this]
            replace hres := Lib.hid hres
            by_cases hk0 : 0 < k
            · by_cases hz0 : l[k].toNat = 0
              · have hz0' : ((l[k].toNat : Int) == 0) = true := by simp [hz0]
                clear hz0 hz
                go_wp2_with (go_at_call 69; refine (bad_any hrd).mono ?_; rintro e w2 ⟨rfl, k1, k2, k3⟩)
                go_ret
                rw [hres.out]
                exact ⟨_, rfl, k1, k2, k3⟩
              · have hz0' : ((l[k].toNat : Int) == 0) = false := by simp; omega
                have hbig : 4611686018427387904 < acc' := by omega
                clear hz0 hz
                go_wp2_with (go_at_call 69; refine (bad_any hrd).mono ?_; rintro e w2 ⟨rfl, k1, k2, k3⟩)
                go_ret
                rw [hres.out]
                exact ⟨_, rfl, k1, k2, k3⟩
            · obtain rfl : k = 0 := by omega
              simp at hal
              omega
          · have hres : takeN (some l) = (acc', some (l.drop (k + 1))) := by
              have := hst.out
              rw [if_neg hgt, if_neg hz] at this
              simp [takeN, this]
            replace hres := Lib.hid hres
            have hbig : ¬ 4611686018427387904 < acc' := fun h => hz (.inr h)
            have hrow : Bs w1 S (.slice (some ad) l.length c) l := hrd.row
            have hset : ∀ u, Mod (fun k => k = b) w1 (w1.setCell ⟨b, 0, none⟩ u) := fun u => (Mod.refl (fun k => k = b) w1).setCell (fun _ => rfl) u
            by_cases hk0 : 0 < k
            · have hz0' : ((l[k].toNat : Int) == 0) = false := by simp; omega
              clear hz
              go_wp2_with (fail)
              · have hcm : c = k + 1 := by assumption
                have hr2 := Bs.rest0 hrow (show k + 1 ≤ l.length by omega) hcm
                go_ret
                rw [hres.out]
                exact ⟨rfl, ⟨_, ⟨hrd.blk.set_ 0 _, hr2.mod (hset _) (fun k _ hs e => hrd.off (e ▸ hs)), hrd.off⟩⟩, hset _, by simp [World.setCell]⟩
              · have hr2 := Bs.rest hrow (show k + 1 ≤ l.length by omega)
                rw [Option.map_some, add_succ] at hr2
                go_ret
                rw [hres.out]
                exact ⟨rfl, ⟨_, ⟨hrd.blk.set_ 0 _, hr2.mod (hset _) (fun k _ hs e => hrd.off (e ▸ hs)), hrd.off⟩⟩, hset _, by simp [World.setCell]⟩
            · have hb0 : decide (0 < (k : Int)) = false := by simp; omega
              clear hz
              go_wp2_with (fail)
              · have hcm : c = k + 1 := by assumption
                have hr2 := Bs.rest0 hrow (show k + 1 ≤ l.length by omega) hcm
                go_ret
                rw [hres.out]
                exact ⟨rfl, ⟨_, ⟨hrd.blk.set_ 0 _, hr2.mod (hset _) (fun k _ hs e => hrd.off (e ▸ hs)), hrd.off⟩⟩, hset _, by simp [World.setCell]⟩
              · have hr2 := Bs.rest hrow (show k + 1 ≤ l.length by omega)
                rw [Option.map_some, add_succ] at hr2
                go_ret
                rw [hres.out]
                exact ⟨rfl, ⟨_, ⟨hrd.blk.set_ 0 _, hr2.mod (hset _) (fun k _ hs e => hrd.off (e ▸ hs)), hrd.off⟩⟩, hset _, by simp [World.setCell]⟩
      · have hres : takeN (some l) = (0, none) := by
          have := hr.out
          rw [numF_out k m acc l HM.out hk hlt] at this
          simp [takeN, ← this]
        replace hres := Lib.hid hres
        go_wp2_with (go_at_call 69; refine (bad_any hrd).mono ?_; rintro e w2 ⟨rfl, k1, k2, k3⟩)
        go_ret
        rw [hres.out]
        exact ⟨_, rfl, k1, k2, k3⟩
end Go.Proofs.Ytmjkgibeljbloaa
namespace Go.Proofs.Ytmjkgibeljbloaa
open Go.RowKit

theorem take_next {α : Type} {xs ys : List α} {k : Nat} (hx : k < xs.length) (hy : k < ys.length) (h : xs.take k = ys.take k) (he : xs[k] = ys[k]) : xs.take (k + 1) = ys.take (k + 1) := by
  rw [List.take_succ_eq_append_getElem hx, List.take_succ_eq_append_getElem hy, h, he]
theorem byte_bne (a b : UInt8) : ((a.toNat : Int) != (b.toNat : Int)) = decide (a ≠ b) := by
  rw [Bool.eq_iff_iff]; simp only [bne_iff_ne, ne_eq, decide_eq_true_eq, ← UInt8.toNat_inj]; omega
/-- How much rows weigh. -/
def weight (L : List (List UInt8)) : Nat := (L.map fun p => p.length + 3).sum
theorem weight_snoc (L : List (List UInt8)) (k : Nat) (h : k < L.length) : weight (L.take (k + 1)) = weight (L.take k) + (L[k].length + 3) := by
  unfold weight
  rw [List.take_succ_eq_append_getElem h, List.map_append, List.sum_append]
  simp
theorem weight_take (L : List (List UInt8)) (k : Nat) : weight (L.take k) ≤ weight L := by
  have e : weight L = weight (L.take k) + weight (L.drop k) := by
    unfold weight
    rw [← List.sum_append, ← List.map_append, List.take_append_drop]
  omega
end Go.Proofs.Ytmjkgibeljbloaa
namespace Go.Proofs.Ytmjkgibeljbloaa
open Go.RowKit
set_option maxRecDepth 100000

theorem oneb (x : Int) : ∀ u ∈ [Value.int .u8 x], u.oneCell' = true := by simp [Value.oneCell']
theorem or128' (x : Nat) (h : x < 128) : bits .or .u8 (x : Int) 128 = ((UInt8.ofNat (x + 128)).toNat : Int) := by
  have := or128 x
  rwa [show (x : Int) % 256 = x by omega, show x % 128 + 128 = x + 128 by omega] at this
theorem u64_127 (u : Nat) (h : u < 18446744073709551616) : bits .and .u64 (u : Int) 127 = ((u % 128 : Nat) : Int) := by
  have := u64_and_nat u 127 h (by omega)
  rw [show (127 : Nat) = 2 ^ 7 - 1 by decide, Nat.and_two_pow_sub_one_eq_mod] at this
  simpa using this
set_option maxHeartbeats 800000 in
theorem rnum_any {w : World} (n : Int) :
    Calls Try.prog 29 #[.int .i64 n] w fun e w' => ∃ v', e = .returned v' ∧ Own w' 5 v' ((enc7 (clamp n)).map bv) ∧ Fresh w.heap.size v' ∧ Ext w w' := by
  have hc := clamp_lt n
  have h3 : (4611686018427387904 < n) ∨ (¬ 4611686018427387904 < n ∧ 0 < n) ∨ (¬ 4611686018427387904 < n ∧ ¬ 0 < n) := by omega
  have hcl : (4611686018427387904 < n → clamp n = 4611686018427387904) ∧ (¬ 4611686018427387904 < n → 0 < n → (clamp n : Int) = n) ∧ (¬ 0 < n → clamp n = 0) := by unfold clamp; omega
  generalize clamp n = u0 at *
  replace hcl := Lib.hid hcl
  go_enter Try.func29, Try.ntmps29
  rcases h3 with hb | ⟨hb, hb2⟩ | ⟨hb, hb2⟩
  all_goals go_wp2
  all_goals
    go_loopw [3, 4] (fun i v wr => ∃ (u : Nat) (pre : List UInt8), u < 18446744073709551616 ∧ i = .int .u64 u ∧ Own wr 5 v (pre.map bv) ∧ Fresh w.heap.size v ∧ Ext w wr ∧ Hid (pre ++ enc7 u = enc7 u0)) (fun i _ _ => (intOf i).toNat)
    case atStart =>
      refine ⟨u0, [], hc, ?_, Own.nil _ _, fresh_nil _ _ _, Mod.refl _ _, rfl⟩
      first | rw [hcl.out.1 hb]; rfl | rw [hcl.out.2.1 hb hb2] | rw [hcl.out.2.2 hb2]; rfl
    case round =>
      clear hb
      try clear hb2
      obtain ⟨u, pre, hu, rfl, hown, hf, hm, he⟩ := hrel
      have hlen : pre.length + (enc7 u).length ≤ 10 := by
        rw [← List.length_append, he.out]; exact enc7_length 9 u0 (by omega)
      have hpos := enc7_pos u
      by_cases hlt : u < 128
      · go_wp2_with ((with_reducible show wpList _ _ _ (⟨some 26, _, _, _, _, _⟩ :: _) _ _); refine wp_app tyB (hown.alloc _) (Sl.one _ _ _) (by simp [Value.oneCell']) rfl (.tmp 22) (.tmp 25) rfl rfl rfl ?hn ?_; rotate_right; intro v1 w1 hown1 hmod1 hnx1)
        case hn => simp; omega
        go_ret
        have e1 : (Value.int .u8 (u : Int)) = bv (UInt8.ofNat u) := by unfold bv; rw [u8_ofNat _ (by omega)]
        rw [e1] at hown1 hnx1 hmod1
        refine ⟨v1, rfl, ?_, hnx1.fresh hf (Nat.le_trans hm.size (by simp)), ext_app hm hf hmod1⟩
        rw [← he.out, enc7_lo hlt, List.map_append]; exact hown1
      · obtain ⟨x, hx⟩ : ∃ x, x = u % 128 := ⟨_, rfl⟩
        have hand : bits .and .u64 (u : Int) 127 = (x : Int) := by rw [u64_127 u hu, hx]
        have hx1 : x < 128 := by omega
        have hor := or128' x hx1
        replace hx := Lib.hid hx
        go_wp2_with ((with_reducible show wpList _ _ _ (⟨some 19, _, _, _, _, _⟩ :: _) _ _); refine wp_app tyB (hown.alloc _) (Sl.one _ _ _) (by simp [Value.oneCell']) rfl (.tmp 13) (.tmp 18) rfl rfl rfl ?hn ?_; rotate_right; intro v1 w1 hown1 hmod1 hnx1)
        case hn => simp; omega
        refine ⟨⟨u / 128, pre ++ [UInt8.ofNat (x + 128)], by omega, by simp, by rw [List.map_append]; exact hown1, hnx1.fresh hf (Nat.le_trans hm.size (by simp)), ext_app hm hf hmod1, Lib.hid ?_⟩, by simp [intOf]; omega⟩
        rw [← he.out, enc7_hi hlt, List.append_assoc, hx.out]; rfl
set_option maxHeartbeats 400000 in
theorem rbytes_any {w : World} {S : Nat → Prop} {y : Value} {l : List UInt8} (hy : Bs w S y l) (hl : l.length + 10 ≤ 140737488355328) :
    Calls Try.prog 30 #[y] w fun e w' => ∃ v', e = .returned v' ∧ Own w' 5 v' ((enc7 l.length ++ l).map bv) ∧ Fresh w.heap.size v' ∧ Ext w w' := by
  obtain ⟨A, c, rfl, h1, h2, h3, h4⟩ := hy.open_
  have hcl := clamp_nat l.length (by omega)
  have hle2 := enc7_length 9 l.length (by omega)
  go_enter Try.func30, Try.ntmps30
  go_wp2_with (first
    | (go_at_call 29; refine (rnum_any _).mono ?_; rintro e w1 ⟨v1, rfl, g1, g2, g3⟩; rw [hcl] at g1; have hy1 := hy.ext g3)
    | ((with_reducible show wpList _ _ _ (⟨some 7, _, _, _, _, _⟩ :: _) _ _); refine wp_app tyB g1 hy1 (bv_one _) rfl (.tmp 5) (.tmp 6) rfl rfl rfl ?hn ?_; rotate_right; intro v2 w2 hown2 hmod2 hnx2))
  case hn => simp; omega
  go_ret
  exact ⟨_, rfl, by rw [List.map_append]; exact hown2, hnx2.fresh g2 g3.size, ext_app0 g3 g2 hmod2⟩
/-- All rows, one behind the other. -/
theorem flat_snoc (L : List (List UInt8)) (k : Nat) (h : k < L.length) : (L.take (k + 1)).flatten = (L.take k).flatten ++ L[k] := by
  rw [List.take_succ_eq_append_getElem h, List.flatten_append]
  simp
theorem flat_take (L : List (List UInt8)) (k : Nat) : (L.take k).flatten.length ≤ L.flatten.length := by
  have e : L.flatten = (L.take k).flatten ++ (L.drop k).flatten := by
    rw [← List.flatten_append, List.take_append_drop]
  rw [e, List.length_append]; omega
def flen (L : List (List UInt8)) (k : Nat) : Nat := (L.take k).flatten.length
theorem flen_snoc (L : List (List UInt8)) (k : Nat) (h : k < L.length) : flen L (k + 1) = flen L k + L[k].length := by
  unfold flen; rw [flat_snoc L k h, List.length_append]
theorem flen_le (L : List (List UInt8)) (k : Nat) : flen L k ≤ L.flatten.length := flat_take L k
theorem flen_all (L : List (List UInt8)) (k : Nat) (h : L.length ≤ k) : flen L k = L.flatten.length := by unfold flen; rw [List.take_of_length_le h]
/-- A row taken by a Reader. -/
def takeB (st : Option (List UInt8)) : List UInt8 × Option (List UInt8) := takeRaw (takeN st).1 (takeN st).2
theorem numF_lt (f : Nat) : ∀ (i acc : Nat) (l t : List UInt8) (n : Nat), numF f i acc l = some (n, t) → t.length < l.length ∧ n ≤ 4611686018427387904 := by
  induction f with
  | zero => intro i acc l t n h; cases h
  | succ f ih =>
    intro i acc l t n h
    cases l with
    | nil => cases h
    | cons c l =>
      simp only [numF] at h
      split at h
      · have := ih _ _ _ _ _ h
        simp; omega
      · split at h
        · cases h
        · rename_i h1
          injection h with h
          injection h with h2 h3
          subst h3
          constructor
          · simp
          · rw [← h2]
            have : ¬ 4611686018427387904 < acc + c.toNat % 128 * 128 ^ i := fun h => h1 (.inr h)
            omega
theorem takeN_len (st : Option (List UInt8)) : ((takeN st).2.getD []).length ≤ (st.getD []).length := by
  cases st with
  | none => simp [takeN]
  | some l =>
    cases h : takeNum l with
    | none => simp [takeN, h]
    | some p =>
      obtain ⟨n, t⟩ := p
      have := (numF_lt _ _ _ _ _ _ h).1
      simp [takeN, h]; omega
theorem bytes_any {w : World} {b : Nat} {S : Nat → Prop} {v : Value} {st : Option (List UInt8)} (hrd : Rd w b S v st) (hl : (st.getD []).length ≤ 281474976710656) :
    Calls Try.prog 44 #[.pointer (some ⟨b, 0, none⟩)] w fun e w' => ∃ v' v1, e = .returned v1 ∧ Rd w' b S v' (takeB st).2 ∧ Own w' 5 v1 ((takeB st).1.map bv) ∧ Fresh w.heap.size v1 ∧ Mod (fun k => k = b) w w' := by
  have hle := takeN_len st
  go_enter Try.func44, Try.ntmps44
  go_wp2_with (first
    | (go_at_call 62; refine (num_any hrd).mono ?_; rintro e w1 ⟨v1, rfl, g1, g2, g3⟩)
    | (go_at_call 63; refine (raw_any g1 _ (by omega)).mono ?_; rintro e w2 ⟨v2, v3, rfl, k1, k2, k3, k4⟩))
  go_ret
  exact ⟨v2, v3, rfl, k1, k2, k3.mono (by omega), g2.trans k4 (fun _ _ h => h) (fun _ _ h => h)⟩
end Go.Proofs.Ytmjkgibeljbloaa
namespace Go.Proofs.Ytmjkgibeljbloaa
open Go.RowKit
set_option maxRecDepth 100000

/-- The block that a Writer's variable begins as, and numbers handed to it. -/
theorem known_start (w : World) : Wr ((w.alloc (.cells #[.slice none 0 0] 54)).alloc (.cells #[.int .i64 1, .int .i64 300] 3)) w.heap.size (.slice none 0 0) [] ∧
    Is ((w.alloc (.cells #[.slice none 0 0] 54)).alloc (.cells #[.int .i64 1, .int .i64 300] 3)) (fun k => k = w.heap.size + 1) (.slice (some ⟨w.heap.size + 1, 0, none⟩) 2 2) [1, 300] := by
  refine ⟨⟨(Blk.new _ _ _).alloc _, Own.nil _ _⟩, ?_⟩
  have := Sl.lit (w.alloc (.cells #[.slice none 0 0] 54)) 3 [iv 1, iv 300] (by simp [maxLen])
  rw [show (w.alloc (.cells #[.slice none 0 0] 54)).heap.size = w.heap.size + 1 by simp] at this
  exact this
end Go.Proofs.Ytmjkgibeljbloaa
namespace Go.Proofs.Ytmjkgibeljbloaa
open Go.RowKit
set_option maxRecDepth 100000

theorem enc7_step (V : Nat) : (enc7 V).length = 1 + (if V / 128 = 0 then 0 else (enc7 (V / 128)).length) := by
  by_cases h : V < 128
  · rw [enc7_lo h, if_pos (by omega)]; rfl
  · rw [enc7_hi h, if_neg (by omega)]; simp; omega
end Go.Proofs.Ytmjkgibeljbloaa
namespace Go.Proofs.Ytmjkgibeljbloaa
open Go.RowKit
set_option maxRecDepth 100000

theorem numF_enc7 (f : Nat) : ∀ (i acc V : Nat) (rest : List UInt8), (enc7 V).length ≤ f → (0 < i → 0 < V) → acc + V * 128 ^ i ≤ 4611686018427387904 →
    numF f i acc (enc7 V ++ rest) = some (acc + V * 128 ^ i, rest) := by
  induction f with
  | zero => intro i acc V rest h; have := enc7_pos V; omega
  | succ f ih =>
    intro i acc V rest h h0 hb
    by_cases hv : V < 128
    · rw [enc7_lo hv]
      have e := u8_ofNat V (by omega)
      have e2 : (UInt8.ofNat V).toNat = V := by omega
      simp only [List.cons_append, List.nil_append, numF, e2]
      rw [if_neg (by omega), Nat.mod_eq_of_lt hv, if_neg (by omega)]
    · rw [enc7_hi hv] at h ⊢
      have e := u8_ofNat (V % 128 + 128) (by omega)
      have e2 : (UInt8.ofNat (V % 128 + 128)).toNat = V % 128 + 128 := by omega
      simp only [List.cons_append, numF, e2]
      rw [if_pos (by omega), show (V % 128 + 128) % 128 = V % 128 by omega]
      have e3 : acc + V % 128 * 128 ^ i + V / 128 * 128 ^ (i + 1) = acc + V * 128 ^ i := by
        rw [Nat.pow_succ, Nat.add_assoc]
        congr 1
        have : V / 128 * (128 ^ i * 128) = (V / 128 * 128) * 128 ^ i := by rw [Nat.mul_comm (128 ^ i) 128, Nat.mul_assoc]
        rw [this, ← Nat.add_mul]
        congr 1; omega
      rw [ih (i + 1) _ (V / 128) rest (by simpa using h) (fun _ => by omega) (by rw [e3]; exact hb), e3]
/-- What was laid is taken as it was. -/
theorem takeN_enc (V : Nat) (rest : List UInt8) (h : V ≤ 4611686018427387904) : takeN (some (enc7 V ++ rest)) = (V, some rest) := by
  have := numF_enc7 9 0 0 V rest (enc7_length 8 V (by omega)) (by omega) (by omega)
  simp only [Nat.pow_zero, Nat.mul_one, Nat.zero_add] at this
  simp only [takeN, takeNum, this]
theorem clamp_le (v : Int) : clamp v ≤ 4611686018427387904 := by unfold clamp; omega
theorem encs_drop (l : List Int) (k : Nat) (h : k < l.length) : encs (l.drop k) = enc7 (clamp l[k]) ++ encs (l.drop (k + 1)) := by
  unfold encs
  rw [List.drop_eq_getElem_cons h, List.flatMap_cons]
theorem Rd.drewN {w : World} {b : Nat} {S : Nat → Prop} {v : Value} {st : Option (List UInt8)} (h : Rd w b S v st) (n : Nat) : Rd (w.drewN n) b S v st := ⟨h.blk, h.row, h.off⟩
end Go.Proofs.Ytmjkgibeljbloaa
namespace Go.Proofs.Ytmjkgibeljbloaa
open Go.RowKit
set_option maxRecDepth 100000

theorem weight_flat (L : List (List UInt8)) : L.flatten.length ≤ weight L := by
  unfold weight
  induction L with
  | nil => simp
  | cons a L ih => simp only [List.flatten_cons, List.length_append, List.map_cons, List.sum_cons]; omega
end Go.Proofs.Ytmjkgibeljbloaa
namespace Go.Proofs.Ytmjkgibeljbloaa
open Go.RowKit
set_option maxRecDepth 100000

theorem tyR : SliceTy Try.prog 90 26 (.slice none 0 0) 24 := ⟨Try.underlying90, by kernel_rfl, rfl, by omega⟩
/-- Rows with the values that hold them named. -/
theorem Rw.vals {w : World} {S : Nat → Prop} {v : Value} {L : List (List UInt8)} (h : Rw w S v L) : ∃ vs : List Value, vs.length = L.length ∧ Sl w S v vs ∧ (∀ (k : Nat) (x : Value) (l : List UInt8), vs[k]? = some x → L[k]? = some l → Bs w S x l) ∧ ∀ u ∈ vs, u.oneCell' = true := by
  obtain ⟨vs, h1, h2, h3⟩ := h
  refine ⟨vs, h1, h2, h3, fun u hu => ?_⟩
  obtain ⟨k, hk, rfl⟩ := List.mem_iff_getElem.1 hu
  obtain ⟨A, c, he, _⟩ := h3 k vs[k] (L[k]'(by omega)) (by simp [hk]) (by simp [h1 ▸ hk])
  rw [he]; rfl
/-- Two lists of rows in one of the call's own. -/
theorem Rw.join {w w' : World} {S : Nat → Prop} {v : Value} {L M : List (List UInt8)} {vs us : List Value} (hown : Own w' 26 v (vs ++ us)) (hx : Ext w w') (h1 : vs.length = L.length) (h2 : us.length = M.length)
    (h3 : ∀ (k : Nat) (x : Value) (l : List UInt8), vs[k]? = some x → L[k]? = some l → Bs w S x l) (h4 : ∀ (k : Nat) (x : Value) (l : List UInt8), us[k]? = some x → M[k]? = some l → Bs w S x l) :
    Rw w' (fun k => S k ∨ own v k) v (L ++ M) := by
  refine ⟨vs ++ us, by simp [h1, h2], hown.sl.mono (fun _ _ h => .inr h), fun k x l hx' hl => ?_⟩
  by_cases hk : k < vs.length
  · rw [List.getElem?_append_left hk] at hx'
    rw [List.getElem?_append_left (by omega)] at hl
    exact ((h3 k x l hx' hl).ext hx).mono (fun _ _ h => .inl h)
  · rw [List.getElem?_append_right (by omega)] at hx'
    rw [List.getElem?_append_right (by omega)] at hl
    rw [h1] at hx'
    exact ((h4 _ x l hx' hl).ext hx).mono (fun _ _ h => .inl h)
end Go.Proofs.Ytmjkgibeljbloaa
namespace Go.Proofs.Ytmjkgibeljbloaa
open Go.RowKit
set_option maxRecDepth 100000

theorem takeB_enc (p rest : List UInt8) (h : p.length ≤ 4611686018427387904) : takeB (some (enc7 p.length ++ p ++ rest)) = (p, some rest) := by
  unfold takeB
  rw [List.append_assoc, takeN_enc _ _ h]
  simp only [takeRaw]
  rw [if_neg (by simp only [List.length_append]; omega)]
  simp
theorem encr_drop (L : List (List UInt8)) (k : Nat) (h : k < L.length) : encr (L.drop k) = enc7 L[k].length ++ L[k] ++ encr (L.drop (k + 1)) := by
  unfold encr
  rw [List.drop_eq_getElem_cons h, List.flatMap_cons]
theorem encr_one (p : List UInt8) : encr [p] = enc7 p.length ++ p := by simp [encr]
theorem encr_len (L : List (List UInt8)) : (encr L).length ≤ 10 * weight L := by
  unfold encr weight
  induction L with
  | nil => simp
  | cons a L ih =>
    have h2 : (enc7 a.length).length ≤ a.length + 1 := by
      by_cases h : a.length < 128
      · rw [enc7_lo h]; simp
      · have := enc7_length a.length a.length (by
          have h1 : a.length < 2 ^ a.length := Nat.lt_two_pow_self
          have h2 : 2 ^ a.length ≤ 2 ^ (7 * (a.length + 1)) := Nat.pow_le_pow_right (by omega) (by omega)
          omega)
        exact this
    simp only [List.flatMap_cons, List.length_append, List.map_cons, List.sum_cons]
    omega
theorem len_le_weight (L : List (List UInt8)) (k : Nat) (h : k < L.length) : L[k].length ≤ weight L := by
  have h1 := weight_snoc L k h
  have h2 := weight_take L (k + 1)
  omega
theorem roomy_begin {w : World} {A : Option Addr} {c : Nat} {l : List UInt8} (h : Own w 5 (.slice A (l.length + 1) c) ((l ++ [171]).map bv)) : Bs w (own (.slice A (l.length + 1) c)) (.slice A l.length c) l := by
  have h1 : Bs w (own (.slice A (l.length + 1) c)) (.slice A (l ++ [171]).length c) (l ++ [171]) := by
    have e : (l ++ [(171 : UInt8)]).length = l.length + 1 := by simp
    rw [e]; exact h.sl
  have := Bs.begin h1 (m := l.length) (by simp)
  rwa [List.take_append_of_le_length (Nat.le_refl _), List.take_of_length_le (Nat.le_refl _)] at this
end Go.Proofs.Ytmjkgibeljbloaa
namespace Go.Proofs.Ytmjkgibeljbloaa
open Go.RowKit
set_option maxRecDepth 100000

/-- The document's Reader behind a pointer: what is left, or that it erred. -/
structure Rr (w : World) (b : Nat) (S : Nat → Prop) (v : Value) (st : Option (List UInt8)) : Prop where
  blk : Blk w b 81 #[v, .bool st.isNone]
  row : Bs w S v (st.getD [])
  off : ¬ S b
theorem Rr.mod {F S : Nat → Prop} {w w' : World} {b : Nat} {v : Value} {st : Option (List UInt8)} (h : Rr w b S v st) (hm : Mod F w w') (hb : ¬ F b) (hv : ∀ k, k < w.heap.size → S k → ¬ F k) : Rr w' b S v st :=
  ⟨h.blk.mod hm hb, h.row.mod hm hv, h.off⟩
theorem rbad_any {w : World} {b : Nat} {S : Nat → Prop} {v : Value} {st : Option (List UInt8)} (h : Rr w b S v st) :
    Calls Try.prog 65 #[.pointer (some ⟨b, 0, none⟩)] w fun e w' => e = .returned (.tuple #[]) ∧ Rr w' b S (.slice none 0 0) none ∧ Mod (fun k => k = b) w w' ∧ w'.heap.size = w.heap.size := by
  obtain ⟨h0, h1⟩ := h.blk.c1
  have hf0 := h.blk.frozen 0
  have hf1 := h.blk.frozen 1
  go_enter Try.func65, Try.ntmps65
  go_wp2
  go_end0
  refine ⟨rfl, ⟨(h.blk.set_ 1 _).set_ 0 _, Sl.nil _ _, h.off⟩, ((Mod.refl (fun k => k = b) w).setCell (fun _ => rfl) _).setCell (fun _ => rfl) _, by simp [World.setCell]⟩
set_option maxHeartbeats 800000 in
theorem rraw_any {w : World} {b : Nat} {S : Nat → Prop} {v : Value} {st : Option (List UInt8)} (hrd : Rr w b S v st) (n : Int) (hl : (st.getD []).length ≤ 140737488355328) :
    Calls Try.prog 64 #[.pointer (some ⟨b, 0, none⟩), .int .i64 n] w fun e w' => ∃ v' v1, e = .returned v1 ∧ Rr w' b S v' (takeRaw n st).2 ∧ Own w' 5 v1 ((takeRaw n st).1.map bv) ∧ Fresh w.heap.size v1 ∧ Mod (fun k => k = b) w w' := by
  obtain ⟨h0, h1⟩ := hrd.blk.c1
  cases st with
  | none =>
    have hv : ∃ A c, v = .slice A 0 c := by obtain ⟨A, c, h, _⟩ := hrd.row; exact ⟨A, c, h⟩
    obtain ⟨A, c, rfl⟩ := hv
    rcases Int.lt_trichotomy n 0 with hn | hn | hn
    · have hb1 : decide (n < 0) = true := by simpa using hn
      go_enter Try.func64, Try.ntmps64
      go_wp2_with (go_at_call 65; refine (rbad_any hrd).mono ?_; rintro e w1 ⟨rfl, k1, k2, k3⟩; obtain ⟨h0', h1'⟩ := k1.blk.c1)
      go_ret
      exact ⟨_, _, rfl, k1, Own.nil _ _, fresh_nil _ _ _, k2⟩
    · subst hn
      go_enter Try.func64, Try.ntmps64
      go_wp2
      go_ret
      exact ⟨_, _, rfl, hrd, Own.nil _ _, fresh_nil _ _ _, Mod.refl _ _⟩
    · have hb1 : decide (n < 0) = false := by simp; omega
      have hb2 : decide ((0 : Int) < n) = true := by simpa using hn
      go_enter Try.func64, Try.ntmps64
      go_wp2_with (go_at_call 65; refine (rbad_any hrd).mono ?_; rintro e w1 ⟨rfl, k1, k2, k3⟩; obtain ⟨h0', h1'⟩ := k1.blk.c1)
      go_ret
      exact ⟨_, _, rfl, k1, Own.nil _ _, fresh_nil _ _ _, k2⟩
  | some l =>
    obtain ⟨A, c, rfl, g1, g2, g3, g4⟩ := hrd.row.open_
    simp only [Option.getD_some] at h0 g1 g2 g3 g4 hl
    by_cases hn : n < 0 ∨ (l.length : Int) < n
    · have e1 : takeRaw n (some l) = ([], none) := by simp [takeRaw, hn]
      rw [e1]
      clear e1
      rcases hn with hn | hn
      · have hb1 : decide (n < 0) = true := by simpa using hn
        go_enter Try.func64, Try.ntmps64
        go_wp2_with (go_at_call 65; refine (rbad_any hrd).mono ?_; rintro e w1 ⟨rfl, k1, k2, k3⟩; obtain ⟨h0', h1'⟩ := k1.blk.c1)
        go_ret
        exact ⟨_, _, rfl, k1, Own.nil _ _, fresh_nil _ _ _, k2⟩
      · have hb1 : decide (n < 0) = false := by simp; omega
        have hb2 : decide ((l.length : Int) < n) = true := by simpa using hn
        go_enter Try.func64, Try.ntmps64
        go_wp2_with (go_at_call 65; refine (rbad_any hrd).mono ?_; rintro e w1 ⟨rfl, k1, k2, k3⟩; obtain ⟨h0', h1'⟩ := k1.blk.c1)
        go_ret
        exact ⟨_, _, rfl, k1, Own.nil _ _, fresh_nil _ _ _, k2⟩
    · obtain ⟨m, rfl⟩ := Int.eq_ofNat_of_zero_le (show 0 ≤ n by omega)
      have hm : m ≤ l.length := by
        have h9 : ¬ (l.length : Int) < (m : Int) := fun h => hn (.inr h)
        omega
      have e1 : takeRaw (m : Int) (some l) = (l.take m, some (l.drop m)) := by simp only [takeRaw]; rw [if_neg hn]; simp
      rw [e1]
      clear e1
      have hb1 : decide ((m : Int) < 0) = false := by rw [decide_eq_false_iff_not]; omega
      have hb2 : decide ((l.length : Int) < (m : Int)) = false := by rw [decide_eq_false_iff_not]; omega
      have hbs : Bs w S (.slice A m c) (l.take m) := Bs.begin hrd.row hm
      obtain ⟨h0a, h1a⟩ := (hrd.blk.alloc (.cells #[] 5)).c1
      go_enter Try.func64, Try.ntmps64
      go_wp2_with ((with_reducible show wpList _ _ _ (⟨some 30, _, _, _, _, _⟩ :: _) _ _); refine wp_app tyB (Own.empty w 5) (hbs.alloc _) (bv_one _) rfl (.tmp 23) (.tmp 29) rfl rfl rfl ?hn ?_; rotate_right; intro v1 w1 k1 hmod1 hnx1; have hfr0 : Fresh w.heap.size (.slice (some ⟨w.heap.size, 0, none⟩) 0 0) := (fun k hk => by have : w.heap.size = k := Option.some.inj hk; omega); have k3 : Ext w w1 := ext_app (Mod.refl _ w) hfr0 hmod1; have k2 : Fresh w.heap.size v1 := hnx1.fresh hfr0 (by simp); have h' := hrd.mod k3 (fun h => h) (fun _ _ _ h => h); obtain ⟨h0', h1'⟩ := h'.blk.c1; have hf0 := h'.blk.frozen 0)
      case hn => simp; omega
      all_goals
        have hset : ∀ u, Mod (fun k => k = b) w1 (w1.setCell ⟨b, 0, none⟩ u) := fun u => (Mod.refl (fun k => k = b) w1).setCell (fun _ => rfl) u
        have hall : ∀ (x : Value), Bs w1 S x (l.drop m) → ∃ v' v1', v1 = v1' ∧ Rr (w1.setCell ⟨b, 0, none⟩ x) b S v' (some (l.drop m)) ∧ Own (w1.setCell ⟨b, 0, none⟩ x) 5 v1' ((l.take m).map bv) ∧ Fresh w.heap.size v1' ∧ Mod (fun k => k = b) w (w1.setCell ⟨b, 0, none⟩ x) := fun x hx =>
          ⟨x, v1, rfl, ⟨h'.blk.set_ 0 _, hx.mod (hset _) (fun k _ hs e => hrd.off (e ▸ hs)), h'.off⟩, (show Own w1 5 v1 ((l.take m).map bv) by simpa using k1).mod (hset _) (fun k hk e => by have := hrd.blk.lt; have := k2 k hk; omega), k2, (k3.mono (G := fun k => k = b) fun _ _ h => h.elim).setCell (fun _ => rfl) _⟩
        go_ret
        first
          | (have hcm : c = m := by assumption
             obtain ⟨v', v1', e1, q1, q2, q3, q4⟩ := hall _ (Bs.rest0 h'.row hm hcm)
             exact ⟨v', v1, rfl, q1, by rw [e1]; simpa using q2, by rw [e1]; exact q3, q4⟩)
          | (obtain ⟨v', v1', e1, q1, q2, q3, q4⟩ := hall _ (Bs.rest h'.row hm)
             exact ⟨v', v1, rfl, q1, by rw [e1]; simpa using q2, by rw [e1]; exact q3, q4⟩)
set_option maxHeartbeats 1600000 in
theorem rrnum_any {w : World} {b : Nat} {S : Nat → Prop} {v : Value} {st : Option (List UInt8)} (hrd : Rr w b S v st) (hl : (st.getD []).length ≤ 140737488355328) :
    Calls Try.prog 47 #[.pointer (some ⟨b, 0, none⟩)] w fun e w' => ∃ v', e = .returned (.int .i64 (takeN st).1) ∧ Rr w' b S v' (takeN st).2 ∧ Mod (fun k => k = b) w w' := by
  cases st with
  | none =>
    go_enter Try.func47, Try.ntmps47
    go_wp2
    go_loopw [4] (fun i wr => i = .int .i64 0 ∧ wr = w) (fun _ _ => 0)
    case atStart => exact ⟨rfl, rfl⟩
    case round =>
      obtain ⟨rfl, rfl⟩ := hrel
      go_wp2_with fail
      refine (rraw_any hrd 1 (by simp)).mono ?_
      rintro e w1 ⟨v1, x, rfl, q1, q2, q3, q4⟩
      obtain ⟨h0', h1'⟩ := q1.blk.c1
      go_wp2_with fail
      go_ret
      exact ⟨v1, rfl, q1, q4⟩
  | some l =>
    go_enter Try.func47, Try.ntmps47
    go_wp2
    go_loopw [3, 4] (fun n i wr => ∃ (k acc : Nat) (v' : Value), k ≤ 9 ∧ k ≤ l.length ∧ i = .int .i64 k ∧ n = .int .u64 acc ∧ acc < 128 ^ k ∧ Hid (numF (9 - k) k acc (l.drop k) = takeNum l) ∧ Rr wr b S v' (some (l.drop k)) ∧ Mod (fun k => k = b) w wr) (fun _ i _ => 10 - (intOf i).toNat)
    case atStart => exact ⟨0, 0, v, by omega, by omega, rfl, rfl, by simp, rfl, hrd, Mod.refl _ _⟩
    case round =>
      obtain ⟨k, acc, v', hk, hkl, rfl, rfl, hacc, hr, hrr, hm⟩ := hrel
      by_cases hlt : k < l.length
      · have hlp : 0 < (l.drop k).length := by simp; omega
        have hone : takeRaw 1 (some (l.drop k)) = ([l[k]], some (l.drop (k + 1))) := by
          simp only [takeRaw]
          rw [if_neg (by omega)]
          have e1 : l.drop k = l[k] :: l.drop (k + 1) := List.drop_eq_getElem_cons hlt
          rw [e1]
          rfl
        go_wp2_with fail
        refine (rraw_any hrr 1 (by simp at hl ⊢; omega)).mono ?_
        rintro e w1 ⟨v1, x, rfl, q1, q2, q3, q4⟩
        rw [hone] at q1 q2
        have hm1 := hm.then_ q4 (fun _ _ h => h)
        obtain ⟨h0', h1'⟩ := q1.blk.c1
        obtain ⟨g, cx, rfl, hcx⟩ : ∃ g cx, x = .slice (some ⟨g, 0, none⟩) 1 cx ∧ w1.cell? ⟨g, 0, none⟩ = some (.int .u8 (l[k].toNat : Int)) := by
          rcases q2.form with ⟨_, h⟩ | ⟨g, cap, hx, _⟩
          · simp at h
          · refine ⟨g, cap, by simpa using hx, ?_⟩
            rw [hx] at q2
            have := q2.cellAt (j := 0) (by simp)
            simpa using this
        clear q2 q3 q4 hrr hm hlp hone
        have hnone : (k = 9 → takeN (some l) = (0, none)) := by
          intro h9
          have := hr.out
          rw [h9] at this
          simp [takeN, ← this, numF]
        obtain ⟨x, hx⟩ : ∃ x, x = l[k].toNat % 128 := ⟨_, rfl⟩
        obtain ⟨B, hB⟩ : ∃ B, B = l[k].toNat := ⟨_, rfl⟩
        have hB256 : B < 256 := by rw [hB]; exact l[k].toNat_lt
        have hand : bits .and .u8 (B : Int) 127 = (x : Int) := by rw [hB, and127, hx]
        have hx1 : x < 128 := by omega
        have hxB : x = B % 128 := by rw [hB]; exact hx
        rw [← hB] at hcx
        by_cases h9 : k = 9
        · subst h9
          have hres := Lib.hid (hnone rfl)
          replace hx := Lib.hid hx
          replace hB := Lib.hid hB
          replace hxB := Lib.hid hxB
          by_cases c1 : 127 < B
          · go_wp2_with (go_at_call 65; refine (rbad_any q1).mono ?_; rintro e w2 ⟨rfl, k1, k2, k3⟩)
            go_ret
            rw [hres.out]
            exact ⟨_, rfl, k1, hm1.then_ k2 (fun _ _ h => h)⟩
          · by_cases c2 : 1 < B
            · go_wp2_with (go_at_call 65; refine (rbad_any q1).mono ?_; rintro e w2 ⟨rfl, k1, k2, k3⟩)
              go_ret
              rw [hres.out]
              exact ⟨_, rfl, k1, hm1.then_ k2 (fun _ _ h => h)⟩
            · by_cases c3 : B = 0
              · have hz0' : ((B : Int) == 0) = true := by simp [c3]
                clear c3
                go_wp2_with (go_at_call 65; refine (rbad_any q1).mono ?_; rintro e w2 ⟨rfl, k1, k2, k3⟩)
                go_ret
                rw [hres.out]
                exact ⟨_, rfl, k1, hm1.then_ k2 (fun _ _ h => h)⟩
              · have hz0' : ((B : Int) == 0) = false := by simp; omega
                have hB1 : B = 1 := by omega
                subst hB1
                obtain ⟨z, hz1, hz2⟩ : ∃ z : Nat, bits .or .u64 (acc : Int) 9223372036854775808 = (z : Int) ∧ 4611686018427387904 < z := by
                  refine ⟨acc ||| 9223372036854775808, ?_, ?_⟩
                  · have h9 : acc < 18446744073709551616 := Nat.lt_of_lt_of_le hacc (by decide)
                    have h10 := u64_or_nat acc 9223372036854775808 h9 (by omega)
                    rwa [show ((9223372036854775808 : Nat) : Int) = 9223372036854775808 from rfl] at h10
                  · have := Nat.right_le_or (n := acc) (m := 9223372036854775808); omega
                have hx1' : x = 1 := hxB.out
                subst hx1'
                have hwr : IntKind.u64.wrap (IntKind.u64.wrap (bits BinOp.and IntKind.u8 1 127) * 9223372036854775808) = 9223372036854775808 := by decide
                clear hz0' c1 c2 c3 hx1 hB256 hand
                go_wp2_with (go_at_call 65; refine (rbad_any q1).mono ?_; rintro e w2 ⟨rfl, k1, k2, k3⟩)
                go_ret
                rw [hres.out]
                exact ⟨_, rfl, k1, hm1.then_ k2 (fun _ _ h => h)⟩
        · have hb9 : ((k : Int) == 9) = false := by simp; omega
          have hor := or7 k x acc (by omega) hx1 hacc
          have hal := acc_lt k x acc hx1 hacc
          have hst := numF_step (8 - k) k acc l hlt
          rw [show 8 - k + 1 = 9 - k by omega, ← hx, hr.out, ← hB] at hst
          generalize acc + x * 128 ^ k = acc' at *
          replace hst := Lib.hid hst
          replace hx := Lib.hid hx
          replace hB := Lib.hid hB
          replace hxB := Lib.hid hxB
          replace hnone := Lib.hid hnone
          by_cases hgt : 127 < B
          · go_wp2_with fail
            refine ⟨⟨k + 1, acc', v1, by omega, by omega, by go_num, rfl, hal, Lib.hid ?_, q1, hm1⟩, by simp [intOf]; omega⟩
            rw [hst.out, if_pos hgt, show 9 - (k + 1) = 8 - k by omega]
          · by_cases hz : (0 < k ∧ B = 0) ∨ 4611686018427387904 < acc'
            · have hres : takeN (some l) = (0, none) := by
                have := hst.out
                rw [if_neg hgt, if_pos hz] at this
                simp [takeN, this]
              replace hres := Lib.hid hres
              by_cases hk0 : 0 < k
              · by_cases hz0 : B = 0
                · have hz0' : ((B : Int) == 0) = true := by simp [hz0]
                  clear hz0 hz
                  go_wp2_with (go_at_call 65; refine (rbad_any q1).mono ?_; rintro e w2 ⟨rfl, k1, k2, k3⟩)
                  go_ret
                  rw [hres.out]
                  exact ⟨_, rfl, k1, hm1.then_ k2 (fun _ _ h => h)⟩
                · have hz0' : ((B : Int) == 0) = false := by simp; omega
                  have hbig : 4611686018427387904 < acc' := by omega
                  clear hz0 hz
                  go_wp2_with (go_at_call 65; refine (rbad_any q1).mono ?_; rintro e w2 ⟨rfl, k1, k2, k3⟩)
                  go_ret
                  rw [hres.out]
                  exact ⟨_, rfl, k1, hm1.then_ k2 (fun _ _ h => h)⟩
              · obtain rfl : k = 0 := by omega
                simp at hal
                omega
            · have hres : takeN (some l) = (acc', some (l.drop (k + 1))) := by
                have := hst.out
                rw [if_neg hgt, if_neg hz] at this
                simp [takeN, this]
              replace hres := Lib.hid hres
              have hbig : ¬ 4611686018427387904 < acc' := fun h => hz (.inr h)
              by_cases hk0 : 0 < k
              · have hz0' : ((B : Int) == 0) = false := by simp; omega
                clear hz
                go_wp2_with (fail)
                go_ret
                rw [hres.out]
                exact ⟨_, rfl, q1, hm1⟩
              · have hb0 : decide (0 < (k : Int)) = false := by simp; omega
                clear hz
                go_wp2_with (fail)
                go_ret
                rw [hres.out]
                exact ⟨_, rfl, q1, hm1⟩
      · have hdr : l.drop k = [] := List.drop_of_length_le (by omega)
        rw [hdr] at hrr
        have hres : takeN (some l) = (0, none) := by
          have := hr.out
          rw [hdr] at this
          have h0 : numF (9 - k) k acc [] = none := by cases 9 - k <;> rfl
          rw [h0] at this
          simp [takeN, ← this]
        replace hres := Lib.hid hres
        go_wp2_with fail
        refine (rraw_any hrr 1 (by simp)).mono ?_
        rintro e w1 ⟨v1, x, rfl, q1, q2, q3, q4⟩
        rw [show takeRaw 1 (some ([] : List UInt8)) = ([], none) by decide] at q1 q2
        obtain ⟨h0', h1'⟩ := q1.blk.c1
        go_wp2_with fail
        go_ret
        rw [hres.out]
        exact ⟨v1, rfl, q1, hm.then_ q4 (fun _ _ h => h)⟩
end Go.Proofs.Ytmjkgibeljbloaa
namespace Go.Proofs.Ytmjkgibeljbloaa
open Go.RowKit
set_option maxRecDepth 100000

theorem tyI : SliceTy Try.prog 43 3 (.int .i64 0) 8 := ⟨Try.underlying43, by kernel_rfl, rfl, by omega⟩
/-- Rows of unlike elements are not one block's. -/
theorem own_ne {w : World} {e e' : TypeId} {v v' : Value} {xs ys : List Value} (h : Own w e v xs) (h' : Own w e' v' ys) (hne : e ≠ e') {k : Nat} (hk : own v k) (hk' : own v' k) : False := by
  rcases h'.2 with ⟨rfl, _⟩ | ⟨g, cap, cur, rfl, _, hh, _⟩
  · cases hk'
  · have : g = k := Option.some.inj hk'
    subst this
    exact h.ne_blk (t := e') hh hne hk
end Go.Proofs.Ytmjkgibeljbloaa
namespace Go.Proofs.Ytmjkgibeljbloaa
open Go.RowKit
set_option maxRecDepth 100000

set_option maxHeartbeats 800000 in
theorem rrbytes_any {w : World} {b : Nat} {S : Nat → Prop} {v : Value} {st : Option (List UInt8)} (hrd : Rr w b S v st) (hl : (st.getD []).length ≤ 140737488355328) :
    Calls Try.prog 48 #[.pointer (some ⟨b, 0, none⟩)] w fun e w' => ∃ v' v1, e = .returned v1 ∧ Rr w' b S v' (takeB st).2 ∧ Own w' 5 v1 ((takeB st).1.map bv) ∧ Fresh w.heap.size v1 ∧ Mod (fun k => k = b) w w' := by
  have hle := takeN_len st
  go_enter Try.func48, Try.ntmps48
  go_wp2_with fail
  refine (rrnum_any hrd hl).mono ?_
  rintro e w1 ⟨v1, rfl, g1, g2⟩
  obtain ⟨h0, h1⟩ := g1.blk.c1
  cases hs : (takeN st).2 with
  | none =>
    have hb : takeB st = ([], none) := by
      unfold takeB
      rw [hs]; rfl
    replace hb := Lib.hid hb
    rw [hs] at g1 h1
    clear hs hle
    go_wp2_with fail
    go_ret
    rw [hb.out]
    exact ⟨v1, _, rfl, g1, Own.nil _ _, fresh_nil _ _ _, g2⟩
  | some l =>
    have hb : takeB st = takeRaw (takeN st).1 (some l) := by unfold takeB; rw [hs]
    replace hb := Lib.hid hb
    rw [hs] at g1 h1 hle
    clear hs
    go_wp2_with fail
    refine (rraw_any g1 _ (by omega)).mono ?_
    rintro e w2 ⟨v2, v3, rfl, k1, k2, k3, k4⟩
    go_wp2_with fail
    go_ret
    rw [hb.out]
    exact ⟨v2, v3, rfl, k1, k2, k3.mono g2.size, g2.trans k4 (fun _ _ h => h) (fun _ _ h => h)⟩
end Go.Proofs.Ytmjkgibeljbloaa
namespace Go.Proofs.Ytmjkgibeljbloaa
open Go.RowKit
set_option maxRecDepth 100000

theorem takeRaw_len (n : Int) (st : Option (List UInt8)) : ((takeRaw n st).2.getD []).length ≤ (st.getD []).length ∧ (takeRaw n st).1.length ≤ (st.getD []).length := by
  cases st with
  | none => simp [takeRaw]
  | some l =>
    simp only [takeRaw]
    split
    · simp
    · simp only [Option.getD_some, List.length_drop, List.length_take]; omega
theorem takeB_len (st : Option (List UInt8)) : ((takeB st).2.getD []).length ≤ (st.getD []).length ∧ (takeB st).1.length ≤ (st.getD []).length := by
  have h1 := takeRaw_len (takeN st).1 (takeN st).2
  have h2 := takeN_len st
  unfold takeB
  omega
variable {w0 wr : World} {B b8 b9 : Nat} {T T' : Nat → Prop} {x : Value} {l : List UInt8} {sA sB : Option (List UInt8)}
/-- A row handed out: its bytes, in a block that is its own and newer than the Readers. -/
def Out (w : World) (B : Nat) (v : Value) (l : List UInt8) : Prop := Own w 5 v (l.map bv) ∧ Fresh B v
theorem Out.mod {w w' : World} {F : Nat → Prop} {v : Value} {l : List UInt8} (h : Out w B v l) (hm : Mod F w w') (hF : ∀ k, F k → k < B) : Out w' B v l :=
  ⟨h.1.mod hm (fun k hk hf => by have := h.2 k hk; have := hF k hf; omega), h.2⟩
end Go.Proofs.Ytmjkgibeljbloaa
namespace Go.Proofs.Ytmjkgibeljbloaa
open Go.RowKit
set_option maxRecDepth 100000

variable {w0 wr : World} {B b8 b9 : Nat} {T T' : Nat → Prop} {x : Value} {l : List UInt8} {sA sB : Option (List UInt8)}
theorem Rr.drewN {w : World} {b : Nat} {S : Nat → Prop} {v : Value} {st : Option (List UInt8)} (h : Rr w b S v st) (n : Nat) : Rr (w.drewN n) b S v st := ⟨h.blk, h.row, h.off⟩
end Go.Proofs.Ytmjkgibeljbloaa

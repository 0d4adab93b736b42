/- octet: what its small functions do to the world. -/
import Derived.Test.YtlfooppmdgddkaaRows
import Derived.Test.YtlfooppmdgddkaaWords
namespace Go.Proofs.Ytlfooppmdgddkaa
open Go.RowKit

theorem tyB : SliceTy Try.prog 30 5 (.int .u8 0) 1 := ⟨Try.underlying30, by kernel_rfl, rfl, Nat.le_refl _⟩
/-- own: the same bytes in new memory. -/
theorem own_any {w : World} {S : Nat → Prop} {v : Value} {l : List UInt8} (h : Bs w S v l) (hn : l.length ≤ 281474976710656) :
    Calls Try.prog 91 #[v] w fun e w' => ∃ v', e = .returned v' ∧ Own w' 5 v' (l.map bv) ∧ v'.ownBlock = some w.heap.size ∧ Ext w w' ∧ w.heap.size < w'.heap.size := by
  have h0 := h
  obtain ⟨A, c, rfl, h2, h3, h4, h5⟩ := h.open_
  go_enter Try.func91, Try.ntmps91
  go_wp2_with (first
    | ((with_reducible show wpList _ _ _ (⟨some 6, _, _, _, _, _⟩ :: _) _ _); refine wp_make tyB l.length rfl (.tmp 5) (.tmp 5) rfl rfl rfl (by omega) ?_; intro w1 hown1 hext1 hlt1)
    | ((with_reducible show wpList _ _ _ (⟨some 9, _, _, _, _, _⟩ :: _) _ _); refine wp_copy tyB hown1 (h0.ext hext1) (bv_one l) rfl (.tmp 7) (.tmp 8) rfl rfl rfl ?_; intro w2 hown2 hmod2))
  go_ret
  refine ⟨_, rfl, ?_, rfl, hext1.trans hmod2 (fun _ _ h => h) (fun k hk h => ?_), Nat.lt_of_lt_of_le hlt1 hmod2.size⟩
  · simpa [show List.take l.length (l.map bv) = l.map bv from List.take_of_length_le (by simp)] using hown2
  · injection h with h; have : w.heap.size = k := h; omega
/-- The number u in seven binary digits a byte. -/
def enc7 (u : Nat) : List UInt8 := if h : u < 128 then [UInt8.ofNat u] else UInt8.ofNat (u % 128 + 128) :: enc7 (u / 128)
termination_by u
decreasing_by omega
theorem enc7_lo {u : Nat} (h : u < 128) : enc7 u = [UInt8.ofNat u] := by rw [enc7]; simp [h]
theorem enc7_hi {u : Nat} (h : ¬ u < 128) : enc7 u = UInt8.ofNat (u % 128 + 128) :: enc7 (u / 128) := by rw [enc7]; simp [h]
theorem enc7_pos (u : Nat) : 0 < (enc7 u).length := by
  by_cases h : u < 128
  · simp [enc7_lo h]
  · simp [enc7_hi h]
theorem enc7_length (k : Nat) : ∀ u, u < 2 ^ (7 * (k + 1)) → (enc7 u).length ≤ k + 1 := by
  induction k with
  | zero => intro u hu; rw [enc7_lo (by simpa using hu)]; simp
  | succ k ih =>
    intro u hu
    by_cases h : u < 128
    · simp [enc7_lo h]
    · rw [enc7_hi h]
      have := ih (u / 128) (by
        have e : 2 ^ (7 * (k + 1 + 1)) = 2 ^ (7 * (k + 1)) * 128 := by rw [show 7 * (k + 1 + 1) = 7 * (k + 1) + 7 by omega, Nat.pow_add]
        rw [e] at hu
        exact Nat.div_lt_of_lt_mul (by omega))
      simpa using this
/-- The number that is laid for v. -/
def clamp (v : Int) : Nat := (min (max v 0) 4611686018427387904).toNat
/-- A Writer behind a pointer: what is laid, and that it is its own. -/
structure Wr (w : World) (b : Nat) (v : Value) (l : List UInt8) : Prop where
  blk : Blk w b 84 #[v]
  row : Own w 5 v (l.map bv)
/-- What a Writer may turn. -/
abbrev wrF (b : Nat) (v : Value) : Nat → Prop := fun k => k = b ∨ v.ownBlock = some k
theorem Wr.ne {w : World} {b : Nat} {v : Value} {l : List UInt8} (h : Wr w b v l) : v.ownBlock ≠ some b := h.row.ne_blk h.blk (by decide)
theorem Wr.mod {F : Nat → Prop} {w w' : World} {b : Nat} {v : Value} {l : List UInt8} (h : Wr w b v l) (hm : Mod F w w') (hb : ¬ F b) (hv : ∀ k, v.ownBlock = some k → ¬ F k) : Wr w' b v l :=
  ⟨h.blk.mod hm hb, h.row.mod hm hv⟩
theorem clamp_lt (n : Int) : clamp n < 18446744073709551616 := by unfold clamp; omega
theorem u8_ofNat (n : Nat) (h : n < 256) : ((UInt8.ofNat n).toNat : Int) = n := by rw [UInt8.toNat_ofNat_of_lt' h]
theorem or128 (u : Nat) : bits .or .u8 (((u : Int) % 256 : Int)) 128 = ((UInt8.ofNat (u % 128 + 128)).toNat : Int) := by
  rw [u8_ofNat _ (by omega)]
  have : ∀ k : Nat, k < 256 → bits .or .u8 (k : Int) 128 = ((k % 128 + 128 : Nat) : Int) := by decide +kernel
  have h := this (u % 256) (by omega)
  rw [show ((u % 256 : Nat) : Int) = (u : Int) % 256 by omega] at h
  rw [h]; omega
theorem Wr.step {w w1 : World} {b : Nat} {v v1 v2 : Value} {l m : List UInt8} (h : Wr w b v l) {o : Obj} (hown : Own w1 5 v1 (l.map bv ++ m.map bv)) (hmod : Mod (own v) (w.alloc o) w1)
    (hnx : Next (w.alloc o).heap.size v v1) (hv : v2 = v1) : Wr (w1.setCell ⟨b, 0, none⟩ v2) b v2 (l ++ m) ∧ Mod (wrF b v) w (w1.setCell ⟨b, 0, none⟩ v2) ∧ Next w.heap.size v v2 := by
  subst hv
  have hb1 := (h.blk.alloc o).mod hmod h.ne
  have hm1 : Mod (wrF b v) w w1 := ((Mod.refl _ w).alloc o).trans hmod (fun _ _ h => h) (fun _ _ h => .inr h)
  have hne : v2.ownBlock ≠ some b := hown.ne_blk hb1 (by decide)
  refine ⟨⟨hb1.set_ 0 v2, ?_⟩, hm1.setCell (fun _ => .inl rfl) _, ?_⟩
  · rw [List.map_append]
    exact hown.mod ((Mod.refl (fun k => k = b) w1).setCell (fun _ => rfl) _) (fun k hk e => hne (by rw [← e]; exact hk))
  · exact (Next.refl w.heap.size v).trans hnx (by simp)
set_option maxHeartbeats 400000 in
theorem wnum_any {w : World} {b : Nat} {v : Value} {l : List UInt8} (h : Wr w b v l) (n : Int) (hl : l.length + 10 ≤ 140737488355328) :
    Calls Try.prog 98 #[.pointer (some ⟨b, 0, none⟩), .int .i64 n] w fun e w' => e = .returned (.tuple #[]) ∧ ∃ v', Wr w' b v' (l ++ enc7 (clamp n)) ∧ Mod (wrF b v) w w' ∧ Next w.heap.size v v' := by
  have hmax : ∀ (ts : Array TypeId) (t : TypeId) (w : World), (Builtin.max_ ts t #[.int .i64 n, .int .i64 0]).run Try.prog w = .ok (.int .i64 (max n 0)) w := by
    intro ts t w
    rw [run_max_int2]
    congr 2; omega
  have hmin : ∀ (ts : Array TypeId) (t : TypeId) (w : World), (Builtin.min_ ts t #[.int .i64 (max n 0), .int .i64 4611686018427387904]).run Try.prog w = .ok (.int .i64 (clamp n : Nat)) w := by
    intro ts t w
    rw [run_min_int2]
    congr 2; unfold clamp; omega
  have hc := clamp_lt n
  generalize clamp n = u0 at *
  go_enter Try.func98, Try.ntmps98
  go_wp2
  clear hmax hmin
  go_loopw [4] (fun i wr => ∃ (u : Nat) (v' : Value) (pre : List UInt8), u < 18446744073709551616 ∧ i = .int .u64 u ∧ Wr wr b v' (l ++ pre) ∧ Mod (wrF b v) w wr ∧ Next w.heap.size v v' ∧ Hid (pre ++ enc7 u = enc7 u0)) (fun i _ => (intOf i).toNat)
  case atStart => exact ⟨_, v, [], hc, rfl, by simpa using h, Mod.refl _ _, Next.refl _ _, rfl⟩
  case round =>
    obtain ⟨u, v', pre, hu, rfl, hw, hm, hx, he⟩ := hrel
    have hbc := hw.blk.c0
    have hbf := hw.blk.frozen 0
    have hlen : pre.length + (enc7 u).length ≤ 10 := by
      rw [← List.length_append, he.out]; exact enc7_length 9 u0 (by omega)
    have hpos := enc7_pos u
    by_cases hlt : u < 128
    · go_wp2_with (((with_reducible show wpList _ _ _ (⟨some 33, _, _, _, _, _⟩ :: _) _ _); refine wp_app tyB (hw.row.alloc _) (Sl.one _ _ _) (by simp [Value.oneCell']) rfl (.tmp 29) (.tmp 32) rfl rfl rfl ?hn ?_; rotate_right; intro v1 w1 hown1 hmod1 hnx1; obtain ⟨A1, c1, hv1⟩ := hown1.shape; subst hv1; have hb1 := (hw.blk.alloc _).mod hmod1 hw.ne; have hbc1 := hb1.c0; have hbf1 := hb1.frozen 0))
      case hn => simp; omega
      go_end0
      have e1 : (Value.int .u8 (u : Int)) = bv (UInt8.ofNat u) := by unfold bv; rw [u8_ofNat _ (by omega)]
      rw [e1] at hown1 hmod1 hnx1
      obtain ⟨g1, g2, g3⟩ := hw.step (m := [UInt8.ofNat u]) hown1 hmod1 hnx1 (v2 := .slice A1 (l.length + (pre.length + 1)) c1) (by simp)
      refine ⟨rfl, _, ?_, hm.trans g2 (fun _ _ h => h) (fun k hk h => ?_), hx.trans g3 hm.size⟩
      · rw [← he.out, enc7_lo hlt, ← List.append_assoc]; exact g1
      · rcases h with h | h
        · exact .inl h
        · exact .inr (hx.sub hk h)
    · have hor := or128 u
      go_wp2_with (((with_reducible show wpList _ _ _ (⟨some 20, _, _, _, _, _⟩ :: _) _ _); refine wp_app tyB (hw.row.alloc _) (Sl.one _ _ _) (by simp [Value.oneCell']) rfl (.tmp 15) (.tmp 19) rfl rfl rfl ?hn ?_; rotate_right; intro v1 w1 hown1 hmod1 hnx1; obtain ⟨A1, c1, hv1⟩ := hown1.shape; subst hv1; have hb1 := (hw.blk.alloc _).mod hmod1 hw.ne; have hbc1 := hb1.c0; have hbf1 := hb1.frozen 0))
      case hn => simp; omega
      obtain ⟨g1, g2, g3⟩ := hw.step (m := [UInt8.ofNat (u % 128 + 128)]) hown1 hmod1 hnx1 (v2 := .slice A1 (l.length + (pre.length + 1)) c1) (by simp)
      refine ⟨⟨u / 128, _, pre ++ [UInt8.ofNat (u % 128 + 128)], by omega, by simp, by rw [← List.append_assoc]; exact g1, hm.trans g2 (fun _ _ h => h) (fun k hk h => ?_), hx.trans g3 hm.size, ?_⟩, by simp [intOf]; omega⟩
      · rcases h with h | h
        · exact .inl h
        · exact .inr (hx.sub hk h)
      · exact Lib.hid (by rw [← he.out, enc7_hi hlt, List.append_assoc]; rfl)
/-- Several numbers. -/
def encs (l : List Int) : List UInt8 := l.flatMap fun v => enc7 (clamp v)
theorem encs_length (l : List Int) : (encs l).length ≤ 10 * l.length := by
  unfold encs
  induction l with
  | nil => simp
  | cons a l ih =>
    have := enc7_length 9 (clamp a) (by have := clamp_lt a; omega)
    simp only [List.flatMap_cons, List.length_append, List.length_cons]
    omega
theorem encs_snoc (l : List Int) (k : Nat) (h : k < l.length) : encs (l.take (k + 1)) = encs (l.take k) ++ enc7 (clamp l[k]) := by
  unfold encs
  rw [List.take_succ_eq_append_getElem h, List.flatMap_append]
  simp
theorem wrF_sub {w : World} {b : Nat} {v v' : Value} (hx : Next w.heap.size v v') : ∀ k, k < w.heap.size → wrF b v' k → wrF b v k := fun k hk h => by
  rcases h with h | h
  · exact .inl h
  · exact .inr (hx.sub hk h)
set_option maxHeartbeats 400000 in
theorem wnums_any {w : World} {b : Nat} {v y : Value} {l : List UInt8} {ns : List Int} {S : Nat → Prop} (h : Wr w b v l) (hy : Is w S y ns) (hS : ∀ k, k < w.heap.size → S k → ¬ wrF b v k) (hl : l.length + 10 * ns.length + 10 ≤ 140737488355328) :
    Calls Try.prog 80 #[.pointer (some ⟨b, 0, none⟩), y] w fun e w' => e = .returned (.tuple #[]) ∧ ∃ v', Wr w' b v' (l ++ encs ns) ∧ Mod (wrF b v) w w' ∧ Next w.heap.size v v' := by
  obtain ⟨A, c, rfl, h1, h2, h3, h4⟩ := hy.open_

  go_enter Try.func80, Try.ntmps80
  go_wp2
  go_loopw [10] (fun i wr => ∃ (k : Nat) (v' : Value), k ≤ ns.length ∧ i = .int .i64 k ∧ Wr wr b v' (l ++ encs (ns.take k)) ∧ Mod (wrF b v) w wr ∧ Next w.heap.size v v') (fun i _ => ns.length - (intOf i).toNat)
  case atStart => exact ⟨0, v, Nat.zero_le _, rfl, by simpa [encs] using h, Mod.refl _ _, Next.refl _ _⟩
  case round =>
    obtain ⟨k, v', hk, rfl, hw, hm, hx⟩ := hrel
    by_cases hlt : k < ns.length
    · obtain ⟨ad, rfl, hs, hc⟩ := (h4.mod hm hS).at_ hlt
      have hle := encs_length (ns.take k)
      rw [List.length_take] at hle
      go_wp2_with (go_at_call 98; refine (wnum_any hw _ (by simp; omega)).mono ?_; rintro e w1 ⟨rfl, v1, g1, g2, g3⟩)
      exact ⟨⟨k + 1, v1, by omega, by go_num, by rw [encs_snoc _ _ hlt, ← List.append_assoc]; exact g1, hm.then_ g2 (fun k hk h => wrF_sub hx k hk h), hx.trans g3 hm.size⟩, by simp [intOf]; omega⟩
    · go_wp2
      go_end0
      rw [List.take_of_length_le (by omega)] at hw
      exact ⟨rfl, v', hw, hm, hx⟩
end Go.Proofs.Ytlfooppmdgddkaa

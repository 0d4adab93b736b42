/- mem: the path to a cell. -/
import Derived.Test.YtlfooppmdgddkaaMemC
namespace Go.Proofs.Ytlfooppmdgddkaa
open Go.RowKit
set_option maxRecDepth 100000

theorem countP_lt {α : Type} (p q : α → Bool) : ∀ (l : List α), (∀ x ∈ l, p x = true → q x = true) → (∃ y ∈ l, p y = false ∧ q y = true) → l.countP p < l.countP q
  | [], _, h => by obtain ⟨y, hy, _⟩ := h; cases hy
  | x :: l, hpq, ⟨y, hy, h1, h2⟩ => by
    have hle : l.countP p ≤ l.countP q := List.countP_mono_left fun z hz => hpq z (List.mem_cons_of_mem _ hz)
    rw [List.countP_cons, List.countP_cons]
    rcases List.mem_cons.1 hy with rfl | hy
    · rw [h1, h2]; simp only [Bool.false_eq_true, if_false, if_true]; omega
    · have := countP_lt p q l (fun z hz => hpq z (List.mem_cons_of_mem _ hz)) ⟨y, hy, h1, h2⟩
      have hx := hpq x (List.mem_cons_self ..)
      cases hp : p x
      · simp only [Bool.false_eq_true, if_false]; split <;> omega
      · rw [hx hp]; simp only [if_true]; omega
/-- How many stand behind a. -/
def cnt (N : List Nd) (a : Nat) : Nat := N.countP fun x => decide (a = 0) || lessC (nd N a).c x.c
theorem cnt_lt {N : List Nd} {a b : Nat} (b0 : 0 < b) (bn : b < N.length) (h : ltC N a (nd N b).c) : cnt N b < cnt N a := by
  refine countP_lt _ _ N (fun x _ hx => ?_) ⟨nd N b, ?_, ?_, ?_⟩
  · simp only [Bool.or_eq_true, decide_eq_true_eq] at hx ⊢
    rcases hx with hx | hx
    · omega
    · rcases h with h | h
      · exact .inl h
      · exact .inr (lessC_trans h hx)
  · have : nd N b = N[b] := by simp [nd, bn]
    rw [this]; exact List.getElem_mem bn
  · rw [lessC_irr, decide_eq_false (by omega)]; rfl
  · simp only [Bool.or_eq_true, decide_eq_true_eq]
    rcases h with h | h
    · exact .inl h
    · exact .inr h

theorem arr12 {x : Array Value} {P : Nat → Nat} (hs : x.size = 12) (h : ∀ k, k < 12 → x[k]? = some (nv (P k))) :
    x = #[nv (P 0), nv (P 1), nv (P 2), nv (P 3), nv (P 4), nv (P 5), nv (P 6), nv (P 7), nv (P 8), nv (P 9), nv (P 10), nv (P 11)] := by
  refine Array.ext (by rw [hs]; rfl) fun i h1 h2 => ?_
  have hi : i < 12 := by omega
  have := h i hi
  rw [Array.getElem?_eq_getElem h1] at this
  injection this with this
  rw [this]
  match i, hi with
  | 0, _ => rfl
  | 1, _ => rfl
  | 2, _ => rfl
  | 3, _ => rfl
  | 4, _ => rfl
  | 5, _ => rfl
  | 6, _ => rfl
  | 7, _ => rfl
  | 8, _ => rfl
  | 9, _ => rfl
  | 10, _ => rfl
  | 11, _ => rfl

theorem Blk.setRow {w : World} {g : Nat} {t : TypeId} {cs : Array Value} (h : Blk w g t cs) (xs : Array Value) : Blk (w.setRow g xs) g t xs := setRow_heap w g cs xs t (0, 0) h
theorem Mod.setRow {F : Nat → Prop} {a b : World} (h : Mod F a b) {g : Nat} (hp : g < a.heap.size → F g) (xs : Array Value) : Mod F a (b.setRow g xs) :=
  ⟨h.os, h.tape, h.output, by rw [size_setRow]; exact h.size, fun k hk hn => (setRow_other b g k xs (by rintro rfl; exact hn (hp hk))).trans (h.block k hk hn)⟩

theorem size12 : (Try.prog.info? 104).map (·.size) = some 12 := by kernel_rfl
abbrev zero12 : Array Value := #[.int .i64 0, .int .i64 0, .int .i64 0, .int .i64 0, .int .i64 0, .int .i64 0, .int .i64 0, .int .i64 0, .int .i64 0, .int .i64 0, .int .i64 0, .int .i64 0]

set_option maxHeartbeats 16000000 in
theorem path_any {w : World} {S : Nat → Prop} {g n : Nat} {D : List Int} {N : List Nd} {A : List Nat} {vd vn va : Value} (m : Mx w S g D N A n vd vn va) (s : Sk N A) (c : Ce) :
    Calls Try.prog 75 #[.pointer (some ⟨g, 0, none⟩), .agg (car c)] w fun e w' => (∃ P : Nat → Nat, (∀ h, h < 12 → Pa N A c h (P h)) ∧ e = .returned (.agg #[nv (P 0), nv (P 1), nv (P 2), nv (P 3), nv (P 4), nv (P 5), nv (P 6), nv (P 7), nv (P 8), nv (P 9), nv (P 10), nv (P 11)])) ∧ Ext w w' := by
  have hls := s.head
  have B0 : Blk (((w.alloc (.cells (car c) 23)).alloc (.cells zero12 104)).alloc (.cells zero12 104)) w.heap.size 23 (car c) := ((Blk.new w _ _).alloc _).alloc _
  have B4 : Blk (((w.alloc (.cells (car c) 23)).alloc (.cells zero12 104)).alloc (.cells zero12 104)) (w.heap.size + 1) 104 zero12 := by
    have := Blk.new (w.alloc (.cells (car c) 23)) 104 zero12
    exact Blk.alloc (by simpa using this) _
  have B5 : Blk (((w.alloc (.cells (car c) 23)).alloc (.cells zero12 104)).alloc (.cells zero12 104)) (w.heap.size + 2) 104 zero12 := by
    have := Blk.new ((w.alloc (.cells (car c) 23)).alloc (.cells zero12 104)) 104 zero12
    simpa using this
  have x0 : Ext w (((w.alloc (.cells (car c) 23)).alloc (.cells zero12 104)).alloc (.cells zero12 104)) := (((Mod.refl _ w).alloc _).alloc _).alloc _
  obtain ⟨g4, hg4⟩ : ∃ k, k = w.heap.size + 1 := ⟨_, rfl⟩
  rw [show w.heap.size + 2 = (w.heap.size + 1) + 1 from rfl, ← hg4] at B5
  rw [← hg4] at B4
  obtain ⟨g5, hg5⟩ : ∃ k, k = g4 + 1 := ⟨_, rfl⟩
  rw [← hg5] at B5
  go_enter Try.func75, Try.ntmps75
  go_wp2_with fail
  rw [← hg4, ← hg5]
  generalize ((w.alloc (.cells (car c) 23)).alloc (.cells zero12 104)).alloc (.cells zero12 104) = w3 at *
  replace hg4 := Lib.hid hg4
  replace hg5 := Lib.hid hg5
  obtain ⟨gc, hgc⟩ : ∃ k, k = w.heap.size := ⟨_, rfl⟩
  rw [← hgc] at B0 ⊢
  replace hgc := Lib.hid hgc
  replace m := (m.mono (T := fun k => S k ∧ k < w.heap.size) (fun k hk hs => ⟨hs, hk⟩)).ext x0
  obtain ⟨S', hS'⟩ : ∃ S', S' = fun k => S k ∧ k < w.heap.size := ⟨_, rfl⟩
  have hSl := Lib.hid (show ∀ k, S' k → k < w.heap.size by rw [hS']; exact fun k h => h.2)
  rw [← hS'] at m
  clear hS'
  go_loopw [6, 7] (fun x i wr => ∃ (k a : Nat) (q : Int) (P : Nat → Nat) (arr : Array Value), x = .int .i64 (a : Nat) ∧ i = .int .i64 q ∧ Hid (q = (k : Int) - 1 ∧ k ≤ 12 ∧ a < N.length ∧ k ≤ (nd N a).h ∧ ltC N a c ∧ (∀ h, k ≤ h → h < 12 → Pa N A c h (P h) ∧ arr[h]? = some (nv (P h))) ∧ arr.size = 12 ∧ ∀ h, h < 12 → ∃ y : Nat, arr[h]? = some (nv y)) ∧ Blk wr gc 23 (car c) ∧ Blk wr g4 104 zero12 ∧ Blk wr g5 104 arr ∧ Ext w wr ∧ Mx wr S' g D N A n vd vn va) (fun _ i _ => ((intOf i) + 1).toNat)
  case atStart => exact ⟨12, 0, 11, fun _ => 0, zero12, rfl, rfl, Lib.hid ⟨by omega, by omega, hls.1, by omega, .inl rfl, fun h h1 h2 => by omega, rfl, fun h hh => ⟨0, by
    match h, hh with
    | 0, _ => rfl
    | 1, _ => rfl
    | 2, _ => rfl
    | 3, _ => rfl
    | 4, _ => rfl
    | 5, _ => rfl
    | 6, _ => rfl
    | 7, _ => rfl
    | 8, _ => rfl
    | 9, _ => rfl
    | 10, _ => rfl
    | 11, _ => rfl⟩⟩, B0, B4, B5, x0, m⟩
  case round =>
    clear B0 B4 B5 m x0
    obtain ⟨k, a, q, P, arr, rfl, rfl, hf, B0, B4, B5, x1, m⟩ := hrel
    rcases Nat.eq_zero_or_pos k with hk0 | hk0
    · subst hk0
      obtain ⟨hq, -, -, -, -, hP, hsz, -⟩ := hf.out
      have hq1 : q = -1 := by omega
      subst hq1
      have harr := arr12 hsz (fun k hk => (hP k (Nat.zero_le _) hk).2)
      have hPa := Lib.hid (show ∀ h, h < 12 → Pa N A c h (P h) from fun k hk => (hP k (Nat.zero_le _) hk).1)
      subst harr
      clear hP hsz hf hq m
      have e0 : _ = some _ := Blk.cell B5 0
      have e1 : _ = some _ := Blk.cell B5 1
      have e2 : _ = some _ := Blk.cell B5 2
      have e3 : _ = some _ := Blk.cell B5 3
      have e4 : _ = some _ := Blk.cell B5 4
      have e5 : _ = some _ := Blk.cell B5 5
      have e6 : _ = some _ := Blk.cell B5 6
      have e7 : _ = some _ := Blk.cell B5 7
      have e8 : _ = some _ := Blk.cell B5 8
      have e9 : _ = some _ := Blk.cell B5 9
      have e10 : _ = some _ := Blk.cell B5 10
      have e11 : _ = some _ := Blk.cell B5 11
      go_wp2_with ((with_reducible show wpList _ _ _ (⟨none, .store 104 _ _, _, _, _, _⟩ :: _) _ _); refine wpList_store_row rfl 104 (.tmp 4) (.tmp 33) rfl g4 #[nv (P 0), nv (P 1), nv (P 2), nv (P 3), nv (P 4), nv (P 5), nv (P 6), nv (P 7), nv (P 8), nv (P 9), nv (P 10), nv (P 11)] rfl rfl _ _ B4 size12 rfl (by simp [Value.oneCell']) ?_)
      refine bodyPost_ret (results_cell_row Try.results75 _ _ _ _ _ _ _ rfl (B4.setRow #[nv (P 0), nv (P 1), nv (P 2), nv (P 3), nv (P 4), nv (P 5), nv (P 6), nv (P 7), nv (P 8), nv (P 9), nv (P 10), nv (P 11)]) Try.underlying104 rfl (by exact size12)) rfl ?_
      exact ⟨⟨P, hPa.out, rfl⟩, x1.setRow (fun h => by have := hg4.out; omega) _⟩
    obtain ⟨j, rfl⟩ : ∃ j, k = j + 1 := ⟨k - 1, by omega⟩
    have hq1 : q = (j : Int) := by have := hf.out.1; omega
    subst hq1
    obtain ⟨-, hk12, han, hkh, hac, hP, hsz, hyy⟩ := hf.out
    have hbj : decide ((0 : Int) ≤ (j : Int)) = true := dtrue (by omega)
    have hnx := fun (wx : World) (mx : Mx wx S' g D N A n vd vn va) (b : Nat) (hb : b < N.length) (hh : j < (nd N b).h) => next_any mx hb (h := j) (by have := s.fit b hb; omega)
    have hah := fun (wx : World) (mx : Mx wx S' g D N A n vd vn va) (b : Nat) (hb : b < N.length) => ahead_any mx hb c
    replace hP := Lib.hid hP
    obtain ⟨y, hy⟩ := hyy j (by omega)
    clear hf hk0
    go_wp2_with fail
    refine (hnx _ m a han (by omega)).mono ?_
    rintro e w4 ⟨rfl, nq, rfl⟩
    have hax := Lib.hid (show j < (nd N a).h ∧ ltC N a c from ⟨by omega, hac⟩)
    clear hkh hac
    go_wp2_with fail
    go_loopw [6, 8] (fun x i wr => ∃ (b : Nat), x = .int .i64 (b : Nat) ∧ i = .int .i64 (nxt N A b j : Nat) ∧ Hid (b < N.length ∧ j < (nd N b).h ∧ ltC N b c) ∧ Blk wr gc 23 (car c) ∧ Blk wr g4 104 zero12 ∧ Blk wr g5 104 arr ∧ Ext w wr ∧ Mx wr S' g D N A n vd vn va) (fun x _ _ => cnt N (intOf x).toNat)
    case atStart => exact ⟨a, rfl, rfl, Lib.hid ⟨han, hax.out.1, hax.out.2⟩, B0, B4, B5, x1.drewN _, m.ext ((Mod.refl _ _).drewN _)⟩
    case round =>
      clear B0 B4 B5 m x1 hax han
      obtain ⟨b, rfl, rfl, hb, B0, B4, B5, x1, m⟩ := hrel
      have hL := Lib.hid (s.link b j hb.out.1 hb.out.2.1)
      obtain ⟨d, hd⟩ : ∃ d, d = nxt N A b j := ⟨_, rfl⟩
      rw [← hd] at hL
      have hst : (d = 0 ∨ lessC (nd N d).c c = false) → Pa N A c j b := fun h => ⟨hb.out.1, hb.out.2.1, hb.out.2.2, by rw [← hd]; exact h⟩
      simp only [← hd]
      clear hd
      by_cases hd0 : d = 0
      case pos =>
        have hpa := Lib.hid (hst (.inl hd0))
        subst hd0
        have hc : wr.cell? ⟨g5, j, none⟩ = some (nv y) := (Blk.cell B5 j).trans hy
        have hfr := Blk.frozen B5 j
        have hi0 : (0 : Int) ≤ (j : Int) := by omega
        have hi1 : (j : Int) < 12 := by omega
        clear hnx hah hL
        go_wp2_with fail
        exact ⟨⟨j, b, (j : Int) - 1, fun h => if h = j then b else P h, arr.setIfInBounds j (nv b), rfl, rfl, Lib.hid ⟨rfl, by omega, hb.out.1, by have := hb.out.2.1; omega, hb.out.2.2, fun h h1 h2 => by
          by_cases e : h = j
          · subst e
            exact ⟨by simpa using hpa.out, by simp [hsz, h2]⟩
          · have := hP.out h (by omega) h2
            exact ⟨by simpa [e] using this.1, by rw [Array.getElem?_setIfInBounds_ne (by omega)]; simpa [e] using this.2⟩, by simp [hsz], fun h hh => by
          by_cases e : h = j
          · subst e
            exact ⟨b, by simp [hsz, hh]⟩
          · rw [Array.getElem?_setIfInBounds_ne (by omega)]
            exact hyy h hh⟩, B0.far (p := ⟨g5, j, none⟩) (show gc ≠ g5 by have := hgc.out; have := hg4.out; have := hg5.out; omega) _, B4.far (p := ⟨g5, j, none⟩) (show g4 ≠ g5 by have := hg5.out; omega) _, B5.set_ j _, x1.setCell (p := ⟨g5, j, none⟩) (fun h => by have : g5 < w.heap.size := h; have := hg4.out; have := hg5.out; omega) _, m.mod ((Mod.refl (fun k => k = g5) _).setCell (p := ⟨g5, j, none⟩) (fun _ => rfl) _) (fun k _ hs hk => by have := hSl.out k hs; have := hg4.out; have := hg5.out; omega)⟩, by simp [intOf] <;> omega⟩
      have hbd : ((d : Int) != 0) = true := by rw [bne_iff_ne]; omega
      have hdn : d < N.length := by
        rcases hL.out with ⟨h, _⟩ | ⟨_, h, _⟩
        · exact absurd h hd0
        · exact h
      have e0 : _ = some (sv c.key) := Blk.cell B0 0
      have e1 : _ = some (sv c.val) := Blk.cell B0 1
      have e2 : _ = some (Value.bool c.del) := Blk.cell B0 2
      have e3 : _ = some (Value.int .i64 c.seq) := Blk.cell B0 3
      cases hlc : lessC (nd N d).c c
      case false =>
        have hpa := Lib.hid (hst (.inr hlc))
        have hah2 := hah
        clear hst
        go_wp2_with fail
        refine (hah _ m d hdn).mono ?_
        rintro e w5 ⟨rfl, x5⟩
        rw [hlc]
        replace B0 := B0.mod x5 (fun h => h)
        replace B4 := B4.mod x5 (fun h => h)
        replace B5 := B5.mod x5 (fun h => h)
        replace x1 := ext_trans x1 x5
        replace m := m.ext x5
        clear e0 e1 e2 e3 x5 hlc hL
        have hc : w5.cell? ⟨g5, j, none⟩ = some (nv y) := (Blk.cell B5 j).trans hy
        have hfr := Blk.frozen B5 j
        have hi0 : (0 : Int) ≤ (j : Int) := by omega
        have hi1 : (j : Int) < 12 := by omega
        clear hnx hah
        go_wp2_with fail
        exact ⟨⟨j, b, (j : Int) - 1, fun h => if h = j then b else P h, arr.setIfInBounds j (nv b), rfl, rfl, Lib.hid ⟨rfl, by omega, hb.out.1, by have := hb.out.2.1; omega, hb.out.2.2, fun h h1 h2 => by
          by_cases e : h = j
          · subst e
            exact ⟨by simpa using hpa.out, by simp [hsz, h2]⟩
          · have := hP.out h (by omega) h2
            exact ⟨by simpa [e] using this.1, by rw [Array.getElem?_setIfInBounds_ne (by omega)]; simpa [e] using this.2⟩, by simp [hsz], fun h hh => by
          by_cases e : h = j
          · subst e
            exact ⟨b, by simp [hsz, hh]⟩
          · rw [Array.getElem?_setIfInBounds_ne (by omega)]
            exact hyy h hh⟩, B0.far (p := ⟨g5, j, none⟩) (show gc ≠ g5 by have := hgc.out; have := hg4.out; have := hg5.out; omega) _, B4.far (p := ⟨g5, j, none⟩) (show g4 ≠ g5 by have := hg5.out; omega) _, B5.set_ j _, x1.setCell (p := ⟨g5, j, none⟩) (fun h => by have : g5 < w.heap.size := h; have := hg4.out; have := hg5.out; omega) _, m.mod ((Mod.refl (fun k => k = g5) _).setCell (p := ⟨g5, j, none⟩) (fun _ => rfl) _) (fun k _ hs hk => by have := hSl.out k hs; have := hg4.out; have := hg5.out; omega)⟩, by simp [intOf] <;> omega⟩
      have hlt : Hid (d < N.length ∧ j < (nd N d).h ∧ ltC N d c ∧ cnt N d < cnt N b) := by
        rcases hL.out with ⟨h, _⟩ | ⟨h0, hn, hh, hl, _⟩
        · exact absurd h hd0
        · exact Lib.hid ⟨hn, hh, .inr hlc, cnt_lt h0 hn hl⟩
      clear hst hd0
      go_wp2_with fail
      refine (hah _ m d hdn).mono ?_
      rintro e w5 ⟨rfl, x5⟩
      rw [hlc]
      replace B0 := B0.mod x5 (fun h => h)
      replace B4 := B4.mod x5 (fun h => h)
      replace B5 := B5.mod x5 (fun h => h)
      replace x1 := ext_trans x1 x5
      replace m := m.ext x5
      clear e0 e1 e2 e3 x5 hlc hL
      go_wp2_with fail
      refine (hnx _ m d hdn hlt.out.2.1).mono ?_
      rintro e w6 ⟨rfl, nq6, rfl⟩
      go_wp2_with fail
      exact ⟨⟨d, rfl, rfl, Lib.hid ⟨hdn, hlt.out.2.1, hlt.out.2.2.1⟩, B0, B4, B5, x1.drewN _, m.ext ((Mod.refl _ _).drewN _)⟩, by simpa [intOf] using hlt.out.2.2.2⟩
end Go.Proofs.Ytlfooppmdgddkaa

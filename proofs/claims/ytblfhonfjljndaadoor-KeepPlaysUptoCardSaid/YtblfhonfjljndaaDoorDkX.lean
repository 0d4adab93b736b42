/- disk: all names. -/
import Derived.Test.YtblfhonfjljndaaDoorDkW
import Derived.Test.YtblfhonfjljndaaDoorDkQ
import Derived.Test.YtblfhonfjljndaaDoorIxO
namespace Go.Proofs.YtblfhonfjljndaaDoor
open Go.RowKit Go.Maps Go.WideMaps
set_option maxRecDepth 100000

/-- The names that have come. -/
def Nac (T : Tx) (left : Lit → Bool) (G : Tx) : Prop := G.Nodup ∧ ∀ x, x ∈ G ↔ x ∈ T ∧ left (.string x) = false
theorem Nac.start {D : DataW Unit} {L : Fis} {G : Lay} (h : FilesOf D L G) : Nac (nms L) (has D) [] := ⟨List.nodup_nil, fun x => ⟨(fun h => by cases h), fun ⟨h1, h2⟩ => by rw [h.has, decide_eq_true h1] at h2; cases h2⟩⟩
theorem Nac.more {T : Tx} {left : Lit → Bool} {G : Tx} {x : List UInt8} (h : Nac T left G) (hx : x ∈ T) (hl : left (.string x) = true) : Nac T (fun z => left z && !z.sameKey (.string x)) (G ++ [x]) := by
  obtain ⟨h1, h2⟩ := h
  refine ⟨List.nodup_append.2 ⟨h1, by simp, fun r hr s hs => ?_⟩, fun r => ?_⟩
  · simp only [List.mem_singleton] at hs
    subst hs
    rintro rfl
    rw [((h2 _).1 hr).2] at hl
    cases hl
  · rw [List.mem_append, h2, List.mem_singleton]
    constructor
    · rintro (⟨h3, h4⟩ | rfl)
      · exact ⟨h3, (strike_iff left x r).2 (.inl h4)⟩
      · exact ⟨hx, (strike_iff left r r).2 (.inr rfl)⟩
    · rintro ⟨h3, h4⟩
      rcases (strike_iff left x r).1 h4 with h | rfl
      · exact .inl ⟨h3, h⟩
      · exact .inr rfl
theorem Nac.all {T : Tx} {left : Lit → Bool} {G G' : Tx} (h : Nac T left G) (hT : riseT T) (hl : ∀ kl, left kl = false) (hp : G'.Perm G) (hs : G'.Pairwise fun x y => Op.bytesLess y x = false) : G' = T := by
  have hn : G'.Nodup := hp.nodup_iff.2 h.1
  refine riseT_ext ((hs.and hn).imp fun {x y} h => less_tot h.1 fun e => h.2 e.symm) hT fun x => ?_
  rw [hp.mem_iff, h.2]
  exact ⟨fun h => h.1, fun h => ⟨h, hl _⟩⟩
theorem own_ne_map2 {H : Type} {P : Program} {kt : TypeId} {R : Value → Option (DataW H × List MemPlace)} {w : World} {b n : Nat} {D : DataW H} {v : Value} {e : TypeId} {xs : List Value} (h : Own w e v xs) (hm : w.ownsMap P kt R b n D) : ¬ own v b := fun ho => by
  obtain ⟨cur, hc⟩ := h.ty ho
  exact hc.ne_map hm rfl
theorem own_ne_iter2 {H : Type} {P : Program} {kt : TypeId} {R : Value → Option (DataW H × List MemPlace)} {w : World} {b r n : Nat} {D : DataW H} {left : Lit → Bool} {cnt : Nat} {v : Value} {e : TypeId} {xs : List Value} (h : Own w e v xs) (hm : w.ranges P kt R b r n D left cnt) : ¬ own v r := fun ho => by
  obtain ⟨cur, hc⟩ := h.ty ho
  exact hc.ne_iter hm rfl
theorem own_some {w : World} {v : Value} {e : TypeId} {xs : List Value} (h : Own w e v xs) (hL : xs ≠ []) : v ≠ .slice none 0 0 := by
  rcases Own.form h with ⟨_, h2⟩ | ⟨g, cap, rfl, _⟩
  · exact absurd h2 hL
  · simp
set_option maxHeartbeats 8000000 in
theorem list_any {S : Nat → Prop} {w : World} {d : Ds} {v : Value} (h : Dk S w v d) :
    Calls Tryd.prog 23 #[v] w fun e w' => ∃ u, e = .returned u ∧ OwnT w' u (nms d.L) ∧ Fresh w.heap.size u ∧ Ext w w' := by
  obtain ⟨bd, bm, D, G, rfl, h⟩ := h
  have c2 : w.cell? ⟨bd, 2, none⟩ = some (.map (some bm)) := h.blk.cell 2
  have hM := h.map
  have hof := h.of
  have hrise := h.rise
  have hbk := h.blk
  have hlen := h.map.len Tryd.underlying53 3
  rw [hof.size] at hlen
  have hfew := h.few
  have hnl : (nms d.L).length = d.L.length := by simp [nms]
  have hst := Lib.hid (Nac.start hof)
  have hx2 : ∀ wx, Ext w wx → wx.cell? ⟨bd, 2, none⟩ = some (.map (some bm)) ∧ wx.ownsMap Tryd.prog 9 ptrElem bm d.L.length D := fun wx x => ⟨(hbk.mod x (fun h => h)).cell 2, ownsMap_mod hM x (fun h => h)⟩

  have hofs : size D ≤ d.L.length := by rw [hof.size]; exact Nat.le_refl _
  clear h hbk hnl
  generalize d.L.length = n at *
  generalize d.L = L at *
  go_enter Tryd.func23, Tryd.ntmps23
  go_wp2_with (first
    | ((with_reducible show wpList _ _ _ (⟨some 12, _, _, _, _, _⟩ :: _) _ _); refine wp_make0 tyS n rfl _ _ rfl rfl rfl (by omega) ?_; intro w2 o2 x2 z2; obtain ⟨c2b, hM2⟩ := hx2 w2 x2)
    | (at_range; refine wpList_range_own _ rfl _ 53 rfl 9 68 keyS Tryd.underlying53 _ bm n D rfl hM2 ?_; intro w3 hrg0 hg0 hs0))
  go_frame
  have x3 : Ext w2 w3 := Mod.of_grown hg0 (fun k e => by cases e)
  have y3 := ext_trans x2 x3
  have o3 : OwnT w3 (.slice (some ⟨w.heap.size, 0, none⟩) 0 n) [] := Own.mod o2 x3 (fun _ _ h => h)
  have f3 : Fresh w.heap.size (.slice (some ⟨w.heap.size, 0, none⟩) 0 n) := fun b hb => by
    have e : w.heap.size = b := by simpa [Value.ownBlock] using hb
    omega
  have hr0 : w.heap.size ≤ w2.heap.size := x2.size
  clear hM x2 o2 x3 hg0 hs0 z2 hM2 c2b hx2 c2 hlen
  obtain ⟨r, hr⟩ : ∃ r, r = w2.heap.size := ⟨_, rfl⟩
  rw [← hr] at hrg0 hr0 ⊢
  clear hr
  go_loopw [3] (fun u wr => ∃ left cnt N, wr.ranges Tryd.prog 9 ptrElem bm r n D left cnt ∧ OwnT wr u N ∧ Fresh w.heap.size u ∧ N.length + cnt ≤ n ∧ Hid (Nac (nms L) left N) ∧ Hid (u ≠ .slice none 0 0) ∧ Ext w wr) (fun _ wr => wr.rangeLeft bm r)
  case atStart => exact ⟨_, _, [], hrg0, o3, f3, by simp only [List.length_nil]; omega, hst, Lib.hid (by simp), y3⟩
  case round =>
    clear hrg0 o3 f3 y3 hst
    obtain ⟨left, cnt, N, hrg, ho, hf, hle, hg, hnn, hx⟩ := hrel
    go_wp2_with (at_next; refine wp_nextF hof rfl _ rfl rfl hrg ?_ ?_)
    · intro hc0 hl0
      have hall := Lib.hid (fun G' hp hs => hg.out.all hrise hl0 (G' := G') hp hs)
      have hc := sortT_holds ho hnn.out (by omega)
      clear hg hrg hc0 hl0 hle
      go_wp2_with fail
      refine hc.mono ?_
      rintro e w5 ⟨rfl, G', hp, hs, o5, m5⟩
      have hd := hall.out _ hp hs
      have x5 : Ext w w5 := hx.trans m5 (fun _ _ h => h) (fun k hk h => by have := hf k h; omega)
      subst hd
      clear hall hp hs
      go_wp2_with fail
      go_ret
      exact ⟨_, rfl, o5, hf, x5⟩
    · intro x w4 cnt2 hxn hlk hrg2 hlt hm4 hs4 hen
      have y4 : Ext w w4 := hx.trans hm4 (fun _ _ h => h) (fun k hk h => by omega)
      have o4 : OwnT w4 _ N := Own.mod ho hm4 (fun k hk h => by subst h; exact own_ne_iter2 ho hrg hk)
      have hml := hrg.left_eq
      have hgn := Lib.hid (hg.out.more hxn hlk)
      clear hrg ho hx hg hs4
      go_wp2_with ((with_reducible show wpList _ _ _ (⟨some 25, _, _, _, _, _⟩ :: _) _ _); refine wp_appT (x := x) o4 (by omega) rfl _ _ rfl rfl rfl ?_; intro v6 w6 o6 m6 n6)
      have hrg6 := ranges_mod hrg2 m6 (own_ne_map2 o4 hrg2.owns) (own_ne_iter2 o4 hrg2)
      exact ⟨⟨_, cnt2, _, hrg6, o6, n6.fresh hf y4.size, by simp only [List.length_append, List.length_cons, List.length_nil]; omega, hgn, Lib.hid (own_some o6 (by simp)), ext_app0 y4 hf m6⟩, by rw [hrg6.left_eq, hml]; exact hlt⟩
end Go.Proofs.YtblfhonfjljndaaDoor

/- disk: the document's Append, all of it; Fuse; New. -/
import Derived.Test.YtblfhonfjljndaaDoorRdI
import Derived.Test.YtblfhonfjljndaaDoorRdJ
import Derived.Test.YtblfhonfjljndaaDoorRdK
import Derived.Test.YtblfhonfjljndaaDoorDkX
namespace Go.Proofs.YtblfhonfjljndaaDoor
open Go.RowKit Go.Maps Go.WideMaps
set_option maxRecDepth 100000

section
variable {S T F V : Nat → Prop} {w w' : World} {bd : Nat} {vL v y : Value} {A : List (Fi × Value)} {d : Ds} {b : List UInt8}
theorem rappend_any (h : Dz S w v d) (x : List UInt8) (hy : Bs w V y b) (hbl : b.length ≤ 100000) (hV : ∀ k, V k → ¬ S k) :
    Calls Tryd.prog 20 #[v, sv x, y] w fun e w' => e = .returned (ev (appendD d x [b]).2) ∧ Dz (Grow S w) w' v (appendD d x [b]).1 ∧ Mod S w w' := by
  have ht : tot [b] = b.length := by simp [tot]
  have hfl : ([b] : Tx).flatten = b := by simp
  unfold appendD
  rw [ht, hfl]
  by_cases hb : begD d [x] = 0
  case neg =>
    rw [if_pos hb]
    exact rapp_err h x hb
  rw [if_neg (fun h => h hb)]
  by_cases hfit : sumB d.L + b.length ≤ d.room
  case neg =>
    rw [if_pos hfit]
    exact rapp_full h x hy hbl hb (by omega)
  rw [if_neg (fun h => h hfit)]
  cases hx : getF d.L x with
  | some f => exact rapp_old h x hy hbl hb hfit hx
  | none =>
    simp only
    by_cases hm : 4096 ≤ d.L.length
    · rw [if_pos hm]
      exact rapp_many h x hy hbl hb hfit hx hm
    rw [if_neg hm]
    obtain ⟨bd, vL, A, rfl, h⟩ := h
    have hnl := posF_le d.L x
    rcases h.row.form with ⟨rfl, h0⟩ | ⟨g, c, rfl, h1, h2, h3⟩
    · have hN : d.L.length = 0 := by rw [← h.len]; exact h0
      exact rapp_newC h hN x hy hbl hb hfit hx (by omega) (by omega) hV
    · have hlen := h.len
      rw [hlen] at h h1
      by_cases hc : posF d.L x < c
      · exact rapp_newA h rfl x hy hbl hb hfit hx (by omega) rfl hV h1 h2 hc hnl
      · have e1 : d.L.length = posF d.L x := by omega
        have e2 : c = posF d.L x := by omega
        rw [e2] at h
        have h' : RdAt S w bd (.slice (some ⟨g, 0, none⟩) (posF d.L x) (posF d.L x)) A d := by
          have h9 := h
          rw [e1] at h9
          exact h9
        exact rapp_newB h' e1 x hy hbl hb hfit hx (by omega) rfl hV
set_option maxHeartbeats 4000000 in
theorem rfuse_any (h : Dz S w v d) (n : Int) (hn : n ≤ 9223372036854775807) :
    Calls Tryd.prog 18 #[v, .int .i64 n] w fun e w' => e = .returned (.tuple #[]) ∧ Dz (Grow S w) w' v (fuseD d n) ∧ Mod S w w' := by
  obtain ⟨bd, vL, A, rfl, h⟩ := h
  have c2 : w.cell? ⟨bd, 2, none⟩ = some (.int .i64 (leftI d)) := h.blk.cell 2
  have z2 : w.frozen? ⟨bd, 2, none⟩ = false := h.blk.frozen 2
  have hSd := h.sd
  have hfin : ∀ x : Int, x = leftI (fuseD d n) → Dz (Grow S w) (w.setCell ⟨bd, 2, none⟩ (.int .i64 x)) (pv bd) (fuseD d n) ∧ Mod S w (w.setCell ⟨bd, 2, none⟩ (.int .i64 x)) := fun x hx => by
    subst hx
    have m := setg_mod w bd 2 (.int .i64 (leftI (fuseD d n)))
    exact ⟨((h.self (fu := decide (0 ≤ n)) (left := n.toNat) m (h.blk.set_ 2 _) (by omega)).rd).grow w, m.mono fun k _ e => e ▸ hSd⟩
  replace hfin := Lib.hid hfin
  have hcase : (n < -1 ∧ leftI (fuseD d n) = -1) ∨ (¬ n < -1 ∧ leftI (fuseD d n) = n) := by
    unfold leftI fuseD
    by_cases h0 : 0 ≤ n
    · refine .inr ⟨by omega, ?_⟩
      simp only [decide_eq_true h0, if_true]
      omega
    · by_cases h1 : n < -1
      · exact .inl ⟨h1, by simp only [decide_eq_false h0, Bool.false_eq_true, if_false]⟩
      · exact .inr ⟨h1, by simp only [decide_eq_false h0, Bool.false_eq_true, if_false]; omega⟩
  clear h
  have hb9 : n < -1 ∨ ¬ n < -1 := by omega
  go_enter Tryd.func18, Tryd.ntmps18
  rcases hcase with ⟨h1, h2⟩ | ⟨h1, h2⟩
  all_goals
    go_wp2_with fail
    all_goals
      go_end0
      exact ⟨rfl, hfin.out _ (by omega)⟩
set_option maxHeartbeats 4000000 in
theorem rread_any (h : Dz S w v d) (x : List UInt8) :
    Calls Tryd.prog 25 #[v, sv x] w fun e w' => ∃ u, e = .returned (.tuple #[u, ev (codeR (readD d x))]) ∧ Own w' 5 u (((readD d x).getD []).map bv) ∧ Fresh w.heap.size u ∧ Ext w w' := by
  obtain ⟨bd, vL, A, rfl, h⟩ := h
  have hcs := spot_any h x
  unfold readD
  cases hx : getF d.L x with
  | none =>
    rw [hx] at hcs
    simp only [Option.isSome_none] at hcs
    clear h hx
    generalize posF d.L x = n at *
    go_enter Tryd.func25, Tryd.ntmps25
    go_wp2_with fail
    refine hcs.mono ?_
    rintro e w1 ⟨rfl, x1⟩
    go_wp2_with fail
    go_ret2
    exact ⟨_, rfl, Own.nil _ _, fresh_nil _ _ _, x1⟩
  | some f =>
    obtain ⟨n, vb0, hiA, hn, hA, hvi⟩ := h.found hx
    rw [hx, ← hn] at hcs
    simp only [Option.isSome_some] at hcs
    have hlen := h.len
    have hbl := len_of_mem h.rise (getF_mem hx)
    have hroom := h.room
    have hmost := h.most
    obtain ⟨ad, c, rfl, p1, p2, p3⟩ := h.at_
    obtain ⟨p, rfl⟩ := p3 (by omega)
    clear hx hn p3
    obtain ⟨B, cb, rfl, e1, e2, e3, e4⟩ := hvi.open_
    have hat := fun (w' : World) (x1 : Ext w w') => (h.row.ext x1).at3 (i := n) hiA
    rw [hA] at hat
    have hbd : ∀ {wx : World}, Ext w wx → wx.cell? ⟨bd, 1, none⟩ = some (.slice (some p) d.L.length c) := fun q => (h.mod q (fun _ _ _ h => h)).blk.cell 1
    have hi0 : (0 : Int) ≤ (n : Int) := by omega
    have hi1 : (n : Int) < (d.L.length : Int) := by omega
    clear h e4
    go_enter Tryd.func25, Tryd.ntmps25
    go_wp2_with fail
    refine hcs.mono ?_
    rintro e w1 ⟨rfl, x1⟩
    clear hcs
    have qE : Ext w1 (w1.alloc (.cells #[] 5)) := (Mod.refl _ _).alloc _
    have dE : (w1.alloc (.cells #[] 5)).cell? ⟨bd, 1, none⟩ = some (.slice (some p) d.L.length c) := hbd (ext_trans x1 qE)
    have tE : (w1.alloc (.cells #[] 5)).cell? ⟨(p.add (n * 3)).block, (p.add (n * 3)).off + 1, none⟩ = some (.slice B f.b.length cb) := (hat _ (ext_trans x1 qE)).2.2.2.1
    have oE := Own.empty w1 5
    have fE : Fresh w1.heap.size (.slice (some ⟨w1.heap.size, 0, none⟩) 0 0) := fresh_new (Nat.le_refl _)
    have rE := hvi.mod (ext_trans x1 qE) (fun _ _ _ h => h)
    have n1 : (([] : List Value).length + (f.b.map bv).length) * 1 ≤ 140737488355328 := by rw [List.length_map, List.length_nil]; omega
    have hz := x1.size
    clear hat hbd
    go_wp2_with (first
      | ((with_reducible show wpList _ _ _ (⟨some 25, _, _, _, _, _⟩ :: _) _ _); refine wp_app tyB oE rE (bv_one _) rfl (.tmp 16) (.tmp 24) rfl rfl rfl n1 ?_; intro v4 w4 k1 k2 k3; have q1 := ext_app0 qE fE k2; have f1 := k3.fresh fE qE.size))
    go_ret2
    exact ⟨_, rfl, by simpa using k1, f1.mono hz, ext_trans x1 q1⟩
end
end Go.Proofs.YtblfhonfjljndaaDoor
namespace Go.Proofs.YtblfhonfjljndaaDoor
open Go.RowKit Go.Maps Go.WideMaps
set_option maxRecDepth 100000

section
variable {S T F V : Nat → Prop} {w w' : World} {bd : Nat} {vL v y : Value} {A : List (Fi × Value)} {d : Ds} {b : List UInt8}
set_option maxHeartbeats 4000000 in
theorem rlist_any (h : Dz S w v d) :
    Calls Tryd.prog 21 #[v] w fun e w' => ∃ u, e = .returned u ∧ OwnT w' u (nms d.L) ∧ Fresh w.heap.size u ∧ Ext w w' := by
  obtain ⟨bd, vL, A, rfl, h⟩ := h
  have hlen := h.len
  have hfew := h.few
  obtain ⟨ad, c, rfl, p1, p2, p3⟩ := h.at_
  have hbd : ∀ {wx : World}, Ext w wx → wx.cell? ⟨bd, 1, none⟩ = some (.slice ad d.L.length c) := fun q => (h.mod q (fun _ _ _ h => h)).blk.cell 1
  have hnl : (nms d.L).length = d.L.length := by simp [nms]
  have hat : ∀ {wx : World}, Ext w wx → ∀ k (hk : k < d.L.length), ∃ p, ad = some p ∧ wx.cell? (p.add (k * 3)) = some (sv (d.L[k]).name) := fun {wx} q k hk => by
    obtain ⟨p, rfl⟩ := p3 (by omega)
    have hk' : k < A.length := by omega
    obtain ⟨_, _, t3, _⟩ := (h.row.ext q).at3 (i := k) hk'
    rw [h.fst hk'] at t3
    exact ⟨p, rfl, t3⟩
  clear h
  go_enter Tryd.func21, Tryd.ntmps21
  go_wp2_with fail
  go_loopw [3, 4] (fun u i wr => ∃ k : Nat, k ≤ d.L.length ∧ i = .int .i64 k ∧ OwnT wr u ((nms d.L).take k) ∧ Fresh w.heap.size u ∧ Ext w wr) (fun _ i _ => d.L.length - (intOf i).toNat)
  case atStart => exact ⟨0, Nat.zero_le _, rfl, Own.nil _ _, fresh_nil _ _ _, Mod.refl _ _⟩
  case round =>
    obtain ⟨k, hk, rfl, ho, hf, hx⟩ := hrel
    have d1 := hbd hx
    by_cases hlt : k < d.L.length
    · have hbl : decide ((k : Int) < (d.L.length : Int)) = true := dtrue (by omega)
      obtain ⟨p, rfl, hc⟩ := hat hx k hlt
      have hi0 : (0 : Int) ≤ (k : Int) := by omega
      have hi1 : (k : Int) < (d.L.length : Int) := by omega
      have hsn : Hid ((nms d.L).take k ++ [(d.L[k]).name] = (nms d.L).take (k + 1)) := Lib.hid (by
        rw [List.take_succ_eq_append_getElem (by rw [hnl]; exact hlt)]
        simp [nms])
      have htl : ((nms d.L).take k).length ≤ 4096 := by rw [List.length_take]; omega
      obtain ⟨q, e⟩ := ho.shape
      obtain ⟨c8, rfl⟩ := e
      generalize (d.L[k]).name = x at *
      clear hat hbd p3
      go_wp2_with ((with_reducible show wpList _ _ _ (⟨some 24, _, _, _, _, _⟩ :: _) _ _); refine wp_appT (x := x) ho (by omega) rfl _ _ rfl rfl rfl ?_; intro v6 w6 o6 m6 n6)
      exact ⟨⟨k + 1, by omega, by go_num, by rw [← hsn.out]; exact o6, n6.fresh hf hx.size, ext_app0 hx hf m6⟩, by simp [intOf] <;> omega⟩
    · have hbl : decide ((k : Int) < (d.L.length : Int)) = false := dfalse (by omega)
      have e9 : (nms d.L).take k = nms d.L := List.take_of_length_le (by omega)
      rw [e9] at ho
      clear hat hbd p3
      go_wp2_with fail
      go_ret
      exact ⟨_, rfl, ho, hf, hx⟩
set_option maxHeartbeats 4000000 in
theorem rnew_any {w : World} (room : Int) (h0 : 0 ≤ room) (h1 : room ≤ 1073741824) :
    Calls Tryd.prog 7 #[.int .i64 room] w fun e w' => ∃ bd, e = .returned (.tuple #[pv bd, ev 0]) ∧ Dz (fun k => w.heap.size ≤ k) w' (pv bd) (newD room) ∧ Ext w w' := by
  have hb1 : decide (room < 0) = false := dfalse (by omega)
  have hb2 : decide (1073741824 < room) = false := dfalse (by omega)
  have hfin : RdAt (fun k => w.heap.size ≤ k) (w.alloc (.cells #[.int .i64 room, .slice none 0 0, .int .i64 (-1)] 58)) w.heap.size (.slice none 0 0) [] (newD room) := by
    refine ⟨Nat.le_refl _, ?_, OwnK.nil _ _ _, (fun k hk => by cases hk), rfl, (fun a ha => by cases ha), List.Pairwise.nil, (fun f hf => by cases hf), by simp [newD, sumB], by simp [newD]; omega, by simp [newD], by simp [newD]⟩
    have : rcells (newD room) (.slice none 0 0) = #[.int .i64 room, .slice none 0 0, .int .i64 (-1)] := by
      unfold rcells leftI newD
      simp only [Bool.false_eq_true, if_false]
      rw [show ((room.toNat : Nat) : Int) = room by omega]
    rw [this]
    exact Blk.new _ _ _
  go_enter Tryd.func7, Tryd.ntmps7
  go_wp2_with fail
  go_ret2
  exact ⟨_, rfl, hfin.rd, (Mod.refl _ _).alloc _⟩
end
end Go.Proofs.YtblfhonfjljndaaDoor
namespace Go.Proofs.YtblfhonfjljndaaDoor
open Go.RowKit Go.Maps Go.WideMaps
set_option maxRecDepth 100000

section
variable {S T F V : Nat → Prop} {w w' : World} {bd : Nat} {vL v y : Value} {A : List (Fi × Value)} {d : Ds} {b : List UInt8}
theorem rem_fin {f : Fi} {x : List UInt8} {w6 : World} {v3 : Value} (h : RdAt S w bd vL A d) (hx : getF d.L x = some f) (q : Ext w w6) (ho : OwnR fiv 3 w6 fileT v3 (([] ++ A.take (posF d.L x)) ++ A.drop (posF d.L x + 1))) (hf : Fresh w.heap.size v3) :
    RdAt (Grow S w) (w6.setCell ⟨bd, 1, none⟩ v3) bd v3 (A.take (posF d.L x) ++ A.drop (posF d.L x + 1)) { d with L := delF d.L x } ∧ Mod (fun k => k = bd) w (w6.setCell ⟨bd, 1, none⟩ v3) := by
  have hlt := h.blk.lt
  have s7 : Mod (fun k => k = bd) w6 (w6.setCell ⟨bd, 1, none⟩ v3) := setg_mod _ _ _ _
  have mm : Mod (fun k => k = bd) w (w6.setCell ⟨bd, 1, none⟩ v3) := (q.mono fun _ _ h => h.elim).then_ s7 fun _ _ h => h
  rw [List.nil_append] at ho
  obtain ⟨s1, s2⟩ := sumB_delF (x := x) h.rise
  have hr := h.room
  have hfw := h.few
  refine ⟨h.renew mm (fun k _ e => e) ((h.mod q (fun _ _ _ h => h)).blk.set_ 1 _) (ho.mod s7 (fun k hk e => by have := hf k hk; omega)) (fun k hk => hf k hk) ?_ (fun a ha => .inl ?_) (rise_delF h.rise x) (fun g hg => h.fl g ((mem_delF g).1 hg).1) (by omega) (by omega), mm⟩
  · rw [delF_at h.rise hx, List.map_append, List.map_take, List.map_drop, h.nm]
  · rcases List.mem_append.1 ha with h1 | h1
    · exact List.mem_of_mem_take h1
    · exact List.mem_of_mem_drop h1
set_option maxHeartbeats 4000000 in
theorem rem_none (h : RdAt S w bd vL A d) (x : List UInt8) (hx : getF d.L x = none) :
    Calls Tryd.prog 64 #[pv bd, sv x] w fun e w' => e = .returned (.tuple #[]) ∧ Ext w w' := by
  have hcs := spot_any h x
  rw [hx] at hcs
  simp only [Option.isSome_none] at hcs
  clear h hx
  generalize posF d.L x = n at *
  go_enter Tryd.func64, Tryd.ntmps64
  go_wp2_with fail
  refine hcs.mono ?_
  rintro e w1 ⟨rfl, x1⟩
  go_wp2_with fail
  go_end0
  exact ⟨rfl, x1⟩
end
end Go.Proofs.YtblfhonfjljndaaDoor
